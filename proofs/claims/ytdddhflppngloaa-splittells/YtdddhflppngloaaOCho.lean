/- Choices of package split. -/
import Derived.Test.YtdddhflppngloaaOCst
import Derived.BigQuiet
import Derived.Laws.OwnMore
import Derived.Shelf.Abstract
import Derived.Shelf.RegionOpen
namespace Go.Proofs.Ytdddhflppngloaa
open Go.RowKit Go.Shelf
set_option maxRecDepth 20000
set_option linter.unusedVariables false
set_option linter.unusedSimpArgs false
attribute [local go_sem] Oper.semAt_some

theorem choO_len {l : List N2} (hS : SmallN l) (s : SpO) : (choO l s).length ≤ 1000002 := by
  rcases Nat.eq_zero_or_pos (openN l s) with h | h
  · rw [choO_none h]; simp
  · obtain ⟨mm, hmm⟩ : ∃ mm, openN l s = mm + 1 := ⟨openN l s - 1, by omega⟩
    obtain ⟨N, hN, hx, _⟩ := open_last hmm
    rw [choO_some (by omega), List.length_append, List.length_map, ends_is (by rw [openO_len, hmm]) hx]
    have h1 := stopsUp_len (l.getD N zeroN).l (l.getD N zeroN).p (fromO s mm) ((l.getD N zeroN).l.length + 1)
    have h2 := hS N hN
    have h3 : (baseO s).length ≤ 1 := by unfold baseO; split <;> simp
    unfold stopsN
    omega
theorem infoSl : (Try.prog.info? 25).map (fun i => (i.zero, i.size, i.bytes)) = some (some (.slice none 0 0), 1, 24) := by kernel_rfl
theorem wplIn_val {P : Program} {l0 m : Nat} {ops : Array Oper} {rest : List Oper} {o : Oper} {a : Act} {w w' : World} {Q : Exit → Act → World → Prop} {v : Value} (hgd : o.guard = none) (hnd : ∀ c, o.op ≠ .defer c) (he : (execOp a.eval o).run P w = .ok (.value v) w')
    (hk : wpListIn (Fence.wide.inRound l0) m P ops Q rest (a.put o.dst v) w') : wpListIn (Fence.wide.inRound l0) m P ops Q (o :: rest) a w :=
  wpListIn_plain hgd fun K hK => by
    have hsem := Oper.semAt_some l0 a.eval o hnd
    refine ⟨fun _ _ => trivial, ?_⟩
    rw [show (Fence.wide.inRound l0).round = some l0 from rfl, hsem, he]
    exact hK _ _ hk
theorem run_buildL (a : Option Addr) (n c : Nat) (x : World) : (Instr.buildSlice 45 1 #[(0, .slice a n c)]).run Try.prog x = .ok (.slice (some ⟨x.heap.size, 0, none⟩) 1 1) (x.alloc (.cells #[.slice a n c] 25)) := by
  simp [go_sem]
theorem build_L (o : Oper) (b : Act) (a : Option Addr) (n c : Nat) (s : Operand) (ho : o.op = .buildSlice 45 1 #[(0, s)]) (hs : b.eval s = .slice a n c) (x : World) :
    (execOp b.eval o).run Try.prog x = .ok (.value (.slice (some ⟨x.heap.size, 0, none⟩) 1 1)) (x.alloc (.cells #[.slice a n c] 25)) := by
  unfold execOp
  simp only [ho, List.map_toArray, List.map_cons, List.map_nil, hs, Sem.run_bind, run_buildL, Result.andThen_ok, Sem.run_pure]
set_option maxRecDepth 100000 in
set_option maxHeartbeats 4000000 in
theorem ochoices_any (a : Option Addr) (cap : Nat) (l : List N2) (s : SpO) (w : World) (hl : l.length ≤ 1000000) (hSm : SmallN l ∧ SmallP l) (hsl : inR s.l) (hN : NotesAt w a l) :
    Calls Try.prog 14 #[.slice a l.length cap, spo s] w fun e w' => ∃ v g, e = .returned v ∧ ListsO w.heap.size g v (choO l s) w' ∧ Below w.heap.size w w' := by
  have hmx : 1000002 < maxLen := by decide
  obtain ⟨i0, hi, hz0, hz1, hz2⟩ := info_parts infoSl
  have ce := oeach_any s a l.length cap
  have hcl := choO_len hSm.1 s
  have B1 := (blk_two w (.cells #[.int .i64 s.n, .int .i64 s.l, .int .i64 s.b, .bool s.f] 24) #[.slice none 0 0] 45).alloc (.cells #[.slice a l.length cap] 22) |>.alloc (.cells #[.int .i64 s.n, .int .i64 s.l, .int .i64 s.b, .bool s.f] 24)
  have B2 := (blk_three w (.cells #[.int .i64 s.n, .int .i64 s.l, .int .i64 s.b, .bool s.f] 24) (.cells #[.slice none 0 0] 45) #[.slice a l.length cap] 22).alloc (.cells #[.int .i64 s.n, .int .i64 s.l, .int .i64 s.b, .bool s.f] 24)
  have B3 := blk_four w (.cells #[.int .i64 s.n, .int .i64 s.l, .int .i64 s.b, .bool s.f] 24) (.cells #[.slice none 0 0] 45) (.cells #[.slice a l.length cap] 22) #[.int .i64 s.n, .int .i64 s.l, .int .i64 s.b, .bool s.f] 24
  have b4 := (tbel3 w (.cells #[.int .i64 s.n, .int .i64 s.l, .int .i64 s.b, .bool s.f] 24) (.cells #[.slice none 0 0] 45) (.cells #[.slice a l.length cap] 22)).alloc (by simp; omega) (.cells #[.int .i64 s.n, .int .i64 s.l, .int .i64 s.b, .bool s.f] 24)
  have hs4 : ((((w.alloc (.cells #[.int .i64 s.n, .int .i64 s.l, .int .i64 s.b, .bool s.f] 24)).alloc (.cells #[.slice none 0 0] 45)).alloc (.cells #[.slice a l.length cap] 22)).alloc (.cells #[.int .i64 s.n, .int .i64 s.l, .int .i64 s.b, .bool s.f] 24)).heap.size = w.heap.size + 4 := by simp
  obtain ⟨s0, s1, s2, s3⟩ := s
  unfold spo at ce ⊢
  dsimp only at ce B1 B2 B3 b4 hs4 hsl ⊢
  refine (callsIn_wide (n := 3)).1 ?_
  refine callsIn_of_wp_marks Try.func14 rfl trivial ?_ rfl
  simp only [Try.ntmps14, List.size_toArray, List.length_cons, List.length_nil, Nat.reduceAdd, Nat.reduceSub, Array.replicate_succ, Array.replicate_zero, List.push_toArray, List.append_toArray, List.nil_append, List.cons_append]
  refine wpIn_wide.2 ?_
  go_wp2_with fail
  refine (ce _).mono ?_
  rintro e w1 ⟨rfl, rfl⟩
  clear ce
  go_wp2_with fail
  generalize (((w.alloc _).alloc _).alloc _).alloc _ = W0 at *
  have hB0 : w.heap.size + 1 < W0.heap.size := by omega
  refine (wpIn_wide (n := 3)).1 ?_
  refine wpIn_rangeFunc_mem rfl (by omega) (gf := 23) (lb := #[.pointer (some ⟨w.heap.size + 1 + 1, 0, none⟩), .pointer (some ⟨w.heap.size + 1 + 1 + 1, 0, none⟩)]) rfl trivial (enters_of Try.func23 (by kernel_rfl) rfl)
    (oeach_mem _ W0.heap.size (w.heap.size + 1 + 1) (w.heap.size + 1 + 1 + 1) (w.heap.size + 1) w a cap l ⟨s0, s1, s2, s3⟩ W0 hl hSm hsl hN ⟨b4, B2, B3, Nat.le_refl _⟩ (by omega) (by omega) (by omega) (by omega) (by omega) (by omega))
    KpO.trans (fun g W k o o' h1 h2 _ _ _ => KpO.put g W k o o' h1 h2) rfl
    (ChoI (w.heap.size + 1) W0) (fun _ _ _ _ => False)
    (fun g pre A B hg h hn => h.near hn (by omega) (by omega))
    (fun g pre => ChoI.bears) (fun c g pre A k o o' h _ _ _ => h) (fun g x v => LayO.bears _ g x v)
    (fun g B hg hlt hb => ⟨hlt, ⟨.slice none 0 0, (hb.block _ (by omega)).trans B1, ⟨[], World.ownsRow_nil _ _ _ _, by simp [Value.ownBlock], fun k hk => absurd hk (Nat.not_lt_zero k)⟩⟩, OBut.of hb⟩) ?a1 ?assign ?body ?done ?stop
  case assign =>
    intro l0 v W K hK
    gi_wp2
    exact hK
  case body =>
    intro l0 g pre x v W hg hI hlay hlt
    obtain ⟨hgW, ⟨v0, hv, vals, h1, h2, h3⟩, hW⟩ := hI
    have hlen : vals.length = pre.length := by have := h1.1; omega
    obtain ⟨a', cap', rfl, hc1, hc2, hE, hx⟩ := hlay
    obtain ⟨va, vc, rfl, _, _⟩ := own_form h1
    have hbl := hv.lt
    have hvc := hv.cell
    have cc := Lib.hid fun z (hz : Old W z) => oclone_any a' cap' x z hx (hE.carry hz)
    have CE := Lib.hid fun x (hx : Old W x) => (hx.cell (p := ⟨w.heap.size + 1, 0, none⟩) hbl).trans hvc
    have HV := Lib.hid (And.intro hv (And.intro h1 (And.intro h2 (And.intro h3 (And.intro hlen hW)))))
    have HZ := Lib.hid (And.intro hi (And.intro hz0 (And.intro hz1 hz2)))
    have HWs := hW.size
    clear hv h1 h2 h3 hlen hW hvc hE hi hz0 hz1 hz2 B1 B2 B3 b4 hN hSm
    gi_wp2_with fail
    (refine wpIn_region_plan 4 [(0, true), (1, true), (2, false), (3, false)] (by kernel_rfl) (by kernel_rfl) (by kernel_rfl) ?_; simp only [pick, List.getElem?_cons_succ, List.getElem?_cons_zero, List.drop_succ_cons, List.drop_zero])
    repeat (first | (apply TextV.sees (hw := by kernel_rfl); (focus (intro x hx K hK; have hc := CE.out x hx; go_simp; exact hK)); simp only [Act.put, List.getElem_toArray, List.getElem_cons_succ, List.getElem_cons_zero, List.setIfInBounds_toArray, List.set_cons_zero, List.set_cons_succ]) | (apply TextV.idle; (focus (intro x hx K hK; go_simp; exact hK)); simp only [Act.put, List.getElem_toArray, List.getElem_cons_succ, List.getElem_cons_zero, List.setIfInBounds_toArray, List.set_cons_zero, List.set_cons_succ]))
    (refine TextV.loud (V := fun c z => OwnP W.heap.size x c z) (fun y hy => (cc.out y hy).mono fun e u ⟨c, h1, h2, h3⟩ => ⟨c, h1, h2.mono hy.size, h3⟩) (by kernel_rfl) (fun _ => by kernel_rfl) (fun c z hcz hz => ?_); simp only [Act.put, List.getElem_toArray, List.getElem_cons_succ, List.getElem_cons_zero, List.setIfInBounds_toArray, List.set_cons_zero, List.set_cons_succ])
    obtain ⟨ca, cp, rfl, _, _, _⟩ := hcz.form
    (refine TextV.loudv (V := fun u z2 => ∃ y, Old z y ∧ u = .slice (some ⟨y.heap.size, 0, none⟩) 1 1 ∧ z2 = y.alloc (.cells #[.slice ca x.length cp] 25)) (fun y hy => ⟨_, _, build_L _ _ ca x.length cp (.tmp 13) rfl rfl y, ⟨y, hy, rfl, rfl⟩, tbel1 y _⟩) (by kernel_rfl) (fun u z2 huz hz2' => ?_); simp only [Act.put, List.getElem_toArray, List.getElem_cons_succ, List.getElem_cons_zero, List.setIfInBounds_toArray, List.set_cons_zero, List.set_cons_succ])
    obtain ⟨y, hy, rfl, rfl⟩ := huz
    intro Z hZ
    have OWZ : Old W Z := Old.old (Old.old (Old.old hz hy) (tbel1 y _)) hZ
    have hcZ : OwnP W.heap.size x (.slice ca x.length cp) Z := OwnP.old (OwnP.old (OwnP.old hcz hy) (tbel1 y _)) hZ
    have hcel := (blk_new y #[.slice ca x.length cp] 25).old hZ
    have hZs := OWZ.size
    obtain ⟨v', w4, hrun, hown', hgr, _, hob⟩ := run_append_own_at (P := Try.prog) Z W0.heap.size 45 45 25 i0 (.slice none 0 0) 1 24 Try.underlying45 HZ.out.1 HZ.out.2.1 HZ.out.2.2.1 HZ.out.2.2.2 rfl (by decide) (.slice va pre.length vc) pre.length vals (own_old HV.out.2.1 OWZ) ⟨y.heap.size, 0, none⟩ 1 1 [.slice ca x.length cp] rfl (fun j t hj => by
      rw [Go.WideShapes.add_plain, hcel.cell, Nat.zero_add, List.getElem?_toArray]
      exact hj) (by simp [Value.oneCell']) (by omega) (by omega) (by omega)
    have hst := ChoI.step (x := x) HV.out.2.2.2.2.2 hgW hB0 (by omega) HV.out.1 HV.out.2.1 HV.out.2.2.1 HV.out.2.2.2.1 HV.out.2.2.2.2.1 OWZ hcZ hown' hgr hob
    obtain ⟨a2, c2, rfl, _, _⟩ := own_form hown'
    have q1 := hst.1.cell
    have q2 := hst.1.frozen
    have HST := Lib.hid hst.2
    refine wplIn_val rfl (fun c h => by cases h) (exec_append (.tmp 11) (.tmp 14) rfl rfl rfl hrun) ?_
    clear hst hown' hgr hob hrun hcel hcZ OWZ hZ hy hz hcz cc CE HV HZ hz2'
    simp only [Act.put, List.getElem_toArray, List.getElem_cons_succ, List.getElem_cons_zero, List.setIfInBounds_toArray, List.set_cons_zero, List.set_cons_succ]
    gi_wp2
    exact HST.out
  case done =>
    rintro D g xs W hD rfl hI hK
    obtain ⟨hgW, ⟨v, hv, hls⟩, hW⟩ := hI
    have hc := hv.cell
    obtain ⟨va, vc, rfl, _, _⟩ : ∃ va vc, v = .slice va (choO l ⟨s0, s1, s2, s3⟩).length vc ∧ (choO l ⟨s0, s1, s2, s3⟩).length ≤ vc ∧ vc ≤ maxLen := by
      obtain ⟨vals, h1, _⟩ := hls
      exact own_form h1
    have HLS := Lib.hid hls
    have HWB := Lib.hid (b4.trans (hW.below (m := w.heap.size) (by omega) (by omega)))
    have HK := Lib.hid hK
    clear hls hW hv hgW b4 B1 B2 B3 hN hSm
    have fin : Hid (ListsO w.heap.size g (.slice va (choO l ⟨s0, s1, s2, s3⟩).length vc) (choO l ⟨s0, s1, s2, s3⟩) (W.putObj D (.deferred none))) := Lib.hid ((HLS.out.mono (show w.heap.size ≤ W0.heap.size by omega)).put _ HK.out rfl)
    generalize (choO l ⟨s0, s1, s2, s3⟩).length = n at *
    go_wp2
    refine ⟨by simp, .inl ⟨_, _, rfl, run_takeDeferred HK.out, ?_⟩⟩
    refine ⟨.slice va n vc, results_tmp (t := 4) rfl _ _ _, _, g, rfl, fin.out, ?_⟩
    exact HWB.out.trans (belowK_b (w := w) (Nat.le_refl _) _ D _ _ (by omega) HK.out rfl rfl)
  case stop =>
    rintro D g c pre W _ _ h _
    exact h.elim
end Go.Proofs.Ytdddhflppngloaa
