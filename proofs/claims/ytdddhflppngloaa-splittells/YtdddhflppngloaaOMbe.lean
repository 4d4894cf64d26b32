/- May of package split. -/
import Derived.Test.YtdddhflppngloaaOCho
namespace Go.Proofs.Ytdddhflppngloaa
open Go.RowKit
set_option maxRecDepth 20000
set_option linter.unusedVariables false
set_option linter.unusedSimpArgs false
attribute [local go_sem] Oper.semAt_some

/-- What May keeps while it looks: none of those that came is p. -/
structure MayI (b : Nat) (W0 : World) (p : List PcO) (g : Nat) (cs : List (List PcO)) (W : World) : Prop where
  hg : g < W.heap.size
  res : Boxed W b 4 (.bool false)
  but : OBut W0.heap.size b W0 W
  none : ∀ x ∈ cs, x ≠ p
/-- How May leaves the loop: it has seen p. -/
structure MayX (b : Nat) (W0 : World) (p : List PcO) (c : Code) (g : Nat) (cs : List (List PcO)) (W : World) : Prop where
  ret : c = .ret
  res : Boxed W b 4 (.bool true)
  but : OBut W0.heap.size b W0 W
  some : p ∈ cs
theorem MayI.near {b g : Nat} {W0 A C : World} {p : List PcO} {cs : List (List PcO)} (h : MayI b W0 p g cs A) (hn : Near (fun k => k = g) A C) (hb : b < W0.heap.size) (hgb : W0.heap.size ≤ g) : MayI b W0 p g cs C :=
  ⟨Nat.lt_of_lt_of_le h.hg hn.size, h.res.kept (near_grown hn) (fun e => by cases e; omega), h.but.trans ⟨hn.os, hn.tape, hn.output, hn.size, fun k hk _ => hn.block k (by have := h.but.size; omega) (by omega)⟩, h.none⟩
theorem box_put {A : World} {b k : Nat} {t : TypeId} {v : Value} {o : Obj} (h : Boxed A b t v) (o' : Obj) (hk : A.heap[k]? = some o) (ho : o.isCells = false) : Boxed (A.putObj k o') b t v := by
  have hne : b ≠ k := by
    rintro rfl
    rw [show A.heap[b]? = _ from h] at hk
    cases hk
    cases ho
  exact (World.putObj_heap_other hne).trans h
theorem MayI.bears {b g : Nat} {W0 : World} {p : List PcO} {cs : List (List PcO)} : Bears W0.heap.size (MayI b W0 p g cs) := fun A k o o' h hk hko ho => ⟨by simpa [World.putObj] using h.hg, box_put h.res o' hko ho, h.but.trans (OBut.put A k o' hk), h.none⟩
theorem MayX.bears {b g : Nat} {W0 : World} {p : List PcO} {c : Code} {cs : List (List PcO)} : Bears W0.heap.size (MayX b W0 p c g cs) := fun A k o o' h hk hko ho => ⟨h.ret, box_put h.res o' hko ho, h.but.trans (OBut.put A k o' hk), h.some⟩
set_option maxRecDepth 100000 in
set_option maxHeartbeats 4000000 in
theorem omay_any (a : Option Addr) (cap : Nat) (l : List N2) (s : SpO) (pa : Option Addr) (pc : Nat) (p : List PcO) (w : World) (hl : l.length ≤ 1000000) (hSm : SmallN l ∧ SmallP l) (hsl : inR s.l) (hp : p.length ≤ 1000000) (hN : NotesAt w a l) (hP : Els 3 encP w pa p.length fun k => p.getD k zPc) :
    Calls Try.prog 15 #[.slice a l.length cap, spo s, .slice pa p.length pc] w fun e w' => e = .returned (.bool (decide (p ∈ choO l s))) ∧ Below w.heap.size w w' := by
  have ce := oeach_any s a l.length cap
  have b3 := tbel3 w (.cells #[.int .i64 s.n, .int .i64 s.l, .int .i64 s.b, .bool s.f] 24) (.cells #[.slice pa p.length pc] 25) (.cells #[.bool false] 4)
  have B1 := (blk_two w (.cells #[.int .i64 s.n, .int .i64 s.l, .int .i64 s.b, .bool s.f] 24) #[.slice pa p.length pc] 25).alloc (.cells #[.bool false] 4)
  have B2 := blk_three w (.cells #[.int .i64 s.n, .int .i64 s.l, .int .i64 s.b, .bool s.f] 24) (.cells #[.slice pa p.length pc] 25) #[.bool false] 4
  have hs3 : (((w.alloc (.cells #[.int .i64 s.n, .int .i64 s.l, .int .i64 s.b, .bool s.f] 24)).alloc (.cells #[.slice pa p.length pc] 25)).alloc (.cells #[.bool false] 4)).heap.size = w.heap.size + 1 + 1 + 1 := by simp
  obtain ⟨s0, s1, s2, s3⟩ := s
  unfold spo at ce ⊢
  dsimp only at ce B1 B2 b3 hs3 hsl ⊢
  refine (callsIn_wide (n := 3)).1 ?_
  refine callsIn_of_wp_marks Try.func15 rfl trivial ?_ rfl
  simp only [Try.ntmps15, List.size_toArray, List.length_cons, List.length_nil, Nat.reduceAdd, Nat.reduceSub, Array.replicate_succ, Array.replicate_zero, List.push_toArray, List.append_toArray, List.nil_append, List.cons_append]
  refine wpIn_wide.2 ?_
  go_wp2_with fail
  generalize ((w.alloc _).alloc _).alloc _ = V at *
  refine (ce _).mono ?_
  rintro e w1 ⟨rfl, rfl⟩
  clear ce
  have B4 := (blk_new V #[.slice a l.length cap] 22).alloc (.cells #[.int .i64 s0, .int .i64 s1, .int .i64 s2, .bool s3] 24)
  have B5 := blk_two V (.cells #[.slice a l.length cap] 22) #[.int .i64 s0, .int .i64 s1, .int .i64 s2, .bool s3] 24
  have b5 := tstep b3 (tbel2 V (.cells #[.slice a l.length cap] 22) (.cells #[.int .i64 s0, .int .i64 s1, .int .i64 s2, .bool s3] 24)) b3.size
  have hs5 : ((V.alloc (.cells #[.slice a l.length cap] 22)).alloc (.cells #[.int .i64 s0, .int .i64 s1, .int .i64 s2, .bool s3] 24)).heap.size = V.heap.size + 2 := by simp
  rw [hs3] at B4 B5 hs5
  replace B1 := (B1.alloc (.cells #[.slice a l.length cap] 22)).alloc (.cells #[.int .i64 s0, .int .i64 s1, .int .i64 s2, .bool s3] 24)
  replace B2 := (B2.alloc (.cells #[.slice a l.length cap] 22)).alloc (.cells #[.int .i64 s0, .int .i64 s1, .int .i64 s2, .bool s3] 24)
  go_wp2_with fail
  generalize (V.alloc _).alloc _ = W0 at *
  have hB0 : w.heap.size + 1 + 1 < W0.heap.size := by omega
  have hsA : w.heap.size + 1 + 1 + 1 + 2 ≤ W0.heap.size := by omega
  clear hs5 hs3
  refine (wpIn_wide (n := 3)).1 ?_
  refine wpIn_rangeFunc_mem rfl (by omega) (gf := 23) (lb := #[.pointer (some ⟨w.heap.size + 1 + 1 + 1, 0, none⟩), .pointer (some ⟨w.heap.size + 1 + 1 + 1 + 1, 0, none⟩)]) rfl trivial (enters_of Try.func23 (by kernel_rfl) rfl)
    (oeach_mem _ W0.heap.size (w.heap.size + 1 + 1 + 1) (w.heap.size + 1 + 1 + 1 + 1) (w.heap.size + 1 + 1) w a cap l ⟨s0, s1, s2, s3⟩ W0 hl hSm hsl hN ⟨b5, B4, B5, Nat.le_refl _⟩ (by omega) (by omega) (by omega) (by omega) (by omega) (by omega))
    KpO.trans (fun g W k o o' h1 h2 _ _ _ => KpO.put g W k o o' h1 h2) rfl
    (MayI (w.heap.size + 1 + 1) W0 p) (MayX (w.heap.size + 1 + 1) W0 p)
    (fun g pre A B hg h hn => h.near hn (by omega) (by omega))
    (fun g pre => MayI.bears) (fun c g pre => MayX.bears) (fun g x v => LayO.bears _ g x v)
    (fun g B hg hlt hb => ⟨hlt, (hb.block _ (by omega)).trans B2, OBut.of hb, fun x hx => by cases hx⟩) ?a1 ?assign ?body ?done ?stop
  case assign =>
    intro l0 v W K hK
    gi_wp2
    exact hK
  case body =>
    intro l0 g pre x v W hg hI hlay hlt
    obtain ⟨hgW, hr, hW, hno⟩ := hI
    obtain ⟨a', cap', rfl, hc1, hc2, hE, hx⟩ := hlay
    have q1 : W.cell? ⟨w.heap.size + 1, 0, none⟩ = some (.slice pa p.length pc) := Boxed.cell (t := 25) ((hW.block _ (by omega) (by omega)).trans B1)
    have bW := b5.trans (hW.below (m := w.heap.size) (by omega) (by omega))
    have cs := osame_any a' pa cap' pc x p W hx hp hE (hP.carry bW)
    have HW := Lib.hid hW
    have HR := Lib.hid hr
    have HNO := Lib.hid hno
    have hWs := hW.size
    clear hW hr hno hE bW
    by_cases hxp : x = p
    · rw [decide_eq_true hxp] at cs
      have HX : Hid (p ∈ pre ++ [x]) := Lib.hid (by rw [hxp]; simp)
      clear hxp
      gi_wp2_with fail
      refine ⟨trivial, ?_⟩
      refine (CallsIn.inRound l0 (callsIn_wide.2 cs)).mono ?_
      rintro e w2 ⟨rfl, b2⟩
      have r2 : Boxed w2 (w.heap.size + 1 + 1) 4 (.bool false) := (b2.block _ (by omega)).trans HR.out
      have r2c := r2.cell
      have r2f := r2.frozen
      have HR2 := Lib.hid r2
      have HB2 := Lib.hid b2
      clear cs r2 b2 q1
      gi_wp2
      refine ⟨?_, rfl, Boxed.set _ HR2.out, (HW.out.trans ⟨HB2.out.os, HB2.out.tape, HB2.out.output, HB2.out.size, fun k hk _ => HB2.out.block k (by omega)⟩).trans ?_, HX.out⟩
      · have k1 : KeepsFrom W0.heap.size W w2 := ⟨HB2.out.size, fun k o _ hk _ => (HB2.out.block k (Array.getElem?_eq_some_iff.1 hk).1).trans hk⟩
        exact k1.trans ((KeepsOthers.setCell w2 _ _).from _)
      · have hset := grownBy_setCell' w2 (w.heap.size + 1 + 1) (.bool true)
        exact ⟨hset.os, hset.tape, hset.output, hset.size, fun k hk hkb => hset.block k (by have := HB2.out.size; omega) fun e => by cases e; exact hkb rfl⟩
    · rw [decide_eq_false hxp] at cs
      have HX : Hid (∀ y ∈ pre ++ [x], y ≠ p) := Lib.hid fun y hy => by
        rcases List.mem_append.1 hy with h | h
        · exact HNO.out y h
        · rw [List.mem_singleton.1 h]; exact hxp
      clear hxp
      gi_wp2_with fail
      refine ⟨trivial, ?_⟩
      refine (CallsIn.inRound l0 (callsIn_wide.2 cs)).mono ?_
      rintro e w2 ⟨rfl, b2⟩
      have HB2 := Lib.hid b2
      clear cs b2 q1
      gi_wp2
      have OB : OBut W0.heap.size (w.heap.size + 1 + 1) W w2 := ⟨HB2.out.os, HB2.out.tape, HB2.out.output, HB2.out.size, fun k hk _ => HB2.out.block k (by omega)⟩
      exact ⟨⟨HB2.out.size, fun k o _ hk _ => (HB2.out.block k (Array.getElem?_eq_some_iff.1 hk).1).trans hk⟩, ⟨OB, HB2.out.block g hgW⟩, Nat.lt_of_lt_of_le hgW HB2.out.size, (HB2.out.block _ (by omega)).trans HR.out, HW.out.trans OB, HX.out⟩
  case done =>
    rintro D g xs W hD rfl hI hK
    obtain ⟨hgW, hr, hW, hno⟩ := hI
    have hDl : D < W.heap.size := (Array.getElem?_eq_some_iff.1 hK).1
    have HNO : Hid (decide (p ∈ choO l ⟨s0, s1, s2, s3⟩) = false) := Lib.hid (decide_eq_false fun h => hno p h rfl)
    have HWB := Lib.hid (b5.trans (hW.below (m := w.heap.size) (by omega) (by omega)))
    have HR := Lib.hid hr
    have HK := Lib.hid hK
    have rc := hr.cell
    have rf := hr.frozen
    clear hno hW hr hK hgW
    go_wp2
    have hset := grownBy_setCell' W (w.heap.size + 1 + 1) (.bool false)
    have HK2 : (W.setCell ⟨w.heap.size + 1 + 1, 0, none⟩ (.bool false)).heap[D]? = some (.deferred (some [])) := (hset.block D hDl fun e => by cases e; omega).trans HK.out
    have RB := (box_put (Boxed.set (.bool false) HR.out) (.deferred none) HK2 rfl).cell
    refine ⟨by simp, .inl ⟨_, _, rfl, run_takeDeferred HK2, ?_⟩⟩
    refine ⟨.bool false, by simp [results, Try.results15, go_sem, RB], by rw [HNO.out], ?_⟩
    exact (HWB.out.setCell (p := ⟨w.heap.size + 1 + 1, 0, none⟩) (by simp; omega) _).trans (belowK_b (w := w) (Nat.le_refl _) _ D _ _ (by omega) HK2 rfl rfl)
  case stop =>
    rintro D g c pre W hD ⟨_, r, hr⟩ hX hK
    obtain ⟨rfl, hres, hW, hin⟩ := hX
    have hDl : D < W.heap.size := (Array.getElem?_eq_some_iff.1 hK).1
    have HNO : Hid (decide (p ∈ choO l ⟨s0, s1, s2, s3⟩) = true) := Lib.hid (decide_eq_true (by rw [hr]; exact List.mem_append_left _ hin))
    have HWB := Lib.hid (b5.trans (hW.below (m := w.heap.size) (by omega) (by omega)))
    have RB := Lib.hid (box_put hres (.deferred none) hK rfl).cell
    have HK := Lib.hid hK
    clear hr hW hres hin hK
    dsimp only
    refine wpIn_wide.2 ?_
    go_wp2
    refine ⟨by simp, .inl ⟨_, _, rfl, run_takeDeferred HK.out, ?_⟩⟩
    have rb := RB.out
    refine ⟨.bool true, by simp [results, Try.results15, go_sem, rb], by rw [HNO.out], ?_⟩
    exact HWB.out.trans (belowK_b (w := w) (Nat.le_refl _) _ D _ _ (by omega) HK.out rfl rfl)
end Go.Proofs.Ytdddhflppngloaa
