/- awake of layer 14. A job that came in. The walks of GridSnaps and GridStays. -/
import Derived.Test.YtllpimhjpfkgpaaJOn
import Derived.Test.YtllpimhjpfkgpaaJSnp
import Derived.Test.YtllpimhjpfkgpaaJCl2
import Derived.Test.YtllpimhjpfkgpaaFMix
import Derived.ProofKit
import Derived.Test.YtllpimhjpfkgpaaJRs2
import Derived.Test.YtllpimhjpfkgpaaJSame
import Derived.Test.YtllpimhjpfkgpaaJRon
namespace Go.Proofs.Ytllpimhjpfkgpaa
open Go.RowKit
set_option maxRecDepth 20000
set_option linter.unusedVariables false
set_option linter.unusedSimpArgs false

def wakeJ : J4 := ⟨⟨0, 0, 0, 20, 14, 6, 0, 0, 0, 0, 0, 0, 0, 0, 0, 0, 0, 0, false⟩, [⟨1, 7, 0, 0, 0, 0, 0⟩, ⟨2, 3, 0, 2, 0, 0, 0⟩], [], [⟨0, 1, 0⟩]⟩
theorem wakeJ_facts : onJ wakeJ = false ∧ onJ (snapJ wakeJ) = true ∧ (snapJ wakeJ).g.high = 18 ∧ (snapJ wakeJ).g.first = 12 ∧ ((snapJ wakeJ).items.getD 0 zeroI).h = 12 ∧ ((snapJ wakeJ).items.getD 1 zeroI).h = 6 ∧ ((snapJ wakeJ).floats.getD 0 zeroF).h = 6 ∧ nearZ 2 6 = 0 := by decide
theorem wakeJ_few : Few wakeJ ∧ Few (snapJ wakeJ) := by
  have e : (snapJ wakeJ).notes = [] := rfl
  refine ⟨⟨by decide, by decide, by decide, fun k => ?_⟩, ⟨by decide, by decide, by decide, fun k => ?_⟩⟩
  · simp [wakeJ, zeroN]
  · rw [e]; simp [zeroN]
theorem wakeJ_in : inJ wakeJ := by
  refine ⟨by unfold inE; decide, fun k => ?_, fun k => ?_⟩
  · rcases Nat.lt_or_ge k 2 with h | h
    · rcases (show k = 0 ∨ k = 1 by omega) with rfl | rfl <;> (unfold inI; decide)
    · rw [getD_none (by exact h)]; exact (zero_in 0).1
  · rcases Nat.lt_or_ge k 1 with h | h
    · obtain rfl : k = 0 := by omega
      unfold inF; decide
    · rw [getD_none (by exact h)]; exact (zero_in 0).2
theorem aw_val {P : Program} {ops : Array Oper} {rest : List Oper} {o : Oper} {a : Act} {w w' : World} {Q : Exit → Act → World → Prop} {v : Value} (hgd : o.guard = none) (he : (execOp a.eval o).run P w = .ok (.value v) w') (hk : wpList P ops Q rest (a.put o.dst v) w') : wpList P ops Q (o :: rest) a w :=
  wpList_plain hgd fun K hK => by
    unfold Oper.wp
    rw [he]
    exact hK _ _ hk
theorem aw_build {ops : Array Oper} {rest : List Oper} {o : Oper} {a : Act} {w : World} {Q : Exit → Act → World → Prop} (hgd : o.guard = none) (t : TypeId) (parts : Array (Nat × Operand)) (ho : o.op = .build t parts) (cells : Array Value)
    (hb : Try.prog.built t (parts.map fun (i, x) => (i, a.eval x)).toList = some cells) (hk : wpList Try.prog ops Q rest (a.put o.dst (.agg cells)) w) : wpList Try.prog ops Q (o :: rest) a w :=
  aw_val hgd (by unfold execOp; simp only [ho, Sem.run_bind, run_build w t _ cells hb, Result.andThen_ok]; rfl) hk
theorem run_buildI2 (x0 x1 x2 x3 x4 x5 x6 y0 y1 y2 y3 y4 y5 y6 : Int) (x : World) : (Instr.buildSlice 25 2 #[(0, .agg #[.int .i64 x0, .int .i64 x1, .int .i64 x2, .int .i64 x3, .int .i64 x4, .int .i64 x5, .int .i64 x6]), (1, .agg #[.int .i64 y0, .int .i64 y1, .int .i64 y2, .int .i64 y3, .int .i64 y4, .int .i64 y5, .int .i64 y6])]).run Try.prog x = .ok (.slice (some ⟨x.heap.size, 0, none⟩) 2 2) (x.alloc (.cells #[.int .i64 x0, .int .i64 x1, .int .i64 x2, .int .i64 x3, .int .i64 x4, .int .i64 x5, .int .i64 x6, .int .i64 y0, .int .i64 y1, .int .i64 y2, .int .i64 y3, .int .i64 y4, .int .i64 y5, .int .i64 y6] 39)) := by
  simp [go_sem]
theorem aw_buildF (c h p : Int) (x : World) : (Instr.buildSlice 27 1 #[(0, .agg #[.int .i64 c, .int .i64 h, .int .i64 p])]).run Try.prog x = .ok (.slice (some ⟨x.heap.size, 0, none⟩) 1 1) (x.alloc (.cells #[.int .i64 c, .int .i64 h, .int .i64 p] 41)) := by
  simp [go_sem]
/-- The cells of the two items. -/
def wakeI : Array Value := #[.int .i64 1, .int .i64 7, .int .i64 0, .int .i64 0, .int .i64 0, .int .i64 0, .int .i64 0, .int .i64 2, .int .i64 3, .int .i64 0, .int .i64 2, .int .i64 0, .int .i64 0, .int .i64 0]
def wakeF : Array Value := #[.int .i64 0, .int .i64 1, .int .i64 0]
theorem exec_buildI (o : Oper) (a : Act) (s r : Operand) (ho : o.op = .buildSlice 25 2 #[(0, s), (1, r)]) (hs : a.eval s = .agg #[.int .i64 1, .int .i64 7, .int .i64 0, .int .i64 0, .int .i64 0, .int .i64 0, .int .i64 0]) (hr : a.eval r = .agg #[.int .i64 2, .int .i64 3, .int .i64 0, .int .i64 2, .int .i64 0, .int .i64 0, .int .i64 0]) (x : World) :
    (execOp a.eval o).run Try.prog x = .ok (.value (.slice (some ⟨x.heap.size, 0, none⟩) 2 2)) (x.alloc (.cells wakeI 39)) := by
  unfold execOp
  simp only [ho, List.map_toArray, List.map_cons, List.map_nil, hs, hr, Sem.run_bind, run_buildI2, Result.andThen_ok, Sem.run_pure]
  rfl
theorem exec_buildF (o : Oper) (a : Act) (s : Operand) (ho : o.op = .buildSlice 27 1 #[(0, s)]) (hs : a.eval s = .agg #[.int .i64 0, .int .i64 1, .int .i64 0]) (x : World) :
    (execOp a.eval o).run Try.prog x = .ok (.value (.slice (some ⟨x.heap.size, 0, none⟩) 1 1)) (x.alloc (.cells wakeF 41)) := by
  unfold execOp
  simp only [ho, List.map_toArray, List.map_cons, List.map_nil, hs, Sem.run_bind, aw_buildF, Result.andThen_ok, Sem.run_pure]
  rfl
def wakeS (w : World) : S3 := ⟨some ⟨w.heap.size, 0, none⟩, 2, none, 0, some ⟨w.heap.size + 1, 0, none⟩, 1⟩
theorem wake_lists (w : World) (o : Obj) : Lists (((w.alloc (.cells wakeI 39)).alloc (.cells wakeF 41)).alloc o) wakeJ (wakeS w) := by
  have B1 := ((blk_new w wakeI 39).alloc (.cells wakeF 41)).alloc o
  have B2 := (blk_two w (.cells wakeI 39) wakeF 41).alloc o
  refine ⟨wakeJ_in, fun k j hk hj => ?_, ⟨fun _ => zeroH, ?_, fun k hk => absurd hk (Nat.not_lt_zero k)⟩, fun k j hk hj => ?_, (show 2 ≤ 2 ∧ 2 ≤ maxLen by decide), (show 0 ≤ 0 ∧ 0 ≤ maxLen by decide), (show 1 ≤ 1 ∧ 1 ≤ maxLen by decide)⟩
  · refine ⟨w.heap.size, 0, rfl, B1.lt, ?_⟩
    rw [B1.cell, Nat.zero_add]
    have hk' : k < 2 := hk
    rcases (show k = 0 ∨ k = 1 by omega) with rfl | rfl <;> rcases (show j = 0 ∨ j = 1 ∨ j = 2 ∨ j = 3 ∨ j = 4 ∨ j = 5 ∨ j = 6 by omega) with rfl | rfl | rfl | rfl | rfl | rfl | rfl <;> rfl
  · intro k j hk hj
    exact absurd hk (Nat.not_lt_zero k)
  · refine ⟨w.heap.size + 1, 0, rfl, B2.lt, ?_⟩
    rw [B2.cell, Nat.zero_add]
    have hk' : k < 1 := hk
    obtain rfl : k = 0 := by omega
    rcases (show j = 0 ∨ j = 1 ∨ j = 2 by omega) with rfl | rfl | rfl <;> rfl
set_option maxHeartbeats 4000000 in
theorem awake14 (w : World) : Calls Try.prog 6 #[] w fun e w' => e = .returned (.bool true) ∧ Below w.heap.size w w' := by
  obtain ⟨g1, g2, g3, g4, g5, g6, g7, g8⟩ := wakeJ_facts
  have c1 := Lib.hid fun s w hL => snap_any wakeJ s w hL wakeJ_few.1
  have c2 := Lib.hid fun s w hL => (g1 ▸ on_any wakeJ s w hL wakeJ_few.1 : Calls Try.prog 10 #[.agg (jobC wakeJ s)] w fun e w' => e = .returned (.bool false) ∧ Below w.heap.size w w')
  have c3 := Lib.hid fun s w hL => (g2 ▸ on_any (snapJ wakeJ) s w hL wakeJ_few.2 : Calls Try.prog 10 #[.agg (jobC (snapJ wakeJ) s)] w fun e w' => e = .returned (.bool true) ∧ Below w.heap.size w w')
  have c4 := Lib.hid fun w => (g8 ▸ gnear_any 2 6 w (by decide) (by decide) : Calls Try.prog 14 #[.int .i64 2, .int .i64 6] w fun e w' => e = .returned (.int .i64 0) ∧ w = w')
  have HG := Lib.hid (And.intro g3 (And.intro g4 (And.intro g5 (And.intro g6 g7))))
  clear g1 g2 g3 g4 g5 g6 g7 g8
  go_enter Try.func6, Try.ntmps6
  go_upto_region 1 with (fail)
  refine wp_region_lit ?_
  refine aw_build rfl 24 _ rfl (geoC wakeJ.g) (by kernel_rfl) ?_
  simp only [Act.put, List.getElem_toArray, List.getElem_cons_succ, List.getElem_cons_zero, List.setIfInBounds_toArray, List.set_cons_zero, List.set_cons_succ]
  refine aw_build rfl 39 _ rfl #[.int .i64 1, .int .i64 7, .int .i64 0, .int .i64 0, .int .i64 0, .int .i64 0, .int .i64 0] (by kernel_rfl) ?_
  simp only [Act.put, List.getElem_toArray, List.getElem_cons_succ, List.getElem_cons_zero, List.setIfInBounds_toArray, List.set_cons_zero, List.set_cons_succ]
  refine aw_build rfl 39 _ rfl #[.int .i64 2, .int .i64 3, .int .i64 0, .int .i64 2, .int .i64 0, .int .i64 0, .int .i64 0] (by kernel_rfl) ?_
  simp only [Act.put, List.getElem_toArray, List.getElem_cons_succ, List.getElem_cons_zero, List.setIfInBounds_toArray, List.set_cons_zero, List.set_cons_succ]
  refine aw_val rfl (exec_buildI _ _ (.tmp 4) (.tmp 5) rfl rfl rfl w) ?_
  simp only [Act.put, List.getElem_toArray, List.getElem_cons_succ, List.getElem_cons_zero, List.setIfInBounds_toArray, List.set_cons_zero, List.set_cons_succ]
  refine aw_build rfl 41 _ rfl #[.int .i64 0, .int .i64 1, .int .i64 0] (by kernel_rfl) ?_
  simp only [Act.put, List.getElem_toArray, List.getElem_cons_succ, List.getElem_cons_zero, List.setIfInBounds_toArray, List.set_cons_zero, List.set_cons_succ]
  refine aw_val rfl (exec_buildF _ _ (.tmp 7) rfl rfl _) ?_
  simp only [Act.put, List.getElem_toArray, List.getElem_cons_succ, List.getElem_cons_zero, List.setIfInBounds_toArray, List.set_cons_zero, List.set_cons_succ]
  refine aw_build rfl 29 _ rfl (jobC wakeJ (wakeS w)) (by rw [World.size_alloc]; kernel_rfl) ?_
  simp only [Act.put, List.getElem_toArray, List.getElem_cons_succ, List.getElem_cons_zero, List.setIfInBounds_toArray, List.set_cons_zero, List.set_cons_succ]
  refine make_job (j := wakeJ) (s := (wakeS w)) rfl rfl rfl (.tmp 1) (.tmp 9) rfl rfl rfl ?_
  simp only [Act.put, List.getElem_toArray, List.getElem_cons_succ, List.getElem_cons_zero, List.setIfInBounds_toArray, List.set_cons_zero, List.set_cons_succ]
  have hL := wake_lists w (.cells (jobC wakeJ (wakeS w)) 29)
  have D := job_new ((w.alloc (.cells wakeI 39)).alloc (.cells wakeF 41)) wakeJ (wakeS w)
  have b0 := tbel3 w (.cells wakeI 39) (.cells wakeF 41) (.cells (jobC wakeJ (wakeS w)) 29)
  go_upto_region 2 with (fail)
  generalize ((w.alloc (.cells wakeI 39)).alloc (.cells wakeF 41)).heap.size = q at *
  generalize ((w.alloc _).alloc _).alloc _ = W at *
  generalize wakeS w = s0 at *
  refine wp_region_lit ?_
  refine wpl_load_job rfl (.tmp 1) rfl rfl D ?_
  simp only [Act.put, List.getElem_toArray, List.getElem_cons_succ, List.getElem_cons_zero, List.setIfInBounds_toArray, List.set_cons_zero, List.set_cons_succ]
  refine wpl_call (V := fun v y => ∃ s', v = .agg (jobC (snapJ wakeJ) s') ∧ Lists y (snapJ wakeJ) s' ∧ Below W.heap.size W y) rfl (by kernel_rfl) ((c1.out s0 W hL).mono fun e y h => by obtain ⟨s', r1, r2, r3⟩ := h; exact ⟨_, r1, s', rfl, r2, r3⟩) ?_
  rintro v w1 ⟨s1, rfl, hL1, b1⟩
  simp only [Act.put, List.getElem_toArray, List.getElem_cons_succ, List.getElem_cons_zero, List.setIfInBounds_toArray, List.set_cons_zero, List.set_cons_succ]
  refine make_job (j := snapJ wakeJ) (s := s1) rfl rfl rfl (.tmp 2) (.tmp 11) rfl rfl rfl ?_
  simp only [Act.put, List.getElem_toArray, List.getElem_cons_succ, List.getElem_cons_zero, List.setIfInBounds_toArray, List.set_cons_zero, List.set_cons_succ]
  have bw := tstep b0 (tstep b1 (tbel1 w1 (.cells (jobC (snapJ wakeJ) s1) 29)) b1.size) b0.size
  have D1 := (D.old b1).old (tbel1 w1 (.cells (jobC (snapJ wakeJ) s1) 29))
  have D2 := job_new w1 (snapJ wakeJ) s1
  have hL0 := (hL.carry b1).carry (tbel1 w1 (.cells (jobC (snapJ wakeJ) s1) 29))
  replace hL1 := hL1.carry (tbel1 w1 (.cells (jobC (snapJ wakeJ) s1) 29))
  clear D hL b0 b1 c1
  go_upto_region 3 with (fail)
  generalize w1.heap.size = q2 at *
  generalize w1.alloc _ = W1 at *
  obtain ⟨b, off, hia, hB, p0, p1, _⟩ := els7 hL1.items (show 0 < (snapJ wakeJ).items.length by decide)
  obtain ⟨b', off', hia', _, r0, r1, _⟩ := els7 hL1.items (show 1 < (snapJ wakeJ).items.length by decide)
  rw [hia] at hia'
  cases hia'
  obtain ⟨b3, off3, hfa, hB3, f0, f1, _⟩ := els3 hL1.floats (show 0 < (snapJ wakeJ).floats.length by decide)
  have hg := D2.geo
  obtain ⟨_, _, _, h3, h4, _⟩ := hg
  obtain ⟨t19, _, t21⟩ := D2.three
  obtain ⟨g3, g4, g5, g6, g7⟩ := HG.out
  rw [g3] at h3
  rw [g4] at h4
  rw [g5] at p1
  rw [g6] at r1
  rw [g7] at f1
  rw [hia] at t19
  rw [hfa] at t21
  rw [show (snapJ wakeJ).items.length = 2 by decide] at t19
  rw [show (snapJ wakeJ).floats.length = 1 by decide] at t21
  simp only [Nat.zero_mul, Nat.one_mul, Nat.add_zero] at p1 r1 f1
  have hb1 : b < W1.heap.size := hB
  have CE := Lib.hid fun x (hx : Old W1 x) => And.intro ((Blk.cell (D2.old hx) 3).trans ((Blk.cell D2 3).symm.trans h3)) (And.intro ((Blk.cell (D2.old hx) 4).trans ((Blk.cell D2 4).symm.trans h4)) (And.intro ((Blk.cell (D2.old hx) 19).trans ((Blk.cell D2 19).symm.trans t19)) (And.intro ((Blk.cell (D2.old hx) 21).trans ((Blk.cell D2 21).symm.trans t21)) (And.intro ((hx.cell (p := ⟨b, off + 1, none⟩) hB).trans p1) (And.intro ((hx.cell (p := ⟨b, off + 7 + 1, none⟩) hB).trans r1) ((hx.cell (p := ⟨b3, off3 + 1, none⟩) hB3).trans f1))))))
  clear h3 h4 t19 t21 p0 p1 r0 r1 f0 f1 hia hfa
  (refine wp_region_plain (Old W1) 47 (Below.refl _ W1) ?_; simp only [List.take_succ_cons, List.take_zero, List.drop_succ_cons, List.drop_zero])
  (refine Text.val (fun x hx => load_job (.tmp 1) rfl rfl (D1.old hx)) (by kernel_rfl) ?_; simp only [Act.put, List.getElem_toArray, List.getElem_cons_succ, List.getElem_cons_zero, List.setIfInBounds_toArray, List.set_cons_zero, List.set_cons_succ])
  (refine Text.call (Old.call fun x hx => c2.out s0 x (hL0.carry hx)) (by kernel_rfl) (fun _ => by kernel_rfl) ?_; simp only [Act.put, List.getElem_toArray, List.getElem_cons_succ, List.getElem_cons_zero, List.setIfInBounds_toArray, List.set_cons_zero, List.set_cons_succ])
  repeat (first | (apply Text.sees (hw := by kernel_rfl); (focus (intro x hx K hK; have hc := CE.out x hx; go_simp; exact hK)); simp only [Act.put, List.getElem_toArray, List.getElem_cons_succ, List.getElem_cons_zero, List.setIfInBounds_toArray, List.set_cons_zero, List.set_cons_succ]) | (apply Text.idle; (focus (intro x hx K hK; go_simp; exact hK)); simp only [Act.put, List.getElem_toArray, List.getElem_cons_succ, List.getElem_cons_zero, List.setIfInBounds_toArray, List.set_cons_zero, List.set_cons_succ]))
  (refine Text.val (fun x hx => load_job (.tmp 2) rfl rfl (D2.old hx)) (by kernel_rfl) ?_; simp only [Act.put, List.getElem_toArray, List.getElem_cons_succ, List.getElem_cons_zero, List.setIfInBounds_toArray, List.set_cons_zero, List.set_cons_succ])
  (refine Text.call (Old.call fun x hx => c3.out s1 x (hL1.carry hx)) (by kernel_rfl) (fun _ => by kernel_rfl) ?_; simp only [Act.put, List.getElem_toArray, List.getElem_cons_succ, List.getElem_cons_zero, List.setIfInBounds_toArray, List.set_cons_zero, List.set_cons_succ])
  repeat (first | (apply Text.sees (hw := by kernel_rfl); (focus (intro x hx K hK; have hc := CE.out x hx; go_simp; exact hK)); simp only [Act.put, List.getElem_toArray, List.getElem_cons_succ, List.getElem_cons_zero, List.setIfInBounds_toArray, List.set_cons_zero, List.set_cons_succ]) | (apply Text.idle; (focus (intro x hx K hK; go_simp; exact hK)); simp only [Act.put, List.getElem_toArray, List.getElem_cons_succ, List.getElem_cons_zero, List.setIfInBounds_toArray, List.set_cons_zero, List.set_cons_succ]))
  (refine Text.call (fun x hx => (c4.out x).mono fun e y h => ⟨h.1, h.2 ▸ hx⟩) (by kernel_rfl) (fun _ => by kernel_rfl) ?_; simp only [Act.put, List.getElem_toArray, List.getElem_cons_succ, List.getElem_cons_zero, List.setIfInBounds_toArray, List.set_cons_zero, List.set_cons_succ])
  repeat (first | (apply Text.sees (hw := by kernel_rfl); (focus (intro x hx K hK; have hc := CE.out x hx; go_simp; exact hK)); simp only [Act.put, List.getElem_toArray, List.getElem_cons_succ, List.getElem_cons_zero, List.setIfInBounds_toArray, List.set_cons_zero, List.set_cons_succ]) | (apply Text.idle; (focus (intro x hx K hK; go_simp; exact hK)); simp only [Act.put, List.getElem_toArray, List.getElem_cons_succ, List.getElem_cons_zero, List.setIfInBounds_toArray, List.set_cons_zero, List.set_cons_succ]))
  intro x hx
  go_wp2
  go_ret
  exact ⟨rfl, tstep bw hx bw.size⟩
end Go.Proofs.Ytllpimhjpfkgpaa
namespace Go.Proofs.Ytllpimhjpfkgpaa
open Go.RowKit
set_option maxRecDepth 20000
set_option linter.unusedVariables false
set_option linter.unusedSimpArgs false

section
variable {H : Type} {enc : TypeId × Value → H} {w : World} {base : Nat} {held : Bool}
/-- A slice of structs of integers in a cell. -/
theorem Leafy.flats {P : Program} {spare : Nat → Bool} {ts ets : List TypeId} {cs : List Value} (h : Leafy enc P w base spare held ts cs) (i : Nat) {f : Nat} {u e : TypeId} {c : Value}
    (hu : ts[i]? = some u) (hs : P.underlying u = some (.slice e)) (hts : leaves P f e = some ets) (hc : cs[i]? = some c) : ∃ a len cap, c = .slice a len cap ∧ ((a = none ∧ len = 0 ∧ cap = 0) ∨ ∃ ad, a = some ad ∧ len ≤ cap ∧ cap ≤ maxLen ∧ ∀ i, i < len → ∃ cs : List Value, cs.length = ets.length ∧ (∀ j c, cs[j]? = some c → w.cell? (ad.add (i * ets.length + j)) = some c) ∧ Leafy enc P w base spare held ets cs) := by
  obtain ⟨n, y, hy⟩ := h i u c hu hc
  rcases Go.Deep.open_slice hs hy with ⟨hcs, _⟩ | ⟨ad, l, cp, m, n', D, Pl, hcs, _⟩
  · obtain rfl : c = .slice none 0 0 := by simpa using hcs
    exact ⟨none, 0, 0, rfl, .inl ⟨rfl, rfl, rfl⟩⟩
  · obtain rfl : c = .slice (some ad) l cp := by simpa using hcs
    exact ⟨some ad, l, cp, rfl, leaves_slice hs hts hy⟩
theorem wfR14 {a : Int} (h : (Lit.int .i64 a).wf = true) : inR a := by
  simp [Lit.wf, IntKind.min, IntKind.max, IntKind.signed, IntKind.bits] at h
  exact h
/-- Elements read one by one. -/
theorem els_of {α : Type} {sz : Nat} {en : α → List Value} {d : α} {ok : α → Prop} (hd : ok d) {ad : Addr} {len : Nat} (hsz : 0 < sz) (hlen : ∀ x, (en x).length = sz)
    (h : ∀ i, i < len → ∃ x : α, ok x ∧ ∀ j c, (en x)[j]? = some c → w.cell? (ad.add (i * sz + j)) = some c) : ∃ l : List α, l.length = len ∧ (∀ k, ok (l.getD k d)) ∧ Els sz en w (some ad) l.length fun k => l.getD k d := by
  have each : ∀ i, ∃ x : α, ok x ∧ (i < len → ∀ j c, (en x)[j]? = some c → w.cell? (ad.add (i * sz + j)) = some c) := fun i => by
    by_cases hi : i < len
    · obtain ⟨x, h1, h2⟩ := h i hi
      exact ⟨x, h1, fun _ => h2⟩
    · exact ⟨d, hd, fun hh => absurd hh hi⟩
  obtain ⟨F, hF⟩ := Classical.axiomOfChoice each
  have hl : ((List.range len).map F).length = len := by simp
  have hg : ∀ k, k < len → ((List.range len).map F).getD k d = F k := fun k hk => by simp [hk]
  refine ⟨(List.range len).map F, hl, fun k => ?_, fun k j hk hj => ?_⟩
  · by_cases hk : k < len
    · rw [hg k hk]; exact (hF k).1
    · rw [List.getD_eq_getElem?_getD, List.getElem?_eq_none (by rw [hl]; omega)]; exact hd
  · rw [hl] at hk
    dsimp only
    rw [hg k hk]
    have hc := (hF k).2 hk j _ (List.getElem?_eq_getElem (by rw [hlen]; exact hj))
    obtain ⟨b, off, spot⟩ := ad
    have hc0 := (hF 0).2 (by omega) 0 _ (List.getElem?_eq_getElem (by rw [hlen]; exact hsz))
    have hs : spot = none := by simpa [Addr.add] using World.cell?_spot hc0
    subst hs
    rw [Go.WideShapes.add_plain] at hc
    exact ⟨b, off, rfl, World.block_lt_of_cell? _ _ hc, by rw [hc, List.getElem?_eq_getElem (by rw [hlen]; exact hj)]⟩
end
theorem zero_in4 : inI zeroI ∧ inF zeroF := by
  have z : inR 0 := by decide
  exact ⟨⟨z, z, z, z, z, z, z⟩, ⟨z, z, z⟩⟩
theorem none_els {α : Type} {sz : Nat} {en : α → List Value} {w : World} {F : Nat → α} : Els sz en w none 0 F := fun k j hk _ => absurd hk (Nat.not_lt_zero k)
theorem leaves29 : leaves Try.prog 9 29 = some [3, 22, 22, 22, 22, 22, 22, 22, 22, 22, 22, 3, 3, 3, 3, 3, 3, 3, 4, 25, 26, 27] := by kernel_rfl
theorem leaves39 : leaves Try.prog 9 39 = some [3, 22, 3, 22, 3, 22, 3] := by kernel_rfl
theorem leaves37 : leaves Try.prog 9 37 = some [34, 35] := by kernel_rfl
theorem leaves41 : leaves Try.prog 9 41 = some [3, 22, 3] := by kernel_rfl
theorem arr22 (cs : Array Value) (h : cs.size = 22) : ∃ c0 c1 c2 c3 c4 c5 c6 c7 c8 c9 c10 c11 c12 c13 c14 c15 c16 c17 c18 c19 c20 c21, cs = #[c0, c1, c2, c3, c4, c5, c6, c7, c8, c9, c10, c11, c12, c13, c14, c15, c16, c17, c18, c19, c20, c21] := by
  obtain ⟨l⟩ := cs
  match l, h with
  | [c0, c1, c2, c3, c4, c5, c6, c7, c8, c9, c10, c11, c12, c13, c14, c15, c16, c17, c18, c19, c20, c21], _ => exact ⟨c0, c1, c2, c3, c4, c5, c6, c7, c8, c9, c10, c11, c12, c13, c14, c15, c16, c17, c18, c19, c20, c21, rfl⟩
/-- A job by value, as the frame hands it over. -/
theorem open_job {H : Type} {enc : TypeId × Value → H} {w : World} {base : Nat} {held : Bool} {cs : Array Value} {d : DataW H} {p : List MemPlace} (hsz : cs.size = 22) (h : DataW.Trod enc Try.prog w base (fun _ => true) held 29 (.agg cs) d p) :
    ∃ j s, cs = jobC j s ∧ Lists w j s := by
  have L := leaves_agg (r := .any) (b0 := base) leaves29 (by rw [hsz]; kernel_rfl) h
  obtain ⟨c0, c1, c2, c3, c4, c5, c6, c7, c8, c9, c10, c11, c12, c13, c14, c15, c16, c17, c18, c19, c20, c21, rfl⟩ := arr22 cs hsz
  obtain ⟨a0, rfl, w0⟩ := L.int 0 rfl Try.underlying3 rfl
  obtain ⟨a1, rfl, w1⟩ := L.int 1 rfl Try.underlying22 rfl
  obtain ⟨a2, rfl, w2⟩ := L.int 2 rfl Try.underlying22 rfl
  obtain ⟨a3, rfl, w3⟩ := L.int 3 rfl Try.underlying22 rfl
  obtain ⟨a4, rfl, w4⟩ := L.int 4 rfl Try.underlying22 rfl
  obtain ⟨a5, rfl, w5⟩ := L.int 5 rfl Try.underlying22 rfl
  obtain ⟨a6, rfl, w6⟩ := L.int 6 rfl Try.underlying22 rfl
  obtain ⟨a7, rfl, w7⟩ := L.int 7 rfl Try.underlying22 rfl
  obtain ⟨a8, rfl, w8⟩ := L.int 8 rfl Try.underlying22 rfl
  obtain ⟨a9, rfl, w9⟩ := L.int 9 rfl Try.underlying22 rfl
  obtain ⟨a10, rfl, w10⟩ := L.int 10 rfl Try.underlying22 rfl
  obtain ⟨a11, rfl, w11⟩ := L.int 11 rfl Try.underlying3 rfl
  obtain ⟨a12, rfl, w12⟩ := L.int 12 rfl Try.underlying3 rfl
  obtain ⟨a13, rfl, w13⟩ := L.int 13 rfl Try.underlying3 rfl
  obtain ⟨a14, rfl, w14⟩ := L.int 14 rfl Try.underlying3 rfl
  obtain ⟨a15, rfl, w15⟩ := L.int 15 rfl Try.underlying3 rfl
  obtain ⟨a16, rfl, w16⟩ := L.int 16 rfl Try.underlying3 rfl
  obtain ⟨a17, rfl, w17⟩ := L.int 17 rfl Try.underlying3 rfl
  obtain ⟨a18, rfl⟩ := L.bool 18 rfl Try.underlying4 rfl
  obtain ⟨ia, il, ic, rfl, hI⟩ := L.flats 19 rfl Try.underlying25 leaves39 rfl
  obtain ⟨na, nl, nc, rfl, hN⟩ := L.flats 20 rfl Try.underlying26 leaves37 rfl
  obtain ⟨fa, fl, fc, rfl, hF⟩ := L.flats 21 rfl Try.underlying27 leaves41 rfl
  have hI' : ∃ l : List I7, l.length = il ∧ (∀ k, inI (l.getD k zeroI)) ∧ (Els 7 encI w ia l.length fun k => l.getD k zeroI) ∧ il ≤ ic ∧ ic ≤ maxLen := by
    rcases hI with ⟨rfl, rfl, rfl⟩ | ⟨ad, rfl, h1, h2, hall⟩
    · exact ⟨[], rfl, fun k => by simpa using (zero_in4).1, none_els, Nat.le_refl _, by decide⟩
    · obtain ⟨l, q1, q2, q3⟩ := els_of (w := w) (ok := inI) (en := encI) (d := zeroI) (sz := 7) zero_in4.1 (by omega) encI_len (ad := ad) (len := il) (fun i hi => by
        obtain ⟨cs, hlen, hc, hk⟩ := hall i hi
        match cs, hlen with
        | [c0, c1, c2, c3, c4, c5, c6], _ =>
          obtain ⟨z0, rfl, w0⟩ := hk.int 0 rfl Try.underlying3 rfl
          obtain ⟨z1, rfl, w1⟩ := hk.int 1 rfl Try.underlying22 rfl
          obtain ⟨z2, rfl, w2⟩ := hk.int 2 rfl Try.underlying3 rfl
          obtain ⟨z3, rfl, w3⟩ := hk.int 3 rfl Try.underlying22 rfl
          obtain ⟨z4, rfl, w4⟩ := hk.int 4 rfl Try.underlying3 rfl
          obtain ⟨z5, rfl, w5⟩ := hk.int 5 rfl Try.underlying22 rfl
          obtain ⟨z6, rfl, w6⟩ := hk.int 6 rfl Try.underlying3 rfl
          exact ⟨⟨z0, z1, z2, z3, z4, z5, z6⟩, ⟨wfR14 w0, wfR14 w1, wfR14 w2, wfR14 w3, wfR14 w4, wfR14 w5, wfR14 w6⟩, hc⟩)
      exact ⟨l, q1, q2, q3, h1, h2⟩
  have hF' : ∃ l : List F3, l.length = fl ∧ (∀ k, inF (l.getD k zeroF)) ∧ (Els 3 encF w fa l.length fun k => l.getD k zeroF) ∧ fl ≤ fc ∧ fc ≤ maxLen := by
    rcases hF with ⟨rfl, rfl, rfl⟩ | ⟨ad, rfl, h1, h2, hall⟩
    · exact ⟨[], rfl, fun k => by simpa using (zero_in4).2, none_els, Nat.le_refl _, by decide⟩
    · obtain ⟨l, q1, q2, q3⟩ := els_of (w := w) (ok := inF) (en := encF) (d := zeroF) (sz := 3) zero_in4.2 (by omega) encF_len (ad := ad) (len := fl) (fun i hi => by
        obtain ⟨cs, hlen, hc, hk⟩ := hall i hi
        match cs, hlen with
        | [c0, c1, c2], _ =>
          obtain ⟨z0, rfl, w0⟩ := hk.int 0 rfl Try.underlying3 rfl
          obtain ⟨z1, rfl, w1⟩ := hk.int 1 rfl Try.underlying22 rfl
          obtain ⟨z2, rfl, w2⟩ := hk.int 2 rfl Try.underlying3 rfl
          exact ⟨⟨z0, z1, z2⟩, ⟨wfR14 w0, wfR14 w1, wfR14 w2⟩, hc⟩)
      exact ⟨l, q1, q2, q3, h1, h2⟩
  have hN' : ∃ l : List N2, l.length = nl ∧ NotesAt w na l ∧ nl ≤ nc ∧ nc ≤ maxLen := by
    rcases hN with ⟨rfl, rfl, rfl⟩ | ⟨ad, rfl, h1, h2, hall⟩
    · exact ⟨[], rfl, ⟨fun _ => zeroH, none_els, fun k hk => absurd hk (Nat.not_lt_zero k)⟩, Nat.le_refl _, by decide⟩
    · have hz : ∃ x : H2 × N2, NoteOk w x.1 x.2 := ⟨(zeroH, zeroN), rfl, rfl, ⟨Nat.le_refl _, by decide⟩, ⟨Nat.le_refl _, by decide⟩, fun k hk => absurd hk (Nat.not_lt_zero k), fun k hk => absurd hk (Nat.not_lt_zero k)⟩
      have hz0 : NoteOk w zeroH zeroN := ⟨rfl, rfl, ⟨Nat.le_refl _, by decide⟩, ⟨Nat.le_refl _, by decide⟩, fun k hk => absurd hk (Nat.not_lt_zero k), fun k hk => absurd hk (Nat.not_lt_zero k)⟩
      obtain ⟨l, q1, q2, q3⟩ := els_of (w := w) (ok := fun x : H2 × N2 => NoteOk w x.1 x.2) (en := fun x : H2 × N2 => encH x.1) (d := (zeroH, zeroN)) (sz := 2) hz0 (by omega) (fun x => encH_len x.1) (ad := ad) (len := nl) (fun i hi => by
        obtain ⟨cs, hlen, hc, hk⟩ := hall i hi
        match cs, hlen with
        | [c0, c1], _ =>
          obtain ⟨la, ll, lc, lz, rfl, r1⟩ := hk.ints 0 rfl Try.underlying34 Try.underlying22 (by kernel_rfl) rfl
          obtain ⟨pa, pl, pc, pz, rfl, r2⟩ := hk.ints 1 rfl Try.underlying35 Try.underlying3 (by kernel_rfl) rfl
          obtain ⟨ln, e1, h3, h4, h5⟩ := r1.irow
          obtain ⟨pn, e2, h6, h7, h8⟩ := r2.irow
          exact ⟨(⟨la, ll, lc, pa, pl, pc⟩, ⟨ln, pn⟩), ⟨e1.symm, e2.symm, ⟨h4, h5⟩, ⟨h7, h8⟩, h3, h6⟩, hc⟩)
      refine ⟨l.map (·.2), by simpa using q1, ⟨fun k => (l.getD k (zeroH, zeroN)).1, ?_, fun k hk => ?_⟩, h1, h2⟩
      · rw [List.length_map]
        exact fun k j hk hj => q3 k j hk hj
      · rw [List.length_map] at hk
        have := q2 k
        rwa [show (l.map (·.2)).getD k zeroN = (l.getD k (zeroH, zeroN)).2 by simp [hk]]
  obtain ⟨il', e1, i1, i2, i3, i4⟩ := hI'
  obtain ⟨fl', e2, g1, g2, g3, g4⟩ := hF'
  obtain ⟨nl', e3, m1, m2, m3⟩ := hN'
  subst e1 e2 e3
  exact ⟨⟨⟨a0, a1, a2, a3, a4, a5, a6, a7, a8, a9, a10, a11, a12, a13, a14, a15, a16, a17, a18⟩, il', nl', fl'⟩, ⟨ia, ic, na, nc, fa, fc⟩, rfl,
    ⟨⟨⟨wfR14 w0, wfR14 w1, wfR14 w2, wfR14 w3, wfR14 w4, wfR14 w5, wfR14 w6, wfR14 w7, wfR14 w8, wfR14 w9, wfR14 w10, wfR14 w11, wfR14 w12, wfR14 w13, wfR14 w14, wfR14 w15, wfR14 w16, wfR14 w17⟩, i1, g1⟩, i2, m1, g2, ⟨i3, i4⟩, ⟨m2, m3⟩, ⟨g3, g4⟩⟩⟩
end Go.Proofs.Ytllpimhjpfkgpaa
namespace Go.Proofs.Ytllpimhjpfkgpaa
open Go.RowKit
set_option maxRecDepth 20000
set_option linter.unusedVariables false
set_option linter.unusedSimpArgs false

theorem few_snap {j : J4} (h : Few j) : Few (snapJ j) := by
  obtain ⟨h1, h2, h3, h4⟩ := h
  unfold snapJ
  split
  · exact ⟨h1, h2, h3, h4⟩
  · refine ⟨by simpa using h1, by simpa using h2, by simpa using h3, fun k => ?_⟩
    rcases Nat.lt_or_ge k j.notes.length with hk | hk
    · rw [map_getD _ _ zeroN _ hk]
      exact ⟨by simpa [snapN] using (h4 k).1, (h4 k).2⟩
    · rw [getD_none (by simpa using hk)]; simp [zeroN]
theorem gridSnaps_many (j k : J4) (s t : S3) (w : World) (hj : Lists w j s) (hk : Lists w k t) (h : isB (¬ Few j) = true ∨ isB (¬ Few j) = false ∧ isB (¬ Few k) = true) :
    Calls Try.prog 3 #[.agg (jobC j s), .agg (jobC k t)] w fun e w' => e = .returned (.bool true) ∧ Below w.heap.size w w' := by
  have DA : JobAt ((w.alloc (.cells (jobC j s) 29)).alloc (.cells (jobC k t) 29)) w.heap.size j s := (job_new w j s).old (tbel1 _ _)
  have DB : JobAt ((w.alloc (.cells (jobC j s) 29)).alloc (.cells (jobC k t) 29)) (w.heap.size + 1) k t := blk_two w _ _ _
  have b0 := tbel2 w (.cells (jobC j s) 29) (.cells (jobC k t) 29)
  have c1 := Lib.hid fun x (hx : Below w.heap.size w x) => large_is j s x (hj.carry hx)
  have c2 := Lib.hid fun x (hx : Below w.heap.size w x) => large_is k t x (hk.carry hx)
  have ca := Lib.hid awake14
  clear hj hk
  generalize isB (¬ Few j) = r1 at *
  generalize isB (¬ Few k) = r2 at *
  rcases h with h | ⟨h, h'⟩
  · subst h
    go_enter Try.func3, Try.ntmps3
    go_upto_region 1 with (fail)
    change Code.wp _ _ _ _ ((w.alloc (.cells (jobC j s) 29)).alloc (.cells (jobC k t) 29))
    generalize (w.alloc _).alloc _ = U at *
    (refine wp_region_plain (Old U) 5 (Below.refl _ U) ?_; simp only [List.take_succ_cons, List.take_zero, List.drop_succ_cons, List.drop_zero])
    (refine Text.val (fun x hx => load_job (.tmp 2) rfl rfl (DA.old hx)) (by kernel_rfl) ?_; simp only [Act.put, List.getElem_toArray, List.getElem_cons_succ, List.getElem_cons_zero, List.setIfInBounds_toArray, List.set_cons_zero, List.set_cons_succ])
    (refine Text.call (Old.call fun x hx => c1.out x (tstep b0 hx b0.size)) (by kernel_rfl) (fun _ => by kernel_rfl) ?_; simp only [Act.put, List.getElem_toArray, List.getElem_cons_succ, List.getElem_cons_zero, List.setIfInBounds_toArray, List.set_cons_zero, List.set_cons_succ])
    repeat (first | (apply Text.sees (hw := by kernel_rfl); (focus (intro x hx K hK; have hc := (fun _ _ => trivial) x hx; go_simp; exact hK)); simp only [Act.put, List.getElem_toArray, List.getElem_cons_succ, List.getElem_cons_zero, List.setIfInBounds_toArray, List.set_cons_zero, List.set_cons_succ]) | (apply Text.idle; (focus (intro x hx K hK; go_simp; exact hK)); simp only [Act.put, List.getElem_toArray, List.getElem_cons_succ, List.getElem_cons_zero, List.setIfInBounds_toArray, List.set_cons_zero, List.set_cons_succ]))
    intro x hx
    have b1 := tstep b0 hx b0.size
    clear b0 hx c1 c2 DA DB
    go_wp2_with fail
    refine (ca.out x).mono ?_
    rintro e y ⟨rfl, hy⟩
    go_wp2
    go_ret
    exact ⟨rfl, tstep b1 hy b1.size⟩
  · subst h h'
    go_enter Try.func3, Try.ntmps3
    go_upto_region 1 with (fail)
    change Code.wp _ _ _ _ ((w.alloc (.cells (jobC j s) 29)).alloc (.cells (jobC k t) 29))
    generalize (w.alloc _).alloc _ = U at *
    (refine wp_region_plain (Old U) 5 (Below.refl _ U) ?_; simp only [List.take_succ_cons, List.take_zero, List.drop_succ_cons, List.drop_zero])
    (refine Text.val (fun x hx => load_job (.tmp 2) rfl rfl (DA.old hx)) (by kernel_rfl) ?_; simp only [Act.put, List.getElem_toArray, List.getElem_cons_succ, List.getElem_cons_zero, List.setIfInBounds_toArray, List.set_cons_zero, List.set_cons_succ])
    (refine Text.call (Old.call fun x hx => c1.out x (tstep b0 hx b0.size)) (by kernel_rfl) (fun _ => by kernel_rfl) ?_; simp only [Act.put, List.getElem_toArray, List.getElem_cons_succ, List.getElem_cons_zero, List.setIfInBounds_toArray, List.set_cons_zero, List.set_cons_succ])
    repeat (first | (apply Text.sees (hw := by kernel_rfl); (focus (intro x hx K hK; have hc := (fun _ _ => trivial) x hx; go_simp; exact hK)); simp only [Act.put, List.getElem_toArray, List.getElem_cons_succ, List.getElem_cons_zero, List.setIfInBounds_toArray, List.set_cons_zero, List.set_cons_succ]) | (apply Text.idle; (focus (intro x hx K hK; go_simp; exact hK)); simp only [Act.put, List.getElem_toArray, List.getElem_cons_succ, List.getElem_cons_zero, List.setIfInBounds_toArray, List.set_cons_zero, List.set_cons_succ]))
    (refine Text.val (fun x hx => load_job (.tmp 3) rfl rfl (DB.old hx)) (by kernel_rfl) ?_; simp only [Act.put, List.getElem_toArray, List.getElem_cons_succ, List.getElem_cons_zero, List.setIfInBounds_toArray, List.set_cons_zero, List.set_cons_succ])
    (refine Text.call (Old.call fun x hx => c2.out x (tstep b0 hx b0.size)) (by kernel_rfl) (fun _ => by kernel_rfl) ?_; simp only [Act.put, List.getElem_toArray, List.getElem_cons_succ, List.getElem_cons_zero, List.setIfInBounds_toArray, List.set_cons_zero, List.set_cons_succ])
    repeat (first | (apply Text.sees (hw := by kernel_rfl); (focus (intro x hx K hK; have hc := (fun _ _ => trivial) x hx; go_simp; exact hK)); simp only [Act.put, List.getElem_toArray, List.getElem_cons_succ, List.getElem_cons_zero, List.setIfInBounds_toArray, List.set_cons_zero, List.set_cons_succ]) | (apply Text.idle; (focus (intro x hx K hK; go_simp; exact hK)); simp only [Act.put, List.getElem_toArray, List.getElem_cons_succ, List.getElem_cons_zero, List.setIfInBounds_toArray, List.set_cons_zero, List.set_cons_succ]))
    intro x hx
    have b1 := tstep b0 hx b0.size
    clear b0 hx c1 c2 DA DB
    go_wp2_with fail
    refine (ca.out x).mono ?_
    rintro e y ⟨rfl, hy⟩
    go_wp2
    go_ret
    exact ⟨rfl, tstep b1 hy b1.size⟩
set_option maxHeartbeats 4000000 in
theorem gridSnaps_few (j k : J4) (s t : S3) (w : World) (hj : Lists w j s) (hk : Lists w k t) (fj : Few j) (fk : Few k) :
    Calls Try.prog 3 #[.agg (jobC j s), .agg (jobC k t)] w fun e w' => e = .returned (.bool true) ∧ Below w.heap.size w w' := by
  have DA : JobAt ((w.alloc (.cells (jobC j s) 29)).alloc (.cells (jobC k t) 29)) w.heap.size j s := (job_new w j s).old (tbel1 _ _)
  have DB : JobAt ((w.alloc (.cells (jobC j s) 29)).alloc (.cells (jobC k t) 29)) (w.heap.size + 1) k t := blk_two w _ _ _
  have b0 := tbel2 w (.cells (jobC j s) 29) (.cells (jobC k t) 29)
  have c1 := fun x (hx : Below w.heap.size w x) => large_is j s x (hj.carry hx)
  have c2 := fun x (hx : Below w.heap.size w x) => large_is k t x (hk.carry hx)
  simp only [isB_no (not_not_intro fj)] at c1
  simp only [isB_no (not_not_intro fk)] at c2
  have C1 := Lib.hid c1
  have C2 := Lib.hid c2
  clear c1 c2
  have S1 := Lib.hid fun x (hx : Below w.heap.size w x) => snap_any j s x (hj.carry hx) fj
  have S2 := Lib.hid fun x (hx : Below w.heap.size w x) => rsnap_any j s x (hj.carry hx) fj
  have S3 := Lib.hid fun a b x (ha : Lists x (snapJ j) a) (hb : Lists x (snapJ j) b) => ((sameJ_refl (snapJ j)) ▸ rsame_any (snapJ j) (snapJ j) a b x ha hb (few_snap fj) (few_snap fj) : Calls Try.prog 7 #[.agg (jobC (snapJ j) a), .agg (jobC (snapJ j) b)] x fun e w' => e = .returned (.bool true) ∧ Below x.heap.size x w')
  have O1 := Lib.hid fun x (hx : Below w.heap.size w x) => on_any j s x (hj.carry hx) fj
  have O2 := Lib.hid fun x (hx : Below w.heap.size w x) => ron_any j s x (hj.carry hx) fj
  have M1 := Lib.hid fun x (hx : Below w.heap.size w x) => same_any j k s t x (hj.carry hx) (hk.carry hx) fj fk
  have M2 := Lib.hid fun x (hx : Below w.heap.size w x) => rsame_any j k s t x (hj.carry hx) (hk.carry hx) fj fk
  have M3 := Lib.hid fun x (hx : Below w.heap.size w x) => ((sameJ_refl j) ▸ same_any j j s s x (hj.carry hx) (hj.carry hx) fj fj : Calls Try.prog 12 #[.agg (jobC j s), .agg (jobC j s)] x fun e w' => e = .returned (.bool true) ∧ Below x.heap.size x w')
  have ca := Lib.hid awake14
  clear hj hk
  generalize onJ j = r1 at *
  generalize sameJ j k = r2 at *
  have q1 : (r1 == r1) = true := by simp
  have q2 : (r2 == r2) = true := by simp
  go_enter Try.func3, Try.ntmps3
  go_upto_region 1 with (fail)
  change Code.wp _ _ _ _ ((w.alloc (.cells (jobC j s) 29)).alloc (.cells (jobC k t) 29))
  generalize (w.alloc _).alloc _ = U at *
  (refine wp_region_plain (Old U) 5 (Below.refl _ U) ?_; simp only [List.take_succ_cons, List.take_zero, List.drop_succ_cons, List.drop_zero])
  (refine Text.val (fun x hx => load_job (.tmp 2) rfl rfl (DA.old hx)) (by kernel_rfl) ?_; simp only [Act.put, List.getElem_toArray, List.getElem_cons_succ, List.getElem_cons_zero, List.setIfInBounds_toArray, List.set_cons_zero, List.set_cons_succ])
  (refine Text.call (Old.call fun x hx => C1.out x (tstep b0 hx b0.size)) (by kernel_rfl) (fun _ => by kernel_rfl) ?_; simp only [Act.put, List.getElem_toArray, List.getElem_cons_succ, List.getElem_cons_zero, List.setIfInBounds_toArray, List.set_cons_zero, List.set_cons_succ])
  repeat (first | (apply Text.sees (hw := by kernel_rfl); (focus (intro x hx K hK; have hc := (fun _ _ => trivial) x hx; go_simp; exact hK)); simp only [Act.put, List.getElem_toArray, List.getElem_cons_succ, List.getElem_cons_zero, List.setIfInBounds_toArray, List.set_cons_zero, List.set_cons_succ]) | (apply Text.idle; (focus (intro x hx K hK; go_simp; exact hK)); simp only [Act.put, List.getElem_toArray, List.getElem_cons_succ, List.getElem_cons_zero, List.setIfInBounds_toArray, List.set_cons_zero, List.set_cons_succ]))
  (refine Text.val (fun x hx => load_job (.tmp 3) rfl rfl (DB.old hx)) (by kernel_rfl) ?_; simp only [Act.put, List.getElem_toArray, List.getElem_cons_succ, List.getElem_cons_zero, List.setIfInBounds_toArray, List.set_cons_zero, List.set_cons_succ])
  (refine Text.call (Old.call fun x hx => C2.out x (tstep b0 hx b0.size)) (by kernel_rfl) (fun _ => by kernel_rfl) ?_; simp only [Act.put, List.getElem_toArray, List.getElem_cons_succ, List.getElem_cons_zero, List.setIfInBounds_toArray, List.set_cons_zero, List.set_cons_succ])
  repeat (first | (apply Text.sees (hw := by kernel_rfl); (focus (intro x hx K hK; have hc := (fun _ _ => trivial) x hx; go_simp; exact hK)); simp only [Act.put, List.getElem_toArray, List.getElem_cons_succ, List.getElem_cons_zero, List.setIfInBounds_toArray, List.set_cons_zero, List.set_cons_succ]) | (apply Text.idle; (focus (intro x hx K hK; go_simp; exact hK)); simp only [Act.put, List.getElem_toArray, List.getElem_cons_succ, List.getElem_cons_zero, List.setIfInBounds_toArray, List.set_cons_zero, List.set_cons_succ]))
  intro x hx
  replace DA := DA.old hx
  replace DB := DB.old hx
  replace b0 := tstep b0 hx b0.size
  clear hx C1 C2
  go_upto_region 3 with (fail)
  (refine wp_region_plan 29 [(0, true), (2, true), (1, false), (3, false), (4, true), (5, true), (6, true), (7, true), (8, true), (9, true), (10, true), (11, true), (12, true), (13, true), (14, true), (15, true), (16, true), (17, true), (18, true), (19, true), (20, true), (21, true), (22, true), (23, true), (24, true), (25, true), (26, true), (27, true), (28, true)] (by kernel_rfl) (by kernel_rfl) ?_; simp only [pick, List.getElem?_cons_succ, List.getElem?_cons_zero, List.drop_succ_cons, List.drop_zero])
  (refine TextV.val (fun y hy => load_job (.tmp 2) rfl rfl (DA.old hy)) (by kernel_rfl) ?_; simp only [Act.put, List.getElem_toArray, List.getElem_cons_succ, List.getElem_cons_zero, List.setIfInBounds_toArray, List.set_cons_zero, List.set_cons_succ])
  (refine TextV.val (fun y hy => load_job (.tmp 2) rfl rfl (DA.old hy)) (by kernel_rfl) ?_; simp only [Act.put, List.getElem_toArray, List.getElem_cons_succ, List.getElem_cons_zero, List.setIfInBounds_toArray, List.set_cons_zero, List.set_cons_succ])
  (refine TextV.loud (V := fun v y => ∃ a, v = .agg (jobC (snapJ j) a) ∧ Lists y (snapJ j) a) (fun y hy => (S1.out y (tstep b0 hy b0.size)).mono fun e z h => by obtain ⟨a, r1, r2, r3⟩ := h; exact ⟨_, r1, ⟨a, rfl, r2⟩, r3⟩) (by kernel_rfl) (fun _ => by kernel_rfl) (fun v1 y1 hv1 hy1 => ?_); simp only [Act.put, List.getElem_toArray, List.getElem_cons_succ, List.getElem_cons_zero, List.setIfInBounds_toArray, List.set_cons_zero, List.set_cons_succ])
  obtain ⟨s1, rfl, hL1⟩ := hv1
  (refine TextV.loud (V := fun v y => ∃ a, v = .agg (jobC (snapJ j) a) ∧ Lists y (snapJ j) a) (fun y hy => (S2.out y (tstep b0 (hy1.old hy) b0.size)).mono fun e z h => by obtain ⟨a, r1, r2, r3⟩ := h; exact ⟨_, r1, ⟨a, rfl, r2⟩, r3⟩) (by kernel_rfl) (fun _ => by kernel_rfl) (fun v2 y2 hv2 hy2 => ?_); simp only [Act.put, List.getElem_toArray, List.getElem_cons_succ, List.getElem_cons_zero, List.setIfInBounds_toArray, List.set_cons_zero, List.set_cons_succ])
  obtain ⟨s2, rfl, hL2⟩ := hv2
  (refine TextV.call (fun y hy => S3.out s1 s2 y (hL1.carry (hy2.old hy)) (hL2.carry hy)) (by kernel_rfl) (fun _ => by kernel_rfl) ?_; simp only [Act.put, List.getElem_toArray, List.getElem_cons_succ, List.getElem_cons_zero, List.setIfInBounds_toArray, List.set_cons_zero, List.set_cons_succ])
  repeat (first | (apply TextV.sees (hw := by kernel_rfl); (focus (intro x hx K hK; have hc := (fun _ _ => trivial) x hx; go_simp; exact hK)); simp only [Act.put, List.getElem_toArray, List.getElem_cons_succ, List.getElem_cons_zero, List.setIfInBounds_toArray, List.set_cons_zero, List.set_cons_succ]) | (apply TextV.idle; (focus (intro x hx K hK; go_simp; exact hK)); simp only [Act.put, List.getElem_toArray, List.getElem_cons_succ, List.getElem_cons_zero, List.setIfInBounds_toArray, List.set_cons_zero, List.set_cons_succ]))
  (refine TextV.val (fun y hy => load_job (.tmp 2) rfl rfl (DA.old ((hy1.old hy2).old hy))) (by kernel_rfl) ?_; simp only [Act.put, List.getElem_toArray, List.getElem_cons_succ, List.getElem_cons_zero, List.setIfInBounds_toArray, List.set_cons_zero, List.set_cons_succ])
  (refine TextV.call (fun y hy => O1.out y (tstep b0 ((hy1.old hy2).old hy) b0.size)) (by kernel_rfl) (fun _ => by kernel_rfl) ?_; simp only [Act.put, List.getElem_toArray, List.getElem_cons_succ, List.getElem_cons_zero, List.setIfInBounds_toArray, List.set_cons_zero, List.set_cons_succ])
  (refine TextV.val (fun y hy => load_job (.tmp 2) rfl rfl (DA.old ((hy1.old hy2).old hy))) (by kernel_rfl) ?_; simp only [Act.put, List.getElem_toArray, List.getElem_cons_succ, List.getElem_cons_zero, List.setIfInBounds_toArray, List.set_cons_zero, List.set_cons_succ])
  (refine TextV.call (fun y hy => O2.out y (tstep b0 ((hy1.old hy2).old hy) b0.size)) (by kernel_rfl) (fun _ => by kernel_rfl) ?_; simp only [Act.put, List.getElem_toArray, List.getElem_cons_succ, List.getElem_cons_zero, List.setIfInBounds_toArray, List.set_cons_zero, List.set_cons_succ])
  repeat (first | (apply TextV.sees (hw := by kernel_rfl); (focus (intro x hx K hK; have hc := (fun _ _ => trivial) x hx; go_simp; exact hK)); simp only [Act.put, List.getElem_toArray, List.getElem_cons_succ, List.getElem_cons_zero, List.setIfInBounds_toArray, List.set_cons_zero, List.set_cons_succ]) | (apply TextV.idle; (focus (intro x hx K hK; go_simp; exact hK)); simp only [Act.put, List.getElem_toArray, List.getElem_cons_succ, List.getElem_cons_zero, List.setIfInBounds_toArray, List.set_cons_zero, List.set_cons_succ]))
  (refine TextV.val (fun y hy => load_job (.tmp 2) rfl rfl (DA.old ((hy1.old hy2).old hy))) (by kernel_rfl) ?_; simp only [Act.put, List.getElem_toArray, List.getElem_cons_succ, List.getElem_cons_zero, List.setIfInBounds_toArray, List.set_cons_zero, List.set_cons_succ])
  (refine TextV.val (fun y hy => load_job (.tmp 3) rfl rfl (DB.old ((hy1.old hy2).old hy))) (by kernel_rfl) ?_; simp only [Act.put, List.getElem_toArray, List.getElem_cons_succ, List.getElem_cons_zero, List.setIfInBounds_toArray, List.set_cons_zero, List.set_cons_succ])
  (refine TextV.call (fun y hy => M1.out y (tstep b0 ((hy1.old hy2).old hy) b0.size)) (by kernel_rfl) (fun _ => by kernel_rfl) ?_; simp only [Act.put, List.getElem_toArray, List.getElem_cons_succ, List.getElem_cons_zero, List.setIfInBounds_toArray, List.set_cons_zero, List.set_cons_succ])
  (refine TextV.val (fun y hy => load_job (.tmp 2) rfl rfl (DA.old ((hy1.old hy2).old hy))) (by kernel_rfl) ?_; simp only [Act.put, List.getElem_toArray, List.getElem_cons_succ, List.getElem_cons_zero, List.setIfInBounds_toArray, List.set_cons_zero, List.set_cons_succ])
  (refine TextV.val (fun y hy => load_job (.tmp 3) rfl rfl (DB.old ((hy1.old hy2).old hy))) (by kernel_rfl) ?_; simp only [Act.put, List.getElem_toArray, List.getElem_cons_succ, List.getElem_cons_zero, List.setIfInBounds_toArray, List.set_cons_zero, List.set_cons_succ])
  (refine TextV.call (fun y hy => M2.out y (tstep b0 ((hy1.old hy2).old hy) b0.size)) (by kernel_rfl) (fun _ => by kernel_rfl) ?_; simp only [Act.put, List.getElem_toArray, List.getElem_cons_succ, List.getElem_cons_zero, List.setIfInBounds_toArray, List.set_cons_zero, List.set_cons_succ])
  repeat (first | (apply TextV.sees (hw := by kernel_rfl); (focus (intro x hx K hK; have hc := (fun _ _ => trivial) x hx; go_simp; exact hK)); simp only [Act.put, List.getElem_toArray, List.getElem_cons_succ, List.getElem_cons_zero, List.setIfInBounds_toArray, List.set_cons_zero, List.set_cons_succ]) | (apply TextV.idle; (focus (intro x hx K hK; go_simp; exact hK)); simp only [Act.put, List.getElem_toArray, List.getElem_cons_succ, List.getElem_cons_zero, List.setIfInBounds_toArray, List.set_cons_zero, List.set_cons_succ]))
  (refine TextV.val (fun y hy => load_job (.tmp 2) rfl rfl (DA.old ((hy1.old hy2).old hy))) (by kernel_rfl) ?_; simp only [Act.put, List.getElem_toArray, List.getElem_cons_succ, List.getElem_cons_zero, List.setIfInBounds_toArray, List.set_cons_zero, List.set_cons_succ])
  (refine TextV.val (fun y hy => load_job (.tmp 2) rfl rfl (DA.old ((hy1.old hy2).old hy))) (by kernel_rfl) ?_; simp only [Act.put, List.getElem_toArray, List.getElem_cons_succ, List.getElem_cons_zero, List.setIfInBounds_toArray, List.set_cons_zero, List.set_cons_succ])
  (refine TextV.call (fun y hy => M3.out y (tstep b0 ((hy1.old hy2).old hy) b0.size)) (by kernel_rfl) (fun _ => by kernel_rfl) ?_; simp only [Act.put, List.getElem_toArray, List.getElem_cons_succ, List.getElem_cons_zero, List.setIfInBounds_toArray, List.set_cons_zero, List.set_cons_succ])
  repeat (first | (apply TextV.sees (hw := by kernel_rfl); (focus (intro x hx K hK; have hc := (fun _ _ => trivial) x hx; go_simp; exact hK)); simp only [Act.put, List.getElem_toArray, List.getElem_cons_succ, List.getElem_cons_zero, List.setIfInBounds_toArray, List.set_cons_zero, List.set_cons_succ]) | (apply TextV.idle; (focus (intro x hx K hK; go_simp; exact hK)); simp only [Act.put, List.getElem_toArray, List.getElem_cons_succ, List.getElem_cons_zero, List.setIfInBounds_toArray, List.set_cons_zero, List.set_cons_succ]))
  (refine TextV.call (fun y hy => ca.out y) (by kernel_rfl) (fun _ => by kernel_rfl) ?_; simp only [Act.put, List.getElem_toArray, List.getElem_cons_succ, List.getElem_cons_zero, List.setIfInBounds_toArray, List.set_cons_zero, List.set_cons_succ])
  repeat (first | (apply TextV.sees (hw := by kernel_rfl); (focus (intro x hx K hK; have hc := (fun _ _ => trivial) x hx; go_simp; exact hK)); simp only [Act.put, List.getElem_toArray, List.getElem_cons_succ, List.getElem_cons_zero, List.setIfInBounds_toArray, List.set_cons_zero, List.set_cons_succ]) | (apply TextV.idle; (focus (intro x hx K hK; go_simp; exact hK)); simp only [Act.put, List.getElem_toArray, List.getElem_cons_succ, List.getElem_cons_zero, List.setIfInBounds_toArray, List.set_cons_zero, List.set_cons_succ]))
  intro z hz
  go_wp2
  go_ret
  exact ⟨rfl, tstep b0 ((hy1.old hy2).old hz) b0.size⟩
theorem gridSnaps_walk (j : J4) (s : S3) (k : J4) (t : S3) (w : World) (hj : Lists w j s) (hk : Lists w k t) :
    Calls Try.prog 3 #[.agg (jobC j s), .agg (jobC k t)] w fun e w' => e = .returned (.bool true) ∧ Below w.heap.size w w' := by
  by_cases fj : Few j
  · by_cases fk : Few k
    · exact gridSnaps_few j k s t w hj hk fj fk
    · exact gridSnaps_many j k s t w hj hk (.inr ⟨isB_no (not_not_intro fj), isB_yes fk⟩)
  · exact gridSnaps_many j k s t w hj hk (.inl (isB_yes fj))
theorem gridStays_many (j : J4) (s : S3) (w : World) (hj : Lists w j s) (h : ¬ Few j) :
    Calls Try.prog 4 #[.agg (jobC j s)] w fun e w' => e = .returned (.bool true) ∧ Below w.heap.size w w' := by
  have DA := job_new w j s
  have b0 := tbel1 w (.cells (jobC j s) 29)
  have c1 := Lib.hid fun x (hx : Below w.heap.size w x) => ((isB_yes h) ▸ large_is j s x (hj.carry hx) : Calls Try.prog 5 #[.agg (jobC j s)] x fun e w' => e = .returned (.bool true) ∧ Below x.heap.size x w')
  have ca := Lib.hid awake14
  clear hj h
  go_enter Try.func4, Try.ntmps4
  go_upto_region 1 with (fail)
  generalize w.alloc _ = U at *
  (refine wp_region_plain (Old U) 1 (Below.refl _ U) ?_; simp only [List.take_succ_cons, List.take_zero, List.drop_succ_cons, List.drop_zero])
  (refine Text.val (fun x hx => load_job (.tmp 1) rfl rfl (DA.old hx)) (by kernel_rfl) ?_; simp only [Act.put, List.getElem_toArray, List.getElem_cons_succ, List.getElem_cons_zero, List.setIfInBounds_toArray, List.set_cons_zero, List.set_cons_succ])
  intro x hx
  have b1 := tstep b0 hx b0.size
  have c2 := c1.out x b1
  clear b0 hx c1 DA
  go_wp2_with fail
  refine c2.mono ?_
  rintro e y ⟨rfl, hy⟩
  replace b1 := tstep b1 hy b1.size
  clear c2 hy
  go_wp2_with fail
  refine (ca.out y).mono ?_
  rintro e z ⟨rfl, hz⟩
  go_wp2
  go_ret
  exact ⟨rfl, tstep b1 hz b1.size⟩
set_option maxHeartbeats 4000000 in
theorem gridStays_few (j : J4) (s : S3) (w : World) (hj : Lists w j s) (fj : Few j) :
    Calls Try.prog 4 #[.agg (jobC j s)] w fun e w' => e = .returned (.bool true) ∧ Below w.heap.size w w' := by
  have DA := job_new w j s
  have b0 := tbel1 w (.cells (jobC j s) 29)
  have C1 := Lib.hid fun x (hx : Below w.heap.size w x) => ((isB_no (not_not_intro fj)) ▸ large_is j s x (hj.carry hx) : Calls Try.prog 5 #[.agg (jobC j s)] x fun e w' => e = .returned (.bool false) ∧ Below x.heap.size x w')
  have S1 := Lib.hid fun x (hx : Below w.heap.size w x) => snap_any j s x (hj.carry hx) fj
  have CF := Lib.hid fun x (hx : Below w.heap.size w x) => rfair_any j s x (hj.carry hx) fj
  have ST := Lib.hid fun (h : fairJ j = true) => snapJ_stays h
  have O1 := Lib.hid fun (h : fairJ j = true) a x (ha : Lists x (snapJ j) a) => ((snapJ_stays h).1 ▸ on_any (snapJ j) a x ha (few_snap fj) : Calls Try.prog 10 #[.agg (jobC (snapJ j) a)] x fun e w' => e = .returned (.bool true) ∧ Below x.heap.size x w')
  have S2 := Lib.hid fun a x (ha : Lists x (snapJ j) a) => snap_any (snapJ j) a x ha (few_snap fj)
  have S3 := Lib.hid fun (h : fairJ j = true) a b x (ha : Lists x (snapJ (snapJ j)) a) (hb : Lists x (snapJ j) b) => ((by rw [(snapJ_stays h).2.1]; exact sameJ_refl _ : sameJ (snapJ (snapJ j)) (snapJ j) = true) ▸ rsame_any (snapJ (snapJ j)) (snapJ j) a b x ha hb (few_snap (few_snap fj)) (few_snap fj) : Calls Try.prog 7 #[.agg (jobC (snapJ (snapJ j)) a), .agg (jobC (snapJ j) b)] x fun e w' => e = .returned (.bool true) ∧ Below x.heap.size x w')
  have ca := Lib.hid awake14
  clear hj fj
  have HF := Lib.hid (rfl : fairJ j = fairJ j)
  obtain ⟨r, hr⟩ : ∃ r, r = fairJ j := ⟨_, rfl⟩
  have CF2 := Lib.hid fun x hx => (hr ▸ CF.out x hx : Calls Try.prog 13 #[.agg (jobC j s)] x fun e w' => e = .returned (.bool r) ∧ Below x.heap.size x w')
  have HR := Lib.hid hr
  clear CF hr HF
  go_enter Try.func4, Try.ntmps4
  go_upto_region 1 with (fail)
  generalize w.alloc _ = U at *
  (refine wp_region_plain (Old U) 2 (Below.refl _ U) ?_; simp only [List.take_succ_cons, List.take_zero, List.drop_succ_cons, List.drop_zero])
  (refine Text.val (fun x hx => load_job (.tmp 1) rfl rfl (DA.old hx)) (by kernel_rfl) ?_; simp only [Act.put, List.getElem_toArray, List.getElem_cons_succ, List.getElem_cons_zero, List.setIfInBounds_toArray, List.set_cons_zero, List.set_cons_succ])
  (refine Text.call (Old.call fun x hx => C1.out x (tstep b0 hx b0.size)) (by kernel_rfl) (fun _ => by kernel_rfl) ?_; simp only [Act.put, List.getElem_toArray, List.getElem_cons_succ, List.getElem_cons_zero, List.setIfInBounds_toArray, List.set_cons_zero, List.set_cons_succ])
  intro x hx
  replace DA := DA.old hx
  replace b0 := tstep b0 hx b0.size
  clear hx C1
  go_upto_region 3 with (fail)
  refine wp_region_lit ?_
  refine wpl_load_job rfl (.tmp 1) rfl rfl DA ?_
  simp only [Act.put, List.getElem_toArray, List.getElem_cons_succ, List.getElem_cons_zero, List.setIfInBounds_toArray, List.set_cons_zero, List.set_cons_succ]
  refine wpl_call (V := fun v y => ∃ a, v = .agg (jobC (snapJ j) a) ∧ Lists y (snapJ j) a ∧ Below x.heap.size x y) rfl (by kernel_rfl) ((S1.out x b0).mono fun e y h => by obtain ⟨a, r1, r2, r3⟩ := h; exact ⟨_, r1, a, rfl, r2, r3⟩) ?_
  rintro v w1 ⟨s1, rfl, hL1, b1⟩
  simp only [Act.put, List.getElem_toArray, List.getElem_cons_succ, List.getElem_cons_zero, List.setIfInBounds_toArray, List.set_cons_zero, List.set_cons_succ]
  refine make_job (j := snapJ j) (s := s1) rfl rfl rfl (.tmp 3) (.tmp 8) rfl rfl rfl ?_
  simp only [Act.put, List.getElem_toArray, List.getElem_cons_succ, List.getElem_cons_zero, List.setIfInBounds_toArray, List.set_cons_zero, List.set_cons_succ]
  have D2 := job_new w1 (snapJ j) s1
  have bo := tstep b1 (tbel1 w1 (.cells (jobC (snapJ j) s1) 29)) b1.size
  replace hL1 := hL1.carry (tbel1 w1 (.cells (jobC (snapJ j) s1) 29))
  replace DA := DA.old bo
  replace b0 := tstep b0 bo b0.size
  clear b1 bo S1
  go_upto_region 4 with (fail)
  generalize w1.heap.size = q at *
  generalize w1.alloc _ = W at *
  (refine wp_region_plain (Old W) 2 (Below.refl _ W) ?_; simp only [List.take_succ_cons, List.take_zero, List.drop_succ_cons, List.drop_zero])
  (refine Text.val (fun x hx => load_job (.tmp 1) rfl rfl (DA.old hx)) (by kernel_rfl) ?_; simp only [Act.put, List.getElem_toArray, List.getElem_cons_succ, List.getElem_cons_zero, List.setIfInBounds_toArray, List.set_cons_zero, List.set_cons_succ])
  (refine Text.call (Old.call fun x hx => CF2.out x (tstep b0 hx b0.size)) (by kernel_rfl) (fun _ => by kernel_rfl) ?_; simp only [Act.put, List.getElem_toArray, List.getElem_cons_succ, List.getElem_cons_zero, List.setIfInBounds_toArray, List.set_cons_zero, List.set_cons_succ])
  intro x2 hx2
  replace DA := DA.old hx2
  replace D2 := D2.old hx2
  replace hL1 := hL1.carry hx2
  replace b0 := tstep b0 hx2 b0.size
  clear hx2 CF2
  cases r
  · go_wp2_with fail
    refine (ca.out x2).mono ?_
    rintro e z ⟨rfl, hz⟩
    go_wp2
    go_ret
    exact ⟨rfl, tstep b0 hz b0.size⟩
  · have hst := ST.out HR.out.symm
    have hle := hst.2.2
    have g1 := DA.geo.2.2.2.1
    have g2 := D2.geo.2.2.2.1
    have hd : decide ((snapJ j).g.high ≤ j.g.high) = true := decide_eq_true hle
    have O2 := Lib.hid (O1.out HR.out.symm)
    have S4 := Lib.hid (S3.out HR.out.symm)
    have CE := Lib.hid fun z (hz : Old x2 z) => And.intro ((Blk.cell (DA.old hz) 3).trans ((Blk.cell DA 3).symm.trans g1)) (And.intro ((Blk.cell (D2.old hz) 3).trans ((Blk.cell D2 3).symm.trans g2)) hd)
    clear hst hle g1 g2 hd O1 S3 ST
    go_upto_region 6 with (fail)
    (refine wp_region_plan 20 [(0, true), (1, true), (2, true), (3, true), (5, true), (4, false), (6, true), (7, true), (8, true), (9, true), (10, true), (11, true), (12, true), (13, true), (14, true), (15, true), (16, true), (17, true), (18, true), (19, true)] (by kernel_rfl) (by kernel_rfl) ?_; simp only [pick, List.getElem?_cons_succ, List.getElem?_cons_zero, List.drop_succ_cons, List.drop_zero])
    (refine TextV.val (fun y hy => load_job (.tmp 3) rfl rfl (D2.old hy)) (by kernel_rfl) ?_; simp only [Act.put, List.getElem_toArray, List.getElem_cons_succ, List.getElem_cons_zero, List.setIfInBounds_toArray, List.set_cons_zero, List.set_cons_succ])
    (refine TextV.call (fun y hy => O2.out s1 y (hL1.carry hy)) (by kernel_rfl) (fun _ => by kernel_rfl) ?_; simp only [Act.put, List.getElem_toArray, List.getElem_cons_succ, List.getElem_cons_zero, List.setIfInBounds_toArray, List.set_cons_zero, List.set_cons_succ])
    repeat (first | (apply TextV.sees (hw := by kernel_rfl); (focus (intro x hx K hK; have hc := (fun _ _ => trivial) x hx; go_simp; exact hK)); simp only [Act.put, List.getElem_toArray, List.getElem_cons_succ, List.getElem_cons_zero, List.setIfInBounds_toArray, List.set_cons_zero, List.set_cons_succ]) | (apply TextV.idle; (focus (intro x hx K hK; go_simp; exact hK)); simp only [Act.put, List.getElem_toArray, List.getElem_cons_succ, List.getElem_cons_zero, List.setIfInBounds_toArray, List.set_cons_zero, List.set_cons_succ]))
    (refine TextV.val (fun y hy => load_job (.tmp 3) rfl rfl (D2.old hy)) (by kernel_rfl) ?_; simp only [Act.put, List.getElem_toArray, List.getElem_cons_succ, List.getElem_cons_zero, List.setIfInBounds_toArray, List.set_cons_zero, List.set_cons_succ])
    (refine TextV.val (fun y hy => load_job (.tmp 3) rfl rfl (D2.old hy)) (by kernel_rfl) ?_; simp only [Act.put, List.getElem_toArray, List.getElem_cons_succ, List.getElem_cons_zero, List.setIfInBounds_toArray, List.set_cons_zero, List.set_cons_succ])
    (refine TextV.loud (V := fun v y => ∃ a, v = .agg (jobC (snapJ (snapJ j)) a) ∧ Lists y (snapJ (snapJ j)) a) (fun y hy => (S2.out s1 y (hL1.carry hy)).mono fun e z h => by obtain ⟨a, r1, r2, r3⟩ := h; exact ⟨_, r1, ⟨a, rfl, r2⟩, r3⟩) (by kernel_rfl) (fun _ => by kernel_rfl) (fun v1 y1 hv1 hy1 => ?_); simp only [Act.put, List.getElem_toArray, List.getElem_cons_succ, List.getElem_cons_zero, List.setIfInBounds_toArray, List.set_cons_zero, List.set_cons_succ])
    obtain ⟨s2, rfl, hL2⟩ := hv1
    (refine TextV.call (fun y hy => S4.out s2 s1 y (hL2.carry hy) (hL1.carry (hy1.old hy))) (by kernel_rfl) (fun _ => by kernel_rfl) ?_; simp only [Act.put, List.getElem_toArray, List.getElem_cons_succ, List.getElem_cons_zero, List.setIfInBounds_toArray, List.set_cons_zero, List.set_cons_succ])
    have CE2 := Lib.hid fun z (hz : Old y1 z) => CE.out z (hy1.old hz)
    repeat (first | (apply TextV.sees (hw := by kernel_rfl); (focus (intro x hx K hK; have hc := CE2.out x hx; go_simp; exact hK)); simp only [Act.put, List.getElem_toArray, List.getElem_cons_succ, List.getElem_cons_zero, List.setIfInBounds_toArray, List.set_cons_zero, List.set_cons_succ]) | (apply TextV.idle; (focus (intro x hx K hK; go_simp; exact hK)); simp only [Act.put, List.getElem_toArray, List.getElem_cons_succ, List.getElem_cons_zero, List.setIfInBounds_toArray, List.set_cons_zero, List.set_cons_succ]))
    (refine TextV.call (fun y hy => ca.out y) (by kernel_rfl) (fun _ => by kernel_rfl) ?_; simp only [Act.put, List.getElem_toArray, List.getElem_cons_succ, List.getElem_cons_zero, List.setIfInBounds_toArray, List.set_cons_zero, List.set_cons_succ])
    repeat (first | (apply TextV.sees (hw := by kernel_rfl); (focus (intro x hx K hK; have hc := (fun _ _ => trivial) x hx; go_simp; exact hK)); simp only [Act.put, List.getElem_toArray, List.getElem_cons_succ, List.getElem_cons_zero, List.setIfInBounds_toArray, List.set_cons_zero, List.set_cons_succ]) | (apply TextV.idle; (focus (intro x hx K hK; go_simp; exact hK)); simp only [Act.put, List.getElem_toArray, List.getElem_cons_succ, List.getElem_cons_zero, List.setIfInBounds_toArray, List.set_cons_zero, List.set_cons_succ]))
    intro z hz
    go_wp2
    go_ret
    exact ⟨rfl, tstep b0 (hy1.old hz) b0.size⟩
theorem gridStays_walk (j : J4) (s : S3) (w : World) (hj : Lists w j s) :
    Calls Try.prog 4 #[.agg (jobC j s)] w fun e w' => e = .returned (.bool true) ∧ Below w.heap.size w w' := by
  by_cases fj : Few j
  · exact gridStays_few j s w hj fj
  · exact gridStays_many j s w hj fj
end Go.Proofs.Ytllpimhjpfkgpaa
