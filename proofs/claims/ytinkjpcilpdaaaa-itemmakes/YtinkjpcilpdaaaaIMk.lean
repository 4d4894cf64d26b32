/- The walk of ItemMakes. -/
import Derived.Test.YtinkjpcilpdaaaaIAw
import Derived.ProofKit
import Derived.OpenShut
namespace Go.Proofs.Ytinkjpcilpdaaaa
open Go.RowKit
set_option maxRecDepth 20000
set_option linter.unusedVariables false
set_option linter.unusedSimpArgs false

theorem makes_no (x : I7) (w : World) (hx : rightI x = false) : Calls Try.prog 4 #[itm x] w fun e w' => e = .returned (.bool true) ∧ Below w.heap.size w w' := by
  have c1 := check_any x
  have e : checkI x = 8 := by unfold checkI; rw [hx]; rfl
  rw [e] at c1
  clear e hx
  obtain ⟨k, h, f, s, o, r, n⟩ := x
  unfold itm at *
  dsimp only at *
  go_enter Try.func4, Try.ntmps4
  go_wp2_with fail
  refine (c1 _).mono ?_
  rintro e w1 ⟨rfl, b1⟩
  replace b1 := tstep (tbel1 w _) b1 (tbel1 w _).size
  clear c1
  go_wp2_with fail
  refine (awake10 _).mono ?_
  rintro e w2 ⟨rfl, b2⟩
  replace b2 := tstep b1 b2 b1.size
  go_wp2
  go_ret
  exact ⟨rfl, b2⟩
theorem makes_yes (x : I7) (w : World) (hx : rightI x = true) : Calls Try.prog 4 #[itm x] w fun e w' => e = .returned (.bool true) ∧ Below w.heap.size w w' := by
  have c1 := check_any x
  have c2 := fun w => made_any x w hx
  have e : checkI x = 0 := by unfold checkI; rw [hx]; rfl
  rw [e] at c1
  clear e hx
  obtain ⟨k, h, f, s, o, r, n⟩ := x
  unfold itm at *
  dsimp only at *
  go_enter Try.func4, Try.ntmps4
  go_wp2_with fail
  refine (c1 _).mono ?_
  rintro e w1 ⟨rfl, b1⟩
  have B := (blk_new w _ _).old b1
  replace b1 := tstep (tbel1 w _) b1 (tbel1 w _).size
  clear c1
  go_wp2_with fail
  have CE := Lib.hid fun x (hx : Old w1 x) => (B.old hx).seven
  (refine wp_region_text (Old w1) 7 (by kernel_rfl) (by kernel_rfl) (Below.refl _ w1).drew ?_; simp only [List.take_succ_cons, List.take_zero, List.drop_succ_cons, List.drop_zero])
  repeat (first | (apply Text.sees (hw := by kernel_rfl); (focus (intro x hx K hK; have hc := CE.out x hx; go_simp; exact hK)); simp only [Act.put, List.getElem_toArray, List.getElem_cons_succ, List.getElem_cons_zero, List.setIfInBounds_toArray, List.set_cons_zero, List.set_cons_succ]) | (apply Text.idle; (focus (intro x hx K hK; go_simp; exact hK)); simp only [Act.put, List.getElem_toArray, List.getElem_cons_succ, List.getElem_cons_zero, List.setIfInBounds_toArray, List.set_cons_zero, List.set_cons_succ]))
  (refine Text.call (Old.call fun x hx => c2 x) (by kernel_rfl) (fun _ => by kernel_rfl) ?_; simp only [Act.put, List.getElem_toArray, List.getElem_cons_succ, List.getElem_cons_zero, List.setIfInBounds_toArray, List.set_cons_zero, List.set_cons_succ])
  repeat (first | (apply Text.sees (hw := by kernel_rfl); (focus (intro x hx K hK; have hc := CE.out x hx; go_simp; exact hK)); simp only [Act.put, List.getElem_toArray, List.getElem_cons_succ, List.getElem_cons_zero, List.setIfInBounds_toArray, List.set_cons_zero, List.set_cons_succ]) | (apply Text.idle; (focus (intro x hx K hK; go_simp; exact hK)); simp only [Act.put, List.getElem_toArray, List.getElem_cons_succ, List.getElem_cons_zero, List.setIfInBounds_toArray, List.set_cons_zero, List.set_cons_succ]))
  (refine Text.call (Old.call fun x hx => awake10 x) (by kernel_rfl) (fun _ => by kernel_rfl) ?_; simp only [Act.put, List.getElem_toArray, List.getElem_cons_succ, List.getElem_cons_zero, List.setIfInBounds_toArray, List.set_cons_zero, List.set_cons_succ])
  repeat (first | (apply Text.sees (hw := by kernel_rfl); (focus (intro x hx K hK; have hc := CE.out x hx; go_simp; exact hK)); simp only [Act.put, List.getElem_toArray, List.getElem_cons_succ, List.getElem_cons_zero, List.setIfInBounds_toArray, List.set_cons_zero, List.set_cons_succ]) | (apply Text.idle; (focus (intro x hx K hK; go_simp; exact hK)); simp only [Act.put, List.getElem_toArray, List.getElem_cons_succ, List.getElem_cons_zero, List.setIfInBounds_toArray, List.set_cons_zero, List.set_cons_succ]))
  intro x hx
  go_wp2
  go_ret
  exact ⟨rfl, tstep b1 hx b1.size⟩
theorem itemMakes_walk (a0 : Int) (h0 : (Lit.int .i64 a0).wf = true) (a1 : Int) (h1 : (Lit.int .i64 a1).wf = true) (a2 : Int) (h2 : (Lit.int .i64 a2).wf = true) (a3 : Int) (h3 : (Lit.int .i64 a3).wf = true) (a4 : Int) (h4 : (Lit.int .i64 a4).wf = true) (a5 : Int) (h5 : (Lit.int .i64 a5).wf = true) (a6 : Int) (h6 : (Lit.int .i64 a6).wf = true) (w : World) :
    Calls Try.prog 4 #[.agg #[.int .i64 a0, .int .i64 a1, .int .i64 a2, .int .i64 a3, .int .i64 a4, .int .i64 a5, .int .i64 a6]] w fun e w' => e = .returned (.bool true) ∧ Below w.heap.size w w' := by
  cases hx : rightI ⟨a0, a1, a2, a3, a4, a5, a6⟩
  · exact makes_no ⟨a0, a1, a2, a3, a4, a5, a6⟩ w hx
  · exact makes_yes ⟨a0, a1, a2, a3, a4, a5, a6⟩ w hx
end Go.Proofs.Ytinkjpcilpdaaaa
