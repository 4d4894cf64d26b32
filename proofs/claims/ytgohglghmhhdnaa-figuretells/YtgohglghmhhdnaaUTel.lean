/- The walk of FigureTells. -/
import Derived.Test.YtgohglghmhhdnaaUAw
namespace Go.Proofs.Ytgohglghmhhdnaa
open Go.RowKit
set_option maxRecDepth 20000
set_option linter.unusedVariables false
set_option linter.unusedSimpArgs false

set_option maxHeartbeats 1000000 in
theorem ftells_walk (c h p : Int) (b t u : Bool) (w : World)
    (c1 : ∀ x, Calls Try.prog 6 #[.agg #[.int .i64 c, .int .i64 h, .int .i64 p]] x fun e y => e = .returned (errF b) ∧ Below x.heap.size x y)
    (c2 : ∀ x, Calls Try.prog 7 #[.agg #[.int .i64 c, .int .i64 h, .int .i64 p]] x fun e y => e = .returned (.bool b) ∧ Below x.heap.size x y)
    (c3 : ∀ x, Calls Try.prog 8 #[.agg #[.int .i64 c, .int .i64 h, .int .i64 p]] x fun e y => e = .returned (.bool t) ∧ Below x.heap.size x y)
    (c4 : ∀ x, Calls Try.prog 9 #[.agg #[.int .i64 c, .int .i64 h, .int .i64 p]] x fun e y => e = .returned (.bool u) ∧ Below x.heap.size x y)
    (ht : (bits .and .i64 p 1 == 1) = t) (hu : (bits .and .i64 p 2 == 2) = u) :
    Calls Try.prog 3 #[.agg #[.int .i64 c, .int .i64 h, .int .i64 p]] w fun e w' => e = .returned (.bool true) ∧ Below w.heap.size w w' := by
  have D := blk_new w #[.int .i64 c, .int .i64 h, .int .i64 p] 24
  have b0 := tbel1 w (.cells #[.int .i64 c, .int .i64 h, .int .i64 p] 24)
  have C1 := Lib.hid c1
  have C2 := Lib.hid c2
  have C3 := Lib.hid c3
  have C4 := Lib.hid c4
  have HT := Lib.hid ht
  have HU := Lib.hid hu
  clear c1 c2 c3 c4 ht hu
  cases b
  all_goals
    go_enter Try.func3, Try.ntmps3
    go_wp2_with fail
    refine (C1.out _).mono ?_
    rintro e w1 ⟨rfl, b1⟩
    generalize w.alloc _ = U at *
    have D1 := D.old b1
    obtain ⟨q0, q1, q2⟩ := D1.triple
    replace b1 := tstep b0 b1 b0.size
    clear b0 D C1
    simp only [errF, cond_true, cond_false]
    go_wp2_with fail
    refine (C2.out _).mono ?_
    rintro e w2 ⟨rfl, b2⟩
    have D2 := D1.old b2
    obtain ⟨r0, r1, r2⟩ := D2.triple
    replace b2 := tstep b1 b2 b1.size
    clear q0 q1 q2 D1 b1 C2
    go_wp2_with fail
    have CE := Lib.hid fun x (hx : Old w2 x) => And.intro (D2.old hx).triple (And.intro HT.out HU.out)
    clear r0 r1 r2 D2
    (refine wp_region_text (Old w2) 19 (by kernel_rfl) (by kernel_rfl) (Below.refl _ w2).drew ?_; simp only [List.take_succ_cons, List.take_zero, List.drop_succ_cons, List.drop_zero])
    repeat (first | (apply Text.sees (hw := by kernel_rfl); (focus (intro x hx K hK; have hc := CE.out x hx; go_simp; exact hK)); simp only [Act.put, List.getElem_toArray, List.getElem_cons_succ, List.getElem_cons_zero, List.setIfInBounds_toArray, List.set_cons_zero, List.set_cons_succ]) | (apply Text.idle; (focus (intro x hx K hK; go_simp; exact hK)); simp only [Act.put, List.getElem_toArray, List.getElem_cons_succ, List.getElem_cons_zero, List.setIfInBounds_toArray, List.set_cons_zero, List.set_cons_succ]))
    (refine Text.call (Old.call fun x hx => C3.out x) (by kernel_rfl) (fun _ => by kernel_rfl) ?_; simp only [Act.put, List.getElem_toArray, List.getElem_cons_succ, List.getElem_cons_zero, List.setIfInBounds_toArray, List.set_cons_zero, List.set_cons_succ])
    repeat (first | (apply Text.sees (hw := by kernel_rfl); (focus (intro x hx K hK; have hc := CE.out x hx; go_simp; exact hK)); simp only [Act.put, List.getElem_toArray, List.getElem_cons_succ, List.getElem_cons_zero, List.setIfInBounds_toArray, List.set_cons_zero, List.set_cons_succ]) | (apply Text.idle; (focus (intro x hx K hK; go_simp; exact hK)); simp only [Act.put, List.getElem_toArray, List.getElem_cons_succ, List.getElem_cons_zero, List.setIfInBounds_toArray, List.set_cons_zero, List.set_cons_succ]))
    (refine Text.call (Old.call fun x hx => C4.out x) (by kernel_rfl) (fun _ => by kernel_rfl) ?_; simp only [Act.put, List.getElem_toArray, List.getElem_cons_succ, List.getElem_cons_zero, List.setIfInBounds_toArray, List.set_cons_zero, List.set_cons_succ])
    repeat (first | (apply Text.sees (hw := by kernel_rfl); (focus (intro x hx K hK; have hc := CE.out x hx; go_simp; exact hK)); simp only [Act.put, List.getElem_toArray, List.getElem_cons_succ, List.getElem_cons_zero, List.setIfInBounds_toArray, List.set_cons_zero, List.set_cons_succ]) | (apply Text.idle; (focus (intro x hx K hK; go_simp; exact hK)); simp only [Act.put, List.getElem_toArray, List.getElem_cons_succ, List.getElem_cons_zero, List.setIfInBounds_toArray, List.set_cons_zero, List.set_cons_succ]))
    (refine Text.call (Old.call fun x hx => awake12 x) (by kernel_rfl) (fun _ => by kernel_rfl) ?_; simp only [Act.put, List.getElem_toArray, List.getElem_cons_succ, List.getElem_cons_zero, List.setIfInBounds_toArray, List.set_cons_zero, List.set_cons_succ])
    repeat (first | (apply Text.sees (hw := by kernel_rfl); (focus (intro x hx K hK; have hc := CE.out x hx; go_simp; exact hK)); simp only [Act.put, List.getElem_toArray, List.getElem_cons_succ, List.getElem_cons_zero, List.setIfInBounds_toArray, List.set_cons_zero, List.set_cons_succ]) | (apply Text.idle; (focus (intro x hx K hK; go_simp; exact hK)); simp only [Act.put, List.getElem_toArray, List.getElem_cons_succ, List.getElem_cons_zero, List.setIfInBounds_toArray, List.set_cons_zero, List.set_cons_succ]))
    intro x hx
    replace hx := tstep b2 hx b2.size
    clear CE C3 C4 HT HU
    go_wp2
    go_ret
    exact ⟨rfl, hx⟩
theorem figureTells_walk (c : Int) (hc : (Lit.int .i64 c).wf = true) (h : Int) (hh : (Lit.int .i64 h).wf = true) (p : Int) (hp : (Lit.int .i64 p).wf = true) (w : World) :
    Calls Try.prog 3 #[.agg #[.int .i64 c, .int .i64 h, .int .i64 p]] w fun e w' => e = .returned (.bool true) ∧ Below w.heap.size w w' :=
  ftells_walk c h p (rightF ⟨c, h, p⟩) (topF ⟨c, h, p⟩) (botF ⟨c, h, p⟩) w (fcheck_any ⟨c, h, p⟩) (rfright_any ⟨c, h, p⟩) (ftop_any ⟨c, h, p⟩) (fbottom_any ⟨c, h, p⟩)
    (by
      unfold topF
      rw [and_1]
      by_cases h : p % 2 = 1
      · simp [h]
      · simp [h])
    (by
      unfold botF
      rw [and_2]
      by_cases h : p / 2 % 2 = 1
      · simp [h]
      · rw [show p / 2 % 2 = 0 by omega]; decide)
end Go.Proofs.Ytgohglghmhhdnaa
