/- The walk of AnchorNone. -/
import Derived.Test.YtniipfpfilenmaaHAw
namespace Go.Proofs.Ytniipfpfilenmaa
open Go.RowKit
set_option maxRecDepth 20000
set_option linter.unusedVariables false
set_option linter.unusedSimpArgs false

theorem none_nums (kd a b : Int) : numsA ([] : List I7) kd a b ([] : List I7).length = [] := rfl
theorem none_ahead (n : Int) : aheadA ([] : List I7) [] (clN n ([] : List I7).length) = zeroA := by
  rw [show clN n ([] : List I7).length = 0 by unfold clN; simp]
  rfl
theorem none_due (n : Int) : dueA ([] : List I7) [] (clN n ([] : List I7).length) = zeroA := by
  rw [show clN n ([] : List I7).length = 0 by unfold clN; simp]
  rfl
theorem none_begun (n : Int) : cntB (atE (entN ([] : List I7) 5 ([] : List I7).length)) n = 0 := rfl
set_option maxHeartbeats 2000000 in
theorem anchorNone_walk (a : Int) (ha : (Lit.int .i64 a).wf = true) (b : Int) (hb : (Lit.int .i64 b).wf = true) (w : World) :
    Calls Try.prog 5 #[.int .i64 a, .int .i64 b] w fun e w' => e = .returned (.bool true) ∧ Below w.heap.size w w' := by
  have M := fun x : World => (show MapV x (.pointer none) ([] : List I7) ([] : List F3) from .inl ⟨rfl, rfl⟩)
  have hz : ∀ k, inI (([] : List I7).getD k zeroI) := fun k => zeroI_in
  have c1 := fun x => hnotes_any (.pointer none) [] [] a b x (M x) (by decide) hz
  have c2 := fun x => hfloats_any (.pointer none) [] [] a b x (M x) (by decide) hz
  have c3 := fun x => hbegun_any (.pointer none) [] [] a x (M x) (by decide)
  have c4 := fun x => hahead_any (.pointer none) [] [] a x (M x) (by decide)
  have c5 := fun x => hdue_any (.pointer none) [] [] a x (M x) (by decide)
  have cw := awake21
  simp only [none_nums, none_ahead, none_due, none_begun] at c1 c2 c3 c4 c5
  unfold ar3 zeroA at c4 c5
  dsimp only at c4 c5
  clear M hz ha hb
  go_enter Try.func5, Try.ntmps5
  go_wp2_with fail
  refine (c1 _).mono ?_
  rintro e w1 ⟨u1, rfl, N1, b1⟩
  obtain ⟨a1, k1, rfl, _, _, _⟩ := N1.row
  clear c1 N1
  go_wp2_with fail
  refine (c2 _).mono ?_
  rintro e w2 ⟨u2, rfl, N2, b2⟩
  obtain ⟨a2, k2, rfl, _, _, _⟩ := N2.row
  replace b2 := tstep b1 b2 b1.size
  clear c2 N2 b1
  go_wp2_with fail
  refine (c3 _).mono ?_
  rintro e w3 ⟨rfl, b3⟩
  replace b3 := tstep b2 b3 b2.size
  clear c3 b2
  go_wp2_with fail
  refine (c4 _).mono ?_
  rintro e w4 ⟨rfl, b4⟩
  replace b4 := tstep b3 b4 b3.size
  clear c4 b3
  go_wp2_with fail
  refine (c5 _).mono ?_
  rintro e w5 ⟨rfl, b5⟩
  replace b5 := tstep b4 b5 b4.size
  clear c5 b4
  go_wp2_with fail
  refine (cw _).mono ?_
  rintro e w6 ⟨rfl, b6⟩
  replace b6 := tstep b5 b6 b5.size
  go_wp2
  go_ret
  exact ⟨rfl, b6⟩
end Go.Proofs.Ytniipfpfilenmaa
