/- Box, Glue, Order, Least of package total and the document's; 'small' of the law. -/
import Derived.Test.YtomjglfamnacoaaTRow
import Derived.Test.YtomjglfamnacoaaBlk
namespace Go.Proofs.Ytomjglfamnacoaa
open Go.RowKit
set_option maxRecDepth 20000
set_option linter.unusedVariables false
set_option linter.unusedSimpArgs false

theorem box_any (h : Int) (w : World) : Calls Try.prog 29 #[.int .i64 h] w fun e w' => e = .returned (tot (boxT h)) ∧ Below w.heap.size w w' := by
  unfold tot boxT
  go_enter Try.func29, Try.ntmps29
  go_wp2
  exact bodyPost_ret (v := .agg #[.int .i64 h, .int .i64 0, .int .i64 0, .int .i64 0, .int .i64 0, .int .i64 0]) (by simp [results, Try.results29, go_sem]) rfl ⟨rfl, tbel1 w _⟩
theorem rbox_any (h : Int) (w : World) : Calls Try.prog 33 #[.int .i64 h] w fun e w' => e = .returned (tot (boxT h)) ∧ Below w.heap.size w w' := by
  unfold tot boxT
  go_enter Try.func33, Try.ntmps33
  go_wp2
  exact bodyPost_ret (v := .agg #[.int .i64 h, .int .i64 0, .int .i64 0, .int .i64 0, .int .i64 0, .int .i64 0]) (by simp [results, Try.results33, go_sem]) rfl ⟨rfl, tbel1 w _⟩
theorem glue_no (h s o r : Int) (w : World) (ho : o < 0 ∨ 4 ≤ o) : Calls Try.prog 30 #[.int .i64 h, .int .i64 s, .int .i64 o, .int .i64 r] w fun e w' => e = .returned (.agg #[.int .i64 h, .int .i64 0, .int .i64 0, .int .i64 0, .int .i64 0, .int .i64 r]) ∧ Below w.heap.size w w' := by
  by_cases h0 : o < 0
  all_goals
    go_enter Try.func30, Try.ntmps30
    go_wp2
    exact bodyPost_ret (v := .agg #[.int .i64 h, .int .i64 0, .int .i64 0, .int .i64 0, .int .i64 0, .int .i64 r]) (by simp [results, Try.results30, go_sem]) rfl ⟨rfl, tbel2 w _ _⟩
theorem glue_0 (h s r : Int) (w : World) : Calls Try.prog 30 #[.int .i64 h, .int .i64 s, .int .i64 0, .int .i64 r] w fun e w' => e = .returned (.agg #[.int .i64 h, .int .i64 s, .int .i64 0, .int .i64 0, .int .i64 0, .int .i64 r]) ∧ Below w.heap.size w w' := by
  go_enter Try.func30, Try.ntmps30
  go_wp2
  exact bodyPost_ret (v := .agg #[.int .i64 h, .int .i64 s, .int .i64 0, .int .i64 0, .int .i64 0, .int .i64 r]) (by simp [results, Try.results30, go_sem]) rfl ⟨rfl, tbel2 w _ _⟩
theorem glue_1 (h s r : Int) (w : World) : Calls Try.prog 30 #[.int .i64 h, .int .i64 s, .int .i64 1, .int .i64 r] w fun e w' => e = .returned (.agg #[.int .i64 h, .int .i64 0, .int .i64 s, .int .i64 0, .int .i64 0, .int .i64 r]) ∧ Below w.heap.size w w' := by
  go_enter Try.func30, Try.ntmps30
  go_wp2
  exact bodyPost_ret (v := .agg #[.int .i64 h, .int .i64 0, .int .i64 s, .int .i64 0, .int .i64 0, .int .i64 r]) (by simp [results, Try.results30, go_sem]) rfl ⟨rfl, tbel2 w _ _⟩
theorem glue_2 (h s r : Int) (w : World) : Calls Try.prog 30 #[.int .i64 h, .int .i64 s, .int .i64 2, .int .i64 r] w fun e w' => e = .returned (.agg #[.int .i64 h, .int .i64 0, .int .i64 0, .int .i64 s, .int .i64 0, .int .i64 r]) ∧ Below w.heap.size w w' := by
  go_enter Try.func30, Try.ntmps30
  go_wp2
  exact bodyPost_ret (v := .agg #[.int .i64 h, .int .i64 0, .int .i64 0, .int .i64 s, .int .i64 0, .int .i64 r]) (by simp [results, Try.results30, go_sem]) rfl ⟨rfl, tbel2 w _ _⟩
theorem glue_3 (h s r : Int) (w : World) : Calls Try.prog 30 #[.int .i64 h, .int .i64 s, .int .i64 3, .int .i64 r] w fun e w' => e = .returned (.agg #[.int .i64 h, .int .i64 0, .int .i64 0, .int .i64 0, .int .i64 s, .int .i64 r]) ∧ Below w.heap.size w w' := by
  go_enter Try.func30, Try.ntmps30
  go_wp2
  exact bodyPost_ret (v := .agg #[.int .i64 h, .int .i64 0, .int .i64 0, .int .i64 0, .int .i64 s, .int .i64 r]) (by simp [results, Try.results30, go_sem]) rfl ⟨rfl, tbel2 w _ _⟩
theorem glue_any (h s o r : Int) (w : World) : Calls Try.prog 30 #[.int .i64 h, .int .i64 s, .int .i64 o, .int .i64 r] w fun e w' => e = .returned (tot (glueT h s o r)) ∧ Below w.heap.size w w' := by
  by_cases h0 : o < 0 ∨ 4 ≤ o
  · have e : glueT h s o r = ⟨h, 0, 0, 0, 0, r⟩ := by unfold glueT; rw [if_neg (by omega), if_neg (by omega), if_neg (by omega), if_neg (by omega)]
    rw [e]
    exact glue_no h s o r w h0
  · rcases (show o = 0 ∨ o = 1 ∨ o = 2 ∨ o = 3 by omega) with rfl | rfl | rfl | rfl
    · exact glue_0 h s r w
    · exact glue_1 h s r w
    · exact glue_2 h s r w
    · exact glue_3 h s r w
theorem rglue_no (h s o r : Int) (w : World) (ho : o < 0 ∨ 4 ≤ o) : Calls Try.prog 34 #[.int .i64 h, .int .i64 s, .int .i64 o, .int .i64 r] w fun e w' => e = .returned (.agg #[.int .i64 h, .int .i64 0, .int .i64 0, .int .i64 0, .int .i64 0, .int .i64 r]) ∧ Below w.heap.size w w' := by
  by_cases h0 : o < 0
  all_goals
    go_enter Try.func34, Try.ntmps34
    go_wp2
    exact bodyPost_ret (v := .agg #[.int .i64 h, .int .i64 0, .int .i64 0, .int .i64 0, .int .i64 0, .int .i64 r]) (by simp [results, Try.results34, go_sem]) rfl ⟨rfl, tbel2 w _ _⟩
theorem rglue_0 (h s r : Int) (w : World) : Calls Try.prog 34 #[.int .i64 h, .int .i64 s, .int .i64 0, .int .i64 r] w fun e w' => e = .returned (.agg #[.int .i64 h, .int .i64 s, .int .i64 0, .int .i64 0, .int .i64 0, .int .i64 r]) ∧ Below w.heap.size w w' := by
  go_enter Try.func34, Try.ntmps34
  go_wp2
  exact bodyPost_ret (v := .agg #[.int .i64 h, .int .i64 s, .int .i64 0, .int .i64 0, .int .i64 0, .int .i64 r]) (by simp [results, Try.results34, go_sem]) rfl ⟨rfl, tbel2 w _ _⟩
theorem rglue_1 (h s r : Int) (w : World) : Calls Try.prog 34 #[.int .i64 h, .int .i64 s, .int .i64 1, .int .i64 r] w fun e w' => e = .returned (.agg #[.int .i64 h, .int .i64 0, .int .i64 s, .int .i64 0, .int .i64 0, .int .i64 r]) ∧ Below w.heap.size w w' := by
  go_enter Try.func34, Try.ntmps34
  go_wp2
  exact bodyPost_ret (v := .agg #[.int .i64 h, .int .i64 0, .int .i64 s, .int .i64 0, .int .i64 0, .int .i64 r]) (by simp [results, Try.results34, go_sem]) rfl ⟨rfl, tbel2 w _ _⟩
theorem rglue_2 (h s r : Int) (w : World) : Calls Try.prog 34 #[.int .i64 h, .int .i64 s, .int .i64 2, .int .i64 r] w fun e w' => e = .returned (.agg #[.int .i64 h, .int .i64 0, .int .i64 0, .int .i64 s, .int .i64 0, .int .i64 r]) ∧ Below w.heap.size w w' := by
  go_enter Try.func34, Try.ntmps34
  go_wp2
  exact bodyPost_ret (v := .agg #[.int .i64 h, .int .i64 0, .int .i64 0, .int .i64 s, .int .i64 0, .int .i64 r]) (by simp [results, Try.results34, go_sem]) rfl ⟨rfl, tbel2 w _ _⟩
theorem rglue_3 (h s r : Int) (w : World) : Calls Try.prog 34 #[.int .i64 h, .int .i64 s, .int .i64 3, .int .i64 r] w fun e w' => e = .returned (.agg #[.int .i64 h, .int .i64 0, .int .i64 0, .int .i64 0, .int .i64 s, .int .i64 r]) ∧ Below w.heap.size w w' := by
  go_enter Try.func34, Try.ntmps34
  go_wp2
  exact bodyPost_ret (v := .agg #[.int .i64 h, .int .i64 0, .int .i64 0, .int .i64 0, .int .i64 s, .int .i64 r]) (by simp [results, Try.results34, go_sem]) rfl ⟨rfl, tbel2 w _ _⟩
theorem rglue_any (h s o r : Int) (w : World) : Calls Try.prog 34 #[.int .i64 h, .int .i64 s, .int .i64 o, .int .i64 r] w fun e w' => e = .returned (tot (glueT h s o r)) ∧ Below w.heap.size w w' := by
  by_cases h0 : o < 0 ∨ 4 ≤ o
  · have e : glueT h s o r = ⟨h, 0, 0, 0, 0, r⟩ := by unfold glueT; rw [if_neg (by omega), if_neg (by omega), if_neg (by omega), if_neg (by omega)]
    rw [e]
    exact rglue_no h s o r w h0
  · rcases (show o = 0 ∨ o = 1 ∨ o = 2 ∨ o = 3 by omega) with rfl | rfl | rfl | rfl
    · exact rglue_0 h s r w
    · exact rglue_1 h s r w
    · exact rglue_2 h s r w
    · exact rglue_3 h s r w
end Go.Proofs.Ytomjglfamnacoaa
