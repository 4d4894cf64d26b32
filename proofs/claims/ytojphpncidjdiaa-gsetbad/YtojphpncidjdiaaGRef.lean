/- The document's nums, Field, Right of layer 9. -/
import Derived.Test.YtojphpncidjdiaaGBase
namespace Go.Proofs.Ytojphpncidjdiaa
open Go.RowKit
set_option maxRecDepth 20000
set_option linter.unusedVariables false
set_option linter.unusedSimpArgs false

theorem nums9_any (n s0 s1 s2 s3 h : Int) (w : World) : Calls Try.prog 34 #[.agg #[.int .i64 n, .int .i64 s0, .int .i64 s1, .int .i64 s2, .int .i64 s3, .int .i64 h]] w fun e w' => e = .returned (.agg #[.int .i64 n, .int .i64 s0, .int .i64 s1, .int .i64 s2, .int .i64 s3, .int .i64 h]) ∧ Below w.heap.size w w' := by
  go_enter Try.func34, Try.ntmps34
  go_wp2
  exact bodyPost_ret (v := .agg #[.int .i64 n, .int .i64 s0, .int .i64 s1, .int .i64 s2, .int .i64 s3, .int .i64 h]) (by simp [results, Try.results34, go_sem]) rfl ⟨rfl, tbel2 w _ _⟩
theorem six_cell {w : World} {g : Nat} {T : TypeId} {n s0 s1 s2 s3 h : Int} (B : Blk w g #[.int .i64 n, .int .i64 s0, .int .i64 s1, .int .i64 s2, .int .i64 s3, .int .i64 h] T) (k : Nat) (hk : k < 6) : w.cell? ⟨g, k, none⟩ = some (.int .i64 ([n, s0, s1, s2, s3, h].getD k 0)) := by
  rw [B.cell k]
  rcases (show k = 0 ∨ k = 1 ∨ k = 2 ∨ k = 3 ∨ k = 4 ∨ k = 5 by omega) with rfl | rfl | rfl | rfl | rfl | rfl <;> rfl
theorem all_six {n s0 s1 s2 s3 h : Int} (H : ∀ j, j < 6 → fitB ([n, s0, s1, s2, s3, h].getD j 0) = true) : soundT ⟨n, s0, s1, s2, s3, h⟩ = true := by
  have a0 := H 0 (by omega)
  have a1 := H 1 (by omega)
  have a2 := H 2 (by omega)
  have a3 := H 3 (by omega)
  have a4 := H 4 (by omega)
  have a5 := H 5 (by omega)
  simp at a0 a1 a2 a3 a4 a5
  simp [soundT, a0, a1, a2, a3, a4, a5]
theorem not_six {n s0 s1 s2 s3 h : Int} (k : Nat) (hk : k < 6) (H : fitB ([n, s0, s1, s2, s3, h].getD k 0) = false) : soundT ⟨n, s0, s1, s2, s3, h⟩ = false := by
  rcases (show k = 0 ∨ k = 1 ∨ k = 2 ∨ k = 3 ∨ k = 4 ∨ k = 5 by omega) with rfl | rfl | rfl | rfl | rfl | rfl <;> (simp at H; simp [soundT, H])
set_option maxHeartbeats 1000000 in
theorem field_any (t : T6) (w : World) : Calls Try.prog 17 #[tot t] w fun e w' => e = .returned (.bool (soundT t)) ∧ Below w.heap.size w w' := by
  obtain ⟨n, s0, s1, s2, s3, h⟩ := t
  unfold tot
  dsimp only
  have c := nums9_any n s0 s1 s2 s3 h
  go_enter Try.func17, Try.ntmps17
  go_wp2_with (with_reducible refine (c _).mono ?_; rintro e w1 ⟨rfl, b1⟩)
  have b0 := tstep (tbel1 w (.cells #[.int .i64 n, .int .i64 s0, .int .i64 s1, .int .i64 s2, .int .i64 s3, .int .i64 h] 25)) b1 (by simp)
  have B := blk_new w1 #[.int .i64 n, .int .i64 s0, .int .i64 s1, .int .i64 s2, .int .i64 s3, .int .i64 h] 54
  replace b0 := b0.alloc b0.size (.cells #[.int .i64 n, .int .i64 s0, .int .i64 s1, .int .i64 s2, .int .i64 s3, .int .i64 h] 54)
  clear b1 c
  generalize hW : w1.alloc (.cells #[.int .i64 n, .int .i64 s0, .int .i64 s1, .int .i64 s2, .int .i64 s3, .int .i64 h] 54) = W at *
  generalize w1.heap.size = g at *
  clear hW
  go_loopw [4] (fun i wr => ∃ k : Nat, k ≤ 6 ∧ i = .int .i64 k ∧ wr = W ∧ ∀ j, j < k → fitB ([n, s0, s1, s2, s3, h].getD j 0) = true) (fun i _ => 6 - (intOf i).toNat)
  case atStart => exact ⟨0, by omega, rfl, rfl, fun j hj => by omega⟩
  case round =>
    obtain ⟨k, hk, rfl, rfl, H⟩ := hrel
    by_cases hlt : k < 6
    · have hc := six_cell B k hlt
      have hno := @not_six n s0 s1 s2 s3 h k hlt
      generalize hy : [n, s0, s1, s2, s3, h].getD k 0 = y at hc hno
      by_cases y0 : y < 0
      · go_wp2
        go_ret
        exact ⟨by rw [hno (fitB_no (.inl y0))]; rfl, b0⟩
      · by_cases y1 : y ≤ 1125899906842624
        · have y0' : 0 ≤ y := by omega
          go_wp2
          go_roundw
          case rel => exact ⟨k + 1, by omega, by go_num, trivial, fun j hj => by
            by_cases hj' : j < k
            · exact H j hj'
            · have e : j = k := by omega
              rw [e, hy]
              exact fitB_yes y0' y1⟩
          case measure => simp [intOf]; omega
        · have y1' : 1125899906842624 < y := by omega
          go_wp2
          go_ret
          exact ⟨by rw [hno (fitB_no (.inr y1'))]; rfl, b0⟩
    · obtain rfl : k = 6 := by omega
      go_wp2
      go_ret
      exact ⟨by rw [all_six H]; rfl, b0⟩
theorem rright9_any (t : T6) (high : Int) (w : World) : Calls Try.prog 8 #[tot t, .int .i64 high] w fun e w' => e = .returned (.bool (rightG t high)) ∧ Below w.heap.size w w' := by
  unfold rightG
  have c := field_any t
  generalize soundT t = b at c ⊢
  obtain ⟨n, s0, s1, s2, s3, h⟩ := t
  unfold tot at c ⊢
  dsimp only at c ⊢
  cases b
  · go_enter Try.func8, Try.ntmps8
    go_wp2_with (with_reducible refine (c _).mono ?_; rintro e w1 ⟨rfl, b1⟩)
    go_ret
    exact ⟨rfl, tstep (tbel1 w _) b1 (by simp)⟩
  · by_cases h1 : -1125899906842624 ≤ high
    · rw [decide_eq_true h1]
      go_enter Try.func8, Try.ntmps8
      go_wp2_with (with_reducible refine (c _).mono ?_; rintro e w1 ⟨rfl, b1⟩)
      go_ret
      exact ⟨rfl, tstep (tbel1 w _) b1 (by simp)⟩
    · rw [decide_eq_false h1]
      go_enter Try.func8, Try.ntmps8
      go_wp2_with (with_reducible refine (c _).mono ?_; rintro e w1 ⟨rfl, b1⟩)
      go_ret
      exact ⟨rfl, tstep (tbel1 w _) b1 (by simp)⟩
end Go.Proofs.Ytojphpncidjdiaa
