/- The walks of the laws SpSpoilt and SpReckons, over the cut of stage 1. -/
import Derived.Test.YtelkcpgkbahcpaaBackEnd
namespace Go.Proofs.Ytelkcpgkbahcpaa
open Go.RowKit
set_option linter.unusedVariables false

theorem bstep {w w1 w2 : World} (h : Below w.heap.size w w1) (k : Below w1.heap.size w1 w2) : Below w.heap.size w w2 := h.trans (k.mono h.size)
theorem is_at (v : Int) (o : Bool) (w : World) :
    Calls Try.prog 13 #[.int .i64 v, .bool o, .agg #[.int .i64 v, .bool o]] w fun e w' => e = .returned (.bool true) ∧ Below w.heap.size w w' := is_same (v, o) w

theorem spReckons_walk (a : Int) (wa : (Lit.int .i64 a).wf = true) (b : Int) (wb : (Lit.int .i64 b).wf = true) (n : Int) (wn : (Lit.int .i64 n).wf = true) (w : World) :
    Calls Try.prog 3 #[.int .i64 a, .int .i64 b, .int .i64 n] w fun e w' => e = .returned (.bool true) ∧ Below w.heap.size w w' := by
  have ha := inR_wf wa
  have hb := inR_wf wb
  have hn := inR_wf wn
  clear wa wb wn
  have acc : Below w.heap.size w w := Below.refl _ _
  go_enter Try.func3, Try.ntmps3
  go_wp2_with (first
    | (go_at_call 7; refine (add_any _ _ _ ha hb).mono ?_; rintro e w' ⟨rfl, rfl⟩; unfold two)
    | (go_at_call 8; refine (sub_any _ _ _ ha hb).mono ?_; rintro e w' ⟨rfl, rfl⟩; unfold two)
    | (go_at_call 9; refine (mul_any _ _ _ ha hn).mono ?_; rintro e w' ⟨rfl, rfl⟩; unfold two)
    | (go_at_call 10; refine (up_any _ _ _ ha hb).mono ?_; rintro e w' ⟨rfl, rfl⟩; unfold two)
    | (go_at_call 11; refine (down_any _ _ _ ha hb).mono ?_; rintro e w' ⟨rfl, rfl⟩; unfold two)
    | (go_at_call 12; refine (neg_any _ _ ha).mono ?_; rintro e w' ⟨rfl, rfl⟩; unfold two)
    | (go_at_call 14; refine (radd_any _ _ _ ha hb).mono ?_; rintro e w1 ⟨rfl, b1⟩; replace acc := bstep acc b1; unfold pair)
    | (go_at_call 16; refine (rmul_any _ _ _ ha hn).mono ?_; rintro e w1 ⟨rfl, b1⟩; replace acc := bstep acc b1; unfold pair)
    | (go_at_call 17; refine (rup_any _ _ _ ha hb).mono ?_; rintro e w1 ⟨rfl, b1⟩; replace acc := bstep acc b1; unfold pair)
    | (go_at_call 18; refine (rdown_any _ _ _ ha hb).mono ?_; rintro e w1 ⟨rfl, b1⟩; replace acc := bstep acc b1; unfold pair)
    | (go_at_call 15; refine (rsub_any _ _ _ (by first | exact ha | decide) (by first | exact ha | exact hb)).mono ?_; rintro e w1 ⟨rfl, b1⟩; replace acc := bstep acc b1; unfold pair)
    | (go_at_call 13; refine (is_at _ _ _).mono ?_; rintro e w1 ⟨rfl, b1⟩; replace acc := bstep acc b1)
    | (go_at_call 19; refine (awake_any _).mono ?_; rintro e w1 ⟨rfl, b1⟩; replace acc := bstep acc b1))
  go_ret
  exact ⟨rfl, acc⟩

theorem stepA_zero (a : Int) (ha : inR a) : stepA (0, true) a = (a, true) := by
  unfold stepA; rw [if_pos rfl]; unfold addR; rw [show ((0, true) : Int × Bool).1 + a = a from by simp]; exact fit_pos ha
theorem stepS_true (a b : Int) : stepS (a, true) b = subR a b := if_pos rfl
theorem madd_first (b : Nat) (a : Int) (w : World) (hm : Met w b (0, true)) (ha : inR a) :
    Calls Try.prog 22 #[.pointer (some ⟨b, 0, none⟩), .int .i64 a] w fun e w' => e = .returned (.bool true) ∧ Met w' b (a, true) ∧ Below b w w' ∧ w.heap.size ≤ w'.heap.size := by
  have h := madd_any b (0, true) a w hm tidy_zero ha
  rw [stepA_zero a ha] at h; exact h
theorem msub_yes (b : Nat) (v a : Int) (w : World) (hm : Met w b (v, true)) (hv : inR v) (ha : inR a) (h : inR (v - a)) :
    Calls Try.prog 25 #[.pointer (some ⟨b, 0, none⟩), .int .i64 a] w fun e w' => e = .returned (.bool true) ∧ Met w' b (v - a, true) ∧ Below b w w' ∧ w.heap.size ≤ w'.heap.size := by
  have k := msub_ok b v a w hm hv ha
  rw [subR, fit_pos h] at k; exact k
theorem msub_off (b : Nat) (v a : Int) (w : World) (hm : Met w b (v, true)) (hv : inR v) (ha : inR a) (h : ¬ inR (v - a)) :
    Calls Try.prog 25 #[.pointer (some ⟨b, 0, none⟩), .int .i64 a] w fun e w' => e = .returned (.bool false) ∧ Met w' b (0, false) ∧ Below b w w' ∧ w.heap.size ≤ w'.heap.size := by
  have k := msub_ok b v a w hm hv ha
  rw [subR, fit_neg h] at k; exact k

theorem spoilt_yes (a b c : Int) (ha : inR a) (hb : inR b) (hc : inR c) (h : inR (a - b)) (w : World) :
    Calls Try.prog 6 #[.int .i64 a, .int .i64 b, .int .i64 c] w fun e w' => e = .returned (.bool true) ∧ Below w.heap.size w w' := by
  go_enter Try.func6, Try.ntmps6
  go_wp2_with (first
    | (go_at_call 20; (with_reducible refine (new_any _).mono ?_); rintro e w1 ⟨rfl, m1, b1, z1⟩)
    | (go_at_call 22; (with_reducible refine (madd_first _ _ _ m1 ha).mono ?_); rintro e w2 ⟨rfl, m2, b2, z2⟩)
    | (go_at_call 25; (with_reducible refine (msub_yes _ _ _ _ m2 ha hb h).mono ?_); rintro e w3 ⟨rfl, m3, b3, z3⟩; have acc : Below w.heap.size w w3 := (b1.trans b2).trans b3)
    | (go_at_call 22; (with_reducible refine (madd_nil _ _).mono ?_); rintro e w' ⟨rfl, rfl⟩)
    | (go_at_call 25; (with_reducible refine (msub_nil _ _).mono ?_); rintro e w' ⟨rfl, rfl⟩)
    | (go_at_call 23; (with_reducible refine (mval_nil _).mono ?_); rintro e w' ⟨rfl, rfl⟩)
    | (go_at_call 23; (with_reducible refine (mval_ok _ _ _ m3).mono ?_); rintro e w' ⟨rfl, rfl⟩)
    | (go_at_call 15; (with_reducible refine (rsub_yes _ _ _ ha hb h).mono ?_); rintro e w4 ⟨rfl, b4⟩; replace acc := bstep acc b4)
    | (go_at_call 13; (with_reducible refine (is_at _ _ _).mono ?_); rintro e w4 ⟨rfl, b4⟩; replace acc := bstep acc b4)
    | (go_at_call 19; (with_reducible refine (awake_any _).mono ?_); rintro e w4 ⟨rfl, b4⟩; replace acc := bstep acc b4))
  go_ret
  exact ⟨rfl, acc⟩
theorem spoilt_no (a b c : Int) (ha : inR a) (hb : inR b) (hc : inR c) (h : ¬ inR (a - b)) (w : World) :
    Calls Try.prog 6 #[.int .i64 a, .int .i64 b, .int .i64 c] w fun e w' => e = .returned (.bool true) ∧ Below w.heap.size w w' := by
  have hf : ∀ (x y : Value) w, Sem.run Try.prog (Instr.field 29 (.agg #[x, y]) 1) w = .ok y w := fun _ _ _ => by kernel_rfl
  go_enter Try.func6, Try.ntmps6
  go_wp2_with (first
    | (go_at_call 20; (with_reducible refine (new_any _).mono ?_); rintro e w1 ⟨rfl, m1, b1, z1⟩)
    | (go_at_call 22; (with_reducible refine (madd_first _ _ _ m1 ha).mono ?_); rintro e w2 ⟨rfl, m2, b2, z2⟩)
    | (go_at_call 25; (with_reducible refine (msub_off _ _ _ _ m2 ha hb h).mono ?_); rintro e w3 ⟨rfl, m3, b3, z3⟩; have acc : Below w.heap.size w w3 := (b1.trans b2).trans b3)
    | (go_at_call 22; (with_reducible refine (madd_no _ _ _ _ m3).mono ?_); rintro e w' ⟨rfl, rfl⟩)
    | (go_at_call 25; (with_reducible refine (msub_no _ _ _ _ m3).mono ?_); rintro e w' ⟨rfl, rfl⟩)
    | (go_at_call 22; (with_reducible refine (madd_nil _ _).mono ?_); rintro e w' ⟨rfl, rfl⟩)
    | (go_at_call 23; (with_reducible refine (mval_nil _).mono ?_); rintro e w' ⟨rfl, rfl⟩)
    | (go_at_call 23; (with_reducible refine (mval_no _ _ _ m3).mono ?_); rintro e w' ⟨rfl, rfl⟩)
    | (go_at_call 15; (with_reducible refine (rsub_no _ _ _ ha hb h).mono ?_); rintro e w4 ⟨rfl, b4⟩; replace acc := bstep acc b4)
    | (go_at_call 19; (with_reducible refine (awake_any _).mono ?_); rintro e w4 ⟨rfl, b4⟩; replace acc := bstep acc b4))
  go_ret
  exact ⟨rfl, acc⟩
theorem spSpoilt_walk (a : Int) (wa : (Lit.int .i64 a).wf = true) (b : Int) (wb : (Lit.int .i64 b).wf = true) (c : Int) (wc : (Lit.int .i64 c).wf = true) (w : World) :
    Calls Try.prog 6 #[.int .i64 a, .int .i64 b, .int .i64 c] w fun e w' => e = .returned (.bool true) ∧ Below w.heap.size w w' := by
  by_cases h : inR (a - b)
  · exact spoilt_yes a b c (inR_wf wa) (inR_wf wb) (inR_wf wc) h w
  · exact spoilt_no a b c (inR_wf wa) (inR_wf wb) (inR_wf wc) h w
end Go.Proofs.Ytelkcpgkbahcpaa
