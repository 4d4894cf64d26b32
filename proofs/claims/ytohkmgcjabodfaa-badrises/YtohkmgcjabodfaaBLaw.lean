/- The walks of the laws of stage 3. -/
import Derived.Test.YtohkmgcjabodfaaBOf
import Derived.BigQuiet
namespace Go.Proofs.Ytohkmgcjabodfaa
open Go.RowKit
set_option linter.unusedVariables false

theorem bdrewN {B : Nat} {a w : World} (h : Below B a w) (n : Nat) : Below B a (w.drewN n) := ⟨h.os, h.tape, h.output, h.size, h.block⟩
theorem awake_any (w : World) : Calls Try.prog 12 #[] w fun e w' => e = .returned (.bool true) ∧ Below w.heap.size w w' := by
  have a1 : ∀ w, Calls Try.prog 6 #[.int .i64 10, .int .i64 10] w fun e w' => e = .returned (.int .i64 100) ∧ Below w.heap.size w w' := fun w => of_any 10 10 w (by unfold inR; omega) (by unfold inR; omega)
  have a2 : ∀ w, Calls Try.prog 6 #[.int .i64 5, .int .i64 10] w fun e w' => e = .returned (.int .i64 12) ∧ Below w.heap.size w w' := fun w => of_any 5 10 w (by unfold inR; omega) (by unfold inR; omega)
  have a3 : ∀ w, Calls Try.prog 6 #[.int .i64 0, .int .i64 0] w fun e w' => e = .returned (.int .i64 0) ∧ Below w.heap.size w w' := fun w => of_any 0 0 w (by unfold inR; omega) (by unfold inR; omega)
  have a4 : ∀ w, Calls Try.prog 6 #[.int .i64 1, .int .i64 0] w fun e w' => e = .returned (.int .i64 10000) ∧ Below w.heap.size w w' := fun w => of_any 1 0 w (by unfold inR; omega) (by unfold inR; omega)
  go_enter Try.func12, Try.ntmps12
  go_wp2_with (go_at_call 6; first | ((with_reducible refine (a1 _).mono ?_); rintro e w1 ⟨rfl, b1⟩) | ((with_reducible refine (a2 _).mono ?_); rintro e w2 ⟨rfl, b2⟩) | ((with_reducible refine (a3 _).mono ?_); rintro e w3 ⟨rfl, b3⟩) | ((with_reducible refine (a4 _).mono ?_); rintro e w4 ⟨rfl, b4⟩))
  go_ret
  have b12 := b1.trans (b2.mono b1.size)
  have b13 := b12.trans (b3.mono b12.size)
  exact ⟨rfl, b13.trans (b4.mono b13.size)⟩
theorem tells_any (n h r : Int) (w : World) (hn : inR n) (hh : inR h) :
    Calls Try.prog 3 #[.int .i64 n, .int .i64 h, .int .i64 r] w fun e w' => e = .returned (.bool true) ∧ Below w.heap.size w w' := by
  have c1 := fun w => of_any n h w hn hh
  have c2 := fun w => rof_any n h w hn hh
  have c3 := fun w => quarter_any n h w hn hh
  have c4 := fun w => rquarter_any n h w hn hh
  have c5 := fun w => cube_any r w
  have c6 := fun w => rcube_any r w
  generalize ofR n h = x at *
  generalize quarterR n h = y at *
  generalize cubeR r = z at *
  go_enter Try.func3, Try.ntmps3
  go_wp2_with (first | (go_at_call 6; refine (c1 _).mono ?_; rintro e w1 ⟨rfl, b1⟩) | (go_at_call 7; refine (c2 _).mono ?_; rintro e w2 ⟨rfl, rfl⟩) | (go_at_call 8; refine (c3 _).mono ?_; rintro e w3 ⟨rfl, b3⟩; have b13 := b1.trans (b3.mono b1.size)) | (go_at_call 9; refine (c4 _).mono ?_; rintro e w4 ⟨rfl, rfl⟩) | (go_at_call 10; refine (c5 _).mono ?_; rintro e w5 ⟨rfl, b5⟩; have b15 := b13.trans (b5.mono b13.size)) | (go_at_call 11; refine (c6 _).mono ?_; rintro e w6 ⟨rfl, rfl⟩) | (go_at_call 12; refine (awake_any _).mono ?_; rintro e w7 ⟨rfl, b7⟩))
  go_ret
  exact ⟨rfl, b15.trans (b7.mono b15.size)⟩
theorem inR_wf {a : Int} (h : (Lit.int .i64 a).wf = true) : inR a := by
  simp [Lit.wf, IntKind.min, IntKind.max, IntKind.signed, IntKind.bits] at h
  unfold inR; omega
theorem badTells_walk (need : Int) (wn : (Lit.int .i64 need).wf = true) (has : Int) (wh : (Lit.int .i64 has).wf = true) (r : Int) (wr : (Lit.int .i64 r).wf = true) (w : World) :
    Calls Try.prog 3 #[.int .i64 need, .int .i64 has, .int .i64 r] w fun e w' => e = .returned (.bool true) ∧ Below w.heap.size w w' :=
  tells_any need has r w (inR_wf wn) (inR_wf wh)
theorem ends_nn (n h c : Int) (w : World) (hn : n < 0) (hh : h < 0)
    (c1 : ∀ w, Calls Try.prog 6 #[.int .i64 n, .int .i64 h] w fun e w' => e = .returned (.int .i64 0) ∧ Below w.heap.size w w') (c2 : ∀ w, Calls Try.prog 6 #[.int .i64 1, .int .i64 h] w fun e w' => e = .returned (.int .i64 10000) ∧ Below w.heap.size w w') (c3 : ∀ w, Calls Try.prog 6 #[.int .i64 n, .int .i64 n] w fun e w' => e = .returned (.int .i64 c) ∧ Below w.heap.size w w') :
    Calls Try.prog 5 #[.int .i64 n, .int .i64 h] w fun e w' => e = .returned (.bool true) ∧ Below w.heap.size w w' := by
  all_goals (
    go_enter Try.func5, Try.ntmps5
    go_wp2_with (first | (go_at_call 6; first | ((with_reducible refine (c1 _).mono ?_); rintro e w1 ⟨rfl, b1⟩) | ((with_reducible refine (c2 _).mono ?_); rintro e w2 ⟨rfl, b2⟩; have b12 := b1.trans (b2.mono b1.size)) | ((with_reducible refine (c3 _).mono ?_); rintro e w3 ⟨rfl, b3⟩; have b13 := b12.trans (b3.mono b12.size))) | (go_at_call 12; refine (awake_any _).mono ?_; rintro e w4 ⟨rfl, b4⟩))
    all_goals go_ret
    all_goals exact ⟨rfl, b13.trans (b4.mono b13.size)⟩)
theorem ends_nz (n c : Int) (w : World) (hn : n < 0)
    (c1 : ∀ w, Calls Try.prog 6 #[.int .i64 n, .int .i64 0] w fun e w' => e = .returned (.int .i64 0) ∧ Below w.heap.size w w') (c2 : ∀ w, Calls Try.prog 6 #[.int .i64 1, .int .i64 0] w fun e w' => e = .returned (.int .i64 10000) ∧ Below w.heap.size w w') (c3 : ∀ w, Calls Try.prog 6 #[.int .i64 n, .int .i64 n] w fun e w' => e = .returned (.int .i64 c) ∧ Below w.heap.size w w') :
    Calls Try.prog 5 #[.int .i64 n, .int .i64 0] w fun e w' => e = .returned (.bool true) ∧ Below w.heap.size w w' := by
  all_goals (
    go_enter Try.func5, Try.ntmps5
    go_wp2_with (first | (go_at_call 6; first | ((with_reducible refine (c1 _).mono ?_); rintro e w1 ⟨rfl, b1⟩) | ((with_reducible refine (c2 _).mono ?_); rintro e w2 ⟨rfl, b2⟩; have b12 := b1.trans (b2.mono b1.size)) | ((with_reducible refine (c3 _).mono ?_); rintro e w3 ⟨rfl, b3⟩; have b13 := b12.trans (b3.mono b12.size))) | (go_at_call 12; refine (awake_any _).mono ?_; rintro e w4 ⟨rfl, b4⟩))
    all_goals go_ret
    all_goals exact ⟨rfl, b13.trans (b4.mono b13.size)⟩)
theorem ends_np (n h c : Int) (w : World) (hn : n < 0) (hh : 1 ≤ h)
    (c1 : ∀ w, Calls Try.prog 6 #[.int .i64 n, .int .i64 h] w fun e w' => e = .returned (.int .i64 0) ∧ Below w.heap.size w w') (c2 : ∀ w, Calls Try.prog 6 #[.int .i64 1, .int .i64 0] w fun e w' => e = .returned (.int .i64 10000) ∧ Below w.heap.size w w') (c3 : ∀ w, Calls Try.prog 6 #[.int .i64 n, .int .i64 n] w fun e w' => e = .returned (.int .i64 c) ∧ Below w.heap.size w w') :
    Calls Try.prog 5 #[.int .i64 n, .int .i64 h] w fun e w' => e = .returned (.bool true) ∧ Below w.heap.size w w' := by
  all_goals (
    go_enter Try.func5, Try.ntmps5
    go_wp2_with (first | (go_at_call 6; first | ((with_reducible refine (c1 _).mono ?_); rintro e w1 ⟨rfl, b1⟩) | ((with_reducible refine (c2 _).mono ?_); rintro e w2 ⟨rfl, b2⟩; have b12 := b1.trans (b2.mono b1.size)) | ((with_reducible refine (c3 _).mono ?_); rintro e w3 ⟨rfl, b3⟩; have b13 := b12.trans (b3.mono b12.size))) | (go_at_call 12; refine (awake_any _).mono ?_; rintro e w4 ⟨rfl, b4⟩))
    all_goals go_ret
    all_goals exact ⟨rfl, b13.trans (b4.mono b13.size)⟩)
theorem ends_zn (h c : Int) (w : World) (hh : h < 0)
    (c1 : ∀ w, Calls Try.prog 6 #[.int .i64 0, .int .i64 h] w fun e w' => e = .returned (.int .i64 0) ∧ Below w.heap.size w w') (c2 : ∀ w, Calls Try.prog 6 #[.int .i64 1, .int .i64 h] w fun e w' => e = .returned (.int .i64 10000) ∧ Below w.heap.size w w') (c3 : ∀ w, Calls Try.prog 6 #[.int .i64 0, .int .i64 0] w fun e w' => e = .returned (.int .i64 c) ∧ Below w.heap.size w w') :
    Calls Try.prog 5 #[.int .i64 0, .int .i64 h] w fun e w' => e = .returned (.bool true) ∧ Below w.heap.size w w' := by
  all_goals (
    go_enter Try.func5, Try.ntmps5
    go_wp2_with (first | (go_at_call 6; first | ((with_reducible refine (c1 _).mono ?_); rintro e w1 ⟨rfl, b1⟩) | ((with_reducible refine (c2 _).mono ?_); rintro e w2 ⟨rfl, b2⟩; have b12 := b1.trans (b2.mono b1.size)) | ((with_reducible refine (c3 _).mono ?_); rintro e w3 ⟨rfl, b3⟩; have b13 := b12.trans (b3.mono b12.size))) | (go_at_call 12; refine (awake_any _).mono ?_; rintro e w4 ⟨rfl, b4⟩))
    all_goals go_ret
    all_goals exact ⟨rfl, b13.trans (b4.mono b13.size)⟩)
theorem ends_zz (w : World) 
    (c1 : ∀ w, Calls Try.prog 6 #[.int .i64 0, .int .i64 0] w fun e w' => e = .returned (.int .i64 0) ∧ Below w.heap.size w w') (c2 : ∀ w, Calls Try.prog 6 #[.int .i64 1, .int .i64 0] w fun e w' => e = .returned (.int .i64 10000) ∧ Below w.heap.size w w') :
    Calls Try.prog 5 #[.int .i64 0, .int .i64 0] w fun e w' => e = .returned (.bool true) ∧ Below w.heap.size w w' := by
  all_goals (
    go_enter Try.func5, Try.ntmps5
    go_wp2_with (first | (go_at_call 6; first | ((with_reducible refine (c1 _).mono ?_); rintro e w1 ⟨rfl, b1⟩) | ((with_reducible refine (c2 _).mono ?_); rintro e w2 ⟨rfl, b2⟩; have b12 := b1.trans (b2.mono b1.size))) | (go_at_call 12; refine (awake_any _).mono ?_; rintro e w4 ⟨rfl, b4⟩))
    go_ret
    have b13 := b12.trans (b1.mono b12.size)
    exact ⟨rfl, b13.trans (b4.mono b13.size)⟩)
theorem ends_zp (h c : Int) (w : World) (hh : 1 ≤ h)
    (c1 : ∀ w, Calls Try.prog 6 #[.int .i64 0, .int .i64 h] w fun e w' => e = .returned (.int .i64 0) ∧ Below w.heap.size w w') (c2 : ∀ w, Calls Try.prog 6 #[.int .i64 1, .int .i64 0] w fun e w' => e = .returned (.int .i64 10000) ∧ Below w.heap.size w w') (c3 : ∀ w, Calls Try.prog 6 #[.int .i64 0, .int .i64 0] w fun e w' => e = .returned (.int .i64 c) ∧ Below w.heap.size w w') :
    Calls Try.prog 5 #[.int .i64 0, .int .i64 h] w fun e w' => e = .returned (.bool true) ∧ Below w.heap.size w w' := by
  all_goals (
    go_enter Try.func5, Try.ntmps5
    go_wp2_with (first | (go_at_call 6; first | ((with_reducible refine (c1 _).mono ?_); rintro e w1 ⟨rfl, b1⟩) | ((with_reducible refine (c2 _).mono ?_); rintro e w2 ⟨rfl, b2⟩; have b12 := b1.trans (b2.mono b1.size)) | ((with_reducible refine (c3 _).mono ?_); rintro e w3 ⟨rfl, b3⟩; have b13 := b12.trans (b3.mono b12.size))) | (go_at_call 12; refine (awake_any _).mono ?_; rintro e w4 ⟨rfl, b4⟩))
    all_goals go_ret
    all_goals exact ⟨rfl, b13.trans (b4.mono b13.size)⟩)
theorem ends_pn (n h c : Int) (w : World) (hn : 1 ≤ n) (hh : h < 0) (hc : 7230584 < n ∨ c = 100)
    (c1 : ∀ w, Calls Try.prog 6 #[.int .i64 0, .int .i64 h] w fun e w' => e = .returned (.int .i64 0) ∧ Below w.heap.size w w') (c2 : ∀ w, Calls Try.prog 6 #[.int .i64 n, .int .i64 h] w fun e w' => e = .returned (.int .i64 10000) ∧ Below w.heap.size w w') (c3 : ∀ w, Calls Try.prog 6 #[.int .i64 n, .int .i64 n] w fun e w' => e = .returned (.int .i64 c) ∧ Below w.heap.size w w') :
    Calls Try.prog 5 #[.int .i64 n, .int .i64 h] w fun e w' => e = .returned (.bool true) ∧ Below w.heap.size w w' := by
  rcases hc with hc | rfl
  all_goals (
    go_enter Try.func5, Try.ntmps5
    go_wp2_with (first | (go_at_call 6; first | ((with_reducible refine (c1 _).mono ?_); rintro e w1 ⟨rfl, b1⟩) | ((with_reducible refine (c2 _).mono ?_); rintro e w2 ⟨rfl, b2⟩; have b12 := b1.trans (b2.mono b1.size)) | ((with_reducible refine (c3 _).mono ?_); rintro e w3 ⟨rfl, b3⟩; have b13 := b12.trans (b3.mono b12.size))) | (go_at_call 12; refine (awake_any _).mono ?_; rintro e w4 ⟨rfl, b4⟩))
    all_goals go_ret
    all_goals exact ⟨rfl, b13.trans (b4.mono b13.size)⟩)
theorem ends_pz (n c : Int) (w : World) (hn : 1 ≤ n) (hc : 7230584 < n ∨ c = 100)
    (c1 : ∀ w, Calls Try.prog 6 #[.int .i64 0, .int .i64 0] w fun e w' => e = .returned (.int .i64 0) ∧ Below w.heap.size w w') (c2 : ∀ w, Calls Try.prog 6 #[.int .i64 n, .int .i64 0] w fun e w' => e = .returned (.int .i64 10000) ∧ Below w.heap.size w w') (c3 : ∀ w, Calls Try.prog 6 #[.int .i64 n, .int .i64 n] w fun e w' => e = .returned (.int .i64 c) ∧ Below w.heap.size w w') :
    Calls Try.prog 5 #[.int .i64 n, .int .i64 0] w fun e w' => e = .returned (.bool true) ∧ Below w.heap.size w w' := by
  rcases hc with hc | rfl
  all_goals (
    go_enter Try.func5, Try.ntmps5
    go_wp2_with (first | (go_at_call 6; first | ((with_reducible refine (c1 _).mono ?_); rintro e w1 ⟨rfl, b1⟩) | ((with_reducible refine (c2 _).mono ?_); rintro e w2 ⟨rfl, b2⟩; have b12 := b1.trans (b2.mono b1.size)) | ((with_reducible refine (c3 _).mono ?_); rintro e w3 ⟨rfl, b3⟩; have b13 := b12.trans (b3.mono b12.size))) | (go_at_call 12; refine (awake_any _).mono ?_; rintro e w4 ⟨rfl, b4⟩))
    all_goals go_ret
    all_goals exact ⟨rfl, b13.trans (b4.mono b13.size)⟩)
theorem ends_pp (n h c : Int) (w : World) (hn : 1 ≤ n) (hh : 1 ≤ h) (hc : 7230584 < n ∨ c = 100)
    (c1 : ∀ w, Calls Try.prog 6 #[.int .i64 0, .int .i64 h] w fun e w' => e = .returned (.int .i64 0) ∧ Below w.heap.size w w') (c2 : ∀ w, Calls Try.prog 6 #[.int .i64 n, .int .i64 0] w fun e w' => e = .returned (.int .i64 10000) ∧ Below w.heap.size w w') (c3 : ∀ w, Calls Try.prog 6 #[.int .i64 n, .int .i64 n] w fun e w' => e = .returned (.int .i64 c) ∧ Below w.heap.size w w') :
    Calls Try.prog 5 #[.int .i64 n, .int .i64 h] w fun e w' => e = .returned (.bool true) ∧ Below w.heap.size w w' := by
  rcases hc with hc | rfl
  all_goals (
    go_enter Try.func5, Try.ntmps5
    go_wp2_with (first | (go_at_call 6; first | ((with_reducible refine (c1 _).mono ?_); rintro e w1 ⟨rfl, b1⟩) | ((with_reducible refine (c2 _).mono ?_); rintro e w2 ⟨rfl, b2⟩; have b12 := b1.trans (b2.mono b1.size)) | ((with_reducible refine (c3 _).mono ?_); rintro e w3 ⟨rfl, b3⟩; have b13 := b12.trans (b3.mono b12.size))) | (go_at_call 12; refine (awake_any _).mono ?_; rintro e w4 ⟨rfl, b4⟩))
    all_goals go_ret
    all_goals exact ⟨rfl, b13.trans (b4.mono b13.size)⟩)
theorem badEnds_walk (n : Int) (wn : (Lit.int .i64 n).wf = true) (h : Int) (wh : (Lit.int .i64 h).wf = true) (w : World) :
    Calls Try.prog 5 #[.int .i64 n, .int .i64 h] w fun e w' => e = .returned (.bool true) ∧ Below w.heap.size w w' := by
  have hn := inR_wf wn
  have hh := inR_wf wh
  have c3 := fun w => of_any n n w hn hn
  have in0 : inR 0 := by unfold inR; omega
  have in1 : inR 1 := by unfold inR; omega
  have none : ∀ a b, inR a → inR b → a < 1 → ∀ w, Calls Try.prog 6 #[.int .i64 a, .int .i64 b] w fun e w' => e = .returned (.int .i64 0) ∧ Below w.heap.size w w' := fun a b ha hb h w => by rw [← of_none a b h]; exact of_any a b w ha hb
  have all : ∀ a b, inR a → inR b → 1 ≤ a → b < 1 → ∀ w, Calls Try.prog 6 #[.int .i64 a, .int .i64 b] w fun e w' => e = .returned (.int .i64 10000) ∧ Below w.heap.size w w' := fun a b ha hb h1 h2 w => by rw [← of_all a b h1 h2]; exact of_any a b w ha hb
  rcases show n < 0 ∨ n = 0 ∨ 1 ≤ n by omega with h1 | rfl | h1
  · rcases show h < 0 ∨ h = 0 ∨ 1 ≤ h by omega with h2 | rfl | h2
    · exact ends_nn n h _ w h1 h2 (none _ _ hn hh (by omega)) (all _ _ in1 hh (by omega) (by omega)) c3
    · exact ends_nz n _ w h1 (none _ _ hn hh (by omega)) (all _ _ in1 hh (by omega) (by omega)) c3
    · exact ends_np n h _ w h1 h2 (none _ _ hn hh (by omega)) (all _ _ in1 in0 (by omega) (by omega)) c3
  · rcases show h < 0 ∨ h = 0 ∨ 1 ≤ h by omega with h2 | rfl | h2
    · exact ends_zn h _ w h2 (none _ _ hn hh (by omega)) (all _ _ in1 hh (by omega) (by omega)) c3
    · exact ends_zz w (none _ _ hn hh (by omega)) (all _ _ in1 hh (by omega) (by omega))
    · exact ends_zp h _ w h2 (none _ _ hn hh (by omega)) (all _ _ in1 in0 (by omega) (by omega)) c3
  · have hc : 7230584 < n ∨ ofR n n = 100 := by
      by_cases h3 : n ≤ 7230584
      · exact .inr (of_same n h1 h3)
      · exact .inl (by omega)
    rcases show h < 0 ∨ h = 0 ∨ 1 ≤ h by omega with h2 | rfl | h2
    · exact ends_pn n h _ w h1 h2 hc (none _ _ in0 hh (by omega)) (all _ _ hn hh (by omega) (by omega)) c3
    · exact ends_pz n _ w h1 hc (none _ _ in0 hh (by omega)) (all _ _ hn hh (by omega) (by omega)) c3
    · exact ends_pp n h _ w h1 h2 hc (none _ _ in0 hh (by omega)) (all _ _ hn in0 (by omega) (by omega)) c3
/-! ### BadRises -/
theorem rises_off (a b c d : Int) (w : World) (h : 7230584 < a ∨ 7230584 < b ∨ b < a ∨ d < c) :
    Calls Try.prog 4 #[.agg #[.int .i64 a, .int .i64 b, .int .i64 c, .int .i64 d]] w fun e w' => e = .returned (.bool true) ∧ Below w.heap.size w w' := by
  go_enter Try.func4, Try.ntmps4
  go_wp2
  go_quiet (fail)
  rcases h with h | h | h | h
  all_goals (
    go_wp2_with (go_at_call 12; refine (awake_any _).mono ?_; rintro e w4 ⟨rfl, b4⟩)
    all_goals go_ret
    all_goals exact ⟨rfl, (bdrewN (bel1 _ _) _).trans (b4.mono (bdrewN (bel1 _ _) _).size)⟩)
theorem rises_on (a b c d x y z : Int) (w : World) (h1 : a ≤ 7230584) (h2 : b ≤ 7230584) (h3 : a ≤ b) (h4 : c ≤ d) (e1 : x ≤ y) (e2 : z ≤ x) (e3 : 0 ≤ x) (e4 : x ≤ 10000)
    (c1 : ∀ w, Calls Try.prog 6 #[.int .i64 a, .int .i64 c] w fun e w' => e = .returned (.int .i64 x) ∧ Below w.heap.size w w')
    (c2 : ∀ w, Calls Try.prog 6 #[.int .i64 b, .int .i64 c] w fun e w' => e = .returned (.int .i64 y) ∧ Below w.heap.size w w')
    (c3 : ∀ w, Calls Try.prog 6 #[.int .i64 a, .int .i64 d] w fun e w' => e = .returned (.int .i64 z) ∧ Below w.heap.size w w') :
    Calls Try.prog 4 #[.agg #[.int .i64 a, .int .i64 b, .int .i64 c, .int .i64 d]] w fun e w' => e = .returned (.bool true) ∧ Below w.heap.size w w' := by
  go_enter Try.func4, Try.ntmps4
  go_wp2
  go_quiet (fail)
  go_wp2_with (first | (go_at_call 6; first | ((with_reducible refine (c1 _).mono ?_); rintro e w1 ⟨rfl, b1⟩; have b11 := (bdrewN (bel1 _ _) _).trans (b1.mono (bdrewN (bel1 _ _) _).size)) | ((with_reducible refine (c2 _).mono ?_); rintro e w2 ⟨rfl, b2⟩; have b12 := b11.trans (b2.mono b11.size)) | ((with_reducible refine (c3 _).mono ?_); rintro e w3 ⟨rfl, b3⟩; have b13 := b12.trans (b3.mono b12.size))) | (go_at_call 12; refine (awake_any _).mono ?_; rintro e w4 ⟨rfl, b4⟩))
  go_ret
  exact ⟨rfl, b13.trans (b4.mono b13.size)⟩
theorem badRises_walk (a : Int) (wa : (Lit.int .i64 a).wf = true) (b : Int) (wb : (Lit.int .i64 b).wf = true) (c : Int) (wc : (Lit.int .i64 c).wf = true) (d : Int) (wd : (Lit.int .i64 d).wf = true) (w : World) :
    Calls Try.prog 4 #[.agg #[.int .i64 a, .int .i64 b, .int .i64 c, .int .i64 d]] w fun e w' => e = .returned (.bool true) ∧ Below w.heap.size w w' := by
  by_cases h : 7230584 < a ∨ 7230584 < b ∨ b < a ∨ d < c
  · exact rises_off a b c d w h
  · exact rises_on a b c d _ _ _ w (by omega) (by omega) (by omega) (by omega) (of_need a b c (by omega) (by omega)) (of_has a c d (by omega) (by omega)) (of_bounds _ _).1 (of_bounds _ _).2
      (fun w => of_any a c w (inR_wf wa) (inR_wf wc)) (fun w => of_any b c w (inR_wf wb) (inR_wf wc)) (fun w => of_any a d w (inR_wf wa) (inR_wf wd))
end Go.Proofs.Ytohkmgcjabodfaa
