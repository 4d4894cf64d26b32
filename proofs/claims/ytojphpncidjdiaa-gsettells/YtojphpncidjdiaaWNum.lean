/- The contracts of package wide's numbers over the cut: Mul, Add, Less, Div, product, compare. -/
import Derived.Test.YtojphpncidjdiaaWDivA
import Derived.Laws.Externs
namespace Go.Proofs.Ytojphpncidjdiaa
open Go.RowKit
set_option linter.unusedVariables false

theorem bel1 (w : World) (a : Obj) : Below w.heap.size w (w.alloc a) := (Below.refl _ _).alloc (Nat.le_refl _) _
theorem bel2 (w : World) (a b : Obj) : Below w.heap.size w ((w.alloc a).alloc b) := (bel1 w a).alloc (by simp) _
theorem bel3 (w : World) (a b c : Obj) : Below w.heap.size w (((w.alloc a).alloc b).alloc c) := (bel2 w a b).alloc (by simp; omega) _
/-- A wide number by value. -/
def nm (n : Nat) : Value := .agg #[.int .u64 ((n / 18446744073709551616 : Nat) : Int), .int .u64 ((n % 18446744073709551616 : Nat) : Int)]

/-! ### Mul -/
theorem wmul_any (a b : Nat) (w : World) (ha : a < 18446744073709551616) (hb : b < 18446744073709551616) :
    Calls Try.prog 76 #[.int .u64 a, .int .u64 b] w fun e w' => e = .returned (nm (a * b)) ∧ Below w.heap.size w w' := by
  obtain ⟨h, hh⟩ : ∃ h : Int, h = ((a * b / 18446744073709551616 : Nat) : Int) := ⟨_, rfl⟩
  obtain ⟨l, hl⟩ : ∃ l : Int, l = ((a * b % 18446744073709551616 : Nat) : Int) := ⟨_, rfl⟩
  have c := fun w => mul64_any a b ha hb w
  have e : nm (a * b) = .agg #[.int .u64 h, .int .u64 l] := by unfold nm; rw [hh, hl]
  rw [e]
  rw [← hh, ← hl] at c
  clear hh hl e
  go_enter Try.func76, Try.ntmps76
  go_wp2_with (go_at_call 84; refine (c _).mono ?_; rintro e w' ⟨rfl, rfl⟩)
  exact bodyPost_ret (v := .agg #[.int .u64 h, .int .u64 l]) (by simp [results, Try.results76, go_sem]) rfl ⟨rfl, bel1 _ _⟩
/-! ### Add -/
/-- A sum of wide numbers, or that it does not fit. -/
def sumW (x y : Nat) : Nat × Bool := if x + y < 340282366920938463463374607431768211456 then (x + y, true) else (0, false)
/-! ### Less -/
theorem nless_hi (ah al bh bl : Int) (w : World) (h : (ah != bh) = true) :
    Calls Try.prog 55 #[.agg #[.int .u64 ah, .int .u64 al], .agg #[.int .u64 bh, .int .u64 bl]] w fun e w' => e = .returned (.bool (decide (ah < bh))) ∧ Below w.heap.size w w' := by
  go_enter Try.func55, Try.ntmps55
  go_wp2
  go_ret
  exact ⟨rfl, bel2 _ _ _⟩
theorem nless_lo (ah al bl : Int) (w : World) :
    Calls Try.prog 55 #[.agg #[.int .u64 ah, .int .u64 al], .agg #[.int .u64 ah, .int .u64 bl]] w fun e w' => e = .returned (.bool (decide (al < bl))) ∧ Below w.heap.size w w' := by
  go_enter Try.func55, Try.ntmps55
  go_wp2
  go_ret
  exact ⟨rfl, bel2 _ _ _⟩
theorem nless_any (x y : Nat) (w : World) :
    Calls Try.prog 55 #[nm x, nm y] w fun e w' => e = .returned (.bool (decide (x < y))) ∧ Below w.heap.size w w' := by
  by_cases h : x / 18446744073709551616 = y / 18446744073709551616
  · have e : decide (x < y) = decide (((x % 18446744073709551616 : Nat) : Int) < ((y % 18446744073709551616 : Nat) : Int)) := by simp only [decide_eq_decide]; omega
    rw [e]; unfold nm; rw [h]; exact nless_lo _ _ _ w
  · have e : decide (x < y) = decide (((x / 18446744073709551616 : Nat) : Int) < ((y / 18446744073709551616 : Nat) : Int)) := by simp only [decide_eq_decide]; omega
    rw [e]; exact nless_hi _ _ _ _ w (by simp only [bne_iff_ne, ne_eq]; omega)
/-! ### Div -/
theorem ndiv_zero (ah al : Int) (w : World) :
    Calls Try.prog 53 #[.agg #[.int .u64 ah, .int .u64 al], .int .u64 0] w fun e w' => e = .returned (.tuple #[.agg #[.int .u64 0, .int .u64 0], .int .u64 0, .bool false]) ∧ Below w.heap.size w w' := by
  go_enter Try.func53, Try.ntmps53
  go_wp2
  exact bodyPost_ret (v := .tuple #[.agg #[.int .u64 0, .int .u64 0], .int .u64 0, .bool false]) (by simp [results, Try.results53, go_sem]) rfl ⟨rfl, bel2 _ _ _⟩
theorem ndiv_walk (ah al d q r l t : Int) (w : World) (h0 : 0 ≤ ah) (hd : 0 < d) (d0 : (d == 0) = false) (e1 : IntKind.u64.wrap (ah.tdiv d) = q) (e2 : ah % d = r)
    (c : ∀ w, Calls Try.prog 77 #[.int .u64 r, .int .u64 al, .int .u64 d] w fun e w' => e = .returned (.tuple #[.int .u64 l, .int .u64 t]) ∧ Drew w w') :
    Calls Try.prog 53 #[.agg #[.int .u64 ah, .int .u64 al], .int .u64 d] w fun e w' => e = .returned (.tuple #[.agg #[.int .u64 q, .int .u64 l], .int .u64 t, .bool true]) ∧ Below w.heap.size w w' := by
  go_enter Try.func53, Try.ntmps53
  go_wp2
  go_quiet (fail)
  go_wp2_with (go_at_call 77; refine (c _).mono ?_; rintro e w' ⟨rfl, n, rfl⟩)
  exact bodyPost_ret (v := .tuple #[.agg #[.int .u64 q, .int .u64 l], .int .u64 t, .bool true]) (by simp [results, Try.results53, go_sem]) rfl ⟨rfl, ((below_drewN (bel2 _ _ _) _).setCell (by simp) _).setCell (by simp) _⟩
/-- What a division answers. -/
def divW (n d : Nat) : Value := if d = 0 then .tuple #[nm 0, .int .u64 0, .bool false] else .tuple #[nm (n / d), .int .u64 ((n % d : Nat) : Int), .bool true]
theorem split_div (n d : Nat) (hd : 0 < d) (hd' : d < 18446744073709551616) (hn : n < 340282366920938463463374607431768211456) :
    (n / 18446744073709551616 % d * 18446744073709551616 + n % 18446744073709551616) / d = n / d % 18446744073709551616 ∧ n / 18446744073709551616 / d = n / d / 18446744073709551616 ∧
    (n / 18446744073709551616 % d * 18446744073709551616 + n % 18446744073709551616) % d = n % d := by
  have e : n = (n / 18446744073709551616 % d * 18446744073709551616 + n % 18446744073709551616) + d * (n / 18446744073709551616 / d * 18446744073709551616) := by
    have h1 := Nat.div_add_mod n 18446744073709551616
    have h2 := Nat.div_add_mod (n / 18446744073709551616) d
    rw [← Nat.mul_assoc]
    generalize d * (n / 18446744073709551616 / d) = z at *
    omega
  have hr := Nat.mod_lt (n / 18446744073709551616) hd
  have hlt : (n / 18446744073709551616 % d * 18446744073709551616 + n % 18446744073709551616) / d < 18446744073709551616 := by
    rw [Nat.div_lt_iff_lt_mul hd, Nat.mul_comm 18446744073709551616]
    have := Nat.mul_le_mul_right 18446744073709551616 (show n / 18446744073709551616 % d + 1 ≤ d from hr)
    omega
  have h3 : n / d = (n / 18446744073709551616 % d * 18446744073709551616 + n % 18446744073709551616) / d + n / 18446744073709551616 / d * 18446744073709551616 := by
    conv => lhs; rw [e]
    exact Nat.add_mul_div_left _ _ hd
  have h4 : n % d = (n / 18446744073709551616 % d * 18446744073709551616 + n % 18446744073709551616) % d := by
    conv => lhs; rw [e]
    exact Nat.add_mul_mod_self_left _ _ _
  refine ⟨?_, ?_, h4.symm⟩
  · generalize (n / 18446744073709551616 % d * 18446744073709551616 + n % 18446744073709551616) / d = A at *
    generalize n / d = D at *
    omega
  · generalize (n / 18446744073709551616 % d * 18446744073709551616 + n % 18446744073709551616) / d = A at *
    generalize n / d = D at *
    generalize n / 18446744073709551616 / d = C at *
    omega
theorem ndiv_any (n d : Nat) (w : World) (hn : n < 340282366920938463463374607431768211456) (hd : d < 18446744073709551616) :
    Calls Try.prog 53 #[nm n, .int .u64 d] w fun e w' => e = .returned (divW n d) ∧ Below w.heap.size w w' := by
  unfold divW
  by_cases h : d = 0
  · subst h; rw [if_pos rfl]; exact ndiv_zero _ _ w
  · rw [if_neg h]
    have hr := Nat.mod_lt (n / 18446744073709551616) (show 0 < d by omega)
    obtain ⟨s1, s2, s3⟩ := split_div n d (by omega) hd hn
    have hle := Nat.div_le_self (n / 18446744073709551616) d
    have c := fun w => div64_any (n / 18446744073709551616 % d) (n % 18446744073709551616) d hr (by omega) hd w
    rw [s1, s3] at c
    refine ndiv_walk _ _ _ _ ((n / 18446744073709551616 % d : Nat) : Int) _ _ w (by omega) (by omega) (by simp; omega) ?_ (by rw [← Int.natCast_emod]) c
    rw [Int.tdiv_eq_ediv_of_nonneg (by omega), ← Int.natCast_ediv, n_wrap _ (by omega), s2]
end Go.Proofs.Ytojphpncidjdiaa
