/- math/bits.Div64 divides, over the cut: for every high half below the divisor. -/
import Derived.Test.YtojphpncidjdiaaWDiv
import Derived.WalkSmall
namespace Go.Proofs.Ytojphpncidjdiaa
open Go.RowKit
set_option linter.unusedVariables false

theorem c_pow (s : Nat) : (2 : Int) ^ s = ((2 ^ s : Nat) : Int) := by rw [Int.natCast_pow]; rfl
theorem c_div (a b c d : Nat) : (((a * 4294967296 + b) / (c * 4294967296 + d) : Nat) : Int) = ((a : Int) * 4294967296 + b) / (c * 4294967296 + d) := by
  rw [Int.natCast_ediv]; congr 1 <;> omega
theorem step_eq {U u Y Q R : Nat} (hU : U < Y) (hY : Y < 18446744073709551616) (hu : u < 4294967296) (hQ : Q = (U * 4294967296 + u) / Y) (hR : R = (U * 4294967296 + u) % Y) :
    IntKind.u64.wrap (IntKind.u64.wrap (IntKind.u64.wrap ((U : Int) * 4294967296) + (u : Int)) - IntKind.u64.wrap ((Q : Int) * (Y : Int))) = (R : Int) := by
  have h := Nat.div_add_mod (U * 4294967296 + u) Y
  have hl := Nat.mod_lt (U * 4294967296 + u) (show 0 < Y by omega)
  rw [← hQ, ← hR, Nat.mul_comm] at h
  rw [← hR] at hl
  rw [← Int.natCast_mul Q Y]
  generalize Q * Y = z at *
  simp only [IntKind.wrap_u64]
  omega
theorem first_eq {U y1 : Nat} (h1 : 0 < y1) (hU : U < 18446744073709551616) :
    IntKind.u64.wrap ((U : Int).tdiv (y1 : Int)) = ((U / y1 : Nat) : Int) ∧ IntKind.u64.wrap ((U : Int) - IntKind.u64.wrap (((U / y1 : Nat) : Int) * (y1 : Int))) = ((U % y1 : Nat) : Int) := by
  have hd := Nat.div_le_self U y1
  have hm := Nat.div_add_mod U y1
  constructor
  · rw [Int.tdiv_eq_ediv_of_nonneg (by omega), ← Int.natCast_ediv, n_wrap _ (by omega)]
  · rw [← Int.natCast_mul, Nat.mul_comm]
    generalize y1 * (U / y1) = z at *
    rw [n_wrap _ (by omega), show (U : Int) - (z : Int) = ((U % y1 : Nat) : Int) by omega, n_wrap _ (by omega)]
theorem guess_nat {U u y1 y0 : Nat} (hu : u < 4294967296) (h1 : 2147483648 ≤ y1) (h1' : y1 < 4294967296) (h0 : y0 < 4294967296) (hU : U < y1 * 4294967296 + y0) :
    Guess U u y1 y0 (.int .u64 ((U / y1 : Nat) : Int)) (.int .u64 ((U % y1 : Nat) : Int)) := by
  rcases guess_start (U := U) (u := u) (y1 := y1) (y0 := y0) (by omega) (by omega) (by omega) (by omega) (by omega) (by omega) (by omega) with h | h
  · exact h
  · omega
theorem div64_hi (hi lo y : Nat) (hi0 : 0 < hi) (hh : hi < y) (hl : lo < 18446744073709551616) (hy : y < 18446744073709551616) (w : World) :
    Calls Try.prog 77 #[.int .u64 hi, .int .u64 lo, .int .u64 y] w fun e w' => e = .returned (.tuple #[.int .u64 (((hi * 18446744073709551616 + lo) / y : Nat) : Int), .int .u64 (((hi * 18446744073709551616 + lo) % y : Nat) : Int)]) ∧ w = w' := by
  obtain ⟨s, hs⟩ : ∃ s, s = 64 - Lib.bitLen y := ⟨_, rfl⟩
  obtain ⟨g1, g2, g3, g4⟩ := len_bd y (by omega) hy
  obtain ⟨sp, sq⟩ := shift_parts hi lo s (by omega) hl
  have hP := pow_pos2 s
  have hY1 : 9223372036854775808 ≤ y * 2 ^ s := by
    have := Nat.mul_le_mul_right (2 ^ s) g3
    rw [← Nat.pow_add, show Lib.bitLen y - 1 + s = 63 by omega] at this
    exact this
  have hY2 : y * 2 ^ s < 18446744073709551616 := by
    have := Nat.mul_lt_mul_of_pos_right g4 hP
    rw [← Nat.pow_add, show Lib.bitLen y + s = 64 by omega] at this
    exact this
  have hs63 : s ≤ 63 := by omega
  have hN : (hi * 18446744073709551616 + lo) * 2 ^ s < y * 18446744073709551616 * 2 ^ s := Nat.mul_lt_mul_of_pos_right (by omega) hP
  rw [Nat.mul_right_comm y] at hN
  have hdiv : (hi * 18446744073709551616 + lo) * 2 ^ s / (y * 2 ^ s) = (hi * 18446744073709551616 + lo) / y := Nat.mul_div_mul_right _ _ hP
  have hmod : (hi * 18446744073709551616 + lo) * 2 ^ s % (y * 2 ^ s) = (hi * 18446744073709551616 + lo) % y * 2 ^ s := Nat.mul_mod_mul_right _ _ _
  have hL : lo * 2 ^ s % 18446744073709551616 < 18446744073709551616 := Nat.mod_lt _ (by decide)
  have eY : IntKind.u64.wrap ((y : Int) * 2 ^ s) = ((y * 2 ^ s : Nat) : Int) := by rw [c_pow, ← Int.natCast_mul, n_wrap _ hY2]
  have hH : hi * 2 ^ s < 18446744073709551616 := Nat.lt_of_le_of_lt (Nat.mul_le_mul_right _ (Nat.le_of_lt hh)) hY2
  have hdl : lo / 2 ^ (64 - s) < 18446744073709551616 := Nat.lt_of_le_of_lt (Nat.div_le_self _ _) hl
  have eU : bits .or .u64 (IntKind.u64.wrap ((hi : Int) * 2 ^ s)) ((lo : Int) / 2 ^ (64 - s)) = ((hi * 2 ^ s + lo / 2 ^ (64 - s) : Nat) : Int) := by
    rw [c_pow, c_pow, ← Int.natCast_mul, n_wrap _ hH, ← Int.natCast_ediv, bits_or_u64_nat _ _ hH hdl, Nat.mul_comm hi, Nat.two_pow_add_eq_or_of_lt sq]
  have eL : IntKind.u64.wrap ((lo : Int) * 2 ^ s) = ((lo * 2 ^ s % 18446744073709551616 : Nat) : Int) := by rw [c_pow, ← Int.natCast_mul, n_wrapm]
  generalize hYd : y * 2 ^ s = Y at *
  generalize hi * 2 ^ s + lo / 2 ^ (64 - s) = U at *
  generalize lo * 2 ^ s % 18446744073709551616 = L at *
  generalize hNd : (hi * 18446744073709551616 + lo) * 2 ^ s = N at *
  have hUY : U < Y := by
    have : U * 18446744073709551616 < Y * 18446744073709551616 := by omega
    omega
  obtain ⟨y1, hy1⟩ : ∃ y1, y1 = Y / 4294967296 := ⟨_, rfl⟩
  obtain ⟨y0, hy0⟩ : ∃ y0, y0 = Y % 4294967296 := ⟨_, rfl⟩
  obtain ⟨u1, hu1⟩ : ∃ u1, u1 = L / 4294967296 := ⟨_, rfl⟩
  obtain ⟨u0, hu0⟩ : ∃ u0, u0 = L % 4294967296 := ⟨_, rfl⟩
  have hYs : Y = y1 * 4294967296 + y0 := by omega
  have hLs : L = u1 * 4294967296 + u0 := by omega
  have hR1 : (U * 4294967296 + u1) % Y < Y := Nat.mod_lt _ (by omega)
  obtain ⟨t1, t2⟩ := two_steps U u1 u0 Y (by omega)
  rw [← hLs, sp, hdiv] at t1
  rw [← hLs, sp, hmod] at t2
  have q1 := knuth_q (U := U) (u := u1) hUY (by omega)
  have q0 := knuth_q (U := (U * 4294967296 + u1) % Y) (u := u0) hR1 (by omega)
  have HY := Lib.hid eY
  have HU := Lib.hid eU
  have HL := Lib.hid eL
  clear eY eU eL
  have h := div64_high hi lo y Y y1 y0 U L u1 u0 (U / y1 : Nat) (U % y1 : Nat) ((U * 4294967296 + u1) / Y : Nat) ((U * 4294967296 + u1) % Y : Nat) ((U * 4294967296 + u1) % Y / y1 : Nat) ((U * 4294967296 + u1) % Y % y1 : Nat)
    (((U * 4294967296 + u1) % Y * 4294967296 + u0) / Y : Nat) (((U * 4294967296 + u1) % Y * 4294967296 + u0) % Y : Nat) s hs63 (by rw [Int.toNat_natCast]; exact hs) (by omega) (by omega) (by omega) (by omega) (by omega)
    HY.out (by omega) (by rw [n_and _ hY2, hy0]) HU.out HL.out (by omega) (by rw [n_and _ hL, hu0]) (by omega) (by omega) (by omega) (by omega) (by omega) (by omega)
    (Int.natCast_nonneg _) (Int.natCast_nonneg _) (Int.natCast_nonneg _) (Int.natCast_nonneg _) (Int.natCast_nonneg _) (Int.natCast_nonneg _) (Int.natCast_nonneg _) (Int.natCast_nonneg _)
    (by omega) (by omega) (by omega) (by omega) (by omega) (show (U : Int) < y1 * 4294967296 + y0 by omega) (first_eq (U := U) (y1 := y1) (by omega) (by omega)).1 (first_eq (U := U) (y1 := y1) (by omega) (by omega)).2 (guess_nat (U := U) (u := u1) (y1 := y1) (y0 := y0) (by omega) (by omega) (by omega) (by omega) (by omega))
    (show (((U * 4294967296 + u1) / Y : Nat) : Int) = ((U : Int) * 4294967296 + u1) / (y1 * 4294967296 + y0) by rw [hYs]; exact c_div _ _ _ _) (step_eq (U := U) (u := u1) hUY hY2 (by omega) rfl rfl)
    (show (((U * 4294967296 + u1) % Y : Nat) : Int) < y1 * 4294967296 + y0 by omega) (first_eq (U := (U * 4294967296 + u1) % Y) (y1 := y1) (by omega) (by omega)).1 (first_eq (U := (U * 4294967296 + u1) % Y) (y1 := y1) (by omega) (by omega)).2 (guess_nat (U := (U * 4294967296 + u1) % Y) (u := u0) (y1 := y1) (y0 := y0) (by omega) (by omega) (by omega) (by omega) (by omega))
    (show ((((U * 4294967296 + u1) % Y * 4294967296 + u0) / Y : Nat) : Int) = ((((U * 4294967296 + u1) % Y : Nat) : Int) * 4294967296 + u0) / (y1 * 4294967296 + y0) by
      generalize (U * 4294967296 + u1) % Y = Z; rw [hYs]; exact c_div _ _ _ _) (step_eq (U := (U * 4294967296 + u1) % Y) (u := u0) hR1 hY2 (by omega) rfl rfl) (by omega) (by omega) w
  refine h.mono ?_
  rintro e w' ⟨rfl, rfl⟩
  refine ⟨ret_two ?_ ?_, rfl⟩
  · rw [← t1]; omega
  · rw [t2, c_pow, ← Int.natCast_ediv, Nat.mul_div_cancel _ hP]
/-- What a call leaves that makes nothing, but may have drawn. -/
def Drew (w w' : World) : Prop := ∃ n, w' = w.drewN n
theorem Drew.below {w w' : World} (h : Drew w w') : Below w.heap.size w w' := by obtain ⟨n, rfl⟩ := h; exact below_drewN (Below.refl _ _) n
theorem div64_any (hi lo y : Nat) (hh : hi < y) (hl : lo < 18446744073709551616) (hy : y < 18446744073709551616) (w : World) :
    Calls Try.prog 77 #[.int .u64 hi, .int .u64 lo, .int .u64 y] w fun e w' => e = .returned (.tuple #[.int .u64 (((hi * 18446744073709551616 + lo) / y : Nat) : Int), .int .u64 (((hi * 18446744073709551616 + lo) % y : Nat) : Int)]) ∧ Drew w w' := by
  by_cases h0 : hi = 0
  · subst h0
    refine (div64_low lo y hl hy (by omega) w).mono fun e w' ⟨he, hw⟩ => ⟨?_, hw⟩
    rw [he, Nat.zero_mul, Nat.zero_add]
  · exact (div64_hi hi lo y (by omega) hh hl hy w).mono fun e w' ⟨he, hw⟩ => ⟨he, 0, hw ▸ rfl⟩
end Go.Proofs.Ytojphpncidjdiaa
