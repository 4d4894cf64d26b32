/- The contract of math/bits.Div64 over the cut. -/
import Derived.Test.YtojphpncidjdiaaWBits
import Derived.LoopTactic
import Derived.Outline
import Derived.Deep.QuietTactic
import Derived.BigQuiet
import Derived.Lib.Hide
import Derived.Deep.CutBlock
namespace Go.Proofs.Ytojphpncidjdiaa
open Go.RowKit
set_option linter.unusedVariables false

theorem ret_two {a b c d : Int} (h : a = c) (k : b = d) : Ending.returned (.tuple #[.int .u64 a, .int .u64 b]) = Ending.returned (.tuple #[.int .u64 c, .int .u64 d]) := by rw [h, k]
theorem lz64_s (x s : Nat) (h0 : 0 < x) (hx : x < 18446744073709551616) (hs : s = 64 - Lib.bitLen x) (w : World) :
    Calls Try.prog 85 #[.int .u64 x] w fun e w' => e = .returned (.int .i64 (s : Int)) ∧ w = w' := by
  subst hs; exact lz64_any x h0 hx w
theorem lz64_i (x : Int) (s : Nat) (h0 : 0 < x) (hx : x < 18446744073709551616) (hs : s = 64 - Lib.bitLen x.toNat) (w : World) :
    Calls Try.prog 85 #[.int .u64 x] w fun e w' => e = .returned (.int .i64 (s : Int)) ∧ w = w' := by
  have h := lz64_s x.toNat s (by omega) (by omega) hs w
  rwa [Int.toNat_of_nonneg (by omega)] at h
set_option maxRecDepth 100000 in
theorem div64_low (lo y : Nat) (hl : lo < 18446744073709551616) (hy : y < 18446744073709551616) (h : 0 < y) (w : World) :
    Calls Try.prog 77 #[.int .u64 (0 : Nat), .int .u64 lo, .int .u64 y] w fun e w' => e = .returned (.tuple #[.int .u64 ((lo / y : Nat) : Int), .int .u64 ((lo % y : Nat) : Int)]) ∧ ∃ n, w' = w.drewN n := by
  have b0 : ((y : Int) == 0) = false := by simp; omega
  go_enter Try.func77, Try.ntmps77
  go_wp2
  go_quiet (fail)
  go_wp2
  go_ret2
  exact ⟨ret_two (by rw [← Int.natCast_ediv, n_wrap _ (by have := Nat.div_le_self lo y; omega)]) (by rw [← Int.natCast_emod]), nq, rfl⟩
/-- A guess and its rest, at the head of a round. -/
def Guess (U u y1 y0 : Int) (a b : Value) : Prop :=
  ∃ q r : Int, a = .int .u64 q ∧ b = .int .u64 r ∧ 0 ≤ q ∧ 0 ≤ r ∧ q * y1 + r = U ∧ r < 4294967296 ∧ (U * 4294967296 + u) / (y1 * 4294967296 + y0) ≤ q ∧ q ≤ 4294967297
theorem guess_next {U u y1 y0 q r : Int} (n3 : 0 < y1) (n4 : 0 ≤ y0) (hq : q * y1 + r = U) (hc : 4294967296 ≤ q ∨ 4294967296 * r + u < q * y0) (hU : U < y1 * 4294967296 + y0) (hu : u < 4294967296)
    (hle : (U * 4294967296 + u) / (y1 * 4294967296 + y0) ≤ q) (nn : 0 ≤ (U * 4294967296 + u) / (y1 * 4294967296 + y0)) : (U * 4294967296 + u) / (y1 * 4294967296 + y0) ≤ q - 1 ∧ (q - 1) * y1 + (r + y1) = U ∧ 1 ≤ q := by
  have e : (q - 1) * y1 + (r + y1) = U := by rw [Int.sub_mul, Int.one_mul, ← hq]; omega
  have hY : 0 < y1 * 4294967296 + y0 := by omega
  have h : (U * 4294967296 + u) / (y1 * 4294967296 + y0) < q := by
    rcases hc with hc | hc
    · have : (U * 4294967296 + u) / (y1 * 4294967296 + y0) < 4294967296 := by
        rw [Int.ediv_lt_iff_lt_mul hY]
        omega
      omega
    · rw [Int.ediv_lt_iff_lt_mul hY, Int.mul_add, ← Int.mul_assoc, ← hq]
      generalize q * y1 = t at *
      generalize q * y0 = s at *
      omega
  exact ⟨by omega, e, by omega⟩
theorem guess_lo {U u y1 y0 q r : Int} (n3 : 0 < y1) (n4 : 0 ≤ y0) (hq : q * y1 + r = U) (hc : q * y0 ≤ 4294967296 * r + u)
    (hle : (U * 4294967296 + u) / (y1 * 4294967296 + y0) ≤ q) : q = (U * 4294967296 + u) / (y1 * 4294967296 + y0) := by
  have hY : 0 < y1 * 4294967296 + y0 := by omega
  refine Int.le_antisymm ?_ hle
  rw [Int.le_ediv_iff_mul_le hY, Int.mul_add, ← Int.mul_assoc, ← hq]
  generalize q * y1 = t at *
  generalize q * y0 = s at *
  omega
theorem guess_out {U u y1 y0 q r : Int} (n2 : 0 ≤ u) (n3 : 0 < y1) (n4 : 0 ≤ y0) (hq : q * y1 + r = U) (hb : 4294967296 ≤ r) (hq1 : q ≤ 4294967296) (h0 : y0 < 4294967296)
    (hle : (U * 4294967296 + u) / (y1 * 4294967296 + y0) ≤ q) : q = (U * 4294967296 + u) / (y1 * 4294967296 + y0) := by
  refine guess_lo n3 n4 hq ?_ hle
  have := Int.mul_le_mul hq1 (show y0 ≤ 4294967295 by omega) n4 (by omega)
  omega
theorem guess_start {U u y1 y0 : Int} (n1 : 0 ≤ U) (n2 : 0 ≤ u) (hu : u < 4294967296) (h1 : 2147483648 ≤ y1) (n4 : 0 ≤ y0) (h0 : y0 < 4294967296) (hU : U < y1 * 4294967296 + y0) :
    Guess U u y1 y0 (.int .u64 (U / y1)) (.int .u64 (U % y1)) ∨ 4294967296 ≤ y1 := by
  by_cases hy : 4294967296 ≤ y1
  · exact .inr hy
  refine .inl ⟨_, _, rfl, rfl, Int.ediv_nonneg n1 (by omega), Int.emod_nonneg _ (by omega), by rw [Int.mul_comm]; exact Int.mul_ediv_add_emod _ _, ?_, ?_, ?_⟩
  · have := Int.emod_lt_of_pos U (show 0 < y1 by omega); omega
  · have hY : 0 < y1 * 4294967296 + y0 := by omega
    refine Int.le_of_lt_add_one ?_
    rw [Int.ediv_lt_iff_lt_mul hY]
    have h3 := Int.lt_ediv_add_one_mul_self U (show 0 < y1 by omega)
    rw [Int.mul_add, ← Int.mul_assoc]
    have h4 : 0 ≤ (U / y1 + 1) * y0 := Int.mul_nonneg (by have := Int.ediv_nonneg n1 (show 0 ≤ y1 by omega); omega) n4
    omega
  · have : U / y1 < 4294967298 := by
      rw [Int.ediv_lt_iff_lt_mul (by omega)]
      omega
    omega
theorem wrap_mul (a b t : Int) (h : t = a * b) (h0 : 0 ≤ t) (hb : t < 18446744073709551616) : IntKind.u64.wrap (a * b) = t := by
  rw [← h, IntKind.wrap_u64]; omega
set_option maxRecDepth 100000 in
set_option maxHeartbeats 2000000 in
theorem div64_high (hi lo y Y y1 y0 U L u1 u0 q r Q1 R1 q' r' Q0 R0 : Int) (s : Nat) (hs : s ≤ 63) (hs' : Hid (s = 64 - Lib.bitLen y.toNat)) (hi0 : 0 < hi) (hh : hi < y) (hl0 : 0 ≤ lo) (hl : lo < 18446744073709551616) (hy : y < 18446744073709551616)
    (eY : IntKind.u64.wrap (y * 2 ^ s) = Y) (e1 : Y / 4294967296 = y1) (e0 : bits .and .u64 Y 4294967295 = y0)
    (eU : bits .or .u64 (IntKind.u64.wrap (hi * 2 ^ s)) (lo / 2 ^ (64 - s)) = U) (eL : IntKind.u64.wrap (lo * 2 ^ s) = L)
    (l1 : L / 4294967296 = u1) (l0 : bits .and .u64 L 4294967295 = u0) (nU : 0 ≤ U) (nL : 0 ≤ L) (nY : 0 ≤ Y) (ny0 : 0 ≤ y0) (nu1 : 0 ≤ u1) (nu0 : 0 ≤ u0) (nq : 0 ≤ q) (nr : 0 ≤ r) (nq' : 0 ≤ q') (nr' : 0 ≤ r') (nQ1 : 0 ≤ Q1) (nQ0 : 0 ≤ Q0) (nR1 : 0 ≤ R1) (nR0 : 0 ≤ R0) (b1 : 2147483648 ≤ y1) (b1' : y1 < 4294967296) (b0 : y0 < 4294967296) (hu1 : u1 < 4294967296) (hu0 : u0 < 4294967296)
    (hU : Hid (U < y1 * 4294967296 + y0)) (eq : IntKind.u64.wrap (U.tdiv y1) = q) (er : IntKind.u64.wrap (U - IntKind.u64.wrap (q * y1)) = r)
    (hG : Guess U u1 y1 y0 (.int .u64 q) (.int .u64 r)) (hQ1 : Hid (Q1 = (U * 4294967296 + u1) / (y1 * 4294967296 + y0)))
    (e21 : IntKind.u64.wrap (IntKind.u64.wrap (IntKind.u64.wrap (U * 4294967296) + u1) - IntKind.u64.wrap (Q1 * Y)) = R1)
    (hR1 : Hid (R1 < y1 * 4294967296 + y0)) (eq' : IntKind.u64.wrap (R1.tdiv y1) = q') (er' : IntKind.u64.wrap (R1 - IntKind.u64.wrap (q' * y1)) = r')
    (hG' : Guess R1 u0 y1 y0 (.int .u64 q') (.int .u64 r')) (hQ0 : Hid (Q0 = (R1 * 4294967296 + u0) / (y1 * 4294967296 + y0)))
    (e22 : IntKind.u64.wrap (IntKind.u64.wrap (IntKind.u64.wrap (R1 * 4294967296) + u0) - IntKind.u64.wrap (Q0 * Y)) = R0) (k1 : Q1 < 4294967296) (k0 : Q0 < 4294967296)
    (w : World) :
    Calls Try.prog 77 #[.int .u64 hi, .int .u64 lo, .int .u64 y] w fun e w' => e = .returned (.tuple #[.int .u64 (Q1 * 4294967296 + Q0), .int .u64 (R0 / 2 ^ s)]) ∧ w = w' := by
  have c0 : (y == 0) = false := by simp; omega
  have c1 : (hi == 0) = false := by simp; omega
  go_enter Try.func77, Try.ntmps77
  go_upto_block 0 with (go_at_call 85; refine (lz64_i y s (by omega) hy hs'.out _).mono ?_; rintro e w' ⟨rfl, rfl⟩)
  go_cut [15, 16] from 67 to 85 (fun a b wx => a = .int .u64 Q1 ∧ w = wx)
  case first =>
    go_wp2_with fail
    go_loop [15, 16] (fun a b => Guess U u1 y1 y0 a b) (fun a _ => (intOf a).toNat)
    case atStart => exact hG
    case round =>
      obtain ⟨q, r, rfl, rfl, nq, nr, hq, hr, hle, hq1⟩ := hrel
      have HQ := Lib.hid hq
      have HL := Lib.hid hle
      have HN1 := Lib.hid (show 0 ≤ (U * 4294967296 + u1) / (y1 * 4294967296 + y0) from Int.ediv_nonneg (by omega) (by omega))
      clear hq hle eY e1 e0 eU eL l1 l0 eq er hG e21 eq' er' hG' e22
      obtain ⟨t, ht⟩ : ∃ t, t = q * y0 := ⟨_, rfl⟩
      have HT := Lib.hid ht
      by_cases hc : 4294967296 ≤ q
      · have hn := guess_next (by omega) ny0 HQ.out (.inl hc) hU.out hu1 HL.out HN1.out
        have HN := Lib.hid hn
        have hq0 : 1 ≤ q := hn.2.2
        clear hn ht
        by_cases hb : 4294967296 ≤ r + y1
        · go_wp2
          go_meet
          case rel => exact ⟨congrArg (Value.int .u64) ((guess_out nu1 (by omega) ny0 HN.out.2.1 hb (by omega) b0 HN.out.1).trans hQ1.out.symm), rfl⟩
        · go_wp2
          go_round
          case rel => exact ⟨q - 1, r + y1, rfl, rfl, by omega, by omega, HN.out.2.1, by omega, HN.out.1, by omega⟩
          case measure => simp [intOf]; omega
      · have t0 : 0 ≤ t := by rw [ht]; exact Int.mul_nonneg nq ny0
        have t1 : t ≤ 18446744065119617025 := by rw [ht]; exact Int.mul_le_mul (show q ≤ 4294967295 by omega) (show y0 ≤ 4294967295 by omega) ny0 (by omega)
        have ew := wrap_mul q y0 t ht t0 (by omega)
        clear ht
        by_cases hc2 : 4294967296 * r + u1 < t
        · have hn := guess_next (by omega) ny0 HQ.out (.inr (by rw [← HT.out]; exact hc2)) hU.out hu1 HL.out HN1.out
          have HN := Lib.hid hn
          have hq0 : 1 ≤ q := hn.2.2
          clear hn
          by_cases hb : 4294967296 ≤ r + y1
          · go_wp2
            go_meet
            case rel => exact ⟨congrArg (Value.int .u64) ((guess_out nu1 (by omega) ny0 HN.out.2.1 hb (by omega) b0 HN.out.1).trans hQ1.out.symm), rfl⟩
          · go_wp2
            go_round
            case rel => exact ⟨q - 1, r + y1, rfl, rfl, by omega, by omega, HN.out.2.1, by omega, HN.out.1, by omega⟩
            case measure => simp [intOf]; omega
        · go_wp2
          go_meet
          case rel => exact ⟨congrArg (Value.int .u64) ((guess_lo (by omega) ny0 HQ.out (by rw [← HT.out]; omega) HL.out).trans hQ1.out.symm), rfl⟩
  case rest =>
    obtain ⟨rfl, rfl⟩ := hcut
    clear eq er hG eU
    go_upto_block 2 with (fail)
    go_cut [18, 16] from 102 to 120 (fun a b wx => a = .int .u64 Q0 ∧ w = wx)
    case first =>
      go_wp2_with fail
      go_loop [18, 16] (fun a b => Guess R1 u0 y1 y0 a b) (fun a _ => (intOf a).toNat)
      case atStart => exact hG'
      case round =>
        obtain ⟨q, r, rfl, rfl, nq, nr, hq, hr, hle, hq1⟩ := hrel
        have HQ := Lib.hid hq
        have HL := Lib.hid hle
        have HN1 := Lib.hid (show 0 ≤ (R1 * 4294967296 + u0) / (y1 * 4294967296 + y0) from Int.ediv_nonneg (by omega) (by omega))
        clear hq hle eY e1 e0 eL l1 l0 e21 eq' er' hG' e22
        obtain ⟨t, ht⟩ : ∃ t, t = q * y0 := ⟨_, rfl⟩
        have HT := Lib.hid ht
        by_cases hc : 4294967296 ≤ q
        · have hn := guess_next (by omega) ny0 HQ.out (.inl hc) hR1.out hu0 HL.out HN1.out
          have HN := Lib.hid hn
          have hq0 : 1 ≤ q := hn.2.2
          clear hn ht
          by_cases hb : 4294967296 ≤ r + y1
          · go_wp2
            go_meet
            case rel => exact ⟨congrArg (Value.int .u64) ((guess_out nu0 (by omega) ny0 HN.out.2.1 hb (by omega) b0 HN.out.1).trans hQ0.out.symm), rfl⟩
          · go_wp2
            go_round
            case rel => exact ⟨q - 1, r + y1, rfl, rfl, by omega, by omega, HN.out.2.1, by omega, HN.out.1, by omega⟩
            case measure => simp [intOf]; omega
        · have t0 : 0 ≤ t := by rw [ht]; exact Int.mul_nonneg nq ny0
          have t1 : t ≤ 18446744065119617025 := by rw [ht]; exact Int.mul_le_mul (show q ≤ 4294967295 by omega) (show y0 ≤ 4294967295 by omega) ny0 (by omega)
          have ew := wrap_mul q y0 t ht t0 (by omega)
          clear ht
          by_cases hc2 : 4294967296 * r + u0 < t
          · have hn := guess_next (by omega) ny0 HQ.out (.inr (by rw [← HT.out]; exact hc2)) hR1.out hu0 HL.out HN1.out
            have HN := Lib.hid hn
            have hq0 : 1 ≤ q := hn.2.2
            clear hn
            by_cases hb : 4294967296 ≤ r + y1
            · go_wp2
              go_meet
              case rel => exact ⟨congrArg (Value.int .u64) ((guess_out nu0 (by omega) ny0 HN.out.2.1 hb (by omega) b0 HN.out.1).trans hQ0.out.symm), rfl⟩
            · go_wp2
              go_round
              case rel => exact ⟨q - 1, r + y1, rfl, rfl, by omega, by omega, HN.out.2.1, by omega, HN.out.1, by omega⟩
              case measure => simp [intOf]; omega
          · go_wp2
            go_meet
            case rel => exact ⟨congrArg (Value.int .u64) ((guess_lo (by omega) ny0 HQ.out (by rw [← HT.out]; omega) HL.out).trans hQ0.out.symm), rfl⟩
    case rest =>
      obtain ⟨rfl, rfl⟩ := hcut
      go_wp2
      go_ret2
      exact ⟨rfl, rfl⟩
end Go.Proofs.Ytojphpncidjdiaa
