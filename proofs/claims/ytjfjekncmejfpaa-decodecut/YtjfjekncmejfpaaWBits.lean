/- Plain mathematics for stage 2: bits of sums, differences, doubles, products and quotients; the school's division by halves. The contracts of math/bits (Mul64, Len64, LeadingZeros64) over the cut. -/
import Derived.WalkKit
import Derived.Test.YtjfjekncmejfpaaRows
import Derived.Lib.Mul64
import Derived.Lib.BitFns
import Derived.Lib.ItoaNum
import Derived.Laws.Bits64b
namespace Go.Proofs.Ytjfjekncmejfpaa
open Go.RowKit

theorem tb (x k : Nat) : x.testBit k = decide (x / 2 ^ k % 2 = 1) := Nat.testBit_eq_decide_div_mod_eq
theorem bit2 (x k : Nat) : x / 2 ^ k % 2 = 0 ∨ x / 2 ^ k % 2 = 1 := by omega
theorem mod_succ (x k : Nat) : x % 2 ^ (k + 1) = x % 2 ^ k + 2 ^ k * (x / 2 ^ k % 2) := Nat.mod_pow_succ
theorem pow_pos2 (k : Nat) : 0 < 2 ^ k := Nat.two_pow_pos k

/-- The carry into place k of x + y. -/
def car (x y k : Nat) : Bool := decide (2 ^ k ≤ x % 2 ^ k + y % 2 ^ k)
theorem car_zero (x y : Nat) : car x y 0 = false := by simp [car, Nat.mod_one]
/-- A bit as a number. -/
def b2 (b : Bool) : Nat := if b then 1 else 0
theorem b2_tb (x k : Nat) : b2 (x.testBit k) = x / 2 ^ k % 2 := by
  rw [tb]; unfold b2; rcases bit2 x k with h | h <;> simp [h]
theorem car_succ (x y k : Nat) : car x y (k + 1) = decide (1 < b2 (x.testBit k) + b2 (y.testBit k) + b2 (car x y k)) := by
  rw [b2_tb, b2_tb]
  unfold car b2
  rw [mod_succ, mod_succ, Nat.pow_succ]
  have h1 := Nat.mod_lt x (pow_pos2 k)
  have h2 := Nat.mod_lt y (pow_pos2 k)
  generalize 2 ^ k = p at *
  generalize x % p = X at *
  generalize y % p = Y at *
  rcases (show x / p % 2 = 0 ∨ x / p % 2 = 1 by omega) with h | h <;> rcases (show y / p % 2 = 0 ∨ y / p % 2 = 1 by omega) with h' | h' <;> simp only [h, h', decide_eq_true_eq, decide_eq_decide] <;> split <;> omega
theorem add_div (x y k : Nat) : (x + y) / 2 ^ k = x / 2 ^ k + y / 2 ^ k + b2 (car x y k) := by
  rw [Nat.add_div (pow_pos2 k)]; unfold car b2; simp
theorem add_bit (x y k : Nat) : (x + y).testBit k = decide ((b2 (x.testBit k) + b2 (y.testBit k) + b2 (car x y k)) % 2 = 1) := by
  rw [tb, b2_tb, b2_tb, add_div]
  simp only [decide_eq_decide]; omega
theorem car_top {x y k : Nat} (hx : x < 2 ^ k) (hy : y < 2 ^ k) : car x y k = decide (2 ^ k ≤ x + y) := by
  unfold car; rw [Nat.mod_eq_of_lt hx, Nat.mod_eq_of_lt hy]

/-- The borrow into place k of x - y. -/
def bor (x y k : Nat) : Bool := decide (x % 2 ^ k < y % 2 ^ k)
theorem bor_zero (x y : Nat) : bor x y 0 = false := by simp [bor, Nat.mod_one]
theorem bor_car (y d k : Nat) : bor (y + d) y k = car y d k := by
  unfold bor car
  rw [Nat.add_mod]
  have h1 := Nat.mod_lt y (pow_pos2 k)
  have h2 := Nat.mod_lt d (pow_pos2 k)
  generalize 2 ^ k = p at *
  generalize y % p = Y at *
  generalize d % p = D at *
  simp only [decide_eq_decide]
  by_cases h : Y + D < p
  · rw [Nat.mod_eq_of_lt h]; omega
  · rw [Nat.mod_eq_sub_mod (by omega), Nat.mod_eq_of_lt (by omega)]; omega
theorem sub_step (x y : Nat) (h : y ≤ x) : ∃ d, x = y + d ∧ x - y = d := ⟨x - y, by omega, rfl⟩
/-- What one round of the subtraction holds: the place's number. -/
def subN (x y k : Nat) : Int := (b2 (x.testBit k) : Int) - b2 (y.testBit k) - b2 (bor x y k)
theorem sub_bit (x y k : Nat) (h : y ≤ x) : (x - y).testBit k = (subN x y k == 1 || subN x y k == -1) := by
  obtain ⟨d, rfl, e⟩ := sub_step x y h
  rw [e]
  unfold subN
  rw [bor_car, add_bit]
  cases d.testBit k <;> cases y.testBit k <;> cases car y d k <;> decide
theorem bor_succ (x y k : Nat) (h : y ≤ x) : bor x y (k + 1) = decide (subN x y k < 0) := by
  obtain ⟨d, rfl, e⟩ := sub_step x y h
  unfold subN
  rw [bor_car, bor_car, add_bit, car_succ]
  cases d.testBit k <;> cases y.testBit k <;> cases car y d k <;> decide

theorem div_succ (x k : Nat) : x / 2 ^ k = 2 * (x / 2 ^ (k + 1)) + x / 2 ^ k % 2 := by
  rw [Nat.pow_succ, ← Nat.div_div_eq_div_mul]; omega
/-- The highest place in which two numbers differ. -/
theorem less_at (x y k : Nat) (h : x / 2 ^ (k + 1) = y / 2 ^ (k + 1)) (hb : x.testBit k ≠ y.testBit k) : decide (x < y) = y.testBit k := by
  have h1 := div_succ x k
  have h2 := div_succ y k
  rw [tb, tb] at *
  simp only [ne_eq, decide_eq_decide] at hb
  simp only [decide_eq_decide]
  have h3 : x / 2 ^ k < y / 2 ^ k ↔ y / 2 ^ k % 2 = 1 := by omega
  have h4 : ¬ x / 2 ^ k = y / 2 ^ k := by omega
  constructor
  · intro hl
    have := Nat.div_le_div_right (c := 2 ^ k) (Nat.le_of_lt hl)
    omega
  · intro hl
    have h5 := h3.2 hl
    exact Nat.lt_of_not_le fun hle => by have := Nat.div_le_div_right (c := 2 ^ k) hle; omega
theorem less_down (x y k : Nat) (h : x / 2 ^ (k + 1) = y / 2 ^ (k + 1)) (hb : x.testBit k = y.testBit k) : x / 2 ^ k = y / 2 ^ k := by
  have h1 := div_succ x k
  have h2 := div_succ y k
  rw [tb, tb] at hb
  simp only [decide_eq_decide] at hb
  omega

/-- Twice a number, and one more. -/
def dbl (x : Nat) (one : Bool) : Nat := 2 * x + b2 one
theorem dbl_zero (x : Nat) (one : Bool) : (dbl x one).testBit 0 = one := by
  unfold dbl b2; rw [tb]; cases one <;> simp <;> omega
theorem dbl_succ (x : Nat) (one : Bool) (k : Nat) : (dbl x one).testBit (k + 1) = x.testBit k := by
  rw [Nat.testBit_succ]; congr 1; unfold dbl b2; cases one <;> simp <;> omega

theorem mul_step (a b k : Nat) : a * (b % 2 ^ (k + 1)) = a * (b % 2 ^ k) + (if b.testBit k then a * 2 ^ k else 0) := by
  rw [mod_succ, Nat.mul_add, tb]
  rcases bit2 b k with h | h <;> simp [h]

theorem div_bit (A d i : Nat) (hd : 0 < d) : (A / d).testBit i = decide (d ≤ dbl (A / 2 ^ (i + 1) % d) (A.testBit i)) := by
  rw [tb, Nat.div_div_eq_div_mul, Nat.mul_comm d, ← Nat.div_div_eq_div_mul]
  have h := div_succ A i
  unfold dbl
  rw [b2_tb]
  have hr := Nat.mod_lt (A / 2 ^ (i + 1)) hd
  have hq := Nat.div_add_mod (A / 2 ^ (i + 1)) d
  generalize A / 2 ^ (i + 1) % d = r at *
  generalize A / 2 ^ (i + 1) / d = q at *
  have hb := bit2 A i
  generalize A / 2 ^ i % 2 = b at *
  rw [h, ← hq]
  have e : 2 * (d * q + r) + b = d * (2 * q) + (2 * r + b) := by rw [Nat.mul_add, Nat.mul_left_comm]; omega
  rw [e, Nat.mul_add_div hd]
  simp only [decide_eq_decide]
  by_cases hc : d ≤ 2 * r + b
  · have : (2 * r + b) / d = 1 := by
      rw [Nat.div_eq_of_lt_le] <;> omega
    omega
  · have : (2 * r + b) / d = 0 := Nat.div_eq_of_lt (by omega)
    omega
theorem mod_step (A d i : Nat) (hd : 0 < d) : A / 2 ^ i % d = dbl (A / 2 ^ (i + 1) % d) (A.testBit i) - (if d ≤ dbl (A / 2 ^ (i + 1) % d) (A.testBit i) then d else 0) := by
  have h := div_succ A i
  unfold dbl
  rw [b2_tb]
  have hr := Nat.mod_lt (A / 2 ^ (i + 1)) hd
  have hq := Nat.div_add_mod (A / 2 ^ (i + 1)) d
  generalize A / 2 ^ (i + 1) % d = r at *
  generalize A / 2 ^ (i + 1) / d = q at *
  have hb := bit2 A i
  generalize A / 2 ^ i % 2 = b at *
  rw [h, ← hq]
  have e : 2 * (d * q + r) + b = (2 * r + b) + d * (2 * q) := by rw [Nat.mul_add, Nat.mul_left_comm]; omega
  rw [e, Nat.add_mul_mod_self_left]
  split
  · rw [Nat.mod_eq_sub_mod (by omega), Nat.mod_eq_of_lt (by omega)]
  · rw [Nat.mod_eq_of_lt (by omega)]; omega

theorem or_bit (x k : Nat) : x % 2 ^ k ||| 2 ^ k = x % 2 ^ k + 2 ^ k := by
  have h := Nat.two_pow_add_eq_or_of_lt (Nat.mod_lt x (pow_pos2 k)) 1
  rw [Nat.mul_one] at h
  rw [Nat.or_comm, ← h, Nat.add_comm]
theorem mod_bit (x k : Nat) : x % 2 ^ (k + 1) = if x.testBit k then x % 2 ^ k + 2 ^ k else x % 2 ^ k := by
  rw [mod_succ, tb]
  rcases bit2 x k with h | h <;> simp [h]

/-! ### The school's division by halves of 32 bits (math/bits.Div64) -/
/-- One step: the guess q (with its rest r) is right as soon as it is not too great. -/
theorem knuth_hi {U u y1 y0 q r : Nat} (hq : q * y1 + r = U) (hc : 4294967296 ≤ q ∨ 4294967296 * r + u < q * y0)
    (hU : U < y1 * 4294967296 + y0) (hu : u < 4294967296) (hle : (U * 4294967296 + u) / (y1 * 4294967296 + y0) ≤ q) :
    (U * 4294967296 + u) / (y1 * 4294967296 + y0) < q := by
  rcases Nat.lt_or_eq_of_le hle with h | h
  · exact h
  · exfalso
    have hY : 0 < y1 * 4294967296 + y0 := by omega
    rcases hc with hc | hc
    · have : (U * 4294967296 + u) / (y1 * 4294967296 + y0) < 4294967296 := by
        rw [Nat.div_lt_iff_lt_mul hY, Nat.mul_comm 4294967296]
        have : U + 1 ≤ y1 * 4294967296 + y0 := hU
        have := Nat.mul_le_mul_right 4294967296 this
        omega
      omega
    · have h1 : q * (y1 * 4294967296 + y0) ≤ U * 4294967296 + u := by rw [← h]; exact Nat.div_mul_le_self _ _
      rw [Nat.mul_add, ← Nat.mul_assoc] at h1
      rw [← hq] at h1
      generalize q * y1 = t at *
      generalize q * y0 = s at *
      omega
theorem knuth_lo {U u y1 y0 q r : Nat} (hq : q * y1 + r = U) (hc : q * y0 ≤ 4294967296 * r + u) (hU : U < y1 * 4294967296 + y0)
    (hle : (U * 4294967296 + u) / (y1 * 4294967296 + y0) ≤ q) : q = (U * 4294967296 + u) / (y1 * 4294967296 + y0) := by
  have hY : 0 < y1 * 4294967296 + y0 := by omega
  refine Nat.le_antisymm ?_ hle
  rw [Nat.le_div_iff_mul_le hY, Nat.mul_add, ← Nat.mul_assoc, ← hq]
  generalize q * y1 = t at *
  generalize q * y0 = s at *
  omega
theorem knuth_start {U u y1 y0 : Nat} (h1 : 0 < y1) (hu : u < 4294967296) : (U * 4294967296 + u) / (y1 * 4294967296 + y0) ≤ U / y1 := by
  have h2 : (U * 4294967296 + u) / (y1 * 4294967296 + y0) ≤ (U * 4294967296 + u) / (y1 * 4294967296) := Nat.div_le_div_left (by omega) (by omega)
  refine Nat.le_trans h2 ?_
  rw [Nat.mul_comm y1, ← Nat.div_div_eq_div_mul]
  apply Nat.div_le_div_right
  omega
theorem knuth_bd {U y1 y0 : Nat} (h1 : 2147483648 ≤ y1) (h0 : y0 < 4294967296) (hU : U < y1 * 4294967296 + y0) : U / y1 ≤ 4294967297 := by
  have : U / y1 < 4294967298 := by
    rw [Nat.div_lt_iff_lt_mul (by omega)]
    omega
  omega
theorem knuth_q {U u Y : Nat} (hU : U < Y) (hu : u < 4294967296) : (U * 4294967296 + u) / Y < 4294967296 := by
  rw [Nat.div_lt_iff_lt_mul (by omega), Nat.mul_comm 4294967296]
  have := Nat.mul_le_mul_right 4294967296 (show U + 1 ≤ Y from hU)
  omega
/-- Two steps are one division. -/
theorem two_steps (H L1 L0 Y : Nat) (hY : 0 < Y) :
    (H * 4294967296 + L1) / Y * 4294967296 + ((H * 4294967296 + L1) % Y * 4294967296 + L0) / Y = (H * 18446744073709551616 + (L1 * 4294967296 + L0)) / Y ∧
    ((H * 4294967296 + L1) % Y * 4294967296 + L0) % Y = (H * 18446744073709551616 + (L1 * 4294967296 + L0)) % Y := by
  have e : H * 18446744073709551616 + (L1 * 4294967296 + L0) = ((H * 4294967296 + L1) % Y * 4294967296 + L0) + Y * ((H * 4294967296 + L1) / Y * 4294967296) := by
    have := Nat.div_add_mod (H * 4294967296 + L1) Y
    rw [← Nat.mul_assoc]
    generalize (H * 4294967296 + L1) % Y = r at *
    generalize Y * ((H * 4294967296 + L1) / Y) = s at *
    omega
  rw [e, Nat.add_mul_div_left _ _ hY, Nat.add_mul_mod_self_left]
  exact ⟨Nat.add_comm _ _, rfl⟩
/-- A number shifted up, with what comes from below. -/
theorem shift_parts (hi lo s : Nat) (hs : s ≤ 64) (hlo : lo < 18446744073709551616) :
    (hi * 2 ^ s + lo / 2 ^ (64 - s)) * 18446744073709551616 + lo * 2 ^ s % 18446744073709551616 = (hi * 18446744073709551616 + lo) * 2 ^ s ∧ lo / 2 ^ (64 - s) < 2 ^ s := by
  have hp : 18446744073709551616 = 2 ^ (64 - s) * 2 ^ s := by rw [← Nat.pow_add, show 64 - s + s = 64 by omega]
  have h0 := pow_pos2 s
  have h1 := pow_pos2 (64 - s)
  have hd := Nat.div_add_mod lo (2 ^ (64 - s))
  have hm := Nat.mod_lt lo h1
  refine ⟨?_, ?_⟩
  · have e : lo * 2 ^ s % 18446744073709551616 = lo % 2 ^ (64 - s) * 2 ^ s := by
      rw [hp, Nat.mul_mod_mul_right]
    rw [e, Nat.add_mul, Nat.add_mul]
    have e2 : lo / 2 ^ (64 - s) * 18446744073709551616 + lo % 2 ^ (64 - s) * 2 ^ s = lo * 2 ^ s := by
      rw [hp, ← Nat.mul_assoc, ← Nat.add_mul, Nat.mul_comm (lo / 2 ^ (64 - s)), hd]
    rw [Nat.mul_right_comm hi (2 ^ s)]
    omega
  · rw [Nat.div_lt_iff_lt_mul h1, Nat.mul_comm, ← hp]; exact hlo
end Go.Proofs.Ytjfjekncmejfpaa
namespace Go.Proofs.Ytjfjekncmejfpaa
open Go.RowKit
set_option linter.unusedVariables false

theorem n_and (a : Nat) (h : a < 18446744073709551616) : bits .and .u64 (a : Int) 4294967295 = ((a % 4294967296 : Nat) : Int) := by
  rw [show (4294967295 : Int) = ((4294967295 : Nat) : Int) from rfl, bits_and_u64_nat a _ h (by decide)]
  exact congrArg _ (Nat.and_two_pow_sub_one_eq_mod a 32)
theorem n_wrap (a : Nat) (h : a < 18446744073709551616) : IntKind.u64.wrap (a : Int) = a := by rw [IntKind.wrap_u64]; omega
theorem n_wrapm (a : Nat) : IntKind.u64.wrap (a : Int) = ((a % 18446744073709551616 : Nat) : Int) := by rw [IntKind.wrap_u64]; omega
theorem n_half (a : Nat) : (a : Int) / 4294967296 = ((a / 4294967296 : Nat) : Int) := rfl

theorem wpList_len8 {ops : Array Oper} {rest : List Oper} {o : Oper} {a : Act} {w : World} {Q : Exit → Act → World → Prop} (hgd : o.guard = none) {C : ByteArray} {x : Operand} (ho : o.op = .index 9 (.const (.string C)) x)
    (hC : C = Lib.len8tab) {i : Int} (hx : a.eval x = .int .u8 i) (h0 : 0 ≤ i) (h1 : i ≤ 255) (h : wpList Try.prog ops Q rest (a.put o.dst (.int .u8 (Lib.len8 i))) w) : wpList Try.prog ops Q (o :: rest) a w := by
  subst hC
  refine wpList_plain hgd fun _ hK => ?_
  unfold Oper.wp execOp
  have hc : a.eval (.const (.string Lib.len8tab)) = .string Lib.len8tab := rfl
  simp only [ho, hx, hc, Sem.run_bind, Lib.run_index_len8tab (P := Try.prog) w 9 .u8 i Try.underlying9 h0 h1, Result.andThen_ok, Sem.run_pure]
  exact hK _ _ h
/-- A number's length by its byte from place k on. -/
theorem len_leaf (x : Int) (k : Nat) (h0 : 0 ≤ x) (h1 : x ≤ 18446744073709551615) (b : Int) (hb : b = x / 2 ^ k) (hb1 : b ≤ 255) (hk : k = 0 ∨ 1 ≤ b) : (k : Int) + Lib.len8 b = Lib.bitLen x.toNat ∧ 0 ≤ Lib.len8 b ∧ Lib.len8 b ≤ 8 := by
  have hp : (0 : Int) < 2 ^ k := Int.pow_pos (by decide)
  have hb0 : 0 ≤ b := by rw [hb]; exact Int.ediv_nonneg h0 (by omega)
  have e := Lib.len8_of b hb0 hb1
  have l := Lib.bitLen_le8' b hb0 hb1
  have en : b.toNat = x.toNat / 2 ^ k := by
    obtain ⟨n, rfl⟩ := Int.eq_ofNat_of_zero_le h0
    rw [hb]; rfl
  refine ⟨?_, by omega, by omega⟩
  rw [e, en]
  rcases hk with rfl | hk
  · simp
  · have h2 : 2 ^ k ≤ x.toNat := by
      have : 1 ≤ x.toNat / 2 ^ k := by omega
      exact (Nat.one_le_div_iff (Nat.two_pow_pos k)).1 this
    have := Lib.bitLen_shift k x.toNat h2 (by omega)
    omega
set_option maxHeartbeats 4000000 in
set_option maxRecDepth 100000 in
theorem len64_any (x : Int) (h0 : 0 ≤ x) (h1 : x ≤ 18446744073709551615) (w : World) :
    Calls Try.prog 87 #[.int .u64 x] w fun e w' => e = .returned (.int .i64 (Lib.bitLen x.toNat)) ∧ w = w' := by
  go_enter Try.func87, Try.ntmps87
  go_wp2_with (refine wpList_len8 rfl rfl (by kernel_rfl) rfl (by omega) (by omega) ?_)
  all_goals go_ret
  all_goals refine ⟨congrArg Ending.returned (congrArg (Value.int IntKind.i64) ?_), rfl⟩
  all_goals first
    | (have l := len_leaf x 56 h0 h1 (x / 4294967296 / 65536 / 256) (by omega) (by omega) (by omega); unfold wrap64; omega)
    | (have l := len_leaf x 48 h0 h1 (x / 4294967296 / 65536) (by omega) (by omega) (by omega); unfold wrap64; omega)
    | (have l := len_leaf x 40 h0 h1 (x / 4294967296 / 256) (by omega) (by omega) (by omega); unfold wrap64; omega)
    | (have l := len_leaf x 32 h0 h1 (x / 4294967296) (by omega) (by omega) (by omega); unfold wrap64; omega)
    | (have l := len_leaf x 24 h0 h1 (x / 65536 / 256) (by omega) (by omega) (by omega); unfold wrap64; omega)
    | (have l := len_leaf x 16 h0 h1 (x / 65536) (by omega) (by omega) (by omega); unfold wrap64; omega)
    | (have l := len_leaf x 8 h0 h1 (x / 256) (by omega) (by omega) (by omega); unfold wrap64; omega)
    | (have l := len_leaf x 0 h0 h1 (x) (by omega) (by omega) (by omega); unfold wrap64; omega)
theorem len_bd (x : Nat) (h0 : 0 < x) (h1 : x < 18446744073709551616) : 1 ≤ Lib.bitLen x ∧ Lib.bitLen x ≤ 64 ∧ 2 ^ (Lib.bitLen x - 1) ≤ x ∧ x < 2 ^ Lib.bitLen x := by
  obtain ⟨a, b, c⟩ := Lib.bitLenAux_bounds 64 x h1 (by omega)
  exact ⟨a, Lib.bitLen_le x 64 (Nat.le_refl _) h1, b, c⟩
end Go.Proofs.Ytjfjekncmejfpaa
