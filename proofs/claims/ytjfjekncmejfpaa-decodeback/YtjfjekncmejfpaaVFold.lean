/- Plain mathematics for stage 5: folding, chains, and the reading of a chain. Fold, Unfold (package chain's and the document's) and Size. -/
import Derived.WalkKit
import Derived.Test.YtjfjekncmejfpaaRows
import Derived.Test.YtjfjekncmejfpaaWBits
import Derived.Laws.BitsAllLaws
import Derived.Laws.Bits128
namespace Go.Proofs.Ytjfjekncmejfpaa
open Go.RowKit
set_option linter.unusedVariables false

/-- The folded number. -/
def foldZ (n : Int) : Int := if n < 0 then -2 * n - 1 else 2 * n
def unfoldZ (u : Int) : Int := if u % 2 = 1 then -(u / 2) - 1 else u / 2
theorem unfold_fold (n : Int) : unfoldZ (foldZ n) = n := by unfold unfoldZ foldZ; split <;> split <;> omega
theorem fold_unfold (u : Int) (h : 0 ≤ u) : foldZ (unfoldZ u) = u := by unfold unfoldZ foldZ; split <;> split <;> omega
theorem fold_range (n : Int) (h0 : -9223372036854775808 ≤ n) (h1 : n ≤ 9223372036854775807) : 0 ≤ foldZ n ∧ foldZ n ≤ 18446744073709551615 := by unfold foldZ; split <;> omega
theorem unfold_range (u : Int) (h0 : 0 ≤ u) (h1 : u ≤ 18446744073709551615) : -9223372036854775808 ≤ unfoldZ u ∧ unfoldZ u ≤ 9223372036854775807 := by unfold unfoldZ; split <;> omega

/-- The chain of a folded number. -/
def chainL (u : Int) : List Int := if u < 128 then [u] else (u % 128 + 128) :: chainL (u / 128)
termination_by u.toNat
decreasing_by omega
theorem chain_lt {u : Int} (h : u < 128) : chainL u = [u] := by rw [chainL, if_pos h]
theorem chain_ge {u : Int} (h : 128 ≤ u) : chainL u = (u % 128 + 128) :: chainL (u / 128) := by rw [chainL, if_neg (by omega)]
theorem chain_rec {p : Int → Prop} (h1 : ∀ u, u < 128 → p u) (h2 : ∀ u, 128 ≤ u → p (u / 128) → p u) (u : Int) : p u := by
  induction u using chainL.induct with
  | case1 u h => exact h1 u h
  | case2 u h ih => exact h2 u (by omega) ih
theorem chain_bytes (u : Int) : 0 ≤ u → ∀ x ∈ chainL u, 0 ≤ x ∧ x < 256 := by
  induction u using chain_rec with
  | h1 u h => intro h0 x hx; rw [chain_lt h] at hx; simp at hx; omega
  | h2 u h ih =>
    intro h0 x hx
    rw [chain_ge h] at hx
    rcases List.mem_cons.1 hx with rfl | hx
    · omega
    · exact ih (by omega) x hx
theorem chain_pos (u : Int) : 1 ≤ (chainL u).length := by
  rcases Int.lt_or_le u 128 with h | h
  · rw [chain_lt h]; simp
  · rw [chain_ge h]; simp
/-- The number of bytes, by the powers of 128. -/
theorem chain_len (k : Nat) : ∀ u : Int, 0 ≤ u → u < 128 ^ (k + 1) → (k = 0 ∨ 128 ^ k ≤ u) → (chainL u).length = k + 1 := by
  induction k with
  | zero => intro u h0 h1 _; rw [chain_lt (by simpa using h1)]; rfl
  | succ k ih =>
    intro u h0 h1 h2
    have h2 : (128 : Int) ^ (k + 1) ≤ u := by rcases h2 with h | h; omega; exact h
    have e1 : (128 : Int) ^ (k + 1 + 1) = 128 ^ (k + 1) * 128 := Int.pow_succ ..
    have e2 : (128 : Int) ^ (k + 1) = 128 ^ k * 128 := Int.pow_succ ..
    have hp : (1 : Int) ≤ 128 ^ k := by
      have : (0 : Int) < 128 ^ k := Int.pow_pos (by omega)
      omega
    rw [chain_ge (by omega), List.length_cons, ih (u / 128) (by omega) (by omega) (.inr (by omega))]
theorem chain_ten (u : Int) (h0 : 0 ≤ u) (h1 : u ≤ 18446744073709551615) : (chainL u).length ≤ 10 := by
  by_cases c1 : u < 128; · rw [chain_len 0 u h0 (by omega) (.inl rfl)]; omega
  by_cases c2 : u < 128 ^ 2; · rw [chain_len 1 u h0 (by omega) (.inr (by omega))]; omega
  by_cases c3 : u < 128 ^ 3; · rw [chain_len 2 u h0 (by omega) (.inr (by omega))]; omega
  by_cases c4 : u < 128 ^ 4; · rw [chain_len 3 u h0 (by omega) (.inr (by omega))]; omega
  by_cases c5 : u < 128 ^ 5; · rw [chain_len 4 u h0 (by omega) (.inr (by omega))]; omega
  by_cases c6 : u < 128 ^ 6; · rw [chain_len 5 u h0 (by omega) (.inr (by omega))]; omega
  by_cases c7 : u < 128 ^ 7; · rw [chain_len 6 u h0 (by omega) (.inr (by omega))]; omega
  by_cases c8 : u < 128 ^ 8; · rw [chain_len 7 u h0 (by omega) (.inr (by omega))]; omega
  by_cases c9 : u < 128 ^ 9; · rw [chain_len 8 u h0 (by omega) (.inr (by omega))]; omega
  rw [chain_len 9 u h0 (by omega) (.inr (by omega))]
  omega

/-- Place values. -/
def pw : Nat → Int
  | 0 => 1
  | k + 1 => 128 * pw k
theorem pw_pos (k : Nat) : 0 < pw k := by induction k with | zero => decide | succ k ih => unfold pw; omega
theorem pw_two (k : Nat) : pw k = ((2 ^ (7 * k) : Nat) : Int) := by
  induction k with
  | zero => rfl
  | succ k ih =>
    unfold pw
    rw [ih, show 7 * (k + 1) = 7 * k + 7 by omega, Nat.pow_add]
    omega
theorem cases9 {i : Nat} (h : i ≤ 9) : i = 0 ∨ i = 1 ∨ i = 2 ∨ i = 3 ∨ i = 4 ∨ i = 5 ∨ i = 6 ∨ i = 7 ∨ i = 8 ∨ i = 9 := by omega

/-- What Get reads: the folded number and the number of bytes. -/
def getR : List Int → Nat → Int → Option (Int × Nat)
  | [], _, _ => none
  | c :: cs, i, u => if i = 9 ∧ 1 < c then none else if 128 ≤ c then getR cs (i + 1) (u + c % 128 * pw i) else if c = 0 ∧ 0 < i then none else some (u + c % 128 * pw i, i + 1)

theorem getR_sound (bs : List Int) : ∀ (i : Nat) (u v : Int) (m : Nat), i ≤ 9 → (∀ x ∈ bs, 0 ≤ x ∧ x < 256) → getR bs i u = some (v, m) →
    ∃ x : Int, 0 ≤ x ∧ (i = 0 ∨ 0 < x) ∧ x * pw i < 18446744073709551616 ∧ v = u + x * pw i ∧ m = i + (chainL x).length ∧ ∃ rest, bs = chainL x ++ rest := by
  induction bs with
  | nil => intro i u v m _ _ h; simp [getR] at h
  | cons c cs ih =>
    intro i u v m hi hb h
    have hc := hb c (by simp)
    unfold getR at h
    split at h
    · simp at h
    · rename_i h9
      split at h
      · rename_i h128
        obtain ⟨x, hx0, hx1, hx2, rfl, rfl, rest, rfl⟩ := ih (i + 1) _ v m (by omega) (fun y hy => hb y (by simp [hy])) h
        have hx1 : 0 < x := by omega
        refine ⟨c % 128 + 128 * x, by omega, .inr (by omega), ?_, ?_, ?_, rest, ?_⟩
        · rcases cases9 (show i ≤ 9 from hi) with rfl | rfl | rfl | rfl | rfl | rfl | rfl | rfl | rfl | rfl <;> simp only [pw] at hx2 ⊢ <;> omega
        · show _ + x * (128 * pw i) = _
          rw [Int.add_mul, Int.mul_assoc, ← Int.mul_assoc x, Int.mul_comm x 128, Int.mul_assoc, Int.add_assoc]
        · rw [chain_ge (u := c % 128 + 128 * x) (by omega), List.length_cons, show (c % 128 + 128 * x) / 128 = x by omega]; omega
        · rw [chain_ge (u := c % 128 + 128 * x) (by omega), show (c % 128 + 128 * x) / 128 = x by omega, show (c % 128 + 128 * x) % 128 + 128 = c by omega]; rfl
      · split at h
        · simp at h
        · rename_i h128 h0
          simp only [Option.some.injEq, Prod.mk.injEq] at h
          obtain ⟨rfl, rfl⟩ := h
          have hm : c % 128 = c := by omega
          rw [hm]
          refine ⟨c, by omega, by omega, ?_, rfl, by rw [chain_lt (by omega)]; rfl, cs, by rw [chain_lt (by omega)]; rfl⟩
          rcases cases9 (show i ≤ 9 from hi) with rfl | rfl | rfl | rfl | rfl | rfl | rfl | rfl | rfl | rfl <;> simp only [pw] <;> omega
theorem getR_chain (x : Int) : ∀ (i : Nat) (u : Int) (rest : List Int), i ≤ 9 → 0 ≤ x → (i = 0 ∨ 0 < x) → x * pw i < 18446744073709551616 →
    getR (chainL x ++ rest) i u = some (u + x * pw i, i + (chainL x).length) := by
  induction x using chain_rec with
  | h1 x h =>
    intro i u rest hi h0 hp hx
    rw [chain_lt h]
    show getR (x :: rest) i u = _
    unfold getR
    have h9 : ¬ (i = 9 ∧ 1 < x) := by
      rintro ⟨rfl, h⟩
      simp only [pw] at hx; omega
    rw [if_neg h9, if_neg (by omega), if_neg (by omega), show x % 128 = x by omega]
    rfl
  | h2 x h ih =>
    intro i u rest hi h0 hp hx
    rw [chain_ge h]
    show getR ((x % 128 + 128) :: (chainL (x / 128) ++ rest)) i u = _
    unfold getR
    have h8 : i ≤ 8 := by
      rcases Nat.lt_or_ge i 9 with h' | h'
      · omega
      · obtain rfl : i = 9 := by omega
        simp only [pw] at hx; omega
    have hx' : x / 128 * pw (i + 1) < 18446744073709551616 := by
      rcases cases9 hi with rfl | rfl | rfl | rfl | rfl | rfl | rfl | rfl | rfl | rfl <;> simp only [pw] at hx ⊢ <;> omega
    rw [if_neg (by omega), if_pos (by omega), ih (i + 1) _ rest (by omega) (by omega) (.inr (by omega)) hx']
    have e : x * pw i = (x % 128 + 128) % 128 * pw i + x / 128 * pw (i + 1) := by
      show _ = _ + x / 128 * (128 * pw i)
      rw [← Int.mul_assoc, ← Int.add_mul]
      congr 1
      omega
    rw [e, List.length_cons]
    simp only [Option.some.injEq, Prod.mk.injEq]
    omega
/-- Once more, from the first byte on. -/
theorem get_sound {bs : List Int} {v : Int} {m : Nat} (hb : ∀ x ∈ bs, 0 ≤ x ∧ x < 256) (h : getR bs 0 0 = some (v, m)) :
    0 ≤ v ∧ v ≤ 18446744073709551615 ∧ m = (chainL v).length ∧ m ≤ bs.length ∧ bs.take m = chainL v := by
  obtain ⟨x, h0, _, h2, hv, hm, rest, rfl⟩ := getR_sound bs 0 0 v m (by omega) hb h
  simp only [pw, Int.mul_one, Int.zero_add, Nat.zero_add] at h2 hv hm
  subst hv; subst hm
  exact ⟨h0, by omega, rfl, by simp, by simp⟩
theorem get_chain (x : Int) (rest : List Int) (h0 : 0 ≤ x) (h1 : x ≤ 18446744073709551615) : getR (chainL x ++ rest) 0 0 = some (x, (chainL x).length) := by
  have h := getR_chain x 0 0 rest (by omega) h0 (.inl rfl) (by simp only [pw]; omega)
  simpa [pw] using h
end Go.Proofs.Ytjfjekncmejfpaa
namespace Go.Proofs.Ytjfjekncmejfpaa
open Go.RowKit
set_option linter.unusedVariables false

theorem xor_ones (a : Int) (h0 : 0 ≤ a) (h1 : a < 18446744073709551616) : bits .xor .u64 a 18446744073709551615 = 18446744073709551615 - a := by
  obtain ⟨a, rfl⟩ := Int.eq_ofNat_of_zero_le h0
  show IntKind.u64.wrap ((BitVec.ofInt 64 (a : Int) ^^^ BitVec.ofInt 64 18446744073709551615).toNat : Int) = _
  have e : BitVec.ofInt 64 18446744073709551615 = BitVec.allOnes 64 := by decide
  rw [e, BitVec.xor_allOnes, BitVec.toNat_not, ofInt_u64 a (by omega), IntKind.wrap_u64]
  omega
theorem xor_zero64 (a : Int) (h0 : 0 ≤ a) (h1 : a < 18446744073709551616) : bits .xor .u64 a 0 = a := by
  obtain ⟨a, rfl⟩ := Int.eq_ofNat_of_zero_le h0
  rw [show (0 : Int) = ((0 : Nat) : Int) from rfl, u64_xor_nat a 0 (by omega) (by decide)]
  simp
theorem ixor_ones (a : Int) (h0 : 0 ≤ a) (h1 : a < 9223372036854775808) : bits .xor .i64 a (-1) = -1 - a := by
  obtain ⟨a, rfl⟩ := Int.eq_ofNat_of_zero_le h0
  show IntKind.i64.wrap ((BitVec.ofInt 64 (a : Int) ^^^ BitVec.ofInt 64 (-1)).toNat : Int) = _
  have e : BitVec.ofInt 64 (-1) = BitVec.allOnes 64 := by decide
  rw [e, BitVec.xor_allOnes, BitVec.toNat_not, ofInt_u64 a (by omega), IntKind.wrap_i64]
  omega
theorem ixor_zero (a : Int) (h0 : 0 ≤ a) (h1 : a < 9223372036854775808) : bits .xor .i64 a 0 = a := by
  obtain ⟨a, rfl⟩ := Int.eq_ofNat_of_zero_le h0
  show IntKind.i64.wrap ((BitVec.ofInt 64 (a : Int) ^^^ BitVec.ofInt 64 0).toNat : Int) = _
  have e : BitVec.ofInt 64 0 = 0#64 := by decide
  rw [e, BitVec.xor_zero, ofInt_u64 a (by omega), IntKind.wrap_i64]
  omega
theorem and_one (a : Int) (h0 : 0 ≤ a) (h1 : a < 18446744073709551616) : bits .and .u64 a 1 = a % 2 := by
  obtain ⟨a, rfl⟩ := Int.eq_ofNat_of_zero_le h0
  rw [show (1 : Int) = ((1 : Nat) : Int) from rfl, bits_and_u64_nat a 1 (by omega) (by decide)]
  have := Nat.and_two_pow_sub_one_eq_mod a 1
  simp only [Nat.reduceSub, Nat.reducePow] at this
  omega
theorem or_one64 (a : Int) (h0 : 0 ≤ a) (h1 : a < 18446744073709551616) : bits .or .u64 a 1 = a / 2 * 2 + 1 := by
  obtain ⟨a, rfl⟩ := Int.eq_ofNat_of_zero_le h0
  rw [show (1 : Int) = ((1 : Nat) : Int) from rfl, u64_or_nat a 1 (by omega) (by decide)]
  have h := Nat.two_pow_add_eq_or_of_lt (i := 1) (b := 1) (by decide) (a / 2)
  have e : a ||| 1 = a / 2 * 2 + 1 := by
    rcases Nat.mod_two_eq_zero_or_one a with h2 | h2
    · have : a = 2 ^ 1 * (a / 2) := by omega
      rw [this, ← h]; omega
    · apply Nat.eq_of_testBit_eq
      intro i
      have hb : a = 2 ^ 1 * (a / 2) ||| 1 := by rw [← h]; omega
      rw [show a / 2 * 2 + 1 = a by omega]
      rw [hb, Nat.or_assoc, Nat.or_self]
  omega

theorem fold_any (n : Int) (h0 : -9223372036854775808 ≤ n) (h1 : n ≤ 9223372036854775807) (w : World) :
    Calls Try.prog 81 #[.int .i64 n] w fun e w' => e = .returned (.int .u64 (foldZ n)) ∧ w = w' := by
  have k : bits .xor .u64 (IntKind.u64.wrap (IntKind.u64.wrap n * 2)) (IntKind.u64.wrap (n / 9223372036854775808)) = foldZ n := by
    rw [IntKind.wrap_u64, IntKind.wrap_u64, IntKind.wrap_u64]
    unfold foldZ
    split
    · rw [show n / 9223372036854775808 % 18446744073709551616 = 18446744073709551615 by omega, xor_ones _ (by omega) (by omega)]
      omega
    · rw [show n / 9223372036854775808 % 18446744073709551616 = 0 by omega, xor_zero64 _ (by omega) (by omega)]
      omega
  rw [← k]
  clear k
  go_enter Try.func81, Try.ntmps81
  go_wp2
  go_ret
  exact ⟨rfl, rfl⟩
theorem rfold_any (n : Int) (h0 : -9223372036854775808 ≤ n) (h1 : n ≤ 9223372036854775807) (w : World) :
    Calls Try.prog 79 #[.int .i64 n] w fun e w' => e = .returned (.int .u64 (foldZ n)) ∧ w = w' := by
  rcases Int.lt_or_le n 0 with h | h
  · rw [show foldZ n = 2 * -(n + 1) + 1 by unfold foldZ; rw [if_pos h]; omega]
    go_enter Try.func79, Try.ntmps79
    go_wp2
    go_ret
    exact ⟨rfl, rfl⟩
  · rw [show foldZ n = 2 * n by unfold foldZ; rw [if_neg (by omega)]]
    go_enter Try.func79, Try.ntmps79
    go_wp2
    go_ret
    exact ⟨rfl, rfl⟩
theorem unfold_any (u : Int) (h0 : 0 ≤ u) (h1 : u ≤ 18446744073709551615) (w : World) :
    Calls Try.prog 89 #[.int .u64 u] w fun e w' => e = .returned (.int .i64 (unfoldZ u)) ∧ w = w' := by
  have k : bits .xor .i64 (u / 2) (wrap64 (-wrap64 (bits .and .u64 u 1))) = unfoldZ u := by
    rw [and_one u h0 (by omega)]
    unfold unfoldZ
    split
    · rename_i h
      rw [h, show wrap64 (-wrap64 1) = -1 by unfold wrap64; omega, ixor_ones _ (by omega) (by omega)]
      omega
    · rename_i h
      rw [show u % 2 = 0 by omega, show wrap64 (-wrap64 0) = 0 by unfold wrap64; omega, ixor_zero _ (by omega) (by omega)]
  rw [← k]
  clear k
  go_enter Try.func89, Try.ntmps89
  go_wp2
  go_ret
  exact ⟨rfl, rfl⟩
theorem runfold_any (u : Int) (h0 : 0 ≤ u) (h1 : u ≤ 18446744073709551615) (w : World) :
    Calls Try.prog 86 #[.int .u64 u] w fun e w' => e = .returned (.int .i64 (unfoldZ u)) ∧ w = w' := by
  rcases Int.emod_two_eq u with h | h
  · rw [show unfoldZ u = u / 2 by unfold unfoldZ; rw [if_neg (by omega)]]
    go_enter Try.func86, Try.ntmps86
    go_wp2
    go_ret
    exact ⟨rfl, rfl⟩
  · rw [show unfoldZ u = -(u / 2) - 1 by unfold unfoldZ; rw [if_pos h]]
    go_enter Try.func86, Try.ntmps86
    go_wp2
    go_ret
    exact ⟨rfl, rfl⟩

/-- The number of bytes by the length in bits. -/
theorem size_len (u : Int) (h0 : 0 ≤ u) (h1 : u ≤ 18446744073709551615) :
    1 ≤ Lib.bitLen (u / 2 * 2 + 1).toNat ∧ Lib.bitLen (u / 2 * 2 + 1).toNat ≤ 64 ∧ ((chainL u).length : Int) = ((Lib.bitLen (u / 2 * 2 + 1).toNat : Int) + 6) / 7 := by
  obtain ⟨x, hx⟩ : ∃ x : Nat, u / 2 * 2 + 1 = (x : Int) := ⟨(u / 2 * 2 + 1).toNat, by omega⟩
  rw [hx, Int.toNat_natCast]
  obtain ⟨l1, l2, l3, l4⟩ := len_bd x (by omega) (by omega)
  refine ⟨l1, l2, ?_⟩
  have key : ∀ k : Nat, 2 ^ (7 * k) ≤ x → x < 2 ^ (7 * k + 7) → (chainL u).length = k + 1 := by
    intro k a b
    have e : ∀ j : Nat, (128 : Int) ^ j = ((2 ^ (7 * j) : Nat) : Int) := by
      intro j
      rw [Nat.pow_mul]
      simp
    refine chain_len k u h0 ?_ ?_
    · rw [e, show 7 * (k + 1) = 7 * k + 7 by omega]
      have h2 : 2 ^ (7 * k + 7) = 2 * 2 ^ (7 * k + 6) := by rw [show 7 * k + 7 = (7 * k + 6) + 1 by omega, Nat.pow_succ]; omega
      omega
    · rcases Nat.eq_zero_or_pos k with hk | hk
      · exact .inl hk
      · right
        rw [e]
        have h2 : 2 ^ (7 * k) = 2 * 2 ^ (7 * k - 1) := by
          have h3 := Nat.pow_succ (n := 2) (m := 7 * k - 1)
          rw [show (7 * k - 1).succ = 7 * k by omega] at h3
          omega
        omega
  generalize Lib.bitLen x = b at *
  have hk := key ((b - 1) / 7) (Nat.le_trans (Nat.pow_le_pow_right (by decide) (by omega)) l3) (Nat.lt_of_lt_of_le l4 (Nat.pow_le_pow_right (by decide) (by omega)))
  rw [hk]
  omega
theorem csize_any (n : Int) (h0 : -9223372036854775808 ≤ n) (h1 : n ≤ 9223372036854775807) (w : World) :
    Calls Try.prog 80 #[.int .i64 n] w fun e w' => e = .returned (.int .i64 ((chainL (foldZ n)).length : Int)) ∧ w = w' := by
  obtain ⟨f0, f1⟩ := fold_range n h0 h1
  have cf := fold_any n h0 h1
  generalize foldZ n = u at *
  have k := or_one64 u f0 (by omega)
  obtain ⟨s1, s2, s3⟩ := size_len u f0 f1
  have cl := len64_any (u / 2 * 2 + 1) (by omega) (by omega)
  rw [← k] at cl
  rw [s3, ← k]
  rw [← k] at s1 s2
  generalize Lib.bitLen (bits .or .u64 u 1).toNat = L at *
  clear k s3
  go_enter Try.func80, Try.ntmps80
  go_wp2_with (first | (with_reducible refine (cf _).mono ?_; rintro e w' ⟨rfl, rfl⟩) | (with_reducible refine (cl _).mono ?_; rintro e w' ⟨rfl, rfl⟩))
  go_ret
  exact ⟨congrArg Ending.returned (congrArg (Value.int IntKind.i64) (show ((L : Int) + 7 - 1) / 7 = _ by omega)), rfl⟩
end Go.Proofs.Ytjfjekncmejfpaa
