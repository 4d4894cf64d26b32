/- Badness in plain integers. -/
import Derived.WalkKit
namespace Go.Proofs.Ytojphpncidjdiaa
open Go.RowKit
set_option maxRecDepth 20000
set_option linter.unusedVariables false

/-- The badness of a scaled ratio. -/
def cubeR (r : Int) : Int := if 1290 < r then 10000 else if r < 1 then 0 else (r * r * r + 131072) / 262144
/-- What the rules say of a ratio, before it is cut at 1291. -/
def ratioR (n h : Int) : Int := if n < 1 then 0 else if h < 1 then 1291 else if n ≤ 7230584 then 297 * n / h else if 1663497 ≤ h then n / (h / 297) else n
/-- The scaled ratio. -/
def quarterR (n h : Int) : Int := if 1290 < ratioR n h then 1291 else ratioR n h
def ofR (n h : Int) : Int := cubeR (quarterR n h)
def b_inR (x : Int) : Prop := -9223372036854775808 ≤ x ∧ x ≤ 9223372036854775807

theorem w64 (x : Int) (h0 : -9223372036854775808 ≤ x) (h1 : x ≤ 9223372036854775807) : wrap64 x = x := by unfold wrap64; omega
theorem cube_in (r : Int) (h1 : 1 ≤ r) (h2 : r ≤ 1290) : 0 ≤ r * r ∧ r * r ≤ 1664100 ∧ 0 ≤ r * r * r ∧ r * r * r ≤ 2146689000 := by
  have a0 : 0 ≤ r * r := Int.mul_nonneg (by omega) (by omega)
  have a1 : r * r ≤ 1290 * 1290 := Int.mul_le_mul h2 h2 (by omega) (by omega)
  have a2 : 0 ≤ r * r * r := Int.mul_nonneg a0 (by omega)
  have a3 : r * r * r ≤ 1664100 * 1290 := Int.mul_le_mul (by omega) h2 (by omega) (by omega)
  exact ⟨a0, by omega, a2, by omega⟩
theorem cube_mid (r : Int) (h1 : 1 ≤ r) (h2 : r ≤ 1290) : wrap64 ((wrap64 (wrap64 (wrap64 (r * r) * r) + 131072)).tdiv 262144) = cubeR r := by
  obtain ⟨a0, a1, a2, a3⟩ := cube_in r h1 h2
  unfold cubeR
  rw [if_neg (by omega), if_neg (by omega), w64 (r * r) (by omega) (by omega), w64 (r * r * r) (by omega) (by omega)]
  generalize r * r * r = z at *
  rw [w64 (z + 131072) (by omega) (by omega), Int.tdiv_eq_ediv_of_nonneg (by omega), w64 _ (by omega) (by omega)]
theorem div_pos_in (a d : Int) (ha : 0 ≤ a) (hd : 1 ≤ d) : 0 ≤ a / d ∧ a / d ≤ a := ⟨Int.ediv_nonneg ha (by omega), Int.ediv_le_self _ ha⟩
theorem ratio_small (n h : Int) (h1 : 1 ≤ n) (h2 : n ≤ 7230584) (h3 : 1 ≤ h) : wrap64 ((wrap64 (297 * n)).tdiv h) = ratioR n h := by
  unfold ratioR
  rw [if_neg (by omega), if_neg (by omega), if_pos h2, w64 (297 * n) (by omega) (by omega), Int.tdiv_eq_ediv_of_nonneg (by omega)]
  obtain ⟨b0, b1⟩ := div_pos_in (297 * n) h (by omega) h3
  exact w64 _ (by omega) (by omega)
theorem ratio_big (n h : Int) (h1 : 7230584 < n) (hn : n ≤ 9223372036854775807) (h3 : 1663497 ≤ h) (hh : h ≤ 9223372036854775807) : wrap64 (n.tdiv (wrap64 (h.tdiv 297))) = ratioR n h := by
  unfold ratioR
  rw [if_neg (by omega), if_neg (by omega), if_neg (by omega), if_pos h3, Int.tdiv_eq_ediv_of_nonneg (a := h) (by omega), w64 (h / 297) (by omega) (by omega), Int.tdiv_eq_ediv_of_nonneg (by omega)]
  obtain ⟨b0, b1⟩ := div_pos_in n (h / 297) (by omega) (by omega)
  exact w64 _ (by omega) (by omega)
theorem ratio_nonneg (n h : Int) : 0 ≤ ratioR n h := by
  unfold ratioR
  split
  · omega
  · split
    · omega
    · split
      · exact (div_pos_in _ _ (by omega) (by omega)).1
      · split
        · exact (div_pos_in _ _ (by omega) (by omega)).1
        · omega
theorem quarter_in (n h : Int) : 0 ≤ quarterR n h ∧ quarterR n h ≤ 1291 := by
  have := ratio_nonneg n h
  unfold quarterR; split <;> omega
theorem quarter_min (n h : Int) : min (ratioR n h) 1291 = quarterR n h := by
  unfold quarterR; split <;> omega
/-! ### What follows -/
theorem cube_bounds (r : Int) : 0 ≤ cubeR r ∧ cubeR r ≤ 10000 := by
  unfold cubeR
  split
  · omega
  · split
    · omega
    · obtain ⟨_, _, a2, a3⟩ := cube_in r (by omega) (by omega)
      generalize r * r * r = z at *
      omega
theorem cube_mono (r s : Int) (h : r ≤ s) : cubeR r ≤ cubeR s := by
  by_cases h1 : 1290 < s
  · have := (cube_bounds r).2
    rw [show cubeR s = 10000 by unfold cubeR; rw [if_pos h1]]; exact this
  · by_cases h2 : r < 1
    · rw [show cubeR r = 0 by unfold cubeR; rw [if_neg (by omega), if_pos h2]]; exact (cube_bounds s).1
    · obtain ⟨a0, a1, a2, a3⟩ := cube_in r (by omega) (by omega)
      obtain ⟨b0, b1, b2, b3⟩ := cube_in s (by omega) (by omega)
      have e1 : r * r ≤ s * s := Int.mul_le_mul h h (by omega) (by omega)
      have e2 : r * r * r ≤ s * s * s := Int.mul_le_mul e1 h (by omega) (by omega)
      unfold cubeR
      rw [if_neg (by omega), if_neg (by omega), if_neg (by omega), if_neg (by omega)]
      generalize r * r * r = z at *
      generalize s * s * s = y at *
      omega
theorem quarter_mono (a b n h : Int) (e : ratioR a b ≤ ratioR n h) : quarterR a b ≤ quarterR n h := by
  unfold quarterR; split <;> split <;> omega
theorem div_more (a c d : Int) (ha : 0 ≤ a) (hc : 1 ≤ c) (h : c ≤ d) : a / d ≤ a / c := by
  rw [Int.le_ediv_iff_mul_le (by omega)]
  have h1 : a / d * c ≤ a / d * d := Int.mul_le_mul_of_nonneg_left h (div_pos_in a d ha (by omega)).1
  have h2 := Int.ediv_mul_le a (show d ≠ 0 by omega)
  omega
theorem ratio_need (n m h : Int) (hm : m ≤ 7230584) (e : n ≤ m) : quarterR n h ≤ quarterR m h := by
  apply quarter_mono
  by_cases h1 : n < 1
  · rw [show ratioR n h = 0 by unfold ratioR; rw [if_pos h1]]; exact ratio_nonneg _ _
  · by_cases h2 : h < 1
    · unfold ratioR; rw [if_neg h1, if_pos h2, if_neg (by omega), if_pos h2]; omega
    · unfold ratioR; rw [if_neg h1, if_neg h2, if_pos (by omega), if_neg (by omega), if_neg h2, if_pos hm]
      exact Int.ediv_le_ediv (by omega) (by omega)
theorem ratio_has (n h k : Int) (hn : n ≤ 7230584) (e : h ≤ k) : quarterR n k ≤ quarterR n h := by
  by_cases h1 : n < 1
  · apply quarter_mono; unfold ratioR; rw [if_pos h1, if_pos h1]; omega
  · by_cases h2 : h < 1
    · rw [show quarterR n h = 1291 by unfold quarterR ratioR; rw [if_neg h1, if_pos h2]; rfl]; exact (quarter_in _ _).2
    · apply quarter_mono
      unfold ratioR; rw [if_neg h1, if_neg (by omega), if_pos hn, if_neg h1, if_neg h2, if_pos hn]
      exact div_more _ _ _ (by omega) (by omega) e
theorem of_bounds (n h : Int) : 0 ≤ ofR n h ∧ ofR n h ≤ 10000 := cube_bounds _
theorem of_need (n m h : Int) (hm : m ≤ 7230584) (e : n ≤ m) : ofR n h ≤ ofR m h := cube_mono _ _ (ratio_need n m h hm e)
theorem of_has (n h k : Int) (hn : n ≤ 7230584) (e : h ≤ k) : ofR n k ≤ ofR n h := cube_mono _ _ (ratio_has n h k hn e)
theorem of_none (n h : Int) (hn : n < 1) : ofR n h = 0 := by
  unfold ofR quarterR ratioR; rw [if_pos hn]; rfl
theorem of_all (n h : Int) (hn : 1 ≤ n) (hh : h < 1) : ofR n h = 10000 := by
  have e : ratioR n h = 1291 := by unfold ratioR; rw [if_neg (by omega), if_pos hh]
  unfold ofR quarterR; rw [e]; rfl
theorem of_same (n : Int) (h1 : 1 ≤ n) (h2 : n ≤ 7230584) : ofR n n = 100 := by
  have e : ratioR n n = 297 := by unfold ratioR; rw [if_neg (by omega), if_neg (by omega), if_pos h2, Int.mul_ediv_cancel _ (by omega)]
  unfold ofR quarterR; rw [e]; rfl
end Go.Proofs.Ytojphpncidjdiaa
