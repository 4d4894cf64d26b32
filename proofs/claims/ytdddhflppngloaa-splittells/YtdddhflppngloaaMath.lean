/- Plain mathematics for stage 1: what the functions of package sp answer, over Lean's integers. -/
import Derived.WalkKit
namespace Go.Proofs.Ytdddhflppngloaa
open Go.RowKit
set_option maxRecDepth 20000

/-- Is a number one of the range of 64 bits? -/
def inR (x : Int) : Prop := -9223372036854775808 ≤ x ∧ x ≤ 9223372036854775807
instance (x : Int) : Decidable (inR x) := by unfold inR; exact inferInstance
/-- The number and true, or 0 and false. -/
def fit (x : Int) : Int × Bool := if inR x then (x, true) else (0, false)
def addR (a b : Int) : Int × Bool := fit (a + b)
def subR (a b : Int) : Int × Bool := fit (a - b)
def mulR (a n : Int) : Int × Bool := fit (a * n)
def upR (a s : Int) : Int × Bool := if s < 1 then (0, false) else if a % s = 0 then (a, true) else addR a (s - a % s)
def downR (a s : Int) : Int × Bool := if s < 1 then (0, false) else subR a (a % s)

theorem fit_pos {x : Int} (h : inR x) : fit x = (x, true) := if_pos h
theorem fit_neg {x : Int} (h : ¬ inR x) : fit x = (0, false) := if_neg h
theorem fit_in (x : Int) : inR (fit x).1 := by unfold fit; split; · assumption
                                               · unfold inR; simp
theorem w64_hi (n : Int) (h : 9223372036854775807 < n) (h' : n ≤ 18446744073709551615) : wrap64 n = n - 18446744073709551616 := by unfold wrap64; omega
theorem w64_lo (n : Int) (h : n < -9223372036854775808) (h' : -18446744073709551616 ≤ n) : wrap64 n = n + 18446744073709551616 := by unfold wrap64; omega
theorem w64_inR (n : Int) : inR (wrap64 n) := by unfold inR wrap64; omega

/-- The quotient cut towards nought is no further from 0 than what is divided. -/
theorem tdiv_abs_le (p n : Int) (hn : 1 < n ∨ n < -1) (hp : inR p) : inR (p.tdiv n) := by
  have h1 : (p.tdiv n).natAbs = p.natAbs / n.natAbs := Int.natAbs_tdiv _ _
  have h2 : p.natAbs / n.natAbs ≤ p.natAbs / 2 := by
    apply Nat.div_le_div_left <;> omega
  unfold inR at *
  omega
theorem quo_back (a n : Int) (hn : n ≠ 0) : (a * n).tdiv n = a := Int.mul_tdiv_cancel a hn
theorem quo_wrong (a n : Int) (hN : inR n) (hn : n ≠ 0) (h : ¬ inR (a * n)) : (wrap64 (a * n)).tdiv n ≠ a := by
  intro e
  have hw := w64_inR (a * n)
  have h1 : (wrap64 (a * n)).tdiv n * n + (wrap64 (a * n)).tmod n = wrap64 (a * n) := Int.tdiv_mul_add_tmod _ _
  rw [e] at h1
  have h2 : (wrap64 (a * n)).tmod n < 9223372036854775808 ∧ -9223372036854775808 < (wrap64 (a * n)).tmod n := by
    have h3 : ((wrap64 (a * n)).tmod n).natAbs = (wrap64 (a * n)).natAbs % n.natAbs := Int.natAbs_tmod _ _
    have h4 : (wrap64 (a * n)).natAbs % n.natAbs < n.natAbs := Nat.mod_lt _ (by omega)
    unfold inR at hN
    omega
  generalize (wrap64 (a * n)).tmod n = t at h1 h2
  unfold inR at h
  unfold wrap64 at h1
  omega
/-- What Go leaves over, brought from the multiple below. -/
theorem over_pos (a s : Int) (_hs : 1 ≤ s) (h : 0 ≤ a.tmod s) : a.tmod s = a % s := by
  by_cases h0 : 0 ≤ a
  · exact Int.tmod_eq_emod_of_nonneg h0
  · have h1 := Int.tmod_def a s
    have h2 : a.tmod s ≤ 0 := by
      have := Int.neg_tmod (a := -a) (b := s); rw [Int.neg_neg] at this
      rw [this]; have := Int.tmod_nonneg s (a := -a) (by omega); omega
    have h3 : a.tmod s = 0 := by omega
    rw [h3]
    exact (Int.emod_eq_zero_of_dvd (Int.dvd_of_tmod_eq_zero h3)).symm
theorem over_neg (a s : Int) (hs : 1 ≤ s) (h : a.tmod s < 0) : a.tmod s + s = a % s := by
  have h0 : a < 0 := by
    by_cases h0 : 0 ≤ a
    · have := Int.tmod_nonneg s h0; omega
    · omega
  have h1 : a.tmod s = -((-a) % s) := by
    have := Int.neg_tmod (a := -a) (b := s); rw [Int.neg_neg] at this
    rw [this, Int.tmod_eq_emod_of_nonneg (by omega)]
  have h2 := Int.emod_nonneg (-a) (b := s) (by omega)
  have h3 := Int.emod_lt_of_pos (-a) (b := s) (by omega)
  have h4 : (a.tmod s + s) % s = a % s := by
    rw [Int.add_emod_right]
    have := Int.tmod_def a s
    rw [this, Int.sub_eq_add_neg, ← Int.mul_neg, Int.add_mul_emod_self_left]
  rw [← h4]
  exact (Int.emod_eq_of_lt (by omega) (by omega)).symm
theorem over_bd (a s : Int) (hs : 1 ≤ s) : -s ≤ a.tmod s ∧ a.tmod s < s := by
  by_cases h : 0 ≤ a.tmod s
  · have := over_pos a s hs h; have := Int.emod_lt_of_pos a (b := s) (by omega); omega
  · have h1 := over_neg a s hs (by omega)
    have h2 := Int.emod_nonneg a (b := s) (by omega)
    rw [← h1] at h2
    generalize a.tmod s = t at *
    omega
theorem emod_bd (a s : Int) (hs : 1 ≤ s) : 0 ≤ a % s ∧ a % s < s := ⟨Int.emod_nonneg _ (by omega), Int.emod_lt_of_pos _ (by omega)⟩
theorem upR_in (a s : Int) (ha : inR a) : inR (upR a s).1 := by
  unfold upR; split
  · unfold inR; simp
  · split
    · exact ha
    · exact fit_in _
theorem downR_in (a s : Int) : inR (downR a s).1 := by
  unfold downR; split
  · unfold inR; simp
  · exact fit_in _
end Go.Proofs.Ytdddhflppngloaa
