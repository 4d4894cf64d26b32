/- Plain mathematics for the law ShareAdds. -/
import Derived.Test.YtonffgnmljppgaaSMath
namespace Go.Proofs.Ytonffgnmljppgaa
set_option linter.unusedVariables false

theorem ediv_parts (a b S : Int) (hS : 0 < S) : b / S ≤ (a + b) / S - a / S ∧ (a + b) / S - a / S ≤ b / S + 1 := by
  have h1 := Int.mul_ediv_add_emod a S
  have h2 := Int.mul_ediv_add_emod b S
  have r1 := Int.emod_nonneg a (Int.ne_of_gt hS)
  have r2 := Int.emod_nonneg b (Int.ne_of_gt hS)
  have r3 := Int.emod_lt_of_pos a hS
  have r4 := Int.emod_lt_of_pos b hS
  have e : (a + b) / S = a / S + b / S + (a % S + b % S) / S := by
    have : a + b = (a % S + b % S) + S * (a / S + b / S) := by
      rw [Int.mul_add]; omega
    rw [this, Int.add_mul_ediv_left _ _ (Int.ne_of_gt hS)]
    omega
  have q1 : 0 ≤ (a % S + b % S) / S := Int.ediv_nonneg (by omega) (by omega)
  have q2 : (a % S + b % S) / S < 2 := Int.ediv_lt_of_lt_mul hS (by omega)
  omega
/-- What is fair for the part with index k. -/
def fairK (whole : Int) (l : List Int) (k : Nat) : Int := whole * l.getD k 0 / l.sum
theorem share_fair {whole : Int} {l : List Int} (h : rightS whole l = true) (k : Nat) (hk : k < l.length) : fairK whole l k ≤ shareK whole l k ∧ shareK whole l k ≤ fairK whole l k + 1 := by
  obtain ⟨h0, hn, h1, h2, _⟩ := rightS_facts h
  have := ediv_parts (whole * (l.take k).sum) (whole * l.getD k 0) l.sum (by omega)
  unfold fairK shareK cumS
  rw [sum_snoc l k hk, Int.mul_add]
  exact this
theorem share_zero {whole : Int} {l : List Int} (h : rightS whole l = true) (k : Nat) (hk : k < l.length) (hp : l.getD k 0 = 0) : shareK whole l k = 0 := by
  unfold shareK cumS
  rw [sum_snoc l k hk, hp, Int.add_zero]
  omega
theorem part_le {l : List Int} (hn : noneNeg l = true) (k : Nat) (hk : k < l.length) : l.getD k 0 ≤ l.sum := by
  have h1 := sum_nn hn k
  have h2 := sum_le hn (k + 1)
  rw [sum_snoc l k hk] at h2
  omega
theorem fair_bd {whole : Int} {l : List Int} (h : rightS whole l = true) (k : Nat) (hk : k < l.length) : 0 ≤ fairK whole l k ∧ fairK whole l k ≤ whole := by
  obtain ⟨h0, hn, h1, h2, _⟩ := rightS_facts h
  have h3 := share_fair h k hk
  have h4 := share_bd h k
  refine ⟨?_, by omega⟩
  exact Int.ediv_nonneg (Int.mul_nonneg h0 (noneNeg_get hn k)) (by omega)
theorem rat_fair {whole : Int} {l : List Int} (h : rightS whole l = true) (hw : whole ≤ 9223372036854775807) (k : Nat) (hk : k < l.length) :
    ratR whole (l.getD k 0) l.sum = (fairK whole l k, true) := by
  obtain ⟨h0, hn, h1, h2, _⟩ := rightS_facts h
  have h3 := noneNeg_get hn k
  have h4 := fair_bd h k hk
  unfold fairK at *
  unfold ratR
  rw [if_neg (by omega), if_pos (by omega)]
/-- The first shares add up to the cumulative share. -/
theorem upto_sum (whole : Int) (l : List Int) (k : Nat) : (uptoS (shareK whole l) k).sum = cumS whole l k := by
  induction k with
  | zero => rw [cum_zero]; simp [uptoS]
  | succ k ih =>
    rw [uptoS_succ, List.sum_append, ih]
    simp [shareK]
    omega
theorem shares_total {whole : Int} {l : List Int} (h : rightS whole l = true) (hw : inR whole) : total (shareL whole l) = (whole, true) := by
  have hn : noneNeg (shareL whole l) = true := by
    unfold noneNeg shareL
    rw [if_pos h, List.all_eq_true]
    intro x hx
    unfold uptoS at hx
    rw [List.mem_map] at hx
    obtain ⟨k, _, rfl⟩ := hx
    have := share_bd h k
    simp; omega
  rw [total_eq hn]
  have e : (shareL whole l).sum = whole := by
    unfold shareL
    rw [if_pos h, upto_sum, cum_all h _ (Nat.le_refl _)]
  rw [e, fit_pos hw]
theorem parts_total {whole : Int} {l : List Int} (h : rightS whole l = true) : total l = (l.sum, true) := by
  obtain ⟨h0, hn, h1, h2, _⟩ := rightS_facts h
  rw [total_eq hn, fit_pos (by unfold inR; omega)]
end Go.Proofs.Ytonffgnmljppgaa
