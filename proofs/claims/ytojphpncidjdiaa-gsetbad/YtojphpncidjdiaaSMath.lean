/- Plain mathematics for stage 8: cumulative shares and shares, over Lean's integers. -/
import Derived.Test.YtojphpncidjdiaaSSum
import Derived.Test.YtojphpncidjdiaaWRat
namespace Go.Proofs.Ytojphpncidjdiaa
open Go.RowKit
set_option maxRecDepth 20000
set_option linter.unusedVariables false

/-- Are no parts negative? -/
def noneNeg (l : List Int) : Bool := l.all fun x => decide (0 ≤ x)
/-- What share.base answers. -/
def baseR (whole : Int) (l : List Int) : Int × Bool :=
  if whole < 0 then (0, false) else if noneNeg l then ((total l).1, (total l).2 && decide (0 < (total l).1)) else (0, false)
/-- Can the whole be shared? -/
def rightS (whole : Int) (l : List Int) : Bool := (baseR whole l).2
/-- The cumulative share at k. -/
def cumS (whole : Int) (l : List Int) (k : Nat) : Int := whole * (l.take k).sum / l.sum
def shareK (whole : Int) (l : List Int) (k : Nat) : Int := cumS whole l (k + 1) - cumS whole l k
/-- What has come when k rounds are over. -/
def uptoS {α : Type} (f : Nat → α) (k : Nat) : List α := (List.range k).map f
theorem uptoS_succ {α : Type} (f : Nat → α) (k : Nat) : uptoS f (k + 1) = uptoS f k ++ [f k] := by simp [uptoS, List.range_succ]
theorem uptoS_length {α : Type} (f : Nat → α) (k : Nat) : (uptoS f k).length = k := by simp [uptoS]
theorem uptoS_map {α β : Type} (f : Nat → α) (g : α → β) (k : Nat) : (uptoS f k).map g = uptoS (fun i => g (f i)) k := by simp [uptoS]
theorem uptoS_getD (f : Nat → Int) (k i : Nat) (h : i < k) : (uptoS f k).getD i 0 = f i := by
  rw [List.getD_eq_getElem?_getD]; simp [uptoS, h]
theorem uptoS_take {α : Type} (f : Nat → α) (k n : Nat) (h : n ≤ k) : (uptoS f k).take n = uptoS f n := by
  apply List.ext_getElem
  · simp [uptoS, h]
  · intro i h1 h2
    simp [uptoS]
/-- All shares, or none. -/
def shareL (whole : Int) (l : List Int) : List Int := if rightS whole l then uptoS (shareK whole l) l.length else []

theorem noneNeg_snoc (l : List Int) (k : Nat) (h : k < l.length) : noneNeg (l.take (k + 1)) = (noneNeg (l.take k) && decide (0 ≤ l.getD k 0)) := by
  unfold noneNeg
  rw [List.take_succ_eq_append_getElem h, List.all_append]
  simp [h]
theorem noneNeg_stop (l : List Int) (k : Nat) (h : k < l.length) (hx : l.getD k 0 < 0) : noneNeg l = false := by
  unfold noneNeg
  rw [List.all_eq_false]
  refine ⟨l.getD k 0, ?_, by simpa using hx⟩
  rw [List.getD_eq_getElem?_getD, List.getElem?_eq_getElem h]
  simp
theorem noneNeg_get {l : List Int} (h : noneNeg l = true) (k : Nat) : 0 ≤ l.getD k 0 := by
  unfold noneNeg at h
  rw [List.all_eq_true] at h
  rw [List.getD_eq_getElem?_getD]
  by_cases hk : k < l.length
  · rw [List.getElem?_eq_getElem hk]; simpa using h _ (List.getElem_mem hk)
  · rw [List.getElem?_eq_none (by omega)]; simp
theorem sum_snoc (l : List Int) (k : Nat) (h : k < l.length) : (l.take (k + 1)).sum = (l.take k).sum + l.getD k 0 := by
  rw [List.take_succ_eq_append_getElem h, List.sum_append]
  simp [h]
/-- The sums of first parts rise. -/
theorem sum_rise {l : List Int} (hn : noneNeg l = true) (j k : Nat) (h : j ≤ k) : (l.take j).sum ≤ (l.take k).sum := by
  induction k with
  | zero => rw [show j = 0 by omega]; exact Int.le_refl _
  | succ k ih =>
    by_cases hj : j = k + 1
    · subst hj; exact Int.le_refl _
    · have := ih (by omega)
      by_cases hk : k < l.length
      · rw [sum_snoc l k hk]; have := noneNeg_get hn k; omega
      · rw [List.take_of_length_le (by omega : l.length ≤ k + 1)]; rw [List.take_of_length_le (by omega : l.length ≤ k)] at this; exact this
theorem sum_nn {l : List Int} (hn : noneNeg l = true) (k : Nat) : 0 ≤ (l.take k).sum := by
  have := sum_rise hn 0 k (Nat.zero_le _); simpa using this
theorem sum_le {l : List Int} (hn : noneNeg l = true) (k : Nat) : (l.take k).sum ≤ l.sum := by
  by_cases hk : k ≤ l.length
  · have := sum_rise hn k l.length hk; rwa [List.take_length] at this
  · rw [List.take_of_length_le (by omega)]; exact Int.le_refl _
/-- Sp's sum of parts that are not negative is the sum where it is of 64 bits; else there is none. -/
theorem total_take {l : List Int} (hn : noneNeg l = true) : ∀ k, k ≤ l.length → total (l.take k) = fit (l.take k).sum := by
  intro k
  induction k with
  | zero => intro _; simp [total, fit, inR]
  | succ k ih =>
    intro hk
    rw [total_snoc l k (by omega), ih (by omega), sum_snoc l k (by omega)]
    have h0 := noneNeg_get hn k
    have h1 := sum_nn hn k
    by_cases hi : inR (l.take k).sum
    · rw [fit_pos hi]; rfl
    · rw [fit_neg hi, fit_neg (x := (l.take k).sum + l.getD k 0) (by unfold inR at *; omega)]; rfl
theorem total_eq {l : List Int} (hn : noneNeg l = true) : total l = fit l.sum := by
  have := total_take hn l.length (Nat.le_refl _); rwa [List.take_length] at this
/-- What is known of a whole that can be shared. -/
theorem rightS_facts {whole : Int} {l : List Int} (h : rightS whole l = true) :
    0 ≤ whole ∧ noneNeg l = true ∧ 1 ≤ l.sum ∧ l.sum ≤ 9223372036854775807 ∧ baseR whole l = (l.sum, true) := by
  unfold rightS baseR at h
  unfold baseR
  split at h
  · cases h
  · rename_i hw
    split at h
    · rename_i hn
      rw [if_neg hw, if_pos hn]
      rw [total_eq hn] at *
      simp only [Bool.and_eq_true, decide_eq_true_eq] at h
      obtain ⟨h1, h2⟩ := h
      have hf : inR l.sum := by
        by_cases hi : inR l.sum
        · exact hi
        · rw [fit_neg hi] at h1; cases h1
      rw [fit_pos hf] at *
      have hf' := hf
      unfold inR at hf'
      simp only at h2
      refine ⟨by omega, hn, by omega, hf'.2, ?_⟩
      simp [h2]
    · cases h
theorem rightS_no {whole : Int} {l : List Int} (h : rightS whole l = false) : (baseR whole l).2 = false := h
/-- The cumulative shares lie between 0 and the whole, and rise. -/
theorem cum_rise {whole : Int} {l : List Int} (h : rightS whole l = true) (j k : Nat) (hjk : j ≤ k) : cumS whole l j ≤ cumS whole l k := by
  obtain ⟨h0, hn, h1, h2, _⟩ := rightS_facts h
  unfold cumS
  exact Int.ediv_le_ediv (by omega) (Int.mul_le_mul_of_nonneg_left (sum_rise hn j k hjk) h0)
theorem cum_zero (whole : Int) (l : List Int) : cumS whole l 0 = 0 := by simp [cumS]
theorem cum_all {whole : Int} {l : List Int} (h : rightS whole l = true) (k : Nat) (hk : l.length ≤ k) : cumS whole l k = whole := by
  obtain ⟨h0, hn, h1, h2, _⟩ := rightS_facts h
  unfold cumS
  rw [List.take_of_length_le hk]
  exact Int.mul_ediv_cancel _ (by omega)
theorem cum_bd {whole : Int} {l : List Int} (h : rightS whole l = true) (k : Nat) : 0 ≤ cumS whole l k ∧ cumS whole l k ≤ whole := by
  have h1 := cum_rise h 0 k (Nat.zero_le _)
  rw [cum_zero] at h1
  have h2 := cum_rise h k (k + l.length) (by omega)
  rw [cum_all h (k + l.length) (by omega)] at h2
  exact ⟨h1, h2⟩
theorem share_bd {whole : Int} {l : List Int} (h : rightS whole l = true) (k : Nat) : 0 ≤ shareK whole l k ∧ shareK whole l k ≤ whole := by
  have h1 := cum_rise h k (k + 1) (by omega)
  have h2 := cum_bd h k
  have h3 := cum_bd h (k + 1)
  unfold shareK
  omega
/-- What wide.Ratio answers there. -/
theorem rat_cum {whole : Int} {l : List Int} (h : rightS whole l = true) (hw : whole ≤ 9223372036854775807) (k : Nat) :
    ratR whole (l.take k).sum l.sum = (cumS whole l k, true) := by
  obtain ⟨h0, hn, h1, h2, _⟩ := rightS_facts h
  have h3 := sum_nn hn k
  have h4 := cum_bd h k
  unfold cumS at *
  unfold ratR
  rw [if_neg (by omega), if_pos (by omega)]
theorem shareL_len {whole : Int} {l : List Int} (h : rightS whole l = true) : (shareL whole l).length = l.length := by
  unfold shareL; rw [if_pos h, uptoS_length]
theorem right_pos {whole : Int} {l : List Int} (h : rightS whole l = true) : 0 < l.length := by
  obtain ⟨h0, hn, h1, h2, _⟩ := rightS_facts h
  cases l with
  | nil => simp at h1
  | cons a r => simp
theorem shareL_getD {whole : Int} {l : List Int} (h : rightS whole l = true) (k : Nat) (hk : k < l.length) : (shareL whole l).getD k 0 = shareK whole l k := by
  unfold shareL; rw [if_pos h, uptoS_getD _ _ _ hk]
end Go.Proofs.Ytojphpncidjdiaa
