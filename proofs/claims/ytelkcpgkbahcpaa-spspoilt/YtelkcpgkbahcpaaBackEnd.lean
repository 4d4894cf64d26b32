/- The law SpBack, walked, over the cut of stage 1. -/
import Derived.Test.YtelkcpgkbahcpaaBack
namespace Go.Proofs.Ytelkcpgkbahcpaa
open Go.RowKit

theorem up_facts (a b : Int) (ha : inR a) (h : (upR a b).2 = true) : 1 ≤ b ∧ a ≤ (upR a b).1 ∧ ((upR a b).1).tmod b = 0 ∧ inR (upR a b).1 ∧ (upR a b).1 - a < b := by
  by_cases h1 : b < 1
  · rw [upR, if_pos h1] at h; simp at h
  · have hin := upR_in a b ha
    have hb := emod_bd a b (by omega)
    have he := Int.emod_add_mul_ediv a b
    by_cases h2 : a % b = 0
    · rw [upR, if_neg h1, if_pos h2] at hin ⊢
      refine ⟨by omega, Int.le_refl _, Int.tmod_eq_zero_of_dvd (Int.dvd_of_emod_eq_zero h2), ha, by omega⟩
    · rw [upR, if_neg h1, if_neg h2] at h hin ⊢
      unfold addR at h hin ⊢
      by_cases h3 : inR (a + (b - a % b))
      · rw [fit_pos h3] at h hin ⊢
        refine ⟨by omega, by show a ≤ a + (b - a % b); generalize a % b = t at *; omega, Int.tmod_eq_zero_of_dvd ⟨a / b + 1, ?_⟩, h3, by show a + (b - a % b) - a < b; generalize a % b = t at *; omega⟩
        show a + (b - a % b) = b * (a / b + 1)
        rw [Int.mul_add, Int.mul_one]
        generalize b * (a / b) = q at *
        generalize a % b = t at *
        omega
      · rw [fit_neg h3] at h; simp at h
theorem down_facts (a b : Int) (h : (downR a b).2 = true) : 1 ≤ b ∧ (downR a b).1 ≤ a ∧ ((downR a b).1).tmod b = 0 ∧ inR (downR a b).1 ∧ a - (downR a b).1 < b := by
  by_cases h1 : b < 1
  · rw [downR, if_pos h1] at h; simp at h
  · have hin := downR_in a b
    have hb := emod_bd a b (by omega)
    have he := Int.emod_add_mul_ediv a b
    rw [downR, if_neg h1] at h hin ⊢
    unfold subR at h hin ⊢
    by_cases h3 : inR (a - a % b)
    · rw [fit_pos h3] at h hin ⊢
      refine ⟨by omega, by show a - a % b ≤ a; generalize a % b = t at *; omega, Int.tmod_eq_zero_of_dvd ⟨a / b, ?_⟩, h3, by show a - (a - a % b) < b; generalize a % b = t at *; omega⟩
      show a - a % b = b * (a / b)
      generalize b * (a / b) = q at *
      generalize a % b = t at *
      omega
    · rw [fit_neg h3] at h; simp at h
theorem inR_wf {a : Int} (h : (Lit.int .i64 a).wf = true) : inR a := by
  simp [Lit.wf, IntKind.min, IntKind.max, IntKind.signed, IntKind.bits] at h
  unfold inR; omega
theorem spBack_walk (a : Int) (wa : (Lit.int .i64 a).wf = true) (b : Int) (wb : (Lit.int .i64 b).wf = true) (w : World) :
    Calls Try.prog 5 #[.int .i64 a, .int .i64 b] w fun e w' => e = .returned (.bool true) ∧ Below w.heap.size w w' := by
  have ha := inR_wf wa
  have hb := inR_wf wb
  refine back_core a b (subR (addR a b).1 b).1 (upR a b).1 (downR a b).1 (addR a b) (subR (addR a b).1 b).2 (upR a b).2 (downR a b).2 w ha hb
    (fun w => add_any a b w ha hb) (fun w => sub_any _ b w (fit_in _) hb) (fun w => up_any a b w ha hb) (fun w => down_any a b w ha hb) ?_ (up_facts a b ha) (down_facts a b)
  intro h
  unfold addR at h ⊢
  by_cases h3 : inR (a + b)
  · rw [fit_pos h3]
    have e : subR (a + b) b = (a, true) := by
      unfold subR; rw [show a + b - b = a from by omega]; exact fit_pos ha
    rw [e]; simp
  · rw [fit_neg h3] at h; simp at h
end Go.Proofs.Ytelkcpgkbahcpaa
