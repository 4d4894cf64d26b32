/- Where a note may be split and end: package note, and the document's. -/
import Derived.Test.YtniipfpfilenmaaNCk
namespace Go.Proofs.Ytniipfpfilenmaa
open Go.RowKit
set_option maxRecDepth 20000
set_option linter.unusedVariables false
set_option linter.unusedSimpArgs false

theorem split_no {L P : List Int} {a : Int} (h : ¬ 1 ≤ a ∨ ¬ a < L.length ∨ ¬ a ≤ P.length) : splitN L P a = false := by
  unfold splitN
  rcases h with h | h | h <;> simp [h]
theorem split_at {L P : List Int} {m : Nat} (h1 : m + 1 < L.length) (h2 : m < P.length) : splitN L P ((m : Int) + 1) = decide (P.getD m 0 < 10000) := by
  unfold splitN
  have e1 : decide (1 ≤ (m : Int) + 1) = true := by simp; omega
  have e2 : decide ((m : Int) + 1 < L.length) = true := by simp; omega
  have e3 : decide ((m : Int) + 1 ≤ P.length) = true := by simp; omega
  have e4 : ((m : Int) + 1 - 1).toNat = m := by omega
  rw [e1, e2, e3, e4]
  rfl
theorem may_len {L P : List Int} {a : Int} (h : a = L.length) : mayN L P a = true := by unfold mayN; simp [h]
theorem may_not {L P : List Int} {a : Int} (h : ¬ a = L.length) : mayN L P a = splitN L P a := by unfold mayN; simp [h]
theorem split_yes {L P : List Int} {a : Int} (h : splitN L P a = true) : ∃ m : Nat, a = (m : Int) + 1 ∧ m + 1 < L.length ∧ m < P.length := by
  unfold splitN at h
  simp at h
  exact ⟨(a - 1).toNat, by omega, by omega, by omega⟩
end Go.Proofs.Ytniipfpfilenmaa
