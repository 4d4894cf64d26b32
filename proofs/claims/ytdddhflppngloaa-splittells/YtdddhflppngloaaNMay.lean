/- Where a note may be split and end: package note, and the document's. -/
import Derived.Test.YtdddhflppngloaaNCk
namespace Go.Proofs.Ytdddhflppngloaa
open Go.RowKit
set_option maxRecDepth 20000
set_option linter.unusedVariables false
set_option linter.unusedSimpArgs false

theorem split_no {L P : List Int} {a : Int} (h : ¬ 1 ≤ a ∨ ¬ a < L.length ∨ ¬ a ≤ P.length) : splitN L P a = false := by
  unfold splitN
  rcases h with h | h | h <;> simp [h]
theorem split_at {L P : List Int} {m : Nat} (h1 : m + 1 < L.length) (h2 : m < P.length) : splitN L P ((m : Int) + 1) = decide (P.getD m 0 < 10000) := by
  unfold splitN
  have e1 : decide (1 ≤ (m : Int) + 1) = true := by simp; omega
  have e2 : decide ((m : Int) + 1 < L.length) = true := by simp; omega
  have e3 : decide ((m : Int) + 1 ≤ P.length) = true := by simp; omega
  have e4 : ((m : Int) + 1 - 1).toNat = m := by omega
  rw [e1, e2, e3, e4]
  rfl
theorem nsplit_any (la : Option Addr) (lc : Nat) (L : List Int) (pa : Option Addr) (pc : Nat) (P : List Int) (a : Int) (w : World) (hl : L.length ≤ 1000000) (hp : P.length ≤ 1000000) (hP : IRow w.heap.size w pa P) :
    Calls Try.prog 28 #[nte la L.length lc pa P.length pc, .int .i64 a] w fun e w' => e = .returned (.bool (splitN L P a)) ∧ Below w.heap.size w w' := by
  unfold nte
  by_cases h1 : 1 ≤ a
  · by_cases h2 : a < L.length
    · by_cases h3 : a ≤ P.length
      · obtain ⟨m, rfl⟩ : ∃ m : Nat, a = (m : Int) + 1 := ⟨(a - 1).toNat, by omega⟩
        rw [split_at (by omega) (by omega)]
        obtain ⟨hyin, b, off, rfl, hB, hck⟩ := hP m (by omega)
        clear hP
        generalize P.getD m 0 = y at *
        have e4 : (m : Int) + 1 - 1 = m := by omega
        go_enter Try.func28, Try.ntmps28
        go_wp2
        go_ret
        exact ⟨rfl, tbel1 w _⟩
      · rw [split_no (.inr (.inr h3))]
        clear hP
        go_enter Try.func28, Try.ntmps28
        go_wp2
        go_ret
        exact ⟨rfl, tbel1 w _⟩
    · rw [split_no (.inr (.inl h2))]
      clear hP
      go_enter Try.func28, Try.ntmps28
      go_wp2
      go_ret
      exact ⟨rfl, tbel1 w _⟩
  · rw [split_no (.inl h1)]
    clear hP
    go_enter Try.func28, Try.ntmps28
    go_wp2
    go_ret
    exact ⟨rfl, tbel1 w _⟩
theorem may_len {L P : List Int} {a : Int} (h : a = L.length) : mayN L P a = true := by unfold mayN; simp [h]
theorem may_not {L P : List Int} {a : Int} (h : ¬ a = L.length) : mayN L P a = splitN L P a := by unfold mayN; simp [h]
theorem split_yes {L P : List Int} {a : Int} (h : splitN L P a = true) : ∃ m : Nat, a = (m : Int) + 1 ∧ m + 1 < L.length ∧ m < P.length := by
  unfold splitN at h
  simp at h
  exact ⟨(a - 1).toNat, by omega, by omega, by omega⟩
theorem nends_any (la : Option Addr) (lc : Nat) (L : List Int) (pa : Option Addr) (pc : Nat) (P : List Int) (a : Int) (w : World) (hl : L.length ≤ 1000000) (hp : P.length ≤ 1000000) (hP : IRow w.heap.size w pa P) :
    Calls Try.prog 27 #[nte la L.length lc pa P.length pc, .int .i64 a] w fun e w' => e = .returned (.bool (mayN L P a)) ∧ Below w.heap.size w w' := by
  by_cases h : a = L.length
  · rw [may_len h]
    have h' : (a == (L.length : Int)) = true := by simpa using h
    clear hP
    unfold nte
    go_enter Try.func27, Try.ntmps27
    go_wp2
    go_ret
    exact ⟨rfl, tbel1 w _⟩
  · rw [may_not h]
    have h' : (a == (L.length : Int)) = false := by simpa using h
    have c := fun x (hx : Below w.heap.size w x) => nsplit_any la lc L pa pc P a x hl hp ((hP.carry hx (Nat.le_refl _)).mono hx.size)
    clear hP
    unfold nte at c ⊢
    generalize splitN L P a = v at *
    go_enter Try.func27, Try.ntmps27
    go_wp2_with (refine (c _ (tbel1 w _)).mono ?_; rintro e w1 ⟨rfl, b1⟩)
    go_ret
    exact ⟨rfl, tstep (tbel1 w _) b1 (tbel1 w _).size⟩
end Go.Proofs.Ytdddhflppngloaa
