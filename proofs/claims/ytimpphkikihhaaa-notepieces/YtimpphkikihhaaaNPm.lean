/- Mathematics of NotePieces: pieces add up, stops lead to the end. -/
import Derived.Test.YtimpphkikihhaaaNMay
namespace Go.Proofs.Ytimpphkikihhaaa
open Go.RowKit
set_option maxRecDepth 20000
set_option linter.unusedVariables false
set_option linter.unusedSimpArgs false

theorem check_facts {L P : List Int} (h : checkN L P = true) : 1 ≤ L.length ∧ L.length ≤ 64 ∧ P.length + 1 = L.length ∧ ∀ k, k < L.length → 1 ≤ L.getD k 0 ∧ L.getD k 0 ≤ 1073741823 := by
  unfold checkN at h
  simp only [Bool.and_eq_true, decide_eq_true_eq, Bool.not_eq_true'] at h
  obtain ⟨⟨⟨⟨h1, h2⟩, h3⟩, h4⟩, h5⟩ := h
  refine ⟨h1, h2, h3, fun k hk => ?_⟩
  have : badH (L.getD k 0) = false := by
    cases hb : badH (L.getD k 0)
    · rfl
    · rw [any_at hk hb] at h4; cases h4
  unfold badH at this
  simp only [Bool.or_eq_false_iff, decide_eq_false_iff_not] at this
  omega
theorem lev_id {x : Int} (h0 : 0 ≤ x) (h1 : x ≤ 1125899906842624) : lev x = x := by
  unfold lev
  rw [if_neg (by omega), if_neg (by omega)]
theorem high_small {L : List Int} (hv : ∀ k, k < L.length → 1 ≤ L.getD k 0 ∧ L.getD k 0 ≤ 1073741823) (f t : Int) (j : Nat) (hj : j ≤ L.length) : 0 ≤ highUp L f t j ∧ highUp L f t j ≤ 1073741823 * j := by
  induction j with
  | zero => simp [highUp]
  | succ j ih =>
    have h1 := ih (by omega)
    have h2 := hv j (by omega)
    refine ⟨(highUp_in L f t (j + 1)).1, ?_⟩
    unfold highUp
    split
    · have : lev (highUp L f t j + lev (L.getD j 0)) ≤ highUp L f t j + lev (L.getD j 0) := by
        have := lev_in (L.getD j 0)
        unfold lev
        rw [if_neg (by unfold lev at this; omega)]
        split <;> omega
      rw [lev_id (x := L.getD j 0) (by omega) (by omega)] at this
      rw [lev_id (x := L.getD j 0) (by omega) (by omega)]
      omega
    · omega
theorem high_step {L : List Int} (hv : ∀ k, k < L.length → 1 ≤ L.getD k 0 ∧ L.getD k 0 ≤ 1073741823) (hl : L.length ≤ 64) (f t : Int) (j : Nat) (hj : j < L.length) :
    highUp L f t (j + 1) = if f ≤ (j : Int) ∧ (j : Int) < t then highUp L f t j + L.getD j 0 else highUp L f t j := by
  have h1 := high_small hv f t j (by omega)
  have h2 := hv j hj
  rw [highUp, lev_id (x := L.getD j 0) (by omega) (by omega), lev_id (by omega) (by omega)]
/-- Two pieces that follow one another. -/
theorem high_join {L : List Int} (hv : ∀ k, k < L.length → 1 ≤ L.getD k 0 ∧ L.getD k 0 ≤ 1073741823) (hl : L.length ≤ 64) (a b : Int) (h0 : 0 ≤ a) (hab : a ≤ b) :
    highN L 0 a + highN L a b = highN L 0 b := by
  unfold highN
  have : ∀ j, j ≤ L.length → highUp L 0 a j + highUp L a b j = highUp L 0 b j := by
    intro j
    induction j with
    | zero => intro _; simp [highUp]
    | succ j ih =>
      intro hj
      have := ih (by omega)
      rw [high_step hv hl 0 a j (by omega), high_step hv hl a b j (by omega), high_step hv hl 0 b j (by omega)]
      split <;> split <;> split <;> omega
  exact this _ (Nat.le_refl _)
theorem highN_in (L : List Int) (f t : Int) : 0 ≤ highN L f t ∧ highN L f t ≤ 1125899906842624 := highUp_in L f t _
theorem stopsUp_pair (L P : List Int) (f : Int) (j : Nat) : (stopsUp L P f j).Pairwise (· < ·) := by
  induction j with
  | zero => simp [stopsUp]
  | succ j ih =>
    rw [stopsUp, List.pairwise_append]
    refine ⟨ih, ?_, fun x hx y hy => ?_⟩
    · cases (decide (f < (j : Int)) && mayN L P j) <;> simp
    · have h1 := stopsUp_mem L P f j x hx
      have h2 : y = j := by
        cases hc : (decide (f < (j : Int)) && mayN L P j) <;> rw [hc] at hy <;> simp at hy
        exact hy
      omega
/-- The stop ahead of the i-th. -/
def atS (S : List Int) (i : Nat) : Int := (0 :: S).getD i 0
theorem atS_succ (S : List Int) (i : Nat) : atS S (i + 1) = S.getD i 0 := by unfold atS; rfl
theorem atS_lt {L P : List Int} {i : Nat} (hi : i < (stopsN L P 0).length) : atS (stopsN L P 0) i < (stopsN L P 0).getD i 0 := by
  have hp : (0 :: stopsN L P 0).Pairwise (· < ·) := List.pairwise_cons.2 ⟨fun x hx => (stopsUp_mem L P 0 _ x hx).1, stopsUp_pair L P 0 _⟩
  have := List.pairwise_iff_getElem.1 hp i (i + 1) (by simp; omega) (by simp; omega) (by omega)
  unfold atS
  rw [List.getD_eq_getElem?_getD, List.getD_eq_getElem?_getD, List.getElem?_eq_getElem (by simp; omega), List.getElem?_eq_getElem hi]
  simpa using this
theorem atS_in {L P : List Int} (i : Nat) : 0 ≤ atS (stopsN L P 0) i ∧ atS (stopsN L P 0) i ≤ L.length := by
  cases i with
  | zero => unfold atS; simp
  | succ i =>
    rw [atS_succ]
    by_cases hi : i < (stopsN L P 0).length
    · have hm : (stopsN L P 0).getD i 0 ∈ stopsN L P 0 := by
        rw [List.getD_eq_getElem?_getD, List.getElem?_eq_getElem hi]; simp
      have := stopsUp_mem L P 0 _ _ hm
      omega
    · rw [List.getD_eq_getElem?_getD, List.getElem?_eq_none (by omega)]; simp
theorem atS_end {L P : List Int} (h : 1 ≤ L.length) : atS (stopsN L P 0) (stopsN L P 0).length = L.length := by
  have e : stopsN L P 0 = stopsUp L P 0 L.length ++ [(L.length : Int)] := stopsUp_yes (by omega) (may_len rfl)
  rw [e, List.length_append, List.length_cons, List.length_nil, atS_succ, List.getD_eq_getElem?_getD]
  simp
end Go.Proofs.Ytimpphkikihhaaa
