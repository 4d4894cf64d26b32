/- Plain mathematics for stage 11: notes, over Lean's integers. -/
import Derived.Test.YtdddhflppngloaaSSum
namespace Go.Proofs.Ytdddhflppngloaa
open Go.RowKit
set_option maxRecDepth 20000
set_option linter.unusedVariables false
set_option linter.unusedSimpArgs false

def badH (x : Int) : Bool := decide (x < 1) || decide (1073741823 < x)
def badP (x : Int) : Bool := decide (x < 0) || decide (10000 < x)
/-- May a note of the lines L and the penalties P be? -/
def checkN (L P : List Int) : Bool := decide (1 ≤ L.length) && decide (L.length ≤ 64) && decide (P.length + 1 = L.length) && !(L.any badH) && !(P.any badP)
def levN (x : Int) : Int := if x < 0 then 0 else if 1125899906842624 < x then 1125899906842624 else x
/-- The height of the lines from f to t among the first j. -/
def highUp (L : List Int) (f t : Int) : Nat → Int
  | 0 => 0
  | j + 1 => if f ≤ (j : Int) ∧ (j : Int) < t then levN (highUp L f t j + levN (L.getD j 0)) else highUp L f t j
def highN (L : List Int) (f t : Int) : Int := highUp L f t L.length
def splitN (L P : List Int) (a : Int) : Bool := decide (1 ≤ a) && decide (a < L.length) && decide (a ≤ P.length) && decide (P.getD (a - 1).toNat 0 < 10000)
def mayN (L P : List Int) (a : Int) : Bool := decide (a = L.length) || splitN L P a
def penN (L P : List Int) (a : Int) : Int := bif splitN L P a then P.getD (a - 1).toNat 0 else 0
/-- Where the note may end behind f, among 0 .. j - 1. -/
def stopsUp (L P : List Int) (f : Int) : Nat → List Int
  | 0 => []
  | j + 1 => stopsUp L P f j ++ (bif decide (f < (j : Int)) && mayN L P j then [(j : Int)] else [])
def stopsN (L P : List Int) (f : Int) : List Int := stopsUp L P f (L.length + 1)
def firstN (L P : List Int) (f : Int) : Int := (stopsN L P f).headD (-1)

theorem lev_in (x : Int) : 0 ≤ levN x ∧ levN x ≤ 1125899906842624 := by unfold levN; split <;> (try split) <;> omega
theorem highUp_in (L : List Int) (f t : Int) (j : Nat) : 0 ≤ highUp L f t j ∧ highUp L f t j ≤ 1125899906842624 := by
  induction j with
  | zero => simp [highUp]
  | succ j ih =>
    unfold highUp
    split
    · exact lev_in _
    · exact ih
theorem highUp_low (L : List Int) (f t : Int) (j : Nat) (h : (j : Int) ≤ f ∨ j = 0) : highUp L f t j = 0 := by
  induction j with
  | zero => rfl
  | succ j ih =>
    unfold highUp
    rw [if_neg (by omega)]
    exact ih (by omega)
theorem highUp_over (L : List Int) (f t : Int) (j : Nat) (h : t ≤ (j : Int)) (k : Nat) : highUp L f t (j + k) = highUp L f t j := by
  induction k with
  | zero => rfl
  | succ k ih =>
    have e : highUp L f t ((j + k) + 1) = if f ≤ ((j + k : Nat) : Int) ∧ ((j + k : Nat) : Int) < t then levN (highUp L f t (j + k) + levN (L.getD (j + k) 0)) else highUp L f t (j + k) := rfl
    rw [if_neg (by omega)] at e
    exact e.trans ih
theorem highN_over (L : List Int) (f t : Int) (j : Nat) (h : t ≤ (j : Int)) (hj : j ≤ L.length) : highN L f t = highUp L f t j := by
  have := highUp_over L f t j h (L.length - j)
  rwa [Nat.add_sub_cancel' hj] at this
theorem highN_zero (L : List Int) (f t : Int) (h : t ≤ f ∨ t ≤ 0 ∨ (L.length : Int) ≤ f) : highN L f t = 0 := by
  unfold highN
  rcases h with h | h | h
  · generalize L.length = n
    induction n with
    | zero => rfl
    | succ j ih => unfold highUp; rw [if_neg (by omega)]; exact ih
  · generalize L.length = n
    induction n with
    | zero => rfl
    | succ j ih => unfold highUp; rw [if_neg (by omega)]; exact ih
  · exact highUp_low L f t _ (.inl h)

theorem stopsUp_none (L P : List Int) (f : Int) (j : Nat) (h : (j : Int) ≤ f + 1) : stopsUp L P f j = [] := by
  induction j with
  | zero => rfl
  | succ j ih =>
    unfold stopsUp
    rw [ih (by omega)]
    have : decide (f < (j : Int)) = false := by simp; omega
    rw [this]
    rfl
theorem stopsUp_yes {L P : List Int} {f : Int} {j : Nat} (h : f < (j : Int)) (hm : mayN L P j = true) : stopsUp L P f (j + 1) = stopsUp L P f j ++ [(j : Int)] := by
  rw [stopsUp, hm]
  simp [h]
theorem stopsUp_no {L P : List Int} {f : Int} {j : Nat} (h : ¬ f < (j : Int) ∨ mayN L P j = false) : stopsUp L P f (j + 1) = stopsUp L P f j := by
  rw [stopsUp]
  rcases h with h | h
  · simp [h]
  · simp [h]
/-- What is behind k is what follows it. -/
theorem stopsUp_split (L P : List Int) (f : Int) (k : Nat) (h : f ≤ (k : Int)) (d : Nat) : stopsUp L P f (k + 1 + d) = stopsUp L P f (k + 1) ++ stopsUp L P k (k + 1 + d) := by
  induction d with
  | zero => rw [Nat.add_zero, stopsUp_none L P k (k + 1) (by omega), List.append_nil]
  | succ d ih =>
    have e : ∀ g, stopsUp L P g ((k + 1 + d) + 1) = stopsUp L P g (k + 1 + d) ++ (bif decide (g < ((k + 1 + d : Nat) : Int)) && mayN L P ((k + 1 + d : Nat) : Int) then [((k + 1 + d : Nat) : Int)] else []) := fun _ => rfl
    show stopsUp L P f ((k + 1 + d) + 1) = _ ++ stopsUp L P k ((k + 1 + d) + 1)
    rw [e, e, ih]
    have h1 : decide (f < ((k + 1 + d : Nat) : Int)) = true := by simp; omega
    have h2 : decide ((k : Int) < ((k + 1 + d : Nat) : Int)) = true := by simp; omega
    rw [h1, h2, List.append_assoc]
theorem stopsUp_pre (L P : List Int) (f : Int) (j d : Nat) : ∃ r, stopsUp L P f (j + d) = stopsUp L P f j ++ r := by
  induction d with
  | zero => exact ⟨[], by simp⟩
  | succ d ih =>
    obtain ⟨r, hr⟩ := ih
    exact ⟨r ++ (bif decide (f < ((j + d : Nat) : Int)) && mayN L P ((j + d : Nat) : Int) then [((j + d : Nat) : Int)] else []), by show stopsUp L P f ((j + d) + 1) = _; rw [stopsUp, hr, List.append_assoc]⟩
theorem firstN_at {L P : List Int} {f : Int} {k : Nat} (hk : k ≤ L.length) (h0 : stopsUp L P f k = []) (hf : f < (k : Int)) (hm : mayN L P k = true) : firstN L P f = k := by
  unfold firstN stopsN
  obtain ⟨r, hr⟩ := stopsUp_pre L P f (k + 1) (L.length - k)
  rw [show k + 1 + (L.length - k) = L.length + 1 by omega, stopsUp_yes hf hm, h0] at hr
  rw [hr]
  rfl
theorem firstN_none {L P : List Int} {f : Int} (h : stopsN L P f = []) : firstN L P f = -1 := by
  unfold firstN; rw [h]; rfl
theorem firstN_spec (L P : List Int) (f : Int) : (firstN L P f = -1 ∧ stopsN L P f = []) ∨ ∃ k : Nat, k ≤ L.length ∧ firstN L P f = k ∧ f < (k : Int) ∧ mayN L P k = true ∧ stopsUp L P f k = [] := by
  have : ∀ n, n ≤ L.length + 1 → stopsUp L P f n = [] ∨ ∃ k : Nat, k < n ∧ f < (k : Int) ∧ mayN L P k = true ∧ stopsUp L P f k = [] := by
    intro n
    induction n with
    | zero => exact fun _ => .inl rfl
    | succ n ih =>
      intro hn
      rcases ih (by omega) with h | ⟨k, h1, h2⟩
      · by_cases hc : f < (n : Int) ∧ mayN L P n = true
        · exact .inr ⟨n, by omega, hc.1, hc.2, h⟩
        · refine .inl ?_
          rw [stopsUp_no, h]
          by_cases h1 : f < (n : Int)
          · exact .inr (by simpa [h1] using hc)
          · exact .inl h1
      · exact .inr ⟨k, by omega, h2⟩
  rcases this (L.length + 1) (Nat.le_refl _) with h | ⟨k, h1, h2, h3, h4⟩
  · exact .inl ⟨firstN_none h, h⟩
  · exact .inr ⟨k, by omega, firstN_at (by omega) h4 h2 h3, h2, h3, h4⟩
theorem stopsUp_len (L P : List Int) (f : Int) (j : Nat) : (stopsUp L P f j).length ≤ j := by
  induction j with
  | zero => simp [stopsUp]
  | succ j ih =>
    rw [stopsUp, List.length_append]
    cases (decide (f < (j : Int)) && mayN L P j) <;> simp <;> omega
theorem stopsUp_mem (L P : List Int) (f : Int) (j : Nat) : ∀ x ∈ stopsUp L P f j, f < x ∧ 0 ≤ x ∧ x < j := by
  induction j with
  | zero => intro x hx; simp [stopsUp] at hx
  | succ j ih =>
    intro x hx
    rw [stopsUp, List.mem_append] at hx
    rcases hx with hx | hx
    · have := ih x hx; omega
    · by_cases hc : f < (j : Int)
      · have e : decide (f < (j : Int)) = true := by simpa using hc
        rw [e] at hx
        cases hm : mayN L P j <;> rw [hm] at hx <;> simp at hx
        omega
      · have e : decide (f < (j : Int)) = false := by simpa using hc
        rw [e] at hx
        simp at hx
theorem stops_in {L P : List Int} {f : Int} {j : Nat} (hj : j ≤ 1000001) (k : Nat) : inR ((stopsUp L P f j).getD k 0) := by
  by_cases hk : k < (stopsUp L P f j).length
  · have hm : (stopsUp L P f j).getD k 0 ∈ stopsUp L P f j := by
      rw [List.getD_eq_getElem?_getD, List.getElem?_eq_getElem hk]; simp
    have := stopsUp_mem L P f j _ hm
    unfold inR; omega
  · rw [List.getD_eq_getElem?_getD, List.getElem?_eq_none (by omega)]; simp [inR]
theorem any_snoc {l : List Int} {f : Int → Bool} {k : Nat} (hk : k < l.length) (h : (l.take k).any f = false) (hv : f (l.getD k 0) = false) : (l.take (k + 1)).any f = false := by
  rw [List.getD_eq_getElem?_getD, List.getElem?_eq_getElem hk, Option.getD_some] at hv
  rw [List.take_add_one, List.getElem?_eq_getElem hk, List.any_append, h]
  simp [hv]
theorem any_at {l : List Int} {f : Int → Bool} {k : Nat} (hk : k < l.length) (hv : f (l.getD k 0) = true) : l.any f = true := by
  rw [List.getD_eq_getElem?_getD, List.getElem?_eq_getElem hk, Option.getD_some] at hv
  exact List.any_eq_true.2 ⟨l[k], List.getElem_mem hk, hv⟩
end Go.Proofs.Ytdddhflppngloaa
