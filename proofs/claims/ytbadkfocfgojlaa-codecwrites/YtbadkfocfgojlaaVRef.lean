/- Get, as the document says it: the plain part. -/
import Derived.Test.YtbadkfocfgojlaaVLaw
namespace Go.Proofs.Ytbadkfocfgojlaa
open Go.RowKit
set_option linter.unusedVariables false

/-- How many of the first bytes are 128 or more, ten at most. -/
def lead : List Int → Nat → Nat
  | [], n => n
  | c :: cs, n => if 127 < c ∧ n < 10 then lead cs (n + 1) else n
/-- The number of a list of groups, reckoned from the last to the first. -/
def valD : List Int → Int
  | [] => 0
  | c :: cs => valD cs * 128 + c % 128
theorem val_chain (u : Int) : 0 ≤ u → valD (chainL u) = u := by
  induction u using chain_rec with
  | h1 u h => intro h0; rw [chain_lt h]; simp only [valD]; omega
  | h2 u h ih => intro h0; rw [chain_ge h]; simp only [valD]; rw [ih (by omega)]; omega
theorem lead_ge (l : List Int) : ∀ n, n ≤ lead l n := by
  induction l with
  | nil => intro n; exact Nat.le_refl _
  | cons c cs ih =>
    intro n
    unfold lead
    split
    · exact Nat.le_trans (Nat.le_succ n) (ih (n + 1))
    · exact Nat.le_refl _
theorem lead_le (l : List Int) : ∀ n, n ≤ 10 → lead l n ≤ 10 ∧ lead l n ≤ n + l.length := by
  induction l with
  | nil => intro n hn; exact ⟨hn, Nat.le_refl _⟩
  | cons c cs ih =>
    intro n hn
    unfold lead
    split
    · have := ih (n + 1) (by omega)
      simp; omega
    · simp; omega
theorem lead_chain (x : Int) : ∀ (n : Nat) (rest : List Int), 0 ≤ x → n + (chainL x).length ≤ 10 → lead (chainL x ++ rest) n = n + (chainL x).length - 1 := by
  induction x using chain_rec with
  | h1 x h =>
    intro n rest h0 hn
    rw [chain_lt h]
    show lead (x :: rest) n = _
    unfold lead
    rw [if_neg (by omega)]
    rfl
  | h2 x h ih =>
    intro n rest h0 hn
    rw [chain_ge h] at hn ⊢
    show lead ((x % 128 + 128) :: (chainL (x / 128) ++ rest)) n = _
    simp only [List.length_cons] at hn ⊢
    unfold lead
    have := chain_pos (x / 128)
    rw [if_pos (by omega), ih (n + 1) rest (by omega) (by omega)]
    omega
/-- What the document reads is what package chain reads. -/
theorem ref_none (l : List Int) (hB : Byt l) (h : lead l 0 = 10 ∨ lead l 0 = l.length) : getR l 0 0 = none := by
  cases hg : getR l 0 0 with
  | none => rfl
  | some r =>
    obtain ⟨v, m⟩ := r
    obtain ⟨h0, h1, hm, hml, ht⟩ := get_sound hB hg
    have hten := chain_ten v h0 h1
    have hp := chain_pos v
    have e : l = chainL v ++ l.drop m := by rw [← ht]; exact (List.take_append_drop m l).symm
    have := lead_chain v 0 (l.drop m) h0 (by omega)
    rw [← e] at this
    omega
theorem ref_some (l : List Int) (hB : Byt l) (h9 : lead l 0 ≤ 9) (hl : lead l 0 < l.length) :
    getR l 0 0 = if chainL (valD (l.take (lead l 0 + 1)) % 18446744073709551616) = l.take (lead l 0 + 1) then some (valD (l.take (lead l 0 + 1)) % 18446744073709551616, lead l 0 + 1) else none := by
  split
  · rename_i h
    have e : l = chainL (valD (l.take (lead l 0 + 1)) % 18446744073709551616) ++ l.drop (lead l 0 + 1) := by rw [h]; exact (List.take_append_drop _ l).symm
    have g := get_chain (valD (l.take (lead l 0 + 1)) % 18446744073709551616) (l.drop (lead l 0 + 1)) (by omega) (by omega)
    rw [← e] at g
    rw [g, h]
    simp
    omega
  · rename_i h
    cases hg : getR l 0 0 with
    | none => rfl
    | some r =>
      exfalso
      obtain ⟨v, m⟩ := r
      obtain ⟨h0, h1, hm, hml, ht⟩ := get_sound hB hg
      have hten := chain_ten v h0 h1
      have hp := chain_pos v
      have e : l = chainL v ++ l.drop m := by rw [← ht]; exact (List.take_append_drop m l).symm
      have hle := lead_chain v 0 (l.drop m) h0 (by omega)
      rw [← e] at hle
      have hm1 : lead l 0 + 1 = m := by omega
      apply h
      rw [hm1, ht, val_chain v h0, Int.emod_eq_of_lt h0 (by omega)]
theorem val_snoc (l : List Int) (k : Nat) (h : k < l.length) : valD (l.drop k) = valD (l.drop (k + 1)) * 128 + l.getD k 0 % 128 := by
  rw [drop_cons l k h]
  rfl
theorem lead_step (l : List Int) (k : Nat) (n : Nat) (h : k < l.length) : lead (l.drop k) n = if 127 < l.getD k 0 ∧ n < 10 then lead (l.drop (k + 1)) (n + 1) else n := by
  rw [drop_cons l k h]
  rfl
end Go.Proofs.Ytbadkfocfgojlaa
