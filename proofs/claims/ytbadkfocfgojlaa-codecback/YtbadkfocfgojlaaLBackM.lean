/- What was written is read: the plain part. -/
import Derived.Test.YtbadkfocfgojlaaXReadC
namespace Go.Proofs.Ytbadkfocfgojlaa
open Go.RowKit
set_option linter.unusedVariables false
set_option linter.unusedSimpArgs false

theorem int_back (n : Int) (hn : in64 n) (pre rest : List Int) : intR (pre ++ (chainL (foldZ n) ++ rest)) pre.length false = (n, pre.length + (chainL (foldZ n)).length, false) := by
  have fr := fold_range n hn.1 hn.2
  rw [intR_some _ _ (foldZ n) (chainL (foldZ n)).length (by rw [List.drop_left]; exact get_chain _ _ fr.1 fr.2), unfold_fold]
theorem many_back (m : List Int) : ∀ (hm : ∀ x ∈ m, in64 x) (pre rest : List Int), manyR (pre ++ ((m.flatMap fun n => chainL (foldZ n)) ++ rest)) m.length pre.length false = (m, pre.length + (m.flatMap fun n => chainL (foldZ n)).length, false) := by
  induction m with
  | nil => intro _ pre rest; simp [manyR]
  | cons x m ih =>
    intro hm pre rest
    have e : pre ++ (((x :: m).flatMap fun n => chainL (foldZ n)) ++ rest) = pre ++ (chainL (foldZ x) ++ ((m.flatMap fun n => chainL (foldZ n)) ++ rest)) := by simp
    have e2 : pre ++ (chainL (foldZ x) ++ ((m.flatMap fun n => chainL (foldZ n)) ++ rest)) = (pre ++ chainL (foldZ x)) ++ ((m.flatMap fun n => chainL (foldZ n)) ++ rest) := by simp
    have h1 := int_back x (hm x (by simp)) pre ((m.flatMap fun n => chainL (foldZ n)) ++ rest)
    have h2 := ih (fun y hy => hm y (by simp [hy])) (pre ++ chainL (foldZ x)) rest
    rw [← e2, List.length_append] at h2
    rw [e, List.length_cons]
    simp only [manyR, Bool.false_eq_true, if_false, h1, h2]
    simp [Nat.add_assoc]
theorem chains_ge (m : List Int) : m.length ≤ (m.flatMap fun n => chainL (foldZ n)).length := by
  induction m with
  | nil => simp
  | cons x m ih =>
    have := chain_pos (foldZ x)
    simp only [List.flatMap_cons, List.length_append, List.length_cons]
    omega
theorem ints_back (m : List Int) (hm : ∀ x ∈ m, in64 x) (hl : m.length ≤ 1000000) (pre rest : List Int) : intsR (pre ++ (intsL m ++ rest)) pre.length false = (m, pre.length + (intsL m).length, false) := by
  have hge := chains_ge m
  have e : pre ++ (intsL m ++ rest) = pre ++ (chainL (foldZ m.length) ++ ((m.flatMap fun n => chainL (foldZ n)) ++ rest)) := by simp [intsL]
  have h1 := int_back (m.length : Int) ⟨by omega, by omega⟩ pre ((m.flatMap fun n => chainL (foldZ n)) ++ rest)
  have hc : countR (pre ++ (intsL m ++ rest)) pre.length false = ((m.length : Int), pre.length + (chainL (foldZ m.length)).length, false) := by
    unfold countR
    rw [e, h1]
    rw [if_neg]
    simp only [List.length_append]
    omega
  have h2 := many_back m hm (pre ++ chainL (foldZ m.length)) rest
  have e2 : (pre ++ chainL (foldZ m.length)) ++ ((m.flatMap fun n => chainL (foldZ n)) ++ rest) = pre ++ (intsL m ++ rest) := by simp [intsL]
  rw [e2, List.length_append] at h2
  unfold intsR
  simp only [hc, Int.toNat_natCast, h2]
  simp [intsL, Nat.add_assoc]
def wantD (o : OpD) : List Int := if o.k = 0 then [] else if o.k = 1 then [o.n] else if o.k = 2 then [if o.b then 1 else 0] else o.l
theorem read_back (o : OpD) (hok : o.ok) (hk : 0 ≤ o.k ∧ o.k ≤ 3) (pre rest : List Int) : readR (pre ++ (writeD o ++ rest)) pre.length false o = (wantD o, pre.length + (writeD o).length, false) := by
  obtain ⟨h1, h2, h3, h4, h5⟩ := hok
  unfold readR wantD writeD
  by_cases e0 : o.k = 0
  · simp only [if_pos e0]
    unfold markR
    rw [if_neg]
    · rw [bytesOf_len]
    · rintro (h | h | h)
      · cases h
      · simp only [List.length_append, bytesOf_len] at h; omega
      · apply h
        rw [List.drop_left, ← bytesOf_len]
        exact List.take_left
  · simp only [if_neg e0]
    by_cases e1 : o.k = 1
    · simp only [if_pos e1, int_back o.n h2 pre rest]
    · simp only [if_neg e1]
      by_cases e2 : o.k = 2
      · simp only [if_pos e2]
        have hg : (pre ++ ([if o.b = true then (1 : Int) else 0] ++ rest)).getD pre.length 0 = if o.b = true then 1 else 0 := by simp
        unfold boolR
        rw [if_neg]
        · rw [hg]; rfl
        · rw [hg]
          rintro (h | h | h)
          · cases h
          · simp at h; omega
          · split at h <;> omega
      · have e3 : o.k = 3 := by omega
        simp only [if_neg e2, if_pos e3, ints_back o.l h3 (by omega) pre rest]
theorem flat_at (l : List OpD) (k : Nat) (o : OpD) (h : l[k]? = some o) : l.flatMap writeD = (l.take k).flatMap writeD ++ (writeD o ++ (l.drop (k + 1)).flatMap writeD) := by
  obtain ⟨hk, he⟩ := List.getElem?_eq_some_iff.1 h
  conv => lhs; rw [← List.take_append_drop k l, List.drop_eq_getElem_cons hk, he]
  simp
end Go.Proofs.Ytbadkfocfgojlaa
