/- Vertical lists: where they may break and must, and what is trimmed. Mathematics. -/
import Derived.Test.YtopifminodlpbaaIOth
import Derived.Test.YtopifminodlpbaaJItm
namespace Go.Proofs.Ytopifminodlpbaa
open Go.RowKit
set_option maxRecDepth 20000
set_option linter.unusedVariables false
set_option linter.unusedSimpArgs false

/-! ### The first of some numbers -/
/-- The first of the f numbers from k on of which q holds, or -1. -/
def findQ (q : Int → Bool) : Nat → Nat → Int
  | 0, _ => -1
  | f + 1, k => if q k = true then (k : Int) else findQ q f (k + 1)
theorem findQ_facts (q : Int → Bool) : ∀ f k : Nat, (findQ q f k = -1 ∧ ∀ j : Nat, k ≤ j → j < k + f → q j = false) ∨ ∃ m : Nat, findQ q f k = m ∧ k ≤ m ∧ m < k + f ∧ q m = true ∧ ∀ j : Nat, k ≤ j → j < m → q j = false
  | 0, k => .inl ⟨rfl, fun j h1 h2 => by omega⟩
  | f + 1, k => by
    unfold findQ
    by_cases h : q k = true
    · rw [if_pos h]
      exact .inr ⟨k, rfl, Nat.le_refl _, by omega, h, fun j h1 h2 => by omega⟩
    · rw [if_neg h]
      have hk : q k = false := by simpa using h
      rcases findQ_facts q f (k + 1) with ⟨h1, h2⟩ | ⟨m, h1, h2, h3, h4, h5⟩
      · refine .inl ⟨h1, fun j h3 h4 => ?_⟩
        rcases Nat.eq_or_lt_of_le h3 with rfl | h5
        · exact hk
        · exact h2 j h5 (by omega)
      · refine .inr ⟨m, h1, by omega, by omega, h4, fun j h6 h7 => ?_⟩
        rcases Nat.eq_or_lt_of_le h6 with rfl | h8
        · exact hk
        · exact h5 j h8 h7
theorem findQ_yes {q : Int → Bool} {L k : Nat} (h : k ≤ L) (hq : q k = true) : findQ q (L + 1 - k) k = k := by
  rw [show L + 1 - k = (L - k) + 1 by omega]
  unfold findQ
  rw [if_pos hq]
theorem findQ_no {q : Int → Bool} {L k : Nat} (h : k ≤ L) (hq : q k = false) : findQ q (L + 1 - k) k = findQ q (L + 1 - (k + 1)) (k + 1) := by
  rw [show L + 1 - k = (L - k) + 1 by omega, show L + 1 - (k + 1) = L - k by omega]
  show (if q k = true then (k : Int) else findQ q (L - k) (k + 1)) = _
  rw [if_neg (by simp [hq])]
theorem findQ_end {q : Int → Bool} {L k : Nat} (h : ¬ k ≤ L) : findQ q (L + 1 - k) k = -1 := by
  rw [show L + 1 - k = 0 by omega]
  rfl

/-! ### Those of the numbers below k of which p holds -/
def selQ (p : Nat → Bool) (k : Nat) : List Int := ((List.range k).filter p).map Int.ofNat
theorem selQ_yes {p : Nat → Bool} {k : Nat} (h : p k = true) : selQ p (k + 1) = selQ p k ++ [(k : Int)] := by
  unfold selQ
  rw [List.range_succ, List.filter_append, List.map_append, List.filter_cons_of_pos (by simpa using h)]
  rfl
theorem selQ_no {p : Nat → Bool} {k : Nat} (h : p k = false) : selQ p (k + 1) = selQ p k := by
  unfold selQ
  rw [List.range_succ, List.filter_append, List.filter_cons_of_neg (by simp [h]), List.filter_nil, List.append_nil]
theorem selQ_skip {p : Nat → Bool} {k : Nat} : ∀ d : Nat, (∀ j, k ≤ j → j < k + d → p j = false) → selQ p (k + d) = selQ p k
  | 0, _ => rfl
  | d + 1, h => by
    rw [← Nat.add_assoc, selQ_no (h (k + d) (by omega) (by omega)), selQ_skip d fun j h1 h2 => h j h1 (by omega)]
theorem selQ_len (p : Nat → Bool) (k : Nat) : (selQ p k).length ≤ k := by
  unfold selQ
  rw [List.length_map]
  exact Nat.le_trans (List.length_filter_le _ _) (by simp)
theorem selQ_in {p : Nat → Bool} {k : Nat} (hk : k ≤ 1000002) (j : Nat) : inR ((selQ p k).getD j 0) := by
  have hx : ∀ x ∈ selQ p k, inR x := fun x hx => by
    unfold selQ at hx
    obtain ⟨m, hm, he⟩ := List.mem_map.1 hx
    have h2 := List.mem_range.1 (List.mem_filter.1 hm).1
    rw [← he]
    unfold inR
    simp only [Int.ofNat_eq_natCast]
    omega
  rcases Nat.lt_or_ge j (selQ p k).length with h | h
  · rw [List.getD_eq_getElem?_getD, List.getElem?_eq_getElem h, Option.getD_some]
    exact hx _ (List.getElem_mem h)
  · rw [List.getD_eq_getElem?_getD, List.getElem?_eq_none h]
    simp [inR]

/-! ### Lists -/
def hasV (l : List I7) (n : Int) : Bool := decide (0 ≤ n) && decide (n < l.length)
def atV (l : List I7) (n : Int) : I7 := if hasV l n = true then l.getD n.toNat zeroI else zeroI
def mayV (l : List I7) (b : Int) : Bool :=
  if b < 1 then false else if b < l.length then (if (atV l b).k = 2 then !looseI (atV l (b - 1)) else if (atV l b).k = 3 then !forbidsI (atV l b) else false) else decide (b = l.length)
def firmV (l : List I7) (b : Int) : Bool := if hasV l b = true then !looseI (atV l b) else true
def mustV (l : List I7) (b : Int) : Bool := if hasV l b = true then forcesI (atV l b) else true
def lowV (n : Int) : Nat := n.toNat
def startV (l : List I7) (n : Int) : Nat := min n.toNat l.length
def trimV (l : List I7) (n : Int) : Int := findQ (firmV l) (l.length + 1 - startV l n) (startV l n)
def afterV (l : List I7) (q : Int → Bool) (n : Int) : Int := if (l.length : Int) ≤ n then -1 else findQ q (l.length + 1 - (n.toNat + 1)) (n.toNat + 1)
def firstV (l : List I7) (n : Int) : Int := afterV l (mayV l) n
def forceV (l : List I7) (n : Int) : Int := afterV l (mustV l) n
def isBrk (l : List I7) (n : Int) (m : Nat) : Bool := decide (n.toNat < m) && mayV l m && decide ((m : Int) ≤ forceV l n)
def breaksV (l : List I7) (n : Int) : List Int := selQ (isBrk l n) (l.length + 1)
def isBtw (n b : Int) (m : Nat) : Bool := decide (n.toNat ≤ m) && decide ((m : Int) < b)
def betweenV (l : List I7) (n b : Int) : List Int := selQ (isBtw n b) l.length

theorem hasV_yes {l : List I7} {n : Int} (h0 : 0 ≤ n) (h1 : n < l.length) : hasV l n = true := by simp [hasV, h0, h1]
theorem hasV_no {l : List I7} {n : Int} (h : n < 0 ∨ (l.length : Int) ≤ n) : hasV l n = false := by
  unfold hasV
  rcases h with h | h
  · rw [decide_eq_false (by omega)]; rfl
  · rw [decide_eq_false (p := n < (l.length : Int)) (by omega)]; simp
theorem hasV_end (l : List I7) : hasV l l.length = false := hasV_no (.inr (Int.le_refl _))
theorem atV_in {l : List I7} {k : Nat} (h : k < l.length) : atV l k = l.getD k zeroI := by
  unfold atV
  rw [if_pos (hasV_yes (by omega) (by omega)), Int.toNat_natCast]
theorem atV_out {l : List I7} {n : Int} (h : hasV l n = false) : atV l n = zeroI := by
  unfold atV
  rw [if_neg (by simp [h])]
theorem firmV_end (l : List I7) : firmV l l.length = true := by
  unfold firmV
  rw [if_neg (by simp [hasV_end])]
theorem mustV_end (l : List I7) : mustV l l.length = true := by
  unfold mustV
  rw [if_neg (by simp [hasV_end])]
theorem mayV_end {l : List I7} (h : 1 ≤ l.length) : mayV l l.length = true := by
  unfold mayV
  rw [if_neg (by omega), if_neg (by omega)]
  simp
theorem must_may {l : List I7} {m : Nat} (h1 : 1 ≤ m) (h2 : m ≤ l.length) (h : mustV l m = true) : mayV l m = true := by
  rcases Nat.eq_or_lt_of_le h2 with rfl | hl
  · exact mayV_end h1
  · unfold mustV at h
    rw [if_pos (hasV_yes (by omega) (by omega))] at h
    unfold mayV
    rw [if_neg (by omega), if_pos (by omega)]
    unfold forcesI at h
    simp only [Bool.and_eq_true, hasK, decide_eq_true_eq, List.mem_cons, List.not_mem_nil, or_false] at h
    rw [if_neg (by omega), if_pos h.1]
    unfold forbidsI
    rw [decide_eq_false (p := 10000 ≤ _) (by omega)]
    simp
theorem afterV_facts {l : List I7} (q : Int → Bool) {n : Int} (h : n < l.length) (hq : q l.length = true) (hl : 0 < l.length) : ∃ m : Nat, afterV l q n = m ∧ n.toNat < m ∧ m ≤ l.length ∧ q m = true ∧ ∀ j : Nat, n.toNat < j → j < m → q j = false := by
  unfold afterV
  rw [if_neg (by omega)]
  rcases findQ_facts q (l.length + 1 - (n.toNat + 1)) (n.toNat + 1) with ⟨_, h2⟩ | ⟨m, h1, h2, h3, h4, h5⟩
  · have := h2 l.length (by omega) (by omega)
    rw [hq] at this
    cases this
  · exact ⟨m, h1, by omega, by omega, h4, fun j h6 h7 => h5 j (by omega) h7⟩
theorem afterV_any {l : List I7} (q : Int → Bool) (n : Int) : (afterV l q n = -1 ∧ ∀ j : Nat, n.toNat < j → j ≤ l.length → q j = false) ∨ ∃ m : Nat, afterV l q n = m ∧ n.toNat < m ∧ m ≤ l.length ∧ q m = true ∧ ∀ j : Nat, n.toNat < j → j < m → q j = false := by
  by_cases hn : (l.length : Int) ≤ n
  · refine .inl ⟨by unfold afterV; rw [if_pos hn], fun j h1 h2 => by omega⟩
  · unfold afterV
    rw [if_neg hn]
    rcases findQ_facts q (l.length + 1 - (n.toNat + 1)) (n.toNat + 1) with ⟨h1, h2⟩ | ⟨m, h1, h2, h3, h4, h5⟩
    · exact .inl ⟨h1, fun j h3 h4 => h2 j (by omega) (by omega)⟩
    · exact .inr ⟨m, h1, by omega, by omega, h4, fun j h6 h7 => h5 j (by omega) h7⟩
/-- THERE IS ONE: a first break, not behind where the list must break. -/
theorem first_force {l : List I7} {n : Int} (h0 : 0 ≤ n) (h : n < l.length) : ∃ f m : Nat, firstV l n = f ∧ forceV l n = m ∧ n < f ∧ f ≤ m ∧ m ≤ l.length ∧ mayV l m = true := by
  obtain ⟨m, h1, h2, h3, h4, h5⟩ := afterV_facts (mustV l) h (mustV_end l) (by omega)
  obtain ⟨f, g1, g2, g3, g4, g5⟩ := afterV_facts (mayV l) h (mayV_end (by omega)) (by omega)
  have hm := must_may (by omega) h3 h4
  refine ⟨f, m, g1, h1, by omega, ?_, h3, hm⟩
  rcases Nat.lt_or_ge m f with hf | hf
  · have := g5 m h2 hf
    rw [hm] at this
    cases this
  · exact hf
theorem trimV_facts (l : List I7) (n : Int) : ∃ m : Nat, trimV l n = m ∧ startV l n ≤ m ∧ m ≤ l.length ∧ firmV l m = true ∧ ∀ j : Nat, startV l n ≤ j → j < m → firmV l j = false := by
  unfold trimV
  have hs : startV l n ≤ l.length := Nat.min_le_right _ _
  rcases findQ_facts (firmV l) (l.length + 1 - startV l n) (startV l n) with ⟨_, h2⟩ | ⟨m, h1, h2, h3, h4, h5⟩
  · have := h2 l.length hs (by omega)
    rw [firmV_end] at this
    cases this
  · exact ⟨m, h1, h2, by omega, h4, h5⟩
/-- Trimmed twice is trimmed once. -/
theorem trim_twice (l : List I7) (n : Int) : trimV l (trimV l n) = trimV l n := by
  obtain ⟨m, h1, _, h3, h4, _⟩ := trimV_facts l n
  rw [h1]
  have e : startV l m = m := by unfold startV; rw [Int.toNat_natCast]; omega
  unfold trimV
  rw [e]
  exact findQ_yes h3 h4
theorem findV_in {l : List I7} (q : Int → Bool) (n : Int) (hl : l.length ≤ 1000000) : inR (afterV l q n) := by
  unfold inR
  rcases afterV_any (l := l) q n with ⟨h, _⟩ | ⟨m, h, _, h3, _⟩ <;> rw [h] <;> omega
end Go.Proofs.Ytopifminodlpbaa
