/- The boxes before and after a position, and what a break costs. Mathematics. -/
import Derived.Test.YtopifminodlpbaaAMath
namespace Go.Proofs.Ytopifminodlpbaa
open Go.RowKit
set_option maxRecDepth 20000
set_option linter.unusedVariables false
set_option linter.unusedSimpArgs false

/-- The last of the numbers below k of which q holds, or -1. -/
def backQ (q : Int → Bool) : Nat → Int
  | 0 => -1
  | k + 1 => if q k = true then (k : Int) else backQ q k
theorem backQ_skip {q : Int → Bool} {k : Nat} : ∀ d : Nat, (∀ j : Nat, k ≤ j → j < k + d → q j = false) → backQ q (k + d) = backQ q k
  | 0, _ => rfl
  | d + 1, h => by
    rw [← Nat.add_assoc]
    show (if q ((k + d : Nat) : Int) = true then ((k + d : Nat) : Int) else backQ q (k + d)) = _
    rw [if_neg (by rw [h (k + d) (by omega) (by omega)]; decide), backQ_skip d fun j h1 h2 => h j h1 (by omega)]
theorem backQ_facts (q : Int → Bool) : ∀ k : Nat, (backQ q k = -1 ∧ ∀ j : Nat, j < k → q j = false) ∨ ∃ m : Nat, backQ q k = m ∧ m < k ∧ q m = true
  | 0 => .inl ⟨rfl, fun j h => by omega⟩
  | k + 1 => by
    unfold backQ
    by_cases h : q k = true
    · rw [if_pos h]
      exact .inr ⟨k, rfl, by omega, h⟩
    · rw [if_neg h]
      rcases backQ_facts q k with ⟨h1, h2⟩ | ⟨m, h1, h2, h3⟩
      · refine .inl ⟨h1, fun j hj => ?_⟩
        rcases Nat.eq_or_lt_of_le (Nat.le_of_lt_succ hj) with rfl | h4
        · simpa using h
        · exact h2 j h4
      · exact .inr ⟨m, h1, by omega, h3⟩
theorem findQ_skip {q : Int → Bool} {f : Nat} : ∀ d k : Nat, (∀ j : Nat, k ≤ j → j < k + d → q j = false) → findQ q (d + f) k = findQ q f (k + d)
  | 0, k, _ => by rw [Nat.zero_add]; rfl
  | d + 1, k, h => by
    rw [show d + 1 + f = (d + f) + 1 by omega]
    show (if q k = true then (k : Int) else findQ q (d + f) (k + 1)) = _
    rw [if_neg (by simp [h k (by omega) (by omega)]), findQ_skip d (k + 1) fun j h1 h2 => h j (by omega) (by omega), show k + 1 + d = k + (d + 1) by omega]
theorem findQ_none {q : Int → Bool} {f k : Nat} (h : ∀ j : Nat, k ≤ j → j < k + f → q j = false) : findQ q f k = -1 := by
  have := findQ_skip (f := 0) f k h
  rw [Nat.add_zero] at this
  exact this

/-- Is there a box? -/
def boxQ (l : List I7) (i : Int) : Bool := hasV l i && decide ((atV l i).k = 1)
def befQ (l : List I7) (b i : Int) : Bool := boxQ l i && decide (i < b)
def aftQ (l : List I7) (b i : Int) : Bool := boxQ l i && decide (b ≤ i)
/-- The box before b. -/
def aheadV (l : List I7) (b : Int) : Int := backQ (befQ l b) l.length
/-- The box after b. -/
def behindV (l : List I7) (b : Int) : Int := findQ (aftQ l b) l.length 0
def clubV (l : List I7) (b : Int) : Bool := decide ((atV l (aheadV l b)).f = 1)
def widowV (l : List I7) (b : Int) : Bool := decide ((atV l (behindV l b)).f = 2)
/-- May the list break at b, inside it, but need not? -/
def inV (l : List I7) (b : Int) : Bool := hasV l b && mayV l b && !forcesI (atV l b)
def penV (x : I7) : Int := if x.k = 3 then max x.n 0 else 0
/-- What a break at b costs, where a club line costs c and a widow line d. -/
def ofV (c d : Int) (l : List I7) (b : Int) : Int :=
  if inV l b = true then penV (atV l b) + (if clubV l b = true then max c 0 else 0) + (if widowV l b = true then max d 0 else 0) else 0

/-! ### Where the search starts -/
def dnT (l : List I7) (b n : Int) : Int := backQ (befQ l b) (n + 1).toNat
def upT (l : List I7) (b n : Int) : Int := findQ (aftQ l b) (l.length - n.toNat) n.toNat
theorem aheadV_from (l : List I7) (b : Int) : dnT l b (min b (l.length - 1)) = aheadV l b := by
  unfold dnT aheadV
  obtain ⟨d, hd⟩ : ∃ d, l.length = (min b ((l.length : Int) - 1) + 1).toNat + d := ⟨l.length - (min b ((l.length : Int) - 1) + 1).toNat, by omega⟩
  conv => rhs; rw [hd]
  refine (backQ_skip d fun j h1 h2 => ?_).symm
  unfold befQ
  rw [decide_eq_false (by omega), Bool.and_false]
theorem behindV_from (l : List I7) (b : Int) : upT l b (max b 0) = behindV l b := by
  unfold upT behindV
  rcases Nat.lt_or_ge (max b 0).toNat l.length with h | h
  · obtain ⟨f, hf⟩ : ∃ f, l.length = (max b 0).toNat + f := ⟨l.length - (max b 0).toNat, by omega⟩
    have e : l.length - (max b 0).toNat = f := by omega
    rw [e]
    conv => rhs; rw [hf]
    rw [findQ_skip _ 0 fun j h1 h2 => ?_, Nat.zero_add]
    unfold aftQ
    rw [decide_eq_false (by omega), Bool.and_false]
  · rw [show l.length - (max b 0).toNat = 0 by omega]
    refine (findQ_none fun j h1 h2 => ?_).symm
    unfold aftQ
    rw [decide_eq_false (by omega), Bool.and_false]
theorem hasV_iff' {l : List I7} {n : Int} : hasV l n = true ↔ 0 ≤ n ∧ n < l.length := by simp [hasV]
theorem dnT_0 {l : List I7} {b n : Int} (hD : n < l.length) (h : hasV l n = false) : dnT l b n = -1 := by
  have h1 : ¬ (0 ≤ n ∧ n < l.length) := fun g => by rw [hasV_iff'.2 g] at h; cases h
  unfold dnT
  rw [show (n + 1).toNat = 0 by omega]
  rfl
theorem dnT_1 {l : List I7} {b n : Int} (h : hasV l n = true) (hk : (atV l n).k = 1) (hf : decide (n < b) = true) : dnT l b n = n := by
  obtain ⟨m, rfl⟩ : ∃ m : Nat, n = m := ⟨n.toNat, by have := hasV_iff'.1 h; omega⟩
  unfold dnT
  rw [show ((m : Int) + 1).toNat = m + 1 by omega]
  show (if befQ l b m = true then (m : Int) else _) = _
  rw [if_pos (by unfold befQ boxQ; rw [h, hf, decide_eq_true hk]; rfl)]
theorem dnT_2 {l : List I7} {b n : Int} (h : hasV l n = true) (hn : ¬ ((atV l n).k = 1 ∧ decide (n < b) = true)) : n + -1 < l.length ∧ dnT l b (n + -1) = dnT l b n ∧ (n + -1 + 1).toNat < (n + 1).toNat := by
  have hh := hasV_iff'.1 h
  obtain ⟨m, rfl⟩ : ∃ m : Nat, n = m := ⟨n.toNat, by omega⟩
  refine ⟨by omega, ?_, by omega⟩
  unfold dnT
  rw [show ((m : Int) + 1).toNat = m + 1 by omega, show ((m : Int) + -1 + 1).toNat = m by omega]
  show _ = (if befQ l b m = true then (m : Int) else backQ (befQ l b) m)
  rw [if_neg fun g => hn (by unfold befQ boxQ at g; simp only [Bool.and_eq_true, decide_eq_true_eq] at g; exact ⟨g.1.2, decide_eq_true g.2⟩)]
theorem upT_0 {l : List I7} {b n : Int} (hD : 0 ≤ n) (h : hasV l n = false) : upT l b n = -1 := by
  have h1 : ¬ (0 ≤ n ∧ n < l.length) := fun g => by rw [hasV_iff'.2 g] at h; cases h
  unfold upT
  rw [show l.length - n.toNat = 0 by omega]
  rfl
theorem upT_1 {l : List I7} {b n : Int} (h : hasV l n = true) (hk : (atV l n).k = 1) (hf : decide (b ≤ n) = true) : upT l b n = n := by
  have hh := hasV_iff'.1 h
  obtain ⟨m, rfl⟩ : ∃ m : Nat, n = m := ⟨n.toNat, by omega⟩
  unfold upT
  rw [show (m : Int).toNat = m by omega, show l.length - m = (l.length - m - 1) + 1 by omega]
  show (if aftQ l b m = true then (m : Int) else _) = _
  rw [if_pos (by unfold aftQ boxQ; rw [h, hf, decide_eq_true hk]; rfl)]
theorem upT_2 {l : List I7} {b n : Int} (h : hasV l n = true) (hn : ¬ ((atV l n).k = 1 ∧ decide (b ≤ n) = true)) : 0 ≤ n + 1 ∧ upT l b (n + 1) = upT l b n ∧ (l.length - (n + 1)).toNat < (l.length - n).toNat := by
  have hh := hasV_iff'.1 h
  obtain ⟨m, rfl⟩ : ∃ m : Nat, n = m := ⟨n.toNat, by omega⟩
  refine ⟨by omega, ?_, by omega⟩
  unfold upT
  rw [show (m : Int).toNat = m by omega, show ((m : Int) + 1).toNat = m + 1 by omega, show l.length - m = (l.length - (m + 1)) + 1 by omega]
  show _ = (if aftQ l b m = true then (m : Int) else findQ (aftQ l b) (l.length - (m + 1)) (m + 1))
  rw [if_neg fun g => hn (by unfold aftQ boxQ at g; simp only [Bool.and_eq_true, decide_eq_true_eq] at g; exact ⟨g.1.2, decide_eq_true g.2⟩)]

/-! ### What they are -/
theorem aheadV_facts (l : List I7) (b : Int) : aheadV l b = -1 ∨ ∃ m : Nat, aheadV l b = m ∧ m < l.length ∧ (atV l m).k = 1 := by
  unfold aheadV
  rcases backQ_facts (befQ l b) l.length with ⟨h, _⟩ | ⟨m, h1, h2, h3⟩
  · exact .inl h
  · refine .inr ⟨m, h1, h2, ?_⟩
    unfold befQ boxQ at h3
    simp only [Bool.and_eq_true, decide_eq_true_eq] at h3
    exact h3.1.2
theorem behindV_facts (l : List I7) (b : Int) : behindV l b = -1 ∨ ∃ m : Nat, behindV l b = m ∧ m < l.length ∧ (atV l m).k = 1 := by
  unfold behindV
  rcases findQ_facts (aftQ l b) l.length 0 with ⟨h, _⟩ | ⟨m, h1, h2, h3, h4, _⟩
  · exact .inl h
  · refine .inr ⟨m, h1, by omega, ?_⟩
    unfold aftQ boxQ at h4
    simp only [Bool.and_eq_true, decide_eq_true_eq] at h4
    exact h4.1.2
theorem atV_none (l : List I7) : atV l (-1) = zeroI := atV_out (hasV_no (.inl (by omega)))
/-- No box has an F: there are no club lines and no widow lines. -/
theorem plain_no {l : List I7} (h : ∀ m : Nat, m < l.length → (l.getD m zeroI).k = 1 → (l.getD m zeroI).f = 0) (b : Int) : clubV l b = false ∧ widowV l b = false := by
  refine ⟨decide_eq_false ?_, decide_eq_false ?_⟩
  · rcases aheadV_facts l b with e | ⟨m, e, h1, h2⟩ <;> rw [e]
    · rw [atV_none]; decide
    · rw [atV_in h1] at h2 ⊢
      rw [h m h1 h2]; decide
  · rcases behindV_facts l b with e | ⟨m, e, h1, h2⟩ <;> rw [e]
    · rw [atV_none]; decide
    · rw [atV_in h1] at h2 ⊢
      rw [h m h1 h2]; decide
end Go.Proofs.Ytopifminodlpbaa
