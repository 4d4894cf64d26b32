/- Plain mathematics for stage 15: the first fault of a job, over Lean's integers. -/
import Derived.Test.YthcgncgnbjhniaaJSnp
import Derived.Test.YthcgncgnbjhniaaICnt
import Derived.Test.YthcgncgnbjhniaaNSame
namespace Go.Proofs.Ythcgncgnbjhniaa
open Go.RowKit
set_option maxRecDepth 20000
set_option linter.unusedVariables false

/-- The first number below n of which q holds, or n. -/
def firstK (q : Nat → Bool) : Nat → Nat
  | 0 => 0
  | n + 1 => if firstK q n < n then firstK q n else if q n then n else n + 1
theorem firstK_le (q : Nat → Bool) (n : Nat) : firstK q n ≤ n := by
  induction n with
  | zero => exact Nat.le_refl _
  | succ n ih =>
    unfold firstK
    split
    · omega
    · split <;> omega
theorem firstK_none {q : Nat → Bool} {n : Nat} (h : ∀ j, j < n → q j = false) : firstK q n = n := by
  induction n with
  | zero => rfl
  | succ n ih =>
    unfold firstK
    rw [ih fun j hj => h j (by omega), if_neg (Nat.lt_irrefl n), h n (by omega)]
    rfl
theorem firstK_eq {q : Nat → Bool} {i n : Nat} (hi : i < n) (hq : q i = true) (h : ∀ j, j < i → q j = false) : firstK q n = i := by
  induction n with
  | zero => omega
  | succ n ih =>
    unfold firstK
    rcases Nat.lt_or_ge i n with hn | hn
    · rw [ih hn, if_pos hn]
    · obtain rfl : i = n := by omega
      rw [firstK_none h, if_neg (Nat.lt_irrefl i), hq]
      rfl
theorem firstK_before {q : Nat → Bool} {n : Nat} : ∀ j, j < firstK q n → q j = false := by
  induction n with
  | zero => intro j hj; simp [firstK] at hj
  | succ n ih =>
    intro j hj
    unfold firstK at hj
    split at hj
    · exact ih j hj
    · have hle := firstK_le q n
      have en : firstK q n = n := by omega
      split at hj
      · exact ih j (by omega)
      · rcases Nat.lt_or_ge j n with h | h
        · exact ih j (by omega)
        · obtain rfl : j = n := by omega
          simpa using ‹¬ q j = true›
theorem firstK_at {q : Nat → Bool} {n : Nat} (h : firstK q n < n) : q (firstK q n) = true := by
  induction n with
  | zero => omega
  | succ n ih =>
    unfold firstK at h ⊢
    split
    · exact ih ‹_›
    · rw [if_neg ‹_›] at h
      split
      · assumption
      · rw [if_neg ‹_›] at h; omega
/-- The same, or -1. -/
def idxK (q : Nat → Bool) (n : Nat) : Int := if firstK q n < n then (firstK q n : Int) else -1
theorem idxK_none {q : Nat → Bool} {n : Nat} (h : ∀ j, j < n → q j = false) : idxK q n = -1 := by
  unfold idxK; rw [firstK_none h, if_neg (Nat.lt_irrefl n)]
theorem idxK_eq {q : Nat → Bool} {i n : Nat} (hi : i < n) (hq : q i = true) (h : ∀ j, j < i → q j = false) : idxK q n = i := by
  unfold idxK; rw [firstK_eq hi hq h, if_pos hi]
theorem firstK_congr {q r : Nat → Bool} {n : Nat} (h : ∀ j, j < n → q j = r j) : firstK q n = firstK r n := by
  induction n with
  | zero => rfl
  | succ n ih => unfold firstK; rw [ih fun j hj => h j (by omega), h n (by omega)]
theorem idxK_congr {q r : Nat → Bool} {n : Nat} (h : ∀ j, j < n → q j = r j) : idxK q n = idxK r n := by
  unfold idxK; rw [firstK_congr h]
theorem idxK_cases (q : Nat → Bool) (n : Nat) : (idxK q n = -1 ∧ ∀ j, j < n → q j = false) ∨ ∃ i, i < n ∧ idxK q n = (i : Int) ∧ q i = true ∧ ∀ j, j < i → q j = false := by
  have hle := firstK_le q n
  unfold idxK
  by_cases h : firstK q n < n
  · rw [if_pos h]
    exact .inr ⟨_, h, rfl, firstK_at h, firstK_before⟩
  · rw [if_neg h]
    exact .inl ⟨rfl, fun j hj => firstK_before (n := n) j (by omega)⟩
/-- Is item i of the kind k, and not the next one of fewer than c? -/
def offK (l : List I7) (k c : Int) (i : Nat) : Bool := decide ((l.getD i zeroI).k = k) && (decide (¬ (l.getD i zeroI).n = cntUp l k i) || decide (c ≤ cntUp l k i))
theorem offK_other {l : List I7} {k c : Int} {i : Nat} (h : ¬ (l.getD i zeroI).k = k) : offK l k c i = false := by unfold offK; rw [decide_eq_false h]; rfl
theorem offK_n {l : List I7} {k c : Int} {i : Nat} (h : (l.getD i zeroI).k = k) (hn : ¬ (l.getD i zeroI).n = cntUp l k i) : offK l k c i = true := by unfold offK; rw [decide_eq_true h, decide_eq_true hn]; rfl
theorem offK_c {l : List I7} {k c : Int} {i : Nat} (h : (l.getD i zeroI).k = k) (hc : c ≤ cntUp l k i) : offK l k c i = true := by unfold offK; rw [decide_eq_true h, decide_eq_true hc, Bool.or_true]; rfl
theorem offK_not {l : List I7} {k c : Int} {i : Nat} (hn : (l.getD i zeroI).n = cntUp l k i) (hc : ¬ c ≤ cntUp l k i) : offK l k c i = false := by unfold offK; rw [decide_eq_false (not_not_intro hn), decide_eq_false hc, Bool.or_false, Bool.and_false]
theorem cntUp_step {l : List I7} {k : Int} {i : Nat} (h : (l.getD i zeroI).k = k) : cntUp l k (i + 1) = cntUp l k i + 1 := by
  show cntUp l k i + (if (l.getD i zeroI).k = k then 1 else 0) = _
  rw [if_pos h]
theorem cntUp_stay {l : List I7} {k : Int} {i : Nat} (h : ¬ (l.getD i zeroI).k = k) : cntUp l k (i + 1) = cntUp l k i := by
  show cntUp l k i + (if (l.getD i zeroI).k = k then 1 else 0) = _
  rw [if_neg h, Int.add_zero]
/-- Where no item is off, there are at most c of them. -/
theorem cntUp_few {l : List I7} {k c : Int} (h0 : 0 ≤ c) {n : Nat} (h : ∀ j, j < n → offK l k c j = false) : cntUp l k n ≤ c := by
  induction n with
  | zero => exact h0
  | succ n ih =>
    by_cases hk : (l.getD n zeroI).k = k
    · rw [cntUp_step hk]
      rcases (by omega : cntUp l k n < c ∨ c ≤ cntUp l k n) with hc | hc
      · omega
      · have := h n (by omega)
        rw [offK_c hk hc] at this
        cases this
    · rw [cntUp_stay hk]
      exact ih fun j hj => h j (by omega)
/-- The first item that is off, or the number of items. -/
def strayK (l : List I7) (k c : Int) : Nat := firstK (offK l k c) l.length
/-- The document's: the first anchor that is wrong, or -1. -/
def anchK (l : List I7) (k c : Int) : Int := if strayK l k c < l.length then (strayK l k c : Int) else if cntUp l k l.length < c then (l.length : Int) else -1
/-- The first anchor that is wrong, of notes and of floats. -/
def unK (j : J4) : Int :=
  let a := min (strayK j.items 5 j.notes.length : Int) (strayK j.items 6 j.floats.length : Int)
  if a = (j.items.length : Int) ∧ cntUp j.items 5 j.items.length = (j.notes.length : Int) ∧ cntUp j.items 6 j.items.length = (j.floats.length : Int) then -1 else a
def unR (j : J4) : Int :=
  let a := anchK j.items 5 j.notes.length
  let b := anchK j.items 6 j.floats.length
  if 0 ≤ a ∧ (b < 0 ∨ a ≤ b) then a else b
theorem anchK_ways (l : List I7) (k : Int) (c : Nat) : (strayK l k c < l.length ∧ anchK l k c = (strayK l k c : Int)) ∨ (strayK l k c = l.length ∧ cntUp l k l.length < c ∧ anchK l k c = (l.length : Int)) ∨ (strayK l k c = l.length ∧ cntUp l k l.length = c ∧ anchK l k c = -1) := by
  have hle : strayK l k c ≤ l.length := firstK_le _ _
  unfold anchK
  by_cases h : strayK l k c < l.length
  · exact .inl ⟨h, if_pos h⟩
  · have e : strayK l k c = l.length := by omega
    have hc : cntUp l k l.length ≤ c := cntUp_few (by omega) fun j hj => firstK_before (q := offK l k c) (n := l.length) j (by unfold strayK at e; omega)
    rw [if_neg h]
    by_cases h2 : cntUp l k l.length < c
    · exact .inr (.inl ⟨e, h2, if_pos h2⟩)
    · exact .inr (.inr ⟨e, by omega, if_neg h2⟩)
theorem unK_unR (j : J4) : unK j = unR j := by
  unfold unK unR
  dsimp only
  rcases anchK_ways j.items 5 j.notes.length with ⟨h1, e1⟩ | ⟨h1, c1, e1⟩ | ⟨h1, c1, e1⟩ <;> rcases anchK_ways j.items 6 j.floats.length with ⟨h2, e2⟩ | ⟨h2, c2, e2⟩ | ⟨h2, c2, e2⟩ <;> rw [e1, e2] <;> clear e1 e2 <;> generalize strayK j.items 5 j.notes.length = a at * <;> generalize strayK j.items 6 j.floats.length = b at * <;> split <;> split <;> omega
/-- Is float i too high, where the columns of the first page are so high? -/
def tallQ (l : List F3) (f : Int) (i : Nat) : Bool := decide (f < (l.getD i zeroF).h)
def tallK (j : J4) : Int := idxK (tallQ (snapJ j).floats (snapJ j).g.first) (snapJ j).floats.length
/-- A job without items and notes. -/
def bareJ (j : J4) : J4 := ⟨j.g, [], [], j.floats⟩
theorem bare_snap (j : J4) : (snapJ (bareJ j)).floats = (snapJ j).floats ∧ (snapJ (bareJ j)).g = (snapJ j).g := by
  unfold snapJ bareJ
  dsimp only
  split <;> exact ⟨rfl, rfl⟩
theorem tallK_bare (j : J4) : tallK (bareJ j) = tallK j := by
  unfold tallK; rw [(bare_snap j).1, (bare_snap j).2]
def wholeK (b : Bool) : Int := bif b then 0 else -1
def itemQ (l : List I7) (i : Nat) : Bool := !rightI (l.getD i zeroI)
def noteQ (l : List N2) (i : Nat) : Bool := !checkN (l.getD i zeroN).l (l.getD i zeroN).p
def floatQ (l : List F3) (i : Nat) : Bool := !rightF (l.getD i zeroF)
/-- The first fault of clause k. -/
def faultK (j : J4) : Nat → Int
  | 0 => wholeK (decide ((4096 : Int) < j.items.length))
  | 1 => wholeK (decide ((256 : Int) < j.floats.length))
  | 2 => wholeK (decide ((512 : Int) < j.notes.length))
  | 3 => wholeK (decide (errE j.g = 6))
  | 4 => wholeK (decide (errE j.g = 7))
  | 5 => idxK (itemQ j.items) j.items.length
  | 6 => idxK (noteQ j.notes) j.notes.length
  | 7 => idxK (floatQ j.floats) j.floats.length
  | 8 => unK j
  | _ => tallK j
def badK (j : J4) (k : Nat) : Bool := decide (¬ faultK j k = -1)
/-- The first clause that does not hold, and its error and its first fault. -/
def clauseK (j : J4) : Nat := firstK (badK j) 10
def errK (j : J4) : Int := if clauseK j < 10 then (clauseK j : Int) + 3 else 0
def atK (j : J4) : Int := if clauseK j < 10 then faultK j (clauseK j) else 0
def rightK (j : J4) : Bool := decide (errK j = 0)
theorem verdict_none {j : J4} (h : ∀ k, k < 10 → badK j k = false) : errK j = 0 ∧ atK j = 0 := by
  unfold errK atK clauseK
  rw [firstK_none h]
  exact ⟨rfl, rfl⟩
theorem verdict_at {j : J4} {k : Nat} (hk : k < 10) (h : badK j k = true) (hp : ∀ i, i < k → badK j i = false) : errK j = k + 3 ∧ atK j = faultK j k := by
  unfold errK atK clauseK
  rw [firstK_eq hk h hp, if_pos hk, if_pos hk]
  exact ⟨rfl, rfl⟩
theorem badK_of {j : J4} {k : Nat} {z : Int} (h : faultK j k = z) : badK j k = decide (¬ z = -1) := by unfold badK; rw [h]
theorem wholeK_bad (b : Bool) : decide (¬ wholeK b = -1) = b := by cases b <;> rfl
theorem wholeK_at {b : Bool} (h : b = true) : wholeK b = 0 := by rw [h]; rfl
end Go.Proofs.Ythcgncgnbjhniaa
