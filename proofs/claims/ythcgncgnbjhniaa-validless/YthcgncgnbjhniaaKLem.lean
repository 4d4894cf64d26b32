/- The document's anchors and Check. Mathematics of ValidLess: a valid job with fewer items at its end. -/
import Derived.Test.YthcgncgnbjhniaaKChk
import Derived.Test.YthcgncgnbjhniaaERck
import Derived.Test.YthcgncgnbjhniaaIRef
import Derived.Test.YthcgncgnbjhniaaJRs2
import Derived.Test.YthcgncgnbjhniaaKAw
namespace Go.Proofs.Ythcgncgnbjhniaa
open Go.RowKit
set_option maxRecDepth 20000
set_option linter.unusedVariables false
set_option linter.unusedSimpArgs false

/-! ### The document's Check -/
/-- The verdict, clause by clause. -/
theorem first_k {j : J4} {k : Nat} {z : Int} (hk : k < 10) (h : faultK j k = z) (hz : ¬ z = -1) (hp : ∀ i, i < k → badK j i = false) : errK j = (k : Int) + 3 ∧ atK j = z := by
  have := verdict_at hk (badK_yes (h ▸ hz)) hp
  rw [h] at this
  exact this
theorem next_k {j : J4} {k : Nat} (h : faultK j k = -1) (hp : ∀ i, i < k → badK j i = false) : ∀ i, i < k + 1 → badK j i = false := fun i hi => by
  rcases Nat.lt_or_ge i k with h1 | h1
  · exact hp i h1
  · obtain rfl : i = k := by omega
    exact badK_no h
theorem whole_0 {p : Prop} [Decidable p] (h : p) : wholeK (decide p) = 0 := by rw [decide_eq_true h]; rfl
theorem whole_no {p : Prop} [Decidable p] (h : ¬ p) : wholeK (decide p) = -1 := by rw [decide_eq_false h]; rfl
theorem errE_ways (g : G19) : errE g = 0 ∨ errE g = 6 ∨ errE g = 7 := by
  unfold errE
  cases btwE g.cols 1 8
  · exact .inr (.inl rfl)
  · cases fitsE g 17
    · exact .inr (.inr rfl)
    · exact .inl rfl
theorem geom_k {j : J4} (hp : ∀ i, i < 3 → badK j i = false) : (errE j.g = 0 → ∀ i, i < 5 → badK j i = false) ∧ (¬ errE j.g = 0 → errK j = errE j.g ∧ atK j = 0) := by
  refine ⟨fun h => next_k (k := 4) ?_ (next_k (k := 3) ?_ hp), fun h => ?_⟩
  · exact whole_no (p := errE j.g = 7) (by omega)
  · exact whole_no (p := errE j.g = 6) (by omega)
  · rcases errE_ways j.g with e | e | e
    · exact absurd e h
    · have := first_k (j := j) (k := 3) (z := 0) (by omega) (whole_0 (p := errE j.g = 6) e) (by omega) hp
      rw [e]; exact this
    · have := first_k (j := j) (k := 4) (z := 0) (by omega) (whole_0 (p := errE j.g = 7) e) (by omega) (next_k (whole_no (p := errE j.g = 6) (by omega)) hp)
      rw [e]; exact this
theorem idx_k {j : J4} {k n : Nat} {q : Nat → Bool} (hk : k < 10) (hf : faultK j k = idxK q n) (hp : ∀ i, i < k → badK j i = false) :
    ((∀ i, i < n → q i = false) → ∀ i, i < k + 1 → badK j i = false) ∧ ∀ m, m < n → (∀ i, i < m → q i = false) → q m = true → errK j = (k : Int) + 3 ∧ atK j = m :=
  ⟨fun h => next_k (hf.trans (idxK_none h)) hp, fun m hm h hq => first_k hk (hf.trans (idxK_eq hm hq h)) (by omega) hp⟩
theorem un_k {j : J4} (hp : ∀ i, i < 8 → badK j i = false) :
    (0 ≤ anchK j.items 5 j.notes.length → (anchK j.items 6 j.floats.length < 0 ∨ anchK j.items 5 j.notes.length ≤ anchK j.items 6 j.floats.length) → errK j = 11 ∧ atK j = anchK j.items 5 j.notes.length) ∧
    (¬ (0 ≤ anchK j.items 5 j.notes.length ∧ (anchK j.items 6 j.floats.length < 0 ∨ anchK j.items 5 j.notes.length ≤ anchK j.items 6 j.floats.length)) → 0 ≤ anchK j.items 6 j.floats.length → errK j = 11 ∧ atK j = anchK j.items 6 j.floats.length) ∧
    (¬ 0 ≤ anchK j.items 6 j.floats.length → ¬ 0 ≤ anchK j.items 5 j.notes.length → ∀ i, i < 9 → badK j i = false) := by
  have hf : faultK j 8 = unR j := unK_unR j
  unfold unR at hf
  dsimp only at hf
  have g1 : anchK j.items 6 j.floats.length = -1 ∨ 0 ≤ anchK j.items 6 j.floats.length := by
    rcases anchK_ways j.items 6 j.floats.length with ⟨_, e⟩ | ⟨_, _, e⟩ | ⟨_, _, e⟩ <;> omega
  refine ⟨fun h1 h2 => ?_, fun h1 h2 => ?_, fun h1 h2 => next_k (k := 8) ?_ hp⟩
  · rw [if_pos ⟨h1, h2⟩] at hf
    exact first_k (by omega) hf (by omega) hp
  · rw [if_neg h1] at hf
    exact first_k (by omega) hf (by omega) hp
  · rw [if_neg (fun h => h2 h.1)] at hf
    rw [hf]; omega
end Go.Proofs.Ythcgncgnbjhniaa
namespace Go.Proofs.Ythcgncgnbjhniaa
open Go.RowKit
set_option maxRecDepth 20000
set_option linter.unusedVariables false
set_option linter.unusedSimpArgs false

theorem right_faults {j : J4} (h : rightK j = true) : ∀ k, k < 10 → faultK j k = -1 := by
  have h0 : errK j = 0 := of_decide_eq_true h
  have hc : ¬ clauseK j < 10 := fun hc => by
    unfold errK at h0
    rw [if_pos hc] at h0
    omega
  intro k hk
  have := firstK_before (q := badK j) (n := 10) k (by unfold clauseK at hc; omega)
  exact Classical.byContradiction fun hn => by rw [badK_yes hn] at this; cases this
theorem faults_right {j : J4} (h : ∀ k, k < 10 → faultK j k = -1) : rightK j = true :=
  decide_eq_true (verdict_none fun k hk => badK_no (h k hk)).1
theorem idx_all {q : Nat → Bool} {n : Nat} (h : idxK q n = -1) : ∀ i, i < n → q i = false := by
  rcases idxK_cases q n with ⟨_, h1⟩ | ⟨i, _, h1, _⟩
  · exact h1
  · rw [h1] at h; omega
theorem un_all {j : J4} (h : unK j = -1) : (∀ i, i < j.items.length → offK j.items 5 j.notes.length i = false) ∧ (∀ i, i < j.items.length → offK j.items 6 j.floats.length i = false) ∧ cntUp j.items 5 j.items.length = (j.notes.length : Int) ∧ cntUp j.items 6 j.items.length = (j.floats.length : Int) := by
  unfold unK at h
  dsimp only at h
  split at h
  · rename_i hc
    obtain ⟨h1, h2, h3⟩ := hc
    have l5 : strayK j.items 5 j.notes.length ≤ j.items.length := firstK_le _ _
    have l6 : strayK j.items 6 j.floats.length ≤ j.items.length := firstK_le _ _
    refine ⟨fun i hi => firstK_before (q := offK j.items 5 j.notes.length) (n := j.items.length) i ?_, fun i hi => firstK_before (q := offK j.items 6 j.floats.length) (n := j.items.length) i ?_, h2, h3⟩
    · show i < strayK j.items 5 j.notes.length
      omega
    · show i < strayK j.items 6 j.floats.length
      omega
  · omega
theorem un_none {j : J4} (h5 : ∀ i, i < j.items.length → offK j.items 5 j.notes.length i = false) (h6 : ∀ i, i < j.items.length → offK j.items 6 j.floats.length i = false) (c5 : cntUp j.items 5 j.items.length = (j.notes.length : Int)) (c6 : cntUp j.items 6 j.items.length = (j.floats.length : Int)) : unK j = -1 := by
  unfold unK
  dsimp only
  have e5 : strayK j.items 5 j.notes.length = j.items.length := firstK_none h5
  have e6 : strayK j.items 6 j.floats.length = j.items.length := firstK_none h6
  rw [if_pos ⟨by rw [e5, e6]; omega, c5, c6⟩]
theorem take_get {α : Type} {l : List α} {d : α} {n k : Nat} (hk : k < n) : (l.take n).getD k d = l.getD k d := by
  rw [List.getD_eq_getElem?_getD, List.getD_eq_getElem?_getD, List.getElem?_take_of_lt hk]
theorem cnt_take {l : List I7} {k : Int} {n : Nat} : ∀ i, i ≤ n → cntUp (l.take n) k i = cntUp l k i
  | 0, _ => rfl
  | i + 1, h => by
    show cntUp (l.take n) k i + (if ((l.take n).getD i zeroI).k = k then 1 else 0) = cntUp l k i + (if (l.getD i zeroI).k = k then 1 else 0)
    rw [cnt_take i (by omega), take_get (by omega)]
theorem cnt_mono {l : List I7} {k : Int} : ∀ {i n : Nat}, i ≤ n → cntUp l k i ≤ cntUp l k n
  | i, 0, h => by obtain rfl : i = 0 := by omega
                  exact Int.le_refl _
  | i, n + 1, h => by
    rcases Nat.lt_or_ge i (n + 1) with h1 | h1
    · have := cnt_mono (l := l) (k := k) (show i ≤ n by omega)
      have e : cntUp l k (n + 1) = cntUp l k n + (if (l.getD n zeroI).k = k then 1 else 0) := rfl
      rw [e]
      split <;> omega
    · obtain rfl : i = n + 1 := by omega
      exact Int.le_refl _
theorem off_parts {l : List I7} {k c : Int} {i : Nat} (h : offK l k c i = false) (hk : (l.getD i zeroI).k = k) : (l.getD i zeroI).n = cntUp l k i ∧ ¬ c ≤ cntUp l k i := by
  constructor
  · exact Classical.byContradiction fun hn => by rw [offK_n hk hn] at h; cases h
  · exact fun hc => by rw [offK_c hk hc] at h; cases h
/-- The number of anchors ahead of item n. -/
def cnK (l : List I7) (k : Int) (n : Nat) : Nat := (cntUp l k n).toNat
theorem cnK_eq (l : List I7) (k : Int) (n : Nat) : ((cnK l k n : Nat) : Int) = cntUp l k n := Int.toNat_of_nonneg (cntUp_in l k n).1
theorem cnK_zero (l : List I7) (k : Int) : cnK l k 0 = 0 := rfl
theorem cnK_step {l : List I7} {k : Int} {i : Nat} (h : (l.getD i zeroI).k = k) : cnK l k (i + 1) = cnK l k i + 1 := by
  have h1 := cntUp_step h
  have h2 := (cntUp_in l k i).1
  unfold cnK
  omega
theorem cnK_stay {l : List I7} {k : Int} {i : Nat} (h : ¬ (l.getD i zeroI).k = k) : cnK l k (i + 1) = cnK l k i := by
  unfold cnK; rw [cntUp_stay h]
/-- The first n items, and the notes and floats anchored in them. -/
def cutJ (j : J4) (n N M : Nat) : J4 := ⟨j.g, j.items.take n, j.notes.take N, j.floats.take M⟩
def lessJ (j : J4) (n : Nat) : J4 := cutJ j n (cnK j.items 5 n) (cnK j.items 6 n)
/-- What a valid job gives for its first items. -/
theorem less_facts {j : J4} (h : rightK j = true) {n : Nat} (hn : n ≤ j.items.length) : cnK j.items 5 n ≤ j.notes.length ∧ cnK j.items 6 n ≤ j.floats.length := by
  obtain ⟨_, _, h3, h4⟩ := un_all (right_faults h 8 (by omega))
  have a5 := cnt_mono (l := j.items) (k := 5) hn
  have a6 := cnt_mono (l := j.items) (k := 6) hn
  have b5 := cnK_eq j.items 5 n
  have b6 := cnK_eq j.items 6 n
  omega
theorem right_item {j : J4} (h : rightK j = true) {i : Nat} (hi : i < j.items.length) : rightI (j.items.getD i zeroI) = true := by
  have h1 : idxK (itemQ j.items) j.items.length = -1 := right_faults h 5 (by omega)
  have := idx_all h1 i hi
  unfold itemQ at this
  simpa using this
theorem off_take {l : List I7} {k : Int} {c n N : Nat} (hn : n ≤ l.length) (h : ∀ i, i < l.length → offK l k c i = false) (hN : (N : Int) = cntUp l k n) : ∀ i, i < n → offK (l.take n) k N i = false := fun i hi => by
  by_cases hk : ((l.take n).getD i zeroI).k = k
  · have hk' := hk
    rw [take_get hi] at hk'
    obtain ⟨h1, h2⟩ := off_parts (h i (by omega)) hk'
    refine offK_not ?_ ?_
    · rw [take_get hi, cnt_take i (by omega)]; exact h1
    · rw [cnt_take i (by omega), hN]
      have h3 := cnt_mono (l := l) (k := k) (show i + 1 ≤ n by omega)
      rw [cntUp_step hk'] at h3
      omega
  · exact offK_other hk
theorem take_len {α : Type} {l : List α} {n : Nat} (h : n ≤ l.length) : (l.take n).length = n := by rw [List.length_take]; omega
theorem whole_yes {p : Prop} [Decidable p] (h : wholeK (decide p) = -1) : ¬ p := fun hp => by
  rw [whole_0 hp] at h
  exact absurd h (by decide)
theorem idx_less {q r : Nat → Bool} {n m : Nat} (h : idxK q n = -1) (hm : m ≤ n) (e : ∀ i, i < m → r i = q i) : idxK r m = -1 :=
  idxK_none fun i hi => by rw [e i hi]; exact idx_all h i (by omega)
section
variable {j : J4} {n : Nat}
theorem less_0 (h : faultK j 0 = -1) (e : (lessJ j n).items.length ≤ j.items.length) : faultK (lessJ j n) 0 = -1 := by
  have h1 := whole_yes (p := (4096 : Int) < j.items.length) h
  exact whole_no (p := (4096 : Int) < (lessJ j n).items.length) (by omega)
theorem less_1 (h : faultK j 1 = -1) (e : (lessJ j n).floats.length ≤ j.floats.length) : faultK (lessJ j n) 1 = -1 := by
  have h1 := whole_yes (p := (256 : Int) < j.floats.length) h
  exact whole_no (p := (256 : Int) < (lessJ j n).floats.length) (by omega)
theorem less_2 (h : faultK j 2 = -1) (e : (lessJ j n).notes.length ≤ j.notes.length) : faultK (lessJ j n) 2 = -1 := by
  have h1 := whole_yes (p := (512 : Int) < j.notes.length) h
  exact whole_no (p := (512 : Int) < (lessJ j n).notes.length) (by omega)
theorem less_3 (h : faultK j 3 = -1) : faultK (lessJ j n) 3 = -1 := by
  have h1 : wholeK (decide (errE j.g = 6)) = -1 := h
  have h2 : faultK (lessJ j n) 3 = wholeK (decide (errE j.g = 6)) := rfl
  rw [h2]; exact h1
theorem less_4 (h : faultK j 4 = -1) : faultK (lessJ j n) 4 = -1 := by
  have h1 : wholeK (decide (errE j.g = 7)) = -1 := h
  have h2 : faultK (lessJ j n) 4 = wholeK (decide (errE j.g = 7)) := rfl
  rw [h2]; exact h1
theorem less_5 (h : faultK j 5 = -1) (e : (lessJ j n).items.length = n) (hn : n ≤ j.items.length) : faultK (lessJ j n) 5 = -1 := by
  have h1 : idxK (itemQ j.items) j.items.length = -1 := h
  have h2 : idxK (itemQ (j.items.take n)) n = -1 := idx_less h1 hn fun i hi => by unfold itemQ; rw [take_get hi]
  have h3 : faultK (lessJ j n) 5 = idxK (itemQ (j.items.take n)) (lessJ j n).items.length := rfl
  rw [h3, e]; exact h2
theorem less_6 (h : faultK j 6 = -1) (e : (lessJ j n).notes.length = cnK j.items 5 n) (hn : cnK j.items 5 n ≤ j.notes.length) : faultK (lessJ j n) 6 = -1 := by
  have h1 : idxK (noteQ j.notes) j.notes.length = -1 := h
  have h2 : idxK (noteQ (j.notes.take (cnK j.items 5 n))) (cnK j.items 5 n) = -1 := idx_less h1 hn fun i hi => by unfold noteQ; rw [take_get hi]
  have h3 : faultK (lessJ j n) 6 = idxK (noteQ (j.notes.take (cnK j.items 5 n))) (lessJ j n).notes.length := rfl
  rw [h3, e]; exact h2
theorem less_7 (h : faultK j 7 = -1) (e : (lessJ j n).floats.length = cnK j.items 6 n) (hn : cnK j.items 6 n ≤ j.floats.length) : faultK (lessJ j n) 7 = -1 := by
  have h1 : idxK (floatQ j.floats) j.floats.length = -1 := h
  have h2 : idxK (floatQ (j.floats.take (cnK j.items 6 n))) (cnK j.items 6 n) = -1 := idx_less h1 hn fun i hi => by unfold floatQ; rw [take_get hi]
  have h3 : faultK (lessJ j n) 7 = idxK (floatQ (j.floats.take (cnK j.items 6 n))) (lessJ j n).floats.length := rfl
  rw [h3, e]; exact h2
theorem less_8 (h : unK j = -1) (hn : n ≤ j.items.length) (e0 : (lessJ j n).items.length = n) (e1 : (lessJ j n).notes.length = cnK j.items 5 n) (e2 : (lessJ j n).floats.length = cnK j.items 6 n) : unK (lessJ j n) = -1 := by
  obtain ⟨u5, u6, _, _⟩ := un_all h
  have ei : (lessJ j n).items = j.items.take n := rfl
  refine un_none ?_ ?_ ?_ ?_
  · rw [e0, e1, ei]; exact off_take hn u5 (cnK_eq _ _ _)
  · rw [e0, e2, ei]; exact off_take hn u6 (cnK_eq _ _ _)
  · rw [e0, e1, ei, cnt_take n (Nat.le_refl _), cnK_eq]
  · rw [e0, e2, ei, cnt_take n (Nat.le_refl _), cnK_eq]
theorem less_snap : (snapJ (lessJ j n)).g = (snapJ j).g ∧ (snapJ (lessJ j n)).floats = (snapJ j).floats.take (cnK j.items 6 n) := by
  have eg : (lessJ j n).g = j.g := rfl
  have ef : (lessJ j n).floats = j.floats.take (cnK j.items 6 n) := rfl
  unfold snapJ
  rw [eg, ef]
  by_cases hg : j.g.grid < 1
  · rw [if_pos hg, if_pos hg]; exact ⟨rfl, rfl⟩
  · rw [if_neg hg, if_neg hg]; exact ⟨rfl, List.map_take⟩
theorem less_9 (h : tallK j = -1) (hn : cnK j.items 6 n ≤ j.floats.length) : tallK (lessJ j n) = -1 := by
  obtain ⟨eg, ef⟩ := less_snap (j := j) (n := n)
  have el : cnK j.items 6 n ≤ (snapJ j).floats.length := by
    have : (snapJ j).floats.length = j.floats.length := by
      unfold snapJ
      split
      · rfl
      · exact List.length_map ..
    omega
  unfold tallK at h ⊢
  rw [eg, ef, take_len el]
  exact idx_less h el fun i hi => by unfold tallQ; rw [take_get hi]
end
theorem less_right {j : J4} (h : rightK j = true) {n : Nat} (hn : n ≤ j.items.length) : rightK (lessJ j n) = true := by
  have H := right_faults h
  obtain ⟨n5, n6⟩ := less_facts h hn
  have e0 : (lessJ j n).items.length = n := take_len hn
  have e1 : (lessJ j n).notes.length = cnK j.items 5 n := take_len n5
  have e2 : (lessJ j n).floats.length = cnK j.items 6 n := take_len n6
  refine faults_right fun k hk => ?_
  have e : k = 0 ∨ k = 1 ∨ k = 2 ∨ k = 3 ∨ k = 4 ∨ k = 5 ∨ k = 6 ∨ k = 7 ∨ k = 8 ∨ k = 9 := by omega
  rcases e with rfl | rfl | rfl | rfl | rfl | rfl | rfl | rfl | rfl | rfl
  · exact less_0 (H 0 hk) (by omega)
  · exact less_1 (H 1 hk) (by omega)
  · exact less_2 (H 2 hk) (by omega)
  · exact less_3 (H 3 hk)
  · exact less_4 (H 4 hk)
  · exact less_5 (H 5 hk) e0 hn
  · exact less_6 (H 6 hk) e1 n5
  · exact less_7 (H 7 hk) e2 n6
  · exact less_8 (H 8 hk) hn e0 e1 e2
  · exact less_9 (H 9 hk) n6
theorem cut_few {j : J4} (h : Few j) (n N M : Nat) : Few (cutJ j n N M) := by
  obtain ⟨h1, h2, h3, h4⟩ := h
  refine ⟨?_, ?_, ?_, fun k => ?_⟩
  · show (j.items.take n).length ≤ 100
    rw [List.length_take]; omega
  · show (j.notes.take N).length ≤ 100
    rw [List.length_take]; omega
  · show (j.floats.take M).length ≤ 100
    rw [List.length_take]; omega
  · show ((j.notes.take N).getD k zeroN).l.length ≤ 100 ∧ ((j.notes.take N).getD k zeroN).p.length ≤ 100
    rcases Nat.lt_or_ge k N with hk | hk
    · rw [take_get hk]; exact h4 k
    · rw [getD_none (by rw [List.length_take]; omega)]; simp [zeroN]
/-- Where the lists of the shorter job lie. -/
structure CutS (s t : S3) (N M : Nat) : Prop where
  ia : t.ia = s.ia
  ic : t.ic = s.ic
  na : N = 0 ∧ t.nc = 0 ∨ t.na = s.na ∧ t.nc = s.nc
  fa : M = 0 ∧ t.fc = 0 ∨ t.fa = s.fa ∧ t.fc = s.fc
theorem els_take {α : Type} {sz : Nat} {enc : α → List Value} {w : World} {a : Option Addr} {l : List α} {d : α} {n : Nat} (h : Els sz enc w a l.length fun k => l.getD k d) (hn : n ≤ l.length) : Els sz enc w a (l.take n).length fun k => (l.take n).getD k d := fun k j hk hj => by
  rw [take_len hn] at hk
  dsimp only
  rw [take_get hk]
  exact h k j (by omega) hj
theorem cut_lists {w : World} {j : J4} {s t : S3} {n N M : Nat} (h : Lists w j s) (c : CutS s t N M) (hn : n ≤ j.items.length) (hN : N ≤ j.notes.length) (hM : M ≤ j.floats.length) : Lists w (cutJ j n N M) t := by
  obtain ⟨c1, c2, c3, c4⟩ := c
  obtain ⟨⟨i1, i2, i3⟩, hi, hno, hf, q1, q2, q3⟩ := h
  have e0 : (cutJ j n N M).items.length = n := take_len hn
  have e1 : (cutJ j n N M).notes.length = N := take_len hN
  have e2 : (cutJ j n N M).floats.length = M := take_len hM
  refine ⟨⟨i1, fun k => ?_, fun k => ?_⟩, ?_, ?_, ?_, ?_, ?_, ?_⟩
  · show inI ((j.items.take n).getD k zeroI)
    rcases Nat.lt_or_ge k n with hk | hk
    · rw [take_get hk]; exact i2 k
    · rw [getD_none (by rw [List.length_take]; omega)]; exact (zero_in 0).1
  · show inF ((j.floats.take M).getD k zeroF)
    rcases Nat.lt_or_ge k M with hk | hk
    · rw [take_get hk]; exact i3 k
    · rw [getD_none (by rw [List.length_take]; omega)]; exact (zero_in 0).2
  · rw [c1]; exact els_take hi hn
  · rcases c3 with ⟨rfl, _⟩ | ⟨ca, _⟩
    · exact ⟨fun _ => ⟨none, 0, 0, none, 0, 0⟩, fun k j hk _ => absurd hk (Nat.not_lt_zero k), fun k hk => absurd hk (Nat.not_lt_zero k)⟩
    · obtain ⟨hs, hE, hO⟩ := hno
      rw [ca]
      refine ⟨hs, fun k j' hk hj => ?_, fun k hk => ?_⟩
      · rw [e1] at hk; exact hE k j' (by omega) hj
      · rw [e1] at hk
        show NoteOk w (hs k) ((j.notes.take N).getD k zeroN)
        rw [take_get hk]; exact hO k (by omega)
  · rcases c4 with ⟨rfl, _⟩ | ⟨ca, _⟩
    · exact fun k j' hk _ => absurd hk (Nat.not_lt_zero k)
    · rw [ca]; exact els_take hf hM
  · rw [e0, c2]; exact ⟨by omega, q1.2⟩
  · rw [e1]
    rcases c3 with ⟨rfl, h⟩ | ⟨_, h⟩
    · rw [h]; exact ⟨Nat.le_refl _, Nat.zero_le _⟩
    · rw [h]; exact ⟨by omega, q2.2⟩
  · rw [e2]
    rcases c4 with ⟨rfl, h⟩ | ⟨_, h⟩
    · rw [h]; exact ⟨Nat.le_refl _, Nat.zero_le _⟩
    · rw [h]; exact ⟨by omega, q3.2⟩
end Go.Proofs.Ythcgncgnbjhniaa
