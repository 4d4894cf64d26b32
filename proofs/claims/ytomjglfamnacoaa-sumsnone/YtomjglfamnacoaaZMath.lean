/- Plain mathematics for stage 19: totals of ranges of a list, as differences of prefix sums. -/
import Derived.Test.YtomjglfamnacoaaIOth
import Derived.Test.YtomjglfamnacoaaJItm
namespace Go.Proofs.Ytomjglfamnacoaa
open Go.RowKit
set_option maxRecDepth 20000
set_option linter.unusedVariables false

/-! ### Numbers -/
/-- The first k numbers, added up. -/
def preS (f : Nat → Int) : Nat → Int
  | 0 => 0
  | k + 1 => preS f k + f k
/-- Those of the first k with a ≤ i < b, added up. -/
def selS (f : Nat → Int) (a b : Int) : Nat → Int
  | 0 => 0
  | k + 1 => if a ≤ k ∧ (k : Int) < b then selS f a b k + f k else selS f a b k
/-- Those from a up to b of n numbers. -/
def rngS (f : Nat → Int) (a b : Int) (n : Nat) : Int := if max a 0 < min b n then preS f (min b n).toNat - preS f (max a 0).toNat else 0
theorem preS_bd {f : Nat → Int} {M : Int} : ∀ {k : Nat}, (∀ i, i < k → 0 ≤ f i ∧ f i ≤ M) → 0 ≤ preS f k ∧ preS f k ≤ k * M
  | 0, _ => by simp [preS]
  | k + 1, h => by
    have h1 := preS_bd (k := k) fun i hi => h i (by omega)
    have h2 := h k (by omega)
    rw [preS, show ((k + 1 : Nat) : Int) * M = k * M + M by rw [Int.natCast_add, Int.add_mul]; simp]
    omega
theorem preS_mono {f : Nat → Int} {M : Int} {j : Nat} : ∀ {k : Nat}, (∀ i, i < k → 0 ≤ f i ∧ f i ≤ M) → j ≤ k → preS f j ≤ preS f k
  | 0, _, hj => by obtain rfl : j = 0 := by omega
                   exact Int.le_refl _
  | k + 1, h, hj => by
    rcases Nat.lt_or_ge j (k + 1) with h0 | h0
    · have h1 := preS_mono (k := k) (j := j) (fun i hi => h i (by omega)) (by omega)
      have h2 := h k (by omega)
      rw [preS]
      omega
    · obtain rfl : j = k + 1 := by omega
      exact Int.le_refl _
theorem selS_low {f : Nat → Int} {a b : Int} : ∀ {k : Nat}, (k : Int) ≤ max a 0 → selS f a b k = 0
  | 0, _ => rfl
  | k + 1, h => by
    rw [selS, if_neg (by omega)]
    exact selS_low (by omega)
theorem selS_mid {f : Nat → Int} {a b : Int} : ∀ {k : Nat}, max a 0 ≤ k → (k : Int) ≤ b → selS f a b k = preS f k - preS f (max a 0).toNat
  | 0, h, _ => by rw [show (max a 0).toNat = 0 by omega]; simp [selS, preS]
  | k + 1, h, h2 => by
    rcases Int.lt_or_le (k : Int) (max a 0) with h0 | h0
    · rw [selS_low (by omega), show (max a 0).toNat = k + 1 by omega]; omega
    · rw [selS, if_pos (by omega), selS_mid h0 (by omega), preS]; omega
theorem selS_high {f : Nat → Int} {a b : Int} {m : Nat} (hm : b ≤ m) : ∀ {k : Nat}, m ≤ k → selS f a b k = selS f a b m
  | 0, h => by obtain rfl : m = 0 := by omega
               rfl
  | k + 1, h => by
    rcases Nat.lt_or_ge m (k + 1) with h0 | h0
    · rw [selS, if_neg (by omega)]; exact selS_high hm (by omega)
    · obtain rfl : m = k + 1 := by omega
      rfl
/-- One by one, or by two prefix sums. -/
theorem selS_rng (f : Nat → Int) (a b : Int) (n : Nat) : selS f a b n = rngS f a b n := by
  unfold rngS
  by_cases h : max a 0 < min b n
  · rw [if_pos h]
    rcases Int.lt_or_le b (n : Int) with h1 | h1
    · obtain ⟨m, rfl⟩ : ∃ m : Nat, b = m := ⟨b.toNat, by omega⟩
      rw [selS_high (m := m) (by omega) (by omega), selS_mid (by omega) (by omega), show (min (m : Int) n).toNat = m by omega]
    · rw [selS_mid (by omega) (by omega), show (min b (n : Int)).toNat = n by omega]
  · rw [if_neg h]
    rcases Int.lt_or_le (n : Int) (max a 0) with h1 | h1
    · exact selS_low (by omega)
    · rcases Int.lt_or_le b 0 with h2 | h2
      · rw [selS_high (m := 0) (by omega) (by omega)]; rfl
      · obtain ⟨m, rfl⟩ : ∃ m : Nat, b = m := ⟨b.toNat, by omega⟩
        rcases Nat.lt_or_ge m n with h3 | h3
        · rw [selS_high (m := m) (by omega) (by omega)]; exact selS_low (by omega)
        · exact selS_low (by omega)
theorem selS_out {f : Nat → Int} {a b : Int} {k : Nat} (h : ¬ (a ≤ k ∧ (k : Int) < b)) : selS f a b (k + 1) = selS f a b k := by rw [selS, if_neg h]
theorem selS_in {f : Nat → Int} {a b : Int} {k : Nat} (h : a ≤ k ∧ (k : Int) < b) : selS f a b (k + 1) = selS f a b k + f k := by rw [selS, if_pos h]
theorem selS_bd {f : Nat → Int} {M a b : Int} (hM : 0 ≤ M) : ∀ {k : Nat}, (∀ i, i < k → 0 ≤ f i ∧ f i ≤ M) → 0 ≤ selS f a b k ∧ selS f a b k ≤ k * M
  | 0, _ => by simp [selS]
  | k + 1, h => by
    have h1 := selS_bd (a := a) (b := b) hM (k := k) fun i hi => h i (by omega)
    have h2 := h k (by omega)
    rw [selS, show ((k + 1 : Nat) : Int) * M = k * M + M by rw [Int.natCast_add, Int.add_mul]; simp]
    split <;> omega
/-- Two ranges side by side. -/
theorem rngS_join (f : Nat → Int) {a b c : Int} (n : Nat) (h1 : a ≤ b) (h2 : b ≤ c) : rngS f a b n + rngS f b c n = rngS f a c n := by
  unfold rngS
  rcases Int.lt_or_le 0 b with h3 | h3
  · rcases Int.lt_or_le b (n : Int) with h4 | h4
    · rw [show max b 0 = b by omega, show min b (n : Int) = b by omega]
      split <;> split <;> split <;> first | omega | (rw [show (max a 0).toNat = b.toNat by omega]; omega) | (rw [show (min c (n : Int)).toNat = b.toNat by omega]; omega)
    · rw [show min b (n : Int) = n by omega, show min c (n : Int) = n by omega, if_neg (c := max b 0 < (n : Int)) (by omega)]
      omega
  · rw [if_neg (c := max a 0 < min b (n : Int)) (by omega), show max b 0 = 0 by omega, show max a 0 = 0 by omega]
    omega

/-! ### Totals -/
def totK (l : List I7) (i : Nat) : T6 := totalI (l.getD i zeroI)
/-- A total made of a rule for the six numbers. -/
def overT (g : (Nat → Int) → Int) (l : List I7) : T6 := ⟨g fun i => (totK l i).n, g fun i => (totK l i).s0, g fun i => (totK l i).s1, g fun i => (totK l i).s2, g fun i => (totK l i).s3, g fun i => (totK l i).h⟩
def preM (l : List I7) (k : Nat) : T6 := overT (fun f => preS f k) l
def selM (l : List I7) (a b : Int) (k : Nat) : T6 := overT (fun f => selS f a b k) l
def rngM (l : List I7) (a b : Int) : T6 := overT (fun f => rngS f a b l.length) l
theorem selM_rng (l : List I7) (a b : Int) : selM l a b l.length = rngM l a b := by
  unfold selM rngM overT
  simp only [selS_rng]
def okS (x : Int) : Bool := decide (0 ≤ x ∧ x ≤ 4294967296)
def fairT (t : T6) : Bool := okS t.n && okS t.s0 && okS t.s1 && okS t.s2 && okS t.s3 && okS t.h
def fairTo (l : List I7) (k : Nat) : Bool := (List.range k).all fun i => fairT (totK l i)
def fairM (l : List I7) : Bool := fairTo l l.length && decide (l.length ≤ 4096)
theorem fairTo_all {l : List I7} {k : Nat} : fairTo l k = true ↔ ∀ i, i < k → fairT (totK l i) = true := by
  unfold fairTo
  simp
theorem fairTo_next {l : List I7} {k : Nat} : fairTo l (k + 1) = (fairTo l k && fairT (totK l k)) := by
  unfold fairTo
  simp [List.range_succ]
theorem fairTo_less {l : List I7} {j k : Nat} (h : fairTo l k = true) (hj : j ≤ k) : fairTo l j = true := fairTo_all.2 fun i hi => fairTo_all.1 h i (by omega)
theorem fairT_facts {t : T6} (h : fairT t = true) : (0 ≤ t.n ∧ t.n ≤ 4294967296) ∧ (0 ≤ t.s0 ∧ t.s0 ≤ 4294967296) ∧ (0 ≤ t.s1 ∧ t.s1 ≤ 4294967296) ∧ (0 ≤ t.s2 ∧ t.s2 ≤ 4294967296) ∧ (0 ≤ t.s3 ∧ t.s3 ≤ 4294967296) ∧ (0 ≤ t.h ∧ t.h ≤ 4294967296) := by
  unfold fairT okS at h
  simp only [Bool.and_eq_true, decide_eq_true_eq] at h
  obtain ⟨⟨⟨⟨⟨h1, h2⟩, h3⟩, h4⟩, h5⟩, h6⟩ := h
  exact ⟨h1, h2, h3, h4, h5, h6⟩
/-- No greater than these, all six. -/
def bdT (t : T6) (M : Int) : Prop := (0 ≤ t.n ∧ t.n ≤ M) ∧ (0 ≤ t.s0 ∧ t.s0 ≤ M) ∧ (0 ≤ t.s1 ∧ t.s1 ≤ M) ∧ (0 ≤ t.s2 ∧ t.s2 ≤ M) ∧ (0 ≤ t.s3 ∧ t.s3 ≤ M) ∧ (0 ≤ t.h ∧ t.h ≤ M)
theorem bdT.inT {t : T6} {M : Int} (h : bdT t M) (hM : M ≤ 9223372036854775807) : Go.Proofs.Ytomjglfamnacoaa.inT t := by
  unfold bdT at h
  unfold Go.Proofs.Ytomjglfamnacoaa.inT inR
  omega
theorem bdT.mono {t : T6} {M M' : Int} (h : bdT t M) (hM : M ≤ M') : bdT t M' := by
  unfold bdT at h ⊢
  omega
theorem fairT_bd {t : T6} (h : fairT t = true) : bdT t 4294967296 := fairT_facts h
theorem preM_bd {l : List I7} {k : Nat} (h : fairTo l k = true) : bdT (preM l k) (k * 4294967296) := by
  have H := fun i hi => fairT_facts (fairTo_all.1 h i hi)
  exact ⟨preS_bd fun i hi => (H i hi).1, preS_bd fun i hi => (H i hi).2.1, preS_bd fun i hi => (H i hi).2.2.1, preS_bd fun i hi => (H i hi).2.2.2.1, preS_bd fun i hi => (H i hi).2.2.2.2.1, preS_bd fun i hi => (H i hi).2.2.2.2.2⟩
theorem selM_bd {l : List I7} {a b : Int} {k : Nat} (h : fairTo l k = true) : bdT (selM l a b k) (k * 4294967296) := by
  have H := fun i hi => fairT_facts (fairTo_all.1 h i hi)
  exact ⟨selS_bd (by omega) fun i hi => (H i hi).1, selS_bd (by omega) fun i hi => (H i hi).2.1, selS_bd (by omega) fun i hi => (H i hi).2.2.1, selS_bd (by omega) fun i hi => (H i hi).2.2.2.1, selS_bd (by omega) fun i hi => (H i hi).2.2.2.2.1, selS_bd (by omega) fun i hi => (H i hi).2.2.2.2.2⟩
theorem rngM_bd {l : List I7} {a b : Int} (h : fairTo l l.length = true) : bdT (rngM l a b) (l.length * 4294967296) := by
  rw [← selM_rng]; exact selM_bd h
def plusT (a b : T6) : T6 := ⟨a.n + b.n, a.s0 + b.s0, a.s1 + b.s1, a.s2 + b.s2, a.s3 + b.s3, a.h + b.h⟩
def lessT (a b : T6) : T6 := ⟨a.n - b.n, a.s0 - b.s0, a.s1 - b.s1, a.s2 - b.s2, a.s3 - b.s3, a.h - b.h⟩
theorem add_fits {a b : T6} (h : inT (plusT a b)) : addT a b = (plusT a b, true) := by
  obtain ⟨h1, h2, h3, h4, h5, h6⟩ := h
  simp only [plusT] at h1 h2 h3 h4 h5 h6
  unfold addT pairT allT eachT addR
  rw [fit_pos h1, fit_pos h2, fit_pos h3, fit_pos h4, fit_pos h5, fit_pos h6]
  rfl
theorem sub_fits {a b : T6} (h : inT (lessT a b)) : subT a b = (lessT a b, true) := by
  obtain ⟨h1, h2, h3, h4, h5, h6⟩ := h
  simp only [lessT] at h1 h2 h3 h4 h5 h6
  unfold subT pairT allT eachT subR
  rw [fit_pos h1, fit_pos h2, fit_pos h3, fit_pos h4, fit_pos h5, fit_pos h6]
  rfl
theorem preM_next (l : List I7) (k : Nat) : preM l (k + 1) = plusT (preM l k) (totK l k) := rfl
theorem preM_zero (l : List I7) : preM l 0 = zeroT := rfl
theorem selM_zero (l : List I7) (a b : Int) : selM l a b 0 = zeroT := rfl
theorem selM_in {l : List I7} {a b : Int} {k : Nat} (h : a ≤ k ∧ (k : Int) < b) : selM l a b (k + 1) = plusT (selM l a b k) (totK l k) := by
  unfold selM overT plusT
  simp only [selS_in h]
theorem selM_out {l : List I7} {a b : Int} {k : Nat} (h : ¬ (a ≤ k ∧ (k : Int) < b)) : selM l a b (k + 1) = selM l a b k := by
  unfold selM overT
  simp only [selS_out h]
theorem rngM_join (l : List I7) {a b c : Int} (h1 : a ≤ b) (h2 : b ≤ c) : plusT (rngM l a b) (rngM l b c) = rngM l a c := by
  unfold rngM overT plusT
  simp only [rngS_join _ _ h1 h2]
theorem rngM_some {l : List I7} {a b : Int} (h : max a 0 < min b l.length) : rngM l a b = lessT (preM l (min b l.length).toNat) (preM l (max a 0).toNat) := by
  unfold rngM overT rngS lessT preM overT
  simp only [if_pos h]
theorem rngM_none {l : List I7} {a b : Int} (h : ¬ max a 0 < min b l.length) : rngM l a b = zeroT := by
  unfold rngM overT rngS zeroT
  simp only [if_neg h]

/-! ### Boxes -/
def boxK (l : List I7) (i : Nat) : Int := if (l.getD i zeroI).k = 1 then (l.getD i zeroI).h else 0
theorem boxK_tot (l : List I7) (i : Nat) : boxK l i = if (l.getD i zeroI).k = 1 then (totK l i).n else 0 := by
  unfold boxK totK totalI
  split
  · rfl
  · rfl
theorem boxK_bd {l : List I7} {i : Nat} (h : fairT (totK l i) = true) : 0 ≤ boxK l i ∧ boxK l i ≤ 4294967296 := by
  rw [boxK_tot]
  have := (fairT_facts h).1
  split <;> omega

/-! ### Glues -/
/-- The totals of the glues among the first k items. -/
def gluK (l : List I7) : Nat → List T6
  | 0 => []
  | k + 1 => if (l.getD k zeroI).k = 2 then gluK l k ++ [totK l k] else gluK l k
/-- Those with a ≤ i < b. -/
def gluS (l : List I7) (a b : Int) : Nat → List T6
  | 0 => []
  | k + 1 => if (a ≤ k ∧ (k : Int) < b) ∧ (l.getD k zeroI).k = 2 then gluS l a b k ++ [totK l k] else gluS l a b k
def gluR (l : List I7) (a b : Int) : List T6 := if max a 0 < min b l.length then (gluK l (min b l.length).toNat).drop (gluK l (max a 0).toNat).length else []
theorem gluK_len (l : List I7) : ∀ k, (gluK l k).length ≤ k
  | 0 => Nat.le_refl _
  | k + 1 => by
    have := gluK_len l k
    unfold gluK
    split
    · simp; omega
    · omega
theorem gluS_len (l : List I7) (a b : Int) : ∀ k, (gluS l a b k).length ≤ k
  | 0 => Nat.le_refl _
  | k + 1 => by
    have := gluS_len l a b k
    unfold gluS
    split
    · simp; omega
    · omega
theorem gluK_next (l : List I7) (k : Nat) : gluK l (k + 1) = if (l.getD k zeroI).k = 2 then gluK l k ++ [totK l k] else gluK l k := rfl
theorem gluK_more (l : List I7) (j : Nat) : ∀ d, ∃ r, gluK l (j + d) = gluK l j ++ r
  | 0 => ⟨[], by simp⟩
  | d + 1 => by
    obtain ⟨r, hr⟩ := gluK_more l j d
    show ∃ r, gluK l ((j + d) + 1) = _
    rw [gluK_next, hr]
    split
    · exact ⟨r ++ [totK l (j + d)], by rw [List.append_assoc]⟩
    · exact ⟨r, rfl⟩
theorem gluK_part {l : List I7} {j k : Nat} (h : j ≤ k) : ∃ r, gluK l k = gluK l j ++ r := by
  obtain ⟨r, hr⟩ := gluK_more l j (k - j)
  exact ⟨r, by rwa [show j + (k - j) = k by omega] at hr⟩
theorem gluK_mono {l : List I7} {j k : Nat} (h : j ≤ k) : (gluK l j).length ≤ (gluK l k).length := by
  obtain ⟨r, hr⟩ := gluK_part (l := l) h
  rw [hr]; simp
theorem gluS_low {l : List I7} {a b : Int} : ∀ {k : Nat}, (k : Int) ≤ max a 0 → gluS l a b k = []
  | 0, _ => rfl
  | k + 1, h => by
    rw [gluS, if_neg (by omega)]
    exact gluS_low (by omega)
theorem gluS_mid {l : List I7} {a b : Int} : ∀ {k : Nat}, max a 0 ≤ k → (k : Int) ≤ b → gluK l (max a 0).toNat ++ gluS l a b k = gluK l k
  | 0, h, _ => by rw [show (max a 0).toNat = 0 by omega]; simp [gluS, gluK]
  | k + 1, h, h2 => by
    rcases Int.lt_or_le (k : Int) (max a 0) with h0 | h0
    · rw [gluS_low (by omega), show (max a 0).toNat = k + 1 by omega, List.append_nil]
    · have ih := gluS_mid (l := l) h0 (show (k : Int) ≤ b by omega)
      rw [gluS, gluK]
      by_cases h3 : (l.getD k zeroI).k = 2
      · rw [if_pos ⟨by omega, h3⟩, if_pos h3, ← List.append_assoc, ih]
      · rw [if_neg (fun h => h3 h.2), if_neg h3, ih]
theorem gluS_high {l : List I7} {a b : Int} {m : Nat} (hm : b ≤ m) : ∀ {k : Nat}, m ≤ k → gluS l a b k = gluS l a b m
  | 0, h => by obtain rfl : m = 0 := by omega
               rfl
  | k + 1, h => by
    rcases Nat.lt_or_ge m (k + 1) with h0 | h0
    · rw [gluS, if_neg (by omega)]; exact gluS_high hm (by omega)
    · obtain rfl : m = k + 1 := by omega
      rfl
theorem drop_of {α : Type} {x y z : List α} (h : x ++ y = z) : z.drop x.length = y := by rw [← h]; simp
theorem gluS_rng (l : List I7) (a b : Int) : gluS l a b l.length = gluR l a b := by
  unfold gluR
  by_cases h : max a 0 < min b l.length
  · rw [if_pos h]
    rcases Int.lt_or_le b (l.length : Int) with h1 | h1
    · obtain ⟨m, rfl⟩ : ∃ m : Nat, b = m := ⟨b.toNat, by omega⟩
      rw [gluS_high (m := m) (by omega) (by omega), show (min (m : Int) l.length).toNat = m by omega]
      exact (drop_of (gluS_mid (by omega) (by omega))).symm
    · rw [show (min b (l.length : Int)).toNat = l.length by omega]
      exact (drop_of (gluS_mid (by omega) (by omega))).symm
  · rw [if_neg h]
    rcases Int.lt_or_le (l.length : Int) (max a 0) with h1 | h1
    · exact gluS_low (by omega)
    · rcases Int.lt_or_le b 0 with h2 | h2
      · rw [gluS_high (m := 0) (by omega) (by omega)]; rfl
      · obtain ⟨m, rfl⟩ : ∃ m : Nat, b = m := ⟨b.toNat, by omega⟩
        rcases Nat.lt_or_ge m l.length with h3 | h3
        · rw [gluS_high (m := m) (by omega) (by omega)]; exact gluS_low (by omega)
        · exact gluS_low (by omega)
/-- The natural heights of totals, added up. -/
def natU (g : List T6) : Nat → Int := preS fun i => (g.getD i zeroT).n
def natL : List T6 → Int
  | [] => 0
  | t :: g => t.n + natL g
theorem natL_app : ∀ a b : List T6, natL (a ++ b) = natL a + natL b
  | [], b => by simp [natL]
  | t :: a, b => by rw [List.cons_append, natL, natL, natL_app a b]; omega
theorem natU_take (g : List T6) : ∀ k, k ≤ g.length → natU g k = natL (g.take k)
  | 0, _ => by simp [natU, preS, natL]
  | k + 1, h => by
    have ih := natU_take g k (by omega)
    unfold natU at *
    rw [preS, ih, List.take_add_one, List.getElem?_eq_getElem (by omega), List.getD_eq_getElem?_getD, List.getElem?_eq_getElem (by omega), natL_app]
    simp [natL]
theorem natU_all (g : List T6) : natU g g.length = natL g := by rw [natU_take g _ (Nat.le_refl _), List.take_length]
/-- Boxes and glues are all that is high. -/
theorem box_glue (l : List I7) : ∀ k, preS (boxK l) k + natL (gluK l k) = preS (fun i => (totK l i).n) k
  | 0 => rfl
  | k + 1 => by
    have ih := box_glue l k
    rw [preS, preS, gluK, boxK_tot]
    by_cases h1 : (l.getD k zeroI).k = 1
    · rw [if_pos h1, if_neg (by omega)]; omega
    · rw [if_neg h1]
      by_cases h2 : (l.getD k zeroI).k = 2
      · rw [if_pos h2, natL_app, natL, natL]; omega
      · rw [if_neg h2]
        have : (totK l k).n = 0 := by
          unfold totK totalI
          rw [if_neg h1, if_neg h2]; rfl
        omega
theorem box_glue_rng (l : List I7) (a b : Int) : rngS (boxK l) a b l.length + natL (gluR l a b) = (rngM l a b).n := by
  show _ = rngS (fun i => (totK l i).n) a b l.length
  unfold rngS gluR
  by_cases h : max a 0 < min b l.length
  · rw [if_pos h, if_pos h, if_pos h]
    have h1 := box_glue l (min b l.length).toNat
    have h2 := box_glue l (max a 0).toNat
    obtain ⟨r, hr⟩ := gluK_part (l := l) (j := (max a 0).toNat) (k := (min b l.length).toNat) (by omega)
    rw [hr, natL_app] at h1
    rw [hr, List.drop_left]
    omega
  · rw [if_neg h, if_neg h, if_neg h]; rfl
theorem gluR_len (l : List I7) (a b : Int) : (gluR l a b).length ≤ l.length := by
  rw [← gluS_rng]; exact gluS_len l a b _
theorem gluK_in {l : List I7} {k : Nat} {t : T6} (h : t ∈ gluK l k) : ∃ i, i < k ∧ t = totK l i := by
  induction k with
  | zero => exact absurd h (by simp [gluK])
  | succ k ih =>
    unfold gluK at h
    split at h
    · rcases List.mem_append.1 h with h | h
      · obtain ⟨i, hi, e⟩ := ih h; exact ⟨i, by omega, e⟩
      · exact ⟨k, by omega, List.mem_singleton.1 h⟩
    · obtain ⟨i, hi, e⟩ := ih h; exact ⟨i, by omega, e⟩
theorem gluR_in {l : List I7} {a b : Int} {t : T6} (h : t ∈ gluR l a b) : ∃ i, i < l.length ∧ t = totK l i := by
  unfold gluR at h
  split at h
  · obtain ⟨i, hi, e⟩ := gluK_in (List.mem_of_mem_drop h)
    exact ⟨i, by omega, e⟩
  · cases h
end Go.Proofs.Ytomjglfamnacoaa
