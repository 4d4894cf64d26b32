/- Anchors in plain numbers: entries that belong to indices, how many lie below, the values between, the last one. Nothing of a program is in it. slices.BinarySearch of numbers that rise; below. -/
import Derived.Test.YtniipfpfilenmaaIFlt
import Derived.Test.YtniipfpfilenmaaUCnt
import Derived.Test.YtniipfpfilenmaaNSm
namespace Go.Proofs.Ytniipfpfilenmaa
open Go.RowKit
set_option maxRecDepth 20000
set_option linter.unusedVariables false
set_option linter.unusedSimpArgs false

/-- How many numbers of a list are less than n. -/
def cntB (L : List Int) (n : Int) : Nat := (L.filter fun x => decide (x < n)).length
theorem cntB_le (L : List Int) (n : Int) : cntB L n ≤ L.length := List.length_filter_le _ _
theorem cntB_snoc (L : List Int) (x n : Int) : cntB (L ++ [x]) n = cntB L n + if x < n then 1 else 0 := by
  unfold cntB
  by_cases h : x < n <;> simp [List.filter_append, h]
theorem cntB_all {L : List Int} {n : Int} (h : ∀ x ∈ L, x < n) : cntB L n = L.length := by
  unfold cntB
  rw [List.filter_eq_self.2 (fun x hx => by simpa using h x hx)]
theorem cntB_none {L : List Int} {n : Int} (h : ∀ x ∈ L, ¬ x < n) : cntB L n = 0 := by
  unfold cntB
  rw [List.filter_eq_nil_iff.2 (fun x hx => by simpa using h x hx)]
  rfl
theorem cntB_app (L M : List Int) (n : Int) : cntB (L ++ M) n = cntB L n + cntB M n := by
  unfold cntB
  rw [List.filter_append, List.length_append]
theorem cntB_mono (L : List Int) {a b : Int} (h : a ≤ b) : cntB L a ≤ cntB L b := by
  induction L with
  | nil => exact Nat.le_refl _
  | cons x L ih =>
    have e : ∀ n, cntB (x :: L) n = (if x < n then 1 else 0) + cntB L n := fun n => by
      rw [show x :: L = [x] ++ L from rfl, cntB_app]
      congr 1
      by_cases h : x < n <;> simp [cntB, h]
    rw [e, e]
    by_cases h1 : x < a
    · rw [if_pos h1, if_pos (by omega)]; omega
    · rw [if_neg h1]; omega
/-- Where what is less ends. -/
theorem cntB_of {L : List Int} {n : Int} {k : Nat} (hk : k ≤ L.length) (h1 : ∀ i, i < k → L.getD i 0 < n) (h2 : ∀ i, k ≤ i → i < L.length → n ≤ L.getD i 0) : cntB L n = k := by
  have e : L = L.take k ++ L.drop k := (List.take_append_drop k L).symm
  rw [e, cntB_app, cntB_all, cntB_none]
  · simp; omega
  · intro x hx
    obtain ⟨i, hi, rfl⟩ := List.mem_iff_getElem.1 hx
    have hi' : i < L.length - k := by simpa using hi
    have := h2 (k + i) (by omega) (by omega)
    rw [List.getElem_drop]
    rw [List.getD_eq_getElem?_getD, List.getElem?_eq_getElem (by omega)] at this
    simp at this
    omega
  · intro x hx
    obtain ⟨i, hi, rfl⟩ := List.mem_iff_getElem.1 hx
    have hi' : i < min k L.length := by simpa using hi
    have hi2 : i < k ∧ i < L.length := by omega
    have := h1 i (by omega)
    rw [List.getElem_take]
    rw [List.getD_eq_getElem?_getD, List.getElem?_eq_getElem (by omega)] at this
    simpa using this
/-- The numbers rise. -/
def RiseL (L : List Int) : Prop := ∀ i j, i < j → j < L.length → L.getD i 0 < L.getD j 0
theorem getD_snocL {α : Type} (L : List α) (x d : α) (i : Nat) (h : i < L.length) : (L ++ [x]).getD i d = L.getD i d := by
  rw [List.getD_eq_getElem?_getD, List.getD_eq_getElem?_getD, List.getElem?_append_left h]
theorem getD_lastL {α : Type} (L : List α) (x d : α) : (L ++ [x]).getD L.length d = x := by
  rw [List.getD_eq_getElem?_getD, List.getElem?_append_right (Nat.le_refl _)]
  simp
theorem RiseL.snoc {L : List Int} {x : Int} (h : RiseL L) (hx : ∀ y ∈ L, y < x) : RiseL (L ++ [x]) := fun i j hij hj => by
  have hj' : j < L.length + 1 := by simpa using hj
  rw [getD_snocL _ _ _ i (by omega)]
  by_cases e : j < L.length
  · rw [getD_snocL _ _ _ j e]; exact h i j hij e
  · obtain rfl : j = L.length := by omega
    rw [getD_lastL]
    refine hx _ ?_
    rw [List.getD_eq_getElem?_getD, List.getElem?_eq_getElem (by omega)]
    exact List.getElem_mem _

/-! ### entries: an index and a value each -/
section
variable {α : Type}
def atE (E : List (Int × α)) : List Int := E.map Prod.fst
def valE (E : List (Int × α)) : List α := E.map Prod.snd
theorem atE_len (E : List (Int × α)) : (atE E).length = E.length := by simp [atE]
theorem valE_len (E : List (Int × α)) : (valE E).length = E.length := by simp [valE]
theorem atE_snoc (E : List (Int × α)) (x : Int × α) : atE (E ++ [x]) = atE E ++ [x.1] := by simp [atE]
theorem valE_snoc (E : List (Int × α)) (x : Int × α) : valE (E ++ [x]) = valE E ++ [x.2] := by simp [valE]
/-- All indices are at least 0 and less than K, and rise. -/
structure Upto (E : List (Int × α)) (K : Nat) : Prop where
  less : ∀ x ∈ atE E, 0 ≤ x ∧ x < K
  rise : RiseL (atE E)
  few : E.length ≤ K
theorem upto_nil : Upto ([] : List (Int × α)) 0 := ⟨fun x hx => by simp [atE] at hx, fun i j _ h => by simp [atE] at h, Nat.le_refl _⟩
theorem Upto.same {E : List (Int × α)} {K : Nat} (h : Upto E K) : Upto E (K + 1) := ⟨fun x hx => by have := h.less x hx; omega, h.rise, by have := h.few; omega⟩
theorem Upto.snoc {E : List (Int × α)} {K : Nat} (h : Upto E K) (v : α) : Upto (E ++ [((K : Int), v)]) (K + 1) := by
  refine ⟨fun x hx => ?_, ?_, by have := h.few; simp; omega⟩
  · rw [atE_snoc, List.mem_append] at hx
    rcases hx with hx | hx
    · have := h.less x hx; omega
    · simp at hx; omega
  · rw [atE_snoc]
    exact h.rise.snoc fun y hy => (h.less y hy).2
/-- The values from index a up to, but not including, b. -/
def midE (E : List (Int × α)) (a b : Int) : List α := ((valE E).take (cntB (atE E) b)).drop (cntB (atE E) a)
theorem midE_snoc {E : List (Int × α)} {K : Nat} (h : Upto E K) (v : α) (a b : Int) : midE (E ++ [((K : Int), v)]) a b = midE E a b ++ if a ≤ K ∧ (K : Int) < b then [v] else [] := by
  unfold midE
  rw [atE_snoc, valE_snoc, cntB_snoc, cntB_snoc]
  dsimp only
  have hb := cntB_le (atE E) b
  have ha := cntB_le (atE E) a
  rw [atE_len] at ha hb
  have hv := valE_len E
  by_cases h1 : (K : Int) < b
  · have eb : cntB (atE E) b = E.length := by rw [cntB_all (fun x hx => by have := h.less x hx; omega), atE_len]
    rw [if_pos h1, eb, List.take_of_length_le (by simp [hv]), List.take_of_length_le (by omega)]
    by_cases h2 : (K : Int) < a
    · have ea : cntB (atE E) a = E.length := by rw [cntB_all (fun x hx => by have := h.less x hx; omega), atE_len]
      rw [if_pos h2, ea, if_neg (by omega), List.drop_of_length_le (by simp [hv]), List.drop_of_length_le (by omega)]
      rfl
    · rw [if_neg h2, if_pos (by omega), Nat.add_zero, List.drop_append_of_le_length (by omega)]
  · rw [if_neg h1, if_neg (show ¬ (a ≤ (K : Int) ∧ (K : Int) < b) from fun hh => h1 hh.2), Nat.add_zero, List.take_append_of_le_length (by omega), List.append_nil]
    by_cases h2 : (K : Int) < a
    · have ea : cntB (atE E) a = E.length := by rw [cntB_all (fun x hx => by have := h.less x hx; omega), atE_len]
      rw [if_pos h2, ea, List.drop_of_length_le (by simp; omega), List.drop_of_length_le (by simp; omega)]
    · rw [if_neg h2, Nat.add_zero]
/-- The value of the last index below n. -/
def lastE (E : List (Int × α)) (n : Int) (z : α) : α := if cntB (atE E) n = 0 then z else (valE E).getD (cntB (atE E) n - 1) z
theorem lastE_snoc {E : List (Int × α)} {K : Nat} (h : Upto E K) (v : α) (n : Int) (z : α) : lastE (E ++ [((K : Int), v)]) n z = if (K : Int) < n then v else lastE E n z := by
  unfold lastE
  rw [atE_snoc, valE_snoc, cntB_snoc]
  dsimp only
  by_cases h1 : (K : Int) < n
  · have eb : cntB (atE E) n = (valE E).length := by rw [cntB_all (fun x hx => by have := h.less x hx; omega), atE_len, valE_len]
    rw [if_pos h1, if_pos h1, eb, if_neg (by omega), Nat.add_sub_cancel, getD_lastL]
  · rw [if_neg h1, if_neg h1, Nat.add_zero]
    by_cases h0 : cntB (atE E) n = 0
    · rw [if_pos h0, if_pos h0]
    · rw [if_neg h0, if_neg h0, getD_snocL]
      have := cntB_le (atE E) n
      rw [atE_len] at this
      rw [valE_len]
      omega
/-- The entries at which f changes. -/
def entC [DecidableEq α] (f : Nat → α) : Nat → List (Int × α)
  | 0 => []
  | K + 1 => if f (K + 1) = f K then entC f K else entC f K ++ [((K : Int), f (K + 1))]
theorem entC_upto [DecidableEq α] (f : Nat → α) (K : Nat) : Upto (entC f K) K := by
  induction K with
  | zero => exact upto_nil
  | succ K ih =>
    unfold entC
    split
    · exact ih.same
    · exact ih.snoc _
/-- A number of positions, at most K. -/
def clN (n : Int) (K : Nat) : Nat := min n.toNat K
theorem lastE_entC [DecidableEq α] (f : Nat → α) (n : Int) (K : Nat) : lastE (entC f K) n (f 0) = f (clN n K) := by
  induction K with
  | zero =>
    rw [show clN n 0 = 0 by unfold clN; omega]
    rfl
  | succ K ih =>
    unfold entC
    by_cases h1 : (K : Int) < n
    · rw [show clN n (K + 1) = K + 1 by unfold clN; omega]
      split
      · rename_i h
        rw [ih, h, show clN n K = K by unfold clN; omega]
      · rw [lastE_snoc (entC_upto f K), if_pos h1]
    · rw [show clN n (K + 1) = clN n K by unfold clN; omega]
      split
      · exact ih
      · rw [lastE_snoc (entC_upto f K), if_neg h1, ih]
end

/-! ### the anchors of a list -/
/-- The anchors of kind kd among the first K items. -/
def entN (l : List I7) (kd : Int) : Nat → List (Int × Int)
  | 0 => []
  | K + 1 => if (l.getD K zeroI).k = kd then entN l kd K ++ [((K : Int), (l.getD K zeroI).n)] else entN l kd K
theorem entN_upto (l : List I7) (kd : Int) (K : Nat) : Upto (entN l kd K) K := by
  induction K with
  | zero => exact upto_nil
  | succ K ih =>
    unfold entN
    split
    · exact ih.snoc _
    · exact ih.same
/-- The N of the items of kind kd from a up to, but not including, b, among the first K. -/
def numsA (l : List I7) (kd a b : Int) : Nat → List Int
  | 0 => []
  | K + 1 => if a ≤ K ∧ (K : Int) < b ∧ (l.getD K zeroI).k = kd then numsA l kd a b K ++ [(l.getD K zeroI).n] else numsA l kd a b K
theorem midE_entN (l : List I7) (kd a b : Int) (K : Nat) : midE (entN l kd K) a b = numsA l kd a b K := by
  induction K with
  | zero => simp [midE, entN, numsA, valE]
  | succ K ih =>
    unfold entN numsA
    by_cases h : (l.getD K zeroI).k = kd
    · rw [if_pos h, midE_snoc (entN_upto l kd K), ih]
      by_cases h2 : a ≤ K ∧ (K : Int) < b
      · rw [if_pos h2, if_pos ⟨h2.1, h2.2, h⟩]
      · rw [if_neg h2, if_neg (fun hh => h2 ⟨hh.1, hh.2.1⟩), List.append_nil]
    · rw [if_neg h, ih, if_neg (fun hh => h hh.2.2)]
theorem numsA_len (l : List I7) (kd a b : Int) (K : Nat) : (numsA l kd a b K).length ≤ K := by
  induction K with
  | zero => simp [numsA]
  | succ K ih =>
    unfold numsA
    split
    · simp; exact ih
    · omega
theorem numsA_in {l : List I7} (hl : ∀ k, inI (l.getD k zeroI)) (kd a b : Int) (K : Nat) : ∀ k, inR ((numsA l kd a b K).getD k 0) := by
  induction K with
  | zero => intro k; simp [numsA, inR]
  | succ K ih =>
    intro k
    unfold numsA
    split
    · by_cases h : k < (numsA l kd a b K).length
      · rw [getD_snocL _ _ _ _ h]; exact ih k
      · by_cases h2 : k = (numsA l kd a b K).length
        · rw [h2, getD_lastL]; exact (hl K).2.2.2.2.2.2
        · rw [List.getD_eq_getElem?_getD, List.getElem?_eq_none (by simp; omega)]
          simp [inR]
    · exact ih k
theorem cntB_entN (l : List I7) (kd n : Int) (K : Nat) : cntB (atE (entN l kd K)) n = (numsA l kd 0 n K).length := by
  induction K with
  | zero => simp [cntB, entN, numsA, atE]
  | succ K ih =>
    unfold entN numsA
    by_cases h : (l.getD K zeroI).k = kd
    · rw [if_pos h, atE_snoc, cntB_snoc, ih]
      by_cases h2 : (K : Int) < n
      · rw [if_pos h2, if_pos ⟨by omega, h2, h⟩]; simp
      · rw [if_neg h2, if_neg (fun hh => h2 hh.2.1), Nat.add_zero]
    · rw [if_neg h, ih, if_neg (fun hh => h hh.2.2)]
/-- Three counts. -/
structure A3 where
  a : Int
  b : Int
  c : Int
instance : DecidableEq A3 := fun x y => decidable_of_iff (x.a = y.a ∧ x.b = y.b ∧ x.c = y.c) (by cases x; cases y; simp)
def zeroA : A3 := ⟨0, 0, 0⟩
def oneA (c : Int) : A3 := ⟨if c = 0 then 1 else 0, if c = 1 then 1 else 0, if c = 2 then 1 else 0⟩
def addA (x y : A3) : A3 := ⟨x.a + y.a, x.b + y.b, x.c + y.c⟩
/-- What the float n counts for. -/
def ofA (fl : List F3) (n : Int) : A3 := if hasAt fl n = true then oneA (atF fl n).c else zeroA
def aheadA (l : List I7) (fl : List F3) : Nat → A3
  | 0 => zeroA
  | K + 1 => if (l.getD K zeroI).k = 6 then addA (aheadA l fl K) (ofA fl (l.getD K zeroI).n) else aheadA l fl K
def dueA (l : List I7) (fl : List F3) : Nat → A3
  | 0 => zeroA
  | K + 1 => if (l.getD K zeroI).k = 7 then aheadA l fl K else dueA l fl K
def LeA (x y : A3) : Prop := x.a ≤ y.a ∧ x.b ≤ y.b ∧ x.c ≤ y.c
def InA (x : A3) (K : Nat) : Prop := (0 ≤ x.a ∧ x.a ≤ K) ∧ (0 ≤ x.b ∧ x.b ≤ K) ∧ (0 ≤ x.c ∧ x.c ≤ K)
theorem LeA.refl (x : A3) : LeA x x := ⟨Int.le_refl _, Int.le_refl _, Int.le_refl _⟩
theorem LeA.trans {x y z : A3} (h : LeA x y) (k : LeA y z) : LeA x z := ⟨Int.le_trans h.1 k.1, Int.le_trans h.2.1 k.2.1, Int.le_trans h.2.2 k.2.2⟩
theorem one01 (p : Prop) [Decidable p] : (0 : Int) ≤ (if p then 1 else 0) ∧ (if p then (1 : Int) else 0) ≤ 1 := by split <;> omega
theorem ofA_in (fl : List F3) (n : Int) : InA (ofA fl n) 1 := by
  unfold ofA
  split
  · exact ⟨one01 _, one01 _, one01 _⟩
  · unfold zeroA InA; dsimp only; omega
theorem InA.le {x : A3} {K M : Nat} (h : InA x K) (hM : K ≤ M) : InA x M := by
  unfold InA at *; omega
theorem InA.add {x y : A3} {K M : Nat} (h : InA x K) (k : InA y M) : InA (addA x y) (K + M) := by
  unfold InA addA at *; dsimp only; omega
theorem aheadA_in (l : List I7) (fl : List F3) (K : Nat) : InA (aheadA l fl K) K := by
  induction K with
  | zero => unfold aheadA zeroA InA; dsimp only; omega
  | succ K ih =>
    unfold aheadA
    split
    · exact ih.add (ofA_in _ _)
    · exact ih.le (Nat.le_succ _)
theorem dueA_in (l : List I7) (fl : List F3) (K : Nat) : InA (dueA l fl K) K := by
  induction K with
  | zero => unfold dueA zeroA InA; dsimp only; omega
  | succ K ih =>
    unfold dueA
    split
    · exact (aheadA_in l fl K).le (Nat.le_succ _)
    · exact ih.le (Nat.le_succ _)
theorem aheadA_step (l : List I7) (fl : List F3) (K : Nat) : LeA (aheadA l fl K) (aheadA l fl (K + 1)) := by
  rw [aheadA.eq_2]
  split
  · have := ofA_in fl (l.getD K zeroI).n
    unfold InA at this
    unfold LeA addA
    dsimp only
    omega
  · exact LeA.refl _
theorem riseA {f : Nat → A3} (h : ∀ K, LeA (f K) (f (K + 1))) {i j : Nat} (hij : i ≤ j) : LeA (f i) (f j) := by
  induction j with
  | zero => obtain rfl : i = 0 := by omega
            exact LeA.refl _
  | succ j ih =>
    by_cases e : i = j + 1
    · rw [e]; exact LeA.refl _
    · exact (ih (by omega)).trans (h j)
theorem dueA_ahead (l : List I7) (fl : List F3) (K : Nat) : LeA (dueA l fl K) (aheadA l fl K) := by
  induction K with
  | zero => exact LeA.refl _
  | succ K ih =>
    unfold dueA
    split
    · exact aheadA_step l fl K
    · exact ih.trans (aheadA_step l fl K)
theorem dueA_step (l : List I7) (fl : List F3) (K : Nat) : LeA (dueA l fl K) (dueA l fl (K + 1)) := by
  rw [dueA.eq_2]
  split
  · exact dueA_ahead l fl K
  · exact LeA.refl _
theorem clN_mono {a b : Int} (h : a ≤ b) (K : Nat) : clN a K ≤ clN b K := by unfold clN; omega
/-- P21.3 in plain numbers. -/
theorem grows_math (l : List I7) (fl : List F3) {a b : Int} (h : a ≤ b) (K : Nat) : LeA (aheadA l fl (clN a K)) (aheadA l fl (clN b K)) ∧ LeA (dueA l fl (clN a K)) (dueA l fl (clN b K)) ∧ LeA (dueA l fl (clN a K)) (aheadA l fl (clN a K)) ∧ LeA (dueA l fl (clN b K)) (aheadA l fl (clN b K)) :=
  ⟨riseA (aheadA_step l fl) (clN_mono h K), riseA (dueA_step l fl) (clN_mono h K), dueA_ahead l fl _, dueA_ahead l fl _⟩
theorem begun_math (l : List I7) (kd : Int) {a b : Int} (h : a ≤ b) (K : Nat) : cntB (atE (entN l kd K)) a + (numsA l kd a b K).length = cntB (atE (entN l kd K)) b := by
  rw [← midE_entN]
  unfold midE
  have h1 := cntB_mono (atE (entN l kd K)) h
  have h2 := cntB_le (atE (entN l kd K)) b
  rw [atE_len] at h2
  rw [List.length_drop, List.length_take, valE_len]
  omega
end Go.Proofs.Ytniipfpfilenmaa
namespace Go.Proofs.Ytniipfpfilenmaa
open Go.RowKit
set_option maxRecDepth 20000
set_option linter.unusedVariables false
set_option linter.unusedSimpArgs false

theorem hnan_any (x : Int) (w : World) : Calls Try.prog 33 #[.int .i64 x] w fun e w' => e = .returned (.bool false) ∧ w' = w := by
  go_enter Try.func33, Try.ntmps33
  go_wp2
  go_ret
  exact ⟨by simp, rfl⟩
theorem hnan2_any (x : Int) (w : World) : Calls Try.prog 32 #[.int .i64 x] w fun e w' => e = .returned (.bool false) ∧ w' = w := by
  go_enter Try.func32, Try.ntmps32
  go_wp2
  go_ret
  exact ⟨by simp, rfl⟩
theorem hless_any (x y : Int) (w : World) : Calls Try.prog 31 #[.int .i64 x, .int .i64 y] w fun e w' => e = .returned (.bool (decide (x < y))) ∧ w' = w := by
  go_enter Try.func31, Try.ntmps31
  go_wp2_with (refine (hnan_any _ _).mono ?_; rintro e w' ⟨rfl, rfl⟩)
  go_ret
  exact ⟨rfl, rfl⟩
set_option maxHeartbeats 4000000 in
theorem hsearch_any (a : Option Addr) (cap : Nat) (L : List Int) (n : Int) (w : World) (hl : L.length ≤ 1000000) (hr : IRow w.heap.size w a L) (hs : RiseL L) :
    Calls Try.prog 28 #[.slice a L.length cap, .int .i64 n] w fun e w' => (∃ b, e = .returned (.tuple #[.int .i64 (cntB L n), .bool b])) ∧ Below w.heap.size w w' := by
  have HR := Lib.hid hr
  have HS := Lib.hid hs
  clear hr hs
  go_enter Try.func28, Try.ntmps28
  go_wp2
  go_loopw [7, 8] (fun s7 s8 wr => ∃ lo hi : Nat, s7 = .int .i64 lo ∧ s8 = .int .i64 hi ∧ lo ≤ hi ∧ hi ≤ L.length ∧ Below w.heap.size w wr ∧ Hid ((∀ t, t < lo → L.getD t 0 < n) ∧ (∀ t, hi ≤ t → t < L.length → n ≤ L.getD t 0))) (fun s7 s8 _ => (intOf s8).toNat - (intOf s7).toNat)
  case atStart => exact ⟨0, L.length, rfl, rfl, Nat.zero_le _, Nat.le_refl _, Below.refl _ _, Lib.hid ⟨fun t ht => absurd ht (Nat.not_lt_zero _), fun t h1 h2 => by omega⟩⟩
  case round =>
    obtain ⟨lo, hi, rfl, rfl, hlh, hin, bw, HI⟩ := hrel
    by_cases hlt : lo < hi
    · obtain ⟨hyin, b, off, rfl, hB, cm⟩ := (HR.out.carry bw (Nat.le_refl _)) ((lo + hi) / 2) (by omega)
      obtain ⟨y, hy⟩ : ∃ y, y = L.getD ((lo + hi) / 2) 0 := ⟨_, rfl⟩
      rw [← hy] at cm hyin
      have HY := Lib.hid hy
      clear hy hyin
      have c := hless_any y n
      by_cases hyx : y < n
      · rw [decide_eq_true hyx] at c
        have HN : Hid ((∀ t, t < (lo + hi) / 2 + 1 → L.getD t 0 < n) ∧ (∀ t, hi ≤ t → t < L.length → n ≤ L.getD t 0)) := Lib.hid ⟨fun t ht => by
          have hy := HY.out
          by_cases e : t = (lo + hi) / 2
          · rw [e]; omega
          · have := HS.out t ((lo + hi) / 2) (by omega) (by omega)
            omega, HI.out.2⟩
        clear HI HS HR HY hyx
        go_wp2_with fail
        refine (c _).mono ?_
        rintro e w1 ⟨rfl, rfl⟩
        clear c
        go_wp2
        go_roundw
        case rel => exact ⟨(lo + hi) / 2 + 1, hi, by rw [show ((lo : Int) + (hi : Int)) / 2 + 1 = (((lo + hi) / 2 + 1 : Nat) : Int) by omega], rfl, by omega, hin, bw, HN⟩
        case measure => simp [intOf]; omega
      · rw [decide_eq_false hyx] at c
        have HN : Hid ((∀ t, t < lo → L.getD t 0 < n) ∧ (∀ t, (lo + hi) / 2 ≤ t → t < L.length → n ≤ L.getD t 0)) := Lib.hid ⟨HI.out.1, fun t ht htn => by
          have hy := HY.out
          by_cases e : t = (lo + hi) / 2
          · rw [e]; omega
          · have := HS.out ((lo + hi) / 2) t (by omega) htn
            omega⟩
        clear HI HS HR HY hyx
        go_wp2_with fail
        refine (c _).mono ?_
        rintro e w1 ⟨rfl, rfl⟩
        clear c
        go_wp2
        go_roundw
        case rel => exact ⟨lo, (lo + hi) / 2, rfl, by rw [show ((lo : Int) + (hi : Int)) / 2 = (((lo + hi) / 2 : Nat) : Int) by omega], by omega, by omega, bw, HN⟩
        case measure => simp [intOf]; omega
    · obtain rfl : lo = hi := by omega
      have HE : Hid (cntB L n = lo) := Lib.hid (cntB_of hin HI.out.1 HI.out.2)
      have c := fun x => hnan2_any x
      clear HI HS
      by_cases hn : lo < L.length
      · obtain ⟨hyin, b, off, rfl, hB, cm⟩ := (HR.out.carry bw (Nat.le_refl _)) lo hn
        clear HR hyin
        generalize L.getD lo 0 = y at cm
        by_cases hyx : y = n
        · go_wp2_with (refine (c _ _).mono ?_; rintro e w' ⟨rfl, rfl⟩)
          go_ret2
          exact ⟨⟨_, by rw [HE.out]; rfl⟩, bw⟩
        · go_wp2_with (refine (c _ _).mono ?_; rintro e w' ⟨rfl, rfl⟩)
          go_ret2
          exact ⟨⟨_, by rw [HE.out]; rfl⟩, bw⟩
      · clear HR
        go_wp2_with (refine (c _ _).mono ?_; rintro e w' ⟨rfl, rfl⟩)
        go_ret2
        exact ⟨⟨_, by rw [HE.out]; rfl⟩, bw⟩
theorem hbelow_any (a : Option Addr) (cap : Nat) (L : List Int) (v : Value) (n : Int) (w : World) (hl : L.length ≤ 1000000) (hr : IRow w.heap.size w a L) (hs : RiseL L) :
    Calls Try.prog 23 #[.agg #[.slice a L.length cap, v], .int .i64 n] w fun e w' => e = .returned (.int .i64 (cntB L n)) ∧ Below w.heap.size w w' := by
  have b0 := tbel1 w (.cells #[.slice a L.length cap, v] 44)
  have B0 := (blk_new w #[.slice a L.length cap, v] 44).two
  have c := fun x (hx : Below w.heap.size w x) => hsearch_any a cap L n x hl ((hr.carry hx (Nat.le_refl _)).mono hx.size) hs
  clear hr hs
  generalize cntB L n = k at *
  go_enter Try.func23, Try.ntmps23
  go_wp2_with fail
  refine (c _ b0).mono ?_
  rintro e w1 ⟨⟨b, rfl⟩, b1⟩
  clear c
  go_wp2
  go_ret
  exact ⟨rfl, tstep b0 b1 b0.size⟩
theorem hbelowC_any (a : Option Addr) (cap : Nat) (L : List Int) (v : Value) (n : Int) (w : World) (hl : L.length ≤ 1000000) (hr : IRow w.heap.size w a L) (hs : RiseL L) :
    Calls Try.prog 29 #[.agg #[.slice a L.length cap, v], .int .i64 n] w fun e w' => e = .returned (.int .i64 (cntB L n)) ∧ Below w.heap.size w w' := by
  have b0 := tbel1 w (.cells #[.slice a L.length cap, v] 47)
  have B0 := (blk_new w #[.slice a L.length cap, v] 47).two
  have c := fun x (hx : Below w.heap.size w x) => hsearch_any a cap L n x hl ((hr.carry hx (Nat.le_refl _)).mono hx.size) hs
  clear hr hs
  generalize cntB L n = k at *
  go_enter Try.func29, Try.ntmps29
  go_wp2_with fail
  refine (c _ b0).mono ?_
  rintro e w1 ⟨⟨b, rfl⟩, b1⟩
  clear c
  go_wp2
  go_ret
  exact ⟨rfl, tstep b0 b1 b0.size⟩
end Go.Proofs.Ytniipfpfilenmaa
