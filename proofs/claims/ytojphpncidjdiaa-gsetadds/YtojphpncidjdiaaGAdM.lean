/- Plain mathematics for GsetAdds: what boxes and glues add up to. -/
import Derived.Test.YtojphpncidjdiaaGSzA
import Derived.Test.YtojphpncidjdiaaGOf
namespace Go.Proofs.Ytojphpncidjdiaa
open Go.RowKit
set_option linter.unusedVariables false

theorem gupto_sum (whole : Int) (l : List Int) (k : Nat) : (uptoS (shareK whole l) k).sum = cumS whole l k := by
  induction k with
  | zero => rw [cum_zero]; rfl
  | succ k ih => rw [uptoS_succ, List.sum_append, ih]; simp [shareK]; omega
theorem right_of {whole : Int} {l : List Int} (h0 : 0 ≤ whole) (hn : noneNeg l = true) (h1 : 0 < l.sum) (h2 : l.sum ≤ 9223372036854775807) : rightS whole l = true := by
  unfold rightS baseR
  rw [if_neg (by omega), if_pos hn, total_eq hn, fit_pos (by unfold inR; omega)]
  simp [h1]
/-- The sum of a field of the first k. -/
def sumF (f : T6 → Int) (l : List T6) (k : Nat) : Int := ((l.take k).map f).sum
theorem sumF_zero (f : T6 → Int) (l : List T6) : sumF f l 0 = 0 := by simp [sumF]
theorem sumF_succ (f : T6 → Int) (l : List T6) (k : Nat) (hk : k < l.length) : sumF f l (k + 1) = sumF f l k + f (l.getD k zeroT) := by
  unfold sumF
  rw [List.take_succ_eq_append_getElem hk, List.map_append, List.sum_append, List.getD_eq_getElem?_getD, List.getElem?_eq_getElem hk]
  simp
theorem sumF_all (f : T6 → Int) (l : List T6) : sumF f l l.length = (l.map f).sum := by simp [sumF]
/-- All numbers between 0 and 2^40. -/
def smallT (y : T6) : Prop := soundT y = true ∧ y.n ≤ 1099511627776 ∧ y.h ≤ 1099511627776 ∧ y.s0 ≤ 1099511627776 ∧ y.s1 ≤ 1099511627776 ∧ y.s2 ≤ 1099511627776 ∧ y.s3 ≤ 1099511627776
theorem smallT_bd {y : T6} (h : smallT y) : (0 ≤ y.n ∧ y.n ≤ 1099511627776) ∧ (0 ≤ y.s0 ∧ y.s0 ≤ 1099511627776) ∧ (0 ≤ y.s1 ∧ y.s1 ≤ 1099511627776) ∧ (0 ≤ y.s2 ∧ y.s2 ≤ 1099511627776) ∧ (0 ≤ y.s3 ∧ y.s3 ≤ 1099511627776) ∧ (0 ≤ y.h ∧ y.h ≤ 1099511627776) := by
  obtain ⟨hs, h1, h2, h3, h4, h5, h6⟩ := h
  obtain ⟨a, b, c, d, e, f⟩ := soundT_true hs
  have a := fitB_true a
  have b := fitB_true b
  have c := fitB_true c
  have d := fitB_true d
  have e := fitB_true e
  have f := fitB_true f
  omega
theorem sumF_bd {f : T6 → Int} {l : List T6} {k : Nat} (hk : k ≤ l.length) (h : ∀ j, j < k → 0 ≤ f (l.getD j zeroT) ∧ f (l.getD j zeroT) ≤ 1099511627776) : 0 ≤ sumF f l k ∧ sumF f l k ≤ k * 1099511627776 := by
  induction k with
  | zero => rw [sumF_zero]; omega
  | succ k ih =>
    rw [sumF_succ f l k (by omega)]
    have h1 := ih (by omega) fun j hj => h j (by omega)
    have h2 := h k (by omega)
    omega
/-- The total of boxes and of the first k glues. -/
def totK (boxes : Int) (l : List T6) (k : Nat) : T6 := ⟨boxes + sumF T6.n l k, sumF T6.s0 l k, sumF T6.s1 l k, sumF T6.s2 l k, sumF T6.s3 l k, sumF T6.h l k⟩
theorem totK_bd {boxes : Int} {l : List T6} {k : Nat} (hb : 0 ≤ boxes) (hb' : boxes ≤ 1099511627776) (hk : k ≤ l.length) (hl : l.length ≤ 40) (h : ∀ j, j < k → smallT (l.getD j zeroT)) :
    (0 ≤ (totK boxes l k).n ∧ (totK boxes l k).n ≤ 45079976738816) ∧ (0 ≤ (totK boxes l k).s0 ∧ (totK boxes l k).s0 ≤ 45079976738816) ∧ (0 ≤ (totK boxes l k).s1 ∧ (totK boxes l k).s1 ≤ 45079976738816) ∧ (0 ≤ (totK boxes l k).s2 ∧ (totK boxes l k).s2 ≤ 45079976738816) ∧ (0 ≤ (totK boxes l k).s3 ∧ (totK boxes l k).s3 ≤ 45079976738816) ∧ (0 ≤ (totK boxes l k).h ∧ (totK boxes l k).h ≤ 45079976738816) := by
  have p1 := sumF_bd (f := T6.n) hk fun j hj => (smallT_bd (h j hj)).1
  have p2 := sumF_bd (f := T6.s0) hk fun j hj => (smallT_bd (h j hj)).2.1
  have p3 := sumF_bd (f := T6.s1) hk fun j hj => (smallT_bd (h j hj)).2.2.1
  have p4 := sumF_bd (f := T6.s2) hk fun j hj => (smallT_bd (h j hj)).2.2.2.1
  have p5 := sumF_bd (f := T6.s3) hk fun j hj => (smallT_bd (h j hj)).2.2.2.2.1
  have p6 := sumF_bd (f := T6.h) hk fun j hj => (smallT_bd (h j hj)).2.2.2.2.2
  unfold totK
  dsimp only
  omega
theorem totK_sound {boxes : Int} {l : List T6} (hb : 0 ≤ boxes) (hb' : boxes ≤ 1099511627776) (hl : l.length ≤ 40) (h : ∀ j, j < l.length → smallT (l.getD j zeroT)) : soundT (totK boxes l l.length) = true := by
  obtain ⟨p1, p2, p3, p4, p5, p6⟩ := totK_bd hb hb' (Nat.le_refl _) hl h
  unfold soundT
  rw [fitB_yes p2.1 (by omega), fitB_yes p3.1 (by omega), fitB_yes p4.1 (by omega), fitB_yes p5.1 (by omega), fitB_yes p1.1 (by omega), fitB_yes p6.1 (by omega)]
  rfl
theorem upto_add (f g : Nat → Int) (n : Nat) : (uptoS (fun i => f i + g i) n).sum = (uptoS f n).sum + (uptoS g n).sum := by
  induction n with
  | zero => rfl
  | succ n ih => rw [uptoS_succ, uptoS_succ, uptoS_succ, List.sum_append, List.sum_append, List.sum_append, ih]; simp; omega
theorem upto_sub (f g : Nat → Int) (n : Nat) : (uptoS (fun i => f i - g i) n).sum = (uptoS f n).sum - (uptoS g n).sum := by
  induction n with
  | zero => rfl
  | succ n ih => rw [uptoS_succ, uptoS_succ, uptoS_succ, List.sum_append, List.sum_append, List.sum_append, ih]; simp; omega
theorem upto_congr (f g : Nat → Int) (n : Nat) (h : ∀ i, i < n → f i = g i) : uptoS f n = uptoS g n := by
  unfold uptoS
  exact List.map_congr_left fun i hi => h i (by simpa using hi)
theorem upto_share {whole : Int} {L : List Int} (h : rightS whole L = true) : (uptoS (fun i => (shareL whole L).getD i 0) L.length).sum = whole := by
  rw [upto_congr _ (shareK whole L) _ fun i hi => shareL_getD h i hi, gupto_sum, cum_all h _ (Nat.le_refl _)]
theorem upto_fld (p : T6 → Int) (l : List T6) : (uptoS (fldK p l) l.length).sum = sumF p l l.length := by rw [upto_map, sumF_all]
theorem noneNeg_map (p : T6 → Int) (l : List T6) (h : ∀ j, j < l.length → 0 ≤ p (l.getD j zeroT)) : noneNeg (l.map p) = true := by
  unfold noneNeg
  rw [List.all_eq_true]
  intro x hx
  obtain ⟨t, ht, rfl⟩ := List.mem_map.1 hx
  obtain ⟨k, hk, rfl⟩ := List.getElem_of_mem ht
  have := h k hk
  rw [List.getD_eq_getElem?_getD, List.getElem?_eq_getElem hk] at this
  simpa using this
/-- What sizes add up to, way by way. -/
theorem sizes_sum {s : S5} {l : List T6} (ho : okG s l = true) :
    (s.how = 0 → (sizesG s l).sum = sumF T6.n l l.length) ∧ (s.how = 3 → (sizesG s l).sum = sumF T6.n l l.length - sumF T6.h l l.length) ∧
    (s.how = 1 → rightS s.bye (l.map fun t => strT t s.ord) = true → (sizesG s l).sum = sumF T6.n l l.length + s.bye) ∧
    (s.how = 2 → rightS s.bye (l.map fun t => t.h) = true → (sizesG s l).sum = sumF T6.n l l.length - s.bye) := by
  have e : sizesG s l = uptoS (sizeK s l) l.length := by unfold sizesG; rw [ho]; rfl
  rw [e]
  refine ⟨fun h => ?_, fun h => ?_, fun h hr => ?_, fun h hr => ?_⟩
  · rw [upto_congr _ (fldK T6.n l) _ fun i hi => ?_, upto_fld]
    unfold sizeK; rw [if_neg (by omega), if_neg (by omega), if_neg (by omega)]; rfl
  · rw [upto_congr _ (fun i => fldK T6.n l i - fldK T6.h l i) _ fun i hi => ?_, upto_sub, upto_fld, upto_fld]
    unfold sizeK; rw [if_neg (by omega), if_neg (by omega), if_pos h]; rfl
  · have hp : partG s l = l.map fun t => strT t s.ord := by unfold partG; rw [if_pos h]
    have hs := upto_share hr
    rw [List.length_map] at hs
    rw [upto_congr _ (fun i => fldK T6.n l i + (shareL s.bye (l.map fun t => strT t s.ord)).getD i 0) _ fun i hi => ?_, upto_add, upto_fld, hs]
    unfold sizeK; rw [if_pos h, hp]; rfl
  · have hp : partG s l = l.map fun t => t.h := by unfold partG; rw [if_neg (by omega)]
    have hs := upto_share hr
    rw [List.length_map] at hs
    rw [upto_congr _ (fun i => fldK T6.n l i - (shareL s.bye (l.map fun t => t.h)).getD i 0) _ fun i hi => ?_, upto_sub, upto_fld, hs]
    unfold sizeK; rw [if_neg (by omega), if_pos h, hp]; rfl
/-- All that GsetAdds asks of numbers. -/
theorem adds_math (boxes high : Int) (l : List T6) (hb : 0 ≤ boxes) (hb' : boxes ≤ 1099511627776) (hl : l.length ≤ 40) (h : ∀ j, j < l.length → smallT (l.getD j zeroT)) :
    okG (ofG (totK boxes l l.length) high false) l = true ∧
    ((high < -1125899906842624 ∨ 1125899906842624 < high) → ofG (totK boxes l l.length) high false = zeroS) ∧
    (-1125899906842624 ≤ high → high ≤ 1125899906842624 → boxes + (sizesG (ofG (totK boxes l l.length) high false) l).sum + (ofG (totK boxes l l.length) high false).left = high ∧
      ((ofG (totK boxes l l.length) high false).left = 0 ∨ (ofG (totK boxes l l.length) high false).how = 0 ∨ (ofG (totK boxes l l.length) high false).how = 3)) := by
  have hs := totK_sound hb hb' hl h
  obtain ⟨p1, p2, p3, p4, p5, p6⟩ := totK_bd hb hb' (Nat.le_refl _) hl h
  have hall : l.all soundT = true := all_go fun j hj => (h j hj).1
  have en : (totK boxes l l.length).n = boxes + sumF T6.n l l.length := rfl
  have eh : (totK boxes l l.length).h = sumF T6.h l l.length := rfl
  have hstr : ∀ o, strT (totK boxes l l.length) o = ((l.map fun t => strT t o)).sum := fun o => by
    rw [← sumF_all]
    unfold strT totK sumF
    dsimp only
    split
    · rfl
    split
    · rfl
    split
    · rfl
    split
    · rfl
    · symm
      have : ∀ L : List T6, (L.map fun t => (0 : Int)).sum = 0 := fun L => by induction L with
        | nil => rfl
        | cons x L ih => rw [List.map_cons, List.sum_cons, ih]; rfl
      exact this _
  generalize hT : totK boxes l l.length = T at *
  by_cases hi : -1125899906842624 ≤ high ∧ high ≤ 1125899906842624
  · have hr : rightG T high = true := by unfold rightG; rw [hs, decide_eq_true hi.1, decide_eq_true hi.2]; rfl
    have eo : ofG T high false = (if 0 < high - T.n then widenG T (high - T.n) false else if high - T.n < 0 then narrowG T (-(high - T.n)) else zeroS) := by unfold ofG; rw [hr]; rfl
    have ok : ∀ s : S5, 0 ≤ s.bye → s.bye ≤ 1125899906842624 → 0 ≤ s.how → s.how ≤ 3 → okG s l = true := fun s h1 h2 h3 h4 => by
      unfold okG; rw [fitB_yes h1 h2, hall, decide_eq_true h3, decide_eq_true h4]; rfl
    suffices H : okG (ofG T high false) l = true ∧ (boxes + (sizesG (ofG T high false) l).sum + (ofG T high false).left = high ∧ ((ofG T high false).left = 0 ∨ (ofG T high false).how = 0 ∨ (ofG T high false).how = 3)) from
      ⟨H.1, fun h => by omega, fun _ _ => H.2⟩
    rw [eo]
    by_cases g1 : 0 < high - T.n
    · rw [if_pos g1]
      unfold widenG
      by_cases g2 : 0 < ordT T ∨ (0 < T.s0 ∧ false = false)
      · rw [if_pos g2]
        have ho := ok ⟨1, ordT T, high - T.n, strT T (ordT T), 0⟩ (by dsimp only; omega) (by dsimp only; omega) (by dsimp only; omega) (by dsimp only; omega)
        refine ⟨ho, ?_, .inl rfl⟩
        have hpos : 0 < strT T (ordT T) ∧ strT T (ordT T) ≤ 45079976738816 := by
          rcases ordT_cases T with ⟨q1, q2⟩ | ⟨q1, q2⟩ | ⟨q1, q2⟩ | ⟨q1, q2⟩
          · rw [q2]
            rcases g2 with g2 | g2
            · omega
            · exact ⟨g2.1, p2.2⟩
          · rw [q2]
            unfold ordT at q1
            split at q1
            · omega
            split at q1
            · omega
            split at q1
            · omega
            · omega
          · rw [q2]
            unfold ordT at q1
            split at q1
            · omega
            split at q1
            · omega
            split at q1
            · omega
            · omega
          · rw [q2]
            unfold ordT at q1
            split at q1
            · omega
            split at q1
            · omega
            split at q1
            · omega
            · omega
        have hright : rightS (high - T.n) (l.map fun t => strT t (ordT T)) = true := by
          refine right_of (by omega) (noneNeg_map _ l fun j hj => ?_) (by rw [← hstr]; exact hpos.1) (by rw [← hstr]; omega)
          have := smallT_bd (h j hj)
          unfold strT
          split
          · omega
          split
          · omega
          split
          · omega
          split
          · omega
          · omega
        have := (sizes_sum ho).2.2.1 rfl hright
        rw [this]
        dsimp only
        omega
      · rw [if_neg g2]
        have ho := ok ⟨0, 0, 0, 0, high - T.n⟩ (by dsimp only; omega) (by dsimp only; omega) (by dsimp only; omega) (by dsimp only; omega)
        refine ⟨ho, ?_, .inr (.inl rfl)⟩
        rw [(sizes_sum ho).1 rfl]
        dsimp only
        omega
    · rw [if_neg g1]
      by_cases g2 : high - T.n < 0
      · rw [if_pos g2]
        unfold narrowG
        by_cases g3 : -(high - T.n) ≤ T.h
        · rw [if_pos g3]
          have ho := ok ⟨2, 0, -(high - T.n), T.h, 0⟩ (by dsimp only; omega) (by dsimp only; omega) (by dsimp only; omega) (by dsimp only; omega)
          refine ⟨ho, ?_, .inl rfl⟩
          have hright : rightS (-(high - T.n)) (l.map fun t => t.h) = true := by
            have es : (l.map fun t => t.h).sum = T.h := by rw [eh, sumF_all]
            refine right_of (by omega) (noneNeg_map _ l fun j hj => (smallT_bd (h j hj)).2.2.2.2.2.1) (by rw [es]; omega) (by rw [es]; omega)
          rw [(sizes_sum ho).2.2.2 rfl hright]
          dsimp only
          omega
        · rw [if_neg g3]
          have ho := ok ⟨3, 0, T.h, T.h, T.h - -(high - T.n)⟩ (by dsimp only; omega) (by dsimp only; omega) (by dsimp only; omega) (by dsimp only; omega)
          refine ⟨ho, ?_, .inr (.inr rfl)⟩
          rw [(sizes_sum ho).2.1 rfl]
          dsimp only
          omega
      · rw [if_neg g2]
        have ho := ok zeroS (by unfold zeroS; dsimp only; omega) (by unfold zeroS; dsimp only; omega) (by unfold zeroS; dsimp only; omega) (by unfold zeroS; dsimp only; omega)
        refine ⟨ho, ?_, .inl rfl⟩
        rw [(sizes_sum ho).1 rfl]
        unfold zeroS
        dsimp only
        omega
  · have hr : rightG T high = false := by
      unfold rightG
      by_cases h1 : -1125899906842624 ≤ high
      · rw [decide_eq_false (show ¬ high ≤ 1125899906842624 by omega)]; simp
      · rw [decide_eq_false h1]; simp
    have eo : ofG T high false = zeroS := by unfold ofG; rw [hr]; rfl
    rw [eo]
    refine ⟨?_, fun _ => rfl, fun h1 h2 => absurd ⟨h1, h2⟩ hi⟩
    unfold okG zeroS
    dsimp only
    rw [fitB_yes (by omega) (by omega), hall]
    rfl
theorem size_bd {s : S5} {l : List T6} (ho : okG s l = true) (k : Nat) : -1125899906842624 ≤ (sizesG s l).getD k 0 ∧ (sizesG s l).getD k 0 ≤ 2251799813685248 := by
  have e : sizesG s l = uptoS (sizeK s l) l.length := by unfold sizesG; rw [ho]; rfl
  have hb : fitB s.bye = true ∧ l.all soundT = true := by unfold okG at ho; simp at ho; exact ⟨ho.1.1.1, by simpa using ho.1.1.2⟩
  rw [e]
  by_cases hk : k < l.length
  · rw [uptoS_getD _ _ _ hk]; exact sizeK_in s l hb.1 hb.2 k hk
  · rw [List.getD_eq_getElem?_getD, List.getElem?_eq_none (by rw [uptoS_length]; omega)]; simp
theorem sum_bd {L : List Int} (h : ∀ k, -1125899906842624 ≤ L.getD k 0 ∧ L.getD k 0 ≤ 2251799813685248) (k : Nat) (hk : k ≤ L.length) (hk' : k ≤ 40) : -(k : Int) * 1125899906842624 ≤ (L.take k).sum ∧ (L.take k).sum ≤ (k : Int) * 2251799813685248 := by
  induction k with
  | zero => simp
  | succ k ih =>
    rw [sum_snoc L k (by omega)]
    have h1 := ih (by omega) (by omega)
    have h2 := h k
    omega
end Go.Proofs.Ytojphpncidjdiaa
