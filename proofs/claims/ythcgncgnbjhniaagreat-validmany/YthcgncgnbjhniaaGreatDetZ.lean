/- A law for a statement that draws its order and whose operations only make new blocks or read: where each operation leaves a fact of its value that stands in all later worlds, whatever order they come up in. (A tail of operations in forced order may follow.) Nothing of a program is in it. -/
import Derived.Test.YthcgncgnbjhniaaGreatDetU
namespace Go.Proofs.YthcgncgnbjhniaaGreat
open Go.RowKit

theorem countZ_set {l : Array Bool} {i : Nat} (hs : i < l.size) (hu : l.getD i false = false) : ∀ n, i < n → (List.range n).countP (fun k => !l.getD k false) = (List.range n).countP (fun k => !(l.setIfInBounds i true).getD k false) + 1
  | 0, h => by omega
  | n + 1, h => by
    rw [List.range_succ, List.countP_append, List.countP_append]
    by_cases e : i = n
    · subst e
      have e1 : (List.range i).countP (fun k => !(l.setIfInBounds i true).getD k false) = (List.range i).countP (fun k => !l.getD k false) := List.countP_congr fun k hk => by
        have := List.mem_range.1 hk
        rw [getD_set_ne false (by omega)]
      have e2 : (l.setIfInBounds i true).getD i false = true := by simp [hs]
      rw [e1, List.countP_singleton, List.countP_singleton, hu, e2]
      simp
    · rw [countZ_set hs hu n (by omega), List.countP_singleton, List.countP_singleton, getD_set_ne false e]
      omega
theorem countZ_pos : ∀ {n : Nat} {l : Array Bool} {f : Nat}, (List.range n).countP (fun k => !l.getD k false) = f + 1 → ∃ i, i < n ∧ l.getD i false = false ∧ ∀ j, j < i → l.getD j false = true
  | 0, l, f, h => by simp at h
  | n + 1, l, f, h => by
    rw [List.range_succ, List.countP_append, List.countP_singleton] at h
    rcases Nat.eq_zero_or_pos ((List.range n).countP (fun k => !l.getD k false)) with h0 | h0
    · rw [h0] at h
      have hn : l.getD n false = false := by
        cases e : l.getD n false
        · rfl
        · rw [e] at h; simp at h
      refine ⟨n, by omega, hn, fun j hj => ?_⟩
      have := List.countP_eq_zero.1 h0 j (List.mem_range.2 hj)
      simpa using this
    · obtain ⟨m, hm⟩ : ∃ m, (List.range n).countP (fun k => !l.getD k false) = m + 1 := ⟨_, (Nat.succ_pred_eq_of_pos h0).symm⟩
      obtain ⟨i, hi, h1, h2⟩ := countZ_pos hm
      exact ⟨i, by omega, h1, h2⟩
theorem countZ_zero {n : Nat} {l : Array Bool} (h : (List.range n).countP (fun k => !l.getD k false) = 0) : ∀ j, j < n → l.getD j false = true := fun j hj => by
  have := List.countP_eq_zero.1 h j (List.mem_range.2 hj)
  simpa using this
/-- The values v put into the slots D. -/
def putAll (D : Nat → Nat) (v : Nat → Value) : Nat → Act → Act
  | 0, a => a
  | k + 1, a => (putAll D v k a).put (some (D k)) (v k)
theorem getD_put (a : Act) (d e : Nat) (v : Value) (h : d < a.tmps.size) : (a.put (some d) v).tmps.getD e undef = if d = e then v else a.tmps.getD e undef := by
  by_cases he : d = e
  · subst he
    rw [if_pos rfl, Array.getD_eq_getD_getElem?, put_at a d v h]
    rfl
  · rw [if_neg he, Array.getD_eq_getD_getElem?, put_other a (some d) v e (fun h => he (Option.some.inj h)), Array.getD_eq_getD_getElem?]
theorem putAll_size (D : Nat → Nat) (v : Nat → Value) (a : Act) : ∀ k, (putAll D v k a).tmps.size = a.tmps.size ∧ (putAll D v k a).defers = a.defers
  | 0 => ⟨rfl, rfl⟩
  | k + 1 => by
    obtain ⟨h1, h2⟩ := putAll_size D v a k
    refine ⟨?_, ?_⟩
    · show ((putAll D v k a).put (some (D k)) (v k)).tmps.size = _
      rw [put_size, h1]
    · exact h2
theorem putAll_out {D : Nat → Nat} {v : Nat → Value} {a : Act} {d : Nat} : ∀ {k}, (∀ j, j < k → D j < a.tmps.size) → (∀ j, j < k → D j ≠ d) → (putAll D v k a).tmps.getD d undef = a.tmps.getD d undef
  | 0, _, _ => rfl
  | k + 1, hs, h => by
    show ((putAll D v k a).put (some (D k)) (v k)).tmps.getD d undef = _
    rw [getD_put _ _ _ _ (by rw [(putAll_size D v a k).1]; exact hs k (by omega)), if_neg (h k (by omega))]
    exact putAll_out (fun j hj => hs j (by omega)) (fun j hj => h j (by omega))
theorem putAll_at {D : Nat → Nat} {v : Nat → Value} {a : Act} {i : Nat} : ∀ {k}, (∀ j, j < k → D j < a.tmps.size) → (∀ i j, i < k → j < k → D i = D j → i = j) → i < k → (putAll D v k a).tmps.getD (D i) undef = v i
  | 0, _, _, h => by omega
  | k + 1, hs, hD, hi => by
    show ((putAll D v k a).put (some (D k)) (v k)).tmps.getD (D i) undef = _
    rw [getD_put _ _ _ _ (by rw [(putAll_size D v a k).1]; exact hs k (by omega))]
    by_cases e : i = k
    · subst e; rw [if_pos rfl]
    · rw [if_neg fun h => e (hD k i (by omega) hi h).symm]
      exact putAll_at (fun j hj => hs j (by omega)) (fun i j h1 h2 => hD i j (by omega) (by omega)) (by omega)
section
variable {P : Program} {ops : Array Oper} {md : Region.Mode} {Q : Exit → Act → World → Prop} {n : Nat} {D : Nat → Nat} {F : Nat → Value → World → Prop} {a0 : Act} {W : World}
/-- What stands while the first n operations come up, each leaving its fact. -/
structure FactsZ (md : Region.Mode) (ops : Array Oper) (n : Nat) (D : Nat → Nat) (F : Nat → Value → World → Prop) (a0 : Act) (W : World) (listed : Array Bool) (a : Act) (w : World) : Prop where
  inv : HeadInv md ops n listed
  old : Old W w
  size : a.tmps.size = a0.tmps.size
  defers : a.defers = a0.defers
  out : ∀ d, (∀ j, j < n → D j ≠ d) → a.tmps.getD d undef = a0.tmps.getD d undef
  facts : ∀ j, j < n → listed.getD j false = true → F j (a.tmps.getD (D j) undef) w
/-- One operation: its value's fact, whatever world it meets where the facts of those that it waits for stand. -/
def StepZ (P : Program) (md : Region.Mode) (ops : Array Oper) (n : Nat) (D : Nat → Nat) (F : Nat → Value → World → Prop) (a0 : Act) (W : World) (i : Nat) : Prop :=
  ∃ o, ops[i]? = some o ∧ o.dst = some (D i) ∧ ∀ (b : Act) (x : World), Old W x → (∀ d, (∀ j, j < n → D j ≠ d) → b.tmps.getD d undef = a0.tmps.getD d undef) →
    (∀ j, (∃ e ∈ o.after, Region.binds md e = true ∧ e.on = j) → F j (b.tmps.getD (D j) undef) x) → Region.wanted o (yielded ops b.tmps) = true ∧ ∃ v y, (execOp b.eval o).run P x = .ok (.value v) y ∧ Old x y ∧ F i v y
theorem FactsZ.any {g : Nat} (hs : Region.sinkB md ops n = true) (hc : Region.chainB md ops n = true) (hn : n < ops.size) (hst : ∀ i v x y, F i v x → Old x y → F i v y) (hsz : ∀ j, j < n → D j < a0.tmps.size)
    (hD : ∀ i j, i < n → j < n → D i = D j → i = j) (hback : ∀ i o, i < n → ops[i]? = some o → ∀ e ∈ o.after, Region.binds md e = true → e.on < i) (step : ∀ i, i < n → StepZ P md ops n D F a0 W i)
    (done : ∀ listed b x, FactsZ md ops n D F a0 W listed b x → (∀ j, j < n → listed.getD j false = true) → wpAny P md ops Q g listed b x) :
    ∀ (f : Nat) (listed : Array Bool) (a : Act) (w : World), (List.range n).countP (fun k => !listed.getD k false) = f → FactsZ md ops n D F a0 W listed a w → wpAny P md ops Q (f + g) listed a w
  | 0, listed, a, w, hf, h => by rw [Nat.zero_add]; exact done _ _ _ h (countZ_zero hf)
  | f + 1, listed, a, w, hf, h => by
    rw [Nat.add_right_comm]
    obtain ⟨m, hm, hun, hle⟩ := countZ_pos hf
    have hun' : listed.getD m true = false := getD_in (by rw [h.inv.size]; omega) hun
    obtain ⟨om, hom, _⟩ := step m hm
    refine ⟨fun h0 => ?_, fun i hi => ?_⟩
    · have : m ∈ Region.ready md ops listed := mem_ready.2 ⟨hun', om, hom, fun e he hb => hle _ (hback m om hm hom e he hb)⟩
      rw [h0] at this
      cases this
    · obtain ⟨hiu, oi, hoi, hall⟩ := mem_ready.1 hi
      have hin : i < n := Nat.lt_of_not_le fun h' => tail_waits hs hc hn h.inv _ m rfl hm hun' i h' hi
      obtain ⟨o, ho, hd, hstep⟩ := step i hin
      obtain rfl : oi = o := Option.some.inj (hoi.symm.trans ho)
      obtain ⟨hw, v, y, hrun, hy, hF⟩ := hstep a w h.old h.out fun j ⟨e, he, hb, hj⟩ => by
        subst hj
        exact h.facts _ (Nat.lt_trans (hback i oi hin hoi e he hb) hin) (hall e he hb)
      unfold wpOp
      simp only [hoi]
      rw [if_pos hw]
      refine .inl ?_
      unfold Oper.wp
      rw [hrun]
      show wpAny P md ops Q (f + g) _ (a.put oi.dst v) y
      rw [hd]
      have hda : D i < a.tmps.size := by rw [h.size]; exact hsz i hin
      have his : i < listed.size := by rw [h.inv.size]; omega
      refine FactsZ.any hs hc hn hst hsz hD hback step done f (listed.setIfInBounds i true) (a.put (some (D i)) v) y ?_ ⟨h.inv.set hi hin, Below.trans h.old (Below.mono hy h.old.size), by rw [put_size, h.size], h.defers, fun d hd' => ?_, fun j hj hl => ?_⟩
      · have := countZ_set (l := listed) (i := i) his (getD_both hiu) n hin
        omega
      · rw [getD_put _ _ _ _ hda, if_neg (hd' i hin)]
        exact h.out d hd'
      · rw [getD_put _ _ _ _ hda]
        by_cases e : i = j
        · subst e; rw [if_pos rfl]; exact hF
        · rw [if_neg fun h' => e (hD i j hin hj h')]
          rw [getD_set_ne false e] at hl
          exact hst _ _ _ _ (h.facts j hj hl) hy
end
/-- A check of the slots and the edges. -/
def factsB (md : Region.Mode) (ops : Array Oper) (n : Nat) (D : Nat → Nat) (sz : Nat) : Bool :=
  (List.range n).all fun i => decide (D i < sz) && ((List.range n).all fun j => decide (D i = D j → i = j)) && ((ops[i]?).map fun o => o.after.all fun e => !Region.binds md e || decide (e.on < i)).getD true
theorem factsB_spec {md : Region.Mode} {ops : Array Oper} {n : Nat} {D : Nat → Nat} {sz : Nat} (h : factsB md ops n D sz = true) :
    (∀ j, j < n → D j < sz) ∧ (∀ i j, i < n → j < n → D i = D j → i = j) ∧ ∀ i o, i < n → ops[i]? = some o → ∀ e ∈ o.after, Region.binds md e = true → e.on < i := by
  have H := fun i (hi : i < n) => List.all_eq_true.1 h i (List.mem_range.2 hi)
  simp only [Bool.and_eq_true, decide_eq_true_eq] at H
  refine ⟨fun j hj => (H j hj).1.1, fun i j hi hj => ?_, fun i o hi ho e he hb => ?_⟩
  · have := List.all_eq_true.1 (H i hi).1.2 j (List.mem_range.2 hj)
    exact of_decide_eq_true this
  · have h1 := (H i hi).2
    rw [ho] at h1
    simp only [Option.map_some, Option.getD_some] at h1
    have h2 := Array.all_eq_true_iff_forall_mem.1 h1 e he
    simp only [hb, Bool.not_true, Bool.false_or, decide_eq_true_eq] at h2
    exact h2
/-- All of the first n listed, none behind. -/
def headAll (n m : Nat) : Array Bool := Array.replicate n true ++ Array.replicate m false
theorem headAll_of {md : Region.Mode} {ops : Array Oper} {n : Nat} {listed : Array Bool} (hn : n ≤ ops.size) (inv : HeadInv md ops n listed) (h : ∀ j, j < n → listed.getD j false = true) : listed = headAll n (ops.size - n) := by
  apply Array.ext
  · unfold headAll
    simp [inv.size]
    omega
  · intro i h1 h2
    have hs : i < ops.size := by rw [← inv.size]; exact h1
    have e : listed[i] = listed.getD i true := by simp [h1]
    have e' : listed[i] = listed.getD i false := by simp [h1]
    rcases Nat.lt_or_ge i n with hi | hi
    · rw [e', h i hi]
      simp [headAll, hi]
    · rw [e, inv.tail i hi hs]
      simp [headAll, Array.getElem_append, Nat.not_lt.2 hi]
theorem act_ext {a b : Act} (h1 : a.tmps.size = b.tmps.size) (h2 : a.defers = b.defers) (h : ∀ d, d < a.tmps.size → a.tmps.getD d undef = b.tmps.getD d undef) : a = b := by
  obtain ⟨t, e⟩ := a
  obtain ⟨t', e'⟩ := b
  dsimp only at *
  subst h2
  congr 1
  apply Array.ext h1
  intro i hi hi'
  have := h i hi
  simpa [hi, hi'] using this
theorem wp_region_facts {P : Program} {id : Nat} {a : Act} {w : World} {l : List Oper} {Q : Exit → Act → World → Prop} (n : Nat) (D : Nat → Nat) (F : Nat → Value → World → Prop) (hm : P.follows .mixedOrders = true) (hn : n < l.length)
    (hB : (Region.sinkB .any l.toArray n && Region.chainB .any l.toArray n && factsB .any l.toArray n D a.tmps.size && Region.seqB .any l.toArray (l.toArray.size - n) n (headAll n (l.toArray.size - n))) = true)
    (hst : ∀ i v x y, F i v x → Old x y → F i v y) (step : ∀ i, i < n → StepZ P .any l.toArray n D F a w i)
    (h : ∀ (v : Nat → Value) x, Old w x → (∀ j, j < n → F j (v j) x) → wpList P l.toArray Q (l.drop n) (putAll D v n a) x) : (Code.region id l.toArray true).wp P Q a w := by
  simp only [Bool.and_eq_true] at hB
  obtain ⟨⟨⟨hs, hc⟩, hf⟩, hq⟩ := hB
  obtain ⟨hsz, hD, hback⟩ := factsB_spec hf
  have hn' : n < l.toArray.size := by simpa using hn
  have inv0 : HeadInv .any l.toArray n (Array.replicate l.toArray.size false) :=
    ⟨by simp, fun j oj _ hj => (by rw [getD_replicate_false] at hj; cases hj), fun t _ ht => getD_in (by simpa using ht) (getD_replicate_false _ _)⟩
  refine wp_region_any hm ?_
  have hg : (l.drop n).length = l.toArray.size - n := by simp
  have R := FactsZ.any (P := P) (Q := Q) (F := F) (W := w) (a0 := a) (g := l.toArray.size - n) hs hc hn' hst hsz hD hback step (fun listed b x H hl => by
    have el := headAll_of (Nat.le_of_lt hn') H.inv hl
    subst el
    have eb : b = putAll D (fun j => b.tmps.getD (D j) undef) n a := by
      have hp := putAll_size D (fun j => b.tmps.getD (D j) undef) a n
      refine act_ext (by rw [hp.1, H.size]) (by rw [hp.2, H.defers]) fun d hd => ?_
      by_cases hx : ∃ j, j < n ∧ D j = d
      · obtain ⟨j, hj, rfl⟩ := hx
        rw [putAll_at hsz hD hj]
      · have hx' : ∀ j, j < n → D j ≠ d := fun j hj he => hx ⟨j, hj, he⟩
        rw [putAll_out hsz hx', H.out d hx']
    have hk := h (fun j => b.tmps.getD (D j) undef) x H.old fun j hj => H.facts j hj (hl j hj)
    rw [← eb] at hk
    have := wpAny_of_seq (md := .any) (Q' := Q) (l.drop n) n (headAll n (l.toArray.size - n)) b x (fun j => by simp [List.getElem?_drop]) (by rw [hg]; exact hq) hk
    rwa [hg] at this) n (Array.replicate l.toArray.size false) a { w with drawn := w.drawn + 1 } (by
      have : (List.range n).countP (fun k => !(Array.replicate l.toArray.size false).getD k false) = (List.range n).length := List.countP_eq_length.2 fun k hk => by rw [getD_replicate_false]; rfl
      rw [this, List.length_range]) ⟨inv0, (Below.refl _ w).drew, rfl, rfl, fun d _ => rfl, fun j hj hl => by rw [getD_replicate_false] at hl; cases hl⟩
  rw [show n + (l.toArray.size - n) = l.toArray.size by omega] at R
  exact R
end Go.Proofs.YthcgncgnbjhniaaGreat
