/- The law of Det, with new variables made among the calls: 'x, y := f(), g()' where x and y lie in memory. The operations up to m leave the same value in whatever world that holds what stood at the start; those from m to n each make one block, whenever they come up; the rest follows in forced order. -/
import Derived.Test.YtdddhflppngloaaDet
namespace Go.Proofs.Ytdddhflppngloaa
open Go.RowKit
set_option maxRecDepth 20000

/-- In whatever world that holds what stood in W, the operation leaves v, and touches nothing that stands. -/
def Keeps (P : Program) (ops : Array Oper) (W : World) (o : Oper) (v : Value) (a : Act) : Prop :=
  (Region.wanted o (yielded ops a.tmps) = true ∧ ∀ w, Old W w → Gives P (fun x => Below w.heap.size w x) v ((execOp a.eval o).run P w)) ∨ (Region.wanted o (yielded ops a.tmps) = false ∧ v = undef)
/-- Where a block lies. -/
abbrev ptr (g : Nat) : Value := .pointer (some ⟨g, 0, none⟩)
/-- Operation i makes the block Z and leaves where it lies. -/
def Makes (P : Program) (ops : Array Oper) (i : Nat) (Z : Obj) : Prop :=
  ∃ o d, ops[i]? = some o ∧ o.dst = some d ∧ (∀ y, Region.wanted o y = true) ∧ ∀ (a : Act) w, (execOp a.eval o).run P w = .ok (.value (ptr w.heap.size)) (w.alloc Z)
/-- What the operations from m on that have come up have made. -/
def Made (ops : Array Oper) (Z : Nat → Obj) (B m : Nat) (listed : Array Bool) (a : Act) (x : World) : Prop :=
  ∃ G : Nat → Nat, (∀ i, m ≤ i → listed.getD i false = true → B ≤ G i ∧ x.heap[G i]? = some (Z i) ∧ ∃ o d, ops[i]? = some o ∧ o.dst = some d ∧ a.tmps[d]? = some (ptr (G i))) ∧
    ∀ i j, m ≤ i → m ≤ j → listed.getD i false = true → listed.getD j false = true → i ≠ j → G i ≠ G j
section
variable {P : Program} {ops : Array Oper} {md : Region.Mode} {W : World} {Q : Exit → Act → World → Prop} {Z : Nat → Obj} {m n : Nat} {L : Array Bool → Act → Prop}

theorem Keeps.same {o : Oper} {v : Value} {a b : Act} (h : Keeps P ops W o v a) (he : execOp b.eval o = execOp a.eval o) (hw : Region.wanted o (yielded ops b.tmps) = Region.wanted o (yielded ops a.tmps)) : Keeps P ops W o v b := by
  unfold Keeps
  rw [he, hw]
  exact h
theorem Keeps.step {o : Oper} {v : Value} {a : Act} {i : Nat} {w : World} {K : Act → World → Prop} (hi : ops[i]? = some o) (h : Keeps P ops W o v a) (hS : Old W w) (hK : ∀ x, Below w.heap.size w x → K (a.put o.dst v) x) : wpOp P ops Q i K a w := by
  unfold wpOp
  simp only [hi]
  rcases h with ⟨hw, hg⟩ | ⟨hw, rfl⟩
  · rw [if_pos hw]
    refine .inl ?_
    have g := hg w hS
    unfold Oper.wp
    rcases g with ⟨x, hr, hx⟩ | ⟨x, hr, rfl, hx⟩ | ⟨f, args, x, hr, hx⟩ <;> rw [hr]
    · exact hK x hx
    · exact hK x hx
    · exact Calls.mono hx fun e y hy => by obtain ⟨rfl, hy⟩ := hy; exact hK y hy
  · rw [if_neg (by rw [hw]; exact Bool.false_ne_true)]
    exact hK w (Below.refl _ _)
/-- Whatever order the first n operations come up in. -/
def EveryW (P : Program) (md : Region.Mode) (ops : Array Oper) (W : World) (m n : Nat) (L : Array Bool → Act → Prop) : Nat → Array Bool → Act → Prop
  | 0, listed, a => L listed a
  | f + 1, listed, a => Region.ready md ops listed ≠ [] ∧ ∀ i ∈ Region.ready md ops listed, i < n ∧ ∃ o, ops[i]? = some o ∧
      ((m ≤ i ∧ ∀ g, EveryW P md ops W m n L f (listed.setIfInBounds i true) (a.put o.dst (ptr g))) ∨ (i < m ∧ ∃ v, Keeps P ops W o v a ∧ EveryW P md ops W m n L f (listed.setIfInBounds i true) (a.put o.dst v)))
/-- No two of the first n operations leave their values in one slot. -/
def apartB (ops : Array Oper) (n : Nat) : Bool := (List.range n).all fun i => (List.range n).all fun j => decide (i = j) || decide ((ops[i]?).bind (·.dst) = none) || decide ((ops[i]?).bind (·.dst) ≠ (ops[j]?).bind (·.dst))
theorem apartB_spec (h : apartB ops n = true) {i j : Nat} {o p : Oper} {d : Tmp} (hi : i < n) (hj : j < n) (ho : ops[i]? = some o) (hp : ops[j]? = some p) (hd : o.dst = some d) (hij : i ≠ j) : p.dst ≠ some d := by
  have h1 := List.all_eq_true.1 (List.all_eq_true.1 h i (List.mem_range.2 hi)) j (List.mem_range.2 hj)
  simp only [ho, hp, Option.bind_some, hd, Bool.or_eq_true, decide_eq_true_eq] at h1
  rcases h1 with (h1 | h1) | h1
  · exact absurd h1 hij
  · cases h1
  · exact Ne.symm h1
theorem getD_true {listed : Array Bool} {j : Nat} (h : listed.getD j false = true) : listed.getD j true = true := by
  rcases Nat.lt_or_ge j listed.size with h' | h'
  · simp [h'] at h ⊢; exact h
  · simp [Array.getElem?_eq_none h'] at h
theorem put_other (a : Act) (d : Option Tmp) (v : Value) (k : Nat) (h : d ≠ some k) : (a.put d v).tmps[k]? = a.tmps[k]? := by
  cases d with
  | none => rfl
  | some e =>
    have : e ≠ k := fun hk => h (by rw [hk])
    simp only [Act.put]
    rw [Array.getElem?_setIfInBounds_ne this]
theorem put_size (a : Act) (d : Option Tmp) (v : Value) : (a.put d v).tmps.size = a.tmps.size := by
  cases d with
  | none => rfl
  | some e => simp [Act.put]
theorem put_at (a : Act) (d : Nat) (v : Value) (h : d < a.tmps.size) : (a.put (some d) v).tmps[d]? = some v := by
  simp [Act.put, h]
/-- What has been made stays, whatever else comes up. -/
theorem Made.keep {B i : Nat} {listed : Array Bool} {a : Act} {w x : World} {o : Oper} {v : Value} (h : Made ops Z B m listed a w) (hap : apartB ops n = true) (hl : ∀ k, m ≤ k → listed.getD k false = true → k < n) (hi : i < m) (hin : i < n) (ho : ops[i]? = some o) (hb : Below w.heap.size w x) :
    Made ops Z B m (listed.setIfInBounds i true) (a.put o.dst v) x := by
  obtain ⟨G, h1, h2⟩ := h
  have hs : ∀ k, m ≤ k → (listed.setIfInBounds i true).getD k false = true → listed.getD k false = true := fun k hk h => by
    rw [getD_set_ne false (by omega)] at h; exact h
  refine ⟨G, fun k hk hkl => ?_, fun k j hk hj hkl hjl => h2 k j hk hj (hs k hk hkl) (hs j hj hjl)⟩
  obtain ⟨hB, hz, p, d, hp, hd, ht⟩ := h1 k hk (hs k hk hkl)
  have hlt : G k < w.heap.size := (Array.getElem?_eq_some_iff.1 hz).1
  refine ⟨hB, (hb.block _ hlt).trans hz, p, d, hp, hd, ?_⟩
  rw [put_other _ _ _ _ (apartB_spec hap (hl k hk (hs k hk hkl)) hin hp ho hd (by omega))]
  exact ht
theorem Made.more {B i : Nat} {listed : Array Bool} {a : Act} {w : World} {o : Oper} {d : Nat} (h : Made ops Z B m listed a w) (hap : apartB ops n = true) (hl : ∀ k, m ≤ k → listed.getD k false = true → k < n) (hin : i < n) (ho : ops[i]? = some o) (hd : o.dst = some d) (hda : d < a.tmps.size) (hB : B ≤ w.heap.size) :
    Made ops Z B m (listed.setIfInBounds i true) (a.put o.dst (ptr w.heap.size)) (w.alloc (Z i)) := by
  obtain ⟨G, h1, h2⟩ := h
  have hs : ∀ k, k ≠ i → (listed.setIfInBounds i true).getD k false = true → listed.getD k false = true := fun k hk h => by
    rw [getD_set_ne false (Ne.symm hk)] at h; exact h
  obtain ⟨G', hi, hne⟩ : ∃ G' : Nat → Nat, G' i = w.heap.size ∧ ∀ k, k ≠ i → G' k = G k := ⟨fun k => if k = i then w.heap.size else G k, if_pos rfl, fun k h => if_neg h⟩
  refine ⟨G', fun k hk hkl => ?_, fun k j hk hj hkl hjl hkj => ?_⟩
  · by_cases hki : k = i
    · subst hki
      rw [hi]
      refine ⟨hB, by unfold World.alloc; exact Array.getElem?_push_size, o, d, ho, hd, ?_⟩
      rw [hd]
      exact put_at a d _ hda
    · rw [hne k hki]
      obtain ⟨hb, hz, p, e, hp, he, ht⟩ := h1 k hk (hs k hki hkl)
      have hlt : G k < w.heap.size := (Array.getElem?_eq_some_iff.1 hz).1
      refine ⟨hb, (Below.heap_alloc _ _ _ hlt).trans hz, p, e, hp, he, ?_⟩
      rw [put_other _ _ _ _ (apartB_spec hap (hl k hk (hs k hki hkl)) hin hp ho he hki)]
      exact ht
  · have lt : ∀ k, m ≤ k → k ≠ i → (listed.setIfInBounds i true).getD k false = true → G k < w.heap.size := fun k hk hki hkl => by
      obtain ⟨_, hz, _⟩ := h1 k hk (hs k hki hkl)
      exact (Array.getElem?_eq_some_iff.1 hz).1
    by_cases hki : k = i
    · subst hki
      have := lt j hj (Ne.symm hkj) hjl
      rw [hi, hne j (Ne.symm hkj)]
      omega
    · by_cases hji : j = i
      · subst hji
        have := lt k hk hki hkl
        rw [hi, hne k hki]
        omega
      · rw [hne k hki, hne j hji]
        exact h2 k j hk hj (hs k hki hkl) (hs j hji hjl) hkj
theorem EveryW.any {g : Nat} (hap : apartB ops n = true) (hZ : ∀ i, m ≤ i → i < n → Makes P ops i (Z i))
    (hL : ∀ listed a, L listed a → ∀ w, Old W w → Made ops Z W.heap.size m listed a w → wpAny P md ops Q g listed a w) :
    ∀ (f : Nat) (listed : Array Bool) (a : Act) (w : World), Old W w → Made ops Z W.heap.size m listed a w → (∀ k, m ≤ k → listed.getD k false = true → k < n) → (∀ i o d, i < n → ops[i]? = some o → o.dst = some d → d < a.tmps.size) →
      EveryW P md ops W m n L f listed a → wpAny P md ops Q (f + g) listed a w
  | 0, listed, a, w, hS, hM, _, _, h => by rw [Nat.zero_add]; exact hL _ _ h w hS hM
  | f + 1, listed, a, w, hS, hM, hl, hsz, h => by
    rw [Nat.add_right_comm]
    refine ⟨fun h0 => absurd h0 h.1, fun i hi => ?_⟩
    obtain ⟨hin, o, ho, hd⟩ := h.2 i hi
    have hl' : ∀ k, m ≤ k → (listed.setIfInBounds i true).getD k false = true → k < n := fun k hk hkl => by
      by_cases hki : k = i
      · omega
      · rw [getD_set_ne false (Ne.symm hki)] at hkl; exact hl k hk hkl
    have hsz' : ∀ v, ∀ j p d, j < n → ops[j]? = some p → p.dst = some d → d < (a.put o.dst v).tmps.size := fun v j p d hj hp hd => by
      rw [put_size]; exact hsz j p d hj hp hd
    rcases hd with ⟨him, hg⟩ | ⟨him, v, hk, hn⟩
    · obtain ⟨o', d, ho', hd, hw, hr⟩ := hZ i him hin
      obtain rfl : o' = o := Option.some.inj (ho'.symm.trans ho)
      unfold wpOp
      simp only [ho]
      rw [if_pos (hw _)]
      refine .inl ?_
      unfold Oper.wp
      rw [hr]
      exact EveryW.any hap hZ hL f _ _ _ (hS.alloc hS.size _) (hM.more hap hl hin ho hd (hsz i o' d hin ho hd) hS.size) hl' (hsz' _) (hg _)
    · exact hk.step ho hS fun x hx => EveryW.any hap hZ hL f _ _ x (hS.trans (hx.mono hS.size)) (hM.keep hap hl him hin ho hx) hl' (hsz' _) hn
/-- One that may come up now may as well come up first: one that makes nothing. -/
theorem EveryW.first {i : Nat} {oi : Oper} {v : Value} (hi : ops[i]? = some oi) (hsel : ∀ (j : Nat) (o : Oper) cs b, ops[j]? = some o → o.op ≠ .select cs b)
    (hs : Region.sinkB md ops n = true) (hc : Region.chainB md ops n = true) (hn : n < ops.size) (hin : i < n) (him : i < m) (hL : ∀ listed a, L listed a → ∀ j ∈ Region.ready md ops listed, n ≤ j) :
    ∀ (f : Nat) (listed : Array Bool) (a : Act), HeadInv md ops n listed →
      (∀ j oj, ops[j]? = some oj → j ≠ i → listed.getD j true = false → (∀ e ∈ oj.after, Region.binds md e = true → e.on ≠ i) → oi.apart ops oj = true) →
      i ∈ Region.ready md ops listed → Keeps P ops W oi v a → EveryW P md ops W m n L f (listed.setIfInBounds i true) (a.put oi.dst v) → EveryW P md ops W m n L (f + 1) listed a := by
  intro f
  induction f with
  | zero =>
    intro listed a inv _ hr hd H
    refine ⟨List.ne_nil_of_mem hr, fun j hj => ?_⟩
    have hjn : j < n := Nat.lt_of_not_le fun h => tail_waits hs hc hn inv _ i rfl hin (mem_ready.1 hr).1 j h hj
    by_cases hji : j = i
    · subst hji; exact ⟨hjn, oi, hi, .inr ⟨him, v, hd, H⟩⟩
    · exact absurd (hL _ _ H j (ready_mono hj hji)) (Nat.not_le.2 hjn)
  | succ f ih =>
    intro listed a inv hfree hr hd H
    refine ⟨List.ne_nil_of_mem hr, fun j hj => ?_⟩
    have hun := (mem_ready.1 hr).1
    have hjn : j < n := Nat.lt_of_not_le fun h => tail_waits hs hc hn inv _ i rfl hin hun j h hj
    by_cases hji : j = i
    · subst hji; exact ⟨hjn, oi, hi, .inr ⟨him, v, hd, H⟩⟩
    · obtain ⟨_, oj, hoj, hdj⟩ := H.2 j (ready_mono hj hji)
      obtain ⟨hjun, oj', hoj', hall⟩ := mem_ready.1 hj
      obtain rfl : oj' = oj := Option.some.inj (hoj'.symm.trans hoj)
      have hap := hfree j oj' hoj hji hjun fun e he hb heq => by
        have h1 := hall e he hb
        rw [heq, getD_both hun] at h1
        cases h1
      obtain ⟨h1, h2, h3⟩ := Oper.apart_spec hap
      have next : ∀ u, EveryW P md ops W m n L f ((listed.setIfInBounds i true).setIfInBounds j true) ((a.put oi.dst v).put oj'.dst u) → EveryW P md ops W m n L (f + 1) (listed.setIfInBounds j true) (a.put oj'.dst u) := fun u hrest => by
        refine ih (listed.setIfInBounds j true) (a.put oj'.dst u) (inv.set hj hjn) ?_ (ready_mono hr (Ne.symm hji)) (hd.same (execOp_put oi (fun cs b => hsel i oi cs b hi) a oj'.dst u h3) (wanted_put oi a oj'.dst u h3)) ?_
        · intro k ok hk hki hl hno
          refine hfree k ok hk hki ?_ hno
          by_cases hjk : j = k
          · subst hjk; exact hjun
          · rw [getD_set_ne true hjk] at hl; exact hl
        · rw [Array.setIfInBounds_comm _ _ hji, ← Act.put_comm a v u h2]
          exact hrest
      rcases hdj with ⟨hm, hg⟩ | ⟨hm, u, hk, hrest⟩
      · exact ⟨hjn, oj', hoj, .inl ⟨hm, fun g => next _ (hg g)⟩⟩
      · exact ⟨hjn, oj', hoj, .inr ⟨hm, u, hk.same (execOp_put oj' (fun cs b => hsel j oj' cs b hoj) a oi.dst v h1).symm (wanted_put oj' a oi.dst v h1).symm, next u hrest⟩⟩
/-- So may one that makes a block, once all that make nothing have come up. -/
theorem EveryW.make {i : Nat} {oi : Oper} (hi : ops[i]? = some oi)
    (hs : Region.sinkB md ops n = true) (hc : Region.chainB md ops n = true) (hn : n < ops.size) (hin : i < n) (him : m ≤ i) (hL : ∀ listed a, L listed a → ∀ j ∈ Region.ready md ops listed, n ≤ j) :
    ∀ (f : Nat) (listed : Array Bool) (a : Act), HeadInv md ops n listed → (∀ j, j < m → listed.getD j true = true) →
      (∀ j oj, ops[j]? = some oj → j ≠ i → listed.getD j true = false → (∀ e ∈ oj.after, Region.binds md e = true → e.on ≠ i) → oi.apart ops oj = true) →
      i ∈ Region.ready md ops listed → (∀ g, EveryW P md ops W m n L f (listed.setIfInBounds i true) (a.put oi.dst (ptr g))) → EveryW P md ops W m n L (f + 1) listed a := by
  intro f
  induction f with
  | zero =>
    intro listed a inv _ _ hr H
    refine ⟨List.ne_nil_of_mem hr, fun j hj => ?_⟩
    have hjn : j < n := Nat.lt_of_not_le fun h => tail_waits hs hc hn inv _ i rfl hin (mem_ready.1 hr).1 j h hj
    by_cases hji : j = i
    · subst hji; exact ⟨hjn, oi, hi, .inl ⟨him, H⟩⟩
    · exact absurd (hL _ _ (H 0) j (ready_mono hj hji)) (Nat.not_le.2 hjn)
  | succ f ih =>
    intro listed a inv hdone hfree hr H
    refine ⟨List.ne_nil_of_mem hr, fun j hj => ?_⟩
    have hun := (mem_ready.1 hr).1
    have hjn : j < n := Nat.lt_of_not_le fun h => tail_waits hs hc hn inv _ i rfl hin hun j h hj
    by_cases hji : j = i
    · subst hji; exact ⟨hjn, oi, hi, .inl ⟨him, H⟩⟩
    · obtain ⟨hjun, oj, hoj, hall⟩ := mem_ready.1 hj
      have hjm : m ≤ j := Nat.le_of_not_lt fun h => by rw [hdone j h] at hjun; cases hjun
      have hap := hfree j oj hoj hji hjun fun e he hb heq => by
        have h1 := hall e he hb
        rw [heq, getD_both hun] at h1
        cases h1
      obtain ⟨_, h2, _⟩ := Oper.apart_spec hap
      refine ⟨hjn, oj, hoj, .inl ⟨hjm, fun u => ?_⟩⟩
      refine ih (listed.setIfInBounds j true) (a.put oj.dst (ptr u)) (inv.set hj hjn) (fun k hk => ?_) ?_ (ready_mono hr (Ne.symm hji)) fun g => ?_
      · rw [getD_set_ne true (by omega)]; exact hdone k hk
      · intro k ok hk hki hl hno
        refine hfree k ok hk hki ?_ hno
        by_cases hjk : j = k
        · subst hjk; exact hjun
        · rw [getD_set_ne true hjk] at hl; exact hl
      · obtain ⟨_, oj', hoj', hdj⟩ := (H g).2 j (ready_mono hj hji)
        obtain rfl : oj' = oj := Option.some.inj (hoj'.symm.trans hoj)
        rcases hdj with ⟨_, hg⟩ | ⟨hm, _⟩
        · rw [Array.setIfInBounds_comm _ _ hji, ← Act.put_comm a (ptr g) (ptr u) h2]
          exact hg u
        · omega
/-- The operations in the order of the text, number k the first. -/
def TextW (P : Program) (ops : Array Oper) (W : World) (m : Nat) (Q : Act → Prop) : Nat → List Oper → Act → Prop
  | _, [], a => Q a
  | k, o :: l, a => if k < m then ∃ v, Keeps P ops W o v a ∧ TextW P ops W m Q (k + 1) l (a.put o.dst v) else ∀ g, TextW P ops W m Q (k + 1) l (a.put o.dst (ptr g))
theorem TextW.every {g : Nat} {Lq : Act → Prop} (hsel : Region.noSelect ops = true) (hs : Region.sinkB md ops n = true) (hc : Region.chainB md ops n = true) (hn : n < ops.size) :
    ∀ (l : List Oper) (k : Nat) (listed : Array Bool) (a : Act), (∀ j, j < l.length → l[j]? = ops[k + j]?) → k + l.length = n → HeadInv md ops n listed → (∀ j, j < k → listed.getD j false = true) → Region.lexHead md ops g l.length k listed = true → TextW P ops W m Lq k l a →
      EveryW P md ops W m n (fun listed' a' => (Region.seqB md ops g n listed' = true ∧ ∀ j, j < n → listed'.getD j false = true) ∧ Lq a') l.length listed a
  | [], k, listed, a, _, hk, _, hd, hB, h => by
    obtain rfl : k = n := by simpa using hk
    exact ⟨⟨by simpa [Region.lexHead] using hB, hd⟩, h⟩
  | o :: l, k, listed, a, hl, hk, inv, hd, hB, h => by
    have h0 : ops[k]? = some o := by simpa using (hl 0 (by simp)).symm
    simp only [List.length_cons, Region.lexHead, Bool.and_eq_true] at hB
    simp only [List.length_cons] at hk
    have hr : k ∈ Region.ready md ops listed := by simpa using hB.1.1
    have hd' : ∀ j, j < k + 1 → (listed.setIfInBounds k true).getD j false = true := fun j hj => by
      by_cases hjk : k = j
      · subst hjk
        have : k < listed.size := by rw [inv.size]; omega
        simp [this]
      · rw [getD_set_ne false hjk]; exact hd j (by omega)
    have rest : ∀ b, TextW P ops W m Lq (k + 1) l b → EveryW P md ops W m n (fun listed' a' => (Region.seqB md ops g n listed' = true ∧ ∀ j, j < n → listed'.getD j false = true) ∧ Lq a') l.length (listed.setIfInBounds k true) b := fun b hb => by
      refine TextW.every hsel hs hc hn l (k + 1) _ _ (fun j hj => ?_) (by omega) (inv.set hr (by omega)) hd' hB.2 hb
      have := hl (j + 1) (by simpa using hj)
      simpa [Nat.add_assoc, Nat.add_comm 1 j] using this
    unfold TextW at h
    by_cases hkm : k < m
    · rw [if_pos hkm] at h
      obtain ⟨v, hv, ht⟩ := h
      exact EveryW.first h0 (Region.noSelect_spec hsel) hs hc hn (by omega) hkm (fun _ _ hL => seqB_ready hL.1.1) l.length listed a inv (Region.free_spec h0 hB.1.2) hr hv (rest _ ht)
    · rw [if_neg hkm] at h
      exact EveryW.make h0 hs hc hn (by omega) (by omega) (fun _ _ hL => seqB_ready hL.1.1) l.length listed a inv (fun j hj => getD_true (hd j (by omega))) (Region.free_spec h0 hB.1.2) hr fun g => rest _ (h g)
/-- The slots that the first n operations write are there. -/
def roomB (ops : Array Oper) (n size : Nat) : Bool := (List.range n).all fun i => match (ops[i]?).bind (·.dst) with
  | some d => decide (d < size)
  | none => true
/-- A statement that draws its order and makes variables: up to m in the order of the text, then the variables, then the rest. -/
theorem wp_region_textW {id : Nat} {a : Act} {l : List Oper} (Z : Nat → Obj) (m n : Nat) (hm : P.follows .mixedOrders = true) (hB : Region.lexTailB .any l.toArray n = true) (hap : apartB l.toArray n = true) (hroom : roomB l.toArray n a.tmps.size = true)
    (hZ : ∀ i, m ≤ i → i < n → Makes P l.toArray i (Z i))
    (h : TextW P l.toArray W m (fun a' => ∀ x, Old W x → (∀ listed : Array Bool, (∀ j, j < n → listed.getD j false = true) → Made l.toArray Z W.heap.size m listed a' x → wpList P l.toArray Q (l.drop n) a' x)) 0 (l.take n) a) : (Code.region id l.toArray true).wp P Q a W := by
  simp only [Region.lexTailB, Bool.and_eq_true, decide_eq_true_eq] at hB
  obtain ⟨⟨⟨⟨hsel, hn⟩, hs⟩, hc⟩, hlex⟩ := hB
  have hn' : n < l.length := by simpa using hn
  have htl : (l.take n).length = n := by simp; omega
  have inv0 : HeadInv .any l.toArray n (Array.replicate l.toArray.size false) :=
    ⟨by simp, fun j oj _ hj => (by rw [getD_replicate_false] at hj; cases hj), fun t _ ht => getD_in (by simpa using ht) (getD_replicate_false _ _)⟩
  have H := TextW.every (md := .any) (m := m) (g := l.toArray.size - n) hsel hs hc hn (l.take n) 0 _ a (fun j hj => by rw [htl] at hj; simp [hj]) (by simpa using htl) inv0 (fun j hj => absurd hj (Nat.not_lt_zero j)) (by rw [htl]; exact hlex) h
  refine wp_region_any hm ?_
  have hg : (l.drop n).length = l.toArray.size - n := by simp
  have R := EveryW.any (Q := Q) (Z := Z) (g := l.toArray.size - n) hap hZ (fun listed a' hL x hx hM => by
    have := wpAny_of_seq (md := .any) (Q' := Q) (l.drop n) n listed a' x (fun j => by simp [List.getElem?_drop]) (by rw [hg]; exact hL.1.1) (hL.2 x hx listed hL.1.2 hM)
    rwa [hg] at this) _ _ _ W.drew (Below.refl _ W).drew ⟨fun _ => 0, fun i _ hl => (by rw [getD_replicate_false] at hl; cases hl), fun i j _ _ hl => (by rw [getD_replicate_false] at hl; cases hl)⟩
    (fun k _ hl => (by rw [getD_replicate_false] at hl; cases hl)) (fun i o d hi ho hd => by
      have h1 := List.all_eq_true.1 hroom i (List.mem_range.2 hi)
      simp only [ho, Option.bind_some, hd, decide_eq_true_eq] at h1
      exact h1) H
  rw [htl, show n + (l.toArray.size - n) = l.toArray.size by omega] at R
  exact R
/-- What one of them has made. -/
theorem Made.one {B i g : Nat} {listed : Array Bool} {a : Act} {x : World} {o : Oper} {d : Nat} (h : Made ops Z B m listed a x) (hi : m ≤ i) (hl : listed.getD i false = true) (ho : ops[i]? = some o) (hd : o.dst = some d) (hg : a.tmps[d]? = some (ptr g)) : B ≤ g ∧ x.heap[g]? = some (Z i) := by
  obtain ⟨G, h1, _⟩ := h
  obtain ⟨hB, hz, p, e, hp, he, ht⟩ := h1 i hi hl
  obtain rfl : p = o := Option.some.inj (hp.symm.trans ho)
  obtain rfl : e = d := Option.some.inj (he.symm.trans hd)
  have : G i = g := by rw [ht] at hg; simpa using hg
  subst this
  exact ⟨hB, hz⟩
/-- Two of them have made two blocks. -/
theorem Made.two {B i j g g' : Nat} {listed : Array Bool} {a : Act} {x : World} {o p : Oper} {d e : Nat} (h : Made ops Z B m listed a x) (hi : m ≤ i) (hj : m ≤ j) (hij : i ≠ j) (hl : listed.getD i false = true) (hl' : listed.getD j false = true)
    (ho : ops[i]? = some o) (hd : o.dst = some d) (hg : a.tmps[d]? = some (ptr g)) (hp : ops[j]? = some p) (he : p.dst = some e) (hg' : a.tmps[e]? = some (ptr g')) : g ≠ g' := by
  obtain ⟨G, h1, h2⟩ := h
  have key : ∀ k g o d, m ≤ k → listed.getD k false = true → ops[k]? = some o → o.dst = some d → a.tmps[d]? = some (ptr g) → G k = g := fun k g o d hk hl ho hd hg => by
    obtain ⟨_, _, p, e, hp, he, ht⟩ := h1 k hk hl
    obtain rfl : p = o := Option.some.inj (hp.symm.trans ho)
    obtain rfl : e = d := Option.some.inj (he.symm.trans hd)
    rw [ht] at hg
    simpa using hg
  rw [← key i g o d hi hl ho hd hg, ← key j g' p e hj hl' hp he hg']
  exact h2 i j hi hj hl hl' hij
/-! ### One operation -/
theorem TextW.sees {Lq : Act → Prop} {o : Oper} {l : List Oper} {a : Act} {k : Nat} (v : Value) (h : ∀ w, Old W w → ∀ K : Next → World → Prop, K (.value v) w → Sees P ops o a w K) (hw : Region.wanted o (yielded ops a.tmps) = true) (hk : k < m) (hn : TextW P ops W m Lq (k + 1) l (a.put o.dst v)) : TextW P ops W m Lq k (o :: l) a := by
  unfold TextW
  rw [if_pos hk]
  refine ⟨v, .inl ⟨hw, fun w hS => .inl ?_⟩, hn⟩
  have g := h w hS (fun n x => n = .value v ∧ x = w) ⟨rfl, rfl⟩
  unfold Sees at g
  rw [if_pos hw] at g
  generalize (execOp a.eval o).run P w = r at g ⊢
  cases r with
  | ok n x => obtain ⟨rfl, rfl⟩ := g; exact ⟨_, rfl, Below.refl _ _⟩
  | halt e x => exact g.elim
theorem TextW.call {Lq : Act → Prop} {o : Oper} {l : List Oper} {a : Act} {k F : Nat} {args : Array Value} {v : Value} (c : ∀ w, Old W w → Calls P F args w fun e y => e = .returned v ∧ Below w.heap.size w y) (hw : Region.wanted o (yielded ops a.tmps) = true)
    (he : ∀ w, (execOp a.eval o).run P w = .ok (.enter F args) w) (hk : k < m) (hn : TextW P ops W m Lq (k + 1) l (a.put o.dst v)) : TextW P ops W m Lq k (o :: l) a := by
  unfold TextW
  rw [if_pos hk]
  exact ⟨v, .inl ⟨hw, fun w hS => .inr (.inr ⟨F, args, w, he w, c w hS⟩)⟩, hn⟩
theorem TextW.make {Lq : Act → Prop} {o : Oper} {l : List Oper} {a : Act} {k : Nat} (hk : m ≤ k) (hn : ∀ g, TextW P ops W m Lq (k + 1) l (a.put o.dst (ptr g))) : TextW P ops W m Lq k (o :: l) a := by
  unfold TextW
  rw [if_neg (Nat.not_lt.2 hk)]
  exact hn
end
end Go.Proofs.Ytdddhflppngloaa
