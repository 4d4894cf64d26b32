/- A law for a statement that draws its order and holds calls that make memory: where every operation leaves, in WHATEVER world of a kept condition S, the same value and a world of S again, one walk in the order of the text speaks for all orders. (A tail of operations in forced order may follow.) Nothing of a program is in it. -/
import Derived.StillTail
import Derived.WalkKit
namespace Go.Proofs.Ytdddhflppngloaa
open Go.RowKit
set_option maxRecDepth 20000

/-- A result that hands on value v, and a world of S. -/
def Gives (P : Program) (S : World → Prop) (v : Value) (r : Result Next) : Prop :=
  (∃ x, r = .ok (.value v) x ∧ S x) ∨ (∃ x, r = .ok .skip x ∧ v = undef ∧ S x) ∨ ∃ f args x, r = .ok (.enter f args) x ∧ Calls P f args x fun e y => e = .returned v ∧ S y
/-- Whatever world of S it meets, the operation leaves v and a world of S. -/
def Det (P : Program) (ops : Array Oper) (S : World → Prop) (o : Oper) (v : Value) (a : Act) : Prop :=
  (Region.wanted o (yielded ops a.tmps) = true ∧ ∀ w, S w → Gives P S v ((execOp a.eval o).run P w)) ∨ (Region.wanted o (yielded ops a.tmps) = false ∧ v = undef)
section
variable {P : Program} {ops : Array Oper} {md : Region.Mode} {S : World → Prop} {Q : Exit → Act → World → Prop}

theorem Det.same {o : Oper} {v : Value} {a b : Act} (h : Det P ops S o v a) (he : execOp b.eval o = execOp a.eval o) (hw : Region.wanted o (yielded ops b.tmps) = Region.wanted o (yielded ops a.tmps)) : Det P ops S o v b := by
  unfold Det
  rw [he, hw]
  exact h
theorem Det.step {o : Oper} {v : Value} {a : Act} {i : Nat} {w : World} {K : Act → World → Prop} (hi : ops[i]? = some o) (h : Det P ops S o v a) (hS : S w) (hK : ∀ x, S x → K (a.put o.dst v) x) : wpOp P ops Q i K a w := by
  unfold wpOp
  simp only [hi]
  rcases h with ⟨hw, hg⟩ | ⟨hw, rfl⟩
  · rw [if_pos hw]
    refine .inl ?_
    have g := hg w hS
    unfold Oper.wp
    rcases g with ⟨x, hr, hx⟩ | ⟨x, hr, rfl, hx⟩ | ⟨f, args, x, hr, hx⟩ <;> rw [hr]
    · exact hK x hx
    · exact hK x hx
    · exact Calls.mono hx fun e y hy => by obtain ⟨rfl, hy⟩ := hy; exact hK y hy
  · rw [if_neg (by rw [hw]; exact Bool.false_ne_true)]
    exact hK w hS
/-- Whatever order the first n operations come up in. -/
def Every (P : Program) (md : Region.Mode) (ops : Array Oper) (S : World → Prop) (n : Nat) (L : Array Bool → Act → Prop) : Nat → Array Bool → Act → Prop
  | 0, listed, a => L listed a
  | f + 1, listed, a => Region.ready md ops listed ≠ [] ∧ ∀ i ∈ Region.ready md ops listed, i < n ∧ ∃ o v, ops[i]? = some o ∧ Det P ops S o v a ∧ Every P md ops S n L f (listed.setIfInBounds i true) (a.put o.dst v)
theorem Every.any {n g : Nat} {L : Array Bool → Act → Prop} (hL : ∀ listed a, L listed a → ∀ w, S w → wpAny P md ops Q g listed a w) :
    ∀ (f : Nat) (listed : Array Bool) (a : Act) (w : World), S w → Every P md ops S n L f listed a → wpAny P md ops Q (f + g) listed a w
  | 0, listed, a, w, hS, h => by rw [Nat.zero_add]; exact hL _ _ h w hS
  | f + 1, listed, a, w, hS, h => by
    rw [Nat.add_right_comm]
    refine ⟨fun h0 => absurd h0 h.1, fun i hi => ?_⟩
    obtain ⟨_, o, v, ho, hd, hn⟩ := h.2 i hi
    exact hd.step ho hS fun x hx => Every.any hL f _ _ x hx hn
/-- One that may come up now may as well come up first. -/
theorem Every.first {n i : Nat} {oi : Oper} {v : Value} {L : Array Bool → Act → Prop} (hi : ops[i]? = some oi) (hsel : ∀ (j : Nat) (o : Oper) cs b, ops[j]? = some o → o.op ≠ .select cs b)
    (hs : Region.sinkB md ops n = true) (hc : Region.chainB md ops n = true) (hn : n < ops.size) (hin : i < n) (hL : ∀ listed a, L listed a → ∀ j ∈ Region.ready md ops listed, n ≤ j) :
    ∀ (f : Nat) (listed : Array Bool) (a : Act), HeadInv md ops n listed →
      (∀ j oj, ops[j]? = some oj → j ≠ i → listed.getD j true = false → (∀ e ∈ oj.after, Region.binds md e = true → e.on ≠ i) → oi.apart ops oj = true) →
      i ∈ Region.ready md ops listed → Det P ops S oi v a → Every P md ops S n L f (listed.setIfInBounds i true) (a.put oi.dst v) → Every P md ops S n L (f + 1) listed a := by
  intro f
  induction f with
  | zero =>
    intro listed a inv _ hr hd H
    refine ⟨List.ne_nil_of_mem hr, fun j hj => ?_⟩
    have hjn : j < n := Nat.lt_of_not_le fun h => tail_waits hs hc hn inv _ i rfl hin (mem_ready.1 hr).1 j h hj
    by_cases hji : j = i
    · subst hji; exact ⟨hjn, oi, v, hi, hd, H⟩
    · exact absurd (hL _ _ H j (ready_mono hj hji)) (Nat.not_le.2 hjn)
  | succ f ih =>
    intro listed a inv hfree hr hd H
    refine ⟨List.ne_nil_of_mem hr, fun j hj => ?_⟩
    have hun := (mem_ready.1 hr).1
    have hjn : j < n := Nat.lt_of_not_le fun h => tail_waits hs hc hn inv _ i rfl hin hun j h hj
    by_cases hji : j = i
    · subst hji; exact ⟨hjn, oi, v, hi, hd, H⟩
    · obtain ⟨_, oj, u, hoj, hdj, hrest⟩ := H.2 j (ready_mono hj hji)
      obtain ⟨hjun, oj', hoj', hall⟩ := mem_ready.1 hj
      obtain rfl : oj' = oj := Option.some.inj (hoj'.symm.trans hoj)
      have hap := hfree j oj' hoj hji hjun fun e he hb heq => by
        have h1 := hall e he hb
        rw [heq, getD_both hun] at h1
        cases h1
      obtain ⟨h1, h2, h3⟩ := Oper.apart_spec hap
      refine ⟨hjn, oj', u, hoj, hdj.same (execOp_put oj' (fun cs b => hsel j oj' cs b hoj) a oi.dst v h1).symm (wanted_put oj' a oi.dst v h1).symm, ?_⟩
      refine ih (listed.setIfInBounds j true) (a.put oj'.dst u) (inv.set hj hjn) ?_ (ready_mono hr (Ne.symm hji)) (hd.same (execOp_put oi (fun cs b => hsel i oi cs b hi) a oj'.dst u h3) (wanted_put oi a oj'.dst u h3)) ?_
      · intro k ok hk hki hl hno
        refine hfree k ok hk hki ?_ hno
        by_cases hjk : j = k
        · subst hjk; exact hjun
        · rw [getD_set_ne true hjk] at hl; exact hl
      · rw [Array.setIfInBounds_comm _ _ hji, ← Act.put_comm a v u h2]
        exact hrest
/-- The operations in the order of the text. -/
def Text (P : Program) (ops : Array Oper) (S : World → Prop) (Q : Act → Prop) : List Oper → Act → Prop
  | [], a => Q a
  | o :: l, a => ∃ v, Det P ops S o v a ∧ Text P ops S Q l (a.put o.dst v)
theorem Text.every {n g : Nat} {Lq : Act → Prop} (hsel : Region.noSelect ops = true) (hs : Region.sinkB md ops n = true) (hc : Region.chainB md ops n = true) (hn : n < ops.size) :
    ∀ (l : List Oper) (k : Nat) (listed : Array Bool) (a : Act), (∀ j, j < l.length → l[j]? = ops[k + j]?) → k + l.length = n → HeadInv md ops n listed → Region.lexHead md ops g l.length k listed = true → Text P ops S Lq l a →
      Every P md ops S n (fun listed' a' => Region.seqB md ops g n listed' = true ∧ Lq a') l.length listed a
  | [], k, listed, a, _, hk, _, hB, h => by
    obtain rfl : k = n := by simpa using hk
    exact ⟨by simpa [Region.lexHead] using hB, h⟩
  | o :: l, k, listed, a, hl, hk, inv, hB, h => by
    have h0 : ops[k]? = some o := by simpa using (hl 0 (by simp)).symm
    simp only [List.length_cons, Region.lexHead, Bool.and_eq_true] at hB
    simp only [List.length_cons] at hk
    have hr : k ∈ Region.ready md ops listed := by simpa using hB.1.1
    obtain ⟨v, hd, ht⟩ := h
    refine Every.first h0 (Region.noSelect_spec hsel) hs hc hn (by omega) (fun _ _ hL => seqB_ready hL.1) l.length listed a inv (Region.free_spec h0 hB.1.2) hr hd ?_
    refine Text.every hsel hs hc hn l (k + 1) _ _ (fun j hj => ?_) (by omega) (inv.set hr (by omega)) hB.2 ht
    have := hl (j + 1) (by simpa using hj)
    simpa [Nat.add_assoc, Nat.add_comm 1 j] using this
/-- A statement that draws its order: its first n operations in the order of the text, the rest as they must come. -/
theorem wp_region_text {id : Nat} {a : Act} {w : World} {l : List Oper} (S : World → Prop) (n : Nat) (hm : P.follows .mixedOrders = true) (hB : Region.lexTailB .any l.toArray n = true) (h0 : S w.drew)
    (h : Text P l.toArray S (fun a' => ∀ x, S x → wpList P l.toArray Q (l.drop n) a' x) (l.take n) a) : (Code.region id l.toArray true).wp P Q a w := by
  simp only [Region.lexTailB, Bool.and_eq_true, decide_eq_true_eq] at hB
  obtain ⟨⟨⟨⟨hsel, hn⟩, hs⟩, hc⟩, hlex⟩ := hB
  have hn' : n < l.length := by simpa using hn
  have htl : (l.take n).length = n := by simp; omega
  have inv0 : HeadInv .any l.toArray n (Array.replicate l.toArray.size false) :=
    ⟨by simp, fun j oj _ hj => (by rw [getD_replicate_false] at hj; cases hj), fun t _ ht => getD_in (by simpa using ht) (getD_replicate_false _ _)⟩
  have H := Text.every (md := .any) (g := l.toArray.size - n) hsel hs hc hn (l.take n) 0 _ a (fun j hj => by rw [htl] at hj; simp [hj]) (by simpa using htl) inv0 (by rw [htl]; exact hlex) h
  refine wp_region_any hm ?_
  have hg : (l.drop n).length = l.toArray.size - n := by simp
  have R := Every.any (Q := Q) (g := l.toArray.size - n) (fun listed a' hL x hx => by
    have := wpAny_of_seq (md := .any) (Q' := Q) (l.drop n) n listed a' x (fun j => by simp [List.getElem?_drop]) (by rw [hg]; exact hL.1) (hL.2 x hx)
    rwa [hg] at this) _ _ _ w.drew h0 H
  rw [htl, show n + (l.toArray.size - n) = l.toArray.size by omega] at R
  exact R
/-- A plain statement: its first n operations in whatever world of S they meet. -/
theorem Text.list {l rest : List Oper} : ∀ {a : Act} {w : World}, Text P ops S (fun a' => ∀ x, S x → wpList P ops Q rest a' x) l a → S w → wpList P ops Q (l ++ rest) a w := by
  induction l with
  | nil => exact fun h hS => h _ hS
  | cons o l ih =>
    intro a w h hS
    obtain ⟨v, hd, ht⟩ := h
    show if Region.wanted o (yielded ops a.tmps) then o.wp P a w (wpList P ops Q (l ++ rest)) Q ∨ (o.asks P a w ∧ LetsOut Q) else wpList P ops Q (l ++ rest) (a.put o.dst undef) w
    rcases hd with ⟨hw, hg⟩ | ⟨hw, rfl⟩
    · rw [if_pos hw]
      refine .inl ?_
      have g := hg w hS
      unfold Oper.wp
      rcases g with ⟨x, hr, hx⟩ | ⟨x, hr, rfl, hx⟩ | ⟨f, args, x, hr, hx⟩ <;> rw [hr]
      · exact ih ht hx
      · exact ih ht hx
      · exact Calls.mono hx fun e y hy => by obtain ⟨rfl, hy⟩ := hy; exact ih ht hy
    · rw [if_neg (by rw [hw]; exact Bool.false_ne_true)]
      exact ih ht hS
theorem wp_region_plain {id : Nat} {a : Act} {w : World} {l : List Oper} (S : World → Prop) (n : Nat) (h0 : S w)
    (h : Text P l.toArray S (fun a' => ∀ x, S x → wpList P l.toArray Q (l.drop n) a' x) (l.take n) a) : (Code.region id l.toArray false).wp P Q a w :=
  wp_region_lit (by have := Text.list h h0; rwa [List.take_append_drop] at this)
/-! ### One operation -/
/-- An operation that only reads, or is not wanted. -/
def Sees (P : Program) (ops : Array Oper) (o : Oper) (a : Act) (w : World) (K : Next → World → Prop) : Prop :=
  if Region.wanted o (yielded ops a.tmps) then (match (execOp a.eval o).run P w with
    | .ok n x => K n x
    | .halt _ _ => False) else K .skip w
theorem Text.sees {Lq : Act → Prop} {o : Oper} {l : List Oper} {a : Act} (v : Value) (h : ∀ w, S w → ∀ K : Next → World → Prop, K (.value v) w → Sees P ops o a w K) (hw : Region.wanted o (yielded ops a.tmps) = true) (hn : Text P ops S Lq l (a.put o.dst v)) : Text P ops S Lq (o :: l) a := by
  refine ⟨v, .inl ⟨hw, fun w hS => .inl ?_⟩, hn⟩
  have g := h w hS (fun n x => n = .value v ∧ x = w) ⟨rfl, rfl⟩
  unfold Sees at g
  rw [if_pos hw] at g
  generalize (execOp a.eval o).run P w = r at g ⊢
  cases r with
  | ok n x => obtain ⟨rfl, rfl⟩ := g; exact ⟨_, rfl, hS⟩
  | halt e x => exact g.elim
/-- One that is not wanted, or leaves nothing. -/
theorem Text.idle {Lq : Act → Prop} {o : Oper} {l : List Oper} {a : Act} (h : ∀ w, S w → ∀ K : Next → World → Prop, K .skip w → Sees P ops o a w K) (hn : Text P ops S Lq l (a.put o.dst undef)) : Text P ops S Lq (o :: l) a := by
  refine ⟨undef, ?_, hn⟩
  by_cases hw : Region.wanted o (yielded ops a.tmps) = true
  · refine .inl ⟨hw, fun w hS => .inr (.inl ?_)⟩
    have g := h w hS (fun n x => n = .skip ∧ x = w) ⟨rfl, rfl⟩
    unfold Sees at g
    rw [if_pos hw] at g
    generalize (execOp a.eval o).run P w = r at g ⊢
    cases r with
    | ok n x => obtain ⟨rfl, rfl⟩ := g; exact ⟨_, rfl, rfl, hS⟩
    | halt e x => exact g.elim
  · exact .inr ⟨by simpa using hw, rfl⟩
theorem Text.val {Lq : Act → Prop} {o : Oper} {l : List Oper} {a : Act} {v : Value} (h : ∀ w, S w → (execOp a.eval o).run P w = .ok (.value v) w) (hw : Region.wanted o (yielded ops a.tmps) = true) (hn : Text P ops S Lq l (a.put o.dst v)) : Text P ops S Lq (o :: l) a :=
  ⟨v, .inl ⟨hw, fun w hS => .inl ⟨w, h w hS, hS⟩⟩, hn⟩
/-- A call. -/
theorem Text.call {Lq : Act → Prop} {o : Oper} {l : List Oper} {a : Act} {F : Nat} {args : Array Value} {v : Value} (c : ∀ w, S w → Calls P F args w fun e y => e = .returned v ∧ S y) (hw : Region.wanted o (yielded ops a.tmps) = true)
    (he : ∀ w, (execOp a.eval o).run P w = .ok (.enter F args) w) (hn : Text P ops S Lq l (a.put o.dst v)) : Text P ops S Lq (o :: l) a :=
  ⟨v, .inl ⟨hw, fun w hS => .inr (.inr ⟨F, args, w, he w, c w hS⟩)⟩, hn⟩
end
/-- The condition that serves most: all that stood at the start stands as it stood. -/
abbrev Old (W : World) : World → Prop := fun x => Below W.heap.size W x
theorem Old.call {P : Program} {W : World} {F : Nat} {args : Array Value} {v : Value} (c : ∀ w, Old W w → Calls P F args w fun e y => e = .returned v ∧ Below w.heap.size w y) : ∀ w, Old W w → Calls P F args w fun e y => e = .returned v ∧ Old W y :=
  fun w hS => (c w hS).mono fun _ _ ⟨he, hb⟩ => ⟨he, hS.trans (hb.mono hS.size)⟩
attribute [go_sem] Sees
end Go.Proofs.Ytdddhflppngloaa
