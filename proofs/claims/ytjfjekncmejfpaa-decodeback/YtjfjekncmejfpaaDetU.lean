/- A law for a statement that draws its order and holds calls that make memory: where every operation leaves, in WHATEVER world of a kept condition S, the same value and a world of S again, one walk in the order of the text speaks for all orders. (A tail of operations in forced order may follow.) Nothing of a program is in it. The law of Det, with new variables made among the calls: 'x, y := f(), g()' where x and y lie in memory. The operations up to m leave the same value in whatever world that holds what stood at the start; those from m to n each make one block, whenever they come up; the rest follows in forced order. The law of Det where a call's answer hangs on the world it meets (a new slice): a plan says in what order the first n operations are walked; an operation that leaves the same value in every world (a still one) may be taken as soon as it can come up; one whose value hangs on the world (a loud one) where nothing else can come up. Nothing of a program is in it. The law of DetV where loud calls write older blocks: M tells the blocks that may still be written by loud ones; a still one leaves the same value whatever they hold. Nothing of a program is in it. Whole blocks: what a block of cells holds, and what keeps it. Nothing of a program is in it. -/
import Derived.StillTail
import Derived.WalkKit
namespace Go.Proofs.Ytjfjekncmejfpaa
open Go.RowKit

/-- A result that hands on value v, and a world of S. -/
def Gives (P : Program) (S : World → Prop) (v : Value) (r : Result Next) : Prop :=
  (∃ x, r = .ok (.value v) x ∧ S x) ∨ (∃ x, r = .ok .skip x ∧ v = undef ∧ S x) ∨ ∃ f args x, r = .ok (.enter f args) x ∧ Calls P f args x fun e y => e = .returned v ∧ S y
/-- Whatever world of S it meets, the operation leaves v and a world of S. -/
def Det (P : Program) (ops : Array Oper) (S : World → Prop) (o : Oper) (v : Value) (a : Act) : Prop :=
  (Region.wanted o (yielded ops a.tmps) = true ∧ ∀ w, S w → Gives P S v ((execOp a.eval o).run P w)) ∨ (Region.wanted o (yielded ops a.tmps) = false ∧ v = undef)
section
variable {P : Program} {ops : Array Oper} {md : Region.Mode} {S : World → Prop} {Q : Exit → Act → World → Prop}

theorem Det.same {o : Oper} {v : Value} {a b : Act} (h : Det P ops S o v a) (he : execOp b.eval o = execOp a.eval o) (hw : Region.wanted o (yielded ops b.tmps) = Region.wanted o (yielded ops a.tmps)) : Det P ops S o v b := by
  unfold Det
  rw [he, hw]
  exact h
theorem Det.step {o : Oper} {v : Value} {a : Act} {i : Nat} {w : World} {K : Act → World → Prop} (hi : ops[i]? = some o) (h : Det P ops S o v a) (hS : S w) (hK : ∀ x, S x → K (a.put o.dst v) x) : wpOp P ops Q i K a w := by
  unfold wpOp
  simp only [hi]
  rcases h with ⟨hw, hg⟩ | ⟨hw, rfl⟩
  · rw [if_pos hw]
    refine .inl ?_
    have g := hg w hS
    unfold Oper.wp
    rcases g with ⟨x, hr, hx⟩ | ⟨x, hr, rfl, hx⟩ | ⟨f, args, x, hr, hx⟩ <;> rw [hr]
    · exact hK x hx
    · exact hK x hx
    · exact Calls.mono hx fun e y hy => by obtain ⟨rfl, hy⟩ := hy; exact hK y hy
  · rw [if_neg (by rw [hw]; exact Bool.false_ne_true)]
    exact hK w hS
/-- Whatever order the first n operations come up in. -/
def Every (P : Program) (md : Region.Mode) (ops : Array Oper) (S : World → Prop) (n : Nat) (L : Array Bool → Act → Prop) : Nat → Array Bool → Act → Prop
  | 0, listed, a => L listed a
  | f + 1, listed, a => Region.ready md ops listed ≠ [] ∧ ∀ i ∈ Region.ready md ops listed, i < n ∧ ∃ o v, ops[i]? = some o ∧ Det P ops S o v a ∧ Every P md ops S n L f (listed.setIfInBounds i true) (a.put o.dst v)
theorem Every.any {n g : Nat} {L : Array Bool → Act → Prop} (hL : ∀ listed a, L listed a → ∀ w, S w → wpAny P md ops Q g listed a w) :
    ∀ (f : Nat) (listed : Array Bool) (a : Act) (w : World), S w → Every P md ops S n L f listed a → wpAny P md ops Q (f + g) listed a w
  | 0, listed, a, w, hS, h => by rw [Nat.zero_add]; exact hL _ _ h w hS
  | f + 1, listed, a, w, hS, h => by
    rw [Nat.add_right_comm]
    refine ⟨fun h0 => absurd h0 h.1, fun i hi => ?_⟩
    obtain ⟨_, o, v, ho, hd, hn⟩ := h.2 i hi
    exact hd.step ho hS fun x hx => Every.any hL f _ _ x hx hn
/-- One that may come up now may as well come up first. -/
theorem Every.first {n i : Nat} {oi : Oper} {v : Value} {L : Array Bool → Act → Prop} (hi : ops[i]? = some oi) (hsel : ∀ (j : Nat) (o : Oper) cs b, ops[j]? = some o → o.op ≠ .select cs b)
    (hs : Region.sinkB md ops n = true) (hc : Region.chainB md ops n = true) (hn : n < ops.size) (hin : i < n) (hL : ∀ listed a, L listed a → ∀ j ∈ Region.ready md ops listed, n ≤ j) :
    ∀ (f : Nat) (listed : Array Bool) (a : Act), HeadInv md ops n listed →
      (∀ j oj, ops[j]? = some oj → j ≠ i → listed.getD j true = false → (∀ e ∈ oj.after, Region.binds md e = true → e.on ≠ i) → oi.apart ops oj = true) →
      i ∈ Region.ready md ops listed → Det P ops S oi v a → Every P md ops S n L f (listed.setIfInBounds i true) (a.put oi.dst v) → Every P md ops S n L (f + 1) listed a := by
  intro f
  induction f with
  | zero =>
    intro listed a inv _ hr hd H
    refine ⟨List.ne_nil_of_mem hr, fun j hj => ?_⟩
    have hjn : j < n := Nat.lt_of_not_le fun h => tail_waits hs hc hn inv _ i rfl hin (mem_ready.1 hr).1 j h hj
    by_cases hji : j = i
    · subst hji; exact ⟨hjn, oi, v, hi, hd, H⟩
    · exact absurd (hL _ _ H j (ready_mono hj hji)) (Nat.not_le.2 hjn)
  | succ f ih =>
    intro listed a inv hfree hr hd H
    refine ⟨List.ne_nil_of_mem hr, fun j hj => ?_⟩
    have hun := (mem_ready.1 hr).1
    have hjn : j < n := Nat.lt_of_not_le fun h => tail_waits hs hc hn inv _ i rfl hin hun j h hj
    by_cases hji : j = i
    · subst hji; exact ⟨hjn, oi, v, hi, hd, H⟩
    · obtain ⟨_, oj, u, hoj, hdj, hrest⟩ := H.2 j (ready_mono hj hji)
      obtain ⟨hjun, oj', hoj', hall⟩ := mem_ready.1 hj
      obtain rfl : oj' = oj := Option.some.inj (hoj'.symm.trans hoj)
      have hap := hfree j oj' hoj hji hjun fun e he hb heq => by
        have h1 := hall e he hb
        rw [heq, getD_both hun] at h1
        cases h1
      obtain ⟨h1, h2, h3⟩ := Oper.apart_spec hap
      refine ⟨hjn, oj', u, hoj, hdj.same (execOp_put oj' (fun cs b => hsel j oj' cs b hoj) a oi.dst v h1).symm (wanted_put oj' a oi.dst v h1).symm, ?_⟩
      refine ih (listed.setIfInBounds j true) (a.put oj'.dst u) (inv.set hj hjn) ?_ (ready_mono hr (Ne.symm hji)) (hd.same (execOp_put oi (fun cs b => hsel i oi cs b hi) a oj'.dst u h3) (wanted_put oi a oj'.dst u h3)) ?_
      · intro k ok hk hki hl hno
        refine hfree k ok hk hki ?_ hno
        by_cases hjk : j = k
        · subst hjk; exact hjun
        · rw [getD_set_ne true hjk] at hl; exact hl
      · rw [Array.setIfInBounds_comm _ _ hji, ← Act.put_comm a v u h2]
        exact hrest
/-- The operations in the order of the text. -/
def Text (P : Program) (ops : Array Oper) (S : World → Prop) (Q : Act → Prop) : List Oper → Act → Prop
  | [], a => Q a
  | o :: l, a => ∃ v, Det P ops S o v a ∧ Text P ops S Q l (a.put o.dst v)
theorem Text.every {n g : Nat} {Lq : Act → Prop} (hsel : Region.noSelect ops = true) (hs : Region.sinkB md ops n = true) (hc : Region.chainB md ops n = true) (hn : n < ops.size) :
    ∀ (l : List Oper) (k : Nat) (listed : Array Bool) (a : Act), (∀ j, j < l.length → l[j]? = ops[k + j]?) → k + l.length = n → HeadInv md ops n listed → Region.lexHead md ops g l.length k listed = true → Text P ops S Lq l a →
      Every P md ops S n (fun listed' a' => Region.seqB md ops g n listed' = true ∧ Lq a') l.length listed a
  | [], k, listed, a, _, hk, _, hB, h => by
    obtain rfl : k = n := by simpa using hk
    exact ⟨by simpa [Region.lexHead] using hB, h⟩
  | o :: l, k, listed, a, hl, hk, inv, hB, h => by
    have h0 : ops[k]? = some o := by simpa using (hl 0 (by simp)).symm
    simp only [List.length_cons, Region.lexHead, Bool.and_eq_true] at hB
    simp only [List.length_cons] at hk
    have hr : k ∈ Region.ready md ops listed := by simpa using hB.1.1
    obtain ⟨v, hd, ht⟩ := h
    refine Every.first h0 (Region.noSelect_spec hsel) hs hc hn (by omega) (fun _ _ hL => seqB_ready hL.1) l.length listed a inv (Region.free_spec h0 hB.1.2) hr hd ?_
    refine Text.every hsel hs hc hn l (k + 1) _ _ (fun j hj => ?_) (by omega) (inv.set hr (by omega)) hB.2 ht
    have := hl (j + 1) (by simpa using hj)
    simpa [Nat.add_assoc, Nat.add_comm 1 j] using this
/-- A statement that draws its order: its first n operations in the order of the text, the rest as they must come. -/
theorem wp_region_text {id : Nat} {a : Act} {w : World} {l : List Oper} (S : World → Prop) (n : Nat) (hm : P.follows .mixedOrders = true) (hB : Region.lexTailB .any l.toArray n = true) (h0 : S w.drew)
    (h : Text P l.toArray S (fun a' => ∀ x, S x → wpList P l.toArray Q (l.drop n) a' x) (l.take n) a) : (Code.region id l.toArray true).wp P Q a w := by
  simp only [Region.lexTailB, Bool.and_eq_true, decide_eq_true_eq] at hB
  obtain ⟨⟨⟨⟨hsel, hn⟩, hs⟩, hc⟩, hlex⟩ := hB
  have hn' : n < l.length := by simpa using hn
  have htl : (l.take n).length = n := by simp; omega
  have inv0 : HeadInv .any l.toArray n (Array.replicate l.toArray.size false) :=
    ⟨by simp, fun j oj _ hj => (by rw [getD_replicate_false] at hj; cases hj), fun t _ ht => getD_in (by simpa using ht) (getD_replicate_false _ _)⟩
  have H := Text.every (md := .any) (g := l.toArray.size - n) hsel hs hc hn (l.take n) 0 _ a (fun j hj => by rw [htl] at hj; simp [hj]) (by simpa using htl) inv0 (by rw [htl]; exact hlex) h
  refine wp_region_any hm ?_
  have hg : (l.drop n).length = l.toArray.size - n := by simp
  have R := Every.any (Q := Q) (g := l.toArray.size - n) (fun listed a' hL x hx => by
    have := wpAny_of_seq (md := .any) (Q' := Q) (l.drop n) n listed a' x (fun j => by simp [List.getElem?_drop]) (by rw [hg]; exact hL.1) (hL.2 x hx)
    rwa [hg] at this) _ _ _ w.drew h0 H
  rw [htl, show n + (l.toArray.size - n) = l.toArray.size by omega] at R
  exact R
/-- A plain statement: its first n operations in whatever world of S they meet. -/
theorem Text.list {l rest : List Oper} : ∀ {a : Act} {w : World}, Text P ops S (fun a' => ∀ x, S x → wpList P ops Q rest a' x) l a → S w → wpList P ops Q (l ++ rest) a w := by
  induction l with
  | nil => exact fun h hS => h _ hS
  | cons o l ih =>
    intro a w h hS
    obtain ⟨v, hd, ht⟩ := h
    show if Region.wanted o (yielded ops a.tmps) then o.wp P a w (wpList P ops Q (l ++ rest)) Q ∨ (o.asks P a w ∧ LetsOut Q) else wpList P ops Q (l ++ rest) (a.put o.dst undef) w
    rcases hd with ⟨hw, hg⟩ | ⟨hw, rfl⟩
    · rw [if_pos hw]
      refine .inl ?_
      have g := hg w hS
      unfold Oper.wp
      rcases g with ⟨x, hr, hx⟩ | ⟨x, hr, rfl, hx⟩ | ⟨f, args, x, hr, hx⟩ <;> rw [hr]
      · exact ih ht hx
      · exact ih ht hx
      · exact Calls.mono hx fun e y hy => by obtain ⟨rfl, hy⟩ := hy; exact ih ht hy
    · rw [if_neg (by rw [hw]; exact Bool.false_ne_true)]
      exact ih ht hS
theorem wp_region_plain {id : Nat} {a : Act} {w : World} {l : List Oper} (S : World → Prop) (n : Nat) (h0 : S w)
    (h : Text P l.toArray S (fun a' => ∀ x, S x → wpList P l.toArray Q (l.drop n) a' x) (l.take n) a) : (Code.region id l.toArray false).wp P Q a w :=
  wp_region_lit (by have := Text.list h h0; rwa [List.take_append_drop] at this)
/-! ### One operation -/
/-- An operation that only reads, or is not wanted. -/
def Sees (P : Program) (ops : Array Oper) (o : Oper) (a : Act) (w : World) (K : Next → World → Prop) : Prop :=
  if Region.wanted o (yielded ops a.tmps) then (match (execOp a.eval o).run P w with
    | .ok n x => K n x
    | .halt _ _ => False) else K .skip w
theorem Text.sees {Lq : Act → Prop} {o : Oper} {l : List Oper} {a : Act} (v : Value) (h : ∀ w, S w → ∀ K : Next → World → Prop, K (.value v) w → Sees P ops o a w K) (hw : Region.wanted o (yielded ops a.tmps) = true) (hn : Text P ops S Lq l (a.put o.dst v)) : Text P ops S Lq (o :: l) a := by
  refine ⟨v, .inl ⟨hw, fun w hS => .inl ?_⟩, hn⟩
  have g := h w hS (fun n x => n = .value v ∧ x = w) ⟨rfl, rfl⟩
  unfold Sees at g
  rw [if_pos hw] at g
  generalize (execOp a.eval o).run P w = r at g ⊢
  cases r with
  | ok n x => obtain ⟨rfl, rfl⟩ := g; exact ⟨_, rfl, hS⟩
  | halt e x => exact g.elim
/-- One that is not wanted, or leaves nothing. -/
theorem Text.idle {Lq : Act → Prop} {o : Oper} {l : List Oper} {a : Act} (h : ∀ w, S w → ∀ K : Next → World → Prop, K .skip w → Sees P ops o a w K) (hn : Text P ops S Lq l (a.put o.dst undef)) : Text P ops S Lq (o :: l) a := by
  refine ⟨undef, ?_, hn⟩
  by_cases hw : Region.wanted o (yielded ops a.tmps) = true
  · refine .inl ⟨hw, fun w hS => .inr (.inl ?_)⟩
    have g := h w hS (fun n x => n = .skip ∧ x = w) ⟨rfl, rfl⟩
    unfold Sees at g
    rw [if_pos hw] at g
    generalize (execOp a.eval o).run P w = r at g ⊢
    cases r with
    | ok n x => obtain ⟨rfl, rfl⟩ := g; exact ⟨_, rfl, rfl, hS⟩
    | halt e x => exact g.elim
  · exact .inr ⟨by simpa using hw, rfl⟩
theorem Text.val {Lq : Act → Prop} {o : Oper} {l : List Oper} {a : Act} {v : Value} (h : ∀ w, S w → (execOp a.eval o).run P w = .ok (.value v) w) (hw : Region.wanted o (yielded ops a.tmps) = true) (hn : Text P ops S Lq l (a.put o.dst v)) : Text P ops S Lq (o :: l) a :=
  ⟨v, .inl ⟨hw, fun w hS => .inl ⟨w, h w hS, hS⟩⟩, hn⟩
/-- A call. -/
theorem Text.call {Lq : Act → Prop} {o : Oper} {l : List Oper} {a : Act} {F : Nat} {args : Array Value} {v : Value} (c : ∀ w, S w → Calls P F args w fun e y => e = .returned v ∧ S y) (hw : Region.wanted o (yielded ops a.tmps) = true)
    (he : ∀ w, (execOp a.eval o).run P w = .ok (.enter F args) w) (hn : Text P ops S Lq l (a.put o.dst v)) : Text P ops S Lq (o :: l) a :=
  ⟨v, .inl ⟨hw, fun w hS => .inr (.inr ⟨F, args, w, he w, c w hS⟩)⟩, hn⟩
end
/-- The condition that serves most: all that stood at the start stands as it stood. -/
abbrev Old (W : World) : World → Prop := fun x => Below W.heap.size W x
theorem Old.call {P : Program} {W : World} {F : Nat} {args : Array Value} {v : Value} (c : ∀ w, Old W w → Calls P F args w fun e y => e = .returned v ∧ Below w.heap.size w y) : ∀ w, Old W w → Calls P F args w fun e y => e = .returned v ∧ Old W y :=
  fun w hS => (c w hS).mono fun _ _ ⟨he, hb⟩ => ⟨he, hS.trans (hb.mono hS.size)⟩
attribute [go_sem] Sees
end Go.Proofs.Ytjfjekncmejfpaa
namespace Go.Proofs.Ytjfjekncmejfpaa
open Go.RowKit

/-- In whatever world that holds what stood in W, the operation leaves v, and touches nothing that stands. -/
def Keeps (P : Program) (ops : Array Oper) (W : World) (o : Oper) (v : Value) (a : Act) : Prop :=
  (Region.wanted o (yielded ops a.tmps) = true ∧ ∀ w, Old W w → Gives P (fun x => Below w.heap.size w x) v ((execOp a.eval o).run P w)) ∨ (Region.wanted o (yielded ops a.tmps) = false ∧ v = undef)
/-- Where a block lies. -/
abbrev ptr (g : Nat) : Value := .pointer (some ⟨g, 0, none⟩)
/-- Operation i makes the block Z and leaves where it lies. -/
def Makes (P : Program) (ops : Array Oper) (i : Nat) (Z : Obj) : Prop :=
  ∃ o d, ops[i]? = some o ∧ o.dst = some d ∧ (∀ y, Region.wanted o y = true) ∧ ∀ (a : Act) w, (execOp a.eval o).run P w = .ok (.value (ptr w.heap.size)) (w.alloc Z)
/-- What the operations from m on that have come up have made. -/
def Made (ops : Array Oper) (Z : Nat → Obj) (B m : Nat) (listed : Array Bool) (a : Act) (x : World) : Prop :=
  ∃ G : Nat → Nat, (∀ i, m ≤ i → listed.getD i false = true → B ≤ G i ∧ x.heap[G i]? = some (Z i) ∧ ∃ o d, ops[i]? = some o ∧ o.dst = some d ∧ a.tmps[d]? = some (ptr (G i))) ∧
    ∀ i j, m ≤ i → m ≤ j → listed.getD i false = true → listed.getD j false = true → i ≠ j → G i ≠ G j
section
variable {P : Program} {ops : Array Oper} {md : Region.Mode} {W : World} {Q : Exit → Act → World → Prop} {Z : Nat → Obj} {m n : Nat} {L : Array Bool → Act → Prop}

theorem Keeps.same {o : Oper} {v : Value} {a b : Act} (h : Keeps P ops W o v a) (he : execOp b.eval o = execOp a.eval o) (hw : Region.wanted o (yielded ops b.tmps) = Region.wanted o (yielded ops a.tmps)) : Keeps P ops W o v b := by
  unfold Keeps
  rw [he, hw]
  exact h
theorem Keeps.step {o : Oper} {v : Value} {a : Act} {i : Nat} {w : World} {K : Act → World → Prop} (hi : ops[i]? = some o) (h : Keeps P ops W o v a) (hS : Old W w) (hK : ∀ x, Below w.heap.size w x → K (a.put o.dst v) x) : wpOp P ops Q i K a w := by
  unfold wpOp
  simp only [hi]
  rcases h with ⟨hw, hg⟩ | ⟨hw, rfl⟩
  · rw [if_pos hw]
    refine .inl ?_
    have g := hg w hS
    unfold Oper.wp
    rcases g with ⟨x, hr, hx⟩ | ⟨x, hr, rfl, hx⟩ | ⟨f, args, x, hr, hx⟩ <;> rw [hr]
    · exact hK x hx
    · exact hK x hx
    · exact Calls.mono hx fun e y hy => by obtain ⟨rfl, hy⟩ := hy; exact hK y hy
  · rw [if_neg (by rw [hw]; exact Bool.false_ne_true)]
    exact hK w (Below.refl _ _)
/-- Whatever order the first n operations come up in. -/
def EveryW (P : Program) (md : Region.Mode) (ops : Array Oper) (W : World) (m n : Nat) (L : Array Bool → Act → Prop) : Nat → Array Bool → Act → Prop
  | 0, listed, a => L listed a
  | f + 1, listed, a => Region.ready md ops listed ≠ [] ∧ ∀ i ∈ Region.ready md ops listed, i < n ∧ ∃ o, ops[i]? = some o ∧
      ((m ≤ i ∧ ∀ g, EveryW P md ops W m n L f (listed.setIfInBounds i true) (a.put o.dst (ptr g))) ∨ (i < m ∧ ∃ v, Keeps P ops W o v a ∧ EveryW P md ops W m n L f (listed.setIfInBounds i true) (a.put o.dst v)))
/-- No two of the first n operations leave their values in one slot. -/
def apartB (ops : Array Oper) (n : Nat) : Bool := (List.range n).all fun i => (List.range n).all fun j => decide (i = j) || decide ((ops[i]?).bind (·.dst) = none) || decide ((ops[i]?).bind (·.dst) ≠ (ops[j]?).bind (·.dst))
theorem apartB_spec (h : apartB ops n = true) {i j : Nat} {o p : Oper} {d : Tmp} (hi : i < n) (hj : j < n) (ho : ops[i]? = some o) (hp : ops[j]? = some p) (hd : o.dst = some d) (hij : i ≠ j) : p.dst ≠ some d := by
  have h1 := List.all_eq_true.1 (List.all_eq_true.1 h i (List.mem_range.2 hi)) j (List.mem_range.2 hj)
  simp only [ho, hp, Option.bind_some, hd, Bool.or_eq_true, decide_eq_true_eq] at h1
  rcases h1 with (h1 | h1) | h1
  · exact absurd h1 hij
  · cases h1
  · exact Ne.symm h1
theorem getD_true {listed : Array Bool} {j : Nat} (h : listed.getD j false = true) : listed.getD j true = true := by
  rcases Nat.lt_or_ge j listed.size with h' | h'
  · simp [h'] at h ⊢; exact h
  · simp [Array.getElem?_eq_none h'] at h
theorem put_other (a : Act) (d : Option Tmp) (v : Value) (k : Nat) (h : d ≠ some k) : (a.put d v).tmps[k]? = a.tmps[k]? := by
  cases d with
  | none => rfl
  | some e =>
    have : e ≠ k := fun hk => h (by rw [hk])
    simp only [Act.put]
    rw [Array.getElem?_setIfInBounds_ne this]
theorem put_size (a : Act) (d : Option Tmp) (v : Value) : (a.put d v).tmps.size = a.tmps.size := by
  cases d with
  | none => rfl
  | some e => simp [Act.put]
theorem put_at (a : Act) (d : Nat) (v : Value) (h : d < a.tmps.size) : (a.put (some d) v).tmps[d]? = some v := by
  simp [Act.put, h]
/-- What has been made stays, whatever else comes up. -/
theorem Made.keep {B i : Nat} {listed : Array Bool} {a : Act} {w x : World} {o : Oper} {v : Value} (h : Made ops Z B m listed a w) (hap : apartB ops n = true) (hl : ∀ k, m ≤ k → listed.getD k false = true → k < n) (hi : i < m) (hin : i < n) (ho : ops[i]? = some o) (hb : Below w.heap.size w x) :
    Made ops Z B m (listed.setIfInBounds i true) (a.put o.dst v) x := by
  obtain ⟨G, h1, h2⟩ := h
  have hs : ∀ k, m ≤ k → (listed.setIfInBounds i true).getD k false = true → listed.getD k false = true := fun k hk h => by
    rw [getD_set_ne false (by omega)] at h; exact h
  refine ⟨G, fun k hk hkl => ?_, fun k j hk hj hkl hjl => h2 k j hk hj (hs k hk hkl) (hs j hj hjl)⟩
  obtain ⟨hB, hz, p, d, hp, hd, ht⟩ := h1 k hk (hs k hk hkl)
  have hlt : G k < w.heap.size := (Array.getElem?_eq_some_iff.1 hz).1
  refine ⟨hB, (hb.block _ hlt).trans hz, p, d, hp, hd, ?_⟩
  rw [put_other _ _ _ _ (apartB_spec hap (hl k hk (hs k hk hkl)) hin hp ho hd (by omega))]
  exact ht
theorem Made.more {B i : Nat} {listed : Array Bool} {a : Act} {w : World} {o : Oper} {d : Nat} (h : Made ops Z B m listed a w) (hap : apartB ops n = true) (hl : ∀ k, m ≤ k → listed.getD k false = true → k < n) (hin : i < n) (ho : ops[i]? = some o) (hd : o.dst = some d) (hda : d < a.tmps.size) (hB : B ≤ w.heap.size) :
    Made ops Z B m (listed.setIfInBounds i true) (a.put o.dst (ptr w.heap.size)) (w.alloc (Z i)) := by
  obtain ⟨G, h1, h2⟩ := h
  have hs : ∀ k, k ≠ i → (listed.setIfInBounds i true).getD k false = true → listed.getD k false = true := fun k hk h => by
    rw [getD_set_ne false (Ne.symm hk)] at h; exact h
  obtain ⟨G', hi, hne⟩ : ∃ G' : Nat → Nat, G' i = w.heap.size ∧ ∀ k, k ≠ i → G' k = G k := ⟨fun k => if k = i then w.heap.size else G k, if_pos rfl, fun k h => if_neg h⟩
  refine ⟨G', fun k hk hkl => ?_, fun k j hk hj hkl hjl hkj => ?_⟩
  · by_cases hki : k = i
    · subst hki
      rw [hi]
      refine ⟨hB, by unfold World.alloc; exact Array.getElem?_push_size, o, d, ho, hd, ?_⟩
      rw [hd]
      exact put_at a d _ hda
    · rw [hne k hki]
      obtain ⟨hb, hz, p, e, hp, he, ht⟩ := h1 k hk (hs k hki hkl)
      have hlt : G k < w.heap.size := (Array.getElem?_eq_some_iff.1 hz).1
      refine ⟨hb, (Below.heap_alloc _ _ _ hlt).trans hz, p, e, hp, he, ?_⟩
      rw [put_other _ _ _ _ (apartB_spec hap (hl k hk (hs k hki hkl)) hin hp ho he hki)]
      exact ht
  · have lt : ∀ k, m ≤ k → k ≠ i → (listed.setIfInBounds i true).getD k false = true → G k < w.heap.size := fun k hk hki hkl => by
      obtain ⟨_, hz, _⟩ := h1 k hk (hs k hki hkl)
      exact (Array.getElem?_eq_some_iff.1 hz).1
    by_cases hki : k = i
    · subst hki
      have := lt j hj (Ne.symm hkj) hjl
      rw [hi, hne j (Ne.symm hkj)]
      omega
    · by_cases hji : j = i
      · subst hji
        have := lt k hk hki hkl
        rw [hi, hne k hki]
        omega
      · rw [hne k hki, hne j hji]
        exact h2 k j hk hj (hs k hki hkl) (hs j hji hjl) hkj
theorem EveryW.any {g : Nat} (hap : apartB ops n = true) (hZ : ∀ i, m ≤ i → i < n → Makes P ops i (Z i))
    (hL : ∀ listed a, L listed a → ∀ w, Old W w → Made ops Z W.heap.size m listed a w → wpAny P md ops Q g listed a w) :
    ∀ (f : Nat) (listed : Array Bool) (a : Act) (w : World), Old W w → Made ops Z W.heap.size m listed a w → (∀ k, m ≤ k → listed.getD k false = true → k < n) → (∀ i o d, i < n → ops[i]? = some o → o.dst = some d → d < a.tmps.size) →
      EveryW P md ops W m n L f listed a → wpAny P md ops Q (f + g) listed a w
  | 0, listed, a, w, hS, hM, _, _, h => by rw [Nat.zero_add]; exact hL _ _ h w hS hM
  | f + 1, listed, a, w, hS, hM, hl, hsz, h => by
    rw [Nat.add_right_comm]
    refine ⟨fun h0 => absurd h0 h.1, fun i hi => ?_⟩
    obtain ⟨hin, o, ho, hd⟩ := h.2 i hi
    have hl' : ∀ k, m ≤ k → (listed.setIfInBounds i true).getD k false = true → k < n := fun k hk hkl => by
      by_cases hki : k = i
      · omega
      · rw [getD_set_ne false (Ne.symm hki)] at hkl; exact hl k hk hkl
    have hsz' : ∀ v, ∀ j p d, j < n → ops[j]? = some p → p.dst = some d → d < (a.put o.dst v).tmps.size := fun v j p d hj hp hd => by
      rw [put_size]; exact hsz j p d hj hp hd
    rcases hd with ⟨him, hg⟩ | ⟨him, v, hk, hn⟩
    · obtain ⟨o', d, ho', hd, hw, hr⟩ := hZ i him hin
      obtain rfl : o' = o := Option.some.inj (ho'.symm.trans ho)
      unfold wpOp
      simp only [ho]
      rw [if_pos (hw _)]
      refine .inl ?_
      unfold Oper.wp
      rw [hr]
      exact EveryW.any hap hZ hL f _ _ _ (hS.alloc hS.size _) (hM.more hap hl hin ho hd (hsz i o' d hin ho hd) hS.size) hl' (hsz' _) (hg _)
    · exact hk.step ho hS fun x hx => EveryW.any hap hZ hL f _ _ x (hS.trans (hx.mono hS.size)) (hM.keep hap hl him hin ho hx) hl' (hsz' _) hn
/-- One that may come up now may as well come up first: one that makes nothing. -/
theorem EveryW.first {i : Nat} {oi : Oper} {v : Value} (hi : ops[i]? = some oi) (hsel : ∀ (j : Nat) (o : Oper) cs b, ops[j]? = some o → o.op ≠ .select cs b)
    (hs : Region.sinkB md ops n = true) (hc : Region.chainB md ops n = true) (hn : n < ops.size) (hin : i < n) (him : i < m) (hL : ∀ listed a, L listed a → ∀ j ∈ Region.ready md ops listed, n ≤ j) :
    ∀ (f : Nat) (listed : Array Bool) (a : Act), HeadInv md ops n listed →
      (∀ j oj, ops[j]? = some oj → j ≠ i → listed.getD j true = false → (∀ e ∈ oj.after, Region.binds md e = true → e.on ≠ i) → oi.apart ops oj = true) →
      i ∈ Region.ready md ops listed → Keeps P ops W oi v a → EveryW P md ops W m n L f (listed.setIfInBounds i true) (a.put oi.dst v) → EveryW P md ops W m n L (f + 1) listed a := by
  intro f
  induction f with
  | zero =>
    intro listed a inv _ hr hd H
    refine ⟨List.ne_nil_of_mem hr, fun j hj => ?_⟩
    have hjn : j < n := Nat.lt_of_not_le fun h => tail_waits hs hc hn inv _ i rfl hin (mem_ready.1 hr).1 j h hj
    by_cases hji : j = i
    · subst hji; exact ⟨hjn, oi, hi, .inr ⟨him, v, hd, H⟩⟩
    · exact absurd (hL _ _ H j (ready_mono hj hji)) (Nat.not_le.2 hjn)
  | succ f ih =>
    intro listed a inv hfree hr hd H
    refine ⟨List.ne_nil_of_mem hr, fun j hj => ?_⟩
    have hun := (mem_ready.1 hr).1
    have hjn : j < n := Nat.lt_of_not_le fun h => tail_waits hs hc hn inv _ i rfl hin hun j h hj
    by_cases hji : j = i
    · subst hji; exact ⟨hjn, oi, hi, .inr ⟨him, v, hd, H⟩⟩
    · obtain ⟨_, oj, hoj, hdj⟩ := H.2 j (ready_mono hj hji)
      obtain ⟨hjun, oj', hoj', hall⟩ := mem_ready.1 hj
      obtain rfl : oj' = oj := Option.some.inj (hoj'.symm.trans hoj)
      have hap := hfree j oj' hoj hji hjun fun e he hb heq => by
        have h1 := hall e he hb
        rw [heq, getD_both hun] at h1
        cases h1
      obtain ⟨h1, h2, h3⟩ := Oper.apart_spec hap
      have next : ∀ u, EveryW P md ops W m n L f ((listed.setIfInBounds i true).setIfInBounds j true) ((a.put oi.dst v).put oj'.dst u) → EveryW P md ops W m n L (f + 1) (listed.setIfInBounds j true) (a.put oj'.dst u) := fun u hrest => by
        refine ih (listed.setIfInBounds j true) (a.put oj'.dst u) (inv.set hj hjn) ?_ (ready_mono hr (Ne.symm hji)) (hd.same (execOp_put oi (fun cs b => hsel i oi cs b hi) a oj'.dst u h3) (wanted_put oi a oj'.dst u h3)) ?_
        · intro k ok hk hki hl hno
          refine hfree k ok hk hki ?_ hno
          by_cases hjk : j = k
          · subst hjk; exact hjun
          · rw [getD_set_ne true hjk] at hl; exact hl
        · rw [Array.setIfInBounds_comm _ _ hji, ← Act.put_comm a v u h2]
          exact hrest
      rcases hdj with ⟨hm, hg⟩ | ⟨hm, u, hk, hrest⟩
      · exact ⟨hjn, oj', hoj, .inl ⟨hm, fun g => next _ (hg g)⟩⟩
      · exact ⟨hjn, oj', hoj, .inr ⟨hm, u, hk.same (execOp_put oj' (fun cs b => hsel j oj' cs b hoj) a oi.dst v h1).symm (wanted_put oj' a oi.dst v h1).symm, next u hrest⟩⟩
/-- So may one that makes a block, once all that make nothing have come up. -/
theorem EveryW.make {i : Nat} {oi : Oper} (hi : ops[i]? = some oi)
    (hs : Region.sinkB md ops n = true) (hc : Region.chainB md ops n = true) (hn : n < ops.size) (hin : i < n) (him : m ≤ i) (hL : ∀ listed a, L listed a → ∀ j ∈ Region.ready md ops listed, n ≤ j) :
    ∀ (f : Nat) (listed : Array Bool) (a : Act), HeadInv md ops n listed → (∀ j, j < m → listed.getD j true = true) →
      (∀ j oj, ops[j]? = some oj → j ≠ i → listed.getD j true = false → (∀ e ∈ oj.after, Region.binds md e = true → e.on ≠ i) → oi.apart ops oj = true) →
      i ∈ Region.ready md ops listed → (∀ g, EveryW P md ops W m n L f (listed.setIfInBounds i true) (a.put oi.dst (ptr g))) → EveryW P md ops W m n L (f + 1) listed a := by
  intro f
  induction f with
  | zero =>
    intro listed a inv _ _ hr H
    refine ⟨List.ne_nil_of_mem hr, fun j hj => ?_⟩
    have hjn : j < n := Nat.lt_of_not_le fun h => tail_waits hs hc hn inv _ i rfl hin (mem_ready.1 hr).1 j h hj
    by_cases hji : j = i
    · subst hji; exact ⟨hjn, oi, hi, .inl ⟨him, H⟩⟩
    · exact absurd (hL _ _ (H 0) j (ready_mono hj hji)) (Nat.not_le.2 hjn)
  | succ f ih =>
    intro listed a inv hdone hfree hr H
    refine ⟨List.ne_nil_of_mem hr, fun j hj => ?_⟩
    have hun := (mem_ready.1 hr).1
    have hjn : j < n := Nat.lt_of_not_le fun h => tail_waits hs hc hn inv _ i rfl hin hun j h hj
    by_cases hji : j = i
    · subst hji; exact ⟨hjn, oi, hi, .inl ⟨him, H⟩⟩
    · obtain ⟨hjun, oj, hoj, hall⟩ := mem_ready.1 hj
      have hjm : m ≤ j := Nat.le_of_not_lt fun h => by rw [hdone j h] at hjun; cases hjun
      have hap := hfree j oj hoj hji hjun fun e he hb heq => by
        have h1 := hall e he hb
        rw [heq, getD_both hun] at h1
        cases h1
      obtain ⟨_, h2, _⟩ := Oper.apart_spec hap
      refine ⟨hjn, oj, hoj, .inl ⟨hjm, fun u => ?_⟩⟩
      refine ih (listed.setIfInBounds j true) (a.put oj.dst (ptr u)) (inv.set hj hjn) (fun k hk => ?_) ?_ (ready_mono hr (Ne.symm hji)) fun g => ?_
      · rw [getD_set_ne true (by omega)]; exact hdone k hk
      · intro k ok hk hki hl hno
        refine hfree k ok hk hki ?_ hno
        by_cases hjk : j = k
        · subst hjk; exact hjun
        · rw [getD_set_ne true hjk] at hl; exact hl
      · obtain ⟨_, oj', hoj', hdj⟩ := (H g).2 j (ready_mono hj hji)
        obtain rfl : oj' = oj := Option.some.inj (hoj'.symm.trans hoj)
        rcases hdj with ⟨_, hg⟩ | ⟨hm, _⟩
        · rw [Array.setIfInBounds_comm _ _ hji, ← Act.put_comm a (ptr g) (ptr u) h2]
          exact hg u
        · omega
/-- The operations in the order of the text, number k the first. -/
def TextW (P : Program) (ops : Array Oper) (W : World) (m : Nat) (Q : Act → Prop) : Nat → List Oper → Act → Prop
  | _, [], a => Q a
  | k, o :: l, a => if k < m then ∃ v, Keeps P ops W o v a ∧ TextW P ops W m Q (k + 1) l (a.put o.dst v) else ∀ g, TextW P ops W m Q (k + 1) l (a.put o.dst (ptr g))
theorem TextW.every {g : Nat} {Lq : Act → Prop} (hsel : Region.noSelect ops = true) (hs : Region.sinkB md ops n = true) (hc : Region.chainB md ops n = true) (hn : n < ops.size) :
    ∀ (l : List Oper) (k : Nat) (listed : Array Bool) (a : Act), (∀ j, j < l.length → l[j]? = ops[k + j]?) → k + l.length = n → HeadInv md ops n listed → (∀ j, j < k → listed.getD j false = true) → Region.lexHead md ops g l.length k listed = true → TextW P ops W m Lq k l a →
      EveryW P md ops W m n (fun listed' a' => (Region.seqB md ops g n listed' = true ∧ ∀ j, j < n → listed'.getD j false = true) ∧ Lq a') l.length listed a
  | [], k, listed, a, _, hk, _, hd, hB, h => by
    obtain rfl : k = n := by simpa using hk
    exact ⟨⟨by simpa [Region.lexHead] using hB, hd⟩, h⟩
  | o :: l, k, listed, a, hl, hk, inv, hd, hB, h => by
    have h0 : ops[k]? = some o := by simpa using (hl 0 (by simp)).symm
    simp only [List.length_cons, Region.lexHead, Bool.and_eq_true] at hB
    simp only [List.length_cons] at hk
    have hr : k ∈ Region.ready md ops listed := by simpa using hB.1.1
    have hd' : ∀ j, j < k + 1 → (listed.setIfInBounds k true).getD j false = true := fun j hj => by
      by_cases hjk : k = j
      · subst hjk
        have : k < listed.size := by rw [inv.size]; omega
        simp [this]
      · rw [getD_set_ne false hjk]; exact hd j (by omega)
    have rest : ∀ b, TextW P ops W m Lq (k + 1) l b → EveryW P md ops W m n (fun listed' a' => (Region.seqB md ops g n listed' = true ∧ ∀ j, j < n → listed'.getD j false = true) ∧ Lq a') l.length (listed.setIfInBounds k true) b := fun b hb => by
      refine TextW.every hsel hs hc hn l (k + 1) _ _ (fun j hj => ?_) (by omega) (inv.set hr (by omega)) hd' hB.2 hb
      have := hl (j + 1) (by simpa using hj)
      simpa [Nat.add_assoc, Nat.add_comm 1 j] using this
    unfold TextW at h
    by_cases hkm : k < m
    · rw [if_pos hkm] at h
      obtain ⟨v, hv, ht⟩ := h
      exact EveryW.first h0 (Region.noSelect_spec hsel) hs hc hn (by omega) hkm (fun _ _ hL => seqB_ready hL.1.1) l.length listed a inv (Region.free_spec h0 hB.1.2) hr hv (rest _ ht)
    · rw [if_neg hkm] at h
      exact EveryW.make h0 hs hc hn (by omega) (by omega) (fun _ _ hL => seqB_ready hL.1.1) l.length listed a inv (fun j hj => getD_true (hd j (by omega))) (Region.free_spec h0 hB.1.2) hr fun g => rest _ (h g)
/-- The slots that the first n operations write are there. -/
def roomB (ops : Array Oper) (n size : Nat) : Bool := (List.range n).all fun i => match (ops[i]?).bind (·.dst) with
  | some d => decide (d < size)
  | none => true
/-- A statement that draws its order and makes variables: up to m in the order of the text, then the variables, then the rest. -/
theorem wp_region_textW {id : Nat} {a : Act} {l : List Oper} (Z : Nat → Obj) (m n : Nat) (hm : P.follows .mixedOrders = true) (hB : Region.lexTailB .any l.toArray n = true) (hap : apartB l.toArray n = true) (hroom : roomB l.toArray n a.tmps.size = true)
    (hZ : ∀ i, m ≤ i → i < n → Makes P l.toArray i (Z i))
    (h : TextW P l.toArray W m (fun a' => ∀ x, Old W x → (∀ listed : Array Bool, (∀ j, j < n → listed.getD j false = true) → Made l.toArray Z W.heap.size m listed a' x → wpList P l.toArray Q (l.drop n) a' x)) 0 (l.take n) a) : (Code.region id l.toArray true).wp P Q a W := by
  simp only [Region.lexTailB, Bool.and_eq_true, decide_eq_true_eq] at hB
  obtain ⟨⟨⟨⟨hsel, hn⟩, hs⟩, hc⟩, hlex⟩ := hB
  have hn' : n < l.length := by simpa using hn
  have htl : (l.take n).length = n := by simp; omega
  have inv0 : HeadInv .any l.toArray n (Array.replicate l.toArray.size false) :=
    ⟨by simp, fun j oj _ hj => (by rw [getD_replicate_false] at hj; cases hj), fun t _ ht => getD_in (by simpa using ht) (getD_replicate_false _ _)⟩
  have H := TextW.every (md := .any) (m := m) (g := l.toArray.size - n) hsel hs hc hn (l.take n) 0 _ a (fun j hj => by rw [htl] at hj; simp [hj]) (by simpa using htl) inv0 (fun j hj => absurd hj (Nat.not_lt_zero j)) (by rw [htl]; exact hlex) h
  refine wp_region_any hm ?_
  have hg : (l.drop n).length = l.toArray.size - n := by simp
  have R := EveryW.any (Q := Q) (Z := Z) (g := l.toArray.size - n) hap hZ (fun listed a' hL x hx hM => by
    have := wpAny_of_seq (md := .any) (Q' := Q) (l.drop n) n listed a' x (fun j => by simp [List.getElem?_drop]) (by rw [hg]; exact hL.1.1) (hL.2 x hx listed hL.1.2 hM)
    rwa [hg] at this) _ _ _ W.drew (Below.refl _ W).drew ⟨fun _ => 0, fun i _ hl => (by rw [getD_replicate_false] at hl; cases hl), fun i j _ _ hl => (by rw [getD_replicate_false] at hl; cases hl)⟩
    (fun k _ hl => (by rw [getD_replicate_false] at hl; cases hl)) (fun i o d hi ho hd => by
      have h1 := List.all_eq_true.1 hroom i (List.mem_range.2 hi)
      simp only [ho, Option.bind_some, hd, decide_eq_true_eq] at h1
      exact h1) H
  rw [htl, show n + (l.toArray.size - n) = l.toArray.size by omega] at R
  exact R
/-- What one of them has made. -/
theorem Made.one {B i g : Nat} {listed : Array Bool} {a : Act} {x : World} {o : Oper} {d : Nat} (h : Made ops Z B m listed a x) (hi : m ≤ i) (hl : listed.getD i false = true) (ho : ops[i]? = some o) (hd : o.dst = some d) (hg : a.tmps[d]? = some (ptr g)) : B ≤ g ∧ x.heap[g]? = some (Z i) := by
  obtain ⟨G, h1, _⟩ := h
  obtain ⟨hB, hz, p, e, hp, he, ht⟩ := h1 i hi hl
  obtain rfl : p = o := Option.some.inj (hp.symm.trans ho)
  obtain rfl : e = d := Option.some.inj (he.symm.trans hd)
  have : G i = g := by rw [ht] at hg; simpa using hg
  subst this
  exact ⟨hB, hz⟩
/-- Two of them have made two blocks. -/
theorem Made.two {B i j g g' : Nat} {listed : Array Bool} {a : Act} {x : World} {o p : Oper} {d e : Nat} (h : Made ops Z B m listed a x) (hi : m ≤ i) (hj : m ≤ j) (hij : i ≠ j) (hl : listed.getD i false = true) (hl' : listed.getD j false = true)
    (ho : ops[i]? = some o) (hd : o.dst = some d) (hg : a.tmps[d]? = some (ptr g)) (hp : ops[j]? = some p) (he : p.dst = some e) (hg' : a.tmps[e]? = some (ptr g')) : g ≠ g' := by
  obtain ⟨G, h1, h2⟩ := h
  have key : ∀ k g o d, m ≤ k → listed.getD k false = true → ops[k]? = some o → o.dst = some d → a.tmps[d]? = some (ptr g) → G k = g := fun k g o d hk hl ho hd hg => by
    obtain ⟨_, _, p, e, hp, he, ht⟩ := h1 k hk hl
    obtain rfl : p = o := Option.some.inj (hp.symm.trans ho)
    obtain rfl : e = d := Option.some.inj (he.symm.trans hd)
    rw [ht] at hg
    simpa using hg
  rw [← key i g o d hi hl ho hd hg, ← key j g' p e hj hl' hp he hg']
  exact h2 i j hi hj hl hl' hij
/-! ### One operation -/
theorem TextW.sees {Lq : Act → Prop} {o : Oper} {l : List Oper} {a : Act} {k : Nat} (v : Value) (h : ∀ w, Old W w → ∀ K : Next → World → Prop, K (.value v) w → Sees P ops o a w K) (hw : Region.wanted o (yielded ops a.tmps) = true) (hk : k < m) (hn : TextW P ops W m Lq (k + 1) l (a.put o.dst v)) : TextW P ops W m Lq k (o :: l) a := by
  unfold TextW
  rw [if_pos hk]
  refine ⟨v, .inl ⟨hw, fun w hS => .inl ?_⟩, hn⟩
  have g := h w hS (fun n x => n = .value v ∧ x = w) ⟨rfl, rfl⟩
  unfold Sees at g
  rw [if_pos hw] at g
  generalize (execOp a.eval o).run P w = r at g ⊢
  cases r with
  | ok n x => obtain ⟨rfl, rfl⟩ := g; exact ⟨_, rfl, Below.refl _ _⟩
  | halt e x => exact g.elim
theorem TextW.call {Lq : Act → Prop} {o : Oper} {l : List Oper} {a : Act} {k F : Nat} {args : Array Value} {v : Value} (c : ∀ w, Old W w → Calls P F args w fun e y => e = .returned v ∧ Below w.heap.size w y) (hw : Region.wanted o (yielded ops a.tmps) = true)
    (he : ∀ w, (execOp a.eval o).run P w = .ok (.enter F args) w) (hk : k < m) (hn : TextW P ops W m Lq (k + 1) l (a.put o.dst v)) : TextW P ops W m Lq k (o :: l) a := by
  unfold TextW
  rw [if_pos hk]
  exact ⟨v, .inl ⟨hw, fun w hS => .inr (.inr ⟨F, args, w, he w, c w hS⟩)⟩, hn⟩
theorem TextW.make {Lq : Act → Prop} {o : Oper} {l : List Oper} {a : Act} {k : Nat} (hk : m ≤ k) (hn : ∀ g, TextW P ops W m Lq (k + 1) l (a.put o.dst (ptr g))) : TextW P ops W m Lq k (o :: l) a := by
  unfold TextW
  rw [if_neg (Nat.not_lt.2 hk)]
  exact hn
end
end Go.Proofs.Ytjfjekncmejfpaa
namespace Go.Proofs.Ytjfjekncmejfpaa
open Go.RowKit

/-- A result that hands on a value and a world of R. -/
def GivesV (P : Program) (R : Value → World → Prop) (r : Result Next) : Prop :=
  (∃ v x, r = .ok (.value v) x ∧ R v x) ∨ ∃ f args x, r = .ok (.enter f args) x ∧ Calls P f args x fun e y => ∃ v, e = .returned v ∧ R v y
/-- In whatever world that holds what stood in W, the operation leaves a value and a world of V, and touches nothing that stands. -/
def Loud (P : Program) (ops : Array Oper) (W : World) (o : Oper) (V : Value → World → Prop) (a : Act) : Prop :=
  Region.wanted o (yielded ops a.tmps) = true ∧ ∀ w, Old W w → GivesV P (fun v y => V v y ∧ Below w.heap.size w y) ((execOp a.eval o).run P w)
section
variable {P : Program} {ops : Array Oper} {md : Region.Mode} {Q : Exit → Act → World → Prop} {n : Nat}

theorem Old.trans {W x y : World} (h : Old W x) (k : Below x.heap.size x y) : Old W y := Below.trans h (k.mono h.size)
theorem Old.old {W x y : World} (h : Old W x) (k : Old x y) : Old W y := Old.trans h k
theorem Keeps.mono {W W' : World} {o : Oper} {v : Value} {a : Act} (h : Keeps P ops W o v a) (hW : Old W W') : Keeps P ops W' o v a := by
  rcases h with ⟨hw, hg⟩ | h
  · exact .inl ⟨hw, fun w hS => hg w (hW.old hS)⟩
  · exact .inr h
theorem Loud.mono {W W' : World} {o : Oper} {V : Value → World → Prop} {a : Act} (h : Loud P ops W o V a) (hW : Old W W') : Loud P ops W' o V a := ⟨h.1, fun w hS => h.2 w (hW.old hS)⟩
theorem Loud.same {W : World} {o : Oper} {V : Value → World → Prop} {a b : Act} (h : Loud P ops W o V a) (he : execOp b.eval o = execOp a.eval o) (hw : Region.wanted o (yielded ops b.tmps) = Region.wanted o (yielded ops a.tmps)) : Loud P ops W o V b := by
  unfold Loud
  rw [he, hw]
  exact h
theorem Loud.step {W : World} {o : Oper} {V : Value → World → Prop} {a : Act} {i : Nat} {w : World} {K : Act → World → Prop} (hi : ops[i]? = some o) (h : Loud P ops W o V a) (hS : Old W w) (hK : ∀ v x, V v x → Below w.heap.size w x → K (a.put o.dst v) x) : wpOp P ops Q i K a w := by
  unfold wpOp
  simp only [hi]
  rw [if_pos h.1]
  refine .inl ?_
  have g := h.2 w hS
  unfold Oper.wp
  rcases g with ⟨v, x, hr, hx, hb⟩ | ⟨f, args, x, hr, hx⟩ <;> rw [hr]
  · exact hK v x hx hb
  · exact Calls.mono hx fun e y hy => by obtain ⟨v, rfl, hy, hb⟩ := hy; exact hK v y hy hb
/-- Whatever order the first n operations come up in. -/
def EveryV (P : Program) (md : Region.Mode) (ops : Array Oper) (n : Nat) (L : Array Bool → Act → World → Prop) : Nat → Array Bool → Act → World → Prop
  | 0, listed, a, W => L listed a W
  | f + 1, listed, a, W => Region.ready md ops listed ≠ [] ∧ ∀ i ∈ Region.ready md ops listed, i < n ∧ ∃ o, ops[i]? = some o ∧
      ((∃ v, Keeps P ops W o v a ∧ EveryV P md ops n L f (listed.setIfInBounds i true) (a.put o.dst v) W) ∨
       ∃ V, Loud P ops W o V a ∧ ∀ v y, V v y → Old W y → EveryV P md ops n L f (listed.setIfInBounds i true) (a.put o.dst v) y)
variable {L : Array Bool → Act → World → Prop}
theorem EveryV.mono (hLm : ∀ listed a W W', Old W W' → L listed a W → L listed a W') :
    ∀ (f : Nat) (listed : Array Bool) (a : Act) (W W' : World), Old W W' → EveryV P md ops n L f listed a W → EveryV P md ops n L f listed a W'
  | 0, listed, a, W, W', hW, h => hLm _ _ _ _ hW h
  | f + 1, listed, a, W, W', hW, h => by
    refine ⟨h.1, fun i hi => ?_⟩
    obtain ⟨hin, o, ho, hh⟩ := h.2 i hi
    refine ⟨hin, o, ho, ?_⟩
    rcases hh with ⟨v, hk, hn⟩ | ⟨V, hl, hn⟩
    · exact .inl ⟨v, hk.mono hW, EveryV.mono hLm f _ _ _ _ hW hn⟩
    · exact .inr ⟨V, hl.mono hW, fun v y hv hy => hn v y hv (hW.old hy)⟩
theorem EveryV.any {g : Nat} (hL : ∀ listed a W, L listed a W → ∀ w, Old W w → wpAny P md ops Q g listed a w) :
    ∀ (f : Nat) (listed : Array Bool) (a : Act) (W w : World), Old W w → EveryV P md ops n L f listed a W → wpAny P md ops Q (f + g) listed a w
  | 0, listed, a, W, w, hS, h => by rw [Nat.zero_add]; exact hL _ _ _ h w hS
  | f + 1, listed, a, W, w, hS, h => by
    rw [Nat.add_right_comm]
    refine ⟨fun h0 => absurd h0 h.1, fun i hi => ?_⟩
    obtain ⟨_, o, ho, hh⟩ := h.2 i hi
    rcases hh with ⟨v, hk, hn⟩ | ⟨V, hl, hn⟩
    · exact hk.step ho hS fun x hx => EveryV.any hL f _ _ W x (hS.trans hx) hn
    · exact hl.step ho hS fun v x hv hx => EveryV.any hL f _ _ x x (Below.refl _ _) (hn v x hv (hS.trans hx))
/-- A still one that may come up now may as well come up first. -/
theorem EveryV.first {i : Nat} {oi : Oper} {v : Value} (hi : ops[i]? = some oi) (hsel : ∀ (j : Nat) (o : Oper) cs b, ops[j]? = some o → o.op ≠ .select cs b)
    (hs : Region.sinkB md ops n = true) (hc : Region.chainB md ops n = true) (hn : n < ops.size) (hin : i < n) (hL : ∀ listed a W, L listed a W → ∀ j ∈ Region.ready md ops listed, n ≤ j) :
    ∀ (f : Nat) (listed : Array Bool) (a : Act) (W : World), HeadInv md ops n listed →
      (∀ j oj, ops[j]? = some oj → j ≠ i → listed.getD j true = false → (∀ e ∈ oj.after, Region.binds md e = true → e.on ≠ i) → oi.apart ops oj = true) →
      i ∈ Region.ready md ops listed → Keeps P ops W oi v a → EveryV P md ops n L f (listed.setIfInBounds i true) (a.put oi.dst v) W → EveryV P md ops n L (f + 1) listed a W := by
  intro f
  induction f with
  | zero =>
    intro listed a W inv _ hr hd H
    refine ⟨List.ne_nil_of_mem hr, fun j hj => ?_⟩
    have hjn : j < n := Nat.lt_of_not_le fun h => tail_waits hs hc hn inv _ i rfl hin (mem_ready.1 hr).1 j h hj
    by_cases hji : j = i
    · subst hji; exact ⟨hjn, oi, hi, .inl ⟨v, hd, H⟩⟩
    · exact absurd (hL _ _ _ H j (ready_mono hj hji)) (Nat.not_le.2 hjn)
  | succ f ih =>
    intro listed a W inv hfree hr hd H
    refine ⟨List.ne_nil_of_mem hr, fun j hj => ?_⟩
    have hun := (mem_ready.1 hr).1
    have hjn : j < n := Nat.lt_of_not_le fun h => tail_waits hs hc hn inv _ i rfl hin hun j h hj
    by_cases hji : j = i
    · subst hji; exact ⟨hjn, oi, hi, .inl ⟨v, hd, H⟩⟩
    · obtain ⟨_, oj, hoj, hh⟩ := H.2 j (ready_mono hj hji)
      obtain ⟨hjun, oj', hoj', hall⟩ := mem_ready.1 hj
      obtain rfl : oj' = oj := Option.some.inj (hoj'.symm.trans hoj)
      have hap := hfree j oj' hoj hji hjun fun e he hb heq => by
        have h1 := hall e he hb
        rw [heq, getD_both hun] at h1
        cases h1
      obtain ⟨h1, h2, h3⟩ := Oper.apart_spec hap
      have hx := (execOp_put oj' (fun cs b => hsel j oj' cs b hoj) a oi.dst v h1).symm
      have hwn := (wanted_put oj' a oi.dst v h1).symm
      have go : ∀ u W', Old W W' → EveryV P md ops n L f ((listed.setIfInBounds i true).setIfInBounds j true) ((a.put oi.dst v).put oj'.dst u) W' → EveryV P md ops n L (f + 1) (listed.setIfInBounds j true) (a.put oj'.dst u) W' := by
        intro u W' hW' hrest
        refine ih (listed.setIfInBounds j true) (a.put oj'.dst u) W' (inv.set hj hjn) ?_ (ready_mono hr (Ne.symm hji)) ((hd.mono hW').same (execOp_put oi (fun cs b => hsel i oi cs b hi) a oj'.dst u h3) (wanted_put oi a oj'.dst u h3)) ?_
        · intro k ok hk hki hl hno
          refine hfree k ok hk hki ?_ hno
          by_cases hjk : j = k
          · subst hjk; exact hjun
          · rw [getD_set_ne true hjk] at hl; exact hl
        · rw [Array.setIfInBounds_comm _ _ hji, ← Act.put_comm a v u h2]
          exact hrest
      refine ⟨hjn, oj', hoj, ?_⟩
      rcases hh with ⟨u, hk, hrest⟩ | ⟨V, hl, hrest⟩
      · exact .inl ⟨u, hk.same hx hwn, go u W (Below.refl _ _) hrest⟩
      · exact .inr ⟨V, hl.same hx hwn, fun u y hu hy => go u y hy (hrest u y hu hy)⟩
/-- The operations of a plan. -/
def pick (l : List Oper) : List (Nat × Bool) → List (Oper × Bool)
  | [] => []
  | (i, s) :: p => match l[i]? with
    | some o => (o, s) :: pick l p
    | none => []
/-- Each may come up when its turn is, still ones at any time, loud ones where nothing else can. -/
def planB (md : Region.Mode) (ops : Array Oper) (g n : Nat) : List (Nat × Bool) → Array Bool → Bool
  | [], listed => Region.seqB md ops g n listed
  | (i, s) :: p, listed => decide (i < n) && (Region.ready md ops listed).contains i && (bif s then Region.free md ops listed i else decide (Region.ready md ops listed = [i])) && planB md ops g n p (listed.setIfInBounds i true)
def TextV (P : Program) (ops : Array Oper) (R : Act → World → Prop) : List (Oper × Bool) → Act → World → Prop
  | [], a, W => ∀ x, Old W x → R a x
  | (o, true) :: p, a, W => ∃ v, Keeps P ops W o v a ∧ TextV P ops R p (a.put o.dst v) W
  | (o, false) :: p, a, W => ∃ V, Loud P ops W o V a ∧ ∀ v y, V v y → Old W y → TextV P ops R p (a.put o.dst v) y
theorem TextV.every {g : Nat} {R : Act → World → Prop} {l : List Oper} (hl : l.toArray = ops) (hsel : Region.noSelect ops = true) (hs : Region.sinkB md ops n = true) (hc : Region.chainB md ops n = true) (hn : n < ops.size) :
    ∀ (p : List (Nat × Bool)) (listed : Array Bool) (a : Act) (W : World), HeadInv md ops n listed → planB md ops g n p listed = true → TextV P ops R (pick l p) a W →
      EveryV P md ops n (fun listed' a' W' => Region.seqB md ops g n listed' = true ∧ ∀ x, Old W' x → R a' x) p.length listed a W
  | [], listed, a, W, _, hB, h => ⟨hB, h⟩
  | (i, s) :: p, listed, a, W, inv, hB, h => by
    simp only [planB, Bool.and_eq_true, decide_eq_true_eq] at hB
    obtain ⟨⟨⟨hin, hr⟩, hk⟩, hrest⟩ := hB
    have hr : i ∈ Region.ready md ops listed := by simpa using hr
    have hi' : i < l.length := by rw [← hl] at hn; simp at hn; omega
    have ho : l[i]? = some l[i] := List.getElem?_eq_getElem hi'
    have h0 : ops[i]? = some l[i] := by rw [← hl]; simp [hi']
    have e : pick l ((i, s) :: p) = (l[i], s) :: pick l p := by
      rw [pick, ho]
    rw [e] at h
    have inv' := inv.set hr hin
    cases s with
    | true =>
      obtain ⟨v, hv, ht⟩ := h
      refine EveryV.first h0 (Region.noSelect_spec hsel) hs hc hn hin (fun _ _ _ hL => seqB_ready hL.1) p.length listed a W inv (Region.free_spec h0 hk) hr hv ?_
      exact TextV.every hl hsel hs hc hn p _ _ W inv' hrest ht
    | false =>
      obtain ⟨V, hv, ht⟩ := h
      have hone : Region.ready md ops listed = [i] := by simpa using hk
      refine ⟨List.ne_nil_of_mem hr, fun j hj => ?_⟩
      obtain rfl : j = i := by rw [hone] at hj; simpa using hj
      exact ⟨hin, _, h0, .inr ⟨V, hv, fun v y hvy hy => TextV.every hl hsel hs hc hn p _ _ y inv' hrest (ht v y hvy hy)⟩⟩
/-- What must be asked of a plan. -/
def planOk (l : List Oper) (n : Nat) (p : List (Nat × Bool)) : Bool :=
  Region.noSelect l.toArray && decide (n < l.toArray.size) && Region.sinkB .any l.toArray n && Region.chainB .any l.toArray n && decide (p.length = n) && planB .any l.toArray (l.toArray.size - n) n p (Array.replicate l.toArray.size false)
/-- A statement that draws its order, by a plan; the rest as it must come. -/
theorem wp_region_plan {id : Nat} {a : Act} {W : World} {l : List Oper} (n : Nat) (p : List (Nat × Bool)) (hm : P.follows .mixedOrders = true) (hB : planOk l n p = true)
    (h : TextV P l.toArray (fun a' x => wpList P l.toArray Q (l.drop n) a' x) (pick l p) a W) : (Code.region id l.toArray true).wp P Q a W := by
  simp only [planOk, Bool.and_eq_true, decide_eq_true_eq] at hB
  obtain ⟨⟨⟨⟨⟨hsel, hn⟩, hs⟩, hc⟩, hp⟩, hlex⟩ := hB
  have inv0 : HeadInv .any l.toArray n (Array.replicate l.toArray.size false) :=
    ⟨by simp, fun j oj _ hj => (by rw [getD_replicate_false] at hj; cases hj), fun t _ ht => getD_in (by simpa using ht) (getD_replicate_false _ _)⟩
  have H := TextV.every (md := .any) (g := l.toArray.size - n) (l := l) rfl hsel hs hc hn p _ a W inv0 hlex h
  refine wp_region_any hm ?_
  have hg : (l.drop n).length = l.toArray.size - n := by simp
  have hn' : n < l.length := by simpa using hn
  have hA := EveryV.any (Q := Q) (g := l.toArray.size - n) (fun listed a' W' hL x hx => by
    have := wpAny_of_seq (md := .any) (Q' := Q) (l.drop n) n listed a' x (fun j => by simp [List.getElem?_drop]) (by rw [hg]; exact hL.1) (hL.2 x hx)
    rwa [hg] at this) _ _ _ W W.drew (Below.refl _ W).drew H
  rw [hp, show n + (l.toArray.size - n) = l.toArray.size by simp; omega] at hA
  exact hA
/-! ### One operation -/
variable {R : Act → World → Prop} {W : World} {o : Oper} {l : List (Oper × Bool)} {a : Act}
theorem TextV.sees (v : Value) (h : ∀ w, Old W w → ∀ K : Next → World → Prop, K (.value v) w → Sees P ops o a w K) (hw : Region.wanted o (yielded ops a.tmps) = true) (hn : TextV P ops R l (a.put o.dst v) W) : TextV P ops R ((o, true) :: l) a W := by
  refine ⟨v, .inl ⟨hw, fun w hS => .inl ?_⟩, hn⟩
  have g := h w hS (fun n x => n = .value v ∧ x = w) ⟨rfl, rfl⟩
  unfold Sees at g
  rw [if_pos hw] at g
  generalize (execOp a.eval o).run P w = r at g ⊢
  cases r with
  | ok n x => obtain ⟨rfl, rfl⟩ := g; exact ⟨_, rfl, Below.refl _ _⟩
  | halt e x => exact g.elim
theorem TextV.idle (h : ∀ w, Old W w → ∀ K : Next → World → Prop, K .skip w → Sees P ops o a w K) (hn : TextV P ops R l (a.put o.dst undef) W) : TextV P ops R ((o, true) :: l) a W := by
  refine ⟨undef, ?_, hn⟩
  by_cases hw : Region.wanted o (yielded ops a.tmps) = true
  · refine .inl ⟨hw, fun w hS => .inr (.inl ?_)⟩
    have g := h w hS (fun n x => n = .skip ∧ x = w) ⟨rfl, rfl⟩
    unfold Sees at g
    rw [if_pos hw] at g
    generalize (execOp a.eval o).run P w = r at g ⊢
    cases r with
    | ok n x => obtain ⟨rfl, rfl⟩ := g; exact ⟨_, rfl, rfl, Below.refl _ _⟩
    | halt e x => exact g.elim
  · exact .inr ⟨by simpa using hw, rfl⟩
theorem TextV.call {F : Nat} {args : Array Value} {v : Value} (c : ∀ w, Old W w → Calls P F args w fun e y => e = .returned v ∧ Below w.heap.size w y) (hw : Region.wanted o (yielded ops a.tmps) = true)
    (he : ∀ w, (execOp a.eval o).run P w = .ok (.enter F args) w) (hn : TextV P ops R l (a.put o.dst v) W) : TextV P ops R ((o, true) :: l) a W :=
  ⟨v, .inl ⟨hw, fun w hS => .inr (.inr ⟨F, args, w, he w, c w hS⟩)⟩, hn⟩
theorem TextV.val {v : Value} (h : ∀ w, Old W w → (execOp a.eval o).run P w = .ok (.value v) w) (hw : Region.wanted o (yielded ops a.tmps) = true) (hn : TextV P ops R l (a.put o.dst v) W) : TextV P ops R ((o, true) :: l) a W :=
  ⟨v, .inl ⟨hw, fun w hS => .inl ⟨w, h w hS, Below.refl _ _⟩⟩, hn⟩
theorem TextV.loud {F : Nat} {args : Array Value} {V : Value → World → Prop} (c : ∀ w, Old W w → Calls P F args w fun e y => ∃ v, e = .returned v ∧ V v y ∧ Below w.heap.size w y) (hw : Region.wanted o (yielded ops a.tmps) = true)
    (he : ∀ w, (execOp a.eval o).run P w = .ok (.enter F args) w) (hn : ∀ v y, V v y → Old W y → TextV P ops R l (a.put o.dst v) y) : TextV P ops R ((o, false) :: l) a W :=
  ⟨V, ⟨hw, fun w hS => .inr ⟨F, args, w, he w, c w hS⟩⟩, hn⟩
theorem TextV.done (h : ∀ x, Old W x → R a x) : TextV P ops R [] a W := h
end
section
variable {P : Program} {ops : Array Oper} {R : Act → World → Prop} {W : World} {o : Oper} {l : List (Oper × Bool)} {a : Act}
theorem TextV.loudv {V : Value → World → Prop} (c : ∀ w, Old W w → ∃ v x, (execOp a.eval o).run P w = .ok (.value v) x ∧ V v x ∧ Below w.heap.size w x) (hw : Region.wanted o (yielded ops a.tmps) = true)
    (hn : ∀ v y, V v y → Old W y → TextV P ops R l (a.put o.dst v) y) : TextV P ops R ((o, false) :: l) a W :=
  ⟨V, ⟨hw, fun w hS => .inl (c w hS)⟩, hn⟩
end
end Go.Proofs.Ytjfjekncmejfpaa
namespace Go.Proofs.Ytjfjekncmejfpaa
open Go.RowKit

/-- All that stood stands, but for the blocks of M. -/
structure Near (M : Nat → Prop) (w w' : World) : Prop where
  os : w'.os = w.os
  tape : w'.tape = w.tape
  output : w'.output = w.output
  size : w.heap.size ≤ w'.heap.size
  block : ∀ i, i < w.heap.size → ¬ M i → w'.heap[i]? = w.heap[i]?
section
variable {P : Program} {ops : Array Oper} {md : Region.Mode} {Q : Exit → Act → World → Prop} {n : Nat} {M M' : Nat → Prop}
theorem Near.of {w w' : World} (h : Old w w') : Near M w w' := ⟨h.os, h.tape, h.output, h.size, fun i hi _ => h.block i hi⟩
theorem Near.trans {a b c : World} (h : Near M a b) (k : Near M' b c) (hM : ∀ i, M' i → M i) : Near M a c :=
  ⟨k.os.trans h.os, k.tape.trans h.tape, k.output.trans h.output, Nat.le_trans h.size k.size, fun i hi hn => (k.block i (Nat.lt_of_lt_of_le hi h.size) (fun e => hn (hM i e))).trans (h.block i hi hn)⟩
theorem Near.cell {w w' : World} (h : Near M w w') {b o : Nat} (hb : b < w.heap.size) (hM : ¬ M b) : w'.cell? ⟨b, o, none⟩ = w.cell? ⟨b, o, none⟩ := World.cell?_of_block (h.block b hb hM)
def KeepsU (P : Program) (ops : Array Oper) (M : Nat → Prop) (W : World) (o : Oper) (v : Value) (a : Act) : Prop :=
  (Region.wanted o (yielded ops a.tmps) = true ∧ ∀ w, Near M W w → Gives P (fun x => Below w.heap.size w x) v ((execOp a.eval o).run P w)) ∨ (Region.wanted o (yielded ops a.tmps) = false ∧ v = undef)
def LoudU (P : Program) (ops : Array Oper) (M : Nat → Prop) (W : World) (o : Oper) (V : Value → World → Prop) (a : Act) : Prop :=
  Region.wanted o (yielded ops a.tmps) = true ∧ ∀ w, Old W w → GivesV P (fun v y => V v y ∧ Near M w y) ((execOp a.eval o).run P w)
theorem KeepsU.keeps {W : World} {o : Oper} {v : Value} {a : Act} (h : KeepsU P ops M W o v a) : Keeps P ops W o v a := by
  rcases h with ⟨hw, hg⟩ | h
  · exact .inl ⟨hw, fun w hS => hg w (Near.of hS)⟩
  · exact .inr h
theorem KeepsU.mono {W W' : World} {o : Oper} {v : Value} {a : Act} (h : KeepsU P ops M W o v a) (hW : Near M W W') (hM : ∀ i, M' i → M i) : KeepsU P ops M' W' o v a := by
  rcases h with ⟨hw, hg⟩ | h
  · exact .inl ⟨hw, fun w hS => hg w (hW.trans hS hM)⟩
  · exact .inr h
theorem KeepsU.same {W : World} {o : Oper} {v : Value} {a b : Act} (h : KeepsU P ops M W o v a) (he : execOp b.eval o = execOp a.eval o) (hw : Region.wanted o (yielded ops b.tmps) = Region.wanted o (yielded ops a.tmps)) : KeepsU P ops M W o v b := by
  unfold KeepsU
  rw [he, hw]
  exact h
theorem LoudU.same {W : World} {o : Oper} {V : Value → World → Prop} {a b : Act} (h : LoudU P ops M W o V a) (he : execOp b.eval o = execOp a.eval o) (hw : Region.wanted o (yielded ops b.tmps) = Region.wanted o (yielded ops a.tmps)) : LoudU P ops M W o V b := by
  unfold LoudU
  rw [he, hw]
  exact h
theorem LoudU.step {W : World} {o : Oper} {V : Value → World → Prop} {a : Act} {i : Nat} {w : World} {K : Act → World → Prop} (hi : ops[i]? = some o) (h : LoudU P ops M W o V a) (hS : Old W w) (hK : ∀ v x, V v x → Near M w x → K (a.put o.dst v) x) : wpOp P ops Q i K a w := by
  unfold wpOp
  simp only [hi]
  rw [if_pos h.1]
  refine .inl ?_
  have g := h.2 w hS
  unfold Oper.wp
  rcases g with ⟨v, x, hr, hx, hb⟩ | ⟨f, args, x, hr, hx⟩ <;> rw [hr]
  · exact hK v x hx hb
  · exact Calls.mono hx fun e y hy => by obtain ⟨v, rfl, hy, hb⟩ := hy; exact hK v y hy hb
/-- Whatever order the first n operations come up in. -/
def EveryU (P : Program) (md : Region.Mode) (ops : Array Oper) (n : Nat) (L : Array Bool → Act → World → Prop) : Nat → (Nat → Prop) → Array Bool → Act → World → Prop
  | 0, _, listed, a, W => L listed a W
  | f + 1, M, listed, a, W => Region.ready md ops listed ≠ [] ∧ ∀ i ∈ Region.ready md ops listed, i < n ∧ ∃ o, ops[i]? = some o ∧
      ((∃ v, KeepsU P ops M W o v a ∧ EveryU P md ops n L f M (listed.setIfInBounds i true) (a.put o.dst v) W) ∨
       ∃ V M', (∀ i, M' i → M i) ∧ LoudU P ops M W o V a ∧ ∀ v y, V v y → Near M W y → EveryU P md ops n L f M' (listed.setIfInBounds i true) (a.put o.dst v) y)
variable {L : Array Bool → Act → World → Prop}
theorem EveryU.any {g : Nat} (hL : ∀ listed a W, L listed a W → ∀ w, Old W w → wpAny P md ops Q g listed a w) :
    ∀ (f : Nat) (M : Nat → Prop) (listed : Array Bool) (a : Act) (W w : World), Old W w → EveryU P md ops n L f M listed a W → wpAny P md ops Q (f + g) listed a w
  | 0, M, listed, a, W, w, hS, h => by rw [Nat.zero_add]; exact hL _ _ _ h w hS
  | f + 1, M, listed, a, W, w, hS, h => by
    rw [Nat.add_right_comm]
    refine ⟨fun h0 => absurd h0 h.1, fun i hi => ?_⟩
    obtain ⟨_, o, ho, hh⟩ := h.2 i hi
    rcases hh with ⟨v, hk, hn⟩ | ⟨V, M', hM, hl, hn⟩
    · exact hk.keeps.step ho hS fun x hx => EveryU.any hL f _ _ _ W x (hS.trans hx) hn
    · exact hl.step ho hS fun v x hv hx => EveryU.any hL f _ _ _ x x (Below.refl _ _) (hn v x hv ((Near.of hS).trans hx fun _ h => h))
/-- A still one that may come up now may as well come up first. -/
theorem EveryU.first {i : Nat} {oi : Oper} {v : Value} (hi : ops[i]? = some oi) (hsel : ∀ (j : Nat) (o : Oper) cs b, ops[j]? = some o → o.op ≠ .select cs b)
    (hs : Region.sinkB md ops n = true) (hc : Region.chainB md ops n = true) (hn : n < ops.size) (hin : i < n) (hL : ∀ listed a W, L listed a W → ∀ j ∈ Region.ready md ops listed, n ≤ j) :
    ∀ (f : Nat) (M : Nat → Prop) (listed : Array Bool) (a : Act) (W : World), HeadInv md ops n listed →
      (∀ j oj, ops[j]? = some oj → j ≠ i → listed.getD j true = false → (∀ e ∈ oj.after, Region.binds md e = true → e.on ≠ i) → oi.apart ops oj = true) →
      i ∈ Region.ready md ops listed → KeepsU P ops M W oi v a → EveryU P md ops n L f M (listed.setIfInBounds i true) (a.put oi.dst v) W → EveryU P md ops n L (f + 1) M listed a W := by
  intro f
  induction f with
  | zero =>
    intro M listed a W inv _ hr hd H
    refine ⟨List.ne_nil_of_mem hr, fun j hj => ?_⟩
    have hjn : j < n := Nat.lt_of_not_le fun h => tail_waits hs hc hn inv _ i rfl hin (mem_ready.1 hr).1 j h hj
    by_cases hji : j = i
    · subst hji; exact ⟨hjn, oi, hi, .inl ⟨v, hd, H⟩⟩
    · exact absurd (hL _ _ _ H j (ready_mono hj hji)) (Nat.not_le.2 hjn)
  | succ f ih =>
    intro M listed a W inv hfree hr hd H
    refine ⟨List.ne_nil_of_mem hr, fun j hj => ?_⟩
    have hun := (mem_ready.1 hr).1
    have hjn : j < n := Nat.lt_of_not_le fun h => tail_waits hs hc hn inv _ i rfl hin hun j h hj
    by_cases hji : j = i
    · subst hji; exact ⟨hjn, oi, hi, .inl ⟨v, hd, H⟩⟩
    · obtain ⟨_, oj, hoj, hh⟩ := H.2 j (ready_mono hj hji)
      obtain ⟨hjun, oj', hoj', hall⟩ := mem_ready.1 hj
      obtain rfl : oj' = oj := Option.some.inj (hoj'.symm.trans hoj)
      have hap := hfree j oj' hoj hji hjun fun e he hb heq => by
        have h1 := hall e he hb
        rw [heq, getD_both hun] at h1
        cases h1
      obtain ⟨h1, h2, h3⟩ := Oper.apart_spec hap
      have hx := (execOp_put oj' (fun cs b => hsel j oj' cs b hoj) a oi.dst v h1).symm
      have hwn := (wanted_put oj' a oi.dst v h1).symm
      have go : ∀ u M' W', (∀ i, M' i → M i) → Near M W W' → EveryU P md ops n L f M' ((listed.setIfInBounds i true).setIfInBounds j true) ((a.put oi.dst v).put oj'.dst u) W' → EveryU P md ops n L (f + 1) M' (listed.setIfInBounds j true) (a.put oj'.dst u) W' := by
        intro u M' W' hM' hW' hrest
        refine ih M' (listed.setIfInBounds j true) (a.put oj'.dst u) W' (inv.set hj hjn) ?_ (ready_mono hr (Ne.symm hji)) ((hd.mono hW' hM').same (execOp_put oi (fun cs b => hsel i oi cs b hi) a oj'.dst u h3) (wanted_put oi a oj'.dst u h3)) ?_
        · intro k ok hk hki hl hno
          refine hfree k ok hk hki ?_ hno
          by_cases hjk : j = k
          · subst hjk; exact hjun
          · rw [getD_set_ne true hjk] at hl; exact hl
        · rw [Array.setIfInBounds_comm _ _ hji, ← Act.put_comm a v u h2]
          exact hrest
      refine ⟨hjn, oj', hoj, ?_⟩
      rcases hh with ⟨u, hk, hrest⟩ | ⟨V, M', hM', hl, hrest⟩
      · exact .inl ⟨u, hk.same hx hwn, go u M W (fun _ h => h) (Near.of (Below.refl _ _)) hrest⟩
      · exact .inr ⟨V, M', hM', hl.same hx hwn, fun u y hu hy => go u M' y hM' hy (hrest u y hu hy)⟩
def TextU (P : Program) (ops : Array Oper) (R : Act → World → Prop) : List (Oper × Bool) → (Nat → Prop) → Act → World → Prop
  | [], _, a, W => ∀ x, Old W x → R a x
  | (o, true) :: p, M, a, W => ∃ v, KeepsU P ops M W o v a ∧ TextU P ops R p M (a.put o.dst v) W
  | (o, false) :: p, M, a, W => ∃ V M', (∀ i, M' i → M i) ∧ LoudU P ops M W o V a ∧ ∀ v y, V v y → Near M W y → TextU P ops R p M' (a.put o.dst v) y
theorem TextU.every {g : Nat} {R : Act → World → Prop} {l : List Oper} (hl : l.toArray = ops) (hsel : Region.noSelect ops = true) (hs : Region.sinkB md ops n = true) (hc : Region.chainB md ops n = true) (hn : n < ops.size) :
    ∀ (p : List (Nat × Bool)) (M : Nat → Prop) (listed : Array Bool) (a : Act) (W : World), HeadInv md ops n listed → planB md ops g n p listed = true → TextU P ops R (pick l p) M a W →
      EveryU P md ops n (fun listed' a' W' => Region.seqB md ops g n listed' = true ∧ ∀ x, Old W' x → R a' x) p.length M listed a W
  | [], M, listed, a, W, _, hB, h => ⟨hB, h⟩
  | (i, s) :: p, M, listed, a, W, inv, hB, h => by
    simp only [planB, Bool.and_eq_true, decide_eq_true_eq] at hB
    obtain ⟨⟨⟨hin, hr⟩, hk⟩, hrest⟩ := hB
    have hr : i ∈ Region.ready md ops listed := by simpa using hr
    have hi' : i < l.length := by rw [← hl] at hn; simp at hn; omega
    have ho : l[i]? = some l[i] := List.getElem?_eq_getElem hi'
    have h0 : ops[i]? = some l[i] := by rw [← hl]; simp [hi']
    have e : pick l ((i, s) :: p) = (l[i], s) :: pick l p := by
      rw [pick, ho]
    rw [e] at h
    have inv' := inv.set hr hin
    cases s with
    | true =>
      obtain ⟨v, hv, ht⟩ := h
      refine EveryU.first h0 (Region.noSelect_spec hsel) hs hc hn hin (fun _ _ _ hL => seqB_ready hL.1) p.length M listed a W inv (Region.free_spec h0 hk) hr hv ?_
      exact TextU.every hl hsel hs hc hn p M _ _ W inv' hrest ht
    | false =>
      obtain ⟨V, M', hM', hv, ht⟩ := h
      have hone : Region.ready md ops listed = [i] := by simpa using hk
      refine ⟨List.ne_nil_of_mem hr, fun j hj => ?_⟩
      obtain rfl : j = i := by rw [hone] at hj; simpa using hj
      exact ⟨hin, _, h0, .inr ⟨V, M', hM', hv, fun v y hvy hy => TextU.every hl hsel hs hc hn p M' _ _ y inv' hrest (ht v y hvy hy)⟩⟩
/-- A statement that draws its order, by a plan; the rest as it must come. -/
theorem wp_region_planU {id : Nat} {a : Act} {W : World} {l : List Oper} (n : Nat) (p : List (Nat × Bool)) (M : Nat → Prop) (hm : P.follows .mixedOrders = true) (hB : planOk l n p = true)
    (h : TextU P l.toArray (fun a' x => wpList P l.toArray Q (l.drop n) a' x) (pick l p) M a W) : (Code.region id l.toArray true).wp P Q a W := by
  simp only [planOk, Bool.and_eq_true, decide_eq_true_eq] at hB
  obtain ⟨⟨⟨⟨⟨hsel, hn⟩, hs⟩, hc⟩, hp⟩, hlex⟩ := hB
  have inv0 : HeadInv .any l.toArray n (Array.replicate l.toArray.size false) :=
    ⟨by simp, fun j oj _ hj => (by rw [getD_replicate_false] at hj; cases hj), fun t _ ht => getD_in (by simpa using ht) (getD_replicate_false _ _)⟩
  have H := TextU.every (md := .any) (g := l.toArray.size - n) (l := l) rfl hsel hs hc hn p M _ a W inv0 hlex h
  refine wp_region_any hm ?_
  have hg : (l.drop n).length = l.toArray.size - n := by simp
  have hn' : n < l.length := by simpa using hn
  have hA := EveryU.any (Q := Q) (g := l.toArray.size - n) (fun listed a' W' hL x hx => by
    have := wpAny_of_seq (md := .any) (Q' := Q) (l.drop n) n listed a' x (fun j => by simp [List.getElem?_drop]) (by rw [hg]; exact hL.1) (hL.2 x hx)
    rwa [hg] at this) _ _ _ _ W W.drew (Below.refl _ W).drew H
  rw [hp, show n + (l.toArray.size - n) = l.toArray.size by simp; omega] at hA
  exact hA
variable {R : Act → World → Prop} {W : World} {o : Oper} {l : List (Oper × Bool)} {a : Act}
theorem TextU.sees (v : Value) (h : ∀ w, Near M W w → ∀ K : Next → World → Prop, K (.value v) w → Sees P ops o a w K) (hw : Region.wanted o (yielded ops a.tmps) = true) (hn : TextU P ops R l M (a.put o.dst v) W) : TextU P ops R ((o, true) :: l) M a W := by
  refine ⟨v, .inl ⟨hw, fun w hS => .inl ?_⟩, hn⟩
  have g := h w hS (fun n x => n = .value v ∧ x = w) ⟨rfl, rfl⟩
  unfold Sees at g
  rw [if_pos hw] at g
  generalize (execOp a.eval o).run P w = r at g ⊢
  cases r with
  | ok n x => obtain ⟨rfl, rfl⟩ := g; exact ⟨_, rfl, Below.refl _ _⟩
  | halt e x => exact g.elim
theorem TextU.idle (h : ∀ w, Near M W w → ∀ K : Next → World → Prop, K .skip w → Sees P ops o a w K) (hn : TextU P ops R l M (a.put o.dst undef) W) : TextU P ops R ((o, true) :: l) M a W := by
  refine ⟨undef, ?_, hn⟩
  by_cases hw : Region.wanted o (yielded ops a.tmps) = true
  · refine .inl ⟨hw, fun w hS => .inr (.inl ?_)⟩
    have g := h w hS (fun n x => n = .skip ∧ x = w) ⟨rfl, rfl⟩
    unfold Sees at g
    rw [if_pos hw] at g
    generalize (execOp a.eval o).run P w = r at g ⊢
    cases r with
    | ok n x => obtain ⟨rfl, rfl⟩ := g; exact ⟨_, rfl, rfl, Below.refl _ _⟩
    | halt e x => exact g.elim
  · exact .inr ⟨by simpa using hw, rfl⟩
theorem TextU.call {F : Nat} {args : Array Value} {v : Value} (c : ∀ w, Near M W w → Calls P F args w fun e y => e = .returned v ∧ Below w.heap.size w y) (hw : Region.wanted o (yielded ops a.tmps) = true)
    (he : ∀ w, (execOp a.eval o).run P w = .ok (.enter F args) w) (hn : TextU P ops R l M (a.put o.dst v) W) : TextU P ops R ((o, true) :: l) M a W :=
  ⟨v, .inl ⟨hw, fun w hS => .inr (.inr ⟨F, args, w, he w, c w hS⟩)⟩, hn⟩
theorem TextU.val {v : Value} (h : ∀ w, Near M W w → (execOp a.eval o).run P w = .ok (.value v) w) (hw : Region.wanted o (yielded ops a.tmps) = true) (hn : TextU P ops R l M (a.put o.dst v) W) : TextU P ops R ((o, true) :: l) M a W :=
  ⟨v, .inl ⟨hw, fun w hS => .inl ⟨w, h w hS, Below.refl _ _⟩⟩, hn⟩
theorem TextU.loud (M' : Nat → Prop) {F : Nat} {args : Array Value} {V : Value → World → Prop} (hM : ∀ i, M' i → M i) (c : ∀ w, Old W w → Calls P F args w fun e y => ∃ v, e = .returned v ∧ V v y ∧ Near M w y) (hw : Region.wanted o (yielded ops a.tmps) = true)
    (he : ∀ w, (execOp a.eval o).run P w = .ok (.enter F args) w) (hn : ∀ v y, V v y → Near M W y → TextU P ops R l M' (a.put o.dst v) y) : TextU P ops R ((o, false) :: l) M a W :=
  ⟨V, M', hM, ⟨hw, fun w hS => .inr ⟨F, args, w, he w, c w hS⟩⟩, hn⟩
theorem TextU.loudv (M' : Nat → Prop) {V : Value → World → Prop} (hM : ∀ i, M' i → M i) (c : ∀ w, Old W w → ∃ v y, (execOp a.eval o).run P w = .ok (.value v) y ∧ V v y ∧ Near M w y) (hw : Region.wanted o (yielded ops a.tmps) = true)
    (hn : ∀ v y, V v y → Near M W y → TextU P ops R l M' (a.put o.dst v) y) : TextU P ops R ((o, false) :: l) M a W :=
  ⟨V, M', hM, ⟨hw, fun w hS => .inl (c w hS)⟩, hn⟩
theorem exec_append {o : Oper} {a : Act} {w w' : World} (s x : Operand) {T U : TypeId} (ho : o.op = .call { callee := .builtin .append, args := #[s, x], argTypes := #[T, U] }) {v u v' : Value} (hs : a.eval s = v) (hx : a.eval x = u)
    (hr : (Builtin.append_ #[T, U] o.type #[v, u]).run P w = .ok v' w') : (execOp a.eval o).run P w = .ok (.value v') w' := by
  unfold execOp
  simp only [ho, resolve, invoke, builtin, Sem.run_bind, Sem.run_pure, Result.andThen_ok, List.map_toArray, List.map_cons, List.map_nil, hs, hx, hr]
theorem TextU.done (h : ∀ x, Old W x → R a x) : TextU P ops R [] M a W := h
/-- Behind the last loud one. -/
theorem Near.old {W x : World} (h : Near (fun _ => False) W x) : Old W x := ⟨h.os, h.tape, h.output, h.size, fun i hi => h.block i hi (fun e => e)⟩
end
end Go.Proofs.Ytjfjekncmejfpaa
namespace Go.Proofs.Ytjfjekncmejfpaa
open Go.RowKit

/-- Block g holds the cells cs. -/
def Blk (w : World) (g : Nat) (cs : Array Value) (T : TypeId) : Prop := w.heap[g]? = some (.cells cs T)
section
variable {w w' : World} {g b : Nat} {cs : Array Value} {T : TypeId}
theorem Blk.six {v0 v1 v2 v3 v4 v5 : Value} (h : Blk w g #[v0, v1, v2, v3, v4, v5] T) : w.cell? ⟨g, 0, none⟩ = some v0 ∧ w.cell? ⟨g, 1, none⟩ = some v1 ∧ w.cell? ⟨g, 2, none⟩ = some v2 ∧ w.cell? ⟨g, 3, none⟩ = some v3 ∧ w.cell? ⟨g, 4, none⟩ = some v4 ∧ w.cell? ⟨g, 5, none⟩ = some v5 := by
  unfold Blk at h
  simp [World.cell?, h]
theorem Blk.six_free {v0 v1 v2 v3 v4 v5 : Value} (h : Blk w g #[v0, v1, v2, v3, v4, v5] T) : w.frozen? ⟨g, 0, none⟩ = false ∧ w.frozen? ⟨g, 1, none⟩ = false ∧ w.frozen? ⟨g, 2, none⟩ = false ∧ w.frozen? ⟨g, 3, none⟩ = false ∧ w.frozen? ⟨g, 4, none⟩ = false ∧ w.frozen? ⟨g, 5, none⟩ = false := by
  unfold Blk at h
  simp [World.frozen?, h]
theorem Blk.seven {v0 v1 v2 v3 v4 v5 v6 : Value} (h : Blk w g #[v0, v1, v2, v3, v4, v5, v6] T) : w.cell? ⟨g, 0, none⟩ = some v0 ∧ w.cell? ⟨g, 1, none⟩ = some v1 ∧ w.cell? ⟨g, 2, none⟩ = some v2 ∧ w.cell? ⟨g, 3, none⟩ = some v3 ∧ w.cell? ⟨g, 4, none⟩ = some v4 ∧ w.cell? ⟨g, 5, none⟩ = some v5 ∧ w.cell? ⟨g, 6, none⟩ = some v6 := by
  unfold Blk at h
  simp [World.cell?, h]
theorem Blk.seven_free {v0 v1 v2 v3 v4 v5 v6 : Value} (h : Blk w g #[v0, v1, v2, v3, v4, v5, v6] T) : w.frozen? ⟨g, 0, none⟩ = false ∧ w.frozen? ⟨g, 1, none⟩ = false ∧ w.frozen? ⟨g, 2, none⟩ = false ∧ w.frozen? ⟨g, 3, none⟩ = false ∧ w.frozen? ⟨g, 4, none⟩ = false ∧ w.frozen? ⟨g, 5, none⟩ = false ∧ w.frozen? ⟨g, 6, none⟩ = false := by
  unfold Blk at h
  simp [World.frozen?, h]
theorem Blk.two {v0 v1 : Value} (h : Blk w g #[v0, v1] T) : w.cell? ⟨g, 0, none⟩ = some v0 ∧ w.cell? ⟨g, 1, none⟩ = some v1 := by
  unfold Blk at h
  simp [World.cell?, h]
theorem Blk.lt (h : Blk w g cs T) : g < w.heap.size := (Array.getElem?_eq_some_iff.1 h).1
theorem Blk.cell (h : Blk w g cs T) (i : Nat) : w.cell? ⟨g, i, none⟩ = cs[i]? := by
  unfold Blk at h
  simp [World.cell?, h]
theorem Blk.free (h : Blk w g cs T) (i : Nat) : w.frozen? ⟨g, i, none⟩ = false := by
  unfold Blk at h
  simp [World.frozen?, h]
theorem Blk.set (h : Blk w g cs T) (i : Nat) (v : Value) : Blk (w.setCell ⟨g, i, none⟩ v) g (cs.setIfInBounds i v) T := by
  unfold Blk at h ⊢
  simp [World.setCell, Array.getElem?_modify, h]
theorem Blk.other (h : Blk w g cs T) (hb : g ≠ b) (i : Nat) (v : Value) : Blk (w.setCell ⟨b, i, none⟩ v) g cs T :=
  (Below.heap_setCell _ _ _ _ hb).trans h
theorem Blk.alloc (h : Blk w g cs T) (o : Obj) : Blk (w.alloc o) g cs T := (Below.heap_alloc _ _ _ h.lt).trans h
theorem blk_new (w : World) (cs : Array Value) (T : TypeId) : Blk (w.alloc (.cells cs T)) w.heap.size cs T := by
  unfold Blk World.alloc
  exact Array.getElem?_push_size
theorem Blk.old (h : Blk w g cs T) (hx : Old w w') : Blk w' g cs T := (hx.block g h.lt).trans h
theorem Blk.near {M : Nat → Prop} (h : Blk w g cs T) (hx : Near M w w') (hM : ¬ M g) : Blk w' g cs T := (hx.block g h.lt hM).trans h
theorem Blk.drew (h : Blk w g cs T) : Blk w.drew g cs T := h
theorem near_set (w : World) (i : Nat) (v : Value) : Near (fun k => k = b) w (w.setCell ⟨b, i, none⟩ v) :=
  ⟨rfl, rfl, rfl, by simp, fun k _ hk => Below.heap_setCell _ _ _ _ hk⟩
theorem blk_two (w : World) (o : Obj) (cs : Array Value) (T : TypeId) : Blk ((w.alloc o).alloc (.cells cs T)) (w.heap.size + 1) cs T := by
  have := blk_new (w.alloc o) cs T
  rwa [World.size_alloc] at this
theorem blk_three (w : World) (o o' : Obj) (cs : Array Value) (T : TypeId) : Blk (((w.alloc o).alloc o').alloc (.cells cs T)) (w.heap.size + 1 + 1) cs T := by
  have := blk_two (w.alloc o) o' cs T
  rwa [World.size_alloc] at this
theorem blk_four (w : World) (o o' o'' : Obj) (cs : Array Value) (T : TypeId) : Blk ((((w.alloc o).alloc o').alloc o'').alloc (.cells cs T)) (w.heap.size + 1 + 1 + 1) cs T := by
  have := blk_three (w.alloc o) o' o'' cs T
  rwa [World.size_alloc] at this
theorem Near.wide {M M' : Nat → Prop} (h : Near M w w') (hM : ∀ i, M i → M' i) : Near M' w w' := ⟨h.os, h.tape, h.output, h.size, fun i hi hn => h.block i hi (fun m => hn (hM i m))⟩
theorem Near.below {M : Nat → Prop} {B : Nat} (h : Near M w w') (hM : ∀ i, M i → B ≤ i) (hB : B ≤ w.heap.size) : Below B w w' := ⟨h.os, h.tape, h.output, h.size, fun i hi => h.block i (by omega) (fun m => by have := hM i m; omega)⟩
theorem Near.new {M : Nat → Prop} (h : Near M w w') (hb : w.heap.size ≤ b) (i : Nat) (v : Value) : Near M w (w'.setCell ⟨b, i, none⟩ v) :=
  ⟨h.os, h.tape, h.output, by simpa using h.size, fun j hj hn => (Below.heap_setCell _ _ _ _ (by simp; omega)).trans (h.block j hj hn)⟩
theorem Near.new6 {M : Nat → Prop} (h : Near M w w') (hb : w.heap.size ≤ b) (v0 v1 v2 v3 v4 v5 : Value) : Near M w ((((((w'.setCell ⟨b, 0, none⟩ v0).setCell ⟨b, 1, none⟩ v1).setCell ⟨b, 2, none⟩ v2).setCell ⟨b, 3, none⟩ v3).setCell ⟨b, 4, none⟩ v4).setCell ⟨b, 5, none⟩ v5) :=
  (((((h.new hb 0 v0).new hb 1 v1).new hb 2 v2).new hb 3 v3).new hb 4 v4).new hb 5 v5
theorem Below.new6 {B : Nat} (h : Below B w w') (hb : B ≤ b) (v0 v1 v2 v3 v4 v5 : Value) : Below B w ((((((w'.setCell ⟨b, 0, none⟩ v0).setCell ⟨b, 1, none⟩ v1).setCell ⟨b, 2, none⟩ v2).setCell ⟨b, 3, none⟩ v3).setCell ⟨b, 4, none⟩ v4).setCell ⟨b, 5, none⟩ v5) :=
  (((((h.setCell (p := ⟨b, 0, none⟩) hb v0).setCell (p := ⟨b, 1, none⟩) hb v1).setCell (p := ⟨b, 2, none⟩) hb v2).setCell (p := ⟨b, 3, none⟩) hb v3).setCell (p := ⟨b, 4, none⟩) hb v4).setCell (p := ⟨b, 5, none⟩) hb v5
theorem Blk.other6 (h : Blk w g cs T) (hb : g ≠ b) (v0 v1 v2 v3 v4 v5 : Value) : Blk ((((((w.setCell ⟨b, 0, none⟩ v0).setCell ⟨b, 1, none⟩ v1).setCell ⟨b, 2, none⟩ v2).setCell ⟨b, 3, none⟩ v3).setCell ⟨b, 4, none⟩ v4).setCell ⟨b, 5, none⟩ v5) g cs T :=
  (((((h.other hb 0 v0).other hb 1 v1).other hb 2 v2).other hb 3 v3).other hb 4 v4).other hb 5 v5
theorem Blk.set6 {u0 u1 u2 u3 u4 u5 : Value} (h : Blk w g #[u0, u1, u2, u3, u4, u5] T) (v0 v1 v2 v3 v4 v5 : Value) : Blk ((((((w.setCell ⟨g, 0, none⟩ v0).setCell ⟨g, 1, none⟩ v1).setCell ⟨g, 2, none⟩ v2).setCell ⟨g, 3, none⟩ v3).setCell ⟨g, 4, none⟩ v4).setCell ⟨g, 5, none⟩ v5) g #[v0, v1, v2, v3, v4, v5] T := by
  simpa using (((((h.set 0 v0).set 1 v1).set 2 v2).set 3 v3).set 4 v4).set 5 v5
end
end Go.Proofs.Ytjfjekncmejfpaa
