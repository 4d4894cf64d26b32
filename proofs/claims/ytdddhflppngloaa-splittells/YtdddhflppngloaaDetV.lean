/- The law of Det where a call's answer hangs on the world it meets (a new slice): a plan says in what order the first n operations are walked; an operation that leaves the same value in every world (a still one) may be taken as soon as it can come up; one whose value hangs on the world (a loud one) where nothing else can come up. Nothing of a program is in it. -/
import Derived.Test.YtdddhflppngloaaDetW
namespace Go.Proofs.Ytdddhflppngloaa
open Go.RowKit
set_option maxRecDepth 20000

/-- A result that hands on a value and a world of R. -/
def GivesV (P : Program) (R : Value → World → Prop) (r : Result Next) : Prop :=
  (∃ v x, r = .ok (.value v) x ∧ R v x) ∨ ∃ f args x, r = .ok (.enter f args) x ∧ Calls P f args x fun e y => ∃ v, e = .returned v ∧ R v y
/-- In whatever world that holds what stood in W, the operation leaves a value and a world of V, and touches nothing that stands. -/
def Loud (P : Program) (ops : Array Oper) (W : World) (o : Oper) (V : Value → World → Prop) (a : Act) : Prop :=
  Region.wanted o (yielded ops a.tmps) = true ∧ ∀ w, Old W w → GivesV P (fun v y => V v y ∧ Below w.heap.size w y) ((execOp a.eval o).run P w)
section
variable {P : Program} {ops : Array Oper} {md : Region.Mode} {Q : Exit → Act → World → Prop} {n : Nat}

theorem Old.trans {W x y : World} (h : Old W x) (k : Below x.heap.size x y) : Old W y := Below.trans h (k.mono h.size)
theorem Old.old {W x y : World} (h : Old W x) (k : Old x y) : Old W y := Old.trans h k
theorem Keeps.mono {W W' : World} {o : Oper} {v : Value} {a : Act} (h : Keeps P ops W o v a) (hW : Old W W') : Keeps P ops W' o v a := by
  rcases h with ⟨hw, hg⟩ | h
  · exact .inl ⟨hw, fun w hS => hg w (hW.old hS)⟩
  · exact .inr h
theorem Loud.mono {W W' : World} {o : Oper} {V : Value → World → Prop} {a : Act} (h : Loud P ops W o V a) (hW : Old W W') : Loud P ops W' o V a := ⟨h.1, fun w hS => h.2 w (hW.old hS)⟩
theorem Loud.same {W : World} {o : Oper} {V : Value → World → Prop} {a b : Act} (h : Loud P ops W o V a) (he : execOp b.eval o = execOp a.eval o) (hw : Region.wanted o (yielded ops b.tmps) = Region.wanted o (yielded ops a.tmps)) : Loud P ops W o V b := by
  unfold Loud
  rw [he, hw]
  exact h
theorem Loud.step {W : World} {o : Oper} {V : Value → World → Prop} {a : Act} {i : Nat} {w : World} {K : Act → World → Prop} (hi : ops[i]? = some o) (h : Loud P ops W o V a) (hS : Old W w) (hK : ∀ v x, V v x → Below w.heap.size w x → K (a.put o.dst v) x) : wpOp P ops Q i K a w := by
  unfold wpOp
  simp only [hi]
  rw [if_pos h.1]
  refine .inl ?_
  have g := h.2 w hS
  unfold Oper.wp
  rcases g with ⟨v, x, hr, hx, hb⟩ | ⟨f, args, x, hr, hx⟩ <;> rw [hr]
  · exact hK v x hx hb
  · exact Calls.mono hx fun e y hy => by obtain ⟨v, rfl, hy, hb⟩ := hy; exact hK v y hy hb
/-- Whatever order the first n operations come up in. -/
def EveryV (P : Program) (md : Region.Mode) (ops : Array Oper) (n : Nat) (L : Array Bool → Act → World → Prop) : Nat → Array Bool → Act → World → Prop
  | 0, listed, a, W => L listed a W
  | f + 1, listed, a, W => Region.ready md ops listed ≠ [] ∧ ∀ i ∈ Region.ready md ops listed, i < n ∧ ∃ o, ops[i]? = some o ∧
      ((∃ v, Keeps P ops W o v a ∧ EveryV P md ops n L f (listed.setIfInBounds i true) (a.put o.dst v) W) ∨
       ∃ V, Loud P ops W o V a ∧ ∀ v y, V v y → Old W y → EveryV P md ops n L f (listed.setIfInBounds i true) (a.put o.dst v) y)
variable {L : Array Bool → Act → World → Prop}
theorem EveryV.mono (hLm : ∀ listed a W W', Old W W' → L listed a W → L listed a W') :
    ∀ (f : Nat) (listed : Array Bool) (a : Act) (W W' : World), Old W W' → EveryV P md ops n L f listed a W → EveryV P md ops n L f listed a W'
  | 0, listed, a, W, W', hW, h => hLm _ _ _ _ hW h
  | f + 1, listed, a, W, W', hW, h => by
    refine ⟨h.1, fun i hi => ?_⟩
    obtain ⟨hin, o, ho, hh⟩ := h.2 i hi
    refine ⟨hin, o, ho, ?_⟩
    rcases hh with ⟨v, hk, hn⟩ | ⟨V, hl, hn⟩
    · exact .inl ⟨v, hk.mono hW, EveryV.mono hLm f _ _ _ _ hW hn⟩
    · exact .inr ⟨V, hl.mono hW, fun v y hv hy => hn v y hv (hW.old hy)⟩
theorem EveryV.any {g : Nat} (hL : ∀ listed a W, L listed a W → ∀ w, Old W w → wpAny P md ops Q g listed a w) :
    ∀ (f : Nat) (listed : Array Bool) (a : Act) (W w : World), Old W w → EveryV P md ops n L f listed a W → wpAny P md ops Q (f + g) listed a w
  | 0, listed, a, W, w, hS, h => by rw [Nat.zero_add]; exact hL _ _ _ h w hS
  | f + 1, listed, a, W, w, hS, h => by
    rw [Nat.add_right_comm]
    refine ⟨fun h0 => absurd h0 h.1, fun i hi => ?_⟩
    obtain ⟨_, o, ho, hh⟩ := h.2 i hi
    rcases hh with ⟨v, hk, hn⟩ | ⟨V, hl, hn⟩
    · exact hk.step ho hS fun x hx => EveryV.any hL f _ _ W x (hS.trans hx) hn
    · exact hl.step ho hS fun v x hv hx => EveryV.any hL f _ _ x x (Below.refl _ _) (hn v x hv (hS.trans hx))
/-- A still one that may come up now may as well come up first. -/
theorem EveryV.first {i : Nat} {oi : Oper} {v : Value} (hi : ops[i]? = some oi) (hsel : ∀ (j : Nat) (o : Oper) cs b, ops[j]? = some o → o.op ≠ .select cs b)
    (hs : Region.sinkB md ops n = true) (hc : Region.chainB md ops n = true) (hn : n < ops.size) (hin : i < n) (hL : ∀ listed a W, L listed a W → ∀ j ∈ Region.ready md ops listed, n ≤ j) :
    ∀ (f : Nat) (listed : Array Bool) (a : Act) (W : World), HeadInv md ops n listed →
      (∀ j oj, ops[j]? = some oj → j ≠ i → listed.getD j true = false → (∀ e ∈ oj.after, Region.binds md e = true → e.on ≠ i) → oi.apart ops oj = true) →
      i ∈ Region.ready md ops listed → Keeps P ops W oi v a → EveryV P md ops n L f (listed.setIfInBounds i true) (a.put oi.dst v) W → EveryV P md ops n L (f + 1) listed a W := by
  intro f
  induction f with
  | zero =>
    intro listed a W inv _ hr hd H
    refine ⟨List.ne_nil_of_mem hr, fun j hj => ?_⟩
    have hjn : j < n := Nat.lt_of_not_le fun h => tail_waits hs hc hn inv _ i rfl hin (mem_ready.1 hr).1 j h hj
    by_cases hji : j = i
    · subst hji; exact ⟨hjn, oi, hi, .inl ⟨v, hd, H⟩⟩
    · exact absurd (hL _ _ _ H j (ready_mono hj hji)) (Nat.not_le.2 hjn)
  | succ f ih =>
    intro listed a W inv hfree hr hd H
    refine ⟨List.ne_nil_of_mem hr, fun j hj => ?_⟩
    have hun := (mem_ready.1 hr).1
    have hjn : j < n := Nat.lt_of_not_le fun h => tail_waits hs hc hn inv _ i rfl hin hun j h hj
    by_cases hji : j = i
    · subst hji; exact ⟨hjn, oi, hi, .inl ⟨v, hd, H⟩⟩
    · obtain ⟨_, oj, hoj, hh⟩ := H.2 j (ready_mono hj hji)
      obtain ⟨hjun, oj', hoj', hall⟩ := mem_ready.1 hj
      obtain rfl : oj' = oj := Option.some.inj (hoj'.symm.trans hoj)
      have hap := hfree j oj' hoj hji hjun fun e he hb heq => by
        have h1 := hall e he hb
        rw [heq, getD_both hun] at h1
        cases h1
      obtain ⟨h1, h2, h3⟩ := Oper.apart_spec hap
      have hx := (execOp_put oj' (fun cs b => hsel j oj' cs b hoj) a oi.dst v h1).symm
      have hwn := (wanted_put oj' a oi.dst v h1).symm
      have go : ∀ u W', Old W W' → EveryV P md ops n L f ((listed.setIfInBounds i true).setIfInBounds j true) ((a.put oi.dst v).put oj'.dst u) W' → EveryV P md ops n L (f + 1) (listed.setIfInBounds j true) (a.put oj'.dst u) W' := by
        intro u W' hW' hrest
        refine ih (listed.setIfInBounds j true) (a.put oj'.dst u) W' (inv.set hj hjn) ?_ (ready_mono hr (Ne.symm hji)) ((hd.mono hW').same (execOp_put oi (fun cs b => hsel i oi cs b hi) a oj'.dst u h3) (wanted_put oi a oj'.dst u h3)) ?_
        · intro k ok hk hki hl hno
          refine hfree k ok hk hki ?_ hno
          by_cases hjk : j = k
          · subst hjk; exact hjun
          · rw [getD_set_ne true hjk] at hl; exact hl
        · rw [Array.setIfInBounds_comm _ _ hji, ← Act.put_comm a v u h2]
          exact hrest
      refine ⟨hjn, oj', hoj, ?_⟩
      rcases hh with ⟨u, hk, hrest⟩ | ⟨V, hl, hrest⟩
      · exact .inl ⟨u, hk.same hx hwn, go u W (Below.refl _ _) hrest⟩
      · exact .inr ⟨V, hl.same hx hwn, fun u y hu hy => go u y hy (hrest u y hu hy)⟩
/-- The operations of a plan. -/
def pick (l : List Oper) : List (Nat × Bool) → List (Oper × Bool)
  | [] => []
  | (i, s) :: p => match l[i]? with
    | some o => (o, s) :: pick l p
    | none => []
/-- Each may come up when its turn is, still ones at any time, loud ones where nothing else can. -/
def planB (md : Region.Mode) (ops : Array Oper) (g n : Nat) : List (Nat × Bool) → Array Bool → Bool
  | [], listed => Region.seqB md ops g n listed
  | (i, s) :: p, listed => decide (i < n) && (Region.ready md ops listed).contains i && (bif s then Region.free md ops listed i else decide (Region.ready md ops listed = [i])) && planB md ops g n p (listed.setIfInBounds i true)
def TextV (P : Program) (ops : Array Oper) (R : Act → World → Prop) : List (Oper × Bool) → Act → World → Prop
  | [], a, W => ∀ x, Old W x → R a x
  | (o, true) :: p, a, W => ∃ v, Keeps P ops W o v a ∧ TextV P ops R p (a.put o.dst v) W
  | (o, false) :: p, a, W => ∃ V, Loud P ops W o V a ∧ ∀ v y, V v y → Old W y → TextV P ops R p (a.put o.dst v) y
theorem TextV.every {g : Nat} {R : Act → World → Prop} {l : List Oper} (hl : l.toArray = ops) (hsel : Region.noSelect ops = true) (hs : Region.sinkB md ops n = true) (hc : Region.chainB md ops n = true) (hn : n < ops.size) :
    ∀ (p : List (Nat × Bool)) (listed : Array Bool) (a : Act) (W : World), HeadInv md ops n listed → planB md ops g n p listed = true → TextV P ops R (pick l p) a W →
      EveryV P md ops n (fun listed' a' W' => Region.seqB md ops g n listed' = true ∧ ∀ x, Old W' x → R a' x) p.length listed a W
  | [], listed, a, W, _, hB, h => ⟨hB, h⟩
  | (i, s) :: p, listed, a, W, inv, hB, h => by
    simp only [planB, Bool.and_eq_true, decide_eq_true_eq] at hB
    obtain ⟨⟨⟨hin, hr⟩, hk⟩, hrest⟩ := hB
    have hr : i ∈ Region.ready md ops listed := by simpa using hr
    have hi' : i < l.length := by rw [← hl] at hn; simp at hn; omega
    have ho : l[i]? = some l[i] := List.getElem?_eq_getElem hi'
    have h0 : ops[i]? = some l[i] := by rw [← hl]; simp [hi']
    have e : pick l ((i, s) :: p) = (l[i], s) :: pick l p := by
      rw [pick, ho]
    rw [e] at h
    have inv' := inv.set hr hin
    cases s with
    | true =>
      obtain ⟨v, hv, ht⟩ := h
      refine EveryV.first h0 (Region.noSelect_spec hsel) hs hc hn hin (fun _ _ _ hL => seqB_ready hL.1) p.length listed a W inv (Region.free_spec h0 hk) hr hv ?_
      exact TextV.every hl hsel hs hc hn p _ _ W inv' hrest ht
    | false =>
      obtain ⟨V, hv, ht⟩ := h
      have hone : Region.ready md ops listed = [i] := by simpa using hk
      refine ⟨List.ne_nil_of_mem hr, fun j hj => ?_⟩
      obtain rfl : j = i := by rw [hone] at hj; simpa using hj
      exact ⟨hin, _, h0, .inr ⟨V, hv, fun v y hvy hy => TextV.every hl hsel hs hc hn p _ _ y inv' hrest (ht v y hvy hy)⟩⟩
/-- What must be asked of a plan. -/
def planOk (l : List Oper) (n : Nat) (p : List (Nat × Bool)) : Bool :=
  Region.noSelect l.toArray && decide (n < l.toArray.size) && Region.sinkB .any l.toArray n && Region.chainB .any l.toArray n && decide (p.length = n) && planB .any l.toArray (l.toArray.size - n) n p (Array.replicate l.toArray.size false)
/-- A statement that draws its order, by a plan; the rest as it must come. -/
theorem wp_region_plan {id : Nat} {a : Act} {W : World} {l : List Oper} (n : Nat) (p : List (Nat × Bool)) (hm : P.follows .mixedOrders = true) (hB : planOk l n p = true)
    (h : TextV P l.toArray (fun a' x => wpList P l.toArray Q (l.drop n) a' x) (pick l p) a W) : (Code.region id l.toArray true).wp P Q a W := by
  simp only [planOk, Bool.and_eq_true, decide_eq_true_eq] at hB
  obtain ⟨⟨⟨⟨⟨hsel, hn⟩, hs⟩, hc⟩, hp⟩, hlex⟩ := hB
  have inv0 : HeadInv .any l.toArray n (Array.replicate l.toArray.size false) :=
    ⟨by simp, fun j oj _ hj => (by rw [getD_replicate_false] at hj; cases hj), fun t _ ht => getD_in (by simpa using ht) (getD_replicate_false _ _)⟩
  have H := TextV.every (md := .any) (g := l.toArray.size - n) (l := l) rfl hsel hs hc hn p _ a W inv0 hlex h
  refine wp_region_any hm ?_
  have hg : (l.drop n).length = l.toArray.size - n := by simp
  have hn' : n < l.length := by simpa using hn
  have hA := EveryV.any (Q := Q) (g := l.toArray.size - n) (fun listed a' W' hL x hx => by
    have := wpAny_of_seq (md := .any) (Q' := Q) (l.drop n) n listed a' x (fun j => by simp [List.getElem?_drop]) (by rw [hg]; exact hL.1) (hL.2 x hx)
    rwa [hg] at this) _ _ _ W W.drew (Below.refl _ W).drew H
  rw [hp, show n + (l.toArray.size - n) = l.toArray.size by simp; omega] at hA
  exact hA
/-! ### One operation -/
variable {R : Act → World → Prop} {W : World} {o : Oper} {l : List (Oper × Bool)} {a : Act}
theorem TextV.sees (v : Value) (h : ∀ w, Old W w → ∀ K : Next → World → Prop, K (.value v) w → Sees P ops o a w K) (hw : Region.wanted o (yielded ops a.tmps) = true) (hn : TextV P ops R l (a.put o.dst v) W) : TextV P ops R ((o, true) :: l) a W := by
  refine ⟨v, .inl ⟨hw, fun w hS => .inl ?_⟩, hn⟩
  have g := h w hS (fun n x => n = .value v ∧ x = w) ⟨rfl, rfl⟩
  unfold Sees at g
  rw [if_pos hw] at g
  generalize (execOp a.eval o).run P w = r at g ⊢
  cases r with
  | ok n x => obtain ⟨rfl, rfl⟩ := g; exact ⟨_, rfl, Below.refl _ _⟩
  | halt e x => exact g.elim
theorem TextV.idle (h : ∀ w, Old W w → ∀ K : Next → World → Prop, K .skip w → Sees P ops o a w K) (hn : TextV P ops R l (a.put o.dst undef) W) : TextV P ops R ((o, true) :: l) a W := by
  refine ⟨undef, ?_, hn⟩
  by_cases hw : Region.wanted o (yielded ops a.tmps) = true
  · refine .inl ⟨hw, fun w hS => .inr (.inl ?_)⟩
    have g := h w hS (fun n x => n = .skip ∧ x = w) ⟨rfl, rfl⟩
    unfold Sees at g
    rw [if_pos hw] at g
    generalize (execOp a.eval o).run P w = r at g ⊢
    cases r with
    | ok n x => obtain ⟨rfl, rfl⟩ := g; exact ⟨_, rfl, rfl, Below.refl _ _⟩
    | halt e x => exact g.elim
  · exact .inr ⟨by simpa using hw, rfl⟩
theorem TextV.call {F : Nat} {args : Array Value} {v : Value} (c : ∀ w, Old W w → Calls P F args w fun e y => e = .returned v ∧ Below w.heap.size w y) (hw : Region.wanted o (yielded ops a.tmps) = true)
    (he : ∀ w, (execOp a.eval o).run P w = .ok (.enter F args) w) (hn : TextV P ops R l (a.put o.dst v) W) : TextV P ops R ((o, true) :: l) a W :=
  ⟨v, .inl ⟨hw, fun w hS => .inr (.inr ⟨F, args, w, he w, c w hS⟩)⟩, hn⟩
theorem TextV.val {v : Value} (h : ∀ w, Old W w → (execOp a.eval o).run P w = .ok (.value v) w) (hw : Region.wanted o (yielded ops a.tmps) = true) (hn : TextV P ops R l (a.put o.dst v) W) : TextV P ops R ((o, true) :: l) a W :=
  ⟨v, .inl ⟨hw, fun w hS => .inl ⟨w, h w hS, Below.refl _ _⟩⟩, hn⟩
theorem TextV.loud {F : Nat} {args : Array Value} {V : Value → World → Prop} (c : ∀ w, Old W w → Calls P F args w fun e y => ∃ v, e = .returned v ∧ V v y ∧ Below w.heap.size w y) (hw : Region.wanted o (yielded ops a.tmps) = true)
    (he : ∀ w, (execOp a.eval o).run P w = .ok (.enter F args) w) (hn : ∀ v y, V v y → Old W y → TextV P ops R l (a.put o.dst v) y) : TextV P ops R ((o, false) :: l) a W :=
  ⟨V, ⟨hw, fun w hS => .inr ⟨F, args, w, he w, c w hS⟩⟩, hn⟩
theorem TextV.done (h : ∀ x, Old W x → R a x) : TextV P ops R [] a W := h
end
section
variable {P : Program} {ops : Array Oper} {R : Act → World → Prop} {W : World} {o : Oper} {l : List (Oper × Bool)} {a : Act}
theorem TextV.loudv {V : Value → World → Prop} (c : ∀ w, Old W w → ∃ v x, (execOp a.eval o).run P w = .ok (.value v) x ∧ V v x ∧ Below w.heap.size w x) (hw : Region.wanted o (yielded ops a.tmps) = true)
    (hn : ∀ v y, V v y → Old W y → TextV P ops R l (a.put o.dst v) y) : TextV P ops R ((o, false) :: l) a W :=
  ⟨V, ⟨hw, fun w hS => .inl (c w hS)⟩, hn⟩
end
end Go.Proofs.Ytdddhflppngloaa
