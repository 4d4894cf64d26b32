/- The law of DetV where a store, or whatever else turns what stood, comes up among operations that are still pending: an operation that leaves the same value in EVERY world (a pure one: a move, a nil check, a field's address) may be pending still; every other one (NP) must be one that the wild one waits for. Nothing of a program is in it. -/
import Derived.Test.YthglidbhabknkaaDetU
namespace Go.Proofs.Ythglidbhabknkaa
open Go.RowKit
set_option linter.unusedVariables false

/-- A result that hands on a value (or nothing) and a world of R. -/
def GivesY (P : Program) (R : Value → World → Prop) (r : Result Next) : Prop :=
  (∃ v x, r = .ok (.value v) x ∧ R v x) ∨ (∃ x, r = .ok .skip x ∧ R undef x) ∨ ∃ f args x, r = .ok (.enter f args) x ∧ Calls P f args x fun e y => ∃ v, e = .returned v ∧ R v y
/-- In whatever world that holds what stood in W, the operation leaves a value and a world of V. -/
def Wild (P : Program) (ops : Array Oper) (W : World) (o : Oper) (V : Value → World → Prop) (a : Act) : Prop :=
  Region.wanted o (yielded ops a.tmps) = true ∧ ∀ w, Old W w → GivesY P V ((execOp a.eval o).run P w)
section
variable {P : Program} {ops : Array Oper} {md : Region.Mode} {Q : Exit → Act → World → Prop} {n : Nat} {NP : List Nat}

theorem Wild.same {W : World} {o : Oper} {V : Value → World → Prop} {a b : Act} (h : Wild P ops W o V a) (he : execOp b.eval o = execOp a.eval o) (hw : Region.wanted o (yielded ops b.tmps) = Region.wanted o (yielded ops a.tmps)) : Wild P ops W o V b := by
  unfold Wild
  rw [he, hw]
  exact h
theorem Wild.step {W : World} {o : Oper} {V : Value → World → Prop} {a : Act} {i : Nat} {w : World} {K : Act → World → Prop} (hi : ops[i]? = some o) (h : Wild P ops W o V a) (hS : Old W w) (hK : ∀ v x, V v x → K (a.put o.dst v) x) : wpOp P ops Q i K a w := by
  unfold wpOp
  simp only [hi]
  rw [if_pos h.1]
  refine .inl ?_
  have g := h.2 w hS
  unfold Oper.wp
  rcases g with ⟨v, x, hr, hx⟩ | ⟨x, hr, hx⟩ | ⟨f, args, x, hr, hx⟩ <;> rw [hr]
  · exact hK v x hx
  · exact hK undef x hx
  · exact Calls.mono hx fun e y hy => by obtain ⟨v, rfl, hy⟩ := hy; exact hK v y hy
/-- The wild operation waits for each of NP. -/
def waitsB (md : Region.Mode) (NP : List Nat) (i : Nat) (o : Oper) : Bool := NP.all fun k => k == i || o.after.any fun e => Region.binds md e && e.on == k
/-- Whatever order the first n operations come up in. -/
def EveryY (P : Program) (md : Region.Mode) (ops : Array Oper) (n : Nat) (NP : List Nat) (L : Array Bool → Act → World → Prop) : Nat → Array Bool → Act → World → Prop
  | 0, listed, a, W => L listed a W
  | f + 1, listed, a, W => Region.ready md ops listed ≠ [] ∧ ∀ i ∈ Region.ready md ops listed, i < n ∧ ∃ o, ops[i]? = some o ∧
      ((∃ v, Keeps P ops W o v a ∧ (i ∈ NP ∨ ∀ X, Keeps P ops X o v a) ∧ EveryY P md ops n NP L f (listed.setIfInBounds i true) (a.put o.dst v) W) ∨
       (∃ V, Loud P ops W o V a ∧ ∀ v y, V v y → Old W y → EveryY P md ops n NP L f (listed.setIfInBounds i true) (a.put o.dst v) y) ∨
       ∃ V, Wild P ops W o V a ∧ waitsB md NP i o = true ∧ ∀ v y, V v y → EveryY P md ops n NP L f (listed.setIfInBounds i true) (a.put o.dst v) y)
variable {L : Array Bool → Act → World → Prop}
theorem EveryY.any {g : Nat} (hL : ∀ listed a W, L listed a W → ∀ w, Old W w → wpAny P md ops Q g listed a w) :
    ∀ (f : Nat) (listed : Array Bool) (a : Act) (W w : World), Old W w → EveryY P md ops n NP L f listed a W → wpAny P md ops Q (f + g) listed a w
  | 0, listed, a, W, w, hS, h => by rw [Nat.zero_add]; exact hL _ _ _ h w hS
  | f + 1, listed, a, W, w, hS, h => by
    rw [Nat.add_right_comm]
    refine ⟨fun h0 => absurd h0 h.1, fun i hi => ?_⟩
    obtain ⟨_, o, ho, hh⟩ := h.2 i hi
    rcases hh with ⟨v, hk, _, hn⟩ | ⟨V, hl, hn⟩ | ⟨V, hl, _, hn⟩
    · exact hk.step ho hS fun x hx => EveryY.any hL f _ _ W x (hS.trans hx) hn
    · exact hl.step ho hS fun v x hv hx => EveryY.any hL f _ _ x x (Below.refl _ _) (hn v x hv (hS.trans hx))
    · exact hl.step ho hS fun v x hv => EveryY.any hL f _ _ x x (Below.refl _ _) (hn v x hv)
/-- A still one that may come up now may as well come up first. -/
theorem EveryY.first {i : Nat} {oi : Oper} {v : Value} (hi : ops[i]? = some oi) (hsel : ∀ (j : Nat) (o : Oper) cs b, ops[j]? = some o → o.op ≠ .select cs b)
    (hs : Region.sinkB md ops n = true) (hc : Region.chainB md ops n = true) (hn : n < ops.size) (hin : i < n) (hL : ∀ listed a W, L listed a W → ∀ j ∈ Region.ready md ops listed, n ≤ j) :
    ∀ (f : Nat) (listed : Array Bool) (a : Act) (W : World), HeadInv md ops n listed →
      (∀ j oj, ops[j]? = some oj → j ≠ i → listed.getD j true = false → (∀ e ∈ oj.after, Region.binds md e = true → e.on ≠ i) → oi.apart ops oj = true) →
      i ∈ Region.ready md ops listed → Keeps P ops W oi v a → (i ∈ NP ∨ ∀ X, Keeps P ops X oi v a) → EveryY P md ops n NP L f (listed.setIfInBounds i true) (a.put oi.dst v) W → EveryY P md ops n NP L (f + 1) listed a W := by
  intro f
  induction f with
  | zero =>
    intro listed a W inv _ hr hd hp H
    refine ⟨List.ne_nil_of_mem hr, fun j hj => ?_⟩
    have hjn : j < n := Nat.lt_of_not_le fun h => tail_waits hs hc hn inv _ i rfl hin (mem_ready.1 hr).1 j h hj
    by_cases hji : j = i
    · subst hji; exact ⟨hjn, oi, hi, .inl ⟨v, hd, hp, H⟩⟩
    · exact absurd (hL _ _ _ H j (ready_mono hj hji)) (Nat.not_le.2 hjn)
  | succ f ih =>
    intro listed a W inv hfree hr hd hp H
    refine ⟨List.ne_nil_of_mem hr, fun j hj => ?_⟩
    have hun := (mem_ready.1 hr).1
    have hjn : j < n := Nat.lt_of_not_le fun h => tail_waits hs hc hn inv _ i rfl hin hun j h hj
    by_cases hji : j = i
    · subst hji; exact ⟨hjn, oi, hi, .inl ⟨v, hd, hp, H⟩⟩
    · obtain ⟨_, oj, hoj, hh⟩ := H.2 j (ready_mono hj hji)
      obtain ⟨hjun, oj', hoj', hall⟩ := mem_ready.1 hj
      obtain rfl : oj' = oj := Option.some.inj (hoj'.symm.trans hoj)
      have hnot : ∀ e ∈ oj'.after, Region.binds md e = true → e.on ≠ i := fun e he hb heq => by
        have h1 := hall e he hb
        rw [heq, getD_both hun] at h1
        cases h1
      have hap := hfree j oj' hoj hji hjun hnot
      obtain ⟨h1, h2, h3⟩ := Oper.apart_spec hap
      have hx := (execOp_put oj' (fun cs b => hsel j oj' cs b hoj) a oi.dst v h1).symm
      have hwn := (wanted_put oj' a oi.dst v h1).symm
      have hsame : ∀ X u, Keeps P ops X oi v a → Keeps P ops X oi v (a.put oj'.dst u) := fun X u hk => hk.same (execOp_put oi (fun cs b => hsel i oi cs b hi) a oj'.dst u h3) (wanted_put oi a oj'.dst u h3)
      have go : ∀ u W', Keeps P ops W' oi v a → EveryY P md ops n NP L f ((listed.setIfInBounds i true).setIfInBounds j true) ((a.put oi.dst v).put oj'.dst u) W' → EveryY P md ops n NP L (f + 1) (listed.setIfInBounds j true) (a.put oj'.dst u) W' := by
        intro u W' hk' hrest
        refine ih (listed.setIfInBounds j true) (a.put oj'.dst u) W' (inv.set hj hjn) ?_ (ready_mono hr (Ne.symm hji)) (hsame W' u hk') ?_ ?_
        · intro k ok hk hki hl hno
          refine hfree k ok hk hki ?_ hno
          by_cases hjk : j = k
          · subst hjk; exact hjun
          · rw [getD_set_ne true hjk] at hl; exact hl
        · exact hp.imp id fun h X => hsame X u (h X)
        · rw [Array.setIfInBounds_comm _ _ hji, ← Act.put_comm a v u h2]
          exact hrest
      refine ⟨hjn, oj', hoj, ?_⟩
      rcases hh with ⟨u, hk, hkp, hrest⟩ | ⟨V, hl, hrest⟩ | ⟨V, hl, hw, hrest⟩
      · exact .inl ⟨u, hk.same hx hwn, hkp.imp id fun h X => (h X).same hx hwn, go u W hd hrest⟩
      · exact .inr (.inl ⟨V, hl.same hx hwn, fun u y hu hy => go u y (hd.mono hy) (hrest u y hu hy)⟩)
      · refine .inr (.inr ⟨V, hl.same hx hwn, hw, fun u y hu => go u y ?_ (hrest u y hu)⟩)
        rcases hp with hp | hp
        · exfalso
          unfold waitsB at hw
          have := List.all_eq_true.1 hw i hp
          rw [Bool.or_eq_true] at this
          rcases this with h | h
          · exact hji (beq_iff_eq.1 h).symm
          · obtain ⟨e, he, hb⟩ := Array.any_eq_true'.1 h
            rw [Bool.and_eq_true] at hb
            exact hnot e he hb.1 (by simpa using hb.2)
        · exact hp y
/-- The operations of a plan: 0 pure, 1 still, 2 loud, 3 wild. -/
def pickY (l : List Oper) : List (Nat × Nat) → List (Oper × Nat)
  | [] => []
  | (i, s) :: p => match l[i]? with
    | some o => (o, s) :: pickY l p
    | none => []
/-- Each may come up when its turn is, pure and still ones at any time, loud and wild ones where nothing else can. -/
def planYB (md : Region.Mode) (ops : Array Oper) (g n : Nat) (NP : List Nat) : List (Nat × Nat) → Array Bool → Bool
  | [], listed => Region.seqB md ops g n listed
  | (i, s) :: p, listed => decide (i < n) && (Region.ready md ops listed).contains i && (match s with
      | 0 => Region.free md ops listed i
      | 1 => Region.free md ops listed i && NP.contains i
      | 2 => decide (Region.ready md ops listed = [i])
      | _ => decide (Region.ready md ops listed = [i]) && (match ops[i]? with
        | some o => waitsB md NP i o
        | none => false)) && planYB md ops g n NP p (listed.setIfInBounds i true)
def TextY (P : Program) (ops : Array Oper) (R : Act → World → Prop) : List (Oper × Nat) → Act → World → Prop
  | [], a, W => ∀ x, Old W x → R a x
  | (o, 0) :: p, a, W => ∃ v, (∀ X, Keeps P ops X o v a) ∧ TextY P ops R p (a.put o.dst v) W
  | (o, 1) :: p, a, W => ∃ v, Keeps P ops W o v a ∧ TextY P ops R p (a.put o.dst v) W
  | (o, 2) :: p, a, W => ∃ V, Loud P ops W o V a ∧ ∀ v y, V v y → Old W y → TextY P ops R p (a.put o.dst v) y
  | (o, _ + 3) :: p, a, W => ∃ V, Wild P ops W o V a ∧ ∀ v y, V v y → TextY P ops R p (a.put o.dst v) y
theorem TextY.every {g : Nat} {R : Act → World → Prop} {l : List Oper} (hl : l.toArray = ops) (hsel : Region.noSelect ops = true) (hs : Region.sinkB md ops n = true) (hc : Region.chainB md ops n = true) (hn : n < ops.size) :
    ∀ (p : List (Nat × Nat)) (listed : Array Bool) (a : Act) (W : World), HeadInv md ops n listed → planYB md ops g n NP p listed = true → TextY P ops R (pickY l p) a W →
      EveryY P md ops n NP (fun listed' a' W' => Region.seqB md ops g n listed' = true ∧ ∀ x, Old W' x → R a' x) p.length listed a W
  | [], listed, a, W, _, hB, h => ⟨hB, h⟩
  | (i, s) :: p, listed, a, W, inv, hB, h => by
    simp only [planYB, Bool.and_eq_true, decide_eq_true_eq] at hB
    obtain ⟨⟨⟨hin, hr⟩, hk⟩, hrest⟩ := hB
    have hr : i ∈ Region.ready md ops listed := by simpa using hr
    have hi' : i < l.length := by rw [← hl] at hn; simp at hn; omega
    have ho : l[i]? = some l[i] := List.getElem?_eq_getElem hi'
    have h0 : ops[i]? = some l[i] := by rw [← hl]; simp [hi']
    have e : pickY l ((i, s) :: p) = (l[i], s) :: pickY l p := by
      rw [pickY, ho]
    rw [e] at h
    have inv' := inv.set hr hin
    match s, h, hk with
    | 0, h, hk =>
      obtain ⟨v, hv, ht⟩ := h
      refine EveryY.first h0 (Region.noSelect_spec hsel) hs hc hn hin (fun _ _ _ hL => seqB_ready hL.1) p.length listed a W inv (Region.free_spec h0 hk) hr (hv W) (.inr hv) ?_
      exact TextY.every hl hsel hs hc hn p _ _ W inv' hrest ht
    | 1, h, hk =>
      obtain ⟨v, hv, ht⟩ := h
      simp only [Bool.and_eq_true] at hk
      refine EveryY.first h0 (Region.noSelect_spec hsel) hs hc hn hin (fun _ _ _ hL => seqB_ready hL.1) p.length listed a W inv (Region.free_spec h0 hk.1) hr hv (.inl (by simpa using hk.2)) ?_
      exact TextY.every hl hsel hs hc hn p _ _ W inv' hrest ht
    | 2, h, hk =>
      obtain ⟨V, hv, ht⟩ := h
      have hone : Region.ready md ops listed = [i] := by simpa using hk
      refine ⟨List.ne_nil_of_mem hr, fun j hj => ?_⟩
      obtain rfl : j = i := by rw [hone] at hj; simpa using hj
      exact ⟨hin, _, h0, .inr (.inl ⟨V, hv, fun v y hvy hy => TextY.every hl hsel hs hc hn p _ _ y inv' hrest (ht v y hvy hy)⟩)⟩
    | k + 3, h, hk =>
      obtain ⟨V, hv, ht⟩ := h
      simp only [h0, Bool.and_eq_true, decide_eq_true_eq] at hk
      refine ⟨List.ne_nil_of_mem hr, fun j hj => ?_⟩
      obtain rfl : j = i := by rw [hk.1] at hj; simpa using hj
      exact ⟨hin, _, h0, .inr (.inr ⟨V, hv, hk.2, fun v y hvy => TextY.every hl hsel hs hc hn p _ _ y inv' hrest (ht v y hvy)⟩)⟩
/-- What must be asked of a plan. -/
def planYOk (l : List Oper) (n : Nat) (p : List (Nat × Nat)) : Bool :=
  Region.noSelect l.toArray && decide (n < l.toArray.size) && Region.sinkB .any l.toArray n && Region.chainB .any l.toArray n && decide (p.length = n) && planYB .any l.toArray (l.toArray.size - n) n ((p.filter (fun x => x.2 == 1)).map (fun x => x.1)) p (Array.replicate l.toArray.size false)
/-- A statement that draws its order, by a plan; the rest as it must come. -/
theorem wp_region_planY {id : Nat} {a : Act} {W : World} {l : List Oper} (n : Nat) (p : List (Nat × Nat)) (hm : P.follows .mixedOrders = true) (hB : planYOk l n p = true)
    (h : TextY P l.toArray (fun a' x => wpList P l.toArray Q (l.drop n) a' x) (pickY l p) a W) : (Code.region id l.toArray true).wp P Q a W := by
  simp only [planYOk, Bool.and_eq_true, decide_eq_true_eq] at hB
  obtain ⟨⟨⟨⟨⟨hsel, hn⟩, hs⟩, hc⟩, hp⟩, hlex⟩ := hB
  have inv0 : HeadInv .any l.toArray n (Array.replicate l.toArray.size false) :=
    ⟨by simp, fun j oj _ hj => (by rw [getD_replicate_false] at hj; cases hj), fun t _ ht => getD_in (by simpa using ht) (getD_replicate_false _ _)⟩
  have H := TextY.every (md := .any) (g := l.toArray.size - n) (l := l) rfl hsel hs hc hn p _ a W inv0 hlex h
  refine wp_region_any hm ?_
  have hg : (l.drop n).length = l.toArray.size - n := by simp
  have hn' : n < l.length := by simpa using hn
  have hA := EveryY.any (Q := Q) (g := l.toArray.size - n) (fun listed a' W' hL x hx => by
    have := wpAny_of_seq (md := .any) (Q' := Q) (l.drop n) n listed a' x (fun j => by simp [List.getElem?_drop]) (by rw [hg]; exact hL.1) (hL.2 x hx)
    rwa [hg] at this) _ _ _ W W.drew (Below.refl _ W).drew H
  rw [hp, show n + (l.toArray.size - n) = l.toArray.size by simp; omega] at hA
  exact hA
/-! ### One operation -/
variable {R : Act → World → Prop} {W : World} {o : Oper} {l : List (Oper × Nat)} {a : Act}
theorem keeps_sees (v : Value) (h : ∀ w, Old W w → ∀ K : Next → World → Prop, K (.value v) w → Sees P ops o a w K) (hw : Region.wanted o (yielded ops a.tmps) = true) : Keeps P ops W o v a := by
  refine .inl ⟨hw, fun w hS => .inl ?_⟩
  have g := h w hS (fun n x => n = .value v ∧ x = w) ⟨rfl, rfl⟩
  unfold Sees at g
  rw [if_pos hw] at g
  generalize (execOp a.eval o).run P w = r at g ⊢
  cases r with
  | ok n x => obtain ⟨rfl, rfl⟩ := g; exact ⟨_, rfl, Below.refl _ _⟩
  | halt e x => exact g.elim
theorem TextY.pure (v : Value) (h : ∀ w, ∀ K : Next → World → Prop, K (.value v) w → Sees P ops o a w K) (hw : Region.wanted o (yielded ops a.tmps) = true) (hn : TextY P ops R l (a.put o.dst v) W) : TextY P ops R ((o, 0) :: l) a W :=
  ⟨v, fun X => keeps_sees v (fun w _ => h w) hw, hn⟩
theorem TextY.sees (v : Value) (h : ∀ w, Old W w → ∀ K : Next → World → Prop, K (.value v) w → Sees P ops o a w K) (hw : Region.wanted o (yielded ops a.tmps) = true) (hn : TextY P ops R l (a.put o.dst v) W) : TextY P ops R ((o, 1) :: l) a W :=
  ⟨v, keeps_sees v h hw, hn⟩
theorem TextY.call {F : Nat} {args : Array Value} {v : Value} (c : ∀ w, Old W w → Calls P F args w fun e y => e = .returned v ∧ Below w.heap.size w y) (hw : Region.wanted o (yielded ops a.tmps) = true)
    (he : ∀ w, (execOp a.eval o).run P w = .ok (.enter F args) w) (hn : TextY P ops R l (a.put o.dst v) W) : TextY P ops R ((o, 1) :: l) a W :=
  ⟨v, .inl ⟨hw, fun w hS => .inr (.inr ⟨F, args, w, he w, c w hS⟩)⟩, hn⟩
theorem TextY.loud {F : Nat} {args : Array Value} {V : Value → World → Prop} (c : ∀ w, Old W w → Calls P F args w fun e y => ∃ v, e = .returned v ∧ V v y ∧ Below w.heap.size w y) (hw : Region.wanted o (yielded ops a.tmps) = true)
    (he : ∀ w, (execOp a.eval o).run P w = .ok (.enter F args) w) (hn : ∀ v y, V v y → Old W y → TextY P ops R l (a.put o.dst v) y) : TextY P ops R ((o, 2) :: l) a W :=
  ⟨V, ⟨hw, fun w hS => .inr ⟨F, args, w, he w, c w hS⟩⟩, hn⟩
theorem TextY.loudv {V : Value → World → Prop} (c : ∀ w, Old W w → ∃ v x, (execOp a.eval o).run P w = .ok (.value v) x ∧ V v x ∧ Below w.heap.size w x) (hw : Region.wanted o (yielded ops a.tmps) = true)
    (hn : ∀ v y, V v y → Old W y → TextY P ops R l (a.put o.dst v) y) : TextY P ops R ((o, 2) :: l) a W :=
  ⟨V, ⟨hw, fun w hS => .inl (c w hS)⟩, hn⟩
/-- A store. -/
theorem TextY.store (V : World → World → Prop) (h : ∀ w, Old W w → ∀ K : Next → World → Prop, (∀ y, V w y → K .skip y) → Sees P ops o a w K) (hw : Region.wanted o (yielded ops a.tmps) = true)
    (hn : ∀ x y, Old W x → V x y → TextY P ops R l (a.put o.dst undef) y) : TextY P ops R ((o, 3) :: l) a W := by
  refine ⟨fun v y => v = undef ∧ ∃ x, Old W x ∧ V x y, ⟨hw, fun w hS => ?_⟩, fun v y ⟨hv, x, hx, hy⟩ => by subst hv; exact hn x y hx hy⟩
  have g := h w hS (fun n x => n = .skip ∧ V w x) (fun y hy => ⟨rfl, hy⟩)
  unfold Sees at g
  rw [if_pos hw] at g
  generalize (execOp a.eval o).run P w = r at g ⊢
  cases r with
  | ok n x => obtain ⟨rfl, hv⟩ := g; exact .inr (.inl ⟨x, rfl, rfl, w, hS, hv⟩)
  | halt e x => exact g.elim
end
end Go.Proofs.Ythglidbhabknkaa
