/- The law of DetV where loud calls write older blocks: M tells the blocks that may still be written by loud ones; a still one leaves the same value whatever they hold. Nothing of a program is in it. -/
import Derived.Test.YtdddhflppngloaaDetV
namespace Go.Proofs.Ytdddhflppngloaa
open Go.RowKit
set_option maxRecDepth 20000

/-- All that stood stands, but for the blocks of M. -/
structure Near (M : Nat → Prop) (w w' : World) : Prop where
  os : w'.os = w.os
  tape : w'.tape = w.tape
  output : w'.output = w.output
  size : w.heap.size ≤ w'.heap.size
  block : ∀ i, i < w.heap.size → ¬ M i → w'.heap[i]? = w.heap[i]?
section
variable {P : Program} {ops : Array Oper} {md : Region.Mode} {Q : Exit → Act → World → Prop} {n : Nat} {M M' : Nat → Prop}
theorem Near.of {w w' : World} (h : Old w w') : Near M w w' := ⟨h.os, h.tape, h.output, h.size, fun i hi _ => h.block i hi⟩
theorem Near.trans {a b c : World} (h : Near M a b) (k : Near M' b c) (hM : ∀ i, M' i → M i) : Near M a c :=
  ⟨k.os.trans h.os, k.tape.trans h.tape, k.output.trans h.output, Nat.le_trans h.size k.size, fun i hi hn => (k.block i (Nat.lt_of_lt_of_le hi h.size) (fun e => hn (hM i e))).trans (h.block i hi hn)⟩
theorem Near.cell {w w' : World} (h : Near M w w') {b o : Nat} (hb : b < w.heap.size) (hM : ¬ M b) : w'.cell? ⟨b, o, none⟩ = w.cell? ⟨b, o, none⟩ := World.cell?_of_block (h.block b hb hM)
def KeepsU (P : Program) (ops : Array Oper) (M : Nat → Prop) (W : World) (o : Oper) (v : Value) (a : Act) : Prop :=
  (Region.wanted o (yielded ops a.tmps) = true ∧ ∀ w, Near M W w → Gives P (fun x => Below w.heap.size w x) v ((execOp a.eval o).run P w)) ∨ (Region.wanted o (yielded ops a.tmps) = false ∧ v = undef)
def LoudU (P : Program) (ops : Array Oper) (M : Nat → Prop) (W : World) (o : Oper) (V : Value → World → Prop) (a : Act) : Prop :=
  Region.wanted o (yielded ops a.tmps) = true ∧ ∀ w, Old W w → GivesV P (fun v y => V v y ∧ Near M w y) ((execOp a.eval o).run P w)
theorem KeepsU.keeps {W : World} {o : Oper} {v : Value} {a : Act} (h : KeepsU P ops M W o v a) : Keeps P ops W o v a := by
  rcases h with ⟨hw, hg⟩ | h
  · exact .inl ⟨hw, fun w hS => hg w (Near.of hS)⟩
  · exact .inr h
theorem KeepsU.mono {W W' : World} {o : Oper} {v : Value} {a : Act} (h : KeepsU P ops M W o v a) (hW : Near M W W') (hM : ∀ i, M' i → M i) : KeepsU P ops M' W' o v a := by
  rcases h with ⟨hw, hg⟩ | h
  · exact .inl ⟨hw, fun w hS => hg w (hW.trans hS hM)⟩
  · exact .inr h
theorem KeepsU.same {W : World} {o : Oper} {v : Value} {a b : Act} (h : KeepsU P ops M W o v a) (he : execOp b.eval o = execOp a.eval o) (hw : Region.wanted o (yielded ops b.tmps) = Region.wanted o (yielded ops a.tmps)) : KeepsU P ops M W o v b := by
  unfold KeepsU
  rw [he, hw]
  exact h
theorem LoudU.same {W : World} {o : Oper} {V : Value → World → Prop} {a b : Act} (h : LoudU P ops M W o V a) (he : execOp b.eval o = execOp a.eval o) (hw : Region.wanted o (yielded ops b.tmps) = Region.wanted o (yielded ops a.tmps)) : LoudU P ops M W o V b := by
  unfold LoudU
  rw [he, hw]
  exact h
theorem LoudU.step {W : World} {o : Oper} {V : Value → World → Prop} {a : Act} {i : Nat} {w : World} {K : Act → World → Prop} (hi : ops[i]? = some o) (h : LoudU P ops M W o V a) (hS : Old W w) (hK : ∀ v x, V v x → Near M w x → K (a.put o.dst v) x) : wpOp P ops Q i K a w := by
  unfold wpOp
  simp only [hi]
  rw [if_pos h.1]
  refine .inl ?_
  have g := h.2 w hS
  unfold Oper.wp
  rcases g with ⟨v, x, hr, hx, hb⟩ | ⟨f, args, x, hr, hx⟩ <;> rw [hr]
  · exact hK v x hx hb
  · exact Calls.mono hx fun e y hy => by obtain ⟨v, rfl, hy, hb⟩ := hy; exact hK v y hy hb
/-- Whatever order the first n operations come up in. -/
def EveryU (P : Program) (md : Region.Mode) (ops : Array Oper) (n : Nat) (L : Array Bool → Act → World → Prop) : Nat → (Nat → Prop) → Array Bool → Act → World → Prop
  | 0, _, listed, a, W => L listed a W
  | f + 1, M, listed, a, W => Region.ready md ops listed ≠ [] ∧ ∀ i ∈ Region.ready md ops listed, i < n ∧ ∃ o, ops[i]? = some o ∧
      ((∃ v, KeepsU P ops M W o v a ∧ EveryU P md ops n L f M (listed.setIfInBounds i true) (a.put o.dst v) W) ∨
       ∃ V M', (∀ i, M' i → M i) ∧ LoudU P ops M W o V a ∧ ∀ v y, V v y → Near M W y → EveryU P md ops n L f M' (listed.setIfInBounds i true) (a.put o.dst v) y)
variable {L : Array Bool → Act → World → Prop}
theorem EveryU.any {g : Nat} (hL : ∀ listed a W, L listed a W → ∀ w, Old W w → wpAny P md ops Q g listed a w) :
    ∀ (f : Nat) (M : Nat → Prop) (listed : Array Bool) (a : Act) (W w : World), Old W w → EveryU P md ops n L f M listed a W → wpAny P md ops Q (f + g) listed a w
  | 0, M, listed, a, W, w, hS, h => by rw [Nat.zero_add]; exact hL _ _ _ h w hS
  | f + 1, M, listed, a, W, w, hS, h => by
    rw [Nat.add_right_comm]
    refine ⟨fun h0 => absurd h0 h.1, fun i hi => ?_⟩
    obtain ⟨_, o, ho, hh⟩ := h.2 i hi
    rcases hh with ⟨v, hk, hn⟩ | ⟨V, M', hM, hl, hn⟩
    · exact hk.keeps.step ho hS fun x hx => EveryU.any hL f _ _ _ W x (hS.trans hx) hn
    · exact hl.step ho hS fun v x hv hx => EveryU.any hL f _ _ _ x x (Below.refl _ _) (hn v x hv ((Near.of hS).trans hx fun _ h => h))
/-- A still one that may come up now may as well come up first. -/
theorem EveryU.first {i : Nat} {oi : Oper} {v : Value} (hi : ops[i]? = some oi) (hsel : ∀ (j : Nat) (o : Oper) cs b, ops[j]? = some o → o.op ≠ .select cs b)
    (hs : Region.sinkB md ops n = true) (hc : Region.chainB md ops n = true) (hn : n < ops.size) (hin : i < n) (hL : ∀ listed a W, L listed a W → ∀ j ∈ Region.ready md ops listed, n ≤ j) :
    ∀ (f : Nat) (M : Nat → Prop) (listed : Array Bool) (a : Act) (W : World), HeadInv md ops n listed →
      (∀ j oj, ops[j]? = some oj → j ≠ i → listed.getD j true = false → (∀ e ∈ oj.after, Region.binds md e = true → e.on ≠ i) → oi.apart ops oj = true) →
      i ∈ Region.ready md ops listed → KeepsU P ops M W oi v a → EveryU P md ops n L f M (listed.setIfInBounds i true) (a.put oi.dst v) W → EveryU P md ops n L (f + 1) M listed a W := by
  intro f
  induction f with
  | zero =>
    intro M listed a W inv _ hr hd H
    refine ⟨List.ne_nil_of_mem hr, fun j hj => ?_⟩
    have hjn : j < n := Nat.lt_of_not_le fun h => tail_waits hs hc hn inv _ i rfl hin (mem_ready.1 hr).1 j h hj
    by_cases hji : j = i
    · subst hji; exact ⟨hjn, oi, hi, .inl ⟨v, hd, H⟩⟩
    · exact absurd (hL _ _ _ H j (ready_mono hj hji)) (Nat.not_le.2 hjn)
  | succ f ih =>
    intro M listed a W inv hfree hr hd H
    refine ⟨List.ne_nil_of_mem hr, fun j hj => ?_⟩
    have hun := (mem_ready.1 hr).1
    have hjn : j < n := Nat.lt_of_not_le fun h => tail_waits hs hc hn inv _ i rfl hin hun j h hj
    by_cases hji : j = i
    · subst hji; exact ⟨hjn, oi, hi, .inl ⟨v, hd, H⟩⟩
    · obtain ⟨_, oj, hoj, hh⟩ := H.2 j (ready_mono hj hji)
      obtain ⟨hjun, oj', hoj', hall⟩ := mem_ready.1 hj
      obtain rfl : oj' = oj := Option.some.inj (hoj'.symm.trans hoj)
      have hap := hfree j oj' hoj hji hjun fun e he hb heq => by
        have h1 := hall e he hb
        rw [heq, getD_both hun] at h1
        cases h1
      obtain ⟨h1, h2, h3⟩ := Oper.apart_spec hap
      have hx := (execOp_put oj' (fun cs b => hsel j oj' cs b hoj) a oi.dst v h1).symm
      have hwn := (wanted_put oj' a oi.dst v h1).symm
      have go : ∀ u M' W', (∀ i, M' i → M i) → Near M W W' → EveryU P md ops n L f M' ((listed.setIfInBounds i true).setIfInBounds j true) ((a.put oi.dst v).put oj'.dst u) W' → EveryU P md ops n L (f + 1) M' (listed.setIfInBounds j true) (a.put oj'.dst u) W' := by
        intro u M' W' hM' hW' hrest
        refine ih M' (listed.setIfInBounds j true) (a.put oj'.dst u) W' (inv.set hj hjn) ?_ (ready_mono hr (Ne.symm hji)) ((hd.mono hW' hM').same (execOp_put oi (fun cs b => hsel i oi cs b hi) a oj'.dst u h3) (wanted_put oi a oj'.dst u h3)) ?_
        · intro k ok hk hki hl hno
          refine hfree k ok hk hki ?_ hno
          by_cases hjk : j = k
          · subst hjk; exact hjun
          · rw [getD_set_ne true hjk] at hl; exact hl
        · rw [Array.setIfInBounds_comm _ _ hji, ← Act.put_comm a v u h2]
          exact hrest
      refine ⟨hjn, oj', hoj, ?_⟩
      rcases hh with ⟨u, hk, hrest⟩ | ⟨V, M', hM', hl, hrest⟩
      · exact .inl ⟨u, hk.same hx hwn, go u M W (fun _ h => h) (Near.of (Below.refl _ _)) hrest⟩
      · exact .inr ⟨V, M', hM', hl.same hx hwn, fun u y hu hy => go u M' y hM' hy (hrest u y hu hy)⟩
def TextU (P : Program) (ops : Array Oper) (R : Act → World → Prop) : List (Oper × Bool) → (Nat → Prop) → Act → World → Prop
  | [], _, a, W => ∀ x, Old W x → R a x
  | (o, true) :: p, M, a, W => ∃ v, KeepsU P ops M W o v a ∧ TextU P ops R p M (a.put o.dst v) W
  | (o, false) :: p, M, a, W => ∃ V M', (∀ i, M' i → M i) ∧ LoudU P ops M W o V a ∧ ∀ v y, V v y → Near M W y → TextU P ops R p M' (a.put o.dst v) y
theorem TextU.every {g : Nat} {R : Act → World → Prop} {l : List Oper} (hl : l.toArray = ops) (hsel : Region.noSelect ops = true) (hs : Region.sinkB md ops n = true) (hc : Region.chainB md ops n = true) (hn : n < ops.size) :
    ∀ (p : List (Nat × Bool)) (M : Nat → Prop) (listed : Array Bool) (a : Act) (W : World), HeadInv md ops n listed → planB md ops g n p listed = true → TextU P ops R (pick l p) M a W →
      EveryU P md ops n (fun listed' a' W' => Region.seqB md ops g n listed' = true ∧ ∀ x, Old W' x → R a' x) p.length M listed a W
  | [], M, listed, a, W, _, hB, h => ⟨hB, h⟩
  | (i, s) :: p, M, listed, a, W, inv, hB, h => by
    simp only [planB, Bool.and_eq_true, decide_eq_true_eq] at hB
    obtain ⟨⟨⟨hin, hr⟩, hk⟩, hrest⟩ := hB
    have hr : i ∈ Region.ready md ops listed := by simpa using hr
    have hi' : i < l.length := by rw [← hl] at hn; simp at hn; omega
    have ho : l[i]? = some l[i] := List.getElem?_eq_getElem hi'
    have h0 : ops[i]? = some l[i] := by rw [← hl]; simp [hi']
    have e : pick l ((i, s) :: p) = (l[i], s) :: pick l p := by
      rw [pick, ho]
    rw [e] at h
    have inv' := inv.set hr hin
    cases s with
    | true =>
      obtain ⟨v, hv, ht⟩ := h
      refine EveryU.first h0 (Region.noSelect_spec hsel) hs hc hn hin (fun _ _ _ hL => seqB_ready hL.1) p.length M listed a W inv (Region.free_spec h0 hk) hr hv ?_
      exact TextU.every hl hsel hs hc hn p M _ _ W inv' hrest ht
    | false =>
      obtain ⟨V, M', hM', hv, ht⟩ := h
      have hone : Region.ready md ops listed = [i] := by simpa using hk
      refine ⟨List.ne_nil_of_mem hr, fun j hj => ?_⟩
      obtain rfl : j = i := by rw [hone] at hj; simpa using hj
      exact ⟨hin, _, h0, .inr ⟨V, M', hM', hv, fun v y hvy hy => TextU.every hl hsel hs hc hn p M' _ _ y inv' hrest (ht v y hvy hy)⟩⟩
/-- A statement that draws its order, by a plan; the rest as it must come. -/
theorem wp_region_planU {id : Nat} {a : Act} {W : World} {l : List Oper} (n : Nat) (p : List (Nat × Bool)) (M : Nat → Prop) (hm : P.follows .mixedOrders = true) (hB : planOk l n p = true)
    (h : TextU P l.toArray (fun a' x => wpList P l.toArray Q (l.drop n) a' x) (pick l p) M a W) : (Code.region id l.toArray true).wp P Q a W := by
  simp only [planOk, Bool.and_eq_true, decide_eq_true_eq] at hB
  obtain ⟨⟨⟨⟨⟨hsel, hn⟩, hs⟩, hc⟩, hp⟩, hlex⟩ := hB
  have inv0 : HeadInv .any l.toArray n (Array.replicate l.toArray.size false) :=
    ⟨by simp, fun j oj _ hj => (by rw [getD_replicate_false] at hj; cases hj), fun t _ ht => getD_in (by simpa using ht) (getD_replicate_false _ _)⟩
  have H := TextU.every (md := .any) (g := l.toArray.size - n) (l := l) rfl hsel hs hc hn p M _ a W inv0 hlex h
  refine wp_region_any hm ?_
  have hg : (l.drop n).length = l.toArray.size - n := by simp
  have hn' : n < l.length := by simpa using hn
  have hA := EveryU.any (Q := Q) (g := l.toArray.size - n) (fun listed a' W' hL x hx => by
    have := wpAny_of_seq (md := .any) (Q' := Q) (l.drop n) n listed a' x (fun j => by simp [List.getElem?_drop]) (by rw [hg]; exact hL.1) (hL.2 x hx)
    rwa [hg] at this) _ _ _ _ W W.drew (Below.refl _ W).drew H
  rw [hp, show n + (l.toArray.size - n) = l.toArray.size by simp; omega] at hA
  exact hA
variable {R : Act → World → Prop} {W : World} {o : Oper} {l : List (Oper × Bool)} {a : Act}
theorem TextU.sees (v : Value) (h : ∀ w, Near M W w → ∀ K : Next → World → Prop, K (.value v) w → Sees P ops o a w K) (hw : Region.wanted o (yielded ops a.tmps) = true) (hn : TextU P ops R l M (a.put o.dst v) W) : TextU P ops R ((o, true) :: l) M a W := by
  refine ⟨v, .inl ⟨hw, fun w hS => .inl ?_⟩, hn⟩
  have g := h w hS (fun n x => n = .value v ∧ x = w) ⟨rfl, rfl⟩
  unfold Sees at g
  rw [if_pos hw] at g
  generalize (execOp a.eval o).run P w = r at g ⊢
  cases r with
  | ok n x => obtain ⟨rfl, rfl⟩ := g; exact ⟨_, rfl, Below.refl _ _⟩
  | halt e x => exact g.elim
theorem TextU.idle (h : ∀ w, Near M W w → ∀ K : Next → World → Prop, K .skip w → Sees P ops o a w K) (hn : TextU P ops R l M (a.put o.dst undef) W) : TextU P ops R ((o, true) :: l) M a W := by
  refine ⟨undef, ?_, hn⟩
  by_cases hw : Region.wanted o (yielded ops a.tmps) = true
  · refine .inl ⟨hw, fun w hS => .inr (.inl ?_)⟩
    have g := h w hS (fun n x => n = .skip ∧ x = w) ⟨rfl, rfl⟩
    unfold Sees at g
    rw [if_pos hw] at g
    generalize (execOp a.eval o).run P w = r at g ⊢
    cases r with
    | ok n x => obtain ⟨rfl, rfl⟩ := g; exact ⟨_, rfl, rfl, Below.refl _ _⟩
    | halt e x => exact g.elim
  · exact .inr ⟨by simpa using hw, rfl⟩
theorem TextU.call {F : Nat} {args : Array Value} {v : Value} (c : ∀ w, Near M W w → Calls P F args w fun e y => e = .returned v ∧ Below w.heap.size w y) (hw : Region.wanted o (yielded ops a.tmps) = true)
    (he : ∀ w, (execOp a.eval o).run P w = .ok (.enter F args) w) (hn : TextU P ops R l M (a.put o.dst v) W) : TextU P ops R ((o, true) :: l) M a W :=
  ⟨v, .inl ⟨hw, fun w hS => .inr (.inr ⟨F, args, w, he w, c w hS⟩)⟩, hn⟩
theorem TextU.val {v : Value} (h : ∀ w, Near M W w → (execOp a.eval o).run P w = .ok (.value v) w) (hw : Region.wanted o (yielded ops a.tmps) = true) (hn : TextU P ops R l M (a.put o.dst v) W) : TextU P ops R ((o, true) :: l) M a W :=
  ⟨v, .inl ⟨hw, fun w hS => .inl ⟨w, h w hS, Below.refl _ _⟩⟩, hn⟩
theorem TextU.loud (M' : Nat → Prop) {F : Nat} {args : Array Value} {V : Value → World → Prop} (hM : ∀ i, M' i → M i) (c : ∀ w, Old W w → Calls P F args w fun e y => ∃ v, e = .returned v ∧ V v y ∧ Near M w y) (hw : Region.wanted o (yielded ops a.tmps) = true)
    (he : ∀ w, (execOp a.eval o).run P w = .ok (.enter F args) w) (hn : ∀ v y, V v y → Near M W y → TextU P ops R l M' (a.put o.dst v) y) : TextU P ops R ((o, false) :: l) M a W :=
  ⟨V, M', hM, ⟨hw, fun w hS => .inr ⟨F, args, w, he w, c w hS⟩⟩, hn⟩
theorem TextU.loudv (M' : Nat → Prop) {V : Value → World → Prop} (hM : ∀ i, M' i → M i) (c : ∀ w, Old W w → ∃ v y, (execOp a.eval o).run P w = .ok (.value v) y ∧ V v y ∧ Near M w y) (hw : Region.wanted o (yielded ops a.tmps) = true)
    (hn : ∀ v y, V v y → Near M W y → TextU P ops R l M' (a.put o.dst v) y) : TextU P ops R ((o, false) :: l) M a W :=
  ⟨V, M', hM, ⟨hw, fun w hS => .inl (c w hS)⟩, hn⟩
theorem exec_append {o : Oper} {a : Act} {w w' : World} (s x : Operand) {T U : TypeId} (ho : o.op = .call { callee := .builtin .append, args := #[s, x], argTypes := #[T, U] }) {v u v' : Value} (hs : a.eval s = v) (hx : a.eval x = u)
    (hr : (Builtin.append_ #[T, U] o.type #[v, u]).run P w = .ok v' w') : (execOp a.eval o).run P w = .ok (.value v') w' := by
  unfold execOp
  simp only [ho, resolve, invoke, builtin, Sem.run_bind, Sem.run_pure, Result.andThen_ok, List.map_toArray, List.map_cons, List.map_nil, hs, hx, hr]
theorem TextU.done (h : ∀ x, Old W x → R a x) : TextU P ops R [] M a W := h
/-- Behind the last loud one. -/
theorem Near.old {W x : World} (h : Near (fun _ => False) W x) : Old W x := ⟨h.os, h.tape, h.output, h.size, fun i hi => h.block i hi (fun e => e)⟩
end
end Go.Proofs.Ytdddhflppngloaa
