/- The law of DetU with new variables made among the calls: 'x := f(g(a), h(b))' where x lies in memory and a callee writes older blocks. The operations of ms each make one block, whenever they come up; loud ones come up where nothing but those can; the rest as in DetU. Nothing of a program is in it. -/
import Derived.Test.YtdddhflppngloaaDetU
namespace Go.Proofs.Ytdddhflppngloaa
open Go.RowKit
set_option maxRecDepth 20000

/-- What the operations of ms that have come up have made. -/
def MadeX (ops : Array Oper) (Z : Nat → Obj) (B : Nat) (ms : List Nat) (listed : Array Bool) (a : Act) (x : World) : Prop :=
  ∃ G : Nat → Nat, (∀ i, i ∈ ms → listed.getD i false = true → B ≤ G i ∧ x.heap[G i]? = some (Z i) ∧ ∃ o d, ops[i]? = some o ∧ o.dst = some d ∧ a.tmps[d]? = some (ptr (G i))) ∧
    ∀ i j, i ∈ ms → j ∈ ms → listed.getD i false = true → listed.getD j false = true → i ≠ j → G i ≠ G j
section
variable {P : Program} {ops : Array Oper} {md : Region.Mode} {Q : Exit → Act → World → Prop} {n : Nat} {M M' : Nat → Prop} {Z : Nat → Obj} {ms : List Nat}
theorem MadeX.keep {B i : Nat} {listed : Array Bool} {a : Act} {w x : World} {o : Oper} {v : Value} (h : MadeX ops Z B ms listed a w) (hap : apartB ops n = true) (hl : ∀ k, k ∈ ms → k < n) (hi : i ∉ ms) (hin : i < n) (ho : ops[i]? = some o) (hb : Near M w x) (hM : ∀ j, M j → j < B) :
    MadeX ops Z B ms (listed.setIfInBounds i true) (a.put o.dst v) x := by
  obtain ⟨G, h1, h2⟩ := h
  have hs : ∀ k, k ∈ ms → (listed.setIfInBounds i true).getD k false = true → listed.getD k false = true := fun k hk h => by
    rw [getD_set_ne false (fun e : i = k => hi (e ▸ hk))] at h; exact h
  refine ⟨G, fun k hk hkl => ?_, fun k j hk hj hkl hjl => h2 k j hk hj (hs k hk hkl) (hs j hj hjl)⟩
  obtain ⟨hB, hz, p, d, hp, hd, ht⟩ := h1 k hk (hs k hk hkl)
  have hlt : G k < w.heap.size := (Array.getElem?_eq_some_iff.1 hz).1
  refine ⟨hB, (hb.block _ hlt (fun hm => absurd (hM _ hm) (by omega))).trans hz, p, d, hp, hd, ?_⟩
  rw [put_other _ _ _ _ (apartB_spec hap (hl k hk) hin hp ho hd (fun e : k = i => hi (e ▸ hk)))]
  exact ht
theorem MadeX.more {B i : Nat} {listed : Array Bool} {a : Act} {w : World} {o : Oper} {d : Nat} (h : MadeX ops Z B ms listed a w) (hap : apartB ops n = true) (hl : ∀ k, k ∈ ms → k < n) (hin : i < n) (ho : ops[i]? = some o) (hd : o.dst = some d) (hda : d < a.tmps.size) (hB : B ≤ w.heap.size) :
    MadeX ops Z B ms (listed.setIfInBounds i true) (a.put o.dst (ptr w.heap.size)) (w.alloc (Z i)) := by
  obtain ⟨G, h1, h2⟩ := h
  have hs : ∀ k, k ≠ i → (listed.setIfInBounds i true).getD k false = true → listed.getD k false = true := fun k hk h => by
    rw [getD_set_ne false (Ne.symm hk)] at h; exact h
  obtain ⟨G', hi, hne⟩ : ∃ G' : Nat → Nat, G' i = w.heap.size ∧ ∀ k, k ≠ i → G' k = G k := ⟨fun k => if k = i then w.heap.size else G k, if_pos rfl, fun k h => if_neg h⟩
  refine ⟨G', fun k hk hkl => ?_, fun k j hk hj hkl hjl hkj => ?_⟩
  · by_cases hki : k = i
    · subst hki
      rw [hi]
      refine ⟨hB, by unfold World.alloc; exact Array.getElem?_push_size, o, d, ho, hd, ?_⟩
      rw [hd]
      exact put_at a d _ hda
    · rw [hne k hki]
      obtain ⟨hb, hz, p, e, hp, he, ht⟩ := h1 k hk (hs k hki hkl)
      have hlt : G k < w.heap.size := (Array.getElem?_eq_some_iff.1 hz).1
      refine ⟨hb, (Below.heap_alloc _ _ _ hlt).trans hz, p, e, hp, he, ?_⟩
      rw [put_other _ _ _ _ (apartB_spec hap (hl k hk) hin hp ho he hki)]
      exact ht
  · have lt : ∀ k, k ∈ ms → k ≠ i → (listed.setIfInBounds i true).getD k false = true → G k < w.heap.size := fun k hk hki hkl => by
      obtain ⟨_, hz, _⟩ := h1 k hk (hs k hki hkl)
      exact (Array.getElem?_eq_some_iff.1 hz).1
    by_cases hki : k = i
    · subst hki
      have := lt j hj (Ne.symm hkj) hjl
      rw [hi, hne j (Ne.symm hkj)]
      omega
    · by_cases hji : j = i
      · subst hji
        have := lt k hk hki hkl
        rw [hi, hne k hki]
        omega
      · rw [hne k hki, hne j hji]
        exact h2 k j hk hj (hs k hki hkl) (hs j hji hjl) hkj
/-- Whatever order the first n operations come up in. -/
def EveryX (P : Program) (md : Region.Mode) (ops : Array Oper) (n : Nat) (ms : List Nat) (L : Array Bool → Act → World → Prop) : Nat → (Nat → Prop) → Array Bool → Act → World → Prop
  | 0, _, listed, a, W => L listed a W
  | f + 1, M, listed, a, W => Region.ready md ops listed ≠ [] ∧ ∀ i ∈ Region.ready md ops listed, i < n ∧ ∃ o, ops[i]? = some o ∧
      ((i ∈ ms ∧ ∀ g, EveryX P md ops n ms L f M (listed.setIfInBounds i true) (a.put o.dst (ptr g)) W) ∨
       (i ∉ ms ∧ ∃ v, KeepsU P ops M W o v a ∧ EveryX P md ops n ms L f M (listed.setIfInBounds i true) (a.put o.dst v) W) ∨
       (i ∉ ms ∧ ∃ V M', (∀ i, M' i → M i) ∧ LoudU P ops M W o V a ∧ ∀ v y, V v y → Near M W y → EveryX P md ops n ms L f M' (listed.setIfInBounds i true) (a.put o.dst v) y))
variable {L : Array Bool → Act → World → Prop}
theorem EveryX.any {g B : Nat} (hap : apartB ops n = true) (hms : ∀ i, i ∈ ms → i < n) (hZ : ∀ i, i ∈ ms → Makes P ops i (Z i))
    (hL : ∀ listed a W, L listed a W → ∀ w, Old W w → MadeX ops Z B ms listed a w → wpAny P md ops Q g listed a w) :
    ∀ (f : Nat) (M : Nat → Prop) (listed : Array Bool) (a : Act) (W w : World), Old W w → B ≤ W.heap.size → (∀ j, M j → j < B) → MadeX ops Z B ms listed a w → (∀ i o d, i < n → ops[i]? = some o → o.dst = some d → d < a.tmps.size) →
      EveryX P md ops n ms L f M listed a W → wpAny P md ops Q (f + g) listed a w
  | 0, M, listed, a, W, w, hS, _, _, hM, _, h => by rw [Nat.zero_add]; exact hL _ _ _ h w hS hM
  | f + 1, M, listed, a, W, w, hS, hB, hMB, hM, hsz, h => by
    rw [Nat.add_right_comm]
    refine ⟨fun h0 => absurd h0 h.1, fun i hi => ?_⟩
    obtain ⟨hin, o, ho, hh⟩ := h.2 i hi
    have hsz' : ∀ v, ∀ j p d, j < n → ops[j]? = some p → p.dst = some d → d < (a.put o.dst v).tmps.size := fun v j p d hj hp hd => by
      rw [put_size]; exact hsz j p d hj hp hd
    rcases hh with ⟨him, hg⟩ | ⟨him, v, hk, hn⟩ | ⟨him, V, M', hM', hl, hn⟩
    · obtain ⟨o', d, ho', hd, hw, hr⟩ := hZ i him
      obtain rfl : o' = o := Option.some.inj (ho'.symm.trans ho)
      unfold wpOp
      simp only [ho]
      rw [if_pos (hw _)]
      refine .inl ?_
      unfold Oper.wp
      rw [hr]
      exact EveryX.any hap hms hZ hL f M _ _ W _ (hS.alloc hS.size _) hB hMB (hM.more hap hms hin ho hd (hsz i o' d hin ho hd) (Nat.le_trans hB hS.size)) (hsz' _) (hg _)
    · exact hk.keeps.step ho hS fun x hx => EveryX.any hap hms hZ hL f M _ _ W x (hS.trans hx) hB hMB (hM.keep (M := M) hap hms him hin ho (Near.of hx) hMB) (hsz' _) hn
    · exact hl.step ho hS fun v x hv hx => EveryX.any hap hms hZ hL f M' _ _ x x (Below.refl _ _) (Nat.le_trans (Nat.le_trans hB hS.size) hx.size) (fun j hj => hMB j (hM' j hj)) (hM.keep hap hms him hin ho hx hMB) (hsz' _) (hn v x hv ((Near.of hS).trans hx fun _ h => h))
/-- A still one that may come up now may as well come up first. -/
theorem EveryX.first {i : Nat} {oi : Oper} {v : Value} (hi : ops[i]? = some oi) (hsel : ∀ (j : Nat) (o : Oper) cs b, ops[j]? = some o → o.op ≠ .select cs b)
    (hs : Region.sinkB md ops n = true) (hc : Region.chainB md ops n = true) (hn : n < ops.size) (hin : i < n) (him : i ∉ ms) (hL : ∀ listed a W, L listed a W → ∀ j ∈ Region.ready md ops listed, n ≤ j) :
    ∀ (f : Nat) (M : Nat → Prop) (listed : Array Bool) (a : Act) (W : World), HeadInv md ops n listed →
      (∀ j oj, ops[j]? = some oj → j ≠ i → listed.getD j true = false → (∀ e ∈ oj.after, Region.binds md e = true → e.on ≠ i) → oi.apart ops oj = true) →
      i ∈ Region.ready md ops listed → KeepsU P ops M W oi v a → EveryX P md ops n ms L f M (listed.setIfInBounds i true) (a.put oi.dst v) W → EveryX P md ops n ms L (f + 1) M listed a W := by
  intro f
  induction f with
  | zero =>
    intro M listed a W inv _ hr hd H
    refine ⟨List.ne_nil_of_mem hr, fun j hj => ?_⟩
    have hjn : j < n := Nat.lt_of_not_le fun h => tail_waits hs hc hn inv _ i rfl hin (mem_ready.1 hr).1 j h hj
    by_cases hji : j = i
    · subst hji; exact ⟨hjn, oi, hi, .inr (.inl ⟨him, v, hd, H⟩)⟩
    · exact absurd (hL _ _ _ H j (ready_mono hj hji)) (Nat.not_le.2 hjn)
  | succ f ih =>
    intro M listed a W inv hfree hr hd H
    refine ⟨List.ne_nil_of_mem hr, fun j hj => ?_⟩
    have hun := (mem_ready.1 hr).1
    have hjn : j < n := Nat.lt_of_not_le fun h => tail_waits hs hc hn inv _ i rfl hin hun j h hj
    by_cases hji : j = i
    · subst hji; exact ⟨hjn, oi, hi, .inr (.inl ⟨him, v, hd, H⟩)⟩
    · obtain ⟨_, oj, hoj, hh⟩ := H.2 j (ready_mono hj hji)
      obtain ⟨hjun, oj', hoj', hall⟩ := mem_ready.1 hj
      obtain rfl : oj' = oj := Option.some.inj (hoj'.symm.trans hoj)
      have hap := hfree j oj' hoj hji hjun fun e he hb heq => by
        have h1 := hall e he hb
        rw [heq, getD_both hun] at h1
        cases h1
      obtain ⟨h1, h2, h3⟩ := Oper.apart_spec hap
      have hx := (execOp_put oj' (fun cs b => hsel j oj' cs b hoj) a oi.dst v h1).symm
      have hwn := (wanted_put oj' a oi.dst v h1).symm
      have go : ∀ u M' W', (∀ i, M' i → M i) → Near M W W' → EveryX P md ops n ms L f M' ((listed.setIfInBounds i true).setIfInBounds j true) ((a.put oi.dst v).put oj'.dst u) W' → EveryX P md ops n ms L (f + 1) M' (listed.setIfInBounds j true) (a.put oj'.dst u) W' := by
        intro u M' W' hM' hW' hrest
        refine ih M' (listed.setIfInBounds j true) (a.put oj'.dst u) W' (inv.set hj hjn) ?_ (ready_mono hr (Ne.symm hji)) ((hd.mono hW' hM').same (execOp_put oi (fun cs b => hsel i oi cs b hi) a oj'.dst u h3) (wanted_put oi a oj'.dst u h3)) ?_
        · intro k ok hk hki hl hno
          refine hfree k ok hk hki ?_ hno
          by_cases hjk : j = k
          · subst hjk; exact hjun
          · rw [getD_set_ne true hjk] at hl; exact hl
        · rw [Array.setIfInBounds_comm _ _ hji, ← Act.put_comm a v u h2]
          exact hrest
      refine ⟨hjn, oj', hoj, ?_⟩
      rcases hh with ⟨hm, hg⟩ | ⟨hm, u, hk, hrest⟩ | ⟨hm, V, M', hM', hl, hrest⟩
      · exact .inl ⟨hm, fun g => go _ M W (fun _ h => h) (Near.of (Below.refl _ _)) (hg g)⟩
      · exact .inr (.inl ⟨hm, u, hk.same hx hwn, go u M W (fun _ h => h) (Near.of (Below.refl _ _)) hrest⟩)
      · exact .inr (.inr ⟨hm, V, M', hM', hl.same hx hwn, fun u y hu hy => go u M' y hM' hy (hrest u y hu hy)⟩)
/-- All of ms have come up. -/
def setAll (ms : List Nat) (l : Array Bool) : Array Bool := ms.foldl (fun l k => l.setIfInBounds k true) l
theorem setAll_set : ∀ (ms : List Nat) (l : Array Bool) (j : Nat), j ∈ ms → setAll ms (l.setIfInBounds j true) = setAll ms l
  | [], _, _, h => absurd h (by simp)
  | m :: ms, l, j, h => by
    show setAll ms ((l.setIfInBounds j true).setIfInBounds m true) = setAll ms (l.setIfInBounds m true)
    by_cases e : j = m
    · subst e
      congr 1
      apply Array.ext
      · simp
      · intro k h1 h2
        simp
    · rw [Array.setIfInBounds_comm _ _ e]
      exact setAll_set ms _ j (by simpa [e] using h)
theorem ready_all {j : Nat} : ∀ (ms : List Nat) (l : Array Bool), j ∉ ms → j ∈ Region.ready md ops l → j ∈ Region.ready md ops (setAll ms l)
  | [], _, _, h => h
  | m :: ms, l, hj, h => ready_all ms (l.setIfInBounds m true) (fun h' => hj (List.mem_cons_of_mem _ h')) (ready_mono h (fun e => hj (e ▸ List.mem_cons_self ..)))
theorem LoudU.ex {W : World} {o : Oper} {V : Value → World → Prop} {a : Act} (h : LoudU P ops M W o V a) : ∃ v y, V v y ∧ Near M W y := by
  rcases h.2 W (Below.refl _ _) with ⟨v, x, _, hx⟩ | ⟨f, args, x, _, hx⟩
  · exact ⟨v, x, hx⟩
  · obtain ⟨e, w', fr, ⟨v, _, hv⟩, _⟩ := hx []
    exact ⟨v, w', hv⟩
/-- A loud one may as well come up first, where nothing but it and those that make blocks can. -/
theorem EveryX.loud {i : Nat} {oi : Oper} {V : Value → World → Prop} (hi : ops[i]? = some oi) (hsel : ∀ (j : Nat) (o : Oper) cs b, ops[j]? = some o → o.op ≠ .select cs b)
    (hs : Region.sinkB md ops n = true) (hc : Region.chainB md ops n = true) (hn : n < ops.size) (hin : i < n) (him : i ∉ ms) (hL : ∀ listed a W, L listed a W → ∀ j ∈ Region.ready md ops listed, n ≤ j) :
    ∀ (f : Nat) (M M' : Nat → Prop) (listed : Array Bool) (a : Act) (W : World), HeadInv md ops n listed →
      (∀ j oj, ops[j]? = some oj → j ≠ i → listed.getD j true = false → (∀ e ∈ oj.after, Region.binds md e = true → e.on ≠ i) → oi.apart ops oj = true) →
      (∀ j ∈ Region.ready md ops (setAll ms listed), j = i) → i ∈ Region.ready md ops listed → (∀ i, M' i → M i) → LoudU P ops M W oi V a →
      (∀ v y, V v y → Near M W y → EveryX P md ops n ms L f M' (listed.setIfInBounds i true) (a.put oi.dst v) y) → EveryX P md ops n ms L (f + 1) M listed a W := by
  intro f
  induction f with
  | zero =>
    intro M M' listed a W inv _ hone hr hM' hd H
    refine ⟨List.ne_nil_of_mem hr, fun j hj => ?_⟩
    have hjn : j < n := Nat.lt_of_not_le fun h => tail_waits hs hc hn inv _ i rfl hin (mem_ready.1 hr).1 j h hj
    by_cases hji : j = i
    · subst hji; exact ⟨hjn, oi, hi, .inr (.inr ⟨him, V, M', hM', hd, H⟩)⟩
    · obtain ⟨v, y, hv, hy⟩ := hd.ex
      exact absurd (hL _ _ _ (H v y hv hy) j (ready_mono hj hji)) (Nat.not_le.2 hjn)
  | succ f ih =>
    intro M M' listed a W inv hfree hone hr hM' hd H
    refine ⟨List.ne_nil_of_mem hr, fun j hj => ?_⟩
    have hun := (mem_ready.1 hr).1
    have hjn : j < n := Nat.lt_of_not_le fun h => tail_waits hs hc hn inv _ i rfl hin hun j h hj
    by_cases hji : j = i
    · subst hji; exact ⟨hjn, oi, hi, .inr (.inr ⟨him, V, M', hM', hd, H⟩)⟩
    · have hjm : j ∈ ms := Decidable.byContradiction fun h => hji (hone j (ready_all ms listed h hj))
      obtain ⟨hjun, oj, hoj, hall⟩ := mem_ready.1 hj
      have hap := hfree j oj hoj hji hjun fun e he hb heq => by
        have h1 := hall e he hb
        rw [heq, getD_both hun] at h1
        cases h1
      obtain ⟨h1, h2, h3⟩ := Oper.apart_spec hap
      refine ⟨hjn, oj, hoj, .inl ⟨hjm, fun g => ?_⟩⟩
      refine ih M M' (listed.setIfInBounds j true) (a.put oj.dst (ptr g)) W (inv.set hj hjn) ?_ ?_ (ready_mono hr (Ne.symm hji)) hM' (hd.same (execOp_put oi (fun cs b => hsel i oi cs b hi) a oj.dst _ h3) (wanted_put oi a oj.dst _ h3)) fun v y hv hy => ?_
      · intro k ok hk hki hl hno
        refine hfree k ok hk hki ?_ hno
        by_cases hjk : j = k
        · subst hjk; exact hjun
        · rw [getD_set_ne true hjk] at hl; exact hl
      · rw [setAll_set _ _ _ hjm]; exact hone
      · obtain ⟨_, oj', hoj', hdj⟩ := (H v y hv hy).2 j (ready_mono hj hji)
        obtain rfl : oj' = oj := Option.some.inj (hoj'.symm.trans hoj)
        rcases hdj with ⟨_, hg⟩ | ⟨hm, _⟩ | ⟨hm, _⟩
        · rw [Array.setIfInBounds_comm _ _ hji, ← Act.put_comm a v (ptr g) h2]
          exact hg g
        · exact absurd hjm hm
        · exact absurd hjm hm
/-- So may one that makes a block, once all that make nothing have come up. -/
theorem EveryX.make {i : Nat} {oi : Oper} (hi : ops[i]? = some oi)
    (hs : Region.sinkB md ops n = true) (hc : Region.chainB md ops n = true) (hn : n < ops.size) (hin : i < n) (him : i ∈ ms) (hL : ∀ listed a W, L listed a W → ∀ j ∈ Region.ready md ops listed, n ≤ j) :
    ∀ (f : Nat) (M : Nat → Prop) (listed : Array Bool) (a : Act) (W : World), HeadInv md ops n listed → (∀ j ∈ Region.ready md ops (setAll ms listed), n ≤ j) →
      (∀ j oj, ops[j]? = some oj → j ≠ i → listed.getD j true = false → (∀ e ∈ oj.after, Region.binds md e = true → e.on ≠ i) → oi.apart ops oj = true) →
      i ∈ Region.ready md ops listed → (∀ g, EveryX P md ops n ms L f M (listed.setIfInBounds i true) (a.put oi.dst (ptr g)) W) → EveryX P md ops n ms L (f + 1) M listed a W := by
  intro f
  induction f with
  | zero =>
    intro M listed a W inv _ _ hr H
    refine ⟨List.ne_nil_of_mem hr, fun j hj => ?_⟩
    have hjn : j < n := Nat.lt_of_not_le fun h => tail_waits hs hc hn inv _ i rfl hin (mem_ready.1 hr).1 j h hj
    by_cases hji : j = i
    · subst hji; exact ⟨hjn, oi, hi, .inl ⟨him, H⟩⟩
    · exact absurd (hL _ _ _ (H 0) j (ready_mono hj hji)) (Nat.not_le.2 hjn)
  | succ f ih =>
    intro M listed a W inv hend hfree hr H
    refine ⟨List.ne_nil_of_mem hr, fun j hj => ?_⟩
    have hun := (mem_ready.1 hr).1
    have hjn : j < n := Nat.lt_of_not_le fun h => tail_waits hs hc hn inv _ i rfl hin hun j h hj
    by_cases hji : j = i
    · subst hji; exact ⟨hjn, oi, hi, .inl ⟨him, H⟩⟩
    · have hjm : j ∈ ms := Decidable.byContradiction fun h => absurd (hend j (ready_all ms listed h hj)) (by omega)
      obtain ⟨hjun, oj, hoj, hall⟩ := mem_ready.1 hj
      have hap := hfree j oj hoj hji hjun fun e he hb heq => by
        have h1 := hall e he hb
        rw [heq, getD_both hun] at h1
        cases h1
      obtain ⟨_, h2, _⟩ := Oper.apart_spec hap
      refine ⟨hjn, oj, hoj, .inl ⟨hjm, fun u => ?_⟩⟩
      refine ih M (listed.setIfInBounds j true) (a.put oj.dst (ptr u)) W (inv.set hj hjn) ?_ ?_ (ready_mono hr (Ne.symm hji)) fun g => ?_
      · rw [setAll_set _ _ _ hjm]; exact hend
      · intro k ok hk hki hl hno
        refine hfree k ok hk hki ?_ hno
        by_cases hjk : j = k
        · subst hjk; exact hjun
        · rw [getD_set_ne true hjk] at hl; exact hl
      · obtain ⟨_, oj', hoj', hdj⟩ := (H g).2 j (ready_mono hj hji)
        obtain rfl : oj' = oj := Option.some.inj (hoj'.symm.trans hoj)
        rcases hdj with ⟨_, hg⟩ | ⟨hm, _⟩ | ⟨hm, _⟩
        · rw [Array.setIfInBounds_comm _ _ hji, ← Act.put_comm a (ptr g) (ptr u) h2]
          exact hg u
        · exact absurd hjm hm
        · exact absurd hjm hm
/-- The operations that make blocks, in the order of the text. -/
def TextM (R : Act → World → Prop) : List Oper → Act → World → Prop
  | [], a, W => ∀ x, Old W x → R a x
  | o :: q, a, W => ∀ g, TextM R q (a.put o.dst (ptr g)) W
def pickM (l : List Oper) : List Nat → List Oper
  | [] => []
  | i :: q => match l[i]? with
    | some o => o :: pickM l q
    | none => []
/-- Those that make blocks may come up last, in this order. -/
def makeB (md : Region.Mode) (ops : Array Oper) (g n : Nat) (ms : List Nat) : List Nat → Array Bool → Bool
  | [], listed => Region.seqB md ops g n listed && (List.range n).all fun j => listed.getD j false
  | i :: q, listed => decide (i < n) && ms.contains i && (Region.ready md ops listed).contains i && Region.free md ops listed i && (Region.ready md ops (setAll ms listed)).all (fun j => decide (n ≤ j)) && makeB md ops g n ms q (listed.setIfInBounds i true)
def planX (md : Region.Mode) (ops : Array Oper) (g n : Nat) (ms : List Nat) : List (Nat × Bool) → Array Bool → Bool
  | [], listed => makeB md ops g n ms ms listed
  | (i, s) :: p, listed => decide (i < n) && !ms.contains i && (Region.ready md ops listed).contains i && Region.free md ops listed i && (s || (Region.ready md ops (setAll ms listed)).all (fun j => decide (j = i))) && planX md ops g n ms p (listed.setIfInBounds i true)
theorem TextM.every {g : Nat} {R : Act → World → Prop} {l : List Oper} (hl : l.toArray = ops) (hs : Region.sinkB md ops n = true) (hc : Region.chainB md ops n = true) (hn : n < ops.size) :
    ∀ (q : List Nat) (M : Nat → Prop) (listed : Array Bool) (a : Act) (W : World), HeadInv md ops n listed → makeB md ops g n ms q listed = true → TextM R (pickM l q) a W →
      EveryX P md ops n ms (fun listed' a' W' => (Region.seqB md ops g n listed' = true ∧ ∀ j, j < n → listed'.getD j false = true) ∧ ∀ x, Old W' x → R a' x) q.length M listed a W
  | [], M, listed, a, W, _, hB, h => by
    simp only [makeB, Bool.and_eq_true] at hB
    exact ⟨⟨hB.1, fun j hj => List.all_eq_true.1 hB.2 j (List.mem_range.2 hj)⟩, h⟩
  | i :: q, M, listed, a, W, inv, hB, h => by
    simp only [makeB, Bool.and_eq_true, decide_eq_true_eq] at hB
    obtain ⟨⟨⟨⟨⟨hin, hm⟩, hr⟩, hk⟩, hend⟩, hrest⟩ := hB
    have hr : i ∈ Region.ready md ops listed := by simpa using hr
    have hm : i ∈ ms := by simpa using hm
    have hi' : i < l.length := by rw [← hl] at hn; simp at hn; omega
    have ho : l[i]? = some l[i] := List.getElem?_eq_getElem hi'
    have h0 : ops[i]? = some l[i] := by rw [← hl]; simp [hi']
    have e : pickM l (i :: q) = l[i] :: pickM l q := by rw [pickM, ho]
    rw [e] at h
    refine EveryX.make h0 hs hc hn hin hm (fun _ _ _ hL => seqB_ready hL.1.1) q.length M listed a W inv ?_ (Region.free_spec h0 hk) hr fun u => TextM.every hl hs hc hn q M _ _ W (inv.set hr hin) hrest (h u)
    intro j hj
    simpa using List.all_eq_true.1 hend j hj
theorem TextX.every {g : Nat} {R : Act → World → Prop} {l : List Oper} (hl : l.toArray = ops) (hsel : Region.noSelect ops = true) (hs : Region.sinkB md ops n = true) (hc : Region.chainB md ops n = true) (hn : n < ops.size) :
    ∀ (p : List (Nat × Bool)) (M : Nat → Prop) (listed : Array Bool) (a : Act) (W : World), HeadInv md ops n listed → planX md ops g n ms p listed = true → TextU P ops (fun a' x => TextM R (pickM l ms) a' x) (pick l p) M a W →
      EveryX P md ops n ms (fun listed' a' W' => (Region.seqB md ops g n listed' = true ∧ ∀ j, j < n → listed'.getD j false = true) ∧ ∀ x, Old W' x → R a' x) (p.length + ms.length) M listed a W
  | [], M, listed, a, W, inv, hB, h => by
    simp only [List.length_nil, Nat.zero_add]
    exact TextM.every hl hs hc hn ms M listed a W inv hB (h W (Below.refl _ _))
  | (i, s) :: p, M, listed, a, W, inv, hB, h => by
    simp only [planX, Bool.and_eq_true, decide_eq_true_eq] at hB
    obtain ⟨⟨⟨⟨⟨hin, hm⟩, hr⟩, hk⟩, hone⟩, hrest⟩ := hB
    have hr : i ∈ Region.ready md ops listed := by simpa using hr
    have hm : i ∉ ms := by simpa using hm
    have hi' : i < l.length := by rw [← hl] at hn; simp at hn; omega
    have ho : l[i]? = some l[i] := List.getElem?_eq_getElem hi'
    have h0 : ops[i]? = some l[i] := by rw [← hl]; simp [hi']
    have e : pick l ((i, s) :: p) = (l[i], s) :: pick l p := by
      rw [pick, ho]
    rw [e] at h
    have inv' := inv.set hr hin
    rw [List.length_cons, Nat.add_right_comm]
    cases s with
    | true =>
      obtain ⟨v, hv, ht⟩ := h
      refine EveryX.first h0 (Region.noSelect_spec hsel) hs hc hn hin hm (fun _ _ _ hL => seqB_ready hL.1.1) _ M listed a W inv (Region.free_spec h0 hk) hr hv ?_
      exact TextX.every hl hsel hs hc hn p M _ _ W inv' hrest ht
    | false =>
      obtain ⟨V, M', hM', hv, ht⟩ := h
      refine EveryX.loud h0 (Region.noSelect_spec hsel) hs hc hn hin hm (fun _ _ _ hL => seqB_ready hL.1.1) _ M M' listed a W inv (Region.free_spec h0 hk) ?_ hr hM' hv fun v y hvy hy => TextX.every hl hsel hs hc hn p M' _ _ y inv' hrest (ht v y hvy hy)
      have hone' : ∀ x ∈ Region.ready md ops (setAll ms listed), x = i := by simpa using hone
      exact hone'
def planXOk (l : List Oper) (n : Nat) (ms : List Nat) (p : List (Nat × Bool)) : Bool :=
  Region.noSelect l.toArray && decide (n < l.toArray.size) && Region.sinkB .any l.toArray n && Region.chainB .any l.toArray n && decide (p.length + ms.length = n) && ms.all (fun i => decide (i < n)) && apartB l.toArray n && planX .any l.toArray (l.toArray.size - n) n ms p (Array.replicate l.toArray.size false)
/-- A statement that draws its order and makes variables, by a plan; the rest as it must come. -/
theorem wp_region_planX {id : Nat} {a : Act} {W : World} {l : List Oper} (n : Nat) (ms : List Nat) (p : List (Nat × Bool)) (M : Nat → Prop) (Z : Nat → Obj) (hm : P.follows .mixedOrders = true) (hB : planXOk l n ms p = true) (hroom : roomB l.toArray n a.tmps.size = true) (hM : ∀ j, M j → j < W.heap.size)
    (hZ : ∀ i, i ∈ ms → Makes P l.toArray i (Z i))
    (h : TextU P l.toArray (fun a' x => TextM (fun a'' y => ∀ listed : Array Bool, (∀ j, j < n → listed.getD j false = true) → MadeX l.toArray Z W.heap.size ms listed a'' y → wpList P l.toArray Q (l.drop n) a'' y) (pickM l ms) a' x) (pick l p) M a W) : (Code.region id l.toArray true).wp P Q a W := by
  simp only [planXOk, Bool.and_eq_true, decide_eq_true_eq] at hB
  obtain ⟨⟨⟨⟨⟨⟨⟨hsel, hn⟩, hs⟩, hc⟩, hp⟩, hms⟩, hap⟩, hlex⟩ := hB
  have inv0 : HeadInv .any l.toArray n (Array.replicate l.toArray.size false) :=
    ⟨by simp, fun j oj _ hj => (by rw [getD_replicate_false] at hj; cases hj), fun t _ ht => getD_in (by simpa using ht) (getD_replicate_false _ _)⟩
  have hms' : ∀ i, i ∈ ms → i < n := fun i hi => by simpa using List.all_eq_true.1 hms i hi
  have H := TextX.every (md := .any) (g := l.toArray.size - n) (l := l) rfl hsel hs hc hn p M _ a W inv0 hlex h
  refine wp_region_any hm ?_
  have hg : (l.drop n).length = l.toArray.size - n := by simp
  have hn' : n < l.length := by simpa using hn
  have hA := EveryX.any (Q := Q) (Z := Z) (B := W.heap.size) (g := l.toArray.size - n) hap hms' hZ (fun listed a' W' hL x hx hMd => by
    have := wpAny_of_seq (md := .any) (Q' := Q) (l.drop n) n listed a' x (fun j => by simp [List.getElem?_drop]) (by rw [hg]; exact hL.1.1) (hL.2 x hx listed hL.1.2 hMd)
    rwa [hg] at this) _ M _ _ W W.drew (Below.refl _ W).drew (Nat.le_refl _) hM ⟨fun _ => 0, fun i _ hl => (by rw [getD_replicate_false] at hl; cases hl), fun i j _ _ hl => (by rw [getD_replicate_false] at hl; cases hl)⟩
    (fun i o d hi ho hd => by
      have h1 := List.all_eq_true.1 hroom i (List.mem_range.2 hi)
      simp only [ho, Option.bind_some, hd, decide_eq_true_eq] at h1
      exact h1) H
  rw [hp, show n + (l.toArray.size - n) = l.toArray.size by simp; omega] at hA
  exact hA
theorem TextM.make {R : Act → World → Prop} {o : Oper} {q : List Oper} {a : Act} {W : World} (h : ∀ g, TextM R q (a.put o.dst (ptr g)) W) : TextM R (o :: q) a W := h
theorem TextM.done {R : Act → World → Prop} {a : Act} {W : World} (h : ∀ x, Old W x → R a x) : TextM R [] a W := h
/-- What one of them has made. -/
theorem MadeX.one {B i g : Nat} {listed : Array Bool} {a : Act} {x : World} {o : Oper} {d : Nat} (h : MadeX ops Z B ms listed a x) (hi : i ∈ ms) (hl : listed.getD i false = true) (ho : ops[i]? = some o) (hd : o.dst = some d) (hg : a.tmps[d]? = some (ptr g)) : B ≤ g ∧ x.heap[g]? = some (Z i) := by
  obtain ⟨G, h1, _⟩ := h
  obtain ⟨hB, hz, p, e, hp, he, ht⟩ := h1 i hi hl
  obtain rfl : p = o := Option.some.inj (hp.symm.trans ho)
  obtain rfl : e = d := Option.some.inj (he.symm.trans hd)
  have : G i = g := by rw [ht] at hg; simpa using hg
  subst this
  exact ⟨hB, hz⟩
/-- Two of them have made two blocks. -/
theorem MadeX.two {B i j g g' : Nat} {listed : Array Bool} {a : Act} {x : World} {o p : Oper} {d e : Nat} (h : MadeX ops Z B ms listed a x) (hi : i ∈ ms) (hj : j ∈ ms) (hij : i ≠ j) (hl : listed.getD i false = true) (hl' : listed.getD j false = true)
    (ho : ops[i]? = some o) (hd : o.dst = some d) (hg : a.tmps[d]? = some (ptr g)) (hp : ops[j]? = some p) (he : p.dst = some e) (hg' : a.tmps[e]? = some (ptr g')) : g ≠ g' := by
  obtain ⟨G, h1, h2⟩ := h
  have key : ∀ k g o d, k ∈ ms → listed.getD k false = true → ops[k]? = some o → o.dst = some d → a.tmps[d]? = some (ptr g) → G k = g := fun k g o d hk hl ho hd hg => by
    obtain ⟨_, _, p, e, hp, he, ht⟩ := h1 k hk hl
    obtain rfl : p = o := Option.some.inj (hp.symm.trans ho)
    obtain rfl : e = d := Option.some.inj (he.symm.trans hd)
    rw [ht] at hg
    simpa using hg
  rw [← key i g o d hi hl ho hd hg, ← key j g' p e hj hl' hp he hg']
  exact h2 i j hi hj hl hl' hij
end
end Go.Proofs.Ytdddhflppngloaa
