/- The map that New makes: eight rows that grow; put. put of counts. -/
import Derived.Test.YtniipfpfilenmaaHGe3
import Derived.Maps.AppendAt
import Derived.Deep.CutBlock
namespace Go.Proofs.Ytniipfpfilenmaa
open Go.RowKit
set_option maxRecDepth 20000
set_option linter.unusedVariables false
set_option linter.unusedSimpArgs false

def tyR (i : Nat) : TypeId := if i = 5 ∨ i = 7 then 33 else 3
def szR (i : Nat) : Nat := if i = 5 ∨ i = 7 then 3 else 1
def updF {α : Type} (f : Nat → α) (i : Nat) (x : α) : Nat → α := fun j => if j = i then x else f j
theorem updF_at {α : Type} (f : Nat → α) (i : Nat) (x : α) : updF f i x i = x := if_pos rfl
theorem updF_ne {α : Type} {f : Nat → α} {i j : Nat} {x : α} (h : j ≠ i) : updF f i x j = f j := if_neg h
/-- The head of the map at block p, eight rows of its own, each apart. -/
structure NewG (B p : Nat) (vs : Nat → Value) (ns : Nat → Nat) (xs : Nat → List Value) (w : World) : Prop where
  head : Blk w p #[vs 0, vs 1, vs 2, vs 3, vs 4, vs 5, vs 6, vs 7] 49
  rows : ∀ i, i < 8 → w.ownsRow B (tyR i) (szR i) (vs i) (ns i) (xs i)
  apart : ∀ i j, i < 8 → j < 8 → i ≠ j → ∀ g, some g = (vs i).ownBlock → ¬ some g = (vs j).ownBlock
  low : p < B ∧ B ≤ w.heap.size
section
variable {B p : Nat} {vs : Nat → Value} {ns : Nat → Nat} {xs : Nat → List Value} {w w' : World}
theorem NewG.old (h : NewG B p vs ns xs w) (hx : Old w w') : NewG B p vs ns xs w' :=
  ⟨h.head.old hx, fun i hi => own_old (h.rows i hi) hx, h.apart, h.low.1, Nat.le_trans h.low.2 hx.size⟩
theorem own_lt {e : TypeId} {sz : Nat} {v : Value} {n : Nat} {xs : List Value} (h : w.ownsRow B e sz v n xs) : ∀ g, some g = v.ownBlock → g < w.heap.size := by
  intro i e
  rcases h.2 with ⟨rfl, _⟩ | ⟨g, cap, cur, rfl, hb, hg, _⟩
  · simp [Value.ownBlock] at e
  · simp [Value.ownBlock] at e
    subst e
    exact (Array.getElem?_eq_some_iff.1 hg).1
theorem grown_set (w : World) (b i : Nat) (v : Value) : w.grownBy (w.setCell ⟨b, i, none⟩ v) (some b) :=
  ⟨rfl, rfl, rfl, by simp, fun k _ hne => Below.heap_setCell _ _ _ _ (fun e => hne (by rw [e]))⟩
theorem head_upd {i : Nat} (hi : i < 8) (vs : Nat → Value) (v : Value) : (#[vs 0, vs 1, vs 2, vs 3, vs 4, vs 5, vs 6, vs 7] : Array Value).setIfInBounds i v = #[updF vs i v 0, updF vs i v 1, updF vs i v 2, updF vs i v 3, updF vs i v 4, updF vs i v 5, updF vs i v 6, updF vs i v 7] := by
  rcases (by omega : i = 0 ∨ i = 1 ∨ i = 2 ∨ i = 3 ∨ i = 4 ∨ i = 5 ∨ i = 6 ∨ i = 7) with rfl | rfl | rfl | rfl | rfl | rfl | rfl | rfl <;> rfl
/-- One row has grown, and its slice is stored. -/
theorem NewG.step (h : NewG B p vs ns xs w) {i : Nat} (hi : i < 8) {v' : Value} {n' : Nat} {xs' : List Value} (hown : w'.ownsRow B (tyR i) (szR i) v' n' xs') (hg : w.grownBy w' (vs i).ownBlock) (hb : v'.ownBlock = (vs i).ownBlock ∨ v'.ownBlock = some w.heap.size) :
    NewG B p (updF vs i v') (updF ns i n') (updF xs i xs') (w'.setCell ⟨p, i, none⟩ v') ∧ Near (fun b => b = p ∨ some b = (vs i).ownBlock) w (w'.setCell ⟨p, i, none⟩ v') := by
  have hp : ∀ g, some g = (vs i).ownBlock → p ≠ g := fun g e => by have := own_ge (h.rows i hi) g e; have := h.low.1; omega
  have hh : Blk w' p #[vs 0, vs 1, vs 2, vs 3, vs 4, vs 5, vs 6, vs 7] 49 := (hg.block p h.head.lt fun e => hp p e rfl).trans h.head
  refine ⟨⟨?_, fun j hj => ?_, fun j k hj hk hjk g e1 e2 => ?_, h.low.1, Nat.le_trans h.low.2 (Nat.le_trans hg.size (by simp))⟩, ?_⟩
  · rw [← head_upd hi]
    exact hh.set i v'
  · have keep : ∀ {e : TypeId} {sz : Nat} {v : Value} {n : Nat} {xs : List Value}, w'.ownsRow B e sz v n xs → (w'.setCell ⟨p, i, none⟩ v').ownsRow B e sz v n xs := fun hr => hr.kept (grown_set _ _ _ _) (.inr fun e => by
      have := own_ge hr p e.symm
      have := h.low.1
      omega)
    by_cases hji : j = i
    · subst hji
      rw [updF_at, updF_at, updF_at]
      exact keep hown
    · rw [updF_ne hji, updF_ne hji, updF_ne hji]
      refine keep ((h.rows j hj).kept hg ?_)
      cases hv : (vs j).ownBlock with
      | none => exact .inl rfl
      | some g => exact .inr fun e => h.apart j i hj hi hji g hv.symm e
  · have key : ∀ m, m < 8 → m ≠ i → some g = (vs m).ownBlock → ¬ some g = v'.ownBlock := fun m hm hmi e e' => by
      rcases hb with hb | hb
      · rw [hb] at e'; exact h.apart m i hm hi hmi g e e'
      · rw [hb] at e'
        have := own_lt (h.rows m hm) g e
        have := Option.some.inj e'
        omega
    by_cases hji : j = i
    · subst hji
      rw [updF_at] at e1
      rw [updF_ne (Ne.symm hjk)] at e2
      exact key k hk (Ne.symm hjk) e2 e1
    · rw [updF_ne hji] at e1
      by_cases hki : k = i
      · subst hki
        rw [updF_at] at e2
        exact key j hj hji e1 e2
      · rw [updF_ne hki] at e2
        exact h.apart j k hj hk hjk g e1 e2
  · refine (?_ : Near (fun b => b = p ∨ some b = (vs i).ownBlock) w w').trans (near_set _ _ _) fun j e => .inl e
    exact ⟨hg.os, hg.tape, hg.output, hg.size, fun k hk hn => hg.block k hk fun e => hn (.inr e)⟩
theorem NewG.at (h : NewG B p vs ns xs w) {i : Nat} (hi : i < 8) : w.cell? ⟨p, i, none⟩ = some (vs i) := by
  rw [h.head.cell]
  rcases (by omega : i = 0 ∨ i = 1 ∨ i = 2 ∨ i = 3 ∨ i = 4 ∨ i = 5 ∨ i = 6 ∨ i = 7) with rfl | rfl | rfl | rfl | rfl | rfl | rfl | rfl <;> rfl
theorem own_near {w w1 w2 : World} {o : Obj} {r : Option Nat} (h : (w.alloc o).grownBy w1 r) : w.grownBy w1 r :=
  (World.grownBy_alloc w o r).trans h
end
/-- What an append of one value to the row i leaves. -/
theorem NewG.app {B p : Nat} {vs : Nat → Value} {ns : Nat → Nat} {xs : Nat → List Value} {w w1 : World} {o : Obj} {i : Nat} (h : NewG B p vs ns xs w) (hi : i < 8) {v' : Value} {n' : Nat} {xs' : List Value} (hown : w1.ownsRow B (tyR i) (szR i) v' n' xs') (hg : (w.alloc o).grownBy w1 (vs i).ownBlock) (hb : v'.ownBlock = (vs i).ownBlock ∨ v'.ownBlock = some (w.alloc o).heap.size) :
    NewG B p (updF vs i v') (updF ns i n') (updF xs i xs') (w1.setCell ⟨p, i, none⟩ v') ∧ Near (fun b => b = p ∨ some b = (vs i).ownBlock) w (w1.setCell ⟨p, i, none⟩ v') := by
  obtain ⟨h1, h2⟩ := (h.old (tbel1 w o)).step hi hown hg hb
  exact ⟨h1, (Near.of (tbel1 w o)).trans h2 fun _ e => e⟩
theorem NewG.mid {B p : Nat} {vs : Nat → Value} {ns : Nat → Nat} {xs : Nat → List Value} {w w1 : World} {o : Obj} {i : Nat} (h : NewG B p vs ns xs w) (hi : i < 8) (hg : (w.alloc o).grownBy w1 (vs i).ownBlock) : Blk w1 p #[vs 0, vs 1, vs 2, vs 3, vs 4, vs 5, vs 6, vs 7] 49 :=
  (hg.block p (h.head.alloc o).lt fun e => by have := own_ge (h.rows i hi) p e; have := h.low.1; omega).trans (h.head.alloc o)
set_option maxHeartbeats 2000000 in
theorem hput_any (o : Nat) (ho : o + 1 < 8) (ht : tyR o = 3 ∧ szR o = 1 ∧ tyR (o + 1) = 3 ∧ szR (o + 1) = 1) (B p : Nat) (vs : Nat → Value) (ns : Nat → Nat) (xs : Nat → List Value) (i x : Int) (w : World) (h : NewG B p vs ns xs w) (hn : ns o ≤ 1000000 ∧ ns (o + 1) ≤ 1000000) :
    Calls Try.prog 17 #[.pointer (some ⟨p, o, none⟩), .int .i64 i, .int .i64 x] w fun e w' => e = .returned (.tuple #[]) ∧ (∃ vs', NewG B p vs' (updF (updF ns o (ns o + 1)) (o + 1) (ns (o + 1) + 1)) (updF (updF xs o (xs o ++ [.int .i64 i])) (o + 1) (xs (o + 1) ++ [.int .i64 x])) w') ∧ Near (fun b => b = p ∨ some b = (vs o).ownBlock ∨ some b = (vs (o + 1)).ownBlock) w w' := by
  have hmx : 1000002 ≤ maxLen := by decide
  obtain ⟨i0, hi0, hz0, hz1, hz2⟩ := info_parts infoInt
  obtain ⟨hn0, hn1⟩ := hn
  have hlow := h.low
  have r0 := h.rows o (by omega)
  rw [ht.1, ht.2.1] at r0
  obtain ⟨a0, c0, e0, _, _⟩ := own_form r0
  have q0 := h.at (i := o) (by omega)
  have q1 := h.at (i := o + 1) (by omega)
  have f0 := h.head.free o
  have r1 := h.rows (o + 1) (by omega)
  rw [ht.2.2.1, ht.2.2.2] at r1
  obtain ⟨a1, c1, e1, _, _⟩ := own_form r1
  have hlt := h.head.lt
  rw [e0] at q0 r0
  rw [e1] at q1
  generalize hm0 : ns o = m0 at *
  generalize hm1 : ns (o + 1) = m1 at *
  have HH := Lib.hid h
  have HE := Lib.hid (And.intro ht <| And.intro e0 <| And.intro e1 <| And.intro hm0 hm1)
  clear h ht e0 e1 hm0 hm1 r1
  go_enter Try.func17, Try.ntmps17
  go_wp2_with (first | (at_builtin
                        refine wpList_append_own_at _ rfl _ _ 29 rfl B 3 i0 (.int .i64 0) 1 8 Try.underlying29 hi0 hz0 hz1 hz2 rfl (by decide) _ _ _ rfl (r0.alloc _) ⟨w.heap.size, 0, none⟩ 1 1 [.int .i64 i] rfl rfl (cell_one_new _ _ _) (by simp [Value.oneCell']) (by omega) (by omega) (by simp; omega) ?_
                        intro v' w3 hown' hgrow _ hb
                        have hm3 := HH.out.mid (i := o) (by omega) (by rw [HE.out.2.1]; exact hgrow)
                        have n1 := (HH.out.app (i := o) (by omega) (by rw [HE.out.1.1, HE.out.1.2.1]; exact hown') (by rw [HE.out.2.1]; exact hgrow) (by rw [HE.out.2.1]; exact hb))
                        have g0 := hm3.free o
                        have d1 := (hm3.cell (o + 1)).trans ((HH.out.head.cell (o + 1)).symm.trans q1)
                        have d0 := (hm3.cell o).trans ((HH.out.head.cell o).symm.trans q0)
                        obtain ⟨a2, c2, e2, _, _⟩ := own_form hown'
                        subst e2
                        have hl3 := hm3.lt
                        have g1 := hm3.free (o + 1)
                        have r1 := n1.1.rows (o + 1) (by omega)
                        rw [updF_ne (by omega), updF_ne (by omega), updF_ne (by omega), HE.out.1.2.2.1, HE.out.1.2.2.2, HE.out.2.2.1, HE.out.2.2.2.2] at r1
                        have N1 := Lib.hid n1
                        have hlow1 := N1.out.1.low.2
                        simp only [World.size_setCell] at hlow1
                        clear hown' hgrow hb hm3 n1 q0 q1 f0 r0)
                     | (at_builtin
                        refine wpList_append_own_at _ rfl _ _ 29 rfl B 3 i0 (.int .i64 0) 1 8 Try.underlying29 hi0 hz0 hz1 hz2 rfl (by decide) _ _ _ rfl (r1.alloc _) ⟨w3.heap.size, 0, none⟩ 1 1 [.int .i64 x] rfl rfl (by have := cell_one_new (w3.setCell ⟨p, o, none⟩ (.slice a2 (m0 + 1) c2)) (.int .i64 x) 3; rw [World.size_setCell] at this; exact this) (by simp [Value.oneCell']) (by omega) (by omega) (by simp; omega) ?_
                        intro v' w4 hown' hgrow _ hb
                        have hm4 := N1.out.1.mid (i := o + 1) (by omega) (by rw [updF_ne (by omega), HE.out.2.2.1]; exact hgrow)
                        have n2 := N1.out.1.app (i := o + 1) (by omega) (by rw [HE.out.1.2.2.1, HE.out.1.2.2.2]; exact hown') (by rw [updF_ne (by omega), HE.out.2.2.1]; exact hgrow) (by rw [updF_ne (by omega), HE.out.2.2.1]; exact hb)
                        have g2 := hm4.free (o + 1)
                        have d2 := (hm4.cell (o + 1)).trans ((N1.out.1.head.cell (o + 1)).symm.trans (N1.out.1.at (i := o + 1) (by omega)))
                        rw [updF_ne (by omega), HE.out.2.2.1] at d2
                        obtain ⟨a3, c3, e3, _, _⟩ := own_form hown'
                        subst e3
                        have hl4 := hm4.lt
                        have N2 := Lib.hid n2
                        clear hown' hgrow hb hm4 n2 r1))
  all_goals
    go_end0
    refine ⟨rfl, ⟨_, N2.out.1⟩, (N1.out.2.wide fun b e => ?_).trans N2.out.2 fun b e => ?_⟩
    · exact e.imp id .inl
    · rw [updF_ne (by omega)] at e
      exact e.imp id .inr
end Go.Proofs.Ytniipfpfilenmaa
namespace Go.Proofs.Ytniipfpfilenmaa
open Go.RowKit
set_option maxRecDepth 20000
set_option linter.unusedVariables false
set_option linter.unusedSimpArgs false

theorem infoA : (Try.prog.info? 33).map (fun i => (i.zero, i.size, i.bytes)) = some (some (.agg #[.int .i64 0, .int .i64 0, .int .i64 0]), 3, 24) := by kernel_rfl
theorem old_grown {a b : World} {r : Option Nat} (h : Old a b) : a.grownBy b r := ⟨h.os, h.tape, h.output, h.size, fun k hk _ => h.block k hk⟩
theorem run_buildA (x0 x1 x2 : Int) (x : World) : (Instr.buildSlice 45 1 #[(0, .agg #[.int .i64 x0, .int .i64 x1, .int .i64 x2])]).run Try.prog x = .ok (.slice (some ⟨x.heap.size, 0, none⟩) 1 1) (x.alloc (.cells #[.int .i64 x0, .int .i64 x1, .int .i64 x2] 33)) := by
  simp [go_sem]
theorem build_A (o : Oper) (a : Act) (y : A3) (s : Operand) (ho : o.op = .buildSlice 45 1 #[(0, s)]) (hs : a.eval s = ar3 y) (x : World) :
    (execOp a.eval o).run Try.prog x = .ok (.value (.slice (some ⟨x.heap.size, 0, none⟩) 1 1)) (x.alloc (.cells (encA y).toArray 33)) := by
  unfold execOp
  unfold ar3 at hs
  simp only [ho, List.map_toArray, List.map_cons, List.map_nil, hs, Sem.run_bind, run_buildA, Result.andThen_ok, Sem.run_pure]
  rfl
/-- Counts more. -/
theorem app_A {B : Nat} (x z : World) (u : Value) (y : A3) {n : Nat} {xs : List Value} (o : Oper) (a : Act) (s r : Operand) (ho : o.op = .call { callee := .builtin .append, args := #[s, r], argTypes := #[45, 45] }) (hs : a.eval s = u) (hr : a.eval r = .slice (some ⟨x.heap.size, 0, none⟩) 1 1)
    (hown : (x.alloc (.cells (encA y).toArray 33)).ownsRow B 33 3 u n xs) (hz : Old (x.alloc (.cells (encA y).toArray 33)) z) (hn : n ≤ 1000000) (hB : B ≤ x.heap.size) :
    ∃ v' w', (execOp a.eval o).run Try.prog z = .ok (.value v') w' ∧ (w'.ownsRow B 33 3 v' (n + 1) (xs ++ encA y) ∧ z.grownBy w' u.ownBlock ∧ (v'.ownBlock = u.ownBlock ∨ v'.ownBlock = some z.heap.size)) ∧ Near (fun i => some i = u.ownBlock) z w' := by
  have hmx : 1000002 ≤ maxLen := by decide
  obtain ⟨i0, hi, hz0, hz1, hz2⟩ := info_parts infoA
  have hzs' := hz.size
  simp at hzs'
  have hown2 := own_old hown hz
  have hb := (blk_new x (encA y).toArray 33).old hz
  obtain ⟨v', w', h1, h2, h3, _, h5⟩ := run_append_own_at (P := Try.prog) z B 45 o.type 33 i0 _ 3 24 Try.underlying45 hi hz0 hz1 hz2 rfl (by decide) u n xs hown2 ⟨x.heap.size, 0, none⟩ 1 1 (encA y) rfl (fun j t hj => by
    rw [Go.WideShapes.add_plain, hb.cell, Nat.zero_add, List.getElem?_toArray]
    exact hj) (encA_one y) (by omega) (by omega) (by omega)
  exact ⟨v', w', exec_append s r ho hs hr h1, ⟨h2, h3, h5⟩, ⟨h3.os, h3.tape, h3.output, h3.size, fun i hi hn => h3.block i hi hn⟩⟩
set_option maxHeartbeats 2000000 in
theorem hputC_any (o : Nat) (ho : o + 1 < 8) (ht : tyR o = 3 ∧ szR o = 1 ∧ tyR (o + 1) = 33 ∧ szR (o + 1) = 3) (B p : Nat) (vs : Nat → Value) (ns : Nat → Nat) (xs : Nat → List Value) (i : Int) (y : A3) (w : World) (h : NewG B p vs ns xs w) (hn : ns o ≤ 1000000 ∧ ns (o + 1) ≤ 1000000) :
    Calls Try.prog 20 #[.pointer (some ⟨p, o, none⟩), .int .i64 i, ar3 y] w fun e w' => e = .returned (.tuple #[]) ∧ (∃ vs', NewG B p vs' (updF (updF ns o (ns o + 1)) (o + 1) (ns (o + 1) + 1)) (updF (updF xs o (xs o ++ [.int .i64 i])) (o + 1) (xs (o + 1) ++ encA y)) w') ∧ Near (fun b => b = p ∨ some b = (vs o).ownBlock ∨ some b = (vs (o + 1)).ownBlock) w w' := by
  have hmx : 1000002 ≤ maxLen := by decide
  obtain ⟨i0, hi0, hz0, hz1, hz2⟩ := info_parts infoInt
  obtain ⟨hn0, hn1⟩ := hn
  obtain ⟨y0, y1, y2⟩ := y
  have h' := h.old (tbel1 w (.cells #[.int .i64 y0, .int .i64 y1, .int .i64 y2] 33))
  have hlow := h.low
  have r0 := h.rows o (by omega)
  rw [ht.1, ht.2.1] at r0
  obtain ⟨a0, c0, e0, _, _⟩ := own_form r0
  have q0 := h'.at (i := o) (by omega)
  have q1 := h'.at (i := o + 1) (by omega)
  have f0 := h.head.free o
  have r1 := h.rows (o + 1) (by omega)
  rw [ht.2.2.1, ht.2.2.2] at r1
  obtain ⟨a1, c1, e1, _, _⟩ := own_form r1
  have hlt := h.head.lt
  have hY := blk_new w #[.int .i64 y0, .int .i64 y1, .int .i64 y2] 33
  have hYl := own_lt r0
  have hYr := own_lt r1
  have hpr := own_ge r1
  rw [e0] at q0 r0 hYl
  rw [e1] at q1 hYr hpr
  generalize hm0 : ns o = m0 at *
  generalize hm1 : ns (o + 1) = m1 at *
  have HH := Lib.hid h'
  have HY := Lib.hid hY
  have HYL := Lib.hid hYl
  have HYR := Lib.hid hYr
  have HPR := Lib.hid hpr
  have HE := Lib.hid (And.intro ht <| And.intro e0 <| And.intro e1 <| And.intro hm0 hm1)
  clear h h' ht e0 e1 hm0 hm1 r1 hY hYl hYr hpr
  unfold ar3
  dsimp only
  go_enter Try.func20, Try.ntmps20
  go_upto_region 2 with (at_builtin
                         refine wpList_append_own_at _ rfl _ _ 29 rfl B 3 i0 (.int .i64 0) 1 8 Try.underlying29 hi0 hz0 hz1 hz2 rfl (by decide) _ _ _ rfl ((r0.alloc _).alloc _) ⟨w.heap.size + 1, 0, none⟩ 1 1 [.int .i64 i] rfl rfl (by have := cell_one_new (w.alloc (.cells #[.int .i64 y0, .int .i64 y1, .int .i64 y2] 33)) (.int .i64 i) 3; rw [World.size_alloc] at this; exact this) (by simp [Value.oneCell']) (by omega) (by omega) (by simp; omega) ?_
                         intro v' w3 hown' hgrow _ hb
                         have hm3 := HH.out.mid (i := o) (by omega) (by rw [HE.out.2.1]; exact hgrow)
                         have n1 := (HH.out.app (i := o) (by omega) (by rw [HE.out.1.1, HE.out.1.2.1]; exact hown') (by rw [HE.out.2.1]; exact hgrow) (by rw [HE.out.2.1]; exact hb))
                         have hY3 : Blk w3 w.heap.size #[.int .i64 y0, .int .i64 y1, .int .i64 y2] 33 := (hgrow.block _ (HY.out.alloc _).lt fun e => by have := HYL.out _ e; omega).trans (HY.out.alloc _)
                         have g0 := hm3.free o
                         have d0 := (hm3.cell o).trans ((HH.out.head.cell o).symm.trans q0)
                         obtain ⟨a2, c2, e2, _, _⟩ := own_form hown'
                         subst e2
                         have hl3 := hm3.lt
                         have N1 := Lib.hid n1
                         have HY3 := Lib.hid (hY3.other (b := p) (by omega) o (.slice a2 (m0 + 1) c2))
                         clear hown' hgrow hb hm3 n1 q0 f0 r0 hY3)
  all_goals
    have r1 := N1.out.1.rows (o + 1) (by omega)
    rw [updF_ne (by omega), updF_ne (by omega), updF_ne (by omega), HE.out.1.2.2.1, HE.out.1.2.2.2, HE.out.2.2.1, HE.out.2.2.2.2] at r1
    have d1 := N1.out.1.at (i := o + 1) (by omega)
    rw [updF_ne (by omega), HE.out.2.2.1] at d1
    have hnp : ¬ some p = (Value.slice a1 m1 c1).ownBlock := fun e => by have := HPR.out _ e; omega
    have hny : ¬ some w.heap.size = (Value.slice a1 m1 c1).ownBlock := fun e => by have := HYR.out _ e; omega
    have R1 := Lib.hid r1
    have hV0 := N1.out.1.low.2
    generalize w3.setCell _ _ = V at *
    have CF := Lib.hid fun z (hz : Near (fun i => some i = (Value.slice a1 m1 c1).ownBlock) V z) => And.intro (near_at hz d1 hnp) (HY3.out.near hz hny).triple
    clear d1 r1 hnp hny d0 g0 q1 hl3
    (refine wp_region_planU 10 [(0, true), (1, true), (2, true), (3, true), (4, true), (5, true), (6, false), (7, false), (8, true), (9, true)] (fun i => some i = (Value.slice a1 m1 c1).ownBlock) (by kernel_rfl) (by kernel_rfl) ?_; simp only [pick, List.getElem?_cons_succ, List.getElem?_cons_zero, List.drop_succ_cons, List.drop_zero])
    repeat (first | (apply TextU.sees (hw := by kernel_rfl); (focus (intro x hx K hK; have hc := CF.out x hx; go_simp; exact hK)); simp only [Act.put, List.getElem_toArray, List.getElem_cons_succ, List.getElem_cons_zero, List.setIfInBounds_toArray, List.set_cons_zero, List.set_cons_succ]) | (apply TextU.idle; (focus (intro x hx K hK; go_simp; exact hK)); simp only [Act.put, List.getElem_toArray, List.getElem_cons_succ, List.getElem_cons_zero, List.setIfInBounds_toArray, List.set_cons_zero, List.set_cons_succ]))
    (refine TextU.loudv (fun i => some i = (Value.slice a1 m1 c1).ownBlock) (V := fun v z => ∃ x, Old V x ∧ v = .slice (some ⟨x.heap.size, 0, none⟩) 1 1 ∧ z = x.alloc (.cells (encA ⟨y0, y1, y2⟩).toArray 33)) (fun _ h => h) (fun x hx => ⟨_, _, build_A _ _ ⟨y0, y1, y2⟩ (.tmp 21) rfl rfl x, ⟨x, hx, rfl, rfl⟩, Near.of (tbel1 x _)⟩) (by kernel_rfl) (fun v2 y2' hv2 _ => ?_); simp only [Act.put, List.getElem_toArray, List.getElem_cons_succ, List.getElem_cons_zero, List.setIfInBounds_toArray, List.set_cons_zero, List.set_cons_succ])
    obtain ⟨z1, hz1', rfl, rfl⟩ := hv2
    have hz1s := hz1'.size
    (refine TextU.loudv (fun _ => False) (V := fun v w' => ∃ z, Old (z1.alloc (.cells (encA ⟨y0, y1, y2⟩).toArray 33)) z ∧ (w'.ownsRow B 33 3 v (m1 + 1) (xs (o + 1) ++ encA ⟨y0, y1, y2⟩) ∧ z.grownBy w' (Value.slice a1 m1 c1).ownBlock ∧ (v.ownBlock = (Value.slice a1 m1 c1).ownBlock ∨ v.ownBlock = some z.heap.size))) (fun _ h => h.elim) (fun z hz => (app_A z1 z _ ⟨y0, y1, y2⟩ _ _ (.tmp 20) (.tmp 22) rfl rfl rfl ((own_old R1.out hz1').alloc _) hz (by omega) (by omega)).imp fun v' => fun ⟨w', e1, e2, e3⟩ => ⟨w', e1, ⟨z, hz, e2⟩, e3⟩) (by kernel_rfl) (fun v3 w4 hv3 _ => ?_); simp only [Act.put, List.getElem_toArray, List.getElem_cons_succ, List.getElem_cons_zero, List.setIfInBounds_toArray, List.set_cons_zero, List.set_cons_succ])
    obtain ⟨z, hz3, hown', hg3, hb3⟩ := hv3
    have CT := Lib.hid fun (x : World) (_ : Near (fun _ => False) w4 x) => True.intro
    repeat (first | (apply TextU.sees (hw := by kernel_rfl); (focus (intro x hx K hK; have hc := CT.out x hx; go_simp; exact hK)); simp only [Act.put, List.getElem_toArray, List.getElem_cons_succ, List.getElem_cons_zero, List.setIfInBounds_toArray, List.set_cons_zero, List.set_cons_succ]) | (apply TextU.idle; (focus (intro x hx K hK; go_simp; exact hK)); simp only [Act.put, List.getElem_toArray, List.getElem_cons_succ, List.getElem_cons_zero, List.setIfInBounds_toArray, List.set_cons_zero, List.set_cons_succ]))
    apply TextU.done
    intro z2 hz2'
    obtain ⟨a', c', rfl, hc1', hc2'⟩ := own_form hown'
    have OV : Old V z := Old.old (Old.trans hz1' (tbel1 z1 _)) hz3
    have hown2 := own_old hown' hz2'
    have hg4 : z.grownBy z2 (Value.slice a1 m1 c1).ownBlock := hg3.trans (old_grown hz2')
    have NZ := N1.out.1.old OV
    have hm4 := NZ.mid (w1 := z2) (o := .cells #[] 3) (i := o + 1) (by omega)
    have n2 := NZ.step (w' := z2) (i := o + 1) (by omega) (by rw [HE.out.1.2.2.1, HE.out.1.2.2.2]; exact hown2) (by rw [updF_ne (by omega), HE.out.2.2.1]; exact hg4) (by rw [updF_ne (by omega), HE.out.2.2.1]; exact hb3)
    have hh : Blk z2 p _ 49 := (hg4.block p NZ.head.lt fun e => by have := HPR.out _ e; omega).trans NZ.head
    have q1 := (hh.cell (o + 1)).trans ((NZ.head.cell (o + 1)).symm.trans (NZ.at (i := o + 1) (by omega)))
    rw [updF_ne (by omega), HE.out.2.2.1] at q1
    have f1 := hh.free (o + 1)
    have hpl := hh.lt
    have hnear := ((N1.out.2.trans (Near.of (M := fun _ => False) OV) fun _ e => e.elim).wide (M' := fun b => b = p ∨ some b = (vs o).ownBlock ∨ some b = (vs (o + 1)).ownBlock) fun b e => e.imp id .inl).trans n2.2 fun b e => by rw [updF_ne (by omega)] at e; exact e.imp id .inr
    have N2 := Lib.hid n2.1
    have HN := Lib.hid hnear
    clear hown' hg3 hb3 hown2 hg4 NZ hm4 n2 hh hz2' OV hz3 hz1' hnear CF
    go_wp2
    all_goals
      go_end0
      exact ⟨rfl, ⟨_, N2.out⟩, (Near.of (tbel1 w _)).trans HN.out fun _ e => e⟩
end Go.Proofs.Ytniipfpfilenmaa
