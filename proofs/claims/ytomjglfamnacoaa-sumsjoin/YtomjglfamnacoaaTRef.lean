/- The document's Add and Sub of totals. -/
import Derived.Test.YtomjglfamnacoaaTRow
import Derived.Test.YtomjglfamnacoaaBlk
import Derived.Lib.Hide
import Derived.Deep.Cut
namespace Go.Proofs.Ytomjglfamnacoaa
open Go.RowKit
set_option maxRecDepth 20000
set_option linter.unusedVariables false
set_option linter.unusedSimpArgs false

theorem mk_six {ops : Array Oper} (i d : Nat) (o : Oper) (ho : ops[i]? = some o) (hop : o.op = .alloc 64) (hd : o.dst = some d) (hg : o.guard = none) : Makes Try.prog ops i (.cells #[.int .i64 0, .int .i64 0, .int .i64 0, .int .i64 0, .int .i64 0, .int .i64 0] 64) :=
  ⟨o, d, ho, hd, fun y => by simp [Region.wanted, hg], fun a w => by
    unfold execOp
    simp only [hop]
    simp [go_sem, newVar]⟩
theorem mk_two {ops : Array Oper} (i d : Nat) (o : Oper) (ho : ops[i]? = some o) (hop : o.op = .alloc 67) (hd : o.dst = some d) (hg : o.guard = none) : Makes Try.prog ops i (.cells #[.int .i64 0, .bool false] 67) :=
  ⟨o, d, ho, hd, fun y => by simp [Region.wanted, hg], fun a w => by
    unfold execOp
    simp only [hop]
    simp [go_sem, newVar]⟩
/-- How the document's Add stands between two rounds. -/
structure DS (w x : World) (g5 g6 g7 : Nat) (xs ys os : Array Value) : Prop where
  below : Below w.heap.size w x
  fr : Blk x (w.heap.size + 1 + 1) #[.int .i64 0, .int .i64 0, .int .i64 0, .int .i64 0, .int .i64 0, .int .i64 0, .bool false] 44
  fx : Blk x g5 xs 64
  fy : Blk x g6 ys 64
  fo : Blk x g7 os 64
  lt : w.heap.size ≤ g7 ∧ g7 ≠ g5 ∧ g7 ≠ g6 ∧ g7 ≠ w.heap.size + 1 + 1
theorem DS.old {w x z : World} {g5 g6 g7 : Nat} {xs ys os : Array Value} (h : DS w x g5 g6 g7 xs ys os) (hz : Old x z) : DS w z g5 g6 g7 xs ys os :=
  ⟨tstep h.below hz h.below.size, h.fr.old hz, h.fx.old hz, h.fy.old hz, h.fo.old hz, h.lt⟩
theorem DS.new {w x : World} {g5 g6 g7 g : Nat} {xs ys os : Array Value} (h : DS w x g5 g6 g7 xs ys os) (h0 : w.heap.size ≤ g) (hg : g ≠ g5 ∧ g ≠ g6 ∧ g ≠ g7 ∧ g ≠ w.heap.size + 1 + 1) (i : Nat) (v : Value) : DS w (x.setCell ⟨g, i, none⟩ v) g5 g6 g7 xs ys os :=
  ⟨h.below.setCell (p := ⟨g, i, none⟩) h0 v, h.fr.other (Ne.symm hg.2.2.2) _ _, h.fx.other (Ne.symm hg.1) _ _, h.fy.other (Ne.symm hg.2.1) _ _, h.fo.other (Ne.symm hg.2.2.1) _ _, h.lt⟩
theorem DS.set {w x : World} {g5 g6 g7 : Nat} {xs ys os : Array Value} (h : DS w x g5 g6 g7 xs ys os) (i : Nat) (v : Value) : DS w (x.setCell ⟨g7, i, none⟩ v) g5 g6 g7 xs ys (os.setIfInBounds i v) :=
  have l := h.lt
  ⟨h.below.setCell (p := ⟨g7, i, none⟩) l.1 v, h.fr.other (Ne.symm l.2.2.2) _ _, h.fx.other (Ne.symm l.2.1) _ _, h.fy.other (Ne.symm l.2.2.1) _ _, h.fo.set _ _, l⟩
theorem Below.new7 {B b : Nat} {w w' : World} (h : Below B w w') (hb : B ≤ b) (v0 v1 v2 v3 v4 v5 v6 : Value) : Below B w (((((((w'.setCell ⟨b, 0, none⟩ v0).setCell ⟨b, 1, none⟩ v1).setCell ⟨b, 2, none⟩ v2).setCell ⟨b, 3, none⟩ v3).setCell ⟨b, 4, none⟩ v4).setCell ⟨b, 5, none⟩ v5).setCell ⟨b, 6, none⟩ v6) :=
  (Below.new6 h hb v0 v1 v2 v3 v4 v5).setCell (p := ⟨b, 6, none⟩) hb v6

set_option maxHeartbeats 4000000 in
set_option maxRecDepth 20000 in
theorem rAdd7_walk (a0 a1 a2 a3 a4 a5 b0 b1 b2 b3 b4 b5 z0 z1 z2 z3 z4 z5 : Int) (o0 o1 o2 o3 o4 o5 : Bool) (w : World)
    (c0 : ∀ w, Calls Try.prog 27 #[.int .i64 a0, .int .i64 b0] w fun e w' => e = .returned (.agg #[.int .i64 z0, .bool o0]) ∧ Below w.heap.size w w')
    (c1 : ∀ w, Calls Try.prog 27 #[.int .i64 a1, .int .i64 b1] w fun e w' => e = .returned (.agg #[.int .i64 z1, .bool o1]) ∧ Below w.heap.size w w')
    (c2 : ∀ w, Calls Try.prog 27 #[.int .i64 a2, .int .i64 b2] w fun e w' => e = .returned (.agg #[.int .i64 z2, .bool o2]) ∧ Below w.heap.size w w')
    (c3 : ∀ w, Calls Try.prog 27 #[.int .i64 a3, .int .i64 b3] w fun e w' => e = .returned (.agg #[.int .i64 z3, .bool o3]) ∧ Below w.heap.size w w')
    (c4 : ∀ w, Calls Try.prog 27 #[.int .i64 a4, .int .i64 b4] w fun e w' => e = .returned (.agg #[.int .i64 z4, .bool o4]) ∧ Below w.heap.size w w')
    (c5 : ∀ w, Calls Try.prog 27 #[.int .i64 a5, .int .i64 b5] w fun e w' => e = .returned (.agg #[.int .i64 z5, .bool o5]) ∧ Below w.heap.size w w') :
    Calls Try.prog 17 #[.agg #[.int .i64 a0, .int .i64 a1, .int .i64 a2, .int .i64 a3, .int .i64 a4, .int .i64 a5], .agg #[.int .i64 b0, .int .i64 b1, .int .i64 b2, .int .i64 b3, .int .i64 b4, .int .i64 b5]] w fun e w' => e = .returned (bif (o0 && o1 && o2 && o3 && o4 && o5) then .agg #[.int .i64 z0, .int .i64 z1, .int .i64 z2, .int .i64 z3, .int .i64 z4, .int .i64 z5, .bool true] else .agg #[.int .i64 0, .int .i64 0, .int .i64 0, .int .i64 0, .int .i64 0, .int .i64 0, .bool false]) ∧ Below w.heap.size w w' := by
  go_enter Try.func17, Try.ntmps17
  go_wp2_with fail
  have B2 := (blk_new w #[.int .i64 a0, .int .i64 a1, .int .i64 a2, .int .i64 a3, .int .i64 a4, .int .i64 a5] 31).alloc (.cells #[.int .i64 b0, .int .i64 b1, .int .i64 b2, .int .i64 b3, .int .i64 b4, .int .i64 b5] 31) |>.alloc (.cells #[.int .i64 0, .int .i64 0, .int .i64 0, .int .i64 0, .int .i64 0, .int .i64 0, .bool false] 44)
  have B3 := (blk_two w (.cells #[.int .i64 a0, .int .i64 a1, .int .i64 a2, .int .i64 a3, .int .i64 a4, .int .i64 a5] 31) #[.int .i64 b0, .int .i64 b1, .int .i64 b2, .int .i64 b3, .int .i64 b4, .int .i64 b5] 31).alloc (.cells #[.int .i64 0, .int .i64 0, .int .i64 0, .int .i64 0, .int .i64 0, .int .i64 0, .bool false] 44)
  have B4 := blk_three w (.cells #[.int .i64 a0, .int .i64 a1, .int .i64 a2, .int .i64 a3, .int .i64 a4, .int .i64 a5] 31) (.cells #[.int .i64 b0, .int .i64 b1, .int .i64 b2, .int .i64 b3, .int .i64 b4, .int .i64 b5] 31) #[.int .i64 0, .int .i64 0, .int .i64 0, .int .i64 0, .int .i64 0, .int .i64 0, .bool false] 44
  have hw := tbel3 w (.cells #[.int .i64 a0, .int .i64 a1, .int .i64 a2, .int .i64 a3, .int .i64 a4, .int .i64 a5] 31) (.cells #[.int .i64 b0, .int .i64 b1, .int .i64 b2, .int .i64 b3, .int .i64 b4, .int .i64 b5] 31) (.cells #[.int .i64 0, .int .i64 0, .int .i64 0, .int .i64 0, .int .i64 0, .int .i64 0, .bool false] 44)
  generalize ((w.alloc _).alloc _).alloc _ = W at B2 B3 B4 hw ⊢
  have l4 := B4.lt
  have CE := Lib.hid fun x (hx : Old W x) => And.intro (B2.old hx).six (B3.old hx).six
  have C0 := Lib.hid c0
  have C1 := Lib.hid c1
  have C2 := Lib.hid c2
  have C3 := Lib.hid c3
  have C4 := Lib.hid c4
  have C5 := Lib.hid c5
  clear B2 B3 c0 c1 c2 c3 c4 c5
  (refine wp_region_textW (fun _ => .cells #[.int .i64 0, .int .i64 0, .int .i64 0, .int .i64 0, .int .i64 0, .int .i64 0] 64) 4 6 (by kernel_rfl) (by kernel_rfl) (by kernel_rfl) (by kernel_rfl) (fun i h1 h2 => by rcases (show i = 4 ∨ i = 5 by omega) with rfl | rfl; exact mk_six 4 5 _ rfl rfl rfl rfl; exact mk_six 5 6 _ rfl rfl rfl rfl) ?_; simp only [List.take_succ_cons, List.take_zero, List.drop_succ_cons, List.drop_zero])
  repeat (apply TextW.sees (hw := by kernel_rfl) (hk := by decide); (focus (intro x hx K hK; have hc := CE.out x hx; go_simp; exact hK)); simp only [Act.put, List.getElem_toArray, List.getElem_cons_succ, List.getElem_cons_zero, List.setIfInBounds_toArray, List.set_cons_zero, List.set_cons_succ])
  (refine TextW.call (fun x _ => nums_any a0 a1 a2 a3 a4 a5 x) (by kernel_rfl) (fun _ => by kernel_rfl) (by decide) ?_; simp only [Act.put, List.getElem_toArray, List.getElem_cons_succ, List.getElem_cons_zero, List.setIfInBounds_toArray, List.set_cons_zero, List.set_cons_succ])
  repeat (apply TextW.sees (hw := by kernel_rfl) (hk := by decide); (focus (intro x hx K hK; have hc := CE.out x hx; go_simp; exact hK)); simp only [Act.put, List.getElem_toArray, List.getElem_cons_succ, List.getElem_cons_zero, List.setIfInBounds_toArray, List.set_cons_zero, List.set_cons_succ])
  (refine TextW.call (fun x _ => nums_any b0 b1 b2 b3 b4 b5 x) (by kernel_rfl) (fun _ => by kernel_rfl) (by decide) ?_; simp only [Act.put, List.getElem_toArray, List.getElem_cons_succ, List.getElem_cons_zero, List.setIfInBounds_toArray, List.set_cons_zero, List.set_cons_succ])
  (refine TextW.make (by decide) fun g5 => ?_; simp only [Act.put, List.getElem_toArray, List.getElem_cons_succ, List.getElem_cons_zero, List.setIfInBounds_toArray, List.set_cons_zero, List.set_cons_succ])
  (refine TextW.make (by decide) fun g6 => ?_; simp only [Act.put, List.getElem_toArray, List.getElem_cons_succ, List.getElem_cons_zero, List.setIfInBounds_toArray, List.set_cons_zero, List.set_cons_succ])
  intro y hy listed hl hM
  have M5 := hM.one (i := 4) (g := g5) (by decide) (hl 4 (by decide)) rfl rfl rfl
  have M6 := hM.one (i := 5) (g := g6) (by decide) (hl 5 (by decide)) rfl rfl rfl
  have M56 := hM.two (i := 4) (j := 5) (g := g5) (g' := g6) (by decide) (by decide) (by decide) (hl 4 (by decide)) (hl 5 (by decide)) rfl rfl rfl rfl rfl rfl
  clear hM hl CE
  obtain ⟨L5, H5⟩ := M5
  obtain ⟨L6, H6⟩ := M6
  have K5 : Blk y g5 #[.int .i64 0, .int .i64 0, .int .i64 0, .int .i64 0, .int .i64 0, .int .i64 0] 64 := H5
  have K6 : Blk y g6 #[.int .i64 0, .int .i64 0, .int .i64 0, .int .i64 0, .int .i64 0, .int .i64 0] 64 := H6
  have N5 := (K5.set6 (.int .i64 a0) (.int .i64 a1) (.int .i64 a2) (.int .i64 a3) (.int .i64 a4) (.int .i64 a5)).other6 M56 (.int .i64 b0) (.int .i64 b1) (.int .i64 b2) (.int .i64 b3) (.int .i64 b4) (.int .i64 b5)
  have N6 := (K6.other6 (Ne.symm M56) (.int .i64 a0) (.int .i64 a1) (.int .i64 a2) (.int .i64 a3) (.int .i64 a4) (.int .i64 a5)).set6 (.int .i64 b0) (.int .i64 b1) (.int .i64 b2) (.int .i64 b3) (.int .i64 b4) (.int .i64 b5)
  have N4 := ((B4.old hy).other6 (b := g5) (by omega) (.int .i64 a0) (.int .i64 a1) (.int .i64 a2) (.int .i64 a3) (.int .i64 a4) (.int .i64 a5)).other6 (b := g6) (by omega) (.int .i64 b0) (.int .i64 b1) (.int .i64 b2) (.int .i64 b3) (.int .i64 b4) (.int .i64 b5)
  have hV := Below.new6 (b := g6) (Below.new6 (b := g5) (tstep hw hy hw.size) (Nat.le_trans hw.size L5) (.int .i64 a0) (.int .i64 a1) (.int .i64 a2) (.int .i64 a3) (.int .i64 a4) (.int .i64 a5)) (Nat.le_trans hw.size L6) (.int .i64 b0) (.int .i64 b1) (.int .i64 b2) (.int .i64 b3) (.int .i64 b4) (.int .i64 b5)
  have k5 := K5.six
  have k5f := K5.six_free
  have k6 := K6.six
  have k6f := K6.six_free
  have M65 : ¬ g6 = g5 := Ne.symm M56
  clear H5 H6 B4
  go_upto_region 2 with (fail)
  generalize (((((((((((y.setCell _ _).setCell _ _).setCell _ _).setCell _ _).setCell _ _).setCell _ _).setCell _ _).setCell _ _).setCell _ _).setCell _ _).setCell _ _).setCell _ _ = V at N4 N5 N6 hV ⊢
  clear k5 k5f k6 k6f K5 K6 hy hw
  go_wp2_with fail
  have S : DS w (V.alloc (.cells #[.int .i64 0, .int .i64 0, .int .i64 0, .int .i64 0, .int .i64 0, .int .i64 0] 64)) g5 g6 V.heap.size #[.int .i64 a0, .int .i64 a1, .int .i64 a2, .int .i64 a3, .int .i64 a4, .int .i64 a5] #[.int .i64 b0, .int .i64 b1, .int .i64 b2, .int .i64 b3, .int .i64 b4, .int .i64 b5] #[.int .i64 0, .int .i64 0, .int .i64 0, .int .i64 0, .int .i64 0, .int .i64 0] := ⟨hV.alloc hV.size _, N4.alloc _, N5.alloc _, N6.alloc _, blk_new _ _ _, hV.size, by have := N5.lt; omega, by have := N6.lt; omega, by have := N4.lt; omega⟩
  generalize V.heap.size = g7 at S ⊢
  generalize V.alloc _ = X at S ⊢
  clear N4 N5 N6 hV L5 L6 l4 M56 M65
  clear V y W
  refine wp_loop_rounds 7 ?_
  rw [rounds_succ]
  go_wp2_with fail
  have SE := Lib.hid S
  have CE := Lib.hid fun x (hx : Old X x) => And.intro (S.fx.old hx).six (S.fy.old hx).six
  clear S
  (refine wp_region_textW (fun _ => .cells #[.int .i64 0, .bool false] 67) 7 8 (by kernel_rfl) (by kernel_rfl) (by kernel_rfl) (by kernel_rfl) (fun i h1 h2 => by obtain rfl : i = 7 := (by omega); exact mk_two 7 9 _ rfl rfl rfl rfl) ?_; simp only [List.take_succ_cons, List.take_zero, List.drop_succ_cons, List.drop_zero])
  repeat (apply TextW.sees (hw := by kernel_rfl) (hk := by decide); (focus (intro x hx K hK; have hc := CE.out x hx; go_simp; exact hK)); simp only [Act.put, List.getElem_toArray, List.getElem_cons_succ, List.getElem_cons_zero, List.setIfInBounds_toArray, List.set_cons_zero, List.set_cons_succ])
  (refine TextW.call (fun x _ => C0.out x) (by kernel_rfl) (fun _ => by kernel_rfl) (by decide) ?_; simp only [Act.put, List.getElem_toArray, List.getElem_cons_succ, List.getElem_cons_zero, List.setIfInBounds_toArray, List.set_cons_zero, List.set_cons_succ])
  (refine TextW.make (by decide) fun g9 => ?_; simp only [Act.put, List.getElem_toArray, List.getElem_cons_succ, List.getElem_cons_zero, List.setIfInBounds_toArray, List.set_cons_zero, List.set_cons_succ])
  intro y hy listed hl hM
  have M9 := hM.one (i := 7) (g := g9) (by decide) (hl 7 (by decide)) rfl rfl rfl
  clear hM hl CE
  obtain ⟨L9, H9⟩ := M9
  have K9 : Blk y g9 #[.int .i64 0, .bool false] 67 := H9
  have S := SE.out.old hy
  have S0 := SE.out
  have q5 := S0.fx.lt
  have q6 := S0.fy.lt
  have q7 := S0.fo.lt
  have q4 := S0.fr.lt
  have q0 := S0.below.size
  replace S := (S.new (g := g9) (by omega) (by omega) 0 (.int .i64 z0)).new (g := g9) (by omega) (by omega) 1 (.bool o0)
  have N9 := (K9.set 0 (.int .i64 z0)).set 1 (.bool o0)
  have k0 := K9.cell 0
  have k1 := K9.cell 1
  have f0 := K9.free 0
  have f1 := K9.free 1
  simp at k0 k1 f0 f1 N9
  clear H9 q4 q5 q6 q7 q0 hy S0 SE K9 L9
  go_upto_region 7 with (fail)
  generalize (y.setCell _ _).setCell _ _ = V at N9 S ⊢
  clear k0 k1 f0 f1
  clear y X
  have k0 := N9.cell 0
  have k1 := N9.cell 1
  simp at k0 k1
  have r6 := S.fr.seven
  have r7 := S.fr.seven_free
  cases o0
  · clear C0 C1 C2 C3 C4 C5
    go_wp2
    refine bodyPost_ret (v := .agg #[.int .i64 0, .int .i64 0, .int .i64 0, .int .i64 0, .int .i64 0, .int .i64 0, .bool false]) (by simp [results, Try.results17, go_sem, *]) rfl ⟨?_, Below.new7 S.below (by omega) _ _ _ _ _ _ _⟩
    simp
  clear r6 r7
  have j0 := S.fo.cell 0
  have j1 := S.fo.free 0
  simp at j0 j1
  go_wp2_with fail
  replace S := S.set 0 (.int .i64 z0)
  simp at S
  clear k0 k1 N9 j0 j1
  generalize V.setCell _ _ = X at S ⊢
  clear V
  rw [rounds_succ]
  go_wp2_with fail
  have SE := Lib.hid S
  have CE := Lib.hid fun x (hx : Old X x) => And.intro (S.fx.old hx).six (S.fy.old hx).six
  clear S
  (refine wp_region_textW (fun _ => .cells #[.int .i64 0, .bool false] 67) 7 8 (by kernel_rfl) (by kernel_rfl) (by kernel_rfl) (by kernel_rfl) (fun i h1 h2 => by obtain rfl : i = 7 := (by omega); exact mk_two 7 9 _ rfl rfl rfl rfl) ?_; simp only [List.take_succ_cons, List.take_zero, List.drop_succ_cons, List.drop_zero])
  repeat (apply TextW.sees (hw := by kernel_rfl) (hk := by decide); (focus (intro x hx K hK; have hc := CE.out x hx; go_simp; exact hK)); simp only [Act.put, List.getElem_toArray, List.getElem_cons_succ, List.getElem_cons_zero, List.setIfInBounds_toArray, List.set_cons_zero, List.set_cons_succ])
  (refine TextW.call (fun x _ => C1.out x) (by kernel_rfl) (fun _ => by kernel_rfl) (by decide) ?_; simp only [Act.put, List.getElem_toArray, List.getElem_cons_succ, List.getElem_cons_zero, List.setIfInBounds_toArray, List.set_cons_zero, List.set_cons_succ])
  (refine TextW.make (by decide) fun g9 => ?_; simp only [Act.put, List.getElem_toArray, List.getElem_cons_succ, List.getElem_cons_zero, List.setIfInBounds_toArray, List.set_cons_zero, List.set_cons_succ])
  intro y hy listed hl hM
  have M9 := hM.one (i := 7) (g := g9) (by decide) (hl 7 (by decide)) rfl rfl rfl
  clear hM hl CE
  obtain ⟨L9, H9⟩ := M9
  have K9 : Blk y g9 #[.int .i64 0, .bool false] 67 := H9
  have S := SE.out.old hy
  have S0 := SE.out
  have q5 := S0.fx.lt
  have q6 := S0.fy.lt
  have q7 := S0.fo.lt
  have q4 := S0.fr.lt
  have q0 := S0.below.size
  replace S := (S.new (g := g9) (by omega) (by omega) 0 (.int .i64 z1)).new (g := g9) (by omega) (by omega) 1 (.bool o1)
  have N9 := (K9.set 0 (.int .i64 z1)).set 1 (.bool o1)
  have k0 := K9.cell 0
  have k1 := K9.cell 1
  have f0 := K9.free 0
  have f1 := K9.free 1
  simp at k0 k1 f0 f1 N9
  clear H9 q4 q5 q6 q7 q0 hy S0 SE K9 L9
  go_upto_region 7 with (fail)
  generalize (y.setCell _ _).setCell _ _ = V at N9 S ⊢
  clear k0 k1 f0 f1
  clear y X
  have k0 := N9.cell 0
  have k1 := N9.cell 1
  simp at k0 k1
  have r6 := S.fr.seven
  have r7 := S.fr.seven_free
  cases o1
  · clear C0 C1 C2 C3 C4 C5
    go_wp2
    refine bodyPost_ret (v := .agg #[.int .i64 0, .int .i64 0, .int .i64 0, .int .i64 0, .int .i64 0, .int .i64 0, .bool false]) (by simp [results, Try.results17, go_sem, *]) rfl ⟨?_, Below.new7 S.below (by omega) _ _ _ _ _ _ _⟩
    simp
  clear r6 r7
  have j0 := S.fo.cell 1
  have j1 := S.fo.free 1
  simp at j0 j1
  go_wp2_with fail
  replace S := S.set 1 (.int .i64 z1)
  simp at S
  clear k0 k1 N9 j0 j1
  generalize V.setCell _ _ = X at S ⊢
  clear V
  rw [rounds_succ]
  go_wp2_with fail
  have SE := Lib.hid S
  have CE := Lib.hid fun x (hx : Old X x) => And.intro (S.fx.old hx).six (S.fy.old hx).six
  clear S
  (refine wp_region_textW (fun _ => .cells #[.int .i64 0, .bool false] 67) 7 8 (by kernel_rfl) (by kernel_rfl) (by kernel_rfl) (by kernel_rfl) (fun i h1 h2 => by obtain rfl : i = 7 := (by omega); exact mk_two 7 9 _ rfl rfl rfl rfl) ?_; simp only [List.take_succ_cons, List.take_zero, List.drop_succ_cons, List.drop_zero])
  repeat (apply TextW.sees (hw := by kernel_rfl) (hk := by decide); (focus (intro x hx K hK; have hc := CE.out x hx; go_simp; exact hK)); simp only [Act.put, List.getElem_toArray, List.getElem_cons_succ, List.getElem_cons_zero, List.setIfInBounds_toArray, List.set_cons_zero, List.set_cons_succ])
  (refine TextW.call (fun x _ => C2.out x) (by kernel_rfl) (fun _ => by kernel_rfl) (by decide) ?_; simp only [Act.put, List.getElem_toArray, List.getElem_cons_succ, List.getElem_cons_zero, List.setIfInBounds_toArray, List.set_cons_zero, List.set_cons_succ])
  (refine TextW.make (by decide) fun g9 => ?_; simp only [Act.put, List.getElem_toArray, List.getElem_cons_succ, List.getElem_cons_zero, List.setIfInBounds_toArray, List.set_cons_zero, List.set_cons_succ])
  intro y hy listed hl hM
  have M9 := hM.one (i := 7) (g := g9) (by decide) (hl 7 (by decide)) rfl rfl rfl
  clear hM hl CE
  obtain ⟨L9, H9⟩ := M9
  have K9 : Blk y g9 #[.int .i64 0, .bool false] 67 := H9
  have S := SE.out.old hy
  have S0 := SE.out
  have q5 := S0.fx.lt
  have q6 := S0.fy.lt
  have q7 := S0.fo.lt
  have q4 := S0.fr.lt
  have q0 := S0.below.size
  replace S := (S.new (g := g9) (by omega) (by omega) 0 (.int .i64 z2)).new (g := g9) (by omega) (by omega) 1 (.bool o2)
  have N9 := (K9.set 0 (.int .i64 z2)).set 1 (.bool o2)
  have k0 := K9.cell 0
  have k1 := K9.cell 1
  have f0 := K9.free 0
  have f1 := K9.free 1
  simp at k0 k1 f0 f1 N9
  clear H9 q4 q5 q6 q7 q0 hy S0 SE K9 L9
  go_upto_region 7 with (fail)
  generalize (y.setCell _ _).setCell _ _ = V at N9 S ⊢
  clear k0 k1 f0 f1
  clear y X
  have k0 := N9.cell 0
  have k1 := N9.cell 1
  simp at k0 k1
  have r6 := S.fr.seven
  have r7 := S.fr.seven_free
  cases o2
  · clear C0 C1 C2 C3 C4 C5
    go_wp2
    refine bodyPost_ret (v := .agg #[.int .i64 0, .int .i64 0, .int .i64 0, .int .i64 0, .int .i64 0, .int .i64 0, .bool false]) (by simp [results, Try.results17, go_sem, *]) rfl ⟨?_, Below.new7 S.below (by omega) _ _ _ _ _ _ _⟩
    simp
  clear r6 r7
  have j0 := S.fo.cell 2
  have j1 := S.fo.free 2
  simp at j0 j1
  go_wp2_with fail
  replace S := S.set 2 (.int .i64 z2)
  simp at S
  clear k0 k1 N9 j0 j1
  generalize V.setCell _ _ = X at S ⊢
  clear V
  rw [rounds_succ]
  go_wp2_with fail
  have SE := Lib.hid S
  have CE := Lib.hid fun x (hx : Old X x) => And.intro (S.fx.old hx).six (S.fy.old hx).six
  clear S
  (refine wp_region_textW (fun _ => .cells #[.int .i64 0, .bool false] 67) 7 8 (by kernel_rfl) (by kernel_rfl) (by kernel_rfl) (by kernel_rfl) (fun i h1 h2 => by obtain rfl : i = 7 := (by omega); exact mk_two 7 9 _ rfl rfl rfl rfl) ?_; simp only [List.take_succ_cons, List.take_zero, List.drop_succ_cons, List.drop_zero])
  repeat (apply TextW.sees (hw := by kernel_rfl) (hk := by decide); (focus (intro x hx K hK; have hc := CE.out x hx; go_simp; exact hK)); simp only [Act.put, List.getElem_toArray, List.getElem_cons_succ, List.getElem_cons_zero, List.setIfInBounds_toArray, List.set_cons_zero, List.set_cons_succ])
  (refine TextW.call (fun x _ => C3.out x) (by kernel_rfl) (fun _ => by kernel_rfl) (by decide) ?_; simp only [Act.put, List.getElem_toArray, List.getElem_cons_succ, List.getElem_cons_zero, List.setIfInBounds_toArray, List.set_cons_zero, List.set_cons_succ])
  (refine TextW.make (by decide) fun g9 => ?_; simp only [Act.put, List.getElem_toArray, List.getElem_cons_succ, List.getElem_cons_zero, List.setIfInBounds_toArray, List.set_cons_zero, List.set_cons_succ])
  intro y hy listed hl hM
  have M9 := hM.one (i := 7) (g := g9) (by decide) (hl 7 (by decide)) rfl rfl rfl
  clear hM hl CE
  obtain ⟨L9, H9⟩ := M9
  have K9 : Blk y g9 #[.int .i64 0, .bool false] 67 := H9
  have S := SE.out.old hy
  have S0 := SE.out
  have q5 := S0.fx.lt
  have q6 := S0.fy.lt
  have q7 := S0.fo.lt
  have q4 := S0.fr.lt
  have q0 := S0.below.size
  replace S := (S.new (g := g9) (by omega) (by omega) 0 (.int .i64 z3)).new (g := g9) (by omega) (by omega) 1 (.bool o3)
  have N9 := (K9.set 0 (.int .i64 z3)).set 1 (.bool o3)
  have k0 := K9.cell 0
  have k1 := K9.cell 1
  have f0 := K9.free 0
  have f1 := K9.free 1
  simp at k0 k1 f0 f1 N9
  clear H9 q4 q5 q6 q7 q0 hy S0 SE K9 L9
  go_upto_region 7 with (fail)
  generalize (y.setCell _ _).setCell _ _ = V at N9 S ⊢
  clear k0 k1 f0 f1
  clear y X
  have k0 := N9.cell 0
  have k1 := N9.cell 1
  simp at k0 k1
  have r6 := S.fr.seven
  have r7 := S.fr.seven_free
  cases o3
  · clear C0 C1 C2 C3 C4 C5
    go_wp2
    refine bodyPost_ret (v := .agg #[.int .i64 0, .int .i64 0, .int .i64 0, .int .i64 0, .int .i64 0, .int .i64 0, .bool false]) (by simp [results, Try.results17, go_sem, *]) rfl ⟨?_, Below.new7 S.below (by omega) _ _ _ _ _ _ _⟩
    simp
  clear r6 r7
  have j0 := S.fo.cell 3
  have j1 := S.fo.free 3
  simp at j0 j1
  go_wp2_with fail
  replace S := S.set 3 (.int .i64 z3)
  simp at S
  clear k0 k1 N9 j0 j1
  generalize V.setCell _ _ = X at S ⊢
  clear V
  rw [rounds_succ]
  go_wp2_with fail
  have SE := Lib.hid S
  have CE := Lib.hid fun x (hx : Old X x) => And.intro (S.fx.old hx).six (S.fy.old hx).six
  clear S
  (refine wp_region_textW (fun _ => .cells #[.int .i64 0, .bool false] 67) 7 8 (by kernel_rfl) (by kernel_rfl) (by kernel_rfl) (by kernel_rfl) (fun i h1 h2 => by obtain rfl : i = 7 := (by omega); exact mk_two 7 9 _ rfl rfl rfl rfl) ?_; simp only [List.take_succ_cons, List.take_zero, List.drop_succ_cons, List.drop_zero])
  repeat (apply TextW.sees (hw := by kernel_rfl) (hk := by decide); (focus (intro x hx K hK; have hc := CE.out x hx; go_simp; exact hK)); simp only [Act.put, List.getElem_toArray, List.getElem_cons_succ, List.getElem_cons_zero, List.setIfInBounds_toArray, List.set_cons_zero, List.set_cons_succ])
  (refine TextW.call (fun x _ => C4.out x) (by kernel_rfl) (fun _ => by kernel_rfl) (by decide) ?_; simp only [Act.put, List.getElem_toArray, List.getElem_cons_succ, List.getElem_cons_zero, List.setIfInBounds_toArray, List.set_cons_zero, List.set_cons_succ])
  (refine TextW.make (by decide) fun g9 => ?_; simp only [Act.put, List.getElem_toArray, List.getElem_cons_succ, List.getElem_cons_zero, List.setIfInBounds_toArray, List.set_cons_zero, List.set_cons_succ])
  intro y hy listed hl hM
  have M9 := hM.one (i := 7) (g := g9) (by decide) (hl 7 (by decide)) rfl rfl rfl
  clear hM hl CE
  obtain ⟨L9, H9⟩ := M9
  have K9 : Blk y g9 #[.int .i64 0, .bool false] 67 := H9
  have S := SE.out.old hy
  have S0 := SE.out
  have q5 := S0.fx.lt
  have q6 := S0.fy.lt
  have q7 := S0.fo.lt
  have q4 := S0.fr.lt
  have q0 := S0.below.size
  replace S := (S.new (g := g9) (by omega) (by omega) 0 (.int .i64 z4)).new (g := g9) (by omega) (by omega) 1 (.bool o4)
  have N9 := (K9.set 0 (.int .i64 z4)).set 1 (.bool o4)
  have k0 := K9.cell 0
  have k1 := K9.cell 1
  have f0 := K9.free 0
  have f1 := K9.free 1
  simp at k0 k1 f0 f1 N9
  clear H9 q4 q5 q6 q7 q0 hy S0 SE K9 L9
  go_upto_region 7 with (fail)
  generalize (y.setCell _ _).setCell _ _ = V at N9 S ⊢
  clear k0 k1 f0 f1
  clear y X
  have k0 := N9.cell 0
  have k1 := N9.cell 1
  simp at k0 k1
  have r6 := S.fr.seven
  have r7 := S.fr.seven_free
  cases o4
  · clear C0 C1 C2 C3 C4 C5
    go_wp2
    refine bodyPost_ret (v := .agg #[.int .i64 0, .int .i64 0, .int .i64 0, .int .i64 0, .int .i64 0, .int .i64 0, .bool false]) (by simp [results, Try.results17, go_sem, *]) rfl ⟨?_, Below.new7 S.below (by omega) _ _ _ _ _ _ _⟩
    simp
  clear r6 r7
  have j0 := S.fo.cell 4
  have j1 := S.fo.free 4
  simp at j0 j1
  go_wp2_with fail
  replace S := S.set 4 (.int .i64 z4)
  simp at S
  clear k0 k1 N9 j0 j1
  generalize V.setCell _ _ = X at S ⊢
  clear V
  rw [rounds_succ]
  go_wp2_with fail
  have SE := Lib.hid S
  have CE := Lib.hid fun x (hx : Old X x) => And.intro (S.fx.old hx).six (S.fy.old hx).six
  clear S
  (refine wp_region_textW (fun _ => .cells #[.int .i64 0, .bool false] 67) 7 8 (by kernel_rfl) (by kernel_rfl) (by kernel_rfl) (by kernel_rfl) (fun i h1 h2 => by obtain rfl : i = 7 := (by omega); exact mk_two 7 9 _ rfl rfl rfl rfl) ?_; simp only [List.take_succ_cons, List.take_zero, List.drop_succ_cons, List.drop_zero])
  repeat (apply TextW.sees (hw := by kernel_rfl) (hk := by decide); (focus (intro x hx K hK; have hc := CE.out x hx; go_simp; exact hK)); simp only [Act.put, List.getElem_toArray, List.getElem_cons_succ, List.getElem_cons_zero, List.setIfInBounds_toArray, List.set_cons_zero, List.set_cons_succ])
  (refine TextW.call (fun x _ => C5.out x) (by kernel_rfl) (fun _ => by kernel_rfl) (by decide) ?_; simp only [Act.put, List.getElem_toArray, List.getElem_cons_succ, List.getElem_cons_zero, List.setIfInBounds_toArray, List.set_cons_zero, List.set_cons_succ])
  (refine TextW.make (by decide) fun g9 => ?_; simp only [Act.put, List.getElem_toArray, List.getElem_cons_succ, List.getElem_cons_zero, List.setIfInBounds_toArray, List.set_cons_zero, List.set_cons_succ])
  intro y hy listed hl hM
  have M9 := hM.one (i := 7) (g := g9) (by decide) (hl 7 (by decide)) rfl rfl rfl
  clear hM hl CE
  obtain ⟨L9, H9⟩ := M9
  have K9 : Blk y g9 #[.int .i64 0, .bool false] 67 := H9
  have S := SE.out.old hy
  have S0 := SE.out
  have q5 := S0.fx.lt
  have q6 := S0.fy.lt
  have q7 := S0.fo.lt
  have q4 := S0.fr.lt
  have q0 := S0.below.size
  replace S := (S.new (g := g9) (by omega) (by omega) 0 (.int .i64 z5)).new (g := g9) (by omega) (by omega) 1 (.bool o5)
  have N9 := (K9.set 0 (.int .i64 z5)).set 1 (.bool o5)
  have k0 := K9.cell 0
  have k1 := K9.cell 1
  have f0 := K9.free 0
  have f1 := K9.free 1
  simp at k0 k1 f0 f1 N9
  clear H9 q4 q5 q6 q7 q0 hy S0 SE K9 L9
  go_upto_region 7 with (fail)
  generalize (y.setCell _ _).setCell _ _ = V at N9 S ⊢
  clear k0 k1 f0 f1
  clear y X
  have k0 := N9.cell 0
  have k1 := N9.cell 1
  simp at k0 k1
  have r6 := S.fr.seven
  have r7 := S.fr.seven_free
  cases o5
  · clear C0 C1 C2 C3 C4 C5
    go_wp2
    refine bodyPost_ret (v := .agg #[.int .i64 0, .int .i64 0, .int .i64 0, .int .i64 0, .int .i64 0, .int .i64 0, .bool false]) (by simp [results, Try.results17, go_sem, *]) rfl ⟨?_, Below.new7 S.below (by omega) _ _ _ _ _ _ _⟩
    simp
  clear r6 r7
  have j0 := S.fo.cell 5
  have j1 := S.fo.free 5
  simp at j0 j1
  go_wp2_with fail
  replace S := S.set 5 (.int .i64 z5)
  simp at S
  clear k0 k1 N9 j0 j1
  generalize V.setCell _ _ = X at S ⊢
  clear V
  rw [rounds_succ]
  have j6 := S.fo.six
  go_wp2_with fail
  refine (t_of_any z0 z1 z2 z3 z4 z5 _).mono ?_
  rintro e x1 ⟨rfl, b1⟩
  replace S := S.old b1
  have r6 := S.fr.seven
  have r7 := S.fr.seven_free
  clear j6 b1 X C0 C1 C2 C3 C4 C5
  go_wp2
  refine bodyPost_ret (v := .agg #[.int .i64 z0, .int .i64 z1, .int .i64 z2, .int .i64 z3, .int .i64 z4, .int .i64 z5, .bool true]) (by simp [results, Try.results17, go_sem, *]) rfl ⟨rfl, Below.new7 S.below (by omega) _ _ _ _ _ _ _⟩
end Go.Proofs.Ytomjglfamnacoaa
