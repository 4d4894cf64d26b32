/- awake of layer 12. -/
import Derived.Test.YtgohglghmhhdnaaUCnt
import Derived.Test.YtgohglghmhhdnaaNAw
import Derived.Test.YtgohglghmhhdnaaDetV
namespace Go.Proofs.Ytgohglghmhhdnaa
open Go.RowKit
set_option maxRecDepth 20000
set_option linter.unusedVariables false
set_option linter.unusedSimpArgs false

def wakeF : List F3 := [⟨0, 3, 1⟩, ⟨1, 4, 2⟩]
theorem wakeF_facts : rightF ⟨0, 3, 1⟩ = true ∧ hasAt wakeF 1 = true ∧ highF wakeF [0, 1] 1 = 9 ∧ topF ⟨0, 3, 1⟩ = true ∧ topF ⟨1, 4, 2⟩ = false ∧ botF ⟨1, 4, 2⟩ = true ∧ cntFU wakeF 0 2 = 1 ∧ cntFU wakeF 1 2 = 1 ∧ cntFU wakeF 2 2 = 0 := by decide
theorem Blk.hexa {w : World} {g : Nat} {T : TypeId} {v0 v1 v2 v3 v4 v5 : Value} (h : Blk w g #[v0, v1, v2, v3, v4, v5] T) : w.cell? ⟨g, 0, none⟩ = some v0 ∧ w.cell? ⟨g, 1, none⟩ = some v1 ∧ w.cell? ⟨g, 2, none⟩ = some v2 ∧ w.cell? ⟨g, 3, none⟩ = some v3 ∧ w.cell? ⟨g, 4, none⟩ = some v4 ∧ w.cell? ⟨g, 5, none⟩ = some v5 := h.six
theorem wakeF_row {w : World} {g : Nat} {T : TypeId} (h : Blk w g #[.int .i64 0, .int .i64 3, .int .i64 1, .int .i64 1, .int .i64 4, .int .i64 2] T) : URow w (some ⟨g, 0, none⟩) wakeF := fun k hk => by
  obtain ⟨h0, h1, h2, h3, h4, h5⟩ := h.six
  have hk' : k = 0 ∨ k = 1 := by simp [wakeF] at hk; omega
  rcases hk' with rfl | rfl
  · exact ⟨by simp [wakeF, inF, inR], g, 0, rfl, h.lt, h0, h1, h2⟩
  · exact ⟨by simp [wakeF, inF, inR], g, 0, rfl, h.lt, h3, h4, h5⟩
theorem run_build2 (u v : Int) (x : World) : (Instr.buildSlice 30 2 #[(0, .int .i64 u), (1, .int .i64 v)]).run Try.prog x = .ok (.slice (some ⟨x.heap.size, 0, none⟩) 2 2) (x.alloc (.cells #[.int .i64 u, .int .i64 v] 3)) := by
  simp [go_sem]
theorem build_two (o : Oper) (a : Act) (u v : Int) (s s' : Operand) (ho : o.op = .buildSlice 30 2 #[(0, s), (1, s')]) (hs : a.eval s = .int .i64 u) (hs' : a.eval s' = .int .i64 v) (x : World) :
    (execOp a.eval o).run Try.prog x = .ok (.value (.slice (some ⟨x.heap.size, 0, none⟩) 2 2)) (x.alloc (.cells #[.int .i64 u, .int .i64 v] 3)) := by
  unfold execOp
  simp only [ho, List.map_toArray, List.map_cons, List.map_nil, hs, hs', Sem.run_bind, run_build2, Result.andThen_ok, Sem.run_pure]
set_option maxHeartbeats 1000000 in
theorem awake12 (w : World) : Calls Try.prog 10 #[] w fun e w' => e = .returned (.bool true) ∧ Below w.heap.size w w' := by
  obtain ⟨f1, f2, f3, f4, f5, f6, f7, f8, f9⟩ := wakeF_facts
  have b0 := tbel1 w (.cells #[.int .i64 0, .int .i64 3, .int .i64 1, .int .i64 1, .int .i64 4, .int .i64 2] 24)
  have B0 := blk_new w #[.int .i64 0, .int .i64 3, .int .i64 1, .int .i64 1, .int .i64 4, .int .i64 2] 24
  go_enter Try.func10, Try.ntmps10
  go_wp2_with fail
  generalize w.alloc _ = U at *
  have q := Lib.hid fun x (hx : Below U.heap.size U x) => (B0.old hx).six
  have c1 := fat_any (some ⟨w.heap.size, 0, none⟩) 2 wakeF 1 U (by decide) (wakeF_row B0)
  have c2 := Lib.hid fun x => fcheck_any ⟨0, 3, 1⟩ x
  have c3 := Lib.hid fun (x : World) (hx : Below U.heap.size U x) (g : Nat) (B : Blk x g #[.int .i64 0, .int .i64 1] 3) => fhigh_any (some ⟨w.heap.size, 0, none⟩) (some ⟨g, 0, none⟩) 2 2 wakeF [0, 1] 1 x (by decide) (by decide) (wakeF_row (B0.old hx)) (row_blk (l := [0, 1]) B B.lt (by simp [inR]))
  have c4 := Lib.hid fun x => ftop_any ⟨0, 3, 1⟩ x
  have c5 := Lib.hid fun x => ftop_any ⟨1, 4, 2⟩ x
  have c6 := Lib.hid fun x => fbottom_any ⟨1, 4, 2⟩ x
  have c7 := Lib.hid fun x (hx : Below U.heap.size U x) => fcounts_any (some ⟨w.heap.size, 0, none⟩) 2 wakeF x (by decide) (wakeF_row (B0.old hx))
  have e1 : atF wakeF 1 = ⟨1, 4, 2⟩ := rfl
  rw [f2, e1] at c1
  rw [f1] at c2
  rw [f3] at c3
  rw [f4] at c4
  rw [f5] at c5
  rw [f6] at c6
  rw [show wakeF.length = 2 from rfl] at c1 c3 c7
  rw [f7, f8, f9] at c7
  unfold flt at c1 c2 c4 c5 c6
  unfold errF at c2
  simp only [cond_true, List.length_cons, List.length_nil, Nat.reduceAdd] at c2 c3
  clear f1 f2 f3 f4 f5 f6 f7 f8 f9 e1 B0
  refine c1.mono ?_
  rintro e w1 ⟨rfl, b1⟩
  clear c1
  have D := blk_new w1 #[.int .i64 1, .int .i64 4, .int .i64 2] 24
  have bd := tstep b1 (tbel1 w1 (.cells #[.int .i64 1, .int .i64 4, .int .i64 2] 24)) b1.size
  obtain ⟨q0, q1, q2, q3, q4, q5⟩ := q.out _ b1
  go_wp2_with fail
  clear q0 q1 q2 q3 q4 q5
  generalize w1.alloc _ = V at *
  have CE := Lib.hid fun x (hx : Old V x) => And.intro (q.out x (tstep bd hx bd.size)) (D.old hx).triple
  (refine wp_region_plan 46 [(0, true), (1, true), (2, true), (3, true), (4, true), (5, true), (6, true), (7, true), (8, true), (9, true), (10, true), (11, true), (12, true), (13, true), (14, true), (15, true), (16, true), (17, false), (18, true), (19, true), (20, true), (21, true), (22, true), (23, true), (24, true), (25, true), (26, true), (27, true), (28, true), (29, true), (30, true), (31, true), (32, true), (33, true), (34, true), (35, true), (36, true), (37, true), (38, true), (39, true), (40, true), (41, true), (42, true), (43, true), (44, true), (45, true)] (by kernel_rfl) (by kernel_rfl) ?_; simp only [pick, List.getElem?_cons_succ, List.getElem?_cons_zero, List.drop_succ_cons, List.drop_zero])
  repeat (first | (apply TextV.sees (hw := by kernel_rfl); (focus (intro x hx K hK; have hc := CE.out x hx; go_simp; exact hK)); simp only [Act.put, List.getElem_toArray, List.getElem_cons_succ, List.getElem_cons_zero, List.setIfInBounds_toArray, List.set_cons_zero, List.set_cons_succ]) | (apply TextV.idle; (focus (intro x hx K hK; go_simp; exact hK)); simp only [Act.put, List.getElem_toArray, List.getElem_cons_succ, List.getElem_cons_zero, List.setIfInBounds_toArray, List.set_cons_zero, List.set_cons_succ]))
  (refine TextV.call (fun x hx => c2.out x) (by kernel_rfl) (fun _ => by kernel_rfl) ?_; simp only [Act.put, List.getElem_toArray, List.getElem_cons_succ, List.getElem_cons_zero, List.setIfInBounds_toArray, List.set_cons_zero, List.set_cons_succ])
  repeat (first | (apply TextV.sees (hw := by kernel_rfl); (focus (intro x hx K hK; have hc := CE.out x hx; go_simp; exact hK)); simp only [Act.put, List.getElem_toArray, List.getElem_cons_succ, List.getElem_cons_zero, List.setIfInBounds_toArray, List.set_cons_zero, List.set_cons_succ]) | (apply TextV.idle; (focus (intro x hx K hK; go_simp; exact hK)); simp only [Act.put, List.getElem_toArray, List.getElem_cons_succ, List.getElem_cons_zero, List.setIfInBounds_toArray, List.set_cons_zero, List.set_cons_succ]))
  (refine TextV.loudv (V := fun v y => ∃ g, v = .slice (some ⟨g, 0, none⟩) 2 2 ∧ Blk y g #[.int .i64 0, .int .i64 1] 3) (fun x hx => ⟨_, _, build_two _ _ _ _ (.const (.int .i64 0)) (.const (.int .i64 1)) rfl rfl rfl x, ⟨x.heap.size, rfl, blk_new _ _ _⟩, tbel1 x _⟩) (by kernel_rfl) (fun v5 y5 hv5 hy5 => ?_); simp only [Act.put, List.getElem_toArray, List.getElem_cons_succ, List.getElem_cons_zero, List.setIfInBounds_toArray, List.set_cons_zero, List.set_cons_succ])
  obtain ⟨g, rfl, Bg⟩ := hv5
  have b5 := tstep bd hy5 bd.size
  have D5 := D.old hy5
  clear CE hy5
  have CE := Lib.hid fun x (hx : Old y5 x) => And.intro (q.out x (tstep b5 hx b5.size)) (D5.old hx).triple
  (refine TextV.call (fun x hx => c3.out x (tstep b5 hx b5.size) g (Bg.old hx)) (by kernel_rfl) (fun _ => by kernel_rfl) ?_; simp only [Act.put, List.getElem_toArray, List.getElem_cons_succ, List.getElem_cons_zero, List.setIfInBounds_toArray, List.set_cons_zero, List.set_cons_succ])
  repeat (first | (apply TextV.sees (hw := by kernel_rfl); (focus (intro x hx K hK; have hc := CE.out x hx; go_simp; exact hK)); simp only [Act.put, List.getElem_toArray, List.getElem_cons_succ, List.getElem_cons_zero, List.setIfInBounds_toArray, List.set_cons_zero, List.set_cons_succ]) | (apply TextV.idle; (focus (intro x hx K hK; go_simp; exact hK)); simp only [Act.put, List.getElem_toArray, List.getElem_cons_succ, List.getElem_cons_zero, List.setIfInBounds_toArray, List.set_cons_zero, List.set_cons_succ]))
  (refine TextV.call (fun x hx => c4.out x) (by kernel_rfl) (fun _ => by kernel_rfl) ?_; simp only [Act.put, List.getElem_toArray, List.getElem_cons_succ, List.getElem_cons_zero, List.setIfInBounds_toArray, List.set_cons_zero, List.set_cons_succ])
  repeat (first | (apply TextV.sees (hw := by kernel_rfl); (focus (intro x hx K hK; have hc := CE.out x hx; go_simp; exact hK)); simp only [Act.put, List.getElem_toArray, List.getElem_cons_succ, List.getElem_cons_zero, List.setIfInBounds_toArray, List.set_cons_zero, List.set_cons_succ]) | (apply TextV.idle; (focus (intro x hx K hK; go_simp; exact hK)); simp only [Act.put, List.getElem_toArray, List.getElem_cons_succ, List.getElem_cons_zero, List.setIfInBounds_toArray, List.set_cons_zero, List.set_cons_succ]))
  (refine TextV.call (fun x hx => c5.out x) (by kernel_rfl) (fun _ => by kernel_rfl) ?_; simp only [Act.put, List.getElem_toArray, List.getElem_cons_succ, List.getElem_cons_zero, List.setIfInBounds_toArray, List.set_cons_zero, List.set_cons_succ])
  repeat (first | (apply TextV.sees (hw := by kernel_rfl); (focus (intro x hx K hK; have hc := CE.out x hx; go_simp; exact hK)); simp only [Act.put, List.getElem_toArray, List.getElem_cons_succ, List.getElem_cons_zero, List.setIfInBounds_toArray, List.set_cons_zero, List.set_cons_succ]) | (apply TextV.idle; (focus (intro x hx K hK; go_simp; exact hK)); simp only [Act.put, List.getElem_toArray, List.getElem_cons_succ, List.getElem_cons_zero, List.setIfInBounds_toArray, List.set_cons_zero, List.set_cons_succ]))
  (refine TextV.call (fun x hx => c6.out x) (by kernel_rfl) (fun _ => by kernel_rfl) ?_; simp only [Act.put, List.getElem_toArray, List.getElem_cons_succ, List.getElem_cons_zero, List.setIfInBounds_toArray, List.set_cons_zero, List.set_cons_succ])
  repeat (first | (apply TextV.sees (hw := by kernel_rfl); (focus (intro x hx K hK; have hc := CE.out x hx; go_simp; exact hK)); simp only [Act.put, List.getElem_toArray, List.getElem_cons_succ, List.getElem_cons_zero, List.setIfInBounds_toArray, List.set_cons_zero, List.set_cons_succ]) | (apply TextV.idle; (focus (intro x hx K hK; go_simp; exact hK)); simp only [Act.put, List.getElem_toArray, List.getElem_cons_succ, List.getElem_cons_zero, List.setIfInBounds_toArray, List.set_cons_zero, List.set_cons_succ]))
  (refine TextV.call (fun x hx => c7.out x (tstep b5 hx b5.size)) (by kernel_rfl) (fun _ => by kernel_rfl) ?_; simp only [Act.put, List.getElem_toArray, List.getElem_cons_succ, List.getElem_cons_zero, List.setIfInBounds_toArray, List.set_cons_zero, List.set_cons_succ])
  repeat (first | (apply TextV.sees (hw := by kernel_rfl); (focus (intro x hx K hK; have hc := CE.out x hx; go_simp; exact hK)); simp only [Act.put, List.getElem_toArray, List.getElem_cons_succ, List.getElem_cons_zero, List.setIfInBounds_toArray, List.set_cons_zero, List.set_cons_succ]) | (apply TextV.idle; (focus (intro x hx K hK; go_simp; exact hK)); simp only [Act.put, List.getElem_toArray, List.getElem_cons_succ, List.getElem_cons_zero, List.setIfInBounds_toArray, List.set_cons_zero, List.set_cons_succ]))
  (refine TextV.val (v := .bool true) (fun x hx => by kernel_rfl) (by kernel_rfl) ?_; simp only [Act.put, List.getElem_toArray, List.getElem_cons_succ, List.getElem_cons_zero, List.setIfInBounds_toArray, List.set_cons_zero, List.set_cons_succ])
  repeat (first | (apply TextV.sees (hw := by kernel_rfl); (focus (intro x hx K hK; have hc := CE.out x hx; go_simp; exact hK)); simp only [Act.put, List.getElem_toArray, List.getElem_cons_succ, List.getElem_cons_zero, List.setIfInBounds_toArray, List.set_cons_zero, List.set_cons_succ]) | (apply TextV.idle; (focus (intro x hx K hK; go_simp; exact hK)); simp only [Act.put, List.getElem_toArray, List.getElem_cons_succ, List.getElem_cons_zero, List.setIfInBounds_toArray, List.set_cons_zero, List.set_cons_succ]))
  intro x hx
  replace hx := tstep b5 hx b5.size
  clear CE c2 c3 c4 c5 c6 c7 Bg
  go_wp2
  go_ret
  exact ⟨rfl, tstep b0 hx b0.size⟩
end Go.Proofs.Ytgohglghmhhdnaa
