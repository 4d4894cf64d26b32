/- awake of layer 15. -/
import Derived.Test.YthcgncgnbjhniaaKChk
import Derived.Test.YthcgncgnbjhniaaJLaw
namespace Go.Proofs.Ythcgncgnbjhniaa
open Go.RowKit
set_option maxRecDepth 20000
set_option linter.unusedVariables false
set_option linter.unusedSimpArgs false

def wakeV (h : Int) : J4 := ⟨⟨1, 1, 0, 9, 9, 0, 0, 0, 0, 0, 0, 0, 0, 0, 0, 0, 0, 0, false⟩, [⟨1, 3, 0, 0, 0, 0, 0⟩, ⟨6, 0, 0, 0, 0, 0, 0⟩], [], [⟨0, h, 0⟩]⟩
theorem wakeV_facts : errK (wakeV 10) = 12 ∧ atK (wakeV 10) = 0 ∧ rightK (wakeV 9) = true := by decide +kernel
theorem wakeV_few (h : Int) : Few (wakeV h) := by
  refine ⟨(by decide : 2 ≤ 100), (by decide : 0 ≤ 100), (by decide : 1 ≤ 100), fun k => ?_⟩
  simp [wakeV, zeroN]
theorem wakeV_in {h : Int} (hh : inR h) : inJ (wakeV h) := by
  have e1 : inE (wakeV 0).g := by unfold inE; decide
  have e2 : ∀ k, k < 2 → inI ((wakeV 0).items.getD k zeroI) := fun k hk => by
    rcases (show k = 0 ∨ k = 1 by omega) with rfl | rfl <;> (unfold inI; decide)
  refine ⟨e1, fun k => ?_, fun k => ?_⟩
  · rcases Nat.lt_or_ge k 2 with h | h
    · exact e2 k h
    · rw [getD_none (by exact h)]; exact (zero_in 0).1
  · rcases Nat.lt_or_ge k 1 with h | h
    · obtain rfl : k = 0 := by omega
      exact ⟨(by decide : inR 0), hh, (by decide : inR 0)⟩
    · rw [getD_none (by exact h)]; exact (zero_in 0).2
def wakeVI : Array Value := #[.int .i64 1, .int .i64 3, .int .i64 0, .int .i64 0, .int .i64 0, .int .i64 0, .int .i64 0, .int .i64 6, .int .i64 0, .int .i64 0, .int .i64 0, .int .i64 0, .int .i64 0, .int .i64 0]
def wakeVF (h : Int) : Array Value := #[.int .i64 0, .int .i64 h, .int .i64 0]
theorem execV_I (o : Oper) (a : Act) (s r : Operand) (ho : o.op = .buildSlice 22 2 #[(0, s), (1, r)]) (hs : a.eval s = .agg #[.int .i64 1, .int .i64 3, .int .i64 0, .int .i64 0, .int .i64 0, .int .i64 0, .int .i64 0]) (hr : a.eval r = .agg #[.int .i64 6, .int .i64 0, .int .i64 0, .int .i64 0, .int .i64 0, .int .i64 0, .int .i64 0]) (x : World) :
    (execOp a.eval o).run Try.prog x = .ok (.value (.slice (some ⟨x.heap.size, 0, none⟩) 2 2)) (x.alloc (.cells wakeVI 39)) := by
  unfold execOp
  simp only [ho, List.map_toArray, List.map_cons, List.map_nil, hs, hr, Sem.run_bind, run_buildI2, Result.andThen_ok, Sem.run_pure]
  rfl
theorem execV_F (o : Oper) (a : Act) (s : Operand) (h : Int) (ho : o.op = .buildSlice 33 1 #[(0, s)]) (hs : a.eval s = .agg #[.int .i64 0, .int .i64 h, .int .i64 0]) (x : World) :
    (execOp a.eval o).run Try.prog x = .ok (.value (.slice (some ⟨x.heap.size, 0, none⟩) 1 1)) (x.alloc (.cells (wakeVF h) 42)) := by
  unfold execOp
  simp only [ho, List.map_toArray, List.map_cons, List.map_nil, hs, Sem.run_bind, aw_buildF, Result.andThen_ok, Sem.run_pure]
  rfl
theorem wakeV_lists {w : World} {p q : Nat} {h : Int} (hh : inR h) (B1 : Blk w p wakeVI 39) (B2 : Blk w q (wakeVF h) 42) : Lists w (wakeV h) ⟨some ⟨p, 0, none⟩, 2, none, 0, some ⟨q, 0, none⟩, 1⟩ := by
  refine ⟨wakeV_in hh, fun k j hk hj => ?_, ⟨fun _ => zeroH, ?_, fun k hk => absurd hk (Nat.not_lt_zero k)⟩, fun k j hk hj => ?_, (show 2 ≤ 2 ∧ 2 ≤ maxLen by decide), (show 0 ≤ 0 ∧ 0 ≤ maxLen by decide), (show 1 ≤ 1 ∧ 1 ≤ maxLen by decide)⟩
  · refine ⟨p, 0, rfl, B1.lt, ?_⟩
    rw [B1.cell, Nat.zero_add]
    have hk' : k < 2 := hk
    rcases (show k = 0 ∨ k = 1 by omega) with rfl | rfl <;> rcases (show j = 0 ∨ j = 1 ∨ j = 2 ∨ j = 3 ∨ j = 4 ∨ j = 5 ∨ j = 6 by omega) with rfl | rfl | rfl | rfl | rfl | rfl | rfl <;> rfl
  · intro k j hk hj
    exact absurd hk (Nat.not_lt_zero k)
  · refine ⟨q, 0, rfl, B2.lt, ?_⟩
    rw [B2.cell, Nat.zero_add]
    have hk' : k < 1 := hk
    obtain rfl : k = 0 := by omega
    rcases (show j = 0 ∨ j = 1 ∨ j = 2 by omega) with rfl | rfl | rfl <;> rfl
set_option maxHeartbeats 2000000 in
theorem awake15 (w : World) : Calls Try.prog 5 #[] w fun e w' => e = .returned (.bool true) ∧ Below w.heap.size w w' := by
  obtain ⟨e1, e2, e3⟩ := wakeV_facts
  have c1 := Lib.hid fun s x hL => (e2 ▸ e1 ▸ vcheck_any (wakeV 10) s x hL (.inl (wakeV_few 10)) : Calls Try.prog 12 #[.agg (jobC (wakeV 10) s)] x fun e y => e = .returned (.tuple #[.int .i64 12, .int .i64 0]) ∧ Below x.heap.size x y)
  have c2 := Lib.hid fun s x hL => (e3 ▸ vright_any (wakeV 9) s x hL (.inl (wakeV_few 9)) : Calls Try.prog 10 #[.agg (jobC (wakeV 9) s)] x fun e y => e = .returned (.bool true) ∧ Below x.heap.size x y)
  clear e1 e2 e3
  go_enter Try.func5, Try.ntmps5
  go_upto_region 1 with (fail)
  refine wp_region_lit ?_
  refine aw_build rfl 31 _ rfl (geoC (wakeV 9).g) (by kernel_rfl) ?_
  simp only [Act.put, List.getElem_toArray, List.getElem_cons_succ, List.getElem_cons_zero, List.setIfInBounds_toArray, List.set_cons_zero, List.set_cons_succ]
  refine aw_build rfl 39 _ rfl #[.int .i64 1, .int .i64 3, .int .i64 0, .int .i64 0, .int .i64 0, .int .i64 0, .int .i64 0] (by kernel_rfl) ?_
  simp only [Act.put, List.getElem_toArray, List.getElem_cons_succ, List.getElem_cons_zero, List.setIfInBounds_toArray, List.set_cons_zero, List.set_cons_succ]
  refine aw_build rfl 39 _ rfl #[.int .i64 6, .int .i64 0, .int .i64 0, .int .i64 0, .int .i64 0, .int .i64 0, .int .i64 0] (by kernel_rfl) ?_
  simp only [Act.put, List.getElem_toArray, List.getElem_cons_succ, List.getElem_cons_zero, List.setIfInBounds_toArray, List.set_cons_zero, List.set_cons_succ]
  refine aw_val rfl (execV_I _ _ (.tmp 6) (.tmp 7) rfl rfl rfl w) ?_
  simp only [Act.put, List.getElem_toArray, List.getElem_cons_succ, List.getElem_cons_zero, List.setIfInBounds_toArray, List.set_cons_zero, List.set_cons_succ]
  refine aw_build rfl 42 _ rfl #[.int .i64 0, .int .i64 9, .int .i64 0] (by kernel_rfl) ?_
  simp only [Act.put, List.getElem_toArray, List.getElem_cons_succ, List.getElem_cons_zero, List.setIfInBounds_toArray, List.set_cons_zero, List.set_cons_succ]
  refine aw_val rfl (execV_F _ _ (.tmp 9) 9 rfl rfl _) ?_
  simp only [Act.put, List.getElem_toArray, List.getElem_cons_succ, List.getElem_cons_zero, List.setIfInBounds_toArray, List.set_cons_zero, List.set_cons_succ]
  have W1 := blk_new w wakeVI 39
  have W2 := blk_two w (.cells wakeVI 39) (wakeVF 9) 42
  replace W1 := W1.alloc (.cells (wakeVF 9) 42)
  refine aw_build rfl 35 _ rfl (jobC (wakeV 9) ⟨some ⟨w.heap.size, 0, none⟩, 2, none, 0, some ⟨w.heap.size + 1, 0, none⟩, 1⟩) (by rw [World.size_alloc]; kernel_rfl) ?_
  simp only [Act.put, List.getElem_toArray, List.getElem_cons_succ, List.getElem_cons_zero, List.setIfInBounds_toArray, List.set_cons_zero, List.set_cons_succ]
  have b0 := tbel2 w (.cells wakeVI 39) (.cells (wakeVF 9) 42)
  have hs : ((w.alloc (.cells wakeVI 39)).alloc (.cells (wakeVF 9) 42)).heap.size = w.heap.size + 2 := by simp
  generalize (w.alloc _).alloc _ = W at *
  refine make_job (j := wakeV 9) (s := ⟨some ⟨w.heap.size, 0, none⟩, 2, none, 0, some ⟨w.heap.size + 1, 0, none⟩, 1⟩) rfl rfl rfl (.tmp 1) (.tmp 11) rfl rfl rfl ?_
  simp only [Act.put, List.getElem_toArray, List.getElem_cons_succ, List.getElem_cons_zero, List.setIfInBounds_toArray, List.set_cons_zero, List.set_cons_succ]
  have D1 := job_new W (wakeV 9) ⟨some ⟨w.heap.size, 0, none⟩, 2, none, 0, some ⟨w.heap.size + 1, 0, none⟩, 1⟩
  have b1 := tbel1 W (.cells (jobC (wakeV 9) ⟨some ⟨w.heap.size, 0, none⟩, 2, none, 0, some ⟨w.heap.size + 1, 0, none⟩, 1⟩) 35)
  replace W1 := W1.old b1
  replace W2 := W2.old b1
  replace b0 := tstep b0 b1 b0.size
  clear b1 hs
  go_upto_region 2 with (fail)
  generalize W.heap.size = q at *
  generalize W.alloc _ = V at *
  clear W
  refine wp_region_lit ?_
  refine wpl_load_job rfl (.tmp 1) rfl rfl D1 ?_
  simp only [Act.put, List.getElem_toArray, List.getElem_cons_succ, List.getElem_cons_zero, List.setIfInBounds_toArray, List.set_cons_zero, List.set_cons_succ]
  refine make_job (j := wakeV 9) (s := ⟨some ⟨w.heap.size, 0, none⟩, 2, none, 0, some ⟨w.heap.size + 1, 0, none⟩, 1⟩) rfl rfl rfl (.tmp 2) (.tmp 12) rfl rfl rfl ?_
  simp only [Act.put, List.getElem_toArray, List.getElem_cons_succ, List.getElem_cons_zero, List.setIfInBounds_toArray, List.set_cons_zero, List.set_cons_succ]
  have hq : q ≠ V.heap.size := Nat.ne_of_lt (Blk.lt D1)
  have D2 := job_new V (wakeV 9) ⟨some ⟨w.heap.size, 0, none⟩, 2, none, 0, some ⟨w.heap.size + 1, 0, none⟩, 1⟩
  have b1 := tbel1 V (.cells (jobC (wakeV 9) ⟨some ⟨w.heap.size, 0, none⟩, 2, none, 0, some ⟨w.heap.size + 1, 0, none⟩, 1⟩) 35)
  replace W1 := W1.old b1
  replace W2 := W2.old b1
  replace D1 := D1.old b1
  have hr : w.heap.size ≤ V.heap.size := b0.size
  replace b0 := tstep b0 b1 b0.size
  clear b1
  go_upto_region 3 with (fail)
  generalize V.heap.size = r at *
  generalize V.alloc _ = U at *
  clear V
  refine wp_region_lit ?_
  refine aw_build rfl 42 _ rfl #[.int .i64 0, .int .i64 10, .int .i64 0] (by kernel_rfl) ?_
  simp only [Act.put, List.getElem_toArray, List.getElem_cons_succ, List.getElem_cons_zero, List.setIfInBounds_toArray, List.set_cons_zero, List.set_cons_succ]
  refine aw_val rfl (execV_F _ _ (.tmp 13) 10 rfl rfl _) ?_
  simp only [Act.put, List.getElem_toArray, List.getElem_cons_succ, List.getElem_cons_zero, List.setIfInBounds_toArray, List.set_cons_zero, List.set_cons_succ]
  have W3 := blk_new U (wakeVF 10) 42
  have b1 := tbel1 U (.cells (wakeVF 10) 42)
  replace W1 := W1.old b1
  replace W2 := W2.old b1
  replace D1 := D1.old b1
  replace D2 := D2.old b1
  replace b0 := tstep b0 b1 b0.size
  clear b1
  generalize U.heap.size = u at *
  generalize U.alloc _ = X at *
  have t21 := D2.three.2.2
  have f21 := Blk.free D2 21
  go_upto_region 4 with (fail)
  clear t21 f21
  have E2 : JobAt (X.setCell ⟨r, 21, none⟩ (.slice (some ⟨u, 0, none⟩) 1 1)) r (wakeV 10) ⟨some ⟨w.heap.size, 0, none⟩, 2, none, 0, some ⟨u, 0, none⟩, 1⟩ := D2.newF [⟨0, 10, 0⟩] (some ⟨u, 0, none⟩) 1
  replace W1 := Blk.other W1 (Blk.ne W1 D2 (by decide)) 21 (.slice (some ⟨u, 0, none⟩) 1 1)
  replace W2 := Blk.other W2 (Blk.ne W2 D2 (by decide)) 21 (.slice (some ⟨u, 0, none⟩) 1 1)
  replace W3 := Blk.other W3 (Blk.ne W3 D2 (by decide)) 21 (.slice (some ⟨u, 0, none⟩) 1 1)
  replace D1 := Blk.other D1 hq 21 (.slice (some ⟨u, 0, none⟩) 1 1)
  replace b0 := b0.setCell (p := ⟨r, 21, none⟩) hr (.slice (some ⟨u, 0, none⟩) 1 1)
  clear D2
  generalize X.setCell _ _ = Y at *
  have L1 := wakeV_lists (by decide) W1 W3
  have L2 := wakeV_lists (by decide) W1 W2
  (refine wp_region_plain (Old Y) 2 (Below.refl _ Y) ?_; simp only [List.take_succ_cons, List.take_zero, List.drop_succ_cons, List.drop_zero])
  (refine Text.val (fun x hx => load_job (.tmp 2) rfl rfl (E2.old hx)) (by kernel_rfl) ?_; simp only [Act.put, List.getElem_toArray, List.getElem_cons_succ, List.getElem_cons_zero, List.setIfInBounds_toArray, List.set_cons_zero, List.set_cons_succ])
  (refine Text.call (Old.call fun x hx => c1.out _ x (L1.carry hx)) (by kernel_rfl) (fun _ => by kernel_rfl) ?_; simp only [Act.put, List.getElem_toArray, List.getElem_cons_succ, List.getElem_cons_zero, List.setIfInBounds_toArray, List.set_cons_zero, List.set_cons_succ])
  intro x hx
  replace D1 := Blk.old D1 hx
  replace L2 := L2.carry hx
  replace b0 := tstep b0 hx b0.size
  clear hx L1 E2 W1 W2 W3 c1
  go_upto_region 5 with (fail)
  (refine wp_region_plain (Old x) 2 (Below.refl _ x) ?_; simp only [List.take_succ_cons, List.take_zero, List.drop_succ_cons, List.drop_zero])
  (refine Text.val (fun y hy => load_job (.tmp 1) rfl rfl (Blk.old D1 hy)) (by kernel_rfl) ?_; simp only [Act.put, List.getElem_toArray, List.getElem_cons_succ, List.getElem_cons_zero, List.setIfInBounds_toArray, List.set_cons_zero, List.set_cons_succ])
  (refine Text.call (Old.call fun y hy => c2.out _ y (L2.carry hy)) (by kernel_rfl) (fun _ => by kernel_rfl) ?_; simp only [Act.put, List.getElem_toArray, List.getElem_cons_succ, List.getElem_cons_zero, List.setIfInBounds_toArray, List.set_cons_zero, List.set_cons_succ])
  intro y hy
  go_wp2
  go_ret
  exact ⟨rfl, tstep b0 hy b0.size⟩
end Go.Proofs.Ythcgncgnbjhniaa
