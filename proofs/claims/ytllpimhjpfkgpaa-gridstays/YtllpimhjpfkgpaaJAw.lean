/- awake of layer 14. -/
import Derived.Test.YtllpimhjpfkgpaaJOn
import Derived.Test.YtllpimhjpfkgpaaJSnp
namespace Go.Proofs.Ytllpimhjpfkgpaa
open Go.RowKit
set_option maxRecDepth 20000
set_option linter.unusedVariables false
set_option linter.unusedSimpArgs false

def wakeJ : J4 := ⟨⟨0, 0, 0, 20, 14, 6, 0, 0, 0, 0, 0, 0, 0, 0, 0, 0, 0, 0, false⟩, [⟨1, 7, 0, 0, 0, 0, 0⟩, ⟨2, 3, 0, 2, 0, 0, 0⟩], [], [⟨0, 1, 0⟩]⟩
theorem wakeJ_facts : onJ wakeJ = false ∧ onJ (snapJ wakeJ) = true ∧ (snapJ wakeJ).g.high = 18 ∧ (snapJ wakeJ).g.first = 12 ∧ ((snapJ wakeJ).items.getD 0 zeroI).h = 12 ∧ ((snapJ wakeJ).items.getD 1 zeroI).h = 6 ∧ ((snapJ wakeJ).floats.getD 0 zeroF).h = 6 ∧ nearZ 2 6 = 0 := by decide
theorem wakeJ_few : Few wakeJ ∧ Few (snapJ wakeJ) := by
  have e : (snapJ wakeJ).notes = [] := rfl
  refine ⟨⟨by decide, by decide, by decide, fun k => ?_⟩, ⟨by decide, by decide, by decide, fun k => ?_⟩⟩
  · simp [wakeJ, zeroN]
  · rw [e]; simp [zeroN]
theorem wakeJ_in : inJ wakeJ := by
  refine ⟨by unfold inE; decide, fun k => ?_, fun k => ?_⟩
  · rcases Nat.lt_or_ge k 2 with h | h
    · rcases (show k = 0 ∨ k = 1 by omega) with rfl | rfl <;> (unfold inI; decide)
    · rw [getD_none (by exact h)]; exact (zero_in 0).1
  · rcases Nat.lt_or_ge k 1 with h | h
    · obtain rfl : k = 0 := by omega
      unfold inF; decide
    · rw [getD_none (by exact h)]; exact (zero_in 0).2
theorem aw_val {P : Program} {ops : Array Oper} {rest : List Oper} {o : Oper} {a : Act} {w w' : World} {Q : Exit → Act → World → Prop} {v : Value} (hgd : o.guard = none) (he : (execOp a.eval o).run P w = .ok (.value v) w') (hk : wpList P ops Q rest (a.put o.dst v) w') : wpList P ops Q (o :: rest) a w :=
  wpList_plain hgd fun K hK => by
    unfold Oper.wp
    rw [he]
    exact hK _ _ hk
theorem aw_build {ops : Array Oper} {rest : List Oper} {o : Oper} {a : Act} {w : World} {Q : Exit → Act → World → Prop} (hgd : o.guard = none) (t : TypeId) (parts : Array (Nat × Operand)) (ho : o.op = .build t parts) (cells : Array Value)
    (hb : Try.prog.built t (parts.map fun (i, x) => (i, a.eval x)).toList = some cells) (hk : wpList Try.prog ops Q rest (a.put o.dst (.agg cells)) w) : wpList Try.prog ops Q (o :: rest) a w :=
  aw_val hgd (by unfold execOp; simp only [ho, Sem.run_bind, run_build w t _ cells hb, Result.andThen_ok]; rfl) hk
theorem run_buildI2 (x0 x1 x2 x3 x4 x5 x6 y0 y1 y2 y3 y4 y5 y6 : Int) (x : World) : (Instr.buildSlice 25 2 #[(0, .agg #[.int .i64 x0, .int .i64 x1, .int .i64 x2, .int .i64 x3, .int .i64 x4, .int .i64 x5, .int .i64 x6]), (1, .agg #[.int .i64 y0, .int .i64 y1, .int .i64 y2, .int .i64 y3, .int .i64 y4, .int .i64 y5, .int .i64 y6])]).run Try.prog x = .ok (.slice (some ⟨x.heap.size, 0, none⟩) 2 2) (x.alloc (.cells #[.int .i64 x0, .int .i64 x1, .int .i64 x2, .int .i64 x3, .int .i64 x4, .int .i64 x5, .int .i64 x6, .int .i64 y0, .int .i64 y1, .int .i64 y2, .int .i64 y3, .int .i64 y4, .int .i64 y5, .int .i64 y6] 39)) := by
  simp [go_sem]
theorem aw_buildF (c h p : Int) (x : World) : (Instr.buildSlice 27 1 #[(0, .agg #[.int .i64 c, .int .i64 h, .int .i64 p])]).run Try.prog x = .ok (.slice (some ⟨x.heap.size, 0, none⟩) 1 1) (x.alloc (.cells #[.int .i64 c, .int .i64 h, .int .i64 p] 41)) := by
  simp [go_sem]
/-- The cells of the two items. -/
def wakeI : Array Value := #[.int .i64 1, .int .i64 7, .int .i64 0, .int .i64 0, .int .i64 0, .int .i64 0, .int .i64 0, .int .i64 2, .int .i64 3, .int .i64 0, .int .i64 2, .int .i64 0, .int .i64 0, .int .i64 0]
def wakeF : Array Value := #[.int .i64 0, .int .i64 1, .int .i64 0]
theorem exec_buildI (o : Oper) (a : Act) (s r : Operand) (ho : o.op = .buildSlice 25 2 #[(0, s), (1, r)]) (hs : a.eval s = .agg #[.int .i64 1, .int .i64 7, .int .i64 0, .int .i64 0, .int .i64 0, .int .i64 0, .int .i64 0]) (hr : a.eval r = .agg #[.int .i64 2, .int .i64 3, .int .i64 0, .int .i64 2, .int .i64 0, .int .i64 0, .int .i64 0]) (x : World) :
    (execOp a.eval o).run Try.prog x = .ok (.value (.slice (some ⟨x.heap.size, 0, none⟩) 2 2)) (x.alloc (.cells wakeI 39)) := by
  unfold execOp
  simp only [ho, List.map_toArray, List.map_cons, List.map_nil, hs, hr, Sem.run_bind, run_buildI2, Result.andThen_ok, Sem.run_pure]
  rfl
theorem exec_buildF (o : Oper) (a : Act) (s : Operand) (ho : o.op = .buildSlice 27 1 #[(0, s)]) (hs : a.eval s = .agg #[.int .i64 0, .int .i64 1, .int .i64 0]) (x : World) :
    (execOp a.eval o).run Try.prog x = .ok (.value (.slice (some ⟨x.heap.size, 0, none⟩) 1 1)) (x.alloc (.cells wakeF 41)) := by
  unfold execOp
  simp only [ho, List.map_toArray, List.map_cons, List.map_nil, hs, Sem.run_bind, aw_buildF, Result.andThen_ok, Sem.run_pure]
  rfl
def wakeS (w : World) : S3 := ⟨some ⟨w.heap.size, 0, none⟩, 2, none, 0, some ⟨w.heap.size + 1, 0, none⟩, 1⟩
theorem wake_lists (w : World) (o : Obj) : Lists (((w.alloc (.cells wakeI 39)).alloc (.cells wakeF 41)).alloc o) wakeJ (wakeS w) := by
  have B1 := ((blk_new w wakeI 39).alloc (.cells wakeF 41)).alloc o
  have B2 := (blk_two w (.cells wakeI 39) wakeF 41).alloc o
  refine ⟨wakeJ_in, fun k j hk hj => ?_, ⟨fun _ => zeroH, ?_, fun k hk => absurd hk (Nat.not_lt_zero k)⟩, fun k j hk hj => ?_, (show 2 ≤ 2 ∧ 2 ≤ maxLen by decide), (show 0 ≤ 0 ∧ 0 ≤ maxLen by decide), (show 1 ≤ 1 ∧ 1 ≤ maxLen by decide)⟩
  · refine ⟨w.heap.size, 0, rfl, B1.lt, ?_⟩
    rw [B1.cell, Nat.zero_add]
    have hk' : k < 2 := hk
    rcases (show k = 0 ∨ k = 1 by omega) with rfl | rfl <;> rcases (show j = 0 ∨ j = 1 ∨ j = 2 ∨ j = 3 ∨ j = 4 ∨ j = 5 ∨ j = 6 by omega) with rfl | rfl | rfl | rfl | rfl | rfl | rfl <;> rfl
  · intro k j hk hj
    exact absurd hk (Nat.not_lt_zero k)
  · refine ⟨w.heap.size + 1, 0, rfl, B2.lt, ?_⟩
    rw [B2.cell, Nat.zero_add]
    have hk' : k < 1 := hk
    obtain rfl : k = 0 := by omega
    rcases (show j = 0 ∨ j = 1 ∨ j = 2 by omega) with rfl | rfl | rfl <;> rfl
set_option maxHeartbeats 4000000 in
theorem awake14 (w : World) : Calls Try.prog 6 #[] w fun e w' => e = .returned (.bool true) ∧ Below w.heap.size w w' := by
  obtain ⟨g1, g2, g3, g4, g5, g6, g7, g8⟩ := wakeJ_facts
  have c1 := Lib.hid fun s w hL => snap_any wakeJ s w hL wakeJ_few.1
  have c2 := Lib.hid fun s w hL => (g1 ▸ on_any wakeJ s w hL wakeJ_few.1 : Calls Try.prog 10 #[.agg (jobC wakeJ s)] w fun e w' => e = .returned (.bool false) ∧ Below w.heap.size w w')
  have c3 := Lib.hid fun s w hL => (g2 ▸ on_any (snapJ wakeJ) s w hL wakeJ_few.2 : Calls Try.prog 10 #[.agg (jobC (snapJ wakeJ) s)] w fun e w' => e = .returned (.bool true) ∧ Below w.heap.size w w')
  have c4 := Lib.hid fun w => (g8 ▸ gnear_any 2 6 w (by decide) (by decide) : Calls Try.prog 14 #[.int .i64 2, .int .i64 6] w fun e w' => e = .returned (.int .i64 0) ∧ w = w')
  have HG := Lib.hid (And.intro g3 (And.intro g4 (And.intro g5 (And.intro g6 g7))))
  clear g1 g2 g3 g4 g5 g6 g7 g8
  go_enter Try.func6, Try.ntmps6
  go_upto_region 1 with (fail)
  refine wp_region_lit ?_
  refine aw_build rfl 24 _ rfl (geoC wakeJ.g) (by kernel_rfl) ?_
  simp only [Act.put, List.getElem_toArray, List.getElem_cons_succ, List.getElem_cons_zero, List.setIfInBounds_toArray, List.set_cons_zero, List.set_cons_succ]
  refine aw_build rfl 39 _ rfl #[.int .i64 1, .int .i64 7, .int .i64 0, .int .i64 0, .int .i64 0, .int .i64 0, .int .i64 0] (by kernel_rfl) ?_
  simp only [Act.put, List.getElem_toArray, List.getElem_cons_succ, List.getElem_cons_zero, List.setIfInBounds_toArray, List.set_cons_zero, List.set_cons_succ]
  refine aw_build rfl 39 _ rfl #[.int .i64 2, .int .i64 3, .int .i64 0, .int .i64 2, .int .i64 0, .int .i64 0, .int .i64 0] (by kernel_rfl) ?_
  simp only [Act.put, List.getElem_toArray, List.getElem_cons_succ, List.getElem_cons_zero, List.setIfInBounds_toArray, List.set_cons_zero, List.set_cons_succ]
  refine aw_val rfl (exec_buildI _ _ (.tmp 4) (.tmp 5) rfl rfl rfl w) ?_
  simp only [Act.put, List.getElem_toArray, List.getElem_cons_succ, List.getElem_cons_zero, List.setIfInBounds_toArray, List.set_cons_zero, List.set_cons_succ]
  refine aw_build rfl 41 _ rfl #[.int .i64 0, .int .i64 1, .int .i64 0] (by kernel_rfl) ?_
  simp only [Act.put, List.getElem_toArray, List.getElem_cons_succ, List.getElem_cons_zero, List.setIfInBounds_toArray, List.set_cons_zero, List.set_cons_succ]
  refine aw_val rfl (exec_buildF _ _ (.tmp 7) rfl rfl _) ?_
  simp only [Act.put, List.getElem_toArray, List.getElem_cons_succ, List.getElem_cons_zero, List.setIfInBounds_toArray, List.set_cons_zero, List.set_cons_succ]
  refine aw_build rfl 29 _ rfl (jobC wakeJ (wakeS w)) (by rw [World.size_alloc]; kernel_rfl) ?_
  simp only [Act.put, List.getElem_toArray, List.getElem_cons_succ, List.getElem_cons_zero, List.setIfInBounds_toArray, List.set_cons_zero, List.set_cons_succ]
  refine make_job (j := wakeJ) (s := (wakeS w)) rfl rfl rfl (.tmp 1) (.tmp 9) rfl rfl rfl ?_
  simp only [Act.put, List.getElem_toArray, List.getElem_cons_succ, List.getElem_cons_zero, List.setIfInBounds_toArray, List.set_cons_zero, List.set_cons_succ]
  have hL := wake_lists w (.cells (jobC wakeJ (wakeS w)) 29)
  have D := job_new ((w.alloc (.cells wakeI 39)).alloc (.cells wakeF 41)) wakeJ (wakeS w)
  have b0 := tbel3 w (.cells wakeI 39) (.cells wakeF 41) (.cells (jobC wakeJ (wakeS w)) 29)
  go_upto_region 2 with (fail)
  generalize ((w.alloc (.cells wakeI 39)).alloc (.cells wakeF 41)).heap.size = q at *
  generalize ((w.alloc _).alloc _).alloc _ = W at *
  generalize wakeS w = s0 at *
  refine wp_region_lit ?_
  refine wpl_load_job rfl (.tmp 1) rfl rfl D ?_
  simp only [Act.put, List.getElem_toArray, List.getElem_cons_succ, List.getElem_cons_zero, List.setIfInBounds_toArray, List.set_cons_zero, List.set_cons_succ]
  refine wpl_call (V := fun v y => ∃ s', v = .agg (jobC (snapJ wakeJ) s') ∧ Lists y (snapJ wakeJ) s' ∧ Below W.heap.size W y) rfl (by kernel_rfl) ((c1.out s0 W hL).mono fun e y h => by obtain ⟨s', r1, r2, r3⟩ := h; exact ⟨_, r1, s', rfl, r2, r3⟩) ?_
  rintro v w1 ⟨s1, rfl, hL1, b1⟩
  simp only [Act.put, List.getElem_toArray, List.getElem_cons_succ, List.getElem_cons_zero, List.setIfInBounds_toArray, List.set_cons_zero, List.set_cons_succ]
  refine make_job (j := snapJ wakeJ) (s := s1) rfl rfl rfl (.tmp 2) (.tmp 11) rfl rfl rfl ?_
  simp only [Act.put, List.getElem_toArray, List.getElem_cons_succ, List.getElem_cons_zero, List.setIfInBounds_toArray, List.set_cons_zero, List.set_cons_succ]
  have bw := tstep b0 (tstep b1 (tbel1 w1 (.cells (jobC (snapJ wakeJ) s1) 29)) b1.size) b0.size
  have D1 := (D.old b1).old (tbel1 w1 (.cells (jobC (snapJ wakeJ) s1) 29))
  have D2 := job_new w1 (snapJ wakeJ) s1
  have hL0 := (hL.carry b1).carry (tbel1 w1 (.cells (jobC (snapJ wakeJ) s1) 29))
  replace hL1 := hL1.carry (tbel1 w1 (.cells (jobC (snapJ wakeJ) s1) 29))
  clear D hL b0 b1 c1
  go_upto_region 3 with (fail)
  generalize w1.heap.size = q2 at *
  generalize w1.alloc _ = W1 at *
  obtain ⟨b, off, hia, hB, p0, p1, _⟩ := els7 hL1.items (show 0 < (snapJ wakeJ).items.length by decide)
  obtain ⟨b', off', hia', _, r0, r1, _⟩ := els7 hL1.items (show 1 < (snapJ wakeJ).items.length by decide)
  rw [hia] at hia'
  cases hia'
  obtain ⟨b3, off3, hfa, hB3, f0, f1, _⟩ := els3 hL1.floats (show 0 < (snapJ wakeJ).floats.length by decide)
  have hg := D2.geo
  obtain ⟨_, _, _, h3, h4, _⟩ := hg
  obtain ⟨t19, _, t21⟩ := D2.three
  obtain ⟨g3, g4, g5, g6, g7⟩ := HG.out
  rw [g3] at h3
  rw [g4] at h4
  rw [g5] at p1
  rw [g6] at r1
  rw [g7] at f1
  rw [hia] at t19
  rw [hfa] at t21
  rw [show (snapJ wakeJ).items.length = 2 by decide] at t19
  rw [show (snapJ wakeJ).floats.length = 1 by decide] at t21
  simp only [Nat.zero_mul, Nat.one_mul, Nat.add_zero] at p1 r1 f1
  have hb1 : b < W1.heap.size := hB
  have CE := Lib.hid fun x (hx : Old W1 x) => And.intro ((Blk.cell (D2.old hx) 3).trans ((Blk.cell D2 3).symm.trans h3)) (And.intro ((Blk.cell (D2.old hx) 4).trans ((Blk.cell D2 4).symm.trans h4)) (And.intro ((Blk.cell (D2.old hx) 19).trans ((Blk.cell D2 19).symm.trans t19)) (And.intro ((Blk.cell (D2.old hx) 21).trans ((Blk.cell D2 21).symm.trans t21)) (And.intro ((hx.cell (p := ⟨b, off + 1, none⟩) hB).trans p1) (And.intro ((hx.cell (p := ⟨b, off + 7 + 1, none⟩) hB).trans r1) ((hx.cell (p := ⟨b3, off3 + 1, none⟩) hB3).trans f1))))))
  clear h3 h4 t19 t21 p0 p1 r0 r1 f0 f1 hia hfa
  (refine wp_region_plain (Old W1) 47 (Below.refl _ W1) ?_; simp only [List.take_succ_cons, List.take_zero, List.drop_succ_cons, List.drop_zero])
  (refine Text.val (fun x hx => load_job (.tmp 1) rfl rfl (D1.old hx)) (by kernel_rfl) ?_; simp only [Act.put, List.getElem_toArray, List.getElem_cons_succ, List.getElem_cons_zero, List.setIfInBounds_toArray, List.set_cons_zero, List.set_cons_succ])
  (refine Text.call (Old.call fun x hx => c2.out s0 x (hL0.carry hx)) (by kernel_rfl) (fun _ => by kernel_rfl) ?_; simp only [Act.put, List.getElem_toArray, List.getElem_cons_succ, List.getElem_cons_zero, List.setIfInBounds_toArray, List.set_cons_zero, List.set_cons_succ])
  repeat (first | (apply Text.sees (hw := by kernel_rfl); (focus (intro x hx K hK; have hc := CE.out x hx; go_simp; exact hK)); simp only [Act.put, List.getElem_toArray, List.getElem_cons_succ, List.getElem_cons_zero, List.setIfInBounds_toArray, List.set_cons_zero, List.set_cons_succ]) | (apply Text.idle; (focus (intro x hx K hK; go_simp; exact hK)); simp only [Act.put, List.getElem_toArray, List.getElem_cons_succ, List.getElem_cons_zero, List.setIfInBounds_toArray, List.set_cons_zero, List.set_cons_succ]))
  (refine Text.val (fun x hx => load_job (.tmp 2) rfl rfl (D2.old hx)) (by kernel_rfl) ?_; simp only [Act.put, List.getElem_toArray, List.getElem_cons_succ, List.getElem_cons_zero, List.setIfInBounds_toArray, List.set_cons_zero, List.set_cons_succ])
  (refine Text.call (Old.call fun x hx => c3.out s1 x (hL1.carry hx)) (by kernel_rfl) (fun _ => by kernel_rfl) ?_; simp only [Act.put, List.getElem_toArray, List.getElem_cons_succ, List.getElem_cons_zero, List.setIfInBounds_toArray, List.set_cons_zero, List.set_cons_succ])
  repeat (first | (apply Text.sees (hw := by kernel_rfl); (focus (intro x hx K hK; have hc := CE.out x hx; go_simp; exact hK)); simp only [Act.put, List.getElem_toArray, List.getElem_cons_succ, List.getElem_cons_zero, List.setIfInBounds_toArray, List.set_cons_zero, List.set_cons_succ]) | (apply Text.idle; (focus (intro x hx K hK; go_simp; exact hK)); simp only [Act.put, List.getElem_toArray, List.getElem_cons_succ, List.getElem_cons_zero, List.setIfInBounds_toArray, List.set_cons_zero, List.set_cons_succ]))
  (refine Text.call (fun x hx => (c4.out x).mono fun e y h => ⟨h.1, h.2 ▸ hx⟩) (by kernel_rfl) (fun _ => by kernel_rfl) ?_; simp only [Act.put, List.getElem_toArray, List.getElem_cons_succ, List.getElem_cons_zero, List.setIfInBounds_toArray, List.set_cons_zero, List.set_cons_succ])
  repeat (first | (apply Text.sees (hw := by kernel_rfl); (focus (intro x hx K hK; have hc := CE.out x hx; go_simp; exact hK)); simp only [Act.put, List.getElem_toArray, List.getElem_cons_succ, List.getElem_cons_zero, List.setIfInBounds_toArray, List.set_cons_zero, List.set_cons_succ]) | (apply Text.idle; (focus (intro x hx K hK; go_simp; exact hK)); simp only [Act.put, List.getElem_toArray, List.getElem_cons_succ, List.getElem_cons_zero, List.setIfInBounds_toArray, List.set_cons_zero, List.set_cons_succ]))
  intro x hx
  go_wp2
  go_ret
  exact ⟨rfl, tstep bw hx bw.size⟩
end Go.Proofs.Ytllpimhjpfkgpaa
