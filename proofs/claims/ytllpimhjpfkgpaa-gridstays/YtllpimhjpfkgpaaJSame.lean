/- Same of package grid, and the document's. The document's Same. -/
import Derived.Test.YtllpimhjpfkgpaaJSm
namespace Go.Proofs.Ytllpimhjpfkgpaa
open Go.RowKit
set_option maxRecDepth 20000
set_option linter.unusedVariables false
set_option linter.unusedSimpArgs false

theorem exec_eql_G {o : Oper} {a : Act} (x y : Operand) (ho : o.op = .binOp .eql 24 x y 24) {g h : G19} (hx : a.eval x = .agg (geoC g)) (hy : a.eval y = .agg (geoC h)) (w : World) :
    (execOp a.eval o).run Try.prog w = .ok (.value (.bool (isB (g = h)))) w := by
  have e : Sem.run Try.prog (eqGuard BinOp.eql 24 x y (.agg (geoC g)) (.agg (geoC h))) w = .ok () w := by
    unfold geoC
    simp [go_sem]
  unfold execOp
  simp only [ho, hx, hy, Sem.run_bind, Sem.run_pure, e, Result.andThen_ok, run_eql_G]
theorem Few.short {j : J4} (h : Few j) : Short j.notes := fun k => ⟨by have := (h.2.2.2 k).1; omega, by have := (h.2.2.2 k).2; omega⟩
theorem sameJ_1 {a b : J4} (h : isB (a.g = b.g) = false) : sameJ a b = false := by unfold sameJ; rw [h]; rfl
theorem sameJ_2 {a b : J4} (h : isB (a.items = b.items) = false) : sameJ a b = false := by unfold sameJ; rw [h]; simp
theorem sameJ_3 {a b : J4} (h : isB (a.notes = b.notes) = false) : sameJ a b = false := by unfold sameJ; rw [h]; simp
set_option maxHeartbeats 2000000 in
theorem same_any (a b : J4) (s t : S3) (w : World) (hA : Lists w a s) (hB : Lists w b t) (fa : Few a) (fb : Few b) :
    Calls Try.prog 12 #[.agg (jobC a s), .agg (jobC b t)] w fun e w' => e = .returned (.bool (sameJ a b)) ∧ Below w.heap.size w w' := by
  have DA : JobAt ((w.alloc (.cells (jobC a s) 29)).alloc (.cells (jobC b t) 29)) w.heap.size a s := (job_new w a s).old (tbel1 _ _)
  have DB : JobAt ((w.alloc (.cells (jobC a s) 29)).alloc (.cells (jobC b t) 29)) (w.heap.size + 1) b t := blk_two w _ _ _
  have b0 := tbel2 w (.cells (jobC a s) 29) (.cells (jobC b t) 29)
  obtain ⟨a1, a2, a3, a4⟩ := id fa
  obtain ⟨b1, b2, b3, b4⟩ := id fb
  have c1 := Lib.hid fun x (hx : Below w.heap.size w x) => equal_I s.ia t.ia s.ic t.ic a.items b.items x (by omega) (by omega) (hA.items.carry hx) (hB.items.carry hx)
  have c2 := Lib.hid fun x (hx : Below w.heap.size w x) => equal_N s.na t.na s.nc t.nc a.notes b.notes x (by omega) (by omega) fa.short fb.short (hA.notes.carry hx) (hB.notes.carry hx)
  have c3 := Lib.hid fun x (hx : Below w.heap.size w x) => equal_F s.fa t.fa s.fc t.fc a.floats b.floats x (by omega) (by omega) (hA.floats.carry hx) (hB.floats.carry hx)
  have HS : Hid (sameJ a b = (isB (a.g = b.g) && isB (a.items = b.items) && isB (a.notes = b.notes) && isB (a.floats = b.floats))) := Lib.hid rfl
  clear hA hB fa fb a1 a2 a3 a4 b1 b2 b3 b4
  have E1 := fun (o : Oper) (act : Act) (x y : Operand) (ho : o.op = .binOp .eql 24 x y 24) (hx : act.eval x = .agg (geoC a.g)) (hy : act.eval y = .agg (geoC b.g)) => exec_eql_G x y ho hx hy
  generalize isB (a.g = b.g) = r1 at *
  generalize isB (a.items = b.items) = r2 at *
  generalize isB (a.notes = b.notes) = r3 at *
  generalize isB (a.floats = b.floats) = r4 at *
  generalize sameJ a b = r at *
  have HE := Lib.hid E1
  clear E1
  cases r1
  · have e := HS.out
    simp only [Bool.false_and] at e
    subst e
    go_enter Try.func12, Try.ntmps12
    go_upto_region 1 with (fail)
    change Code.wp _ _ _ _ ((w.alloc (.cells (jobC a s) 29)).alloc (.cells (jobC b t) 29))
    generalize (w.alloc _).alloc _ = U at *
    have CE := Lib.hid fun x (hx : Old U x) => And.intro (DA.old hx).three (DB.old hx).three
    (refine wp_region_plain (Old U) 26 (Below.refl _ U) ?_; simp only [List.take_succ_cons, List.take_zero, List.drop_succ_cons, List.drop_zero])
    repeat (first | (apply Text.sees (hw := by kernel_rfl); (focus (intro x hx K hK; have hc := CE.out x hx; go_simp; exact hK)); simp only [Act.put, List.getElem_toArray, List.getElem_cons_succ, List.getElem_cons_zero, List.setIfInBounds_toArray, List.set_cons_zero, List.set_cons_succ]) | (apply Text.idle; (focus (intro x hx K hK; go_simp; exact hK)); simp only [Act.put, List.getElem_toArray, List.getElem_cons_succ, List.getElem_cons_zero, List.setIfInBounds_toArray, List.set_cons_zero, List.set_cons_succ]))
    (refine Text.val (fun x hx => load_jgeo (.tmp 5) rfl rfl (DA.old hx)) (by kernel_rfl) ?_; simp only [Act.put, List.getElem_toArray, List.getElem_cons_succ, List.getElem_cons_zero, List.setIfInBounds_toArray, List.set_cons_zero, List.set_cons_succ])
    repeat (first | (apply Text.sees (hw := by kernel_rfl); (focus (intro x hx K hK; have hc := CE.out x hx; go_simp; exact hK)); simp only [Act.put, List.getElem_toArray, List.getElem_cons_succ, List.getElem_cons_zero, List.setIfInBounds_toArray, List.set_cons_zero, List.set_cons_succ]) | (apply Text.idle; (focus (intro x hx K hK; go_simp; exact hK)); simp only [Act.put, List.getElem_toArray, List.getElem_cons_succ, List.getElem_cons_zero, List.setIfInBounds_toArray, List.set_cons_zero, List.set_cons_succ]))
    (refine Text.val (fun x hx => load_jgeo (.tmp 7) rfl rfl (DB.old hx)) (by kernel_rfl) ?_; simp only [Act.put, List.getElem_toArray, List.getElem_cons_succ, List.getElem_cons_zero, List.setIfInBounds_toArray, List.set_cons_zero, List.set_cons_succ])
    (refine Text.val (fun x hx => HE.out _ _ (.tmp 6) (.tmp 8) rfl rfl rfl x) (by kernel_rfl) ?_; simp only [Act.put, List.getElem_toArray, List.getElem_cons_succ, List.getElem_cons_zero, List.setIfInBounds_toArray, List.set_cons_zero, List.set_cons_succ])
    repeat (first | (apply Text.sees (hw := by kernel_rfl); (focus (intro x hx K hK; have hc := CE.out x hx; go_simp; exact hK)); simp only [Act.put, List.getElem_toArray, List.getElem_cons_succ, List.getElem_cons_zero, List.setIfInBounds_toArray, List.set_cons_zero, List.set_cons_succ]) | (apply Text.idle; (focus (intro x hx K hK; go_simp; exact hK)); simp only [Act.put, List.getElem_toArray, List.getElem_cons_succ, List.getElem_cons_zero, List.setIfInBounds_toArray, List.set_cons_zero, List.set_cons_succ]))
    intro x hx
    go_wp2
    go_ret
    exact ⟨rfl, tstep b0 hx b0.size⟩
  · cases r2
    · have e := HS.out
      simp only [Bool.true_and, Bool.false_and] at e
      subst e
      go_enter Try.func12, Try.ntmps12
      go_upto_region 1 with (fail)
      change Code.wp _ _ _ _ ((w.alloc (.cells (jobC a s) 29)).alloc (.cells (jobC b t) 29))
      generalize (w.alloc _).alloc _ = U at *
      have CE := Lib.hid fun x (hx : Old U x) => And.intro (DA.old hx).three (DB.old hx).three
      (refine wp_region_plain (Old U) 26 (Below.refl _ U) ?_; simp only [List.take_succ_cons, List.take_zero, List.drop_succ_cons, List.drop_zero])
      repeat (first | (apply Text.sees (hw := by kernel_rfl); (focus (intro x hx K hK; have hc := CE.out x hx; go_simp; exact hK)); simp only [Act.put, List.getElem_toArray, List.getElem_cons_succ, List.getElem_cons_zero, List.setIfInBounds_toArray, List.set_cons_zero, List.set_cons_succ]) | (apply Text.idle; (focus (intro x hx K hK; go_simp; exact hK)); simp only [Act.put, List.getElem_toArray, List.getElem_cons_succ, List.getElem_cons_zero, List.setIfInBounds_toArray, List.set_cons_zero, List.set_cons_succ]))
      (refine Text.val (fun x hx => load_jgeo (.tmp 5) rfl rfl (DA.old hx)) (by kernel_rfl) ?_; simp only [Act.put, List.getElem_toArray, List.getElem_cons_succ, List.getElem_cons_zero, List.setIfInBounds_toArray, List.set_cons_zero, List.set_cons_succ])
      repeat (first | (apply Text.sees (hw := by kernel_rfl); (focus (intro x hx K hK; have hc := CE.out x hx; go_simp; exact hK)); simp only [Act.put, List.getElem_toArray, List.getElem_cons_succ, List.getElem_cons_zero, List.setIfInBounds_toArray, List.set_cons_zero, List.set_cons_succ]) | (apply Text.idle; (focus (intro x hx K hK; go_simp; exact hK)); simp only [Act.put, List.getElem_toArray, List.getElem_cons_succ, List.getElem_cons_zero, List.setIfInBounds_toArray, List.set_cons_zero, List.set_cons_succ]))
      (refine Text.val (fun x hx => load_jgeo (.tmp 7) rfl rfl (DB.old hx)) (by kernel_rfl) ?_; simp only [Act.put, List.getElem_toArray, List.getElem_cons_succ, List.getElem_cons_zero, List.setIfInBounds_toArray, List.set_cons_zero, List.set_cons_succ])
      (refine Text.val (fun x hx => HE.out _ _ (.tmp 6) (.tmp 8) rfl rfl rfl x) (by kernel_rfl) ?_; simp only [Act.put, List.getElem_toArray, List.getElem_cons_succ, List.getElem_cons_zero, List.setIfInBounds_toArray, List.set_cons_zero, List.set_cons_succ])
      repeat (first | (apply Text.sees (hw := by kernel_rfl); (focus (intro x hx K hK; have hc := CE.out x hx; go_simp; exact hK)); simp only [Act.put, List.getElem_toArray, List.getElem_cons_succ, List.getElem_cons_zero, List.setIfInBounds_toArray, List.set_cons_zero, List.set_cons_succ]) | (apply Text.idle; (focus (intro x hx K hK; go_simp; exact hK)); simp only [Act.put, List.getElem_toArray, List.getElem_cons_succ, List.getElem_cons_zero, List.setIfInBounds_toArray, List.set_cons_zero, List.set_cons_succ]))
      (refine Text.call (Old.call fun x hx => c1.out x (tstep b0 hx b0.size)) (by kernel_rfl) (fun _ => by kernel_rfl) ?_; simp only [Act.put, List.getElem_toArray, List.getElem_cons_succ, List.getElem_cons_zero, List.setIfInBounds_toArray, List.set_cons_zero, List.set_cons_succ])
      repeat (first | (apply Text.sees (hw := by kernel_rfl); (focus (intro x hx K hK; have hc := CE.out x hx; go_simp; exact hK)); simp only [Act.put, List.getElem_toArray, List.getElem_cons_succ, List.getElem_cons_zero, List.setIfInBounds_toArray, List.set_cons_zero, List.set_cons_succ]) | (apply Text.idle; (focus (intro x hx K hK; go_simp; exact hK)); simp only [Act.put, List.getElem_toArray, List.getElem_cons_succ, List.getElem_cons_zero, List.setIfInBounds_toArray, List.set_cons_zero, List.set_cons_succ]))
      intro x hx
      go_wp2
      go_ret
      exact ⟨rfl, tstep b0 hx b0.size⟩
    · cases r3
      · have e := HS.out
        simp only [Bool.true_and, Bool.false_and] at e
        subst e
        go_enter Try.func12, Try.ntmps12
        go_upto_region 1 with (fail)
        change Code.wp _ _ _ _ ((w.alloc (.cells (jobC a s) 29)).alloc (.cells (jobC b t) 29))
        generalize (w.alloc _).alloc _ = U at *
        have CE := Lib.hid fun x (hx : Old U x) => And.intro (DA.old hx).three (DB.old hx).three
        (refine wp_region_plain (Old U) 26 (Below.refl _ U) ?_; simp only [List.take_succ_cons, List.take_zero, List.drop_succ_cons, List.drop_zero])
        repeat (first | (apply Text.sees (hw := by kernel_rfl); (focus (intro x hx K hK; have hc := CE.out x hx; go_simp; exact hK)); simp only [Act.put, List.getElem_toArray, List.getElem_cons_succ, List.getElem_cons_zero, List.setIfInBounds_toArray, List.set_cons_zero, List.set_cons_succ]) | (apply Text.idle; (focus (intro x hx K hK; go_simp; exact hK)); simp only [Act.put, List.getElem_toArray, List.getElem_cons_succ, List.getElem_cons_zero, List.setIfInBounds_toArray, List.set_cons_zero, List.set_cons_succ]))
        (refine Text.val (fun x hx => load_jgeo (.tmp 5) rfl rfl (DA.old hx)) (by kernel_rfl) ?_; simp only [Act.put, List.getElem_toArray, List.getElem_cons_succ, List.getElem_cons_zero, List.setIfInBounds_toArray, List.set_cons_zero, List.set_cons_succ])
        repeat (first | (apply Text.sees (hw := by kernel_rfl); (focus (intro x hx K hK; have hc := CE.out x hx; go_simp; exact hK)); simp only [Act.put, List.getElem_toArray, List.getElem_cons_succ, List.getElem_cons_zero, List.setIfInBounds_toArray, List.set_cons_zero, List.set_cons_succ]) | (apply Text.idle; (focus (intro x hx K hK; go_simp; exact hK)); simp only [Act.put, List.getElem_toArray, List.getElem_cons_succ, List.getElem_cons_zero, List.setIfInBounds_toArray, List.set_cons_zero, List.set_cons_succ]))
        (refine Text.val (fun x hx => load_jgeo (.tmp 7) rfl rfl (DB.old hx)) (by kernel_rfl) ?_; simp only [Act.put, List.getElem_toArray, List.getElem_cons_succ, List.getElem_cons_zero, List.setIfInBounds_toArray, List.set_cons_zero, List.set_cons_succ])
        (refine Text.val (fun x hx => HE.out _ _ (.tmp 6) (.tmp 8) rfl rfl rfl x) (by kernel_rfl) ?_; simp only [Act.put, List.getElem_toArray, List.getElem_cons_succ, List.getElem_cons_zero, List.setIfInBounds_toArray, List.set_cons_zero, List.set_cons_succ])
        repeat (first | (apply Text.sees (hw := by kernel_rfl); (focus (intro x hx K hK; have hc := CE.out x hx; go_simp; exact hK)); simp only [Act.put, List.getElem_toArray, List.getElem_cons_succ, List.getElem_cons_zero, List.setIfInBounds_toArray, List.set_cons_zero, List.set_cons_succ]) | (apply Text.idle; (focus (intro x hx K hK; go_simp; exact hK)); simp only [Act.put, List.getElem_toArray, List.getElem_cons_succ, List.getElem_cons_zero, List.setIfInBounds_toArray, List.set_cons_zero, List.set_cons_succ]))
        (refine Text.call (Old.call fun x hx => c1.out x (tstep b0 hx b0.size)) (by kernel_rfl) (fun _ => by kernel_rfl) ?_; simp only [Act.put, List.getElem_toArray, List.getElem_cons_succ, List.getElem_cons_zero, List.setIfInBounds_toArray, List.set_cons_zero, List.set_cons_succ])
        repeat (first | (apply Text.sees (hw := by kernel_rfl); (focus (intro x hx K hK; have hc := CE.out x hx; go_simp; exact hK)); simp only [Act.put, List.getElem_toArray, List.getElem_cons_succ, List.getElem_cons_zero, List.setIfInBounds_toArray, List.set_cons_zero, List.set_cons_succ]) | (apply Text.idle; (focus (intro x hx K hK; go_simp; exact hK)); simp only [Act.put, List.getElem_toArray, List.getElem_cons_succ, List.getElem_cons_zero, List.setIfInBounds_toArray, List.set_cons_zero, List.set_cons_succ]))
        (refine Text.call (Old.call fun x hx => c2.out x (tstep b0 hx b0.size)) (by kernel_rfl) (fun _ => by kernel_rfl) ?_; simp only [Act.put, List.getElem_toArray, List.getElem_cons_succ, List.getElem_cons_zero, List.setIfInBounds_toArray, List.set_cons_zero, List.set_cons_succ])
        repeat (first | (apply Text.sees (hw := by kernel_rfl); (focus (intro x hx K hK; have hc := CE.out x hx; go_simp; exact hK)); simp only [Act.put, List.getElem_toArray, List.getElem_cons_succ, List.getElem_cons_zero, List.setIfInBounds_toArray, List.set_cons_zero, List.set_cons_succ]) | (apply Text.idle; (focus (intro x hx K hK; go_simp; exact hK)); simp only [Act.put, List.getElem_toArray, List.getElem_cons_succ, List.getElem_cons_zero, List.setIfInBounds_toArray, List.set_cons_zero, List.set_cons_succ]))
        intro x hx
        go_wp2
        go_ret
        exact ⟨rfl, tstep b0 hx b0.size⟩
      · have e := HS.out
        simp only [Bool.true_and] at e
        subst e
        go_enter Try.func12, Try.ntmps12
        go_upto_region 1 with (fail)
        change Code.wp _ _ _ _ ((w.alloc (.cells (jobC a s) 29)).alloc (.cells (jobC b t) 29))
        generalize (w.alloc _).alloc _ = U at *
        have CE := Lib.hid fun x (hx : Old U x) => And.intro (DA.old hx).three (DB.old hx).three
        (refine wp_region_plain (Old U) 26 (Below.refl _ U) ?_; simp only [List.take_succ_cons, List.take_zero, List.drop_succ_cons, List.drop_zero])
        repeat (first | (apply Text.sees (hw := by kernel_rfl); (focus (intro x hx K hK; have hc := CE.out x hx; go_simp; exact hK)); simp only [Act.put, List.getElem_toArray, List.getElem_cons_succ, List.getElem_cons_zero, List.setIfInBounds_toArray, List.set_cons_zero, List.set_cons_succ]) | (apply Text.idle; (focus (intro x hx K hK; go_simp; exact hK)); simp only [Act.put, List.getElem_toArray, List.getElem_cons_succ, List.getElem_cons_zero, List.setIfInBounds_toArray, List.set_cons_zero, List.set_cons_succ]))
        (refine Text.val (fun x hx => load_jgeo (.tmp 5) rfl rfl (DA.old hx)) (by kernel_rfl) ?_; simp only [Act.put, List.getElem_toArray, List.getElem_cons_succ, List.getElem_cons_zero, List.setIfInBounds_toArray, List.set_cons_zero, List.set_cons_succ])
        repeat (first | (apply Text.sees (hw := by kernel_rfl); (focus (intro x hx K hK; have hc := CE.out x hx; go_simp; exact hK)); simp only [Act.put, List.getElem_toArray, List.getElem_cons_succ, List.getElem_cons_zero, List.setIfInBounds_toArray, List.set_cons_zero, List.set_cons_succ]) | (apply Text.idle; (focus (intro x hx K hK; go_simp; exact hK)); simp only [Act.put, List.getElem_toArray, List.getElem_cons_succ, List.getElem_cons_zero, List.setIfInBounds_toArray, List.set_cons_zero, List.set_cons_succ]))
        (refine Text.val (fun x hx => load_jgeo (.tmp 7) rfl rfl (DB.old hx)) (by kernel_rfl) ?_; simp only [Act.put, List.getElem_toArray, List.getElem_cons_succ, List.getElem_cons_zero, List.setIfInBounds_toArray, List.set_cons_zero, List.set_cons_succ])
        (refine Text.val (fun x hx => HE.out _ _ (.tmp 6) (.tmp 8) rfl rfl rfl x) (by kernel_rfl) ?_; simp only [Act.put, List.getElem_toArray, List.getElem_cons_succ, List.getElem_cons_zero, List.setIfInBounds_toArray, List.set_cons_zero, List.set_cons_succ])
        repeat (first | (apply Text.sees (hw := by kernel_rfl); (focus (intro x hx K hK; have hc := CE.out x hx; go_simp; exact hK)); simp only [Act.put, List.getElem_toArray, List.getElem_cons_succ, List.getElem_cons_zero, List.setIfInBounds_toArray, List.set_cons_zero, List.set_cons_succ]) | (apply Text.idle; (focus (intro x hx K hK; go_simp; exact hK)); simp only [Act.put, List.getElem_toArray, List.getElem_cons_succ, List.getElem_cons_zero, List.setIfInBounds_toArray, List.set_cons_zero, List.set_cons_succ]))
        (refine Text.call (Old.call fun x hx => c1.out x (tstep b0 hx b0.size)) (by kernel_rfl) (fun _ => by kernel_rfl) ?_; simp only [Act.put, List.getElem_toArray, List.getElem_cons_succ, List.getElem_cons_zero, List.setIfInBounds_toArray, List.set_cons_zero, List.set_cons_succ])
        repeat (first | (apply Text.sees (hw := by kernel_rfl); (focus (intro x hx K hK; have hc := CE.out x hx; go_simp; exact hK)); simp only [Act.put, List.getElem_toArray, List.getElem_cons_succ, List.getElem_cons_zero, List.setIfInBounds_toArray, List.set_cons_zero, List.set_cons_succ]) | (apply Text.idle; (focus (intro x hx K hK; go_simp; exact hK)); simp only [Act.put, List.getElem_toArray, List.getElem_cons_succ, List.getElem_cons_zero, List.setIfInBounds_toArray, List.set_cons_zero, List.set_cons_succ]))
        (refine Text.call (Old.call fun x hx => c2.out x (tstep b0 hx b0.size)) (by kernel_rfl) (fun _ => by kernel_rfl) ?_; simp only [Act.put, List.getElem_toArray, List.getElem_cons_succ, List.getElem_cons_zero, List.setIfInBounds_toArray, List.set_cons_zero, List.set_cons_succ])
        repeat (first | (apply Text.sees (hw := by kernel_rfl); (focus (intro x hx K hK; have hc := CE.out x hx; go_simp; exact hK)); simp only [Act.put, List.getElem_toArray, List.getElem_cons_succ, List.getElem_cons_zero, List.setIfInBounds_toArray, List.set_cons_zero, List.set_cons_succ]) | (apply Text.idle; (focus (intro x hx K hK; go_simp; exact hK)); simp only [Act.put, List.getElem_toArray, List.getElem_cons_succ, List.getElem_cons_zero, List.setIfInBounds_toArray, List.set_cons_zero, List.set_cons_succ]))
        (refine Text.call (Old.call fun x hx => c3.out x (tstep b0 hx b0.size)) (by kernel_rfl) (fun _ => by kernel_rfl) ?_; simp only [Act.put, List.getElem_toArray, List.getElem_cons_succ, List.getElem_cons_zero, List.setIfInBounds_toArray, List.set_cons_zero, List.set_cons_succ])
        repeat (first | (apply Text.sees (hw := by kernel_rfl); (focus (intro x hx K hK; have hc := CE.out x hx; go_simp; exact hK)); simp only [Act.put, List.getElem_toArray, List.getElem_cons_succ, List.getElem_cons_zero, List.setIfInBounds_toArray, List.set_cons_zero, List.set_cons_succ]) | (apply Text.idle; (focus (intro x hx K hK; go_simp; exact hK)); simp only [Act.put, List.getElem_toArray, List.getElem_cons_succ, List.getElem_cons_zero, List.setIfInBounds_toArray, List.set_cons_zero, List.set_cons_succ]))
        intro x hx
        go_wp2
        go_ret
        exact ⟨rfl, tstep b0 hx b0.size⟩
end Go.Proofs.Ytllpimhjpfkgpaa
namespace Go.Proofs.Ytllpimhjpfkgpaa
open Go.RowKit
set_option maxRecDepth 20000
set_option linter.unusedVariables false
set_option linter.unusedSimpArgs false

set_option maxHeartbeats 4000000 in
theorem rsame_any (a b : J4) (s t : S3) (w : World) (hA : Lists w a s) (hB : Lists w b t) (fa : Few a) (fb : Few b) :
    Calls Try.prog 7 #[.agg (jobC a s), .agg (jobC b t)] w fun e w' => e = .returned (.bool (sameJ a b)) ∧ Below w.heap.size w w' := by
  have DA : JobAt ((w.alloc (.cells (jobC a s) 29)).alloc (.cells (jobC b t) 29)) w.heap.size a s := (job_new w a s).old (tbel1 _ _)
  have DB : JobAt ((w.alloc (.cells (jobC a s) 29)).alloc (.cells (jobC b t) 29)) (w.heap.size + 1) b t := blk_two w _ _ _
  have b0 := tbel2 w (.cells (jobC a s) 29) (.cells (jobC b t) 29)
  obtain ⟨a1, a2, a3, a4⟩ := id fa
  obtain ⟨b1, b2, b3, b4⟩ := id fb
  have c2 := Lib.hid fun x (hx : Below w.heap.size w x) => rall_N s.na t.na s.nc t.nc a.notes b.notes x (by omega) (by omega) fa.short fb.short (hA.notes.carry hx) (hB.notes.carry hx)
  have c3 := Lib.hid fun x (hx : Below w.heap.size w x) => rsame_F s.fa t.fa s.fc t.fc a.floats b.floats x (by omega) (by omega) (hA.floats.carry hx) (hB.floats.carry hx)
  have HA := Lib.hid hA.items
  have HB := Lib.hid hB.items
  have HE := Lib.hid fun (o : Oper) (act : Act) (x y : Operand) (ho : o.op = .binOp .eql 24 x y 24) (hx : act.eval x = .agg (geoC a.g)) (hy : act.eval y = .agg (geoC b.g)) => exec_eql_G x y ho hx hy
  have hS : sameJ a b = (isB (a.items = b.items) && (isB (a.g = b.g) && isB (a.notes = b.notes) && isB (a.floats = b.floats))) := by
    unfold sameJ
    generalize isB (a.g = b.g) = r1
    generalize isB (a.items = b.items) = r2
    generalize isB (a.notes = b.notes) = r3
    generalize isB (a.floats = b.floats) = r4
    cases r1 <;> cases r2 <;> cases r3 <;> rfl
  rw [hS]
  clear hA hB fa fb a2 a3 a4 b2 b3 b4 hS
  obtain ⟨t19, t20, t21⟩ := DA.three
  obtain ⟨z19, z20, z21⟩ := DB.three
  rcases Nat.decEq a.items.length b.items.length with hne | heq
  · rw [show isB (a.items = b.items) = false from isB_no (fun h => hne (by rw [h])), Bool.false_and]
    go_enter Try.func7, Try.ntmps7
    go_upto_region 1 with (fail)
    change Code.wp _ _ _ _ ((w.alloc (.cells (jobC a s) 29)).alloc (.cells (jobC b t) 29))
    generalize (w.alloc _).alloc _ = U at *
    go_wp2_with fail
    go_ret
    exact ⟨rfl, b0⟩
  · have HQ := Lib.hid heq
    rw [← heq] at z19 HB
    clear heq b1
    obtain ⟨R, hR⟩ : ∃ R, R = (isB (a.g = b.g) && isB (a.notes = b.notes) && isB (a.floats = b.floats)) := ⟨_, rfl⟩
    rw [← hR]
    have HR := Lib.hid hR
    clear hR
    generalize isB (a.g = b.g) = r1 at *
    generalize isB (a.notes = b.notes) = r3 at *
    generalize isB (a.floats = b.floats) = r4 at *
    go_enter Try.func7, Try.ntmps7
    go_upto_region 1 with (fail)
    change Code.wp _ _ _ _ ((w.alloc (.cells (jobC a s) 29)).alloc (.cells (jobC b t) 29))
    generalize (w.alloc _).alloc _ = U at *
    go_wp2_with fail
    go_loopw [5] (fun i wr => ∃ k : Nat, k ≤ a.items.length ∧ i = .int .i64 k ∧ Below U.heap.size U wr ∧ Hid (∀ j, j < k → a.items.getD j zeroI = b.items.getD j zeroI)) (fun i _ => a.items.length - (intOf i).toNat)
    case atStart => exact ⟨0, Nat.zero_le _, rfl, Below.refl _ _, Lib.hid fun j hj => by omega⟩
    case round =>
      obtain ⟨k, hk, rfl, hbl, HP⟩ := hrel
      have bw := tstep b0 hbl b0.size
      have DA' := DA.old hbl
      have DB' := DB.old hbl
      clear t19 t20 t21 z19 z20 z21
      obtain ⟨t19, t20, t21⟩ := DA'.three
      obtain ⟨z19, z20, z21⟩ := DB'.three
      rw [← HQ.out] at z19
      by_cases hlt : k < a.items.length
      · obtain ⟨b1, o1, e1, hB1, p0, p1, p2, p3, p4, p5, p6⟩ := els7 (HA.out.carry bw) hlt
        obtain ⟨b2, o2, e2, hB2, q0, q1, q2, q3, q4, q5, q6⟩ := els7 (HB.out.carry bw) hlt
        rw [e1] at t19
        rw [e2] at z19
        have HS := Lib.hid (getD_snoc4 HP.out)
        have HN : Hid (¬ a.items.getD k zeroI = b.items.getD k zeroI → isB (a.items = b.items) = false) := Lib.hid fun h => isB_no fun e => h (by rw [e])
        clear e1 e2 DA' DB'
        generalize a.items.getD k zeroI = x at *
        generalize b.items.getD k zeroI = y at *
        have hxy := run_neq_I x y
        by_cases he : x = y
        · rw [isB_yes he] at hxy
          replace HS := Lib.hid (HS.out he)
          clear he HN
          go_wp2_with fail
          go_quiet (fail)
          go_wp2
          go_roundw
          case rel => exact ⟨k + 1, by omega, by go_num, ndrewN hbl _, HS⟩
          case measure => simp [intOf]; omega
        · rw [isB_no he] at hxy
          replace HN := Lib.hid (HN.out he)
          clear he HS
          go_wp2_with fail
          go_quiet (fail)
          go_wp2
          go_ret
          exact ⟨by rw [HN.out]; rfl, ndrewN bw _⟩
      · have HX : Hid (isB (a.items = b.items) = true) := Lib.hid (isB_yes (list_ext zeroI HQ.out fun j hj => HP.out j (by omega)))
        clear HP
        have CE := Lib.hid fun x (hx : Old wr x) => And.intro (DA'.old hx).three (DB'.old hx).three
        cases r1
        · have e := HR.out
          simp only [Bool.false_and] at e
          go_upto_region 8 with (fail)
          clear t19 t20 t21 z19 z20 z21
          (refine wp_region_plain (Old wr) 19 (Below.refl _ wr) ?_; simp only [List.take_succ_cons, List.take_zero, List.drop_succ_cons, List.drop_zero])
          repeat (first | (apply Text.sees (hw := by kernel_rfl); (focus (intro x hx K hK; have hc := CE.out x hx; go_simp; exact hK)); simp only [Act.put, List.getElem_toArray, List.getElem_cons_succ, List.getElem_cons_zero, List.setIfInBounds_toArray, List.set_cons_zero, List.set_cons_succ]) | (apply Text.idle; (focus (intro x hx K hK; go_simp; exact hK)); simp only [Act.put, List.getElem_toArray, List.getElem_cons_succ, List.getElem_cons_zero, List.setIfInBounds_toArray, List.set_cons_zero, List.set_cons_succ]))
          (refine Text.val (fun x hx => load_jgeo (.tmp 31) rfl rfl (DA'.old hx)) (by kernel_rfl) ?_; simp only [Act.put, List.getElem_toArray, List.getElem_cons_succ, List.getElem_cons_zero, List.setIfInBounds_toArray, List.set_cons_zero, List.set_cons_succ])
          repeat (first | (apply Text.sees (hw := by kernel_rfl); (focus (intro x hx K hK; have hc := CE.out x hx; go_simp; exact hK)); simp only [Act.put, List.getElem_toArray, List.getElem_cons_succ, List.getElem_cons_zero, List.setIfInBounds_toArray, List.set_cons_zero, List.set_cons_succ]) | (apply Text.idle; (focus (intro x hx K hK; go_simp; exact hK)); simp only [Act.put, List.getElem_toArray, List.getElem_cons_succ, List.getElem_cons_zero, List.setIfInBounds_toArray, List.set_cons_zero, List.set_cons_succ]))
          (refine Text.val (fun x hx => load_jgeo (.tmp 33) rfl rfl (DB'.old hx)) (by kernel_rfl) ?_; simp only [Act.put, List.getElem_toArray, List.getElem_cons_succ, List.getElem_cons_zero, List.setIfInBounds_toArray, List.set_cons_zero, List.set_cons_succ])
          (refine Text.val (fun x hx => HE.out _ _ (.tmp 32) (.tmp 34) rfl rfl rfl x) (by kernel_rfl) ?_; simp only [Act.put, List.getElem_toArray, List.getElem_cons_succ, List.getElem_cons_zero, List.setIfInBounds_toArray, List.set_cons_zero, List.set_cons_succ])
          repeat (first | (apply Text.sees (hw := by kernel_rfl); (focus (intro x hx K hK; have hc := CE.out x hx; go_simp; exact hK)); simp only [Act.put, List.getElem_toArray, List.getElem_cons_succ, List.getElem_cons_zero, List.setIfInBounds_toArray, List.set_cons_zero, List.set_cons_succ]) | (apply Text.idle; (focus (intro x hx K hK; go_simp; exact hK)); simp only [Act.put, List.getElem_toArray, List.getElem_cons_succ, List.getElem_cons_zero, List.setIfInBounds_toArray, List.set_cons_zero, List.set_cons_succ]))
          intro x hx
          go_wp2
          go_ret
          exact ⟨by rw [HX.out, e]; rfl, tstep bw hx bw.size⟩
        · cases r3
          · have e := HR.out
            simp only [Bool.true_and, Bool.false_and] at e
            go_upto_region 8 with (fail)
            clear t19 t20 t21 z19 z20 z21
            (refine wp_region_plain (Old wr) 19 (Below.refl _ wr) ?_; simp only [List.take_succ_cons, List.take_zero, List.drop_succ_cons, List.drop_zero])
            repeat (first | (apply Text.sees (hw := by kernel_rfl); (focus (intro x hx K hK; have hc := CE.out x hx; go_simp; exact hK)); simp only [Act.put, List.getElem_toArray, List.getElem_cons_succ, List.getElem_cons_zero, List.setIfInBounds_toArray, List.set_cons_zero, List.set_cons_succ]) | (apply Text.idle; (focus (intro x hx K hK; go_simp; exact hK)); simp only [Act.put, List.getElem_toArray, List.getElem_cons_succ, List.getElem_cons_zero, List.setIfInBounds_toArray, List.set_cons_zero, List.set_cons_succ]))
            (refine Text.val (fun x hx => load_jgeo (.tmp 31) rfl rfl (DA'.old hx)) (by kernel_rfl) ?_; simp only [Act.put, List.getElem_toArray, List.getElem_cons_succ, List.getElem_cons_zero, List.setIfInBounds_toArray, List.set_cons_zero, List.set_cons_succ])
            repeat (first | (apply Text.sees (hw := by kernel_rfl); (focus (intro x hx K hK; have hc := CE.out x hx; go_simp; exact hK)); simp only [Act.put, List.getElem_toArray, List.getElem_cons_succ, List.getElem_cons_zero, List.setIfInBounds_toArray, List.set_cons_zero, List.set_cons_succ]) | (apply Text.idle; (focus (intro x hx K hK; go_simp; exact hK)); simp only [Act.put, List.getElem_toArray, List.getElem_cons_succ, List.getElem_cons_zero, List.setIfInBounds_toArray, List.set_cons_zero, List.set_cons_succ]))
            (refine Text.val (fun x hx => load_jgeo (.tmp 33) rfl rfl (DB'.old hx)) (by kernel_rfl) ?_; simp only [Act.put, List.getElem_toArray, List.getElem_cons_succ, List.getElem_cons_zero, List.setIfInBounds_toArray, List.set_cons_zero, List.set_cons_succ])
            (refine Text.val (fun x hx => HE.out _ _ (.tmp 32) (.tmp 34) rfl rfl rfl x) (by kernel_rfl) ?_; simp only [Act.put, List.getElem_toArray, List.getElem_cons_succ, List.getElem_cons_zero, List.setIfInBounds_toArray, List.set_cons_zero, List.set_cons_succ])
            repeat (first | (apply Text.sees (hw := by kernel_rfl); (focus (intro x hx K hK; have hc := CE.out x hx; go_simp; exact hK)); simp only [Act.put, List.getElem_toArray, List.getElem_cons_succ, List.getElem_cons_zero, List.setIfInBounds_toArray, List.set_cons_zero, List.set_cons_succ]) | (apply Text.idle; (focus (intro x hx K hK; go_simp; exact hK)); simp only [Act.put, List.getElem_toArray, List.getElem_cons_succ, List.getElem_cons_zero, List.setIfInBounds_toArray, List.set_cons_zero, List.set_cons_succ]))
            (refine Text.call (Old.call fun x hx => c2.out x (tstep bw hx bw.size)) (by kernel_rfl) (fun _ => by kernel_rfl) ?_; simp only [Act.put, List.getElem_toArray, List.getElem_cons_succ, List.getElem_cons_zero, List.setIfInBounds_toArray, List.set_cons_zero, List.set_cons_succ])
            repeat (first | (apply Text.sees (hw := by kernel_rfl); (focus (intro x hx K hK; have hc := CE.out x hx; go_simp; exact hK)); simp only [Act.put, List.getElem_toArray, List.getElem_cons_succ, List.getElem_cons_zero, List.setIfInBounds_toArray, List.set_cons_zero, List.set_cons_succ]) | (apply Text.idle; (focus (intro x hx K hK; go_simp; exact hK)); simp only [Act.put, List.getElem_toArray, List.getElem_cons_succ, List.getElem_cons_zero, List.setIfInBounds_toArray, List.set_cons_zero, List.set_cons_succ]))
            intro x hx
            go_wp2
            go_ret
            exact ⟨by rw [HX.out, e]; rfl, tstep bw hx bw.size⟩
          · have e := HR.out
            simp only [Bool.true_and] at e
            go_upto_region 8 with (fail)
            clear t19 t20 t21 z19 z20 z21
            (refine wp_region_plain (Old wr) 19 (Below.refl _ wr) ?_; simp only [List.take_succ_cons, List.take_zero, List.drop_succ_cons, List.drop_zero])
            repeat (first | (apply Text.sees (hw := by kernel_rfl); (focus (intro x hx K hK; have hc := CE.out x hx; go_simp; exact hK)); simp only [Act.put, List.getElem_toArray, List.getElem_cons_succ, List.getElem_cons_zero, List.setIfInBounds_toArray, List.set_cons_zero, List.set_cons_succ]) | (apply Text.idle; (focus (intro x hx K hK; go_simp; exact hK)); simp only [Act.put, List.getElem_toArray, List.getElem_cons_succ, List.getElem_cons_zero, List.setIfInBounds_toArray, List.set_cons_zero, List.set_cons_succ]))
            (refine Text.val (fun x hx => load_jgeo (.tmp 31) rfl rfl (DA'.old hx)) (by kernel_rfl) ?_; simp only [Act.put, List.getElem_toArray, List.getElem_cons_succ, List.getElem_cons_zero, List.setIfInBounds_toArray, List.set_cons_zero, List.set_cons_succ])
            repeat (first | (apply Text.sees (hw := by kernel_rfl); (focus (intro x hx K hK; have hc := CE.out x hx; go_simp; exact hK)); simp only [Act.put, List.getElem_toArray, List.getElem_cons_succ, List.getElem_cons_zero, List.setIfInBounds_toArray, List.set_cons_zero, List.set_cons_succ]) | (apply Text.idle; (focus (intro x hx K hK; go_simp; exact hK)); simp only [Act.put, List.getElem_toArray, List.getElem_cons_succ, List.getElem_cons_zero, List.setIfInBounds_toArray, List.set_cons_zero, List.set_cons_succ]))
            (refine Text.val (fun x hx => load_jgeo (.tmp 33) rfl rfl (DB'.old hx)) (by kernel_rfl) ?_; simp only [Act.put, List.getElem_toArray, List.getElem_cons_succ, List.getElem_cons_zero, List.setIfInBounds_toArray, List.set_cons_zero, List.set_cons_succ])
            (refine Text.val (fun x hx => HE.out _ _ (.tmp 32) (.tmp 34) rfl rfl rfl x) (by kernel_rfl) ?_; simp only [Act.put, List.getElem_toArray, List.getElem_cons_succ, List.getElem_cons_zero, List.setIfInBounds_toArray, List.set_cons_zero, List.set_cons_succ])
            repeat (first | (apply Text.sees (hw := by kernel_rfl); (focus (intro x hx K hK; have hc := CE.out x hx; go_simp; exact hK)); simp only [Act.put, List.getElem_toArray, List.getElem_cons_succ, List.getElem_cons_zero, List.setIfInBounds_toArray, List.set_cons_zero, List.set_cons_succ]) | (apply Text.idle; (focus (intro x hx K hK; go_simp; exact hK)); simp only [Act.put, List.getElem_toArray, List.getElem_cons_succ, List.getElem_cons_zero, List.setIfInBounds_toArray, List.set_cons_zero, List.set_cons_succ]))
            (refine Text.call (Old.call fun x hx => c2.out x (tstep bw hx bw.size)) (by kernel_rfl) (fun _ => by kernel_rfl) ?_; simp only [Act.put, List.getElem_toArray, List.getElem_cons_succ, List.getElem_cons_zero, List.setIfInBounds_toArray, List.set_cons_zero, List.set_cons_succ])
            repeat (first | (apply Text.sees (hw := by kernel_rfl); (focus (intro x hx K hK; have hc := CE.out x hx; go_simp; exact hK)); simp only [Act.put, List.getElem_toArray, List.getElem_cons_succ, List.getElem_cons_zero, List.setIfInBounds_toArray, List.set_cons_zero, List.set_cons_succ]) | (apply Text.idle; (focus (intro x hx K hK; go_simp; exact hK)); simp only [Act.put, List.getElem_toArray, List.getElem_cons_succ, List.getElem_cons_zero, List.setIfInBounds_toArray, List.set_cons_zero, List.set_cons_succ]))
            (refine Text.call (Old.call fun x hx => c3.out x (tstep bw hx bw.size)) (by kernel_rfl) (fun _ => by kernel_rfl) ?_; simp only [Act.put, List.getElem_toArray, List.getElem_cons_succ, List.getElem_cons_zero, List.setIfInBounds_toArray, List.set_cons_zero, List.set_cons_succ])
            repeat (first | (apply Text.sees (hw := by kernel_rfl); (focus (intro x hx K hK; have hc := CE.out x hx; go_simp; exact hK)); simp only [Act.put, List.getElem_toArray, List.getElem_cons_succ, List.getElem_cons_zero, List.setIfInBounds_toArray, List.set_cons_zero, List.set_cons_succ]) | (apply Text.idle; (focus (intro x hx K hK; go_simp; exact hK)); simp only [Act.put, List.getElem_toArray, List.getElem_cons_succ, List.getElem_cons_zero, List.setIfInBounds_toArray, List.set_cons_zero, List.set_cons_succ]))
            intro x hx
            go_wp2
            go_ret
            exact ⟨by rw [HX.out, e]; rfl, tstep bw hx bw.size⟩
end Go.Proofs.Ytllpimhjpfkgpaa
