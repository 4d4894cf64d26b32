/- The walk of GeomPlain. -/
import Derived.Test.YtlinggmnelejfaaETel
namespace Go.Proofs.Ytlinggmnelejfaa
open Go.RowKit
set_option maxRecDepth 20000
set_option linter.unusedVariables false
set_option linter.unusedSimpArgs false

theorem eql_geo {o : Oper} {a : Act} (x y : Operand) (ho : o.op = .binOp .eql 24 x y 24) {g : G19} (hx : a.eval x = .agg (geoC g)) (hy : a.eval y = .agg (geoC g)) (w : World) :
    (execOp a.eval o).run Try.prog w = .ok (.value (.bool true)) w := by
  unfold execOp
  simp only [ho, hx, hy]
  unfold geoC
  simp [go_sem]
theorem plain_right (c h : Int) : rightE (plainE c h) = (decide (1 ≤ c) && decide (c ≤ 8) && decide (1 ≤ h) && decide (h ≤ 1073741823)) := by
  rw [Bool.eq_iff_iff, rightE_iff]
  simp only [plainE, restE, Bool.and_eq_true, decide_eq_true_eq]
  omega
set_option maxHeartbeats 2000000 in
theorem geomPlain_walk (c : Int) (hc : (Lit.int .i64 c).wf = true) (h : Int) (hh : (Lit.int .i64 h).wf = true) (w : World) :
    Calls Try.prog 4 #[.int .i64 c, .int .i64 h] w fun e w' => e = .returned (.bool true) ∧ Below w.heap.size w w' := by
  have c1 := Lib.hid fun x => gplain_any c h x
  have c2 := Lib.hid fun x => gcheck_any (plainE c h) x
  have he := errE_right (plainE c h)
  rw [plain_right] at he
  generalize errE (plainE c h) = e at c2 he
  have ways : c < 1 ∨ (1 ≤ c ∧ 8 < c) ∨ (1 ≤ c ∧ c ≤ 8 ∧ h < 1) ∨ (1 ≤ c ∧ c ≤ 8 ∧ 1 ≤ h ∧ 1073741823 < h) ∨ (1 ≤ c ∧ c ≤ 8 ∧ 1 ≤ h ∧ h ≤ 1073741823) := by omega
  have hv : (∃ z, Hid ((decide (1 ≤ c) && decide (c ≤ 8) && decide (1 ≤ h) && decide (h ≤ 1073741823)) = z)) := ⟨_, Lib.hid rfl⟩
  obtain ⟨z, hv⟩ := hv
  rw [hv.out] at he
  rcases ways with k1 | ⟨k1, k2⟩ | ⟨k1, k2, k3⟩ | ⟨k1, k2, k3, k4⟩ | ⟨k1, k2, k3, k4⟩
  case' inr.inr.inr.inr => (have hz := hv.out; obtain rfl : z = true := (by rw [← hz]; simp; omega))
  case' inl => (have hz := hv.out; obtain rfl : z = false := (by rw [← hz]; simp; omega))
  case' inr.inl => (have hz := hv.out; obtain rfl : z = false := (by rw [← hz]; simp; omega))
  case' inr.inr.inl => (have hz := hv.out; obtain rfl : z = false := (by rw [← hz]; simp; omega))
  case' inr.inr.inr.inl => (have k5 : decide (h ≤ 1073741823) = false := (by simp; omega); have hz := hv.out; obtain rfl : z = false := (by rw [← hz]; simp; omega))
  all_goals
    clear hz hv
    go_enter Try.func4, Try.ntmps4
    go_upto_region 1 with (fail)
    have CE := Lib.hid fun z (hz : Old w z) => True.intro
    (refine wp_region_plain (Old w) 3 (Below.refl _ w) ?_; simp only [List.take_succ_cons, List.take_zero, List.drop_succ_cons, List.drop_zero])
    repeat (first | (apply Text.sees (hw := by kernel_rfl); (focus (intro x hx K hK; have hc := CE.out x hx; go_simp; exact hK)); simp only [Act.put, List.getElem_toArray, List.getElem_cons_succ, List.getElem_cons_zero, List.setIfInBounds_toArray, List.set_cons_zero, List.set_cons_succ]) | (apply Text.idle; (focus (intro x hx K hK; go_simp; exact hK)); simp only [Act.put, List.getElem_toArray, List.getElem_cons_succ, List.getElem_cons_zero, List.setIfInBounds_toArray, List.set_cons_zero, List.set_cons_succ]))
    (refine Text.call (Old.call fun y hy => c1.out y) (by kernel_rfl) (fun _ => by kernel_rfl) ?_; simp only [Act.put, List.getElem_toArray, List.getElem_cons_succ, List.getElem_cons_zero, List.setIfInBounds_toArray, List.set_cons_zero, List.set_cons_succ])
    intro x hx
    have R := geo_new x (plainE c h)
    have b0 := tstep hx (tbel1 x (.cells (geoC (plainE c h)) 24)) hx.size
    refine make_geo (g := plainE c h) rfl rfl rfl (.tmp 5) (.tmp 10) rfl rfl rfl ?_
    go_upto_region 2 with (fail)
    clear CE hx
    generalize x.heap.size = B at *
    generalize x.alloc _ = V at *
    have CE := Lib.hid fun z (hz : Old V z) => True.intro
    (refine wp_region_plain (Old V) 7 (Below.refl _ V) ?_; simp only [List.take_succ_cons, List.take_zero, List.drop_succ_cons, List.drop_zero])
    repeat (first | (apply Text.sees (hw := by kernel_rfl); (focus (intro x hx K hK; have hc := CE.out x hx; go_simp; exact hK)); simp only [Act.put, List.getElem_toArray, List.getElem_cons_succ, List.getElem_cons_zero, List.setIfInBounds_toArray, List.set_cons_zero, List.set_cons_succ]) | (apply Text.idle; (focus (intro x hx K hK; go_simp; exact hK)); simp only [Act.put, List.getElem_toArray, List.getElem_cons_succ, List.getElem_cons_zero, List.setIfInBounds_toArray, List.set_cons_zero, List.set_cons_succ]))
    intro y hy
    have R1 : GeoAt (y.alloc (.cells (geoC (plainE c h)) 24)) B (plainE c h) := (R.old hy).alloc _
    have S1 := geo_new y (plainE c h)
    have b1 := tstep (tstep b0 hy b0.size) (tbel1 y (.cells (geoC (plainE c h)) 24)) (tstep b0 hy b0.size).size
    refine wpList_build rfl 24 _ rfl (by kernel_rfl) ?_
    refine make_geo (g := plainE c h) rfl rfl rfl (.tmp 6) (.tmp 18) rfl rfl (by kernel_rfl) ?_
    go_upto_region 3 with (fail)
    clear CE hy R b0
    generalize y.heap.size = B2 at *
    generalize y.alloc _ = Y at *
    go_upto_region 4 with (fail)
    have CE := Lib.hid fun z (hz : Old Y z) => he
    clear he
    (refine wp_region_plain (Old Y) 13 (Below.refl _ Y) ?_; simp only [List.take_succ_cons, List.take_zero, List.drop_succ_cons, List.drop_zero])
    (refine Text.val (fun y hy => load_geo (.tmp 5) rfl rfl (R1.old hy)) (by kernel_rfl) ?_; simp only [Act.put, List.getElem_toArray, List.getElem_cons_succ, List.getElem_cons_zero, List.setIfInBounds_toArray, List.set_cons_zero, List.set_cons_succ])
    (refine Text.val (fun y hy => load_geo (.tmp 6) rfl rfl (S1.old hy)) (by kernel_rfl) ?_; simp only [Act.put, List.getElem_toArray, List.getElem_cons_succ, List.getElem_cons_zero, List.setIfInBounds_toArray, List.set_cons_zero, List.set_cons_succ])
    (refine Text.val (fun y hy => eql_geo (.tmp 33) (.tmp 34) rfl rfl rfl y) (by kernel_rfl) ?_; simp only [Act.put, List.getElem_toArray, List.getElem_cons_succ, List.getElem_cons_zero, List.setIfInBounds_toArray, List.set_cons_zero, List.set_cons_succ])
    repeat (first | (apply Text.sees (hw := by kernel_rfl); (focus (intro x hx K hK; have hc := CE.out x hx; go_simp; exact hK)); simp only [Act.put, List.getElem_toArray, List.getElem_cons_succ, List.getElem_cons_zero, List.setIfInBounds_toArray, List.set_cons_zero, List.set_cons_succ]) | (apply Text.idle; (focus (intro x hx K hK; go_simp; exact hK)); simp only [Act.put, List.getElem_toArray, List.getElem_cons_succ, List.getElem_cons_zero, List.setIfInBounds_toArray, List.set_cons_zero, List.set_cons_succ]))
    (refine Text.val (fun y hy => load_geo (.tmp 5) rfl rfl (R1.old hy)) (by kernel_rfl) ?_; simp only [Act.put, List.getElem_toArray, List.getElem_cons_succ, List.getElem_cons_zero, List.setIfInBounds_toArray, List.set_cons_zero, List.set_cons_succ])
    (refine Text.call (Old.call fun y hy => c2.out y) (by kernel_rfl) (fun _ => by kernel_rfl) ?_; simp only [Act.put, List.getElem_toArray, List.getElem_cons_succ, List.getElem_cons_zero, List.setIfInBounds_toArray, List.set_cons_zero, List.set_cons_succ])
    repeat (first | (apply Text.sees (hw := by kernel_rfl); (focus (intro x hx K hK; have hc := CE.out x hx; go_simp; exact hK)); simp only [Act.put, List.getElem_toArray, List.getElem_cons_succ, List.getElem_cons_zero, List.setIfInBounds_toArray, List.set_cons_zero, List.set_cons_succ]) | (apply Text.idle; (focus (intro x hx K hK; go_simp; exact hK)); simp only [Act.put, List.getElem_toArray, List.getElem_cons_succ, List.getElem_cons_zero, List.setIfInBounds_toArray, List.set_cons_zero, List.set_cons_succ]))
    (refine Text.call (Old.call fun y hy => awake13 y) (by kernel_rfl) (fun _ => by kernel_rfl) ?_; simp only [Act.put, List.getElem_toArray, List.getElem_cons_succ, List.getElem_cons_zero, List.setIfInBounds_toArray, List.set_cons_zero, List.set_cons_succ])
    repeat (first | (apply Text.sees (hw := by kernel_rfl); (focus (intro x hx K hK; have hc := CE.out x hx; go_simp; exact hK)); simp only [Act.put, List.getElem_toArray, List.getElem_cons_succ, List.getElem_cons_zero, List.setIfInBounds_toArray, List.set_cons_zero, List.set_cons_succ]) | (apply Text.idle; (focus (intro x hx K hK; go_simp; exact hK)); simp only [Act.put, List.getElem_toArray, List.getElem_cons_succ, List.getElem_cons_zero, List.setIfInBounds_toArray, List.set_cons_zero, List.set_cons_succ]))
    intro z hz
    replace b1 := tstep b1 hz b1.size
    clear CE c1 c2
    go_wp2
    go_ret
    exact ⟨rfl, b1⟩
end Go.Proofs.Ytlinggmnelejfaa
