/- CostOrder holds of every input: the walk at the numbers. -/
import Derived.Test.YtofellaihiclkaaCOrderY
namespace Go.Proofs.Ytofellaihiclkaa
open Go.RowKit
set_option linter.unusedVariables false

theorem neg_back {p q : Int} (h : p = -q) (hp : -1 ≤ p ∧ p ≤ 1) : IntKind.i64.wrap (-q) = p := by
  rw [← h]; exact IntWalk.i64_in _ (by omega)
theorem costOrder_walk (a0 : Int) (_ : (Lit.int .i64 a0).wf = true) (a1 : Int) (_ : (Lit.int .i64 a1).wf = true) (b0 : Int) (_ : (Lit.int .i64 b0).wf = true) (b1 : Int) (_ : (Lit.int .i64 b1).wf = true)
    (c0 : Int) (_ : (Lit.int .i64 c0).wf = true) (c1 : Int) (_ : (Lit.int .i64 c1).wf = true) (w : World) :
    Calls Try.prog 5 #[.agg #[.int .i64 a0, .int .i64 a1], .agg #[.int .i64 b0, .int .i64 b1], .agg #[.int .i64 c0, .int .i64 c1]] w fun e w' => e = .returned (.bool true) ∧ Below w.heap.size w w' := by
  by_cases h : (rightC (a0, a1) && rightC (b0, b1) && rightC (c0, c1)) = true
  · rw [Bool.and_eq_true, Bool.and_eq_true] at h
    have p1 := fun w => Right_any (a0, a1) w
    have p2 := fun w => Right_any (b0, b1) w
    have p3 := fun w => Right_any (c0, c1) w
    rw [h.1.1] at p1
    rw [h.1.2] at p2
    rw [h.2] at p3
    have ka : okC (a0, a1) := of_decide_eq_true h.1.1
    have kb : okC (b0, b1) := of_decide_eq_true h.1.2
    have kc : okC (c0, c1) := of_decide_eq_true h.2
    have d4 := fun w => Add_any (a0, a1) (addC (c0, c1) (b0, b1)) w
    rw [← addC_assoc ka kb kc] at d4
    have d5 := fun w => Add_any (a0, a1) (0, 0) w
    rw [addC_zero ka] at d5
    have p4 := fun w => Right_any (addC (addC (a0, a1) (b0, b1)) (c0, c1)) w
    rw [show rightC (addC (addC (a0, a1) (b0, b1)) (c0, c1)) = true from decide_eq_true (okC_add _ _)] at p4
    refine order_yes a0 a1 b0 b1 c0 c1 _ _ _ _ _ _ _ _ _ _ (cmpC (a0, a1) (b0, b1)) (cmpC (b0, b1) (a0, a1)) (cmpC (b0, b1) (c0, c1)) (cmpC (a0, a1) (c0, c1)) _ (cmpC (a0, a1) (addC (addC (a0, a1) (b0, b1)) (c0, c1))) _ w
      (neg_back (cmpC_neg _ _) (cmpC_bd _ _)) rfl ?_ cmpC_trans (fun ra rb hp => cmpC_add ka kb kc ra rb hp) (cmpC_up ka kb kc) ka.1 kb.1 kc.1
      p1 p2 p3 (fun w => Add_any (a0, a1) (b0, b1) w) (fun w => Add_any (addC (a0, a1) (b0, b1)) (c0, c1) w) (fun w => Add_any (c0, c1) (b0, b1) w) d4 d5 p4
      (fun w => Cmp_any (a0, a1) (b0, b1) w) (fun w => Cmp_any (b0, b1) (a0, a1) w) (fun w => Cmp_any (b0, b1) (c0, c1) w) (fun w => Cmp_any (a0, a1) (c0, c1) w)
      (fun w => Add_any (a0, a1) (c0, c1) w) (fun w => Add_any (b0, b1) (c0, c1) w) (fun w => Cmp_any (addC (a0, a1) (c0, c1)) (addC (b0, b1) (c0, c1)) w) (fun w => Cmp_any (a0, a1) _ w)
    rw [Bool.eq_iff_iff, decide_eq_true_iff, beq_iff_eq]
    exact (cmpC_zero (a0, a1) (b0, b1)).symm
  · exact order_no a0 a1 b0 b1 c0 c1 _ _ _ w (by simpa using h) (fun w => Right_any (a0, a1) w) (fun w => Right_any (b0, b1) w) (fun w => Right_any (c0, c1) w) (fun w => rRight_any (a0, a1) w) (fun w => rRight_any (b0, b1) w) (fun w => rRight_any (c0, c1) w)
end Go.Proofs.Ytofellaihiclkaa
