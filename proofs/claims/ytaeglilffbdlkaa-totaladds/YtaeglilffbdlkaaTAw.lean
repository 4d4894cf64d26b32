/- The document's Add and Sub over totals; 'awake' of the laws of stage 7. -/
import Derived.Test.YtaeglilffbdlkaaTPair
import Derived.Test.YtaeglilffbdlkaaTRef
import Derived.Test.YtaeglilffbdlkaaTSm
import Derived.Test.YtaeglilffbdlkaaTEq
namespace Go.Proofs.Ytaeglilffbdlkaa
open Go.RowKit
set_option linter.unusedVariables false

theorem rAdd7_any (a b : T6) (w : World) (ha : inT a) (hb : inT b) : Calls Try.prog 10 #[tot a, tot b] w fun e w' => e = .returned (res (addT a b)) ∧ Below w.heap.size w w' := by
  obtain ⟨h0, h1, h2, h3, h4, h5⟩ := ha
  obtain ⟨g0, g1, g2, g3, g4, g5⟩ := hb
  refine (rAdd7_walk a.n a.s0 a.s1 a.s2 a.s3 a.h b.n b.s0 b.s1 b.s2 b.s3 b.h _ _ _ _ _ _ _ _ _ _ _ _ w (fun w => radd_any _ _ w h0 g0) (fun w => radd_any _ _ w h1 g1) (fun w => radd_any _ _ w h2 g2) (fun w => radd_any _ _ w h3 g3) (fun w => radd_any _ _ w h4 g4) (fun w => radd_any _ _ w h5 g5)).mono ?_
  rintro e w' ⟨rfl, hw⟩
  refine ⟨?_, hw⟩
  unfold addT pairT allT
  generalize (addR a.n b.n).2 = o0, (addR a.s0 b.s0).2 = o1, (addR a.s1 b.s1).2 = o2, (addR a.s2 b.s2).2 = o3, (addR a.s3 b.s3).2 = o4, (addR a.h b.h).2 = o5
  cases o0 <;> cases o1 <;> cases o2 <;> cases o3 <;> cases o4 <;> cases o5 <;> rfl
theorem rSub7_any (a b : T6) (w : World) (ha : inT a) (hb : inT b) : Calls Try.prog 11 #[tot a, tot b] w fun e w' => e = .returned (res (subT a b)) ∧ Below w.heap.size w w' := by
  obtain ⟨h0, h1, h2, h3, h4, h5⟩ := ha
  obtain ⟨g0, g1, g2, g3, g4, g5⟩ := hb
  refine (rSub7_walk a.n a.s0 a.s1 a.s2 a.s3 a.h b.n b.s0 b.s1 b.s2 b.s3 b.h _ _ _ _ _ _ _ _ _ _ _ _ w (fun w => rsub_any _ _ w h0 g0) (fun w => rsub_any _ _ w h1 g1) (fun w => rsub_any _ _ w h2 g2) (fun w => rsub_any _ _ w h3 g3) (fun w => rsub_any _ _ w h4 g4) (fun w => rsub_any _ _ w h5 g5)).mono ?_
  rintro e w' ⟨rfl, hw⟩
  refine ⟨?_, hw⟩
  unfold subT pairT allT
  generalize (subR a.n b.n).2 = o0, (subR a.s0 b.s0).2 = o1, (subR a.s1 b.s1).2 = o2, (subR a.s2 b.s2).2 = o3, (subR a.s3 b.s3).2 = o4, (subR a.h b.h).2 = o5
  cases o0 <;> cases o1 <;> cases o2 <;> cases o3 <;> cases o4 <;> cases o5 <;> rfl
theorem inT_lit : inT (boxT 10) ∧ inT (glueT 5 2 1 3) ∧ inT ⟨15, 0, 2, 0, 0, 3⟩ := by
  refine ⟨?_, ?_, ?_⟩ <;> unfold inT inR <;> decide
theorem awake7 (w : World) : Calls Try.prog 18 #[] w fun e w' => e = .returned (.bool true) ∧ Below w.heap.size w w' := by
  have c1 : ∀ w, Calls Try.prog 16 #[.int .i64 10] w fun e w' => e = .returned (.agg #[.int .i64 10, .int .i64 0, .int .i64 0, .int .i64 0, .int .i64 0, .int .i64 0]) ∧ Below w.heap.size w w' := fun w => box_any 10 w
  have c2 : ∀ w, Calls Try.prog 14 #[.int .i64 5, .int .i64 2, .int .i64 1, .int .i64 3] w fun e w' => e = .returned (.agg #[.int .i64 5, .int .i64 0, .int .i64 2, .int .i64 0, .int .i64 0, .int .i64 3]) ∧ Below w.heap.size w w' := fun w => glue_any 5 2 1 3 w
  have c3 : ∀ w, Calls Try.prog 6 #[.agg #[.int .i64 10, .int .i64 0, .int .i64 0, .int .i64 0, .int .i64 0, .int .i64 0], .agg #[.int .i64 5, .int .i64 0, .int .i64 2, .int .i64 0, .int .i64 0, .int .i64 3]] w fun e w' => e = .returned (.tuple #[.agg #[.int .i64 15, .int .i64 0, .int .i64 2, .int .i64 0, .int .i64 0, .int .i64 3], .bool true]) ∧ Below w.heap.size w w' :=
    fun w => TAdd_any (boxT 10) (glueT 5 2 1 3) w inT_lit.1 inT_lit.2.1
  have c4 : ∀ w, Calls Try.prog 8 #[.agg #[.int .i64 15, .int .i64 0, .int .i64 2, .int .i64 0, .int .i64 0, .int .i64 3]] w fun e w' => e = .returned (.tuple #[.int .i64 12, .bool true]) ∧ Below w.heap.size w w' :=
    fun w => least_any ⟨15, 0, 2, 0, 0, 3⟩ w inT_lit.2.2
  have c5 : ∀ w, Calls Try.prog 12 #[.agg #[.int .i64 15, .int .i64 0, .int .i64 2, .int .i64 0, .int .i64 0, .int .i64 3]] w fun e w' => e = .returned (.int .i64 1) ∧ Below w.heap.size w w' :=
    fun w => order_any ⟨15, 0, 2, 0, 0, 3⟩ w
  go_enter Try.func18, Try.ntmps18
  go_wp2_with fail
  refine (c1 _).mono ?_
  rintro e w1 ⟨rfl, b1⟩
  go_wp2_with fail
  refine (c2 _).mono ?_
  rintro e w2 ⟨rfl, b2⟩
  replace b2 := tstep b1 b2 b1.size
  clear b1
  go_wp2_with fail
  refine (c3 _).mono ?_
  rintro e w3 ⟨rfl, b3⟩
  replace b3 := tstep b2 b3 b2.size
  clear b2
  go_wp2_with fail
  have B := blk_new w3 #[.int .i64 15, .int .i64 0, .int .i64 2, .int .i64 0, .int .i64 0, .int .i64 3] 25
  refine (c4 _).mono ?_
  rintro e w4 ⟨rfl, b4⟩
  replace B := B.old b4
  replace b4 := tstep (b3.alloc b3.size _) b4 (Nat.le_trans b3.size (by simp))
  have k := B.six
  clear b3
  go_wp2_with fail
  refine (c5 _).mono ?_
  rintro e w5 ⟨rfl, b5⟩
  replace b5 := tstep b4 b5 b4.size
  go_wp2
  go_ret
  exact ⟨rfl, b5⟩
end Go.Proofs.Ytaeglilffbdlkaa
