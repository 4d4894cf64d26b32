/- 'awake' and 'made' of the laws of stage 10. -/
import Derived.Test.YtinkjpcilpdaaaaIOth
import Derived.Test.YtinkjpcilpdaaaaTEq
namespace Go.Proofs.Ytinkjpcilpdaaaa
open Go.RowKit
set_option maxRecDepth 20000
set_option linter.unusedVariables false
set_option linter.unusedSimpArgs false

theorem fld30 (a b c d e f : Value) : ∀ w, Sem.run Try.prog (Instr.field 30 (.agg #[a, b, c, d, e, f]) 0) w = .ok a w := fun _ => by kernel_rfl
theorem awake10 (w : World) : Calls Try.prog 14 #[] w fun e w' => e = .returned (.bool true) ∧ Below w.heap.size w w' := by
  have c1 : ∀ w, Calls Try.prog 25 #[.int .i64 10, .int .i64 1] w fun e w' => e = .returned (.agg #[.int .i64 1, .int .i64 10, .int .i64 1, .int .i64 0, .int .i64 0, .int .i64 0, .int .i64 0]) ∧ Below w.heap.size w w' := fun w => ibox_any 10 1 w
  have c2 : ∀ w, Calls Try.prog 26 #[.int .i64 3, .int .i64 1, .int .i64 0, .int .i64 1] w fun e w' => e = .returned (.agg #[.int .i64 2, .int .i64 3, .int .i64 0, .int .i64 1, .int .i64 0, .int .i64 1, .int .i64 0]) ∧ Below w.heap.size w w' := fun w => iglue_any 3 1 0 1 w
  have c3 : ∀ w, Calls Try.prog 27 #[.int .i64 (-10000)] w fun e w' => e = .returned (.agg #[.int .i64 3, .int .i64 0, .int .i64 0, .int .i64 0, .int .i64 0, .int .i64 0, .int .i64 (-10000)]) ∧ Below w.heap.size w w' := fun w => ipen_any (-10000) w
  have c4 : ∀ w, Calls Try.prog 6 #[.agg #[.int .i64 1, .int .i64 10, .int .i64 1, .int .i64 0, .int .i64 0, .int .i64 0, .int .i64 0]] w fun e w' => e = .returned (.int .i64 0) ∧ Below w.heap.size w w' := fun w => check_any ⟨1, 10, 1, 0, 0, 0, 0⟩ w
  have c5 : ∀ w, Calls Try.prog 6 #[.agg #[.int .i64 1, .int .i64 0, .int .i64 0, .int .i64 0, .int .i64 0, .int .i64 0, .int .i64 1]] w fun e w' => e = .returned (.int .i64 8) ∧ Below w.heap.size w w' := fun w => check_any ⟨1, 0, 0, 0, 0, 0, 1⟩ w
  have c6 : ∀ w, Calls Try.prog 8 #[.agg #[.int .i64 2, .int .i64 3, .int .i64 0, .int .i64 1, .int .i64 0, .int .i64 1, .int .i64 0]] w fun e w' => e = .returned (.bool true) ∧ Below w.heap.size w w' := fun w => loose_any ⟨2, 3, 0, 1, 0, 1, 0⟩ w
  have c7 : ∀ w, Calls Try.prog 10 #[.agg #[.int .i64 3, .int .i64 0, .int .i64 0, .int .i64 0, .int .i64 0, .int .i64 0, .int .i64 (-10000)]] w fun e w' => e = .returned (.bool true) ∧ Below w.heap.size w w' := fun w => forces_any ⟨3, 0, 0, 0, 0, 0, -10000⟩ w
  have c8 : ∀ w, Calls Try.prog 12 #[.agg #[.int .i64 1, .int .i64 10, .int .i64 1, .int .i64 0, .int .i64 0, .int .i64 0, .int .i64 0]] w fun e w' => e = .returned (.agg #[.int .i64 10, .int .i64 0, .int .i64 0, .int .i64 0, .int .i64 0, .int .i64 0]) ∧ Below w.heap.size w w' := fun w => itotal_any ⟨1, 10, 1, 0, 0, 0, 0⟩ w
  have f30 := fld30 (.int .i64 10) (.int .i64 0) (.int .i64 0) (.int .i64 0) (.int .i64 0) (.int .i64 0)
  go_enter Try.func14, Try.ntmps14
  go_wp2_with fail
  refine (c1 _).mono ?_
  rintro e w1 ⟨rfl, b1⟩
  go_wp2_with fail
  refine (c2 _).mono ?_
  rintro e w2 ⟨rfl, b2⟩
  replace b2 := tstep b1 b2 b1.size
  go_wp2_with fail
  refine (c3 _).mono ?_
  rintro e w3 ⟨rfl, b3⟩
  replace b3 := tstep b2 b3 b2.size
  clear b1 b2 c1 c2 c3
  go_wp2_with fail
  refine (c4 _).mono ?_
  rintro e w4 ⟨rfl, b4⟩
  have B1 := (((blk_new w3 _ _).alloc _).alloc _).old b4
  have B2 := ((blk_two w3 _ _ _).alloc _).old b4
  have B3 := (blk_three w3 _ _ _ _).old b4
  replace b4 := tstep b3 (tstep (tbel3 w3 _ _ _) b4 (tbel3 w3 _ _ _).size) b3.size
  clear b3 c4
  go_wp2_with fail
  refine (c5 _).mono ?_
  rintro e w5 ⟨rfl, b5⟩
  replace B1 := B1.old b5
  replace B2 := B2.old b5
  replace B3 := B3.old b5
  replace b5 := tstep b4 b5 b4.size
  have d2 := B2.seven
  clear b4 c5
  go_wp2_with fail
  refine (c6 _).mono ?_
  rintro e w6 ⟨rfl, b6⟩
  replace B1 := B1.old b6
  replace B3 := B3.old b6
  replace b6 := tstep b5 b6 b5.size
  have d3 := B3.seven
  clear b5 c6 d2 B2
  go_wp2_with fail
  refine (c7 _).mono ?_
  rintro e w7 ⟨rfl, b7⟩
  replace B1 := B1.old b7
  replace b7 := tstep b6 b7 b6.size
  have d1 := B1.seven
  clear b6 c7 d3 B3
  go_wp2_with fail
  refine (c8 _).mono ?_
  rintro e w8 ⟨rfl, b8⟩
  replace b8 := tstep b7 b8 b7.size
  clear b7 c8 d1 B1
  go_wp2
  go_ret
  exact ⟨rfl, b8⟩
theorem made_1 (h f s o r n : Int) (w : World) : Calls Try.prog 15 #[.agg #[.int .i64 1, .int .i64 h, .int .i64 f, .int .i64 s, .int .i64 o, .int .i64 r, .int .i64 n]] w fun e w' => e = .returned (itm ⟨1, h, f, 0, 0, 0, 0⟩) ∧ Below w.heap.size w w' := by
  have c : ∀ w, Calls Try.prog 25 #[.int .i64 h, .int .i64 f] w fun e w' => e = .returned (.agg #[.int .i64 1, .int .i64 h, .int .i64 f, .int .i64 0, .int .i64 0, .int .i64 0, .int .i64 0]) ∧ Below w.heap.size w w' := ibox_any h f
  unfold itm
  go_enter Try.func15, Try.ntmps15
  go_wp2_with fail
  refine (c _).mono ?_
  rintro e w1 ⟨rfl, b1⟩
  have b0 := tstep (tbel2 w _ _) b1 (tbel2 w _ _).size
  have B := (blk_two w _ _ _).old b1
  have f1 := B.seven
  have f2 := B.seven_free
  clear b1 c
  go_wp2
  refine bodyPost_ret (v := .agg #[.int .i64 1, .int .i64 h, .int .i64 f, .int .i64 0, .int .i64 0, .int .i64 0, .int .i64 0]) (by simp [results, Try.results15, go_sem, f1, f2]) rfl ⟨rfl, ?_⟩
  exact (below_set6 b0 (by omega) _ _ _ _ _ _).setCell (p := ⟨w.heap.size + 1, 6, none⟩) (by simp) _
theorem made_2 (h f s o r n : Int) (w : World) : Calls Try.prog 15 #[.agg #[.int .i64 2, .int .i64 h, .int .i64 f, .int .i64 s, .int .i64 o, .int .i64 r, .int .i64 n]] w fun e w' => e = .returned (itm ⟨2, h, 0, s, o, r, 0⟩) ∧ Below w.heap.size w w' := by
  have c : ∀ w, Calls Try.prog 26 #[.int .i64 h, .int .i64 s, .int .i64 o, .int .i64 r] w fun e w' => e = .returned (.agg #[.int .i64 2, .int .i64 h, .int .i64 0, .int .i64 s, .int .i64 o, .int .i64 r, .int .i64 0]) ∧ Below w.heap.size w w' := iglue_any h s o r
  unfold itm
  go_enter Try.func15, Try.ntmps15
  go_wp2_with fail
  refine (c _).mono ?_
  rintro e w1 ⟨rfl, b1⟩
  have b0 := tstep (tbel2 w _ _) b1 (tbel2 w _ _).size
  have B := (blk_two w _ _ _).old b1
  have f1 := B.seven
  have f2 := B.seven_free
  clear b1 c
  go_wp2
  refine bodyPost_ret (v := .agg #[.int .i64 2, .int .i64 h, .int .i64 0, .int .i64 s, .int .i64 o, .int .i64 r, .int .i64 0]) (by simp [results, Try.results15, go_sem, f1, f2]) rfl ⟨rfl, ?_⟩
  exact (below_set6 b0 (by omega) _ _ _ _ _ _).setCell (p := ⟨w.heap.size + 1, 6, none⟩) (by simp) _
theorem made_3 (h f s o r n : Int) (w : World) : Calls Try.prog 15 #[.agg #[.int .i64 3, .int .i64 h, .int .i64 f, .int .i64 s, .int .i64 o, .int .i64 r, .int .i64 n]] w fun e w' => e = .returned (itm ⟨3, 0, 0, 0, 0, 0, n⟩) ∧ Below w.heap.size w w' := by
  have c : ∀ w, Calls Try.prog 27 #[.int .i64 n] w fun e w' => e = .returned (.agg #[.int .i64 3, .int .i64 0, .int .i64 0, .int .i64 0, .int .i64 0, .int .i64 0, .int .i64 n]) ∧ Below w.heap.size w w' := ipen_any n
  unfold itm
  go_enter Try.func15, Try.ntmps15
  go_wp2_with fail
  refine (c _).mono ?_
  rintro e w1 ⟨rfl, b1⟩
  have b0 := tstep (tbel2 w _ _) b1 (tbel2 w _ _).size
  have B := (blk_two w _ _ _).old b1
  have f1 := B.seven
  have f2 := B.seven_free
  clear b1 c
  go_wp2
  refine bodyPost_ret (v := .agg #[.int .i64 3, .int .i64 0, .int .i64 0, .int .i64 0, .int .i64 0, .int .i64 0, .int .i64 n]) (by simp [results, Try.results15, go_sem, f1, f2]) rfl ⟨rfl, ?_⟩
  exact (below_set6 b0 (by omega) _ _ _ _ _ _).setCell (p := ⟨w.heap.size + 1, 6, none⟩) (by simp) _
theorem made_4 (h f s o r n : Int) (w : World) : Calls Try.prog 15 #[.agg #[.int .i64 4, .int .i64 h, .int .i64 f, .int .i64 s, .int .i64 o, .int .i64 r, .int .i64 n]] w fun e w' => e = .returned (itm ⟨4, 0, 0, 0, 0, 0, n⟩) ∧ Below w.heap.size w w' := by
  have c : ∀ w, Calls Try.prog 28 #[.int .i64 n] w fun e w' => e = .returned (.agg #[.int .i64 4, .int .i64 0, .int .i64 0, .int .i64 0, .int .i64 0, .int .i64 0, .int .i64 n]) ∧ Below w.heap.size w w' := imark_any n
  unfold itm
  go_enter Try.func15, Try.ntmps15
  go_wp2_with fail
  refine (c _).mono ?_
  rintro e w1 ⟨rfl, b1⟩
  have b0 := tstep (tbel2 w _ _) b1 (tbel2 w _ _).size
  have B := (blk_two w _ _ _).old b1
  have f1 := B.seven
  have f2 := B.seven_free
  clear b1 c
  go_wp2
  refine bodyPost_ret (v := .agg #[.int .i64 4, .int .i64 0, .int .i64 0, .int .i64 0, .int .i64 0, .int .i64 0, .int .i64 n]) (by simp [results, Try.results15, go_sem, f1, f2]) rfl ⟨rfl, ?_⟩
  exact (below_set6 b0 (by omega) _ _ _ _ _ _).setCell (p := ⟨w.heap.size + 1, 6, none⟩) (by simp) _
theorem made_5 (h f s o r n : Int) (w : World) : Calls Try.prog 15 #[.agg #[.int .i64 5, .int .i64 h, .int .i64 f, .int .i64 s, .int .i64 o, .int .i64 r, .int .i64 n]] w fun e w' => e = .returned (itm ⟨5, 0, 0, 0, 0, 0, n⟩) ∧ Below w.heap.size w w' := by
  have c : ∀ w, Calls Try.prog 29 #[.int .i64 n] w fun e w' => e = .returned (.agg #[.int .i64 5, .int .i64 0, .int .i64 0, .int .i64 0, .int .i64 0, .int .i64 0, .int .i64 n]) ∧ Below w.heap.size w w' := inote_any n
  unfold itm
  go_enter Try.func15, Try.ntmps15
  go_wp2_with fail
  refine (c _).mono ?_
  rintro e w1 ⟨rfl, b1⟩
  have b0 := tstep (tbel2 w _ _) b1 (tbel2 w _ _).size
  have B := (blk_two w _ _ _).old b1
  have f1 := B.seven
  have f2 := B.seven_free
  clear b1 c
  go_wp2
  refine bodyPost_ret (v := .agg #[.int .i64 5, .int .i64 0, .int .i64 0, .int .i64 0, .int .i64 0, .int .i64 0, .int .i64 n]) (by simp [results, Try.results15, go_sem, f1, f2]) rfl ⟨rfl, ?_⟩
  exact (below_set6 b0 (by omega) _ _ _ _ _ _).setCell (p := ⟨w.heap.size + 1, 6, none⟩) (by simp) _
theorem made_6 (h f s o r n : Int) (w : World) : Calls Try.prog 15 #[.agg #[.int .i64 6, .int .i64 h, .int .i64 f, .int .i64 s, .int .i64 o, .int .i64 r, .int .i64 n]] w fun e w' => e = .returned (itm ⟨6, 0, 0, 0, 0, 0, n⟩) ∧ Below w.heap.size w w' := by
  have c : ∀ w, Calls Try.prog 30 #[.int .i64 n] w fun e w' => e = .returned (.agg #[.int .i64 6, .int .i64 0, .int .i64 0, .int .i64 0, .int .i64 0, .int .i64 0, .int .i64 n]) ∧ Below w.heap.size w w' := ifloat_any n
  unfold itm
  go_enter Try.func15, Try.ntmps15
  go_wp2_with fail
  refine (c _).mono ?_
  rintro e w1 ⟨rfl, b1⟩
  have b0 := tstep (tbel2 w _ _) b1 (tbel2 w _ _).size
  have B := (blk_two w _ _ _).old b1
  have f1 := B.seven
  have f2 := B.seven_free
  clear b1 c
  go_wp2
  refine bodyPost_ret (v := .agg #[.int .i64 6, .int .i64 0, .int .i64 0, .int .i64 0, .int .i64 0, .int .i64 0, .int .i64 n]) (by simp [results, Try.results15, go_sem, f1, f2]) rfl ⟨rfl, ?_⟩
  exact (below_set6 b0 (by omega) _ _ _ _ _ _).setCell (p := ⟨w.heap.size + 1, 6, none⟩) (by simp) _
theorem made_7 (h f s o r n : Int) (w : World) : Calls Try.prog 15 #[.agg #[.int .i64 7, .int .i64 h, .int .i64 f, .int .i64 s, .int .i64 o, .int .i64 r, .int .i64 n]] w fun e w' => e = .returned (itm ⟨7, 0, 0, 0, 0, 0, 0⟩) ∧ Below w.heap.size w w' := by
  have c : ∀ w, Calls Try.prog 31 #[] w fun e w' => e = .returned (.agg #[.int .i64 7, .int .i64 0, .int .i64 0, .int .i64 0, .int .i64 0, .int .i64 0, .int .i64 0]) ∧ Below w.heap.size w w' := ibar_any 
  unfold itm
  go_enter Try.func15, Try.ntmps15
  go_wp2_with fail
  refine (c _).mono ?_
  rintro e w1 ⟨rfl, b1⟩
  have b0 := tstep (tbel2 w _ _) b1 (tbel2 w _ _).size
  have B := (blk_two w _ _ _).old b1
  have f1 := B.seven
  have f2 := B.seven_free
  clear b1 c
  go_wp2
  refine bodyPost_ret (v := .agg #[.int .i64 7, .int .i64 0, .int .i64 0, .int .i64 0, .int .i64 0, .int .i64 0, .int .i64 0]) (by simp [results, Try.results15, go_sem, f1, f2]) rfl ⟨rfl, ?_⟩
  exact (below_set6 b0 (by omega) _ _ _ _ _ _).setCell (p := ⟨w.heap.size + 1, 6, none⟩) (by simp) _
theorem made_any (x : I7) (w : World) (hx : rightI x = true) : Calls Try.prog 15 #[itm x] w fun e w' => e = .returned (itm x) ∧ Below w.heap.size w w' := by
  obtain ⟨k, h, f, s, o, r, n⟩ := x
  have hk : 1 ≤ k ∧ k ≤ 7 := by
    unfold rightI at hx
    simp at hx
    exact hx.1
  rcases (show k = 1 ∨ k = 2 ∨ k = 3 ∨ k = 4 ∨ k = 5 ∨ k = 6 ∨ k = 7 by omega) with rfl | rfl | rfl | rfl | rfl | rfl | rfl
  · rw [right_1] at hx
    obtain ⟨_, _, _, _, rfl, rfl, rfl, rfl⟩ := of_decide_eq_true hx
    exact made_1 h f 0 0 0 0 w
  · rw [right_2] at hx
    obtain ⟨_, _, rfl, _, _, _, _, _, _, _, rfl⟩ := of_decide_eq_true hx
    exact made_2 h 0 s o r 0 w
  · rw [right_3] at hx
    obtain ⟨rfl, rfl, rfl, rfl, rfl, _⟩ := of_decide_eq_true hx
    exact made_3 0 0 0 0 0 n w
  · rw [right_4] at hx
    obtain ⟨rfl, rfl, rfl, rfl, rfl, _, _⟩ := of_decide_eq_true hx
    exact made_4 0 0 0 0 0 n w
  · rw [right_5] at hx
    obtain ⟨rfl, rfl, rfl, rfl, rfl, _, _⟩ := of_decide_eq_true hx
    exact made_5 0 0 0 0 0 n w
  · rw [right_6] at hx
    obtain ⟨rfl, rfl, rfl, rfl, rfl, _, _⟩ := of_decide_eq_true hx
    exact made_6 0 0 0 0 0 n w
  · rw [right_7] at hx
    obtain ⟨rfl, rfl, rfl, rfl, rfl, rfl⟩ := of_decide_eq_true hx
    exact made_7 0 0 0 0 0 0 w
end Go.Proofs.Ytinkjpcilpdaaaa
