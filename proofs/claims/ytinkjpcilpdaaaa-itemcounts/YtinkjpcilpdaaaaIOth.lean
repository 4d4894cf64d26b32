/- The other calls of package item, and the document's. -/
import Derived.Test.YtinkjpcilpdaaaaIMath
import Derived.Test.YtinkjpcilpdaaaaTSm
namespace Go.Proofs.Ytinkjpcilpdaaaa
open Go.RowKit
set_option maxRecDepth 20000
set_option linter.unusedVariables false
set_option linter.unusedSimpArgs false

theorem ibox_any (h f : Int) (w : World) : Calls Try.prog 25 #[.int .i64 h, .int .i64 f] w fun e w' => e = .returned (itm ⟨1, h, f, 0, 0, 0, 0⟩) ∧ Below w.heap.size w w' := by
  unfold itm
  go_enter Try.func25, Try.ntmps25
  go_wp2
  exact bodyPost_ret (v := .agg #[.int .i64 1, .int .i64 h, .int .i64 f, .int .i64 0, .int .i64 0, .int .i64 0, .int .i64 0]) (by simp [results, Try.results25, go_sem]) rfl ⟨rfl, tbel1 w _⟩
theorem iglue_any (h s o r : Int) (w : World) : Calls Try.prog 26 #[.int .i64 h, .int .i64 s, .int .i64 o, .int .i64 r] w fun e w' => e = .returned (itm ⟨2, h, 0, s, o, r, 0⟩) ∧ Below w.heap.size w w' := by
  unfold itm
  go_enter Try.func26, Try.ntmps26
  go_wp2
  exact bodyPost_ret (v := .agg #[.int .i64 2, .int .i64 h, .int .i64 0, .int .i64 s, .int .i64 o, .int .i64 r, .int .i64 0]) (by simp [results, Try.results26, go_sem]) rfl ⟨rfl, tbel1 w _⟩
theorem ipen_any (n : Int) (w : World) : Calls Try.prog 27 #[.int .i64 n] w fun e w' => e = .returned (itm ⟨3, 0, 0, 0, 0, 0, n⟩) ∧ Below w.heap.size w w' := by
  unfold itm
  go_enter Try.func27, Try.ntmps27
  go_wp2
  exact bodyPost_ret (v := .agg #[.int .i64 3, .int .i64 0, .int .i64 0, .int .i64 0, .int .i64 0, .int .i64 0, .int .i64 n]) (by simp [results, Try.results27, go_sem]) rfl ⟨rfl, tbel1 w _⟩
theorem imark_any (n : Int) (w : World) : Calls Try.prog 28 #[.int .i64 n] w fun e w' => e = .returned (itm ⟨4, 0, 0, 0, 0, 0, n⟩) ∧ Below w.heap.size w w' := by
  unfold itm
  go_enter Try.func28, Try.ntmps28
  go_wp2
  exact bodyPost_ret (v := .agg #[.int .i64 4, .int .i64 0, .int .i64 0, .int .i64 0, .int .i64 0, .int .i64 0, .int .i64 n]) (by simp [results, Try.results28, go_sem]) rfl ⟨rfl, tbel1 w _⟩
theorem inote_any (n : Int) (w : World) : Calls Try.prog 29 #[.int .i64 n] w fun e w' => e = .returned (itm ⟨5, 0, 0, 0, 0, 0, n⟩) ∧ Below w.heap.size w w' := by
  unfold itm
  go_enter Try.func29, Try.ntmps29
  go_wp2
  exact bodyPost_ret (v := .agg #[.int .i64 5, .int .i64 0, .int .i64 0, .int .i64 0, .int .i64 0, .int .i64 0, .int .i64 n]) (by simp [results, Try.results29, go_sem]) rfl ⟨rfl, tbel1 w _⟩
theorem ifloat_any (n : Int) (w : World) : Calls Try.prog 30 #[.int .i64 n] w fun e w' => e = .returned (itm ⟨6, 0, 0, 0, 0, 0, n⟩) ∧ Below w.heap.size w w' := by
  unfold itm
  go_enter Try.func30, Try.ntmps30
  go_wp2
  exact bodyPost_ret (v := .agg #[.int .i64 6, .int .i64 0, .int .i64 0, .int .i64 0, .int .i64 0, .int .i64 0, .int .i64 n]) (by simp [results, Try.results30, go_sem]) rfl ⟨rfl, tbel1 w _⟩
theorem ibar_any (w : World) : Calls Try.prog 31 #[] w fun e w' => e = .returned (itm ⟨7, 0, 0, 0, 0, 0, 0⟩) ∧ Below w.heap.size w w' := by
  unfold itm
  go_enter Try.func31, Try.ntmps31
  go_wp2
  exact bodyPost_ret (v := .agg #[.int .i64 7, .int .i64 0, .int .i64 0, .int .i64 0, .int .i64 0, .int .i64 0, .int .i64 0]) (by simp [results, Try.results31, go_sem]) rfl ⟨rfl, tbel1 w _⟩
def looseI (x : I7) : Bool := hasK [2, 3] x.k
def forcesI (x : I7) : Bool := hasK [3] x.k && decide (x.n ≤ -10000)
def forbidsI (x : I7) : Bool := hasK [3] x.k && decide (10000 ≤ x.n)
def totalI (x : I7) : T6 := if x.k = 1 then boxT x.h else if x.k = 2 then glueT x.h x.s x.o x.r else zeroT
theorem loose_any (x : I7) (w : World) : Calls Try.prog 8 #[itm x] w fun e w' => e = .returned (.bool (looseI x)) ∧ Below w.heap.size w w' := by
  unfold looseI
  have c := fun (w' : World) (g : Nat) (h : Blk w' g #[.int .i64 2, .int .i64 3] 3) => is_any x (some ⟨g, 0, none⟩) 2 [2, 3] w' (by simp) (row_2 h h.lt (by unfold inR; omega) (by unfold inR; omega))
  generalize hasK [2, 3] x.k = z at c ⊢
  obtain ⟨k, h, f, s, o, r, n⟩ := x
  unfold itm at *
  dsimp only at *
  go_enter Try.func8, Try.ntmps8
  go_wp2_with fail
  refine (c _ _ (blk_two w _ _ _)).mono ?_
  rintro e w1 ⟨rfl, b1⟩
  have b0 := tstep (tbel2 w _ _) b1 (tbel2 w _ _).size
  clear c b1
  go_wp2
  go_ret
  exact ⟨rfl, b0⟩
theorem forces_any (x : I7) (w : World) : Calls Try.prog 10 #[itm x] w fun e w' => e = .returned (.bool (forcesI x)) ∧ Below w.heap.size w w' := by
  unfold forcesI
  have c := fun (w' : World) (g : Nat) (h : Blk w' g #[.int .i64 3] 3) => is_any x (some ⟨g, 0, none⟩) 1 [3] w' (by simp) (row_1 h h.lt (by unfold inR; omega))
  generalize hasK [3] x.k = z at c ⊢
  obtain ⟨k, h, f, s, o, r, n⟩ := x
  unfold itm at *
  dsimp only at *
  cases z
  all_goals
    go_enter Try.func10, Try.ntmps10
    go_wp2_with fail
    refine (c _ _ (blk_two w _ _ _)).mono ?_
    rintro e w1 ⟨rfl, b1⟩
    have b0 := tstep (tbel2 w _ _) b1 (tbel2 w _ _).size
    have B := ((blk_new w _ _).alloc _).old b1
    obtain ⟨d0, d1, d2, d3, d4, d5, d6⟩ := B.seven
    clear c b1 B
    go_wp2
    go_ret
    exact ⟨rfl, b0⟩
theorem forbids_any (x : I7) (w : World) : Calls Try.prog 11 #[itm x] w fun e w' => e = .returned (.bool (forbidsI x)) ∧ Below w.heap.size w w' := by
  unfold forbidsI
  have c := fun (w' : World) (g : Nat) (h : Blk w' g #[.int .i64 3] 3) => is_any x (some ⟨g, 0, none⟩) 1 [3] w' (by simp) (row_1 h h.lt (by unfold inR; omega))
  generalize hasK [3] x.k = z at c ⊢
  obtain ⟨k, h, f, s, o, r, n⟩ := x
  unfold itm at *
  dsimp only at *
  cases z
  all_goals
    go_enter Try.func11, Try.ntmps11
    go_wp2_with fail
    refine (c _ _ (blk_two w _ _ _)).mono ?_
    rintro e w1 ⟨rfl, b1⟩
    have b0 := tstep (tbel2 w _ _) b1 (tbel2 w _ _).size
    have B := ((blk_new w _ _).alloc _).old b1
    obtain ⟨d0, d1, d2, d3, d4, d5, d6⟩ := B.seven
    clear c b1 B
    go_wp2
    go_ret
    exact ⟨rfl, b0⟩
theorem rloose_any (x : I7) (w : World) : Calls Try.prog 9 #[itm x] w fun e w' => e = .returned (.bool (looseI x)) ∧ Below w.heap.size w w' := by
  have e : looseI x = (decide (x.k = 2) || decide (x.k = 3)) := by unfold looseI hasK; simp
  rw [e]
  obtain ⟨k, h, f, s, o, r, n⟩ := x
  unfold itm
  dsimp only
  by_cases h2 : k = 2
  · subst h2
    go_enter Try.func9, Try.ntmps9
    go_wp2
    go_ret
    exact ⟨rfl, tbel1 w _⟩
  · have h2' : (k == 2) = false := by simpa using h2
    rw [decide_eq_false h2]
    go_enter Try.func9, Try.ntmps9
    go_wp2
    go_ret
    exact ⟨rfl, tbel1 w _⟩
theorem below_set6 {B b : Nat} {w x : World} (h : Below B w x) (hb : B ≤ b) (v0 v1 v2 v3 v4 v5 : Value) : Below B w ((((((x.setCell ⟨b, 0, none⟩ v0).setCell ⟨b, 1, none⟩ v1).setCell ⟨b, 2, none⟩ v2).setCell ⟨b, 3, none⟩ v3).setCell ⟨b, 4, none⟩ v4).setCell ⟨b, 5, none⟩ v5) :=
  (((((h.setCell (p := ⟨b, 0, none⟩) hb v0).setCell (p := ⟨b, 1, none⟩) hb v1).setCell (p := ⟨b, 2, none⟩) hb v2).setCell (p := ⟨b, 3, none⟩) hb v3).setCell (p := ⟨b, 4, none⟩) hb v4).setCell (p := ⟨b, 5, none⟩) hb v5
theorem itotal_1 (h f s o r n : Int) (w : World) : Calls Try.prog 12 #[.agg #[.int .i64 1, .int .i64 h, .int .i64 f, .int .i64 s, .int .i64 o, .int .i64 r, .int .i64 n]] w fun e w' => e = .returned (tot (boxT h)) ∧ Below w.heap.size w w' := by
  have c := box_any h
  generalize boxT h = t at c ⊢
  obtain ⟨t0, t1, t2, t3, t4, t5⟩ := t
  unfold tot at c ⊢
  dsimp only at c ⊢
  go_enter Try.func12, Try.ntmps12
  go_wp2_with fail
  refine (c _).mono ?_
  rintro e w1 ⟨rfl, b1⟩
  have b0 := tstep (tbel2 w _ _) b1 (tbel2 w _ _).size
  have B := (blk_two w _ _ _).old b1
  have f1 := B.six
  have f2 := B.six_free
  clear b1 c
  go_wp2
  refine bodyPost_ret (v := .agg #[.int .i64 t0, .int .i64 t1, .int .i64 t2, .int .i64 t3, .int .i64 t4, .int .i64 t5]) (by simp [results, Try.results12, go_sem, f1, f2]) rfl ⟨rfl, ?_⟩
  exact below_set6 b0 (by omega) _ _ _ _ _ _
theorem itotal_2 (h f s o r n : Int) (w : World) : Calls Try.prog 12 #[.agg #[.int .i64 2, .int .i64 h, .int .i64 f, .int .i64 s, .int .i64 o, .int .i64 r, .int .i64 n]] w fun e w' => e = .returned (tot (glueT h s o r)) ∧ Below w.heap.size w w' := by
  have c := glue_any h s o r
  generalize glueT h s o r = t at c ⊢
  obtain ⟨t0, t1, t2, t3, t4, t5⟩ := t
  unfold tot at c ⊢
  dsimp only at c ⊢
  go_enter Try.func12, Try.ntmps12
  go_wp2_with fail
  refine (c _).mono ?_
  rintro e w1 ⟨rfl, b1⟩
  have b0 := tstep (tbel2 w _ _) b1 (tbel2 w _ _).size
  have B := (blk_two w _ _ _).old b1
  have f1 := B.six
  have f2 := B.six_free
  clear b1 c
  go_wp2
  refine bodyPost_ret (v := .agg #[.int .i64 t0, .int .i64 t1, .int .i64 t2, .int .i64 t3, .int .i64 t4, .int .i64 t5]) (by simp [results, Try.results12, go_sem, f1, f2]) rfl ⟨rfl, ?_⟩
  exact below_set6 b0 (by omega) _ _ _ _ _ _
theorem itotal_0 (k h f s o r n : Int) (w : World) (h1 : (k == 1) = false) (h2 : (k == 2) = false) : Calls Try.prog 12 #[.agg #[.int .i64 k, .int .i64 h, .int .i64 f, .int .i64 s, .int .i64 o, .int .i64 r, .int .i64 n]] w fun e w' => e = .returned (tot zeroT) ∧ Below w.heap.size w w' := by
  unfold tot zeroT
  go_enter Try.func12, Try.ntmps12
  go_wp2
  exact bodyPost_ret (v := .agg #[.int .i64 0, .int .i64 0, .int .i64 0, .int .i64 0, .int .i64 0, .int .i64 0]) (by simp [results, Try.results12, go_sem]) rfl ⟨rfl, tbel2 w _ _⟩
theorem itotal_any (x : I7) (w : World) : Calls Try.prog 12 #[itm x] w fun e w' => e = .returned (tot (totalI x)) ∧ Below w.heap.size w w' := by
  obtain ⟨k, h, f, s, o, r, n⟩ := x
  unfold itm totalI
  dsimp only
  by_cases h1 : k = 1
  · subst h1
    rw [if_pos rfl]
    exact itotal_1 h f s o r n w
  · rw [if_neg h1]
    by_cases h2 : k = 2
    · subst h2
      rw [if_pos rfl]
      exact itotal_2 h f s o r n w
    · rw [if_neg h2]
      exact itotal_0 k h f s o r n w (by simpa using h1) (by simpa using h2)
theorem irtotal_1 (h f s o r n : Int) (w : World) : Calls Try.prog 13 #[.agg #[.int .i64 1, .int .i64 h, .int .i64 f, .int .i64 s, .int .i64 o, .int .i64 r, .int .i64 n]] w fun e w' => e = .returned (tot (boxT h)) ∧ Below w.heap.size w w' := by
  have c := rbox_any h
  generalize boxT h = t at c ⊢
  obtain ⟨t0, t1, t2, t3, t4, t5⟩ := t
  unfold tot at c ⊢
  dsimp only at c ⊢
  go_enter Try.func13, Try.ntmps13
  go_wp2_with fail
  refine (c _).mono ?_
  rintro e w1 ⟨rfl, b1⟩
  have b0 := tstep (tbel2 w _ _) b1 (tbel2 w _ _).size
  have B := (blk_two w _ _ _).old b1
  have f1 := B.six
  have f2 := B.six_free
  clear b1 c
  go_wp2
  refine bodyPost_ret (v := .agg #[.int .i64 t0, .int .i64 t1, .int .i64 t2, .int .i64 t3, .int .i64 t4, .int .i64 t5]) (by simp [results, Try.results13, go_sem, f1, f2]) rfl ⟨rfl, ?_⟩
  exact below_set6 b0 (by omega) _ _ _ _ _ _
theorem irtotal_2 (h f s o r n : Int) (w : World) : Calls Try.prog 13 #[.agg #[.int .i64 2, .int .i64 h, .int .i64 f, .int .i64 s, .int .i64 o, .int .i64 r, .int .i64 n]] w fun e w' => e = .returned (tot (glueT h s o r)) ∧ Below w.heap.size w w' := by
  have c := rglue_any h s o r
  generalize glueT h s o r = t at c ⊢
  obtain ⟨t0, t1, t2, t3, t4, t5⟩ := t
  unfold tot at c ⊢
  dsimp only at c ⊢
  go_enter Try.func13, Try.ntmps13
  go_wp2_with fail
  refine (c _).mono ?_
  rintro e w1 ⟨rfl, b1⟩
  have b0 := tstep (tbel2 w _ _) b1 (tbel2 w _ _).size
  have B := (blk_two w _ _ _).old b1
  have f1 := B.six
  have f2 := B.six_free
  clear b1 c
  go_wp2
  refine bodyPost_ret (v := .agg #[.int .i64 t0, .int .i64 t1, .int .i64 t2, .int .i64 t3, .int .i64 t4, .int .i64 t5]) (by simp [results, Try.results13, go_sem, f1, f2]) rfl ⟨rfl, ?_⟩
  exact below_set6 b0 (by omega) _ _ _ _ _ _
theorem irtotal_0 (k h f s o r n : Int) (w : World) (h1 : (k == 1) = false) (h2 : (k == 2) = false) : Calls Try.prog 13 #[.agg #[.int .i64 k, .int .i64 h, .int .i64 f, .int .i64 s, .int .i64 o, .int .i64 r, .int .i64 n]] w fun e w' => e = .returned (tot zeroT) ∧ Below w.heap.size w w' := by
  unfold tot zeroT
  go_enter Try.func13, Try.ntmps13
  go_wp2
  exact bodyPost_ret (v := .agg #[.int .i64 0, .int .i64 0, .int .i64 0, .int .i64 0, .int .i64 0, .int .i64 0]) (by simp [results, Try.results13, go_sem]) rfl ⟨rfl, tbel2 w _ _⟩
theorem irtotal_any (x : I7) (w : World) : Calls Try.prog 13 #[itm x] w fun e w' => e = .returned (tot (totalI x)) ∧ Below w.heap.size w w' := by
  obtain ⟨k, h, f, s, o, r, n⟩ := x
  unfold itm totalI
  dsimp only
  by_cases h1 : k = 1
  · subst h1
    rw [if_pos rfl]
    exact irtotal_1 h f s o r n w
  · rw [if_neg h1]
    by_cases h2 : k = 2
    · subst h2
      rw [if_pos rfl]
      exact irtotal_2 h f s o r n w
    · rw [if_neg h2]
      exact irtotal_0 k h f s o r n w (by simpa using h1) (by simpa using h2)
end Go.Proofs.Ytinkjpcilpdaaaa
