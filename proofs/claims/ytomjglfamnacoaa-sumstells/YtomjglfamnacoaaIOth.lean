/- The other calls of package item, and the document's. -/
import Derived.Test.YtomjglfamnacoaaIMath
import Derived.Test.YtomjglfamnacoaaTSm
namespace Go.Proofs.Ytomjglfamnacoaa
open Go.RowKit
set_option maxRecDepth 20000
set_option linter.unusedVariables false
set_option linter.unusedSimpArgs false

def looseI (x : I7) : Bool := hasK [2, 3] x.k
def forcesI (x : I7) : Bool := hasK [3] x.k && decide (x.n ≤ -10000)
def forbidsI (x : I7) : Bool := hasK [3] x.k && decide (10000 ≤ x.n)
def totalI (x : I7) : T6 := if x.k = 1 then boxT x.h else if x.k = 2 then glueT x.h x.s x.o x.r else zeroT
theorem below_set6 {B b : Nat} {w x : World} (h : Below B w x) (hb : B ≤ b) (v0 v1 v2 v3 v4 v5 : Value) : Below B w ((((((x.setCell ⟨b, 0, none⟩ v0).setCell ⟨b, 1, none⟩ v1).setCell ⟨b, 2, none⟩ v2).setCell ⟨b, 3, none⟩ v3).setCell ⟨b, 4, none⟩ v4).setCell ⟨b, 5, none⟩ v5) :=
  (((((h.setCell (p := ⟨b, 0, none⟩) hb v0).setCell (p := ⟨b, 1, none⟩) hb v1).setCell (p := ⟨b, 2, none⟩) hb v2).setCell (p := ⟨b, 3, none⟩) hb v3).setCell (p := ⟨b, 4, none⟩) hb v4).setCell (p := ⟨b, 5, none⟩) hb v5
theorem itotal_1 (h f s o r n : Int) (w : World) : Calls Try.prog 18 #[.agg #[.int .i64 1, .int .i64 h, .int .i64 f, .int .i64 s, .int .i64 o, .int .i64 r, .int .i64 n]] w fun e w' => e = .returned (tot (boxT h)) ∧ Below w.heap.size w w' := by
  have c := box_any h
  generalize boxT h = t at c ⊢
  obtain ⟨t0, t1, t2, t3, t4, t5⟩ := t
  unfold tot at c ⊢
  dsimp only at c ⊢
  go_enter Try.func18, Try.ntmps18
  go_wp2_with fail
  refine (c _).mono ?_
  rintro e w1 ⟨rfl, b1⟩
  have b0 := tstep (tbel2 w _ _) b1 (tbel2 w _ _).size
  have B := (blk_two w _ _ _).old b1
  have f1 := B.six
  have f2 := B.six_free
  clear b1 c
  go_wp2
  refine bodyPost_ret (v := .agg #[.int .i64 t0, .int .i64 t1, .int .i64 t2, .int .i64 t3, .int .i64 t4, .int .i64 t5]) (by simp [results, Try.results18, go_sem, f1, f2]) rfl ⟨rfl, ?_⟩
  exact below_set6 b0 (by omega) _ _ _ _ _ _
theorem itotal_2 (h f s o r n : Int) (w : World) : Calls Try.prog 18 #[.agg #[.int .i64 2, .int .i64 h, .int .i64 f, .int .i64 s, .int .i64 o, .int .i64 r, .int .i64 n]] w fun e w' => e = .returned (tot (glueT h s o r)) ∧ Below w.heap.size w w' := by
  have c := glue_any h s o r
  generalize glueT h s o r = t at c ⊢
  obtain ⟨t0, t1, t2, t3, t4, t5⟩ := t
  unfold tot at c ⊢
  dsimp only at c ⊢
  go_enter Try.func18, Try.ntmps18
  go_wp2_with fail
  refine (c _).mono ?_
  rintro e w1 ⟨rfl, b1⟩
  have b0 := tstep (tbel2 w _ _) b1 (tbel2 w _ _).size
  have B := (blk_two w _ _ _).old b1
  have f1 := B.six
  have f2 := B.six_free
  clear b1 c
  go_wp2
  refine bodyPost_ret (v := .agg #[.int .i64 t0, .int .i64 t1, .int .i64 t2, .int .i64 t3, .int .i64 t4, .int .i64 t5]) (by simp [results, Try.results18, go_sem, f1, f2]) rfl ⟨rfl, ?_⟩
  exact below_set6 b0 (by omega) _ _ _ _ _ _
theorem itotal_0 (k h f s o r n : Int) (w : World) (h1 : (k == 1) = false) (h2 : (k == 2) = false) : Calls Try.prog 18 #[.agg #[.int .i64 k, .int .i64 h, .int .i64 f, .int .i64 s, .int .i64 o, .int .i64 r, .int .i64 n]] w fun e w' => e = .returned (tot zeroT) ∧ Below w.heap.size w w' := by
  unfold tot zeroT
  go_enter Try.func18, Try.ntmps18
  go_wp2
  exact bodyPost_ret (v := .agg #[.int .i64 0, .int .i64 0, .int .i64 0, .int .i64 0, .int .i64 0, .int .i64 0]) (by simp [results, Try.results18, go_sem]) rfl ⟨rfl, tbel2 w _ _⟩
theorem itotal_any (x : I7) (w : World) : Calls Try.prog 18 #[itm x] w fun e w' => e = .returned (tot (totalI x)) ∧ Below w.heap.size w w' := by
  obtain ⟨k, h, f, s, o, r, n⟩ := x
  unfold itm totalI
  dsimp only
  by_cases h1 : k = 1
  · subst h1
    rw [if_pos rfl]
    exact itotal_1 h f s o r n w
  · rw [if_neg h1]
    by_cases h2 : k = 2
    · subst h2
      rw [if_pos rfl]
      exact itotal_2 h f s o r n w
    · rw [if_neg h2]
      exact itotal_0 k h f s o r n w (by simpa using h1) (by simpa using h2)
theorem irtotal_1 (h f s o r n : Int) (w : World) : Calls Try.prog 22 #[.agg #[.int .i64 1, .int .i64 h, .int .i64 f, .int .i64 s, .int .i64 o, .int .i64 r, .int .i64 n]] w fun e w' => e = .returned (tot (boxT h)) ∧ Below w.heap.size w w' := by
  have c := rbox_any h
  generalize boxT h = t at c ⊢
  obtain ⟨t0, t1, t2, t3, t4, t5⟩ := t
  unfold tot at c ⊢
  dsimp only at c ⊢
  go_enter Try.func22, Try.ntmps22
  go_wp2_with fail
  refine (c _).mono ?_
  rintro e w1 ⟨rfl, b1⟩
  have b0 := tstep (tbel2 w _ _) b1 (tbel2 w _ _).size
  have B := (blk_two w _ _ _).old b1
  have f1 := B.six
  have f2 := B.six_free
  clear b1 c
  go_wp2
  refine bodyPost_ret (v := .agg #[.int .i64 t0, .int .i64 t1, .int .i64 t2, .int .i64 t3, .int .i64 t4, .int .i64 t5]) (by simp [results, Try.results22, go_sem, f1, f2]) rfl ⟨rfl, ?_⟩
  exact below_set6 b0 (by omega) _ _ _ _ _ _
theorem irtotal_2 (h f s o r n : Int) (w : World) : Calls Try.prog 22 #[.agg #[.int .i64 2, .int .i64 h, .int .i64 f, .int .i64 s, .int .i64 o, .int .i64 r, .int .i64 n]] w fun e w' => e = .returned (tot (glueT h s o r)) ∧ Below w.heap.size w w' := by
  have c := rglue_any h s o r
  generalize glueT h s o r = t at c ⊢
  obtain ⟨t0, t1, t2, t3, t4, t5⟩ := t
  unfold tot at c ⊢
  dsimp only at c ⊢
  go_enter Try.func22, Try.ntmps22
  go_wp2_with fail
  refine (c _).mono ?_
  rintro e w1 ⟨rfl, b1⟩
  have b0 := tstep (tbel2 w _ _) b1 (tbel2 w _ _).size
  have B := (blk_two w _ _ _).old b1
  have f1 := B.six
  have f2 := B.six_free
  clear b1 c
  go_wp2
  refine bodyPost_ret (v := .agg #[.int .i64 t0, .int .i64 t1, .int .i64 t2, .int .i64 t3, .int .i64 t4, .int .i64 t5]) (by simp [results, Try.results22, go_sem, f1, f2]) rfl ⟨rfl, ?_⟩
  exact below_set6 b0 (by omega) _ _ _ _ _ _
theorem irtotal_0 (k h f s o r n : Int) (w : World) (h1 : (k == 1) = false) (h2 : (k == 2) = false) : Calls Try.prog 22 #[.agg #[.int .i64 k, .int .i64 h, .int .i64 f, .int .i64 s, .int .i64 o, .int .i64 r, .int .i64 n]] w fun e w' => e = .returned (tot zeroT) ∧ Below w.heap.size w w' := by
  unfold tot zeroT
  go_enter Try.func22, Try.ntmps22
  go_wp2
  exact bodyPost_ret (v := .agg #[.int .i64 0, .int .i64 0, .int .i64 0, .int .i64 0, .int .i64 0, .int .i64 0]) (by simp [results, Try.results22, go_sem]) rfl ⟨rfl, tbel2 w _ _⟩
theorem irtotal_any (x : I7) (w : World) : Calls Try.prog 22 #[itm x] w fun e w' => e = .returned (tot (totalI x)) ∧ Below w.heap.size w w' := by
  obtain ⟨k, h, f, s, o, r, n⟩ := x
  unfold itm totalI
  dsimp only
  by_cases h1 : k = 1
  · subst h1
    rw [if_pos rfl]
    exact irtotal_1 h f s o r n w
  · rw [if_neg h1]
    by_cases h2 : k = 2
    · subst h2
      rw [if_pos rfl]
      exact irtotal_2 h f s o r n w
    · rw [if_neg h2]
      exact irtotal_0 k h f s o r n w (by simpa using h1) (by simpa using h2)
end Go.Proofs.Ytomjglfamnacoaa
