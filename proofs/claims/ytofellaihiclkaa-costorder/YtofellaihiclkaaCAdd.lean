/- Add of package cost. -/
import Derived.Test.YtofellaihiclkaaCPut
import Derived.Lib.Hide
namespace Go.Proofs.Ytofellaihiclkaa
open Go.RowKit
set_option linter.unusedVariables false

theorem each_two (m b : Nat) (x0 x1 y0 y1 : Int) (s1 s2 s3 : Int × Int) (w : World) (hb : b < w.heap.size) (hbm : b ≠ m) (hm : CAt w m s1)
    (h0 : w.cell? ⟨b, 0, none⟩ = some (.int .i64 x0)) (h1 : w.cell? ⟨b, 1, none⟩ = some (.int .i64 x1)) (h2 : w.cell? ⟨b, 2, none⟩ = some (.int .i64 y0)) (h3 : w.cell? ⟨b, 3, none⟩ = some (.int .i64 y1))
    (c1 : ∀ w, CAt w m s1 → Calls Try.prog 16 #[.pointer (some ⟨m, 0, none⟩), .agg #[.int .i64 x0, .int .i64 x1]] w fun e w' => e = .returned (.tuple #[]) ∧ CAt w' m s2 ∧ But m w w')
    (c2 : ∀ w, CAt w m s2 → Calls Try.prog 16 #[.pointer (some ⟨m, 0, none⟩), .agg #[.int .i64 y0, .int .i64 y1]] w fun e w' => e = .returned (.tuple #[]) ∧ CAt w' m s3 ∧ But m w w') :
    Calls Try.prog 21 #[.func (.func 16) #[.pointer (some ⟨m, 0, none⟩)] #[], .slice (some ⟨b, 0, none⟩) 2 2] w fun e w' => e = .returned (.tuple #[]) ∧ CAt w' m s3 ∧ But m w w' := by
  go_enter Try.func21, Try.ntmps21
  go_wp2
  refine wp_loop_rounds 3 ?_
  rw [rounds_succ]
  go_wp2_with fail
  refine (c1 _ (Cel2.alloc hm _)).mono ?_
  rintro e w1 ⟨rfl, m1, u1⟩
  have u1' : But m w w1 := (But.of_below (bel1 w _)).trans u1
  have g2 := (u1'.cell (p := ⟨b, 2, none⟩) hb hbm).trans h2
  have g3 := (u1'.cell (p := ⟨b, 3, none⟩) hb hbm).trans h3
  clear h0 h1 h2 h3 u1
  go_wp2_with fail
  rw [rounds_succ]
  go_wp2_with fail
  refine (c2 _ (Cel2.alloc m1 _)).mono ?_
  rintro e w2 ⟨rfl, m2, u2⟩
  have u2' : But m w w2 := u1'.trans ((But.of_below (bel1 w1 _)).trans u2)
  go_wp2_with fail
  rw [rounds_succ]
  go_wp2
  go_end0
  exact ⟨rfl, m2, u2'⟩
theorem Add_walk (a0 a1 b0 b1 : Int) (r : Int × Int) (w : World)
    (c1 : ∀ m b w, b < w.heap.size → b ≠ m → CAt w m (0, 0) → w.cell? ⟨b, 0, none⟩ = some (.int .i64 a0) → w.cell? ⟨b, 1, none⟩ = some (.int .i64 a1) → w.cell? ⟨b, 2, none⟩ = some (.int .i64 b0) → w.cell? ⟨b, 3, none⟩ = some (.int .i64 b1) →
      Calls Try.prog 21 #[.func (.func 16) #[.pointer (some ⟨m, 0, none⟩)] #[], .slice (some ⟨b, 0, none⟩) 2 2] w fun e w' => e = .returned (.tuple #[]) ∧ CAt w' m r ∧ But m w w')
    (c2 : ∀ m w, CAt w m r → Calls Try.prog 17 #[.pointer (some ⟨m, 0, none⟩)] w fun e w' => e = .returned (.agg #[.int .i64 r.1, .int .i64 r.2]) ∧ Below w.heap.size w w') :
    Calls Try.prog 7 #[.agg #[.int .i64 a0, .int .i64 a1], .agg #[.int .i64 b0, .int .i64 b1]] w fun e w' => e = .returned (.agg #[.int .i64 r.1, .int .i64 r.2]) ∧ Below w.heap.size w w' := by
  go_enter Try.func7, Try.ntmps7
  go_wp2_with fail
  have hb := bel3 w (.cells #[.int .i64 a0, .int .i64 a1] 23) (.cells #[.int .i64 b0, .int .i64 b1] 23) (.cells #[.int .i64 0, .int .i64 0] 23)
  have hs : (((w.alloc (.cells #[.int .i64 a0, .int .i64 a1] 23)).alloc (.cells #[.int .i64 b0, .int .i64 b1] 23)).alloc (.cells #[.int .i64 0, .int .i64 0] 23)).heap.size = w.heap.size + 1 + 1 + 1 := by simp
  have m0 := cel2_new ((w.alloc (.cells #[.int .i64 a0, .int .i64 a1] 23)).alloc (.cells #[.int .i64 b0, .int .i64 b1] 23)) (.int .i64 0) (.int .i64 0) 23
  rw [World.size_alloc, World.size_alloc] at m0
  generalize ((w.alloc (.cells #[.int .i64 a0, .int .i64 a1] 23)).alloc (.cells #[.int .i64 b0, .int .i64 b1] 23)).alloc (.cells #[.int .i64 0, .int .i64 0] 23) = W at hb hs m0 ⊢
  rw [← hs]
  refine (c1 _ _ _ (by simp) (by simp) (Cel2.alloc (cel2_new W (.int .i64 0) (.int .i64 0) 35) _) (by simp) (by simp) (by simp) (by simp)).mono ?_
  rintro e w1 ⟨rfl, m1, u1⟩
  have v1 : Below W.heap.size W w1 := (bel2 W _ _).trans (u1.below (by simp; omega))
  have m2 := m0.carry v1 (by omega)
  have v1' := bstep hb v1 (by omega)
  have z1 : w.heap.size + 1 + 1 + 1 ≤ w1.heap.size := by have := v1.size; omega
  clear u1 m0 hb hs v1
  go_wp2_with fail
  refine (c2 _ _ m1).mono ?_
  rintro e w2 ⟨rfl, u2⟩
  have m3 := m2.carry u2 (by omega)
  obtain ⟨m30, m31, m32, m33⟩ := m3
  have v2 : Below w.heap.size w w2 := bstep v1' u2 (by omega)
  clear m1 m2 v1' u2
  go_wp2
  refine bodyPost_ret (v := .agg #[.int .i64 r.1, .int .i64 r.2]) (by simp [results, Try.results7, go_sem, *]) rfl ⟨rfl, ?_⟩
  exact (v2.setCell (p := ⟨w.heap.size + 1 + 1, 0, none⟩) (by simp; omega) _).setCell (p := ⟨w.heap.size + 1 + 1, 1, none⟩) (by simp; omega) _
theorem Add_any (a b : Int × Int) (w : World) : Calls Try.prog 7 #[cst a, cst b] w fun e w' => e = .returned (cst (addC a b)) ∧ Below w.heap.size w w' := by
  have e : addC (addC (0, 0) a) b = addC a b := by
    unfold addC
    simp only
    have h : ∀ x y, lad (lad 0 x) y = lad x y := fun x y => by unfold lad; simp [lev_of (lev_lvl x), show lev 0 = 0 from rfl]
    rw [h, h]
  rw [← e]
  exact Add_walk a.1 a.2 b.1 b.2 _ w (fun m b' w hb hbm hm h0 h1 h2 h3 => each_two m b' _ _ _ _ _ _ _ w hb hbm hm h0 h1 h2 h3 (fun w h => put_any m _ a w h okC_zero) (fun w h => put_any m _ b w h (okC_add _ _)))
    (fun m w h => cost_any m _ w h)
end Go.Proofs.Ytofellaihiclkaa
