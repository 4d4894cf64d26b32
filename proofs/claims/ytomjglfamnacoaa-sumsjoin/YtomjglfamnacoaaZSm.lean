/- The small functions of package sums and the document's: small, fair, with. -/
import Derived.Test.YtomjglfamnacoaaZMath
import Derived.Test.YtomjglfamnacoaaTPair
import Derived.Test.YtomjglfamnacoaaTRef
namespace Go.Proofs.Ytomjglfamnacoaa
open Go.RowKit
set_option maxRecDepth 20000
set_option linter.unusedVariables false
set_option linter.unusedSimpArgs false

/-- What the items before a position add up to. -/
structure S8 where
  t : T6
  b : Int
  g : Int
def encS (x : S8) : List Value := [.int .i64 x.t.n, .int .i64 x.t.s0, .int .i64 x.t.s1, .int .i64 x.t.s2, .int .i64 x.t.s3, .int .i64 x.t.h, .int .i64 x.b, .int .i64 x.g]
def sm8 (x : S8) : Value := .agg #[.int .i64 x.t.n, .int .i64 x.t.s0, .int .i64 x.t.s1, .int .i64 x.t.s2, .int .i64 x.t.s3, .int .i64 x.t.h, .int .i64 x.b, .int .i64 x.g]
def zero8 : S8 := ⟨zeroT, 0, 0⟩
def sumK (l : List I7) (k : Nat) : S8 := ⟨preM l k, preS (boxK l) k, ((gluK l k).length : Int)⟩
theorem encS_len (x : S8) : (encS x).length = 8 := rfl
section
variable {w w' : World} {g b B : Nat} {T : TypeId}
theorem Blk.eight {v0 v1 v2 v3 v4 v5 v6 v7 : Value} (h : Blk w g #[v0, v1, v2, v3, v4, v5, v6, v7] T) : w.cell? ⟨g, 0, none⟩ = some v0 ∧ w.cell? ⟨g, 1, none⟩ = some v1 ∧ w.cell? ⟨g, 2, none⟩ = some v2 ∧ w.cell? ⟨g, 3, none⟩ = some v3 ∧ w.cell? ⟨g, 4, none⟩ = some v4 ∧ w.cell? ⟨g, 5, none⟩ = some v5 ∧ w.cell? ⟨g, 6, none⟩ = some v6 ∧ w.cell? ⟨g, 7, none⟩ = some v7 := by
  unfold Blk at h
  simp [World.cell?, h]
theorem Blk.eight_free {v0 v1 v2 v3 v4 v5 v6 v7 : Value} (h : Blk w g #[v0, v1, v2, v3, v4, v5, v6, v7] T) : w.frozen? ⟨g, 0, none⟩ = false ∧ w.frozen? ⟨g, 1, none⟩ = false ∧ w.frozen? ⟨g, 2, none⟩ = false ∧ w.frozen? ⟨g, 3, none⟩ = false ∧ w.frozen? ⟨g, 4, none⟩ = false ∧ w.frozen? ⟨g, 5, none⟩ = false ∧ w.frozen? ⟨g, 6, none⟩ = false ∧ w.frozen? ⟨g, 7, none⟩ = false := by
  unfold Blk at h
  simp [World.frozen?, h]
theorem below_set8 {B b : Nat} {w x : World} (h : Below B w x) (hb : B ≤ b) (v0 v1 v2 v3 v4 v5 v6 v7 : Value) : Below B w ((((((((x.setCell ⟨b, 0, none⟩ v0).setCell ⟨b, 1, none⟩ v1).setCell ⟨b, 2, none⟩ v2).setCell ⟨b, 3, none⟩ v3).setCell ⟨b, 4, none⟩ v4).setCell ⟨b, 5, none⟩ v5).setCell ⟨b, 6, none⟩ v6).setCell ⟨b, 7, none⟩ v7) :=
  ((below_set6 h hb v0 v1 v2 v3 v4 v5).setCell (p := ⟨b, 6, none⟩) hb v6).setCell (p := ⟨b, 7, none⟩) hb v7
end
theorem okS_lo {x : Int} (h : x < 0) : okS x = false := by
  unfold okS
  exact decide_eq_false (by omega)
theorem okS_hi {x : Int} (h : x > 4294967296) : okS x = false := by
  unfold okS
  exact decide_eq_false (by omega)
theorem okS_yes {x : Int} (h : ¬ x < 0) (h2 : ¬ x > 4294967296) : okS x = true := by
  unfold okS
  exact decide_eq_true (by omega)
theorem small_any (a : Int) (w : World) : Calls Try.prog 31 #[.int .i64 a] w fun e w' => e = .returned (.bool (okS a)) ∧ w' = w := by
  by_cases h1 : a < 0
  · rw [okS_lo h1]
    go_enter Try.func31, Try.ntmps31
    go_wp2
    go_ret
    exact ⟨rfl, rfl⟩
  · by_cases h2 : a > 4294967296
    · rw [okS_hi h2]
      go_enter Try.func31, Try.ntmps31
      go_wp2
      go_ret
      exact ⟨by simp <;> omega, rfl⟩
    · rw [okS_yes h1 h2]
      go_enter Try.func31, Try.ntmps31
      go_wp2
      go_ret
      exact ⟨rfl, rfl⟩
set_option maxHeartbeats 1000000 in
theorem sfair_any (t : T6) (w : World) : Calls Try.prog 19 #[tot t] w fun e w' => e = .returned (.bool (fairT t)) ∧ Below w.heap.size w w' := by
  obtain ⟨n, s0, s1, s2, s3, h⟩ := t
  unfold tot fairT
  dsimp only
  have c0 := small_any s0
  have c1 := small_any s1
  have c2 := small_any s2
  have c3 := small_any s3
  have cn := small_any n
  have ch := small_any h
  generalize okS s0 = o0, okS s1 = o1, okS s2 = o2, okS s3 = o3, okS n = on, okS h = oh at c0 c1 c2 c3 cn ch ⊢
  obtain ⟨i0, i1, i2, i3⟩ := at4 (.int .i64 s0) (.int .i64 s1) (.int .i64 s2) (.int .i64 s3)
  go_enter Try.func19, Try.ntmps19
  go_wp2
  refine wp_loop_rounds 5 ?_
  rw [rounds_succ]
  go_wp2_with fail
  refine (c0 _).mono ?_
  rintro e w1 ⟨rfl, rfl⟩
  cases o0
  · go_wp2
    go_ret
    exact ⟨by simp, tbel1 w _⟩
  go_wp2
  rw [rounds_succ]
  go_wp2_with fail
  refine (c1 _).mono ?_
  rintro e w1 ⟨rfl, rfl⟩
  cases o1
  · go_wp2
    go_ret
    exact ⟨by simp, tbel1 w _⟩
  go_wp2
  rw [rounds_succ]
  go_wp2_with fail
  refine (c2 _).mono ?_
  rintro e w1 ⟨rfl, rfl⟩
  cases o2
  · go_wp2
    go_ret
    exact ⟨by simp, tbel1 w _⟩
  go_wp2
  rw [rounds_succ]
  go_wp2_with fail
  refine (c3 _).mono ?_
  rintro e w1 ⟨rfl, rfl⟩
  cases o3
  · go_wp2
    go_ret
    exact ⟨by simp, tbel1 w _⟩
  go_wp2
  rw [rounds_succ]
  go_wp2_with fail
  refine (cn _).mono ?_
  rintro e w1 ⟨rfl, rfl⟩
  cases on
  · go_wp2
    go_ret
    exact ⟨by simp, tbel1 w _⟩
  go_wp2_with fail
  refine (ch _).mono ?_
  rintro e w1 ⟨rfl, rfl⟩
  go_wp2
  go_ret
  exact ⟨by simp, tbel1 w _⟩
set_option maxHeartbeats 2000000 in
theorem rfair_any (t : T6) (w : World) : Calls Try.prog 21 #[tot t] w fun e w' => e = .returned (.bool (fairT t)) ∧ Below w.heap.size w w' := by
  obtain ⟨n, s0, s1, s2, s3, h⟩ := t
  unfold tot fairT
  dsimp only
  go_enter Try.func21, Try.ntmps21
  go_wp2
  refine wp_loop_rounds 5 ?_
  rw [rounds_succ]
  by_cases a : s0 < 0
  · go_wp2
    go_ret
    exact ⟨by rw [okS_lo a]; simp, tbel1 w _⟩
  by_cases b : s0 > 4294967296
  · go_wp2
    go_ret
    exact ⟨by rw [okS_hi b]; simp <;> omega, tbel1 w _⟩
  have e0 := Lib.hid (okS_yes a b)
  go_wp2
  clear a b
  rw [rounds_succ]
  by_cases a : s1 < 0
  · go_wp2
    go_ret
    exact ⟨by rw [e0.out, okS_lo a]; simp, tbel1 w _⟩
  by_cases b : s1 > 4294967296
  · go_wp2
    go_ret
    exact ⟨by rw [e0.out, okS_hi b]; simp <;> omega, tbel1 w _⟩
  have e1 := Lib.hid (okS_yes a b)
  go_wp2
  clear a b
  rw [rounds_succ]
  by_cases a : s2 < 0
  · go_wp2
    go_ret
    exact ⟨by rw [e0.out, e1.out, okS_lo a]; simp, tbel1 w _⟩
  by_cases b : s2 > 4294967296
  · go_wp2
    go_ret
    exact ⟨by rw [e0.out, e1.out, okS_hi b]; simp <;> omega, tbel1 w _⟩
  have e2 := Lib.hid (okS_yes a b)
  go_wp2
  clear a b
  rw [rounds_succ]
  by_cases a : s3 < 0
  · go_wp2
    go_ret
    exact ⟨by rw [e0.out, e1.out, e2.out, okS_lo a]; simp, tbel1 w _⟩
  by_cases b : s3 > 4294967296
  · go_wp2
    go_ret
    exact ⟨by rw [e0.out, e1.out, e2.out, okS_hi b]; simp <;> omega, tbel1 w _⟩
  have e3 := Lib.hid (okS_yes a b)
  go_wp2
  clear a b
  rw [rounds_succ]
  by_cases a : n < 0
  · go_wp2
    go_ret
    exact ⟨by rw [e0.out, e1.out, e2.out, e3.out, okS_lo a]; simp, tbel1 w _⟩
  by_cases b : n > 4294967296
  · go_wp2
    go_ret
    exact ⟨by rw [e0.out, e1.out, e2.out, e3.out, okS_hi b]; simp <;> omega, tbel1 w _⟩
  have e4 := Lib.hid (okS_yes a b)
  have a4 := a
  have b4 := b
  clear a b
  by_cases a : h < 0
  · go_wp2
    go_ret
    exact ⟨by rw [e0.out, e1.out, e2.out, e3.out, e4.out, okS_lo a]; simp, tbel1 w _⟩
  by_cases b : h > 4294967296
  · go_wp2
    go_ret
    exact ⟨by rw [e0.out, e1.out, e2.out, e3.out, e4.out, okS_hi b]; simp <;> omega, tbel1 w _⟩
  have e5 := Lib.hid (okS_yes a b)
  go_wp2
  go_ret
  exact ⟨by rw [e0.out, e1.out, e2.out, e3.out, e4.out, e5.out]; simp, tbel1 w _⟩
/-- The sum before the next position. -/
def withS (s : S8) (k : Int) (t : T6) : S8 := ⟨plusT s.t t, if k = 1 then s.b + t.n else s.b, if k = 2 then s.g + 1 else s.g⟩
theorem sumK_next (l : List I7) (k : Nat) : sumK l (k + 1) = withS (sumK l k) (l.getD k zeroI).k (totK l k) := by
  unfold sumK withS
  rw [preM_next, preS, boxK_tot, gluK]
  dsimp only
  congr 1
  · split
    · rfl
    · omega
  · split
    · simp
    · rfl
set_option maxHeartbeats 2000000 in
theorem with_any (s : S8) (k : Int) (t : T6) (w : World) (hs : inT s.t) (ht : inT t) (hp : inT (plusT s.t t)) (hb : inR (s.b + t.n)) (hg : inR (s.g + 1)) :
    Calls Try.prog 20 #[sm8 s, .int .i64 k, tot t] w fun e w' => e = .returned (sm8 (withS s k t)) ∧ Below w.heap.size w w' := by
  have c := fun w => TAdd_any s.t t w hs ht
  rw [add_fits hp] at c
  clear hs ht
  unfold inR at hb hg
  unfold withS
  generalize plusT s.t t = p at c hp ⊢
  clear hp
  obtain ⟨⟨a0, a1, a2, a3, a4, a5⟩, sb, sg⟩ := s
  obtain ⟨t0, t1, t2, t3, t4, t5⟩ := t
  obtain ⟨p0, p1, p2, p3, p4, p5⟩ := p
  unfold sm8
  unfold twoT tot at *
  dsimp only at *
  go_enter Try.func20, Try.ntmps20
  go_wp2_with fail
  refine (c _).mono ?_
  rintro e w1 ⟨rfl, b1⟩
  have b0 := tstep (tbel3 w _ _ _) b1 (tbel3 w _ _ _).size
  have B6 := (blk_three w _ _ _ _).old b1
  have B5 := ((blk_two w _ _ _).alloc _).old b1
  have B3 := (((blk_new w _ _).alloc _).alloc _).old b1
  have f3 := B3.eight
  have g3 := B3.eight_free
  have f5 := B5.six
  have f6 := B6.eight
  have g6 := B6.eight_free
  clear b1 c B3 B5 B6
  by_cases k1 : k = 1
  · subst k1
    go_wp2
    refine bodyPost_ret (v := .agg #[.int .i64 p0, .int .i64 p1, .int .i64 p2, .int .i64 p3, .int .i64 p4, .int .i64 p5, .int .i64 (sb + t0), .int .i64 sg]) (by simp [results, Try.results20, go_sem, *]) rfl ⟨rfl, ?_⟩
    exact below_set8 ((below_set6 b0 (by omega) _ _ _ _ _ _).setCell (p := ⟨w.heap.size, 6, none⟩) (by simp) _) (by omega) _ _ _ _ _ _ _ _
  · by_cases k2 : k = 2
    · subst k2
      go_wp2
      refine bodyPost_ret (v := .agg #[.int .i64 p0, .int .i64 p1, .int .i64 p2, .int .i64 p3, .int .i64 p4, .int .i64 p5, .int .i64 sb, .int .i64 (sg + 1)]) (by simp [results, Try.results20, go_sem, *]) rfl ⟨rfl, ?_⟩
      exact below_set8 ((below_set6 b0 (by omega) _ _ _ _ _ _).setCell (p := ⟨w.heap.size, 7, none⟩) (by simp) _) (by omega) _ _ _ _ _ _ _ _
    · go_wp2
      refine bodyPost_ret (v := .agg #[.int .i64 p0, .int .i64 p1, .int .i64 p2, .int .i64 p3, .int .i64 p4, .int .i64 p5, .int .i64 sb, .int .i64 sg]) (by simp [results, Try.results20, go_sem, *]) rfl ⟨by simp [k1, k2], ?_⟩
      exact below_set8 (below_set6 b0 (by omega) _ _ _ _ _ _) (by omega) _ _ _ _ _ _ _ _
end Go.Proofs.Ytomjglfamnacoaa
