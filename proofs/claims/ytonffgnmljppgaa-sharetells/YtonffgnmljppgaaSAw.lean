/- The laws' awake of layer 8. -/
import Derived.Test.YtonffgnmljppgaaSRall
namespace Go.Proofs.Ytonffgnmljppgaa
open Go.RowKit Go.Shelf
set_option linter.unusedVariables false
set_option linter.unusedSimpArgs false
attribute [local go_sem] Oper.semAt_some

theorem lit3_row (w : World) (x y z : Int) (hx : inR x) (hy : inR y) (hz : inR z) : IRow (w.heap.size + 1) (w.alloc (.cells #[.int .i64 x, .int .i64 y, .int .i64 z] 22)) (some ⟨w.heap.size, 0, none⟩) [x, y, z] := fun k hk => by
  have h : k = 0 ∨ k = 1 ∨ k = 2 := by simp at hk; omega
  rcases h with rfl | rfl | rfl
  · exact ⟨hx, _, _, rfl, by omega, by simp⟩
  · exact ⟨hy, _, _, rfl, by omega, by simp⟩
  · exact ⟨hz, _, _, rfl, by omega, by simp⟩
theorem lit2_row (w : World) (x y : Int) (hx : inR x) (hy : inR y) : IRow (w.heap.size + 1) (w.alloc (.cells #[.int .i64 x, .int .i64 y] 22)) (some ⟨w.heap.size, 0, none⟩) [x, y] := fun k hk => by
  have h : k = 0 ∨ k = 1 := by simp at hk; omega
  rcases h with rfl | rfl
  · exact ⟨hx, _, _, rfl, by omega, by simp⟩
  · exact ⟨hy, _, _, rfl, by omega, by simp⟩
/-- What awake adds up. -/
def accS (l : List (Nat × Int)) : Int := l.foldl (fun n x => wrap64 (n + wrap64 ((x.1 : Int) * x.2))) 0
theorem accS_snoc (pre : List (Nat × Int)) (x : Nat × Int) : accS (pre ++ [x]) = wrap64 (accS pre + wrap64 ((x.1 : Int) * x.2)) := by simp [accS]
theorem aw_shares : shareL 10 [1, 1, 1] = [3, 3, 4] := by decide
theorem aw_right : rightS 10 [1, 1, 1] = true := by decide
theorem aw_each : allS 5 [0, 2] = [(0, 0), (1, 5)] := by decide
theorem aw_acc : accS (allS 5 [0, 2]) = 5 := by
  rw [aw_each]
  simp [accS, wrap64]

theorem sbut_set (n : Nat) (W : World) (b : Nat) (v : Value) : SBut n b W (W.setCell ⟨b, 0, none⟩ v) :=
  ⟨rfl, rfl, rfl, (KeepsWalks.setCell W _ v).size, fun k _ hk => Below.heap_setCell _ _ _ k (fun e => hk (by rw [e]))⟩
set_option maxRecDepth 100000 in
set_option maxHeartbeats 2000000 in
theorem awake8 (w : World) : Calls Try.prog 6 #[] w fun e w' => e = .returned (.bool true) ∧ Below w.heap.size w w' := by
  refine (callsIn_wide (n := 3)).1 ?_
  refine callsIn_of_wp_marks Try.func6 rfl trivial ?_ rfl
  simp only [Try.ntmps6, List.size_toArray, List.length_cons, List.length_nil, Nat.reduceAdd, Nat.reduceSub, Array.replicate_succ, Array.replicate_zero, List.push_toArray, List.append_toArray, List.nil_append, List.cons_append]
  refine wpIn_wide.2 ?_
  go_wp2_with fail
  have c7 := all_any 10 (some ⟨w.heap.size, 0, none⟩) 3 [1, 1, 1] _ (by decide) (by decide) ((lit3_row w 1 1 1 (by decide) (by decide) (by decide)).mono (by simp))
  rw [aw_shares, aw_right] at c7
  refine c7.mono ?_
  rintro e w1 ⟨v, rfl, ho, hb⟩
  obtain ⟨va, vc, rfl, _, _, hrow⟩ := ho.row
  have hb0 : Below w.heap.size w (w.alloc (.cells #[.int .i64 1, .int .i64 1, .int .i64 1] 22)) := (Below.refl _ _).alloc (Nat.le_refl _) _
  have hb1 := hb0.trans (hb.mono hb0.size)
  clear c7 ho hb hb0
  go_wp2_with fail
  have c12 := ssame_any va (some ⟨w1.heap.size, 0, none⟩) vc 3 [3, 3, 4] [3, 3, 4] _ (by decide) (by decide) ((hrow.carry (w' := w1.alloc (.cells #[.int .i64 3, .int .i64 3, .int .i64 4] 22)) ((Below.refl _ _).alloc (Nat.le_refl _) _) (Nat.le_refl _)).mono (by simp)) ((lit3_row w1 3 3 4 (by decide) (by decide) (by decide)).mono (by simp))
  rw [decide_eq_true rfl] at c12
  refine c12.mono ?_
  rintro e w2 ⟨rfl, hb⟩
  have hb2 : Below w.heap.size w w2 := by
    have h := hb1.alloc hb1.size (.cells #[.int .i64 3, .int .i64 3, .int .i64 4] 22)
    exact h.trans (hb.mono h.size)
  clear c12 hb hrow hb1
  go_wp2_with fail
  refine (seach_in _ _ _ _ _).mono ?_
  rintro e w3 ⟨rfl, rfl⟩
  go_wp2_with fail
  obtain ⟨W0, hW0⟩ : ∃ W0, W0 = (((w2.alloc (.cells #[.int .i64 0] 22)).alloc (.cells #[.int .i64 0, .int .i64 2] 22)).alloc (.cells #[.int .i64 5] 22)).alloc (.cells #[.slice (some ⟨w2.heap.size + 1, 0, none⟩) 2 2] 23) := ⟨_, rfl⟩
  have hs0 : W0.heap.size = w2.heap.size + 4 := by rw [hW0]; simp
  have hB0 : Below w2.heap.size w2 W0 := by
    rw [hW0]
    exact ((((Below.refl _ w2).alloc (Nat.le_refl _) _).alloc (by simp) _).alloc (by simp; omega) _).alloc (by simp; omega) _
  have bN : Boxed W0 w2.heap.size 22 (.int .i64 0) := by
    rw [hW0]; exact (((Boxed.new w2 22 (.int .i64 0)).alloc _).alloc _).alloc _
  have bW : Boxed W0 (w2.heap.size + 2) 22 (.int .i64 5) := by
    rw [hW0]
    have := Boxed.new ((w2.alloc (.cells #[.int .i64 0] 22)).alloc (.cells #[.int .i64 0, .int .i64 2] 22)) 22 (.int .i64 5)
    simp only [World.size_alloc] at this
    exact this.alloc _
  have bP : Boxed W0 (w2.heap.size + 3) 23 (.slice (some ⟨w2.heap.size + 1, 0, none⟩) 2 2) := by
    rw [hW0]
    have := Boxed.new (((w2.alloc (.cells #[.int .i64 0] 22)).alloc (.cells #[.int .i64 0, .int .i64 2] 22)).alloc (.cells #[.int .i64 5] 22)) 23 (.slice (some ⟨w2.heap.size + 1, 0, none⟩) 2 2)
    simp only [World.size_alloc] at this
    exact this
  have hr : IRow W0.heap.size W0 (some ⟨w2.heap.size + 1, 0, none⟩) [0, 2] := by
    have h := lit2_row (w2.alloc (.cells #[.int .i64 0] 22)) 0 2 (by decide) (by decide)
    have hb : Below ((w2.alloc (.cells #[.int .i64 0] 22)).heap.size + 1) ((w2.alloc (.cells #[.int .i64 0] 22)).alloc (.cells #[.int .i64 0, .int .i64 2] 22)) W0 := by
      rw [hW0]
      exact ((Below.refl _ _).alloc (by simp) _).alloc (by simp) _
    have := h.carry hb (Nat.le_refl _)
    rw [World.size_alloc] at this
    exact this.mono (by omega)
  rw [← hW0]
  clear hW0
  refine (wpIn_wide (n := 3)).1 ?_
  refine wpIn_rangeFunc_ownG rfl (by omega) (gf := 19) (lb := #[.pointer (some ⟨w2.heap.size + 2, 0, none⟩), .pointer (some ⟨w2.heap.size + 3, 0, none⟩)]) rfl trivial (enters_of Try.func19 (by kernel_rfl) rfl)
    (each_stops _ W0.heap.size (w2.heap.size + 2) (w2.heap.size + 3) w2.heap.size 5 (some ⟨w2.heap.size + 1, 0, none⟩) 2 [0, 2] W0 (by decide) (by decide) bW.cell bP.cell (by omega) (by omega) (by omega) (fun _ b off e => by cases e; omega) (Nat.le_refl _) hr)
    SBut.trans (sbut_b (Nat.le_refl _)) (Below.refl _ _) (fun _ => rfl)
    (fun pre W => Boxed W w2.heap.size 22 (.int .i64 (accS pre)) ∧ SBut W0.heap.size w2.heap.size W0 W)
    (fun _ _ _ => False)
    (OwnFrom.and (Own.from (boxed_own w2.heap.size 22 (fun pre => .int .i64 (accS pre))) _) (ownFrom_sbut (Nat.le_refl _) (Nat.le_refl _)))
    (fun _ _ _ _ _ hs _ _ => hs)
    ⟨bN, SBut.refl _ _ _⟩
    (fun x => { tmps := #[.bool false, .slice va 3 vc, .bool true, .pointer (some ⟨w2.heap.size, 0, none⟩), .int .i64 (x.1 : Int), .int .i64 x.2, .tuple #[.slice va 3 vc, .bool true], .slice (some ⟨w.heap.size, 0, none⟩) 3 3, .tuple #[.slice va 3 vc, .bool true], .slice va 3 vc, .bool true, .bool true, .bool false, .bool false, .slice va 3 vc, .slice (some ⟨w1.heap.size, 0, none⟩) 3 3, .bool true, .bool false, .bool false, .slice (some ⟨w2.heap.size + 1, 0, none⟩) 2 2, .func (.func 19) #[] #[.pointer (some ⟨w2.heap.size + 2, 0, none⟩), .pointer (some ⟨w2.heap.size + 3, 0, none⟩)], .int .i64 (x.1 : Int), .int .i64 x.2, undef, undef, undef, undef, undef, undef, undef], defers := [] }) ?assign ?body ?done ?stop
  case assign =>
    intro l x W K hK
    gi_wp2
    exact hK
  case body =>
    rintro l0 pre x W ⟨hv, hB⟩ hlt
    have hc := hv.cell
    have hf := hv.frozen
    gi_wp2
    refine ⟨(KeepsOthers.setCell _ _ _).from _, ?_, ?_⟩
    · exact sbut_set W0.heap.size W w2.heap.size _
    · exact ⟨by rw [accS_snoc]; exact hv.set _, hB.trans (sbut_set _ _ _ _)⟩
  case done =>
    rintro D ys W hD rfl ⟨hv, hB⟩ hK
    rw [aw_acc] at hv
    have hc := hv.cell
    go_wp2
    refine ⟨by simp, .inl ⟨_, _, rfl, run_takeDeferred hK, ?_⟩⟩
    refine ⟨_, results_tmp rfl _ _ _, rfl, ?_⟩
    have h1 := hB.below (m := w2.heap.size) (by omega) (Nat.le_refl _)
    have h2 := hb2.trans ((hB0.trans h1).mono hb2.size)
    have h3 := hb2.size
    exact h2.trans (belowK_b (w := w) (Nat.le_refl _) _ D _ _ (by omega) hK rfl rfl)
  case stop =>
    rintro D c pre W _ _ h _
    exact h.elim
end Go.Proofs.Ytonffgnmljppgaa
