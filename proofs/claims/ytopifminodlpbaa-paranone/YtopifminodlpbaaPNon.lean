/- The walk of ParaNone. -/
import Derived.Test.YtopifminodlpbaaPAw
namespace Go.Proofs.Ytopifminodlpbaa
open Go.RowKit
set_option maxRecDepth 20000
set_option linter.unusedVariables false
set_option linter.unusedSimpArgs false

theorem clubV_nil (b : Int) : clubV [] b = false := by
  unfold clubV
  rw [show aheadV [] b = -1 from rfl, atV_none]
  decide
theorem widowV_nil (b : Int) : widowV [] b = false := by
  unfold widowV
  rw [show behindV [] b = -1 from rfl, atV_none]
  decide
theorem inV_nil (b : Int) : inV [] b = false := by
  unfold inV
  rw [hasV_no (l := []) (n := b) (by simp; omega)]
  rfl
set_option maxHeartbeats 2000000 in
theorem paraNone_in (g : G19) (b : Int) (w : World) :
    Calls Try.prog 5 #[.agg (geoC g), .int .i64 b] w fun e w' => e = .returned (.bool true) ∧ Below w.heap.size w w' := by
  have b0 := tbel1 w (.cells (geoC g) 24)
  have D := geo_new w g
  have V : ∀ x : World, VAt x (.pointer none) [] := fun x => .inl ⟨rfl, rfl⟩
  have k1 := fun y => pof_no g (.pointer none) [] b y (V y) (by decide) (inV_nil b)
  have k2 := fun y => pahead_any (.pointer none) [] b y (V y) (by decide)
  have k3 := fun y => pbehind_any (.pointer none) [] b y (V y) (by decide)
  have k4 := fun y => pclub_any (.pointer none) [] b y (V y) (by decide)
  have k5 := fun y => pwidow_any (.pointer none) [] b y (V y) (by decide)
  rw [show aheadV [] b = -1 from rfl] at k2
  rw [show behindV [] b = -1 from rfl] at k3
  rw [clubV_nil] at k4
  rw [widowV_nil] at k5
  have CX := Lib.hid (And.intro k1 (And.intro k2 (And.intro k3 (And.intro k4 (And.intro k5 awake20)))))
  clear k1 k2 k3 k4 k5 V
  unfold geo at CX
  go_enter Try.func5, Try.ntmps5
  go_upto_region 1 with (fail)
  generalize w.alloc _ = U at *
  have CG := Lib.hid fun y (hy : Old U y) => GeoAt.old D hy
  clear D
  go_upto_region 2 with (fail)
  (refine wp_region_plain (Old U) 32 (Below.refl _ U) ?_; simp only [List.take_succ_cons, List.take_zero, List.drop_succ_cons, List.drop_zero])
  (refine Text.val (fun y hy => load_geo (.tmp 2) rfl rfl (CG.out y hy)) (by kernel_rfl) ?_; simp only [Act.put, List.getElem_toArray, List.getElem_cons_succ, List.getElem_cons_zero, List.setIfInBounds_toArray, List.set_cons_zero, List.set_cons_succ])
  iterate 2 (first | (apply Text.sees (hw := by kernel_rfl); (focus (intro x hx K hK; have hc := (fun (x : World) (hx : Old U x) => True.intro) x hx; go_simp; exact hK)); simp only [Act.put, List.getElem_toArray, List.getElem_cons_succ, List.getElem_cons_zero, List.setIfInBounds_toArray, List.set_cons_zero, List.set_cons_succ]) | (apply Text.idle; (focus (intro x hx K hK; go_simp; exact hK)); simp only [Act.put, List.getElem_toArray, List.getElem_cons_succ, List.getElem_cons_zero, List.setIfInBounds_toArray, List.set_cons_zero, List.set_cons_succ]))
  (refine Text.call (Old.call fun y hy => CX.out.1 y) (by kernel_rfl) (fun _ => by kernel_rfl) ?_; simp only [Act.put, List.getElem_toArray, List.getElem_cons_succ, List.getElem_cons_zero, List.setIfInBounds_toArray, List.set_cons_zero, List.set_cons_succ])
  iterate 4 (first | (apply Text.sees (hw := by kernel_rfl); (focus (intro x hx K hK; have hc := (fun (x : World) (hx : Old U x) => True.intro) x hx; go_simp; exact hK)); simp only [Act.put, List.getElem_toArray, List.getElem_cons_succ, List.getElem_cons_zero, List.setIfInBounds_toArray, List.set_cons_zero, List.set_cons_succ]) | (apply Text.idle; (focus (intro x hx K hK; go_simp; exact hK)); simp only [Act.put, List.getElem_toArray, List.getElem_cons_succ, List.getElem_cons_zero, List.setIfInBounds_toArray, List.set_cons_zero, List.set_cons_succ]))
  (refine Text.call (Old.call fun y hy => CX.out.2.1 y) (by kernel_rfl) (fun _ => by kernel_rfl) ?_; simp only [Act.put, List.getElem_toArray, List.getElem_cons_succ, List.getElem_cons_zero, List.setIfInBounds_toArray, List.set_cons_zero, List.set_cons_succ])
  iterate 5 (first | (apply Text.sees (hw := by kernel_rfl); (focus (intro x hx K hK; have hc := (fun (x : World) (hx : Old U x) => True.intro) x hx; go_simp; exact hK)); simp only [Act.put, List.getElem_toArray, List.getElem_cons_succ, List.getElem_cons_zero, List.setIfInBounds_toArray, List.set_cons_zero, List.set_cons_succ]) | (apply Text.idle; (focus (intro x hx K hK; go_simp; exact hK)); simp only [Act.put, List.getElem_toArray, List.getElem_cons_succ, List.getElem_cons_zero, List.setIfInBounds_toArray, List.set_cons_zero, List.set_cons_succ]))
  (refine Text.call (Old.call fun y hy => CX.out.2.2.1 y) (by kernel_rfl) (fun _ => by kernel_rfl) ?_; simp only [Act.put, List.getElem_toArray, List.getElem_cons_succ, List.getElem_cons_zero, List.setIfInBounds_toArray, List.set_cons_zero, List.set_cons_succ])
  iterate 5 (first | (apply Text.sees (hw := by kernel_rfl); (focus (intro x hx K hK; have hc := (fun (x : World) (hx : Old U x) => True.intro) x hx; go_simp; exact hK)); simp only [Act.put, List.getElem_toArray, List.getElem_cons_succ, List.getElem_cons_zero, List.setIfInBounds_toArray, List.set_cons_zero, List.set_cons_succ]) | (apply Text.idle; (focus (intro x hx K hK; go_simp; exact hK)); simp only [Act.put, List.getElem_toArray, List.getElem_cons_succ, List.getElem_cons_zero, List.setIfInBounds_toArray, List.set_cons_zero, List.set_cons_succ]))
  (refine Text.call (Old.call fun y hy => CX.out.2.2.2.1 y) (by kernel_rfl) (fun _ => by kernel_rfl) ?_; simp only [Act.put, List.getElem_toArray, List.getElem_cons_succ, List.getElem_cons_zero, List.setIfInBounds_toArray, List.set_cons_zero, List.set_cons_succ])
  iterate 5 (first | (apply Text.sees (hw := by kernel_rfl); (focus (intro x hx K hK; have hc := (fun (x : World) (hx : Old U x) => True.intro) x hx; go_simp; exact hK)); simp only [Act.put, List.getElem_toArray, List.getElem_cons_succ, List.getElem_cons_zero, List.setIfInBounds_toArray, List.set_cons_zero, List.set_cons_succ]) | (apply Text.idle; (focus (intro x hx K hK; go_simp; exact hK)); simp only [Act.put, List.getElem_toArray, List.getElem_cons_succ, List.getElem_cons_zero, List.setIfInBounds_toArray, List.set_cons_zero, List.set_cons_succ]))
  (refine Text.call (Old.call fun y hy => CX.out.2.2.2.2.1 y) (by kernel_rfl) (fun _ => by kernel_rfl) ?_; simp only [Act.put, List.getElem_toArray, List.getElem_cons_succ, List.getElem_cons_zero, List.setIfInBounds_toArray, List.set_cons_zero, List.set_cons_succ])
  iterate 3 (first | (apply Text.sees (hw := by kernel_rfl); (focus (intro x hx K hK; have hc := (fun (x : World) (hx : Old U x) => True.intro) x hx; go_simp; exact hK)); simp only [Act.put, List.getElem_toArray, List.getElem_cons_succ, List.getElem_cons_zero, List.setIfInBounds_toArray, List.set_cons_zero, List.set_cons_succ]) | (apply Text.idle; (focus (intro x hx K hK; go_simp; exact hK)); simp only [Act.put, List.getElem_toArray, List.getElem_cons_succ, List.getElem_cons_zero, List.setIfInBounds_toArray, List.set_cons_zero, List.set_cons_succ]))
  (refine Text.call (Old.call fun y hy => CX.out.2.2.2.2.2 y) (by kernel_rfl) (fun _ => by kernel_rfl) ?_; simp only [Act.put, List.getElem_toArray, List.getElem_cons_succ, List.getElem_cons_zero, List.setIfInBounds_toArray, List.set_cons_zero, List.set_cons_succ])
  iterate 1 (first | (apply Text.sees (hw := by kernel_rfl); (focus (intro x hx K hK; have hc := (fun (x : World) (hx : Old U x) => True.intro) x hx; go_simp; exact hK)); simp only [Act.put, List.getElem_toArray, List.getElem_cons_succ, List.getElem_cons_zero, List.setIfInBounds_toArray, List.set_cons_zero, List.set_cons_succ]) | (apply Text.idle; (focus (intro x hx K hK; go_simp; exact hK)); simp only [Act.put, List.getElem_toArray, List.getElem_cons_succ, List.getElem_cons_zero, List.setIfInBounds_toArray, List.set_cons_zero, List.set_cons_succ]))
  intro x1 hx1
  go_wp2
  go_ret
  exact ⟨rfl, tstep b0 hx1 b0.size⟩
theorem paraNone_walk (a0 : Int) (h0 : (Lit.int .i64 a0).wf = true) (a1 : Int) (h1 : (Lit.int .i64 a1).wf = true) (a2 : Int) (h2 : (Lit.int .i64 a2).wf = true) (a3 : Int) (h3 : (Lit.int .i64 a3).wf = true) (a4 : Int) (h4 : (Lit.int .i64 a4).wf = true) (a5 : Int) (h5 : (Lit.int .i64 a5).wf = true) (a6 : Int) (h6 : (Lit.int .i64 a6).wf = true) (a7 : Int) (h7 : (Lit.int .i64 a7).wf = true) (a8 : Int) (h8 : (Lit.int .i64 a8).wf = true) (a9 : Int) (h9 : (Lit.int .i64 a9).wf = true) (a10 : Int) (h10 : (Lit.int .i64 a10).wf = true) (a11 : Int) (h11 : (Lit.int .i64 a11).wf = true) (a12 : Int) (h12 : (Lit.int .i64 a12).wf = true) (a13 : Int) (h13 : (Lit.int .i64 a13).wf = true) (a14 : Int) (h14 : (Lit.int .i64 a14).wf = true) (a15 : Int) (h15 : (Lit.int .i64 a15).wf = true) (a16 : Int) (h16 : (Lit.int .i64 a16).wf = true) (a17 : Int) (h17 : (Lit.int .i64 a17).wf = true) (a18 : Bool) (b : Int) (hb : (Lit.int .i64 b).wf = true) (w : World) :
    Calls Try.prog 5 #[.agg #[.int .i64 a0, .int .i64 a1, .int .i64 a2, .int .i64 a3, .int .i64 a4, .int .i64 a5, .int .i64 a6, .int .i64 a7, .int .i64 a8, .int .i64 a9, .int .i64 a10, .int .i64 a11, .int .i64 a12, .int .i64 a13, .int .i64 a14, .int .i64 a15, .int .i64 a16, .int .i64 a17, .bool a18], .int .i64 b] w fun e w' => e = .returned (.bool true) ∧ Below w.heap.size w w' :=
  paraNone_in ⟨a0, a1, a2, a3, a4, a5, a6, a7, a8, a9, a10, a11, a12, a13, a14, a15, a16, a17, a18⟩ b w
end Go.Proofs.Ytopifminodlpbaa
