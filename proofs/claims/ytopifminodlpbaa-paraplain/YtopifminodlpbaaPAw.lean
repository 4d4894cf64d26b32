/- Awake of layer 20. -/
import Derived.Test.YtopifminodlpbaaPOf
import Derived.Test.YtopifminodlpbaaANew
import Derived.Test.YtopifminodlpbaaEGeo
namespace Go.Proofs.Ytopifminodlpbaa
open Go.RowKit
set_option maxRecDepth 20000
set_option linter.unusedVariables false
set_option linter.unusedSimpArgs false

def wake20 : List I7 := [⟨1, 0, 1, 0, 0, 0, 0⟩, ⟨2, 0, 0, 0, 0, 0, 0⟩, ⟨1, 0, 0, 0, 0, 0, 0⟩, ⟨2, 0, 0, 0, 0, 0, 0⟩, ⟨1, 0, 2, 0, 0, 0, 0⟩]
def wake20C : Array Value := #[.int .i64 1, .int .i64 0, .int .i64 1, .int .i64 0, .int .i64 0, .int .i64 0, .int .i64 0, .int .i64 2, .int .i64 0, .int .i64 0, .int .i64 0, .int .i64 0, .int .i64 0, .int .i64 0, .int .i64 1, .int .i64 0, .int .i64 0, .int .i64 0, .int .i64 0, .int .i64 0, .int .i64 0, .int .i64 2, .int .i64 0, .int .i64 0, .int .i64 0, .int .i64 0, .int .i64 0, .int .i64 0, .int .i64 1, .int .i64 0, .int .i64 2, .int .i64 0, .int .i64 0, .int .i64 0, .int .i64 0]
def wake20G : G19 := ⟨0, 0, 0, 0, 0, 0, 0, 0, 0, 0, 0, 0, 0, 7, 9, 0, 0, 0, false⟩
theorem wake20_eq : wake20C = ((wake20.map encI).flatten).toArray := rfl
theorem wake20_els (w : World) : Els 7 encI (w.alloc (.cells wake20C 28)) (some ⟨w.heap.size, 0, none⟩) 5 fun k => wake20.getD k zeroI := fun k j hk hj => by
  refine ⟨w.heap.size, 0, rfl, by simp, ?_⟩
  rw [(blk_new w wake20C 28).cell, Nat.zero_add, ← flat_get encI_len zeroI wake20 k j hk hj, wake20_eq, List.getElem?_toArray]
theorem wake20_1 : ofV wake20G.club wake20G.widow wake20 1 = 7 := by decide +kernel
theorem wake20_3 : ofV wake20G.club wake20G.widow wake20 3 = 9 := by decide +kernel
theorem wake20_5 : ofV wake20G.club wake20G.widow wake20 5 = 0 := by decide +kernel
theorem wake20_a : aheadV wake20 3 = 2 := by decide +kernel
theorem wake20_b : behindV wake20 3 = 4 := by decide +kernel
set_option maxHeartbeats 1000000 in
theorem awake20 (w : World) : Calls Try.prog 6 #[] w fun e w' => e = .returned (.bool true) ∧ Below w.heap.size w w' := by
  have c1 := vnew_any (some ⟨w.heap.size, 0, none⟩) 5 wake20 (w.alloc (.cells wake20C 28)) (by decide) (wake20_els w)
  change Calls _ _ #[.slice (some ⟨w.heap.size, 0, none⟩) 5 5] _ _ at c1
  have b0 := tbel1 w (.cells wake20C 28)
  have HC := Lib.hid fun (v : Value) (x : World) (h : VAt x v wake20) => And.intro (pof_any wake20G v wake20 1 x h (by decide) (fun _ => by decide) (fun _ => by decide)) (And.intro (pof_any wake20G v wake20 3 x h (by decide) (fun _ => by decide) (fun _ => by decide)) (And.intro (pahead_any v wake20 3 x h (by decide)) (And.intro (pbehind_any v wake20 3 x h (by decide)) (pof_any wake20G v wake20 5 x h (by decide) (fun _ => by decide) (fun _ => by decide)))))
  rw [wake20_1, wake20_3, wake20_5, wake20_a, wake20_b] at HC
  unfold geo at HC
  unfold wake20C at c1 b0
  go_enter Try.func6, Try.ntmps6
  go_wp2_with fail
  refine c1.mono ?_
  rintro e w1 ⟨v, rfl, V1, b1⟩
  replace b1 := tstep b0 b1 b0.size
  clear c1 b0
  go_upto_region 2 with (fail)
  (refine wp_region_plain (Old w1) 0 (Below.refl _ w1) ?_; simp only [List.take_succ_cons, List.take_zero, List.drop_succ_cons, List.drop_zero])
  intro x hx
  have V2 := V1.carry hx
  have b2 := tstep b1 hx b1.size
  have D := geo_new x wake20G
  have bg := tbel1 x (.cells (geoC wake20G) 24)
  have V3 := V2.carry bg
  replace b2 := tstep b2 bg b2.size
  clear V1 V2 b1 hx bg
  refine wpList_build rfl 24 _ rfl (by kernel_rfl) ?_
  refine make_geo (g := wake20G) rfl rfl rfl (.tmp 2) (.tmp 10) rfl rfl (by kernel_rfl) ?_
  go_upto_region 3 with (fail)
  generalize x.heap.size = B at *
  generalize x.alloc _ = W at *
  generalize Value.agg (Option.getD _ #[]) = GV
  simp only [Act.put, List.getElem_toArray, List.getElem_cons_succ, List.getElem_cons_zero, List.setIfInBounds_toArray, List.set_cons_zero, List.set_cons_succ]
  have CH := Lib.hid fun y (hy : Old W y) => HC.out v y (V3.carry hy)
  have CD := Lib.hid fun y (hy : Old W y) => D.old hy
  clear HC V3 D
  (refine wp_region_plain (Old W) 27 (Below.refl _ W) ?_; simp only [List.take_succ_cons, List.take_zero, List.drop_succ_cons, List.drop_zero])
  (refine Text.val (fun y hy => load_geo (.tmp 2) rfl rfl (CD.out y hy)) (by kernel_rfl) ?_; simp only [Act.put, List.getElem_toArray, List.getElem_cons_succ, List.getElem_cons_zero, List.setIfInBounds_toArray, List.set_cons_zero, List.set_cons_succ])
  repeat (first | (apply Text.sees (hw := by kernel_rfl); (focus (intro x hx K hK; have hc := (fun (x : World) (hx : Old W x) => True.intro) x hx; go_simp; exact hK)); simp only [Act.put, List.getElem_toArray, List.getElem_cons_succ, List.getElem_cons_zero, List.setIfInBounds_toArray, List.set_cons_zero, List.set_cons_succ]) | (apply Text.idle; (focus (intro x hx K hK; go_simp; exact hK)); simp only [Act.put, List.getElem_toArray, List.getElem_cons_succ, List.getElem_cons_zero, List.setIfInBounds_toArray, List.set_cons_zero, List.set_cons_succ]))
  (refine Text.call (Old.call fun y hy => (CH.out y hy).1) (by kernel_rfl) (fun _ => by kernel_rfl) ?_; simp only [Act.put, List.getElem_toArray, List.getElem_cons_succ, List.getElem_cons_zero, List.setIfInBounds_toArray, List.set_cons_zero, List.set_cons_succ])
  iterate 2 (first | (apply Text.sees (hw := by kernel_rfl); (focus (intro x hx K hK; have hc := (fun (x : World) (hx : Old W x) => True.intro) x hx; go_simp; exact hK)); simp only [Act.put, List.getElem_toArray, List.getElem_cons_succ, List.getElem_cons_zero, List.setIfInBounds_toArray, List.set_cons_zero, List.set_cons_succ]) | (apply Text.idle; (focus (intro x hx K hK; go_simp; exact hK)); simp only [Act.put, List.getElem_toArray, List.getElem_cons_succ, List.getElem_cons_zero, List.setIfInBounds_toArray, List.set_cons_zero, List.set_cons_succ]))
  (refine Text.val (fun y hy => load_geo (.tmp 2) rfl rfl (CD.out y hy)) (by kernel_rfl) ?_; simp only [Act.put, List.getElem_toArray, List.getElem_cons_succ, List.getElem_cons_zero, List.setIfInBounds_toArray, List.set_cons_zero, List.set_cons_succ])
  repeat (first | (apply Text.sees (hw := by kernel_rfl); (focus (intro x hx K hK; have hc := (fun (x : World) (hx : Old W x) => True.intro) x hx; go_simp; exact hK)); simp only [Act.put, List.getElem_toArray, List.getElem_cons_succ, List.getElem_cons_zero, List.setIfInBounds_toArray, List.set_cons_zero, List.set_cons_succ]) | (apply Text.idle; (focus (intro x hx K hK; go_simp; exact hK)); simp only [Act.put, List.getElem_toArray, List.getElem_cons_succ, List.getElem_cons_zero, List.setIfInBounds_toArray, List.set_cons_zero, List.set_cons_succ]))
  (refine Text.call (Old.call fun y hy => (CH.out y hy).2.1) (by kernel_rfl) (fun _ => by kernel_rfl) ?_; simp only [Act.put, List.getElem_toArray, List.getElem_cons_succ, List.getElem_cons_zero, List.setIfInBounds_toArray, List.set_cons_zero, List.set_cons_succ])
  repeat (first | (apply Text.sees (hw := by kernel_rfl); (focus (intro x hx K hK; have hc := (fun (x : World) (hx : Old W x) => True.intro) x hx; go_simp; exact hK)); simp only [Act.put, List.getElem_toArray, List.getElem_cons_succ, List.getElem_cons_zero, List.setIfInBounds_toArray, List.set_cons_zero, List.set_cons_succ]) | (apply Text.idle; (focus (intro x hx K hK; go_simp; exact hK)); simp only [Act.put, List.getElem_toArray, List.getElem_cons_succ, List.getElem_cons_zero, List.setIfInBounds_toArray, List.set_cons_zero, List.set_cons_succ]))
  (refine Text.call (Old.call fun y hy => (CH.out y hy).2.2.1) (by kernel_rfl) (fun _ => by kernel_rfl) ?_; simp only [Act.put, List.getElem_toArray, List.getElem_cons_succ, List.getElem_cons_zero, List.setIfInBounds_toArray, List.set_cons_zero, List.set_cons_succ])
  repeat (first | (apply Text.sees (hw := by kernel_rfl); (focus (intro x hx K hK; have hc := (fun (x : World) (hx : Old W x) => True.intro) x hx; go_simp; exact hK)); simp only [Act.put, List.getElem_toArray, List.getElem_cons_succ, List.getElem_cons_zero, List.setIfInBounds_toArray, List.set_cons_zero, List.set_cons_succ]) | (apply Text.idle; (focus (intro x hx K hK; go_simp; exact hK)); simp only [Act.put, List.getElem_toArray, List.getElem_cons_succ, List.getElem_cons_zero, List.setIfInBounds_toArray, List.set_cons_zero, List.set_cons_succ]))
  (refine Text.call (Old.call fun y hy => (CH.out y hy).2.2.2.1) (by kernel_rfl) (fun _ => by kernel_rfl) ?_; simp only [Act.put, List.getElem_toArray, List.getElem_cons_succ, List.getElem_cons_zero, List.setIfInBounds_toArray, List.set_cons_zero, List.set_cons_succ])
  iterate 3 (first | (apply Text.sees (hw := by kernel_rfl); (focus (intro x hx K hK; have hc := (fun (x : World) (hx : Old W x) => True.intro) x hx; go_simp; exact hK)); simp only [Act.put, List.getElem_toArray, List.getElem_cons_succ, List.getElem_cons_zero, List.setIfInBounds_toArray, List.set_cons_zero, List.set_cons_succ]) | (apply Text.idle; (focus (intro x hx K hK; go_simp; exact hK)); simp only [Act.put, List.getElem_toArray, List.getElem_cons_succ, List.getElem_cons_zero, List.setIfInBounds_toArray, List.set_cons_zero, List.set_cons_succ]))
  (refine Text.val (fun y hy => load_geo (.tmp 2) rfl rfl (CD.out y hy)) (by kernel_rfl) ?_; simp only [Act.put, List.getElem_toArray, List.getElem_cons_succ, List.getElem_cons_zero, List.setIfInBounds_toArray, List.set_cons_zero, List.set_cons_succ])
  repeat (first | (apply Text.sees (hw := by kernel_rfl); (focus (intro x hx K hK; have hc := (fun (x : World) (hx : Old W x) => True.intro) x hx; go_simp; exact hK)); simp only [Act.put, List.getElem_toArray, List.getElem_cons_succ, List.getElem_cons_zero, List.setIfInBounds_toArray, List.set_cons_zero, List.set_cons_succ]) | (apply Text.idle; (focus (intro x hx K hK; go_simp; exact hK)); simp only [Act.put, List.getElem_toArray, List.getElem_cons_succ, List.getElem_cons_zero, List.setIfInBounds_toArray, List.set_cons_zero, List.set_cons_succ]))
  (refine Text.call (Old.call fun y hy => (CH.out y hy).2.2.2.2) (by kernel_rfl) (fun _ => by kernel_rfl) ?_; simp only [Act.put, List.getElem_toArray, List.getElem_cons_succ, List.getElem_cons_zero, List.setIfInBounds_toArray, List.set_cons_zero, List.set_cons_succ])
  repeat (first | (apply Text.sees (hw := by kernel_rfl); (focus (intro x hx K hK; have hc := (fun (x : World) (hx : Old W x) => True.intro) x hx; go_simp; exact hK)); simp only [Act.put, List.getElem_toArray, List.getElem_cons_succ, List.getElem_cons_zero, List.setIfInBounds_toArray, List.set_cons_zero, List.set_cons_succ]) | (apply Text.idle; (focus (intro x hx K hK; go_simp; exact hK)); simp only [Act.put, List.getElem_toArray, List.getElem_cons_succ, List.getElem_cons_zero, List.setIfInBounds_toArray, List.set_cons_zero, List.set_cons_succ]))
  intro x1 hx1
  go_wp2
  go_ret
  exact ⟨rfl, tstep b2 hx1 b2.size⟩
end Go.Proofs.Ytopifminodlpbaa
