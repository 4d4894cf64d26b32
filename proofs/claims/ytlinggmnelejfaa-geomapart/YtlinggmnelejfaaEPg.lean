/- Page, X and Plain of package geom, and the document's. -/
import Derived.Test.YtlinggmnelejfaaEOth
import Derived.WalkSmall
namespace Go.Proofs.Ytlinggmnelejfaa
open Go.RowKit
set_option maxRecDepth 20000
set_option linter.unusedVariables false
set_option linter.unusedSimpArgs false

theorem gpage_yes (g : G19) (n m : Int) (w : World) (hr : rightE g = true) (hn : inR n) (hm : max n 0 = m) :
    Calls Try.prog 6 #[.agg (geoC g), .int .i64 n] w fun e' w' => e' = .returned (.tuple #[.int .i64 (m / g.cols), .int .i64 (m % g.cols)]) ∧ Below w.heap.size w w' := by
  have D := geo_new w g
  have b0 := tbel1 w (.cells (geoC g) 24)
  obtain ⟨k1, k2⟩ := rightE_cols hr
  have c := fun w => gvalid_any g w
  rw [hr] at c
  replace c := Lib.hid c
  clear hr
  unfold inR at hn
  have hm' : (if n < 0 then (0 : Int) else n) = m := by split <;> omega
  have m0 : 0 ≤ m := by omega
  have m1 : m ≤ 9223372036854775807 := by omega
  clear hm
  go_enter Try.func6, Try.ntmps6
  go_upto_region 1 with (fail)
  generalize w.alloc _ = U at *
  (refine wp_region_plain (Old U) 2 (Below.refl _ U) ?_; simp only [List.take_succ_cons, List.take_zero, List.drop_succ_cons, List.drop_zero])
  (refine Text.val (fun x hx => load_geo (.tmp 2) rfl rfl (D.old hx)) (by kernel_rfl) ?_; simp only [Act.put, List.getElem_toArray, List.getElem_cons_succ, List.getElem_cons_zero, List.setIfInBounds_toArray, List.set_cons_zero, List.set_cons_succ])
  (refine Text.call (Old.call fun x hx => c.out x) (by kernel_rfl) (fun _ => by kernel_rfl) ?_; simp only [Act.put, List.getElem_toArray, List.getElem_cons_succ, List.getElem_cons_zero, List.setIfInBounds_toArray, List.set_cons_zero, List.set_cons_succ])
  intro x hx
  have D1 := D.old hx
  have bz := tstep b0 hx b0.size
  go_upto_region 4 with (fail)
  obtain ⟨q0, _⟩ := D1.cells
  go_quiet (fail)
  go_wp2
  go_ret2
  exact ⟨rfl, below_drewN bz _⟩
theorem gpage_no (g : G19) (n : Int) (w : World) (hr : rightE g = false) :
    Calls Try.prog 6 #[.agg (geoC g), .int .i64 n] w fun e' w' => e' = .returned (.tuple #[.int .i64 0, .int .i64 0]) ∧ Below w.heap.size w w' := by
  have D := geo_new w g
  have b0 := tbel1 w (.cells (geoC g) 24)
  have c := fun w => gvalid_any g w
  rw [hr] at c
  replace c := Lib.hid c
  clear hr
  go_enter Try.func6, Try.ntmps6
  go_upto_region 1 with (fail)
  generalize w.alloc _ = U at *
  (refine wp_region_plain (Old U) 2 (Below.refl _ U) ?_; simp only [List.take_succ_cons, List.take_zero, List.drop_succ_cons, List.drop_zero])
  (refine Text.val (fun x hx => load_geo (.tmp 2) rfl rfl (D.old hx)) (by kernel_rfl) ?_; simp only [Act.put, List.getElem_toArray, List.getElem_cons_succ, List.getElem_cons_zero, List.setIfInBounds_toArray, List.set_cons_zero, List.set_cons_succ])
  (refine Text.call (Old.call fun x hx => c.out x) (by kernel_rfl) (fun _ => by kernel_rfl) ?_; simp only [Act.put, List.getElem_toArray, List.getElem_cons_succ, List.getElem_cons_zero, List.setIfInBounds_toArray, List.set_cons_zero, List.set_cons_succ])
  intro x hx
  go_wp2
  go_ret2
  exact ⟨rfl, tstep b0 hx b0.size⟩
theorem gpage_any (g : G19) (n : Int) (w : World) (hn : inR n) :
    Calls Try.prog 6 #[.agg (geoC g), .int .i64 n] w fun e' w' => e' = .returned (.tuple #[.int .i64 (pageE g n), .int .i64 (sideE g n)]) ∧ Below w.heap.size w w' := by
  unfold pageE sideE
  cases hr : rightE g
  · exact gpage_no g n w hr
  · exact gpage_yes g n _ w hr hn rfl
theorem rgpage_no (g : G19) (n : Int) (w : World) (hr : rightE g = false) :
    Calls Try.prog 13 #[.agg (geoC g), .int .i64 n] w fun e' w' => e' = .returned (.agg #[.int .i64 0, .int .i64 0]) ∧ Below w.heap.size w w' := by
  have D : GeoAt ((w.alloc (.cells (geoC g) 24)).alloc (.cells #[.int .i64 0, .int .i64 0] 31)) w.heap.size g := (geo_new w g).alloc _
  have R := blk_two w (.cells (geoC g) 24) #[.int .i64 0, .int .i64 0] 31
  have b0 := tbel2 w (.cells (geoC g) 24) (.cells #[.int .i64 0, .int .i64 0] 31)
  have c := Lib.hid fun w => rgcheck_any g w
  have he := errE_no hr
  generalize errE g = e at *
  clear hr
  go_enter Try.func13, Try.ntmps13
  go_upto_region 1 with (fail)
  generalize (w.alloc _).alloc _ = U at *
  (refine wp_region_plain (Old U) 2 (Below.refl _ U) ?_; simp only [List.take_succ_cons, List.take_zero, List.drop_succ_cons, List.drop_zero])
  (refine Text.val (fun x hx => load_geo (.tmp 2) rfl rfl (D.old hx)) (by kernel_rfl) ?_; simp only [Act.put, List.getElem_toArray, List.getElem_cons_succ, List.getElem_cons_zero, List.setIfInBounds_toArray, List.set_cons_zero, List.set_cons_succ])
  (refine Text.call (Old.call fun x hx => c.out x) (by kernel_rfl) (fun _ => by kernel_rfl) ?_; simp only [Act.put, List.getElem_toArray, List.getElem_cons_succ, List.getElem_cons_zero, List.setIfInBounds_toArray, List.set_cons_zero, List.set_cons_succ])
  intro x hx
  have R1 := R.old hx
  have bz := tstep b0 hx b0.size
  obtain ⟨r0, r1⟩ := R1.two
  have f0 := R1.free 0
  have f1 := R1.free 1
  go_wp2
  refine bodyPost_ret (v := .agg #[.int .i64 0, .int .i64 0]) (by simp [results, Try.results13, go_sem, *]) rfl ⟨rfl, ?_⟩
  exact (bz.setCell (p := ⟨w.heap.size + 1, 0, none⟩) (by simp) _).setCell (p := ⟨w.heap.size + 1, 1, none⟩) (by simp) _
theorem rgpage_yes (g : G19) (n m : Int) (w : World) (hr : rightE g = true) (hn : inR n) (hm : max n 0 = m) :
    Calls Try.prog 13 #[.agg (geoC g), .int .i64 n] w fun e' w' => e' = .returned (.agg #[.int .i64 (m / g.cols), .int .i64 (m % g.cols)]) ∧ Below w.heap.size w w' := by
  have D : GeoAt ((w.alloc (.cells (geoC g) 24)).alloc (.cells #[.int .i64 0, .int .i64 0] 31)) w.heap.size g := (geo_new w g).alloc _
  have R := blk_two w (.cells (geoC g) 24) #[.int .i64 0, .int .i64 0] 31
  have b0 := tbel2 w (.cells (geoC g) 24) (.cells #[.int .i64 0, .int .i64 0] 31)
  obtain ⟨k1, k2⟩ := rightE_cols hr
  have c := fun w => rgcheck_any g w
  rw [errE_yes hr] at c
  replace c := Lib.hid c
  clear hr
  unfold inR at hn
  have hm' : (if n < 0 then (0 : Int) else n) = m := by split <;> omega
  have m0 : 0 ≤ m := by omega
  have m1 : m ≤ 9223372036854775807 := by omega
  clear hm
  have u1 : ¬ g.cols = 0 := by omega
  have u2 := IntWalk.i64_quo m g.cols ⟨m0, m1, k1⟩
  have u3 := IntWalk.rem_in m g.cols m0
  go_enter Try.func13, Try.ntmps13
  go_upto_region 1 with (fail)
  generalize (w.alloc _).alloc _ = U at *
  (refine wp_region_plain (Old U) 2 (Below.refl _ U) ?_; simp only [List.take_succ_cons, List.take_zero, List.drop_succ_cons, List.drop_zero])
  (refine Text.val (fun x hx => load_geo (.tmp 2) rfl rfl (D.old hx)) (by kernel_rfl) ?_; simp only [Act.put, List.getElem_toArray, List.getElem_cons_succ, List.getElem_cons_zero, List.setIfInBounds_toArray, List.set_cons_zero, List.set_cons_succ])
  (refine Text.call (Old.call fun x hx => c.out x) (by kernel_rfl) (fun _ => by kernel_rfl) ?_; simp only [Act.put, List.getElem_toArray, List.getElem_cons_succ, List.getElem_cons_zero, List.setIfInBounds_toArray, List.set_cons_zero, List.set_cons_succ])
  intro x hx
  have D1 := D.old hx
  have R1 := R.old hx
  have bz := tstep b0 hx b0.size
  go_upto_region 3 with (fail)
  have CE := Lib.hid fun y (hy : Old x y) => And.intro (D1.old hy).cells (And.intro hm' (And.intro u1 (And.intro u2 u3)))
  clear D D1 R hx b0 u1 u2 u3 hm' m0 m1 k1 k2 c
  (refine wp_region_text (Old x) 11 (by kernel_rfl) (by kernel_rfl) (Below.refl _ x).drew ?_; simp only [List.take_succ_cons, List.take_zero, List.drop_succ_cons, List.drop_zero])
  repeat (first | (apply Text.sees (hw := by kernel_rfl); (focus (intro x hx K hK; have hc := CE.out x hx; go_simp; exact hK)); simp only [Act.put, List.getElem_toArray, List.getElem_cons_succ, List.getElem_cons_zero, List.setIfInBounds_toArray, List.set_cons_zero, List.set_cons_succ]) | (apply Text.idle; (focus (intro x hx K hK; go_simp; exact hK)); simp only [Act.put, List.getElem_toArray, List.getElem_cons_succ, List.getElem_cons_zero, List.setIfInBounds_toArray, List.set_cons_zero, List.set_cons_succ]))
  intro y hy
  obtain ⟨r0, r1⟩ := (R1.old hy).two
  have f0 := (R1.old hy).free 0
  have f1 := (R1.old hy).free 1
  replace bz := tstep bz hy bz.size
  clear CE R1
  go_wp2
  refine bodyPost_ret (v := .agg #[.int .i64 (m / g.cols), .int .i64 (m % g.cols)]) (by simp [results, Try.results13, go_sem, *]) rfl ⟨rfl, ?_⟩
  exact (bz.setCell (p := ⟨w.heap.size + 1, 0, none⟩) (by simp) _).setCell (p := ⟨w.heap.size + 1, 1, none⟩) (by simp) _
theorem rgpage_any (g : G19) (n : Int) (w : World) (hn : inR n) :
    Calls Try.prog 13 #[.agg (geoC g), .int .i64 n] w fun e' w' => e' = .returned (.agg #[.int .i64 (pageE g n), .int .i64 (sideE g n)]) ∧ Below w.heap.size w w' := by
  unfold pageE sideE
  cases hr : rightE g
  · exact rgpage_no g n w hr
  · exact rgpage_yes g n _ w hr hn rfl
theorem sideE_in {g : G19} (n : Int) (h : rightE g = true) : 0 ≤ sideE g n ∧ sideE g n < g.cols := by
  have := rightE_cols h
  unfold sideE
  rw [h, cond_true]
  exact ⟨Int.emod_nonneg _ (by omega), Int.emod_lt_of_pos _ (by omega)⟩
theorem xE_in {g : G19} (n : Int) (h : rightE g = true) : 0 ≤ sideE g n * (g.wide + g.gap) ∧ sideE g n * (g.wide + g.gap) ≤ 17179869168 := by
  have h1 := sideE_in n h
  have h2 := rightE_cols h
  have h3 := rightE_wide h
  have h4 : 0 ≤ sideE g n * (g.wide + g.gap) := Int.mul_nonneg h1.1 (by omega)
  have h5 : sideE g n * (g.wide + g.gap) ≤ 8 * 2147483646 := Int.mul_le_mul (by omega) (by omega) (by omega) (by omega)
  omega
theorem gx_no (g : G19) (n : Int) (w : World) (hr : rightE g = false) :
    Calls Try.prog 14 #[.agg (geoC g), .int .i64 n] w fun e' w' => e' = .returned (.int .i64 0) ∧ Below w.heap.size w w' := by
  have D := geo_new w g
  have b0 := tbel1 w (.cells (geoC g) 24)
  have c := fun w => gvalid_any g w
  rw [hr] at c
  replace c := Lib.hid c
  clear hr
  go_enter Try.func14, Try.ntmps14
  go_upto_region 1 with (fail)
  generalize w.alloc _ = U at *
  (refine wp_region_plain (Old U) 2 (Below.refl _ U) ?_; simp only [List.take_succ_cons, List.take_zero, List.drop_succ_cons, List.drop_zero])
  (refine Text.val (fun x hx => load_geo (.tmp 2) rfl rfl (D.old hx)) (by kernel_rfl) ?_; simp only [Act.put, List.getElem_toArray, List.getElem_cons_succ, List.getElem_cons_zero, List.setIfInBounds_toArray, List.set_cons_zero, List.set_cons_succ])
  (refine Text.call (Old.call fun x hx => c.out x) (by kernel_rfl) (fun _ => by kernel_rfl) ?_; simp only [Act.put, List.getElem_toArray, List.getElem_cons_succ, List.getElem_cons_zero, List.setIfInBounds_toArray, List.set_cons_zero, List.set_cons_succ])
  intro x hx
  go_wp2
  go_ret
  exact ⟨rfl, tstep b0 hx b0.size⟩
theorem gx_yes (g : G19) (n : Int) (w : World) (hr : rightE g = true) (hn : inR n) :
    Calls Try.prog 14 #[.agg (geoC g), .int .i64 n] w fun e' w' => e' = .returned (.int .i64 (sideE g n * (g.wide + g.gap))) ∧ Below w.heap.size w w' := by
  have D := geo_new w g
  have b0 := tbel1 w (.cells (geoC g) 24)
  obtain ⟨⟨k3, k4⟩, ⟨k5, k6⟩⟩ := rightE_wide hr
  obtain ⟨x0, x1⟩ := xE_in n hr
  have c2 := Lib.hid fun w => gpage_any g n w hn
  have c := fun w => gvalid_any g w
  rw [hr] at c
  replace c := Lib.hid c
  clear hr
  generalize sideE g n = i at *
  generalize pageE g n = p at *
  go_enter Try.func14, Try.ntmps14
  go_upto_region 1 with (fail)
  generalize w.alloc _ = U at *
  (refine wp_region_plain (Old U) 2 (Below.refl _ U) ?_; simp only [List.take_succ_cons, List.take_zero, List.drop_succ_cons, List.drop_zero])
  (refine Text.val (fun x hx => load_geo (.tmp 2) rfl rfl (D.old hx)) (by kernel_rfl) ?_; simp only [Act.put, List.getElem_toArray, List.getElem_cons_succ, List.getElem_cons_zero, List.setIfInBounds_toArray, List.set_cons_zero, List.set_cons_succ])
  (refine Text.call (Old.call fun x hx => c.out x) (by kernel_rfl) (fun _ => by kernel_rfl) ?_; simp only [Act.put, List.getElem_toArray, List.getElem_cons_succ, List.getElem_cons_zero, List.setIfInBounds_toArray, List.set_cons_zero, List.set_cons_succ])
  intro x hx
  have D1 := D.old hx
  have bz := tstep b0 hx b0.size
  clear D hx b0
  go_upto_region 3 with (fail)
  have CE := Lib.hid fun y (hy : Old x y) => True.intro
  (refine wp_region_plain (Old x) 3 (Below.refl _ x) ?_; simp only [List.take_succ_cons, List.take_zero, List.drop_succ_cons, List.drop_zero])
  (refine Text.val (fun y hy => load_geo (.tmp 2) rfl rfl (D1.old hy)) (by kernel_rfl) ?_; simp only [Act.put, List.getElem_toArray, List.getElem_cons_succ, List.getElem_cons_zero, List.setIfInBounds_toArray, List.set_cons_zero, List.set_cons_succ])
  repeat (first | (apply Text.sees (hw := by kernel_rfl); (focus (intro x hx K hK; have hc := CE.out x hx; go_simp; exact hK)); simp only [Act.put, List.getElem_toArray, List.getElem_cons_succ, List.getElem_cons_zero, List.setIfInBounds_toArray, List.set_cons_zero, List.set_cons_succ]) | (apply Text.idle; (focus (intro x hx K hK; go_simp; exact hK)); simp only [Act.put, List.getElem_toArray, List.getElem_cons_succ, List.getElem_cons_zero, List.setIfInBounds_toArray, List.set_cons_zero, List.set_cons_succ]))
  (refine Text.call (Old.call fun y hy => c2.out y) (by kernel_rfl) (fun _ => by kernel_rfl) ?_; simp only [Act.put, List.getElem_toArray, List.getElem_cons_succ, List.getElem_cons_zero, List.setIfInBounds_toArray, List.set_cons_zero, List.set_cons_succ])
  intro y hy
  obtain ⟨q0, q1, q2, _⟩ := (D1.old hy).cells
  have bz' := tstep bz hy bz.size
  go_wp2
  go_ret
  exact ⟨rfl, bz'⟩
theorem gx_any (g : G19) (n : Int) (w : World) (hn : inR n) :
    Calls Try.prog 14 #[.agg (geoC g), .int .i64 n] w fun e' w' => e' = .returned (.int .i64 (xE g n)) ∧ Below w.heap.size w w' := by
  unfold xE
  cases hr : rightE g
  · exact gx_no g n w hr
  · exact gx_yes g n w hr hn
theorem at2 (a b : Value) : ∀ w, Sem.run Try.prog (Instr.index 31 (.agg #[a, b]) (.int .i64 1)) w = .ok b w := fun _ => by kernel_rfl
theorem rgx_no (g : G19) (n : Int) (w : World) (hr : rightE g = false) :
    Calls Try.prog 15 #[.agg (geoC g), .int .i64 n] w fun e' w' => e' = .returned (.int .i64 0) ∧ Below w.heap.size w w' := by
  have D := geo_new w g
  have b0 := tbel1 w (.cells (geoC g) 24)
  have c := Lib.hid fun w => rgcheck_any g w
  have he := errE_no hr
  generalize errE g = e at *
  clear hr
  go_enter Try.func15, Try.ntmps15
  go_upto_region 1 with (fail)
  generalize w.alloc _ = U at *
  (refine wp_region_plain (Old U) 2 (Below.refl _ U) ?_; simp only [List.take_succ_cons, List.take_zero, List.drop_succ_cons, List.drop_zero])
  (refine Text.val (fun x hx => load_geo (.tmp 2) rfl rfl (D.old hx)) (by kernel_rfl) ?_; simp only [Act.put, List.getElem_toArray, List.getElem_cons_succ, List.getElem_cons_zero, List.setIfInBounds_toArray, List.set_cons_zero, List.set_cons_succ])
  (refine Text.call (Old.call fun x hx => c.out x) (by kernel_rfl) (fun _ => by kernel_rfl) ?_; simp only [Act.put, List.getElem_toArray, List.getElem_cons_succ, List.getElem_cons_zero, List.setIfInBounds_toArray, List.set_cons_zero, List.set_cons_succ])
  intro x hx
  go_wp2
  go_ret
  exact ⟨rfl, tstep b0 hx b0.size⟩
theorem rgx_yes (g : G19) (n : Int) (w : World) (hr : rightE g = true) (hn : inR n) :
    Calls Try.prog 15 #[.agg (geoC g), .int .i64 n] w fun e' w' => e' = .returned (.int .i64 (sideE g n * (g.wide + g.gap))) ∧ Below w.heap.size w w' := by
  have D := geo_new w g
  have b0 := tbel1 w (.cells (geoC g) 24)
  obtain ⟨⟨k3, k4⟩, ⟨k5, k6⟩⟩ := rightE_wide hr
  obtain ⟨x0, x1⟩ := xE_in n hr
  have c2 := Lib.hid fun w => rgpage_any g n w hn
  have c := fun w => rgcheck_any g w
  rw [errE_yes hr] at c
  replace c := Lib.hid c
  clear hr
  generalize sideE g n = i at *
  generalize pageE g n = p at *
  have u1 : IntKind.i64.wrap (g.wide + g.gap) = g.wide + g.gap := by rw [IntKind.wrap_i64]; omega
  have u2 : IntKind.i64.wrap (i * (g.wide + g.gap)) = i * (g.wide + g.gap) := by rw [IntKind.wrap_i64]; omega
  have u3 := at2 (.int .i64 p) (.int .i64 i)
  go_enter Try.func15, Try.ntmps15
  go_upto_region 1 with (fail)
  generalize w.alloc _ = U at *
  (refine wp_region_plain (Old U) 2 (Below.refl _ U) ?_; simp only [List.take_succ_cons, List.take_zero, List.drop_succ_cons, List.drop_zero])
  (refine Text.val (fun x hx => load_geo (.tmp 2) rfl rfl (D.old hx)) (by kernel_rfl) ?_; simp only [Act.put, List.getElem_toArray, List.getElem_cons_succ, List.getElem_cons_zero, List.setIfInBounds_toArray, List.set_cons_zero, List.set_cons_succ])
  (refine Text.call (Old.call fun x hx => c.out x) (by kernel_rfl) (fun _ => by kernel_rfl) ?_; simp only [Act.put, List.getElem_toArray, List.getElem_cons_succ, List.getElem_cons_zero, List.setIfInBounds_toArray, List.set_cons_zero, List.set_cons_succ])
  intro x hx
  have D1 := D.old hx
  have bz := tstep b0 hx b0.size
  clear D hx b0
  go_upto_region 3 with (fail)
  have CE := Lib.hid fun y (hy : Old x y) => And.intro (D1.old hy).cells (And.intro u1 (And.intro u2 u3))
  (refine wp_region_text (Old x) 10 (by kernel_rfl) (by kernel_rfl) (Below.refl _ x).drew ?_; simp only [List.take_succ_cons, List.take_zero, List.drop_succ_cons, List.drop_zero])
  (refine Text.val (fun y hy => load_geo (.tmp 2) rfl rfl (D1.old hy)) (by kernel_rfl) ?_; simp only [Act.put, List.getElem_toArray, List.getElem_cons_succ, List.getElem_cons_zero, List.setIfInBounds_toArray, List.set_cons_zero, List.set_cons_succ])
  repeat (first | (apply Text.sees (hw := by kernel_rfl); (focus (intro x hx K hK; have hc := CE.out x hx; go_simp; exact hK)); simp only [Act.put, List.getElem_toArray, List.getElem_cons_succ, List.getElem_cons_zero, List.setIfInBounds_toArray, List.set_cons_zero, List.set_cons_succ]) | (apply Text.idle; (focus (intro x hx K hK; go_simp; exact hK)); simp only [Act.put, List.getElem_toArray, List.getElem_cons_succ, List.getElem_cons_zero, List.setIfInBounds_toArray, List.set_cons_zero, List.set_cons_succ]))
  (refine Text.call (Old.call fun y hy => c2.out y) (by kernel_rfl) (fun _ => by kernel_rfl) ?_; simp only [Act.put, List.getElem_toArray, List.getElem_cons_succ, List.getElem_cons_zero, List.setIfInBounds_toArray, List.set_cons_zero, List.set_cons_succ])
  repeat (first | (apply Text.sees (hw := by kernel_rfl); (focus (intro x hx K hK; have hc := CE.out x hx; go_simp; exact hK)); simp only [Act.put, List.getElem_toArray, List.getElem_cons_succ, List.getElem_cons_zero, List.setIfInBounds_toArray, List.set_cons_zero, List.set_cons_succ]) | (apply Text.idle; (focus (intro x hx K hK; go_simp; exact hK)); simp only [Act.put, List.getElem_toArray, List.getElem_cons_succ, List.getElem_cons_zero, List.setIfInBounds_toArray, List.set_cons_zero, List.set_cons_succ]))
  intro y hy
  have bz' := tstep bz hy bz.size
  clear CE u1 u2 u3 c c2
  go_wp2
  go_ret
  exact ⟨rfl, bz'⟩
theorem rgx_any (g : G19) (n : Int) (w : World) (hn : inR n) :
    Calls Try.prog 15 #[.agg (geoC g), .int .i64 n] w fun e' w' => e' = .returned (.int .i64 (xE g n)) ∧ Below w.heap.size w w' := by
  unfold xE
  cases hr : rightE g
  · exact rgx_no g n w hr
  · exact rgx_yes g n w hr hn
end Go.Proofs.Ytlinggmnelejfaa
