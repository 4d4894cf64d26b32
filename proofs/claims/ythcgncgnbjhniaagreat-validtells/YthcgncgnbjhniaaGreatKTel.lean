/- The walk of ValidTells. -/
import Derived.Test.YthcgncgnbjhniaaGreatKRck
import Derived.Test.YthcgncgnbjhniaaGreatKAw
namespace Go.Proofs.YthcgncgnbjhniaaGreat
open Go.RowKit
set_option maxRecDepth 20000
set_option linter.unusedVariables false
set_option linter.unusedSimpArgs false

theorem validTells_many (j : J4) (s : S3) (w : World) (hj : Lists w j s) (h : ¬ Few j) :
    Calls Tryz.prog 3 #[.agg (jobC j s)] w fun e w' => e = .returned (.bool true) ∧ Below w.heap.size w w' := by
  have DA := job_new w j s
  have b0 := tbel1 w (.cells (jobC j s) 29)
  have c1 := Lib.hid fun x (hx : Below w.heap.size w x) => ((isB_yes h) ▸ large_is j s x (hj.carry hx) : Calls Tryz.prog 5 #[.agg (jobC j s)] x fun e w' => e = .returned (.bool true) ∧ Below x.heap.size x w')
  have ca := Lib.hid awake15
  clear hj h
  go_enter Tryz.func3, Tryz.ntmps3
  go_upto_region 1 with (fail)
  generalize w.alloc _ = U at *
  (refine wp_region_plain (Old U) 1 (Below.refl _ U) ?_; simp only [List.take_succ_cons, List.take_zero, List.drop_succ_cons, List.drop_zero])
  (refine Text.val (fun x hx => load_job (.tmp 1) rfl rfl (DA.old hx)) (by kernel_rfl) ?_; simp only [Act.put, List.getElem_toArray, List.getElem_cons_succ, List.getElem_cons_zero, List.setIfInBounds_toArray, List.set_cons_zero, List.set_cons_succ])
  intro x hx
  have b1 := tstep b0 hx b0.size
  have c2 := c1.out x b1
  clear b0 hx c1 DA
  go_wp2_with fail
  refine c2.mono ?_
  rintro e y ⟨rfl, hy⟩
  replace b1 := tstep b1 hy b1.size
  clear c2 hy
  go_wp2_with fail
  refine (ca.out y).mono ?_
  rintro e z ⟨rfl, hz⟩
  go_wp2
  go_ret
  exact ⟨rfl, tstep b1 hz b1.size⟩
set_option maxHeartbeats 4000000 in
theorem validTells_few (j : J4) (s : S3) (w : World) (hj : Lists w j s) (fj : Few j) :
    Calls Tryz.prog 3 #[.agg (jobC j s)] w fun e w' => e = .returned (.bool true) ∧ Below w.heap.size w w' := by
  have DA := job_new w j s
  have b0 := tbel1 w (.cells (jobC j s) 29)
  have C1 := Lib.hid fun x (hx : Below w.heap.size w x) => ((isB_no (not_not_intro fj)) ▸ large_is j s x (hj.carry hx) : Calls Tryz.prog 5 #[.agg (jobC j s)] x fun e w' => e = .returned (.bool false) ∧ Below x.heap.size x w')
  have C2 := Lib.hid fun x (hx : Below w.heap.size w x) => vcheck_any j s x (hj.carry hx) (.inl fj)
  have C3 := Lib.hid fun x (hx : Below w.heap.size w x) => rcheck_any j s x (hj.carry hx) (.inl fj)
  have C4 := Lib.hid fun x (hx : Below w.heap.size w x) => vright_any j s x (hj.carry hx) (.inl fj)
  have ca := Lib.hid awake15
  have E : Hid (∃ E, errK j = E ∧ ∃ r, rightK j = r ∧ (r == (E == 0)) = true) := Lib.hid ⟨_, rfl, _, rfl, by unfold rightK; by_cases h : errK j = 0 <;> simp [h]⟩
  obtain ⟨E, hE, r, hr, he⟩ := E.out
  rw [hE] at C2 C3
  rw [hr] at C4
  clear hj fj hE hr
  generalize atK j = A at *
  go_enter Tryz.func3, Tryz.ntmps3
  go_upto_region 1 with (fail)
  generalize w.alloc _ = U at *
  (refine wp_region_plain (Old U) 2 (Below.refl _ U) ?_; simp only [List.take_succ_cons, List.take_zero, List.drop_succ_cons, List.drop_zero])
  (refine Text.val (fun x hx => load_job (.tmp 1) rfl rfl (DA.old hx)) (by kernel_rfl) ?_; simp only [Act.put, List.getElem_toArray, List.getElem_cons_succ, List.getElem_cons_zero, List.setIfInBounds_toArray, List.set_cons_zero, List.set_cons_succ])
  (refine Text.call (Old.call fun x hx => C1.out x (tstep b0 hx b0.size)) (by kernel_rfl) (fun _ => by kernel_rfl) ?_; simp only [Act.put, List.getElem_toArray, List.getElem_cons_succ, List.getElem_cons_zero, List.setIfInBounds_toArray, List.set_cons_zero, List.set_cons_succ])
  intro x hx
  replace DA := DA.old hx
  replace b0 := tstep b0 hx b0.size
  clear hx C1
  go_upto_region 3 with (fail)
  (refine wp_region_plain (Old x) 2 (Below.refl _ x) ?_; simp only [List.take_succ_cons, List.take_zero, List.drop_succ_cons, List.drop_zero])
  (refine Text.val (fun y hy => load_job (.tmp 1) rfl rfl (DA.old hy)) (by kernel_rfl) ?_; simp only [Act.put, List.getElem_toArray, List.getElem_cons_succ, List.getElem_cons_zero, List.setIfInBounds_toArray, List.set_cons_zero, List.set_cons_succ])
  (refine Text.call (Old.call fun y hy => C2.out y (tstep b0 hy b0.size)) (by kernel_rfl) (fun _ => by kernel_rfl) ?_; simp only [Act.put, List.getElem_toArray, List.getElem_cons_succ, List.getElem_cons_zero, List.setIfInBounds_toArray, List.set_cons_zero, List.set_cons_succ])
  intro y hy
  replace DA := DA.old hy
  replace b0 := tstep b0 hy b0.size
  clear hy C2
  go_upto_region 4 with (fail)
  (refine wp_region_plain (Old y) 16 (Below.refl _ y) ?_; simp only [List.take_succ_cons, List.take_zero, List.drop_succ_cons, List.drop_zero])
  (refine Text.val (fun z hz => load_job (.tmp 1) rfl rfl (DA.old hz)) (by kernel_rfl) ?_; simp only [Act.put, List.getElem_toArray, List.getElem_cons_succ, List.getElem_cons_zero, List.setIfInBounds_toArray, List.set_cons_zero, List.set_cons_succ])
  (refine Text.call (Old.call fun z hz => C3.out z (tstep b0 hz b0.size)) (by kernel_rfl) (fun _ => by kernel_rfl) ?_; simp only [Act.put, List.getElem_toArray, List.getElem_cons_succ, List.getElem_cons_zero, List.setIfInBounds_toArray, List.set_cons_zero, List.set_cons_succ])
  repeat (first | (apply Text.sees (hw := by kernel_rfl); (focus (intro x hx K hK; have hc := (fun _ _ => he) x hx; go_simp; exact hK)); simp only [Act.put, List.getElem_toArray, List.getElem_cons_succ, List.getElem_cons_zero, List.setIfInBounds_toArray, List.set_cons_zero, List.set_cons_succ]) | (apply Text.idle; (focus (intro x hx K hK; go_simp; exact hK)); simp only [Act.put, List.getElem_toArray, List.getElem_cons_succ, List.getElem_cons_zero, List.setIfInBounds_toArray, List.set_cons_zero, List.set_cons_succ]))
  (refine Text.val (fun z hz => load_job (.tmp 1) rfl rfl (DA.old hz)) (by kernel_rfl) ?_; simp only [Act.put, List.getElem_toArray, List.getElem_cons_succ, List.getElem_cons_zero, List.setIfInBounds_toArray, List.set_cons_zero, List.set_cons_succ])
  (refine Text.call (Old.call fun z hz => C4.out z (tstep b0 hz b0.size)) (by kernel_rfl) (fun _ => by kernel_rfl) ?_; simp only [Act.put, List.getElem_toArray, List.getElem_cons_succ, List.getElem_cons_zero, List.setIfInBounds_toArray, List.set_cons_zero, List.set_cons_succ])
  repeat (first | (apply Text.sees (hw := by kernel_rfl); (focus (intro x hx K hK; have hc := (fun _ _ => he) x hx; go_simp; exact hK)); simp only [Act.put, List.getElem_toArray, List.getElem_cons_succ, List.getElem_cons_zero, List.setIfInBounds_toArray, List.set_cons_zero, List.set_cons_succ]) | (apply Text.idle; (focus (intro x hx K hK; go_simp; exact hK)); simp only [Act.put, List.getElem_toArray, List.getElem_cons_succ, List.getElem_cons_zero, List.setIfInBounds_toArray, List.set_cons_zero, List.set_cons_succ]))
  (refine Text.call (Old.call fun z hz => ca.out z) (by kernel_rfl) (fun _ => by kernel_rfl) ?_; simp only [Act.put, List.getElem_toArray, List.getElem_cons_succ, List.getElem_cons_zero, List.setIfInBounds_toArray, List.set_cons_zero, List.set_cons_succ])
  repeat (first | (apply Text.sees (hw := by kernel_rfl); (focus (intro x hx K hK; have hc := (fun _ _ => he) x hx; go_simp; exact hK)); simp only [Act.put, List.getElem_toArray, List.getElem_cons_succ, List.getElem_cons_zero, List.setIfInBounds_toArray, List.set_cons_zero, List.set_cons_succ]) | (apply Text.idle; (focus (intro x hx K hK; go_simp; exact hK)); simp only [Act.put, List.getElem_toArray, List.getElem_cons_succ, List.getElem_cons_zero, List.setIfInBounds_toArray, List.set_cons_zero, List.set_cons_succ]))
  intro z hz
  go_wp2
  go_ret
  exact ⟨rfl, tstep b0 hz b0.size⟩
theorem validTells_walk (j : J4) (s : S3) (w : World) (hj : Lists w j s) :
    Calls Tryz.prog 3 #[.agg (jobC j s)] w fun e w' => e = .returned (.bool true) ∧ Below w.heap.size w w' := by
  by_cases fj : Few j
  · exact validTells_few j s w hj fj
  · exact validTells_many j s w hj fj
end Go.Proofs.YthcgncgnbjhniaaGreat
