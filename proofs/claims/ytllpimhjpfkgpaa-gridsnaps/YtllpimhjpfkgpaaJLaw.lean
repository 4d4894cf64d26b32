/- The walks of GridSnaps and GridStays. -/
import Derived.Test.YtllpimhjpfkgpaaJAw
import Derived.Test.YtllpimhjpfkgpaaJRs2
import Derived.Test.YtllpimhjpfkgpaaJRsm
import Derived.Test.YtllpimhjpfkgpaaJRon
import Derived.Test.YtllpimhjpfkgpaaJOpen
namespace Go.Proofs.Ytllpimhjpfkgpaa
open Go.RowKit
set_option maxRecDepth 20000
set_option linter.unusedVariables false
set_option linter.unusedSimpArgs false

theorem few_snap {j : J4} (h : Few j) : Few (snapJ j) := by
  obtain ⟨h1, h2, h3, h4⟩ := h
  unfold snapJ
  split
  · exact ⟨h1, h2, h3, h4⟩
  · refine ⟨by simpa using h1, by simpa using h2, by simpa using h3, fun k => ?_⟩
    rcases Nat.lt_or_ge k j.notes.length with hk | hk
    · rw [map_getD _ _ zeroN _ hk]
      exact ⟨by simpa [snapN] using (h4 k).1, (h4 k).2⟩
    · rw [getD_none (by simpa using hk)]; simp [zeroN]
theorem gridSnaps_many (j k : J4) (s t : S3) (w : World) (hj : Lists w j s) (hk : Lists w k t) (h : isB (¬ Few j) = true ∨ isB (¬ Few j) = false ∧ isB (¬ Few k) = true) :
    Calls Try.prog 3 #[.agg (jobC j s), .agg (jobC k t)] w fun e w' => e = .returned (.bool true) ∧ Below w.heap.size w w' := by
  have DA : JobAt ((w.alloc (.cells (jobC j s) 29)).alloc (.cells (jobC k t) 29)) w.heap.size j s := (job_new w j s).old (tbel1 _ _)
  have DB : JobAt ((w.alloc (.cells (jobC j s) 29)).alloc (.cells (jobC k t) 29)) (w.heap.size + 1) k t := blk_two w _ _ _
  have b0 := tbel2 w (.cells (jobC j s) 29) (.cells (jobC k t) 29)
  have c1 := Lib.hid fun x (hx : Below w.heap.size w x) => large_is j s x (hj.carry hx)
  have c2 := Lib.hid fun x (hx : Below w.heap.size w x) => large_is k t x (hk.carry hx)
  have ca := Lib.hid awake14
  clear hj hk
  generalize isB (¬ Few j) = r1 at *
  generalize isB (¬ Few k) = r2 at *
  rcases h with h | ⟨h, h'⟩
  · subst h
    go_enter Try.func3, Try.ntmps3
    go_upto_region 1 with (fail)
    change Code.wp _ _ _ _ ((w.alloc (.cells (jobC j s) 29)).alloc (.cells (jobC k t) 29))
    generalize (w.alloc _).alloc _ = U at *
    (refine wp_region_plain (Old U) 5 (Below.refl _ U) ?_; simp only [List.take_succ_cons, List.take_zero, List.drop_succ_cons, List.drop_zero])
    (refine Text.val (fun x hx => load_job (.tmp 2) rfl rfl (DA.old hx)) (by kernel_rfl) ?_; simp only [Act.put, List.getElem_toArray, List.getElem_cons_succ, List.getElem_cons_zero, List.setIfInBounds_toArray, List.set_cons_zero, List.set_cons_succ])
    (refine Text.call (Old.call fun x hx => c1.out x (tstep b0 hx b0.size)) (by kernel_rfl) (fun _ => by kernel_rfl) ?_; simp only [Act.put, List.getElem_toArray, List.getElem_cons_succ, List.getElem_cons_zero, List.setIfInBounds_toArray, List.set_cons_zero, List.set_cons_succ])
    repeat (first | (apply Text.sees (hw := by kernel_rfl); (focus (intro x hx K hK; have hc := (fun _ _ => trivial) x hx; go_simp; exact hK)); simp only [Act.put, List.getElem_toArray, List.getElem_cons_succ, List.getElem_cons_zero, List.setIfInBounds_toArray, List.set_cons_zero, List.set_cons_succ]) | (apply Text.idle; (focus (intro x hx K hK; go_simp; exact hK)); simp only [Act.put, List.getElem_toArray, List.getElem_cons_succ, List.getElem_cons_zero, List.setIfInBounds_toArray, List.set_cons_zero, List.set_cons_succ]))
    intro x hx
    have b1 := tstep b0 hx b0.size
    clear b0 hx c1 c2 DA DB
    go_wp2_with fail
    refine (ca.out x).mono ?_
    rintro e y ⟨rfl, hy⟩
    go_wp2
    go_ret
    exact ⟨rfl, tstep b1 hy b1.size⟩
  · subst h h'
    go_enter Try.func3, Try.ntmps3
    go_upto_region 1 with (fail)
    change Code.wp _ _ _ _ ((w.alloc (.cells (jobC j s) 29)).alloc (.cells (jobC k t) 29))
    generalize (w.alloc _).alloc _ = U at *
    (refine wp_region_plain (Old U) 5 (Below.refl _ U) ?_; simp only [List.take_succ_cons, List.take_zero, List.drop_succ_cons, List.drop_zero])
    (refine Text.val (fun x hx => load_job (.tmp 2) rfl rfl (DA.old hx)) (by kernel_rfl) ?_; simp only [Act.put, List.getElem_toArray, List.getElem_cons_succ, List.getElem_cons_zero, List.setIfInBounds_toArray, List.set_cons_zero, List.set_cons_succ])
    (refine Text.call (Old.call fun x hx => c1.out x (tstep b0 hx b0.size)) (by kernel_rfl) (fun _ => by kernel_rfl) ?_; simp only [Act.put, List.getElem_toArray, List.getElem_cons_succ, List.getElem_cons_zero, List.setIfInBounds_toArray, List.set_cons_zero, List.set_cons_succ])
    repeat (first | (apply Text.sees (hw := by kernel_rfl); (focus (intro x hx K hK; have hc := (fun _ _ => trivial) x hx; go_simp; exact hK)); simp only [Act.put, List.getElem_toArray, List.getElem_cons_succ, List.getElem_cons_zero, List.setIfInBounds_toArray, List.set_cons_zero, List.set_cons_succ]) | (apply Text.idle; (focus (intro x hx K hK; go_simp; exact hK)); simp only [Act.put, List.getElem_toArray, List.getElem_cons_succ, List.getElem_cons_zero, List.setIfInBounds_toArray, List.set_cons_zero, List.set_cons_succ]))
    (refine Text.val (fun x hx => load_job (.tmp 3) rfl rfl (DB.old hx)) (by kernel_rfl) ?_; simp only [Act.put, List.getElem_toArray, List.getElem_cons_succ, List.getElem_cons_zero, List.setIfInBounds_toArray, List.set_cons_zero, List.set_cons_succ])
    (refine Text.call (Old.call fun x hx => c2.out x (tstep b0 hx b0.size)) (by kernel_rfl) (fun _ => by kernel_rfl) ?_; simp only [Act.put, List.getElem_toArray, List.getElem_cons_succ, List.getElem_cons_zero, List.setIfInBounds_toArray, List.set_cons_zero, List.set_cons_succ])
    repeat (first | (apply Text.sees (hw := by kernel_rfl); (focus (intro x hx K hK; have hc := (fun _ _ => trivial) x hx; go_simp; exact hK)); simp only [Act.put, List.getElem_toArray, List.getElem_cons_succ, List.getElem_cons_zero, List.setIfInBounds_toArray, List.set_cons_zero, List.set_cons_succ]) | (apply Text.idle; (focus (intro x hx K hK; go_simp; exact hK)); simp only [Act.put, List.getElem_toArray, List.getElem_cons_succ, List.getElem_cons_zero, List.setIfInBounds_toArray, List.set_cons_zero, List.set_cons_succ]))
    intro x hx
    have b1 := tstep b0 hx b0.size
    clear b0 hx c1 c2 DA DB
    go_wp2_with fail
    refine (ca.out x).mono ?_
    rintro e y ⟨rfl, hy⟩
    go_wp2
    go_ret
    exact ⟨rfl, tstep b1 hy b1.size⟩
set_option maxHeartbeats 4000000 in
theorem gridSnaps_few (j k : J4) (s t : S3) (w : World) (hj : Lists w j s) (hk : Lists w k t) (fj : Few j) (fk : Few k) :
    Calls Try.prog 3 #[.agg (jobC j s), .agg (jobC k t)] w fun e w' => e = .returned (.bool true) ∧ Below w.heap.size w w' := by
  have DA : JobAt ((w.alloc (.cells (jobC j s) 29)).alloc (.cells (jobC k t) 29)) w.heap.size j s := (job_new w j s).old (tbel1 _ _)
  have DB : JobAt ((w.alloc (.cells (jobC j s) 29)).alloc (.cells (jobC k t) 29)) (w.heap.size + 1) k t := blk_two w _ _ _
  have b0 := tbel2 w (.cells (jobC j s) 29) (.cells (jobC k t) 29)
  have c1 := fun x (hx : Below w.heap.size w x) => large_is j s x (hj.carry hx)
  have c2 := fun x (hx : Below w.heap.size w x) => large_is k t x (hk.carry hx)
  simp only [isB_no (not_not_intro fj)] at c1
  simp only [isB_no (not_not_intro fk)] at c2
  have C1 := Lib.hid c1
  have C2 := Lib.hid c2
  clear c1 c2
  have S1 := Lib.hid fun x (hx : Below w.heap.size w x) => snap_any j s x (hj.carry hx) fj
  have S2 := Lib.hid fun x (hx : Below w.heap.size w x) => rsnap_any j s x (hj.carry hx) fj
  have S3 := Lib.hid fun a b x (ha : Lists x (snapJ j) a) (hb : Lists x (snapJ j) b) => ((sameJ_refl (snapJ j)) ▸ rsame_any (snapJ j) (snapJ j) a b x ha hb (few_snap fj) (few_snap fj) : Calls Try.prog 7 #[.agg (jobC (snapJ j) a), .agg (jobC (snapJ j) b)] x fun e w' => e = .returned (.bool true) ∧ Below x.heap.size x w')
  have O1 := Lib.hid fun x (hx : Below w.heap.size w x) => on_any j s x (hj.carry hx) fj
  have O2 := Lib.hid fun x (hx : Below w.heap.size w x) => ron_any j s x (hj.carry hx) fj
  have M1 := Lib.hid fun x (hx : Below w.heap.size w x) => same_any j k s t x (hj.carry hx) (hk.carry hx) fj fk
  have M2 := Lib.hid fun x (hx : Below w.heap.size w x) => rsame_any j k s t x (hj.carry hx) (hk.carry hx) fj fk
  have M3 := Lib.hid fun x (hx : Below w.heap.size w x) => ((sameJ_refl j) ▸ same_any j j s s x (hj.carry hx) (hj.carry hx) fj fj : Calls Try.prog 12 #[.agg (jobC j s), .agg (jobC j s)] x fun e w' => e = .returned (.bool true) ∧ Below x.heap.size x w')
  have ca := Lib.hid awake14
  clear hj hk
  generalize onJ j = r1 at *
  generalize sameJ j k = r2 at *
  have q1 : (r1 == r1) = true := by simp
  have q2 : (r2 == r2) = true := by simp
  go_enter Try.func3, Try.ntmps3
  go_upto_region 1 with (fail)
  change Code.wp _ _ _ _ ((w.alloc (.cells (jobC j s) 29)).alloc (.cells (jobC k t) 29))
  generalize (w.alloc _).alloc _ = U at *
  (refine wp_region_plain (Old U) 5 (Below.refl _ U) ?_; simp only [List.take_succ_cons, List.take_zero, List.drop_succ_cons, List.drop_zero])
  (refine Text.val (fun x hx => load_job (.tmp 2) rfl rfl (DA.old hx)) (by kernel_rfl) ?_; simp only [Act.put, List.getElem_toArray, List.getElem_cons_succ, List.getElem_cons_zero, List.setIfInBounds_toArray, List.set_cons_zero, List.set_cons_succ])
  (refine Text.call (Old.call fun x hx => C1.out x (tstep b0 hx b0.size)) (by kernel_rfl) (fun _ => by kernel_rfl) ?_; simp only [Act.put, List.getElem_toArray, List.getElem_cons_succ, List.getElem_cons_zero, List.setIfInBounds_toArray, List.set_cons_zero, List.set_cons_succ])
  repeat (first | (apply Text.sees (hw := by kernel_rfl); (focus (intro x hx K hK; have hc := (fun _ _ => trivial) x hx; go_simp; exact hK)); simp only [Act.put, List.getElem_toArray, List.getElem_cons_succ, List.getElem_cons_zero, List.setIfInBounds_toArray, List.set_cons_zero, List.set_cons_succ]) | (apply Text.idle; (focus (intro x hx K hK; go_simp; exact hK)); simp only [Act.put, List.getElem_toArray, List.getElem_cons_succ, List.getElem_cons_zero, List.setIfInBounds_toArray, List.set_cons_zero, List.set_cons_succ]))
  (refine Text.val (fun x hx => load_job (.tmp 3) rfl rfl (DB.old hx)) (by kernel_rfl) ?_; simp only [Act.put, List.getElem_toArray, List.getElem_cons_succ, List.getElem_cons_zero, List.setIfInBounds_toArray, List.set_cons_zero, List.set_cons_succ])
  (refine Text.call (Old.call fun x hx => C2.out x (tstep b0 hx b0.size)) (by kernel_rfl) (fun _ => by kernel_rfl) ?_; simp only [Act.put, List.getElem_toArray, List.getElem_cons_succ, List.getElem_cons_zero, List.setIfInBounds_toArray, List.set_cons_zero, List.set_cons_succ])
  repeat (first | (apply Text.sees (hw := by kernel_rfl); (focus (intro x hx K hK; have hc := (fun _ _ => trivial) x hx; go_simp; exact hK)); simp only [Act.put, List.getElem_toArray, List.getElem_cons_succ, List.getElem_cons_zero, List.setIfInBounds_toArray, List.set_cons_zero, List.set_cons_succ]) | (apply Text.idle; (focus (intro x hx K hK; go_simp; exact hK)); simp only [Act.put, List.getElem_toArray, List.getElem_cons_succ, List.getElem_cons_zero, List.setIfInBounds_toArray, List.set_cons_zero, List.set_cons_succ]))
  intro x hx
  replace DA := DA.old hx
  replace DB := DB.old hx
  replace b0 := tstep b0 hx b0.size
  clear hx C1 C2
  go_upto_region 3 with (fail)
  (refine wp_region_plan 29 [(0, true), (2, true), (1, false), (3, false), (4, true), (5, true), (6, true), (7, true), (8, true), (9, true), (10, true), (11, true), (12, true), (13, true), (14, true), (15, true), (16, true), (17, true), (18, true), (19, true), (20, true), (21, true), (22, true), (23, true), (24, true), (25, true), (26, true), (27, true), (28, true)] (by kernel_rfl) (by kernel_rfl) ?_; simp only [pick, List.getElem?_cons_succ, List.getElem?_cons_zero, List.drop_succ_cons, List.drop_zero])
  (refine TextV.val (fun y hy => load_job (.tmp 2) rfl rfl (DA.old hy)) (by kernel_rfl) ?_; simp only [Act.put, List.getElem_toArray, List.getElem_cons_succ, List.getElem_cons_zero, List.setIfInBounds_toArray, List.set_cons_zero, List.set_cons_succ])
  (refine TextV.val (fun y hy => load_job (.tmp 2) rfl rfl (DA.old hy)) (by kernel_rfl) ?_; simp only [Act.put, List.getElem_toArray, List.getElem_cons_succ, List.getElem_cons_zero, List.setIfInBounds_toArray, List.set_cons_zero, List.set_cons_succ])
  (refine TextV.loud (V := fun v y => ∃ a, v = .agg (jobC (snapJ j) a) ∧ Lists y (snapJ j) a) (fun y hy => (S1.out y (tstep b0 hy b0.size)).mono fun e z h => by obtain ⟨a, r1, r2, r3⟩ := h; exact ⟨_, r1, ⟨a, rfl, r2⟩, r3⟩) (by kernel_rfl) (fun _ => by kernel_rfl) (fun v1 y1 hv1 hy1 => ?_); simp only [Act.put, List.getElem_toArray, List.getElem_cons_succ, List.getElem_cons_zero, List.setIfInBounds_toArray, List.set_cons_zero, List.set_cons_succ])
  obtain ⟨s1, rfl, hL1⟩ := hv1
  (refine TextV.loud (V := fun v y => ∃ a, v = .agg (jobC (snapJ j) a) ∧ Lists y (snapJ j) a) (fun y hy => (S2.out y (tstep b0 (hy1.old hy) b0.size)).mono fun e z h => by obtain ⟨a, r1, r2, r3⟩ := h; exact ⟨_, r1, ⟨a, rfl, r2⟩, r3⟩) (by kernel_rfl) (fun _ => by kernel_rfl) (fun v2 y2 hv2 hy2 => ?_); simp only [Act.put, List.getElem_toArray, List.getElem_cons_succ, List.getElem_cons_zero, List.setIfInBounds_toArray, List.set_cons_zero, List.set_cons_succ])
  obtain ⟨s2, rfl, hL2⟩ := hv2
  (refine TextV.call (fun y hy => S3.out s1 s2 y (hL1.carry (hy2.old hy)) (hL2.carry hy)) (by kernel_rfl) (fun _ => by kernel_rfl) ?_; simp only [Act.put, List.getElem_toArray, List.getElem_cons_succ, List.getElem_cons_zero, List.setIfInBounds_toArray, List.set_cons_zero, List.set_cons_succ])
  repeat (first | (apply TextV.sees (hw := by kernel_rfl); (focus (intro x hx K hK; have hc := (fun _ _ => trivial) x hx; go_simp; exact hK)); simp only [Act.put, List.getElem_toArray, List.getElem_cons_succ, List.getElem_cons_zero, List.setIfInBounds_toArray, List.set_cons_zero, List.set_cons_succ]) | (apply TextV.idle; (focus (intro x hx K hK; go_simp; exact hK)); simp only [Act.put, List.getElem_toArray, List.getElem_cons_succ, List.getElem_cons_zero, List.setIfInBounds_toArray, List.set_cons_zero, List.set_cons_succ]))
  (refine TextV.val (fun y hy => load_job (.tmp 2) rfl rfl (DA.old ((hy1.old hy2).old hy))) (by kernel_rfl) ?_; simp only [Act.put, List.getElem_toArray, List.getElem_cons_succ, List.getElem_cons_zero, List.setIfInBounds_toArray, List.set_cons_zero, List.set_cons_succ])
  (refine TextV.call (fun y hy => O1.out y (tstep b0 ((hy1.old hy2).old hy) b0.size)) (by kernel_rfl) (fun _ => by kernel_rfl) ?_; simp only [Act.put, List.getElem_toArray, List.getElem_cons_succ, List.getElem_cons_zero, List.setIfInBounds_toArray, List.set_cons_zero, List.set_cons_succ])
  (refine TextV.val (fun y hy => load_job (.tmp 2) rfl rfl (DA.old ((hy1.old hy2).old hy))) (by kernel_rfl) ?_; simp only [Act.put, List.getElem_toArray, List.getElem_cons_succ, List.getElem_cons_zero, List.setIfInBounds_toArray, List.set_cons_zero, List.set_cons_succ])
  (refine TextV.call (fun y hy => O2.out y (tstep b0 ((hy1.old hy2).old hy) b0.size)) (by kernel_rfl) (fun _ => by kernel_rfl) ?_; simp only [Act.put, List.getElem_toArray, List.getElem_cons_succ, List.getElem_cons_zero, List.setIfInBounds_toArray, List.set_cons_zero, List.set_cons_succ])
  repeat (first | (apply TextV.sees (hw := by kernel_rfl); (focus (intro x hx K hK; have hc := (fun _ _ => trivial) x hx; go_simp; exact hK)); simp only [Act.put, List.getElem_toArray, List.getElem_cons_succ, List.getElem_cons_zero, List.setIfInBounds_toArray, List.set_cons_zero, List.set_cons_succ]) | (apply TextV.idle; (focus (intro x hx K hK; go_simp; exact hK)); simp only [Act.put, List.getElem_toArray, List.getElem_cons_succ, List.getElem_cons_zero, List.setIfInBounds_toArray, List.set_cons_zero, List.set_cons_succ]))
  (refine TextV.val (fun y hy => load_job (.tmp 2) rfl rfl (DA.old ((hy1.old hy2).old hy))) (by kernel_rfl) ?_; simp only [Act.put, List.getElem_toArray, List.getElem_cons_succ, List.getElem_cons_zero, List.setIfInBounds_toArray, List.set_cons_zero, List.set_cons_succ])
  (refine TextV.val (fun y hy => load_job (.tmp 3) rfl rfl (DB.old ((hy1.old hy2).old hy))) (by kernel_rfl) ?_; simp only [Act.put, List.getElem_toArray, List.getElem_cons_succ, List.getElem_cons_zero, List.setIfInBounds_toArray, List.set_cons_zero, List.set_cons_succ])
  (refine TextV.call (fun y hy => M1.out y (tstep b0 ((hy1.old hy2).old hy) b0.size)) (by kernel_rfl) (fun _ => by kernel_rfl) ?_; simp only [Act.put, List.getElem_toArray, List.getElem_cons_succ, List.getElem_cons_zero, List.setIfInBounds_toArray, List.set_cons_zero, List.set_cons_succ])
  (refine TextV.val (fun y hy => load_job (.tmp 2) rfl rfl (DA.old ((hy1.old hy2).old hy))) (by kernel_rfl) ?_; simp only [Act.put, List.getElem_toArray, List.getElem_cons_succ, List.getElem_cons_zero, List.setIfInBounds_toArray, List.set_cons_zero, List.set_cons_succ])
  (refine TextV.val (fun y hy => load_job (.tmp 3) rfl rfl (DB.old ((hy1.old hy2).old hy))) (by kernel_rfl) ?_; simp only [Act.put, List.getElem_toArray, List.getElem_cons_succ, List.getElem_cons_zero, List.setIfInBounds_toArray, List.set_cons_zero, List.set_cons_succ])
  (refine TextV.call (fun y hy => M2.out y (tstep b0 ((hy1.old hy2).old hy) b0.size)) (by kernel_rfl) (fun _ => by kernel_rfl) ?_; simp only [Act.put, List.getElem_toArray, List.getElem_cons_succ, List.getElem_cons_zero, List.setIfInBounds_toArray, List.set_cons_zero, List.set_cons_succ])
  repeat (first | (apply TextV.sees (hw := by kernel_rfl); (focus (intro x hx K hK; have hc := (fun _ _ => trivial) x hx; go_simp; exact hK)); simp only [Act.put, List.getElem_toArray, List.getElem_cons_succ, List.getElem_cons_zero, List.setIfInBounds_toArray, List.set_cons_zero, List.set_cons_succ]) | (apply TextV.idle; (focus (intro x hx K hK; go_simp; exact hK)); simp only [Act.put, List.getElem_toArray, List.getElem_cons_succ, List.getElem_cons_zero, List.setIfInBounds_toArray, List.set_cons_zero, List.set_cons_succ]))
  (refine TextV.val (fun y hy => load_job (.tmp 2) rfl rfl (DA.old ((hy1.old hy2).old hy))) (by kernel_rfl) ?_; simp only [Act.put, List.getElem_toArray, List.getElem_cons_succ, List.getElem_cons_zero, List.setIfInBounds_toArray, List.set_cons_zero, List.set_cons_succ])
  (refine TextV.val (fun y hy => load_job (.tmp 2) rfl rfl (DA.old ((hy1.old hy2).old hy))) (by kernel_rfl) ?_; simp only [Act.put, List.getElem_toArray, List.getElem_cons_succ, List.getElem_cons_zero, List.setIfInBounds_toArray, List.set_cons_zero, List.set_cons_succ])
  (refine TextV.call (fun y hy => M3.out y (tstep b0 ((hy1.old hy2).old hy) b0.size)) (by kernel_rfl) (fun _ => by kernel_rfl) ?_; simp only [Act.put, List.getElem_toArray, List.getElem_cons_succ, List.getElem_cons_zero, List.setIfInBounds_toArray, List.set_cons_zero, List.set_cons_succ])
  repeat (first | (apply TextV.sees (hw := by kernel_rfl); (focus (intro x hx K hK; have hc := (fun _ _ => trivial) x hx; go_simp; exact hK)); simp only [Act.put, List.getElem_toArray, List.getElem_cons_succ, List.getElem_cons_zero, List.setIfInBounds_toArray, List.set_cons_zero, List.set_cons_succ]) | (apply TextV.idle; (focus (intro x hx K hK; go_simp; exact hK)); simp only [Act.put, List.getElem_toArray, List.getElem_cons_succ, List.getElem_cons_zero, List.setIfInBounds_toArray, List.set_cons_zero, List.set_cons_succ]))
  (refine TextV.call (fun y hy => ca.out y) (by kernel_rfl) (fun _ => by kernel_rfl) ?_; simp only [Act.put, List.getElem_toArray, List.getElem_cons_succ, List.getElem_cons_zero, List.setIfInBounds_toArray, List.set_cons_zero, List.set_cons_succ])
  repeat (first | (apply TextV.sees (hw := by kernel_rfl); (focus (intro x hx K hK; have hc := (fun _ _ => trivial) x hx; go_simp; exact hK)); simp only [Act.put, List.getElem_toArray, List.getElem_cons_succ, List.getElem_cons_zero, List.setIfInBounds_toArray, List.set_cons_zero, List.set_cons_succ]) | (apply TextV.idle; (focus (intro x hx K hK; go_simp; exact hK)); simp only [Act.put, List.getElem_toArray, List.getElem_cons_succ, List.getElem_cons_zero, List.setIfInBounds_toArray, List.set_cons_zero, List.set_cons_succ]))
  intro z hz
  go_wp2
  go_ret
  exact ⟨rfl, tstep b0 ((hy1.old hy2).old hz) b0.size⟩
theorem gridSnaps_walk (j : J4) (s : S3) (k : J4) (t : S3) (w : World) (hj : Lists w j s) (hk : Lists w k t) :
    Calls Try.prog 3 #[.agg (jobC j s), .agg (jobC k t)] w fun e w' => e = .returned (.bool true) ∧ Below w.heap.size w w' := by
  by_cases fj : Few j
  · by_cases fk : Few k
    · exact gridSnaps_few j k s t w hj hk fj fk
    · exact gridSnaps_many j k s t w hj hk (.inr ⟨isB_no (not_not_intro fj), isB_yes fk⟩)
  · exact gridSnaps_many j k s t w hj hk (.inl (isB_yes fj))
theorem gridStays_many (j : J4) (s : S3) (w : World) (hj : Lists w j s) (h : ¬ Few j) :
    Calls Try.prog 4 #[.agg (jobC j s)] w fun e w' => e = .returned (.bool true) ∧ Below w.heap.size w w' := by
  have DA := job_new w j s
  have b0 := tbel1 w (.cells (jobC j s) 29)
  have c1 := Lib.hid fun x (hx : Below w.heap.size w x) => ((isB_yes h) ▸ large_is j s x (hj.carry hx) : Calls Try.prog 5 #[.agg (jobC j s)] x fun e w' => e = .returned (.bool true) ∧ Below x.heap.size x w')
  have ca := Lib.hid awake14
  clear hj h
  go_enter Try.func4, Try.ntmps4
  go_upto_region 1 with (fail)
  generalize w.alloc _ = U at *
  (refine wp_region_plain (Old U) 1 (Below.refl _ U) ?_; simp only [List.take_succ_cons, List.take_zero, List.drop_succ_cons, List.drop_zero])
  (refine Text.val (fun x hx => load_job (.tmp 1) rfl rfl (DA.old hx)) (by kernel_rfl) ?_; simp only [Act.put, List.getElem_toArray, List.getElem_cons_succ, List.getElem_cons_zero, List.setIfInBounds_toArray, List.set_cons_zero, List.set_cons_succ])
  intro x hx
  have b1 := tstep b0 hx b0.size
  have c2 := c1.out x b1
  clear b0 hx c1 DA
  go_wp2_with fail
  refine c2.mono ?_
  rintro e y ⟨rfl, hy⟩
  replace b1 := tstep b1 hy b1.size
  clear c2 hy
  go_wp2_with fail
  refine (ca.out y).mono ?_
  rintro e z ⟨rfl, hz⟩
  go_wp2
  go_ret
  exact ⟨rfl, tstep b1 hz b1.size⟩
set_option maxHeartbeats 4000000 in
theorem gridStays_few (j : J4) (s : S3) (w : World) (hj : Lists w j s) (fj : Few j) :
    Calls Try.prog 4 #[.agg (jobC j s)] w fun e w' => e = .returned (.bool true) ∧ Below w.heap.size w w' := by
  have DA := job_new w j s
  have b0 := tbel1 w (.cells (jobC j s) 29)
  have C1 := Lib.hid fun x (hx : Below w.heap.size w x) => ((isB_no (not_not_intro fj)) ▸ large_is j s x (hj.carry hx) : Calls Try.prog 5 #[.agg (jobC j s)] x fun e w' => e = .returned (.bool false) ∧ Below x.heap.size x w')
  have S1 := Lib.hid fun x (hx : Below w.heap.size w x) => snap_any j s x (hj.carry hx) fj
  have CF := Lib.hid fun x (hx : Below w.heap.size w x) => rfair_any j s x (hj.carry hx) fj
  have ST := Lib.hid fun (h : fairJ j = true) => snapJ_stays h
  have O1 := Lib.hid fun (h : fairJ j = true) a x (ha : Lists x (snapJ j) a) => ((snapJ_stays h).1 ▸ on_any (snapJ j) a x ha (few_snap fj) : Calls Try.prog 10 #[.agg (jobC (snapJ j) a)] x fun e w' => e = .returned (.bool true) ∧ Below x.heap.size x w')
  have S2 := Lib.hid fun a x (ha : Lists x (snapJ j) a) => snap_any (snapJ j) a x ha (few_snap fj)
  have S3 := Lib.hid fun (h : fairJ j = true) a b x (ha : Lists x (snapJ (snapJ j)) a) (hb : Lists x (snapJ j) b) => ((by rw [(snapJ_stays h).2.1]; exact sameJ_refl _ : sameJ (snapJ (snapJ j)) (snapJ j) = true) ▸ rsame_any (snapJ (snapJ j)) (snapJ j) a b x ha hb (few_snap (few_snap fj)) (few_snap fj) : Calls Try.prog 7 #[.agg (jobC (snapJ (snapJ j)) a), .agg (jobC (snapJ j) b)] x fun e w' => e = .returned (.bool true) ∧ Below x.heap.size x w')
  have ca := Lib.hid awake14
  clear hj fj
  have HF := Lib.hid (rfl : fairJ j = fairJ j)
  obtain ⟨r, hr⟩ : ∃ r, r = fairJ j := ⟨_, rfl⟩
  have CF2 := Lib.hid fun x hx => (hr ▸ CF.out x hx : Calls Try.prog 13 #[.agg (jobC j s)] x fun e w' => e = .returned (.bool r) ∧ Below x.heap.size x w')
  have HR := Lib.hid hr
  clear CF hr HF
  go_enter Try.func4, Try.ntmps4
  go_upto_region 1 with (fail)
  generalize w.alloc _ = U at *
  (refine wp_region_plain (Old U) 2 (Below.refl _ U) ?_; simp only [List.take_succ_cons, List.take_zero, List.drop_succ_cons, List.drop_zero])
  (refine Text.val (fun x hx => load_job (.tmp 1) rfl rfl (DA.old hx)) (by kernel_rfl) ?_; simp only [Act.put, List.getElem_toArray, List.getElem_cons_succ, List.getElem_cons_zero, List.setIfInBounds_toArray, List.set_cons_zero, List.set_cons_succ])
  (refine Text.call (Old.call fun x hx => C1.out x (tstep b0 hx b0.size)) (by kernel_rfl) (fun _ => by kernel_rfl) ?_; simp only [Act.put, List.getElem_toArray, List.getElem_cons_succ, List.getElem_cons_zero, List.setIfInBounds_toArray, List.set_cons_zero, List.set_cons_succ])
  intro x hx
  replace DA := DA.old hx
  replace b0 := tstep b0 hx b0.size
  clear hx C1
  go_upto_region 3 with (fail)
  refine wp_region_lit ?_
  refine wpl_load_job rfl (.tmp 1) rfl rfl DA ?_
  simp only [Act.put, List.getElem_toArray, List.getElem_cons_succ, List.getElem_cons_zero, List.setIfInBounds_toArray, List.set_cons_zero, List.set_cons_succ]
  refine wpl_call (V := fun v y => ∃ a, v = .agg (jobC (snapJ j) a) ∧ Lists y (snapJ j) a ∧ Below x.heap.size x y) rfl (by kernel_rfl) ((S1.out x b0).mono fun e y h => by obtain ⟨a, r1, r2, r3⟩ := h; exact ⟨_, r1, a, rfl, r2, r3⟩) ?_
  rintro v w1 ⟨s1, rfl, hL1, b1⟩
  simp only [Act.put, List.getElem_toArray, List.getElem_cons_succ, List.getElem_cons_zero, List.setIfInBounds_toArray, List.set_cons_zero, List.set_cons_succ]
  refine make_job (j := snapJ j) (s := s1) rfl rfl rfl (.tmp 3) (.tmp 8) rfl rfl rfl ?_
  simp only [Act.put, List.getElem_toArray, List.getElem_cons_succ, List.getElem_cons_zero, List.setIfInBounds_toArray, List.set_cons_zero, List.set_cons_succ]
  have D2 := job_new w1 (snapJ j) s1
  have bo := tstep b1 (tbel1 w1 (.cells (jobC (snapJ j) s1) 29)) b1.size
  replace hL1 := hL1.carry (tbel1 w1 (.cells (jobC (snapJ j) s1) 29))
  replace DA := DA.old bo
  replace b0 := tstep b0 bo b0.size
  clear b1 bo S1
  go_upto_region 4 with (fail)
  generalize w1.heap.size = q at *
  generalize w1.alloc _ = W at *
  (refine wp_region_plain (Old W) 2 (Below.refl _ W) ?_; simp only [List.take_succ_cons, List.take_zero, List.drop_succ_cons, List.drop_zero])
  (refine Text.val (fun x hx => load_job (.tmp 1) rfl rfl (DA.old hx)) (by kernel_rfl) ?_; simp only [Act.put, List.getElem_toArray, List.getElem_cons_succ, List.getElem_cons_zero, List.setIfInBounds_toArray, List.set_cons_zero, List.set_cons_succ])
  (refine Text.call (Old.call fun x hx => CF2.out x (tstep b0 hx b0.size)) (by kernel_rfl) (fun _ => by kernel_rfl) ?_; simp only [Act.put, List.getElem_toArray, List.getElem_cons_succ, List.getElem_cons_zero, List.setIfInBounds_toArray, List.set_cons_zero, List.set_cons_succ])
  intro x2 hx2
  replace DA := DA.old hx2
  replace D2 := D2.old hx2
  replace hL1 := hL1.carry hx2
  replace b0 := tstep b0 hx2 b0.size
  clear hx2 CF2
  cases r
  · go_wp2_with fail
    refine (ca.out x2).mono ?_
    rintro e z ⟨rfl, hz⟩
    go_wp2
    go_ret
    exact ⟨rfl, tstep b0 hz b0.size⟩
  · have hst := ST.out HR.out.symm
    have hle := hst.2.2
    have g1 := DA.geo.2.2.2.1
    have g2 := D2.geo.2.2.2.1
    have hd : decide ((snapJ j).g.high ≤ j.g.high) = true := decide_eq_true hle
    have O2 := Lib.hid (O1.out HR.out.symm)
    have S4 := Lib.hid (S3.out HR.out.symm)
    have CE := Lib.hid fun z (hz : Old x2 z) => And.intro ((Blk.cell (DA.old hz) 3).trans ((Blk.cell DA 3).symm.trans g1)) (And.intro ((Blk.cell (D2.old hz) 3).trans ((Blk.cell D2 3).symm.trans g2)) hd)
    clear hst hle g1 g2 hd O1 S3 ST
    go_upto_region 6 with (fail)
    (refine wp_region_plan 20 [(0, true), (1, true), (2, true), (3, true), (5, true), (4, false), (6, true), (7, true), (8, true), (9, true), (10, true), (11, true), (12, true), (13, true), (14, true), (15, true), (16, true), (17, true), (18, true), (19, true)] (by kernel_rfl) (by kernel_rfl) ?_; simp only [pick, List.getElem?_cons_succ, List.getElem?_cons_zero, List.drop_succ_cons, List.drop_zero])
    (refine TextV.val (fun y hy => load_job (.tmp 3) rfl rfl (D2.old hy)) (by kernel_rfl) ?_; simp only [Act.put, List.getElem_toArray, List.getElem_cons_succ, List.getElem_cons_zero, List.setIfInBounds_toArray, List.set_cons_zero, List.set_cons_succ])
    (refine TextV.call (fun y hy => O2.out s1 y (hL1.carry hy)) (by kernel_rfl) (fun _ => by kernel_rfl) ?_; simp only [Act.put, List.getElem_toArray, List.getElem_cons_succ, List.getElem_cons_zero, List.setIfInBounds_toArray, List.set_cons_zero, List.set_cons_succ])
    repeat (first | (apply TextV.sees (hw := by kernel_rfl); (focus (intro x hx K hK; have hc := (fun _ _ => trivial) x hx; go_simp; exact hK)); simp only [Act.put, List.getElem_toArray, List.getElem_cons_succ, List.getElem_cons_zero, List.setIfInBounds_toArray, List.set_cons_zero, List.set_cons_succ]) | (apply TextV.idle; (focus (intro x hx K hK; go_simp; exact hK)); simp only [Act.put, List.getElem_toArray, List.getElem_cons_succ, List.getElem_cons_zero, List.setIfInBounds_toArray, List.set_cons_zero, List.set_cons_succ]))
    (refine TextV.val (fun y hy => load_job (.tmp 3) rfl rfl (D2.old hy)) (by kernel_rfl) ?_; simp only [Act.put, List.getElem_toArray, List.getElem_cons_succ, List.getElem_cons_zero, List.setIfInBounds_toArray, List.set_cons_zero, List.set_cons_succ])
    (refine TextV.val (fun y hy => load_job (.tmp 3) rfl rfl (D2.old hy)) (by kernel_rfl) ?_; simp only [Act.put, List.getElem_toArray, List.getElem_cons_succ, List.getElem_cons_zero, List.setIfInBounds_toArray, List.set_cons_zero, List.set_cons_succ])
    (refine TextV.loud (V := fun v y => ∃ a, v = .agg (jobC (snapJ (snapJ j)) a) ∧ Lists y (snapJ (snapJ j)) a) (fun y hy => (S2.out s1 y (hL1.carry hy)).mono fun e z h => by obtain ⟨a, r1, r2, r3⟩ := h; exact ⟨_, r1, ⟨a, rfl, r2⟩, r3⟩) (by kernel_rfl) (fun _ => by kernel_rfl) (fun v1 y1 hv1 hy1 => ?_); simp only [Act.put, List.getElem_toArray, List.getElem_cons_succ, List.getElem_cons_zero, List.setIfInBounds_toArray, List.set_cons_zero, List.set_cons_succ])
    obtain ⟨s2, rfl, hL2⟩ := hv1
    (refine TextV.call (fun y hy => S4.out s2 s1 y (hL2.carry hy) (hL1.carry (hy1.old hy))) (by kernel_rfl) (fun _ => by kernel_rfl) ?_; simp only [Act.put, List.getElem_toArray, List.getElem_cons_succ, List.getElem_cons_zero, List.setIfInBounds_toArray, List.set_cons_zero, List.set_cons_succ])
    have CE2 := Lib.hid fun z (hz : Old y1 z) => CE.out z (hy1.old hz)
    repeat (first | (apply TextV.sees (hw := by kernel_rfl); (focus (intro x hx K hK; have hc := CE2.out x hx; go_simp; exact hK)); simp only [Act.put, List.getElem_toArray, List.getElem_cons_succ, List.getElem_cons_zero, List.setIfInBounds_toArray, List.set_cons_zero, List.set_cons_succ]) | (apply TextV.idle; (focus (intro x hx K hK; go_simp; exact hK)); simp only [Act.put, List.getElem_toArray, List.getElem_cons_succ, List.getElem_cons_zero, List.setIfInBounds_toArray, List.set_cons_zero, List.set_cons_succ]))
    (refine TextV.call (fun y hy => ca.out y) (by kernel_rfl) (fun _ => by kernel_rfl) ?_; simp only [Act.put, List.getElem_toArray, List.getElem_cons_succ, List.getElem_cons_zero, List.setIfInBounds_toArray, List.set_cons_zero, List.set_cons_succ])
    repeat (first | (apply TextV.sees (hw := by kernel_rfl); (focus (intro x hx K hK; have hc := (fun _ _ => trivial) x hx; go_simp; exact hK)); simp only [Act.put, List.getElem_toArray, List.getElem_cons_succ, List.getElem_cons_zero, List.setIfInBounds_toArray, List.set_cons_zero, List.set_cons_succ]) | (apply TextV.idle; (focus (intro x hx K hK; go_simp; exact hK)); simp only [Act.put, List.getElem_toArray, List.getElem_cons_succ, List.getElem_cons_zero, List.setIfInBounds_toArray, List.set_cons_zero, List.set_cons_succ]))
    intro z hz
    go_wp2
    go_ret
    exact ⟨rfl, tstep b0 (hy1.old hz) b0.size⟩
theorem gridStays_walk (j : J4) (s : S3) (w : World) (hj : Lists w j s) :
    Calls Try.prog 4 #[.agg (jobC j s)] w fun e w' => e = .returned (.bool true) ∧ Below w.heap.size w w' := by
  by_cases fj : Few j
  · exact gridStays_few j s w hj fj
  · exact gridStays_many j s w hj fj
end Go.Proofs.Ytllpimhjpfkgpaa
