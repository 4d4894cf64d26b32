/- The walk of EncodeApart. -/
import Derived.Test.YthglidbhabknkaaQAw
import Derived.Test.YthglidbhabknkaaJLaw
namespace Go.Proofs.Ythglidbhabknkaa
open Go.RowKit
set_option maxRecDepth 20000
set_option linter.unusedVariables false
set_option linter.unusedSimpArgs false

/-- One of them is too large. -/
theorem encodeApart_many (j : J4) (s : S3) (k : J4) (t : S3) (w : World) (hj : Lists w j s) (hk : Lists w k t) (h : isB (¬ Few j) = true ∨ (isB (¬ Few j) = false ∧ isB (¬ Few k) = true)) :
    Calls Try.prog 5 #[.agg (jobC j s), .agg (jobC k t)] w fun e w' => e = .returned (.bool true) ∧ Below w.heap.size w w' := by
  have b0 := tbel2 w (.cells (jobC j s) 29) (.cells (jobC k t) 29)
  have DA := (job_new w j s).old (tbel1 (w.alloc (.cells (jobC j s) 29)) (.cells (jobC k t) 29))
  have DB : JobAt ((w.alloc (.cells (jobC j s) 29)).alloc (.cells (jobC k t) 29)) (w.heap.size + 1) k t := blk_two w _ (jobC k t) 29
  have c1 := Lib.hid fun x (hx : Below w.heap.size w x) => large_is j s x (hj.carry hx)
  have c2 := Lib.hid fun x (hx : Below w.heap.size w x) => large_is k t x (hk.carry hx)
  have ca := Lib.hid awake16
  generalize isB (¬ Few j) = p at *
  generalize isB (¬ Few k) = q at *
  clear hj hk
  rcases h with rfl | ⟨rfl, rfl⟩
  · go_enter Try.func5, Try.ntmps5
    go_upto_region 1 with (fail)
    change Code.wp _ _ _ _ ((w.alloc (.cells (jobC j s) 29)).alloc (.cells (jobC k t) 29))
    generalize (w.alloc _).alloc _ = U at *
    (refine wp_region_plain (Old U) 5 (Below.refl _ U) ?_; simp only [List.take_succ_cons, List.take_zero, List.drop_succ_cons, List.drop_zero])
    (refine Text.val (fun x hx => load_job (.tmp 2) rfl rfl (DA.old hx)) (by kernel_rfl) ?_; simp only [Act.put, List.getElem_toArray, List.getElem_cons_succ, List.getElem_cons_zero, List.setIfInBounds_toArray, List.set_cons_zero, List.set_cons_succ])
    (refine Text.call (Old.call fun x hx => c1.out x (tstep b0 hx b0.size)) (by kernel_rfl) (fun _ => by kernel_rfl) ?_; simp only [Act.put, List.getElem_toArray, List.getElem_cons_succ, List.getElem_cons_zero, List.setIfInBounds_toArray, List.set_cons_zero, List.set_cons_succ])
    repeat (first | (apply Text.sees (hw := by kernel_rfl); (focus (intro x hx K hK; have hc := (fun _ _ => trivial) x hx; go_simp; exact hK)); simp only [Act.put, List.getElem_toArray, List.getElem_cons_succ, List.getElem_cons_zero, List.setIfInBounds_toArray, List.set_cons_zero, List.set_cons_succ]) | (apply Text.idle; (focus (intro x hx K hK; go_simp; exact hK)); simp only [Act.put, List.getElem_toArray, List.getElem_cons_succ, List.getElem_cons_zero, List.setIfInBounds_toArray, List.set_cons_zero, List.set_cons_succ]))
    intro x hx
    have b1 := tstep b0 hx b0.size
    clear b0 hx c1 c2 DA DB
    go_wp2_with (refine (ca.out _).mono ?_; rintro e z ⟨rfl, hz⟩)
    go_ret
    exact ⟨rfl, tstep b1 hz b1.size⟩
  · go_enter Try.func5, Try.ntmps5
    go_upto_region 1 with (fail)
    change Code.wp _ _ _ _ ((w.alloc (.cells (jobC j s) 29)).alloc (.cells (jobC k t) 29))
    generalize (w.alloc _).alloc _ = U at *
    (refine wp_region_plain (Old U) 5 (Below.refl _ U) ?_; simp only [List.take_succ_cons, List.take_zero, List.drop_succ_cons, List.drop_zero])
    (refine Text.val (fun x hx => load_job (.tmp 2) rfl rfl (DA.old hx)) (by kernel_rfl) ?_; simp only [Act.put, List.getElem_toArray, List.getElem_cons_succ, List.getElem_cons_zero, List.setIfInBounds_toArray, List.set_cons_zero, List.set_cons_succ])
    (refine Text.call (Old.call fun x hx => c1.out x (tstep b0 hx b0.size)) (by kernel_rfl) (fun _ => by kernel_rfl) ?_; simp only [Act.put, List.getElem_toArray, List.getElem_cons_succ, List.getElem_cons_zero, List.setIfInBounds_toArray, List.set_cons_zero, List.set_cons_succ])
    (apply Text.sees (hw := by kernel_rfl); (focus (intro x hx K hK; have hc := (fun _ _ => trivial) x hx; go_simp; exact hK)); simp only [Act.put, List.getElem_toArray, List.getElem_cons_succ, List.getElem_cons_zero, List.setIfInBounds_toArray, List.set_cons_zero, List.set_cons_succ])
    (refine Text.val (fun x hx => load_job (.tmp 3) rfl rfl (DB.old hx)) (by kernel_rfl) ?_; simp only [Act.put, List.getElem_toArray, List.getElem_cons_succ, List.getElem_cons_zero, List.setIfInBounds_toArray, List.set_cons_zero, List.set_cons_succ])
    (refine Text.call (Old.call fun x hx => c2.out x (tstep b0 hx b0.size)) (by kernel_rfl) (fun _ => by kernel_rfl) ?_; simp only [Act.put, List.getElem_toArray, List.getElem_cons_succ, List.getElem_cons_zero, List.setIfInBounds_toArray, List.set_cons_zero, List.set_cons_succ])
    intro x hx
    have b1 := tstep b0 hx b0.size
    clear b0 hx c1 c2 DA DB
    go_wp2_with (refine (ca.out _).mono ?_; rintro e z ⟨rfl, hz⟩)
    go_ret
    exact ⟨rfl, tstep b1 hz b1.size⟩
set_option maxHeartbeats 4000000 in
theorem encodeApart_few (j : J4) (s : S3) (k : J4) (t : S3) (w : World) (hj : Lists w j s) (hk : Lists w k t) (fj : Few j) (fk : Few k) :
    Calls Try.prog 5 #[.agg (jobC j s), .agg (jobC k t)] w fun e w' => e = .returned (.bool true) ∧ Below w.heap.size w w' := by
  have b0 := tbel2 w (.cells (jobC j s) 29) (.cells (jobC k t) 29)
  have DA := (job_new w j s).old (tbel1 (w.alloc (.cells (jobC j s) 29)) (.cells (jobC k t) 29))
  have DB : JobAt ((w.alloc (.cells (jobC j s) 29)).alloc (.cells (jobC k t) 29)) (w.heap.size + 1) k t := blk_two w _ (jobC k t) 29
  have c1 := Lib.hid fun x (hx : Below w.heap.size w x) => ((isB_no (not_not_intro fj)) ▸ large_is j s x (hj.carry hx) : Calls Try.prog 6 #[.agg (jobC j s)] x fun e w' => e = .returned (.bool false) ∧ Below x.heap.size x w')
  have c2 := Lib.hid fun x (hx : Below w.heap.size w x) => ((isB_no (not_not_intro fk)) ▸ large_is k t x (hk.carry hx) : Calls Try.prog 6 #[.agg (jobC k t)] x fun e w' => e = .returned (.bool false) ∧ Below x.heap.size x w')
  have c3 := Lib.hid fun x (hx : Below w.heap.size w x) => Job_any j s x (hj.carry hx) fj
  have c4 := Lib.hid fun x (hx : Below w.heap.size w x) => Job_any k t x (hk.carry hx) fk
  have c5 := Lib.hid fun x (hx : Below w.heap.size w x) => rsame_any j k s t x (hj.carry hx) (hk.carry hx) fj fk
  have ca := Lib.hid awake16
  have lj := jobB_len hj fj
  have lk := jobB_len hk fk
  have hsame : isB (∀ x ∈ j.items, bareI x) = true → isB (∀ x ∈ k.items, bareI x) = true → decide (jobB j = jobB k) = sameJ j k := fun h1 h2 => by
    have e1 : jobB j = jobE j := by unfold jobB; rw [h1, cond_true]
    have e2 : jobB k = jobE k := by unfold jobB; rw [h2, cond_true]
    rw [e1, e2]
    by_cases h : j = k
    · subst h
      rw [sameJ_refl, decide_eq_true rfl]
    · rw [decide_eq_false (fun e => h (job_apart (isB_iff.1 h1) (isB_iff.1 h2) e))]
      cases hs : sameJ j k
      · rfl
      · exfalso
        unfold sameJ at hs
        simp only [Bool.and_eq_true, isB_iff] at hs
        obtain ⟨⟨⟨g1, g2⟩, g3⟩, g4⟩ := hs
        obtain ⟨a1, a2, a3, a4⟩ := j
        obtain ⟨d1, d2, d3, d4⟩ := k
        dsimp only at g1 g2 g3 g4
        exact h (by rw [g1, g2, g3, g4])
  clear hj hk fj fk
  generalize isB (∀ x ∈ j.items, bareI x) = p at *
  generalize isB (∀ x ∈ k.items, bareI x) = q at *
  have HSm := Lib.hid hsame
  clear hsame
  generalize jobB j = J at *
  generalize jobB k = K at *
  generalize sameJ j k = m at *
  have start : ∀ (P : Prop), P → P := fun _ h => h
  clear start
  cases p
  · go_enter Try.func5, Try.ntmps5
    go_upto_region 1 with (fail)
    change Code.wp _ _ _ _ ((w.alloc (.cells (jobC j s) 29)).alloc (.cells (jobC k t) 29))
    generalize (w.alloc _).alloc _ = U at *
    (refine wp_region_plain (Old U) 5 (Below.refl _ U) ?_; simp only [List.take_succ_cons, List.take_zero, List.drop_succ_cons, List.drop_zero])
    (refine Text.val (fun x hx => load_job (.tmp 2) rfl rfl (DA.old hx)) (by kernel_rfl) ?_; simp only [Act.put, List.getElem_toArray, List.getElem_cons_succ, List.getElem_cons_zero, List.setIfInBounds_toArray, List.set_cons_zero, List.set_cons_succ])
    (refine Text.call (Old.call fun x hx => c1.out x (tstep b0 hx b0.size)) (by kernel_rfl) (fun _ => by kernel_rfl) ?_; simp only [Act.put, List.getElem_toArray, List.getElem_cons_succ, List.getElem_cons_zero, List.setIfInBounds_toArray, List.set_cons_zero, List.set_cons_succ])
    (apply Text.sees (hw := by kernel_rfl); (focus (intro x hx K hK; have hc := (fun _ _ => trivial) x hx; go_simp; exact hK)); simp only [Act.put, List.getElem_toArray, List.getElem_cons_succ, List.getElem_cons_zero, List.setIfInBounds_toArray, List.set_cons_zero, List.set_cons_succ])
    (refine Text.val (fun x hx => load_job (.tmp 3) rfl rfl (DB.old hx)) (by kernel_rfl) ?_; simp only [Act.put, List.getElem_toArray, List.getElem_cons_succ, List.getElem_cons_zero, List.setIfInBounds_toArray, List.set_cons_zero, List.set_cons_succ])
    (refine Text.call (Old.call fun x hx => c2.out x (tstep b0 hx b0.size)) (by kernel_rfl) (fun _ => by kernel_rfl) ?_; simp only [Act.put, List.getElem_toArray, List.getElem_cons_succ, List.getElem_cons_zero, List.setIfInBounds_toArray, List.set_cons_zero, List.set_cons_succ])
    intro x hx
    have b1 := tstep b0 hx b0.size
    have D1 := DA.old hx
    have E1 := DB.old hx
    clear b0 hx c1 c2 DA DB
    go_upto_region 3 with (fail)
    (refine wp_region_plain (Old x) 1 (Below.refl _ x) ?_; simp only [List.take_succ_cons, List.take_zero, List.drop_succ_cons, List.drop_zero])
    (refine Text.val (fun x hx => load_job (.tmp 2) rfl rfl (D1.old hx)) (by kernel_rfl) ?_; simp only [Act.put, List.getElem_toArray, List.getElem_cons_succ, List.getElem_cons_zero, List.setIfInBounds_toArray, List.set_cons_zero, List.set_cons_succ])
    intro x3 hx
    have b3 := tstep b1 hx b1.size
    have D3 := D1.old hx
    have E3 := E1.old hx
    have k3 := c3.out x3 b3
    clear b1 hx D1 E1 c3
    go_upto_region 4 with (go_at_call 8; refine k3.mono ?_; rintro e y ⟨a1, n1, rfl, r1, hy⟩; have b4 := tstep b3 hy b3.size; have D4 := D3.old hy; have E4 := E3.old hy; clear b3 hy D3 E3)
    (refine wp_region_plain (Old y) 1 (Below.refl _ y) ?_; simp only [List.take_succ_cons, List.take_zero, List.drop_succ_cons, List.drop_zero])
    (refine Text.val (fun x hx => load_job (.tmp 3) rfl rfl (E4.old hx)) (by kernel_rfl) ?_; simp only [Act.put, List.getElem_toArray, List.getElem_cons_succ, List.getElem_cons_zero, List.setIfInBounds_toArray, List.set_cons_zero, List.set_cons_succ])
    intro x5 hx
    have b5 := tstep b4 hx b4.size
    have D5 := D4.old hx
    have E5 := E4.old hx
    have r5 := r1.carry hx
    have k4 := c4.out x5 b5
    clear b4 hx D4 E4 c4 k3 r1
    go_wp2_with (first
      | (go_at_call 8; refine k4.mono ?_; rintro e y6 ⟨a2, n2, rfl, r6, hy⟩; have b6 := tstep b5 hy b5.size; clear b5 hy)
      | (go_at_call 7; refine (ca.out _).mono ?_; rintro e z ⟨rfl, hz⟩))
    go_ret
    exact ⟨rfl, tstep b6 hz b6.size⟩
  · cases q
    · go_enter Try.func5, Try.ntmps5
      go_upto_region 1 with (fail)
      change Code.wp _ _ _ _ ((w.alloc (.cells (jobC j s) 29)).alloc (.cells (jobC k t) 29))
      generalize (w.alloc _).alloc _ = U at *
      (refine wp_region_plain (Old U) 5 (Below.refl _ U) ?_; simp only [List.take_succ_cons, List.take_zero, List.drop_succ_cons, List.drop_zero])
      (refine Text.val (fun x hx => load_job (.tmp 2) rfl rfl (DA.old hx)) (by kernel_rfl) ?_; simp only [Act.put, List.getElem_toArray, List.getElem_cons_succ, List.getElem_cons_zero, List.setIfInBounds_toArray, List.set_cons_zero, List.set_cons_succ])
      (refine Text.call (Old.call fun x hx => c1.out x (tstep b0 hx b0.size)) (by kernel_rfl) (fun _ => by kernel_rfl) ?_; simp only [Act.put, List.getElem_toArray, List.getElem_cons_succ, List.getElem_cons_zero, List.setIfInBounds_toArray, List.set_cons_zero, List.set_cons_succ])
      (apply Text.sees (hw := by kernel_rfl); (focus (intro x hx K hK; have hc := (fun _ _ => trivial) x hx; go_simp; exact hK)); simp only [Act.put, List.getElem_toArray, List.getElem_cons_succ, List.getElem_cons_zero, List.setIfInBounds_toArray, List.set_cons_zero, List.set_cons_succ])
      (refine Text.val (fun x hx => load_job (.tmp 3) rfl rfl (DB.old hx)) (by kernel_rfl) ?_; simp only [Act.put, List.getElem_toArray, List.getElem_cons_succ, List.getElem_cons_zero, List.setIfInBounds_toArray, List.set_cons_zero, List.set_cons_succ])
      (refine Text.call (Old.call fun x hx => c2.out x (tstep b0 hx b0.size)) (by kernel_rfl) (fun _ => by kernel_rfl) ?_; simp only [Act.put, List.getElem_toArray, List.getElem_cons_succ, List.getElem_cons_zero, List.setIfInBounds_toArray, List.set_cons_zero, List.set_cons_succ])
      intro x hx
      have b1 := tstep b0 hx b0.size
      have D1 := DA.old hx
      have E1 := DB.old hx
      clear b0 hx c1 c2 DA DB
      go_upto_region 3 with (fail)
      (refine wp_region_plain (Old x) 1 (Below.refl _ x) ?_; simp only [List.take_succ_cons, List.take_zero, List.drop_succ_cons, List.drop_zero])
      (refine Text.val (fun x hx => load_job (.tmp 2) rfl rfl (D1.old hx)) (by kernel_rfl) ?_; simp only [Act.put, List.getElem_toArray, List.getElem_cons_succ, List.getElem_cons_zero, List.setIfInBounds_toArray, List.set_cons_zero, List.set_cons_succ])
      intro x3 hx
      have b3 := tstep b1 hx b1.size
      have D3 := D1.old hx
      have E3 := E1.old hx
      have k3 := c3.out x3 b3
      clear b1 hx D1 E1 c3
      go_upto_region 4 with (go_at_call 8; refine k3.mono ?_; rintro e y ⟨a1, n1, rfl, r1, hy⟩; have b4 := tstep b3 hy b3.size; have D4 := D3.old hy; have E4 := E3.old hy; clear b3 hy D3 E3)
      (refine wp_region_plain (Old y) 1 (Below.refl _ y) ?_; simp only [List.take_succ_cons, List.take_zero, List.drop_succ_cons, List.drop_zero])
      (refine Text.val (fun x hx => load_job (.tmp 3) rfl rfl (E4.old hx)) (by kernel_rfl) ?_; simp only [Act.put, List.getElem_toArray, List.getElem_cons_succ, List.getElem_cons_zero, List.setIfInBounds_toArray, List.set_cons_zero, List.set_cons_succ])
      intro x5 hx
      have b5 := tstep b4 hx b4.size
      have D5 := D4.old hx
      have E5 := E4.old hx
      have r5 := r1.carry hx
      have k4 := c4.out x5 b5
      clear b4 hx D4 E4 c4 k3 r1
      go_wp2_with (first
        | (go_at_call 8; refine k4.mono ?_; rintro e y6 ⟨a2, n2, rfl, r6, hy⟩; have b6 := tstep b5 hy b5.size; clear b5 hy)
        | (go_at_call 7; refine (ca.out _).mono ?_; rintro e z ⟨rfl, hz⟩))
      go_ret
      exact ⟨rfl, tstep b6 hz b6.size⟩
    · cases m
      all_goals
        have HM := Lib.hid (HSm.out rfl rfl)
        clear HSm
        go_enter Try.func5, Try.ntmps5
        go_upto_region 1 with (fail)
        change Code.wp _ _ _ _ ((w.alloc (.cells (jobC j s) 29)).alloc (.cells (jobC k t) 29))
        generalize (w.alloc _).alloc _ = U at *
        (refine wp_region_plain (Old U) 5 (Below.refl _ U) ?_; simp only [List.take_succ_cons, List.take_zero, List.drop_succ_cons, List.drop_zero])
        (refine Text.val (fun x hx => load_job (.tmp 2) rfl rfl (DA.old hx)) (by kernel_rfl) ?_; simp only [Act.put, List.getElem_toArray, List.getElem_cons_succ, List.getElem_cons_zero, List.setIfInBounds_toArray, List.set_cons_zero, List.set_cons_succ])
        (refine Text.call (Old.call fun x hx => c1.out x (tstep b0 hx b0.size)) (by kernel_rfl) (fun _ => by kernel_rfl) ?_; simp only [Act.put, List.getElem_toArray, List.getElem_cons_succ, List.getElem_cons_zero, List.setIfInBounds_toArray, List.set_cons_zero, List.set_cons_succ])
        (apply Text.sees (hw := by kernel_rfl); (focus (intro x hx K hK; have hc := (fun _ _ => trivial) x hx; go_simp; exact hK)); simp only [Act.put, List.getElem_toArray, List.getElem_cons_succ, List.getElem_cons_zero, List.setIfInBounds_toArray, List.set_cons_zero, List.set_cons_succ])
        (refine Text.val (fun x hx => load_job (.tmp 3) rfl rfl (DB.old hx)) (by kernel_rfl) ?_; simp only [Act.put, List.getElem_toArray, List.getElem_cons_succ, List.getElem_cons_zero, List.setIfInBounds_toArray, List.set_cons_zero, List.set_cons_succ])
        (refine Text.call (Old.call fun x hx => c2.out x (tstep b0 hx b0.size)) (by kernel_rfl) (fun _ => by kernel_rfl) ?_; simp only [Act.put, List.getElem_toArray, List.getElem_cons_succ, List.getElem_cons_zero, List.setIfInBounds_toArray, List.set_cons_zero, List.set_cons_succ])
        intro x hx
        have b1 := tstep b0 hx b0.size
        have D1 := DA.old hx
        have E1 := DB.old hx
        clear b0 hx c1 c2 DA DB
        go_upto_region 3 with (fail)
        (refine wp_region_plain (Old x) 1 (Below.refl _ x) ?_; simp only [List.take_succ_cons, List.take_zero, List.drop_succ_cons, List.drop_zero])
        (refine Text.val (fun x hx => load_job (.tmp 2) rfl rfl (D1.old hx)) (by kernel_rfl) ?_; simp only [Act.put, List.getElem_toArray, List.getElem_cons_succ, List.getElem_cons_zero, List.setIfInBounds_toArray, List.set_cons_zero, List.set_cons_succ])
        intro x3 hx
        have b3 := tstep b1 hx b1.size
        have D3 := D1.old hx
        have E3 := E1.old hx
        have k3 := c3.out x3 b3
        clear b1 hx D1 E1 c3
        go_upto_region 4 with (go_at_call 8; refine k3.mono ?_; rintro e y ⟨a1, n1, rfl, r1, hy⟩; have b4 := tstep b3 hy b3.size; have D4 := D3.old hy; have E4 := E3.old hy; clear b3 hy D3 E3)
        (refine wp_region_plain (Old y) 1 (Below.refl _ y) ?_; simp only [List.take_succ_cons, List.take_zero, List.drop_succ_cons, List.drop_zero])
        (refine Text.val (fun x hx => load_job (.tmp 3) rfl rfl (E4.old hx)) (by kernel_rfl) ?_; simp only [Act.put, List.getElem_toArray, List.getElem_cons_succ, List.getElem_cons_zero, List.setIfInBounds_toArray, List.set_cons_zero, List.set_cons_succ])
        intro x5 hx
        have b5 := tstep b4 hx b4.size
        have D5 := D4.old hx
        have E5 := E4.old hx
        have r5 := r1.carry hx
        have k4 := c4.out x5 b5
        clear b4 hx D4 E4 c4 k3 r1
        go_upto_region 7 with (go_at_call 8; refine k4.mono ?_; rintro e y6 ⟨a2, n2, rfl, r6, hy⟩; have b6 := tstep b5 hy b5.size; have D6 := D5.old hy; have E6 := E5.old hy; have r7 := r5.carry hy; clear b5 hy D5 E5 r5)
        (refine wp_region_text (Old y6) 10 (by kernel_rfl) (by kernel_rfl) (Below.refl _ y6).drew ?_; simp only [List.take_succ_cons, List.take_zero, List.drop_succ_cons, List.drop_zero])
        (apply Text.sees (hw := by kernel_rfl); (focus (intro x hx K hK; have hc := (fun _ _ => trivial) x hx; go_simp; exact hK)); simp only [Act.put, List.getElem_toArray, List.getElem_cons_succ, List.getElem_cons_zero, List.setIfInBounds_toArray, List.set_cons_zero, List.set_cons_succ])
        (apply Text.sees (hw := by kernel_rfl); (focus (intro x hx K hK; have hc := (fun _ _ => trivial) x hx; go_simp; exact hK)); simp only [Act.put, List.getElem_toArray, List.getElem_cons_succ, List.getElem_cons_zero, List.setIfInBounds_toArray, List.set_cons_zero, List.set_cons_succ])
        (refine Text.call (Old.call fun x hx => (same_any a1 a2 n1 n2 J K x (by omega) (by omega) (r7.carry hx) (r6.carry hx)).mono fun e y h => ⟨h.1.trans (by rw [HM.out]), h.2⟩) (by kernel_rfl) (fun _ => by kernel_rfl) ?_; simp only [Act.put, List.getElem_toArray, List.getElem_cons_succ, List.getElem_cons_zero, List.setIfInBounds_toArray, List.set_cons_zero, List.set_cons_succ])
        (refine Text.val (fun x hx => load_job (.tmp 2) rfl rfl (D6.old hx)) (by kernel_rfl) ?_; simp only [Act.put, List.getElem_toArray, List.getElem_cons_succ, List.getElem_cons_zero, List.setIfInBounds_toArray, List.set_cons_zero, List.set_cons_succ])
        (refine Text.val (fun x hx => load_job (.tmp 3) rfl rfl (E6.old hx)) (by kernel_rfl) ?_; simp only [Act.put, List.getElem_toArray, List.getElem_cons_succ, List.getElem_cons_zero, List.setIfInBounds_toArray, List.set_cons_zero, List.set_cons_succ])
        (refine Text.call (Old.call fun x hx => c5.out x (tstep b6 hx b6.size)) (by kernel_rfl) (fun _ => by kernel_rfl) ?_; simp only [Act.put, List.getElem_toArray, List.getElem_cons_succ, List.getElem_cons_zero, List.setIfInBounds_toArray, List.set_cons_zero, List.set_cons_succ])
        repeat (first | (apply Text.sees (hw := by kernel_rfl); (focus (intro x hx K hK; have hc := (fun _ _ => trivial) x hx; go_simp; exact hK)); simp only [Act.put, List.getElem_toArray, List.getElem_cons_succ, List.getElem_cons_zero, List.setIfInBounds_toArray, List.set_cons_zero, List.set_cons_succ]) | (apply Text.idle; (focus (intro x hx K hK; go_simp; exact hK)); simp only [Act.put, List.getElem_toArray, List.getElem_cons_succ, List.getElem_cons_zero, List.setIfInBounds_toArray, List.set_cons_zero, List.set_cons_succ]))
        (refine Text.call (Old.call fun x hx => ca.out x) (by kernel_rfl) (fun _ => by kernel_rfl) ?_; simp only [Act.put, List.getElem_toArray, List.getElem_cons_succ, List.getElem_cons_zero, List.setIfInBounds_toArray, List.set_cons_zero, List.set_cons_succ])
        repeat (first | (apply Text.sees (hw := by kernel_rfl); (focus (intro x hx K hK; have hc := (fun _ _ => trivial) x hx; go_simp; exact hK)); simp only [Act.put, List.getElem_toArray, List.getElem_cons_succ, List.getElem_cons_zero, List.setIfInBounds_toArray, List.set_cons_zero, List.set_cons_succ]) | (apply Text.idle; (focus (intro x hx K hK; go_simp; exact hK)); simp only [Act.put, List.getElem_toArray, List.getElem_cons_succ, List.getElem_cons_zero, List.setIfInBounds_toArray, List.set_cons_zero, List.set_cons_succ]))
        intro z hz
        have b8 := tstep b6 hz b6.size
        go_wp2
        go_ret
        exact ⟨rfl, b8⟩
theorem encodeApart_walk (j : J4) (s : S3) (k : J4) (t : S3) (w : World) (hj : Lists w j s) (hk : Lists w k t) :
    Calls Try.prog 5 #[.agg (jobC j s), .agg (jobC k t)] w fun e w' => e = .returned (.bool true) ∧ Below w.heap.size w w' := by
  by_cases fj : Few j
  · by_cases fk : Few k
    · exact encodeApart_few j s k t w hj hk fj fk
    · exact encodeApart_many j s k t w hj hk (.inr ⟨isB_no (not_not_intro fj), isB_yes fk⟩)
  · exact encodeApart_many j s k t w hj hk (.inl (isB_yes fj))
end Go.Proofs.Ythglidbhabknkaa
