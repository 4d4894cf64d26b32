/- The walk of EncodeJobs. -/
import Derived.Test.YthglidbhabknkaaQAw
import Derived.Test.YthglidbhabknkaaJLaw
namespace Go.Proofs.Ythglidbhabknkaa
open Go.RowKit
set_option maxRecDepth 20000
set_option linter.unusedVariables false
set_option linter.unusedSimpArgs false

theorem encodeJobs_many (j : J4) (s : S3) (w : World) (hj : Lists w j s) (h : ¬ Few j) :
    Calls Try.prog 3 #[.agg (jobC j s)] w fun e w' => e = .returned (.bool true) ∧ Below w.heap.size w w' := by
  have DA := job_new w j s
  have b0 := tbel1 w (.cells (jobC j s) 29)
  have c1 := Lib.hid fun x (hx : Below w.heap.size w x) => ((isB_yes h) ▸ large_is j s x (hj.carry hx) : Calls Try.prog 6 #[.agg (jobC j s)] x fun e w' => e = .returned (.bool true) ∧ Below x.heap.size x w')
  have ca := Lib.hid awake16
  clear hj h
  go_enter Try.func3, Try.ntmps3
  go_upto_region 1 with (fail)
  generalize w.alloc _ = U at *
  (refine wp_region_plain (Old U) 1 (Below.refl _ U) ?_; simp only [List.take_succ_cons, List.take_zero, List.drop_succ_cons, List.drop_zero])
  (refine Text.val (fun x hx => load_job (.tmp 1) rfl rfl (DA.old hx)) (by kernel_rfl) ?_; simp only [Act.put, List.getElem_toArray, List.getElem_cons_succ, List.getElem_cons_zero, List.setIfInBounds_toArray, List.set_cons_zero, List.set_cons_succ])
  intro x hx
  have b1 := tstep b0 hx b0.size
  have c2 := c1.out x b1
  clear b0 hx c1 DA
  go_wp2_with fail
  refine c2.mono ?_
  rintro e y ⟨rfl, hy⟩
  replace b1 := tstep b1 hy b1.size
  clear c2 hy
  go_wp2_with fail
  refine (ca.out y).mono ?_
  rintro e z ⟨rfl, hz⟩
  go_wp2
  go_ret
  exact ⟨rfl, tstep b1 hz b1.size⟩
set_option maxHeartbeats 4000000 in
theorem encodeJobs_few (j : J4) (s : S3) (w : World) (hj : Lists w j s) (fj : Few j) :
    Calls Try.prog 3 #[.agg (jobC j s)] w fun e w' => e = .returned (.bool true) ∧ Below w.heap.size w w' := by
  have DA := job_new w j s
  have b0 := tbel1 w (.cells (jobC j s) 29)
  have c1 := Lib.hid fun x (hx : Below w.heap.size w x) => ((isB_no (not_not_intro fj)) ▸ large_is j s x (hj.carry hx) : Calls Try.prog 6 #[.agg (jobC j s)] x fun e w' => e = .returned (.bool false) ∧ Below x.heap.size x w')
  have c2 := Lib.hid fun x (hx : Below w.heap.size w x) => Job_any j s x (hj.carry hx) fj
  have c3 := Lib.hid fun x (hx : Below w.heap.size w x) => rJob_any j s x (hj.carry hx) fj
  have c4 := Lib.hid fun x => Geom_any j.g hj.ins.1 x
  have c5 := Lib.hid fun x => rGeom_any j.g hj.ins.1 x
  have ca := Lib.hid awake16
  have lj := jobB_len hj fj
  have lg := chains18 hj.ins.1
  obtain ⟨R, hR⟩ : ∃ R, R = isB (∀ x ∈ j.items, bareI x) := ⟨_, rfl⟩
  rw [← hR] at c2 c3
  clear hR hj fj
  generalize jobB j = J at *
  generalize geomE j.g = E at *
  cases R
  · go_enter Try.func3, Try.ntmps3
    go_upto_region 1 with (fail)
    generalize w.alloc _ = U at *
    (refine wp_region_plain (Old U) 1 (Below.refl _ U) ?_; simp only [List.take_succ_cons, List.take_zero, List.drop_succ_cons, List.drop_zero])
    (refine Text.val (fun x hx => load_job (.tmp 1) rfl rfl (DA.old hx)) (by kernel_rfl) ?_; simp only [Act.put, List.getElem_toArray, List.getElem_cons_succ, List.getElem_cons_zero, List.setIfInBounds_toArray, List.set_cons_zero, List.set_cons_succ])
    intro x hx
    have b1 := tstep b0 hx b0.size
    have D1 := DA.old hx
    have k1 := c1.out x b1
    clear b0 hx c1 DA
    go_upto_region 3 with (go_at_call 6; refine k1.mono ?_; rintro e y ⟨rfl, hy⟩; have b2 := tstep b1 hy b1.size; have D2 := D1.old hy; clear b1 hy D1)
    (refine wp_region_plain (Old y) 1 (Below.refl _ y) ?_; simp only [List.take_succ_cons, List.take_zero, List.drop_succ_cons, List.drop_zero])
    (refine Text.val (fun x hx => load_job (.tmp 1) rfl rfl (D2.old hx)) (by kernel_rfl) ?_; simp only [Act.put, List.getElem_toArray, List.getElem_cons_succ, List.getElem_cons_zero, List.setIfInBounds_toArray, List.set_cons_zero, List.set_cons_succ])
    intro x3 hx
    have b3 := tstep b2 hx b2.size
    have D3 := D2.old hx
    have k2 := c2.out x3 b3
    clear b2 hx c2 D2 k1
    go_upto_region 4 with (go_at_call 8; refine k2.mono ?_; rintro e y4 ⟨a1, n1, rfl, r1, hy⟩; have b4 := tstep b3 hy b3.size; have D4 := D3.old hy; clear b3 hy D3)
    (refine wp_region_plain (Old y4) 1 (Below.refl _ y4) ?_; simp only [List.take_succ_cons, List.take_zero, List.drop_succ_cons, List.drop_zero])
    (refine Text.val (fun x hx => load_job (.tmp 1) rfl rfl (D4.old hx)) (by kernel_rfl) ?_; simp only [Act.put, List.getElem_toArray, List.getElem_cons_succ, List.getElem_cons_zero, List.setIfInBounds_toArray, List.set_cons_zero, List.set_cons_succ])
    intro x5 hx
    have b5 := tstep b4 hx b4.size
    have D5 := D4.old hx
    have r5 := r1.carry hx
    have k3 := c3.out x5 b5
    clear b4 hx c3 D4 k2 r1
    go_upto_region 5 with (go_at_call 9; refine k3.mono ?_; rintro e y6 ⟨a2, n2, rfl, r6, hy⟩; have b6 := tstep b5 hy b5.size; have D6 := D5.old hy; have r7 := r5.carry hy; clear b5 hy D5 r5)
    have Q := blk_new y6 #[.slice a2 J.length n2, .bool false] 36
    have bq := tbel1 y6 (.cells #[.slice a2 J.length n2, .bool false] 36)
    have b7 := tstep b6 bq b6.size
    have D7 := D6.old bq
    have s6 := r6.carry bq
    have s7 := r7.carry bq
    clear b6 D6 r6 r7 bq k3
    generalize y6.alloc _ = Y at *
    have CE := Lib.hid fun x (hx : Old Y x) => (Q.old hx).two
    (refine wp_region_plan 22 [(0, true), (1, true), (2, true), (3, true), (4, true), (5, true), (6, true), (7, true), (8, true), (9, true), (10, true), (11, true), (12, true), (14, true), (15, true), (13, false), (16, false), (17, true), (18, true), (19, true), (20, true), (21, true)] (by kernel_rfl) (by kernel_rfl) ?_; simp only [pick, List.getElem?_cons_succ, List.getElem?_cons_zero, List.drop_succ_cons, List.drop_zero])
    repeat (first | (apply TextV.sees (hw := by kernel_rfl); (focus (intro x hx K hK; have hc := CE.out x hx; go_simp; exact hK)); simp only [Act.put, List.getElem_toArray, List.getElem_cons_succ, List.getElem_cons_zero, List.setIfInBounds_toArray, List.set_cons_zero, List.set_cons_succ]) | (apply TextV.idle; (focus (intro x hx K hK; go_simp; exact hK)); simp only [Act.put, List.getElem_toArray, List.getElem_cons_succ, List.getElem_cons_zero, List.setIfInBounds_toArray, List.set_cons_zero, List.set_cons_succ]))
    (refine TextV.call (fun x hx => (same_any a1 a2 n1 n2 J J x (by omega) (by omega) (s7.carry hx) (s6.carry hx)).mono fun e y h => ⟨h.1.trans (by rw [decide_eq_true (rfl : J = J)]), h.2⟩) (by kernel_rfl) (fun _ => by kernel_rfl) ?_; simp only [Act.put, List.getElem_toArray, List.getElem_cons_succ, List.getElem_cons_zero, List.setIfInBounds_toArray, List.set_cons_zero, List.set_cons_succ])
    repeat (first | (apply TextV.sees (hw := by kernel_rfl); (focus (intro x hx K hK; have hc := CE.out x hx; go_simp; exact hK)); simp only [Act.put, List.getElem_toArray, List.getElem_cons_succ, List.getElem_cons_zero, List.setIfInBounds_toArray, List.set_cons_zero, List.set_cons_succ]) | (apply TextV.idle; (focus (intro x hx K hK; go_simp; exact hK)); simp only [Act.put, List.getElem_toArray, List.getElem_cons_succ, List.getElem_cons_zero, List.setIfInBounds_toArray, List.set_cons_zero, List.set_cons_succ]))
    (refine TextV.val (fun x hx => load_jgeo (.tmp 27) rfl rfl (D7.old hx)) (by kernel_rfl) ?_; simp only [Act.put, List.getElem_toArray, List.getElem_cons_succ, List.getElem_cons_zero, List.setIfInBounds_toArray, List.set_cons_zero, List.set_cons_succ])
    repeat (first | (apply TextV.sees (hw := by kernel_rfl); (focus (intro x hx K hK; have hc := CE.out x hx; go_simp; exact hK)); simp only [Act.put, List.getElem_toArray, List.getElem_cons_succ, List.getElem_cons_zero, List.setIfInBounds_toArray, List.set_cons_zero, List.set_cons_succ]) | (apply TextV.idle; (focus (intro x hx K hK; go_simp; exact hK)); simp only [Act.put, List.getElem_toArray, List.getElem_cons_succ, List.getElem_cons_zero, List.setIfInBounds_toArray, List.set_cons_zero, List.set_cons_succ]))
    (refine TextV.val (fun x hx => load_jgeo (.tmp 30) rfl rfl (D7.old hx)) (by kernel_rfl) ?_; simp only [Act.put, List.getElem_toArray, List.getElem_cons_succ, List.getElem_cons_zero, List.setIfInBounds_toArray, List.set_cons_zero, List.set_cons_succ])
    (refine TextV.loud (V := fun v y => ∃ a c, v = .slice a E.length c ∧ Row y a c E) (fun x hx => (c4.out x).mono fun e y h => by obtain ⟨a, c, h1, h2, h3⟩ := h; exact ⟨_, h1, ⟨a, c, rfl, h2⟩, h3⟩) (by kernel_rfl) (fun _ => by kernel_rfl) (fun v1 w1 hv1 hy1 => ?_); simp only [Act.put, List.getElem_toArray, List.getElem_cons_succ, List.getElem_cons_zero, List.setIfInBounds_toArray, List.set_cons_zero, List.set_cons_succ])
    obtain ⟨a3, n3, rfl, r3⟩ := hv1
    (refine TextV.loud (V := fun v y => ∃ a c, v = .slice a E.length c ∧ Row y a c E) (fun x hx => (c5.out x).mono fun e y h => by obtain ⟨a, c, h1, h2, h3⟩ := h; exact ⟨_, h1, ⟨a, c, rfl, h2⟩, h3⟩) (by kernel_rfl) (fun _ => by kernel_rfl) (fun v2 w2 hv2 hy2 => ?_); simp only [Act.put, List.getElem_toArray, List.getElem_cons_succ, List.getElem_cons_zero, List.setIfInBounds_toArray, List.set_cons_zero, List.set_cons_succ])
    obtain ⟨a4, n4, rfl, r4⟩ := hv2
    (refine TextV.call (fun x hx => (same_any a3 a4 n3 n4 E E x (by omega) (by omega) ((r3.carry hy2).carry hx) (r4.carry hx)).mono fun e y h => ⟨h.1.trans (by rw [decide_eq_true (rfl : E = E)]), h.2⟩) (by kernel_rfl) (fun _ => by kernel_rfl) ?_; simp only [Act.put, List.getElem_toArray, List.getElem_cons_succ, List.getElem_cons_zero, List.setIfInBounds_toArray, List.set_cons_zero, List.set_cons_succ])
    repeat (first | (apply TextV.sees (hw := by kernel_rfl); (focus (intro x hx K hK; have hc := (fun _ _ => trivial) x hx; go_simp; exact hK)); simp only [Act.put, List.getElem_toArray, List.getElem_cons_succ, List.getElem_cons_zero, List.setIfInBounds_toArray, List.set_cons_zero, List.set_cons_succ]) | (apply TextV.idle; (focus (intro x hx K hK; go_simp; exact hK)); simp only [Act.put, List.getElem_toArray, List.getElem_cons_succ, List.getElem_cons_zero, List.setIfInBounds_toArray, List.set_cons_zero, List.set_cons_succ]))
    (refine TextV.call (fun x hx => ca.out x) (by kernel_rfl) (fun _ => by kernel_rfl) ?_; simp only [Act.put, List.getElem_toArray, List.getElem_cons_succ, List.getElem_cons_zero, List.setIfInBounds_toArray, List.set_cons_zero, List.set_cons_succ])
    repeat (first | (apply TextV.sees (hw := by kernel_rfl); (focus (intro x hx K hK; have hc := (fun _ _ => trivial) x hx; go_simp; exact hK)); simp only [Act.put, List.getElem_toArray, List.getElem_cons_succ, List.getElem_cons_zero, List.setIfInBounds_toArray, List.set_cons_zero, List.set_cons_succ]) | (apply TextV.idle; (focus (intro x hx K hK; go_simp; exact hK)); simp only [Act.put, List.getElem_toArray, List.getElem_cons_succ, List.getElem_cons_zero, List.setIfInBounds_toArray, List.set_cons_zero, List.set_cons_succ]))
    apply TextV.done
    intro z hz
    have b8 := tstep b7 (tstep (tstep hy1 hy2 hy1.size) hz (Nat.le_trans hy1.size hy2.size)) b7.size
    clear CE r3 r4 hy1 hy2 hz b7
    go_wp2
    go_ret
    exact ⟨rfl, b8⟩
  · go_enter Try.func3, Try.ntmps3
    go_upto_region 1 with (fail)
    generalize w.alloc _ = U at *
    (refine wp_region_plain (Old U) 1 (Below.refl _ U) ?_; simp only [List.take_succ_cons, List.take_zero, List.drop_succ_cons, List.drop_zero])
    (refine Text.val (fun x hx => load_job (.tmp 1) rfl rfl (DA.old hx)) (by kernel_rfl) ?_; simp only [Act.put, List.getElem_toArray, List.getElem_cons_succ, List.getElem_cons_zero, List.setIfInBounds_toArray, List.set_cons_zero, List.set_cons_succ])
    intro x hx
    have b1 := tstep b0 hx b0.size
    have D1 := DA.old hx
    have k1 := c1.out x b1
    clear b0 hx c1 DA
    go_upto_region 3 with (go_at_call 6; refine k1.mono ?_; rintro e y ⟨rfl, hy⟩; have b2 := tstep b1 hy b1.size; have D2 := D1.old hy; clear b1 hy D1)
    (refine wp_region_plain (Old y) 1 (Below.refl _ y) ?_; simp only [List.take_succ_cons, List.take_zero, List.drop_succ_cons, List.drop_zero])
    (refine Text.val (fun x hx => load_job (.tmp 1) rfl rfl (D2.old hx)) (by kernel_rfl) ?_; simp only [Act.put, List.getElem_toArray, List.getElem_cons_succ, List.getElem_cons_zero, List.setIfInBounds_toArray, List.set_cons_zero, List.set_cons_succ])
    intro x3 hx
    have b3 := tstep b2 hx b2.size
    have D3 := D2.old hx
    have k2 := c2.out x3 b3
    clear b2 hx c2 D2 k1
    go_upto_region 4 with (go_at_call 8; refine k2.mono ?_; rintro e y4 ⟨a1, n1, rfl, r1, hy⟩; have b4 := tstep b3 hy b3.size; have D4 := D3.old hy; clear b3 hy D3)
    (refine wp_region_plain (Old y4) 1 (Below.refl _ y4) ?_; simp only [List.take_succ_cons, List.take_zero, List.drop_succ_cons, List.drop_zero])
    (refine Text.val (fun x hx => load_job (.tmp 1) rfl rfl (D4.old hx)) (by kernel_rfl) ?_; simp only [Act.put, List.getElem_toArray, List.getElem_cons_succ, List.getElem_cons_zero, List.setIfInBounds_toArray, List.set_cons_zero, List.set_cons_succ])
    intro x5 hx
    have b5 := tstep b4 hx b4.size
    have D5 := D4.old hx
    have r5 := r1.carry hx
    have k3 := c3.out x5 b5
    clear b4 hx c3 D4 k2 r1
    go_upto_region 5 with (go_at_call 9; refine k3.mono ?_; rintro e y6 ⟨a2, n2, rfl, r6, hy⟩; have b6 := tstep b5 hy b5.size; have D6 := D5.old hy; have r7 := r5.carry hy; clear b5 hy D5 r5)
    have Q := blk_new y6 #[.slice a2 J.length n2, .bool true] 36
    have bq := tbel1 y6 (.cells #[.slice a2 J.length n2, .bool true] 36)
    have b7 := tstep b6 bq b6.size
    have D7 := D6.old bq
    have s6 := r6.carry bq
    have s7 := r7.carry bq
    clear b6 D6 r6 r7 bq k3
    generalize y6.alloc _ = Y at *
    have CE := Lib.hid fun x (hx : Old Y x) => (Q.old hx).two
    (refine wp_region_plan 22 [(0, true), (1, true), (2, true), (3, true), (4, true), (5, true), (6, true), (7, true), (8, true), (9, true), (10, true), (11, true), (12, true), (14, true), (15, true), (13, false), (16, false), (17, true), (18, true), (19, true), (20, true), (21, true)] (by kernel_rfl) (by kernel_rfl) ?_; simp only [pick, List.getElem?_cons_succ, List.getElem?_cons_zero, List.drop_succ_cons, List.drop_zero])
    repeat (first | (apply TextV.sees (hw := by kernel_rfl); (focus (intro x hx K hK; have hc := CE.out x hx; go_simp; exact hK)); simp only [Act.put, List.getElem_toArray, List.getElem_cons_succ, List.getElem_cons_zero, List.setIfInBounds_toArray, List.set_cons_zero, List.set_cons_succ]) | (apply TextV.idle; (focus (intro x hx K hK; go_simp; exact hK)); simp only [Act.put, List.getElem_toArray, List.getElem_cons_succ, List.getElem_cons_zero, List.setIfInBounds_toArray, List.set_cons_zero, List.set_cons_succ]))
    (refine TextV.call (fun x hx => (same_any a1 a2 n1 n2 J J x (by omega) (by omega) (s7.carry hx) (s6.carry hx)).mono fun e y h => ⟨h.1.trans (by rw [decide_eq_true (rfl : J = J)]), h.2⟩) (by kernel_rfl) (fun _ => by kernel_rfl) ?_; simp only [Act.put, List.getElem_toArray, List.getElem_cons_succ, List.getElem_cons_zero, List.setIfInBounds_toArray, List.set_cons_zero, List.set_cons_succ])
    repeat (first | (apply TextV.sees (hw := by kernel_rfl); (focus (intro x hx K hK; have hc := CE.out x hx; go_simp; exact hK)); simp only [Act.put, List.getElem_toArray, List.getElem_cons_succ, List.getElem_cons_zero, List.setIfInBounds_toArray, List.set_cons_zero, List.set_cons_succ]) | (apply TextV.idle; (focus (intro x hx K hK; go_simp; exact hK)); simp only [Act.put, List.getElem_toArray, List.getElem_cons_succ, List.getElem_cons_zero, List.setIfInBounds_toArray, List.set_cons_zero, List.set_cons_succ]))
    (refine TextV.val (fun x hx => load_jgeo (.tmp 27) rfl rfl (D7.old hx)) (by kernel_rfl) ?_; simp only [Act.put, List.getElem_toArray, List.getElem_cons_succ, List.getElem_cons_zero, List.setIfInBounds_toArray, List.set_cons_zero, List.set_cons_succ])
    repeat (first | (apply TextV.sees (hw := by kernel_rfl); (focus (intro x hx K hK; have hc := CE.out x hx; go_simp; exact hK)); simp only [Act.put, List.getElem_toArray, List.getElem_cons_succ, List.getElem_cons_zero, List.setIfInBounds_toArray, List.set_cons_zero, List.set_cons_succ]) | (apply TextV.idle; (focus (intro x hx K hK; go_simp; exact hK)); simp only [Act.put, List.getElem_toArray, List.getElem_cons_succ, List.getElem_cons_zero, List.setIfInBounds_toArray, List.set_cons_zero, List.set_cons_succ]))
    (refine TextV.val (fun x hx => load_jgeo (.tmp 30) rfl rfl (D7.old hx)) (by kernel_rfl) ?_; simp only [Act.put, List.getElem_toArray, List.getElem_cons_succ, List.getElem_cons_zero, List.setIfInBounds_toArray, List.set_cons_zero, List.set_cons_succ])
    (refine TextV.loud (V := fun v y => ∃ a c, v = .slice a E.length c ∧ Row y a c E) (fun x hx => (c4.out x).mono fun e y h => by obtain ⟨a, c, h1, h2, h3⟩ := h; exact ⟨_, h1, ⟨a, c, rfl, h2⟩, h3⟩) (by kernel_rfl) (fun _ => by kernel_rfl) (fun v1 w1 hv1 hy1 => ?_); simp only [Act.put, List.getElem_toArray, List.getElem_cons_succ, List.getElem_cons_zero, List.setIfInBounds_toArray, List.set_cons_zero, List.set_cons_succ])
    obtain ⟨a3, n3, rfl, r3⟩ := hv1
    (refine TextV.loud (V := fun v y => ∃ a c, v = .slice a E.length c ∧ Row y a c E) (fun x hx => (c5.out x).mono fun e y h => by obtain ⟨a, c, h1, h2, h3⟩ := h; exact ⟨_, h1, ⟨a, c, rfl, h2⟩, h3⟩) (by kernel_rfl) (fun _ => by kernel_rfl) (fun v2 w2 hv2 hy2 => ?_); simp only [Act.put, List.getElem_toArray, List.getElem_cons_succ, List.getElem_cons_zero, List.setIfInBounds_toArray, List.set_cons_zero, List.set_cons_succ])
    obtain ⟨a4, n4, rfl, r4⟩ := hv2
    (refine TextV.call (fun x hx => (same_any a3 a4 n3 n4 E E x (by omega) (by omega) ((r3.carry hy2).carry hx) (r4.carry hx)).mono fun e y h => ⟨h.1.trans (by rw [decide_eq_true (rfl : E = E)]), h.2⟩) (by kernel_rfl) (fun _ => by kernel_rfl) ?_; simp only [Act.put, List.getElem_toArray, List.getElem_cons_succ, List.getElem_cons_zero, List.setIfInBounds_toArray, List.set_cons_zero, List.set_cons_succ])
    repeat (first | (apply TextV.sees (hw := by kernel_rfl); (focus (intro x hx K hK; have hc := (fun _ _ => trivial) x hx; go_simp; exact hK)); simp only [Act.put, List.getElem_toArray, List.getElem_cons_succ, List.getElem_cons_zero, List.setIfInBounds_toArray, List.set_cons_zero, List.set_cons_succ]) | (apply TextV.idle; (focus (intro x hx K hK; go_simp; exact hK)); simp only [Act.put, List.getElem_toArray, List.getElem_cons_succ, List.getElem_cons_zero, List.setIfInBounds_toArray, List.set_cons_zero, List.set_cons_succ]))
    (refine TextV.call (fun x hx => ca.out x) (by kernel_rfl) (fun _ => by kernel_rfl) ?_; simp only [Act.put, List.getElem_toArray, List.getElem_cons_succ, List.getElem_cons_zero, List.setIfInBounds_toArray, List.set_cons_zero, List.set_cons_succ])
    repeat (first | (apply TextV.sees (hw := by kernel_rfl); (focus (intro x hx K hK; have hc := (fun _ _ => trivial) x hx; go_simp; exact hK)); simp only [Act.put, List.getElem_toArray, List.getElem_cons_succ, List.getElem_cons_zero, List.setIfInBounds_toArray, List.set_cons_zero, List.set_cons_succ]) | (apply TextV.idle; (focus (intro x hx K hK; go_simp; exact hK)); simp only [Act.put, List.getElem_toArray, List.getElem_cons_succ, List.getElem_cons_zero, List.setIfInBounds_toArray, List.set_cons_zero, List.set_cons_succ]))
    apply TextV.done
    intro z hz
    have b8 := tstep b7 (tstep (tstep hy1 hy2 hy1.size) hz (Nat.le_trans hy1.size hy2.size)) b7.size
    clear CE r3 r4 hy1 hy2 hz b7
    go_wp2
    go_ret
    exact ⟨rfl, b8⟩
theorem encodeJobs_walk (j : J4) (s : S3) (w : World) (hj : Lists w j s) :
    Calls Try.prog 3 #[.agg (jobC j s)] w fun e w' => e = .returned (.bool true) ∧ Below w.heap.size w w' := by
  by_cases fj : Few j
  · exact encodeJobs_few j s w hj fj
  · exact encodeJobs_many j s w hj fj
end Go.Proofs.Ythglidbhabknkaa
