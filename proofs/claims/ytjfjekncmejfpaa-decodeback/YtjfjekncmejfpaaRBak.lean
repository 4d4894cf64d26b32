/- DecodeBack: the walk of the law. -/
import Derived.Test.YtjfjekncmejfpaaRTel
namespace Go.Proofs.Ytjfjekncmejfpaa
open Go.RowKit
set_option maxRecDepth 20000
set_option linter.unusedVariables false
set_option linter.unusedSimpArgs false

/-- A job that came in and whose items are bare may be encoded and read. -/
theorem lists_ok {w : World} {j : J4} {s : S3} (hL : Lists w j s) (hf : Few j) (hb : ∀ x ∈ j.items, bareI x) : okJ j := by
  obtain ⟨⟨ig, ii, iff⟩, _, ⟨hs, hH, hN⟩, _, _, _, _⟩ := hL
  obtain ⟨f1, f2, f3, f4⟩ := hf
  refine ⟨ig, ⟨by omega, fun x hx => ⟨hb x hx, all_in ii x hx⟩⟩, ⟨by omega, fun x hx => ?_⟩, ⟨by omega, all_in iff⟩⟩
  obtain ⟨i, hi, rfl⟩ := List.getElem_of_mem hx
  have e : j.notes.getD i zeroN = j.notes[i] := by rw [List.getD_eq_getElem?_getD, List.getElem?_eq_getElem hi]; rfl
  have h1 := hN i hi
  have h2 := f4 i
  rw [e] at h1 h2
  obtain ⟨_, _, _, _, h5, h6⟩ := h1
  exact ⟨⟨by omega, all_in h5.ins⟩, ⟨by omega, all_in h6.ins⟩⟩
theorem back_many (j : J4) (s : S3) (a : Option Addr) (len cap : Nat) (w : World) (hj : Lists w j s) (hm : len ≤ 9223372036854775807) (h : ¬ Few j ∨ 2000 < len) :
    Calls Try.prog 4 #[.agg (jobC j s), .slice a len cap] w fun e w' => e = .returned (.bool true) ∧ Below w.heap.size w w' := by
  have D0 := job_new w j s
  have b0 := tbel1 w (.cells (jobC j s) 31)
  have cl := fun y (hy : Old (w.alloc (.cells (jobC j s) 31)) y) => large_is j s y ((hj.carry b0).carry hy)
  have JH := Lib.hid fun y (hy : Old (w.alloc (.cells (jobC j s) 31)) y) => JobAt.old D0 hy
  have CF := Lib.hid fun (y : World) (hy : Old (w.alloc (.cells (jobC j s) 31)) y) => trivial
  clear D0 hj
  by_cases fj : Few j
  · rw [isB_no (not_not_intro fj)] at cl
    have hl : 2000 < len := h.resolve_left (not_not_intro fj)
    have hd : decide ((2000 : Int) < (len : Int)) = true := by simp; omega
    clear fj h
    go_enter Try.func4, Try.ntmps4
    go_upto_region 1 with (fail)
    change Code.wp _ _ _ _ (w.alloc (.cells (jobC j s) 31))
    generalize w.alloc _ = U at *
    (refine wp_region_plain (Old U) 6 (Below.refl _ U) ?_; simp only [List.take_succ_cons, List.take_zero, List.drop_succ_cons, List.drop_zero])
    (refine Text.val (fun x hx => load_job (.tmp 2) rfl rfl (JH.out x hx)) (by kernel_rfl) ?_; simp only [Act.put, List.getElem_toArray, List.getElem_cons_succ, List.getElem_cons_zero, List.setIfInBounds_toArray, List.set_cons_zero, List.set_cons_succ])
    (refine Text.call (Old.call fun x hx => cl x hx) (by kernel_rfl) (fun _ => by kernel_rfl) ?_; simp only [Act.put, List.getElem_toArray, List.getElem_cons_succ, List.getElem_cons_zero, List.setIfInBounds_toArray, List.set_cons_zero, List.set_cons_succ])
    repeat (first | (apply Text.sees (hw := by kernel_rfl); (focus (intro x hx K hK; have hc := CF.out x hx; go_simp; exact hK)); simp only [Act.put, List.getElem_toArray, List.getElem_cons_succ, List.getElem_cons_zero, List.setIfInBounds_toArray, List.set_cons_zero, List.set_cons_succ]) | (apply Text.idle; (focus (intro x hx K hK; go_simp; exact hK)); simp only [Act.put, List.getElem_toArray, List.getElem_cons_succ, List.getElem_cons_zero, List.setIfInBounds_toArray, List.set_cons_zero, List.set_cons_succ]))
    intro x hx
    go_wp2_with (go_at_call 6; refine (awake17 _).mono ?_; rintro e w1 ⟨rfl, b1⟩)
    go_ret
    exact ⟨rfl, tstep (tstep b0 hx b0.size) b1 (tstep b0 hx b0.size).size⟩
  · rw [isB_yes fj] at cl
    clear fj h
    go_enter Try.func4, Try.ntmps4
    go_upto_region 1 with (fail)
    change Code.wp _ _ _ _ (w.alloc (.cells (jobC j s) 31))
    generalize w.alloc _ = U at *
    (refine wp_region_plain (Old U) 6 (Below.refl _ U) ?_; simp only [List.take_succ_cons, List.take_zero, List.drop_succ_cons, List.drop_zero])
    (refine Text.val (fun x hx => load_job (.tmp 2) rfl rfl (JH.out x hx)) (by kernel_rfl) ?_; simp only [Act.put, List.getElem_toArray, List.getElem_cons_succ, List.getElem_cons_zero, List.setIfInBounds_toArray, List.set_cons_zero, List.set_cons_succ])
    (refine Text.call (Old.call fun x hx => cl x hx) (by kernel_rfl) (fun _ => by kernel_rfl) ?_; simp only [Act.put, List.getElem_toArray, List.getElem_cons_succ, List.getElem_cons_zero, List.setIfInBounds_toArray, List.set_cons_zero, List.set_cons_succ])
    repeat (first | (apply Text.sees (hw := by kernel_rfl); (focus (intro x hx K hK; have hc := CF.out x hx; go_simp; exact hK)); simp only [Act.put, List.getElem_toArray, List.getElem_cons_succ, List.getElem_cons_zero, List.setIfInBounds_toArray, List.set_cons_zero, List.set_cons_succ]) | (apply Text.idle; (focus (intro x hx K hK; go_simp; exact hK)); simp only [Act.put, List.getElem_toArray, List.getElem_cons_succ, List.getElem_cons_zero, List.setIfInBounds_toArray, List.set_cons_zero, List.set_cons_succ]))
    intro x hx
    go_wp2_with (go_at_call 6; refine (awake17 _).mono ?_; rintro e w1 ⟨rfl, b1⟩)
    go_ret
    exact ⟨rfl, tstep (tstep b0 hx b0.size) b1 (tstep b0 hx b0.size).size⟩
/-- What decoding bytes and encoding again answer. -/
structure BakC (bs : List Int) (a : Option Addr) (c : Nat) (J : J4) (E : Int) (M : List Int) (K : Bool) : Prop where
  c7 : ∀ y, Row y a c bs → Calls Try.prog 7 #[.slice a bs.length c] y fun e w' => ∃ s, e = .returned (.tuple #[.agg (jobC J s), .int .i64 E]) ∧ Lists w' J s ∧ Below y.heap.size y w'
  c13 : ∀ s y, Lists y J s → Calls Try.prog 13 #[.agg (jobC J s)] y fun e w' => ∃ a c, e = .returned (.tuple #[.slice a M.length c, .bool K]) ∧ Row w' a c M ∧ Below y.heap.size y w'
/-- What encoding a job and decoding it again answer. -/
structure ForC (j : J4) (M : List Int) (K : Bool) : Prop where
  c13 : ∀ s y, Lists y j s → Calls Try.prog 13 #[.agg (jobC j s)] y fun e w' => ∃ a c, e = .returned (.tuple #[.slice a M.length c, .bool K]) ∧ Row w' a c M ∧ Below y.heap.size y w'
  c7 : K = true → ∀ a c y, Row y a c M → Calls Try.prog 7 #[.slice a M.length c] y fun e w' => ∃ s, e = .returned (.tuple #[.agg (jobC j s), .int .i64 0]) ∧ Lists w' j s ∧ Below y.heap.size y w'
  c10 : ∀ (s t : S3) y, Lists y j s → Lists y j t → Calls Try.prog 10 #[.agg (jobC j s), .agg (jobC j t)] y fun e w' => e = .returned (.bool true) ∧ Below y.heap.size y w'

set_option maxHeartbeats 4000000 in
theorem back_w1 (j : J4) (s : S3) (a : Option Addr) (c : Nat) (bs : List Int) (w : World) (hj : Lists w j s) (fj : Few j) (hl : bs.length ≤ 2000) (hr : Row w a c bs) (M : List Int) (F : ForC j M true) (J : J4) (M2 : List Int) (K2 : Bool) (C : BakC bs a c J 0 M2 K2) (hK : K2 = true) (hM : M2 = bs) :
    Calls Try.prog 4 #[.agg (jobC j s), .slice a bs.length c] w fun e w' => e = .returned (.bool true) ∧ Below w.heap.size w w' := by
  subst hK
  subst hM
  have hd : decide ((2000 : Int) < (M2.length : Int)) = false := by simp; omega
  have D0 := job_new w j s
  have b0 := tbel1 w (.cells (jobC j s) 31)
  have L0 := hj.carry b0
  have cl := fun y (hy : Old (w.alloc (.cells (jobC j s) 31)) y) => large_is j s y (L0.carry hy)
  rw [isB_no (not_not_intro fj)] at cl
  have HR := Lib.hid hr
  have HF := Lib.hid F
  have HC := Lib.hid C
  have hl' : M2.length ≤ 1000000 := by omega
  clear hj fj hr F C
  go_enter Try.func4, Try.ntmps4
  go_upto_region 1 with (fail)
  change Code.wp _ _ _ _ (w.alloc (.cells (jobC j s) 31))
  generalize w.alloc _ = U at *
  have CF := Lib.hid fun (y : World) (hy : Old U y) => trivial
  (refine wp_region_plain (Old U) 6 (Below.refl _ U) ?_; simp only [List.take_succ_cons, List.take_zero, List.drop_succ_cons, List.drop_zero])
  (refine Text.val (fun x hx => load_job (.tmp 2) rfl rfl (D0.old hx)) (by kernel_rfl) ?_; simp only [Act.put, List.getElem_toArray, List.getElem_cons_succ, List.getElem_cons_zero, List.setIfInBounds_toArray, List.set_cons_zero, List.set_cons_succ])
  (refine Text.call (Old.call fun x hx => cl x hx) (by kernel_rfl) (fun _ => by kernel_rfl) ?_; simp only [Act.put, List.getElem_toArray, List.getElem_cons_succ, List.getElem_cons_zero, List.setIfInBounds_toArray, List.set_cons_zero, List.set_cons_succ])
  repeat (first | (apply Text.sees (hw := by kernel_rfl); (focus (intro x hx K hK; have hc := CF.out x hx; go_simp; exact hK)); simp only [Act.put, List.getElem_toArray, List.getElem_cons_succ, List.getElem_cons_zero, List.setIfInBounds_toArray, List.set_cons_zero, List.set_cons_succ]) | (apply Text.idle; (focus (intro x hx K hK; go_simp; exact hK)); simp only [Act.put, List.getElem_toArray, List.getElem_cons_succ, List.getElem_cons_zero, List.setIfInBounds_toArray, List.set_cons_zero, List.set_cons_succ]))
  intro x0 hx0
  go_upto_region 3 with (fail)
  (refine wp_region_plain (Old x0) 1 (Below.refl _ x0) ?_; simp only [List.take_succ_cons, List.take_zero, List.drop_succ_cons, List.drop_zero])
  (refine Text.val (fun x hx => load_job (.tmp 2) rfl rfl ((D0.old hx0).old hx)) (by kernel_rfl) ?_; simp only [Act.put, List.getElem_toArray, List.getElem_cons_succ, List.getElem_cons_zero, List.setIfInBounds_toArray, List.set_cons_zero, List.set_cons_succ])
  intro x hx
  have hx1 := tstep hx0 hx hx0.size
  refine wpl_call (V := fun v y => ∃ a c, v = .tuple #[.slice a M.length c, .bool true] ∧ Row y a c M ∧ Below x.heap.size x y) rfl (by kernel_rfl) ((HF.out.c13 s x (L0.carry hx1)).mono fun e y hh => by obtain ⟨a, c, h1, h2⟩ := hh; exact ⟨_, h1, a, c, rfl, h2⟩) ?_
  rintro v y1 ⟨a1, c1, rfl, Rw, b1⟩
  have hx2 := tstep hx1 b1 hx1.size
  simp only [Act.put, List.getElem_toArray, List.getElem_cons_succ, List.getElem_cons_zero, List.setIfInBounds_toArray, List.set_cons_zero, List.set_cons_succ]
  clear hx hx0 hx1 b1 CF cl
  go_upto_region 5 with (fail)
  have CF := Lib.hid fun (y : World) (hy : Old y1 y) => trivial
  (refine wp_region_plain (Old y1) 1 (Below.refl _ y1) ?_; simp only [List.take_succ_cons, List.take_zero, List.drop_succ_cons, List.drop_zero])
  repeat (first | (apply Text.sees (hw := by kernel_rfl); (focus (intro x hx K hK; have hc := CF.out x hx; go_simp; exact hK)); simp only [Act.put, List.getElem_toArray, List.getElem_cons_succ, List.getElem_cons_zero, List.setIfInBounds_toArray, List.set_cons_zero, List.set_cons_succ]) | (apply Text.idle; (focus (intro x hx K hK; go_simp; exact hK)); simp only [Act.put, List.getElem_toArray, List.getElem_cons_succ, List.getElem_cons_zero, List.setIfInBounds_toArray, List.set_cons_zero, List.set_cons_succ]))
  intro x hx
  refine wpl_call (V := fun v y => ∃ s, v = .tuple #[.agg (jobC j s), .int .i64 0] ∧ Lists y j s ∧ Below x.heap.size x y) rfl (by kernel_rfl) ((HF.out.c7 rfl a1 c1 x (Rw.carry hx)).mono fun e y hh => by obtain ⟨s, h1, h2⟩ := hh; exact ⟨_, h1, s, rfl, h2⟩) ?_
  rintro v y ⟨t, rfl, L1, b3⟩
  refine wpl_step (w' := y) (v := .tuple #[.agg (jobC j t), .int .i64 0]) rfl (by kernel_rfl) ?_
  refine wpl_step (w' := y) (v := .agg (jobC j t)) rfl (by kernel_rfl) ?_
  refine wpl_step (w' := y) (v := .int .i64 0) rfl (by kernel_rfl) ?_
  refine make_job (j := j) (s := t) rfl rfl rfl (.tmp 7) (.tmp 30) rfl rfl (by kernel_rfl) ?_
  have J3 := job_new y j t
  have b4 := tbel1 y (.cells (jobC j t) 31)
  have b5 := tstep hx b3 hx.size
  have b6 := tstep b5 b4 b5.size
  have hx3 := tstep hx2 b6 hx2.size
  have L3 := L1.carry b4
  have L4 := L0.carry hx3
  have D4 := D0.old hx3
  simp only [Act.put, List.getElem_toArray, List.getElem_cons_succ, List.getElem_cons_zero, List.setIfInBounds_toArray, List.set_cons_zero, List.set_cons_succ]
  clear L1 b3 b4 b5 b6 hx hx2 Rw CF
  go_upto_region 6 with (fail)
  generalize y.alloc _ = V at *
  generalize y.heap.size = d at *
  have CF := Lib.hid fun (y : World) (hy : Old V y) => trivial
  have c10 := fun y (hy : Old V y) => HF.out.c10 s t y (L4.carry hy) (L3.carry hy)
  (refine wp_region_plain (Old V) 7 (Below.refl _ V) ?_; simp only [List.take_succ_cons, List.take_zero, List.drop_succ_cons, List.drop_zero])
  iterate 3 (first | (apply Text.sees (hw := by kernel_rfl); (focus (intro x hx K hK; have hc := CF.out x hx; go_simp; exact hK)); simp only [Act.put, List.getElem_toArray, List.getElem_cons_succ, List.getElem_cons_zero, List.setIfInBounds_toArray, List.set_cons_zero, List.set_cons_succ]) | (apply Text.idle; (focus (intro x hx K hK; go_simp; exact hK)); simp only [Act.put, List.getElem_toArray, List.getElem_cons_succ, List.getElem_cons_zero, List.setIfInBounds_toArray, List.set_cons_zero, List.set_cons_succ]))
  (refine Text.val (fun x hx => load_job (.tmp 2) rfl rfl (D4.old hx)) (by kernel_rfl) ?_; simp only [Act.put, List.getElem_toArray, List.getElem_cons_succ, List.getElem_cons_zero, List.setIfInBounds_toArray, List.set_cons_zero, List.set_cons_succ])
  (refine Text.val (fun x hx => load_job (.tmp 7) rfl rfl (J3.old hx)) (by kernel_rfl) ?_; simp only [Act.put, List.getElem_toArray, List.getElem_cons_succ, List.getElem_cons_zero, List.setIfInBounds_toArray, List.set_cons_zero, List.set_cons_succ])
  (refine Text.call (Old.call fun x hx => c10 x hx) (by kernel_rfl) (fun _ => by kernel_rfl) ?_; simp only [Act.put, List.getElem_toArray, List.getElem_cons_succ, List.getElem_cons_zero, List.setIfInBounds_toArray, List.set_cons_zero, List.set_cons_succ])
  repeat (first | (apply Text.sees (hw := by kernel_rfl); (focus (intro x hx K hK; have hc := CF.out x hx; go_simp; exact hK)); simp only [Act.put, List.getElem_toArray, List.getElem_cons_succ, List.getElem_cons_zero, List.setIfInBounds_toArray, List.set_cons_zero, List.set_cons_succ]) | (apply Text.idle; (focus (intro x hx K hK; go_simp; exact hK)); simp only [Act.put, List.getElem_toArray, List.getElem_cons_succ, List.getElem_cons_zero, List.setIfInBounds_toArray, List.set_cons_zero, List.set_cons_succ]))
  intro x5 hx5
  have hx6 := tstep hx3 hx5 hx3.size
  clear L3 L4 J3 c10 CF hx3 hx5
  go_upto_region 8 with (fail)
  have b20 := tstep b0 hx6 b0.size
  have CF := Lib.hid fun (y : World) (hy : Old x5 y) => trivial
  (refine wp_region_plain (Old x5) 1 (Below.refl _ x5) ?_; simp only [List.take_succ_cons, List.take_zero, List.drop_succ_cons, List.drop_zero])
  repeat (first | (apply Text.sees (hw := by kernel_rfl); (focus (intro x hx K hK; have hc := CF.out x hx; go_simp; exact hK)); simp only [Act.put, List.getElem_toArray, List.getElem_cons_succ, List.getElem_cons_zero, List.setIfInBounds_toArray, List.set_cons_zero, List.set_cons_succ]) | (apply Text.idle; (focus (intro x hx K hK; go_simp; exact hK)); simp only [Act.put, List.getElem_toArray, List.getElem_cons_succ, List.getElem_cons_zero, List.setIfInBounds_toArray, List.set_cons_zero, List.set_cons_succ]))
  intro x20 hx20
  refine wpl_call (V := fun v y => ∃ s, v = .tuple #[.agg (jobC J s), .int .i64 0] ∧ Lists y J s ∧ Below x20.heap.size x20 y) rfl (by kernel_rfl) ((HC.out.c7 x20 (HR.out.carry (tstep b20 hx20 b20.size))).mono fun e y hh => by obtain ⟨s, h1, h2⟩ := hh; exact ⟨_, h1, s, rfl, h2⟩) ?_
  rintro v y21 ⟨u, rfl, L21, b21⟩
  refine wpl_step (w' := y21) (v := .tuple #[.agg (jobC J u), .int .i64 0]) rfl (by kernel_rfl) ?_
  refine wpl_step (w' := y21) (v := .agg (jobC J u)) rfl (by kernel_rfl) ?_
  refine wpl_step (w' := y21) (v := .int .i64 0) rfl (by kernel_rfl) ?_
  refine make_job (j := J) (s := u) rfl rfl rfl (.tmp 9) (.tmp 43) rfl rfl (by kernel_rfl) ?_
  have J22 := job_new y21 J u
  have b22 := tbel1 y21 (.cells (jobC J u) 31)
  have b23 := tstep hx20 b21 hx20.size
  have b24 := tstep b23 b22 b23.size
  have b25 := tstep b20 b24 b20.size
  have L22 := L21.carry b22
  simp only [Act.put, List.getElem_toArray, List.getElem_cons_succ, List.getElem_cons_zero, List.setIfInBounds_toArray, List.set_cons_zero, List.set_cons_succ]
  clear L21 b20 b21 b22 b23 b24 hx20 CF
  go_upto_region 9 with (fail)
  generalize y21.alloc _ = V2 at *
  generalize y21.heap.size = d2 at *
  (refine wp_region_plain (Old V2) 1 (Below.refl _ V2) ?_; simp only [List.take_succ_cons, List.take_zero, List.drop_succ_cons, List.drop_zero])
  (refine Text.val (fun x hx => load_job (.tmp 9) rfl rfl (J22.old hx)) (by kernel_rfl) ?_; simp only [Act.put, List.getElem_toArray, List.getElem_cons_succ, List.getElem_cons_zero, List.setIfInBounds_toArray, List.set_cons_zero, List.set_cons_succ])
  intro x26 hx26
  refine wpl_call (V := fun v y => ∃ a c, v = .tuple #[.slice a M2.length c, .bool true] ∧ Row y a c M2 ∧ Below x26.heap.size x26 y) rfl (by kernel_rfl) ((HC.out.c13 u x26 (L22.carry hx26)).mono fun e y hh => by obtain ⟨a, c, h1, h2⟩ := hh; exact ⟨_, h1, a, c, rfl, h2⟩) ?_
  rintro v y27 ⟨a2, c2, rfl, Rw2, b27⟩
  have b28 := tstep (tstep b25 hx26 b25.size) b27 (by have := (tstep b25 hx26 b25.size).size; omega)
  simp only [Act.put, List.getElem_toArray, List.getElem_cons_succ, List.getElem_cons_zero, List.setIfInBounds_toArray, List.set_cons_zero, List.set_cons_succ]
  clear b25 b27 hx26 L22 J22
  go_upto_region 10 with (fail)
  have cs := fun y (hy : Old y27 y) => same_any a2 a c2 c M2 M2 y hl' hl' (Rw2.carry hy) (HR.out.carry (tstep b28 hy b28.size))
  rw [decide_eq_true (rfl : M2 = M2)] at cs
  have CF := Lib.hid fun (y : World) (hy : Old y27 y) => trivial
  (refine wp_region_plain (Old y27) 13 (Below.refl _ y27) ?_; simp only [List.take_succ_cons, List.take_zero, List.drop_succ_cons, List.drop_zero])
  iterate 7 (first | (apply Text.sees (hw := by kernel_rfl); (focus (intro x hx K hK; have hc := CF.out x hx; go_simp; exact hK)); simp only [Act.put, List.getElem_toArray, List.getElem_cons_succ, List.getElem_cons_zero, List.setIfInBounds_toArray, List.set_cons_zero, List.set_cons_succ]) | (apply Text.idle; (focus (intro x hx K hK; go_simp; exact hK)); simp only [Act.put, List.getElem_toArray, List.getElem_cons_succ, List.getElem_cons_zero, List.setIfInBounds_toArray, List.set_cons_zero, List.set_cons_succ]))
  (refine Text.call (Old.call fun x hx => cs x hx) (by kernel_rfl) (fun _ => by kernel_rfl) ?_; simp only [Act.put, List.getElem_toArray, List.getElem_cons_succ, List.getElem_cons_zero, List.setIfInBounds_toArray, List.set_cons_zero, List.set_cons_succ])
  iterate 3 (first | (apply Text.sees (hw := by kernel_rfl); (focus (intro x hx K hK; have hc := CF.out x hx; go_simp; exact hK)); simp only [Act.put, List.getElem_toArray, List.getElem_cons_succ, List.getElem_cons_zero, List.setIfInBounds_toArray, List.set_cons_zero, List.set_cons_succ]) | (apply Text.idle; (focus (intro x hx K hK; go_simp; exact hK)); simp only [Act.put, List.getElem_toArray, List.getElem_cons_succ, List.getElem_cons_zero, List.setIfInBounds_toArray, List.set_cons_zero, List.set_cons_succ]))
  (refine Text.call (Old.call fun x hx => awake17 x) (by kernel_rfl) (fun _ => by kernel_rfl) ?_; simp only [Act.put, List.getElem_toArray, List.getElem_cons_succ, List.getElem_cons_zero, List.setIfInBounds_toArray, List.set_cons_zero, List.set_cons_succ])
  repeat (first | (apply Text.sees (hw := by kernel_rfl); (focus (intro x hx K hK; have hc := CF.out x hx; go_simp; exact hK)); simp only [Act.put, List.getElem_toArray, List.getElem_cons_succ, List.getElem_cons_zero, List.setIfInBounds_toArray, List.set_cons_zero, List.set_cons_succ]) | (apply Text.idle; (focus (intro x hx K hK; go_simp; exact hK)); simp only [Act.put, List.getElem_toArray, List.getElem_cons_succ, List.getElem_cons_zero, List.setIfInBounds_toArray, List.set_cons_zero, List.set_cons_succ]))
  intro z hz
  go_wp2
  go_ret
  exact ⟨rfl, tstep b28 hz b28.size⟩
set_option maxHeartbeats 4000000 in
theorem back_w2 (j : J4) (s : S3) (a : Option Addr) (c : Nat) (bs : List Int) (w : World) (hj : Lists w j s) (fj : Few j) (hl : bs.length ≤ 2000) (hr : Row w a c bs) (M : List Int) (F : ForC j M true) (J : J4) (M2 : List Int) (K2 : Bool) (C : BakC bs a c J 2 M2 K2) :
    Calls Try.prog 4 #[.agg (jobC j s), .slice a bs.length c] w fun e w' => e = .returned (.bool true) ∧ Below w.heap.size w w' := by
  have hd : decide ((2000 : Int) < (bs.length : Int)) = false := by simp; omega
  have D0 := job_new w j s
  have b0 := tbel1 w (.cells (jobC j s) 31)
  have L0 := hj.carry b0
  have cl := fun y (hy : Old (w.alloc (.cells (jobC j s) 31)) y) => large_is j s y (L0.carry hy)
  rw [isB_no (not_not_intro fj)] at cl
  have HR := Lib.hid hr
  have HF := Lib.hid F
  have HC := Lib.hid C
  have hl' : bs.length ≤ 1000000 := by omega
  clear hj fj hr F C
  go_enter Try.func4, Try.ntmps4
  go_upto_region 1 with (fail)
  change Code.wp _ _ _ _ (w.alloc (.cells (jobC j s) 31))
  generalize w.alloc _ = U at *
  have CF := Lib.hid fun (y : World) (hy : Old U y) => trivial
  (refine wp_region_plain (Old U) 6 (Below.refl _ U) ?_; simp only [List.take_succ_cons, List.take_zero, List.drop_succ_cons, List.drop_zero])
  (refine Text.val (fun x hx => load_job (.tmp 2) rfl rfl (D0.old hx)) (by kernel_rfl) ?_; simp only [Act.put, List.getElem_toArray, List.getElem_cons_succ, List.getElem_cons_zero, List.setIfInBounds_toArray, List.set_cons_zero, List.set_cons_succ])
  (refine Text.call (Old.call fun x hx => cl x hx) (by kernel_rfl) (fun _ => by kernel_rfl) ?_; simp only [Act.put, List.getElem_toArray, List.getElem_cons_succ, List.getElem_cons_zero, List.setIfInBounds_toArray, List.set_cons_zero, List.set_cons_succ])
  repeat (first | (apply Text.sees (hw := by kernel_rfl); (focus (intro x hx K hK; have hc := CF.out x hx; go_simp; exact hK)); simp only [Act.put, List.getElem_toArray, List.getElem_cons_succ, List.getElem_cons_zero, List.setIfInBounds_toArray, List.set_cons_zero, List.set_cons_succ]) | (apply Text.idle; (focus (intro x hx K hK; go_simp; exact hK)); simp only [Act.put, List.getElem_toArray, List.getElem_cons_succ, List.getElem_cons_zero, List.setIfInBounds_toArray, List.set_cons_zero, List.set_cons_succ]))
  intro x0 hx0
  go_upto_region 3 with (fail)
  (refine wp_region_plain (Old x0) 1 (Below.refl _ x0) ?_; simp only [List.take_succ_cons, List.take_zero, List.drop_succ_cons, List.drop_zero])
  (refine Text.val (fun x hx => load_job (.tmp 2) rfl rfl ((D0.old hx0).old hx)) (by kernel_rfl) ?_; simp only [Act.put, List.getElem_toArray, List.getElem_cons_succ, List.getElem_cons_zero, List.setIfInBounds_toArray, List.set_cons_zero, List.set_cons_succ])
  intro x hx
  have hx1 := tstep hx0 hx hx0.size
  refine wpl_call (V := fun v y => ∃ a c, v = .tuple #[.slice a M.length c, .bool true] ∧ Row y a c M ∧ Below x.heap.size x y) rfl (by kernel_rfl) ((HF.out.c13 s x (L0.carry hx1)).mono fun e y hh => by obtain ⟨a, c, h1, h2⟩ := hh; exact ⟨_, h1, a, c, rfl, h2⟩) ?_
  rintro v y1 ⟨a1, c1, rfl, Rw, b1⟩
  have hx2 := tstep hx1 b1 hx1.size
  simp only [Act.put, List.getElem_toArray, List.getElem_cons_succ, List.getElem_cons_zero, List.setIfInBounds_toArray, List.set_cons_zero, List.set_cons_succ]
  clear hx hx0 hx1 b1 CF cl
  go_upto_region 5 with (fail)
  have CF := Lib.hid fun (y : World) (hy : Old y1 y) => trivial
  (refine wp_region_plain (Old y1) 1 (Below.refl _ y1) ?_; simp only [List.take_succ_cons, List.take_zero, List.drop_succ_cons, List.drop_zero])
  repeat (first | (apply Text.sees (hw := by kernel_rfl); (focus (intro x hx K hK; have hc := CF.out x hx; go_simp; exact hK)); simp only [Act.put, List.getElem_toArray, List.getElem_cons_succ, List.getElem_cons_zero, List.setIfInBounds_toArray, List.set_cons_zero, List.set_cons_succ]) | (apply Text.idle; (focus (intro x hx K hK; go_simp; exact hK)); simp only [Act.put, List.getElem_toArray, List.getElem_cons_succ, List.getElem_cons_zero, List.setIfInBounds_toArray, List.set_cons_zero, List.set_cons_succ]))
  intro x hx
  refine wpl_call (V := fun v y => ∃ s, v = .tuple #[.agg (jobC j s), .int .i64 0] ∧ Lists y j s ∧ Below x.heap.size x y) rfl (by kernel_rfl) ((HF.out.c7 rfl a1 c1 x (Rw.carry hx)).mono fun e y hh => by obtain ⟨s, h1, h2⟩ := hh; exact ⟨_, h1, s, rfl, h2⟩) ?_
  rintro v y ⟨t, rfl, L1, b3⟩
  refine wpl_step (w' := y) (v := .tuple #[.agg (jobC j t), .int .i64 0]) rfl (by kernel_rfl) ?_
  refine wpl_step (w' := y) (v := .agg (jobC j t)) rfl (by kernel_rfl) ?_
  refine wpl_step (w' := y) (v := .int .i64 0) rfl (by kernel_rfl) ?_
  refine make_job (j := j) (s := t) rfl rfl rfl (.tmp 7) (.tmp 30) rfl rfl (by kernel_rfl) ?_
  have J3 := job_new y j t
  have b4 := tbel1 y (.cells (jobC j t) 31)
  have b5 := tstep hx b3 hx.size
  have b6 := tstep b5 b4 b5.size
  have hx3 := tstep hx2 b6 hx2.size
  have L3 := L1.carry b4
  have L4 := L0.carry hx3
  have D4 := D0.old hx3
  simp only [Act.put, List.getElem_toArray, List.getElem_cons_succ, List.getElem_cons_zero, List.setIfInBounds_toArray, List.set_cons_zero, List.set_cons_succ]
  clear L1 b3 b4 b5 b6 hx hx2 Rw CF
  go_upto_region 6 with (fail)
  generalize y.alloc _ = V at *
  generalize y.heap.size = d at *
  have CF := Lib.hid fun (y : World) (hy : Old V y) => trivial
  have c10 := fun y (hy : Old V y) => HF.out.c10 s t y (L4.carry hy) (L3.carry hy)
  (refine wp_region_plain (Old V) 7 (Below.refl _ V) ?_; simp only [List.take_succ_cons, List.take_zero, List.drop_succ_cons, List.drop_zero])
  iterate 3 (first | (apply Text.sees (hw := by kernel_rfl); (focus (intro x hx K hK; have hc := CF.out x hx; go_simp; exact hK)); simp only [Act.put, List.getElem_toArray, List.getElem_cons_succ, List.getElem_cons_zero, List.setIfInBounds_toArray, List.set_cons_zero, List.set_cons_succ]) | (apply Text.idle; (focus (intro x hx K hK; go_simp; exact hK)); simp only [Act.put, List.getElem_toArray, List.getElem_cons_succ, List.getElem_cons_zero, List.setIfInBounds_toArray, List.set_cons_zero, List.set_cons_succ]))
  (refine Text.val (fun x hx => load_job (.tmp 2) rfl rfl (D4.old hx)) (by kernel_rfl) ?_; simp only [Act.put, List.getElem_toArray, List.getElem_cons_succ, List.getElem_cons_zero, List.setIfInBounds_toArray, List.set_cons_zero, List.set_cons_succ])
  (refine Text.val (fun x hx => load_job (.tmp 7) rfl rfl (J3.old hx)) (by kernel_rfl) ?_; simp only [Act.put, List.getElem_toArray, List.getElem_cons_succ, List.getElem_cons_zero, List.setIfInBounds_toArray, List.set_cons_zero, List.set_cons_succ])
  (refine Text.call (Old.call fun x hx => c10 x hx) (by kernel_rfl) (fun _ => by kernel_rfl) ?_; simp only [Act.put, List.getElem_toArray, List.getElem_cons_succ, List.getElem_cons_zero, List.setIfInBounds_toArray, List.set_cons_zero, List.set_cons_succ])
  repeat (first | (apply Text.sees (hw := by kernel_rfl); (focus (intro x hx K hK; have hc := CF.out x hx; go_simp; exact hK)); simp only [Act.put, List.getElem_toArray, List.getElem_cons_succ, List.getElem_cons_zero, List.setIfInBounds_toArray, List.set_cons_zero, List.set_cons_succ]) | (apply Text.idle; (focus (intro x hx K hK; go_simp; exact hK)); simp only [Act.put, List.getElem_toArray, List.getElem_cons_succ, List.getElem_cons_zero, List.setIfInBounds_toArray, List.set_cons_zero, List.set_cons_succ]))
  intro x5 hx5
  have hx6 := tstep hx3 hx5 hx3.size
  clear L3 L4 J3 c10 CF hx3 hx5
  go_upto_region 8 with (fail)
  have b20 := tstep b0 hx6 b0.size
  have CF := Lib.hid fun (y : World) (hy : Old x5 y) => trivial
  (refine wp_region_plain (Old x5) 1 (Below.refl _ x5) ?_; simp only [List.take_succ_cons, List.take_zero, List.drop_succ_cons, List.drop_zero])
  repeat (first | (apply Text.sees (hw := by kernel_rfl); (focus (intro x hx K hK; have hc := CF.out x hx; go_simp; exact hK)); simp only [Act.put, List.getElem_toArray, List.getElem_cons_succ, List.getElem_cons_zero, List.setIfInBounds_toArray, List.set_cons_zero, List.set_cons_succ]) | (apply Text.idle; (focus (intro x hx K hK; go_simp; exact hK)); simp only [Act.put, List.getElem_toArray, List.getElem_cons_succ, List.getElem_cons_zero, List.setIfInBounds_toArray, List.set_cons_zero, List.set_cons_succ]))
  intro x20 hx20
  refine wpl_call (V := fun v y => ∃ s, v = .tuple #[.agg (jobC J s), .int .i64 2] ∧ Lists y J s ∧ Below x20.heap.size x20 y) rfl (by kernel_rfl) ((HC.out.c7 x20 (HR.out.carry (tstep b20 hx20 b20.size))).mono fun e y hh => by obtain ⟨s, h1, h2⟩ := hh; exact ⟨_, h1, s, rfl, h2⟩) ?_
  rintro v y21 ⟨u, rfl, L21, b21⟩
  refine wpl_step (w' := y21) (v := .tuple #[.agg (jobC J u), .int .i64 2]) rfl (by kernel_rfl) ?_
  refine wpl_step (w' := y21) (v := .agg (jobC J u)) rfl (by kernel_rfl) ?_
  refine wpl_step (w' := y21) (v := .int .i64 2) rfl (by kernel_rfl) ?_
  refine make_job (j := J) (s := u) rfl rfl rfl (.tmp 9) (.tmp 43) rfl rfl (by kernel_rfl) ?_
  have J22 := job_new y21 J u
  have b22 := tbel1 y21 (.cells (jobC J u) 31)
  have b23 := tstep hx20 b21 hx20.size
  have b24 := tstep b23 b22 b23.size
  have b25 := tstep b20 b24 b20.size
  have L22 := L21.carry b22
  simp only [Act.put, List.getElem_toArray, List.getElem_cons_succ, List.getElem_cons_zero, List.setIfInBounds_toArray, List.set_cons_zero, List.set_cons_succ]
  clear L21 b20 b21 b22 b23 b24 hx20 CF
  go_upto_region 9 with (fail)
  generalize y21.alloc _ = V2 at *
  generalize y21.heap.size = d2 at *
  (refine wp_region_plain (Old V2) 1 (Below.refl _ V2) ?_; simp only [List.take_succ_cons, List.take_zero, List.drop_succ_cons, List.drop_zero])
  (refine Text.val (fun x hx => load_job (.tmp 9) rfl rfl (J22.old hx)) (by kernel_rfl) ?_; simp only [Act.put, List.getElem_toArray, List.getElem_cons_succ, List.getElem_cons_zero, List.setIfInBounds_toArray, List.set_cons_zero, List.set_cons_succ])
  intro x26 hx26
  refine wpl_call (V := fun v y => ∃ a c, v = .tuple #[.slice a M2.length c, .bool K2] ∧ Row y a c M2 ∧ Below x26.heap.size x26 y) rfl (by kernel_rfl) ((HC.out.c13 u x26 (L22.carry hx26)).mono fun e y hh => by obtain ⟨a, c, h1, h2⟩ := hh; exact ⟨_, h1, a, c, rfl, h2⟩) ?_
  rintro v y27 ⟨a2, c2, rfl, Rw2, b27⟩
  have b28 := tstep (tstep b25 hx26 b25.size) b27 (by have := (tstep b25 hx26 b25.size).size; omega)
  simp only [Act.put, List.getElem_toArray, List.getElem_cons_succ, List.getElem_cons_zero, List.setIfInBounds_toArray, List.set_cons_zero, List.set_cons_succ]
  clear b25 b27 hx26 L22 J22
  go_upto_region 10 with (fail)
  have CF := Lib.hid fun (y : World) (hy : Old y27 y) => trivial
  (refine wp_region_plain (Old y27) 13 (Below.refl _ y27) ?_; simp only [List.take_succ_cons, List.take_zero, List.drop_succ_cons, List.drop_zero])
  iterate 11 (first | (apply Text.sees (hw := by kernel_rfl); (focus (intro x hx K hK; have hc := CF.out x hx; go_simp; exact hK)); simp only [Act.put, List.getElem_toArray, List.getElem_cons_succ, List.getElem_cons_zero, List.setIfInBounds_toArray, List.set_cons_zero, List.set_cons_succ]) | (apply Text.idle; (focus (intro x hx K hK; go_simp; exact hK)); simp only [Act.put, List.getElem_toArray, List.getElem_cons_succ, List.getElem_cons_zero, List.setIfInBounds_toArray, List.set_cons_zero, List.set_cons_succ]))
  (refine Text.call (Old.call fun x hx => awake17 x) (by kernel_rfl) (fun _ => by kernel_rfl) ?_; simp only [Act.put, List.getElem_toArray, List.getElem_cons_succ, List.getElem_cons_zero, List.setIfInBounds_toArray, List.set_cons_zero, List.set_cons_succ])
  repeat (first | (apply Text.sees (hw := by kernel_rfl); (focus (intro x hx K hK; have hc := CF.out x hx; go_simp; exact hK)); simp only [Act.put, List.getElem_toArray, List.getElem_cons_succ, List.getElem_cons_zero, List.setIfInBounds_toArray, List.set_cons_zero, List.set_cons_succ]) | (apply Text.idle; (focus (intro x hx K hK; go_simp; exact hK)); simp only [Act.put, List.getElem_toArray, List.getElem_cons_succ, List.getElem_cons_zero, List.setIfInBounds_toArray, List.set_cons_zero, List.set_cons_succ]))
  intro z hz
  go_wp2
  go_ret
  exact ⟨rfl, tstep b28 hz b28.size⟩
set_option maxHeartbeats 4000000 in
theorem back_w3 (j : J4) (s : S3) (a : Option Addr) (c : Nat) (bs : List Int) (w : World) (hj : Lists w j s) (fj : Few j) (hl : bs.length ≤ 2000) (hr : Row w a c bs) (M : List Int) (F : ForC j M false) (J : J4) (M2 : List Int) (K2 : Bool) (C : BakC bs a c J 0 M2 K2) (hK : K2 = true) (hM : M2 = bs) :
    Calls Try.prog 4 #[.agg (jobC j s), .slice a bs.length c] w fun e w' => e = .returned (.bool true) ∧ Below w.heap.size w w' := by
  subst hK
  subst hM
  have hd : decide ((2000 : Int) < (M2.length : Int)) = false := by simp; omega
  have D0 := job_new w j s
  have b0 := tbel1 w (.cells (jobC j s) 31)
  have L0 := hj.carry b0
  have cl := fun y (hy : Old (w.alloc (.cells (jobC j s) 31)) y) => large_is j s y (L0.carry hy)
  rw [isB_no (not_not_intro fj)] at cl
  have HR := Lib.hid hr
  have HF := Lib.hid F
  have HC := Lib.hid C
  have hl' : M2.length ≤ 1000000 := by omega
  clear hj fj hr F C
  go_enter Try.func4, Try.ntmps4
  go_upto_region 1 with (fail)
  change Code.wp _ _ _ _ (w.alloc (.cells (jobC j s) 31))
  generalize w.alloc _ = U at *
  have CF := Lib.hid fun (y : World) (hy : Old U y) => trivial
  (refine wp_region_plain (Old U) 6 (Below.refl _ U) ?_; simp only [List.take_succ_cons, List.take_zero, List.drop_succ_cons, List.drop_zero])
  (refine Text.val (fun x hx => load_job (.tmp 2) rfl rfl (D0.old hx)) (by kernel_rfl) ?_; simp only [Act.put, List.getElem_toArray, List.getElem_cons_succ, List.getElem_cons_zero, List.setIfInBounds_toArray, List.set_cons_zero, List.set_cons_succ])
  (refine Text.call (Old.call fun x hx => cl x hx) (by kernel_rfl) (fun _ => by kernel_rfl) ?_; simp only [Act.put, List.getElem_toArray, List.getElem_cons_succ, List.getElem_cons_zero, List.setIfInBounds_toArray, List.set_cons_zero, List.set_cons_succ])
  repeat (first | (apply Text.sees (hw := by kernel_rfl); (focus (intro x hx K hK; have hc := CF.out x hx; go_simp; exact hK)); simp only [Act.put, List.getElem_toArray, List.getElem_cons_succ, List.getElem_cons_zero, List.setIfInBounds_toArray, List.set_cons_zero, List.set_cons_succ]) | (apply Text.idle; (focus (intro x hx K hK; go_simp; exact hK)); simp only [Act.put, List.getElem_toArray, List.getElem_cons_succ, List.getElem_cons_zero, List.setIfInBounds_toArray, List.set_cons_zero, List.set_cons_succ]))
  intro x0 hx0
  go_upto_region 3 with (fail)
  (refine wp_region_plain (Old x0) 1 (Below.refl _ x0) ?_; simp only [List.take_succ_cons, List.take_zero, List.drop_succ_cons, List.drop_zero])
  (refine Text.val (fun x hx => load_job (.tmp 2) rfl rfl ((D0.old hx0).old hx)) (by kernel_rfl) ?_; simp only [Act.put, List.getElem_toArray, List.getElem_cons_succ, List.getElem_cons_zero, List.setIfInBounds_toArray, List.set_cons_zero, List.set_cons_succ])
  intro x hx
  have hx1 := tstep hx0 hx hx0.size
  refine wpl_call (V := fun v y => ∃ a c, v = .tuple #[.slice a M.length c, .bool false] ∧ Row y a c M ∧ Below x.heap.size x y) rfl (by kernel_rfl) ((HF.out.c13 s x (L0.carry hx1)).mono fun e y hh => by obtain ⟨a, c, h1, h2⟩ := hh; exact ⟨_, h1, a, c, rfl, h2⟩) ?_
  rintro v y1 ⟨a1, c1, rfl, Rw, b1⟩
  have hx2 := tstep hx1 b1 hx1.size
  simp only [Act.put, List.getElem_toArray, List.getElem_cons_succ, List.getElem_cons_zero, List.setIfInBounds_toArray, List.set_cons_zero, List.set_cons_succ]
  clear hx hx0 hx1 b1 CF cl
  go_upto_region 8 with (fail)
  have b20 := tstep b0 hx2 b0.size
  have CF := Lib.hid fun (y : World) (hy : Old y1 y) => trivial
  (refine wp_region_plain (Old y1) 1 (Below.refl _ y1) ?_; simp only [List.take_succ_cons, List.take_zero, List.drop_succ_cons, List.drop_zero])
  repeat (first | (apply Text.sees (hw := by kernel_rfl); (focus (intro x hx K hK; have hc := CF.out x hx; go_simp; exact hK)); simp only [Act.put, List.getElem_toArray, List.getElem_cons_succ, List.getElem_cons_zero, List.setIfInBounds_toArray, List.set_cons_zero, List.set_cons_succ]) | (apply Text.idle; (focus (intro x hx K hK; go_simp; exact hK)); simp only [Act.put, List.getElem_toArray, List.getElem_cons_succ, List.getElem_cons_zero, List.setIfInBounds_toArray, List.set_cons_zero, List.set_cons_succ]))
  intro x20 hx20
  refine wpl_call (V := fun v y => ∃ s, v = .tuple #[.agg (jobC J s), .int .i64 0] ∧ Lists y J s ∧ Below x20.heap.size x20 y) rfl (by kernel_rfl) ((HC.out.c7 x20 (HR.out.carry (tstep b20 hx20 b20.size))).mono fun e y hh => by obtain ⟨s, h1, h2⟩ := hh; exact ⟨_, h1, s, rfl, h2⟩) ?_
  rintro v y21 ⟨u, rfl, L21, b21⟩
  refine wpl_step (w' := y21) (v := .tuple #[.agg (jobC J u), .int .i64 0]) rfl (by kernel_rfl) ?_
  refine wpl_step (w' := y21) (v := .agg (jobC J u)) rfl (by kernel_rfl) ?_
  refine wpl_step (w' := y21) (v := .int .i64 0) rfl (by kernel_rfl) ?_
  refine make_job (j := J) (s := u) rfl rfl rfl (.tmp 9) (.tmp 43) rfl rfl (by kernel_rfl) ?_
  have J22 := job_new y21 J u
  have b22 := tbel1 y21 (.cells (jobC J u) 31)
  have b23 := tstep hx20 b21 hx20.size
  have b24 := tstep b23 b22 b23.size
  have b25 := tstep b20 b24 b20.size
  have L22 := L21.carry b22
  simp only [Act.put, List.getElem_toArray, List.getElem_cons_succ, List.getElem_cons_zero, List.setIfInBounds_toArray, List.set_cons_zero, List.set_cons_succ]
  clear L21 b20 b21 b22 b23 b24 hx20 CF
  go_upto_region 9 with (fail)
  generalize y21.alloc _ = V2 at *
  generalize y21.heap.size = d2 at *
  (refine wp_region_plain (Old V2) 1 (Below.refl _ V2) ?_; simp only [List.take_succ_cons, List.take_zero, List.drop_succ_cons, List.drop_zero])
  (refine Text.val (fun x hx => load_job (.tmp 9) rfl rfl (J22.old hx)) (by kernel_rfl) ?_; simp only [Act.put, List.getElem_toArray, List.getElem_cons_succ, List.getElem_cons_zero, List.setIfInBounds_toArray, List.set_cons_zero, List.set_cons_succ])
  intro x26 hx26
  refine wpl_call (V := fun v y => ∃ a c, v = .tuple #[.slice a M2.length c, .bool true] ∧ Row y a c M2 ∧ Below x26.heap.size x26 y) rfl (by kernel_rfl) ((HC.out.c13 u x26 (L22.carry hx26)).mono fun e y hh => by obtain ⟨a, c, h1, h2⟩ := hh; exact ⟨_, h1, a, c, rfl, h2⟩) ?_
  rintro v y27 ⟨a2, c2, rfl, Rw2, b27⟩
  have b28 := tstep (tstep b25 hx26 b25.size) b27 (by have := (tstep b25 hx26 b25.size).size; omega)
  simp only [Act.put, List.getElem_toArray, List.getElem_cons_succ, List.getElem_cons_zero, List.setIfInBounds_toArray, List.set_cons_zero, List.set_cons_succ]
  clear b25 b27 hx26 L22 J22
  go_upto_region 10 with (fail)
  have cs := fun y (hy : Old y27 y) => same_any a2 a c2 c M2 M2 y hl' hl' (Rw2.carry hy) (HR.out.carry (tstep b28 hy b28.size))
  rw [decide_eq_true (rfl : M2 = M2)] at cs
  have CF := Lib.hid fun (y : World) (hy : Old y27 y) => trivial
  (refine wp_region_plain (Old y27) 13 (Below.refl _ y27) ?_; simp only [List.take_succ_cons, List.take_zero, List.drop_succ_cons, List.drop_zero])
  iterate 7 (first | (apply Text.sees (hw := by kernel_rfl); (focus (intro x hx K hK; have hc := CF.out x hx; go_simp; exact hK)); simp only [Act.put, List.getElem_toArray, List.getElem_cons_succ, List.getElem_cons_zero, List.setIfInBounds_toArray, List.set_cons_zero, List.set_cons_succ]) | (apply Text.idle; (focus (intro x hx K hK; go_simp; exact hK)); simp only [Act.put, List.getElem_toArray, List.getElem_cons_succ, List.getElem_cons_zero, List.setIfInBounds_toArray, List.set_cons_zero, List.set_cons_succ]))
  (refine Text.call (Old.call fun x hx => cs x hx) (by kernel_rfl) (fun _ => by kernel_rfl) ?_; simp only [Act.put, List.getElem_toArray, List.getElem_cons_succ, List.getElem_cons_zero, List.setIfInBounds_toArray, List.set_cons_zero, List.set_cons_succ])
  iterate 3 (first | (apply Text.sees (hw := by kernel_rfl); (focus (intro x hx K hK; have hc := CF.out x hx; go_simp; exact hK)); simp only [Act.put, List.getElem_toArray, List.getElem_cons_succ, List.getElem_cons_zero, List.setIfInBounds_toArray, List.set_cons_zero, List.set_cons_succ]) | (apply Text.idle; (focus (intro x hx K hK; go_simp; exact hK)); simp only [Act.put, List.getElem_toArray, List.getElem_cons_succ, List.getElem_cons_zero, List.setIfInBounds_toArray, List.set_cons_zero, List.set_cons_succ]))
  (refine Text.call (Old.call fun x hx => awake17 x) (by kernel_rfl) (fun _ => by kernel_rfl) ?_; simp only [Act.put, List.getElem_toArray, List.getElem_cons_succ, List.getElem_cons_zero, List.setIfInBounds_toArray, List.set_cons_zero, List.set_cons_succ])
  repeat (first | (apply Text.sees (hw := by kernel_rfl); (focus (intro x hx K hK; have hc := CF.out x hx; go_simp; exact hK)); simp only [Act.put, List.getElem_toArray, List.getElem_cons_succ, List.getElem_cons_zero, List.setIfInBounds_toArray, List.set_cons_zero, List.set_cons_succ]) | (apply Text.idle; (focus (intro x hx K hK; go_simp; exact hK)); simp only [Act.put, List.getElem_toArray, List.getElem_cons_succ, List.getElem_cons_zero, List.setIfInBounds_toArray, List.set_cons_zero, List.set_cons_succ]))
  intro z hz
  go_wp2
  go_ret
  exact ⟨rfl, tstep b28 hz b28.size⟩
set_option maxHeartbeats 4000000 in
theorem back_w4 (j : J4) (s : S3) (a : Option Addr) (c : Nat) (bs : List Int) (w : World) (hj : Lists w j s) (fj : Few j) (hl : bs.length ≤ 2000) (hr : Row w a c bs) (M : List Int) (F : ForC j M false) (J : J4) (M2 : List Int) (K2 : Bool) (C : BakC bs a c J 2 M2 K2) :
    Calls Try.prog 4 #[.agg (jobC j s), .slice a bs.length c] w fun e w' => e = .returned (.bool true) ∧ Below w.heap.size w w' := by
  have hd : decide ((2000 : Int) < (bs.length : Int)) = false := by simp; omega
  have D0 := job_new w j s
  have b0 := tbel1 w (.cells (jobC j s) 31)
  have L0 := hj.carry b0
  have cl := fun y (hy : Old (w.alloc (.cells (jobC j s) 31)) y) => large_is j s y (L0.carry hy)
  rw [isB_no (not_not_intro fj)] at cl
  have HR := Lib.hid hr
  have HF := Lib.hid F
  have HC := Lib.hid C
  have hl' : bs.length ≤ 1000000 := by omega
  clear hj fj hr F C
  go_enter Try.func4, Try.ntmps4
  go_upto_region 1 with (fail)
  change Code.wp _ _ _ _ (w.alloc (.cells (jobC j s) 31))
  generalize w.alloc _ = U at *
  have CF := Lib.hid fun (y : World) (hy : Old U y) => trivial
  (refine wp_region_plain (Old U) 6 (Below.refl _ U) ?_; simp only [List.take_succ_cons, List.take_zero, List.drop_succ_cons, List.drop_zero])
  (refine Text.val (fun x hx => load_job (.tmp 2) rfl rfl (D0.old hx)) (by kernel_rfl) ?_; simp only [Act.put, List.getElem_toArray, List.getElem_cons_succ, List.getElem_cons_zero, List.setIfInBounds_toArray, List.set_cons_zero, List.set_cons_succ])
  (refine Text.call (Old.call fun x hx => cl x hx) (by kernel_rfl) (fun _ => by kernel_rfl) ?_; simp only [Act.put, List.getElem_toArray, List.getElem_cons_succ, List.getElem_cons_zero, List.setIfInBounds_toArray, List.set_cons_zero, List.set_cons_succ])
  repeat (first | (apply Text.sees (hw := by kernel_rfl); (focus (intro x hx K hK; have hc := CF.out x hx; go_simp; exact hK)); simp only [Act.put, List.getElem_toArray, List.getElem_cons_succ, List.getElem_cons_zero, List.setIfInBounds_toArray, List.set_cons_zero, List.set_cons_succ]) | (apply Text.idle; (focus (intro x hx K hK; go_simp; exact hK)); simp only [Act.put, List.getElem_toArray, List.getElem_cons_succ, List.getElem_cons_zero, List.setIfInBounds_toArray, List.set_cons_zero, List.set_cons_succ]))
  intro x0 hx0
  go_upto_region 3 with (fail)
  (refine wp_region_plain (Old x0) 1 (Below.refl _ x0) ?_; simp only [List.take_succ_cons, List.take_zero, List.drop_succ_cons, List.drop_zero])
  (refine Text.val (fun x hx => load_job (.tmp 2) rfl rfl ((D0.old hx0).old hx)) (by kernel_rfl) ?_; simp only [Act.put, List.getElem_toArray, List.getElem_cons_succ, List.getElem_cons_zero, List.setIfInBounds_toArray, List.set_cons_zero, List.set_cons_succ])
  intro x hx
  have hx1 := tstep hx0 hx hx0.size
  refine wpl_call (V := fun v y => ∃ a c, v = .tuple #[.slice a M.length c, .bool false] ∧ Row y a c M ∧ Below x.heap.size x y) rfl (by kernel_rfl) ((HF.out.c13 s x (L0.carry hx1)).mono fun e y hh => by obtain ⟨a, c, h1, h2⟩ := hh; exact ⟨_, h1, a, c, rfl, h2⟩) ?_
  rintro v y1 ⟨a1, c1, rfl, Rw, b1⟩
  have hx2 := tstep hx1 b1 hx1.size
  simp only [Act.put, List.getElem_toArray, List.getElem_cons_succ, List.getElem_cons_zero, List.setIfInBounds_toArray, List.set_cons_zero, List.set_cons_succ]
  clear hx hx0 hx1 b1 CF cl
  go_upto_region 8 with (fail)
  have b20 := tstep b0 hx2 b0.size
  have CF := Lib.hid fun (y : World) (hy : Old y1 y) => trivial
  (refine wp_region_plain (Old y1) 1 (Below.refl _ y1) ?_; simp only [List.take_succ_cons, List.take_zero, List.drop_succ_cons, List.drop_zero])
  repeat (first | (apply Text.sees (hw := by kernel_rfl); (focus (intro x hx K hK; have hc := CF.out x hx; go_simp; exact hK)); simp only [Act.put, List.getElem_toArray, List.getElem_cons_succ, List.getElem_cons_zero, List.setIfInBounds_toArray, List.set_cons_zero, List.set_cons_succ]) | (apply Text.idle; (focus (intro x hx K hK; go_simp; exact hK)); simp only [Act.put, List.getElem_toArray, List.getElem_cons_succ, List.getElem_cons_zero, List.setIfInBounds_toArray, List.set_cons_zero, List.set_cons_succ]))
  intro x20 hx20
  refine wpl_call (V := fun v y => ∃ s, v = .tuple #[.agg (jobC J s), .int .i64 2] ∧ Lists y J s ∧ Below x20.heap.size x20 y) rfl (by kernel_rfl) ((HC.out.c7 x20 (HR.out.carry (tstep b20 hx20 b20.size))).mono fun e y hh => by obtain ⟨s, h1, h2⟩ := hh; exact ⟨_, h1, s, rfl, h2⟩) ?_
  rintro v y21 ⟨u, rfl, L21, b21⟩
  refine wpl_step (w' := y21) (v := .tuple #[.agg (jobC J u), .int .i64 2]) rfl (by kernel_rfl) ?_
  refine wpl_step (w' := y21) (v := .agg (jobC J u)) rfl (by kernel_rfl) ?_
  refine wpl_step (w' := y21) (v := .int .i64 2) rfl (by kernel_rfl) ?_
  refine make_job (j := J) (s := u) rfl rfl rfl (.tmp 9) (.tmp 43) rfl rfl (by kernel_rfl) ?_
  have J22 := job_new y21 J u
  have b22 := tbel1 y21 (.cells (jobC J u) 31)
  have b23 := tstep hx20 b21 hx20.size
  have b24 := tstep b23 b22 b23.size
  have b25 := tstep b20 b24 b20.size
  have L22 := L21.carry b22
  simp only [Act.put, List.getElem_toArray, List.getElem_cons_succ, List.getElem_cons_zero, List.setIfInBounds_toArray, List.set_cons_zero, List.set_cons_succ]
  clear L21 b20 b21 b22 b23 b24 hx20 CF
  go_upto_region 9 with (fail)
  generalize y21.alloc _ = V2 at *
  generalize y21.heap.size = d2 at *
  (refine wp_region_plain (Old V2) 1 (Below.refl _ V2) ?_; simp only [List.take_succ_cons, List.take_zero, List.drop_succ_cons, List.drop_zero])
  (refine Text.val (fun x hx => load_job (.tmp 9) rfl rfl (J22.old hx)) (by kernel_rfl) ?_; simp only [Act.put, List.getElem_toArray, List.getElem_cons_succ, List.getElem_cons_zero, List.setIfInBounds_toArray, List.set_cons_zero, List.set_cons_succ])
  intro x26 hx26
  refine wpl_call (V := fun v y => ∃ a c, v = .tuple #[.slice a M2.length c, .bool K2] ∧ Row y a c M2 ∧ Below x26.heap.size x26 y) rfl (by kernel_rfl) ((HC.out.c13 u x26 (L22.carry hx26)).mono fun e y hh => by obtain ⟨a, c, h1, h2⟩ := hh; exact ⟨_, h1, a, c, rfl, h2⟩) ?_
  rintro v y27 ⟨a2, c2, rfl, Rw2, b27⟩
  have b28 := tstep (tstep b25 hx26 b25.size) b27 (by have := (tstep b25 hx26 b25.size).size; omega)
  simp only [Act.put, List.getElem_toArray, List.getElem_cons_succ, List.getElem_cons_zero, List.setIfInBounds_toArray, List.set_cons_zero, List.set_cons_succ]
  clear b25 b27 hx26 L22 J22
  go_upto_region 10 with (fail)
  have CF := Lib.hid fun (y : World) (hy : Old y27 y) => trivial
  (refine wp_region_plain (Old y27) 13 (Below.refl _ y27) ?_; simp only [List.take_succ_cons, List.take_zero, List.drop_succ_cons, List.drop_zero])
  iterate 11 (first | (apply Text.sees (hw := by kernel_rfl); (focus (intro x hx K hK; have hc := CF.out x hx; go_simp; exact hK)); simp only [Act.put, List.getElem_toArray, List.getElem_cons_succ, List.getElem_cons_zero, List.setIfInBounds_toArray, List.set_cons_zero, List.set_cons_succ]) | (apply Text.idle; (focus (intro x hx K hK; go_simp; exact hK)); simp only [Act.put, List.getElem_toArray, List.getElem_cons_succ, List.getElem_cons_zero, List.setIfInBounds_toArray, List.set_cons_zero, List.set_cons_succ]))
  (refine Text.call (Old.call fun x hx => awake17 x) (by kernel_rfl) (fun _ => by kernel_rfl) ?_; simp only [Act.put, List.getElem_toArray, List.getElem_cons_succ, List.getElem_cons_zero, List.setIfInBounds_toArray, List.set_cons_zero, List.set_cons_succ])
  repeat (first | (apply Text.sees (hw := by kernel_rfl); (focus (intro x hx K hK; have hc := CF.out x hx; go_simp; exact hK)); simp only [Act.put, List.getElem_toArray, List.getElem_cons_succ, List.getElem_cons_zero, List.setIfInBounds_toArray, List.set_cons_zero, List.set_cons_succ]) | (apply Text.idle; (focus (intro x hx K hK; go_simp; exact hK)); simp only [Act.put, List.getElem_toArray, List.getElem_cons_succ, List.getElem_cons_zero, List.setIfInBounds_toArray, List.set_cons_zero, List.set_cons_succ]))
  intro z hz
  go_wp2
  go_ret
  exact ⟨rfl, tstep b28 hz b28.size⟩
theorem for_c (j : J4) (s : S3) (w : World) (hj : Lists w j s) (fj : Few j) : ForC j (jobB j) (isB (∀ x ∈ j.items, bareI x)) := by
  refine ⟨fun s y hL => Job_any j s y hL (fj.mid hj), fun hK a c y hy => ?_, fun s t y hs ht => ?_⟩
  · have hb := isB_iff.1 hK
    have ho := lists_ok hj fj hb
    have hE : jobB j = jobE j := by
      unfold jobB
      rw [hK, cond_true]
    rw [hE] at hy ⊢
    have hlen : (jobE j).length ≤ 1000000 := by
      obtain ⟨h1, h2, h3, h4, h5, h6, h7⟩ := jobs_len hj (fj.mid hj) hb
      unfold jobE
      simp only [List.length_append]
      simp only [List.length_cons, List.length_nil]
      omega
    obtain ⟨hok, hdec, _⟩ := okB_enc ho
    have := dJob_any (jobE j) a c y hlen (job_byt ho) hy
    rw [hdec, endR_ok hok] at this
    exact this
  · have := rsame_any j j s t y hs ht fj fj
    rwa [sameJ_refl] at this
theorem back_few (j : J4) (s : S3) (a : Option Addr) (c : Nat) (bs : List Int) (w : World) (hj : Lists w j s) (fj : Few j) (hl : bs.length ≤ 2000) (hB : Byt bs) (hr : Row w a c bs) :
    Calls Try.prog 4 #[.agg (jobC j s), .slice a bs.length c] w fun e w' => e = .returned (.bool true) ∧ Below w.heap.size w w' := by
  have F := for_c j s w hj fj
  generalize jobB j = M at *
  generalize isB (∀ x ∈ j.items, bareI x) = K at *
  have hl' : bs.length ≤ 1000000 := by omega
  have hm := (decJ_fits hB hl).mid (by omega)
  have C : BakC bs a c (decJ bs) (endR (jobR bs 0 false).2.2 (jobR bs 0 false).2.1 bs.length) (jobB (decJ bs)) (isB (∀ x ∈ (decJ bs).items, bareI x)) :=
    ⟨fun y hy => dJob_any bs a c y hl' hB hy, fun s y hL => Job_any (decJ bs) s y hL hm⟩
  by_cases hok : okB bs
  · obtain ⟨ho, he⟩ := okB_these hB hok
    have hbare : isB (∀ x ∈ (decJ bs).items, bareI x) = true := isB_yes fun x hx => by
      rw [decJ_yes hok] at hx
      exact (ho.2.1.2 x hx).1
    have hM : jobB (decJ bs) = bs := by
      unfold jobB
      rw [hbare, cond_true, decJ_yes hok]
      exact he.symm
    rw [endR_ok hok] at C
    cases K
    · exact back_w3 j s a c bs w hj fj hl hr M F _ _ _ C hbare hM
    · exact back_w1 j s a c bs w hj fj hl hr M F _ _ _ C hbare hM
  · rw [endR_no hok] at C
    cases K
    · exact back_w4 j s a c bs w hj fj hl hr M F _ _ _ C
    · exact back_w2 j s a c bs w hj fj hl hr M F _ _ _ C
theorem decodeBack_walk (j : J4) (s : S3) (a : Option Addr) (len cap : Nat) (zs : List Int) (w : World) (hj : Lists w j s) (h : IsRow .u8 w a len cap zs) :
    Calls Try.prog 4 #[.agg (jobC j s), .slice a len cap] w fun e w' => e = .returned (.bool true) ∧ Below w.heap.size w w' := by
  have h' : IsRowV .u8 w a len cap zs := h
  by_cases fj : Few j
  · rcases Nat.lt_or_ge 2000 len with hl | hl
    · exact back_many j s a len cap w hj h'.le (.inr hl)
    · obtain ⟨l, rfl, hr, hB⟩ := h'.row
      exact back_few j s a cap l w hj fj hl hB hr
  · exact back_many j s a len cap w hj h'.le (.inl fj)
end Go.Proofs.Ytjfjekncmejfpaa
