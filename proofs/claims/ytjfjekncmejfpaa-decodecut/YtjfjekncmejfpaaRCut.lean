/- DecodeCut: the walk of the law. -/
import Derived.Test.YtjfjekncmejfpaaRBak
namespace Go.Proofs.Ytjfjekncmejfpaa
open Go.RowKit
set_option maxRecDepth 20000
set_option linter.unusedVariables false
set_option linter.unusedSimpArgs false

/-- What decoding some bytes answers. -/
structure RdC (C : List Int) (m : Nat) (J : J4) (E : Int) (S : ByteArray) (A : Nat) : Prop where
  c7 : ∀ a c y, Row y a c C → Calls Try.prog 7 #[.slice a m c] y fun e w' => ∃ s, e = .returned (.tuple #[.agg (jobC J s), .int .i64 E]) ∧ Lists w' J s ∧ Below y.heap.size y w'
  c8 : ∀ a c y, Row y a c C → Calls Try.prog 8 #[.slice a m c] y fun e w' => e = .returned (.tuple #[.string S, .int .i64 A]) ∧ Below y.heap.size y w'
theorem rd_c {C : List Int} (hl : C.length ≤ 1000000) (hB : Byt C) : RdC C C.length (decJ C) (endR (jobR C 0 false).2.2 (jobR C 0 false).2.1 C.length) (nameP (partJ C)) (jobR C 0 false).2.1 :=
  ⟨fun a c y hy => dJob_any C a c y hl hB hy, fun a c y hy => dWhere_any C a c y hl hB hy⟩
theorem hE5' : (nameP 5).toList = [101, 110, 100] := by
  rw [ByteArray.toList_eq]
  rfl
/-- What is cut off is no job. -/
theorem cut_c {j : J4} (h : okJ j) (hl : (jobE j).length ≤ 1000000) {n : Nat} (hn : n < (jobE j).length) : ∃ J S A, RdC ((jobE j).take n) n J 2 S A ∧ (S.toList == [101, 110, 100]) = false := by
  have hB := job_byt h
  have hs := job_reads.cut h hB hn
  have hlen : ((jobE j).take n).length = n := by rw [List.length_take]; omega
  have R := rd_c (C := (jobE j).take n) (by omega) (hB.take n)
  have hno : ¬ okB ((jobE j).take n) := fun e => by
    rw [e.1] at hs
    cases hs
  rw [endR_no hno, hlen] at R
  refine ⟨_, _, _, R, ?_⟩
  have hp : partJ ((jobE j).take n) < 5 := partJ_lt (by rw [← jobR_pos]; exact hs)
  have := toList_ne (name_ne _ hp)
  rwa [hE5'] at this
/-- What has more behind it is read to its own end. -/
theorem all_c {j : J4} (h : okJ j) (more : List Int) (hm : Byt more) (hl : (jobE j ++ more).length ≤ 1000000) : ∃ J E, RdC (jobE j ++ more) (jobE j ++ more).length J E (nameP 5) (jobE j).length ∧ ((E = 0 ∧ more.length = 0) ∨ (E = 2 ∧ more.length ≠ 0)) := by
  have e := job_reads.whole h more
  have R := rd_c hl (Byt.app (job_byt h) hm)
  have hp : partJ (jobE j ++ more) = 5 := partJ_five (by rw [← jobR_pos, e])
  rw [hp] at R
  by_cases h0 : more.length = 0
  · have hok : okB (jobE j ++ more) := by
      unfold okB
      rw [e]
      exact ⟨rfl, by rw [List.length_append, h0]; rfl⟩
    rw [endR_ok hok, e] at R
    exact ⟨_, _, R, .inl ⟨rfl, h0⟩⟩
  · have hno : ¬ okB (jobE j ++ more) := fun k => by
      have := k.2
      rw [e, List.length_append] at this
      dsimp only at this
      omega
    rw [endR_no hno, e] at R
    exact ⟨_, _, R, .inr ⟨rfl, h0⟩⟩

theorem cut_many (j : J4) (s : S3) (n : Int) (a : Option Addr) (len cap : Nat) (w : World) (hj : Lists w j s) (hm : len ≤ 9223372036854775807) (h : ¬ Few j ∨ 100 < len) :
    Calls Try.prog 5 #[.agg (jobC j s), .int .i64 n, .slice a len cap] w fun e w' => e = .returned (.bool true) ∧ Below w.heap.size w w' := by
  have D0 := job_new w j s
  have b0 := tbel1 w (.cells (jobC j s) 31)
  have L0 := hj.carry b0
  have cl := fun y (hy : Old (w.alloc (.cells (jobC j s) 31)) y) => large_is j s y (L0.carry hy)
  have JH := Lib.hid fun y (hy : Old (w.alloc (.cells (jobC j s) 31)) y) => JobAt.old D0 hy
  have CF := Lib.hid fun (y : World) (hy : Old (w.alloc (.cells (jobC j s) 31)) y) => trivial
  clear D0 hj L0
  by_cases fj : Few j
  · rw [isB_no (not_not_intro fj)] at cl
    have hl : 100 < len := h.resolve_left (not_not_intro fj)
    have hd : decide ((100 : Int) < (len : Int)) = true := by simp; omega
    clear fj h
    go_enter Try.func5, Try.ntmps5
    go_upto_region 1 with (fail)
    change Code.wp _ _ _ _ (w.alloc (.cells (jobC j s) 31))
    generalize w.alloc _ = U at *
    (refine wp_region_plain (Old U) 6 (Below.refl _ U) ?_; simp only [List.take_succ_cons, List.take_zero, List.drop_succ_cons, List.drop_zero])
    (refine Text.val (fun x hx => load_job (.tmp 3) rfl rfl (JH.out x hx)) (by kernel_rfl) ?_; simp only [Act.put, List.getElem_toArray, List.getElem_cons_succ, List.getElem_cons_zero, List.setIfInBounds_toArray, List.set_cons_zero, List.set_cons_succ])
    (refine Text.call (Old.call fun x hx => cl x hx) (by kernel_rfl) (fun _ => by kernel_rfl) ?_; simp only [Act.put, List.getElem_toArray, List.getElem_cons_succ, List.getElem_cons_zero, List.setIfInBounds_toArray, List.set_cons_zero, List.set_cons_succ])
    repeat (first | (apply Text.sees (hw := by kernel_rfl); (focus (intro x hx K hK; have hc := CF.out x hx; go_simp; exact hK)); simp only [Act.put, List.getElem_toArray, List.getElem_cons_succ, List.getElem_cons_zero, List.setIfInBounds_toArray, List.set_cons_zero, List.set_cons_succ]) | (apply Text.idle; (focus (intro x hx K hK; go_simp; exact hK)); simp only [Act.put, List.getElem_toArray, List.getElem_cons_succ, List.getElem_cons_zero, List.setIfInBounds_toArray, List.set_cons_zero, List.set_cons_succ]))
    intro x hx
    go_wp2_with (go_at_call 6; refine (awake17 _).mono ?_; rintro e w1 ⟨rfl, b1⟩)
    go_ret
    exact ⟨rfl, tstep (tstep b0 hx b0.size) b1 (tstep b0 hx b0.size).size⟩
  · rw [isB_yes fj] at cl
    clear fj h
    go_enter Try.func5, Try.ntmps5
    go_upto_region 1 with (fail)
    change Code.wp _ _ _ _ (w.alloc (.cells (jobC j s) 31))
    generalize w.alloc _ = U at *
    (refine wp_region_plain (Old U) 6 (Below.refl _ U) ?_; simp only [List.take_succ_cons, List.take_zero, List.drop_succ_cons, List.drop_zero])
    (refine Text.val (fun x hx => load_job (.tmp 3) rfl rfl (JH.out x hx)) (by kernel_rfl) ?_; simp only [Act.put, List.getElem_toArray, List.getElem_cons_succ, List.getElem_cons_zero, List.setIfInBounds_toArray, List.set_cons_zero, List.set_cons_succ])
    (refine Text.call (Old.call fun x hx => cl x hx) (by kernel_rfl) (fun _ => by kernel_rfl) ?_; simp only [Act.put, List.getElem_toArray, List.getElem_cons_succ, List.getElem_cons_zero, List.setIfInBounds_toArray, List.set_cons_zero, List.set_cons_succ])
    repeat (first | (apply Text.sees (hw := by kernel_rfl); (focus (intro x hx K hK; have hc := CF.out x hx; go_simp; exact hK)); simp only [Act.put, List.getElem_toArray, List.getElem_cons_succ, List.getElem_cons_zero, List.setIfInBounds_toArray, List.set_cons_zero, List.set_cons_succ]) | (apply Text.idle; (focus (intro x hx K hK; go_simp; exact hK)); simp only [Act.put, List.getElem_toArray, List.getElem_cons_succ, List.getElem_cons_zero, List.setIfInBounds_toArray, List.set_cons_zero, List.set_cons_succ]))
    intro x hx
    go_wp2_with (go_at_call 6; refine (awake17 _).mono ?_; rintro e w1 ⟨rfl, b1⟩)
    go_ret
    exact ⟨rfl, tstep (tstep b0 hx b0.size) b1 (tstep b0 hx b0.size).size⟩
set_option maxHeartbeats 1000000 in
theorem cut_o1 (j : J4) (s : S3) (n : Int) (a : Option Addr) (len cap : Nat) (w : World) (hj : Lists w j s) (fj : Few j) (hl : len ≤ 100) (M : List Int) (hM : M.length ≤ 1000000) (F : ForC j M false) :
    Calls Try.prog 5 #[.agg (jobC j s), .int .i64 n, .slice a len cap] w fun e w' => e = .returned (.bool true) ∧ Below w.heap.size w w' := by
  have hd : decide ((100 : Int) < (len : Int)) = false := by simp; omega
  have D0 := job_new w j s
  have b0 := tbel1 w (.cells (jobC j s) 31)
  have L0 := hj.carry b0
  have cl := fun y (hy : Old (w.alloc (.cells (jobC j s) 31)) y) => large_is j s y (L0.carry hy)
  rw [isB_no (not_not_intro fj)] at cl
  have CF := Lib.hid fun (y : World) (hy : Old (w.alloc (.cells (jobC j s) 31)) y) => trivial
  clear hj fj
  go_enter Try.func5, Try.ntmps5
  go_upto_region 1 with (fail)
  change Code.wp _ _ _ _ (w.alloc (.cells (jobC j s) 31))
  generalize w.alloc _ = U at *
  (refine wp_region_plain (Old U) 6 (Below.refl _ U) ?_; simp only [List.take_succ_cons, List.take_zero, List.drop_succ_cons, List.drop_zero])
  (refine Text.val (fun x hx => load_job (.tmp 3) rfl rfl (D0.old hx)) (by kernel_rfl) ?_; simp only [Act.put, List.getElem_toArray, List.getElem_cons_succ, List.getElem_cons_zero, List.setIfInBounds_toArray, List.set_cons_zero, List.set_cons_succ])
  (refine Text.call (Old.call fun x hx => cl x hx) (by kernel_rfl) (fun _ => by kernel_rfl) ?_; simp only [Act.put, List.getElem_toArray, List.getElem_cons_succ, List.getElem_cons_zero, List.setIfInBounds_toArray, List.set_cons_zero, List.set_cons_succ])
  repeat (first | (apply Text.sees (hw := by kernel_rfl); (focus (intro x hx K hK; have hc := CF.out x hx; go_simp; exact hK)); simp only [Act.put, List.getElem_toArray, List.getElem_cons_succ, List.getElem_cons_zero, List.setIfInBounds_toArray, List.set_cons_zero, List.set_cons_succ]) | (apply Text.idle; (focus (intro x hx K hK; go_simp; exact hK)); simp only [Act.put, List.getElem_toArray, List.getElem_cons_succ, List.getElem_cons_zero, List.setIfInBounds_toArray, List.set_cons_zero, List.set_cons_succ]))
  intro x0 hx0
  go_upto_region 3 with (fail)
  (refine wp_region_plain (Old x0) 1 (Below.refl _ x0) ?_; simp only [List.take_succ_cons, List.take_zero, List.drop_succ_cons, List.drop_zero])
  (refine Text.val (fun x hx => load_job (.tmp 3) rfl rfl ((D0.old hx0).old hx)) (by kernel_rfl) ?_; simp only [Act.put, List.getElem_toArray, List.getElem_cons_succ, List.getElem_cons_zero, List.setIfInBounds_toArray, List.set_cons_zero, List.set_cons_succ])
  intro x hx
  have hx1 := tstep hx0 hx hx0.size
  refine wpl_call (V := fun v y => ∃ a c, v = .tuple #[.slice a M.length c, .bool false] ∧ Row y a c M ∧ Below x.heap.size x y) rfl (by kernel_rfl) ((F.c13 s x (L0.carry hx1)).mono fun e y hh => by obtain ⟨a, c, h1, h2⟩ := hh; exact ⟨_, h1, a, c, rfl, h2⟩) ?_
  rintro v y1 ⟨a1, c1, rfl, Rw, b1⟩
  have hx2 := tstep hx1 b1 hx1.size
  have b20 := tstep b0 hx2 b0.size
  simp only [Act.put, List.getElem_toArray, List.getElem_cons_succ, List.getElem_cons_zero, List.setIfInBounds_toArray, List.set_cons_zero, List.set_cons_succ]
  clear hx hx0 hx1 b1 CF cl D0 L0 F hx2 b0
  go_wp2_with (go_at_call 6; refine (awake17 _).mono ?_; rintro e w1 ⟨rfl, b1⟩)
  go_ret
  exact ⟨rfl, tstep b20 b1 b20.size⟩
set_option maxHeartbeats 1000000 in
theorem cut_o2 (j : J4) (s : S3) (n : Int) (a : Option Addr) (len cap : Nat) (w : World) (hj : Lists w j s) (fj : Few j) (hl : len ≤ 100) (M : List Int) (hM : M.length ≤ 1000000) (F : ForC j M true) (h : n < 0) :
    Calls Try.prog 5 #[.agg (jobC j s), .int .i64 n, .slice a len cap] w fun e w' => e = .returned (.bool true) ∧ Below w.heap.size w w' := by
  have hd : decide ((100 : Int) < (len : Int)) = false := by simp; omega
  have h0 : decide (n < 0) = true := by simpa using h
  have D0 := job_new w j s
  have b0 := tbel1 w (.cells (jobC j s) 31)
  have L0 := hj.carry b0
  have cl := fun y (hy : Old (w.alloc (.cells (jobC j s) 31)) y) => large_is j s y (L0.carry hy)
  rw [isB_no (not_not_intro fj)] at cl
  have CF := Lib.hid fun (y : World) (hy : Old (w.alloc (.cells (jobC j s) 31)) y) => trivial
  clear hj fj
  go_enter Try.func5, Try.ntmps5
  go_upto_region 1 with (fail)
  change Code.wp _ _ _ _ (w.alloc (.cells (jobC j s) 31))
  generalize w.alloc _ = U at *
  (refine wp_region_plain (Old U) 6 (Below.refl _ U) ?_; simp only [List.take_succ_cons, List.take_zero, List.drop_succ_cons, List.drop_zero])
  (refine Text.val (fun x hx => load_job (.tmp 3) rfl rfl (D0.old hx)) (by kernel_rfl) ?_; simp only [Act.put, List.getElem_toArray, List.getElem_cons_succ, List.getElem_cons_zero, List.setIfInBounds_toArray, List.set_cons_zero, List.set_cons_succ])
  (refine Text.call (Old.call fun x hx => cl x hx) (by kernel_rfl) (fun _ => by kernel_rfl) ?_; simp only [Act.put, List.getElem_toArray, List.getElem_cons_succ, List.getElem_cons_zero, List.setIfInBounds_toArray, List.set_cons_zero, List.set_cons_succ])
  repeat (first | (apply Text.sees (hw := by kernel_rfl); (focus (intro x hx K hK; have hc := CF.out x hx; go_simp; exact hK)); simp only [Act.put, List.getElem_toArray, List.getElem_cons_succ, List.getElem_cons_zero, List.setIfInBounds_toArray, List.set_cons_zero, List.set_cons_succ]) | (apply Text.idle; (focus (intro x hx K hK; go_simp; exact hK)); simp only [Act.put, List.getElem_toArray, List.getElem_cons_succ, List.getElem_cons_zero, List.setIfInBounds_toArray, List.set_cons_zero, List.set_cons_succ]))
  intro x0 hx0
  go_upto_region 3 with (fail)
  (refine wp_region_plain (Old x0) 1 (Below.refl _ x0) ?_; simp only [List.take_succ_cons, List.take_zero, List.drop_succ_cons, List.drop_zero])
  (refine Text.val (fun x hx => load_job (.tmp 3) rfl rfl ((D0.old hx0).old hx)) (by kernel_rfl) ?_; simp only [Act.put, List.getElem_toArray, List.getElem_cons_succ, List.getElem_cons_zero, List.setIfInBounds_toArray, List.set_cons_zero, List.set_cons_succ])
  intro x hx
  have hx1 := tstep hx0 hx hx0.size
  refine wpl_call (V := fun v y => ∃ a c, v = .tuple #[.slice a M.length c, .bool true] ∧ Row y a c M ∧ Below x.heap.size x y) rfl (by kernel_rfl) ((F.c13 s x (L0.carry hx1)).mono fun e y hh => by obtain ⟨a, c, h1, h2⟩ := hh; exact ⟨_, h1, a, c, rfl, h2⟩) ?_
  rintro v y1 ⟨a1, c1, rfl, Rw, b1⟩
  have hx2 := tstep hx1 b1 hx1.size
  have b20 := tstep b0 hx2 b0.size
  simp only [Act.put, List.getElem_toArray, List.getElem_cons_succ, List.getElem_cons_zero, List.setIfInBounds_toArray, List.set_cons_zero, List.set_cons_succ]
  clear hx hx0 hx1 b1 CF cl D0 L0 F hx2 b0
  go_wp2_with (go_at_call 6; refine (awake17 _).mono ?_; rintro e w1 ⟨rfl, b1⟩)
  go_ret
  exact ⟨rfl, tstep b20 b1 b20.size⟩
set_option maxHeartbeats 1000000 in
theorem cut_o3 (j : J4) (s : S3) (n : Int) (a : Option Addr) (len cap : Nat) (w : World) (hj : Lists w j s) (fj : Few j) (hl : len ≤ 100) (M : List Int) (hM : M.length ≤ 1000000) (F : ForC j M true) (h : 0 ≤ n) (h2 : (M.length : Int) ≤ n) :
    Calls Try.prog 5 #[.agg (jobC j s), .int .i64 n, .slice a len cap] w fun e w' => e = .returned (.bool true) ∧ Below w.heap.size w w' := by
  have hd : decide ((100 : Int) < (len : Int)) = false := by simp; omega
  have h0 : decide (n < 0) = false := by simp; omega
  have h3 : decide ((M.length : Int) ≤ n) = true := by simpa using h2
  have D0 := job_new w j s
  have b0 := tbel1 w (.cells (jobC j s) 31)
  have L0 := hj.carry b0
  have cl := fun y (hy : Old (w.alloc (.cells (jobC j s) 31)) y) => large_is j s y (L0.carry hy)
  rw [isB_no (not_not_intro fj)] at cl
  have CF := Lib.hid fun (y : World) (hy : Old (w.alloc (.cells (jobC j s) 31)) y) => trivial
  clear hj fj
  go_enter Try.func5, Try.ntmps5
  go_upto_region 1 with (fail)
  change Code.wp _ _ _ _ (w.alloc (.cells (jobC j s) 31))
  generalize w.alloc _ = U at *
  (refine wp_region_plain (Old U) 6 (Below.refl _ U) ?_; simp only [List.take_succ_cons, List.take_zero, List.drop_succ_cons, List.drop_zero])
  (refine Text.val (fun x hx => load_job (.tmp 3) rfl rfl (D0.old hx)) (by kernel_rfl) ?_; simp only [Act.put, List.getElem_toArray, List.getElem_cons_succ, List.getElem_cons_zero, List.setIfInBounds_toArray, List.set_cons_zero, List.set_cons_succ])
  (refine Text.call (Old.call fun x hx => cl x hx) (by kernel_rfl) (fun _ => by kernel_rfl) ?_; simp only [Act.put, List.getElem_toArray, List.getElem_cons_succ, List.getElem_cons_zero, List.setIfInBounds_toArray, List.set_cons_zero, List.set_cons_succ])
  repeat (first | (apply Text.sees (hw := by kernel_rfl); (focus (intro x hx K hK; have hc := CF.out x hx; go_simp; exact hK)); simp only [Act.put, List.getElem_toArray, List.getElem_cons_succ, List.getElem_cons_zero, List.setIfInBounds_toArray, List.set_cons_zero, List.set_cons_succ]) | (apply Text.idle; (focus (intro x hx K hK; go_simp; exact hK)); simp only [Act.put, List.getElem_toArray, List.getElem_cons_succ, List.getElem_cons_zero, List.setIfInBounds_toArray, List.set_cons_zero, List.set_cons_succ]))
  intro x0 hx0
  go_upto_region 3 with (fail)
  (refine wp_region_plain (Old x0) 1 (Below.refl _ x0) ?_; simp only [List.take_succ_cons, List.take_zero, List.drop_succ_cons, List.drop_zero])
  (refine Text.val (fun x hx => load_job (.tmp 3) rfl rfl ((D0.old hx0).old hx)) (by kernel_rfl) ?_; simp only [Act.put, List.getElem_toArray, List.getElem_cons_succ, List.getElem_cons_zero, List.setIfInBounds_toArray, List.set_cons_zero, List.set_cons_succ])
  intro x hx
  have hx1 := tstep hx0 hx hx0.size
  refine wpl_call (V := fun v y => ∃ a c, v = .tuple #[.slice a M.length c, .bool true] ∧ Row y a c M ∧ Below x.heap.size x y) rfl (by kernel_rfl) ((F.c13 s x (L0.carry hx1)).mono fun e y hh => by obtain ⟨a, c, h1, h2⟩ := hh; exact ⟨_, h1, a, c, rfl, h2⟩) ?_
  rintro v y1 ⟨a1, c1, rfl, Rw, b1⟩
  have hx2 := tstep hx1 b1 hx1.size
  have b20 := tstep b0 hx2 b0.size
  simp only [Act.put, List.getElem_toArray, List.getElem_cons_succ, List.getElem_cons_zero, List.setIfInBounds_toArray, List.set_cons_zero, List.set_cons_succ]
  clear hx hx0 hx1 b1 CF cl D0 L0 F hx2 b0
  go_wp2_with (go_at_call 6; refine (awake17 _).mono ?_; rintro e w1 ⟨rfl, b1⟩)
  go_ret
  exact ⟨rfl, tstep b20 b1 b20.size⟩
set_option maxHeartbeats 4000000 in
theorem cut_w1 (j : J4) (s : S3) (n : Nat) (a : Option Addr) (c : Nat) (ml : List Int) (w : World) (hj : Lists w j s) (fj : Few j) (hl : ml.length ≤ 100) (hr : Row w a c ml) (M : List Int) (hM : M.length ≤ 1000000) (hn : n < M.length) (F : ForC j M true) (J : J4) (S : ByteArray) (N : Nat) (C : RdC (M.take n) n J 2 S N) (hS : (S.toList == [101, 110, 100]) = false) (J2 : J4) (X : RdC (M ++ ml) (M ++ ml).length J2 0 (nameP 5) M.length) (hm : ml.length = 0) :
    Calls Try.prog 5 #[.agg (jobC j s), .int .i64 (n : Int), .slice a ml.length c] w fun e w' => e = .returned (.bool true) ∧ Below w.heap.size w w' := by
  have hd : decide ((100 : Int) < (ml.length : Int)) = false := by simp; omega
  have h0 : decide ((n : Int) < 0) = false := by simp
  have h3 : decide ((M.length : Int) ≤ (n : Int)) = false := by simp; omega
  have hm0 : ((ml.length : Int) == 0) = true := by simp; simpa using hm
  clear hm
  have HR := Lib.hid hr
  have HC := Lib.hid C
  have HX := Lib.hid X
  have HS := Lib.hid hS
  clear hr C X hS
  have D0 := job_new w j s
  have b0 := tbel1 w (.cells (jobC j s) 31)
  have L0 := hj.carry b0
  have cl := fun y (hy : Old (w.alloc (.cells (jobC j s) 31)) y) => large_is j s y (L0.carry hy)
  rw [isB_no (not_not_intro fj)] at cl
  have CF := Lib.hid fun (y : World) (hy : Old (w.alloc (.cells (jobC j s) 31)) y) => trivial
  clear hj fj
  go_enter Try.func5, Try.ntmps5
  go_upto_region 1 with (fail)
  change Code.wp _ _ _ _ (w.alloc (.cells (jobC j s) 31))
  generalize w.alloc _ = U at *
  (refine wp_region_plain (Old U) 6 (Below.refl _ U) ?_; simp only [List.take_succ_cons, List.take_zero, List.drop_succ_cons, List.drop_zero])
  (refine Text.val (fun x hx => load_job (.tmp 3) rfl rfl (D0.old hx)) (by kernel_rfl) ?_; simp only [Act.put, List.getElem_toArray, List.getElem_cons_succ, List.getElem_cons_zero, List.setIfInBounds_toArray, List.set_cons_zero, List.set_cons_succ])
  (refine Text.call (Old.call fun x hx => cl x hx) (by kernel_rfl) (fun _ => by kernel_rfl) ?_; simp only [Act.put, List.getElem_toArray, List.getElem_cons_succ, List.getElem_cons_zero, List.setIfInBounds_toArray, List.set_cons_zero, List.set_cons_succ])
  repeat (first | (apply Text.sees (hw := by kernel_rfl); (focus (intro x hx K hK; have hc := CF.out x hx; go_simp; exact hK)); simp only [Act.put, List.getElem_toArray, List.getElem_cons_succ, List.getElem_cons_zero, List.setIfInBounds_toArray, List.set_cons_zero, List.set_cons_succ]) | (apply Text.idle; (focus (intro x hx K hK; go_simp; exact hK)); simp only [Act.put, List.getElem_toArray, List.getElem_cons_succ, List.getElem_cons_zero, List.setIfInBounds_toArray, List.set_cons_zero, List.set_cons_succ]))
  intro x0 hx0
  go_upto_region 3 with (fail)
  (refine wp_region_plain (Old x0) 1 (Below.refl _ x0) ?_; simp only [List.take_succ_cons, List.take_zero, List.drop_succ_cons, List.drop_zero])
  (refine Text.val (fun x hx => load_job (.tmp 3) rfl rfl ((D0.old hx0).old hx)) (by kernel_rfl) ?_; simp only [Act.put, List.getElem_toArray, List.getElem_cons_succ, List.getElem_cons_zero, List.setIfInBounds_toArray, List.set_cons_zero, List.set_cons_succ])
  intro x hx
  have hx1 := tstep hx0 hx hx0.size
  refine wpl_call (V := fun v y => ∃ a c, v = .tuple #[.slice a M.length c, .bool true] ∧ Row y a c M ∧ Below x.heap.size x y) rfl (by kernel_rfl) ((F.c13 s x (L0.carry hx1)).mono fun e y hh => by obtain ⟨a, c, h1, h2⟩ := hh; exact ⟨_, h1, a, c, rfl, h2⟩) ?_
  rintro v y1 ⟨a1, c1, rfl, Rw, b1⟩
  have hx2 := tstep hx1 b1 hx1.size
  have b20 := tstep b0 hx2 b0.size
  simp only [Act.put, List.getElem_toArray, List.getElem_cons_succ, List.getElem_cons_zero, List.setIfInBounds_toArray, List.set_cons_zero, List.set_cons_succ]
  clear hx hx0 hx1 b1 CF cl D0 L0 F hx2 b0
  obtain ⟨a', c', hcut, hrc⟩ := cut_to a1 c1 M.length M n (by omega) y1 Rw
  go_upto_region 6 with (fail)
  have CF := Lib.hid fun (y : World) (hy : Old y1 y) => trivial
  (refine wp_region_plain (Old y1) 3 (Below.refl _ y1) ?_; simp only [List.take_succ_cons, List.take_zero, List.drop_succ_cons, List.drop_zero])
  iterate 3 (first | (apply Text.sees (hw := by kernel_rfl); (focus (intro x hx K hK; have hc := CF.out x hx; go_simp; exact hK)); simp only [Act.put, List.getElem_toArray, List.getElem_cons_succ, List.getElem_cons_zero, List.setIfInBounds_toArray, List.set_cons_zero, List.set_cons_succ]) | (apply Text.idle; (focus (intro x hx K hK; go_simp; exact hK)); simp only [Act.put, List.getElem_toArray, List.getElem_cons_succ, List.getElem_cons_zero, List.setIfInBounds_toArray, List.set_cons_zero, List.set_cons_succ]))
  intro x3 hx3
  refine wpl_call (V := fun v y => ∃ s, v = .tuple #[.agg (jobC J s), .int .i64 2] ∧ Lists y J s ∧ Below x3.heap.size x3 y) rfl (by kernel_rfl) ((HC.out.c7 a' c' x3 (hrc.carry hx3)).mono fun e y hh => by obtain ⟨s, h1, h2⟩ := hh; exact ⟨_, h1, s, rfl, h2⟩) ?_
  rintro v y2 ⟨t, rfl, _, b3⟩
  refine wpl_step (w' := y2) (v := .tuple #[.agg (jobC J t), .int .i64 2]) rfl (by kernel_rfl) ?_
  refine wpl_step (w' := y2) (v := .agg (jobC J t)) rfl (by kernel_rfl) ?_
  refine wpl_step (w' := y2) (v := .int .i64 2) rfl (by kernel_rfl) ?_
  refine make_job (j := J) (s := t) rfl rfl rfl (.tmp 9) (.tmp 49) rfl rfl (by kernel_rfl) ?_
  have b4 := tbel1 y2 (.cells (jobC J t) 31)
  have b5 := tstep hx3 b3 hx3.size
  have b6 := tstep b5 b4 b5.size
  have Rw6 := Rw.carry b6
  have hrc6 := hrc.carry b6
  have b21 := tstep b20 b6 b20.size
  simp only [Act.put, List.getElem_toArray, List.getElem_cons_succ, List.getElem_cons_zero, List.setIfInBounds_toArray, List.set_cons_zero, List.set_cons_succ]
  clear b3 b4 b5 b6 hx3 Rw hrc b20 CF
  go_upto_region 7 with (fail)
  generalize y2.alloc _ = V at *
  generalize y2.heap.size = d at *
  have CF := Lib.hid fun (y : World) (hy : Old V y) => trivial
  (refine wp_region_plain (Old V) 3 (Below.refl _ V) ?_; simp only [List.take_succ_cons, List.take_zero, List.drop_succ_cons, List.drop_zero])
  iterate 3 (first | (apply Text.sees (hw := by kernel_rfl); (focus (intro x hx K hK; have hc := CF.out x hx; go_simp; exact hK)); simp only [Act.put, List.getElem_toArray, List.getElem_cons_succ, List.getElem_cons_zero, List.setIfInBounds_toArray, List.set_cons_zero, List.set_cons_succ]) | (apply Text.idle; (focus (intro x hx K hK; go_simp; exact hK)); simp only [Act.put, List.getElem_toArray, List.getElem_cons_succ, List.getElem_cons_zero, List.setIfInBounds_toArray, List.set_cons_zero, List.set_cons_succ]))
  intro x4 hx4
  refine wpl_call (V := fun v y => v = .tuple #[.string S, .int .i64 N] ∧ Below x4.heap.size x4 y) rfl (by kernel_rfl) ((HC.out.c8 a' c' x4 (hrc6.carry hx4)).mono fun e y hh => ⟨_, hh.1, rfl, hh.2⟩) ?_
  rintro v y5 ⟨rfl, b7⟩
  have b8 := tstep hx4 b7 hx4.size
  have b22 := tstep b21 b8 b21.size
  have Rw8 := Rw6.carry b8
  simp only [Act.put, List.getElem_toArray, List.getElem_cons_succ, List.getElem_cons_zero, List.setIfInBounds_toArray, List.set_cons_zero, List.set_cons_succ]
  clear b7 b8 hx4 Rw6 hrc6 b21 CF hcut
  go_upto_region 8 with (fail)
  have o1 := own_zero y5 y5.heap.size (Nat.le_refl _)
  have bz := bel1 y5 (.cells #[] 5)
  have RM := Rw8.carry bz
  have hMl : M.length + ml.length ≤ 1000100 := by omega
  go_upto_region 9 with (first
    | (at_builtin; refine wpList_app rfl (.tmp 58) (.tmp 59) rfl rfl o1 rfl RM (by simp; omega) bz (by simp) ?_; intro v2 w2 o2 b2)
    | (at_builtin; refine wpList_app rfl (.tmp 60) (.tmp 61) rfl rfl o2 rfl (HR.out.carry (tstep b22 b2 b22.size)) (by simp; omega) b2 b2.size ?_; intro v3 w3 o3 b3))
  rw [List.nil_append] at o3
  obtain ⟨L, hL⟩ : ∃ L, L = M ++ ml := ⟨_, rfl⟩
  rw [← hL] at o3 HX
  obtain ⟨a3, c3, rfl, r3⟩ := own_row o3
  have b23 := tstep b22 b3 b22.size
  clear o1 o2 o3 bz RM Rw8 b2 b3 b22 hL
  have CF := Lib.hid fun (y : World) (hy : Old w3 y) => trivial
  (refine wp_region_plain (Old w3) 1 (Below.refl _ w3) ?_; simp only [List.take_succ_cons, List.take_zero, List.drop_succ_cons, List.drop_zero])
  repeat (first | (apply Text.sees (hw := by kernel_rfl); (focus (intro x hx K hK; have hc := CF.out x hx; go_simp; exact hK)); simp only [Act.put, List.getElem_toArray, List.getElem_cons_succ, List.getElem_cons_zero, List.setIfInBounds_toArray, List.set_cons_zero, List.set_cons_succ]) | (apply Text.idle; (focus (intro x hx K hK; go_simp; exact hK)); simp only [Act.put, List.getElem_toArray, List.getElem_cons_succ, List.getElem_cons_zero, List.setIfInBounds_toArray, List.set_cons_zero, List.set_cons_succ]))
  intro x6 hx6
  refine wpl_call (V := fun v y => ∃ s, v = .tuple #[.agg (jobC J2 s), .int .i64 0] ∧ Lists y J2 s ∧ Below x6.heap.size x6 y) rfl (by kernel_rfl) ((HX.out.c7 a3 c3 x6 (r3.carry hx6)).mono fun e y hh => by obtain ⟨s, h1, h2⟩ := hh; exact ⟨_, h1, s, rfl, h2⟩) ?_
  rintro v y7 ⟨u, rfl, _, b3⟩
  refine wpl_step (w' := y7) (v := .tuple #[.agg (jobC J2 u), .int .i64 0]) rfl (by kernel_rfl) ?_
  refine wpl_step (w' := y7) (v := .agg (jobC J2 u)) rfl (by kernel_rfl) ?_
  refine wpl_step (w' := y7) (v := .int .i64 0) rfl (by kernel_rfl) ?_
  refine make_job (j := J2) (s := u) rfl rfl rfl (.tmp 14) (.tmp 66) rfl rfl (by kernel_rfl) ?_
  have b4 := tbel1 y7 (.cells (jobC J2 u) 31)
  have b5 := tstep hx6 b3 hx6.size
  have b6 := tstep b5 b4 b5.size
  have r6 := r3.carry b6
  have b24 := tstep b23 b6 b23.size
  simp only [Act.put, List.getElem_toArray, List.getElem_cons_succ, List.getElem_cons_zero, List.setIfInBounds_toArray, List.set_cons_zero, List.set_cons_succ]
  clear b3 b4 b5 b6 hx6 r3 b23 CF
  go_upto_region 10 with (fail)
  generalize y7.alloc _ = V2 at *
  generalize y7.heap.size = d2 at *
  have CF := Lib.hid fun (y : World) (hy : Old V2 y) => trivial
  (refine wp_region_plain (Old V2) 1 (Below.refl _ V2) ?_; simp only [List.take_succ_cons, List.take_zero, List.drop_succ_cons, List.drop_zero])
  repeat (first | (apply Text.sees (hw := by kernel_rfl); (focus (intro x hx K hK; have hc := CF.out x hx; go_simp; exact hK)); simp only [Act.put, List.getElem_toArray, List.getElem_cons_succ, List.getElem_cons_zero, List.setIfInBounds_toArray, List.set_cons_zero, List.set_cons_succ]) | (apply Text.idle; (focus (intro x hx K hK; go_simp; exact hK)); simp only [Act.put, List.getElem_toArray, List.getElem_cons_succ, List.getElem_cons_zero, List.setIfInBounds_toArray, List.set_cons_zero, List.set_cons_succ]))
  intro x8 hx8
  refine wpl_call (V := fun v y => v = .tuple #[.string (nameP 5), .int .i64 M.length] ∧ Below x8.heap.size x8 y) rfl (by kernel_rfl) ((HX.out.c8 a3 c3 x8 (r6.carry hx8)).mono fun e y hh => ⟨_, hh.1, rfl, hh.2⟩) ?_
  rintro v y9 ⟨rfl, b7⟩
  have b25 := tstep (tstep b24 hx8 b24.size) b7 (by have := (tstep b24 hx8 b24.size).size; omega)
  simp only [Act.put, List.getElem_toArray, List.getElem_cons_succ, List.getElem_cons_zero, List.setIfInBounds_toArray, List.set_cons_zero, List.set_cons_succ]
  clear b7 hx8 r6 b24 CF HC HX
  have hS := HS.out
  have h5 := hE5'
  generalize nameP 5 = Z at *
  go_upto_region 11 with (fail)
  have CF := Lib.hid fun (y : World) (hy : Old y9 y) => trivial
  (refine wp_region_plain (Old y9) 27 (Below.refl _ y9) ?_; simp only [List.take_succ_cons, List.take_zero, List.drop_succ_cons, List.drop_zero])
  iterate 25 (first | (apply Text.sees (hw := by kernel_rfl); (focus (intro x hx K hK; have hc := CF.out x hx; go_simp; exact hK)); simp only [Act.put, List.getElem_toArray, List.getElem_cons_succ, List.getElem_cons_zero, List.setIfInBounds_toArray, List.set_cons_zero, List.set_cons_succ]) | (apply Text.idle; (focus (intro x hx K hK; go_simp; exact hK)); simp only [Act.put, List.getElem_toArray, List.getElem_cons_succ, List.getElem_cons_zero, List.setIfInBounds_toArray, List.set_cons_zero, List.set_cons_succ]))
  (refine Text.call (Old.call fun x hx => awake17 x) (by kernel_rfl) (fun _ => by kernel_rfl) ?_; simp only [Act.put, List.getElem_toArray, List.getElem_cons_succ, List.getElem_cons_zero, List.setIfInBounds_toArray, List.set_cons_zero, List.set_cons_succ])
  repeat (first | (apply Text.sees (hw := by kernel_rfl); (focus (intro x hx K hK; have hc := CF.out x hx; go_simp; exact hK)); simp only [Act.put, List.getElem_toArray, List.getElem_cons_succ, List.getElem_cons_zero, List.setIfInBounds_toArray, List.set_cons_zero, List.set_cons_succ]) | (apply Text.idle; (focus (intro x hx K hK; go_simp; exact hK)); simp only [Act.put, List.getElem_toArray, List.getElem_cons_succ, List.getElem_cons_zero, List.setIfInBounds_toArray, List.set_cons_zero, List.set_cons_succ]))
  intro z hz
  go_wp2
  go_ret
  exact ⟨rfl, tstep b25 hz b25.size⟩
set_option maxHeartbeats 4000000 in
theorem cut_w2 (j : J4) (s : S3) (n : Nat) (a : Option Addr) (c : Nat) (ml : List Int) (w : World) (hj : Lists w j s) (fj : Few j) (hl : ml.length ≤ 100) (hr : Row w a c ml) (M : List Int) (hM : M.length ≤ 1000000) (hn : n < M.length) (F : ForC j M true) (J : J4) (S : ByteArray) (N : Nat) (C : RdC (M.take n) n J 2 S N) (hS : (S.toList == [101, 110, 100]) = false) (J2 : J4) (X : RdC (M ++ ml) (M ++ ml).length J2 2 (nameP 5) M.length) (hm : ml.length ≠ 0) :
    Calls Try.prog 5 #[.agg (jobC j s), .int .i64 (n : Int), .slice a ml.length c] w fun e w' => e = .returned (.bool true) ∧ Below w.heap.size w w' := by
  have hd : decide ((100 : Int) < (ml.length : Int)) = false := by simp; omega
  have h0 : decide ((n : Int) < 0) = false := by simp
  have h3 : decide ((M.length : Int) ≤ (n : Int)) = false := by simp; omega
  have hm0 : ((ml.length : Int) == 0) = false := by simp; simpa using hm
  clear hm
  have HR := Lib.hid hr
  have HC := Lib.hid C
  have HX := Lib.hid X
  have HS := Lib.hid hS
  clear hr C X hS
  have D0 := job_new w j s
  have b0 := tbel1 w (.cells (jobC j s) 31)
  have L0 := hj.carry b0
  have cl := fun y (hy : Old (w.alloc (.cells (jobC j s) 31)) y) => large_is j s y (L0.carry hy)
  rw [isB_no (not_not_intro fj)] at cl
  have CF := Lib.hid fun (y : World) (hy : Old (w.alloc (.cells (jobC j s) 31)) y) => trivial
  clear hj fj
  go_enter Try.func5, Try.ntmps5
  go_upto_region 1 with (fail)
  change Code.wp _ _ _ _ (w.alloc (.cells (jobC j s) 31))
  generalize w.alloc _ = U at *
  (refine wp_region_plain (Old U) 6 (Below.refl _ U) ?_; simp only [List.take_succ_cons, List.take_zero, List.drop_succ_cons, List.drop_zero])
  (refine Text.val (fun x hx => load_job (.tmp 3) rfl rfl (D0.old hx)) (by kernel_rfl) ?_; simp only [Act.put, List.getElem_toArray, List.getElem_cons_succ, List.getElem_cons_zero, List.setIfInBounds_toArray, List.set_cons_zero, List.set_cons_succ])
  (refine Text.call (Old.call fun x hx => cl x hx) (by kernel_rfl) (fun _ => by kernel_rfl) ?_; simp only [Act.put, List.getElem_toArray, List.getElem_cons_succ, List.getElem_cons_zero, List.setIfInBounds_toArray, List.set_cons_zero, List.set_cons_succ])
  repeat (first | (apply Text.sees (hw := by kernel_rfl); (focus (intro x hx K hK; have hc := CF.out x hx; go_simp; exact hK)); simp only [Act.put, List.getElem_toArray, List.getElem_cons_succ, List.getElem_cons_zero, List.setIfInBounds_toArray, List.set_cons_zero, List.set_cons_succ]) | (apply Text.idle; (focus (intro x hx K hK; go_simp; exact hK)); simp only [Act.put, List.getElem_toArray, List.getElem_cons_succ, List.getElem_cons_zero, List.setIfInBounds_toArray, List.set_cons_zero, List.set_cons_succ]))
  intro x0 hx0
  go_upto_region 3 with (fail)
  (refine wp_region_plain (Old x0) 1 (Below.refl _ x0) ?_; simp only [List.take_succ_cons, List.take_zero, List.drop_succ_cons, List.drop_zero])
  (refine Text.val (fun x hx => load_job (.tmp 3) rfl rfl ((D0.old hx0).old hx)) (by kernel_rfl) ?_; simp only [Act.put, List.getElem_toArray, List.getElem_cons_succ, List.getElem_cons_zero, List.setIfInBounds_toArray, List.set_cons_zero, List.set_cons_succ])
  intro x hx
  have hx1 := tstep hx0 hx hx0.size
  refine wpl_call (V := fun v y => ∃ a c, v = .tuple #[.slice a M.length c, .bool true] ∧ Row y a c M ∧ Below x.heap.size x y) rfl (by kernel_rfl) ((F.c13 s x (L0.carry hx1)).mono fun e y hh => by obtain ⟨a, c, h1, h2⟩ := hh; exact ⟨_, h1, a, c, rfl, h2⟩) ?_
  rintro v y1 ⟨a1, c1, rfl, Rw, b1⟩
  have hx2 := tstep hx1 b1 hx1.size
  have b20 := tstep b0 hx2 b0.size
  simp only [Act.put, List.getElem_toArray, List.getElem_cons_succ, List.getElem_cons_zero, List.setIfInBounds_toArray, List.set_cons_zero, List.set_cons_succ]
  clear hx hx0 hx1 b1 CF cl D0 L0 F hx2 b0
  obtain ⟨a', c', hcut, hrc⟩ := cut_to a1 c1 M.length M n (by omega) y1 Rw
  go_upto_region 6 with (fail)
  have CF := Lib.hid fun (y : World) (hy : Old y1 y) => trivial
  (refine wp_region_plain (Old y1) 3 (Below.refl _ y1) ?_; simp only [List.take_succ_cons, List.take_zero, List.drop_succ_cons, List.drop_zero])
  iterate 3 (first | (apply Text.sees (hw := by kernel_rfl); (focus (intro x hx K hK; have hc := CF.out x hx; go_simp; exact hK)); simp only [Act.put, List.getElem_toArray, List.getElem_cons_succ, List.getElem_cons_zero, List.setIfInBounds_toArray, List.set_cons_zero, List.set_cons_succ]) | (apply Text.idle; (focus (intro x hx K hK; go_simp; exact hK)); simp only [Act.put, List.getElem_toArray, List.getElem_cons_succ, List.getElem_cons_zero, List.setIfInBounds_toArray, List.set_cons_zero, List.set_cons_succ]))
  intro x3 hx3
  refine wpl_call (V := fun v y => ∃ s, v = .tuple #[.agg (jobC J s), .int .i64 2] ∧ Lists y J s ∧ Below x3.heap.size x3 y) rfl (by kernel_rfl) ((HC.out.c7 a' c' x3 (hrc.carry hx3)).mono fun e y hh => by obtain ⟨s, h1, h2⟩ := hh; exact ⟨_, h1, s, rfl, h2⟩) ?_
  rintro v y2 ⟨t, rfl, _, b3⟩
  refine wpl_step (w' := y2) (v := .tuple #[.agg (jobC J t), .int .i64 2]) rfl (by kernel_rfl) ?_
  refine wpl_step (w' := y2) (v := .agg (jobC J t)) rfl (by kernel_rfl) ?_
  refine wpl_step (w' := y2) (v := .int .i64 2) rfl (by kernel_rfl) ?_
  refine make_job (j := J) (s := t) rfl rfl rfl (.tmp 9) (.tmp 49) rfl rfl (by kernel_rfl) ?_
  have b4 := tbel1 y2 (.cells (jobC J t) 31)
  have b5 := tstep hx3 b3 hx3.size
  have b6 := tstep b5 b4 b5.size
  have Rw6 := Rw.carry b6
  have hrc6 := hrc.carry b6
  have b21 := tstep b20 b6 b20.size
  simp only [Act.put, List.getElem_toArray, List.getElem_cons_succ, List.getElem_cons_zero, List.setIfInBounds_toArray, List.set_cons_zero, List.set_cons_succ]
  clear b3 b4 b5 b6 hx3 Rw hrc b20 CF
  go_upto_region 7 with (fail)
  generalize y2.alloc _ = V at *
  generalize y2.heap.size = d at *
  have CF := Lib.hid fun (y : World) (hy : Old V y) => trivial
  (refine wp_region_plain (Old V) 3 (Below.refl _ V) ?_; simp only [List.take_succ_cons, List.take_zero, List.drop_succ_cons, List.drop_zero])
  iterate 3 (first | (apply Text.sees (hw := by kernel_rfl); (focus (intro x hx K hK; have hc := CF.out x hx; go_simp; exact hK)); simp only [Act.put, List.getElem_toArray, List.getElem_cons_succ, List.getElem_cons_zero, List.setIfInBounds_toArray, List.set_cons_zero, List.set_cons_succ]) | (apply Text.idle; (focus (intro x hx K hK; go_simp; exact hK)); simp only [Act.put, List.getElem_toArray, List.getElem_cons_succ, List.getElem_cons_zero, List.setIfInBounds_toArray, List.set_cons_zero, List.set_cons_succ]))
  intro x4 hx4
  refine wpl_call (V := fun v y => v = .tuple #[.string S, .int .i64 N] ∧ Below x4.heap.size x4 y) rfl (by kernel_rfl) ((HC.out.c8 a' c' x4 (hrc6.carry hx4)).mono fun e y hh => ⟨_, hh.1, rfl, hh.2⟩) ?_
  rintro v y5 ⟨rfl, b7⟩
  have b8 := tstep hx4 b7 hx4.size
  have b22 := tstep b21 b8 b21.size
  have Rw8 := Rw6.carry b8
  simp only [Act.put, List.getElem_toArray, List.getElem_cons_succ, List.getElem_cons_zero, List.setIfInBounds_toArray, List.set_cons_zero, List.set_cons_succ]
  clear b7 b8 hx4 Rw6 hrc6 b21 CF hcut
  go_upto_region 8 with (fail)
  have o1 := own_zero y5 y5.heap.size (Nat.le_refl _)
  have bz := bel1 y5 (.cells #[] 5)
  have RM := Rw8.carry bz
  have hMl : M.length + ml.length ≤ 1000100 := by omega
  go_upto_region 9 with (first
    | (at_builtin; refine wpList_app rfl (.tmp 58) (.tmp 59) rfl rfl o1 rfl RM (by simp; omega) bz (by simp) ?_; intro v2 w2 o2 b2)
    | (at_builtin; refine wpList_app rfl (.tmp 60) (.tmp 61) rfl rfl o2 rfl (HR.out.carry (tstep b22 b2 b22.size)) (by simp; omega) b2 b2.size ?_; intro v3 w3 o3 b3))
  rw [List.nil_append] at o3
  obtain ⟨L, hL⟩ : ∃ L, L = M ++ ml := ⟨_, rfl⟩
  rw [← hL] at o3 HX
  obtain ⟨a3, c3, rfl, r3⟩ := own_row o3
  have b23 := tstep b22 b3 b22.size
  clear o1 o2 o3 bz RM Rw8 b2 b3 b22 hL
  have CF := Lib.hid fun (y : World) (hy : Old w3 y) => trivial
  (refine wp_region_plain (Old w3) 1 (Below.refl _ w3) ?_; simp only [List.take_succ_cons, List.take_zero, List.drop_succ_cons, List.drop_zero])
  repeat (first | (apply Text.sees (hw := by kernel_rfl); (focus (intro x hx K hK; have hc := CF.out x hx; go_simp; exact hK)); simp only [Act.put, List.getElem_toArray, List.getElem_cons_succ, List.getElem_cons_zero, List.setIfInBounds_toArray, List.set_cons_zero, List.set_cons_succ]) | (apply Text.idle; (focus (intro x hx K hK; go_simp; exact hK)); simp only [Act.put, List.getElem_toArray, List.getElem_cons_succ, List.getElem_cons_zero, List.setIfInBounds_toArray, List.set_cons_zero, List.set_cons_succ]))
  intro x6 hx6
  refine wpl_call (V := fun v y => ∃ s, v = .tuple #[.agg (jobC J2 s), .int .i64 2] ∧ Lists y J2 s ∧ Below x6.heap.size x6 y) rfl (by kernel_rfl) ((HX.out.c7 a3 c3 x6 (r3.carry hx6)).mono fun e y hh => by obtain ⟨s, h1, h2⟩ := hh; exact ⟨_, h1, s, rfl, h2⟩) ?_
  rintro v y7 ⟨u, rfl, _, b3⟩
  refine wpl_step (w' := y7) (v := .tuple #[.agg (jobC J2 u), .int .i64 2]) rfl (by kernel_rfl) ?_
  refine wpl_step (w' := y7) (v := .agg (jobC J2 u)) rfl (by kernel_rfl) ?_
  refine wpl_step (w' := y7) (v := .int .i64 2) rfl (by kernel_rfl) ?_
  refine make_job (j := J2) (s := u) rfl rfl rfl (.tmp 14) (.tmp 66) rfl rfl (by kernel_rfl) ?_
  have b4 := tbel1 y7 (.cells (jobC J2 u) 31)
  have b5 := tstep hx6 b3 hx6.size
  have b6 := tstep b5 b4 b5.size
  have r6 := r3.carry b6
  have b24 := tstep b23 b6 b23.size
  simp only [Act.put, List.getElem_toArray, List.getElem_cons_succ, List.getElem_cons_zero, List.setIfInBounds_toArray, List.set_cons_zero, List.set_cons_succ]
  clear b3 b4 b5 b6 hx6 r3 b23 CF
  go_upto_region 10 with (fail)
  generalize y7.alloc _ = V2 at *
  generalize y7.heap.size = d2 at *
  have CF := Lib.hid fun (y : World) (hy : Old V2 y) => trivial
  (refine wp_region_plain (Old V2) 1 (Below.refl _ V2) ?_; simp only [List.take_succ_cons, List.take_zero, List.drop_succ_cons, List.drop_zero])
  repeat (first | (apply Text.sees (hw := by kernel_rfl); (focus (intro x hx K hK; have hc := CF.out x hx; go_simp; exact hK)); simp only [Act.put, List.getElem_toArray, List.getElem_cons_succ, List.getElem_cons_zero, List.setIfInBounds_toArray, List.set_cons_zero, List.set_cons_succ]) | (apply Text.idle; (focus (intro x hx K hK; go_simp; exact hK)); simp only [Act.put, List.getElem_toArray, List.getElem_cons_succ, List.getElem_cons_zero, List.setIfInBounds_toArray, List.set_cons_zero, List.set_cons_succ]))
  intro x8 hx8
  refine wpl_call (V := fun v y => v = .tuple #[.string (nameP 5), .int .i64 M.length] ∧ Below x8.heap.size x8 y) rfl (by kernel_rfl) ((HX.out.c8 a3 c3 x8 (r6.carry hx8)).mono fun e y hh => ⟨_, hh.1, rfl, hh.2⟩) ?_
  rintro v y9 ⟨rfl, b7⟩
  have b25 := tstep (tstep b24 hx8 b24.size) b7 (by have := (tstep b24 hx8 b24.size).size; omega)
  simp only [Act.put, List.getElem_toArray, List.getElem_cons_succ, List.getElem_cons_zero, List.setIfInBounds_toArray, List.set_cons_zero, List.set_cons_succ]
  clear b7 hx8 r6 b24 CF HC HX
  have hS := HS.out
  have h5 := hE5'
  generalize nameP 5 = Z at *
  go_upto_region 11 with (fail)
  have CF := Lib.hid fun (y : World) (hy : Old y9 y) => trivial
  (refine wp_region_plain (Old y9) 27 (Below.refl _ y9) ?_; simp only [List.take_succ_cons, List.take_zero, List.drop_succ_cons, List.drop_zero])
  iterate 25 (first | (apply Text.sees (hw := by kernel_rfl); (focus (intro x hx K hK; have hc := CF.out x hx; go_simp; exact hK)); simp only [Act.put, List.getElem_toArray, List.getElem_cons_succ, List.getElem_cons_zero, List.setIfInBounds_toArray, List.set_cons_zero, List.set_cons_succ]) | (apply Text.idle; (focus (intro x hx K hK; go_simp; exact hK)); simp only [Act.put, List.getElem_toArray, List.getElem_cons_succ, List.getElem_cons_zero, List.setIfInBounds_toArray, List.set_cons_zero, List.set_cons_succ]))
  (refine Text.call (Old.call fun x hx => awake17 x) (by kernel_rfl) (fun _ => by kernel_rfl) ?_; simp only [Act.put, List.getElem_toArray, List.getElem_cons_succ, List.getElem_cons_zero, List.setIfInBounds_toArray, List.set_cons_zero, List.set_cons_succ])
  repeat (first | (apply Text.sees (hw := by kernel_rfl); (focus (intro x hx K hK; have hc := CF.out x hx; go_simp; exact hK)); simp only [Act.put, List.getElem_toArray, List.getElem_cons_succ, List.getElem_cons_zero, List.setIfInBounds_toArray, List.set_cons_zero, List.set_cons_succ]) | (apply Text.idle; (focus (intro x hx K hK; go_simp; exact hK)); simp only [Act.put, List.getElem_toArray, List.getElem_cons_succ, List.getElem_cons_zero, List.setIfInBounds_toArray, List.set_cons_zero, List.set_cons_succ]))
  intro z hz
  go_wp2
  go_ret
  exact ⟨rfl, tstep b25 hz b25.size⟩
theorem cut_few (j : J4) (s : S3) (n : Int) (hn0 : 0 ≤ n) (a : Option Addr) (c : Nat) (ml : List Int) (w : World) (hj : Lists w j s) (fj : Few j) (hl : ml.length ≤ 100) (hB : Byt ml) (hr : Row w a c ml) (hb : ∀ x ∈ j.items, bareI x) (hn : n < (jobE j).length) (hM : (jobE j).length ≤ 900000) (F : ForC j (jobE j) true) :
    Calls Try.prog 5 #[.agg (jobC j s), .int .i64 n, .slice a ml.length c] w fun e w' => e = .returned (.bool true) ∧ Below w.heap.size w w' := by
  obtain ⟨k, rfl⟩ := Int.eq_ofNat_of_zero_le hn0
  have ho := lists_ok hj fj hb
  obtain ⟨J, S, N, C, hS⟩ := cut_c ho (by omega) (show k < (jobE j).length by omega)
  obtain ⟨J2, E, X, hE⟩ := all_c ho ml hB (by rw [List.length_append]; omega)
  rcases hE with ⟨rfl, h⟩ | ⟨rfl, h⟩
  · exact cut_w1 j s k a c ml w hj fj hl hr _ (by omega) (by omega) F J S N C hS J2 X h
  · exact cut_w2 j s k a c ml w hj fj hl hr _ (by omega) (by omega) F J S N C hS J2 X h
theorem decodeCut_walk (j : J4) (s : S3) (n : Int) (hn : (Lit.int .i64 n).wf = true) (a : Option Addr) (len cap : Nat) (zs : List Int) (w : World) (hj : Lists w j s) (h : IsRow .u8 w a len cap zs) :
    Calls Try.prog 5 #[.agg (jobC j s), .int .i64 n, .slice a len cap] w fun e w' => e = .returned (.bool true) ∧ Below w.heap.size w w' := by
  have h' : IsRowV .u8 w a len cap zs := h
  by_cases fj : Few j
  · rcases Nat.lt_or_ge 100 len with hl | hl
    · exact cut_many j s n a len cap w hj h'.le (.inr hl)
    · obtain ⟨l, rfl, hr, hB⟩ := h'.row
      have F := for_c j s w hj fj
      by_cases hb : ∀ x ∈ j.items, bareI x
      · have hE : jobB j = jobE j := by
          unfold jobB
          rw [isB_yes hb, cond_true]
        rw [isB_yes hb, hE] at F
        have hlen : (jobE j).length ≤ 900000 := by
          obtain ⟨h1, h2, h3, h4, h5, h6, h7⟩ := jobs_len hj (fj.mid hj) hb
          unfold jobE
          simp only [List.length_append]
          simp only [List.length_cons, List.length_nil]
          omega
        rcases Int.lt_or_le n 0 with h0 | h0
        · exact cut_o2 j s n a _ cap w hj fj hl _ (by omega) F h0
        · rcases Int.lt_or_le n (jobE j).length with h1 | h1
          · exact cut_few j s n h0 a cap l w hj fj hl hB hr hb h1 hlen F
          · exact cut_o3 j s n a _ cap w hj fj hl _ (by omega) F h0 h1
      · rw [isB_no hb] at F
        have hE : jobB j = [] := by
          unfold jobB
          rw [isB_no hb, cond_false]
        rw [hE] at F
        exact cut_o1 j s n a _ cap w hj fj hl _ (by simp) F
  · exact cut_many j s n a len cap w hj h'.le (.inl fj)
end Go.Proofs.Ytjfjekncmejfpaa
