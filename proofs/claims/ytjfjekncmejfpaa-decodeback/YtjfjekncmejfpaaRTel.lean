/- DecodeReads: the walk of the law. -/
import Derived.Test.YtjfjekncmejfpaaRAw
import Derived.Test.YtjfjekncmejfpaaFMix
import Derived.Test.YtjfjekncmejfpaaVRget
namespace Go.Proofs.Ytjfjekncmejfpaa
open Go.RowKit
set_option maxRecDepth 20000
set_option linter.unusedVariables false
set_option linter.unusedSimpArgs false

theorem beg_short {bs : List Int} (h : bs.length ≤ 3) : begB bs = false := by
  unfold begB markR
  have h4 : magicS.size = 4 := rfl
  rw [if_pos (.inr (.inl (by rw [h4]; omega)))]
  rfl
theorem beg_long {bs : List Int} (h : 4 ≤ bs.length) (hB : Byt bs) : ((strOf (bs.take 4)).toList == [84, 89, 77, 49]) = begB bs := by
  have hT : Byt (bs.take 4) := hB.take 4
  have hm : magicS.toList = [84, 89, 77, 49] := by
    rw [ByteArray.toList_eq]
    rfl
  unfold begB markR
  have h4 : magicS.size = 4 := rfl
  by_cases e : bs.take 4 = bytesOf magicS
  · rw [if_neg (fun h1 => h1.elim (fun h => by cases h) (fun h1 => h1.elim (fun h => by rw [h4] at h; omega) (fun h => h (by rw [h4, List.drop_zero]; exact e)))), (str_eq _ hT _).2 e, hm]
    rfl
  · rw [if_pos (.inr (.inr (by rw [h4, List.drop_zero]; exact e)))]
    have := toList_ne (fun e2 => e ((str_eq _ hT _).1 e2))
    rw [hm] at this
    rw [this]
    rfl
section
variable {w x : World} {b : Nat} {j : J4} {s : S3} {ok : Bool} {part : ByteArray} {q : Int}
theorem AnsAt.old (H : AnsAt w b j s ok part q) (hx : Old w x) : AnsAt x b j s ok part q := Blk.old H hx
theorem AnsAt.three (H : AnsAt w b j s ok part q) : w.cell? ⟨b, 22, none⟩ = some (.bool ok) ∧ w.cell? ⟨b, 23, none⟩ = some (.string part) ∧ w.cell? ⟨b, 24, none⟩ = some (.int .i64 q) := by
  have e : ∀ i, w.cell? ⟨b, i, none⟩ = (ansL j s ok part q)[i]? := fun i => (Blk.cell H i).trans (by unfold ansC; simp)
  exact ⟨(e 22).trans rfl, (e 23).trans rfl, (e 24).trans rfl⟩
theorem AnsAt.range (H : AnsAt w b j s ok part q) : w.rangeAt b 0 (jobC j s).toList := fun i v hv => by
  have e : w.cell? ⟨b, 0 + i, none⟩ = (ansL j s ok part q)[i]? := by
    rw [Nat.zero_add]
    exact (Blk.cell H i).trans (by unfold ansC; simp)
  rw [e, ans_job, List.getElem?_append_left (List.getElem?_eq_some_iff.1 hv).1]
  exact hv
theorem load_ajob {o : Oper} {a : Act} (x : Operand) (ho : o.op = .load 31 x) (hx : a.eval x = .pointer (some ⟨b, 0, none⟩)) (H : AnsAt w b j s ok part q) :
    (execOp a.eval o).run Try.prog w = .ok (.value (.agg (jobC j s))) w := by
  have e := run_loadAt_mid (P := Try.prog) w b 0 31 (jobC j s).toList _ H.range Try.underlying31 rfl info29
  unfold execOp
  simp only [ho, hx, Sem.run_bind, Sem.run_pure, Result.andThen_ok, e, Array.toArray_toList]
end
theorem exec_alloc38 {o : Oper} {a : Act} (ho : o.op = .alloc 38) (w : World) : (execOp a.eval o).run Try.prog w = .ok (.value (.pointer (some ⟨w.heap.size, 0, none⟩))) (w.alloc (.cells (ansC zeroJ zeroS4 false ⟨#[]⟩ 0) 38)) := by
  unfold execOp
  simp only [ho]
  simp [go_sem, newVar, ansC, ansL, zeroJ, zeroG4, zeroS4]
/-- A new variable that holds an answer. -/
theorem make_ans {ops : Array Oper} {rest : List Oper} {o p : Oper} {a : Act} {w : World} {Q : Exit → Act → World → Prop} {j : J4} {s : S3} {ok : Bool} {part : ByteArray} {q : Int} (hgd : o.guard = none) (ho : o.op = .alloc 38) (hgp : p.guard = none) (x y : Operand) (hp : p.op = .store 38 x y)
    (hx : (a.put o.dst (.pointer (some ⟨w.heap.size, 0, none⟩))).eval x = .pointer (some ⟨w.heap.size, 0, none⟩)) (hy : (a.put o.dst (.pointer (some ⟨w.heap.size, 0, none⟩))).eval y = .agg (ansC j s ok part q))
    (hk : wpList Try.prog ops Q rest ((a.put o.dst (.pointer (some ⟨w.heap.size, 0, none⟩))).put p.dst undef) (w.alloc (.cells (ansC j s ok part q) 38))) : wpList Try.prog ops Q (o :: p :: rest) a w := by
  refine wpl_step hgd (exec_alloc38 ho w) ?_
  refine wpList_store_row hgp 38 x y hp w.heap.size (ansC j s ok part q) hx hy 38 _ (blk_new w (ansC zeroJ zeroS4 false ⟨#[]⟩ 0) 38) info38 (by rw [ansC_size, ansC_size]) (ans_one _ _ _ _ _) ?_
  rw [World.setRow_alloc_new]
  exact hk
theorem reads_long (a : Option Addr) (len cap : Nat) (w : World) (h : 2000 < len) (hm : len ≤ 9223372036854775807) :
    Calls Try.prog 3 #[.slice a len cap] w fun e w' => e = .returned (.bool true) ∧ Below w.heap.size w w' := by
  go_enter Try.func3, Try.ntmps3
  go_wp2_with (go_at_call 6; refine (awake17 _).mono ?_; rintro e w1 ⟨rfl, b1⟩)
  go_ret
  exact ⟨rfl, b1⟩
/-- What the law's calls answer. -/
structure TelC (bs : List Int) (a : Option Addr) (c : Nat) (J : J4) (E : Int) (K : Bool) (S : ByteArray) (A : Nat) (G : Bool) : Prop where
  c7 : ∀ y, Row y a c bs → Calls Try.prog 7 #[.slice a bs.length c] y fun e w' => ∃ s, e = .returned (.tuple #[.agg (jobC J s), .int .i64 E]) ∧ Lists w' J s ∧ Below y.heap.size y w'
  c8 : ∀ y, Row y a c bs → Calls Try.prog 8 #[.slice a bs.length c] y fun e w' => e = .returned (.tuple #[.string S, .int .i64 A]) ∧ Below y.heap.size y w'
  c9 : ∀ y, Row y a c bs → Calls Try.prog 9 #[.slice a bs.length c] y fun e w' => ∃ s, e = .returned (.agg (ansC J s K S A)) ∧ Lists w' J s ∧ Below y.heap.size y w'
  c11 : ∀ y, Row y a c bs → Calls Try.prog 11 #[.slice a bs.length c] y fun e w' => e = .returned (.bool G) ∧ Below y.heap.size y w'
  c10 : ∀ (s t : S3) y, Lists y J s → Lists y J t → Calls Try.prog 10 #[.agg (jobC J s), .agg (jobC J t)] y fun e w' => e = .returned (.bool true) ∧ Below y.heap.size y w'

set_option maxHeartbeats 4000000 in
theorem reads_w1 (a : Option Addr) (c : Nat) (bs : List Int) (w : World) (hl : bs.length ≤ 2000) (hB : Byt bs) (hr : Row w a c bs) (J : J4) (S : ByteArray) (A : Nat) (C : TelC bs a c J 0 true S A false) (h3 : bs.length ≤ 3) :
    Calls Try.prog 3 #[.slice a bs.length c] w fun e w' => e = .returned (.bool true) ∧ Below w.heap.size w w' := by
  have hl2 : decide ((2000 : Int) < (bs.length : Int)) = false := by simp; omega
  have HR := Lib.hid hr
  have HC := Lib.hid C
  have hl3 : decide ((3 : Int) < (bs.length : Int)) = false := by simp; omega
  clear hr hB C
  go_enter Try.func3, Try.ntmps3
  go_upto_region 3 with (fail)
  have CF := Lib.hid fun (y : World) (hy : Old w y) => trivial
  (refine wp_region_plain (Old w) 1 (Below.refl _ w) ?_; simp only [List.take_succ_cons, List.take_zero, List.drop_succ_cons, List.drop_zero])
  repeat (first | (apply Text.sees (hw := by kernel_rfl); (focus (intro x hx K hK; have hc := CF.out x hx; go_simp; exact hK)); simp only [Act.put, List.getElem_toArray, List.getElem_cons_succ, List.getElem_cons_zero, List.setIfInBounds_toArray, List.set_cons_zero, List.set_cons_succ]) | (apply Text.idle; (focus (intro x hx K hK; go_simp; exact hK)); simp only [Act.put, List.getElem_toArray, List.getElem_cons_succ, List.getElem_cons_zero, List.setIfInBounds_toArray, List.set_cons_zero, List.set_cons_succ]))
  intro x hx
  refine wpl_call (V := fun v y => ∃ s, v = .tuple #[.agg (jobC J s), .int .i64 0] ∧ Lists y J s ∧ Below x.heap.size x y) rfl (by kernel_rfl) ((HC.out.c7 x (HR.out.carry hx)).mono fun e y hh => by obtain ⟨s, h1, h2⟩ := hh; exact ⟨_, h1, s, rfl, h2⟩) ?_
  rintro v y ⟨s, rfl, L1, b3⟩
  refine wpl_step (w' := y) (v := .tuple #[.agg (jobC J s), .int .i64 0]) rfl (by kernel_rfl) ?_
  refine wpl_step (w' := y) (v := .agg (jobC J s)) rfl (by kernel_rfl) ?_
  refine wpl_step (w' := y) (v := .int .i64 0) rfl (by kernel_rfl) ?_
  refine make_job (j := J) (s := s) rfl rfl rfl (.tmp 3) (.tmp 16) rfl rfl (by kernel_rfl) ?_
  have J3 := job_new y J s
  have b4 := tbel1 y (.cells (jobC J s) 31)
  have b5 := tstep hx b3 hx.size
  have b6 := tstep b5 b4 b5.size
  have L3 := L1.carry b4
  simp only [Act.put, List.getElem_toArray, List.getElem_cons_succ, List.getElem_cons_zero, List.setIfInBounds_toArray, List.set_cons_zero, List.set_cons_succ]
  clear L1 b3 b4 b5 hx CF
  go_upto_region 4 with (fail)
  generalize y.alloc _ = V at *
  generalize y.heap.size = b at *
  go_wp2_with fail
  refine (HC.out.c8 V (HR.out.carry b6)).mono ?_
  rintro e w4 ⟨rfl, b8⟩
  have J4' := J3.old b8
  have L4 := L3.carry b8
  have b9 := tstep b6 b8 b6.size
  clear J3 L3 b6 b8
  go_upto_region 5 with (fail)
  have CF := Lib.hid fun (y : World) (hy : Old w4 y) => trivial
  (refine wp_region_plain (Old w4) 1 (Below.refl _ w4) ?_; simp only [List.take_succ_cons, List.take_zero, List.drop_succ_cons, List.drop_zero])
  repeat (first | (apply Text.sees (hw := by kernel_rfl); (focus (intro x hx K hK; have hc := CF.out x hx; go_simp; exact hK)); simp only [Act.put, List.getElem_toArray, List.getElem_cons_succ, List.getElem_cons_zero, List.setIfInBounds_toArray, List.set_cons_zero, List.set_cons_succ]) | (apply Text.idle; (focus (intro x hx K hK; go_simp; exact hK)); simp only [Act.put, List.getElem_toArray, List.getElem_cons_succ, List.getElem_cons_zero, List.setIfInBounds_toArray, List.set_cons_zero, List.set_cons_succ]))
  intro x2 hx2
  refine wpl_call (V := fun v y => ∃ s, v = .agg (ansC J s true S A) ∧ Lists y J s ∧ Below x2.heap.size x2 y) rfl (by kernel_rfl) ((HC.out.c9 x2 (HR.out.carry (tstep b9 hx2 b9.size))).mono fun e y hh => by obtain ⟨s, h1, h2⟩ := hh; exact ⟨_, h1, s, rfl, h2⟩) ?_
  rintro v y2 ⟨t, rfl, L5, b10⟩
  refine make_ans (j := J) (s := t) (ok := true) (part := S) (q := A) rfl rfl rfl (.tmp 7) (.tmp 24) rfl rfl (by kernel_rfl) ?_
  have A3 : AnsAt (y2.alloc (.cells (ansC J t true S A) 38)) y2.heap.size J t true S A := blk_new y2 _ 38
  have b11 := tbel1 y2 (.cells (ansC J t true S A) 38)
  have b12 := tstep (tstep hx2 b10 hx2.size) b11 (by have := (tstep hx2 b10 hx2.size).size; omega)
  have L6 := L5.carry b11
  have L7 := L4.carry b12
  have J7 := J4'.old b12
  have b13 := tstep b9 b12 b9.size
  simp only [Act.put, List.getElem_toArray, List.getElem_cons_succ, List.getElem_cons_zero, List.setIfInBounds_toArray, List.set_cons_zero, List.set_cons_succ]
  clear L5 L4 J4' b9 b10 b11 b12 hx2 CF
  go_upto_region 6 with (fail)
  generalize y2.alloc _ = U at *
  generalize y2.heap.size = d at *
  go_upto_region 7 with (fail)
  have hU : Old U U := Below.refl _ U
  obtain ⟨U', hU'⟩ : ∃ U', U' = U := ⟨_, rfl⟩
  have CE := Lib.hid fun y (hy : Old U y) => (A3.old hy).three
  have c10 := fun y (hy : Old U y) => HC.out.c10 s t y (L7.carry hy) (L6.carry hy)
  have c11 := fun y (hy : Old U y) => HC.out.c11 y (HR.out.carry (tstep b13 hy b13.size))
  have JH := Lib.hid fun y (hy : Old U y) => J7.old hy
  have AH := Lib.hid fun y (hy : Old U y) => A3.old hy
  clear L6 L7 J7 A3
  (refine wp_region_plain (Old U) 40 (Below.refl _ U) ?_; simp only [List.take_succ_cons, List.take_zero, List.drop_succ_cons, List.drop_zero])
  iterate 14 (first | (apply Text.sees (hw := by kernel_rfl); (focus (intro x hx K hK; have hc := CE.out x hx; go_simp; exact hK)); simp only [Act.put, List.getElem_toArray, List.getElem_cons_succ, List.getElem_cons_zero, List.setIfInBounds_toArray, List.set_cons_zero, List.set_cons_succ]) | (apply Text.idle; (focus (intro x hx K hK; go_simp; exact hK)); simp only [Act.put, List.getElem_toArray, List.getElem_cons_succ, List.getElem_cons_zero, List.setIfInBounds_toArray, List.set_cons_zero, List.set_cons_succ]))
  (refine Text.val (fun x hx => load_job (.tmp 3) rfl rfl (JH.out x hx)) (by kernel_rfl) ?_; simp only [Act.put, List.getElem_toArray, List.getElem_cons_succ, List.getElem_cons_zero, List.setIfInBounds_toArray, List.set_cons_zero, List.set_cons_succ])
  iterate 1 (first | (apply Text.sees (hw := by kernel_rfl); (focus (intro x hx K hK; have hc := CE.out x hx; go_simp; exact hK)); simp only [Act.put, List.getElem_toArray, List.getElem_cons_succ, List.getElem_cons_zero, List.setIfInBounds_toArray, List.set_cons_zero, List.set_cons_succ]) | (apply Text.idle; (focus (intro x hx K hK; go_simp; exact hK)); simp only [Act.put, List.getElem_toArray, List.getElem_cons_succ, List.getElem_cons_zero, List.setIfInBounds_toArray, List.set_cons_zero, List.set_cons_succ]))
  (refine Text.val (fun x hx => load_ajob (.tmp 49) rfl rfl (AH.out x hx)) (by kernel_rfl) ?_; simp only [Act.put, List.getElem_toArray, List.getElem_cons_succ, List.getElem_cons_zero, List.setIfInBounds_toArray, List.set_cons_zero, List.set_cons_succ])
  (refine Text.call (Old.call fun x hx => c10 x hx) (by kernel_rfl) (fun _ => by kernel_rfl) ?_; simp only [Act.put, List.getElem_toArray, List.getElem_cons_succ, List.getElem_cons_zero, List.setIfInBounds_toArray, List.set_cons_zero, List.set_cons_succ])
  iterate 15 (first | (apply Text.sees (hw := by kernel_rfl); (focus (intro x hx K hK; have hc := CE.out x hx; go_simp; exact hK)); simp only [Act.put, List.getElem_toArray, List.getElem_cons_succ, List.getElem_cons_zero, List.setIfInBounds_toArray, List.set_cons_zero, List.set_cons_succ]) | (apply Text.idle; (focus (intro x hx K hK; go_simp; exact hK)); simp only [Act.put, List.getElem_toArray, List.getElem_cons_succ, List.getElem_cons_zero, List.setIfInBounds_toArray, List.set_cons_zero, List.set_cons_succ]))
  (refine Text.call (Old.call fun x hx => c11 x hx) (by kernel_rfl) (fun _ => by kernel_rfl) ?_; simp only [Act.put, List.getElem_toArray, List.getElem_cons_succ, List.getElem_cons_zero, List.setIfInBounds_toArray, List.set_cons_zero, List.set_cons_succ])
  iterate 4 (first | (apply Text.sees (hw := by kernel_rfl); (focus (intro x hx K hK; have hc := CE.out x hx; go_simp; exact hK)); simp only [Act.put, List.getElem_toArray, List.getElem_cons_succ, List.getElem_cons_zero, List.setIfInBounds_toArray, List.set_cons_zero, List.set_cons_succ]) | (apply Text.idle; (focus (intro x hx K hK; go_simp; exact hK)); simp only [Act.put, List.getElem_toArray, List.getElem_cons_succ, List.getElem_cons_zero, List.setIfInBounds_toArray, List.set_cons_zero, List.set_cons_succ]))
  (refine Text.call (Old.call fun x hx => awake17 x) (by kernel_rfl) (fun _ => by kernel_rfl) ?_; simp only [Act.put, List.getElem_toArray, List.getElem_cons_succ, List.getElem_cons_zero, List.setIfInBounds_toArray, List.set_cons_zero, List.set_cons_succ])
  iterate 1 (first | (apply Text.sees (hw := by kernel_rfl); (focus (intro x hx K hK; have hc := CE.out x hx; go_simp; exact hK)); simp only [Act.put, List.getElem_toArray, List.getElem_cons_succ, List.getElem_cons_zero, List.setIfInBounds_toArray, List.set_cons_zero, List.set_cons_succ]) | (apply Text.idle; (focus (intro x hx K hK; go_simp; exact hK)); simp only [Act.put, List.getElem_toArray, List.getElem_cons_succ, List.getElem_cons_zero, List.setIfInBounds_toArray, List.set_cons_zero, List.set_cons_succ]))
  intro z hz
  go_wp2
  go_ret
  exact ⟨rfl, tstep b13 hz b13.size⟩
set_option maxHeartbeats 4000000 in
theorem reads_w2 (a : Option Addr) (c : Nat) (bs : List Int) (w : World) (hl : bs.length ≤ 2000) (hB : Byt bs) (hr : Row w a c bs) (J : J4) (S : ByteArray) (A : Nat) (C : TelC bs a c J 2 false S A false) (h3 : bs.length ≤ 3) :
    Calls Try.prog 3 #[.slice a bs.length c] w fun e w' => e = .returned (.bool true) ∧ Below w.heap.size w w' := by
  have hl2 : decide ((2000 : Int) < (bs.length : Int)) = false := by simp; omega
  have HR := Lib.hid hr
  have HC := Lib.hid C
  have hl3 : decide ((3 : Int) < (bs.length : Int)) = false := by simp; omega
  clear hr hB C
  go_enter Try.func3, Try.ntmps3
  go_upto_region 3 with (fail)
  have CF := Lib.hid fun (y : World) (hy : Old w y) => trivial
  (refine wp_region_plain (Old w) 1 (Below.refl _ w) ?_; simp only [List.take_succ_cons, List.take_zero, List.drop_succ_cons, List.drop_zero])
  repeat (first | (apply Text.sees (hw := by kernel_rfl); (focus (intro x hx K hK; have hc := CF.out x hx; go_simp; exact hK)); simp only [Act.put, List.getElem_toArray, List.getElem_cons_succ, List.getElem_cons_zero, List.setIfInBounds_toArray, List.set_cons_zero, List.set_cons_succ]) | (apply Text.idle; (focus (intro x hx K hK; go_simp; exact hK)); simp only [Act.put, List.getElem_toArray, List.getElem_cons_succ, List.getElem_cons_zero, List.setIfInBounds_toArray, List.set_cons_zero, List.set_cons_succ]))
  intro x hx
  refine wpl_call (V := fun v y => ∃ s, v = .tuple #[.agg (jobC J s), .int .i64 2] ∧ Lists y J s ∧ Below x.heap.size x y) rfl (by kernel_rfl) ((HC.out.c7 x (HR.out.carry hx)).mono fun e y hh => by obtain ⟨s, h1, h2⟩ := hh; exact ⟨_, h1, s, rfl, h2⟩) ?_
  rintro v y ⟨s, rfl, L1, b3⟩
  refine wpl_step (w' := y) (v := .tuple #[.agg (jobC J s), .int .i64 2]) rfl (by kernel_rfl) ?_
  refine wpl_step (w' := y) (v := .agg (jobC J s)) rfl (by kernel_rfl) ?_
  refine wpl_step (w' := y) (v := .int .i64 2) rfl (by kernel_rfl) ?_
  refine make_job (j := J) (s := s) rfl rfl rfl (.tmp 3) (.tmp 16) rfl rfl (by kernel_rfl) ?_
  have J3 := job_new y J s
  have b4 := tbel1 y (.cells (jobC J s) 31)
  have b5 := tstep hx b3 hx.size
  have b6 := tstep b5 b4 b5.size
  have L3 := L1.carry b4
  simp only [Act.put, List.getElem_toArray, List.getElem_cons_succ, List.getElem_cons_zero, List.setIfInBounds_toArray, List.set_cons_zero, List.set_cons_succ]
  clear L1 b3 b4 b5 hx CF
  go_upto_region 4 with (fail)
  generalize y.alloc _ = V at *
  generalize y.heap.size = b at *
  go_wp2_with fail
  refine (HC.out.c8 V (HR.out.carry b6)).mono ?_
  rintro e w4 ⟨rfl, b8⟩
  have J4' := J3.old b8
  have L4 := L3.carry b8
  have b9 := tstep b6 b8 b6.size
  clear J3 L3 b6 b8
  go_upto_region 5 with (fail)
  have CF := Lib.hid fun (y : World) (hy : Old w4 y) => trivial
  (refine wp_region_plain (Old w4) 1 (Below.refl _ w4) ?_; simp only [List.take_succ_cons, List.take_zero, List.drop_succ_cons, List.drop_zero])
  repeat (first | (apply Text.sees (hw := by kernel_rfl); (focus (intro x hx K hK; have hc := CF.out x hx; go_simp; exact hK)); simp only [Act.put, List.getElem_toArray, List.getElem_cons_succ, List.getElem_cons_zero, List.setIfInBounds_toArray, List.set_cons_zero, List.set_cons_succ]) | (apply Text.idle; (focus (intro x hx K hK; go_simp; exact hK)); simp only [Act.put, List.getElem_toArray, List.getElem_cons_succ, List.getElem_cons_zero, List.setIfInBounds_toArray, List.set_cons_zero, List.set_cons_succ]))
  intro x2 hx2
  refine wpl_call (V := fun v y => ∃ s, v = .agg (ansC J s false S A) ∧ Lists y J s ∧ Below x2.heap.size x2 y) rfl (by kernel_rfl) ((HC.out.c9 x2 (HR.out.carry (tstep b9 hx2 b9.size))).mono fun e y hh => by obtain ⟨s, h1, h2⟩ := hh; exact ⟨_, h1, s, rfl, h2⟩) ?_
  rintro v y2 ⟨t, rfl, L5, b10⟩
  refine make_ans (j := J) (s := t) (ok := false) (part := S) (q := A) rfl rfl rfl (.tmp 7) (.tmp 24) rfl rfl (by kernel_rfl) ?_
  have A3 : AnsAt (y2.alloc (.cells (ansC J t false S A) 38)) y2.heap.size J t false S A := blk_new y2 _ 38
  have b11 := tbel1 y2 (.cells (ansC J t false S A) 38)
  have b12 := tstep (tstep hx2 b10 hx2.size) b11 (by have := (tstep hx2 b10 hx2.size).size; omega)
  have L6 := L5.carry b11
  have L7 := L4.carry b12
  have J7 := J4'.old b12
  have b13 := tstep b9 b12 b9.size
  simp only [Act.put, List.getElem_toArray, List.getElem_cons_succ, List.getElem_cons_zero, List.setIfInBounds_toArray, List.set_cons_zero, List.set_cons_succ]
  clear L5 L4 J4' b9 b10 b11 b12 hx2 CF
  go_upto_region 6 with (fail)
  generalize y2.alloc _ = U at *
  generalize y2.heap.size = d at *
  go_upto_region 7 with (fail)
  have hU : Old U U := Below.refl _ U
  obtain ⟨U', hU'⟩ : ∃ U', U' = U := ⟨_, rfl⟩
  have CE := Lib.hid fun y (hy : Old U y) => (A3.old hy).three
  have c10 := fun y (hy : Old U y) => HC.out.c10 s t y (L7.carry hy) (L6.carry hy)
  have c11 := fun y (hy : Old U y) => HC.out.c11 y (HR.out.carry (tstep b13 hy b13.size))
  have JH := Lib.hid fun y (hy : Old U y) => J7.old hy
  have AH := Lib.hid fun y (hy : Old U y) => A3.old hy
  clear L6 L7 J7 A3
  (refine wp_region_plain (Old U) 40 (Below.refl _ U) ?_; simp only [List.take_succ_cons, List.take_zero, List.drop_succ_cons, List.drop_zero])
  iterate 14 (first | (apply Text.sees (hw := by kernel_rfl); (focus (intro x hx K hK; have hc := CE.out x hx; go_simp; exact hK)); simp only [Act.put, List.getElem_toArray, List.getElem_cons_succ, List.getElem_cons_zero, List.setIfInBounds_toArray, List.set_cons_zero, List.set_cons_succ]) | (apply Text.idle; (focus (intro x hx K hK; go_simp; exact hK)); simp only [Act.put, List.getElem_toArray, List.getElem_cons_succ, List.getElem_cons_zero, List.setIfInBounds_toArray, List.set_cons_zero, List.set_cons_succ]))
  (refine Text.val (fun x hx => load_job (.tmp 3) rfl rfl (JH.out x hx)) (by kernel_rfl) ?_; simp only [Act.put, List.getElem_toArray, List.getElem_cons_succ, List.getElem_cons_zero, List.setIfInBounds_toArray, List.set_cons_zero, List.set_cons_succ])
  iterate 1 (first | (apply Text.sees (hw := by kernel_rfl); (focus (intro x hx K hK; have hc := CE.out x hx; go_simp; exact hK)); simp only [Act.put, List.getElem_toArray, List.getElem_cons_succ, List.getElem_cons_zero, List.setIfInBounds_toArray, List.set_cons_zero, List.set_cons_succ]) | (apply Text.idle; (focus (intro x hx K hK; go_simp; exact hK)); simp only [Act.put, List.getElem_toArray, List.getElem_cons_succ, List.getElem_cons_zero, List.setIfInBounds_toArray, List.set_cons_zero, List.set_cons_succ]))
  (refine Text.val (fun x hx => load_ajob (.tmp 49) rfl rfl (AH.out x hx)) (by kernel_rfl) ?_; simp only [Act.put, List.getElem_toArray, List.getElem_cons_succ, List.getElem_cons_zero, List.setIfInBounds_toArray, List.set_cons_zero, List.set_cons_succ])
  (refine Text.call (Old.call fun x hx => c10 x hx) (by kernel_rfl) (fun _ => by kernel_rfl) ?_; simp only [Act.put, List.getElem_toArray, List.getElem_cons_succ, List.getElem_cons_zero, List.setIfInBounds_toArray, List.set_cons_zero, List.set_cons_succ])
  iterate 15 (first | (apply Text.sees (hw := by kernel_rfl); (focus (intro x hx K hK; have hc := CE.out x hx; go_simp; exact hK)); simp only [Act.put, List.getElem_toArray, List.getElem_cons_succ, List.getElem_cons_zero, List.setIfInBounds_toArray, List.set_cons_zero, List.set_cons_succ]) | (apply Text.idle; (focus (intro x hx K hK; go_simp; exact hK)); simp only [Act.put, List.getElem_toArray, List.getElem_cons_succ, List.getElem_cons_zero, List.setIfInBounds_toArray, List.set_cons_zero, List.set_cons_succ]))
  (refine Text.call (Old.call fun x hx => c11 x hx) (by kernel_rfl) (fun _ => by kernel_rfl) ?_; simp only [Act.put, List.getElem_toArray, List.getElem_cons_succ, List.getElem_cons_zero, List.setIfInBounds_toArray, List.set_cons_zero, List.set_cons_succ])
  iterate 4 (first | (apply Text.sees (hw := by kernel_rfl); (focus (intro x hx K hK; have hc := CE.out x hx; go_simp; exact hK)); simp only [Act.put, List.getElem_toArray, List.getElem_cons_succ, List.getElem_cons_zero, List.setIfInBounds_toArray, List.set_cons_zero, List.set_cons_succ]) | (apply Text.idle; (focus (intro x hx K hK; go_simp; exact hK)); simp only [Act.put, List.getElem_toArray, List.getElem_cons_succ, List.getElem_cons_zero, List.setIfInBounds_toArray, List.set_cons_zero, List.set_cons_succ]))
  (refine Text.call (Old.call fun x hx => awake17 x) (by kernel_rfl) (fun _ => by kernel_rfl) ?_; simp only [Act.put, List.getElem_toArray, List.getElem_cons_succ, List.getElem_cons_zero, List.setIfInBounds_toArray, List.set_cons_zero, List.set_cons_succ])
  iterate 1 (first | (apply Text.sees (hw := by kernel_rfl); (focus (intro x hx K hK; have hc := CE.out x hx; go_simp; exact hK)); simp only [Act.put, List.getElem_toArray, List.getElem_cons_succ, List.getElem_cons_zero, List.setIfInBounds_toArray, List.set_cons_zero, List.set_cons_succ]) | (apply Text.idle; (focus (intro x hx K hK; go_simp; exact hK)); simp only [Act.put, List.getElem_toArray, List.getElem_cons_succ, List.getElem_cons_zero, List.setIfInBounds_toArray, List.set_cons_zero, List.set_cons_succ]))
  intro z hz
  go_wp2
  go_ret
  exact ⟨rfl, tstep b13 hz b13.size⟩
set_option maxHeartbeats 4000000 in
theorem reads_w3 (a : Option Addr) (c : Nat) (bs : List Int) (w : World) (hl : bs.length ≤ 2000) (hB : Byt bs) (hr : Row w a c bs) (J : J4) (S : ByteArray) (A : Nat) (C : TelC bs a c J 0 true S A true) (h4 : 4 ≤ bs.length) (hs : ((strOf (bs.take 4)).toList == [84, 89, 77, 49]) = true) :
    Calls Try.prog 3 #[.slice a bs.length c] w fun e w' => e = .returned (.bool true) ∧ Below w.heap.size w w' := by
  have hl2 : decide ((2000 : Int) < (bs.length : Int)) = false := by simp; omega
  have HR := Lib.hid hr
  have HC := Lib.hid C
  have hl3 : decide ((3 : Int) < (bs.length : Int)) = true := by simp; omega
  obtain ⟨a', c', (hcut : ∀ x, Sem.run Try.prog (Instr.slice 22 (.slice a bs.length c) none (some (.int .i64 4)) none) x = .ok (.slice a' 4 c') x), hrc⟩ := cut_to a c bs.length bs 4 h4 w hr
  have hM4 : (bs.take 4).length = 4 := by simp; omega
  have hMB : Byt (bs.take 4) := hB.take 4
  have hcv : ∀ x, Old w x → (convert 22 9 (.slice a' 4 c')).run Try.prog x = .ok (.string (strOf (bs.take 4))) x := fun x hx => by
    have := conv_row x a' c' (bs.take 4) (hrc.carry hx) hMB
    rwa [hM4] at this
  generalize strOf (bs.take 4) = Z at *
  have HV := Lib.hid hcv
  clear hcv hM4 hMB hrc
  clear hr hB C
  go_enter Try.func3, Try.ntmps3
  go_upto_region 3 with (fail)
  have CF := Lib.hid fun (y : World) (hy : Old w y) => trivial
  (refine wp_region_plain (Old w) 1 (Below.refl _ w) ?_; simp only [List.take_succ_cons, List.take_zero, List.drop_succ_cons, List.drop_zero])
  repeat (first | (apply Text.sees (hw := by kernel_rfl); (focus (intro x hx K hK; have hc := CF.out x hx; go_simp; exact hK)); simp only [Act.put, List.getElem_toArray, List.getElem_cons_succ, List.getElem_cons_zero, List.setIfInBounds_toArray, List.set_cons_zero, List.set_cons_succ]) | (apply Text.idle; (focus (intro x hx K hK; go_simp; exact hK)); simp only [Act.put, List.getElem_toArray, List.getElem_cons_succ, List.getElem_cons_zero, List.setIfInBounds_toArray, List.set_cons_zero, List.set_cons_succ]))
  intro x hx
  refine wpl_call (V := fun v y => ∃ s, v = .tuple #[.agg (jobC J s), .int .i64 0] ∧ Lists y J s ∧ Below x.heap.size x y) rfl (by kernel_rfl) ((HC.out.c7 x (HR.out.carry hx)).mono fun e y hh => by obtain ⟨s, h1, h2⟩ := hh; exact ⟨_, h1, s, rfl, h2⟩) ?_
  rintro v y ⟨s, rfl, L1, b3⟩
  refine wpl_step (w' := y) (v := .tuple #[.agg (jobC J s), .int .i64 0]) rfl (by kernel_rfl) ?_
  refine wpl_step (w' := y) (v := .agg (jobC J s)) rfl (by kernel_rfl) ?_
  refine wpl_step (w' := y) (v := .int .i64 0) rfl (by kernel_rfl) ?_
  refine make_job (j := J) (s := s) rfl rfl rfl (.tmp 3) (.tmp 16) rfl rfl (by kernel_rfl) ?_
  have J3 := job_new y J s
  have b4 := tbel1 y (.cells (jobC J s) 31)
  have b5 := tstep hx b3 hx.size
  have b6 := tstep b5 b4 b5.size
  have L3 := L1.carry b4
  simp only [Act.put, List.getElem_toArray, List.getElem_cons_succ, List.getElem_cons_zero, List.setIfInBounds_toArray, List.set_cons_zero, List.set_cons_succ]
  clear L1 b3 b4 b5 hx CF
  go_upto_region 4 with (fail)
  generalize y.alloc _ = V at *
  generalize y.heap.size = b at *
  go_wp2_with fail
  refine (HC.out.c8 V (HR.out.carry b6)).mono ?_
  rintro e w4 ⟨rfl, b8⟩
  have J4' := J3.old b8
  have L4 := L3.carry b8
  have b9 := tstep b6 b8 b6.size
  clear J3 L3 b6 b8
  go_upto_region 5 with (fail)
  have CF := Lib.hid fun (y : World) (hy : Old w4 y) => trivial
  (refine wp_region_plain (Old w4) 1 (Below.refl _ w4) ?_; simp only [List.take_succ_cons, List.take_zero, List.drop_succ_cons, List.drop_zero])
  repeat (first | (apply Text.sees (hw := by kernel_rfl); (focus (intro x hx K hK; have hc := CF.out x hx; go_simp; exact hK)); simp only [Act.put, List.getElem_toArray, List.getElem_cons_succ, List.getElem_cons_zero, List.setIfInBounds_toArray, List.set_cons_zero, List.set_cons_succ]) | (apply Text.idle; (focus (intro x hx K hK; go_simp; exact hK)); simp only [Act.put, List.getElem_toArray, List.getElem_cons_succ, List.getElem_cons_zero, List.setIfInBounds_toArray, List.set_cons_zero, List.set_cons_succ]))
  intro x2 hx2
  refine wpl_call (V := fun v y => ∃ s, v = .agg (ansC J s true S A) ∧ Lists y J s ∧ Below x2.heap.size x2 y) rfl (by kernel_rfl) ((HC.out.c9 x2 (HR.out.carry (tstep b9 hx2 b9.size))).mono fun e y hh => by obtain ⟨s, h1, h2⟩ := hh; exact ⟨_, h1, s, rfl, h2⟩) ?_
  rintro v y2 ⟨t, rfl, L5, b10⟩
  refine make_ans (j := J) (s := t) (ok := true) (part := S) (q := A) rfl rfl rfl (.tmp 7) (.tmp 24) rfl rfl (by kernel_rfl) ?_
  have A3 : AnsAt (y2.alloc (.cells (ansC J t true S A) 38)) y2.heap.size J t true S A := blk_new y2 _ 38
  have b11 := tbel1 y2 (.cells (ansC J t true S A) 38)
  have b12 := tstep (tstep hx2 b10 hx2.size) b11 (by have := (tstep hx2 b10 hx2.size).size; omega)
  have L6 := L5.carry b11
  have L7 := L4.carry b12
  have J7 := J4'.old b12
  have b13 := tstep b9 b12 b9.size
  simp only [Act.put, List.getElem_toArray, List.getElem_cons_succ, List.getElem_cons_zero, List.setIfInBounds_toArray, List.set_cons_zero, List.set_cons_succ]
  clear L5 L4 J4' b9 b10 b11 b12 hx2 CF
  go_upto_region 6 with (fail)
  generalize y2.alloc _ = U at *
  generalize y2.heap.size = d at *
  have CG := Lib.hid fun (y : World) (hy : Old U y) => HV.out y (tstep b13 hy b13.size)
  (refine wp_region_plain (Old U) 9 (Below.refl _ U) ?_; simp only [List.take_succ_cons, List.take_zero, List.drop_succ_cons, List.drop_zero])
  repeat (first | (apply Text.sees (hw := by kernel_rfl); (focus (intro x hx K hK; have hc := CG.out x hx; go_simp; exact hK)); simp only [Act.put, List.getElem_toArray, List.getElem_cons_succ, List.getElem_cons_zero, List.setIfInBounds_toArray, List.set_cons_zero, List.set_cons_succ]) | (apply Text.idle; (focus (intro x hx K hK; go_simp; exact hK)); simp only [Act.put, List.getElem_toArray, List.getElem_cons_succ, List.getElem_cons_zero, List.setIfInBounds_toArray, List.set_cons_zero, List.set_cons_succ]))
  intro U1 hU1
  go_upto_region 7 with (fail)
  replace A3 := A3.old hU1
  replace L6 := L6.carry hU1
  replace L7 := L7.carry hU1
  replace J7 := J7.old hU1
  replace b13 := tstep b13 hU1 b13.size
  clear CG HV hU1
  have CE := Lib.hid fun y (hy : Old U1 y) => (A3.old hy).three
  have c10 := fun y (hy : Old U1 y) => HC.out.c10 s t y (L7.carry hy) (L6.carry hy)
  have c11 := fun y (hy : Old U1 y) => HC.out.c11 y (HR.out.carry (tstep b13 hy b13.size))
  have JH := Lib.hid fun y (hy : Old U1 y) => J7.old hy
  have AH := Lib.hid fun y (hy : Old U1 y) => A3.old hy
  clear L6 L7 J7 A3
  (refine wp_region_plain (Old U1) 40 (Below.refl _ U1) ?_; simp only [List.take_succ_cons, List.take_zero, List.drop_succ_cons, List.drop_zero])
  iterate 14 (first | (apply Text.sees (hw := by kernel_rfl); (focus (intro x hx K hK; have hc := CE.out x hx; go_simp; exact hK)); simp only [Act.put, List.getElem_toArray, List.getElem_cons_succ, List.getElem_cons_zero, List.setIfInBounds_toArray, List.set_cons_zero, List.set_cons_succ]) | (apply Text.idle; (focus (intro x hx K hK; go_simp; exact hK)); simp only [Act.put, List.getElem_toArray, List.getElem_cons_succ, List.getElem_cons_zero, List.setIfInBounds_toArray, List.set_cons_zero, List.set_cons_succ]))
  (refine Text.val (fun x hx => load_job (.tmp 3) rfl rfl (JH.out x hx)) (by kernel_rfl) ?_; simp only [Act.put, List.getElem_toArray, List.getElem_cons_succ, List.getElem_cons_zero, List.setIfInBounds_toArray, List.set_cons_zero, List.set_cons_succ])
  iterate 1 (first | (apply Text.sees (hw := by kernel_rfl); (focus (intro x hx K hK; have hc := CE.out x hx; go_simp; exact hK)); simp only [Act.put, List.getElem_toArray, List.getElem_cons_succ, List.getElem_cons_zero, List.setIfInBounds_toArray, List.set_cons_zero, List.set_cons_succ]) | (apply Text.idle; (focus (intro x hx K hK; go_simp; exact hK)); simp only [Act.put, List.getElem_toArray, List.getElem_cons_succ, List.getElem_cons_zero, List.setIfInBounds_toArray, List.set_cons_zero, List.set_cons_succ]))
  (refine Text.val (fun x hx => load_ajob (.tmp 49) rfl rfl (AH.out x hx)) (by kernel_rfl) ?_; simp only [Act.put, List.getElem_toArray, List.getElem_cons_succ, List.getElem_cons_zero, List.setIfInBounds_toArray, List.set_cons_zero, List.set_cons_succ])
  (refine Text.call (Old.call fun x hx => c10 x hx) (by kernel_rfl) (fun _ => by kernel_rfl) ?_; simp only [Act.put, List.getElem_toArray, List.getElem_cons_succ, List.getElem_cons_zero, List.setIfInBounds_toArray, List.set_cons_zero, List.set_cons_succ])
  iterate 15 (first | (apply Text.sees (hw := by kernel_rfl); (focus (intro x hx K hK; have hc := CE.out x hx; go_simp; exact hK)); simp only [Act.put, List.getElem_toArray, List.getElem_cons_succ, List.getElem_cons_zero, List.setIfInBounds_toArray, List.set_cons_zero, List.set_cons_succ]) | (apply Text.idle; (focus (intro x hx K hK; go_simp; exact hK)); simp only [Act.put, List.getElem_toArray, List.getElem_cons_succ, List.getElem_cons_zero, List.setIfInBounds_toArray, List.set_cons_zero, List.set_cons_succ]))
  (refine Text.call (Old.call fun x hx => c11 x hx) (by kernel_rfl) (fun _ => by kernel_rfl) ?_; simp only [Act.put, List.getElem_toArray, List.getElem_cons_succ, List.getElem_cons_zero, List.setIfInBounds_toArray, List.set_cons_zero, List.set_cons_succ])
  iterate 4 (first | (apply Text.sees (hw := by kernel_rfl); (focus (intro x hx K hK; have hc := CE.out x hx; go_simp; exact hK)); simp only [Act.put, List.getElem_toArray, List.getElem_cons_succ, List.getElem_cons_zero, List.setIfInBounds_toArray, List.set_cons_zero, List.set_cons_succ]) | (apply Text.idle; (focus (intro x hx K hK; go_simp; exact hK)); simp only [Act.put, List.getElem_toArray, List.getElem_cons_succ, List.getElem_cons_zero, List.setIfInBounds_toArray, List.set_cons_zero, List.set_cons_succ]))
  (refine Text.call (Old.call fun x hx => awake17 x) (by kernel_rfl) (fun _ => by kernel_rfl) ?_; simp only [Act.put, List.getElem_toArray, List.getElem_cons_succ, List.getElem_cons_zero, List.setIfInBounds_toArray, List.set_cons_zero, List.set_cons_succ])
  iterate 1 (first | (apply Text.sees (hw := by kernel_rfl); (focus (intro x hx K hK; have hc := CE.out x hx; go_simp; exact hK)); simp only [Act.put, List.getElem_toArray, List.getElem_cons_succ, List.getElem_cons_zero, List.setIfInBounds_toArray, List.set_cons_zero, List.set_cons_succ]) | (apply Text.idle; (focus (intro x hx K hK; go_simp; exact hK)); simp only [Act.put, List.getElem_toArray, List.getElem_cons_succ, List.getElem_cons_zero, List.setIfInBounds_toArray, List.set_cons_zero, List.set_cons_succ]))
  intro z hz
  go_wp2
  go_ret
  exact ⟨rfl, tstep b13 hz b13.size⟩
set_option maxHeartbeats 4000000 in
theorem reads_w4 (a : Option Addr) (c : Nat) (bs : List Int) (w : World) (hl : bs.length ≤ 2000) (hB : Byt bs) (hr : Row w a c bs) (J : J4) (S : ByteArray) (A : Nat) (C : TelC bs a c J 2 false S A true) (h4 : 4 ≤ bs.length) (hs : ((strOf (bs.take 4)).toList == [84, 89, 77, 49]) = true) :
    Calls Try.prog 3 #[.slice a bs.length c] w fun e w' => e = .returned (.bool true) ∧ Below w.heap.size w w' := by
  have hl2 : decide ((2000 : Int) < (bs.length : Int)) = false := by simp; omega
  have HR := Lib.hid hr
  have HC := Lib.hid C
  have hl3 : decide ((3 : Int) < (bs.length : Int)) = true := by simp; omega
  obtain ⟨a', c', (hcut : ∀ x, Sem.run Try.prog (Instr.slice 22 (.slice a bs.length c) none (some (.int .i64 4)) none) x = .ok (.slice a' 4 c') x), hrc⟩ := cut_to a c bs.length bs 4 h4 w hr
  have hM4 : (bs.take 4).length = 4 := by simp; omega
  have hMB : Byt (bs.take 4) := hB.take 4
  have hcv : ∀ x, Old w x → (convert 22 9 (.slice a' 4 c')).run Try.prog x = .ok (.string (strOf (bs.take 4))) x := fun x hx => by
    have := conv_row x a' c' (bs.take 4) (hrc.carry hx) hMB
    rwa [hM4] at this
  generalize strOf (bs.take 4) = Z at *
  have HV := Lib.hid hcv
  clear hcv hM4 hMB hrc
  clear hr hB C
  go_enter Try.func3, Try.ntmps3
  go_upto_region 3 with (fail)
  have CF := Lib.hid fun (y : World) (hy : Old w y) => trivial
  (refine wp_region_plain (Old w) 1 (Below.refl _ w) ?_; simp only [List.take_succ_cons, List.take_zero, List.drop_succ_cons, List.drop_zero])
  repeat (first | (apply Text.sees (hw := by kernel_rfl); (focus (intro x hx K hK; have hc := CF.out x hx; go_simp; exact hK)); simp only [Act.put, List.getElem_toArray, List.getElem_cons_succ, List.getElem_cons_zero, List.setIfInBounds_toArray, List.set_cons_zero, List.set_cons_succ]) | (apply Text.idle; (focus (intro x hx K hK; go_simp; exact hK)); simp only [Act.put, List.getElem_toArray, List.getElem_cons_succ, List.getElem_cons_zero, List.setIfInBounds_toArray, List.set_cons_zero, List.set_cons_succ]))
  intro x hx
  refine wpl_call (V := fun v y => ∃ s, v = .tuple #[.agg (jobC J s), .int .i64 2] ∧ Lists y J s ∧ Below x.heap.size x y) rfl (by kernel_rfl) ((HC.out.c7 x (HR.out.carry hx)).mono fun e y hh => by obtain ⟨s, h1, h2⟩ := hh; exact ⟨_, h1, s, rfl, h2⟩) ?_
  rintro v y ⟨s, rfl, L1, b3⟩
  refine wpl_step (w' := y) (v := .tuple #[.agg (jobC J s), .int .i64 2]) rfl (by kernel_rfl) ?_
  refine wpl_step (w' := y) (v := .agg (jobC J s)) rfl (by kernel_rfl) ?_
  refine wpl_step (w' := y) (v := .int .i64 2) rfl (by kernel_rfl) ?_
  refine make_job (j := J) (s := s) rfl rfl rfl (.tmp 3) (.tmp 16) rfl rfl (by kernel_rfl) ?_
  have J3 := job_new y J s
  have b4 := tbel1 y (.cells (jobC J s) 31)
  have b5 := tstep hx b3 hx.size
  have b6 := tstep b5 b4 b5.size
  have L3 := L1.carry b4
  simp only [Act.put, List.getElem_toArray, List.getElem_cons_succ, List.getElem_cons_zero, List.setIfInBounds_toArray, List.set_cons_zero, List.set_cons_succ]
  clear L1 b3 b4 b5 hx CF
  go_upto_region 4 with (fail)
  generalize y.alloc _ = V at *
  generalize y.heap.size = b at *
  go_wp2_with fail
  refine (HC.out.c8 V (HR.out.carry b6)).mono ?_
  rintro e w4 ⟨rfl, b8⟩
  have J4' := J3.old b8
  have L4 := L3.carry b8
  have b9 := tstep b6 b8 b6.size
  clear J3 L3 b6 b8
  go_upto_region 5 with (fail)
  have CF := Lib.hid fun (y : World) (hy : Old w4 y) => trivial
  (refine wp_region_plain (Old w4) 1 (Below.refl _ w4) ?_; simp only [List.take_succ_cons, List.take_zero, List.drop_succ_cons, List.drop_zero])
  repeat (first | (apply Text.sees (hw := by kernel_rfl); (focus (intro x hx K hK; have hc := CF.out x hx; go_simp; exact hK)); simp only [Act.put, List.getElem_toArray, List.getElem_cons_succ, List.getElem_cons_zero, List.setIfInBounds_toArray, List.set_cons_zero, List.set_cons_succ]) | (apply Text.idle; (focus (intro x hx K hK; go_simp; exact hK)); simp only [Act.put, List.getElem_toArray, List.getElem_cons_succ, List.getElem_cons_zero, List.setIfInBounds_toArray, List.set_cons_zero, List.set_cons_succ]))
  intro x2 hx2
  refine wpl_call (V := fun v y => ∃ s, v = .agg (ansC J s false S A) ∧ Lists y J s ∧ Below x2.heap.size x2 y) rfl (by kernel_rfl) ((HC.out.c9 x2 (HR.out.carry (tstep b9 hx2 b9.size))).mono fun e y hh => by obtain ⟨s, h1, h2⟩ := hh; exact ⟨_, h1, s, rfl, h2⟩) ?_
  rintro v y2 ⟨t, rfl, L5, b10⟩
  refine make_ans (j := J) (s := t) (ok := false) (part := S) (q := A) rfl rfl rfl (.tmp 7) (.tmp 24) rfl rfl (by kernel_rfl) ?_
  have A3 : AnsAt (y2.alloc (.cells (ansC J t false S A) 38)) y2.heap.size J t false S A := blk_new y2 _ 38
  have b11 := tbel1 y2 (.cells (ansC J t false S A) 38)
  have b12 := tstep (tstep hx2 b10 hx2.size) b11 (by have := (tstep hx2 b10 hx2.size).size; omega)
  have L6 := L5.carry b11
  have L7 := L4.carry b12
  have J7 := J4'.old b12
  have b13 := tstep b9 b12 b9.size
  simp only [Act.put, List.getElem_toArray, List.getElem_cons_succ, List.getElem_cons_zero, List.setIfInBounds_toArray, List.set_cons_zero, List.set_cons_succ]
  clear L5 L4 J4' b9 b10 b11 b12 hx2 CF
  go_upto_region 6 with (fail)
  generalize y2.alloc _ = U at *
  generalize y2.heap.size = d at *
  have CG := Lib.hid fun (y : World) (hy : Old U y) => HV.out y (tstep b13 hy b13.size)
  (refine wp_region_plain (Old U) 9 (Below.refl _ U) ?_; simp only [List.take_succ_cons, List.take_zero, List.drop_succ_cons, List.drop_zero])
  repeat (first | (apply Text.sees (hw := by kernel_rfl); (focus (intro x hx K hK; have hc := CG.out x hx; go_simp; exact hK)); simp only [Act.put, List.getElem_toArray, List.getElem_cons_succ, List.getElem_cons_zero, List.setIfInBounds_toArray, List.set_cons_zero, List.set_cons_succ]) | (apply Text.idle; (focus (intro x hx K hK; go_simp; exact hK)); simp only [Act.put, List.getElem_toArray, List.getElem_cons_succ, List.getElem_cons_zero, List.setIfInBounds_toArray, List.set_cons_zero, List.set_cons_succ]))
  intro U1 hU1
  go_upto_region 7 with (fail)
  replace A3 := A3.old hU1
  replace L6 := L6.carry hU1
  replace L7 := L7.carry hU1
  replace J7 := J7.old hU1
  replace b13 := tstep b13 hU1 b13.size
  clear CG HV hU1
  have CE := Lib.hid fun y (hy : Old U1 y) => (A3.old hy).three
  have c10 := fun y (hy : Old U1 y) => HC.out.c10 s t y (L7.carry hy) (L6.carry hy)
  have c11 := fun y (hy : Old U1 y) => HC.out.c11 y (HR.out.carry (tstep b13 hy b13.size))
  have JH := Lib.hid fun y (hy : Old U1 y) => J7.old hy
  have AH := Lib.hid fun y (hy : Old U1 y) => A3.old hy
  clear L6 L7 J7 A3
  (refine wp_region_plain (Old U1) 40 (Below.refl _ U1) ?_; simp only [List.take_succ_cons, List.take_zero, List.drop_succ_cons, List.drop_zero])
  iterate 14 (first | (apply Text.sees (hw := by kernel_rfl); (focus (intro x hx K hK; have hc := CE.out x hx; go_simp; exact hK)); simp only [Act.put, List.getElem_toArray, List.getElem_cons_succ, List.getElem_cons_zero, List.setIfInBounds_toArray, List.set_cons_zero, List.set_cons_succ]) | (apply Text.idle; (focus (intro x hx K hK; go_simp; exact hK)); simp only [Act.put, List.getElem_toArray, List.getElem_cons_succ, List.getElem_cons_zero, List.setIfInBounds_toArray, List.set_cons_zero, List.set_cons_succ]))
  (refine Text.val (fun x hx => load_job (.tmp 3) rfl rfl (JH.out x hx)) (by kernel_rfl) ?_; simp only [Act.put, List.getElem_toArray, List.getElem_cons_succ, List.getElem_cons_zero, List.setIfInBounds_toArray, List.set_cons_zero, List.set_cons_succ])
  iterate 1 (first | (apply Text.sees (hw := by kernel_rfl); (focus (intro x hx K hK; have hc := CE.out x hx; go_simp; exact hK)); simp only [Act.put, List.getElem_toArray, List.getElem_cons_succ, List.getElem_cons_zero, List.setIfInBounds_toArray, List.set_cons_zero, List.set_cons_succ]) | (apply Text.idle; (focus (intro x hx K hK; go_simp; exact hK)); simp only [Act.put, List.getElem_toArray, List.getElem_cons_succ, List.getElem_cons_zero, List.setIfInBounds_toArray, List.set_cons_zero, List.set_cons_succ]))
  (refine Text.val (fun x hx => load_ajob (.tmp 49) rfl rfl (AH.out x hx)) (by kernel_rfl) ?_; simp only [Act.put, List.getElem_toArray, List.getElem_cons_succ, List.getElem_cons_zero, List.setIfInBounds_toArray, List.set_cons_zero, List.set_cons_succ])
  (refine Text.call (Old.call fun x hx => c10 x hx) (by kernel_rfl) (fun _ => by kernel_rfl) ?_; simp only [Act.put, List.getElem_toArray, List.getElem_cons_succ, List.getElem_cons_zero, List.setIfInBounds_toArray, List.set_cons_zero, List.set_cons_succ])
  iterate 15 (first | (apply Text.sees (hw := by kernel_rfl); (focus (intro x hx K hK; have hc := CE.out x hx; go_simp; exact hK)); simp only [Act.put, List.getElem_toArray, List.getElem_cons_succ, List.getElem_cons_zero, List.setIfInBounds_toArray, List.set_cons_zero, List.set_cons_succ]) | (apply Text.idle; (focus (intro x hx K hK; go_simp; exact hK)); simp only [Act.put, List.getElem_toArray, List.getElem_cons_succ, List.getElem_cons_zero, List.setIfInBounds_toArray, List.set_cons_zero, List.set_cons_succ]))
  (refine Text.call (Old.call fun x hx => c11 x hx) (by kernel_rfl) (fun _ => by kernel_rfl) ?_; simp only [Act.put, List.getElem_toArray, List.getElem_cons_succ, List.getElem_cons_zero, List.setIfInBounds_toArray, List.set_cons_zero, List.set_cons_succ])
  iterate 4 (first | (apply Text.sees (hw := by kernel_rfl); (focus (intro x hx K hK; have hc := CE.out x hx; go_simp; exact hK)); simp only [Act.put, List.getElem_toArray, List.getElem_cons_succ, List.getElem_cons_zero, List.setIfInBounds_toArray, List.set_cons_zero, List.set_cons_succ]) | (apply Text.idle; (focus (intro x hx K hK; go_simp; exact hK)); simp only [Act.put, List.getElem_toArray, List.getElem_cons_succ, List.getElem_cons_zero, List.setIfInBounds_toArray, List.set_cons_zero, List.set_cons_succ]))
  (refine Text.call (Old.call fun x hx => awake17 x) (by kernel_rfl) (fun _ => by kernel_rfl) ?_; simp only [Act.put, List.getElem_toArray, List.getElem_cons_succ, List.getElem_cons_zero, List.setIfInBounds_toArray, List.set_cons_zero, List.set_cons_succ])
  iterate 1 (first | (apply Text.sees (hw := by kernel_rfl); (focus (intro x hx K hK; have hc := CE.out x hx; go_simp; exact hK)); simp only [Act.put, List.getElem_toArray, List.getElem_cons_succ, List.getElem_cons_zero, List.setIfInBounds_toArray, List.set_cons_zero, List.set_cons_succ]) | (apply Text.idle; (focus (intro x hx K hK; go_simp; exact hK)); simp only [Act.put, List.getElem_toArray, List.getElem_cons_succ, List.getElem_cons_zero, List.setIfInBounds_toArray, List.set_cons_zero, List.set_cons_succ]))
  intro z hz
  go_wp2
  go_ret
  exact ⟨rfl, tstep b13 hz b13.size⟩
set_option maxHeartbeats 4000000 in
theorem reads_w5 (a : Option Addr) (c : Nat) (bs : List Int) (w : World) (hl : bs.length ≤ 2000) (hB : Byt bs) (hr : Row w a c bs) (J : J4) (S : ByteArray) (A : Nat) (C : TelC bs a c J 0 true S A false) (h4 : 4 ≤ bs.length) (hs : ((strOf (bs.take 4)).toList == [84, 89, 77, 49]) = false) :
    Calls Try.prog 3 #[.slice a bs.length c] w fun e w' => e = .returned (.bool true) ∧ Below w.heap.size w w' := by
  have hl2 : decide ((2000 : Int) < (bs.length : Int)) = false := by simp; omega
  have HR := Lib.hid hr
  have HC := Lib.hid C
  have hl3 : decide ((3 : Int) < (bs.length : Int)) = true := by simp; omega
  obtain ⟨a', c', (hcut : ∀ x, Sem.run Try.prog (Instr.slice 22 (.slice a bs.length c) none (some (.int .i64 4)) none) x = .ok (.slice a' 4 c') x), hrc⟩ := cut_to a c bs.length bs 4 h4 w hr
  have hM4 : (bs.take 4).length = 4 := by simp; omega
  have hMB : Byt (bs.take 4) := hB.take 4
  have hcv : ∀ x, Old w x → (convert 22 9 (.slice a' 4 c')).run Try.prog x = .ok (.string (strOf (bs.take 4))) x := fun x hx => by
    have := conv_row x a' c' (bs.take 4) (hrc.carry hx) hMB
    rwa [hM4] at this
  generalize strOf (bs.take 4) = Z at *
  have HV := Lib.hid hcv
  clear hcv hM4 hMB hrc
  clear hr hB C
  go_enter Try.func3, Try.ntmps3
  go_upto_region 3 with (fail)
  have CF := Lib.hid fun (y : World) (hy : Old w y) => trivial
  (refine wp_region_plain (Old w) 1 (Below.refl _ w) ?_; simp only [List.take_succ_cons, List.take_zero, List.drop_succ_cons, List.drop_zero])
  repeat (first | (apply Text.sees (hw := by kernel_rfl); (focus (intro x hx K hK; have hc := CF.out x hx; go_simp; exact hK)); simp only [Act.put, List.getElem_toArray, List.getElem_cons_succ, List.getElem_cons_zero, List.setIfInBounds_toArray, List.set_cons_zero, List.set_cons_succ]) | (apply Text.idle; (focus (intro x hx K hK; go_simp; exact hK)); simp only [Act.put, List.getElem_toArray, List.getElem_cons_succ, List.getElem_cons_zero, List.setIfInBounds_toArray, List.set_cons_zero, List.set_cons_succ]))
  intro x hx
  refine wpl_call (V := fun v y => ∃ s, v = .tuple #[.agg (jobC J s), .int .i64 0] ∧ Lists y J s ∧ Below x.heap.size x y) rfl (by kernel_rfl) ((HC.out.c7 x (HR.out.carry hx)).mono fun e y hh => by obtain ⟨s, h1, h2⟩ := hh; exact ⟨_, h1, s, rfl, h2⟩) ?_
  rintro v y ⟨s, rfl, L1, b3⟩
  refine wpl_step (w' := y) (v := .tuple #[.agg (jobC J s), .int .i64 0]) rfl (by kernel_rfl) ?_
  refine wpl_step (w' := y) (v := .agg (jobC J s)) rfl (by kernel_rfl) ?_
  refine wpl_step (w' := y) (v := .int .i64 0) rfl (by kernel_rfl) ?_
  refine make_job (j := J) (s := s) rfl rfl rfl (.tmp 3) (.tmp 16) rfl rfl (by kernel_rfl) ?_
  have J3 := job_new y J s
  have b4 := tbel1 y (.cells (jobC J s) 31)
  have b5 := tstep hx b3 hx.size
  have b6 := tstep b5 b4 b5.size
  have L3 := L1.carry b4
  simp only [Act.put, List.getElem_toArray, List.getElem_cons_succ, List.getElem_cons_zero, List.setIfInBounds_toArray, List.set_cons_zero, List.set_cons_succ]
  clear L1 b3 b4 b5 hx CF
  go_upto_region 4 with (fail)
  generalize y.alloc _ = V at *
  generalize y.heap.size = b at *
  go_wp2_with fail
  refine (HC.out.c8 V (HR.out.carry b6)).mono ?_
  rintro e w4 ⟨rfl, b8⟩
  have J4' := J3.old b8
  have L4 := L3.carry b8
  have b9 := tstep b6 b8 b6.size
  clear J3 L3 b6 b8
  go_upto_region 5 with (fail)
  have CF := Lib.hid fun (y : World) (hy : Old w4 y) => trivial
  (refine wp_region_plain (Old w4) 1 (Below.refl _ w4) ?_; simp only [List.take_succ_cons, List.take_zero, List.drop_succ_cons, List.drop_zero])
  repeat (first | (apply Text.sees (hw := by kernel_rfl); (focus (intro x hx K hK; have hc := CF.out x hx; go_simp; exact hK)); simp only [Act.put, List.getElem_toArray, List.getElem_cons_succ, List.getElem_cons_zero, List.setIfInBounds_toArray, List.set_cons_zero, List.set_cons_succ]) | (apply Text.idle; (focus (intro x hx K hK; go_simp; exact hK)); simp only [Act.put, List.getElem_toArray, List.getElem_cons_succ, List.getElem_cons_zero, List.setIfInBounds_toArray, List.set_cons_zero, List.set_cons_succ]))
  intro x2 hx2
  refine wpl_call (V := fun v y => ∃ s, v = .agg (ansC J s true S A) ∧ Lists y J s ∧ Below x2.heap.size x2 y) rfl (by kernel_rfl) ((HC.out.c9 x2 (HR.out.carry (tstep b9 hx2 b9.size))).mono fun e y hh => by obtain ⟨s, h1, h2⟩ := hh; exact ⟨_, h1, s, rfl, h2⟩) ?_
  rintro v y2 ⟨t, rfl, L5, b10⟩
  refine make_ans (j := J) (s := t) (ok := true) (part := S) (q := A) rfl rfl rfl (.tmp 7) (.tmp 24) rfl rfl (by kernel_rfl) ?_
  have A3 : AnsAt (y2.alloc (.cells (ansC J t true S A) 38)) y2.heap.size J t true S A := blk_new y2 _ 38
  have b11 := tbel1 y2 (.cells (ansC J t true S A) 38)
  have b12 := tstep (tstep hx2 b10 hx2.size) b11 (by have := (tstep hx2 b10 hx2.size).size; omega)
  have L6 := L5.carry b11
  have L7 := L4.carry b12
  have J7 := J4'.old b12
  have b13 := tstep b9 b12 b9.size
  simp only [Act.put, List.getElem_toArray, List.getElem_cons_succ, List.getElem_cons_zero, List.setIfInBounds_toArray, List.set_cons_zero, List.set_cons_succ]
  clear L5 L4 J4' b9 b10 b11 b12 hx2 CF
  go_upto_region 6 with (fail)
  generalize y2.alloc _ = U at *
  generalize y2.heap.size = d at *
  have CG := Lib.hid fun (y : World) (hy : Old U y) => HV.out y (tstep b13 hy b13.size)
  (refine wp_region_plain (Old U) 9 (Below.refl _ U) ?_; simp only [List.take_succ_cons, List.take_zero, List.drop_succ_cons, List.drop_zero])
  repeat (first | (apply Text.sees (hw := by kernel_rfl); (focus (intro x hx K hK; have hc := CG.out x hx; go_simp; exact hK)); simp only [Act.put, List.getElem_toArray, List.getElem_cons_succ, List.getElem_cons_zero, List.setIfInBounds_toArray, List.set_cons_zero, List.set_cons_succ]) | (apply Text.idle; (focus (intro x hx K hK; go_simp; exact hK)); simp only [Act.put, List.getElem_toArray, List.getElem_cons_succ, List.getElem_cons_zero, List.setIfInBounds_toArray, List.set_cons_zero, List.set_cons_succ]))
  intro U1 hU1
  go_upto_region 7 with (fail)
  replace A3 := A3.old hU1
  replace L6 := L6.carry hU1
  replace L7 := L7.carry hU1
  replace J7 := J7.old hU1
  replace b13 := tstep b13 hU1 b13.size
  clear CG HV hU1
  have CE := Lib.hid fun y (hy : Old U1 y) => (A3.old hy).three
  have c10 := fun y (hy : Old U1 y) => HC.out.c10 s t y (L7.carry hy) (L6.carry hy)
  have c11 := fun y (hy : Old U1 y) => HC.out.c11 y (HR.out.carry (tstep b13 hy b13.size))
  have JH := Lib.hid fun y (hy : Old U1 y) => J7.old hy
  have AH := Lib.hid fun y (hy : Old U1 y) => A3.old hy
  clear L6 L7 J7 A3
  (refine wp_region_plain (Old U1) 40 (Below.refl _ U1) ?_; simp only [List.take_succ_cons, List.take_zero, List.drop_succ_cons, List.drop_zero])
  iterate 14 (first | (apply Text.sees (hw := by kernel_rfl); (focus (intro x hx K hK; have hc := CE.out x hx; go_simp; exact hK)); simp only [Act.put, List.getElem_toArray, List.getElem_cons_succ, List.getElem_cons_zero, List.setIfInBounds_toArray, List.set_cons_zero, List.set_cons_succ]) | (apply Text.idle; (focus (intro x hx K hK; go_simp; exact hK)); simp only [Act.put, List.getElem_toArray, List.getElem_cons_succ, List.getElem_cons_zero, List.setIfInBounds_toArray, List.set_cons_zero, List.set_cons_succ]))
  (refine Text.val (fun x hx => load_job (.tmp 3) rfl rfl (JH.out x hx)) (by kernel_rfl) ?_; simp only [Act.put, List.getElem_toArray, List.getElem_cons_succ, List.getElem_cons_zero, List.setIfInBounds_toArray, List.set_cons_zero, List.set_cons_succ])
  iterate 1 (first | (apply Text.sees (hw := by kernel_rfl); (focus (intro x hx K hK; have hc := CE.out x hx; go_simp; exact hK)); simp only [Act.put, List.getElem_toArray, List.getElem_cons_succ, List.getElem_cons_zero, List.setIfInBounds_toArray, List.set_cons_zero, List.set_cons_succ]) | (apply Text.idle; (focus (intro x hx K hK; go_simp; exact hK)); simp only [Act.put, List.getElem_toArray, List.getElem_cons_succ, List.getElem_cons_zero, List.setIfInBounds_toArray, List.set_cons_zero, List.set_cons_succ]))
  (refine Text.val (fun x hx => load_ajob (.tmp 49) rfl rfl (AH.out x hx)) (by kernel_rfl) ?_; simp only [Act.put, List.getElem_toArray, List.getElem_cons_succ, List.getElem_cons_zero, List.setIfInBounds_toArray, List.set_cons_zero, List.set_cons_succ])
  (refine Text.call (Old.call fun x hx => c10 x hx) (by kernel_rfl) (fun _ => by kernel_rfl) ?_; simp only [Act.put, List.getElem_toArray, List.getElem_cons_succ, List.getElem_cons_zero, List.setIfInBounds_toArray, List.set_cons_zero, List.set_cons_succ])
  iterate 15 (first | (apply Text.sees (hw := by kernel_rfl); (focus (intro x hx K hK; have hc := CE.out x hx; go_simp; exact hK)); simp only [Act.put, List.getElem_toArray, List.getElem_cons_succ, List.getElem_cons_zero, List.setIfInBounds_toArray, List.set_cons_zero, List.set_cons_succ]) | (apply Text.idle; (focus (intro x hx K hK; go_simp; exact hK)); simp only [Act.put, List.getElem_toArray, List.getElem_cons_succ, List.getElem_cons_zero, List.setIfInBounds_toArray, List.set_cons_zero, List.set_cons_succ]))
  (refine Text.call (Old.call fun x hx => c11 x hx) (by kernel_rfl) (fun _ => by kernel_rfl) ?_; simp only [Act.put, List.getElem_toArray, List.getElem_cons_succ, List.getElem_cons_zero, List.setIfInBounds_toArray, List.set_cons_zero, List.set_cons_succ])
  iterate 4 (first | (apply Text.sees (hw := by kernel_rfl); (focus (intro x hx K hK; have hc := CE.out x hx; go_simp; exact hK)); simp only [Act.put, List.getElem_toArray, List.getElem_cons_succ, List.getElem_cons_zero, List.setIfInBounds_toArray, List.set_cons_zero, List.set_cons_succ]) | (apply Text.idle; (focus (intro x hx K hK; go_simp; exact hK)); simp only [Act.put, List.getElem_toArray, List.getElem_cons_succ, List.getElem_cons_zero, List.setIfInBounds_toArray, List.set_cons_zero, List.set_cons_succ]))
  (refine Text.call (Old.call fun x hx => awake17 x) (by kernel_rfl) (fun _ => by kernel_rfl) ?_; simp only [Act.put, List.getElem_toArray, List.getElem_cons_succ, List.getElem_cons_zero, List.setIfInBounds_toArray, List.set_cons_zero, List.set_cons_succ])
  iterate 1 (first | (apply Text.sees (hw := by kernel_rfl); (focus (intro x hx K hK; have hc := CE.out x hx; go_simp; exact hK)); simp only [Act.put, List.getElem_toArray, List.getElem_cons_succ, List.getElem_cons_zero, List.setIfInBounds_toArray, List.set_cons_zero, List.set_cons_succ]) | (apply Text.idle; (focus (intro x hx K hK; go_simp; exact hK)); simp only [Act.put, List.getElem_toArray, List.getElem_cons_succ, List.getElem_cons_zero, List.setIfInBounds_toArray, List.set_cons_zero, List.set_cons_succ]))
  intro z hz
  go_wp2
  go_ret
  exact ⟨rfl, tstep b13 hz b13.size⟩
set_option maxHeartbeats 4000000 in
theorem reads_w6 (a : Option Addr) (c : Nat) (bs : List Int) (w : World) (hl : bs.length ≤ 2000) (hB : Byt bs) (hr : Row w a c bs) (J : J4) (S : ByteArray) (A : Nat) (C : TelC bs a c J 2 false S A false) (h4 : 4 ≤ bs.length) (hs : ((strOf (bs.take 4)).toList == [84, 89, 77, 49]) = false) :
    Calls Try.prog 3 #[.slice a bs.length c] w fun e w' => e = .returned (.bool true) ∧ Below w.heap.size w w' := by
  have hl2 : decide ((2000 : Int) < (bs.length : Int)) = false := by simp; omega
  have HR := Lib.hid hr
  have HC := Lib.hid C
  have hl3 : decide ((3 : Int) < (bs.length : Int)) = true := by simp; omega
  obtain ⟨a', c', (hcut : ∀ x, Sem.run Try.prog (Instr.slice 22 (.slice a bs.length c) none (some (.int .i64 4)) none) x = .ok (.slice a' 4 c') x), hrc⟩ := cut_to a c bs.length bs 4 h4 w hr
  have hM4 : (bs.take 4).length = 4 := by simp; omega
  have hMB : Byt (bs.take 4) := hB.take 4
  have hcv : ∀ x, Old w x → (convert 22 9 (.slice a' 4 c')).run Try.prog x = .ok (.string (strOf (bs.take 4))) x := fun x hx => by
    have := conv_row x a' c' (bs.take 4) (hrc.carry hx) hMB
    rwa [hM4] at this
  generalize strOf (bs.take 4) = Z at *
  have HV := Lib.hid hcv
  clear hcv hM4 hMB hrc
  clear hr hB C
  go_enter Try.func3, Try.ntmps3
  go_upto_region 3 with (fail)
  have CF := Lib.hid fun (y : World) (hy : Old w y) => trivial
  (refine wp_region_plain (Old w) 1 (Below.refl _ w) ?_; simp only [List.take_succ_cons, List.take_zero, List.drop_succ_cons, List.drop_zero])
  repeat (first | (apply Text.sees (hw := by kernel_rfl); (focus (intro x hx K hK; have hc := CF.out x hx; go_simp; exact hK)); simp only [Act.put, List.getElem_toArray, List.getElem_cons_succ, List.getElem_cons_zero, List.setIfInBounds_toArray, List.set_cons_zero, List.set_cons_succ]) | (apply Text.idle; (focus (intro x hx K hK; go_simp; exact hK)); simp only [Act.put, List.getElem_toArray, List.getElem_cons_succ, List.getElem_cons_zero, List.setIfInBounds_toArray, List.set_cons_zero, List.set_cons_succ]))
  intro x hx
  refine wpl_call (V := fun v y => ∃ s, v = .tuple #[.agg (jobC J s), .int .i64 2] ∧ Lists y J s ∧ Below x.heap.size x y) rfl (by kernel_rfl) ((HC.out.c7 x (HR.out.carry hx)).mono fun e y hh => by obtain ⟨s, h1, h2⟩ := hh; exact ⟨_, h1, s, rfl, h2⟩) ?_
  rintro v y ⟨s, rfl, L1, b3⟩
  refine wpl_step (w' := y) (v := .tuple #[.agg (jobC J s), .int .i64 2]) rfl (by kernel_rfl) ?_
  refine wpl_step (w' := y) (v := .agg (jobC J s)) rfl (by kernel_rfl) ?_
  refine wpl_step (w' := y) (v := .int .i64 2) rfl (by kernel_rfl) ?_
  refine make_job (j := J) (s := s) rfl rfl rfl (.tmp 3) (.tmp 16) rfl rfl (by kernel_rfl) ?_
  have J3 := job_new y J s
  have b4 := tbel1 y (.cells (jobC J s) 31)
  have b5 := tstep hx b3 hx.size
  have b6 := tstep b5 b4 b5.size
  have L3 := L1.carry b4
  simp only [Act.put, List.getElem_toArray, List.getElem_cons_succ, List.getElem_cons_zero, List.setIfInBounds_toArray, List.set_cons_zero, List.set_cons_succ]
  clear L1 b3 b4 b5 hx CF
  go_upto_region 4 with (fail)
  generalize y.alloc _ = V at *
  generalize y.heap.size = b at *
  go_wp2_with fail
  refine (HC.out.c8 V (HR.out.carry b6)).mono ?_
  rintro e w4 ⟨rfl, b8⟩
  have J4' := J3.old b8
  have L4 := L3.carry b8
  have b9 := tstep b6 b8 b6.size
  clear J3 L3 b6 b8
  go_upto_region 5 with (fail)
  have CF := Lib.hid fun (y : World) (hy : Old w4 y) => trivial
  (refine wp_region_plain (Old w4) 1 (Below.refl _ w4) ?_; simp only [List.take_succ_cons, List.take_zero, List.drop_succ_cons, List.drop_zero])
  repeat (first | (apply Text.sees (hw := by kernel_rfl); (focus (intro x hx K hK; have hc := CF.out x hx; go_simp; exact hK)); simp only [Act.put, List.getElem_toArray, List.getElem_cons_succ, List.getElem_cons_zero, List.setIfInBounds_toArray, List.set_cons_zero, List.set_cons_succ]) | (apply Text.idle; (focus (intro x hx K hK; go_simp; exact hK)); simp only [Act.put, List.getElem_toArray, List.getElem_cons_succ, List.getElem_cons_zero, List.setIfInBounds_toArray, List.set_cons_zero, List.set_cons_succ]))
  intro x2 hx2
  refine wpl_call (V := fun v y => ∃ s, v = .agg (ansC J s false S A) ∧ Lists y J s ∧ Below x2.heap.size x2 y) rfl (by kernel_rfl) ((HC.out.c9 x2 (HR.out.carry (tstep b9 hx2 b9.size))).mono fun e y hh => by obtain ⟨s, h1, h2⟩ := hh; exact ⟨_, h1, s, rfl, h2⟩) ?_
  rintro v y2 ⟨t, rfl, L5, b10⟩
  refine make_ans (j := J) (s := t) (ok := false) (part := S) (q := A) rfl rfl rfl (.tmp 7) (.tmp 24) rfl rfl (by kernel_rfl) ?_
  have A3 : AnsAt (y2.alloc (.cells (ansC J t false S A) 38)) y2.heap.size J t false S A := blk_new y2 _ 38
  have b11 := tbel1 y2 (.cells (ansC J t false S A) 38)
  have b12 := tstep (tstep hx2 b10 hx2.size) b11 (by have := (tstep hx2 b10 hx2.size).size; omega)
  have L6 := L5.carry b11
  have L7 := L4.carry b12
  have J7 := J4'.old b12
  have b13 := tstep b9 b12 b9.size
  simp only [Act.put, List.getElem_toArray, List.getElem_cons_succ, List.getElem_cons_zero, List.setIfInBounds_toArray, List.set_cons_zero, List.set_cons_succ]
  clear L5 L4 J4' b9 b10 b11 b12 hx2 CF
  go_upto_region 6 with (fail)
  generalize y2.alloc _ = U at *
  generalize y2.heap.size = d at *
  have CG := Lib.hid fun (y : World) (hy : Old U y) => HV.out y (tstep b13 hy b13.size)
  (refine wp_region_plain (Old U) 9 (Below.refl _ U) ?_; simp only [List.take_succ_cons, List.take_zero, List.drop_succ_cons, List.drop_zero])
  repeat (first | (apply Text.sees (hw := by kernel_rfl); (focus (intro x hx K hK; have hc := CG.out x hx; go_simp; exact hK)); simp only [Act.put, List.getElem_toArray, List.getElem_cons_succ, List.getElem_cons_zero, List.setIfInBounds_toArray, List.set_cons_zero, List.set_cons_succ]) | (apply Text.idle; (focus (intro x hx K hK; go_simp; exact hK)); simp only [Act.put, List.getElem_toArray, List.getElem_cons_succ, List.getElem_cons_zero, List.setIfInBounds_toArray, List.set_cons_zero, List.set_cons_succ]))
  intro U1 hU1
  go_upto_region 7 with (fail)
  replace A3 := A3.old hU1
  replace L6 := L6.carry hU1
  replace L7 := L7.carry hU1
  replace J7 := J7.old hU1
  replace b13 := tstep b13 hU1 b13.size
  clear CG HV hU1
  have CE := Lib.hid fun y (hy : Old U1 y) => (A3.old hy).three
  have c10 := fun y (hy : Old U1 y) => HC.out.c10 s t y (L7.carry hy) (L6.carry hy)
  have c11 := fun y (hy : Old U1 y) => HC.out.c11 y (HR.out.carry (tstep b13 hy b13.size))
  have JH := Lib.hid fun y (hy : Old U1 y) => J7.old hy
  have AH := Lib.hid fun y (hy : Old U1 y) => A3.old hy
  clear L6 L7 J7 A3
  (refine wp_region_plain (Old U1) 40 (Below.refl _ U1) ?_; simp only [List.take_succ_cons, List.take_zero, List.drop_succ_cons, List.drop_zero])
  iterate 14 (first | (apply Text.sees (hw := by kernel_rfl); (focus (intro x hx K hK; have hc := CE.out x hx; go_simp; exact hK)); simp only [Act.put, List.getElem_toArray, List.getElem_cons_succ, List.getElem_cons_zero, List.setIfInBounds_toArray, List.set_cons_zero, List.set_cons_succ]) | (apply Text.idle; (focus (intro x hx K hK; go_simp; exact hK)); simp only [Act.put, List.getElem_toArray, List.getElem_cons_succ, List.getElem_cons_zero, List.setIfInBounds_toArray, List.set_cons_zero, List.set_cons_succ]))
  (refine Text.val (fun x hx => load_job (.tmp 3) rfl rfl (JH.out x hx)) (by kernel_rfl) ?_; simp only [Act.put, List.getElem_toArray, List.getElem_cons_succ, List.getElem_cons_zero, List.setIfInBounds_toArray, List.set_cons_zero, List.set_cons_succ])
  iterate 1 (first | (apply Text.sees (hw := by kernel_rfl); (focus (intro x hx K hK; have hc := CE.out x hx; go_simp; exact hK)); simp only [Act.put, List.getElem_toArray, List.getElem_cons_succ, List.getElem_cons_zero, List.setIfInBounds_toArray, List.set_cons_zero, List.set_cons_succ]) | (apply Text.idle; (focus (intro x hx K hK; go_simp; exact hK)); simp only [Act.put, List.getElem_toArray, List.getElem_cons_succ, List.getElem_cons_zero, List.setIfInBounds_toArray, List.set_cons_zero, List.set_cons_succ]))
  (refine Text.val (fun x hx => load_ajob (.tmp 49) rfl rfl (AH.out x hx)) (by kernel_rfl) ?_; simp only [Act.put, List.getElem_toArray, List.getElem_cons_succ, List.getElem_cons_zero, List.setIfInBounds_toArray, List.set_cons_zero, List.set_cons_succ])
  (refine Text.call (Old.call fun x hx => c10 x hx) (by kernel_rfl) (fun _ => by kernel_rfl) ?_; simp only [Act.put, List.getElem_toArray, List.getElem_cons_succ, List.getElem_cons_zero, List.setIfInBounds_toArray, List.set_cons_zero, List.set_cons_succ])
  iterate 15 (first | (apply Text.sees (hw := by kernel_rfl); (focus (intro x hx K hK; have hc := CE.out x hx; go_simp; exact hK)); simp only [Act.put, List.getElem_toArray, List.getElem_cons_succ, List.getElem_cons_zero, List.setIfInBounds_toArray, List.set_cons_zero, List.set_cons_succ]) | (apply Text.idle; (focus (intro x hx K hK; go_simp; exact hK)); simp only [Act.put, List.getElem_toArray, List.getElem_cons_succ, List.getElem_cons_zero, List.setIfInBounds_toArray, List.set_cons_zero, List.set_cons_succ]))
  (refine Text.call (Old.call fun x hx => c11 x hx) (by kernel_rfl) (fun _ => by kernel_rfl) ?_; simp only [Act.put, List.getElem_toArray, List.getElem_cons_succ, List.getElem_cons_zero, List.setIfInBounds_toArray, List.set_cons_zero, List.set_cons_succ])
  iterate 4 (first | (apply Text.sees (hw := by kernel_rfl); (focus (intro x hx K hK; have hc := CE.out x hx; go_simp; exact hK)); simp only [Act.put, List.getElem_toArray, List.getElem_cons_succ, List.getElem_cons_zero, List.setIfInBounds_toArray, List.set_cons_zero, List.set_cons_succ]) | (apply Text.idle; (focus (intro x hx K hK; go_simp; exact hK)); simp only [Act.put, List.getElem_toArray, List.getElem_cons_succ, List.getElem_cons_zero, List.setIfInBounds_toArray, List.set_cons_zero, List.set_cons_succ]))
  (refine Text.call (Old.call fun x hx => awake17 x) (by kernel_rfl) (fun _ => by kernel_rfl) ?_; simp only [Act.put, List.getElem_toArray, List.getElem_cons_succ, List.getElem_cons_zero, List.setIfInBounds_toArray, List.set_cons_zero, List.set_cons_succ])
  iterate 1 (first | (apply Text.sees (hw := by kernel_rfl); (focus (intro x hx K hK; have hc := CE.out x hx; go_simp; exact hK)); simp only [Act.put, List.getElem_toArray, List.getElem_cons_succ, List.getElem_cons_zero, List.setIfInBounds_toArray, List.set_cons_zero, List.set_cons_succ]) | (apply Text.idle; (focus (intro x hx K hK; go_simp; exact hK)); simp only [Act.put, List.getElem_toArray, List.getElem_cons_succ, List.getElem_cons_zero, List.setIfInBounds_toArray, List.set_cons_zero, List.set_cons_succ]))
  intro z hz
  go_wp2
  go_ret
  exact ⟨rfl, tstep b13 hz b13.size⟩
theorem reads_short (a : Option Addr) (c : Nat) (bs : List Int) (w : World) (hl : bs.length ≤ 2000) (hB : Byt bs) (hr : Row w a c bs) :
    Calls Try.prog 3 #[.slice a bs.length c] w fun e w' => e = .returned (.bool true) ∧ Below w.heap.size w w' := by
  have hl' : bs.length ≤ 1000000 := by omega
  have hf := decJ_fits hB hl'
  have C : TelC bs a c (decJ bs) (endR (jobR bs 0 false).2.2 (jobR bs 0 false).2.1 bs.length) (isB (okB bs)) (nameP (partJ bs)) (jobR bs 0 false).2.1 (begB bs) :=
    ⟨fun y hy => dJob_any bs a c y hl' hB hy, fun y hy => dWhere_any bs a c y hl' hB hy, fun y hy => rans_any bs a c y hl hB hy, fun y hy => dBegins_any bs a c y hl' hB hy, fun s t y hs ht => by
      have := rsame_room (decJ bs) (decJ bs) s t y hs ht hf.room hf.room
      rwa [sameJ_refl] at this⟩
  have hEK : (endR (jobR bs 0 false).2.2 (jobR bs 0 false).2.1 bs.length = 0 ∧ isB (okB bs) = true) ∨ (endR (jobR bs 0 false).2.2 (jobR bs 0 false).2.1 bs.length = 2 ∧ isB (okB bs) = false) := by
    by_cases h : okB bs
    · exact .inl ⟨endR_ok h, isB_yes h⟩
    · exact .inr ⟨endR_no h, isB_no h⟩
  generalize endR (jobR bs 0 false).2.2 (jobR bs 0 false).2.1 bs.length = E at *
  generalize isB (okB bs) = K at *
  generalize decJ bs = J at *
  generalize nameP (partJ bs) = S at *
  generalize (jobR bs 0 false).2.1 = A at *
  rcases Nat.lt_or_ge bs.length 4 with h | h
  · rw [beg_short (by omega)] at C
    rcases hEK with ⟨rfl, rfl⟩ | ⟨rfl, rfl⟩
    · exact reads_w1 a c bs w hl hB hr J S A C (by omega)
    · exact reads_w2 a c bs w hl hB hr J S A C (by omega)
  · have hs := beg_long h hB
    generalize begB bs = G at *
    cases G
    · rcases hEK with ⟨rfl, rfl⟩ | ⟨rfl, rfl⟩
      · exact reads_w5 a c bs w hl hB hr J S A C h hs
      · exact reads_w6 a c bs w hl hB hr J S A C h hs
    · rcases hEK with ⟨rfl, rfl⟩ | ⟨rfl, rfl⟩
      · exact reads_w3 a c bs w hl hB hr J S A C h hs
      · exact reads_w4 a c bs w hl hB hr J S A C h hs
theorem decodeReads_walk (a : Option Addr) (len cap : Nat) (zs : List Int) (w : World) (h : IsRow .u8 w a len cap zs) :
    Calls Try.prog 3 #[.slice a len cap] w fun e w' => e = .returned (.bool true) ∧ Below w.heap.size w w' := by
  have h' : IsRowV .u8 w a len cap zs := h
  rcases Nat.lt_or_ge 2000 len with hl | hl
  · exact reads_long a len cap w hl h'.le
  · obtain ⟨l, rfl, hr, hB⟩ := h'.row
    exact reads_short a cap l w hl hB hr
end Go.Proofs.Ytjfjekncmejfpaa
