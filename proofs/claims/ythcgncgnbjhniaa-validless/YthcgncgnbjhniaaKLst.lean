/- The walk of ValidLess. The walk of ValidLess: the way through. -/
import Derived.Test.YthcgncgnbjhniaaKLem
import Derived.Test.YthcgncgnbjhniaaDetZ
import Derived.Test.YthcgncgnbjhniaaIRef
namespace Go.Proofs.Ythcgncgnbjhniaa
open Go.RowKit
set_option maxRecDepth 20000
set_option linter.unusedVariables false
set_option linter.unusedSimpArgs false

theorem cut_of {t e : TypeId} {sz : Nat} (ht : Try.prog.underlying t = some (.slice (Try.prog.elem t))) (hs : ∀ x, Sem.run Try.prog (sizeOf (Try.prog.elem t)) x = .ok sz x) (a : Option Addr) (n cap : Nat) (i : Nat) (hi : i ≤ cap) (hc : cap ≤ maxLen) :
    ∀ x, Sem.run Try.prog (Instr.slice t (.slice a n cap) none (some (.int .i64 i)) none) x = .ok (.slice a i cap) x := by
  intro x
  rw [run_slice_h _ t a n cap ht .i64 i (by omega) (by omega)]
  rw [hs]
  simp [Result.andThen, sliced]
  intro _
  cases a <;> simp [Addr.add]
theorem cut_I (a : Option Addr) (n cap : Nat) (i : Nat) (hi : i ≤ cap) (hc : cap ≤ maxLen) : ∀ x, Sem.run Try.prog (Instr.slice 22 (.slice a n cap) none (some (.int .i64 i)) none) x = .ok (.slice a i cap) x := cut_of (t := 22) (e := 39) (sz := 7) Try.underlying22 (fun x => by kernel_rfl) a n cap i hi hc
theorem cut_N (a : Option Addr) (n cap : Nat) (i : Nat) (hi : i ≤ cap) (hc : cap ≤ maxLen) : ∀ x, Sem.run Try.prog (Instr.slice 32 (.slice a n cap) none (some (.int .i64 i)) none) x = .ok (.slice a i cap) x := cut_of (t := 32) (e := 37) (sz := 2) Try.underlying32 (fun x => by kernel_rfl) a n cap i hi hc
theorem cut_F (a : Option Addr) (n cap : Nat) (i : Nat) (hi : i ≤ cap) (hc : cap ≤ maxLen) : ∀ x, Sem.run Try.prog (Instr.slice 33 (.slice a n cap) none (some (.int .i64 i)) none) x = .ok (.slice a i cap) x := cut_of (t := 33) (e := 41) (sz := 3) Try.underlying33 (fun x => by kernel_rfl) a n cap i hi hc
theorem exec_cut {o : Oper} {b : Act} {s r : Nat} {a : Option Addr} {n cap i : Nat} (ho : o.op = .slice 22 (.tmp s) none (some (.tmp r)) none) (x : World) (hs : b.tmps.getD s undef = .slice a n cap) (hr : b.tmps.getD r undef = .int .i64 i) (hi : i ≤ cap) (hc : cap ≤ maxLen) :
    (execOp b.eval o).run Try.prog x = .ok (.value (.slice a i cap)) x := by
  have e1 : b.eval (.tmp s) = .slice a n cap := hs
  have e2 : b.eval (.tmp r) = .int .i64 i := hr
  unfold execOp
  simp only [ho, e1, e2, Option.map_some, Option.map_none]
  have h := cut_I a n cap i hi hc x
  rw [Sem.run_bind, run_sliceAt_slice _ 22 _ _ _ _ Try.underlying22, h]
  rfl
theorem exec_fld {o : Oper} {b : Act} {s p : Nat} (ho : o.op = .fieldAddr 35 (.tmp s) 1) (x : World) (hs : b.tmps.getD s undef = .pointer (some ⟨p, 0, none⟩)) :
    (execOp b.eval o).run Try.prog x = .ok (.value (.pointer (some ⟨p, 19, none⟩))) x := by
  have e1 : b.eval (.tmp s) = .pointer (some ⟨p, 0, none⟩) := hs
  unfold execOp
  simp only [ho, e1]
  go_simp
theorem exec_fld0 {o : Oper} {b : Act} {s p : Nat} (ho : o.op = .fieldAddr 35 (.tmp s) 0) (x : World) (hs : b.tmps.getD s undef = .pointer (some ⟨p, 0, none⟩)) :
    (execOp b.eval o).run Try.prog x = .ok (.value (.pointer (some ⟨p, 0, none⟩))) x := by
  have e1 : b.eval (.tmp s) = .pointer (some ⟨p, 0, none⟩) := hs
  unfold execOp
  simp only [ho, e1]
  go_simp
theorem exec_ld {o : Oper} {b : Act} {s p i : Nat} {v : Value} (ho : o.op = .load 22 (.tmp s)) (x : World) (hs : b.tmps.getD s undef = .pointer (some ⟨p, i, none⟩)) (hc : x.cell? ⟨p, i, none⟩ = some v) :
    (execOp b.eval o).run Try.prog x = .ok (.value v) x := by
  have e1 : b.eval (.tmp s) = .pointer (some ⟨p, i, none⟩) := hs
  unfold execOp
  simp only [ho, e1]
  go_simp
def lessC (j : J4) (s : S3) (n : Nat) : Array Value := geoC j.g ++ #[.slice s.ia n s.ic, .slice none 0 0, .slice none 0 0]
def lessD (i : Nat) : Nat := [26, 27, 28, 29, 30, 31, 32, 5].getD i 0
/-- What each operation of the statement leaves. -/
def lessF (p : Nat) (j : J4) (s : S3) (n B : Nat) : Nat → Value → World → Prop
  | 0, v, _ => v = .pointer (some ⟨p, 0, none⟩)
  | 1, v, _ => v = .agg (geoC j.g)
  | 2, v, _ => v = .pointer (some ⟨p, 19, none⟩)
  | 3, v, _ => v = .slice s.ia j.items.length s.ic
  | 4, v, _ => v = .int .i64 n
  | 5, v, _ => v = .slice s.ia n s.ic
  | 6, v, _ => v = .agg (lessC j s n)
  | 7, v, x => ∃ q, v = .pointer (some ⟨q, 0, none⟩) ∧ B ≤ q ∧ JobAt x q zeroJ zeroS4
  | _, _, _ => True
theorem lessF_old (p : Nat) (j : J4) (s : S3) (n B : Nat) : ∀ i v x y, lessF p j s n B i v x → Old x y → lessF p j s n B i v y := by
  intro i v x y h hx
  match i, h with
  | 0, h => exact h
  | 1, h => exact h
  | 2, h => exact h
  | 3, h => exact h
  | 4, h => exact h
  | 5, h => exact h
  | 6, h => exact h
  | 7, ⟨q, e, hB, h⟩ => exact ⟨q, e, hB, h.old hx⟩
  | _ + 8, h => exact trivial
theorem dep_of {ops : Array Edge} {j : Nat} (h : (ops.any fun e => Region.binds .any e && decide (e.on = j)) = true) : ∃ e ∈ ops, Region.binds .any e = true ∧ e.on = j := by
  obtain ⟨e, he, hb⟩ := Array.any_eq_true'.1 h
  simp only [Bool.and_eq_true, decide_eq_true_eq] at hb
  exact ⟨e, he, hb⟩
theorem exec_newjob {o : Oper} {b : Act} (ho : o.op = .alloc 35) (z : World) : (execOp b.eval o).run Try.prog z = .ok (.value (.pointer (some ⟨z.heap.size, 0, none⟩))) (z.alloc (.cells (jobC zeroJ zeroS4) 35)) := by
  unfold execOp
  simp only [ho]
  simp [go_sem, newVar, jobC, geoC, zeroJ, zeroG4, zeroS4]
theorem exec_move {o : Oper} {b : Act} {s : Nat} {v : Value} (ho : o.op = .move (.tmp s)) (x : World) (hv : b.tmps.getD s undef = v) : (execOp b.eval o).run Try.prog x = .ok (.value v) x := by
  have e : b.eval (.tmp s) = v := hv
  unfold execOp
  simp only [ho, e]
  rfl
theorem less_job {j : J4} {s : S3} {n : Nat} (hn : n ≤ j.items.length) : lessC j s n = jobC (cutJ j n 0 0) ⟨s.ia, s.ic, none, 0, none, 0⟩ := by
  unfold jobC lessC
  rw [show (cutJ j n 0 0).items.length = n from take_len hn]
  rfl
/-- Where the walk stands behind the law's first statements: the ways out. -/
theorem less_out (j : J4) (s : S3) (n : Int) (w : World) (hj : Lists w j s) (h : ¬ Few j ∨ Few j ∧ n < 0 ∨ Few j ∧ 0 ≤ n ∧ (j.items.length : Int) < n ∨ Few j ∧ 0 ≤ n ∧ n ≤ (j.items.length : Int) ∧ rightK j = false) :
    Calls Try.prog 4 #[.agg (jobC j s), .int .i64 n] w fun e w' => e = .returned (.bool true) ∧ Below w.heap.size w w' := by
  have DA := job_new w j s
  have b0 := tbel1 w (.cells (jobC j s) 35)
  have ca := Lib.hid awake15
  have CE := Lib.hid fun x (hx : Old (w.alloc (.cells (jobC j s) 35)) x) => (DA.old hx).three
  have cL := Lib.hid fun x (hx : Below w.heap.size w x) => large_is j s x (hj.carry hx)
  rcases h with h | ⟨f, h⟩ | ⟨f, h0, h⟩ | ⟨f, h0, h1, h⟩
  · rw [isB_yes h] at cL
    clear hj h
    go_enter Try.func4, Try.ntmps4
    go_upto_region 1 with (fail)
    generalize w.alloc _ = U at *
    (refine wp_region_plain (Old U) 17 (Below.refl _ U) ?_; simp only [List.take_succ_cons, List.take_zero, List.drop_succ_cons, List.drop_zero])
    (refine Text.val (fun x hx => load_job (.tmp 2) rfl rfl (DA.old hx)) (by kernel_rfl) ?_; simp only [Act.put, List.getElem_toArray, List.getElem_cons_succ, List.getElem_cons_zero, List.setIfInBounds_toArray, List.set_cons_zero, List.set_cons_succ])
    (refine Text.call (Old.call fun x hx => cL.out x (tstep b0 hx b0.size)) (by kernel_rfl) (fun _ => by kernel_rfl) ?_; simp only [Act.put, List.getElem_toArray, List.getElem_cons_succ, List.getElem_cons_zero, List.setIfInBounds_toArray, List.set_cons_zero, List.set_cons_succ])
    repeat (first | (apply Text.sees (hw := by kernel_rfl); (focus (intro x hx K hK; have hc := (fun _ _ => trivial) x hx; go_simp; exact hK)); simp only [Act.put, List.getElem_toArray, List.getElem_cons_succ, List.getElem_cons_zero, List.setIfInBounds_toArray, List.set_cons_zero, List.set_cons_succ]) | (apply Text.idle; (focus (intro x hx K hK; go_simp; exact hK)); simp only [Act.put, List.getElem_toArray, List.getElem_cons_succ, List.getElem_cons_zero, List.setIfInBounds_toArray, List.set_cons_zero, List.set_cons_succ]))
    intro x hx
    go_wp2_with fail
    refine (ca.out _).mono ?_
    rintro e z ⟨rfl, hz⟩
    go_wp2
    go_ret
    exact ⟨rfl, tstep (tstep b0 hx b0.size) hz (tstep b0 hx b0.size).size⟩
  · rw [isB_no (not_not_intro f)] at cL
    have hd : decide (n < 0) = true := decide_eq_true h
    clear hj
    go_enter Try.func4, Try.ntmps4
    go_upto_region 1 with (fail)
    generalize w.alloc _ = U at *
    (refine wp_region_plain (Old U) 17 (Below.refl _ U) ?_; simp only [List.take_succ_cons, List.take_zero, List.drop_succ_cons, List.drop_zero])
    (refine Text.val (fun x hx => load_job (.tmp 2) rfl rfl (DA.old hx)) (by kernel_rfl) ?_; simp only [Act.put, List.getElem_toArray, List.getElem_cons_succ, List.getElem_cons_zero, List.setIfInBounds_toArray, List.set_cons_zero, List.set_cons_succ])
    (refine Text.call (Old.call fun x hx => cL.out x (tstep b0 hx b0.size)) (by kernel_rfl) (fun _ => by kernel_rfl) ?_; simp only [Act.put, List.getElem_toArray, List.getElem_cons_succ, List.getElem_cons_zero, List.setIfInBounds_toArray, List.set_cons_zero, List.set_cons_succ])
    repeat (first | (apply Text.sees (hw := by kernel_rfl); (focus (intro x hx K hK; have hc := (fun _ _ => hd) x hx; go_simp; exact hK)); simp only [Act.put, List.getElem_toArray, List.getElem_cons_succ, List.getElem_cons_zero, List.setIfInBounds_toArray, List.set_cons_zero, List.set_cons_succ]) | (apply Text.idle; (focus (intro x hx K hK; go_simp; exact hK)); simp only [Act.put, List.getElem_toArray, List.getElem_cons_succ, List.getElem_cons_zero, List.setIfInBounds_toArray, List.set_cons_zero, List.set_cons_succ]))
    intro x hx
    go_wp2_with fail
    refine (ca.out _).mono ?_
    rintro e z ⟨rfl, hz⟩
    go_wp2
    go_ret
    exact ⟨rfl, tstep (tstep b0 hx b0.size) hz (tstep b0 hx b0.size).size⟩
  · rw [isB_no (not_not_intro f)] at cL
    have hd : decide (n < 0) = false := decide_eq_false (by omega)
    have hd2 : decide ((j.items.length : Int) < n) = true := decide_eq_true h
    have CE2 := Lib.hid fun x hx => And.intro hd (And.intro hd2 (CE.out x hx))
    clear hj
    go_enter Try.func4, Try.ntmps4
    go_upto_region 1 with (fail)
    generalize w.alloc _ = U at *
    (refine wp_region_plain (Old U) 17 (Below.refl _ U) ?_; simp only [List.take_succ_cons, List.take_zero, List.drop_succ_cons, List.drop_zero])
    (refine Text.val (fun x hx => load_job (.tmp 2) rfl rfl (DA.old hx)) (by kernel_rfl) ?_; simp only [Act.put, List.getElem_toArray, List.getElem_cons_succ, List.getElem_cons_zero, List.setIfInBounds_toArray, List.set_cons_zero, List.set_cons_succ])
    (refine Text.call (Old.call fun x hx => cL.out x (tstep b0 hx b0.size)) (by kernel_rfl) (fun _ => by kernel_rfl) ?_; simp only [Act.put, List.getElem_toArray, List.getElem_cons_succ, List.getElem_cons_zero, List.setIfInBounds_toArray, List.set_cons_zero, List.set_cons_succ])
    repeat (first | (apply Text.sees (hw := by kernel_rfl); (focus (intro x hx K hK; have hc := CE2.out x hx; go_simp; exact hK)); simp only [Act.put, List.getElem_toArray, List.getElem_cons_succ, List.getElem_cons_zero, List.setIfInBounds_toArray, List.set_cons_zero, List.set_cons_succ]) | (apply Text.idle; (focus (intro x hx K hK; go_simp; exact hK)); simp only [Act.put, List.getElem_toArray, List.getElem_cons_succ, List.getElem_cons_zero, List.setIfInBounds_toArray, List.set_cons_zero, List.set_cons_succ]))
    intro x hx
    go_wp2_with fail
    refine (ca.out _).mono ?_
    rintro e z ⟨rfl, hz⟩
    go_wp2
    go_ret
    exact ⟨rfl, tstep (tstep b0 hx b0.size) hz (tstep b0 hx b0.size).size⟩
  · rw [isB_no (not_not_intro f)] at cL
    have cR := Lib.hid fun x (hx : Below w.heap.size w x) => (h ▸ vright_any j s x (hj.carry hx) (.inl f) : Calls Try.prog 10 #[.agg (jobC j s)] x fun e w' => e = .returned (.bool false) ∧ Below x.heap.size x w')
    have hd : decide (n < 0) = false := decide_eq_false (by omega)
    have hd2 : decide ((j.items.length : Int) < n) = false := decide_eq_false (by omega)
    have CE2 := Lib.hid fun x hx => And.intro hd (And.intro hd2 (CE.out x hx))
    clear hj h
    go_enter Try.func4, Try.ntmps4
    go_upto_region 1 with (fail)
    generalize w.alloc _ = U at *
    (refine wp_region_plain (Old U) 17 (Below.refl _ U) ?_; simp only [List.take_succ_cons, List.take_zero, List.drop_succ_cons, List.drop_zero])
    (refine Text.val (fun x hx => load_job (.tmp 2) rfl rfl (DA.old hx)) (by kernel_rfl) ?_; simp only [Act.put, List.getElem_toArray, List.getElem_cons_succ, List.getElem_cons_zero, List.setIfInBounds_toArray, List.set_cons_zero, List.set_cons_succ])
    (refine Text.call (Old.call fun x hx => cL.out x (tstep b0 hx b0.size)) (by kernel_rfl) (fun _ => by kernel_rfl) ?_; simp only [Act.put, List.getElem_toArray, List.getElem_cons_succ, List.getElem_cons_zero, List.setIfInBounds_toArray, List.set_cons_zero, List.set_cons_succ])
    (apply Text.sees (hw := by kernel_rfl); (focus (intro x hx K hK; have hc := CE2.out x hx; go_simp; exact hK)); simp only [Act.put, List.getElem_toArray, List.getElem_cons_succ, List.getElem_cons_zero, List.setIfInBounds_toArray, List.set_cons_zero, List.set_cons_succ])
    (apply Text.sees (hw := by kernel_rfl); (focus (intro x hx K hK; have hc := CE2.out x hx; go_simp; exact hK)); simp only [Act.put, List.getElem_toArray, List.getElem_cons_succ, List.getElem_cons_zero, List.setIfInBounds_toArray, List.set_cons_zero, List.set_cons_succ])
    (apply Text.sees (hw := by kernel_rfl); (focus (intro x hx K hK; have hc := CE2.out x hx; go_simp; exact hK)); simp only [Act.put, List.getElem_toArray, List.getElem_cons_succ, List.getElem_cons_zero, List.setIfInBounds_toArray, List.set_cons_zero, List.set_cons_succ])
    (apply Text.sees (hw := by kernel_rfl); (focus (intro x hx K hK; have hc := CE2.out x hx; go_simp; exact hK)); simp only [Act.put, List.getElem_toArray, List.getElem_cons_succ, List.getElem_cons_zero, List.setIfInBounds_toArray, List.set_cons_zero, List.set_cons_succ])
    (apply Text.sees (hw := by kernel_rfl); (focus (intro x hx K hK; have hc := CE2.out x hx; go_simp; exact hK)); simp only [Act.put, List.getElem_toArray, List.getElem_cons_succ, List.getElem_cons_zero, List.setIfInBounds_toArray, List.set_cons_zero, List.set_cons_succ])
    (apply Text.sees (hw := by kernel_rfl); (focus (intro x hx K hK; have hc := CE2.out x hx; go_simp; exact hK)); simp only [Act.put, List.getElem_toArray, List.getElem_cons_succ, List.getElem_cons_zero, List.setIfInBounds_toArray, List.set_cons_zero, List.set_cons_succ])
    (apply Text.sees (hw := by kernel_rfl); (focus (intro x hx K hK; have hc := CE2.out x hx; go_simp; exact hK)); simp only [Act.put, List.getElem_toArray, List.getElem_cons_succ, List.getElem_cons_zero, List.setIfInBounds_toArray, List.set_cons_zero, List.set_cons_succ])
    (apply Text.sees (hw := by kernel_rfl); (focus (intro x hx K hK; have hc := CE2.out x hx; go_simp; exact hK)); simp only [Act.put, List.getElem_toArray, List.getElem_cons_succ, List.getElem_cons_zero, List.setIfInBounds_toArray, List.set_cons_zero, List.set_cons_succ])
    (apply Text.sees (hw := by kernel_rfl); (focus (intro x hx K hK; have hc := CE2.out x hx; go_simp; exact hK)); simp only [Act.put, List.getElem_toArray, List.getElem_cons_succ, List.getElem_cons_zero, List.setIfInBounds_toArray, List.set_cons_zero, List.set_cons_succ])
    (apply Text.sees (hw := by kernel_rfl); (focus (intro x hx K hK; have hc := CE2.out x hx; go_simp; exact hK)); simp only [Act.put, List.getElem_toArray, List.getElem_cons_succ, List.getElem_cons_zero, List.setIfInBounds_toArray, List.set_cons_zero, List.set_cons_succ])
    (apply Text.sees (hw := by kernel_rfl); (focus (intro x hx K hK; have hc := CE2.out x hx; go_simp; exact hK)); simp only [Act.put, List.getElem_toArray, List.getElem_cons_succ, List.getElem_cons_zero, List.setIfInBounds_toArray, List.set_cons_zero, List.set_cons_succ])
    (apply Text.sees (hw := by kernel_rfl); (focus (intro x hx K hK; have hc := CE2.out x hx; go_simp; exact hK)); simp only [Act.put, List.getElem_toArray, List.getElem_cons_succ, List.getElem_cons_zero, List.setIfInBounds_toArray, List.set_cons_zero, List.set_cons_succ])
    (refine Text.val (fun x hx => load_job (.tmp 2) rfl rfl (DA.old hx)) (by kernel_rfl) ?_; simp only [Act.put, List.getElem_toArray, List.getElem_cons_succ, List.getElem_cons_zero, List.setIfInBounds_toArray, List.set_cons_zero, List.set_cons_succ])
    (refine Text.call (Old.call fun x hx => cR.out x (tstep b0 hx b0.size)) (by kernel_rfl) (fun _ => by kernel_rfl) ?_; simp only [Act.put, List.getElem_toArray, List.getElem_cons_succ, List.getElem_cons_zero, List.setIfInBounds_toArray, List.set_cons_zero, List.set_cons_succ])
    repeat (first | (apply Text.sees (hw := by kernel_rfl); (focus (intro x hx K hK; have hc := CE2.out x hx; go_simp; exact hK)); simp only [Act.put, List.getElem_toArray, List.getElem_cons_succ, List.getElem_cons_zero, List.setIfInBounds_toArray, List.set_cons_zero, List.set_cons_succ]) | (apply Text.idle; (focus (intro x hx K hK; go_simp; exact hK)); simp only [Act.put, List.getElem_toArray, List.getElem_cons_succ, List.getElem_cons_zero, List.setIfInBounds_toArray, List.set_cons_zero, List.set_cons_succ]))
    intro x hx
    go_wp2_with fail
    refine (ca.out _).mono ?_
    rintro e z ⟨rfl, hz⟩
    go_wp2
    go_ret
    exact ⟨rfl, tstep (tstep b0 hx b0.size) hz (tstep b0 hx b0.size).size⟩
end Go.Proofs.Ythcgncgnbjhniaa
namespace Go.Proofs.Ythcgncgnbjhniaa
open Go.RowKit
set_option maxRecDepth 20000
set_option linter.unusedVariables false
set_option linter.unusedSimpArgs false

theorem CutS.notes {s t : S3} {N M : Nat} (h : CutS s t N M) : CutS s { t with na := s.na, nc := s.nc } (N + 1) M := ⟨h.ia, h.ic, .inr ⟨rfl, rfl⟩, h.fa⟩
theorem CutS.floats {s t : S3} {N M : Nat} (h : CutS s t N M) : CutS s { t with fa := s.fa, fc := s.fc } N (M + 1) := ⟨h.ia, h.ic, h.na, .inr ⟨rfl, rfl⟩⟩
theorem cut_note {w : World} {q n N M : Nat} {j : J4} {s t : S3} (h : JobAt w q (cutJ j n N M) t) (hN : N + 1 ≤ j.notes.length) : JobAt (w.setCell ⟨q, 20, none⟩ (.slice s.na (N + 1) s.nc)) q (cutJ j n (N + 1) M) { t with na := s.na, nc := s.nc } := by
  have := h.newN (j.notes.take (N + 1)) s.na s.nc
  rw [take_len hN] at this
  exact this
theorem cut_float {w : World} {q n N M : Nat} {j : J4} {s t : S3} (h : JobAt w q (cutJ j n N M) t) (hM : M + 1 ≤ j.floats.length) : JobAt (w.setCell ⟨q, 21, none⟩ (.slice s.fa (M + 1) s.fc)) q (cutJ j n N (M + 1)) { t with fa := s.fa, fc := s.fc } := by
  have := h.newF (j.floats.take (M + 1)) s.fa s.fc
  rw [take_len hM] at this
  exact this
/-- What stands in the loop. -/
structure LesS (w V : World) (j : J4) (s : S3) (q n N M : Nat) : Prop where
  job : JobAt V w.heap.size j s
  cut : ∃ t, JobAt V q (cutJ j n N M) t ∧ CutS s t N M
  bel : Below w.heap.size w V
  gt : w.heap.size < q
theorem LesS.old {w V x : World} {j : J4} {s : S3} {q n N M : Nat} (h : LesS w V j s q n N M) (hx : Old V x) : LesS w x j s q n N M := by
  obtain ⟨h1, ⟨t, h2, h3⟩, h4, h5⟩ := h
  exact ⟨h1.old hx, ⟨t, h2.old hx, h3⟩, tstep h4 hx h4.size, h5⟩
theorem LesS.note {w V : World} {j : J4} {s : S3} {q n N M : Nat} (h : LesS w V j s q n N M) (hN : N + 1 ≤ j.notes.length) : LesS w (V.setCell ⟨q, 20, none⟩ (.slice s.na (N + 1) s.nc)) j s q n (N + 1) M := by
  obtain ⟨h1, ⟨t, h2, h3⟩, h4, h5⟩ := h
  exact ⟨Blk.other h1 (by omega) 20 _, ⟨_, cut_note h2 hN, h3.notes⟩, h4.setCell (p := ⟨q, 20, none⟩) (by simp; omega) _, h5⟩
theorem LesS.float {w V : World} {j : J4} {s : S3} {q n N M : Nat} (h : LesS w V j s q n N M) (hM : M + 1 ≤ j.floats.length) : LesS w (V.setCell ⟨q, 21, none⟩ (.slice s.fa (M + 1) s.fc)) j s q n N (M + 1) := by
  obtain ⟨h1, ⟨t, h2, h3⟩, h4, h5⟩ := h
  exact ⟨Blk.other h1 (by omega) 21 _, ⟨_, cut_float h2 hM, h3.floats⟩, h4.setCell (p := ⟨q, 21, none⟩) (by simp; omega) _, h5⟩
set_option maxHeartbeats 4000000 in
theorem less_in (j : J4) (s : S3) (n : Nat) (z : Int) (hz : z = (n : Int)) (w : World) (hj : Lists w j s) (f : Few j) (hn : n ≤ j.items.length) (hr : rightK j = true) :
    Calls Try.prog 4 #[.agg (jobC j s), .int .i64 z] w fun e w' => e = .returned (.bool true) ∧ Below w.heap.size w w' := by
  have DA := job_new w j s
  have b0 := tbel1 w (.cells (jobC j s) 35)
  have ca := Lib.hid awake15
  have CE := Lib.hid fun x (hx : Old (w.alloc (.cells (jobC j s) 35)) x) => (DA.old hx).three
  have cL := Lib.hid fun x (hx : Below w.heap.size w x) => large_is j s x (hj.carry hx)
  rw [isB_no (not_not_intro f)] at cL
  have cR := Lib.hid fun x (hx : Below w.heap.size w x) => (hr ▸ vright_any j s x (hj.carry hx) (.inl f) : Calls Try.prog 10 #[.agg (jobC j s)] x fun e w' => e = .returned (.bool true) ∧ Below x.heap.size x w')
  have hd : decide (z < 0) = false := decide_eq_false (by omega)
  have hd2 : decide ((j.items.length : Int) < z) = false := decide_eq_false (by omega)
  have CE2 := Lib.hid fun x hx => And.intro hd (And.intro hd2 (CE.out x hx))
  have HL := Lib.hid hj
  have HR := Lib.hid hr
  have HF := Lib.hid f
  have HQ := Lib.hid (And.intro hn (And.intro hz (And.intro hj.ic (And.intro hj.nc hj.fc))))
  clear hj hr hd hd2 f hn hz
  go_enter Try.func4, Try.ntmps4
  go_upto_region 1 with (fail)
  generalize w.alloc _ = U at *
  (refine wp_region_plain (Old U) 17 (Below.refl _ U) ?_; simp only [List.take_succ_cons, List.take_zero, List.drop_succ_cons, List.drop_zero])
  (refine Text.val (fun x hx => load_job (.tmp 2) rfl rfl (DA.old hx)) (by kernel_rfl) ?_; simp only [Act.put, List.getElem_toArray, List.getElem_cons_succ, List.getElem_cons_zero, List.setIfInBounds_toArray, List.set_cons_zero, List.set_cons_succ])
  (refine Text.call (Old.call fun x hx => cL.out x (tstep b0 hx b0.size)) (by kernel_rfl) (fun _ => by kernel_rfl) ?_; simp only [Act.put, List.getElem_toArray, List.getElem_cons_succ, List.getElem_cons_zero, List.setIfInBounds_toArray, List.set_cons_zero, List.set_cons_succ])
  (apply Text.sees (hw := by kernel_rfl); (focus (intro x hx K hK; have hc := CE2.out x hx; go_simp; exact hK)); simp only [Act.put, List.getElem_toArray, List.getElem_cons_succ, List.getElem_cons_zero, List.setIfInBounds_toArray, List.set_cons_zero, List.set_cons_succ])
  (apply Text.sees (hw := by kernel_rfl); (focus (intro x hx K hK; have hc := CE2.out x hx; go_simp; exact hK)); simp only [Act.put, List.getElem_toArray, List.getElem_cons_succ, List.getElem_cons_zero, List.setIfInBounds_toArray, List.set_cons_zero, List.set_cons_succ])
  (apply Text.sees (hw := by kernel_rfl); (focus (intro x hx K hK; have hc := CE2.out x hx; go_simp; exact hK)); simp only [Act.put, List.getElem_toArray, List.getElem_cons_succ, List.getElem_cons_zero, List.setIfInBounds_toArray, List.set_cons_zero, List.set_cons_succ])
  (apply Text.sees (hw := by kernel_rfl); (focus (intro x hx K hK; have hc := CE2.out x hx; go_simp; exact hK)); simp only [Act.put, List.getElem_toArray, List.getElem_cons_succ, List.getElem_cons_zero, List.setIfInBounds_toArray, List.set_cons_zero, List.set_cons_succ])
  (apply Text.sees (hw := by kernel_rfl); (focus (intro x hx K hK; have hc := CE2.out x hx; go_simp; exact hK)); simp only [Act.put, List.getElem_toArray, List.getElem_cons_succ, List.getElem_cons_zero, List.setIfInBounds_toArray, List.set_cons_zero, List.set_cons_succ])
  (apply Text.sees (hw := by kernel_rfl); (focus (intro x hx K hK; have hc := CE2.out x hx; go_simp; exact hK)); simp only [Act.put, List.getElem_toArray, List.getElem_cons_succ, List.getElem_cons_zero, List.setIfInBounds_toArray, List.set_cons_zero, List.set_cons_succ])
  (apply Text.sees (hw := by kernel_rfl); (focus (intro x hx K hK; have hc := CE2.out x hx; go_simp; exact hK)); simp only [Act.put, List.getElem_toArray, List.getElem_cons_succ, List.getElem_cons_zero, List.setIfInBounds_toArray, List.set_cons_zero, List.set_cons_succ])
  (apply Text.sees (hw := by kernel_rfl); (focus (intro x hx K hK; have hc := CE2.out x hx; go_simp; exact hK)); simp only [Act.put, List.getElem_toArray, List.getElem_cons_succ, List.getElem_cons_zero, List.setIfInBounds_toArray, List.set_cons_zero, List.set_cons_succ])
  (apply Text.sees (hw := by kernel_rfl); (focus (intro x hx K hK; have hc := CE2.out x hx; go_simp; exact hK)); simp only [Act.put, List.getElem_toArray, List.getElem_cons_succ, List.getElem_cons_zero, List.setIfInBounds_toArray, List.set_cons_zero, List.set_cons_succ])
  (apply Text.sees (hw := by kernel_rfl); (focus (intro x hx K hK; have hc := CE2.out x hx; go_simp; exact hK)); simp only [Act.put, List.getElem_toArray, List.getElem_cons_succ, List.getElem_cons_zero, List.setIfInBounds_toArray, List.set_cons_zero, List.set_cons_succ])
  (apply Text.sees (hw := by kernel_rfl); (focus (intro x hx K hK; have hc := CE2.out x hx; go_simp; exact hK)); simp only [Act.put, List.getElem_toArray, List.getElem_cons_succ, List.getElem_cons_zero, List.setIfInBounds_toArray, List.set_cons_zero, List.set_cons_succ])
  (apply Text.sees (hw := by kernel_rfl); (focus (intro x hx K hK; have hc := CE2.out x hx; go_simp; exact hK)); simp only [Act.put, List.getElem_toArray, List.getElem_cons_succ, List.getElem_cons_zero, List.setIfInBounds_toArray, List.set_cons_zero, List.set_cons_succ])
  (refine Text.val (fun x hx => load_job (.tmp 2) rfl rfl (DA.old hx)) (by kernel_rfl) ?_; simp only [Act.put, List.getElem_toArray, List.getElem_cons_succ, List.getElem_cons_zero, List.setIfInBounds_toArray, List.set_cons_zero, List.set_cons_succ])
  (refine Text.call (Old.call fun x hx => cR.out x (tstep b0 hx b0.size)) (by kernel_rfl) (fun _ => by kernel_rfl) ?_; simp only [Act.put, List.getElem_toArray, List.getElem_cons_succ, List.getElem_cons_zero, List.setIfInBounds_toArray, List.set_cons_zero, List.set_cons_succ])
  repeat (first | (apply Text.sees (hw := by kernel_rfl); (focus (intro x hx K hK; have hc := CE2.out x hx; go_simp; exact hK)); simp only [Act.put, List.getElem_toArray, List.getElem_cons_succ, List.getElem_cons_zero, List.setIfInBounds_toArray, List.set_cons_zero, List.set_cons_succ]) | (apply Text.idle; (focus (intro x hx K hK; go_simp; exact hK)); simp only [Act.put, List.getElem_toArray, List.getElem_cons_succ, List.getElem_cons_zero, List.setIfInBounds_toArray, List.set_cons_zero, List.set_cons_succ]))
  intro x hx
  replace DA := DA.old hx
  replace b0 := tstep b0 hx b0.size
  clear hx CE CE2 cL cR
  go_upto_region 3 with (fail)
  obtain ⟨hn, hz, q1, q2, q3⟩ := HQ.out
  refine wp_region_facts 8 lessD (lessF w.heap.size j s n x.heap.size) (by kernel_rfl) (by simp) (by kernel_rfl) (lessF_old _ _ _ _ _) (fun i hi => ?_) ?_
  · subst hz
    have e : i = 0 ∨ i = 1 ∨ i = 2 ∨ i = 3 ∨ i = 4 ∨ i = 5 ∨ i = 6 ∨ i = 7 := by omega
    rcases e with rfl | rfl | rfl | rfl | rfl | rfl | rfl | rfl
    · exact ⟨_, rfl, rfl, fun b z hz ho hd => ⟨rfl, _, z, exec_fld0 rfl z (ho 2 (by decide)), Below.refl _ _, rfl⟩⟩
    · exact ⟨_, rfl, rfl, fun b z hz ho hd => ⟨rfl, _, z, load_jgeo (.tmp 26) rfl (hd 0 (dep_of (by kernel_rfl))) (DA.old hz), Below.refl _ _, rfl⟩⟩
    · exact ⟨_, rfl, rfl, fun b z hz ho hd => ⟨rfl, _, z, exec_fld rfl z (ho 2 (by decide)), Below.refl _ _, rfl⟩⟩
    · exact ⟨_, rfl, rfl, fun b z hz ho hd => ⟨rfl, _, z, exec_ld rfl z (hd 2 (dep_of (by kernel_rfl))) (DA.old hz).three.1, Below.refl _ _, rfl⟩⟩
    · exact ⟨_, rfl, rfl, fun b z hz ho hd => ⟨rfl, _, z, exec_move rfl z (ho 1 (by decide)), Below.refl _ _, rfl⟩⟩
    · exact ⟨_, rfl, rfl, fun b z hz ho hd => ⟨rfl, _, z, exec_cut rfl z (hd 3 (dep_of (by kernel_rfl))) (hd 4 (dep_of (by kernel_rfl))) (by omega) q1.2, Below.refl _ _, rfl⟩⟩
    · refine ⟨_, rfl, rfl, fun b z hz ho hd => ?_⟩
      have e1 : b.tmps.getD (lessD 1) undef = .agg (geoC j.g) := hd 1 (dep_of (by kernel_rfl))
      have e5 : b.tmps.getD (lessD 5) undef = .slice s.ia n s.ic := hd 5 (dep_of (by kernel_rfl))
      refine ⟨rfl, .agg (lessC j s n), z, build_val z 35 _ rfl (lessC j s n) ?_, Below.refl _ _, rfl⟩
      simp only [List.map_toArray, List.map_cons, List.map_nil]
      show Try.prog.built 35 [(0, b.tmps.getD (lessD 1) undef), (1, b.tmps.getD (lessD 5) undef)] = some (lessC j s n)
      rw [e1, e5]
      kernel_rfl
    · exact ⟨_, rfl, rfl, fun b z hz ho hd => ⟨rfl, _, _, exec_newjob rfl z, tbel1 z _, ⟨_, rfl, hz.size, job_new z zeroJ zeroS4⟩⟩⟩
  subst hz
  intro v y hy hf
  have e6 : v 6 = .agg (lessC j s n) := hf 6 (by omega)
  obtain ⟨q, e7, hq, D⟩ := hf 7 (by omega)
  clear hf
  rw [less_job hn] at e6
  simp only [putAll, lessD, List.getD_cons_succ, List.getD_cons_zero, e6, e7]
  simp only [Act.put, List.getElem_toArray, List.getElem_cons_succ, List.getElem_cons_zero, List.setIfInBounds_toArray, List.set_cons_zero, List.set_cons_succ]
  simp only [List.drop_succ_cons, List.drop_zero]
  refine store_job (j := cutJ j n 0 0) (s := ⟨s.ia, s.ic, none, 0, none, 0⟩) (j' := zeroJ) (s' := zeroS4) rfl (.tmp 5) (.tmp 32) rfl rfl rfl D ?_
  simp only [Act.put, List.getElem_toArray, List.getElem_cons_succ, List.getElem_cons_zero, List.setIfInBounds_toArray, List.set_cons_zero, List.set_cons_succ]
  have hpq : w.heap.size < q := Nat.lt_of_lt_of_le (Blk.lt DA) hq
  have C : LesS w (y.setRow q (jobC (cutJ j n 0 0) ⟨s.ia, s.ic, none, 0, none, 0⟩)) j s q n 0 0 :=
    ⟨(DA.old hy).row_other (by omega) _, ⟨_, D.row _ _, ⟨rfl, rfl, .inl ⟨rfl, rfl⟩, .inl ⟨rfl, rfl⟩⟩⟩, below_row (tstep b0 hy b0.size) (by omega) _, hpq⟩
  clear DA b0 hy D e6 e7 hq
  go_upto_region 4 with (fail)
  generalize y.setRow _ _ = Y at *
  have HC := Lib.hid C
  clear C
  go_wp2_with fail
  go_loopw [6] (fun i wr => ∃ m : Nat, m ≤ n ∧ i = .int .i64 m ∧ Hid (LesS w wr j s q n (cnK j.items 5 m) (cnK j.items 6 m))) (fun i _ => n - (intOf i).toNat)
  case atStart => exact ⟨0, Nat.zero_le _, rfl, HC⟩
  case round =>
    clear HC
    obtain ⟨m, hm, rfl, HC⟩ := hrel
    by_cases hlt : m < n
    · have C := HC.out
      have HM : Hid (m + 1 ≤ n) := Lib.hid (by omega)
      have hm100 : m ≤ 100 := by have := HF.out.1; omega
      clear HC
      obtain ⟨b, off, hia, hB, p0, p1, p2, p3, p4, p5, p6⟩ := els7 HL.out.items (show m < j.items.length by omega)
      have P0 := Lib.hid fun x (hx : Below w.heap.size w x) => (hx.cell (p := ⟨b, off + m * 7, none⟩) hB).trans p0
      have HI := Lib.hid hia
      have hBq := C.gt
      replace p0 := P0.out _ C.bel
      replace p1 := (C.bel.cell (p := ⟨b, off + m * 7 + 1, none⟩) hB).trans p1
      replace p2 := (C.bel.cell (p := ⟨b, off + m * 7 + 2, none⟩) hB).trans p2
      replace p3 := (C.bel.cell (p := ⟨b, off + m * 7 + 3, none⟩) hB).trans p3
      replace p4 := (C.bel.cell (p := ⟨b, off + m * 7 + 4, none⟩) hB).trans p4
      replace p5 := (C.bel.cell (p := ⟨b, off + m * 7 + 5, none⟩) hB).trans p5
      replace p6 := (C.bel.cell (p := ⟨b, off + m * 7 + 6, none⟩) hB).trans p6
      have cc : ∀ w, Calls Try.prog 11 #[itm (j.items.getD m zeroI)] w fun e w' => e = .returned (.bool true) ∧ Below w.heap.size w w' := fun w => (right_item HR.out (show m < j.items.length by omega)) ▸ rright_any (j.items.getD m zeroI) w
      have S5 := Lib.hid fun h => cnK_step (l := j.items) (k := 5) (i := m) h
      have T5 := Lib.hid fun h => cnK_stay (l := j.items) (k := 5) (i := m) h
      have S6 := Lib.hid fun h => cnK_step (l := j.items) (k := 6) (i := m) h
      have T6 := Lib.hid fun h => cnK_stay (l := j.items) (k := 6) (i := m) h
      have G := Lib.hid (less_facts HR.out (show m + 1 ≤ j.items.length by omega))
      have G0 := Lib.hid (less_facts HR.out (show m ≤ j.items.length by omega))
      have HQ2 := Lib.hid (And.intro q1 (And.intro q2 q3))
      have hlm : m < j.items.length := by omega
      obtain ⟨t19, t20, t21⟩ := C.job.three
      rw [hia] at t19
      clear hia q1 q2 q3
      unfold itm at cc
      generalize j.items.getD m zeroI = y at *
      obtain ⟨y0, y1, y2, y3, y4, y5, y6⟩ := y
      dsimp only at *
      generalize cnK j.items 5 m = N at *
      generalize cnK j.items 6 m = M at *
      go_wp2_with fail
      refine (cc _).mono ?_
      rintro e w1 ⟨rfl, b1⟩
      replace C := C.old b1
      replace p0 := P0.out _ C.bel
      clear cc b1 p1 p2 p3 p4 p5 p6 t19 t20 t21
      obtain ⟨t19, t20, t21⟩ := C.job.three
      rw [HI.out] at t19
      obtain ⟨q1, q2, q3⟩ := HQ2.out
      by_cases h5 : y0 = 5
      · subst h5
        have e5 := S5.out rfl
        have e6 := T6.out (by decide)
        have g5 : N + 1 ≤ j.notes.length := by have := G.out.1; omega
        have hcut := cut_N s.na j.notes.length s.nc (N + 1) (by omega) q2.2
        rw [show (((N + 1 : Nat) : Int)) = (N : Int) + 1 by omega] at hcut
        have C2 := Lib.hid (C.note g5)
        obtain ⟨t, K, CS⟩ := C.cut
        obtain ⟨_, k20, k21⟩ := K.three
        have f20 := Blk.free K 20
        rw [show (cutJ j n N M).notes.length = N from take_len G0.out.1] at k20
        have g6 : N < j.notes.length := by omega
        have hN3 : (N : Int) ≤ 100 := by have := HF.out.2.1; omega
        clear CS K k21 S5 T5 S6 T6 G G0 HQ2 q1 q2 q3 C
        go_upto_region 11 with (fail)
        clear t19 t20 t21 p0 k20 f20 hcut
        generalize w1.setCell _ _ = Z at *
        have C := C2.out
        have p0 := P0.out _ C.bel
        obtain ⟨t19, t20, t21⟩ := C.job.three
        rw [HI.out] at t19
        rw [← e5, ← e6] at C2
        go_wp2
        go_roundw
        case rel => exact ⟨m + 1, HM.out, by go_num, C2⟩
        case measure => (have hmm := HM.out); simp [intOf]; omega
      by_cases h6 : y0 = 6
      · subst h6
        have e5 := T5.out (by decide)
        have e6 := S6.out rfl
        have g5 : M + 1 ≤ j.floats.length := by have := G.out.2; omega
        have hcut := cut_F s.fa j.floats.length s.fc (M + 1) (by omega) q3.2
        rw [show (((M + 1 : Nat) : Int)) = (M : Int) + 1 by omega] at hcut
        have C2 := Lib.hid (C.float g5)
        obtain ⟨t, K, CS⟩ := C.cut
        obtain ⟨_, k20, k21⟩ := K.three
        have f21 := Blk.free K 21
        rw [show (cutJ j n N M).floats.length = M from take_len G0.out.2] at k21
        have g6 : M < j.floats.length := by omega
        have hN3 : (M : Int) ≤ 100 := by have := HF.out.2.2.1; omega
        rw [← e5, ← e6] at C2
        clear CS K k20 S5 T5 S6 T6 G G0 HQ2 q1 q2 q3 C
        go_wp2
        go_roundw
        case rel => exact ⟨m + 1, HM.out, by go_num, by rw [e6] at C2 ⊢; exact C2⟩
        case measure => (have hmm := HM.out); simp [intOf]; omega
      · have n5 : (y0 == 5) = false := by simpa using h5
        have n6 : (y0 == 6) = false := by simpa using h6
        have e5 := T5.out h5
        have e6 := T6.out h6
        rw [← e5, ← e6] at C
        have C2 := Lib.hid C
        clear S5 T5 S6 T6 G G0 HQ2 q1 q2 q3 C
        go_wp2
        go_roundw
        case rel => exact ⟨m + 1, HM.out, by go_num, C2⟩
        case measure => (have hmm := HM.out); simp [intOf]; omega
    · obtain rfl : m = n := by omega
      obtain ⟨C1, ⟨t, K, CS⟩, C3, C4⟩ := HC.out
      have G := less_facts HR.out hn
      have c := Lib.hid fun x (hx : Old wr x) => ((less_right HR.out hn) ▸ vright_any (lessJ j m) t x (cut_lists (HL.out.carry (tstep C3 hx C3.size)) CS hn G.1 G.2) (.inl (cut_few HF.out _ _ _)) : Calls Try.prog 10 #[.agg (jobC (lessJ j m) t)] x fun e w' => e = .returned (.bool true) ∧ Below x.heap.size x w')
      clear HC C1 CS C4 q1 q2 q3 G
      go_upto_region 13 with (fail)
      (refine wp_region_plain (Old wr) 5 (Below.refl _ wr) ?_; simp only [List.take_succ_cons, List.take_zero, List.drop_succ_cons, List.drop_zero])
      (refine Text.val (fun x hx => load_job (j := lessJ j m) (.tmp 5) rfl rfl (K.old hx)) (by kernel_rfl) ?_; simp only [Act.put, List.getElem_toArray, List.getElem_cons_succ, List.getElem_cons_zero, List.setIfInBounds_toArray, List.set_cons_zero, List.set_cons_succ])
      (refine Text.call (Old.call fun x hx => c.out x hx) (by kernel_rfl) (fun _ => by kernel_rfl) ?_; simp only [Act.put, List.getElem_toArray, List.getElem_cons_succ, List.getElem_cons_zero, List.setIfInBounds_toArray, List.set_cons_zero, List.set_cons_succ])
      repeat (first | (apply Text.sees (hw := by kernel_rfl); (focus (intro x hx K hK; have hc := (fun _ _ => trivial) x hx; go_simp; exact hK)); simp only [Act.put, List.getElem_toArray, List.getElem_cons_succ, List.getElem_cons_zero, List.setIfInBounds_toArray, List.set_cons_zero, List.set_cons_succ]) | (apply Text.idle; (focus (intro x hx K hK; go_simp; exact hK)); simp only [Act.put, List.getElem_toArray, List.getElem_cons_succ, List.getElem_cons_zero, List.setIfInBounds_toArray, List.set_cons_zero, List.set_cons_succ]))
      (refine Text.call (Old.call fun x hx => ca.out x) (by kernel_rfl) (fun _ => by kernel_rfl) ?_; simp only [Act.put, List.getElem_toArray, List.getElem_cons_succ, List.getElem_cons_zero, List.setIfInBounds_toArray, List.set_cons_zero, List.set_cons_succ])
      repeat (first | (apply Text.sees (hw := by kernel_rfl); (focus (intro x hx K hK; have hc := (fun _ _ => trivial) x hx; go_simp; exact hK)); simp only [Act.put, List.getElem_toArray, List.getElem_cons_succ, List.getElem_cons_zero, List.setIfInBounds_toArray, List.set_cons_zero, List.set_cons_succ]) | (apply Text.idle; (focus (intro x hx K hK; go_simp; exact hK)); simp only [Act.put, List.getElem_toArray, List.getElem_cons_succ, List.getElem_cons_zero, List.setIfInBounds_toArray, List.set_cons_zero, List.set_cons_succ]))
      intro x hx
      go_wp2
      go_ret
      exact ⟨rfl, tstep C3 hx C3.size⟩
theorem validLess_walk (j : J4) (s : S3) (n : Int) (hn : (Lit.int .i64 n).wf = true) (w : World) (hj : Lists w j s) :
    Calls Try.prog 4 #[.agg (jobC j s), .int .i64 n] w fun e w' => e = .returned (.bool true) ∧ Below w.heap.size w w' := by
  by_cases f : Few j
  · by_cases h0 : n < 0
    · exact less_out j s n w hj (.inr (.inl ⟨f, h0⟩))
    · by_cases h1 : (j.items.length : Int) < n
      · exact less_out j s n w hj (.inr (.inr (.inl ⟨f, by omega, h1⟩)))
      · cases hr : rightK j
        · exact less_out j s n w hj (.inr (.inr (.inr ⟨f, by omega, by omega, hr⟩)))
        · exact less_in j s n.toNat n (by omega) w hj f (by omega) hr
  · exact less_out j s n w hj (.inl f)
end Go.Proofs.Ythcgncgnbjhniaa
