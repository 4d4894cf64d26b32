/- Same of package grid, and the document's. The document's Same. The closures of On of package grid, and package slices over them. On of package grid. The document's On. awake of layer 14. A job that came in. The walks of GridSnaps and GridStays. -/
import Derived.Test.YtjfjekncmejfpaaJSm
import Derived.Test.YtjfjekncmejfpaaJSnp
import Derived.Test.YtjfjekncmejfpaaFMix
import Derived.ProofKit
import Derived.Test.YtjfjekncmejfpaaJRs2
namespace Go.Proofs.Ytjfjekncmejfpaa
open Go.RowKit
set_option maxRecDepth 20000
set_option linter.unusedVariables false
set_option linter.unusedSimpArgs false

theorem exec_eql_G {o : Oper} {a : Act} (x y : Operand) (ho : o.op = .binOp .eql 26 x y 26) {g h : G19} (hx : a.eval x = .agg (geoC g)) (hy : a.eval y = .agg (geoC h)) (w : World) :
    (execOp a.eval o).run Try.prog w = .ok (.value (.bool (isB (g = h)))) w := by
  have e : Sem.run Try.prog (eqGuard BinOp.eql 26 x y (.agg (geoC g)) (.agg (geoC h))) w = .ok () w := by
    unfold geoC
    simp [go_sem]
  unfold execOp
  simp only [ho, hx, hy, Sem.run_bind, Sem.run_pure, e, Result.andThen_ok, run_eql_G]
/-- A job that has room: at most a million of each. -/
def RoomJ (j : J4) : Prop := j.items.length ≤ 1000000 ∧ j.notes.length ≤ 1000000 ∧ j.floats.length ≤ 1000000 ∧ Short j.notes
theorem Few.short {j : J4} (h : Few j) : Short j.notes := fun k => ⟨by have := (h.2.2.2 k).1; omega, by have := (h.2.2.2 k).2; omega⟩
theorem sameJ_1 {a b : J4} (h : isB (a.g = b.g) = false) : sameJ a b = false := by unfold sameJ; rw [h]; rfl
theorem sameJ_2 {a b : J4} (h : isB (a.items = b.items) = false) : sameJ a b = false := by unfold sameJ; rw [h]; simp
theorem sameJ_3 {a b : J4} (h : isB (a.notes = b.notes) = false) : sameJ a b = false := by unfold sameJ; rw [h]; simp
end Go.Proofs.Ytjfjekncmejfpaa
namespace Go.Proofs.Ytjfjekncmejfpaa
open Go.RowKit
set_option maxRecDepth 20000
set_option linter.unusedVariables false
set_option linter.unusedSimpArgs false

set_option maxHeartbeats 4000000 in
theorem Few.room {j : J4} (h : Few j) : RoomJ j := ⟨by have := h.1; omega, by have := h.2.1; omega, by have := h.2.2.1; omega, h.short⟩
set_option maxHeartbeats 4000000 in
theorem rsame_room (a b : J4) (s t : S3) (w : World) (hA : Lists w a s) (hB : Lists w b t) (fa : RoomJ a) (fb : RoomJ b) :
    Calls Try.prog 10 #[.agg (jobC a s), .agg (jobC b t)] w fun e w' => e = .returned (.bool (sameJ a b)) ∧ Below w.heap.size w w' := by
  have DA : JobAt ((w.alloc (.cells (jobC a s) 31)).alloc (.cells (jobC b t) 31)) w.heap.size a s := (job_new w a s).old (tbel1 _ _)
  have DB : JobAt ((w.alloc (.cells (jobC a s) 31)).alloc (.cells (jobC b t) 31)) (w.heap.size + 1) b t := blk_two w _ _ _
  have b0 := tbel2 w (.cells (jobC a s) 31) (.cells (jobC b t) 31)
  obtain ⟨a1, a2, a3, a4⟩ := id fa
  obtain ⟨b1, b2, b3, b4⟩ := id fb
  have c2 := Lib.hid fun x (hx : Below w.heap.size w x) => rall_N s.na t.na s.nc t.nc a.notes b.notes x (by omega) (by omega) a4 b4 (hA.notes.carry hx) (hB.notes.carry hx)
  have c3 := Lib.hid fun x (hx : Below w.heap.size w x) => rsame_F s.fa t.fa s.fc t.fc a.floats b.floats x (by omega) (by omega) (hA.floats.carry hx) (hB.floats.carry hx)
  have HA := Lib.hid hA.items
  have HB := Lib.hid hB.items
  have HE := Lib.hid fun (o : Oper) (act : Act) (x y : Operand) (ho : o.op = .binOp .eql 26 x y 26) (hx : act.eval x = .agg (geoC a.g)) (hy : act.eval y = .agg (geoC b.g)) => exec_eql_G x y ho hx hy
  have hS : sameJ a b = (isB (a.items = b.items) && (isB (a.g = b.g) && isB (a.notes = b.notes) && isB (a.floats = b.floats))) := by
    unfold sameJ
    generalize isB (a.g = b.g) = r1
    generalize isB (a.items = b.items) = r2
    generalize isB (a.notes = b.notes) = r3
    generalize isB (a.floats = b.floats) = r4
    cases r1 <;> cases r2 <;> cases r3 <;> rfl
  rw [hS]
  clear hA hB fa fb a2 a3 a4 b2 b3 b4 hS
  obtain ⟨t19, t20, t21⟩ := DA.three
  obtain ⟨z19, z20, z21⟩ := DB.three
  rcases Nat.decEq a.items.length b.items.length with hne | heq
  · rw [show isB (a.items = b.items) = false from isB_no (fun h => hne (by rw [h])), Bool.false_and]
    go_enter Try.func10, Try.ntmps10
    go_upto_region 1 with (fail)
    change Code.wp _ _ _ _ ((w.alloc (.cells (jobC a s) 31)).alloc (.cells (jobC b t) 31))
    generalize (w.alloc _).alloc _ = U at *
    go_wp2_with fail
    go_ret
    exact ⟨rfl, b0⟩
  · have HQ := Lib.hid heq
    rw [← heq] at z19 HB
    clear heq b1
    obtain ⟨R, hR⟩ : ∃ R, R = (isB (a.g = b.g) && isB (a.notes = b.notes) && isB (a.floats = b.floats)) := ⟨_, rfl⟩
    rw [← hR]
    have HR := Lib.hid hR
    clear hR
    generalize isB (a.g = b.g) = r1 at *
    generalize isB (a.notes = b.notes) = r3 at *
    generalize isB (a.floats = b.floats) = r4 at *
    go_enter Try.func10, Try.ntmps10
    go_upto_region 1 with (fail)
    change Code.wp _ _ _ _ ((w.alloc (.cells (jobC a s) 31)).alloc (.cells (jobC b t) 31))
    generalize (w.alloc _).alloc _ = U at *
    go_wp2_with fail
    go_loopw [5] (fun i wr => ∃ k : Nat, k ≤ a.items.length ∧ i = .int .i64 k ∧ Below U.heap.size U wr ∧ Hid (∀ j, j < k → a.items.getD j zeroI = b.items.getD j zeroI)) (fun i _ => a.items.length - (intOf i).toNat)
    case atStart => exact ⟨0, Nat.zero_le _, rfl, Below.refl _ _, Lib.hid fun j hj => by omega⟩
    case round =>
      obtain ⟨k, hk, rfl, hbl, HP⟩ := hrel
      have bw := tstep b0 hbl b0.size
      have DA' := DA.old hbl
      have DB' := DB.old hbl
      clear t19 t20 t21 z19 z20 z21
      obtain ⟨t19, t20, t21⟩ := DA'.three
      obtain ⟨z19, z20, z21⟩ := DB'.three
      rw [← HQ.out] at z19
      by_cases hlt : k < a.items.length
      · obtain ⟨b1, o1, e1, hB1, p0, p1, p2, p3, p4, p5, p6⟩ := els7 (HA.out.carry bw) hlt
        obtain ⟨b2, o2, e2, hB2, q0, q1, q2, q3, q4, q5, q6⟩ := els7 (HB.out.carry bw) hlt
        rw [e1] at t19
        rw [e2] at z19
        have HS := Lib.hid (getD_snoc4 HP.out)
        have HN : Hid (¬ a.items.getD k zeroI = b.items.getD k zeroI → isB (a.items = b.items) = false) := Lib.hid fun h => isB_no fun e => h (by rw [e])
        clear e1 e2 DA' DB'
        generalize a.items.getD k zeroI = x at *
        generalize b.items.getD k zeroI = y at *
        have hxy := run_neq_I x y
        by_cases he : x = y
        · rw [isB_yes he] at hxy
          replace HS := Lib.hid (HS.out he)
          clear he HN
          go_wp2_with fail
          go_quiet (fail)
          go_wp2
          go_roundw
          case rel => exact ⟨k + 1, by omega, by go_num, ndrewN hbl _, HS⟩
          case measure => simp [intOf]; omega
        · rw [isB_no he] at hxy
          replace HN := Lib.hid (HN.out he)
          clear he HS
          go_wp2_with fail
          go_quiet (fail)
          go_wp2
          go_ret
          exact ⟨by rw [HN.out]; rfl, ndrewN bw _⟩
      · have HX : Hid (isB (a.items = b.items) = true) := Lib.hid (isB_yes (list_ext zeroI HQ.out fun j hj => HP.out j (by omega)))
        clear HP
        have CE := Lib.hid fun x (hx : Old wr x) => And.intro (DA'.old hx).three (DB'.old hx).three
        cases r1
        · have e := HR.out
          simp only [Bool.false_and] at e
          go_upto_region 8 with (fail)
          clear t19 t20 t21 z19 z20 z21
          (refine wp_region_plain (Old wr) 19 (Below.refl _ wr) ?_; simp only [List.take_succ_cons, List.take_zero, List.drop_succ_cons, List.drop_zero])
          repeat (first | (apply Text.sees (hw := by kernel_rfl); (focus (intro x hx K hK; have hc := CE.out x hx; go_simp; exact hK)); simp only [Act.put, List.getElem_toArray, List.getElem_cons_succ, List.getElem_cons_zero, List.setIfInBounds_toArray, List.set_cons_zero, List.set_cons_succ]) | (apply Text.idle; (focus (intro x hx K hK; go_simp; exact hK)); simp only [Act.put, List.getElem_toArray, List.getElem_cons_succ, List.getElem_cons_zero, List.setIfInBounds_toArray, List.set_cons_zero, List.set_cons_succ]))
          (refine Text.val (fun x hx => load_jgeo (.tmp 31) rfl rfl (DA'.old hx)) (by kernel_rfl) ?_; simp only [Act.put, List.getElem_toArray, List.getElem_cons_succ, List.getElem_cons_zero, List.setIfInBounds_toArray, List.set_cons_zero, List.set_cons_succ])
          repeat (first | (apply Text.sees (hw := by kernel_rfl); (focus (intro x hx K hK; have hc := CE.out x hx; go_simp; exact hK)); simp only [Act.put, List.getElem_toArray, List.getElem_cons_succ, List.getElem_cons_zero, List.setIfInBounds_toArray, List.set_cons_zero, List.set_cons_succ]) | (apply Text.idle; (focus (intro x hx K hK; go_simp; exact hK)); simp only [Act.put, List.getElem_toArray, List.getElem_cons_succ, List.getElem_cons_zero, List.setIfInBounds_toArray, List.set_cons_zero, List.set_cons_succ]))
          (refine Text.val (fun x hx => load_jgeo (.tmp 33) rfl rfl (DB'.old hx)) (by kernel_rfl) ?_; simp only [Act.put, List.getElem_toArray, List.getElem_cons_succ, List.getElem_cons_zero, List.setIfInBounds_toArray, List.set_cons_zero, List.set_cons_succ])
          (refine Text.val (fun x hx => HE.out _ _ (.tmp 32) (.tmp 34) rfl rfl rfl x) (by kernel_rfl) ?_; simp only [Act.put, List.getElem_toArray, List.getElem_cons_succ, List.getElem_cons_zero, List.setIfInBounds_toArray, List.set_cons_zero, List.set_cons_succ])
          repeat (first | (apply Text.sees (hw := by kernel_rfl); (focus (intro x hx K hK; have hc := CE.out x hx; go_simp; exact hK)); simp only [Act.put, List.getElem_toArray, List.getElem_cons_succ, List.getElem_cons_zero, List.setIfInBounds_toArray, List.set_cons_zero, List.set_cons_succ]) | (apply Text.idle; (focus (intro x hx K hK; go_simp; exact hK)); simp only [Act.put, List.getElem_toArray, List.getElem_cons_succ, List.getElem_cons_zero, List.setIfInBounds_toArray, List.set_cons_zero, List.set_cons_succ]))
          intro x hx
          go_wp2
          go_ret
          exact ⟨by rw [HX.out, e]; rfl, tstep bw hx bw.size⟩
        · cases r3
          · have e := HR.out
            simp only [Bool.true_and, Bool.false_and] at e
            go_upto_region 8 with (fail)
            clear t19 t20 t21 z19 z20 z21
            (refine wp_region_plain (Old wr) 19 (Below.refl _ wr) ?_; simp only [List.take_succ_cons, List.take_zero, List.drop_succ_cons, List.drop_zero])
            repeat (first | (apply Text.sees (hw := by kernel_rfl); (focus (intro x hx K hK; have hc := CE.out x hx; go_simp; exact hK)); simp only [Act.put, List.getElem_toArray, List.getElem_cons_succ, List.getElem_cons_zero, List.setIfInBounds_toArray, List.set_cons_zero, List.set_cons_succ]) | (apply Text.idle; (focus (intro x hx K hK; go_simp; exact hK)); simp only [Act.put, List.getElem_toArray, List.getElem_cons_succ, List.getElem_cons_zero, List.setIfInBounds_toArray, List.set_cons_zero, List.set_cons_succ]))
            (refine Text.val (fun x hx => load_jgeo (.tmp 31) rfl rfl (DA'.old hx)) (by kernel_rfl) ?_; simp only [Act.put, List.getElem_toArray, List.getElem_cons_succ, List.getElem_cons_zero, List.setIfInBounds_toArray, List.set_cons_zero, List.set_cons_succ])
            repeat (first | (apply Text.sees (hw := by kernel_rfl); (focus (intro x hx K hK; have hc := CE.out x hx; go_simp; exact hK)); simp only [Act.put, List.getElem_toArray, List.getElem_cons_succ, List.getElem_cons_zero, List.setIfInBounds_toArray, List.set_cons_zero, List.set_cons_succ]) | (apply Text.idle; (focus (intro x hx K hK; go_simp; exact hK)); simp only [Act.put, List.getElem_toArray, List.getElem_cons_succ, List.getElem_cons_zero, List.setIfInBounds_toArray, List.set_cons_zero, List.set_cons_succ]))
            (refine Text.val (fun x hx => load_jgeo (.tmp 33) rfl rfl (DB'.old hx)) (by kernel_rfl) ?_; simp only [Act.put, List.getElem_toArray, List.getElem_cons_succ, List.getElem_cons_zero, List.setIfInBounds_toArray, List.set_cons_zero, List.set_cons_succ])
            (refine Text.val (fun x hx => HE.out _ _ (.tmp 32) (.tmp 34) rfl rfl rfl x) (by kernel_rfl) ?_; simp only [Act.put, List.getElem_toArray, List.getElem_cons_succ, List.getElem_cons_zero, List.setIfInBounds_toArray, List.set_cons_zero, List.set_cons_succ])
            repeat (first | (apply Text.sees (hw := by kernel_rfl); (focus (intro x hx K hK; have hc := CE.out x hx; go_simp; exact hK)); simp only [Act.put, List.getElem_toArray, List.getElem_cons_succ, List.getElem_cons_zero, List.setIfInBounds_toArray, List.set_cons_zero, List.set_cons_succ]) | (apply Text.idle; (focus (intro x hx K hK; go_simp; exact hK)); simp only [Act.put, List.getElem_toArray, List.getElem_cons_succ, List.getElem_cons_zero, List.setIfInBounds_toArray, List.set_cons_zero, List.set_cons_succ]))
            (refine Text.call (Old.call fun x hx => c2.out x (tstep bw hx bw.size)) (by kernel_rfl) (fun _ => by kernel_rfl) ?_; simp only [Act.put, List.getElem_toArray, List.getElem_cons_succ, List.getElem_cons_zero, List.setIfInBounds_toArray, List.set_cons_zero, List.set_cons_succ])
            repeat (first | (apply Text.sees (hw := by kernel_rfl); (focus (intro x hx K hK; have hc := CE.out x hx; go_simp; exact hK)); simp only [Act.put, List.getElem_toArray, List.getElem_cons_succ, List.getElem_cons_zero, List.setIfInBounds_toArray, List.set_cons_zero, List.set_cons_succ]) | (apply Text.idle; (focus (intro x hx K hK; go_simp; exact hK)); simp only [Act.put, List.getElem_toArray, List.getElem_cons_succ, List.getElem_cons_zero, List.setIfInBounds_toArray, List.set_cons_zero, List.set_cons_succ]))
            intro x hx
            go_wp2
            go_ret
            exact ⟨by rw [HX.out, e]; rfl, tstep bw hx bw.size⟩
          · have e := HR.out
            simp only [Bool.true_and] at e
            go_upto_region 8 with (fail)
            clear t19 t20 t21 z19 z20 z21
            (refine wp_region_plain (Old wr) 19 (Below.refl _ wr) ?_; simp only [List.take_succ_cons, List.take_zero, List.drop_succ_cons, List.drop_zero])
            repeat (first | (apply Text.sees (hw := by kernel_rfl); (focus (intro x hx K hK; have hc := CE.out x hx; go_simp; exact hK)); simp only [Act.put, List.getElem_toArray, List.getElem_cons_succ, List.getElem_cons_zero, List.setIfInBounds_toArray, List.set_cons_zero, List.set_cons_succ]) | (apply Text.idle; (focus (intro x hx K hK; go_simp; exact hK)); simp only [Act.put, List.getElem_toArray, List.getElem_cons_succ, List.getElem_cons_zero, List.setIfInBounds_toArray, List.set_cons_zero, List.set_cons_succ]))
            (refine Text.val (fun x hx => load_jgeo (.tmp 31) rfl rfl (DA'.old hx)) (by kernel_rfl) ?_; simp only [Act.put, List.getElem_toArray, List.getElem_cons_succ, List.getElem_cons_zero, List.setIfInBounds_toArray, List.set_cons_zero, List.set_cons_succ])
            repeat (first | (apply Text.sees (hw := by kernel_rfl); (focus (intro x hx K hK; have hc := CE.out x hx; go_simp; exact hK)); simp only [Act.put, List.getElem_toArray, List.getElem_cons_succ, List.getElem_cons_zero, List.setIfInBounds_toArray, List.set_cons_zero, List.set_cons_succ]) | (apply Text.idle; (focus (intro x hx K hK; go_simp; exact hK)); simp only [Act.put, List.getElem_toArray, List.getElem_cons_succ, List.getElem_cons_zero, List.setIfInBounds_toArray, List.set_cons_zero, List.set_cons_succ]))
            (refine Text.val (fun x hx => load_jgeo (.tmp 33) rfl rfl (DB'.old hx)) (by kernel_rfl) ?_; simp only [Act.put, List.getElem_toArray, List.getElem_cons_succ, List.getElem_cons_zero, List.setIfInBounds_toArray, List.set_cons_zero, List.set_cons_succ])
            (refine Text.val (fun x hx => HE.out _ _ (.tmp 32) (.tmp 34) rfl rfl rfl x) (by kernel_rfl) ?_; simp only [Act.put, List.getElem_toArray, List.getElem_cons_succ, List.getElem_cons_zero, List.setIfInBounds_toArray, List.set_cons_zero, List.set_cons_succ])
            repeat (first | (apply Text.sees (hw := by kernel_rfl); (focus (intro x hx K hK; have hc := CE.out x hx; go_simp; exact hK)); simp only [Act.put, List.getElem_toArray, List.getElem_cons_succ, List.getElem_cons_zero, List.setIfInBounds_toArray, List.set_cons_zero, List.set_cons_succ]) | (apply Text.idle; (focus (intro x hx K hK; go_simp; exact hK)); simp only [Act.put, List.getElem_toArray, List.getElem_cons_succ, List.getElem_cons_zero, List.setIfInBounds_toArray, List.set_cons_zero, List.set_cons_succ]))
            (refine Text.call (Old.call fun x hx => c2.out x (tstep bw hx bw.size)) (by kernel_rfl) (fun _ => by kernel_rfl) ?_; simp only [Act.put, List.getElem_toArray, List.getElem_cons_succ, List.getElem_cons_zero, List.setIfInBounds_toArray, List.set_cons_zero, List.set_cons_succ])
            repeat (first | (apply Text.sees (hw := by kernel_rfl); (focus (intro x hx K hK; have hc := CE.out x hx; go_simp; exact hK)); simp only [Act.put, List.getElem_toArray, List.getElem_cons_succ, List.getElem_cons_zero, List.setIfInBounds_toArray, List.set_cons_zero, List.set_cons_succ]) | (apply Text.idle; (focus (intro x hx K hK; go_simp; exact hK)); simp only [Act.put, List.getElem_toArray, List.getElem_cons_succ, List.getElem_cons_zero, List.setIfInBounds_toArray, List.set_cons_zero, List.set_cons_succ]))
            (refine Text.call (Old.call fun x hx => c3.out x (tstep bw hx bw.size)) (by kernel_rfl) (fun _ => by kernel_rfl) ?_; simp only [Act.put, List.getElem_toArray, List.getElem_cons_succ, List.getElem_cons_zero, List.setIfInBounds_toArray, List.set_cons_zero, List.set_cons_succ])
            repeat (first | (apply Text.sees (hw := by kernel_rfl); (focus (intro x hx K hK; have hc := CE.out x hx; go_simp; exact hK)); simp only [Act.put, List.getElem_toArray, List.getElem_cons_succ, List.getElem_cons_zero, List.setIfInBounds_toArray, List.set_cons_zero, List.set_cons_succ]) | (apply Text.idle; (focus (intro x hx K hK; go_simp; exact hK)); simp only [Act.put, List.getElem_toArray, List.getElem_cons_succ, List.getElem_cons_zero, List.setIfInBounds_toArray, List.set_cons_zero, List.set_cons_succ]))
            intro x hx
            go_wp2
            go_ret
            exact ⟨by rw [HX.out, e]; rfl, tstep bw hx bw.size⟩
theorem rsame_any (a b : J4) (s t : S3) (w : World) (hA : Lists w a s) (hB : Lists w b t) (fa : Few a) (fb : Few b) :
    Calls Try.prog 10 #[.agg (jobC a s), .agg (jobC b t)] w fun e w' => e = .returned (.bool (sameJ a b)) ∧ Below w.heap.size w w' := rsame_room a b s t w hA hB fa.room fb.room
end Go.Proofs.Ytjfjekncmejfpaa
namespace Go.Proofs.Ytjfjekncmejfpaa
open Go.RowKit
set_option maxRecDepth 20000
set_option linter.unusedVariables false
set_option linter.unusedSimpArgs false

theorem any_yes {α : Type} {p : α → Bool} {l : List α} {d : α} {k : Nat} (hk : k < l.length) (h : p (l.getD k d) = true) : l.any p = true := List.any_eq_true.2 ⟨_, mem_getD hk, h⟩
theorem any_no {α : Type} {p : α → Bool} {l : List α} {d : α} (h : ∀ k, k < l.length → p (l.getD k d) = false) : l.any p = false := by
  rw [List.any_eq_false]
  intro x hx
  obtain ⟨k, hk, rfl⟩ := List.getElem_of_mem hx
  have := h k hk
  rw [List.getD_eq_getElem?_getD, List.getElem?_eq_getElem hk] at this
  simpa using this
theorem off_ways {s h : Int} (h1 : 1 ≤ s) : offZ s h = (h.tmod s != 0) := by
  unfold offZ
  have e : h % s = 0 ↔ h.tmod s = 0 := ⟨fun e => Int.tmod_eq_zero_of_dvd (Int.dvd_of_emod_eq_zero e), fun e => Int.emod_eq_zero_of_dvd (Int.dvd_of_tmod_eq_zero e)⟩
  by_cases h0 : h % s = 0
  · rw [e.1 h0]; simp [h0]
  · have : ¬ h.tmod s = 0 := fun e' => h0 (e.2 e')
    simp [h0, this]
theorem els1 {w : World} {a : Option Addr} {n : Nat} {F : Nat → Int} (h : Els 1 encZ w a n F) {k : Nat} (hk : k < n) : ∃ b off, a = some ⟨b, off, none⟩ ∧ b < w.heap.size ∧ w.cell? ⟨b, off + k, none⟩ = some (.int .i64 (F k)) := by
  obtain ⟨b, off, rfl, hb, h0⟩ := h k 0 hk (by omega)
  rw [Nat.mul_one, Nat.add_zero] at h0
  exact ⟨b, off, rfl, hb, h0⟩
end Go.Proofs.Ytjfjekncmejfpaa
namespace Go.Proofs.Ytjfjekncmejfpaa
open Go.RowKit
set_option maxRecDepth 20000
set_option linter.unusedVariables false
set_option linter.unusedSimpArgs false

theorem els_four (w : World) (a b c d : Int) : Els 1 encZ (w.alloc (.cells #[.int .i64 a, .int .i64 b, .int .i64 c, .int .i64 d] 24)) (some ⟨w.heap.size, 0, none⟩) [a, b, c, d].length fun k => [a, b, c, d].getD k 0 := fun k j hk hj => by
  obtain rfl : j = 0 := by omega
  have B := blk_new w #[.int .i64 a, .int .i64 b, .int .i64 c, .int .i64 d] 24
  refine ⟨w.heap.size, 0, rfl, B.lt, ?_⟩
  rw [Nat.zero_add, Nat.mul_one, Nat.add_zero, B.cell]
  simp only [List.length_cons, List.length_nil] at hk
  rcases (show k = 0 ∨ k = 1 ∨ k = 2 ∨ k = 3 by omega) with rfl | rfl | rfl | rfl <;> rfl
theorem four_in {a b c d : Int} (ha : inR a) (hb : inR b) (hc : inR c) (hd : inR d) : ∀ k, inR ([a, b, c, d].getD k 0) := fun k => by
  rcases Nat.lt_or_ge k 4 with hk | hk
  · rcases (show k = 0 ∨ k = 1 ∨ k = 2 ∨ k = 3 by omega) with rfl | rfl | rfl | rfl <;> assumption
  · rw [getD_none (by simpa using hk)]; decide
end Go.Proofs.Ytjfjekncmejfpaa
namespace Go.Proofs.Ytjfjekncmejfpaa
open Go.RowKit
set_option maxRecDepth 20000
set_option linter.unusedVariables false
set_option linter.unusedSimpArgs false

theorem rany_yes {α : Type} {p : α → Bool} {l : List α} {d : α} {k : Nat} (hk : k < l.length) (h : p (l.getD k d) = true) : l.any p = true := List.any_eq_true.2 ⟨_, mem_getD hk, h⟩
theorem rany_no {α : Type} {p : α → Bool} {l : List α} {d : α} (h : ∀ k, k < l.length → p (l.getD k d) = false) : l.any p = false := by
  rw [List.any_eq_false]
  intro x hx
  obtain ⟨k, hk, rfl⟩ := List.getElem_of_mem hx
  have := h k hk
  rw [List.getD_eq_getElem?_getD, List.getElem?_eq_getElem hk] at this
  simpa using this
/-- What Go's remainder is, whatever the sign. -/
theorem rem_off {s h : Int} (h1 : 1 ≤ s) (hs : inR s) : ∃ m : Int, h.tmod s = m ∧ (m != 0) = offZ s h ∧ -9223372036854775808 ≤ m ∧ m ≤ 9223372036854775807 := by
  have ho := over_bd h s h1
  unfold inR at hs
  refine ⟨h.tmod s, rfl, ?_, by omega, by omega⟩
  unfold offZ
  have e : h % s = 0 ↔ h.tmod s = 0 := ⟨fun e => Int.tmod_eq_zero_of_dvd (Int.dvd_of_emod_eq_zero e), fun e => Int.emod_eq_zero_of_dvd (Int.dvd_of_tmod_eq_zero e)⟩
  by_cases h0 : h % s = 0
  · rw [e.1 h0]; simp [h0]
  · have : ¬ h.tmod s = 0 := fun e' => h0 (e.2 e')
    simp [h0, this]
end Go.Proofs.Ytjfjekncmejfpaa
namespace Go.Proofs.Ytjfjekncmejfpaa
open Go.RowKit
set_option maxRecDepth 20000
set_option linter.unusedVariables false
set_option linter.unusedSimpArgs false

def wakeJ : J4 := ⟨⟨0, 0, 0, 20, 14, 6, 0, 0, 0, 0, 0, 0, 0, 0, 0, 0, 0, 0, false⟩, [⟨1, 7, 0, 0, 0, 0, 0⟩, ⟨2, 3, 0, 2, 0, 0, 0⟩], [], [⟨0, 1, 0⟩]⟩
theorem wakeJ_facts : onJ wakeJ = false ∧ onJ (snapJ wakeJ) = true ∧ (snapJ wakeJ).g.high = 18 ∧ (snapJ wakeJ).g.first = 12 ∧ ((snapJ wakeJ).items.getD 0 zeroI).h = 12 ∧ ((snapJ wakeJ).items.getD 1 zeroI).h = 6 ∧ ((snapJ wakeJ).floats.getD 0 zeroF).h = 6 ∧ nearZ 2 6 = 0 := by decide
theorem wakeJ_few : Few wakeJ ∧ Few (snapJ wakeJ) := by
  have e : (snapJ wakeJ).notes = [] := rfl
  refine ⟨⟨by decide, by decide, by decide, fun k => ?_⟩, ⟨by decide, by decide, by decide, fun k => ?_⟩⟩
  · simp [wakeJ, zeroN]
  · rw [e]; simp [zeroN]
theorem wakeJ_in : inJ wakeJ := by
  refine ⟨by unfold inE; decide, fun k => ?_, fun k => ?_⟩
  · rcases Nat.lt_or_ge k 2 with h | h
    · rcases (show k = 0 ∨ k = 1 by omega) with rfl | rfl <;> (unfold inI; decide)
    · rw [getD_none (by exact h)]; exact (zero_in 0).1
  · rcases Nat.lt_or_ge k 1 with h | h
    · obtain rfl : k = 0 := by omega
      unfold inF; decide
    · rw [getD_none (by exact h)]; exact (zero_in 0).2
theorem aw_val {P : Program} {ops : Array Oper} {rest : List Oper} {o : Oper} {a : Act} {w w' : World} {Q : Exit → Act → World → Prop} {v : Value} (hgd : o.guard = none) (he : (execOp a.eval o).run P w = .ok (.value v) w') (hk : wpList P ops Q rest (a.put o.dst v) w') : wpList P ops Q (o :: rest) a w :=
  wpList_plain hgd fun K hK => by
    unfold Oper.wp
    rw [he]
    exact hK _ _ hk
theorem aw_build {ops : Array Oper} {rest : List Oper} {o : Oper} {a : Act} {w : World} {Q : Exit → Act → World → Prop} (hgd : o.guard = none) (t : TypeId) (parts : Array (Nat × Operand)) (ho : o.op = .build t parts) (cells : Array Value)
    (hb : Try.prog.built t (parts.map fun (i, x) => (i, a.eval x)).toList = some cells) (hk : wpList Try.prog ops Q rest (a.put o.dst (.agg cells)) w) : wpList Try.prog ops Q (o :: rest) a w :=
  aw_val hgd (by unfold execOp; simp only [ho, Sem.run_bind, run_build w t _ cells hb, Result.andThen_ok]; rfl) hk
theorem run_buildI2 (x0 x1 x2 x3 x4 x5 x6 y0 y1 y2 y3 y4 y5 y6 : Int) (x : World) : (Instr.buildSlice 27 2 #[(0, .agg #[.int .i64 x0, .int .i64 x1, .int .i64 x2, .int .i64 x3, .int .i64 x4, .int .i64 x5, .int .i64 x6]), (1, .agg #[.int .i64 y0, .int .i64 y1, .int .i64 y2, .int .i64 y3, .int .i64 y4, .int .i64 y5, .int .i64 y6])]).run Try.prog x = .ok (.slice (some ⟨x.heap.size, 0, none⟩) 2 2) (x.alloc (.cells #[.int .i64 x0, .int .i64 x1, .int .i64 x2, .int .i64 x3, .int .i64 x4, .int .i64 x5, .int .i64 x6, .int .i64 y0, .int .i64 y1, .int .i64 y2, .int .i64 y3, .int .i64 y4, .int .i64 y5, .int .i64 y6] 49)) := by
  simp [go_sem]
theorem aw_buildF (c h p : Int) (x : World) : (Instr.buildSlice 29 1 #[(0, .agg #[.int .i64 c, .int .i64 h, .int .i64 p])]).run Try.prog x = .ok (.slice (some ⟨x.heap.size, 0, none⟩) 1 1) (x.alloc (.cells #[.int .i64 c, .int .i64 h, .int .i64 p] 90)) := by
  simp [go_sem]
/-- The cells of the two items. -/
def wakeI : Array Value := #[.int .i64 1, .int .i64 7, .int .i64 0, .int .i64 0, .int .i64 0, .int .i64 0, .int .i64 0, .int .i64 2, .int .i64 3, .int .i64 0, .int .i64 2, .int .i64 0, .int .i64 0, .int .i64 0]
def wakeFj : Array Value := #[.int .i64 0, .int .i64 1, .int .i64 0]
theorem exec_buildI (o : Oper) (a : Act) (s r : Operand) (ho : o.op = .buildSlice 27 2 #[(0, s), (1, r)]) (hs : a.eval s = .agg #[.int .i64 1, .int .i64 7, .int .i64 0, .int .i64 0, .int .i64 0, .int .i64 0, .int .i64 0]) (hr : a.eval r = .agg #[.int .i64 2, .int .i64 3, .int .i64 0, .int .i64 2, .int .i64 0, .int .i64 0, .int .i64 0]) (x : World) :
    (execOp a.eval o).run Try.prog x = .ok (.value (.slice (some ⟨x.heap.size, 0, none⟩) 2 2)) (x.alloc (.cells wakeI 49)) := by
  unfold execOp
  simp only [ho, List.map_toArray, List.map_cons, List.map_nil, hs, hr, Sem.run_bind, run_buildI2, Result.andThen_ok, Sem.run_pure]
  rfl
theorem exec_buildF (o : Oper) (a : Act) (s : Operand) (ho : o.op = .buildSlice 29 1 #[(0, s)]) (hs : a.eval s = .agg #[.int .i64 0, .int .i64 1, .int .i64 0]) (x : World) :
    (execOp a.eval o).run Try.prog x = .ok (.value (.slice (some ⟨x.heap.size, 0, none⟩) 1 1)) (x.alloc (.cells wakeFj 90)) := by
  unfold execOp
  simp only [ho, List.map_toArray, List.map_cons, List.map_nil, hs, Sem.run_bind, aw_buildF, Result.andThen_ok, Sem.run_pure]
  rfl
def wakeS (w : World) : S3 := ⟨some ⟨w.heap.size, 0, none⟩, 2, none, 0, some ⟨w.heap.size + 1, 0, none⟩, 1⟩
theorem wake_lists (w : World) (o : Obj) : Lists (((w.alloc (.cells wakeI 49)).alloc (.cells wakeFj 90)).alloc o) wakeJ (wakeS w) := by
  have B1 := ((blk_new w wakeI 49).alloc (.cells wakeFj 90)).alloc o
  have B2 := (blk_two w (.cells wakeI 49) wakeFj 90).alloc o
  refine ⟨wakeJ_in, fun k j hk hj => ?_, ⟨fun _ => zeroH, ?_, fun k hk => absurd hk (Nat.not_lt_zero k)⟩, fun k j hk hj => ?_, (show 2 ≤ 2 ∧ 2 ≤ maxLen by decide), (show 0 ≤ 0 ∧ 0 ≤ maxLen by decide), (show 1 ≤ 1 ∧ 1 ≤ maxLen by decide)⟩
  · refine ⟨w.heap.size, 0, rfl, B1.lt, ?_⟩
    rw [B1.cell, Nat.zero_add]
    have hk' : k < 2 := hk
    rcases (show k = 0 ∨ k = 1 by omega) with rfl | rfl <;> rcases (show j = 0 ∨ j = 1 ∨ j = 2 ∨ j = 3 ∨ j = 4 ∨ j = 5 ∨ j = 6 by omega) with rfl | rfl | rfl | rfl | rfl | rfl | rfl <;> rfl
  · intro k j hk hj
    exact absurd hk (Nat.not_lt_zero k)
  · refine ⟨w.heap.size + 1, 0, rfl, B2.lt, ?_⟩
    rw [B2.cell, Nat.zero_add]
    have hk' : k < 1 := hk
    obtain rfl : k = 0 := by omega
    rcases (show j = 0 ∨ j = 1 ∨ j = 2 by omega) with rfl | rfl | rfl <;> rfl
end Go.Proofs.Ytjfjekncmejfpaa
namespace Go.Proofs.Ytjfjekncmejfpaa
open Go.RowKit
set_option maxRecDepth 20000
set_option linter.unusedVariables false
set_option linter.unusedSimpArgs false

section
variable {H : Type} {enc : TypeId × Value → H} {w : World} {base : Nat} {held : Bool}
/-- A slice of structs of integers in a cell. -/
theorem Leafy.flats {P : Program} {spare : Nat → Bool} {ts ets : List TypeId} {cs : List Value} (h : Leafy enc P w base spare held ts cs) (i : Nat) {f : Nat} {u e : TypeId} {c : Value}
    (hu : ts[i]? = some u) (hs : P.underlying u = some (.slice e)) (hts : leaves P f e = some ets) (hc : cs[i]? = some c) : ∃ a len cap, c = .slice a len cap ∧ ((a = none ∧ len = 0 ∧ cap = 0) ∨ ∃ ad, a = some ad ∧ len ≤ cap ∧ cap ≤ maxLen ∧ ∀ i, i < len → ∃ cs : List Value, cs.length = ets.length ∧ (∀ j c, cs[j]? = some c → w.cell? (ad.add (i * ets.length + j)) = some c) ∧ Leafy enc P w base spare held ets cs) := by
  obtain ⟨n, y, hy⟩ := h i u c hu hc
  rcases Go.Deep.open_slice hs hy with ⟨hcs, _⟩ | ⟨ad, l, cp, m, n', D, Pl, hcs, _⟩
  · obtain rfl : c = .slice none 0 0 := by simpa using hcs
    exact ⟨none, 0, 0, rfl, .inl ⟨rfl, rfl, rfl⟩⟩
  · obtain rfl : c = .slice (some ad) l cp := by simpa using hcs
    exact ⟨some ad, l, cp, rfl, leaves_slice hs hts hy⟩
theorem wfR14 {a : Int} (h : (Lit.int .i64 a).wf = true) : inR a := by
  simp [Lit.wf, IntKind.min, IntKind.max, IntKind.signed, IntKind.bits] at h
  exact h
/-- Elements read one by one. -/
theorem els_of {α : Type} {sz : Nat} {en : α → List Value} {d : α} {ok : α → Prop} (hd : ok d) {ad : Addr} {len : Nat} (hsz : 0 < sz) (hlen : ∀ x, (en x).length = sz)
    (h : ∀ i, i < len → ∃ x : α, ok x ∧ ∀ j c, (en x)[j]? = some c → w.cell? (ad.add (i * sz + j)) = some c) : ∃ l : List α, l.length = len ∧ (∀ k, ok (l.getD k d)) ∧ Els sz en w (some ad) l.length fun k => l.getD k d := by
  have each : ∀ i, ∃ x : α, ok x ∧ (i < len → ∀ j c, (en x)[j]? = some c → w.cell? (ad.add (i * sz + j)) = some c) := fun i => by
    by_cases hi : i < len
    · obtain ⟨x, h1, h2⟩ := h i hi
      exact ⟨x, h1, fun _ => h2⟩
    · exact ⟨d, hd, fun hh => absurd hh hi⟩
  obtain ⟨F, hF⟩ := Classical.axiomOfChoice each
  have hl : ((List.range len).map F).length = len := by simp
  have hg : ∀ k, k < len → ((List.range len).map F).getD k d = F k := fun k hk => by simp [hk]
  refine ⟨(List.range len).map F, hl, fun k => ?_, fun k j hk hj => ?_⟩
  · by_cases hk : k < len
    · rw [hg k hk]; exact (hF k).1
    · rw [List.getD_eq_getElem?_getD, List.getElem?_eq_none (by rw [hl]; omega)]; exact hd
  · rw [hl] at hk
    dsimp only
    rw [hg k hk]
    have hc := (hF k).2 hk j _ (List.getElem?_eq_getElem (by rw [hlen]; exact hj))
    obtain ⟨b, off, spot⟩ := ad
    have hc0 := (hF 0).2 (by omega) 0 _ (List.getElem?_eq_getElem (by rw [hlen]; exact hsz))
    have hs : spot = none := by simpa [Addr.add] using World.cell?_spot hc0
    subst hs
    rw [Go.WideShapes.add_plain] at hc
    exact ⟨b, off, rfl, World.block_lt_of_cell? _ _ hc, by rw [hc, List.getElem?_eq_getElem (by rw [hlen]; exact hj)]⟩
end
theorem zero_in4 : inI zeroI ∧ inF zeroF := by
  have z : inR 0 := by decide
  exact ⟨⟨z, z, z, z, z, z, z⟩, ⟨z, z, z⟩⟩
theorem none_els {α : Type} {sz : Nat} {en : α → List Value} {w : World} {F : Nat → α} : Els sz en w none 0 F := fun k j hk _ => absurd hk (Nat.not_lt_zero k)
theorem leaves29 : leaves Try.prog 9 31 = some [3, 24, 24, 24, 24, 24, 24, 24, 24, 24, 24, 3, 3, 3, 3, 3, 3, 3, 4, 27, 28, 29] := by kernel_rfl
theorem leaves39 : leaves Try.prog 9 49 = some [3, 24, 3, 24, 3, 24, 3] := by kernel_rfl
theorem leaves37 : leaves Try.prog 9 76 = some [73, 74] := by kernel_rfl
theorem leaves41 : leaves Try.prog 9 90 = some [3, 24, 3] := by kernel_rfl
theorem arr22 (cs : Array Value) (h : cs.size = 22) : ∃ c0 c1 c2 c3 c4 c5 c6 c7 c8 c9 c10 c11 c12 c13 c14 c15 c16 c17 c18 c19 c20 c21, cs = #[c0, c1, c2, c3, c4, c5, c6, c7, c8, c9, c10, c11, c12, c13, c14, c15, c16, c17, c18, c19, c20, c21] := by
  obtain ⟨l⟩ := cs
  match l, h with
  | [c0, c1, c2, c3, c4, c5, c6, c7, c8, c9, c10, c11, c12, c13, c14, c15, c16, c17, c18, c19, c20, c21], _ => exact ⟨c0, c1, c2, c3, c4, c5, c6, c7, c8, c9, c10, c11, c12, c13, c14, c15, c16, c17, c18, c19, c20, c21, rfl⟩
/-- A job by value, as the frame hands it over. -/
theorem open_job {H : Type} {enc : TypeId × Value → H} {w : World} {base : Nat} {held : Bool} {cs : Array Value} {d : DataW H} {p : List MemPlace} (hsz : cs.size = 22) (h : DataW.Trod enc Try.prog w base (fun _ => true) held 31 (.agg cs) d p) :
    ∃ j s, cs = jobC j s ∧ Lists w j s := by
  have L := leaves_agg (r := .any) (b0 := base) leaves29 (by rw [hsz]; kernel_rfl) h
  obtain ⟨c0, c1, c2, c3, c4, c5, c6, c7, c8, c9, c10, c11, c12, c13, c14, c15, c16, c17, c18, c19, c20, c21, rfl⟩ := arr22 cs hsz
  obtain ⟨a0, rfl, w0⟩ := L.int 0 rfl Try.underlying3 rfl
  obtain ⟨a1, rfl, w1⟩ := L.int 1 rfl Try.underlying24 rfl
  obtain ⟨a2, rfl, w2⟩ := L.int 2 rfl Try.underlying24 rfl
  obtain ⟨a3, rfl, w3⟩ := L.int 3 rfl Try.underlying24 rfl
  obtain ⟨a4, rfl, w4⟩ := L.int 4 rfl Try.underlying24 rfl
  obtain ⟨a5, rfl, w5⟩ := L.int 5 rfl Try.underlying24 rfl
  obtain ⟨a6, rfl, w6⟩ := L.int 6 rfl Try.underlying24 rfl
  obtain ⟨a7, rfl, w7⟩ := L.int 7 rfl Try.underlying24 rfl
  obtain ⟨a8, rfl, w8⟩ := L.int 8 rfl Try.underlying24 rfl
  obtain ⟨a9, rfl, w9⟩ := L.int 9 rfl Try.underlying24 rfl
  obtain ⟨a10, rfl, w10⟩ := L.int 10 rfl Try.underlying24 rfl
  obtain ⟨a11, rfl, w11⟩ := L.int 11 rfl Try.underlying3 rfl
  obtain ⟨a12, rfl, w12⟩ := L.int 12 rfl Try.underlying3 rfl
  obtain ⟨a13, rfl, w13⟩ := L.int 13 rfl Try.underlying3 rfl
  obtain ⟨a14, rfl, w14⟩ := L.int 14 rfl Try.underlying3 rfl
  obtain ⟨a15, rfl, w15⟩ := L.int 15 rfl Try.underlying3 rfl
  obtain ⟨a16, rfl, w16⟩ := L.int 16 rfl Try.underlying3 rfl
  obtain ⟨a17, rfl, w17⟩ := L.int 17 rfl Try.underlying3 rfl
  obtain ⟨a18, rfl⟩ := L.bool 18 rfl Try.underlying4 rfl
  obtain ⟨ia, il, ic, rfl, hI⟩ := L.flats 19 rfl Try.underlying27 leaves39 rfl
  obtain ⟨na, nl, nc, rfl, hN⟩ := L.flats 20 rfl Try.underlying28 leaves37 rfl
  obtain ⟨fa, fl, fc, rfl, hF⟩ := L.flats 21 rfl Try.underlying29 leaves41 rfl
  have hI' : ∃ l : List I7, l.length = il ∧ (∀ k, inI (l.getD k zeroI)) ∧ (Els 7 encI w ia l.length fun k => l.getD k zeroI) ∧ il ≤ ic ∧ ic ≤ maxLen := by
    rcases hI with ⟨rfl, rfl, rfl⟩ | ⟨ad, rfl, h1, h2, hall⟩
    · exact ⟨[], rfl, fun k => by simpa using (zero_in4).1, none_els, Nat.le_refl _, by decide⟩
    · obtain ⟨l, q1, q2, q3⟩ := els_of (w := w) (ok := inI) (en := encI) (d := zeroI) (sz := 7) zero_in4.1 (by omega) encI_len (ad := ad) (len := il) (fun i hi => by
        obtain ⟨cs, hlen, hc, hk⟩ := hall i hi
        match cs, hlen with
        | [c0, c1, c2, c3, c4, c5, c6], _ =>
          obtain ⟨z0, rfl, w0⟩ := hk.int 0 rfl Try.underlying3 rfl
          obtain ⟨z1, rfl, w1⟩ := hk.int 1 rfl Try.underlying24 rfl
          obtain ⟨z2, rfl, w2⟩ := hk.int 2 rfl Try.underlying3 rfl
          obtain ⟨z3, rfl, w3⟩ := hk.int 3 rfl Try.underlying24 rfl
          obtain ⟨z4, rfl, w4⟩ := hk.int 4 rfl Try.underlying3 rfl
          obtain ⟨z5, rfl, w5⟩ := hk.int 5 rfl Try.underlying24 rfl
          obtain ⟨z6, rfl, w6⟩ := hk.int 6 rfl Try.underlying3 rfl
          exact ⟨⟨z0, z1, z2, z3, z4, z5, z6⟩, ⟨wfR14 w0, wfR14 w1, wfR14 w2, wfR14 w3, wfR14 w4, wfR14 w5, wfR14 w6⟩, hc⟩)
      exact ⟨l, q1, q2, q3, h1, h2⟩
  have hF' : ∃ l : List F3, l.length = fl ∧ (∀ k, inF (l.getD k zeroF)) ∧ (Els 3 encF w fa l.length fun k => l.getD k zeroF) ∧ fl ≤ fc ∧ fc ≤ maxLen := by
    rcases hF with ⟨rfl, rfl, rfl⟩ | ⟨ad, rfl, h1, h2, hall⟩
    · exact ⟨[], rfl, fun k => by simpa using (zero_in4).2, none_els, Nat.le_refl _, by decide⟩
    · obtain ⟨l, q1, q2, q3⟩ := els_of (w := w) (ok := inF) (en := encF) (d := zeroF) (sz := 3) zero_in4.2 (by omega) encF_len (ad := ad) (len := fl) (fun i hi => by
        obtain ⟨cs, hlen, hc, hk⟩ := hall i hi
        match cs, hlen with
        | [c0, c1, c2], _ =>
          obtain ⟨z0, rfl, w0⟩ := hk.int 0 rfl Try.underlying3 rfl
          obtain ⟨z1, rfl, w1⟩ := hk.int 1 rfl Try.underlying24 rfl
          obtain ⟨z2, rfl, w2⟩ := hk.int 2 rfl Try.underlying3 rfl
          exact ⟨⟨z0, z1, z2⟩, ⟨wfR14 w0, wfR14 w1, wfR14 w2⟩, hc⟩)
      exact ⟨l, q1, q2, q3, h1, h2⟩
  have hN' : ∃ l : List N2, l.length = nl ∧ NotesAt w na l ∧ nl ≤ nc ∧ nc ≤ maxLen := by
    rcases hN with ⟨rfl, rfl, rfl⟩ | ⟨ad, rfl, h1, h2, hall⟩
    · exact ⟨[], rfl, ⟨fun _ => zeroH, none_els, fun k hk => absurd hk (Nat.not_lt_zero k)⟩, Nat.le_refl _, by decide⟩
    · have hz : ∃ x : H2 × N2, NoteOk w x.1 x.2 := ⟨(zeroH, zeroN), rfl, rfl, ⟨Nat.le_refl _, by decide⟩, ⟨Nat.le_refl _, by decide⟩, fun k hk => absurd hk (Nat.not_lt_zero k), fun k hk => absurd hk (Nat.not_lt_zero k)⟩
      have hz0 : NoteOk w zeroH zeroN := ⟨rfl, rfl, ⟨Nat.le_refl _, by decide⟩, ⟨Nat.le_refl _, by decide⟩, fun k hk => absurd hk (Nat.not_lt_zero k), fun k hk => absurd hk (Nat.not_lt_zero k)⟩
      obtain ⟨l, q1, q2, q3⟩ := els_of (w := w) (ok := fun x : H2 × N2 => NoteOk w x.1 x.2) (en := fun x : H2 × N2 => encH x.1) (d := (zeroH, zeroN)) (sz := 2) hz0 (by omega) (fun x => encH_len x.1) (ad := ad) (len := nl) (fun i hi => by
        obtain ⟨cs, hlen, hc, hk⟩ := hall i hi
        match cs, hlen with
        | [c0, c1], _ =>
          obtain ⟨la, ll, lc, lz, rfl, r1⟩ := hk.ints 0 rfl Try.underlying73 Try.underlying24 (by kernel_rfl) rfl
          obtain ⟨pa, pl, pc, pz, rfl, r2⟩ := hk.ints 1 rfl Try.underlying74 Try.underlying3 (by kernel_rfl) rfl
          obtain ⟨ln, e1, h3, h4, h5⟩ := r1.irow
          obtain ⟨pn, e2, h6, h7, h8⟩ := r2.irow
          exact ⟨(⟨la, ll, lc, pa, pl, pc⟩, ⟨ln, pn⟩), ⟨e1.symm, e2.symm, ⟨h4, h5⟩, ⟨h7, h8⟩, h3, h6⟩, hc⟩)
      refine ⟨l.map (·.2), by simpa using q1, ⟨fun k => (l.getD k (zeroH, zeroN)).1, ?_, fun k hk => ?_⟩, h1, h2⟩
      · rw [List.length_map]
        exact fun k j hk hj => q3 k j hk hj
      · rw [List.length_map] at hk
        have := q2 k
        rwa [show (l.map (·.2)).getD k zeroN = (l.getD k (zeroH, zeroN)).2 by simp [hk]]
  obtain ⟨il', e1, i1, i2, i3, i4⟩ := hI'
  obtain ⟨fl', e2, g1, g2, g3, g4⟩ := hF'
  obtain ⟨nl', e3, m1, m2, m3⟩ := hN'
  subst e1 e2 e3
  exact ⟨⟨⟨a0, a1, a2, a3, a4, a5, a6, a7, a8, a9, a10, a11, a12, a13, a14, a15, a16, a17, a18⟩, il', nl', fl'⟩, ⟨ia, ic, na, nc, fa, fc⟩, rfl,
    ⟨⟨⟨wfR14 w0, wfR14 w1, wfR14 w2, wfR14 w3, wfR14 w4, wfR14 w5, wfR14 w6, wfR14 w7, wfR14 w8, wfR14 w9, wfR14 w10, wfR14 w11, wfR14 w12, wfR14 w13, wfR14 w14, wfR14 w15, wfR14 w16, wfR14 w17⟩, i1, g1⟩, i2, m1, g2, ⟨i3, i4⟩, ⟨m2, m3⟩, ⟨g3, g4⟩⟩⟩
end Go.Proofs.Ytjfjekncmejfpaa
namespace Go.Proofs.Ytjfjekncmejfpaa
open Go.RowKit
set_option maxRecDepth 20000
set_option linter.unusedVariables false
set_option linter.unusedSimpArgs false

theorem few_snap {j : J4} (h : Few j) : Few (snapJ j) := by
  obtain ⟨h1, h2, h3, h4⟩ := h
  unfold snapJ
  split
  · exact ⟨h1, h2, h3, h4⟩
  · refine ⟨by simpa using h1, by simpa using h2, by simpa using h3, fun k => ?_⟩
    rcases Nat.lt_or_ge k j.notes.length with hk | hk
    · rw [map_getD _ _ zeroN _ hk]
      exact ⟨by simpa [snapN] using (h4 k).1, (h4 k).2⟩
    · rw [getD_none (by simpa using hk)]; simp [zeroN]
end Go.Proofs.Ytjfjekncmejfpaa
