/- The walk of GeomTells. -/
import Derived.Test.YtlinggmnelejfaaEAw
namespace Go.Proofs.Ytlinggmnelejfaa
open Go.RowKit
set_option maxRecDepth 20000
set_option linter.unusedVariables false
set_option linter.unusedSimpArgs false

theorem sz_int2 (w : World) : (sizeOf 3).run Try.prog w = .ok 1 w := by kernel_rfl
theorem pt2 (a b : Value) : (∀ w, (part 3 #[a, b] (0 : Nat)).run Try.prog w = .ok a w) ∧ (∀ w, (part 3 #[a, b] (1 : Nat)).run Try.prog w = .ok b w) :=
  ⟨fun _ => by kernel_rfl, fun _ => by kernel_rfl⟩
@[go_sem] theorem eq_arr2 (d : Nat) (a b : Int) (w : World) : (Op.equalIn (d + 1 + 1) 31 (.agg #[.int .i64 a, .int .i64 b]) (.agg #[.int .i64 a, .int .i64 b])).run Try.prog w = .ok true w := by
  rw [Op.equalIn]
  have q := fun x => run_equalIn_int (P := Try.prog) w d 3 .i64 .i64 x x Try.underlying3
  obtain ⟨p0, p1⟩ := pt2 (.int .i64 a) (.int .i64 b)
  generalize Op.equalIn (d + 1) = E at q ⊢
  simp only [Sem.run_bind, run_underlying Try.underlying31, Result.andThen_ok, sz_int2]
  simp [Std.Legacy.Range.forIn_eq_forIn_range', List.range', p0, p1, q]
theorem eql_arr2 {o : Oper} {a : Act} (x y : Operand) (ho : o.op = .binOp .eql 31 x y 31) {n0 n1 : Int} (hx : a.eval x = .agg #[.int .i64 n0, .int .i64 n1]) (hy : a.eval y = .agg #[.int .i64 n0, .int .i64 n1]) (w : World) :
    (execOp a.eval o).run Try.prog w = .ok (.value (.bool true)) w := by
  unfold execOp
  simp only [ho, hx, hy]
  simp [go_sem]
theorem ewfR {a : Int} (h : (Lit.int .i64 a).wf = true) : inR a := by
  simp [Lit.wf, IntKind.min, IntKind.max, IntKind.signed, IntKind.bits] at h
  unfold inR
  omega
set_option maxHeartbeats 2000000 in
theorem gtells_walk (g : G19) (n e c h p i v : Int) (w : World)
    (c1 : ∀ x, Calls Try.prog 6 #[.agg (geoC g), .int .i64 n] x fun e' y => e' = .returned (.tuple #[.int .i64 p, .int .i64 i]) ∧ Below x.heap.size x y)
    (c2 : ∀ x, Calls Try.prog 7 #[.agg (geoC g)] x fun e' y => e' = .returned (.int .i64 e) ∧ Below x.heap.size x y)
    (c3 : ∀ x, Calls Try.prog 8 #[.agg (geoC g)] x fun e' y => e' = .returned (.int .i64 e) ∧ Below x.heap.size x y)
    (c4 : ∀ x, Calls Try.prog 9 #[.agg (geoC g), .int .i64 n] x fun e' y => e' = .returned (.int .i64 c) ∧ Below x.heap.size x y)
    (c5 : ∀ x, Calls Try.prog 10 #[.agg (geoC g), .int .i64 n] x fun e' y => e' = .returned (.int .i64 c) ∧ Below x.heap.size x y)
    (c6 : ∀ x, Calls Try.prog 11 #[.agg (geoC g), .int .i64 n] x fun e' y => e' = .returned (.int .i64 h) ∧ Below x.heap.size x y)
    (c7 : ∀ x, Calls Try.prog 12 #[.agg (geoC g), .int .i64 n] x fun e' y => e' = .returned (.int .i64 h) ∧ Below x.heap.size x y)
    (c8 : ∀ x, Calls Try.prog 13 #[.agg (geoC g), .int .i64 n] x fun e' y => e' = .returned (.agg #[.int .i64 p, .int .i64 i]) ∧ Below x.heap.size x y)
    (c9 : ∀ x, Calls Try.prog 14 #[.agg (geoC g), .int .i64 n] x fun e' y => e' = .returned (.int .i64 v) ∧ Below x.heap.size x y)
    (c10 : ∀ x, Calls Try.prog 15 #[.agg (geoC g), .int .i64 n] x fun e' y => e' = .returned (.int .i64 v) ∧ Below x.heap.size x y) :
    Calls Try.prog 3 #[.agg (geoC g), .int .i64 n] w fun e w' => e = .returned (.bool true) ∧ Below w.heap.size w w' := by
  have D := geo_new w g
  have b0 := tbel1 w (.cells (geoC g) 24)
  replace c1 := Lib.hid c1
  replace c2 := Lib.hid c2
  replace c3 := Lib.hid c3
  replace c4 := Lib.hid c4
  replace c5 := Lib.hid c5
  replace c6 := Lib.hid c6
  replace c7 := Lib.hid c7
  replace c8 := Lib.hid c8
  replace c9 := Lib.hid c9
  replace c10 := Lib.hid c10
  go_enter Try.func3, Try.ntmps3
  go_upto_region 1 with (fail)
  generalize w.alloc _ = U at *
  have CE := Lib.hid fun z (hz : Old U z) => True.intro
  (refine wp_region_plain (Old U) 3 (Below.refl _ U) ?_; simp only [List.take_succ_cons, List.take_zero, List.drop_succ_cons, List.drop_zero])
  (refine Text.val (fun y hy => load_geo (.tmp 2) rfl rfl (D.old hy)) (by kernel_rfl) ?_; simp only [Act.put, List.getElem_toArray, List.getElem_cons_succ, List.getElem_cons_zero, List.setIfInBounds_toArray, List.set_cons_zero, List.set_cons_succ])
  repeat (first | (apply Text.sees (hw := by kernel_rfl); (focus (intro x hx K hK; have hc := CE.out x hx; go_simp; exact hK)); simp only [Act.put, List.getElem_toArray, List.getElem_cons_succ, List.getElem_cons_zero, List.setIfInBounds_toArray, List.set_cons_zero, List.set_cons_succ]) | (apply Text.idle; (focus (intro x hx K hK; go_simp; exact hK)); simp only [Act.put, List.getElem_toArray, List.getElem_cons_succ, List.getElem_cons_zero, List.setIfInBounds_toArray, List.set_cons_zero, List.set_cons_succ]))
  (refine Text.call (Old.call fun y hy => c1.out y) (by kernel_rfl) (fun _ => by kernel_rfl) ?_; simp only [Act.put, List.getElem_toArray, List.getElem_cons_succ, List.getElem_cons_zero, List.setIfInBounds_toArray, List.set_cons_zero, List.set_cons_succ])
  intro y hy
  have D1 := D.old hy
  have b1 := tstep b0 hy b0.size
  clear D b0 hy CE
  have CE := Lib.hid fun z (hz : Old y z) => True.intro
  go_upto_region 2 with (fail)
  (refine wp_region_text (Old y) 44 (by kernel_rfl) (by kernel_rfl) (Below.refl _ y).drew ?_; simp only [List.take_succ_cons, List.take_zero, List.drop_succ_cons, List.drop_zero])
  (refine Text.val (fun y hy => load_geo (.tmp 2) rfl rfl (D1.old hy)) (by kernel_rfl) ?_; simp only [Act.put, List.getElem_toArray, List.getElem_cons_succ, List.getElem_cons_zero, List.setIfInBounds_toArray, List.set_cons_zero, List.set_cons_succ])
  (refine Text.call (Old.call fun y hy => c2.out y) (by kernel_rfl) (fun _ => by kernel_rfl) ?_; simp only [Act.put, List.getElem_toArray, List.getElem_cons_succ, List.getElem_cons_zero, List.setIfInBounds_toArray, List.set_cons_zero, List.set_cons_succ])
  (refine Text.val (fun y hy => load_geo (.tmp 2) rfl rfl (D1.old hy)) (by kernel_rfl) ?_; simp only [Act.put, List.getElem_toArray, List.getElem_cons_succ, List.getElem_cons_zero, List.setIfInBounds_toArray, List.set_cons_zero, List.set_cons_succ])
  (refine Text.call (Old.call fun y hy => c3.out y) (by kernel_rfl) (fun _ => by kernel_rfl) ?_; simp only [Act.put, List.getElem_toArray, List.getElem_cons_succ, List.getElem_cons_zero, List.setIfInBounds_toArray, List.set_cons_zero, List.set_cons_succ])
  repeat (first | (apply Text.sees (hw := by kernel_rfl); (focus (intro x hx K hK; have hc := CE.out x hx; go_simp; exact hK)); simp only [Act.put, List.getElem_toArray, List.getElem_cons_succ, List.getElem_cons_zero, List.setIfInBounds_toArray, List.set_cons_zero, List.set_cons_succ]) | (apply Text.idle; (focus (intro x hx K hK; go_simp; exact hK)); simp only [Act.put, List.getElem_toArray, List.getElem_cons_succ, List.getElem_cons_zero, List.setIfInBounds_toArray, List.set_cons_zero, List.set_cons_succ]))
  (refine Text.val (fun y hy => load_geo (.tmp 2) rfl rfl (D1.old hy)) (by kernel_rfl) ?_; simp only [Act.put, List.getElem_toArray, List.getElem_cons_succ, List.getElem_cons_zero, List.setIfInBounds_toArray, List.set_cons_zero, List.set_cons_succ])
  repeat (first | (apply Text.sees (hw := by kernel_rfl); (focus (intro x hx K hK; have hc := CE.out x hx; go_simp; exact hK)); simp only [Act.put, List.getElem_toArray, List.getElem_cons_succ, List.getElem_cons_zero, List.setIfInBounds_toArray, List.set_cons_zero, List.set_cons_succ]) | (apply Text.idle; (focus (intro x hx K hK; go_simp; exact hK)); simp only [Act.put, List.getElem_toArray, List.getElem_cons_succ, List.getElem_cons_zero, List.setIfInBounds_toArray, List.set_cons_zero, List.set_cons_succ]))
  (refine Text.call (Old.call fun y hy => c4.out y) (by kernel_rfl) (fun _ => by kernel_rfl) ?_; simp only [Act.put, List.getElem_toArray, List.getElem_cons_succ, List.getElem_cons_zero, List.setIfInBounds_toArray, List.set_cons_zero, List.set_cons_succ])
  (refine Text.val (fun y hy => load_geo (.tmp 2) rfl rfl (D1.old hy)) (by kernel_rfl) ?_; simp only [Act.put, List.getElem_toArray, List.getElem_cons_succ, List.getElem_cons_zero, List.setIfInBounds_toArray, List.set_cons_zero, List.set_cons_succ])
  repeat (first | (apply Text.sees (hw := by kernel_rfl); (focus (intro x hx K hK; have hc := CE.out x hx; go_simp; exact hK)); simp only [Act.put, List.getElem_toArray, List.getElem_cons_succ, List.getElem_cons_zero, List.setIfInBounds_toArray, List.set_cons_zero, List.set_cons_succ]) | (apply Text.idle; (focus (intro x hx K hK; go_simp; exact hK)); simp only [Act.put, List.getElem_toArray, List.getElem_cons_succ, List.getElem_cons_zero, List.setIfInBounds_toArray, List.set_cons_zero, List.set_cons_succ]))
  (refine Text.call (Old.call fun y hy => c5.out y) (by kernel_rfl) (fun _ => by kernel_rfl) ?_; simp only [Act.put, List.getElem_toArray, List.getElem_cons_succ, List.getElem_cons_zero, List.setIfInBounds_toArray, List.set_cons_zero, List.set_cons_succ])
  repeat (first | (apply Text.sees (hw := by kernel_rfl); (focus (intro x hx K hK; have hc := CE.out x hx; go_simp; exact hK)); simp only [Act.put, List.getElem_toArray, List.getElem_cons_succ, List.getElem_cons_zero, List.setIfInBounds_toArray, List.set_cons_zero, List.set_cons_succ]) | (apply Text.idle; (focus (intro x hx K hK; go_simp; exact hK)); simp only [Act.put, List.getElem_toArray, List.getElem_cons_succ, List.getElem_cons_zero, List.setIfInBounds_toArray, List.set_cons_zero, List.set_cons_succ]))
  (refine Text.val (fun y hy => load_geo (.tmp 2) rfl rfl (D1.old hy)) (by kernel_rfl) ?_; simp only [Act.put, List.getElem_toArray, List.getElem_cons_succ, List.getElem_cons_zero, List.setIfInBounds_toArray, List.set_cons_zero, List.set_cons_succ])
  repeat (first | (apply Text.sees (hw := by kernel_rfl); (focus (intro x hx K hK; have hc := CE.out x hx; go_simp; exact hK)); simp only [Act.put, List.getElem_toArray, List.getElem_cons_succ, List.getElem_cons_zero, List.setIfInBounds_toArray, List.set_cons_zero, List.set_cons_succ]) | (apply Text.idle; (focus (intro x hx K hK; go_simp; exact hK)); simp only [Act.put, List.getElem_toArray, List.getElem_cons_succ, List.getElem_cons_zero, List.setIfInBounds_toArray, List.set_cons_zero, List.set_cons_succ]))
  (refine Text.call (Old.call fun y hy => c6.out y) (by kernel_rfl) (fun _ => by kernel_rfl) ?_; simp only [Act.put, List.getElem_toArray, List.getElem_cons_succ, List.getElem_cons_zero, List.setIfInBounds_toArray, List.set_cons_zero, List.set_cons_succ])
  (refine Text.val (fun y hy => load_geo (.tmp 2) rfl rfl (D1.old hy)) (by kernel_rfl) ?_; simp only [Act.put, List.getElem_toArray, List.getElem_cons_succ, List.getElem_cons_zero, List.setIfInBounds_toArray, List.set_cons_zero, List.set_cons_succ])
  repeat (first | (apply Text.sees (hw := by kernel_rfl); (focus (intro x hx K hK; have hc := CE.out x hx; go_simp; exact hK)); simp only [Act.put, List.getElem_toArray, List.getElem_cons_succ, List.getElem_cons_zero, List.setIfInBounds_toArray, List.set_cons_zero, List.set_cons_succ]) | (apply Text.idle; (focus (intro x hx K hK; go_simp; exact hK)); simp only [Act.put, List.getElem_toArray, List.getElem_cons_succ, List.getElem_cons_zero, List.setIfInBounds_toArray, List.set_cons_zero, List.set_cons_succ]))
  (refine Text.call (Old.call fun y hy => c7.out y) (by kernel_rfl) (fun _ => by kernel_rfl) ?_; simp only [Act.put, List.getElem_toArray, List.getElem_cons_succ, List.getElem_cons_zero, List.setIfInBounds_toArray, List.set_cons_zero, List.set_cons_succ])
  repeat (first | (apply Text.sees (hw := by kernel_rfl); (focus (intro x hx K hK; have hc := CE.out x hx; go_simp; exact hK)); simp only [Act.put, List.getElem_toArray, List.getElem_cons_succ, List.getElem_cons_zero, List.setIfInBounds_toArray, List.set_cons_zero, List.set_cons_succ]) | (apply Text.idle; (focus (intro x hx K hK; go_simp; exact hK)); simp only [Act.put, List.getElem_toArray, List.getElem_cons_succ, List.getElem_cons_zero, List.setIfInBounds_toArray, List.set_cons_zero, List.set_cons_succ]))
  (refine Text.val (fun y hy => load_geo (.tmp 2) rfl rfl (D1.old hy)) (by kernel_rfl) ?_; simp only [Act.put, List.getElem_toArray, List.getElem_cons_succ, List.getElem_cons_zero, List.setIfInBounds_toArray, List.set_cons_zero, List.set_cons_succ])
  repeat (first | (apply Text.sees (hw := by kernel_rfl); (focus (intro x hx K hK; have hc := CE.out x hx; go_simp; exact hK)); simp only [Act.put, List.getElem_toArray, List.getElem_cons_succ, List.getElem_cons_zero, List.setIfInBounds_toArray, List.set_cons_zero, List.set_cons_succ]) | (apply Text.idle; (focus (intro x hx K hK; go_simp; exact hK)); simp only [Act.put, List.getElem_toArray, List.getElem_cons_succ, List.getElem_cons_zero, List.setIfInBounds_toArray, List.set_cons_zero, List.set_cons_succ]))
  (refine Text.call (Old.call fun y hy => c8.out y) (by kernel_rfl) (fun _ => by kernel_rfl) ?_; simp only [Act.put, List.getElem_toArray, List.getElem_cons_succ, List.getElem_cons_zero, List.setIfInBounds_toArray, List.set_cons_zero, List.set_cons_succ])
  repeat (first | (apply Text.sees (hw := by kernel_rfl); (focus (intro x hx K hK; have hc := CE.out x hx; go_simp; exact hK)); simp only [Act.put, List.getElem_toArray, List.getElem_cons_succ, List.getElem_cons_zero, List.setIfInBounds_toArray, List.set_cons_zero, List.set_cons_succ]) | (apply Text.idle; (focus (intro x hx K hK; go_simp; exact hK)); simp only [Act.put, List.getElem_toArray, List.getElem_cons_succ, List.getElem_cons_zero, List.setIfInBounds_toArray, List.set_cons_zero, List.set_cons_succ]))
  (refine Text.val (fun y hy => load_geo (.tmp 2) rfl rfl (D1.old hy)) (by kernel_rfl) ?_; simp only [Act.put, List.getElem_toArray, List.getElem_cons_succ, List.getElem_cons_zero, List.setIfInBounds_toArray, List.set_cons_zero, List.set_cons_succ])
  repeat (first | (apply Text.sees (hw := by kernel_rfl); (focus (intro x hx K hK; have hc := CE.out x hx; go_simp; exact hK)); simp only [Act.put, List.getElem_toArray, List.getElem_cons_succ, List.getElem_cons_zero, List.setIfInBounds_toArray, List.set_cons_zero, List.set_cons_succ]) | (apply Text.idle; (focus (intro x hx K hK; go_simp; exact hK)); simp only [Act.put, List.getElem_toArray, List.getElem_cons_succ, List.getElem_cons_zero, List.setIfInBounds_toArray, List.set_cons_zero, List.set_cons_succ]))
  (refine Text.call (Old.call fun y hy => c9.out y) (by kernel_rfl) (fun _ => by kernel_rfl) ?_; simp only [Act.put, List.getElem_toArray, List.getElem_cons_succ, List.getElem_cons_zero, List.setIfInBounds_toArray, List.set_cons_zero, List.set_cons_succ])
  (refine Text.val (fun y hy => load_geo (.tmp 2) rfl rfl (D1.old hy)) (by kernel_rfl) ?_; simp only [Act.put, List.getElem_toArray, List.getElem_cons_succ, List.getElem_cons_zero, List.setIfInBounds_toArray, List.set_cons_zero, List.set_cons_succ])
  repeat (first | (apply Text.sees (hw := by kernel_rfl); (focus (intro x hx K hK; have hc := CE.out x hx; go_simp; exact hK)); simp only [Act.put, List.getElem_toArray, List.getElem_cons_succ, List.getElem_cons_zero, List.setIfInBounds_toArray, List.set_cons_zero, List.set_cons_succ]) | (apply Text.idle; (focus (intro x hx K hK; go_simp; exact hK)); simp only [Act.put, List.getElem_toArray, List.getElem_cons_succ, List.getElem_cons_zero, List.setIfInBounds_toArray, List.set_cons_zero, List.set_cons_succ]))
  (refine Text.call (Old.call fun y hy => c10.out y) (by kernel_rfl) (fun _ => by kernel_rfl) ?_; simp only [Act.put, List.getElem_toArray, List.getElem_cons_succ, List.getElem_cons_zero, List.setIfInBounds_toArray, List.set_cons_zero, List.set_cons_succ])
  repeat (first | (apply Text.sees (hw := by kernel_rfl); (focus (intro x hx K hK; have hc := CE.out x hx; go_simp; exact hK)); simp only [Act.put, List.getElem_toArray, List.getElem_cons_succ, List.getElem_cons_zero, List.setIfInBounds_toArray, List.set_cons_zero, List.set_cons_succ]) | (apply Text.idle; (focus (intro x hx K hK; go_simp; exact hK)); simp only [Act.put, List.getElem_toArray, List.getElem_cons_succ, List.getElem_cons_zero, List.setIfInBounds_toArray, List.set_cons_zero, List.set_cons_succ]))
  (refine Text.call (Old.call fun y hy => awake13 y) (by kernel_rfl) (fun _ => by kernel_rfl) ?_; simp only [Act.put, List.getElem_toArray, List.getElem_cons_succ, List.getElem_cons_zero, List.setIfInBounds_toArray, List.set_cons_zero, List.set_cons_succ])
  repeat (first | (apply Text.sees (hw := by kernel_rfl); (focus (intro x hx K hK; have hc := CE.out x hx; go_simp; exact hK)); simp only [Act.put, List.getElem_toArray, List.getElem_cons_succ, List.getElem_cons_zero, List.setIfInBounds_toArray, List.set_cons_zero, List.set_cons_succ]) | (apply Text.idle; (focus (intro x hx K hK; go_simp; exact hK)); simp only [Act.put, List.getElem_toArray, List.getElem_cons_succ, List.getElem_cons_zero, List.setIfInBounds_toArray, List.set_cons_zero, List.set_cons_succ]))
  intro z hz
  replace b1 := tstep b1 hz b1.size
  clear CE c1 c2 c3 c4 c5 c6 c7 c8 c9 c10
  go_wp2
  go_ret
  exact ⟨rfl, b1⟩
theorem geomTells_walk (cols : Int) (h_cols : (Lit.int .i64 cols).wf = true) (wide : Int) (h_wide : (Lit.int .i64 wide).wf = true) (gap : Int) (h_gap : (Lit.int .i64 gap).wf = true) (high : Int) (h_high : (Lit.int .i64 high).wf = true) (first : Int) (h_first : (Lit.int .i64 first).wf = true) (grid : Int) (h_grid : (Lit.int .i64 grid).wf = true) (rule : Int) (h_rule : (Lit.int .i64 rule).wf = true) (sep : Int) (h_sep : (Lit.int .i64 sep).wf = true) (nmost : Int) (h_nmost : (Lit.int .i64 nmost).wf = true) (tmost : Int) (h_tmost : (Lit.int .i64 tmost).wf = true) (bmost : Int) (h_bmost : (Lit.int .i64 bmost).wf = true) (tmany : Int) (h_tmany : (Lit.int .i64 tmany).wf = true) (bmany : Int) (h_bmany : (Lit.int .i64 bmany).wf = true) (club : Int) (h_club : (Lit.int .i64 club).wf = true) (widow : Int) (h_widow : (Lit.int .i64 widow).wf = true) (split : Int) (h_split : (Lit.int .i64 split).wf = true) (later : Int) (h_later : (Lit.int .i64 later).wf = true) (spare : Int) (h_spare : (Lit.int .i64 spare).wf = true) (bal : Bool) (n : Int) (hn : (Lit.int .i64 n).wf = true) (w : World) :
    Calls Try.prog 3 #[.agg #[.int .i64 cols, .int .i64 wide, .int .i64 gap, .int .i64 high, .int .i64 first, .int .i64 grid, .int .i64 rule, .int .i64 sep, .int .i64 nmost, .int .i64 tmost, .int .i64 bmost, .int .i64 tmany, .int .i64 bmany, .int .i64 club, .int .i64 widow, .int .i64 split, .int .i64 later, .int .i64 spare, .bool bal], .int .i64 n] w fun e w' => e = .returned (.bool true) ∧ Below w.heap.size w w' := by
  have hn' : inR n := ewfR hn
  exact gtells_walk ⟨cols, wide, gap, high, first, grid, rule, sep, nmost, tmost, bmost, tmany, bmany, club, widow, split, later, spare, bal⟩ n _ _ _ _ _ _ w (fun x => gpage_any _ n x hn') (fun x => gcheck_any _ x) (fun x => rgcheck_any _ x) (fun x => gcol_any _ n x) (fun x => rgcol_any _ n x) (fun x => ghigh_any _ n x) (fun x => rghigh_any _ n x) (fun x => rgpage_any _ n x hn') (fun x => gx_any _ n x hn') (fun x => rgx_any _ n x hn')
end Go.Proofs.Ytlinggmnelejfaa
