/- Check and valid of package geom. -/
import Derived.Test.YthcgncgnbjhniaaERng
import Derived.LoopN
namespace Go.Proofs.Ythcgncgnbjhniaa
open Go.RowKit
set_option maxRecDepth 20000
set_option linter.unusedVariables false
set_option linter.unusedSimpArgs false

theorem info24 : (Try.prog.info? 31).map (·.size) = some 19 := by kernel_rfl
/-- A geometry is loaded whole. -/
theorem load_geo {o : Oper} {a : Act} {w : World} {g : G19} {b : Nat} (x : Operand) (ho : o.op = .load 31 x) (hx : a.eval x = .pointer (some ⟨b, 0, none⟩)) (h : GeoAt w b g) :
    (execOp a.eval o).run Try.prog w = .ok (.value (.agg (geoC g))) w := by
  unfold execOp
  simp only [ho, hx, Instr.loadAt, Instr.sureAddr, Sem.run_bind, Sem.run_pure, Result.andThen_ok, run_loadVar_row w b 31 31 (geoC g) (0, 0) _ h Try.underlying31 rfl info24]
theorem geo_new (w : World) (g : G19) : GeoAt (w.alloc (.cells (geoC g) 31)) w.heap.size g := blk_new w (geoC g) 31
/-- The elements of an array of 17, by their number. -/
theorem at17 (vs : Array Value) (hs : vs.size = 17) : ∀ j : Nat, j < 17 → ∀ w, Sem.run Try.prog (Instr.index 68 (.agg vs) (.int .i64 j)) w = .ok (vs.getD j undef) w := by
  obtain ⟨l⟩ := vs
  match l, hs with
  | [v0, v1, v2, v3, v4, v5, v6, v7, v8, v9, v10, v11, v12, v13, v14, v15, v16], _ =>
    intro j hj w
    have : j = 0 ∨ j = 1 ∨ j = 2 ∨ j = 3 ∨ j = 4 ∨ j = 5 ∨ j = 6 ∨ j = 7 ∨ j = 8 ∨ j = 9 ∨ j = 10 ∨ j = 11 ∨ j = 12 ∨ j = 13 ∨ j = 14 ∨ j = 15 ∨ j = 16 := by omega
    rcases this with rfl | rfl | rfl | rfl | rfl | rfl | rfl | rfl | rfl | rfl | rfl | rfl | rfl | rfl | rfl | rfl | rfl
    all_goals
      clear hj
      show _ = _
      kernel_rfl
set_option maxHeartbeats 1000000 in
theorem check_no (g : G19) (w : World) (hn : btwE g.cols 1 8 = false) :
    Calls Try.prog 21 #[.agg (geoC g)] w fun e' w' => e' = .returned (.int .i64 6) ∧ Below w.heap.size w w' := by
  have D := geo_new w g
  have b0 := tbel1 w (.cells (geoC g) 31)
  go_enter Try.func21, Try.ntmps21
  go_upto_region 1 with (fail)
  generalize w.alloc _ = U at *
  have CE := Lib.hid fun x (hx : Old U x) => (D.old hx).cells
  (refine wp_region_plan 4 [(1, true), (2, true), (0, false), (3, true)] (by kernel_rfl) (by kernel_rfl) ?_; simp only [pick, List.getElem?_cons_succ, List.getElem?_cons_zero, List.drop_succ_cons, List.drop_zero])
  repeat (first | (apply TextV.sees (hw := by kernel_rfl); (focus (intro x hx K hK; have hc := CE.out x hx; go_simp; exact hK)); simp only [Act.put, List.getElem_toArray, List.getElem_cons_succ, List.getElem_cons_zero, List.setIfInBounds_toArray, List.set_cons_zero, List.set_cons_succ]) | (apply TextV.idle; (focus (intro x hx K hK; go_simp; exact hK)); simp only [Act.put, List.getElem_toArray, List.getElem_cons_succ, List.getElem_cons_zero, List.setIfInBounds_toArray, List.set_cons_zero, List.set_cons_succ]))
  (refine TextV.loud (V := fun v y => FnAt y v 1 8) (fun x hx => (within_any 1 8 x).mono fun e y h => by obtain ⟨⟨v, h1, h2⟩, h3⟩ := h; exact ⟨v, h1, h2, h3⟩) (by kernel_rfl) (fun _ => by kernel_rfl) (fun v y hv hy => ?_); simp only [Act.put, List.getElem_toArray, List.getElem_cons_succ, List.getElem_cons_zero, List.setIfInBounds_toArray, List.set_cons_zero, List.set_cons_succ])
  obtain ⟨p, q, rfl, P, Q⟩ := hv
  have c := fun x (hx : Old y x) => fn_any g.cols 1 8 p q x (P.old hx) (Q.old hx)
  rw [hn] at c
  (refine TextV.call c (by kernel_rfl) (fun _ => by kernel_rfl) ?_; simp only [Act.put, List.getElem_toArray, List.getElem_cons_succ, List.getElem_cons_zero, List.setIfInBounds_toArray, List.set_cons_zero, List.set_cons_succ])
  apply TextV.done
  intro x hx
  have hz := tstep b0 (hy.old hx) b0.size
  clear CE c D P Q
  go_wp2
  go_ret
  exact ⟨rfl, hz⟩
/-- The ranges, by their number. -/
theorem rngs_any (g : G19) (w : World) :
    Calls Try.prog 36 #[.agg (geoC g)] w fun e w' => (∃ vs : Array Value, vs.size = 17 ∧ e = .returned (.agg vs) ∧ ∀ j, j < 17 → FnAt w' (vs.getD j undef) (lowE.getD j 0) ((topE g).getD j 0)) ∧ Below w.heap.size w w' :=
  (ranges_any g w).mono fun e w' h => by
    obtain ⟨⟨s, r, t, a, b, m, d, he, h1, h2, h3, h4, h5, h6, h7⟩, hb⟩ := h
    refine ⟨⟨_, rfl, he, fun j hj => ?_⟩, hb⟩
    have : j = 0 ∨ j = 1 ∨ j = 2 ∨ j = 3 ∨ j = 4 ∨ j = 5 ∨ j = 6 ∨ j = 7 ∨ j = 8 ∨ j = 9 ∨ j = 10 ∨ j = 11 ∨ j = 12 ∨ j = 13 ∨ j = 14 ∨ j = 15 ∨ j = 16 := by omega
    rcases this with rfl | rfl | rfl | rfl | rfl | rfl | rfl | rfl | rfl | rfl | rfl | rfl | rfl | rfl | rfl | rfl | rfl
    · exact h1
    · exact h1
    · exact h2
    · exact h2
    · exact h2
    · exact h2
    · exact h3
    · exact h3
    · exact h4
    · exact h5
    · exact h6
    · exact h6
    · exact h7
    · exact h7
    · exact h7
    · exact h7
    · exact h7
theorem nums_at (g : G19) (j : Nat) (hj : j < 17) : (#[.int .i64 g.wide, .int .i64 g.high, .int .i64 g.gap, .int .i64 g.nmost, .int .i64 g.tmost, .int .i64 g.bmost, .int .i64 g.rule, .int .i64 g.sep, .int .i64 g.first, .int .i64 g.grid, .int .i64 g.tmany, .int .i64 g.bmany, .int .i64 g.club, .int .i64 g.widow, .int .i64 g.split, .int .i64 g.later, .int .i64 g.spare] : Array Value)[j]? = some (.int .i64 ((numsE g).getD j 0)) := by
  have : j = 0 ∨ j = 1 ∨ j = 2 ∨ j = 3 ∨ j = 4 ∨ j = 5 ∨ j = 6 ∨ j = 7 ∨ j = 8 ∨ j = 9 ∨ j = 10 ∨ j = 11 ∨ j = 12 ∨ j = 13 ∨ j = 14 ∨ j = 15 ∨ j = 16 := by omega
  rcases this with rfl | rfl | rfl | rfl | rfl | rfl | rfl | rfl | rfl | rfl | rfl | rfl | rfl | rfl | rfl | rfl | rfl <;> rfl
set_option maxHeartbeats 1000000 in
theorem check_yes (g : G19) (w : World) (hn : btwE g.cols 1 8 = true) :
    Calls Try.prog 21 #[.agg (geoC g)] w fun e' w' => e' = .returned (.int .i64 (bif fitsE g 17 then 0 else 7)) ∧ Below w.heap.size w w' := by
  have D := geo_new w g
  have b0 := tbel1 w (.cells (geoC g) 31)
  go_enter Try.func21, Try.ntmps21
  go_upto_region 1 with (fail)
  generalize w.alloc _ = U at *
  have CE := Lib.hid fun x (hx : Old U x) => (D.old hx).cells
  (refine wp_region_plan 4 [(1, true), (2, true), (0, false), (3, true)] (by kernel_rfl) (by kernel_rfl) ?_; simp only [pick, List.getElem?_cons_succ, List.getElem?_cons_zero, List.drop_succ_cons, List.drop_zero])
  repeat (first | (apply TextV.sees (hw := by kernel_rfl); (focus (intro x hx K hK; have hc := CE.out x hx; go_simp; exact hK)); simp only [Act.put, List.getElem_toArray, List.getElem_cons_succ, List.getElem_cons_zero, List.setIfInBounds_toArray, List.set_cons_zero, List.set_cons_succ]) | (apply TextV.idle; (focus (intro x hx K hK; go_simp; exact hK)); simp only [Act.put, List.getElem_toArray, List.getElem_cons_succ, List.getElem_cons_zero, List.setIfInBounds_toArray, List.set_cons_zero, List.set_cons_succ]))
  (refine TextV.loud (V := fun v y => FnAt y v 1 8) (fun x hx => (within_any 1 8 x).mono fun e y h => by obtain ⟨⟨v, h1, h2⟩, h3⟩ := h; exact ⟨v, h1, h2, h3⟩) (by kernel_rfl) (fun _ => by kernel_rfl) (fun v y hv hy => ?_); simp only [Act.put, List.getElem_toArray, List.getElem_cons_succ, List.getElem_cons_zero, List.setIfInBounds_toArray, List.set_cons_zero, List.set_cons_succ])
  obtain ⟨p, q, rfl, P, Q⟩ := hv
  have c := fun x (hx : Old y x) => fn_any g.cols 1 8 p q x (P.old hx) (Q.old hx)
  rw [hn] at c
  (refine TextV.call c (by kernel_rfl) (fun _ => by kernel_rfl) ?_; simp only [Act.put, List.getElem_toArray, List.getElem_cons_succ, List.getElem_cons_zero, List.setIfInBounds_toArray, List.set_cons_zero, List.set_cons_succ])
  apply TextV.done
  intro x hx
  have hz := tstep b0 (hy.old hx) b0.size
  have D1 := D.old (hy.old hx)
  clear CE c D P Q hn b0 hy hx
  go_upto_region 3 with (fail)
  (refine wp_region_plain (Old x) 2 (Below.refl _ x) ?_; simp only [List.take_succ_cons, List.take_zero, List.drop_succ_cons, List.drop_zero])
  (refine Text.val (fun x hx => load_geo (.tmp 1) rfl rfl (D1.old hx)) (by kernel_rfl) ?_; simp only [Act.put, List.getElem_toArray, List.getElem_cons_succ, List.getElem_cons_zero, List.setIfInBounds_toArray, List.set_cons_zero, List.set_cons_succ])
  (refine Text.call (Old.call fun x hx => numbers_any g x) (by kernel_rfl) (fun _ => by kernel_rfl) ?_; simp only [Act.put, List.getElem_toArray, List.getElem_cons_succ, List.getElem_cons_zero, List.setIfInBounds_toArray, List.set_cons_zero, List.set_cons_succ])
  intro x1 hx1
  have D2 := (D1.old hx1).alloc (.cells #[.int .i64 g.wide, .int .i64 g.high, .int .i64 g.gap, .int .i64 g.nmost, .int .i64 g.tmost, .int .i64 g.bmost, .int .i64 g.rule, .int .i64 g.sep, .int .i64 g.first, .int .i64 g.grid, .int .i64 g.tmany, .int .i64 g.bmany, .int .i64 g.club, .int .i64 g.widow, .int .i64 g.split, .int .i64 g.later, .int .i64 g.spare] 66)
  have R2 := blk_new x1 #[.int .i64 g.wide, .int .i64 g.high, .int .i64 g.gap, .int .i64 g.nmost, .int .i64 g.tmost, .int .i64 g.bmost, .int .i64 g.rule, .int .i64 g.sep, .int .i64 g.first, .int .i64 g.grid, .int .i64 g.tmany, .int .i64 g.bmany, .int .i64 g.club, .int .i64 g.widow, .int .i64 g.split, .int .i64 g.later, .int .i64 g.spare] 66
  have bz := tstep (tstep hz hx1 hz.size) (tbel1 x1 (.cells #[.int .i64 g.wide, .int .i64 g.high, .int .i64 g.gap, .int .i64 g.nmost, .int .i64 g.tmost, .int .i64 g.bmost, .int .i64 g.rule, .int .i64 g.sep, .int .i64 g.first, .int .i64 g.grid, .int .i64 g.tmany, .int .i64 g.bmany, .int .i64 g.club, .int .i64 g.widow, .int .i64 g.split, .int .i64 g.later, .int .i64 g.spare] 66)) (tstep hz hx1 hz.size).size
  have hz1 := tstep hz hx1 hz.size
  clear D1 hz hx1
  dsimp only [numsE, List.map]
  go_upto_region 4 with (fail)
  generalize hG : x1.heap.size = G at *
  have hGR := R2.lt
  have GB : w.heap.size ≤ G := by
    have := hz1.size
    omega
  generalize x1.alloc _ = V at *
  refine wp_region_lit ?_
  refine wpList_load_row rfl 31 (.tmp 1) rfl _ rfl 31 _ _ _ D2 Try.underlying31 rfl info24 ?_
  go_wp2_with fail
  refine (rngs_any g V).mono ?_
  rintro e w2 ⟨⟨vs, hvs, rfl, F⟩, b2⟩
  have R3 := R2.old b2
  replace bz := tstep bz b2 bz.size
  clear b2 R2 D2
  have A := at17 vs hvs
  have HF := Lib.hid F
  clear F hvs
  go_wp2_with fail
  go_loopw [15] (fun i wr => ∃ j : Nat, j ≤ 17 ∧ i = .int .i64 j ∧ Below w2.heap.size w2 wr ∧ Hid (fitsE g j = true)) (fun i _ => 17 - (intOf i).toNat)
  case atStart => exact ⟨0, Nat.zero_le _, rfl, Below.refl _ _, Lib.hid rfl⟩
  case round =>
    obtain ⟨j, hj, rfl, bw, HQ⟩ := hrel
    by_cases hlt : j < 17
    · have R4 := R3.old bw
      have q := (R4.cell j).trans (nums_at g j hlt)
      obtain ⟨p', q', hv, P', Q'⟩ := (HF.out j hlt).old bw
      have A' := A j hlt
      rw [hv] at A'
      have hG4 := R4.lt
      have hstep : Hid (fitsE g (j + 1) = (fitsE g j && fitE g j)) := Lib.hid rfl
      have hfit : Hid (fitE g j = btwE ((numsE g).getD j 0) (lowE.getD j 0) ((topE g).getD j 0)) := Lib.hid rfl
      generalize (numsE g).getD j 0 = n at *
      generalize lowE.getD j 0 = lo at *
      generalize (topE g).getD j 0 = hi at *
      have c := fn_any n lo hi p' q' wr P' Q'
      clear A HF hv P' Q' R4
      generalize btwE n lo hi = z at c hfit
      cases z
      · have HE := Lib.hid (fitsE_no (g := g) (m := 17) hlt hfit.out)
        go_wp2_with fail
        refine c.mono ?_
        rintro e w3 ⟨rfl, b3⟩
        go_wp2
        go_ret
        exact ⟨by rw [HE.out]; rfl, tstep bz (tstep bw b3 bw.size) bz.size⟩
      · have HE : Hid (fitsE g (j + 1) = true) := Lib.hid (by rw [hstep.out, HQ.out, hfit.out]; rfl)
        go_wp2_with fail
        refine c.mono ?_
        rintro e w3 ⟨rfl, b3⟩
        go_wp2
        go_roundw
        case rel => exact ⟨j + 1, by omega, by go_num, tstep bw b3 bw.size, HE⟩
        case measure => simp [intOf]; omega
    · have e6 : j = 17 := by omega
      subst e6
      clear HF A
      go_wp2
      go_ret
      exact ⟨by rw [HQ.out]; rfl, tstep bz bw bz.size⟩
theorem gcheck_any (g : G19) (w : World) :
    Calls Try.prog 21 #[.agg (geoC g)] w fun e' w' => e' = .returned (.int .i64 (errE g)) ∧ Below w.heap.size w w' := by
  unfold errE
  cases h : btwE g.cols 1 8
  · exact check_no g w h
  · exact check_yes g w h
end Go.Proofs.Ythcgncgnbjhniaa
