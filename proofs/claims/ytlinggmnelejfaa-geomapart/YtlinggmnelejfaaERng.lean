/- ranges of package geom. -/
import Derived.Test.YtlinggmnelejfaaEWith
import Derived.Test.YtlinggmnelejfaaDetV
import Derived.Laws.Tables
namespace Go.Proofs.Ytlinggmnelejfaa
open Go.RowKit
set_option maxRecDepth 20000
set_option linter.unusedVariables false
set_option linter.unusedSimpArgs false

/-- Such a function, by what it caught. -/
def fnV (p q : Nat) : Value := .func (.func 22) #[] #[.pointer (some ⟨p, 0, none⟩), .pointer (some ⟨q, 0, none⟩)]
theorem Blk.ne {w : World} {p q : Nat} {cs ds : Array Value} {T U : TypeId} (h : Blk w p cs T) (k : Blk w q ds U) (hT : T ≠ U) : p ≠ q := by
  rintro rfl
  unfold Blk at h k
  rw [h] at k
  simp only [Option.some.injEq, Obj.cells.injEq] at k
  exact hT k.2.1
theorem info42 : (Try.prog.info? 42).map (·.size) = some 17 := by kernel_rfl
set_option maxHeartbeats 1000000 in
theorem ranges_any (g : G19) (w : World) :
    Calls Try.prog 21 #[geo g] w fun e w' => (∃ s r t a b m d, e = .returned (.agg #[s, s, r, r, r, r, t, t, a, b, m, m, d, d, d, d, d]) ∧ FnAt w' s 1 1073741823 ∧ FnAt w' r 0 1073741823 ∧ FnAt w' t 0 536870912 ∧ FnAt w' a 1 g.high ∧ FnAt w' b 0 (min g.first 536870912) ∧ FnAt w' m 0 4 ∧ FnAt w' d 0 1048576) ∧ Below w.heap.size w w' := by
  unfold geo
  obtain ⟨M, hM⟩ : ∃ M, M = min g.first 536870912 := ⟨_, rfl⟩
  rw [← hM]
  have hm : (if 536870912 < g.first then (536870912 : Int) else g.first) = M := by rw [hM]; split <;> omega
  clear hM
  have D : GeoAt ((w.alloc (.cells (geoC g) 24)).alloc (.cells #[Value.nilFunc, Value.nilFunc, Value.nilFunc, Value.nilFunc, Value.nilFunc, Value.nilFunc, Value.nilFunc, Value.nilFunc, Value.nilFunc, Value.nilFunc, Value.nilFunc, Value.nilFunc, Value.nilFunc, Value.nilFunc, Value.nilFunc, Value.nilFunc, Value.nilFunc] 42)) w.heap.size g := (blk_new w (geoC g) 24).alloc _
  have R := blk_two w (.cells (geoC g) 24) #[Value.nilFunc, Value.nilFunc, Value.nilFunc, Value.nilFunc, Value.nilFunc, Value.nilFunc, Value.nilFunc, Value.nilFunc, Value.nilFunc, Value.nilFunc, Value.nilFunc, Value.nilFunc, Value.nilFunc, Value.nilFunc, Value.nilFunc, Value.nilFunc, Value.nilFunc] 42
  have b0 := tbel2 w (.cells (geoC g) 24) (.cells #[Value.nilFunc, Value.nilFunc, Value.nilFunc, Value.nilFunc, Value.nilFunc, Value.nilFunc, Value.nilFunc, Value.nilFunc, Value.nilFunc, Value.nilFunc, Value.nilFunc, Value.nilFunc, Value.nilFunc, Value.nilFunc, Value.nilFunc, Value.nilFunc, Value.nilFunc] 42)
  generalize geoC g = C at *
  go_enter Try.func21, Try.ntmps21
  go_wp2_with fail
  generalize (w.alloc _).alloc _ = W0 at *
  refine (within_any _ _ _).mono ?_
  rintro e w1 ⟨⟨s, rfl, F1⟩, b1⟩
  replace R := R.old b1
  replace D := D.old b1
  replace b0 := tstep b0 b1 b0.size
  clear b1
  go_wp2_with fail
  refine (within_any _ _ _).mono ?_
  rintro e w2 ⟨⟨r, rfl, F2⟩, b2⟩
  replace R := R.old b2
  replace D := D.old b2
  replace F1 := F1.old b2
  replace b0 := tstep b0 b2 b0.size
  clear b2
  go_wp2_with fail
  refine (within_any _ _ _).mono ?_
  rintro e w3 ⟨⟨t, rfl, F3⟩, b3⟩
  replace R := R.old b3
  replace D := D.old b3
  replace F1 := F1.old b3
  replace F2 := F2.old b3
  replace b0 := tstep b0 b3 b0.size
  clear b3
  go_wp2_with fail
  refine (within_any _ _ _).mono ?_
  rintro e w4 ⟨⟨m, rfl, F4⟩, b4⟩
  replace R := R.old b4
  replace D := D.old b4
  replace F1 := F1.old b4
  replace F2 := F2.old b4
  replace F3 := F3.old b4
  replace b0 := tstep b0 b4 b0.size
  clear b4
  go_wp2_with fail
  refine (within_any _ _ _).mono ?_
  rintro e w5 ⟨⟨d, rfl, F5⟩, b5⟩
  replace R := R.old b5
  replace D := D.old b5
  replace F1 := F1.old b5
  replace F2 := F2.old b5
  replace F3 := F3.old b5
  replace F4 := F4.old b5
  replace b0 := tstep b0 b5 b0.size
  clear b5
  go_wp2_with fail
  have CE := Lib.hid fun x (hx : Old w5 x) => And.intro (D.old hx).cells hm
  (refine wp_region_plan 22 [(0, true), (1, true), (2, true), (3, true), (4, true), (5, true), (6, true), (7, true), (8, true), (9, true), (11, true), (12, true), (13, true), (15, true), (16, true), (17, true), (18, true), (19, true), (20, true), (21, true), (10, false), (14, false)] (by kernel_rfl) (by kernel_rfl) ?_; simp only [pick, List.getElem?_cons_succ, List.getElem?_cons_zero, List.drop_succ_cons, List.drop_zero])
  repeat (first | (apply TextV.sees (hw := by kernel_rfl); (focus (intro x hx K hK; have hc := CE.out x hx; go_simp; exact hK)); simp only [Act.put, List.getElem_toArray, List.getElem_cons_succ, List.getElem_cons_zero, List.setIfInBounds_toArray, List.set_cons_zero, List.set_cons_succ]) | (apply TextV.idle; (focus (intro x hx K hK; go_simp; exact hK)); simp only [Act.put, List.getElem_toArray, List.getElem_cons_succ, List.getElem_cons_zero, List.setIfInBounds_toArray, List.set_cons_zero, List.set_cons_succ]))
  (refine TextV.loud (V := fun v y => FnAt y v 1 g.high) (fun x hx => (within_any 1 g.high x).mono fun e y h => by obtain ⟨⟨v, h1, h2⟩, h3⟩ := h; exact ⟨v, h1, h2, h3⟩) (by kernel_rfl) (fun _ => by kernel_rfl) (fun v6 y6 hv6 hy6 => ?_); simp only [Act.put, List.getElem_toArray, List.getElem_cons_succ, List.getElem_cons_zero, List.setIfInBounds_toArray, List.set_cons_zero, List.set_cons_succ])
  (refine TextV.loud (V := fun v y => FnAt y v 0 M) (fun x hx => (within_any 0 M x).mono fun e y h => by obtain ⟨⟨v, h1, h2⟩, h3⟩ := h; exact ⟨v, h1, h2, h3⟩) (by kernel_rfl) (fun _ => by kernel_rfl) (fun v7 y7 hv7 hy7 => ?_); simp only [Act.put, List.getElem_toArray, List.getElem_cons_succ, List.getElem_cons_zero, List.setIfInBounds_toArray, List.set_cons_zero, List.set_cons_succ])
  apply TextV.done
  intro x hx
  have bx := (hy6.old hy7).old hx
  have bz := tstep b0 bx b0.size
  have F1' := F1.old bx
  have F2' := F2.old bx
  have F3' := F3.old bx
  have F4' := F4.old bx
  have F5' := F5.old bx
  have F6' := hv6.old (hy7.old hx)
  have F7' := hv7.old hx
  clear F1 F2 F3 F4 F5 hv6 hv7 D CE hm
  obtain ⟨p1, q1, rfl, P1, Q1⟩ := F1'
  obtain ⟨p2, q2, rfl, P2, Q2⟩ := F2'
  obtain ⟨p3, q3, rfl, P3, Q3⟩ := F3'
  obtain ⟨p4, q4, rfl, P4, Q4⟩ := F4'
  obtain ⟨p5, q5, rfl, P5, Q5⟩ := F5'
  obtain ⟨p6, q6, rfl, P6, Q6⟩ := F6'
  obtain ⟨p7, q7, rfl, P7, Q7⟩ := F7'
  refine wpList_build rfl 42 _ rfl (by kernel_rfl) ?_
  refine wpList_store_row rfl 42 _ _ rfl _ #[fnV p1 q1, fnV p1 q1, fnV p2 q2, fnV p2 q2, fnV p2 q2, fnV p2 q2, fnV p3 q3, fnV p3 q3, fnV p6 q6, fnV p7 q7, fnV p4 q4, fnV p4 q4, fnV p5 q5, fnV p5 q5, fnV p5 q5, fnV p5 q5, fnV p5 q5] rfl (by kernel_rfl) 42 _ (R.old bx) info42 rfl (by kernel_rfl) ?_
  go_wp2
  refine bodyPost_ret (v := .agg #[fnV p1 q1, fnV p1 q1, fnV p2 q2, fnV p2 q2, fnV p2 q2, fnV p2 q2, fnV p3 q3, fnV p3 q3, fnV p6 q6, fnV p7 q7, fnV p4 q4, fnV p4 q4, fnV p5 q5, fnV p5 q5, fnV p5 q5, fnV p5 q5, fnV p5 q5]) ?_ rfl ⟨⟨fnV p1 q1, fnV p2 q2, fnV p3 q3, fnV p6 q6, fnV p7 q7, fnV p4 q4, fnV p5 q5, rfl, ?_⟩, below_row bz (by simp) _⟩
  · exact results_cell_row Try.results21 _ _ _ 42 _ _ _ rfl ((R.old bx).row _) Try.underlying42 rfl info42
  · have RX := R.old bx
    have u : ∀ {p : Nat} {v : Int} {ds : Array Value}, Blk x p #[.int .i64 v] 2 → Blk (x.setRow (w.heap.size + 1) ds) p #[.int .i64 v] 2 := fun h => h.row_other (h.ne RX (by decide)) _
    exact ⟨⟨p1, q1, rfl, u P1, u Q1⟩, ⟨p2, q2, rfl, u P2, u Q2⟩, ⟨p3, q3, rfl, u P3, u Q3⟩, ⟨p6, q6, rfl, u P6, u Q6⟩, ⟨p7, q7, rfl, u P7, u Q7⟩, ⟨p4, q4, rfl, u P4, u Q4⟩, ⟨p5, q5, rfl, u P5, u Q5⟩⟩
end Go.Proofs.Ytlinggmnelejfaa
