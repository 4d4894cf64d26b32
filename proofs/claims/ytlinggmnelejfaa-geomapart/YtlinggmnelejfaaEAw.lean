/- Plain of package geom; awake of layer 13. -/
import Derived.Test.YtlinggmnelejfaaEPg
import Derived.Deep.WholeRow
namespace Go.Proofs.Ytlinggmnelejfaa
open Go.RowKit
set_option maxRecDepth 20000
set_option linter.unusedVariables false
set_option linter.unusedSimpArgs false

def zeroG : G19 := ⟨0, 0, 0, 0, 0, 0, 0, 0, 0, 0, 0, 0, 0, 0, 0, 0, 0, 0, false⟩
theorem geo_one (g : G19) : (geoC g).all (·.oneCell') = true := by kernel_rfl
theorem geo_size (g : G19) : (geoC g).size = 19 := rfl
theorem store_geo {ops : Array Oper} {rest : List Oper} {o : Oper} {a : Act} {w : World} {Q : Exit → Act → World → Prop} {b : Nat} {g h : G19} (hgd : o.guard = none) (x y : Operand) (ho : o.op = .store 24 x y)
    (hx : a.eval x = .pointer (some ⟨b, 0, none⟩)) (hy : a.eval y = .agg (geoC g)) (hb : GeoAt w b h) (hk : wpList Try.prog ops Q rest (a.put o.dst undef) (w.setRow b (geoC g))) : wpList Try.prog ops Q (o :: rest) a w :=
  wpList_store_row hgd 24 x y ho b (geoC g) hx hy 24 (geoC h) hb info24 rfl (geo_one g) hk
theorem GeoAt.row {w : World} {b : Nat} {h : G19} (H : GeoAt w b h) (g : G19) : GeoAt (w.setRow b (geoC g)) b g := Blk.row H (geoC g)
theorem GeoAt.row_other {w : World} {b c : Nat} {h : G19} (H : GeoAt w b h) (hb : b ≠ c) (ds : Array Value) : GeoAt (w.setRow c ds) b h := Blk.row_other H hb ds
theorem alloc_geo {ops : Array Oper} {rest : List Oper} {o : Oper} {a : Act} {w : World} {Q : Exit → Act → World → Prop} (hgd : o.guard = none) (ho : o.op = .alloc 24)
    (hk : wpList Try.prog ops Q rest (a.put o.dst (.pointer (some ⟨w.heap.size, 0, none⟩))) (w.alloc (.cells (geoC zeroG) 24))) : wpList Try.prog ops Q (o :: rest) a w :=
  wpList_plain hgd fun K hK => by
    have e : (execOp a.eval o).run Try.prog w = .ok (.value (.pointer (some ⟨w.heap.size, 0, none⟩))) (w.alloc (.cells (geoC zeroG) 24)) := by
      unfold execOp
      simp only [ho]
      simp [go_sem, newVar, geoC, zeroG]
    unfold Oper.wp
    rw [e]
    exact hK _ _ hk
/-- A new variable that holds a geometry. -/
theorem make_geo {ops : Array Oper} {rest : List Oper} {o p : Oper} {a : Act} {w : World} {Q : Exit → Act → World → Prop} {g : G19} (hgd : o.guard = none) (ho : o.op = .alloc 24) (hgp : p.guard = none) (x y : Operand) (hp : p.op = .store 24 x y)
    (hx : (a.put o.dst (.pointer (some ⟨w.heap.size, 0, none⟩))).eval x = .pointer (some ⟨w.heap.size, 0, none⟩)) (hy : (a.put o.dst (.pointer (some ⟨w.heap.size, 0, none⟩))).eval y = .agg (geoC g))
    (hk : wpList Try.prog ops Q rest ((a.put o.dst (.pointer (some ⟨w.heap.size, 0, none⟩))).put p.dst undef) (w.alloc (.cells (geoC g) 24))) : wpList Try.prog ops Q (o :: p :: rest) a w := by
  refine alloc_geo hgd ho ?_
  refine store_geo hgp x y hp hx hy (geo_new w zeroG) ?_
  rw [World.setRow_alloc_new]
  exact hk
theorem gplain_any (c h : Int) (w : World) :
    Calls Try.prog 17 #[.int .i64 c, .int .i64 h] w fun e w' => e = .returned (.agg (geoC (plainE c h))) ∧ Below w.heap.size w w' := by
  have R : GeoAt (w.alloc (.cells (geoC zeroG) 24)) w.heap.size zeroG := geo_new w zeroG
  have b0 := tbel1 w (.cells (geoC zeroG) 24)
  go_enter Try.func17, Try.ntmps17
  go_upto_region 1 with (fail)
  change Code.wp _ _ _ _ (w.alloc (.cells (geoC zeroG) 24))
  generalize w.alloc _ = U at *
  have CE := Lib.hid fun y (hy : Old U y) => True.intro
  (refine wp_region_plain (Old U) 7 (Below.refl _ U) ?_; simp only [List.take_succ_cons, List.take_zero, List.drop_succ_cons, List.drop_zero])
  repeat (first | (apply Text.sees (hw := by kernel_rfl); (focus (intro x hx K hK; have hc := CE.out x hx; go_simp; exact hK)); simp only [Act.put, List.getElem_toArray, List.getElem_cons_succ, List.getElem_cons_zero, List.setIfInBounds_toArray, List.set_cons_zero, List.set_cons_succ]) | (apply Text.idle; (focus (intro x hx K hK; go_simp; exact hK)); simp only [Act.put, List.getElem_toArray, List.getElem_cons_succ, List.getElem_cons_zero, List.setIfInBounds_toArray, List.set_cons_zero, List.set_cons_succ]))
  intro x hx
  refine wpList_build rfl 24 _ rfl (by kernel_rfl) ?_
  refine store_geo (g := plainE c h) rfl (.tmp 4) (.tmp 12) rfl rfl (by kernel_rfl) (R.old hx) ?_
  go_wp2
  refine bodyPost_ret (v := .agg (geoC (plainE c h))) ?_ rfl ⟨rfl, below_row (tstep b0 hx b0.size) (Nat.le_refl _) _⟩
  exact results_cell_row Try.results17 _ _ _ 24 _ _ _ rfl ((R.old hx).row _) Try.underlying24 rfl info24
def wakeG : G19 := ⟨2, 100, 5, 100, 100, 0, 0, 0, 100, 100, 100, 4, 4, 0, 0, 0, 0, 0, false⟩
theorem wakeG_facts : pageE wakeG 5 = 2 ∧ sideE wakeG 5 = 1 ∧ errE wakeG = 0 ∧ xE wakeG 5 = 105 ∧ highE wakeG 0 = 100 ∧ colE wakeG 7 = 2 := by decide
theorem wakeG_set {w : World} {b : Nat} (h : GeoAt w b (plainE 2 100)) : GeoAt (w.setCell ⟨b, 2, none⟩ (.int .i64 5)) b wakeG := Blk.set h 2 _
set_option maxHeartbeats 1000000 in
theorem awake13 (w : World) : Calls Try.prog 16 #[] w fun e w' => e = .returned (.bool true) ∧ Below w.heap.size w w' := by
  obtain ⟨f1, f2, f3, f4, f5, f6⟩ := wakeG_facts
  have c1 := gpage_any wakeG 5
  have c2 := gcheck_any wakeG
  have c3 := gx_any wakeG 5
  have c4 := ghigh_any wakeG 0
  have c5 := gcol_any wakeG 7
  rw [f1, f2] at c1
  rw [f3] at c2
  rw [f4] at c3
  rw [f5] at c4
  rw [f6] at c5
  replace c1 := Lib.hid fun w => c1 w (by decide)
  replace c3 := Lib.hid fun w => c3 w (by decide)
  replace c2 := Lib.hid c2
  replace c4 := Lib.hid c4
  replace c5 := Lib.hid c5
  clear f1 f2 f3 f4 f5 f6
  go_enter Try.func16, Try.ntmps16
  go_upto_region 1 with (fail)
  (refine wp_region_plain (Old w) 1 (Below.refl _ w) ?_; simp only [List.take_succ_cons, List.take_zero, List.drop_succ_cons, List.drop_zero])
  (refine Text.call (Old.call fun x hx => gplain_any 2 100 x) (by kernel_rfl) (fun _ => by kernel_rfl) ?_; simp only [Act.put, List.getElem_toArray, List.getElem_cons_succ, List.getElem_cons_zero, List.setIfInBounds_toArray, List.set_cons_zero, List.set_cons_succ])
  intro x hx
  have R := geo_new x (plainE 2 100)
  have b0 := tstep hx (tbel1 x (.cells (geoC (plainE 2 100)) 24)) hx.size
  have hxs := hx.size
  refine make_geo (g := plainE 2 100) rfl rfl rfl (.tmp 1) (.tmp 4) rfl rfl rfl ?_
  go_upto_region 2 with (fail)
  generalize x.heap.size = B at *
  generalize x.alloc _ = V at *
  have q := Blk.cell R 2
  have f := Blk.free R 2
  rw [show (geoC (plainE 2 100))[2]? = some (.int .i64 0) from rfl] at q
  have D := wakeG_set R
  have bz := b0.setCell (p := ⟨B, 2, none⟩) hxs (.int .i64 5)
  go_upto_region 3 with (fail)
  generalize V.setCell _ _ = Y at *
  clear q f R b0 hx
  (refine wp_region_plain (Old Y) 2 (Below.refl _ Y) ?_; simp only [List.take_succ_cons, List.take_zero, List.drop_succ_cons, List.drop_zero])
  (refine Text.val (fun y hy => load_geo (.tmp 1) rfl rfl (D.old hy)) (by kernel_rfl) ?_; simp only [Act.put, List.getElem_toArray, List.getElem_cons_succ, List.getElem_cons_zero, List.setIfInBounds_toArray, List.set_cons_zero, List.set_cons_succ])
  (refine Text.call (Old.call fun y hy => c1.out y) (by kernel_rfl) (fun _ => by kernel_rfl) ?_; simp only [Act.put, List.getElem_toArray, List.getElem_cons_succ, List.getElem_cons_zero, List.setIfInBounds_toArray, List.set_cons_zero, List.set_cons_succ])
  intro y hy
  have D1 := D.old hy
  have b1 := tstep bz hy bz.size
  clear D bz hy
  have CE := Lib.hid fun z (hz : Old y z) => True.intro
  go_upto_region 4 with (fail)
  (refine wp_region_plain (Old y) 26 (Below.refl _ y) ?_; simp only [List.take_succ_cons, List.take_zero, List.drop_succ_cons, List.drop_zero])
  (refine Text.val (fun y hy => load_geo (.tmp 1) rfl rfl (D1.old hy)) (by kernel_rfl) ?_; simp only [Act.put, List.getElem_toArray, List.getElem_cons_succ, List.getElem_cons_zero, List.setIfInBounds_toArray, List.set_cons_zero, List.set_cons_succ])
  (refine Text.call (Old.call fun y hy => c2.out y) (by kernel_rfl) (fun _ => by kernel_rfl) ?_; simp only [Act.put, List.getElem_toArray, List.getElem_cons_succ, List.getElem_cons_zero, List.setIfInBounds_toArray, List.set_cons_zero, List.set_cons_succ])
  repeat (first | (apply Text.sees (hw := by kernel_rfl); (focus (intro x hx K hK; have hc := CE.out x hx; go_simp; exact hK)); simp only [Act.put, List.getElem_toArray, List.getElem_cons_succ, List.getElem_cons_zero, List.setIfInBounds_toArray, List.set_cons_zero, List.set_cons_succ]) | (apply Text.idle; (focus (intro x hx K hK; go_simp; exact hK)); simp only [Act.put, List.getElem_toArray, List.getElem_cons_succ, List.getElem_cons_zero, List.setIfInBounds_toArray, List.set_cons_zero, List.set_cons_succ]))
  (refine Text.val (fun y hy => load_geo (.tmp 1) rfl rfl (D1.old hy)) (by kernel_rfl) ?_; simp only [Act.put, List.getElem_toArray, List.getElem_cons_succ, List.getElem_cons_zero, List.setIfInBounds_toArray, List.set_cons_zero, List.set_cons_succ])
  (refine Text.call (Old.call fun y hy => c3.out y) (by kernel_rfl) (fun _ => by kernel_rfl) ?_; simp only [Act.put, List.getElem_toArray, List.getElem_cons_succ, List.getElem_cons_zero, List.setIfInBounds_toArray, List.set_cons_zero, List.set_cons_succ])
  repeat (first | (apply Text.sees (hw := by kernel_rfl); (focus (intro x hx K hK; have hc := CE.out x hx; go_simp; exact hK)); simp only [Act.put, List.getElem_toArray, List.getElem_cons_succ, List.getElem_cons_zero, List.setIfInBounds_toArray, List.set_cons_zero, List.set_cons_succ]) | (apply Text.idle; (focus (intro x hx K hK; go_simp; exact hK)); simp only [Act.put, List.getElem_toArray, List.getElem_cons_succ, List.getElem_cons_zero, List.setIfInBounds_toArray, List.set_cons_zero, List.set_cons_succ]))
  (refine Text.val (fun y hy => load_geo (.tmp 1) rfl rfl (D1.old hy)) (by kernel_rfl) ?_; simp only [Act.put, List.getElem_toArray, List.getElem_cons_succ, List.getElem_cons_zero, List.setIfInBounds_toArray, List.set_cons_zero, List.set_cons_succ])
  (refine Text.call (Old.call fun y hy => c4.out y) (by kernel_rfl) (fun _ => by kernel_rfl) ?_; simp only [Act.put, List.getElem_toArray, List.getElem_cons_succ, List.getElem_cons_zero, List.setIfInBounds_toArray, List.set_cons_zero, List.set_cons_succ])
  repeat (first | (apply Text.sees (hw := by kernel_rfl); (focus (intro x hx K hK; have hc := CE.out x hx; go_simp; exact hK)); simp only [Act.put, List.getElem_toArray, List.getElem_cons_succ, List.getElem_cons_zero, List.setIfInBounds_toArray, List.set_cons_zero, List.set_cons_succ]) | (apply Text.idle; (focus (intro x hx K hK; go_simp; exact hK)); simp only [Act.put, List.getElem_toArray, List.getElem_cons_succ, List.getElem_cons_zero, List.setIfInBounds_toArray, List.set_cons_zero, List.set_cons_succ]))
  (refine Text.val (fun y hy => load_geo (.tmp 1) rfl rfl (D1.old hy)) (by kernel_rfl) ?_; simp only [Act.put, List.getElem_toArray, List.getElem_cons_succ, List.getElem_cons_zero, List.setIfInBounds_toArray, List.set_cons_zero, List.set_cons_succ])
  (refine Text.call (Old.call fun y hy => c5.out y) (by kernel_rfl) (fun _ => by kernel_rfl) ?_; simp only [Act.put, List.getElem_toArray, List.getElem_cons_succ, List.getElem_cons_zero, List.setIfInBounds_toArray, List.set_cons_zero, List.set_cons_succ])
  repeat (first | (apply Text.sees (hw := by kernel_rfl); (focus (intro x hx K hK; have hc := CE.out x hx; go_simp; exact hK)); simp only [Act.put, List.getElem_toArray, List.getElem_cons_succ, List.getElem_cons_zero, List.setIfInBounds_toArray, List.set_cons_zero, List.set_cons_succ]) | (apply Text.idle; (focus (intro x hx K hK; go_simp; exact hK)); simp only [Act.put, List.getElem_toArray, List.getElem_cons_succ, List.getElem_cons_zero, List.setIfInBounds_toArray, List.set_cons_zero, List.set_cons_succ]))
  intro z hz
  replace b1 := tstep b1 hz b1.size
  clear CE c1 c2 c3 c4 c5
  go_wp2
  go_ret
  exact ⟨rfl, b1⟩
end Go.Proofs.Ytlinggmnelejfaa
