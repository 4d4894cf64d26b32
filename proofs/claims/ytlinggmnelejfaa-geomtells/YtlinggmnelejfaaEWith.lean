/- within, numbers and the closures of package geom. -/
import Derived.Test.YtlinggmnelejfaaEMath
import Derived.Test.YtlinggmnelejfaaTRow
import Derived.Test.YtlinggmnelejfaaBlk
import Derived.Lib.Hide
import Derived.Laws.EntriesVeiled
import Derived.Laws.Rows
import Derived.Laws.Tables
import Derived.Deep.CutBlock
import Derived.Test.YtlinggmnelejfaaDet
namespace Go.Proofs.Ytlinggmnelejfaa
open Go.RowKit
set_option maxRecDepth 20000
set_option linter.unusedVariables false
set_option linter.unusedSimpArgs false

theorem Blk.uno {w : World} {g : Nat} {T : TypeId} {v : Value} (h : Blk w g #[v] T) : w.cell? ⟨g, 0, none⟩ = some v := by
  unfold Blk at h
  simp [World.cell?, h]
/-- The function that tells whether a number is between a and b: what it caught lies in blocks p and q. -/
def FnAt (w : World) (v : Value) (a b : Int) : Prop := ∃ p q : Nat, v = .func (.func 22) #[] #[.pointer (some ⟨p, 0, none⟩), .pointer (some ⟨q, 0, none⟩)] ∧ Blk w p #[.int .i64 a] 2 ∧ Blk w q #[.int .i64 b] 2
theorem FnAt.old {w w' : World} {v : Value} {a b : Int} (h : FnAt w v a b) (hx : Below w.heap.size w w') : FnAt w' v a b := by
  obtain ⟨p, q, e, hp, hq⟩ := h
  exact ⟨p, q, e, hp.old hx, hq.old hx⟩
theorem fn_any (n a b : Int) (p q : Nat) (w : World) (hp : Blk w p #[.int .i64 a] 2) (hq : Blk w q #[.int .i64 b] 2) :
    Calls Try.prog 22 #[.int .i64 n, .pointer (some ⟨p, 0, none⟩), .pointer (some ⟨q, 0, none⟩)] w fun e w' => e = .returned (.bool (btwE n a b)) ∧ Below w.heap.size w w' := by
  have cp := hp.uno
  have cq := hq.uno
  unfold btwE
  by_cases h1 : a ≤ n
  · by_cases h2 : n ≤ b
    all_goals
      go_enter Try.func22, Try.ntmps22
      go_wp2
      go_ret
      exact ⟨by simp [h1, h2], Below.refl _ _⟩
  · have he : Hid ((decide (a ≤ n) && decide (n ≤ b)) = false) := Lib.hid (by simp [h1])
    go_enter Try.func22, Try.ntmps22
    go_wp2
    go_ret
    exact ⟨by rw [he.out]; rfl, Below.refl _ _⟩
theorem within_any (a b : Int) (w : World) :
    Calls Try.prog 19 #[.int .i64 a, .int .i64 b] w fun e w' => (∃ v, e = .returned v ∧ FnAt w' v a b) ∧ Below w.heap.size w w' := by
  go_enter Try.func19, Try.ntmps19
  go_wp2
  go_ret
  exact ⟨⟨_, rfl, _, _, rfl, (blk_new w _ _).alloc _, blk_two w _ _ _⟩, tbel2 w _ _⟩
/-- A geometry lies in block b. -/
def GeoAt (w : World) (b : Nat) (g : G19) : Prop := Blk w b (geoC g) 24
theorem GeoAt.old {w x : World} {b : Nat} {g : G19} (h : GeoAt w b g) (hx : Old w x) : GeoAt x b g := Blk.old h hx
theorem GeoAt.cells {w : World} {b : Nat} {g : G19} (h : GeoAt w b g) : w.cell? ⟨b, 0, none⟩ = some (.int .i64 g.cols) ∧ w.cell? ⟨b, 1, none⟩ = some (.int .i64 g.wide) ∧ w.cell? ⟨b, 2, none⟩ = some (.int .i64 g.gap) ∧ w.cell? ⟨b, 3, none⟩ = some (.int .i64 g.high) ∧ w.cell? ⟨b, 4, none⟩ = some (.int .i64 g.first) ∧ w.cell? ⟨b, 5, none⟩ = some (.int .i64 g.grid) ∧ w.cell? ⟨b, 6, none⟩ = some (.int .i64 g.rule) ∧ w.cell? ⟨b, 7, none⟩ = some (.int .i64 g.sep) ∧ w.cell? ⟨b, 8, none⟩ = some (.int .i64 g.nmost) ∧ w.cell? ⟨b, 9, none⟩ = some (.int .i64 g.tmost) ∧ w.cell? ⟨b, 10, none⟩ = some (.int .i64 g.bmost) ∧ w.cell? ⟨b, 11, none⟩ = some (.int .i64 g.tmany) ∧ w.cell? ⟨b, 12, none⟩ = some (.int .i64 g.bmany) ∧ w.cell? ⟨b, 13, none⟩ = some (.int .i64 g.club) ∧ w.cell? ⟨b, 14, none⟩ = some (.int .i64 g.widow) ∧ w.cell? ⟨b, 15, none⟩ = some (.int .i64 g.split) ∧ w.cell? ⟨b, 16, none⟩ = some (.int .i64 g.later) ∧ w.cell? ⟨b, 17, none⟩ = some (.int .i64 g.spare) ∧ w.cell? ⟨b, 18, none⟩ = some (.bool g.bal) := by
  unfold GeoAt Blk geoC at h
  simp [World.cell?, h]
/-- A store of a whole block. -/
theorem info40 : (Try.prog.info? 40).map (·.size) = some 17 := by kernel_rfl
theorem below_row {B b : Nat} {w x : World} (h : Below B w x) (hb : B ≤ b) (cs : Array Value) : Below B w (x.setRow b cs) :=
  h.trans ⟨rfl, rfl, rfl, by simp, fun k hk => setRow_other x b k cs (by omega)⟩
theorem Blk.row {w : World} {b : Nat} {cs : Array Value} {T : TypeId} (h : Blk w b cs T) (ds : Array Value) : Blk (w.setRow b ds) b ds T := setRow_heap w b cs ds T _ h
theorem Blk.row_other {w : World} {g b : Nat} {cs : Array Value} {T : TypeId} (h : Blk w g cs T) (hb : g ≠ b) (ds : Array Value) : Blk (w.setRow b ds) g cs T := (setRow_other w b g ds hb).trans h
theorem numbers_any (g : G19) (w : World) :
    Calls Try.prog 20 #[geo g] w fun e w' => e = .returned (.agg ((numsE g).map fun n => Value.int .i64 n).toArray) ∧ Below w.heap.size w w' := by
  unfold geo
  have D : GeoAt ((w.alloc (.cells (geoC g) 24)).alloc (.cells #[.int .i64 0, .int .i64 0, .int .i64 0, .int .i64 0, .int .i64 0, .int .i64 0, .int .i64 0, .int .i64 0, .int .i64 0, .int .i64 0, .int .i64 0, .int .i64 0, .int .i64 0, .int .i64 0, .int .i64 0, .int .i64 0, .int .i64 0] 40)) w.heap.size g := (blk_new w (geoC g) 24).alloc _
  have R := blk_two w (.cells (geoC g) 24) #[.int .i64 0, .int .i64 0, .int .i64 0, .int .i64 0, .int .i64 0, .int .i64 0, .int .i64 0, .int .i64 0, .int .i64 0, .int .i64 0, .int .i64 0, .int .i64 0, .int .i64 0, .int .i64 0, .int .i64 0, .int .i64 0, .int .i64 0] 40
  have b0 := tbel2 w (.cells (geoC g) 24) (.cells #[.int .i64 0, .int .i64 0, .int .i64 0, .int .i64 0, .int .i64 0, .int .i64 0, .int .i64 0, .int .i64 0, .int .i64 0, .int .i64 0, .int .i64 0, .int .i64 0, .int .i64 0, .int .i64 0, .int .i64 0, .int .i64 0, .int .i64 0] 40)
  have q := D.cells
  generalize geoC g = C at *
  go_enter Try.func20, Try.ntmps20
  go_upto_region 1 with (fail)
  generalize (w.alloc _).alloc _ = U at *
  have CE := Lib.hid fun x (hx : Old U x) => (D.old hx).cells
  clear q
  (refine wp_region_plain (Old U) 35 (Below.refl _ U) ?_; simp only [List.take_succ_cons, List.take_zero, List.drop_succ_cons, List.drop_zero])
  repeat (first | (apply Text.sees (hw := by kernel_rfl); (focus (intro x hx K hK; have hc := CE.out x hx; go_simp; exact hK)); simp only [Act.put, List.getElem_toArray, List.getElem_cons_succ, List.getElem_cons_zero, List.setIfInBounds_toArray, List.set_cons_zero, List.set_cons_succ]) | (apply Text.idle; (focus (intro x hx K hK; go_simp; exact hK)); simp only [Act.put, List.getElem_toArray, List.getElem_cons_succ, List.getElem_cons_zero, List.setIfInBounds_toArray, List.set_cons_zero, List.set_cons_succ]))
  intro x hx
  refine wpList_store_row rfl 40 _ _ rfl _ _ rfl rfl 40 _ (R.old hx) info40 rfl (by kernel_rfl) ?_
  go_wp2
  refine bodyPost_ret (v := .agg ((numsE g).map fun n => Value.int .i64 n).toArray) ?_ rfl ⟨rfl, below_row (tstep b0 hx b0.size) (by simp) _⟩
  exact results_cell_row Try.results20 _ _ _ 40 _ _ _ rfl ((R.old hx).row _) Try.underlying40 rfl info40
end Go.Proofs.Ytlinggmnelejfaa
