/- Plain mathematics for stage 13: geometries, over Lean's integers. within, numbers and the closures of package geom. ranges of package geom. -/
import Derived.Test.YthcgncgnbjhniaaGreatTRow
import Derived.Test.YthcgncgnbjhniaaGreatBlk
import Derived.Lib.Hide
import Derived.Laws.EntriesVeiled
import Derived.Laws.Rows
import Derived.Laws.Tables
import Derived.Deep.CutBlock
import Derived.Test.YthcgncgnbjhniaaGreatDetU
namespace Go.Proofs.YthcgncgnbjhniaaGreat
open Go.RowKit
set_option maxRecDepth 20000

/-- A geometry. -/
structure G19 where
  cols : Int
  wide : Int
  gap : Int
  high : Int
  first : Int
  grid : Int
  rule : Int
  sep : Int
  nmost : Int
  tmost : Int
  bmost : Int
  tmany : Int
  bmany : Int
  club : Int
  widow : Int
  split : Int
  later : Int
  spare : Int
  bal : Bool
/-- A geometry's cells. -/
def geoC (g : G19) : Array Value := #[.int .i64 g.cols, .int .i64 g.wide, .int .i64 g.gap, .int .i64 g.high, .int .i64 g.first, .int .i64 g.grid, .int .i64 g.rule, .int .i64 g.sep, .int .i64 g.nmost, .int .i64 g.tmost, .int .i64 g.bmost, .int .i64 g.tmany, .int .i64 g.bmany, .int .i64 g.club, .int .i64 g.widow, .int .i64 g.split, .int .i64 g.later, .int .i64 g.spare, .bool g.bal]
/-- A geometry by value. -/
def geo (g : G19) : Value := .agg (geoC g)
def inE (g : G19) : Prop := inR g.cols ∧ inR g.wide ∧ inR g.gap ∧ inR g.high ∧ inR g.first ∧ inR g.grid ∧ inR g.rule ∧ inR g.sep ∧ inR g.nmost ∧ inR g.tmost ∧ inR g.bmost ∧ inR g.tmany ∧ inR g.bmany ∧ inR g.club ∧ inR g.widow ∧ inR g.split ∧ inR g.later ∧ inR g.spare
/-- Is n between a and b? -/
def btwE (n a b : Int) : Bool := decide (a ≤ n) && decide (n ≤ b)
theorem btwE_iff {n a b : Int} : btwE n a b = true ↔ a ≤ n ∧ n ≤ b := by simp [btwE]
theorem btwE_not {n a b : Int} : btwE n a b = false ↔ n < a ∨ b < n := by
  rw [← Bool.not_eq_true, btwE_iff]; omega
/-- The numbers of a geometry, and the ends of their ranges. -/
def numsE (g : G19) : List Int := [g.wide, g.high, g.gap, g.nmost, g.tmost, g.bmost, g.rule, g.sep, g.first, g.grid, g.tmany, g.bmany, g.club, g.widow, g.split, g.later, g.spare]
def lowE : List Int := [1, 1, 0, 0, 0, 0, 0, 0, 1, 0, 0, 0, 0, 0, 0, 0, 0]
def topE (g : G19) : List Int := [1073741823, 1073741823, 1073741823, 1073741823, 1073741823, 1073741823, 536870912, 536870912, g.high, min g.first 536870912, 4, 4, 1048576, 1048576, 1048576, 1048576, 1048576]
/-- Is number k in its range? -/
def fitE (g : G19) (k : Nat) : Bool := btwE ((numsE g).getD k 0) (lowE.getD k 0) ((topE g).getD k 0)
/-- Are the first k numbers? -/
def fitsE (g : G19) : Nat → Bool
  | 0 => true
  | k + 1 => fitsE g k && fitE g k
theorem fitsE_no {g : G19} {j m : Nat} (h : j < m) (hq : fitE g j = false) : fitsE g m = false := by
  induction m with
  | zero => omega
  | succ m ih =>
    unfold fitsE
    by_cases e : j = m
    · rw [← e, hq, Bool.and_false]
    · rw [ih (by omega), Bool.false_and]
/-- All numbers but the first are in their ranges. -/
def restE (g : G19) : Prop := (1 ≤ g.wide ∧ g.wide ≤ 1073741823) ∧ (1 ≤ g.high ∧ g.high ≤ 1073741823) ∧ (0 ≤ g.gap ∧ g.gap ≤ 1073741823) ∧ (0 ≤ g.nmost ∧ g.nmost ≤ 1073741823) ∧ (0 ≤ g.tmost ∧ g.tmost ≤ 1073741823) ∧ (0 ≤ g.bmost ∧ g.bmost ≤ 1073741823) ∧
  (0 ≤ g.rule ∧ g.rule ≤ 536870912) ∧ (0 ≤ g.sep ∧ g.sep ≤ 536870912) ∧ (1 ≤ g.first ∧ g.first ≤ g.high) ∧ (0 ≤ g.grid ∧ g.grid ≤ g.first ∧ g.grid ≤ 536870912) ∧ (0 ≤ g.tmany ∧ g.tmany ≤ 4) ∧ (0 ≤ g.bmany ∧ g.bmany ≤ 4) ∧
  (0 ≤ g.club ∧ g.club ≤ 1048576) ∧ (0 ≤ g.widow ∧ g.widow ≤ 1048576) ∧ (0 ≤ g.split ∧ g.split ≤ 1048576) ∧ (0 ≤ g.later ∧ g.later ≤ 1048576) ∧ (0 ≤ g.spare ∧ g.spare ≤ 1048576)
theorem fitsE_iff (g : G19) : fitsE g 17 = true ↔ restE g := by
  simp only [fitsE, fitE, numsE, lowE, topE, List.getD_cons_zero, List.getD_cons_succ, Bool.and_eq_true, btwE_iff, restE, true_and]
  constructor
  · intro h; omega
  · intro h; omega
/-- What Check returns: 0, 6 (the columns) or 7. -/
def errE (g : G19) : Int := bif btwE g.cols 1 8 then (bif fitsE g 17 then 0 else 7) else 6
/-- May it be? -/
def rightE (g : G19) : Bool := btwE g.cols 1 8 && fitsE g 17
theorem errE_right (g : G19) : (errE g == 0) = rightE g := by
  unfold errE rightE
  cases btwE g.cols 1 8 <;> cases fitsE g 17 <;> rfl
theorem rightE_iff (g : G19) : rightE g = true ↔ (1 ≤ g.cols ∧ g.cols ≤ 8) ∧ restE g := by
  unfold rightE
  rw [Bool.and_eq_true, btwE_iff, fitsE_iff]
/-- The position of column n. -/
def colE (g : G19) (n : Int) : Int := bif rightE g then min (max n 0) g.cols else 0
/-- The height at a position. -/
def highE (g : G19) (c : Int) : Int := bif rightE g then (if c < g.cols then g.first else g.high) else 0
/-- The page of column n, and its index there. -/
def pageE (g : G19) (n : Int) : Int := bif rightE g then max n 0 / g.cols else 0
def sideE (g : G19) (n : Int) : Int := bif rightE g then max n 0 % g.cols else 0
/-- Its distance from the left edge. -/
def xE (g : G19) (n : Int) : Int := bif rightE g then sideE g n * (g.wide + g.gap) else 0
def plainE (c h : Int) : G19 := ⟨c, h, 0, h, h, 0, 0, 0, h, h, h, 4, 4, 0, 0, 0, 0, 0, false⟩
end Go.Proofs.YthcgncgnbjhniaaGreat
namespace Go.Proofs.YthcgncgnbjhniaaGreat
open Go.RowKit
set_option maxRecDepth 20000
set_option linter.unusedVariables false
set_option linter.unusedSimpArgs false

theorem Blk.uno {w : World} {g : Nat} {T : TypeId} {v : Value} (h : Blk w g #[v] T) : w.cell? ⟨g, 0, none⟩ = some v := by
  unfold Blk at h
  simp [World.cell?, h]
/-- The function that tells whether a number is between a and b: what it caught lies in blocks p and q. -/
def FnAt (w : World) (v : Value) (a b : Int) : Prop := ∃ p q : Nat, v = .func (.func 63) #[] #[.pointer (some ⟨p, 0, none⟩), .pointer (some ⟨q, 0, none⟩)] ∧ Blk w p #[.int .i64 a] 2 ∧ Blk w q #[.int .i64 b] 2
theorem FnAt.old {w w' : World} {v : Value} {a b : Int} (h : FnAt w v a b) (hx : Below w.heap.size w w') : FnAt w' v a b := by
  obtain ⟨p, q, e, hp, hq⟩ := h
  exact ⟨p, q, e, hp.old hx, hq.old hx⟩
theorem fn_any (n a b : Int) (p q : Nat) (w : World) (hp : Blk w p #[.int .i64 a] 2) (hq : Blk w q #[.int .i64 b] 2) :
    Calls Tryz.prog 63 #[.int .i64 n, .pointer (some ⟨p, 0, none⟩), .pointer (some ⟨q, 0, none⟩)] w fun e w' => e = .returned (.bool (btwE n a b)) ∧ Below w.heap.size w w' := by
  have cp := hp.uno
  have cq := hq.uno
  unfold btwE
  by_cases h1 : a ≤ n
  · by_cases h2 : n ≤ b
    all_goals
      go_enter Tryz.func63, Tryz.ntmps63
      go_wp2
      go_ret
      exact ⟨by simp [h1, h2], Below.refl _ _⟩
  · have he : Hid ((decide (a ≤ n) && decide (n ≤ b)) = false) := Lib.hid (by simp [h1])
    go_enter Tryz.func63, Tryz.ntmps63
    go_wp2
    go_ret
    exact ⟨by rw [he.out]; rfl, Below.refl _ _⟩
theorem within_any (a b : Int) (w : World) :
    Calls Tryz.prog 39 #[.int .i64 a, .int .i64 b] w fun e w' => (∃ v, e = .returned v ∧ FnAt w' v a b) ∧ Below w.heap.size w w' := by
  go_enter Tryz.func39, Tryz.ntmps39
  go_wp2
  go_ret
  exact ⟨⟨_, rfl, _, _, rfl, (blk_new w _ _).alloc _, blk_two w _ _ _⟩, tbel2 w _ _⟩
/-- A geometry lies in block b. -/
def GeoAt (w : World) (b : Nat) (g : G19) : Prop := Blk w b (geoC g) 24
theorem GeoAt.old {w x : World} {b : Nat} {g : G19} (h : GeoAt w b g) (hx : Old w x) : GeoAt x b g := Blk.old h hx
theorem GeoAt.cells {w : World} {b : Nat} {g : G19} (h : GeoAt w b g) : w.cell? ⟨b, 0, none⟩ = some (.int .i64 g.cols) ∧ w.cell? ⟨b, 1, none⟩ = some (.int .i64 g.wide) ∧ w.cell? ⟨b, 2, none⟩ = some (.int .i64 g.gap) ∧ w.cell? ⟨b, 3, none⟩ = some (.int .i64 g.high) ∧ w.cell? ⟨b, 4, none⟩ = some (.int .i64 g.first) ∧ w.cell? ⟨b, 5, none⟩ = some (.int .i64 g.grid) ∧ w.cell? ⟨b, 6, none⟩ = some (.int .i64 g.rule) ∧ w.cell? ⟨b, 7, none⟩ = some (.int .i64 g.sep) ∧ w.cell? ⟨b, 8, none⟩ = some (.int .i64 g.nmost) ∧ w.cell? ⟨b, 9, none⟩ = some (.int .i64 g.tmost) ∧ w.cell? ⟨b, 10, none⟩ = some (.int .i64 g.bmost) ∧ w.cell? ⟨b, 11, none⟩ = some (.int .i64 g.tmany) ∧ w.cell? ⟨b, 12, none⟩ = some (.int .i64 g.bmany) ∧ w.cell? ⟨b, 13, none⟩ = some (.int .i64 g.club) ∧ w.cell? ⟨b, 14, none⟩ = some (.int .i64 g.widow) ∧ w.cell? ⟨b, 15, none⟩ = some (.int .i64 g.split) ∧ w.cell? ⟨b, 16, none⟩ = some (.int .i64 g.later) ∧ w.cell? ⟨b, 17, none⟩ = some (.int .i64 g.spare) ∧ w.cell? ⟨b, 18, none⟩ = some (.bool g.bal) := by
  unfold GeoAt Blk geoC at h
  simp [World.cell?, h]
/-- A store of a whole block. -/
theorem info40 : (Tryz.prog.info? 75).map (·.size) = some 17 := by kernel_rfl
theorem below_row {B b : Nat} {w x : World} (h : Below B w x) (hb : B ≤ b) (cs : Array Value) : Below B w (x.setRow b cs) :=
  h.trans ⟨rfl, rfl, rfl, by simp, fun k hk => setRow_other x b k cs (by omega)⟩
theorem Blk.row {w : World} {b : Nat} {cs : Array Value} {T : TypeId} (h : Blk w b cs T) (ds : Array Value) : Blk (w.setRow b ds) b ds T := setRow_heap w b cs ds T _ h
theorem Blk.row_other {w : World} {g b : Nat} {cs : Array Value} {T : TypeId} (h : Blk w g cs T) (hb : g ≠ b) (ds : Array Value) : Blk (w.setRow b ds) g cs T := (setRow_other w b g ds hb).trans h
theorem numbers_any (g : G19) (w : World) :
    Calls Tryz.prog 40 #[geo g] w fun e w' => e = .returned (.agg ((numsE g).map fun n => Value.int .i64 n).toArray) ∧ Below w.heap.size w w' := by
  unfold geo
  have D : GeoAt ((w.alloc (.cells (geoC g) 24)).alloc (.cells #[.int .i64 0, .int .i64 0, .int .i64 0, .int .i64 0, .int .i64 0, .int .i64 0, .int .i64 0, .int .i64 0, .int .i64 0, .int .i64 0, .int .i64 0, .int .i64 0, .int .i64 0, .int .i64 0, .int .i64 0, .int .i64 0, .int .i64 0] 75)) w.heap.size g := (blk_new w (geoC g) 24).alloc _
  have R := blk_two w (.cells (geoC g) 24) #[.int .i64 0, .int .i64 0, .int .i64 0, .int .i64 0, .int .i64 0, .int .i64 0, .int .i64 0, .int .i64 0, .int .i64 0, .int .i64 0, .int .i64 0, .int .i64 0, .int .i64 0, .int .i64 0, .int .i64 0, .int .i64 0, .int .i64 0] 75
  have b0 := tbel2 w (.cells (geoC g) 24) (.cells #[.int .i64 0, .int .i64 0, .int .i64 0, .int .i64 0, .int .i64 0, .int .i64 0, .int .i64 0, .int .i64 0, .int .i64 0, .int .i64 0, .int .i64 0, .int .i64 0, .int .i64 0, .int .i64 0, .int .i64 0, .int .i64 0, .int .i64 0] 75)
  have q := D.cells
  generalize geoC g = C at *
  go_enter Tryz.func40, Tryz.ntmps40
  go_upto_region 1 with (fail)
  generalize (w.alloc _).alloc _ = U at *
  have CE := Lib.hid fun x (hx : Old U x) => (D.old hx).cells
  clear q
  (refine wp_region_plain (Old U) 35 (Below.refl _ U) ?_; simp only [List.take_succ_cons, List.take_zero, List.drop_succ_cons, List.drop_zero])
  repeat (first | (apply Text.sees (hw := by kernel_rfl); (focus (intro x hx K hK; have hc := CE.out x hx; go_simp; exact hK)); simp only [Act.put, List.getElem_toArray, List.getElem_cons_succ, List.getElem_cons_zero, List.setIfInBounds_toArray, List.set_cons_zero, List.set_cons_succ]) | (apply Text.idle; (focus (intro x hx K hK; go_simp; exact hK)); simp only [Act.put, List.getElem_toArray, List.getElem_cons_succ, List.getElem_cons_zero, List.setIfInBounds_toArray, List.set_cons_zero, List.set_cons_succ]))
  intro x hx
  refine wpList_store_row rfl 75 _ _ rfl _ _ rfl rfl 75 _ (R.old hx) info40 rfl (by kernel_rfl) ?_
  go_wp2
  refine bodyPost_ret (v := .agg ((numsE g).map fun n => Value.int .i64 n).toArray) ?_ rfl ⟨rfl, below_row (tstep b0 hx b0.size) (by simp) _⟩
  exact results_cell_row Tryz.results40 _ _ _ 75 _ _ _ rfl ((R.old hx).row _) Tryz.underlying75 rfl info40
end Go.Proofs.YthcgncgnbjhniaaGreat
namespace Go.Proofs.YthcgncgnbjhniaaGreat
open Go.RowKit
set_option maxRecDepth 20000
set_option linter.unusedVariables false
set_option linter.unusedSimpArgs false

/-- Such a function, by what it caught. -/
def fnV (p q : Nat) : Value := .func (.func 63) #[] #[.pointer (some ⟨p, 0, none⟩), .pointer (some ⟨q, 0, none⟩)]
theorem Blk.ne {w : World} {p q : Nat} {cs ds : Array Value} {T U : TypeId} (h : Blk w p cs T) (k : Blk w q ds U) (hT : T ≠ U) : p ≠ q := by
  rintro rfl
  unfold Blk at h k
  rw [h] at k
  simp only [Option.some.injEq, Obj.cells.injEq] at k
  exact hT k.2.1
theorem info42 : (Tryz.prog.info? 77).map (·.size) = some 17 := by kernel_rfl
set_option maxHeartbeats 1000000 in
theorem ranges_any (g : G19) (w : World) :
    Calls Tryz.prog 41 #[geo g] w fun e w' => (∃ s r t a b m d, e = .returned (.agg #[s, s, r, r, r, r, t, t, a, b, m, m, d, d, d, d, d]) ∧ FnAt w' s 1 1073741823 ∧ FnAt w' r 0 1073741823 ∧ FnAt w' t 0 536870912 ∧ FnAt w' a 1 g.high ∧ FnAt w' b 0 (min g.first 536870912) ∧ FnAt w' m 0 4 ∧ FnAt w' d 0 1048576) ∧ Below w.heap.size w w' := by
  unfold geo
  obtain ⟨M, hM⟩ : ∃ M, M = min g.first 536870912 := ⟨_, rfl⟩
  rw [← hM]
  have hm : (if 536870912 < g.first then (536870912 : Int) else g.first) = M := by rw [hM]; split <;> omega
  clear hM
  have D : GeoAt ((w.alloc (.cells (geoC g) 24)).alloc (.cells #[Value.nilFunc, Value.nilFunc, Value.nilFunc, Value.nilFunc, Value.nilFunc, Value.nilFunc, Value.nilFunc, Value.nilFunc, Value.nilFunc, Value.nilFunc, Value.nilFunc, Value.nilFunc, Value.nilFunc, Value.nilFunc, Value.nilFunc, Value.nilFunc, Value.nilFunc] 77)) w.heap.size g := (blk_new w (geoC g) 24).alloc _
  have R := blk_two w (.cells (geoC g) 24) #[Value.nilFunc, Value.nilFunc, Value.nilFunc, Value.nilFunc, Value.nilFunc, Value.nilFunc, Value.nilFunc, Value.nilFunc, Value.nilFunc, Value.nilFunc, Value.nilFunc, Value.nilFunc, Value.nilFunc, Value.nilFunc, Value.nilFunc, Value.nilFunc, Value.nilFunc] 77
  have b0 := tbel2 w (.cells (geoC g) 24) (.cells #[Value.nilFunc, Value.nilFunc, Value.nilFunc, Value.nilFunc, Value.nilFunc, Value.nilFunc, Value.nilFunc, Value.nilFunc, Value.nilFunc, Value.nilFunc, Value.nilFunc, Value.nilFunc, Value.nilFunc, Value.nilFunc, Value.nilFunc, Value.nilFunc, Value.nilFunc] 77)
  generalize geoC g = C at *
  go_enter Tryz.func41, Tryz.ntmps41
  go_wp2_with fail
  generalize (w.alloc _).alloc _ = W0 at *
  refine (within_any _ _ _).mono ?_
  rintro e w1 ⟨⟨s, rfl, F1⟩, b1⟩
  replace R := R.old b1
  replace D := D.old b1
  replace b0 := tstep b0 b1 b0.size
  clear b1
  go_wp2_with fail
  refine (within_any _ _ _).mono ?_
  rintro e w2 ⟨⟨r, rfl, F2⟩, b2⟩
  replace R := R.old b2
  replace D := D.old b2
  replace F1 := F1.old b2
  replace b0 := tstep b0 b2 b0.size
  clear b2
  go_wp2_with fail
  refine (within_any _ _ _).mono ?_
  rintro e w3 ⟨⟨t, rfl, F3⟩, b3⟩
  replace R := R.old b3
  replace D := D.old b3
  replace F1 := F1.old b3
  replace F2 := F2.old b3
  replace b0 := tstep b0 b3 b0.size
  clear b3
  go_wp2_with fail
  refine (within_any _ _ _).mono ?_
  rintro e w4 ⟨⟨m, rfl, F4⟩, b4⟩
  replace R := R.old b4
  replace D := D.old b4
  replace F1 := F1.old b4
  replace F2 := F2.old b4
  replace F3 := F3.old b4
  replace b0 := tstep b0 b4 b0.size
  clear b4
  go_wp2_with fail
  refine (within_any _ _ _).mono ?_
  rintro e w5 ⟨⟨d, rfl, F5⟩, b5⟩
  replace R := R.old b5
  replace D := D.old b5
  replace F1 := F1.old b5
  replace F2 := F2.old b5
  replace F3 := F3.old b5
  replace F4 := F4.old b5
  replace b0 := tstep b0 b5 b0.size
  clear b5
  go_wp2_with fail
  have CE := Lib.hid fun x (hx : Old w5 x) => And.intro (D.old hx).cells hm
  (refine wp_region_plan 22 [(0, true), (1, true), (2, true), (3, true), (4, true), (5, true), (6, true), (7, true), (8, true), (9, true), (11, true), (12, true), (13, true), (15, true), (16, true), (17, true), (18, true), (19, true), (20, true), (21, true), (10, false), (14, false)] (by kernel_rfl) (by kernel_rfl) ?_; simp only [pick, List.getElem?_cons_succ, List.getElem?_cons_zero, List.drop_succ_cons, List.drop_zero])
  repeat (first | (apply TextV.sees (hw := by kernel_rfl); (focus (intro x hx K hK; have hc := CE.out x hx; go_simp; exact hK)); simp only [Act.put, List.getElem_toArray, List.getElem_cons_succ, List.getElem_cons_zero, List.setIfInBounds_toArray, List.set_cons_zero, List.set_cons_succ]) | (apply TextV.idle; (focus (intro x hx K hK; go_simp; exact hK)); simp only [Act.put, List.getElem_toArray, List.getElem_cons_succ, List.getElem_cons_zero, List.setIfInBounds_toArray, List.set_cons_zero, List.set_cons_succ]))
  (refine TextV.loud (V := fun v y => FnAt y v 1 g.high) (fun x hx => (within_any 1 g.high x).mono fun e y h => by obtain ⟨⟨v, h1, h2⟩, h3⟩ := h; exact ⟨v, h1, h2, h3⟩) (by kernel_rfl) (fun _ => by kernel_rfl) (fun v6 y6 hv6 hy6 => ?_); simp only [Act.put, List.getElem_toArray, List.getElem_cons_succ, List.getElem_cons_zero, List.setIfInBounds_toArray, List.set_cons_zero, List.set_cons_succ])
  (refine TextV.loud (V := fun v y => FnAt y v 0 M) (fun x hx => (within_any 0 M x).mono fun e y h => by obtain ⟨⟨v, h1, h2⟩, h3⟩ := h; exact ⟨v, h1, h2, h3⟩) (by kernel_rfl) (fun _ => by kernel_rfl) (fun v7 y7 hv7 hy7 => ?_); simp only [Act.put, List.getElem_toArray, List.getElem_cons_succ, List.getElem_cons_zero, List.setIfInBounds_toArray, List.set_cons_zero, List.set_cons_succ])
  apply TextV.done
  intro x hx
  have bx := (hy6.old hy7).old hx
  have bz := tstep b0 bx b0.size
  have F1' := F1.old bx
  have F2' := F2.old bx
  have F3' := F3.old bx
  have F4' := F4.old bx
  have F5' := F5.old bx
  have F6' := hv6.old (hy7.old hx)
  have F7' := hv7.old hx
  clear F1 F2 F3 F4 F5 hv6 hv7 D CE hm
  obtain ⟨p1, q1, rfl, P1, Q1⟩ := F1'
  obtain ⟨p2, q2, rfl, P2, Q2⟩ := F2'
  obtain ⟨p3, q3, rfl, P3, Q3⟩ := F3'
  obtain ⟨p4, q4, rfl, P4, Q4⟩ := F4'
  obtain ⟨p5, q5, rfl, P5, Q5⟩ := F5'
  obtain ⟨p6, q6, rfl, P6, Q6⟩ := F6'
  obtain ⟨p7, q7, rfl, P7, Q7⟩ := F7'
  refine wpList_build rfl 77 _ rfl (by kernel_rfl) ?_
  refine wpList_store_row rfl 77 _ _ rfl _ #[fnV p1 q1, fnV p1 q1, fnV p2 q2, fnV p2 q2, fnV p2 q2, fnV p2 q2, fnV p3 q3, fnV p3 q3, fnV p6 q6, fnV p7 q7, fnV p4 q4, fnV p4 q4, fnV p5 q5, fnV p5 q5, fnV p5 q5, fnV p5 q5, fnV p5 q5] rfl (by kernel_rfl) 77 _ (R.old bx) info42 rfl (by kernel_rfl) ?_
  go_wp2
  refine bodyPost_ret (v := .agg #[fnV p1 q1, fnV p1 q1, fnV p2 q2, fnV p2 q2, fnV p2 q2, fnV p2 q2, fnV p3 q3, fnV p3 q3, fnV p6 q6, fnV p7 q7, fnV p4 q4, fnV p4 q4, fnV p5 q5, fnV p5 q5, fnV p5 q5, fnV p5 q5, fnV p5 q5]) ?_ rfl ⟨⟨fnV p1 q1, fnV p2 q2, fnV p3 q3, fnV p6 q6, fnV p7 q7, fnV p4 q4, fnV p5 q5, rfl, ?_⟩, below_row bz (by simp) _⟩
  · exact results_cell_row Tryz.results41 _ _ _ 77 _ _ _ rfl ((R.old bx).row _) Tryz.underlying77 rfl info42
  · have RX := R.old bx
    have u : ∀ {p : Nat} {v : Int} {ds : Array Value}, Blk x p #[.int .i64 v] 2 → Blk (x.setRow (w.heap.size + 1) ds) p #[.int .i64 v] 2 := fun h => h.row_other (h.ne RX (by decide)) _
    exact ⟨⟨p1, q1, rfl, u P1, u Q1⟩, ⟨p2, q2, rfl, u P2, u Q2⟩, ⟨p3, q3, rfl, u P3, u Q3⟩, ⟨p6, q6, rfl, u P6, u Q6⟩, ⟨p7, q7, rfl, u P7, u Q7⟩, ⟨p4, q4, rfl, u P4, u Q4⟩, ⟨p5, q5, rfl, u P5, u Q5⟩⟩
end Go.Proofs.YthcgncgnbjhniaaGreat
