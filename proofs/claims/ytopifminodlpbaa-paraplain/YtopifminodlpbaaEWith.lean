/- within, numbers and the closures of package geom. -/
import Derived.Test.YtopifminodlpbaaEMath
import Derived.Test.YtopifminodlpbaaTRow
import Derived.Test.YtopifminodlpbaaBlk
import Derived.Lib.Hide
import Derived.Laws.EntriesVeiled
import Derived.Laws.Rows
import Derived.Laws.Tables
import Derived.Deep.CutBlock
import Derived.Test.YtopifminodlpbaaDet
namespace Go.Proofs.Ytopifminodlpbaa
open Go.RowKit
set_option maxRecDepth 20000
set_option linter.unusedVariables false
set_option linter.unusedSimpArgs false

theorem Blk.uno {w : World} {g : Nat} {T : TypeId} {v : Value} (h : Blk w g #[v] T) : w.cell? ⟨g, 0, none⟩ = some v := by
  unfold Blk at h
  simp [World.cell?, h]
/-- A geometry lies in block b. -/
def GeoAt (w : World) (b : Nat) (g : G19) : Prop := Blk w b (geoC g) 24
theorem GeoAt.old {w x : World} {b : Nat} {g : G19} (h : GeoAt w b g) (hx : Old w x) : GeoAt x b g := Blk.old h hx
theorem GeoAt.cells {w : World} {b : Nat} {g : G19} (h : GeoAt w b g) : w.cell? ⟨b, 0, none⟩ = some (.int .i64 g.cols) ∧ w.cell? ⟨b, 1, none⟩ = some (.int .i64 g.wide) ∧ w.cell? ⟨b, 2, none⟩ = some (.int .i64 g.gap) ∧ w.cell? ⟨b, 3, none⟩ = some (.int .i64 g.high) ∧ w.cell? ⟨b, 4, none⟩ = some (.int .i64 g.first) ∧ w.cell? ⟨b, 5, none⟩ = some (.int .i64 g.grid) ∧ w.cell? ⟨b, 6, none⟩ = some (.int .i64 g.rule) ∧ w.cell? ⟨b, 7, none⟩ = some (.int .i64 g.sep) ∧ w.cell? ⟨b, 8, none⟩ = some (.int .i64 g.nmost) ∧ w.cell? ⟨b, 9, none⟩ = some (.int .i64 g.tmost) ∧ w.cell? ⟨b, 10, none⟩ = some (.int .i64 g.bmost) ∧ w.cell? ⟨b, 11, none⟩ = some (.int .i64 g.tmany) ∧ w.cell? ⟨b, 12, none⟩ = some (.int .i64 g.bmany) ∧ w.cell? ⟨b, 13, none⟩ = some (.int .i64 g.club) ∧ w.cell? ⟨b, 14, none⟩ = some (.int .i64 g.widow) ∧ w.cell? ⟨b, 15, none⟩ = some (.int .i64 g.split) ∧ w.cell? ⟨b, 16, none⟩ = some (.int .i64 g.later) ∧ w.cell? ⟨b, 17, none⟩ = some (.int .i64 g.spare) ∧ w.cell? ⟨b, 18, none⟩ = some (.bool g.bal) := by
  unfold GeoAt Blk geoC at h
  simp [World.cell?, h]
theorem below_row {B b : Nat} {w x : World} (h : Below B w x) (hb : B ≤ b) (cs : Array Value) : Below B w (x.setRow b cs) :=
  h.trans ⟨rfl, rfl, rfl, by simp, fun k hk => setRow_other x b k cs (by omega)⟩
theorem Blk.row {w : World} {b : Nat} {cs : Array Value} {T : TypeId} (h : Blk w b cs T) (ds : Array Value) : Blk (w.setRow b ds) b ds T := setRow_heap w b cs ds T _ h
theorem Blk.row_other {w : World} {g b : Nat} {cs : Array Value} {T : TypeId} (h : Blk w g cs T) (hb : g ≠ b) (ds : Array Value) : Blk (w.setRow b ds) g cs T := (setRow_other w b g ds hb).trans h
end Go.Proofs.Ytopifminodlpbaa
