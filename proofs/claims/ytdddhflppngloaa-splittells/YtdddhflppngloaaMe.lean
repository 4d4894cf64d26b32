/- The contracts of the meter of package sp, over the cut of stage 1. -/
import Derived.Test.YtdddhflppngloaaSq
namespace Go.Proofs.Ytdddhflppngloaa
open Go.RowKit
set_option maxRecDepth 20000
set_option linter.unusedVariables false

/-- A meter lies at block b; its value and whether it is not spoiled are x. -/
def Met (w : World) (b : Nat) (x : Int × Bool) : Prop :=
  w.cell? ⟨b, 0, none⟩ = some (.int .i64 x.1) ∧ w.cell? ⟨b, 1, none⟩ = some (.bool (!x.2)) ∧ w.frozen? ⟨b, 0, none⟩ = false ∧ w.frozen? ⟨b, 1, none⟩ = false

/-- One step of a meter. -/
def stepA (x : Int × Bool) (a : Int) : Int × Bool := if x.2 then addR x.1 a else x
def stepS (x : Int × Bool) (a : Int) : Int × Bool := if x.2 then subR x.1 a else x

theorem Met.carry {w w' : World} {b B : Nat} {x : Int × Bool} (h : Met w b x) (hb : Below B w w') (hB : b < B) : Met w' b x := by
  obtain ⟨h0, h1, f0, f1⟩ := h
  exact ⟨(hb.cell (p := ⟨b, 0, none⟩) hB).trans h0, (hb.cell (p := ⟨b, 1, none⟩) hB).trans h1, (hb.frozen (p := ⟨b, 0, none⟩) hB).trans f0, (hb.frozen (p := ⟨b, 1, none⟩) hB).trans f1⟩

theorem met_set {w : World} {b : Nat} {x : Int × Bool} (h : Met w b x) (r : Int × Bool) :
    Met ((w.setCell ⟨b, 0, none⟩ (.int .i64 r.1)).setCell ⟨b, 1, none⟩ (.bool (!r.2))) b r := by
  obtain ⟨h0, h1, f0, f1⟩ := h
  refine ⟨?_, ?_, ?_, ?_⟩ <;> simp [go_sem, *]

theorem below_set (w : World) (b : Nat) (u v : Value) : Below b w ((w.setCell ⟨b, 0, none⟩ u).setCell ⟨b, 1, none⟩ v) :=
  ((Below.refl b w).setCell (p := ⟨b, 0, none⟩) (Nat.le_refl _) _).setCell (p := ⟨b, 1, none⟩) (Nat.le_refl _) _

/-- Is what a meter can show: a spoiled one bears 0. -/
def tidy (x : Int × Bool) : Prop := inR x.1 ∧ (x.2 = false → x.1 = 0)
theorem tidy_fit (n : Int) : tidy (fit n) := ⟨fit_in n, fun h => by unfold fit at *; split <;> simp_all⟩
theorem tidy_stepA {x : Int × Bool} (h : tidy x) (a : Int) : tidy (stepA x a) := by
  unfold stepA; split
  · exact tidy_fit _
  · exact h
theorem tidy_stepS {x : Int × Bool} (h : tidy x) (a : Int) : tidy (stepS x a) := by
  unfold stepS; split
  · exact tidy_fit _
  · exact h
theorem tidy_zero : tidy (0, true) := ⟨by decide, fun h => by cases h⟩
end Go.Proofs.Ytdddhflppngloaa
