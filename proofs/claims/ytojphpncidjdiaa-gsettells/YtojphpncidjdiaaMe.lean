/- The contracts of the meter of package sp, over the cut of stage 1. -/
import Derived.Test.YtojphpncidjdiaaSq
namespace Go.Proofs.Ytojphpncidjdiaa
open Go.RowKit
set_option linter.unusedVariables false

/-- A meter lies at block b; its value and whether it is not spoiled are x. -/
def Met (w : World) (b : Nat) (x : Int × Bool) : Prop :=
  w.cell? ⟨b, 0, none⟩ = some (.int .i64 x.1) ∧ w.cell? ⟨b, 1, none⟩ = some (.bool (!x.2)) ∧ w.frozen? ⟨b, 0, none⟩ = false ∧ w.frozen? ⟨b, 1, none⟩ = false

/-- One step of a meter. -/
def stepA (x : Int × Bool) (a : Int) : Int × Bool := if x.2 then addR x.1 a else x
def stepS (x : Int × Bool) (a : Int) : Int × Bool := if x.2 then subR x.1 a else x

theorem Met.carry {w w' : World} {b B : Nat} {x : Int × Bool} (h : Met w b x) (hb : Below B w w') (hB : b < B) : Met w' b x := by
  obtain ⟨h0, h1, f0, f1⟩ := h
  exact ⟨(hb.cell (p := ⟨b, 0, none⟩) hB).trans h0, (hb.cell (p := ⟨b, 1, none⟩) hB).trans h1, (hb.frozen (p := ⟨b, 0, none⟩) hB).trans f0, (hb.frozen (p := ⟨b, 1, none⟩) hB).trans f1⟩

theorem met_set {w : World} {b : Nat} {x : Int × Bool} (h : Met w b x) (r : Int × Bool) :
    Met ((w.setCell ⟨b, 0, none⟩ (.int .i64 r.1)).setCell ⟨b, 1, none⟩ (.bool (!r.2))) b r := by
  obtain ⟨h0, h1, f0, f1⟩ := h
  refine ⟨?_, ?_, ?_, ?_⟩ <;> simp [go_sem, *]

theorem below_set (w : World) (b : Nat) (u v : Value) : Below b w ((w.setCell ⟨b, 0, none⟩ u).setCell ⟨b, 1, none⟩ v) :=
  ((Below.refl b w).setCell (p := ⟨b, 0, none⟩) (Nat.le_refl _) _).setCell (p := ⟨b, 1, none⟩) (Nat.le_refl _) _

theorem new_any (w : World) :
    Calls Try.prog 72 #[] w fun e w' => e = .returned (.pointer (some ⟨w.heap.size, 0, none⟩)) ∧ Met w' w.heap.size (0, true) ∧ Below w.heap.size w w' ∧ w.heap.size < w'.heap.size := by
  go_enter Try.func72, Try.ntmps72
  go_wp2
  go_ret
  refine ⟨rfl, ⟨?_, ?_, ?_, ?_⟩, (Below.refl _ _).alloc (Nat.le_refl _) _, by simp⟩ <;> simp

theorem madd_ok (b : Nat) (v a : Int) (w : World) (hm : Met w b (v, true)) (hv : inR v) (ha : inR a) :
    Calls Try.prog 74 #[.pointer (some ⟨b, 0, none⟩), .int .i64 a] w fun e w' => e = .returned (.bool (addR v a).2) ∧ Met w' b (addR v a) ∧ Below b w w' ∧ w.heap.size ≤ w'.heap.size := by
  have hm' := hm
  obtain ⟨h0, h1, f0, f1⟩ := hm'
  simp only [Bool.not_true] at h0 h1
  go_enter Try.func74, Try.ntmps74
  go_wp2_with (first | (go_at_call 83; refine (add_any _ _ _ hv ha).mono ?_; rintro e w' ⟨rfl, rfl⟩; unfold two) | go_in)
  go_ret
  exact ⟨rfl, met_set hm _, below_set w b _ _, by simp⟩
theorem madd_no (b : Nat) (v a : Int) (w : World) (hm : Met w b (v, false)) :
    Calls Try.prog 74 #[.pointer (some ⟨b, 0, none⟩), .int .i64 a] w fun e w' => e = .returned (.bool false) ∧ w = w' := by
  obtain ⟨h0, h1, f0, f1⟩ := hm
  simp only [Bool.not_false] at h0 h1
  go_enter Try.func74, Try.ntmps74
  go_wp2_with go_in
  go_ret
  exact ⟨rfl, rfl⟩
theorem madd_nil (a : Int) (w : World) :
    Calls Try.prog 74 #[.pointer none, .int .i64 a] w fun e w' => e = .returned (.bool false) ∧ w = w' := by
  go_enter Try.func74, Try.ntmps74
  go_wp2_with go_in
  go_ret
  exact ⟨rfl, rfl⟩
theorem mval_nil (w : World) :
    Calls Try.prog 75 #[.pointer none] w fun e w' => e = .returned (.tuple #[.int .i64 0, .bool false]) ∧ w = w' := by
  go_enter Try.func75, Try.ntmps75
  go_wp2
  go_ret2
  exact ⟨rfl, rfl⟩
theorem mval_ok (b : Nat) (v : Int) (w : World) (hm : Met w b (v, true)) :
    Calls Try.prog 75 #[.pointer (some ⟨b, 0, none⟩)] w fun e w' => e = .returned (.tuple #[.int .i64 v, .bool true]) ∧ w = w' := by
  obtain ⟨h0, h1, f0, f1⟩ := hm
  simp only [Bool.not_true] at h0 h1
  go_enter Try.func75, Try.ntmps75
  go_wp2
  go_ret2
  exact ⟨rfl, rfl⟩
theorem mval_no (b : Nat) (v : Int) (w : World) (hm : Met w b (v, false)) :
    Calls Try.prog 75 #[.pointer (some ⟨b, 0, none⟩)] w fun e w' => e = .returned (.tuple #[.int .i64 0, .bool false]) ∧ w = w' := by
  obtain ⟨h0, h1, f0, f1⟩ := hm
  simp only [Bool.not_false] at h0 h1
  go_enter Try.func75, Try.ntmps75
  go_wp2
  go_ret2
  exact ⟨rfl, rfl⟩
/-- Is what a meter can show: a spoiled one bears 0. -/
def tidy (x : Int × Bool) : Prop := inR x.1 ∧ (x.2 = false → x.1 = 0)
theorem tidy_fit (n : Int) : tidy (fit n) := ⟨fit_in n, fun h => by unfold fit at *; split <;> simp_all⟩
theorem tidy_stepA {x : Int × Bool} (h : tidy x) (a : Int) : tidy (stepA x a) := by
  unfold stepA; split
  · exact tidy_fit _
  · exact h
theorem tidy_stepS {x : Int × Bool} (h : tidy x) (a : Int) : tidy (stepS x a) := by
  unfold stepS; split
  · exact tidy_fit _
  · exact h
theorem tidy_zero : tidy (0, true) := ⟨by decide, fun h => by cases h⟩
theorem mval_any (b : Nat) (x : Int × Bool) (w : World) (hm : Met w b x) (ht : tidy x) :
    Calls Try.prog 75 #[.pointer (some ⟨b, 0, none⟩)] w fun e w' => e = .returned (two x) ∧ w = w' := by
  obtain ⟨v, o⟩ := x
  cases o
  · obtain rfl : v = 0 := ht.2 rfl
    exact mval_no b _ w hm
  · exact mval_ok b v w hm
theorem madd_any (b : Nat) (x : Int × Bool) (a : Int) (w : World) (hm : Met w b x) (ht : tidy x) (ha : inR a) :
    Calls Try.prog 74 #[.pointer (some ⟨b, 0, none⟩), .int .i64 a] w fun e w' => e = .returned (.bool (stepA x a).2) ∧ Met w' b (stepA x a) ∧ Below b w w' ∧ w.heap.size ≤ w'.heap.size := by
  obtain ⟨v, o⟩ := x
  cases o
  · exact (madd_no b v a w hm).mono fun e w' ⟨he, hw⟩ => by subst hw; exact ⟨he, hm, Below.refl _ _, Nat.le_refl _⟩
  · exact madd_ok b v a w hm ht.1 ha
end Go.Proofs.Ytojphpncidjdiaa
