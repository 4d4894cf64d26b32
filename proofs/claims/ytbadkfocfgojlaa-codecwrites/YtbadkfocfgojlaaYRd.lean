/- Package codec's Reader: where it lies; Right, At, Stop, left, End, Open. -/
import Derived.Test.YtbadkfocfgojlaaXRd
namespace Go.Proofs.Ytbadkfocfgojlaa
open Go.RowKit
set_option linter.unusedVariables false
set_option linter.unusedSimpArgs false

/-- A reader of codec lies in block g. -/
def CdAt (w : World) (g : Nat) (a : Option Addr) (c n : Nat) (p : Int) (st : Bool) : Prop := w.heap[g]? = some (.cells #[.slice a n c, .int .i64 p, .bool st] 57 (0, 0))
section
variable {w w' : World} {g : Nat} {a : Option Addr} {c n : Nat} {p : Int} {st : Bool}
theorem CdAt.lt (h : CdAt w g a c n p st) : g < w.heap.size := (Array.getElem?_eq_some_iff.1 h).1
theorem CdAt.c0 (h : CdAt w g a c n p st) : w.cell? ⟨g, 0, none⟩ = some (.slice a n c) := (cell_of_row w g 0 _ _ _ h).trans rfl
theorem CdAt.c1 (h : CdAt w g a c n p st) : w.cell? ⟨g, 1, none⟩ = some (.int .i64 p) := (cell_of_row w g 1 _ _ _ h).trans rfl
theorem CdAt.c2 (h : CdAt w g a c n p st) : w.cell? ⟨g, 2, none⟩ = some (.bool st) := (cell_of_row w g 2 _ _ _ h).trans rfl
theorem CdAt.fr (h : CdAt w g a c n p st) (j : Nat) : w.frozen? ⟨g, j, none⟩ = false := frozen_of_row w g j _ _ h
theorem CdAt.set1 (h : CdAt w g a c n p st) (q : Int) : CdAt (w.setCell ⟨g, 1, none⟩ (.int .i64 q)) g a c n q st := heap_setCell_same w g 1 _ _ _ h
theorem CdAt.set2 (h : CdAt w g a c n p st) (q : Bool) : CdAt (w.setCell ⟨g, 2, none⟩ (.bool q)) g a c n p q := heap_setCell_same w g 2 _ _ _ h
theorem CdAt.below (h : CdAt w g a c n p st) {B : Nat} (hb : Below B w w') (hg : g < B) : CdAt w' g a c n p st := (hb.block g hg).trans h
theorem CdAt.old (h : CdAt w g a c n p st) (hb : Below w.heap.size w w') : CdAt w' g a c n p st := h.below hb h.lt
theorem CdAt.but (h : CdAt w g a c n p st) {g' : Nat} (hb : But g' w w') (hg : g ≠ g') : CdAt w' g a c n p st := (hb.block g h.lt (fun e => hg (by injection e))).trans h
theorem RdAt.but (h : RdAt w g a c n p st) {g' : Nat} (hb : But g' w w') (hg : g ≠ g') : RdAt w' g a c n p st := (hb.block g h.lt (fun e => hg (by injection e))).trans h
theorem RdAt.old (h : RdAt w g a c n p st) (hb : Below w.heap.size w w') : RdAt w' g a c n p st := h.below hb h.lt
end
theorem crow_ne {w : World} {g b o : Nat} {a : Option Addr} {c n : Nat} {p : Int} {st : Bool} {z : Int} (h : CdAt w g a c n p st) (hc : w.cell? ⟨b, o, none⟩ = some (.int .u8 z)) : b ≠ g := by
  rintro rfl
  rw [cell_of_row w b o _ _ _ h] at hc
  match o, hc with
  | 0, hc => simp at hc
  | 1, hc => simp at hc
  | 2, hc => simp at hc
  | o + 3, hc => simp at hc
theorem Row.cbut {w w' : World} {g : Nat} {a a' : Option Addr} {c c' n : Nat} {p : Int} {st : Bool} {l : List Int} (hr : Row w a c l) (h : CdAt w g a' c' n p st) (hb : But g w w') : Row w' a c l := ⟨hr.1, fun k hk => by
  obtain ⟨b, off, rfl, hB, hc⟩ := hr.2 k hk
  have hne := crow_ne h hc
  exact ⟨b, off, rfl, Nat.lt_of_lt_of_le hB hb.size, (World.cell?_of_block (hb.block b hB (fun e => hne (by injection e)))).trans hc⟩⟩
theorem But.step {g : Nat} {w w' w'' : World} (h : But g w w') (k : Below w'.heap.size w' w'') : But g w w'' := But.trans h (But.of k)

theorem open_any (a : Option Addr) (c n : Nat) (w : World) :
    Calls Try.prog 12 #[.slice a n c] w fun e w' => e = .returned (.pointer (some ⟨w.heap.size, 0, none⟩)) ∧ CdAt w' w.heap.size a c n 0 false ∧ Below w.heap.size w w' := by
  go_enter Try.func12, Try.ntmps12
  go_wp2
  go_ret
  exact ⟨rfl, heap_alloc_new _ _, bel1 _ _⟩
theorem right_any (g : Nat) (a : Option Addr) (c n : Nat) (p : Int) (st : Bool) (w : World) (hR : CdAt w g a c n p st) :
    Calls Try.prog 16 #[.pointer (some ⟨g, 0, none⟩)] w fun e w' => e = .returned (.bool (!st)) ∧ w = w' := by
  have c2 := hR.c2
  go_enter Try.func16, Try.ntmps16
  go_wp2
  go_ret
  exact ⟨rfl, rfl⟩
theorem right_nil (w : World) :
    Calls Try.prog 16 #[.pointer none] w fun e w' => e = .returned (.bool false) ∧ w = w' := by
  go_enter Try.func16, Try.ntmps16
  go_wp2
  go_ret
  exact ⟨rfl, rfl⟩
theorem at_any (g : Nat) (a : Option Addr) (c n : Nat) (p : Int) (st : Bool) (w : World) (hR : CdAt w g a c n p st) :
    Calls Try.prog 17 #[.pointer (some ⟨g, 0, none⟩)] w fun e w' => e = .returned (.int .i64 p) ∧ w = w' := by
  have c1 := hR.c1
  go_enter Try.func17, Try.ntmps17
  go_wp2
  go_ret
  exact ⟨rfl, rfl⟩
theorem at_nil (w : World) :
    Calls Try.prog 17 #[.pointer none] w fun e w' => e = .returned (.int .i64 0) ∧ w = w' := by
  go_enter Try.func17, Try.ntmps17
  go_wp2
  go_ret
  exact ⟨rfl, rfl⟩
theorem stop_any (g : Nat) (a : Option Addr) (c n : Nat) (p : Int) (st : Bool) (w : World) (hR : CdAt w g a c n p st) :
    Calls Try.prog 24 #[.pointer (some ⟨g, 0, none⟩)] w fun e w' => e = .returned (.tuple #[]) ∧ CdAt w' g a c n p true ∧ But g w w' := by
  have c2 := hR.c2
  have f2 := hR.fr 2
  go_enter Try.func24, Try.ntmps24
  go_wp2
  go_end0
  exact ⟨rfl, hR.set2 true, (But.refl g w).set 2 _⟩
theorem stop_nil (w : World) :
    Calls Try.prog 24 #[.pointer none] w fun e w' => e = .returned (.tuple #[]) ∧ w = w' := by
  go_enter Try.func24, Try.ntmps24
  go_wp2
  go_end0
  exact ⟨rfl, rfl⟩
theorem left_any (g : Nat) (a : Option Addr) (c n p : Nat) (st : Bool) (hp : p ≤ n) (hn : n ≤ 1000000) (w : World) (hR : CdAt w g a c n p st) :
    Calls Try.prog 36 #[.pointer (some ⟨g, 0, none⟩)] w fun e w' => e = .returned (.int .i64 ((n : Int) - p)) ∧ Below w.heap.size w w' := by
  have c0 := hR.c0
  have c1 := hR.c1
  go_enter Try.func36, Try.ntmps36
  go_wp2_with fail
  go_quiet (fail)
  go_wp2
  go_ret
  exact ⟨rfl, bdrewN (Below.refl _ _) _⟩
def endR (st : Bool) (p n : Nat) : Int := if st = false ∧ p = n then 0 else 2
theorem end_any (g : Nat) (a : Option Addr) (c n p : Nat) (st : Bool) (hp : p ≤ n) (hn : n ≤ 1000000) (w : World) (hR : CdAt w g a c n p st) :
    Calls Try.prog 18 #[.pointer (some ⟨g, 0, none⟩)] w fun e w' => e = .returned (.int .i64 (endR st p n)) ∧ Below w.heap.size w w' := by
  have cr := right_any g a c n p st w hR
  have cl := left_any g a c n p st hp hn w hR
  cases st with
  | true =>
    rw [Bool.not_true] at cr
    go_enter Try.func18, Try.ntmps18
    go_wp2_with (refine cr.mono ?_; rintro e w' ⟨rfl, rfl⟩)
    go_ret
    exact ⟨rfl, Below.refl _ _⟩
  | false =>
    rw [Bool.not_false] at cr
    by_cases h : p = n
    · subst h
      go_enter Try.func18, Try.ntmps18
      go_wp2_with (first
        | (go_at_call 16; refine cr.mono ?_; rintro e w' ⟨rfl, rfl⟩)
        | (go_at_call 36; refine cl.mono ?_; rintro e w1 ⟨rfl, b1⟩))
      go_ret
      exact ⟨by unfold endR; simp, b1⟩
    · have hd : ((n : Int) - p == 0) = false := by simp; omega
      go_enter Try.func18, Try.ntmps18
      go_wp2_with (first
        | (go_at_call 16; refine cr.mono ?_; rintro e w' ⟨rfl, rfl⟩)
        | (go_at_call 36; refine cl.mono ?_; rintro e w1 ⟨rfl, b1⟩))
      go_ret
      exact ⟨by unfold endR; simp [h], b1⟩
theorem end_nil (w : World) :
    Calls Try.prog 18 #[.pointer none] w fun e w' => e = .returned (.int .i64 2) ∧ w = w' := by
  have cr := right_nil w
  go_enter Try.func18, Try.ntmps18
  go_wp2_with (refine cr.mono ?_; rintro e w' ⟨rfl, rfl⟩)
  go_ret
  exact ⟨rfl, rfl⟩
end Go.Proofs.Ytbadkfocfgojlaa
