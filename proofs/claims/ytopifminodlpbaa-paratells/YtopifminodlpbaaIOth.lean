/- The other calls of package item, and the document's. -/
import Derived.Test.YtopifminodlpbaaIMath
import Derived.Test.YtopifminodlpbaaTSm
namespace Go.Proofs.Ytopifminodlpbaa
open Go.RowKit
set_option maxRecDepth 20000
set_option linter.unusedVariables false
set_option linter.unusedSimpArgs false

def looseI (x : I7) : Bool := hasK [2, 3] x.k
def forcesI (x : I7) : Bool := hasK [3] x.k && decide (x.n ≤ -10000)
def forbidsI (x : I7) : Bool := hasK [3] x.k && decide (10000 ≤ x.n)
def totalI (x : I7) : T6 := if x.k = 1 then boxT x.h else if x.k = 2 then glueT x.h x.s x.o x.r else zeroT
theorem loose_any (x : I7) (w : World) : Calls Try.prog 31 #[itm x] w fun e w' => e = .returned (.bool (looseI x)) ∧ Below w.heap.size w w' := by
  unfold looseI
  have c := fun (w' : World) (g : Nat) (h : Blk w' g #[.int .i64 2, .int .i64 3] 3) => is_any x (some ⟨g, 0, none⟩) 2 [2, 3] w' (by simp) (row_2 h h.lt (by unfold inR; omega) (by unfold inR; omega))
  generalize hasK [2, 3] x.k = z at c ⊢
  obtain ⟨k, h, f, s, o, r, n⟩ := x
  unfold itm at *
  dsimp only at *
  go_enter Try.func31, Try.ntmps31
  go_wp2_with fail
  refine (c _ _ (blk_two w _ _ _)).mono ?_
  rintro e w1 ⟨rfl, b1⟩
  have b0 := tstep (tbel2 w _ _) b1 (tbel2 w _ _).size
  clear c b1
  go_wp2
  go_ret
  exact ⟨rfl, b0⟩
theorem forces_any (x : I7) (w : World) : Calls Try.prog 22 #[itm x] w fun e w' => e = .returned (.bool (forcesI x)) ∧ Below w.heap.size w w' := by
  unfold forcesI
  have c := fun (w' : World) (g : Nat) (h : Blk w' g #[.int .i64 3] 3) => is_any x (some ⟨g, 0, none⟩) 1 [3] w' (by simp) (row_1 h h.lt (by unfold inR; omega))
  generalize hasK [3] x.k = z at c ⊢
  obtain ⟨k, h, f, s, o, r, n⟩ := x
  unfold itm at *
  dsimp only at *
  cases z
  all_goals
    go_enter Try.func22, Try.ntmps22
    go_wp2_with fail
    refine (c _ _ (blk_two w _ _ _)).mono ?_
    rintro e w1 ⟨rfl, b1⟩
    have b0 := tstep (tbel2 w _ _) b1 (tbel2 w _ _).size
    have B := ((blk_new w _ _).alloc _).old b1
    obtain ⟨d0, d1, d2, d3, d4, d5, d6⟩ := B.seven
    clear c b1 B
    go_wp2
    go_ret
    exact ⟨rfl, b0⟩
theorem forbids_any (x : I7) (w : World) : Calls Try.prog 32 #[itm x] w fun e w' => e = .returned (.bool (forbidsI x)) ∧ Below w.heap.size w w' := by
  unfold forbidsI
  have c := fun (w' : World) (g : Nat) (h : Blk w' g #[.int .i64 3] 3) => is_any x (some ⟨g, 0, none⟩) 1 [3] w' (by simp) (row_1 h h.lt (by unfold inR; omega))
  generalize hasK [3] x.k = z at c ⊢
  obtain ⟨k, h, f, s, o, r, n⟩ := x
  unfold itm at *
  dsimp only at *
  cases z
  all_goals
    go_enter Try.func32, Try.ntmps32
    go_wp2_with fail
    refine (c _ _ (blk_two w _ _ _)).mono ?_
    rintro e w1 ⟨rfl, b1⟩
    have b0 := tstep (tbel2 w _ _) b1 (tbel2 w _ _).size
    have B := ((blk_new w _ _).alloc _).old b1
    obtain ⟨d0, d1, d2, d3, d4, d5, d6⟩ := B.seven
    clear c b1 B
    go_wp2
    go_ret
    exact ⟨rfl, b0⟩
theorem rloose_any (x : I7) (w : World) : Calls Try.prog 30 #[itm x] w fun e w' => e = .returned (.bool (looseI x)) ∧ Below w.heap.size w w' := by
  have e : looseI x = (decide (x.k = 2) || decide (x.k = 3)) := by unfold looseI hasK; simp
  rw [e]
  obtain ⟨k, h, f, s, o, r, n⟩ := x
  unfold itm
  dsimp only
  by_cases h2 : k = 2
  · subst h2
    go_enter Try.func30, Try.ntmps30
    go_wp2
    go_ret
    exact ⟨rfl, tbel1 w _⟩
  · have h2' : (k == 2) = false := by simpa using h2
    rw [decide_eq_false h2]
    go_enter Try.func30, Try.ntmps30
    go_wp2
    go_ret
    exact ⟨rfl, tbel1 w _⟩
theorem below_set6 {B b : Nat} {w x : World} (h : Below B w x) (hb : B ≤ b) (v0 v1 v2 v3 v4 v5 : Value) : Below B w ((((((x.setCell ⟨b, 0, none⟩ v0).setCell ⟨b, 1, none⟩ v1).setCell ⟨b, 2, none⟩ v2).setCell ⟨b, 3, none⟩ v3).setCell ⟨b, 4, none⟩ v4).setCell ⟨b, 5, none⟩ v5) :=
  (((((h.setCell (p := ⟨b, 0, none⟩) hb v0).setCell (p := ⟨b, 1, none⟩) hb v1).setCell (p := ⟨b, 2, none⟩) hb v2).setCell (p := ⟨b, 3, none⟩) hb v3).setCell (p := ⟨b, 4, none⟩) hb v4).setCell (p := ⟨b, 5, none⟩) hb v5
end Go.Proofs.Ytopifminodlpbaa
