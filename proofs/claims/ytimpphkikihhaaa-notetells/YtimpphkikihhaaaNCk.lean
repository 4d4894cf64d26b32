/- Check of package note, and the document's. -/
import Derived.Test.YtimpphkikihhaaaNChk
namespace Go.Proofs.Ytimpphkikihhaaa
open Go.RowKit
set_option maxRecDepth 20000
set_option linter.unusedVariables false
set_option linter.unusedSimpArgs false

def errN (b : Bool) : Int := bif b then 0 else 9
theorem check_few (L P : List Int) (h : ¬ 1 ≤ L.length ∨ ¬ L.length ≤ 64 ∨ ¬ P.length + 1 = L.length) : checkN L P = false := by
  unfold checkN
  rcases h with h | h | h <;> simp [h]
theorem check_fit (L P : List Int) (h1 : 1 ≤ L.length) (h2 : L.length ≤ 64) (h3 : P.length + 1 = L.length) : checkN L P = (!(L.any badH || P.any badP)) := by
  unfold checkN
  simp [h1, h2, h3]
theorem ncheck_any (la : Option Addr) (lc : Nat) (L : List Int) (pa : Option Addr) (pc : Nat) (P : List Int) (w : World) (hl : L.length ≤ 9223372036854775807) (hp : P.length ≤ 9223372036854775807) (hL : IRow w.heap.size w la L) (hP : IRow w.heap.size w pa P) :
    Calls Try.prog 7 #[nte la L.length lc pa P.length pc] w fun e w' => e = .returned (.int .i64 (errN (checkN L P))) ∧ Below w.heap.size w w' := by
  unfold nte
  by_cases h1 : 1 ≤ L.length
  · by_cases h2 : L.length ≤ 64
    · by_cases h3 : P.length + 1 = L.length
      · rw [check_fit L P h1 h2 h3]
        have c1 := fun x (hx : Below w.heap.size w x) => hasF_sp la lc L x (by omega) ((hL.carry hx (Nat.le_refl _)).mono hx.size)
        have c2 := fun x (hx : Below w.heap.size w x) => hasF_int pa pc P x (by omega) ((hP.carry hx (Nat.le_refl _)).mono hx.size)
        clear hL hP
        generalize L.any badH = u at *
        generalize P.any badP = v at *
        have h4 : ((P.length : Int) != (L.length : Int) - 1) = false := by rw [bne_eq_false_iff_eq]; omega
        cases u <;> cases v
        all_goals
          go_enter Try.func7, Try.ntmps7
          go_wp2_with (first | (with_reducible refine (c1 _ (tbel1 w _)).mono ?_; rintro e w1 ⟨rfl, rfl⟩) | (with_reducible refine (c2 _ (tbel1 w _)).mono ?_; rintro e w1 ⟨rfl, rfl⟩))
          go_ret
          exact ⟨rfl, tbel1 w _⟩
      · rw [check_few L P (.inr (.inr h3))]
        have h4 : ((P.length : Int) != (L.length : Int) - 1) = true := by rw [bne_iff_ne]; omega
        go_enter Try.func7, Try.ntmps7
        go_wp2
        go_ret
        exact ⟨rfl, tbel1 w _⟩
    · rw [check_few L P (.inr (.inl h2))]
      go_enter Try.func7, Try.ntmps7
      go_wp2
      go_ret
      exact ⟨rfl, tbel1 w _⟩
  · rw [check_few L P (.inl h1)]
    go_enter Try.func7, Try.ntmps7
    go_wp2
    go_ret
    exact ⟨rfl, tbel1 w _⟩
end Go.Proofs.Ytimpphkikihhaaa
