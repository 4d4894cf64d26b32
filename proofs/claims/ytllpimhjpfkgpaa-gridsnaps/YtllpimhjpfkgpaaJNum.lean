/- Up, Down, Near of package grid, and the document's; raise and lower. -/
import Derived.Test.YtllpimhjpfkgpaaJMath
import Derived.Test.YtllpimhjpfkgpaaJRow
import Derived.Test.YtllpimhjpfkgpaaRg
import Derived.Test.YtllpimhjpfkgpaaDetX
namespace Go.Proofs.Ytllpimhjpfkgpaa
open Go.RowKit
set_option maxRecDepth 20000
set_option linter.unusedVariables false
set_option linter.unusedSimpArgs false

theorem gup_any (n s : Int) (w : World) (hn : inR n) (hs : inR s) :
    Calls Try.prog 40 #[.int .i64 n, .int .i64 s] w fun e w' => e = .returned (.int .i64 (upZ n s)) ∧ w = w' := by
  have c : ∀ w, Calls Try.prog 58 #[.func (.func 60) #[] #[], .int .i64 n, .int .i64 s] w fun e w' => e = .returned (.int .i64 (upZ n s)) ∧ w = w' := fun w => by
    have c := up_any n s w hn hs
    unfold upZ
    generalize upR n s = r at *
    obtain ⟨m, b⟩ := r
    unfold two at c
    dsimp only at *
    cases b
    all_goals
      go_enter Try.func58, Try.ntmps58
      go_wp2_with fail
      refine c.mono ?_
      rintro e w1 ⟨rfl, rfl⟩
      go_wp2
      go_ret
      exact ⟨rfl, rfl⟩
  go_enter Try.func40, Try.ntmps40
  go_wp2_with fail
  refine (c _).mono ?_
  rintro e w1 ⟨rfl, rfl⟩
  go_wp2
  go_ret
  exact ⟨rfl, rfl⟩
theorem gdown_any (n s : Int) (w : World) (hn : inR n) (hs : inR s) :
    Calls Try.prog 39 #[.int .i64 n, .int .i64 s] w fun e w' => e = .returned (.int .i64 (downZ n s)) ∧ w = w' := by
  have c : ∀ w, Calls Try.prog 58 #[.func (.func 59) #[] #[], .int .i64 n, .int .i64 s] w fun e w' => e = .returned (.int .i64 (downZ n s)) ∧ w = w' := fun w => by
    have c := down_any n s w hn hs
    unfold downZ
    generalize downR n s = r at *
    obtain ⟨m, b⟩ := r
    unfold two at c
    dsimp only at *
    cases b
    all_goals
      go_enter Try.func58, Try.ntmps58
      go_wp2_with fail
      refine c.mono ?_
      rintro e w1 ⟨rfl, rfl⟩
      go_wp2
      go_ret
      exact ⟨rfl, rfl⟩
  go_enter Try.func39, Try.ntmps39
  go_wp2_with fail
  refine (c _).mono ?_
  rintro e w1 ⟨rfl, rfl⟩
  go_wp2
  go_ret
  exact ⟨rfl, rfl⟩
theorem near_ways {n s : Int} (h1 : ¬ s < 1) {t : Int} (ht : n % s = t) : nearZ n s = (if t < s - t then downZ n s else upZ n s) := by
  unfold nearZ
  rw [if_neg h1, ht]
theorem gnear_any (n s : Int) (w : World) (hn : inR n) (hs : inR s) :
    Calls Try.prog 14 #[.int .i64 n, .int .i64 s] w fun e w' => e = .returned (.int .i64 (nearZ n s)) ∧ w = w' := by
  by_cases h1 : s < 1
  · have e : nearZ n s = n := by unfold nearZ; rw [if_pos h1]
    rw [e]
    go_enter Try.func14, Try.ntmps14
    go_wp2
    go_ret
    exact ⟨rfl, rfl⟩
  · have cd := Lib.hid fun w => gdown_any n s w hn hs
    have cu := Lib.hid fun w => gup_any n s w hn hs
    have hb := emod_bd n s (by omega)
    have ho := over_bd n s (by omega)
    have H : ∃ t, n % s = t ∧ ((0 ≤ n ∧ t = n % s) ∨ (n < 0 ∧ 0 ≤ n.tmod s ∧ t = n.tmod s) ∨ (n < 0 ∧ n.tmod s < 0 ∧ t = n.tmod s + s)) := by
      refine ⟨n % s, rfl, ?_⟩
      by_cases q : 0 ≤ n
      · exact .inl ⟨q, rfl⟩
      · by_cases q' : 0 ≤ n.tmod s
        · exact .inr (.inl ⟨by omega, q', (over_pos n s (by omega) q').symm⟩)
        · exact .inr (.inr ⟨by omega, by omega, (over_neg n s (by omega) (by omega)).symm⟩)
    obtain ⟨t, ht, hw⟩ := H
    rw [near_ways h1 ht]
    rw [ht] at hb
    clear ht
    unfold inR at hn hs
    generalize downZ n s = d at *
    generalize upZ n s = p at *
    rcases hw with ⟨q, rfl⟩ | ⟨q, q', rfl⟩ | ⟨q, q', rfl⟩
    · by_cases hlt : n % s < s - n % s
      · rw [if_pos hlt]
        go_enter Try.func14, Try.ntmps14
        go_wp2_with (with_reducible refine (cd.out _).mono ?_; rintro e w1 ⟨rfl, rfl⟩)
        go_ret
        exact ⟨rfl, rfl⟩
      · rw [if_neg hlt]
        go_enter Try.func14, Try.ntmps14
        go_wp2_with (with_reducible refine (cu.out _).mono ?_; rintro e w1 ⟨rfl, rfl⟩)
        go_ret
        exact ⟨rfl, rfl⟩
    · by_cases hlt : n.tmod s < s - n.tmod s
      · rw [if_pos hlt]
        go_enter Try.func14, Try.ntmps14
        go_wp2_with (with_reducible refine (cd.out _).mono ?_; rintro e w1 ⟨rfl, rfl⟩)
        go_ret
        exact ⟨rfl, rfl⟩
      · rw [if_neg hlt]
        go_enter Try.func14, Try.ntmps14
        go_wp2_with (with_reducible refine (cu.out _).mono ?_; rintro e w1 ⟨rfl, rfl⟩)
        go_ret
        exact ⟨rfl, rfl⟩
    · by_cases hlt : n.tmod s + s < s - (n.tmod s + s)
      · rw [if_pos hlt]
        go_enter Try.func14, Try.ntmps14
        go_wp2_with (with_reducible refine (cd.out _).mono ?_; rintro e w1 ⟨rfl, rfl⟩)
        go_ret
        exact ⟨rfl, rfl⟩
      · rw [if_neg hlt]
        go_enter Try.func14, Try.ntmps14
        go_wp2_with (with_reducible refine (cu.out _).mono ?_; rintro e w1 ⟨rfl, rfl⟩)
        go_ret
        exact ⟨rfl, rfl⟩
/-! ### The document's -/
theorem got_any (r : Int × Bool) (n : Int) (w : World) :
    Calls Try.prog 48 #[pair r, .int .i64 n] w fun e w' => e = .returned (.int .i64 (bif r.2 then r.1 else n)) ∧ Below w.heap.size w w' := by
  obtain ⟨m, b⟩ := r
  unfold pair
  dsimp only
  cases b
  all_goals
    go_enter Try.func48, Try.ntmps48
    go_wp2
    go_ret
    exact ⟨rfl, tbel1 w _⟩
theorem rgup_any (n s : Int) (w : World) (hn : inR n) (hs : inR s) :
    Calls Try.prog 23 #[.int .i64 n, .int .i64 s] w fun e w' => e = .returned (.int .i64 (upZ n s)) ∧ Below w.heap.size w w' := by
  have c1 := rup_any n s w hn hs
  have c2 := fun w => got_any (upR n s) n w
  unfold upZ
  generalize upR n s = r at *
  generalize (bif r.2 then r.1 else n) = z at *
  generalize pair r = v at *
  go_enter Try.func23, Try.ntmps23
  go_wp2_with fail
  refine c1.mono ?_
  rintro e w1 ⟨rfl, b1⟩
  go_wp2_with fail
  refine (c2 _).mono ?_
  rintro e w2 ⟨rfl, b2⟩
  go_wp2
  go_ret
  exact ⟨rfl, tstep b1 b2 b1.size⟩
theorem rgdown_any (n s : Int) (w : World) (hn : inR n) (hs : inR s) :
    Calls Try.prog 22 #[.int .i64 n, .int .i64 s] w fun e w' => e = .returned (.int .i64 (downZ n s)) ∧ Below w.heap.size w w' := by
  have c1 := rdown_any n s w hn hs
  have c2 := fun w => got_any (downR n s) n w
  unfold downZ
  generalize downR n s = r at *
  generalize (bif r.2 then r.1 else n) = z at *
  generalize pair r = v at *
  go_enter Try.func22, Try.ntmps22
  go_wp2_with fail
  refine c1.mono ?_
  rintro e w1 ⟨rfl, b1⟩
  go_wp2_with fail
  refine (c2 _).mono ?_
  rintro e w2 ⟨rfl, b2⟩
  go_wp2
  go_ret
  exact ⟨rfl, tstep b1 b2 b1.size⟩
/-! ### In place -/
theorem raise_any (b o : Nat) (n s : Int) (w : World) (hn : inR n) (hs : inR s) (hc : w.cell? ⟨b, o, none⟩ = some (.int .i64 n)) (hf : w.frozen? ⟨b, o, none⟩ = false) :
    Calls Try.prog 21 #[.pointer (some ⟨b, o, none⟩), .int .i64 s] w fun e w' => e = .returned (.tuple #[]) ∧ w' = w.setCell ⟨b, o, none⟩ (.int .i64 (upZ n s)) := by
  have c := gup_any n s w hn hs
  generalize upZ n s = z at *
  go_enter Try.func21, Try.ntmps21
  go_wp2_with fail
  refine c.mono ?_
  rintro e w1 ⟨rfl, rfl⟩
  go_wp2
  go_end0
  exact ⟨rfl, rfl⟩
theorem lower_any (b o : Nat) (n s : Int) (w : World) (hn : inR n) (hs : inR s) (hc : w.cell? ⟨b, o, none⟩ = some (.int .i64 n)) (hf : w.frozen? ⟨b, o, none⟩ = false) :
    Calls Try.prog 47 #[.pointer (some ⟨b, o, none⟩), .int .i64 s] w fun e w' => e = .returned (.tuple #[]) ∧ w' = w.setCell ⟨b, o, none⟩ (.int .i64 (downZ n s)) := by
  have c := gdown_any n s w hn hs
  generalize downZ n s = z at *
  go_enter Try.func47, Try.ntmps47
  go_wp2_with fail
  refine c.mono ?_
  rintro e w1 ⟨rfl, rfl⟩
  go_wp2
  go_end0
  exact ⟨rfl, rfl⟩
end Go.Proofs.Ytllpimhjpfkgpaa
