/- More contracts of the document's answers (package tympanref01), and of 'awake', over the cut of stage 1. More contracts of the document's answers (package tympanref01): Up, Down; and of 'awake', over the cut of stage 1. -/
import Derived.Test.YthcgncgnbjhniaaGreatRe
namespace Go.Proofs.YthcgncgnbjhniaaGreat
open Go.RowKit
set_option linter.unusedVariables false

/-- How far a number is from 0. -/
def sz (n : Int) : Int := if n < 0 then -n else n
theorem div_lt {t s x : Int} (hs : 0 < s) : (t / s < x) ↔ t < x * s := Int.ediv_lt_iff_lt_mul hs
/-- The product's size, by the signs. -/
theorem sz_hi (a n : Int) (h : decide (a < 0) = decide (n < 0)) : sz a * sz n = a * n := by
  unfold sz
  by_cases h1 : a < 0 <;> by_cases h2 : n < 0 <;> simp [h1, h2, Int.neg_mul_neg] at h ⊢
theorem sz_lo (a n : Int) (h : decide (a < 0) ≠ decide (n < 0)) : sz a * sz n = -(a * n) := by
  unfold sz
  by_cases h1 : a < 0 <;> by_cases h2 : n < 0 <;> simp [h1, h2, Int.neg_mul, Int.mul_neg] at h ⊢
theorem sz_bd (n : Int) (hn : inR n) (h0 : n ≠ 0) : 1 ≤ sz n ∧ sz n ≤ 9223372036854775808 := by
  unfold inR at hn; unfold sz; split <;> omega

end Go.Proofs.YthcgncgnbjhniaaGreat
namespace Go.Proofs.YthcgncgnbjhniaaGreat
open Go.RowKit
set_option linter.unusedVariables false

/-- Behind a callee that turned nothing old: the two cells of a result's own block. -/
theorem res_cells {w w1 : World} {u v : Value} {T : TypeId} (hb : Below (w.alloc (.cells #[u, v] T)).heap.size (w.alloc (.cells #[u, v] T)) w1) :
    w1.cell? ⟨w.heap.size, 0, none⟩ = some u ∧ w1.cell? ⟨w.heap.size, 1, none⟩ = some v ∧ w1.frozen? ⟨w.heap.size, 0, none⟩ = false ∧ w1.frozen? ⟨w.heap.size, 1, none⟩ = false :=
  ⟨(hb.cell (p := ⟨w.heap.size, 0, none⟩) (by simp)).trans (by simp), (hb.cell (p := ⟨w.heap.size, 1, none⟩) (by simp)).trans (by simp),
   (hb.frozen (p := ⟨w.heap.size, 0, none⟩) (by simp)).trans (by simp), (hb.frozen (p := ⟨w.heap.size, 1, none⟩) (by simp)).trans (by simp)⟩
theorem res_below {w w1 : World} {u v x y : Value} {T : TypeId} (hb : Below (w.alloc (.cells #[u, v] T)).heap.size (w.alloc (.cells #[u, v] T)) w1) :
    Below w.heap.size w ((w1.setCell ⟨w.heap.size, 0, none⟩ x).setCell ⟨w.heap.size, 1, none⟩ y) :=
  ((((Below.refl _ w).alloc (Nat.le_refl _) _).trans (hb.mono (by simp))).setCell (p := ⟨w.heap.size, 0, none⟩) (Nat.le_refl _) _).setCell (p := ⟨w.heap.size, 1, none⟩) (Nat.le_refl _) _

theorem rup_none (a s : Int) (w : World) (h1 : s < 1) :
    Calls Tryz.prog 61 #[.int .i64 a, .int .i64 s] w fun e w' => e = .returned (.agg #[.int .i64 0, .bool false]) ∧ Below w.heap.size w w' := by
  go_enter Tryz.func61, Tryz.ntmps61
  go_wp2
  exact bodyPost_ret (v := .agg #[.int .i64 0, .bool false]) (by simp [results, Tryz.results61, go_sem]) rfl ⟨rfl, (Below.refl _ _).alloc (Nat.le_refl _) _⟩


theorem rup_zeroA (a s : Int) (w : World) (ha : inR a) (hs : inR s) (h1 : ¬ s < 1) (q : 0 ≤ a) (hb : 0 ≤ a % s ∧ a % s < s) (h3 : (a % s == 0) = true) :
    Calls Tryz.prog 61 #[.int .i64 a, .int .i64 s] w fun e w' => e = .returned (.agg #[.int .i64 a, .bool true]) ∧ Below w.heap.size w w' := by
  have hd := over_bd a s (by omega)
  have hs' := hs
  unfold inR at hs'
  go_enter Tryz.func61, Tryz.ntmps61
  go_wp2
  exact bodyPost_ret (v := .agg #[.int .i64 a, .bool true]) (by simp [results, Tryz.results61, go_sem]) rfl ⟨rfl, (Below.refl _ _).alloc (Nat.le_refl _) _⟩
theorem rup_someA (a s : Int) (w : World) (ha : inR a) (hs : inR s) (h1 : ¬ s < 1) (q : 0 ≤ a) (hb : 0 ≤ a % s ∧ a % s < s) (h3 : (a % s == 0) = false) :
    Calls Tryz.prog 61 #[.int .i64 a, .int .i64 s] w fun e w' => e = .returned (pair (addR a (s - (a % s)))) ∧ Below w.heap.size w w' := by
  have h4 : inR (s - (a % s)) := by unfold inR at *; generalize a % s = t at *; omega
  have hd := over_bd a s (by omega)
  have hs' := hs
  unfold inR at hs'
  go_enter Tryz.func61, Tryz.ntmps61
  go_wp2_with (go_at_call 88; refine (radd_any _ _ _ ha h4).mono ?_; rintro e w1 ⟨rfl, hb1⟩; obtain ⟨c0, c1, f0, f1⟩ := res_cells hb1; unfold pair)
  exact bodyPost_ret (v := pair (addR a (s - (a % s)))) (by simp [results, Tryz.results61, go_sem, pair, *]) rfl ⟨rfl, res_below hb1⟩
theorem rdown_someA (a s : Int) (w : World) (ha : inR a) (hs : inR s) (h1 : ¬ s < 1) (q : 0 ≤ a) (hb : 0 ≤ a % s ∧ a % s < s) :
    Calls Tryz.prog 60 #[.int .i64 a, .int .i64 s] w fun e w' => e = .returned (pair (subR a (a % s))) ∧ Below w.heap.size w w' := by
  have h4 : inR (a % s) := by unfold inR at *; generalize a % s = t at *; omega
  have hd := over_bd a s (by omega)
  have hs' := hs
  unfold inR at hs'
  go_enter Tryz.func60, Tryz.ntmps60
  go_wp2_with (go_at_call 87; refine (rsub_any _ _ _ ha h4).mono ?_; rintro e w1 ⟨rfl, hb1⟩; obtain ⟨c0, c1, f0, f1⟩ := res_cells hb1; unfold pair)
  exact bodyPost_ret (v := pair (subR a (a % s))) (by simp [results, Tryz.results60, go_sem, pair, *]) rfl ⟨rfl, res_below hb1⟩

theorem rup_zeroB (a s : Int) (w : World) (ha : inR a) (hs : inR s) (h1 : ¬ s < 1) (q : ¬ 0 ≤ a) (q' : 0 ≤ a.tmod s) (hb : 0 ≤ a.tmod s ∧ a.tmod s < s) (h3 : (a.tmod s == 0) = true) :
    Calls Tryz.prog 61 #[.int .i64 a, .int .i64 s] w fun e w' => e = .returned (.agg #[.int .i64 a, .bool true]) ∧ Below w.heap.size w w' := by
  have hd := over_bd a s (by omega)
  have hs' := hs
  unfold inR at hs'
  go_enter Tryz.func61, Tryz.ntmps61
  go_wp2
  exact bodyPost_ret (v := .agg #[.int .i64 a, .bool true]) (by simp [results, Tryz.results61, go_sem]) rfl ⟨rfl, (Below.refl _ _).alloc (Nat.le_refl _) _⟩
theorem rup_someB (a s : Int) (w : World) (ha : inR a) (hs : inR s) (h1 : ¬ s < 1) (q : ¬ 0 ≤ a) (q' : 0 ≤ a.tmod s) (hb : 0 ≤ a.tmod s ∧ a.tmod s < s) (h3 : (a.tmod s == 0) = false) :
    Calls Tryz.prog 61 #[.int .i64 a, .int .i64 s] w fun e w' => e = .returned (pair (addR a (s - (a.tmod s)))) ∧ Below w.heap.size w w' := by
  have h4 : inR (s - (a.tmod s)) := by unfold inR at *; generalize a.tmod s = t at *; omega
  have hd := over_bd a s (by omega)
  have hs' := hs
  unfold inR at hs'
  go_enter Tryz.func61, Tryz.ntmps61
  go_wp2_with (go_at_call 88; refine (radd_any _ _ _ ha h4).mono ?_; rintro e w1 ⟨rfl, hb1⟩; obtain ⟨c0, c1, f0, f1⟩ := res_cells hb1; unfold pair)
  exact bodyPost_ret (v := pair (addR a (s - (a.tmod s)))) (by simp [results, Tryz.results61, go_sem, pair, *]) rfl ⟨rfl, res_below hb1⟩
theorem rdown_someB (a s : Int) (w : World) (ha : inR a) (hs : inR s) (h1 : ¬ s < 1) (q : ¬ 0 ≤ a) (q' : 0 ≤ a.tmod s) (hb : 0 ≤ a.tmod s ∧ a.tmod s < s) :
    Calls Tryz.prog 60 #[.int .i64 a, .int .i64 s] w fun e w' => e = .returned (pair (subR a (a.tmod s))) ∧ Below w.heap.size w w' := by
  have h4 : inR (a.tmod s) := by unfold inR at *; generalize a.tmod s = t at *; omega
  have hd := over_bd a s (by omega)
  have hs' := hs
  unfold inR at hs'
  go_enter Tryz.func60, Tryz.ntmps60
  go_wp2_with (go_at_call 87; refine (rsub_any _ _ _ ha h4).mono ?_; rintro e w1 ⟨rfl, hb1⟩; obtain ⟨c0, c1, f0, f1⟩ := res_cells hb1; unfold pair)
  exact bodyPost_ret (v := pair (subR a (a.tmod s))) (by simp [results, Tryz.results60, go_sem, pair, *]) rfl ⟨rfl, res_below hb1⟩

theorem rup_zeroC (a s : Int) (w : World) (ha : inR a) (hs : inR s) (h1 : ¬ s < 1) (q' : a.tmod s < 0) (hb : 0 ≤ a.tmod s + s ∧ a.tmod s + s < s) (h3 : (a.tmod s + s == 0) = true) :
    Calls Tryz.prog 61 #[.int .i64 a, .int .i64 s] w fun e w' => e = .returned (.agg #[.int .i64 a, .bool true]) ∧ Below w.heap.size w w' := by
  have hd := over_bd a s (by omega)
  have hs' := hs
  unfold inR at hs'
  go_enter Tryz.func61, Tryz.ntmps61
  go_wp2
  exact bodyPost_ret (v := .agg #[.int .i64 a, .bool true]) (by simp [results, Tryz.results61, go_sem]) rfl ⟨rfl, (Below.refl _ _).alloc (Nat.le_refl _) _⟩
theorem rup_someC (a s : Int) (w : World) (ha : inR a) (hs : inR s) (h1 : ¬ s < 1) (q' : a.tmod s < 0) (hb : 0 ≤ a.tmod s + s ∧ a.tmod s + s < s) (h3 : (a.tmod s + s == 0) = false) :
    Calls Tryz.prog 61 #[.int .i64 a, .int .i64 s] w fun e w' => e = .returned (pair (addR a (s - (a.tmod s + s)))) ∧ Below w.heap.size w w' := by
  have h4 : inR (s - (a.tmod s + s)) := by unfold inR at *; generalize a.tmod s + s = t at *; omega
  have hd := over_bd a s (by omega)
  have hs' := hs
  unfold inR at hs'
  go_enter Tryz.func61, Tryz.ntmps61
  go_wp2_with (go_at_call 88; refine (radd_any _ _ _ ha h4).mono ?_; rintro e w1 ⟨rfl, hb1⟩; obtain ⟨c0, c1, f0, f1⟩ := res_cells hb1; unfold pair)
  exact bodyPost_ret (v := pair (addR a (s - (a.tmod s + s)))) (by simp [results, Tryz.results61, go_sem, pair, *]) rfl ⟨rfl, res_below hb1⟩
theorem rdown_someC (a s : Int) (w : World) (ha : inR a) (hs : inR s) (h1 : ¬ s < 1) (q' : a.tmod s < 0) (hb : 0 ≤ a.tmod s + s ∧ a.tmod s + s < s) :
    Calls Tryz.prog 60 #[.int .i64 a, .int .i64 s] w fun e w' => e = .returned (pair (subR a (a.tmod s + s))) ∧ Below w.heap.size w w' := by
  have h4 : inR (a.tmod s + s) := by unfold inR at *; generalize a.tmod s + s = t at *; omega
  have hd := over_bd a s (by omega)
  have hs' := hs
  unfold inR at hs'
  go_enter Tryz.func60, Tryz.ntmps60
  go_wp2_with (go_at_call 87; refine (rsub_any _ _ _ ha h4).mono ?_; rintro e w1 ⟨rfl, hb1⟩; obtain ⟨c0, c1, f0, f1⟩ := res_cells hb1; unfold pair)
  exact bodyPost_ret (v := pair (subR a (a.tmod s + s))) (by simp [results, Tryz.results60, go_sem, pair, *]) rfl ⟨rfl, res_below hb1⟩

theorem rdown_none (a s : Int) (w : World) (h1 : s < 1) :
    Calls Tryz.prog 60 #[.int .i64 a, .int .i64 s] w fun e w' => e = .returned (.agg #[.int .i64 0, .bool false]) ∧ Below w.heap.size w w' := by
  go_enter Tryz.func60, Tryz.ntmps60
  go_wp2
  exact bodyPost_ret (v := .agg #[.int .i64 0, .bool false]) (by simp [results, Tryz.results60, go_sem]) rfl ⟨rfl, (Below.refl _ _).alloc (Nat.le_refl _) _⟩

theorem rup_any (a s : Int) (w : World) (ha : inR a) (hs : inR s) :
    Calls Tryz.prog 61 #[.int .i64 a, .int .i64 s] w fun e w' => e = .returned (pair (upR a s)) ∧ Below w.heap.size w w' := by
  by_cases h1 : s < 1
  · rw [upR, if_pos h1]; exact rup_none a s w h1
  · rw [upR, if_neg h1]
    have hb := emod_bd a s (by omega)
    by_cases q : 0 ≤ a
    · split
      · rename_i h; exact rup_zeroA a s w ha hs h1 q hb (by simpa using h)
      · rename_i h; exact rup_someA a s w ha hs h1 q hb (by simpa using h)
    · by_cases q' : 0 ≤ a.tmod s
      · rw [← over_pos a s (by omega) q'] at hb ⊢
        split
        · rename_i h; exact rup_zeroB a s w ha hs h1 q q' hb (by rw [h]; rfl)
        · rename_i h; exact rup_someB a s w ha hs h1 q q' hb (by simpa using h)
      · rw [← over_neg a s (by omega) (by omega)] at hb ⊢
        split
        · rename_i h; exact rup_zeroC a s w ha hs h1 (by omega) hb (by rw [h]; rfl)
        · rename_i h; exact rup_someC a s w ha hs h1 (by omega) hb (by simpa using h)
theorem rdown_any (a s : Int) (w : World) (ha : inR a) (hs : inR s) :
    Calls Tryz.prog 60 #[.int .i64 a, .int .i64 s] w fun e w' => e = .returned (pair (downR a s)) ∧ Below w.heap.size w w' := by
  by_cases h1 : s < 1
  · rw [downR, if_pos h1]; exact rdown_none a s w h1
  · rw [downR, if_neg h1]
    have hb := emod_bd a s (by omega)
    by_cases q : 0 ≤ a
    · exact rdown_someA a s w ha hs h1 q hb
    · by_cases q' : 0 ≤ a.tmod s
      · rw [← over_pos a s (by omega) q'] at hb ⊢
        exact rdown_someB a s w ha hs h1 q q' hb
      · rw [← over_neg a s (by omega) (by omega)] at hb ⊢
        exact rdown_someC a s w ha hs h1 (by omega) hb

theorem upR_awake : upR (-7) 5 = (-5, true) := by decide
theorem mulR_awake : mulR 1099511627776 1073741824 = (0, false) := by decide
end Go.Proofs.YthcgncgnbjhniaaGreat
