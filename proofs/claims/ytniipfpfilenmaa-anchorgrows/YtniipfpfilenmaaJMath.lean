/- Plain mathematics for stage 14: jobs, and their lengths brought to a grid, over Lean's integers. -/
import Derived.Test.YtniipfpfilenmaaEMath
import Derived.Test.YtniipfpfilenmaaIIs
import Derived.Test.YtniipfpfilenmaaUHi
namespace Go.Proofs.Ytniipfpfilenmaa
open Go.RowKit
set_option maxRecDepth 20000
set_option linter.unusedVariables false

/-- Is it so? -/
noncomputable def isB (p : Prop) : Bool := @decide p (Classical.propDecidable p)
theorem isB_yes {p : Prop} (h : p) : isB p = true := by unfold isB; exact @decide_eq_true p (Classical.propDecidable p) h
theorem isB_no {p : Prop} (h : ¬ p) : isB p = false := by unfold isB; exact @decide_eq_false p (Classical.propDecidable p) h
theorem isB_iff {p : Prop} : isB p = true ↔ p := by unfold isB; exact @decide_eq_true_iff p (Classical.propDecidable p)
theorem isB_congr {p q : Prop} (h : p ↔ q) : isB p = isB q := by rw [show p = q from propext h]
theorem isB_bool {p : Prop} {b : Bool} (h : p ↔ b = true) : isB p = b := by
  cases b
  · exact isB_no (fun hp => by have := h.1 hp; cases this)
  · exact isB_yes (h.2 rfl)
/-- A note. -/
structure N2 where
  l : List Int
  p : List Int
def zeroN : N2 := ⟨[], []⟩
/-- A job. -/
structure J4 where
  g : G19
  items : List I7
  notes : List N2
  floats : List F3
def zeroI : I7 := ⟨0, 0, 0, 0, 0, 0, 0⟩
/-- A length brought to a step. -/
def upZ (n s : Int) : Int := bif (upR n s).2 then (upR n s).1 else n
def downZ (n s : Int) : Int := bif (downR n s).2 then (downR n s).1 else n
def nearZ (n s : Int) : Int := if s < 1 then n else if n % s < s - n % s then downZ n s else upZ n s
theorem upZ_in {n s : Int} (h : inR n) : inR (upZ n s) := by
  unfold upZ
  cases (upR n s).2
  · exact h
  · exact upR_in n s h
theorem downZ_in {n s : Int} (h : inR n) : inR (downZ n s) := by
  unfold downZ
  cases (downR n s).2
  · exact h
  · exact downR_in n s
theorem nearZ_in {n s : Int} (h : inR n) : inR (nearZ n s) := by
  unfold nearZ
  split
  · exact h
  · split
    · exact downZ_in h
    · exact upZ_in h
/-- A geometry, an item, a note, a float and a job on their grid. -/
def snapG (g : G19) (s : Int) : G19 := { g with high := downZ g.high s, first := downZ g.first s, rule := upZ g.rule s, sep := upZ g.sep s }
def snapI (s : Int) (x : I7) : I7 := if x.k = 1 then { x with h := upZ x.h s } else if x.k = 2 then { x with h := nearZ x.h s, s := 0, o := 0, r := 0 } else x
def snapN (s : Int) (n : N2) : N2 := ⟨n.l.map fun x => upZ x s, n.p⟩
def snapF (s : Int) (f : F3) : F3 := { f with h := upZ f.h s }
def snapJ (j : J4) : J4 := if j.g.grid < 1 then j else ⟨snapG j.g j.g.grid, j.items.map (snapI j.g.grid), j.notes.map (snapN j.g.grid), j.floats.map (snapF j.g.grid)⟩
/-- Is a length off the grid? -/
def offZ (s h : Int) : Bool := decide (¬ h % s = 0)
def offI (s : Int) (x : I7) : Bool := if x.k = 1 then offZ s x.h else if x.k = 2 then (offZ s x.h || decide (¬ x.s = 0) || decide (¬ x.o = 0) || decide (¬ x.r = 0)) else false
def offN (s : Int) (n : N2) : Bool := n.l.any (offZ s)
def offF (s : Int) (f : F3) : Bool := offZ s f.h
def onJ (j : J4) : Bool := decide (j.g.grid < 1) || !(offZ j.g.grid j.g.high || offZ j.g.grid j.g.first || offZ j.g.grid j.g.rule || offZ j.g.grid j.g.sep || j.items.any (offI j.g.grid) || j.notes.any (offN j.g.grid) || j.floats.any (offF j.g.grid))
/-- Are they equal? -/
noncomputable def sameJ (a b : J4) : Bool := isB (a.g = b.g) && isB (a.items = b.items) && isB (a.notes = b.notes) && isB (a.floats = b.floats)
theorem sameJ_refl (a : J4) : sameJ a a = true := by unfold sameJ; simp [isB_yes]
/-- Lengths from 0 to the greatest one. -/
def fairZ (h : Int) : Bool := decide (0 ≤ h) && decide (h ≤ 1073741823)
def lensJ (j : J4) : List Int := [j.g.grid, j.g.high, j.g.first, j.g.rule, j.g.sep] ++ j.items.map (·.h) ++ (j.notes.map (·.l)).flatten ++ j.floats.map (·.h)
def fairJ (j : J4) : Bool := (lensJ j).all fairZ

/-! ### Once is enough -/
theorem upR_pos {n s : Int} (hs : 1 ≤ s) (hs' : s ≤ 1073741823) (h0 : 0 ≤ n) (h1 : n ≤ 4611686018427387904) : ∃ m, upR n s = (m, true) ∧ m % s = 0 ∧ 0 ≤ m := by
  have hb := emod_bd n s hs
  unfold upR
  rw [if_neg (by omega)]
  by_cases h : n % s = 0
  · rw [if_pos h]; exact ⟨n, rfl, h, h0⟩
  · rw [if_neg h]
    refine ⟨n + (s - n % s), ?_, ?_, by omega⟩
    · unfold addR; rw [fit_pos (by unfold inR; omega)]
    · have := Int.mul_ediv_add_emod n s
      rw [show n + (s - n % s) = s + s * (n / s) by omega, Int.add_mul_emod_self_left, Int.emod_self]
theorem upZ_fix {n s : Int} (h : n % s = 0) (hs : 1 ≤ s) : upZ n s = n := by
  unfold upZ upR
  rw [if_neg (by omega), if_pos h]
  rfl
theorem downZ_fix {n s : Int} (h : n % s = 0) (hs : 1 ≤ s) (hn : inR n) : downZ n s = n := by
  unfold downZ downR subR
  rw [if_neg (by omega), h, Int.sub_zero, fit_pos hn]
  rfl
theorem nearZ_fix {n s : Int} (h : n % s = 0) (hs : 1 ≤ s) (hn : inR n) : nearZ n s = n := by
  unfold nearZ
  rw [if_neg (by omega), h, if_pos (by omega)]
  exact downZ_fix h hs hn
theorem downR_pos {n s : Int} (hs : 1 ≤ s) (hn : inR n) (h0 : 0 ≤ n) : ∃ m, downR n s = (m, true) ∧ m % s = 0 ∧ 0 ≤ m ∧ m ≤ n := by
  have hb := emod_bd n s hs
  have hle : n % s ≤ n := by
    have h1 := Int.mul_ediv_add_emod n s
    have h2 : 0 ≤ s * (n / s) := Int.mul_nonneg (by omega) (Int.ediv_nonneg h0 (by omega))
    omega
  unfold downR subR
  rw [if_neg (by omega), fit_pos (by unfold inR at *; omega)]
  refine ⟨_, rfl, ?_, by omega, by omega⟩
  have := Int.mul_ediv_add_emod n s
  rw [show n - n % s = s * (n / s) by omega, Int.mul_emod_right]
def fitZ (s n : Int) : Prop := 1 ≤ s ∧ s ≤ 1073741823 ∧ 0 ≤ n ∧ n ≤ 1073741823
theorem upZ_on {n s : Int} (h : fitZ s n) : upZ n s % s = 0 := by
  obtain ⟨a, b, c, d⟩ := h
  obtain ⟨m, e, hm, _⟩ := upR_pos a b c (by omega)
  unfold upZ; rw [e]; exact hm
theorem downZ_on {n s : Int} (h : fitZ s n) : downZ n s % s = 0 := by
  obtain ⟨a, b, c, d⟩ := h
  obtain ⟨m, e, hm, _⟩ := downR_pos a (by unfold inR; omega) c
  unfold downZ; rw [e]; exact hm
theorem downZ_le {n s : Int} (h : fitZ s n) : downZ n s ≤ n := by
  obtain ⟨a, b, c, d⟩ := h
  obtain ⟨m, e, hm, _, hl⟩ := downR_pos a (by unfold inR; omega) c
  unfold downZ; rw [e]; exact hl
theorem nearZ_on {n s : Int} (h : fitZ s n) : nearZ n s % s = 0 := by
  unfold nearZ
  rw [if_neg (by have := h.1; omega)]
  split
  · exact downZ_on h
  · exact upZ_on h
theorem fitZ.in {s n : Int} (h : fitZ s n) : inR n := by obtain ⟨a, b, c, d⟩ := h; unfold inR; omega
theorem fairZ_iff {h : Int} : fairZ h = true ↔ 0 ≤ h ∧ h ≤ 1073741823 := by simp [fairZ]
theorem snapI_on {s : Int} {x : I7} (h : fitZ s x.h) : offI s (snapI s x) = false ∧ snapI s (snapI s x) = snapI s x := by
  unfold snapI offI offZ
  by_cases h1 : x.k = 1
  · simp only [h1, if_true]
    have e := upZ_on h
    exact ⟨by simp [e], by rw [upZ_fix e h.1]⟩
  · by_cases h2 : x.k = 2
    · have e := nearZ_on h
      have e' := nearZ_fix e h.1 (nearZ_in h.in)
      simp [h2, e, e']
    · simp [h1, h2]
theorem snapN_on {s : Int} {n : N2} (h : ∀ x ∈ n.l, fitZ s x) : offN s (snapN s n) = false ∧ snapN s (snapN s n) = snapN s n := by
  unfold snapN offN
  constructor
  · rw [List.any_eq_false]
    intro x hx
    obtain ⟨y, hy, rfl⟩ := List.mem_map.1 hx
    simp [offZ, upZ_on (h y hy)]
  · simp only [List.map_map]
    congr 1
    refine List.map_congr_left fun y hy => ?_
    exact upZ_fix (upZ_on (h y hy)) (h y hy).1
theorem snapF_on {s : Int} {f : F3} (h : fitZ s f.h) : offF s (snapF s f) = false ∧ snapF s (snapF s f) = snapF s f := by
  unfold snapF offF offZ
  have e := upZ_on h
  exact ⟨by simp [e], by simp only; rw [upZ_fix e h.1]⟩
theorem map_fix {α : Type} {f : α → α} {l : List α} (h : ∀ x ∈ l, f (f x) = f x) : (l.map f).map f = l.map f := by
  rw [List.map_map]
  exact List.map_congr_left h
/-- A job whose lengths may be, snapped, is on its grid, and stays as it is. -/
theorem snapJ_stays {j : J4} (h : fairJ j = true) : onJ (snapJ j) = true ∧ snapJ (snapJ j) = snapJ j ∧ (snapJ j).g.high ≤ j.g.high := by
  unfold snapJ
  by_cases hs : j.g.grid < 1
  · simp only [if_pos hs]
    exact ⟨by simp [onJ, hs], trivial, Int.le_refl _⟩
  · simp only [if_neg hs]
    have H : ∀ x ∈ lensJ j, 0 ≤ x ∧ x ≤ 1073741823 := fun x hx => fairZ_iff.1 (List.all_eq_true.1 h x hx)
    have hg := H j.g.grid (by simp [lensJ])
    have F : ∀ x, 0 ≤ x ∧ x ≤ 1073741823 → fitZ j.g.grid x := fun x hx => ⟨by omega, hg.2, hx.1, hx.2⟩
    have f1 := F _ (H j.g.high (by simp [lensJ]))
    have f2 := F _ (H j.g.first (by simp [lensJ]))
    have f3 := F _ (H j.g.rule (by simp [lensJ]))
    have f4 := F _ (H j.g.sep (by simp [lensJ]))
    have fi : ∀ x ∈ j.items, fitZ j.g.grid x.h := fun x hx => F _ (H _ (by simp only [lensJ, List.mem_append, List.mem_map]; exact .inl (.inl (.inr ⟨x, hx, rfl⟩))))
    have fn : ∀ n ∈ j.notes, ∀ x ∈ n.l, fitZ j.g.grid x := fun n hn x hx => F _ (H _ (by simp only [lensJ, List.mem_append, List.mem_flatten]; exact .inl (.inr ⟨_, List.mem_map.2 ⟨n, hn, rfl⟩, hx⟩)))
    have ff : ∀ x ∈ j.floats, fitZ j.g.grid x.h := fun x hx => F _ (H _ (by simp only [lensJ, List.mem_append, List.mem_map]; exact .inr ⟨x, hx, rfl⟩))
    have d1 := downZ_on f1
    have d2 := downZ_on f2
    have u3 := upZ_on f3
    have u4 := upZ_on f4
    refine ⟨?_, ?_, downZ_le f1⟩
    · unfold onJ
      have ei : (j.items.map (snapI j.g.grid)).any (offI j.g.grid) = false := by
        rw [List.any_eq_false]; intro y hy; obtain ⟨x, hx, rfl⟩ := List.mem_map.1 hy; rw [(snapI_on (fi x hx)).1]; simp
      have en : (j.notes.map (snapN j.g.grid)).any (offN j.g.grid) = false := by
        rw [List.any_eq_false]; intro y hy; obtain ⟨x, hx, rfl⟩ := List.mem_map.1 hy; rw [(snapN_on (fn x hx)).1]; simp
      have ef : (j.floats.map (snapF j.g.grid)).any (offF j.g.grid) = false := by
        rw [List.any_eq_false]; intro y hy; obtain ⟨x, hx, rfl⟩ := List.mem_map.1 hy; rw [(snapF_on (ff x hx)).1]; simp
      simp only [show (snapG j.g j.g.grid).grid = j.g.grid from rfl, ei, en, ef]
      simp [snapG, offZ, d1, d2, u3, u4]
    · rw [if_neg (show ¬ (snapG j.g j.g.grid).grid < 1 from hs)]
      simp only [show (snapG j.g j.g.grid).grid = j.g.grid from rfl]
      rw [map_fix fun x hx => (snapI_on (fi x hx)).2, map_fix fun x hx => (snapN_on (fn x hx)).2, map_fix fun x hx => (snapF_on (ff x hx)).2]
      congr 1
      unfold snapG
      simp only
      rw [downZ_fix d1 f1.1 (downZ_in f1.in), downZ_fix d2 f1.1 (downZ_in f2.in), upZ_fix u3 f1.1, upZ_fix u4 f1.1]
end Go.Proofs.Ytniipfpfilenmaa
