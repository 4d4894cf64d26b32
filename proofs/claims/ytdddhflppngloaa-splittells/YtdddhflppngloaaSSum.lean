/- The walks of Sum (sp and the document's), at slices that may be nil, over the cut of stage 8. -/
import Derived.Test.YtdddhflppngloaaRe
import Derived.StillTailTactics
import Derived.LoopTactic
import Derived.Lib.Hide
import Derived.Outline
namespace Go.Proofs.Ytdddhflppngloaa
open Go.RowKit
set_option maxRecDepth 20000
set_option linter.unusedVariables false

/-- Two cells of a block. -/
def SCel (w : World) (b : Nat) (u v : Value) : Prop :=
  w.cell? ⟨b, 0, none⟩ = some u ∧ w.cell? ⟨b, 1, none⟩ = some v ∧ w.frozen? ⟨b, 0, none⟩ = false ∧ w.frozen? ⟨b, 1, none⟩ = false
theorem SCel.carry {w w' : World} {b B : Nat} {u v : Value} (h : SCel w b u v) (hb : Below B w w') (hB : b < B) : SCel w' b u v := by
  obtain ⟨h0, h1, f0, f1⟩ := h
  exact ⟨(hb.cell (p := ⟨b, 0, none⟩) hB).trans h0, (hb.cell (p := ⟨b, 1, none⟩) hB).trans h1, (hb.frozen (p := ⟨b, 0, none⟩) hB).trans f0, (hb.frozen (p := ⟨b, 1, none⟩) hB).trans f1⟩
theorem scel_set {w : World} {b : Nat} {u v : Value} (h : SCel w b u v) (x y : Value) :
    SCel ((w.setCell ⟨b, 0, none⟩ x).setCell ⟨b, 1, none⟩ y) b x y := by
  obtain ⟨h0, h1, f0, f1⟩ := h
  refine ⟨?_, ?_, ?_, ?_⟩ <;> simp [go_sem, *]

/-- The numbers l, of 64 bits each, lie where a slice says, in a block below B; the slice may be nil where there are none. -/
def IRow (B : Nat) (w : World) (a : Option Addr) (l : List Int) : Prop :=
  ∀ k, k < l.length → inR (l.getD k 0) ∧ ∃ b off, a = some ⟨b, off, none⟩ ∧ b < B ∧ w.cell? ⟨b, off + k, none⟩ = some (.int .i64 (l.getD k 0))
theorem IRow.carry {B B' : Nat} {w w' : World} {a : Option Addr} {l : List Int} (h : IRow B w a l) (hb : Below B' w w') (hB : B ≤ B') : IRow B w' a l := fun k hk => by
  obtain ⟨h0, b, off, h1, h2, h3⟩ := h k hk
  exact ⟨h0, b, off, h1, h2, (hb.cell (p := ⟨b, off + k, none⟩) (by simp; omega)).trans h3⟩
theorem IRow.mono {B B' : Nat} {w : World} {a : Option Addr} {l : List Int} (h : IRow B w a l) (hB : B ≤ B') : IRow B' w a l := fun k hk => by
  obtain ⟨h0, b, off, h1, h2, h3⟩ := h k hk
  exact ⟨h0, b, off, h1, by omega, h3⟩
theorem take_getD {l : List Int} {n k : Nat} (h : k < (l.take n).length) : (l.take n).getD k 0 = l.getD k 0 := by
  rw [List.length_take] at h
  rw [List.getD_eq_getElem?_getD, List.getD_eq_getElem?_getD, List.getElem?_take_of_lt (by omega)]
theorem IRow.take {B : Nat} {w : World} {a : Option Addr} {l : List Int} (h : IRow B w a l) (n : Nat) : IRow B w a (l.take n) := fun k hk => by
  rw [take_getD hk]
  exact h k (by rw [List.length_take] at hk; omega)

def total (l : List Int) : Int × Bool := l.foldl stepA (0, true)
theorem fold_false (l : List Int) (x : Int × Bool) (h : x.2 = false) : l.foldl stepA x = x := by
  induction l with
  | nil => rfl
  | cons a r ih => rw [List.foldl_cons, stepA, if_neg (by simp [h]), ih]
theorem total_snoc (l : List Int) (k : Nat) (h : k < l.length) : total (l.take (k + 1)) = stepA (total (l.take k)) (l.getD k 0) := by
  unfold total
  rw [List.take_succ_eq_append_getElem h, List.foldl_append]
  simp [h]
theorem total_stop (l : List Int) (k : Nat) (h : (total (l.take k)).2 = false) : total l = total (l.take k) := by
  conv => lhs; rw [← List.take_append_drop k l]
  unfold total at *
  rw [List.foldl_append, fold_false _ _ h]
theorem tidy_fold (l : List Int) : ∀ x, tidy x → tidy (l.foldl stepA x) := by
  induction l with
  | nil => exact fun _ h => h
  | cons a r ih => exact fun x h => ih _ (tidy_stepA h a)
theorem total_tidy (l : List Int) : tidy (total l) := tidy_fold l _ tidy_zero

/-- 'l[:n]' of a slice, nil or not. -/
theorem icut_to (a : Option Addr) (n cap : Nat) (i : Nat) (hi : i ≤ cap) (hc : cap ≤ maxLen) :
    ∀ x, Sem.run Try.prog (Instr.slice 39 (.slice a n cap) none (some (.int .i64 i)) none) x = .ok (.slice a i cap) x := by
  intro x
  rw [run_slice_h _ 39 a n cap Try.underlying39 .i64 i (by omega) (by omega)]
  have e : Sem.run Try.prog (sizeOf (Try.prog.elem 39)) x = .ok 1 x := by kernel_rfl
  rw [e]
  simp [Result.andThen, sliced]
  intro _
  cases a <;> simp [Addr.add]
end Go.Proofs.Ytdddhflppngloaa
