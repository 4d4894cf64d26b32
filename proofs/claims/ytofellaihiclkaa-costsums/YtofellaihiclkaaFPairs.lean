/- What a law's walk is told of a slice of structs of two integers that came in. Nothing of a program is in it. -/
import Derived.Deep.SlicePairs
import Derived.WalkKit
import Derived.OpenShut
namespace Go.Proofs.Ytofellaihiclkaa
open Go.RowKit

def IsPairs (k0 k1 : IntKind) (w : World) (a : Option Addr) (len cap : Nat) (zs : List (Int × Int)) : Prop :=
  (a = none ∧ len = 0 ∧ cap = 0 ∧ zs = []) ∨
  ∃ x, a = some x ∧ len ≤ cap ∧ cap ≤ maxLen ∧ zs.length = len ∧ ∀ i, i < len →
    w.cell? (x.add (i * 2)) = some (.int k0 (zs.getD i (0, 0)).1) ∧ w.cell? (x.add (i * 2 + 1)) = some (.int k1 (zs.getD i (0, 0)).2) ∧ (Lit.int k0 (zs.getD i (0, 0)).1).wf = true ∧ (Lit.int k1 (zs.getD i (0, 0)).2).wf = true
theorem pairs_of {H : Type} {enc : TypeId × Value → H} {P : Program} {w : World} {base : Nat} {spare : Nat → Bool} {held : Bool} {t e : TypeId} {f0 f1 : Field} {k0 k1 : IntKind} {fuel len cap : Nat} {a : Option Addr} {x : DataW H × List MemPlace}
    (ht : P.underlying t = some (.slice e)) (he : P.underlying e = some (.struct #[f0, f1])) (ce : P.cellsOf e = 2) (o0 : f0.offset = 0) (o1 : f1.offset = 1) (c0 : P.cellsOf f0.type = 1) (c1 : P.cellsOf f1.type = 1)
    (u0 : P.underlying f0.type = some (.int k0)) (u1 : P.underlying f1.type = some (.int k1)) (h : DataW.trod enc P w base spare held fuel t [.slice a len cap] = some x) : ∃ zs, IsPairs k0 k1 w a len cap zs := by
  rcases Go.Deep.open_slice_pairs ht he ce o0 o1 c0 c1 h with ⟨hcs, _⟩ | ⟨y, l, c, m, n, V0, V1, D0, D1, P0, P1, hcs, _, hl, hm, hmm, _, hall⟩
  · simp at hcs
    obtain ⟨rfl, rfl, rfl⟩ := hcs
    exact ⟨[], .inl ⟨rfl, rfl, rfl, rfl⟩⟩
  · simp at hcs
    obtain ⟨rfl, rfl, rfl⟩ := hcs
    have each : ∀ i, ∃ z : Int × Int, i < len → w.cell? (y.add (i * 2)) = some (.int k0 z.1) ∧ w.cell? (y.add (i * 2 + 1)) = some (.int k1 z.2) ∧ (Lit.int k0 z.1).wf = true ∧ (Lit.int k1 z.2).wf = true := by
      intro i
      by_cases hi : i < len
      · obtain ⟨g0, g1, t0, t1⟩ := hall i (by rw [hmm]; split <;> omega)
        obtain ⟨z0, e0, _, w0⟩ := DataW.trod_int u0 t0
        obtain ⟨z1, e1, _, w1⟩ := DataW.trod_int u1 t1
        have e0' : V0 i = .int k0 z0 := by simpa using e0
        have e1' : V1 i = .int k1 z1 := by simpa using e1
        rw [e0'] at g0
        rw [e1'] at g1
        exact ⟨(z0, z1), fun _ => ⟨g0, g1, w0, w1⟩⟩
      · exact ⟨(0, 0), fun h => absurd h hi⟩
    obtain ⟨f, hf⟩ := Classical.axiomOfChoice each
    refine ⟨(List.range len).map f, .inr ⟨y, rfl, hl, hm, by simp, fun i hi => ?_⟩⟩
    have eg : ((List.range len).map f).getD i (0, 0) = f i := by simp [hi]
    rw [eg]
    exact hf i hi
end Go.Proofs.Ytofellaihiclkaa
