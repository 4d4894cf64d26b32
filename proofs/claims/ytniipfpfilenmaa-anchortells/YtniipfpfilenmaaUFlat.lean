/- A slice of floats that came in. -/
import Derived.Test.YtniipfpfilenmaaUHi
import Derived.Test.YtniipfpfilenmaaFLeaf
import Derived.ProofKit
import Derived.OpenShut
namespace Go.Proofs.Ytniipfpfilenmaa
open Go.RowKit
set_option maxRecDepth 20000
set_option linter.unusedVariables false
set_option linter.unusedSimpArgs false

theorem wfR12 {a : Int} (h : (Lit.int .i64 a).wf = true) : inR a := by
  simp [Lit.wf, IntKind.min, IntKind.max, IntKind.signed, IntKind.bits] at h
  exact h
theorem IsFlat.urow {w : World} {a : Option Addr} {len cap : Nat} (h : IsFlat Try.prog [3, 38, 3] w a len cap) : ∃ l : List F3, l.length = len ∧ len ≤ cap ∧ cap ≤ maxLen ∧ URow w a l := by
  rcases h with ⟨rfl, rfl, hc⟩ | ⟨ad, rfl, hl, hm, hall⟩
  · exact ⟨[], rfl, by omega, by rw [hc]; exact Nat.zero_le _, fun k hk => absurd hk (by simp)⟩
  · by_cases hz : len = 0
    · subst hz
      exact ⟨[], rfl, hl, hm, fun k hk => absurd hk (by simp)⟩
    obtain ⟨b, off, spot⟩ := ad
    have hs : spot = none := by
      obtain ⟨cs, hlen, hc, _⟩ := hall 0 (by omega)
      match cs, hlen with
      | [c0, c1, c2], _ =>
        have g0 := hc 0 _ rfl
        simpa [Addr.add] using World.cell?_spot g0
    subst hs
    have each : ∀ i, ∃ t : F3, i < len → inF t ∧ ∃ b' off', some (⟨b, off, none⟩ : Addr) = some ⟨b', off', none⟩ ∧ b' < w.heap.size ∧ w.cell? ⟨b', off' + i * 3, none⟩ = some (.int .i64 t.c) ∧ w.cell? ⟨b', off' + i * 3 + 1, none⟩ = some (.int .i64 t.h) ∧ w.cell? ⟨b', off' + i * 3 + 2, none⟩ = some (.int .i64 t.p) := by
      intro i
      by_cases hi : i < len
      · obtain ⟨cs, hlen, hc, hk⟩ := hall i hi
        match cs, hlen with
        | [c0, c1, c2], _ =>
          obtain ⟨z0, rfl, w0⟩ := (hk 0 3 c0 rfl rfl).1 .i64 Try.underlying3
          obtain ⟨z1, rfl, w1⟩ := (hk 1 38 c1 rfl rfl).1 .i64 Try.underlying38
          obtain ⟨z2, rfl, w2⟩ := (hk 2 3 c2 rfl rfl).1 .i64 Try.underlying3
          have g0 := hc 0 _ rfl
          have g1 := hc 1 _ rfl
          have g2 := hc 2 _ rfl
          simp only [Go.WideShapes.add_plain, List.length_cons, List.length_nil, Nat.add_zero, ← Nat.add_assoc] at g0 g1 g2
          exact ⟨⟨z0, z1, z2⟩, fun _ => ⟨⟨wfR12 w0, wfR12 w1, wfR12 w2⟩, b, off, rfl, World.block_lt_of_cell? _ _ g0, g0, g1, g2⟩⟩
      · exact ⟨zeroF, fun h => absurd h hi⟩
    obtain ⟨f, hf⟩ := Classical.axiomOfChoice each
    refine ⟨(List.range len).map f, by simp, hl, hm, fun k hk => ?_⟩
    have hk' : k < len := by simpa using hk
    have eg : ((List.range len).map f).getD k zeroF = f k := by simp [hk']
    rw [eg]
    exact hf k hk'
end Go.Proofs.Ytniipfpfilenmaa
