/- Items that came in, and one item's cells. -/
import Derived.Test.YtniipfpfilenmaaJItm
import Derived.Test.YtniipfpfilenmaaIOth
import Derived.Test.YtniipfpfilenmaaFLeaf
namespace Go.Proofs.Ytniipfpfilenmaa
open Go.RowKit
set_option maxRecDepth 20000
set_option linter.unusedVariables false
set_option linter.unusedSimpArgs false

theorem below_set7 {B b : Nat} {w x : World} (h : Below B w x) (hb : B ≤ b) (v0 v1 v2 v3 v4 v5 v6 : Value) : Below B w (((((((x.setCell ⟨b, 0, none⟩ v0).setCell ⟨b, 1, none⟩ v1).setCell ⟨b, 2, none⟩ v2).setCell ⟨b, 3, none⟩ v3).setCell ⟨b, 4, none⟩ v4).setCell ⟨b, 5, none⟩ v5).setCell ⟨b, 6, none⟩ v6) :=
  (below_set6 h hb v0 v1 v2 v3 v4 v5).setCell (p := ⟨b, 6, none⟩) hb v6
/-- An item of a list, cell by cell. -/
theorem Els.item {w : World} {a : Option Addr} {l : List I7} {k : Nat} (h : Els 7 encI w a l.length fun k => l.getD k zeroI) (hk : k < l.length) : ∃ b off, a = some ⟨b, off, none⟩ ∧ b < w.heap.size ∧ w.cell? ⟨b, off + k * 7, none⟩ = some (.int .i64 (l.getD k zeroI).k) ∧ w.cell? ⟨b, off + k * 7 + 1, none⟩ = some (.int .i64 (l.getD k zeroI).h) ∧ w.cell? ⟨b, off + k * 7 + 2, none⟩ = some (.int .i64 (l.getD k zeroI).f) ∧ w.cell? ⟨b, off + k * 7 + 3, none⟩ = some (.int .i64 (l.getD k zeroI).s) ∧ w.cell? ⟨b, off + k * 7 + 4, none⟩ = some (.int .i64 (l.getD k zeroI).o) ∧ w.cell? ⟨b, off + k * 7 + 5, none⟩ = some (.int .i64 (l.getD k zeroI).r) ∧ w.cell? ⟨b, off + k * 7 + 6, none⟩ = some (.int .i64 (l.getD k zeroI).n) := by
  obtain ⟨b, off, rfl, hB, h0⟩ := h k 0 hk (by omega)
  have g : ∀ j, j < 7 → w.cell? ⟨b, off + (k * 7 + j), none⟩ = (encI (l.getD k zeroI))[j]? := fun j hj => by
    obtain ⟨b', off', e, _, hc⟩ := h k j hk hj
    cases e
    exact hc
  exact ⟨b, off, rfl, hB, h0, g 1 (by omega), g 2 (by omega), g 3 (by omega), g 4 (by omega), g 5 (by omega), g 6 (by omega)⟩
theorem wfA {a : Int} (h : (Lit.int .i64 a).wf = true) : inR a := by
  simp [Lit.wf, IntKind.min, IntKind.max, IntKind.signed, IntKind.bits] at h
  exact h
/-- Elements read one by one. -/
theorem els_ofA {α : Type} {w : World} {sz : Nat} {en : α → List Value} {d : α} {ok : α → Prop} (hd : ok d) {ad : Addr} {len : Nat} (hsz : 0 < sz) (hlen : ∀ x, (en x).length = sz)
    (h : ∀ i, i < len → ∃ x : α, ok x ∧ ∀ j c, (en x)[j]? = some c → w.cell? (ad.add (i * sz + j)) = some c) : ∃ l : List α, l.length = len ∧ (∀ k, ok (l.getD k d)) ∧ Els sz en w (some ad) l.length fun k => l.getD k d := by
  have each : ∀ i, ∃ x : α, ok x ∧ (i < len → ∀ j c, (en x)[j]? = some c → w.cell? (ad.add (i * sz + j)) = some c) := fun i => by
    by_cases hi : i < len
    · obtain ⟨x, h1, h2⟩ := h i hi
      exact ⟨x, h1, fun _ => h2⟩
    · exact ⟨d, hd, fun hh => absurd hh hi⟩
  obtain ⟨F, hF⟩ := Classical.axiomOfChoice each
  have hl : ((List.range len).map F).length = len := by simp
  have hg : ∀ k, k < len → ((List.range len).map F).getD k d = F k := fun k hk => by simp [hk]
  refine ⟨(List.range len).map F, hl, fun k => ?_, fun k j hk hj => ?_⟩
  · by_cases hk : k < len
    · rw [hg k hk]; exact (hF k).1
    · rw [List.getD_eq_getElem?_getD, List.getElem?_eq_none (by rw [hl]; omega)]; exact hd
  · rw [hl] at hk
    dsimp only
    rw [hg k hk]
    have hc := (hF k).2 hk j _ (List.getElem?_eq_getElem (by rw [hlen]; exact hj))
    obtain ⟨b, off, spot⟩ := ad
    have hc0 := (hF 0).2 (by omega) 0 _ (List.getElem?_eq_getElem (by rw [hlen]; exact hsz))
    have hs : spot = none := by simpa [Addr.add] using World.cell?_spot hc0
    subst hs
    rw [Go.WideShapes.add_plain] at hc
    exact ⟨b, off, rfl, World.block_lt_of_cell? _ _ hc, by rw [hc, List.getElem?_eq_getElem (by rw [hlen]; exact hj)]⟩
theorem zeroI_in : inI zeroI := by
  have z : inR 0 := by decide
  exact ⟨z, z, z, z, z, z, z⟩
/-- Items that came in. -/
theorem IsFlat.itemsA {w : World} {a : Option Addr} {len cap : Nat} (h : IsFlat Try.prog [3, 38, 3, 38, 3, 38, 3] w a len cap) : ∃ l : List I7, l.length = len ∧ len ≤ cap ∧ cap ≤ maxLen ∧ (∀ k, inI (l.getD k zeroI)) ∧ Els 7 encI w a l.length fun k => l.getD k zeroI := by
  rcases h with ⟨rfl, rfl, rfl⟩ | ⟨ad, rfl, h1, h2, hall⟩
  · exact ⟨[], rfl, Nat.le_refl _, by decide, fun k => by simpa using zeroI_in, fun k j hk _ => absurd hk (Nat.not_lt_zero k)⟩
  · obtain ⟨l, q1, q2, q3⟩ := els_ofA (w := w) (ok := inI) (en := encI) (d := zeroI) (sz := 7) zeroI_in (by omega) encI_len (ad := ad) (len := len) (fun i hi => by
      obtain ⟨cs, hlen, hc, hk⟩ := hall i hi
      match cs, hlen with
      | [c0, c1, c2, c3, c4, c5, c6], _ =>
        obtain ⟨z0, rfl, w0⟩ := (hk 0 _ _ rfl rfl).1 _ Try.underlying3
        obtain ⟨z1, rfl, w1⟩ := (hk 1 _ _ rfl rfl).1 _ Try.underlying38
        obtain ⟨z2, rfl, w2⟩ := (hk 2 _ _ rfl rfl).1 _ Try.underlying3
        obtain ⟨z3, rfl, w3⟩ := (hk 3 _ _ rfl rfl).1 _ Try.underlying38
        obtain ⟨z4, rfl, w4⟩ := (hk 4 _ _ rfl rfl).1 _ Try.underlying3
        obtain ⟨z5, rfl, w5⟩ := (hk 5 _ _ rfl rfl).1 _ Try.underlying38
        obtain ⟨z6, rfl, w6⟩ := (hk 6 _ _ rfl rfl).1 _ Try.underlying3
        exact ⟨⟨z0, z1, z2, z3, z4, z5, z6⟩, ⟨wfA w0, wfA w1, wfA w2, wfA w3, wfA w4, wfA w5, wfA w6⟩, hc⟩)
    exact ⟨l, q1, h1, h2, q2, q3⟩
end Go.Proofs.Ytniipfpfilenmaa
