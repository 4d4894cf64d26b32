/- Notes in memory: where a list of notes lies. Nothing of a program is in it. -/
import Derived.Test.YtdddhflppngloaaJRow
import Derived.Test.YtdddhflppngloaaSSum
import Derived.Test.YtdddhflppngloaaFMix
namespace Go.Proofs.Ytdddhflppngloaa
open Go.RowKit
set_option maxRecDepth 20000
set_option linter.unusedVariables false

/-- A note. -/
structure N2 where
  l : List Int
  p : List Int
def zeroN : N2 := ⟨[], []⟩
/-- Where the numbers of a note lie. -/
structure H2 where
  la : Option Addr
  ll : Nat
  lc : Nat
  pa : Option Addr
  pl : Nat
  pc : Nat
def encH (h : H2) : List Value := [.slice h.la h.ll h.lc, .slice h.pa h.pl h.pc]
theorem encH_len (x : H2) : (encH x).length = 2 := rfl
theorem encH_one : ∀ x, ∀ u ∈ encH x, u.oneCell' = true := fun x u hu => by
  simp only [encH, List.mem_cons, List.not_mem_nil, or_false] at hu
  rcases hu with rfl | rfl <;> rfl
/-- A note's numbers lie where it says. -/
def NoteOk (w : World) (h : H2) (n : N2) : Prop := h.ll = n.l.length ∧ h.pl = n.p.length ∧ (h.ll ≤ h.lc ∧ h.lc ≤ maxLen) ∧ (h.pl ≤ h.pc ∧ h.pc ≤ maxLen) ∧ IRow w.heap.size w h.la n.l ∧ IRow w.heap.size w h.pa n.p
theorem NoteOk.carry {w w' : World} {h : H2} {n : N2} (H : NoteOk w h n) (hb : Below w.heap.size w w') : NoteOk w' h n := by
  obtain ⟨h1, h2, h3, h4, h5, h6⟩ := H
  exact ⟨h1, h2, h3, h4, (h5.carry hb (Nat.le_refl _)).mono hb.size, (h6.carry hb (Nat.le_refl _)).mono hb.size⟩
def NotesAt (w : World) (a : Option Addr) (l : List N2) : Prop := ∃ hs : Nat → H2, Els 2 encH w a l.length hs ∧ ∀ k, k < l.length → NoteOk w (hs k) (l.getD k zeroN)
theorem NotesAt.carry {w w' : World} {a : Option Addr} {l : List N2} (h : NotesAt w a l) (hb : Below w.heap.size w w') : NotesAt w' a l := by
  obtain ⟨hs, h1, h2⟩ := h
  exact ⟨hs, h1.carry hb, fun k hk => (h2 k hk).carry hb⟩
def zeroH : H2 := ⟨none, 0, 0, none, 0, 0⟩
theorem els2 {w : World} {a : Option Addr} {n : Nat} {F : Nat → H2} (h : Els 2 encH w a n F) {k : Nat} (hk : k < n) : ∃ b off, a = some ⟨b, off, none⟩ ∧ b < w.heap.size ∧ w.cell? ⟨b, off + k * 2, none⟩ = some (.slice (F k).la (F k).ll (F k).lc) ∧ w.cell? ⟨b, off + k * 2 + 1, none⟩ = some (.slice (F k).pa (F k).pl (F k).pc) := by
  obtain ⟨b, off, rfl, hb, h0⟩ := h k 0 hk (by omega)
  have each : ∀ j, j < 2 → w.cell? ⟨b, off + k * 2 + j, none⟩ = (encH (F k))[j]? := fun j hj => by
    obtain ⟨b', off', e, _, hc⟩ := h k j hk hj
    cases e
    rw [Nat.add_assoc]
    exact hc
  exact ⟨b, off, rfl, hb, each 0 (by omega), each 1 (by omega)⟩
section
variable {w : World}
/-- Elements read one by one. -/
theorem els_of {α : Type} {sz : Nat} {en : α → List Value} {d : α} {ok : α → Prop} (hd : ok d) {ad : Addr} {len : Nat} (hsz : 0 < sz) (hlen : ∀ x, (en x).length = sz)
    (h : ∀ i, i < len → ∃ x : α, ok x ∧ ∀ j c, (en x)[j]? = some c → w.cell? (ad.add (i * sz + j)) = some c) : ∃ l : List α, l.length = len ∧ (∀ k, ok (l.getD k d)) ∧ Els sz en w (some ad) l.length fun k => l.getD k d := by
  have each : ∀ i, ∃ x : α, ok x ∧ (i < len → ∀ j c, (en x)[j]? = some c → w.cell? (ad.add (i * sz + j)) = some c) := fun i => by
    by_cases hi : i < len
    · obtain ⟨x, h1, h2⟩ := h i hi
      exact ⟨x, h1, fun _ => h2⟩
    · exact ⟨d, hd, fun hh => absurd hh hi⟩
  obtain ⟨F, hF⟩ := Classical.axiomOfChoice each
  have hl : ((List.range len).map F).length = len := by simp
  have hg : ∀ k, k < len → ((List.range len).map F).getD k d = F k := fun k hk => by simp [hk]
  refine ⟨(List.range len).map F, hl, fun k => ?_, fun k j hk hj => ?_⟩
  · by_cases hk : k < len
    · rw [hg k hk]; exact (hF k).1
    · rw [List.getD_eq_getElem?_getD, List.getElem?_eq_none (by rw [hl]; omega)]; exact hd
  · rw [hl] at hk
    dsimp only
    rw [hg k hk]
    have hc := (hF k).2 hk j _ (List.getElem?_eq_getElem (by rw [hlen]; exact hj))
    obtain ⟨b, off, spot⟩ := ad
    have hc0 := (hF 0).2 (by omega) 0 _ (List.getElem?_eq_getElem (by rw [hlen]; exact hsz))
    have hs : spot = none := by simpa [Addr.add] using World.cell?_spot hc0
    subst hs
    rw [Go.WideShapes.add_plain] at hc
    exact ⟨b, off, rfl, World.block_lt_of_cell? _ _ hc, by rw [hc, List.getElem?_eq_getElem (by rw [hlen]; exact hj)]⟩
end
theorem none_els {α : Type} {sz : Nat} {en : α → List Value} {w : World} {F : Nat → α} : Els sz en w none 0 F := fun k j hk _ => absurd hk (Nat.not_lt_zero k)
/-- A slice of notes that came in. -/
theorem notes_of {H : Type} {enc : TypeId × Value → H} {P : Program} {w : World} {base : Nat} {held : Bool} {t e u v k1 k2 f : Nat} {fuel len cap : Nat} {a : Option Addr} {x : DataW H × List MemPlace} (ht : P.underlying t = some (.slice e)) (hts : leaves P f e = some [u, v])
    (hu : P.underlying u = some (.slice k1)) (hv : P.underlying v = some (.slice k2)) (h1 : P.underlying k1 = some (.int .i64)) (h2 : P.underlying k2 = some (.int .i64)) (c1 : P.cellsOf k1 = 1) (c2 : P.cellsOf k2 = 1)
    (h : DataW.trod enc P w base (fun _ => true) held fuel t [.slice a len cap] = some x) : ∃ l : List N2, l.length = len ∧ len ≤ cap ∧ cap ≤ maxLen ∧ NotesAt w a l := by
  rcases leaves_slice ht hts h with ⟨rfl, rfl, rfl⟩ | ⟨ad, rfl, hl, hm, hall⟩
  · exact ⟨[], rfl, Nat.le_refl _, by decide, ⟨fun _ => zeroH, none_els, fun k hk => absurd hk (Nat.not_lt_zero k)⟩⟩
  · have hz0 : NoteOk w zeroH zeroN := ⟨rfl, rfl, ⟨Nat.le_refl _, by decide⟩, ⟨Nat.le_refl _, by decide⟩, fun k hk => absurd hk (Nat.not_lt_zero k), fun k hk => absurd hk (Nat.not_lt_zero k)⟩
    obtain ⟨l, q1, q2, q3⟩ := els_of (w := w) (ok := fun x : H2 × N2 => NoteOk w x.1 x.2) (en := fun x : H2 × N2 => encH x.1) (d := (zeroH, zeroN)) (sz := 2) hz0 (by omega) (fun x => encH_len x.1) (ad := ad) (len := len) (fun i hi => by
      obtain ⟨cs, hlen, hc, hk⟩ := hall i hi
      match cs, hlen with
      | [c0, c1'], _ =>
        obtain ⟨la, ll, lc, lz, rfl, r1⟩ := hk.ints 0 rfl hu h1 c1 rfl
        obtain ⟨pa, pl, pc, pz, rfl, r2⟩ := hk.ints 1 rfl hv h2 c2 rfl
        obtain ⟨ln, e1, h3, h4, h5⟩ := r1.irow
        obtain ⟨pn, e2, h6, h7, h8⟩ := r2.irow
        exact ⟨(⟨la, ll, lc, pa, pl, pc⟩, ⟨ln, pn⟩), ⟨e1.symm, e2.symm, ⟨h4, h5⟩, ⟨h7, h8⟩, h3, h6⟩, hc⟩)
    refine ⟨l.map (·.2), by simpa using q1, hl, hm, ⟨fun k => (l.getD k (zeroH, zeroN)).1, ?_, fun k hk => ?_⟩⟩
    · rw [List.length_map]
      exact fun k j hk hj => q3 k j hk hj
    · rw [List.length_map] at hk
      have := q2 k
      rwa [show (l.map (·.2)).getD k zeroN = (l.getD k (zeroH, zeroN)).2 by simp [hk]]
end Go.Proofs.Ytdddhflppngloaa
