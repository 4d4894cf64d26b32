/- A job that came in. -/
import Derived.Test.YtllpimhjpfkgpaaJCl2
import Derived.Test.YtllpimhjpfkgpaaFMix
import Derived.ProofKit
namespace Go.Proofs.Ytllpimhjpfkgpaa
open Go.RowKit
set_option maxRecDepth 20000
set_option linter.unusedVariables false
set_option linter.unusedSimpArgs false

section
variable {H : Type} {enc : TypeId × Value → H} {w : World} {base : Nat} {held : Bool}
/-- A slice of structs of integers in a cell. -/
theorem Leafy.flats {P : Program} {spare : Nat → Bool} {ts ets : List TypeId} {cs : List Value} (h : Leafy enc P w base spare held ts cs) (i : Nat) {f : Nat} {u e : TypeId} {c : Value}
    (hu : ts[i]? = some u) (hs : P.underlying u = some (.slice e)) (hts : leaves P f e = some ets) (hc : cs[i]? = some c) : ∃ a len cap, c = .slice a len cap ∧ ((a = none ∧ len = 0 ∧ cap = 0) ∨ ∃ ad, a = some ad ∧ len ≤ cap ∧ cap ≤ maxLen ∧ ∀ i, i < len → ∃ cs : List Value, cs.length = ets.length ∧ (∀ j c, cs[j]? = some c → w.cell? (ad.add (i * ets.length + j)) = some c) ∧ Leafy enc P w base spare held ets cs) := by
  obtain ⟨n, y, hy⟩ := h i u c hu hc
  rcases Go.Deep.open_slice hs hy with ⟨hcs, _⟩ | ⟨ad, l, cp, m, n', D, Pl, hcs, _⟩
  · obtain rfl : c = .slice none 0 0 := by simpa using hcs
    exact ⟨none, 0, 0, rfl, .inl ⟨rfl, rfl, rfl⟩⟩
  · obtain rfl : c = .slice (some ad) l cp := by simpa using hcs
    exact ⟨some ad, l, cp, rfl, leaves_slice hs hts hy⟩
theorem wfR14 {a : Int} (h : (Lit.int .i64 a).wf = true) : inR a := by
  simp [Lit.wf, IntKind.min, IntKind.max, IntKind.signed, IntKind.bits] at h
  exact h
/-- Elements read one by one. -/
theorem els_of {α : Type} {sz : Nat} {en : α → List Value} {d : α} {ok : α → Prop} (hd : ok d) {ad : Addr} {len : Nat} (hsz : 0 < sz) (hlen : ∀ x, (en x).length = sz)
    (h : ∀ i, i < len → ∃ x : α, ok x ∧ ∀ j c, (en x)[j]? = some c → w.cell? (ad.add (i * sz + j)) = some c) : ∃ l : List α, l.length = len ∧ (∀ k, ok (l.getD k d)) ∧ Els sz en w (some ad) l.length fun k => l.getD k d := by
  have each : ∀ i, ∃ x : α, ok x ∧ (i < len → ∀ j c, (en x)[j]? = some c → w.cell? (ad.add (i * sz + j)) = some c) := fun i => by
    by_cases hi : i < len
    · obtain ⟨x, h1, h2⟩ := h i hi
      exact ⟨x, h1, fun _ => h2⟩
    · exact ⟨d, hd, fun hh => absurd hh hi⟩
  obtain ⟨F, hF⟩ := Classical.axiomOfChoice each
  have hl : ((List.range len).map F).length = len := by simp
  have hg : ∀ k, k < len → ((List.range len).map F).getD k d = F k := fun k hk => by simp [hk]
  refine ⟨(List.range len).map F, hl, fun k => ?_, fun k j hk hj => ?_⟩
  · by_cases hk : k < len
    · rw [hg k hk]; exact (hF k).1
    · rw [List.getD_eq_getElem?_getD, List.getElem?_eq_none (by rw [hl]; omega)]; exact hd
  · rw [hl] at hk
    dsimp only
    rw [hg k hk]
    have hc := (hF k).2 hk j _ (List.getElem?_eq_getElem (by rw [hlen]; exact hj))
    obtain ⟨b, off, spot⟩ := ad
    have hc0 := (hF 0).2 (by omega) 0 _ (List.getElem?_eq_getElem (by rw [hlen]; exact hsz))
    have hs : spot = none := by simpa [Addr.add] using World.cell?_spot hc0
    subst hs
    rw [Go.WideShapes.add_plain] at hc
    exact ⟨b, off, rfl, World.block_lt_of_cell? _ _ hc, by rw [hc, List.getElem?_eq_getElem (by rw [hlen]; exact hj)]⟩
end
theorem zero_in4 : inI zeroI ∧ inF zeroF := by
  have z : inR 0 := by decide
  exact ⟨⟨z, z, z, z, z, z, z⟩, ⟨z, z, z⟩⟩
theorem none_els {α : Type} {sz : Nat} {en : α → List Value} {w : World} {F : Nat → α} : Els sz en w none 0 F := fun k j hk _ => absurd hk (Nat.not_lt_zero k)
theorem leaves29 : leaves Try.prog 9 29 = some [3, 22, 22, 22, 22, 22, 22, 22, 22, 22, 22, 3, 3, 3, 3, 3, 3, 3, 4, 25, 26, 27] := by kernel_rfl
theorem leaves39 : leaves Try.prog 9 39 = some [3, 22, 3, 22, 3, 22, 3] := by kernel_rfl
theorem leaves37 : leaves Try.prog 9 37 = some [34, 35] := by kernel_rfl
theorem leaves41 : leaves Try.prog 9 41 = some [3, 22, 3] := by kernel_rfl
theorem arr22 (cs : Array Value) (h : cs.size = 22) : ∃ c0 c1 c2 c3 c4 c5 c6 c7 c8 c9 c10 c11 c12 c13 c14 c15 c16 c17 c18 c19 c20 c21, cs = #[c0, c1, c2, c3, c4, c5, c6, c7, c8, c9, c10, c11, c12, c13, c14, c15, c16, c17, c18, c19, c20, c21] := by
  obtain ⟨l⟩ := cs
  match l, h with
  | [c0, c1, c2, c3, c4, c5, c6, c7, c8, c9, c10, c11, c12, c13, c14, c15, c16, c17, c18, c19, c20, c21], _ => exact ⟨c0, c1, c2, c3, c4, c5, c6, c7, c8, c9, c10, c11, c12, c13, c14, c15, c16, c17, c18, c19, c20, c21, rfl⟩
/-- A job by value, as the frame hands it over. -/
theorem open_job {H : Type} {enc : TypeId × Value → H} {w : World} {base : Nat} {held : Bool} {cs : Array Value} {d : DataW H} {p : List MemPlace} (hsz : cs.size = 22) (h : DataW.Trod enc Try.prog w base (fun _ => true) held 29 (.agg cs) d p) :
    ∃ j s, cs = jobC j s ∧ Lists w j s := by
  have L := leaves_agg (r := .any) (b0 := base) leaves29 (by rw [hsz]; kernel_rfl) h
  obtain ⟨c0, c1, c2, c3, c4, c5, c6, c7, c8, c9, c10, c11, c12, c13, c14, c15, c16, c17, c18, c19, c20, c21, rfl⟩ := arr22 cs hsz
  obtain ⟨a0, rfl, w0⟩ := L.int 0 rfl Try.underlying3 rfl
  obtain ⟨a1, rfl, w1⟩ := L.int 1 rfl Try.underlying22 rfl
  obtain ⟨a2, rfl, w2⟩ := L.int 2 rfl Try.underlying22 rfl
  obtain ⟨a3, rfl, w3⟩ := L.int 3 rfl Try.underlying22 rfl
  obtain ⟨a4, rfl, w4⟩ := L.int 4 rfl Try.underlying22 rfl
  obtain ⟨a5, rfl, w5⟩ := L.int 5 rfl Try.underlying22 rfl
  obtain ⟨a6, rfl, w6⟩ := L.int 6 rfl Try.underlying22 rfl
  obtain ⟨a7, rfl, w7⟩ := L.int 7 rfl Try.underlying22 rfl
  obtain ⟨a8, rfl, w8⟩ := L.int 8 rfl Try.underlying22 rfl
  obtain ⟨a9, rfl, w9⟩ := L.int 9 rfl Try.underlying22 rfl
  obtain ⟨a10, rfl, w10⟩ := L.int 10 rfl Try.underlying22 rfl
  obtain ⟨a11, rfl, w11⟩ := L.int 11 rfl Try.underlying3 rfl
  obtain ⟨a12, rfl, w12⟩ := L.int 12 rfl Try.underlying3 rfl
  obtain ⟨a13, rfl, w13⟩ := L.int 13 rfl Try.underlying3 rfl
  obtain ⟨a14, rfl, w14⟩ := L.int 14 rfl Try.underlying3 rfl
  obtain ⟨a15, rfl, w15⟩ := L.int 15 rfl Try.underlying3 rfl
  obtain ⟨a16, rfl, w16⟩ := L.int 16 rfl Try.underlying3 rfl
  obtain ⟨a17, rfl, w17⟩ := L.int 17 rfl Try.underlying3 rfl
  obtain ⟨a18, rfl⟩ := L.bool 18 rfl Try.underlying4 rfl
  obtain ⟨ia, il, ic, rfl, hI⟩ := L.flats 19 rfl Try.underlying25 leaves39 rfl
  obtain ⟨na, nl, nc, rfl, hN⟩ := L.flats 20 rfl Try.underlying26 leaves37 rfl
  obtain ⟨fa, fl, fc, rfl, hF⟩ := L.flats 21 rfl Try.underlying27 leaves41 rfl
  have hI' : ∃ l : List I7, l.length = il ∧ (∀ k, inI (l.getD k zeroI)) ∧ (Els 7 encI w ia l.length fun k => l.getD k zeroI) ∧ il ≤ ic ∧ ic ≤ maxLen := by
    rcases hI with ⟨rfl, rfl, rfl⟩ | ⟨ad, rfl, h1, h2, hall⟩
    · exact ⟨[], rfl, fun k => by simpa using (zero_in4).1, none_els, Nat.le_refl _, by decide⟩
    · obtain ⟨l, q1, q2, q3⟩ := els_of (w := w) (ok := inI) (en := encI) (d := zeroI) (sz := 7) zero_in4.1 (by omega) encI_len (ad := ad) (len := il) (fun i hi => by
        obtain ⟨cs, hlen, hc, hk⟩ := hall i hi
        match cs, hlen with
        | [c0, c1, c2, c3, c4, c5, c6], _ =>
          obtain ⟨z0, rfl, w0⟩ := hk.int 0 rfl Try.underlying3 rfl
          obtain ⟨z1, rfl, w1⟩ := hk.int 1 rfl Try.underlying22 rfl
          obtain ⟨z2, rfl, w2⟩ := hk.int 2 rfl Try.underlying3 rfl
          obtain ⟨z3, rfl, w3⟩ := hk.int 3 rfl Try.underlying22 rfl
          obtain ⟨z4, rfl, w4⟩ := hk.int 4 rfl Try.underlying3 rfl
          obtain ⟨z5, rfl, w5⟩ := hk.int 5 rfl Try.underlying22 rfl
          obtain ⟨z6, rfl, w6⟩ := hk.int 6 rfl Try.underlying3 rfl
          exact ⟨⟨z0, z1, z2, z3, z4, z5, z6⟩, ⟨wfR14 w0, wfR14 w1, wfR14 w2, wfR14 w3, wfR14 w4, wfR14 w5, wfR14 w6⟩, hc⟩)
      exact ⟨l, q1, q2, q3, h1, h2⟩
  have hF' : ∃ l : List F3, l.length = fl ∧ (∀ k, inF (l.getD k zeroF)) ∧ (Els 3 encF w fa l.length fun k => l.getD k zeroF) ∧ fl ≤ fc ∧ fc ≤ maxLen := by
    rcases hF with ⟨rfl, rfl, rfl⟩ | ⟨ad, rfl, h1, h2, hall⟩
    · exact ⟨[], rfl, fun k => by simpa using (zero_in4).2, none_els, Nat.le_refl _, by decide⟩
    · obtain ⟨l, q1, q2, q3⟩ := els_of (w := w) (ok := inF) (en := encF) (d := zeroF) (sz := 3) zero_in4.2 (by omega) encF_len (ad := ad) (len := fl) (fun i hi => by
        obtain ⟨cs, hlen, hc, hk⟩ := hall i hi
        match cs, hlen with
        | [c0, c1, c2], _ =>
          obtain ⟨z0, rfl, w0⟩ := hk.int 0 rfl Try.underlying3 rfl
          obtain ⟨z1, rfl, w1⟩ := hk.int 1 rfl Try.underlying22 rfl
          obtain ⟨z2, rfl, w2⟩ := hk.int 2 rfl Try.underlying3 rfl
          exact ⟨⟨z0, z1, z2⟩, ⟨wfR14 w0, wfR14 w1, wfR14 w2⟩, hc⟩)
      exact ⟨l, q1, q2, q3, h1, h2⟩
  have hN' : ∃ l : List N2, l.length = nl ∧ NotesAt w na l ∧ nl ≤ nc ∧ nc ≤ maxLen := by
    rcases hN with ⟨rfl, rfl, rfl⟩ | ⟨ad, rfl, h1, h2, hall⟩
    · exact ⟨[], rfl, ⟨fun _ => zeroH, none_els, fun k hk => absurd hk (Nat.not_lt_zero k)⟩, Nat.le_refl _, by decide⟩
    · have hz : ∃ x : H2 × N2, NoteOk w x.1 x.2 := ⟨(zeroH, zeroN), rfl, rfl, ⟨Nat.le_refl _, by decide⟩, ⟨Nat.le_refl _, by decide⟩, fun k hk => absurd hk (Nat.not_lt_zero k), fun k hk => absurd hk (Nat.not_lt_zero k)⟩
      have hz0 : NoteOk w zeroH zeroN := ⟨rfl, rfl, ⟨Nat.le_refl _, by decide⟩, ⟨Nat.le_refl _, by decide⟩, fun k hk => absurd hk (Nat.not_lt_zero k), fun k hk => absurd hk (Nat.not_lt_zero k)⟩
      obtain ⟨l, q1, q2, q3⟩ := els_of (w := w) (ok := fun x : H2 × N2 => NoteOk w x.1 x.2) (en := fun x : H2 × N2 => encH x.1) (d := (zeroH, zeroN)) (sz := 2) hz0 (by omega) (fun x => encH_len x.1) (ad := ad) (len := nl) (fun i hi => by
        obtain ⟨cs, hlen, hc, hk⟩ := hall i hi
        match cs, hlen with
        | [c0, c1], _ =>
          obtain ⟨la, ll, lc, lz, rfl, r1⟩ := hk.ints 0 rfl Try.underlying34 Try.underlying22 (by kernel_rfl) rfl
          obtain ⟨pa, pl, pc, pz, rfl, r2⟩ := hk.ints 1 rfl Try.underlying35 Try.underlying3 (by kernel_rfl) rfl
          obtain ⟨ln, e1, h3, h4, h5⟩ := r1.irow
          obtain ⟨pn, e2, h6, h7, h8⟩ := r2.irow
          exact ⟨(⟨la, ll, lc, pa, pl, pc⟩, ⟨ln, pn⟩), ⟨e1.symm, e2.symm, ⟨h4, h5⟩, ⟨h7, h8⟩, h3, h6⟩, hc⟩)
      refine ⟨l.map (·.2), by simpa using q1, ⟨fun k => (l.getD k (zeroH, zeroN)).1, ?_, fun k hk => ?_⟩, h1, h2⟩
      · rw [List.length_map]
        exact fun k j hk hj => q3 k j hk hj
      · rw [List.length_map] at hk
        have := q2 k
        rwa [show (l.map (·.2)).getD k zeroN = (l.getD k (zeroH, zeroN)).2 by simp [hk]]
  obtain ⟨il', e1, i1, i2, i3, i4⟩ := hI'
  obtain ⟨fl', e2, g1, g2, g3, g4⟩ := hF'
  obtain ⟨nl', e3, m1, m2, m3⟩ := hN'
  subst e1 e2 e3
  exact ⟨⟨⟨a0, a1, a2, a3, a4, a5, a6, a7, a8, a9, a10, a11, a12, a13, a14, a15, a16, a17, a18⟩, il', nl', fl'⟩, ⟨ia, ic, na, nc, fa, fc⟩, rfl,
    ⟨⟨⟨wfR14 w0, wfR14 w1, wfR14 w2, wfR14 w3, wfR14 w4, wfR14 w5, wfR14 w6, wfR14 w7, wfR14 w8, wfR14 w9, wfR14 w10, wfR14 w11, wfR14 w12, wfR14 w13, wfR14 w14, wfR14 w15, wfR14 w16, wfR14 w17⟩, i1, g1⟩, i2, m1, g2, ⟨i3, i4⟩, ⟨m2, m3⟩, ⟨g3, g4⟩⟩⟩
end Go.Proofs.Ytllpimhjpfkgpaa
