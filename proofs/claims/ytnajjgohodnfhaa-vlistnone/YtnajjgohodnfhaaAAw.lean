/- Items that came in; awake of layer 18. -/
import Derived.Test.YtnajjgohodnfhaaANew
import Derived.Test.YtnajjgohodnfhaaABrk
import Derived.Test.YtnajjgohodnfhaaFLeaf
namespace Go.Proofs.Ytnajjgohodnfhaa
open Go.RowKit
set_option maxRecDepth 20000
set_option linter.unusedVariables false
set_option linter.unusedSimpArgs false

theorem wfA {a : Int} (h : (Lit.int .i64 a).wf = true) : inR a := by
  simp [Lit.wf, IntKind.min, IntKind.max, IntKind.signed, IntKind.bits] at h
  exact h
/-- Elements read one by one. -/
theorem els_ofA {α : Type} {w : World} {sz : Nat} {en : α → List Value} {d : α} {ok : α → Prop} (hd : ok d) {ad : Addr} {len : Nat} (hsz : 0 < sz) (hlen : ∀ x, (en x).length = sz)
    (h : ∀ i, i < len → ∃ x : α, ok x ∧ ∀ j c, (en x)[j]? = some c → w.cell? (ad.add (i * sz + j)) = some c) : ∃ l : List α, l.length = len ∧ (∀ k, ok (l.getD k d)) ∧ Els sz en w (some ad) l.length fun k => l.getD k d := by
  have each : ∀ i, ∃ x : α, ok x ∧ (i < len → ∀ j c, (en x)[j]? = some c → w.cell? (ad.add (i * sz + j)) = some c) := fun i => by
    by_cases hi : i < len
    · obtain ⟨x, h1, h2⟩ := h i hi
      exact ⟨x, h1, fun _ => h2⟩
    · exact ⟨d, hd, fun hh => absurd hh hi⟩
  obtain ⟨F, hF⟩ := Classical.axiomOfChoice each
  have hl : ((List.range len).map F).length = len := by simp
  have hg : ∀ k, k < len → ((List.range len).map F).getD k d = F k := fun k hk => by simp [hk]
  refine ⟨(List.range len).map F, hl, fun k => ?_, fun k j hk hj => ?_⟩
  · by_cases hk : k < len
    · rw [hg k hk]; exact (hF k).1
    · rw [List.getD_eq_getElem?_getD, List.getElem?_eq_none (by rw [hl]; omega)]; exact hd
  · rw [hl] at hk
    dsimp only
    rw [hg k hk]
    have hc := (hF k).2 hk j _ (List.getElem?_eq_getElem (by rw [hlen]; exact hj))
    obtain ⟨b, off, spot⟩ := ad
    have hc0 := (hF 0).2 (by omega) 0 _ (List.getElem?_eq_getElem (by rw [hlen]; exact hsz))
    have hs : spot = none := by simpa [Addr.add] using World.cell?_spot hc0
    subst hs
    rw [Go.WideShapes.add_plain] at hc
    exact ⟨b, off, rfl, World.block_lt_of_cell? _ _ hc, by rw [hc, List.getElem?_eq_getElem (by rw [hlen]; exact hj)]⟩
theorem zeroI_in : inI zeroI := by
  have z : inR 0 := by decide
  exact ⟨z, z, z, z, z, z, z⟩
/-- Items that came in. -/
theorem IsFlat.itemsA {w : World} {a : Option Addr} {len cap : Nat} (h : IsFlat Try.prog [3, 29, 3, 29, 3, 29, 3] w a len cap) : ∃ l : List I7, l.length = len ∧ len ≤ cap ∧ cap ≤ maxLen ∧ (∀ k, inI (l.getD k zeroI)) ∧ Els 7 encI w a l.length fun k => l.getD k zeroI := by
  rcases h with ⟨rfl, rfl, rfl⟩ | ⟨ad, rfl, h1, h2, hall⟩
  · exact ⟨[], rfl, Nat.le_refl _, by decide, fun k => by simpa using zeroI_in, fun k j hk _ => absurd hk (Nat.not_lt_zero k)⟩
  · obtain ⟨l, q1, q2, q3⟩ := els_ofA (w := w) (ok := inI) (en := encI) (d := zeroI) (sz := 7) zeroI_in (by omega) encI_len (ad := ad) (len := len) (fun i hi => by
      obtain ⟨cs, hlen, hc, hk⟩ := hall i hi
      match cs, hlen with
      | [c0, c1, c2, c3, c4, c5, c6], _ =>
        obtain ⟨z0, rfl, w0⟩ := (hk 0 _ _ rfl rfl).1 _ Try.underlying3
        obtain ⟨z1, rfl, w1⟩ := (hk 1 _ _ rfl rfl).1 _ Try.underlying29
        obtain ⟨z2, rfl, w2⟩ := (hk 2 _ _ rfl rfl).1 _ Try.underlying3
        obtain ⟨z3, rfl, w3⟩ := (hk 3 _ _ rfl rfl).1 _ Try.underlying29
        obtain ⟨z4, rfl, w4⟩ := (hk 4 _ _ rfl rfl).1 _ Try.underlying3
        obtain ⟨z5, rfl, w5⟩ := (hk 5 _ _ rfl rfl).1 _ Try.underlying29
        obtain ⟨z6, rfl, w6⟩ := (hk 6 _ _ rfl rfl).1 _ Try.underlying3
        exact ⟨⟨z0, z1, z2, z3, z4, z5, z6⟩, ⟨wfA w0, wfA w1, wfA w2, wfA w3, wfA w4, wfA w5, wfA w6⟩, hc⟩)
    exact ⟨l, q1, h1, h2, q2, q3⟩

def wakeA : List I7 := [⟨1, 0, 0, 0, 0, 0, 0⟩, ⟨2, 0, 0, 0, 0, 0, 0⟩, ⟨1, 0, 0, 0, 0, 0, 0⟩, ⟨3, 0, 0, 0, 0, 0, 10000⟩, ⟨2, 0, 0, 0, 0, 0, 0⟩, ⟨1, 0, 0, 0, 0, 0, 0⟩, ⟨3, 0, 0, 0, 0, 0, -10000⟩, ⟨1, 0, 0, 0, 0, 0, 0⟩]
def wakeAC : Array Value := #[.int .i64 1, .int .i64 0, .int .i64 0, .int .i64 0, .int .i64 0, .int .i64 0, .int .i64 0, .int .i64 2, .int .i64 0, .int .i64 0, .int .i64 0, .int .i64 0, .int .i64 0, .int .i64 0, .int .i64 1, .int .i64 0, .int .i64 0, .int .i64 0, .int .i64 0, .int .i64 0, .int .i64 0, .int .i64 3, .int .i64 0, .int .i64 0, .int .i64 0, .int .i64 0, .int .i64 0, .int .i64 10000, .int .i64 2, .int .i64 0, .int .i64 0, .int .i64 0, .int .i64 0, .int .i64 0, .int .i64 0, .int .i64 1, .int .i64 0, .int .i64 0, .int .i64 0, .int .i64 0, .int .i64 0, .int .i64 0, .int .i64 3, .int .i64 0, .int .i64 0, .int .i64 0, .int .i64 0, .int .i64 0, .int .i64 (-10000), .int .i64 1, .int .i64 0, .int .i64 0, .int .i64 0, .int .i64 0, .int .i64 0, .int .i64 0]
theorem wakeAC_eq : wakeAC = ((wakeA.map encI).flatten).toArray := rfl
theorem wakeA_els (w : World) : Els 7 encI (w.alloc (.cells wakeAC 31)) (some ⟨w.heap.size, 0, none⟩) 8 fun k => wakeA.getD k zeroI := fun k j hk hj => by
  refine ⟨w.heap.size, 0, rfl, by simp, ?_⟩
  rw [(blk_new w wakeAC 31).cell, Nat.zero_add, ← flat_get encI_len zeroI wakeA k j hk hj, wakeAC_eq, List.getElem?_toArray]
theorem wakeA_breaks : breaksV wakeA 0 = [1, 6] := by decide +kernel
theorem wakeA_trim : trimV wakeA 3 = 5 := by decide +kernel
theorem wakeA_force : forceV wakeA 6 = 8 := by decide +kernel
theorem wakeA_first : firstV wakeA 6 = 8 := by decide +kernel
set_option maxHeartbeats 1000000 in
theorem awake18 (w : World) : Calls Try.prog 5 #[] w fun e w' => e = .returned (.bool true) ∧ Below w.heap.size w w' := by
  have c1 := vnew_any (some ⟨w.heap.size, 0, none⟩) 8 wakeA (w.alloc (.cells wakeAC 31)) (by decide) (wakeA_els w)
  change Calls _ _ #[.slice (some ⟨w.heap.size, 0, none⟩) 8 8] _ _ at c1
  have b0 := tbel1 w (.cells wakeAC 31)
  have HC := Lib.hid fun (v : Value) (x : World) (h : VAt x v wakeA) => And.intro (vbreaks_any v wakeA 0 x h (by decide)) (And.intro (vtrim_any v wakeA 3 x h (by decide)) (And.intro (vforce_any v wakeA 6 x h (by decide)) (And.intro (vfirst_any v wakeA 6 x h (by decide)) (vlen_any v wakeA x h))))
  rw [wakeA_breaks, wakeA_trim, wakeA_force, wakeA_first] at HC
  unfold wakeAC at c1 b0
  go_enter Try.func5, Try.ntmps5
  go_wp2_with fail
  refine c1.mono ?_
  rintro e w1 ⟨v, rfl, V1, b1⟩
  replace b1 := tstep b0 b1 b0.size
  clear c1 b0
  go_wp2_with fail
  refine (HC.out v w1 V1).1.mono ?_
  rintro e w2 ⟨u, rfl, ho, b2⟩
  have V2 := V1.carry b2
  replace b2 := tstep b1 b2 b1.size
  clear b1 V1
  obtain ⟨a, cap, rfl, h1, h2, hr⟩ := ho.row
  have bx := tbel1 w2 (.cells #[.int .i64 1, .int .i64 6] 3)
  have ci := nints_any a (some ⟨w2.heap.size, 0, none⟩) cap 2 [1, 6] [1, 6] _ (by decide) (by decide) ((hr.carry bx (Nat.le_refl _)).mono bx.size) (row_2 (blk_new w2 #[.int .i64 1, .int .i64 6] 3) (by simp) (by unfold inR; omega) (by unfold inR; omega))
  rw [decide_eq_true (rfl : ([1, 6] : List Int) = [1, 6])] at ci
  change Calls _ _ #[.slice a 2 cap, .slice (some ⟨w2.heap.size, 0, none⟩) 2 2] _ _ at ci
  have V3 := V2.carry bx
  have b3 := tstep b2 bx b2.size
  clear hr ho h1 h2 b2 V2 bx
  go_wp2_with fail
  refine ci.mono ?_
  rintro e w4 ⟨rfl, b4⟩
  have V4 := V3.carry b4
  replace b4 := tstep b3 b4 b3.size
  clear ci V3 b3
  go_wp2_with fail
  refine (HC.out v w4 V4).2.1.mono ?_
  rintro e w5 ⟨rfl, b5⟩
  have V5 := V4.carry b5
  replace b5 := tstep b4 b5 b4.size
  clear V4 b4
  go_wp2_with fail
  refine (HC.out v w5 V5).2.2.1.mono ?_
  rintro e w6 ⟨rfl, b6⟩
  have V6 := V5.carry b6
  replace b6 := tstep b5 b6 b5.size
  clear V5 b5
  go_wp2_with fail
  refine (HC.out v w6 V6).2.2.2.1.mono ?_
  rintro e w7 ⟨rfl, b7⟩
  have V7 := V6.carry b7
  replace b7 := tstep b6 b7 b6.size
  clear V6 b6
  go_wp2_with fail
  refine (HC.out v w7 V7).2.2.2.2.mono ?_
  rintro e w8 ⟨rfl, rfl⟩
  have hl : wakeA.length = 8 := rfl
  rw [hl]
  clear HC V7
  go_wp2
  go_ret
  exact ⟨rfl, b7⟩
end Go.Proofs.Ytnajjgohodnfhaa
