/- What package anchor tells of a map: kept, between, last; slices.Clone of numbers. -/
import Derived.Test.YtniipfpfilenmaaHBin
import Derived.Test.YtniipfpfilenmaaJGrw
namespace Go.Proofs.Ytniipfpfilenmaa
open Go.RowKit
set_option maxRecDepth 20000
set_option linter.unusedVariables false
set_option linter.unusedSimpArgs false

def encA (x : A3) : List Value := [.int .i64 x.a, .int .i64 x.b, .int .i64 x.c]
theorem encA_len (x : A3) : (encA x).length = 3 := rfl
theorem encA_one : ∀ x, ∀ u ∈ encA x, u.oneCell' = true := fun x u hu => by
  simp only [encA, List.mem_cons, List.not_mem_nil, or_false] at hu
  rcases hu with rfl | rfl | rfl <;> rfl
/-- Three counts by value. -/
def ar3 (x : A3) : Value := .agg #[.int .i64 x.a, .int .i64 x.b, .int .i64 x.c]
theorem znil_no (ad : Addr) (n c : Nat) : ∀ w, Sem.run Try.prog (binOp BinOp.eql 29 (.slice (some ad) n c) (.slice none 0 0)) w = .ok (.bool false) w := fun w => by kernel_rfl
theorem znil_yes (n c : Nat) : ∀ w, Sem.run Try.prog (binOp BinOp.eql 29 (.slice none n c) (.slice none 0 0)) w = .ok (.bool true) w := fun w => by kernel_rfl
theorem zown_new (w : World) (e : TypeId) (sz : Nat) : (w.alloc (.cells #[] e)).ownsRow w.heap.size e sz (.slice (some ⟨w.heap.size, 0, none⟩) 0 0) 0 [] :=
  ⟨by simp, .inr ⟨w.heap.size, 0, #[], rfl, Nat.le_refl _, blk_new w #[] e, Nat.le_refl _, by decide, by simp, by simp⟩⟩
theorem inone {w : World} {B : Nat} {l : List Int} (h : IRow B w none l) : l = [] := by
  rcases Nat.eq_zero_or_pos l.length with h0 | h0
  · exact List.eq_nil_of_length_eq_zero h0
  · obtain ⟨_, b, off, e, _⟩ := h 0 h0
    cases e
theorem IRow.flatZ {w : World} {B : Nat} {b off : Nat} {l : List Int} (h : IRow B w (some ⟨b, off, none⟩) l) : ∀ j u, (l.map (Value.int .i64))[j]? = some u → w.cell? ((⟨b, off, none⟩ : Addr).add j) = some u := fun j u hu => by
  have hj : j < l.length := by
    rcases Nat.lt_or_ge j l.length with h | h
    · exact h
    · rw [List.getElem?_eq_none (by simpa using h)] at hu; cases hu
  obtain ⟨_, b', off', e, _, hc⟩ := h j hj
  cases e
  rw [Go.WideShapes.add_plain, hc]
  rw [List.getElem?_map, List.getElem?_eq_getElem hj] at hu
  rw [List.getD_eq_getElem?_getD, List.getElem?_eq_getElem hj]
  exact hu
set_option maxHeartbeats 1000000 in
theorem hclone_any (a : Option Addr) (cap : Nat) (l : List Int) (w : World) (hn : l.length ≤ 1000000) (hr : IRow w.heap.size w a l) (hi : ∀ k, inR (l.getD k 0)) (ha : ∀ ad, a = some ad → ad.spot = none) :
    Calls Try.prog 27 #[.slice a l.length cap] w fun e w' => ∃ v, e = .returned v ∧ OwnN w' w.heap.size v l ∧ Below w.heap.size w w' := by
  have hmx : 1000002 ≤ maxLen := by decide
  obtain ⟨i0, hi0, hz0, hz1, hz2⟩ := info_parts infoInt
  cases a with
  | none =>
    have h0 := inone hr
    subst h0
    clear hr
    have e := znil_yes 0 cap
    go_enter Try.func27, Try.ntmps27
    go_wp2_with fail
    go_ret
    exact ⟨.slice none 0 0, rfl, ownN_nil _ _, Below.refl _ _⟩
  | some ad =>
    obtain ⟨b, off, sp⟩ := ad
    obtain rfl : sp = none := ha _ rfl
    have HR := Lib.hid (hr.carry (tbel1 w (.cells #[] 3)) (Nat.le_refl _)).flatZ
    clear hr
    have e := znil_no ⟨b, off, none⟩ l.length cap
    go_enter Try.func27, Try.ntmps27
    go_wp2_with (at_builtin; refine wpList_append_own _ rfl _ _ 29 rfl w.heap.size 3 i0 (.int .i64 0) 1 8 Try.underlying29 hi0 hz0 hz1 hz2 rfl (by decide) _ 0 [] rfl (zown_new w 3 1) ⟨b, off, none⟩ l.length cap (l.map (Value.int .i64)) rfl (by simp) HR.out (by intro u hu; obtain ⟨x, _, rfl⟩ := List.mem_map.1 hu; rfl) (by omega) (by omega) (by simp) ?_; intro v' w1 hown hgrow _)
    go_ret
    refine ⟨_, rfl, ⟨by simpa using hown, hi⟩, ?_⟩
    exact (tbel1 w _).grown hgrow (by simp) fun k hk => Nat.le_of_eq (Option.some.inj (show some w.heap.size = some k from hk))

/-- A slice of the numbers L. -/
def SlI (w : World) (v : Value) (L : List Int) : Prop := ∃ a c, v = .slice a L.length c ∧ (L.length ≤ c ∧ c ≤ maxLen) ∧ (∀ ad, a = some ad → ad.spot = none) ∧ IRow w.heap.size w a L
/-- A slice of counts. -/
def SlA (w : World) (v : Value) (L : List A3) : Prop := ∃ a c, v = .slice a L.length c ∧ (L.length ≤ c ∧ c ≤ maxLen) ∧ Els 3 encA w a L.length fun k => L.getD k zeroA
theorem SlI.carry {w w' : World} {v : Value} {L : List Int} (h : SlI w v L) (hb : Below w.heap.size w w') : SlI w' v L := by
  obtain ⟨a, c, h1, h2, h3, h4⟩ := h
  exact ⟨a, c, h1, h2, h3, (h4.carry hb (Nat.le_refl _)).mono hb.size⟩
theorem SlA.carry {w w' : World} {v : Value} {L : List A3} (h : SlA w v L) (hb : Below w.heap.size w w') : SlA w' v L := by
  obtain ⟨a, c, h1, h2, h3⟩ := h
  exact ⟨a, c, h1, h2, h3.carry hb⟩
theorem slI_nil (w : World) : SlI w (.slice none 0 0) [] := ⟨none, 0, rfl, ⟨Nat.le_refl _, by decide⟩, (fun ad h => by cases h), fun k hk => absurd hk (Nat.not_lt_zero _)⟩
theorem slA_nil (w : World) : SlA w (.slice none 0 0) [] := ⟨none, 0, rfl, ⟨Nat.le_refl _, by decide⟩, fun k j hk => absurd hk (Nat.not_lt_zero _)⟩
/-- The eight slices of a map of the list l and the floats fl. -/
structure MapC (w : World) (v0 v1 v2 v3 v4 v5 v6 v7 : Value) (l : List I7) (fl : List F3) : Prop where
  c0 : SlI w v0 (atE (entN l 5 l.length))
  c1 : SlI w v1 (valE (entN l 5 l.length))
  c2 : SlI w v2 (atE (entN l 6 l.length))
  c3 : SlI w v3 (valE (entN l 6 l.length))
  c4 : SlI w v4 (atE (entC (aheadA l fl) l.length))
  c5 : SlA w v5 (valE (entC (aheadA l fl) l.length))
  c6 : SlI w v6 (atE (entC (dueA l fl) l.length))
  c7 : SlA w v7 (valE (entC (dueA l fl) l.length))
theorem MapC.carry {w w' : World} {v0 v1 v2 v3 v4 v5 v6 v7 : Value} {l : List I7} {fl : List F3} (h : MapC w v0 v1 v2 v3 v4 v5 v6 v7 l fl) (hb : Below w.heap.size w w') : MapC w' v0 v1 v2 v3 v4 v5 v6 v7 l fl :=
  ⟨h.c0.carry hb, h.c1.carry hb, h.c2.carry hb, h.c3.carry hb, h.c4.carry hb, h.c5.carry hb, h.c6.carry hb, h.c7.carry hb⟩
/-- v is nil, and there are no items, or it points to a map of the list l and the floats fl. -/
def MapV (w : World) (v : Value) (l : List I7) (fl : List F3) : Prop :=
  (v = .pointer none ∧ l = []) ∨ ∃ p v0 v1 v2 v3 v4 v5 v6 v7, v = .pointer (some ⟨p, 0, none⟩) ∧ Blk w p #[v0, v1, v2, v3, v4, v5, v6, v7] 49 ∧ MapC w v0 v1 v2 v3 v4 v5 v6 v7 l fl
theorem MapV.carry {w w' : World} {v : Value} {l : List I7} {fl : List F3} (h : MapV w v l fl) (hb : Below w.heap.size w w') : MapV w' v l fl := by
  rcases h with h | ⟨p, v0, v1, v2, v3, v4, v5, v6, v7, h1, h2, h3⟩
  · exact .inl h
  · exact .inr ⟨p, v0, v1, v2, v3, v4, v5, v6, v7, h1, h2.old hb, h3.carry hb⟩
theorem Blk.eightH {w : World} {g : Nat} {T : TypeId} {v0 v1 v2 v3 v4 v5 v6 v7 : Value} (h : Blk w g #[v0, v1, v2, v3, v4, v5, v6, v7] T) : w.cell? ⟨g, 0, none⟩ = some v0 ∧ w.cell? ⟨g, 1, none⟩ = some v1 ∧ w.cell? ⟨g, 2, none⟩ = some v2 ∧ w.cell? ⟨g, 3, none⟩ = some v3 ∧ w.cell? ⟨g, 4, none⟩ = some v4 ∧ w.cell? ⟨g, 5, none⟩ = some v5 ∧ w.cell? ⟨g, 6, none⟩ = some v6 ∧ w.cell? ⟨g, 7, none⟩ = some v7 := by
  unfold Blk at h
  simp [World.cell?, h]
/-- Eight slices, all nil. -/
def nil8 : Array Value := #[.slice none 0 0, .slice none 0 0, .slice none 0 0, .slice none 0 0, .slice none 0 0, .slice none 0 0, .slice none 0 0, .slice none 0 0]
set_option maxHeartbeats 2000000 in
theorem hkept_any (v : Value) (l : List I7) (fl : List F3) (w : World) (h : MapV w v l fl) :
    Calls Try.prog 21 #[v] w fun e w' => ∃ v0 v1 v2 v3 v4 v5 v6 v7, e = .returned (.agg #[v0, v1, v2, v3, v4, v5, v6, v7]) ∧ MapC w' v0 v1 v2 v3 v4 v5 v6 v7 l fl ∧ Below w.heap.size w w' := by
  have b0 := tbel1 w (.cells nil8 49)
  have B0 := (blk_new w nil8 49)
  unfold nil8 at b0 B0
  have q := B0.eightH
  rcases h with ⟨rfl, rfl⟩ | ⟨p, v0, v1, v2, v3, v4, v5, v6, v7, rfl, hp, hc⟩
  · go_enter Try.func21, Try.ntmps21
    go_wp2
    refine bodyPost_ret (v := .agg #[.slice none 0 0, .slice none 0 0, .slice none 0 0, .slice none 0 0, .slice none 0 0, .slice none 0 0, .slice none 0 0, .slice none 0 0]) (by simp [results, Try.results21, go_sem, *]) rfl ?_
    refine ⟨_, _, _, _, _, _, _, _, rfl, ⟨slI_nil _, slI_nil _, slI_nil _, slI_nil _, slI_nil _, slA_nil _, slI_nil _, slA_nil _⟩, ?_⟩
    exact b0
  · have hpl := hp.lt
    have r := (hp.old b0).eightH
    clear q B0
    have HC := Lib.hid hc
    obtain ⟨a0, k0, rfl, _⟩ := hc.c0
    obtain ⟨a1, k1, rfl, _⟩ := hc.c1
    obtain ⟨a2, k2, rfl, _⟩ := hc.c2
    obtain ⟨a3, k3, rfl, _⟩ := hc.c3
    obtain ⟨a4, k4, rfl, _⟩ := hc.c4
    obtain ⟨a5, k5, rfl, _⟩ := hc.c5
    obtain ⟨a6, k6, rfl, _⟩ := hc.c6
    obtain ⟨a7, k7, rfl, _⟩ := hc.c7
    clear hc hp
    generalize (atE (entN l 5 l.length)).length = n0 at *
    generalize (valE (entN l 5 l.length)).length = n1 at *
    generalize (atE (entN l 6 l.length)).length = n2 at *
    generalize (valE (entN l 6 l.length)).length = n3 at *
    generalize (atE (entC (aheadA l fl) l.length)).length = n4 at *
    generalize (valE (entC (aheadA l fl) l.length)).length = n5 at *
    generalize (atE (entC (dueA l fl) l.length)).length = n6 at *
    generalize (valE (entC (dueA l fl) l.length)).length = n7 at *
    go_enter Try.func21, Try.ntmps21
    go_wp2
    refine bodyPost_ret (v := .agg #[.slice a0 n0 k0, .slice a1 n1 k1, .slice a2 n2 k2, .slice a3 n3 k3, .slice a4 n4 k4, .slice a5 n5 k5, .slice a6 n6 k6, .slice a7 n7 k7]) (by simp [results, Try.results21, go_sem, *]) rfl ?_
    exact ⟨_, _, _, _, _, _, _, _, rfl, HC.out.carry (tbel1 w _), tbel1 w _⟩
end Go.Proofs.Ytniipfpfilenmaa
