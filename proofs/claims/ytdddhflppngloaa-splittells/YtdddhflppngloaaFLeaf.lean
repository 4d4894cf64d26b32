/- What a law's walk is told of data of nested structs and arrays that came in: cell by cell, the type that each cell reads by. Nothing of a program is in it. -/
import Derived.Deep.Slices
import Derived.ChangeSame
import Derived.WalkKit
import Derived.OpenShut
namespace Go.Proofs.Ytdddhflppngloaa
open Go.RowKit
set_option maxRecDepth 20000
set_option linter.unusedVariables false

/-- The cells' types of fields that lie one behind the other from off on. -/
def leavesF (P : Program) (rec : TypeId → Option (List TypeId)) : List Field → Nat → Option (List TypeId)
  | [], _ => some []
  | f :: fs, off => match rec f.type, leavesF P rec fs (off + P.cellsOf f.type) with
    | some a, some b => if f.offset = off then some (a ++ b) else none
    | _, _ => none
/-- The types of a type's cells, structs and arrays taken apart. -/
def leaves (P : Program) : Nat → TypeId → Option (List TypeId)
  | 0, _ => none
  | f + 1, t => (match P.underlying t with
    | some (.struct fs) => leavesF P (leaves P f) fs.toList 0
    | some (.array n e) => (leaves P f e).map fun l => (List.replicate n l).flatten
    | some _ => some [t]
    | none => none).bind fun l => if l.length = P.cellsOf t then some l else none
/-- What a cell of that type holds. -/
def LeafOk (P : Program) (u : TypeId) (c : Value) : Prop := (∀ k, P.underlying u = some (.int k) → ∃ z, c = .int k z ∧ (Lit.int k z).wf = true) ∧ (P.underlying u = some .bool → ∃ b, c = .bool b)
/-- A slice that came in, of elements whose cells are of the types ts. -/
def IsFlat (P : Program) (ts : List TypeId) (w : World) (a : Option Addr) (len cap : Nat) : Prop :=
  (a = none ∧ len = 0 ∧ cap = 0) ∨ ∃ ad, a = some ad ∧ len ≤ cap ∧ cap ≤ maxLen ∧ ∀ i, i < len → ∃ cs : List Value, cs.length = ts.length ∧ (∀ (j : Nat) (c : Value), cs[j]? = some c → w.cell? (ad.add (i * ts.length + j)) = some c) ∧ ∀ (j : Nat) (u : TypeId) (c : Value), ts[j]? = some u → cs[j]? = some c → LeafOk P u c
section
variable {H : Type} {enc : TypeId × Value → H} {P : Program} {w : World} {base : Nat} {spare : Nat → Bool} {held : Bool}
theorem leaves_length : ∀ {f : Nat} {t : TypeId} {ts : List TypeId}, leaves P f t = some ts → ts.length = P.cellsOf t
  | 0, _, _, h => by simp [leaves] at h
  | f + 1, t, ts, h => by
    unfold leaves at h
    obtain ⟨l, _, h⟩ := Option.bind_eq_some_iff.1 h
    split at h
    · cases h; assumption
    · cases h
/-- Each cell reads by its type. -/
def Leafy (enc : TypeId × Value → H) (P : Program) (w : World) (base : Nat) (spare : Nat → Bool) (held : Bool) (ts : List TypeId) (cs : List Value) : Prop :=
  ∀ (i : Nat) (u : TypeId) (c : Value), ts[i]? = some u → cs[i]? = some c → ∃ n y, DataW.trod enc P w base spare held n u [c] = some y
theorem leavesF_trod {rec : TypeId → Option (List TypeId)} {cs : List Value} {k : Nat} (hlen : ∀ t ts, rec t = some ts → ts.length = P.cellsOf t)
    (ih : ∀ t ts, rec t = some ts → ∀ cs x, cs.length = ts.length → DataW.trod enc P w base spare held k t cs = some x → Leafy enc P w base spare held ts cs) :
    ∀ (l : List Field) (off : Nat) (ts : List TypeId), leavesF P rec l off = some ts → off + ts.length ≤ cs.length →
      (∀ f ∈ l, ∃ y, DataW.trod enc P w base spare held k f.type ((cs.drop f.offset).take (P.cellsOf f.type)) = some y) → Leafy enc P w base spare held ts (cs.drop off)
  | [], off, ts, h, _, _ => by
    simp only [leavesF, Option.some.injEq] at h
    subst h
    intro i u c hu
    simp at hu
  | f :: fs, off, ts, h, hle, hall => by
    unfold leavesF at h
    split at h
    · rename_i a b ha hb
      split at h
      · rename_i hoff
        cases h
        have la := hlen _ _ ha
        obtain ⟨y, hy⟩ := hall f (List.mem_cons_self ..)
        have h1 := ih _ _ ha _ _ (by simp [hoff] at hle ⊢; omega) hy
        have h2 := leavesF_trod hlen ih fs _ b hb (by simp at hle; omega) (fun g hg => hall g (List.mem_cons_of_mem _ hg))
        intro i u c hu hc
        by_cases hi : i < a.length
        · refine h1 i u c (by rwa [List.getElem?_append_left hi] at hu) ?_
          rw [hoff, List.getElem?_take_of_lt (by omega)]
          exact hc
        · rw [List.getElem?_append_right (by omega)] at hu
          refine h2 (i - a.length) u c hu ?_
          rw [List.getElem?_drop] at hc ⊢
          rw [← hc]
          congr 1
          omega
      · cases h
    · cases h
theorem flat_at {α : Type} (l : List α) : ∀ (n i : Nat), i < n * l.length → (List.replicate n l).flatten[i]? = l[i % l.length]?
  | 0, i, h => by omega
  | n + 1, i, h => by
    rw [List.replicate_succ, List.flatten_cons]
    by_cases hi : i < l.length
    · rw [List.getElem?_append_left hi, Nat.mod_eq_of_lt hi]
    · rw [List.getElem?_append_right (by omega), flat_at l n (i - l.length) (by rw [Nat.succ_mul] at h; omega), Nat.mod_eq_sub_mod (a := i) (by omega)]
theorem leaves_trod : ∀ (f : Nat) (t : TypeId) (ts : List TypeId), leaves P f t = some ts → ∀ (fuel : Nat) (cs : List Value) (x : DataW H × List MemPlace), cs.length = ts.length → DataW.trod enc P w base spare held fuel t cs = some x → Leafy enc P w base spare held ts cs
  | 0, _, _, h => by simp [leaves] at h
  | f + 1, t, ts, h => by
    intro fuel cs x hcs hx
    have hl := leaves_length h
    unfold leaves at h
    obtain ⟨l, hm, h⟩ := Option.bind_eq_some_iff.1 h
    split at h
    · cases h
      split at hm
      · rename_i fs ht
        obtain ⟨xs, k, _, _, _, hxl, hf⟩ := DataW.trod_struct ht hx
        have := leavesF_trod (enc := enc) (w := w) (base := base) (spare := spare) (held := held) (cs := cs) (k := k) (fun t ts => leaves_length) (fun t ts ht cs x => leaves_trod f t ts ht k cs x) fs.toList 0 ts hm (by omega) (fun g hg => by
          obtain ⟨j, hj, hjg⟩ := List.mem_iff_getElem.1 hg
          have hj' : j < fs.size := by simpa using hj
          have h1 := hf j g (by rw [← hjg]; simp [hj'])
          rw [List.getElem?_eq_getElem (by omega)] at h1
          exact ⟨_, h1⟩)
        simpa using this
      · rename_i n e ht
        obtain ⟨l, he, hl'⟩ := Option.map_eq_some_iff.1 hm
        have le := leaves_length he
        obtain ⟨xs, k, _, _, _, hxl, hf⟩ := DataW.trod_array ht hx
        intro i u c hu hc
        have hi : i < ts.length := (List.getElem?_eq_some_iff.1 hu).1
        have htl : ts.length = n * l.length := by rw [← hl']; simp [List.length_flatten]
        have h0 : 0 < l.length := Nat.pos_of_ne_zero fun h => by rw [h] at htl; omega
        have hq : i / l.length < n := Nat.div_lt_of_lt_mul (by rw [Nat.mul_comm]; omega)
        have h1 := hf (i / l.length) hq
        rw [List.getElem?_eq_getElem (by omega)] at h1
        have hmod := Nat.mod_lt i h0
        have hdm := Nat.div_add_mod i l.length
        have hlen : ((cs.drop (i / l.length * P.cellsOf e)).take (P.cellsOf e)).length = l.length := by
          have hle : (i / l.length + 1) * l.length ≤ n * l.length := Nat.mul_le_mul_right _ hq
          rw [Nat.add_mul, Nat.one_mul] at hle
          simp only [List.length_take, List.length_drop, ← le]
          omega
        refine leaves_trod f e l he k _ _ hlen h1 (i % l.length) u c ?_ ?_
        · rw [← hl', flat_at l n i (by omega)] at hu
          exact hu
        · rw [List.getElem?_take_of_lt (by omega), List.getElem?_drop, ← le, Nat.mul_comm, hdm]
          exact hc
      · cases hm
        intro i u c hu hc
        have h1 : cs.length = 1 := by simpa using hcs
        match cs, h1 with
        | [v], _ =>
          cases i with
          | zero =>
            simp at hu hc
            subst hu hc
            exact ⟨fuel, x, hx⟩
          | succ i => simp at hu
      · cases hm
    · cases h
/-- A struct or an array by value: its cells. -/
theorem leaves_agg {r : Reach} {b0 f : Nat} {t : TypeId} {ts : List TypeId} {cs : Array Value} {d : DataW H} {p : List MemPlace} (hts : leaves P f t = some ts) (hsz : cs.size = P.cellsOf t) (h : DataW.Trod enc P w base spare held t (.agg cs) d p) : Leafy enc P w base spare held ts cs.toList := by
  obtain ⟨fuel, hf⟩ := h
  exact leaves_trod f t ts hts fuel _ _ (by simp [leaves_length hts, hsz]) hf
/-- A slice of such: each element's cells. -/
theorem leaves_slice {f : Nat} {t e : TypeId} {ts : List TypeId} {fuel len cap : Nat} {a : Option Addr} {x : DataW H × List MemPlace} (ht : P.underlying t = some (.slice e)) (hts : leaves P f e = some ts) (h : DataW.trod enc P w base spare held fuel t [.slice a len cap] = some x) :
    (a = none ∧ len = 0 ∧ cap = 0) ∨ ∃ ad, a = some ad ∧ len ≤ cap ∧ cap ≤ maxLen ∧ ∀ i, i < len → ∃ cs : List Value, cs.length = ts.length ∧ (∀ j c, cs[j]? = some c → w.cell? (ad.add (i * ts.length + j)) = some c) ∧ Leafy enc P w base spare held ts cs := by
  have le := leaves_length hts
  rcases Go.Deep.open_slice ht h with ⟨hcs, _⟩ | ⟨ad, l, c, m, n, D, Pl, hcs, _, hl, hm, hmm, _, hall⟩
  · simp at hcs
    exact .inl ⟨hcs.1, hcs.2.1, hcs.2.2⟩
  · simp at hcs
    obtain ⟨rfl, rfl, rfl⟩ := hcs
    refine .inr ⟨ad, rfl, hl, hm, fun i hi => ?_⟩
    obtain ⟨cs, hc, htr⟩ := hall i (by rw [hmm]; split <;> omega)
    obtain ⟨_, hlen, hat⟩ := World.cells?_some hc
    refine ⟨cs, by omega, fun j c hj => ?_, leaves_trod f e ts hts n cs _ (by omega) htr⟩
    have hjl : j < cs.length := (List.getElem?_eq_some_iff.1 hj).1
    rw [le, ← Go.Deep.add_add, hat j (by omega), hj]
theorem Leafy.int {ts : List TypeId} {cs : List Value} (h : Leafy enc P w base spare held ts cs) (i : Nat) {u : TypeId} {c : Value} {k : IntKind} (hu : ts[i]? = some u) (hk : P.underlying u = some (.int k)) (hc : cs[i]? = some c) : ∃ z, c = .int k z ∧ (Lit.int k z).wf = true := by
  obtain ⟨n, y, hy⟩ := h i u c hu hc
  obtain ⟨z, e, _, hz⟩ := DataW.trod_int hk hy
  exact ⟨z, by simpa using e, hz⟩
theorem Leafy.bool {ts : List TypeId} {cs : List Value} (h : Leafy enc P w base spare held ts cs) (i : Nat) {u : TypeId} {c : Value} (hu : ts[i]? = some u) (hk : P.underlying u = some .bool) (hc : cs[i]? = some c) : ∃ b, c = .bool b := by
  obtain ⟨n, y, hy⟩ := h i u c hu hc
  obtain ⟨b, e, _⟩ := DataW.trod_bool hk hy
  exact ⟨b, by simpa using e⟩
theorem Leafy.ok {ts : List TypeId} {cs : List Value} (h : Leafy enc P w base spare held ts cs) (i : Nat) (u : TypeId) (c : Value) (hu : ts[i]? = some u) (hc : cs[i]? = some c) : LeafOk P u c :=
  ⟨fun k hk => h.int i hu hk hc, fun hk => h.bool i hu hk hc⟩
theorem flat_of {f : Nat} {t e : TypeId} {ts : List TypeId} {fuel len cap : Nat} {a : Option Addr} {x : DataW H × List MemPlace} (ht : P.underlying t = some (.slice e)) (hts : leaves P f e = some ts) (h : DataW.trod enc P w base spare held fuel t [.slice a len cap] = some x) : IsFlat P ts w a len cap := by
  rcases leaves_slice ht hts h with h0 | ⟨ad, ha, hl, hm, hall⟩
  · exact .inl h0
  · refine .inr ⟨ad, ha, hl, hm, fun i hi => ?_⟩
    obtain ⟨cs, h1, h2, h3⟩ := hall i hi
    exact ⟨cs, h1, h2, h3.ok⟩
end
end Go.Proofs.Ytdddhflppngloaa
