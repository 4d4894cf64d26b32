/- Slices of integers of any kind: where they lie, what a call owns, append; Nums. What is written or read: the plain part, where it lies; the document's Ints and Write. append of a string onto bytes of one's own. -/
import Derived.Test.YtjfjekncmejfpaaVRget
import Derived.Laws.IdiomStrings
namespace Go.Proofs.Ytjfjekncmejfpaa
open Go.RowKit
set_option maxRecDepth 20000
set_option linter.unusedVariables false

/-- The numbers of a list lie where a slice says (a slice of none may lie nowhere). -/
def RowK (k : IntKind) (w : World) (a : Option Addr) (cap : Nat) (l : List Int) : Prop :=
  l.length ≤ cap ∧ ∀ j, j < l.length → ∃ b off, a = some ⟨b, off, none⟩ ∧ b < w.heap.size ∧ w.cell? ⟨b, off + j, none⟩ = some (.int k (l.getD j 0))
theorem RowK.row {w : World} {a : Option Addr} {cap : Nat} {l : List Int} (h : RowK .u8 w a cap l) : Row w a cap l := h
theorem Row.rowK {w : World} {a : Option Addr} {cap : Nat} {l : List Int} (h : Row w a cap l) : RowK .u8 w a cap l := h
section
variable {k : IntKind} {w w' : World} {a : Option Addr} {cap : Nat} {l : List Int}
theorem RowK.carry (h : RowK k w a cap l) (hb : Below w.heap.size w w') : RowK k w' a cap l := ⟨h.1, fun j hj => by
  obtain ⟨b, off, rfl, hB, hc⟩ := h.2 j hj
  exact ⟨b, off, rfl, Nat.lt_of_lt_of_le hB hb.size, (hb.cell (p := ⟨b, off + j, none⟩) hB).trans hc⟩⟩
theorem RowK.none (k : IntKind) (w : World) (cap : Nat) : RowK k w none cap [] := ⟨Nat.zero_le _, fun j hj => absurd hj (by simp)⟩
theorem rowK_new (k : IntKind) (w : World) (c : Int) (cap : Nat) (e : TypeId) (hc : 1 ≤ cap) : RowK k (w.alloc (.cells #[.int k c] e)) (some ⟨w.heap.size, 0, none⟩) cap [c] := ⟨hc, fun j hj => by
  obtain rfl : j = 0 := by simp at hj; omega
  exact ⟨_, _, rfl, by simp, by simp [World.cell?_alloc_at]⟩⟩
end
/-- A slice of integers that the call made. -/
abbrev OwnK (k : IntKind) (e : TypeId) (w : World) (B : Nat) (v : Value) (l : List Int) : Prop := w.ownsRow B e 1 v l.length (l.map (Value.int k))
theorem OwnK.row {k : IntKind} {e : TypeId} {w : World} {B : Nat} {v : Value} {l : List Int} (h : OwnK k e w B v l) : ∃ a cap, v = .slice a l.length cap ∧ RowK k w a cap l := by
  rcases h.2 with ⟨rfl, h0⟩ | ⟨g, cap, cur, rfl, hb, hg, hnc, hm, hs, ht⟩
  · obtain rfl : l = [] := List.eq_nil_of_length_eq_zero h0
    exact ⟨none, 0, rfl, RowK.none _ _ _⟩
  · refine ⟨some ⟨g, 0, none⟩, cap, rfl, hnc, fun j hj => ⟨g, 0, rfl, (Array.getElem?_eq_some_iff.1 hg).1, ?_⟩⟩
    have := World.ownsRow.cellAt (g := g) (cap := cap) h j (by omega)
    rw [Nat.zero_add, this]
    simp [hj]
theorem run_appK {T e : TypeId} {k : IntKind} {by' : Nat} (hT : Try.prog.underlying T = some (.slice e)) (hI : (Try.prog.info? e).map (fun i => (i.zero, i.size, i.bytes)) = some (some (.int k 0), 1, by')) (hby : by' ≤ 8)
    (w : World) (ty : TypeId) (B : Nat) (v : Value) (l : List Int) (hown : OwnK k e w B v l) (a : Option Addr) (c : Nat) (m : List Int) (hr : RowK k w a c m) (hs : l.length + m.length ≤ 100000000) (hB : B ≤ w.heap.size) :
    ∃ v' w', (Builtin.append_ #[T, T] ty #[v, .slice a m.length c]).run Try.prog w = .ok v' w' ∧ OwnK k e w' B v' (l ++ m) ∧ w.grownBy w' v.ownBlock := by
  obtain ⟨i, hi, hz, h1, h2⟩ := info_parts hI
  have hbb : (l.length + m.length) * by' ≤ 140737488355328 := by
    have := Nat.mul_le_mul hs hby
    omega
  rcases Nat.eq_zero_or_pos m.length with h0 | h0
  · obtain rfl : m = [] := List.eq_nil_of_length_eq_zero h0
    cases a with
    | none =>
      refine ⟨v, w, ?_, by simpa [OwnK] using hown, ⟨rfl, rfl, rfl, Nat.le_refl _, fun _ _ _ => rfl⟩⟩
      rcases hown.2 with ⟨rfl, e⟩ | ⟨g, cap, cur, rfl, _, _, hnc, _⟩
      · simp [Builtin.append_, run_underlying hT, sizeOf, typeInfo, hi, Builtin.lenOf, Builtin.firstCells]
      · simp [Builtin.append_, run_underlying hT, sizeOf, typeInfo, hi, Builtin.lenOf, Builtin.firstCells, hnc, storeCells]
    | some ad =>
      obtain ⟨v', w', e, o, g, _⟩ := run_append_own (P := Try.prog) w B T ty e i _ 1 by' hT hi hz h1 h2 rfl (by decide) v l.length _ hown ad 0 c [] rfl (by simp) (by simp) (by simp only [maxLen]; omega) (by simpa using hbb) hB
      exact ⟨v', w', e, by simpa [OwnK] using o, g⟩
  · obtain ⟨b, off, rfl, _⟩ := hr.2 0 h0
    obtain ⟨v', w', e, o, g, _⟩ := run_append_own (P := Try.prog) w B T ty e i _ 1 by' hT hi hz h1 h2 rfl (by decide) v l.length _ hown ⟨b, off, none⟩ m.length c (m.map (Value.int k)) (by simp) (fun j u hj => by
      have hj' : j < m.length := by
        rcases Nat.lt_or_ge j m.length with h | h
        · exact h
        · simp [h] at hj
      obtain ⟨b', off', e, _, hc⟩ := hr.2 j hj'
      obtain ⟨rfl, rfl⟩ : b = b' ∧ off = off' := by simpa using e
      rw [Go.WideShapes.add_plain, hc, ← hj]
      simp [hj']) (fun u hu => by
      obtain ⟨x, _, rfl⟩ := List.mem_map.1 hu
      rfl) (by simp only [maxLen]; omega) hbb hB
    exact ⟨v', w', e, by simpa [OwnK] using o, g⟩
theorem OwnK.below {k : IntKind} {e : TypeId} {w w0 w' : World} {B : Nat} {v : Value} {l : List Int} (h : OwnK k e w B v l) (hb : Below B w0 w) (g : w.grownBy w' v.ownBlock) (hB : B ≤ w.heap.size) : Below B w0 w' :=
  hb.grown g hB fun j hj => (World.ownsRow.lt h j hj).1
theorem wpList_appK {T e : TypeId} {k : IntKind} {by' : Nat} (hT : Try.prog.underlying T = some (.slice e)) (hI : (Try.prog.info? e).map (fun i => (i.zero, i.size, i.bytes)) = some (some (.int k 0), 1, by')) (hby : by' ≤ 8)
    {w : World} {ops : Array Oper} {rest : List Oper} {o : Oper} {a : Act} {Q : Exit → Act → World → Prop} (hgd : o.guard = none) (s x : Operand)
    (ho : o.op = .call { callee := .builtin .append, args := #[s, x], argTypes := #[T, T] }) {B : Nat} {v : Value} {l : List Int} (hs : a.eval s = v) (hown : OwnK k e w B v l)
    {ad : Option Addr} {c : Nat} {m : List Int} (hx : a.eval x = .slice ad m.length c) (hr : RowK k w ad c m) (hsz : l.length + m.length ≤ 100000000) (hB : B ≤ w.heap.size)
    (h : ∀ v' w', OwnK k e w' B v' (l ++ m) → w.grownBy w' v.ownBlock → wpList Try.prog ops Q rest (a.put o.dst v') w') : wpList Try.prog ops Q (o :: rest) a w := by
  obtain ⟨v', w', hr, h2, h3⟩ := run_appK hT hI hby w o.type B v l hown ad c m hr hsz hB
  refine wpList_plain hgd fun _ hK => ?_
  unfold Oper.wp execOp
  simp only [ho, resolve, invoke, builtin, Sem.run_bind, Sem.run_pure, Result.andThen_ok, List.map_toArray, List.map_cons, List.map_nil, hs, hx, hr]
  exact hK _ _ (h v' w' h2 h3)
theorem OwnK.alloc1 {k : IntKind} {e : TypeId} {w : World} {B : Nat} {v : Value} {l : List Int} (h : OwnK k e w B v l) (o : Obj) : OwnK k e (w.alloc o) B v l := World.ownsRow.alloc h o

end Go.Proofs.Ytjfjekncmejfpaa
namespace Go.Proofs.Ytjfjekncmejfpaa
open Go.RowKit
set_option maxRecDepth 20000
set_option linter.unusedVariables false

structure OpD where
  k : Int
  s : ByteArray
  n : Int
  b : Bool
  l : List Int
def in64 (n : Int) : Prop := -9223372036854775808 ≤ n ∧ n ≤ 9223372036854775807
def OpD.ok (o : OpD) : Prop := in64 o.k ∧ in64 o.n ∧ (∀ x ∈ o.l, in64 x) ∧ o.s.size ≤ 100 ∧ o.l.length ≤ 100
/-- The bytes of a string. -/
def bytesOf (s : ByteArray) : List Int := s.data.toList.map fun b => (b.toNat : Int)
theorem bytesOf_len (s : ByteArray) : (bytesOf s).length = s.size := by simp [bytesOf]
theorem bytesOf_byt (s : ByteArray) : Byt (bytesOf s) := fun x hx => by
  obtain ⟨b, _, rfl⟩ := List.mem_map.1 hx
  have := b.toNat_lt
  omega
def intsL (l : List Int) : List Int := chainL (foldZ l.length) ++ l.flatMap fun n => chainL (foldZ n)
def writeD (o : OpD) : List Int :=
  if o.k = 0 then bytesOf o.s else if o.k = 1 then chainL (foldZ o.n) else if o.k = 2 then [if o.b then 1 else 0] else if o.k = 3 then intsL o.l else []
theorem chains_len (l : List Int) (h : ∀ x ∈ l, in64 x) : (l.flatMap fun n => chainL (foldZ n)).length ≤ 10 * l.length := by
  induction l with
  | nil => simp
  | cons x l ih =>
    have hx := h x (by simp)
    have hr := fold_range x hx.1 hx.2
    have := chain_ten _ hr.1 hr.2
    have := ih fun y hy => h y (by simp [hy])
    simp only [List.flatMap_cons, List.length_append, List.length_cons]
    omega
theorem chains_byt (l : List Int) (h : ∀ x ∈ l, in64 x) : Byt (l.flatMap fun n => chainL (foldZ n)) := fun y hy => by
  obtain ⟨x, hx, hy⟩ := List.mem_flatMap.1 hy
  have := h x hx
  exact chain_bytes _ (fold_range x this.1 this.2).1 y hy
theorem ints_len (l : List Int) (h : ∀ x ∈ l, in64 x) (hl : l.length ≤ 1000000) : (intsL l).length ≤ 10 + 10 * l.length := by
  have := chains_len l h
  have hr := fold_range (l.length : Int) (by omega) (by omega)
  have := chain_ten _ hr.1 hr.2
  unfold intsL
  rw [List.length_append]
  omega
theorem ints_byt (l : List Int) (h : ∀ x ∈ l, in64 x) (hl : l.length ≤ 1000000) : Byt (intsL l) :=
  Byt.app (chain_bytes _ (fold_range (l.length : Int) (by omega) (by omega)).1) (chains_byt l h)
theorem write_len (o : OpD) (h : o.ok) : (writeD o).length ≤ 1010 := by
  obtain ⟨h1, h2, h3, h4, h5⟩ := h
  unfold writeD
  split
  · rw [bytesOf_len]; omega
  · split
    · have hr := fold_range o.n h2.1 h2.2
      have := chain_ten _ hr.1 hr.2
      omega
    · split
      · simp
      · split
        · have := ints_len o.l h3 (by omega); omega
        · simp
theorem write_byt (o : OpD) (h : o.ok) : Byt (writeD o) := by
  obtain ⟨h1, h2, h3, h4, h5⟩ := h
  unfold writeD
  split
  · exact bytesOf_byt _
  · split
    · exact chain_bytes _ (fold_range o.n h2.1 h2.2).1
    · split
      · intro x hx
        simp at hx
        split at hx <;> omega
      · split
        · exact ints_byt _ h3 (by omega)
        · intro x hx; simp at hx
/-- One of them lies at an address. -/
def OpAt (w : World) (b off : Nat) (o : OpD) : Prop :=
  w.cell? ⟨b, off, none⟩ = some (.int .i64 o.k) ∧ w.cell? ⟨b, off + 1, none⟩ = some (.string o.s) ∧ w.cell? ⟨b, off + 2, none⟩ = some (.int .i64 o.n) ∧ w.cell? ⟨b, off + 3, none⟩ = some (.bool o.b) ∧
  ∃ a c, w.cell? ⟨b, off + 4, none⟩ = some (.slice a o.l.length c) ∧ RowK .i64 w a c o.l
theorem OpAt.carry {w w' : World} {b off : Nat} {o : OpD} (h : OpAt w b off o) (hB : b < w.heap.size) (hb : Below w.heap.size w w') : OpAt w' b off o := by
  obtain ⟨h0, h1, h2, h3, a, c, h4, h5⟩ := h
  exact ⟨(hb.cell (p := ⟨b, off, none⟩) hB).trans h0, (hb.cell (p := ⟨b, off + 1, none⟩) hB).trans h1, (hb.cell (p := ⟨b, off + 2, none⟩) hB).trans h2, (hb.cell (p := ⟨b, off + 3, none⟩) hB).trans h3,
    a, c, (hb.cell (p := ⟨b, off + 4, none⟩) hB).trans h4, h5.carry hb⟩
/-- A slice of them. -/
def Ops (w : World) (a : Option Addr) (cap : Nat) (l : List OpD) : Prop :=
  l.length ≤ cap ∧ ∀ j, j < l.length → ∃ b off o, a = some ⟨b, off, none⟩ ∧ b < w.heap.size ∧ l[j]? = some o ∧ OpAt w b (off + j * 5) o
theorem Ops.carry {w w' : World} {a : Option Addr} {cap : Nat} {l : List OpD} (h : Ops w a cap l) (hb : Below w.heap.size w w') : Ops w' a cap l := ⟨h.1, fun j hj => by
  obtain ⟨b, off, o, rfl, hB, ho, hc⟩ := h.2 j hj
  exact ⟨b, off, o, rfl, Nat.lt_of_lt_of_le hB hb.size, ho, hc.carry hB hb⟩⟩
theorem Own.carry {w w' : World} {B : Nat} {v : Value} {l : List Int} (h : Own w B v l) (hb : Below w.heap.size w w') : Own w' B v l :=
  World.ownsRow.kept (row := none) h ⟨hb.os, hb.tape, hb.output, hb.size, fun i hi _ => hb.block i hi⟩ (by cases v.ownBlock <;> simp)

theorem take_flat (l : List Int) (k : Nat) (h : k < l.length) (f : Int → List Int) : (l.take (k + 1)).flatMap f = (l.take k).flatMap f ++ f (l.getD k 0) := by
  rw [List.take_succ_eq_append_getElem h, List.flatMap_append]
  simp [h]
/-- '[]byte(s)' -/
theorem wpList_bytes {w : World} {ops : Array Oper} {rest : List Oper} {o : Oper} {a : Act} {Q : Exit → Act → World → Prop} (hgd : o.guard = none) (x : Operand)
    (ho : o.op = .convert 9 22 x) {s : ByteArray} (hx : a.eval x = .string s)
    (h : ∀ ad cap w', Row w' ad cap (bytesOf s) → Below w.heap.size w w' → wpList Try.prog ops Q rest (a.put o.dst (.slice ad (bytesOf s).length cap)) w') : wpList Try.prog ops Q (o :: rest) a w := by
  have hr := run_bytes_of_string (P := Try.prog) w 9 22 5 s Try.underlying9 Try.underlying22 Try.underlying5
  refine wpList_plain hgd fun _ hK => ?_
  unfold Oper.wp execOp
  simp only [ho, hx, Sem.run_bind, hr, Sem.run_pure, Result.andThen_ok]
  rw [← bytesOf_len s]
  refine hK _ _ (h _ _ _ ⟨?_, fun j hj => ⟨w.heap.size, 0, rfl, by simp, ?_⟩⟩ ?_)
  · rw [bytesOf_len]; exact grownCap_ge _ _ _ _
  · rw [Nat.zero_add]
    have hj' : j < s.size := by rw [← bytesOf_len]; exact hj
    refine (World.cell?_alloc_mark w.drew _ 5 _ j).trans ?_
    rw [bytesOf_len]
    have hj2 : j < s.data.size := hj'
    simp [bytesRow, bytesOf, Array.getElem?_append, hj']
  · exact ((Below.refl _ w).drew).alloc (Nat.le_refl _) _
theorem take_flatO (l : List OpD) (k : Nat) (o : OpD) (h : l[k]? = some o) : (l.take (k + 1)).flatMap writeD = (l.take k).flatMap writeD ++ writeD o := by
  rw [List.take_add_one, h, List.flatMap_append]
  simp
theorem writes_len (l : List OpD) (h : ∀ o ∈ l, o.ok) : (l.flatMap writeD).length ≤ 1010 * l.length := by
  induction l with
  | nil => simp
  | cons x l ih =>
    have := write_len x (h x (by simp))
    have := ih fun y hy => h y (by simp [hy])
    simp only [List.flatMap_cons, List.length_append, List.length_cons]
    omega
end Go.Proofs.Ytjfjekncmejfpaa
namespace Go.Proofs.Ytjfjekncmejfpaa
open Go.RowKit
set_option maxRecDepth 20000
set_option linter.unusedVariables false
set_option linter.unusedSimpArgs false

theorem und9 : Try.prog.underlying 9 = some .string := by kernel_rfl
theorem str_cells (s : ByteArray) : (s.extract 0 s.size).data.map (fun b => Value.int .u8 (b.toNat : Int)) = ((bytesOf s).map (Value.int .u8)).toArray := by
  have h : s.extract 0 s.size = s := by simp
  rw [h]
  apply Array.ext'
  simp [bytesOf]
theorem run_first_str (w : World) (s : ByteArray) (k : Nat) : (Builtin.firstCells k s.size (.string s)).run Try.prog w = .ok ((bytesOf s).map (Value.int .u8)).toArray w := by
  show Sem.run Try.prog (pure ((s.extract 0 s.size).data.map fun b => Value.int .u8 (b.toNat : Int))) w = _
  rw [str_cells]
  rfl
theorem run_app_str (w : World) (ty : TypeId) (B : Nat) (v : Value) (l : List Int) (hown : Own w B v l) (s : ByteArray) (hs : l.length + s.size ≤ 100000000) (hB : B ≤ w.heap.size) :
    ∃ v' w', (Builtin.append_ #[22, 9] ty #[v, .string s]).run Try.prog w = .ok v' w' ∧ Own w' B v' (l ++ bytesOf s) ∧ w.grownBy w' v.ownBlock := by
  obtain ⟨i, hi, hz, h1, h2⟩ := info_parts info5
  obtain ⟨news, hnews⟩ : ∃ news, news = (bytesOf s).map (Value.int .u8) := ⟨_, rfl⟩
  have hnl : news.length = s.size := by rw [hnews, List.length_map, bytesOf_len]
  have hone : ∀ u ∈ news, u.oneCell' = true := fun u hu => by
    rw [hnews] at hu
    obtain ⟨x, _, rfl⟩ := List.mem_map.1 hu
    rfl
  have hfc := fun x => run_first_str x s 1
  rw [← hnews] at hfc
  have hmap : (l ++ bytesOf s).map (Value.int .u8) = l.map (Value.int .u8) ++ news := by rw [List.map_append, hnews]
  have hlen : (l ++ bytesOf s).length = l.length + s.size := by rw [List.length_append, bytesOf_len]
  have hll : (l.map (Value.int .u8)).length = l.length := List.length_map _
  have grown : ∀ (old : Nat) (row : Option Nat),
      Own (w.drew.alloc (.cells ((l.map (Value.int .u8)).toArray ++ news.toArray ++ Builtin.zeroCells (Value.int .u8 0).cells (grownCap w (l.length + s.size) old 5 - (l.length + s.size))) 5)) B
        (.slice (some ⟨w.heap.size, 0, none⟩) (l.length + s.size) (grownCap w (l.length + s.size) old 5)) (l ++ bytesOf s) ∧
      w.grownBy (w.drew.alloc (.cells ((l.map (Value.int .u8)).toArray ++ news.toArray ++ Builtin.zeroCells (Value.int .u8 0).cells (grownCap w (l.length + s.size) old 5 - (l.length + s.size))) 5)) row := by
    intro old row
    have hge := grownCap_ge w (l.length + s.size) old 5
    have hcm : grownCap w (l.length + s.size) old 5 ≤ maxLen := grownCap_le_maxLen w (l.length + s.size) old 5 (by simp only [maxLen]; omega)
    refine ⟨⟨by simp, .inr ⟨w.heap.size, _, _, by rw [hlen], hB, heap_alloc_new w.drew _, by rw [hlen]; exact hge, hcm, ?_, ?_⟩⟩, ⟨rfl, rfl, rfl, by simp, fun k hk _ => heap_alloc_old w.drew _ hk⟩⟩
    · simp only [Array.size_append, List.size_toArray, size_zeroCells, hll, hnl]
      have : (Value.int .u8 0).cells.size = 1 := rfl
      rw [this]
      omega
    · simp only [Array.toList_append, List.append_assoc]
      rw [← List.append_assoc, hmap]
      exact List.take_left' (by rw [List.length_append, hll, hnl, hlen]; omega)
  rcases hown.2 with ⟨rfl, h0⟩ | ⟨g, cap, cur, rfl, hbg, hg, hnc, hcm, hcs, htake⟩
  · obtain rfl : l = [] := List.eq_nil_of_length_eq_zero h0
    by_cases hm : s.size = 0
    · have hb : bytesOf s = [] := List.eq_nil_of_length_eq_zero (by rw [bytesOf_len, hm])
      refine ⟨.slice none 0 0, w, ?_, by rw [hb]; exact World.ownsRow_nil _ _ _ _, ⟨rfl, rfl, rfl, Nat.le_refl _, fun _ _ _ => rfl⟩⟩
      simp [Builtin.append_, run_underlying Try.underlying22, run_underlying und9, sizeOf, typeInfo, hi, Builtin.lenOf, hm, Builtin.firstCells]
    · have hr := run_append_nil_string (P := Try.prog) w 22 9 ty 5 i _ Try.underlying22 und9 hi hz s (by omega) (by omega) (by rw [h2]; omega)
      have hgr := grown 0 (Value.ownBlock (.slice none 0 0))
      simp only [List.length_nil, List.map_nil, Nat.zero_add, List.nil_append, Array.empty_append] at hgr ⊢
      have e : s.data.map (fun b => Value.int .u8 (b.toNat : Int)) = news.toArray := by
        rw [hnews]; apply Array.ext'; simp [bytesOf]
      rw [e] at hr
      exact ⟨_, _, hr, hgr.1, hgr.2⟩
  · by_cases hroom : l.length + s.size ≤ cap
    · have hfit : l.length + news.length ≤ cur.size := by rw [hnl, hcs]; omega
      have hst := run_storeCells_at Try.prog g l.length 5 news 0 cur w hg (by simpa using hfit) hone
      simp only [Nat.add_zero] at hst
      have hr : (Builtin.append_ #[22, 9] ty #[.slice (some ⟨g, 0, none⟩) l.length cap, .string s]).run Try.prog w = .ok (.slice (some ⟨g, 0, none⟩) (l.length + s.size) cap) (w.setRow g (cur.toList.take l.length ++ news ++ cur.toList.drop (l.length + news.length)).toArray) := by
        simp [Builtin.append_, run_underlying Try.underlying22, run_underlying und9, sizeOf, typeInfo, hi, h1, Builtin.lenOf, hroom, hfc, Addr.add_lit, hst]
      refine ⟨_, _, hr, ⟨by simp, .inr ⟨g, cap, _, by rw [hlen], hbg, setRow_heap w g cur _ 5 _ hg, by rw [hlen]; exact hroom, hcm, ?_, ?_⟩⟩, ⟨rfl, rfl, rfl, by simp, fun k _ hk => setRow_other w g k _ (fun e => hk (by simp [Value.ownBlock, e]))⟩⟩
      · simp only [List.size_toArray, List.length_append, List.length_take, List.length_drop, Array.length_toList]
        omega
      · have ht : cur.toList.take l.length = l.map (Value.int .u8) := by simpa using htake
        rw [ht, hmap]
        exact List.take_left' (by rw [List.length_append, hll, hnl, hlen]; omega)
    · have holds : ∀ j u, (l.map (Value.int .u8))[j]? = some u → w.cell? ((⟨g, 0, none⟩ : Addr).add j) = some u := World.ownsRow.cells hown (g := g) rfl
      have hfo := run_firstCells_some (P := Try.prog) w.drew 1 l.length ⟨g, 0, none⟩ l.length cap (l.map (Value.int .u8)) (by simp) (by simpa using holds)
      have hfit := growslice_fits (need := l.length + s.size) (old := cap) (bytes := i.bytes) (by omega) (by rw [h2]; omega)
      have h63' : ¬ (9223372036854775807 < ((l.length : Int) + (s.size : Int))) := by omega
      have h48' : ¬ (281474976710656 < Builtin.nextslicecap (l.length + s.size) cap * i.bytes) := by omega
      have hr : (Builtin.append_ #[22, 9] ty #[.slice (some ⟨g, 0, none⟩) l.length cap, .string s]).run Try.prog w = .ok (.slice (some ⟨w.heap.size, 0, none⟩) (l.length + s.size) (grownCap w (l.length + s.size) cap 5))
          (w.drew.alloc (.cells ((l.map (Value.int .u8)).toArray ++ news.toArray ++ Builtin.zeroCells (Value.int .u8 0).cells (grownCap w (l.length + s.size) cap 5 - (l.length + s.size))) 5)) := by
        simp [Builtin.append_, run_underlying Try.underlying22, run_underlying und9, sizeOf, typeInfo, zeroValue, hi, hz, h1, Builtin.lenOf, hroom, h63', h48', Question.forced, hfc, hfo, newRow, grownCap]
        congr 2
        apply Array.ext'
        simp [List.append_assoc]
      have hgr := grown cap (Value.ownBlock (.slice (some ⟨g, 0, none⟩) l.length cap))
      exact ⟨_, _, hr, hgr.1, hgr.2⟩
theorem wpList_app_str {w : World} {ops : Array Oper} {rest : List Oper} {o : Oper} {a : Act} {Q : Exit → Act → World → Prop} (hgd : o.guard = none) (x y : Operand)
    (ho : o.op = .call { callee := .builtin .append, args := #[x, y], argTypes := #[22, 9] }) {B : Nat} {v : Value} {l : List Int} (hx : a.eval x = v) (hown : Own w B v l)
    {s : ByteArray} (hy : a.eval y = .string s) (hsz : l.length + s.size ≤ 100000000) (hB : B ≤ w.heap.size)
    (h : ∀ v' w', Own w' B v' (l ++ bytesOf s) → w.grownBy w' v.ownBlock → wpList Try.prog ops Q rest (a.put o.dst v') w') : wpList Try.prog ops Q (o :: rest) a w := by
  obtain ⟨v', w', hr, h2, h3⟩ := run_app_str w o.type B v l hown s hsz hB
  refine wpList_plain hgd fun _ hK => ?_
  unfold Oper.wp execOp
  simp only [ho, resolve, invoke, builtin, Sem.run_bind, Sem.run_pure, Result.andThen_ok, List.map_toArray, List.map_cons, List.map_nil, hx, hy, hr]
  exact hK _ _ (h v' w' h2 h3)
end Go.Proofs.Ytjfjekncmejfpaa
