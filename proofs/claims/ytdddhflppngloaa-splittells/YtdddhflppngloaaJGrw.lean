/- Slices of structs that grow in a drawn statement; blocks of other types stand. Nothing of a program is in it. -/
import Derived.Test.YtdddhflppngloaaJRow
import Derived.Test.YtdddhflppngloaaDetX
namespace Go.Proofs.Ytdddhflppngloaa
open Go.RowKit
set_option maxRecDepth 20000
set_option linter.unusedVariables false
set_option linter.unusedSimpArgs false

theorem Blk.apart {w : World} {p q : Nat} {cs ds : Array Value} {T U : TypeId} (h : Blk w p cs T) (k : Blk w q ds U) (hT : T ≠ U) : p ≠ q := by
  rintro rfl
  unfold Blk at h k
  rw [h] at k
  simp only [Option.some.injEq, Obj.cells.injEq] at k
  exact hT k.2.1
theorem none_nil {α : Type} {sz : Nat} {enc : α → List Value} {w : World} {n : Nat} {F : Nat → α} (h : Els sz enc w none n F) (hsz : 0 < sz) : n = 0 := by
  rcases Nat.eq_zero_or_pos n with h0 | h0
  · exact h0
  · obtain ⟨b, off, e, _⟩ := h 0 0 h0 hsz
    cases e
/-- append of a slice that is nil, whatever its capacity. -/
theorem run_append_nil {P : Program} {w : World} {B : Nat} {t ty e : TypeId} {i : TypeInfo} {sz c : Nat} (ht : P.underlying t = some (.slice e)) (hi : P.info? e = some i) {v : Value} {n : Nat} {xs : List Value} (hown : w.ownsRow B e sz v n xs) :
    (Builtin.append_ #[t, t] ty #[v, .slice none 0 c]).run P w = .ok v w := by
  rcases hown.2 with ⟨rfl, rfl⟩ | ⟨g, cap, cur, rfl, _, _, hnc, _⟩
  · simp [Builtin.append_, run_underlying ht, sizeOf, typeInfo, hi, Builtin.lenOf, Builtin.firstCells]
  · simp [Builtin.append_, run_underlying ht, sizeOf, typeInfo, hi, Builtin.lenOf, Builtin.firstCells, hnc, storeCells]
section
variable {α : Type} {sz : Nat} {enc : α → List Value} {w w' : World} {a : Option Addr} {n : Nat} {e : TypeId} {B : Nat}
/-- A slice that is grown by elements that lie where another says, nil or not. -/
theorem run_app4 {P : Program} {t ty : TypeId} {i : TypeInfo} {z : Value} {bytes : Nat} {v : Value} {l m : List α} {d : α} {c : Nat} (ht : P.underlying t = some (.slice e)) (hi : P.info? e = some i) (hz : i.zero = some z) (hs : i.size = sz) (hy : i.bytes = bytes) (hzs : z.cells.size = sz) (hsz : 0 < sz)
    (hlen : ∀ x, (enc x).length = sz) (hone : ∀ x, ∀ u ∈ enc x, u.oneCell' = true) (hown : w.ownsRow B e sz v l.length (l.map enc).flatten) (hr : Els sz enc w a m.length fun k => m.getD k d) (hn : l.length + m.length ≤ maxLen) (hb : (l.length + m.length) * bytes ≤ 140737488355328) (hB : B ≤ w.heap.size) :
    ∃ v' w', (Builtin.append_ #[t, t] ty #[v, .slice a m.length c]).run P w = .ok v' w' ∧ w'.ownsRow B e sz v' (l ++ m).length ((l ++ m).map enc).flatten ∧ w.grownBy w' v.ownBlock := by
  cases a with
  | none =>
    obtain rfl : m = [] := List.eq_nil_of_length_eq_zero (none_nil hr hsz)
    exact ⟨v, w, run_append_nil ht hi hown, by simpa using hown, World.grownBy.refl _ _⟩
  | some ad => exact run_els ht hi hz hs hy hzs hsz hlen hone hown hr hn hb hB (fun h => by cases h)
theorem wpList_app4 {P : Program} {ops : Array Oper} {rest : List Oper} {o : Oper} {act : Act} {Q : Exit → Act → World → Prop} {w0 : World} (hgd : o.guard = none) (s x : Operand) {t : TypeId} (ho : o.op = .call { callee := .builtin .append, args := #[s, x], argTypes := #[t, t] })
    {i : TypeInfo} {z : Value} {bytes : Nat} {v : Value} {l m : List α} {d : α} {c : Nat} (ht : P.underlying t = some (.slice e)) (hi : P.info? e = some i) (hz : i.zero = some z) (hs : i.size = sz) (hy : i.bytes = bytes) (hzs : z.cells.size = sz) (hsz : 0 < sz)
    (hlen : ∀ x, (enc x).length = sz) (hone : ∀ x, ∀ u ∈ enc x, u.oneCell' = true) (hev : act.eval s = v) (hown : w.ownsRow B e sz v l.length (l.map enc).flatten) (hex : act.eval x = .slice a m.length c) (hr : Els sz enc w a m.length fun k => m.getD k d) (hn : l.length + m.length ≤ maxLen) (hby : (l.length + m.length) * bytes ≤ 140737488355328) (hb : Below B w0 w) (hB : B ≤ w.heap.size)
    (h : ∀ v' w', w'.ownsRow B e sz v' (l ++ m).length ((l ++ m).map enc).flatten → Below B w0 w' → wpList P ops Q rest (act.put o.dst v') w') : wpList P ops Q (o :: rest) act w := by
  obtain ⟨v', w', hrun, h2, h3⟩ := run_app4 (c := c) (ty := o.type) ht hi hz hs hy hzs hsz hlen hone hown hr hn hby hB
  refine wpList_plain hgd fun _ hK => ?_
  unfold Oper.wp execOp
  simp only [ho, resolve, invoke, builtin, Sem.run_bind, Sem.run_pure, Result.andThen_ok, List.map_toArray, List.map_cons, List.map_nil, hev, hex, hrun]
  exact hK _ _ (h v' w' h2 (grown_below hown hb h3 hB))
theorem els_new {w : World} {e : TypeId} {enc : α → List Value} (hlen : ∀ x, (enc x).length = sz) (x : α) (d : α) : Els sz enc (w.alloc (.cells (enc x).toArray e)) (some ⟨w.heap.size, 0, none⟩) [x].length fun k => [x].getD k d := fun k j hk hj => by
  obtain rfl : k = 0 := by simp at hk; omega
  have B := blk_new w (enc x).toArray e
  refine ⟨w.heap.size, 0, rfl, B.lt, ?_⟩
  rw [B.cell, Nat.zero_add, Nat.zero_mul, Nat.zero_add, List.getElem?_toArray]
  rfl
theorem take_snoc {l : List α} {k : Nat} (d : α) (hk : k < l.length) : l.take (k + 1) = l.take k ++ [l.getD k d] := by
  rw [List.take_succ_eq_append_getElem hk, List.getD_eq_getElem?_getD, List.getElem?_eq_getElem hk]
  rfl
end
theorem grown_old {A B : World} (h : Below A.heap.size A B) : A.grownBy B none := ⟨h.os, h.tape, h.output, h.size, fun k hk _ => h.block k hk⟩
theorem own_old {w w' : World} {e : TypeId} {sz base : Nat} {v : Value} {k : Nat} {xs : List Value} (h : w.ownsRow base e sz v k xs) (hb : Old w w') : w'.ownsRow base e sz v k xs :=
  h.kept (row := none) (grown_old hb) (by
    rcases h.2 with ⟨rfl, _⟩ | ⟨g, cap, cur, rfl, _⟩
    · exact .inl rfl
    · exact .inr (by simp [Value.ownBlock]))
theorem own_ge {w : World} {B : Nat} {e : TypeId} {sz : Nat} {v : Value} {k : Nat} {xs : List Value} (h : w.ownsRow B e sz v k xs) : ∀ i, some i = v.ownBlock → B ≤ i := by
  intro i e
  rcases h.2 with ⟨rfl, _⟩ | ⟨g, cap, cur, rfl, hb, _⟩
  · simp [Value.ownBlock] at e
  · simp [Value.ownBlock] at e; omega
theorem near_at {M : Nat → Prop} {w x : World} {b i : Nat} {v : Value} (hx : Near M w x) (h : w.cell? ⟨b, i, none⟩ = some v) (hb : ¬ M b) : x.cell? ⟨b, i, none⟩ = some v :=
  (World.cell?_of_block (a := ⟨b, i, none⟩) (hx.block b (World.block_lt_of_cell? _ _ h) hb)).trans h
/-- All blocks of other types stand. -/
structure Chg (T : TypeId) (w w' : World) : Prop where
  size : w.heap.size ≤ w'.heap.size
  block : ∀ k cs T', Blk w k cs T' → T' ≠ T → Blk w' k cs T'
theorem Chg.of_old {T : TypeId} {w w' : World} (h : Old w w') : Chg T w w' := ⟨h.size, fun k cs T' hk _ => hk.old h⟩
theorem Chg.trans {T : TypeId} {a b c : World} (h : Chg T a b) (k : Chg T b c) : Chg T a c := ⟨Nat.le_trans h.size k.size, fun i cs T' hi ht => k.block i cs T' (h.block i cs T' hi ht) ht⟩
theorem Chg.set {w : World} {b : Nat} {cs : Array Value} {T : TypeId} (h : Blk w b cs T) (i : Nat) (v : Value) : Chg T w (w.setCell ⟨b, i, none⟩ v) :=
  ⟨by simp, fun k cs' T' hk ht => hk.other (by
    rintro rfl
    unfold Blk at h hk
    rw [h] at hk
    simp only [Option.some.injEq, Obj.cells.injEq] at hk
    exact ht hk.2.1.symm) i v⟩
theorem Chg.grown {w w' : World} {B : Nat} {T : TypeId} {sz : Nat} {v : Value} {k : Nat} {xs : List Value} (hown : w.ownsRow B T sz v k xs) (hg : w.grownBy w' v.ownBlock) : Chg T w w' := by
  refine ⟨hg.size, fun i cs T' hi ht => (hg.block i hi.lt fun e => ?_).trans hi⟩
  rcases hown.2 with ⟨rfl, _⟩ | ⟨g, cap, cur, rfl, _, h, _⟩
  · simp [Value.ownBlock] at e
  · obtain rfl : g = i := by simpa [Value.ownBlock, eq_comm] using e
    unfold Blk at hi
    rw [h] at hi
    simp only [Option.some.injEq, Obj.cells.injEq] at hi
    exact ht hi.2.1.symm
theorem OwnE.chg {α : Type} {e : TypeId} {sz : Nat} {enc : α → List Value} {B : Nat} {w x : World} {a : Option Addr} {n : Nat} {F : Nat → α} (h : OwnE e sz enc B w a n F) {T : TypeId} (hc : Chg T w x) (hT : e ≠ T) : OwnE e sz enc B x a n F := by
  rcases h with h | ⟨g, cur, h1, h2, h3, h4⟩
  · exact .inl h
  · exact .inr ⟨g, cur, h1, h2, hc.block g cur e h3 hT, h4⟩
section
variable {α : Type} {sz : Nat} {enc : α → List Value} {e : TypeId} {B : Nat}
/-- One element more. -/
theorem app_E {t : TypeId} {i : TypeInfo} {z0 : Value} {bytes : Nat} (ht : Try.prog.underlying t = some (.slice e)) (hi : Try.prog.info? e = some i) (hz0 : i.zero = some z0) (hs0 : i.size = sz) (hy : i.bytes = bytes) (hzs : z0.cells.size = sz) (hsz : 0 < sz) (hlen : ∀ x, (enc x).length = sz) (hone : ∀ x, ∀ u ∈ enc x, u.oneCell' = true)
    (x z : World) (u : Value) (y : α) {l : List α} (o : Oper) (a : Act) (s r : Operand) (ho : o.op = .call { callee := .builtin .append, args := #[s, r], argTypes := #[t, t] }) (hs : a.eval s = u) (hr : a.eval r = .slice (some ⟨x.heap.size, 0, none⟩) 1 1)
    (hown : (x.alloc (.cells (enc y).toArray e)).ownsRow B e sz u l.length (l.map enc).flatten) (hz : Old (x.alloc (.cells (enc y).toArray e)) z) (hn : l.length + 1 ≤ maxLen) (hby : (l.length + 1) * bytes ≤ 140737488355328) (hB : B ≤ x.heap.size) :
    ∃ v' w', (execOp a.eval o).run Try.prog z = .ok (.value v') w' ∧ (w'.ownsRow B e sz v' (l ++ [y]).length ((l ++ [y]).map enc).flatten ∧ Below B z w' ∧ Chg e z w') ∧ Near (fun i => some i = u.ownBlock) z w' := by
  have hzs' := hz.size
  have hown2 := own_old hown hz
  obtain ⟨v', w', h1, h2, h3⟩ := run_app4 (c := 1) (ty := o.type) (m := [y]) ht hi hz0 hs0 hy hzs hsz hlen hone hown2 ((els_new (w := x) (e := e) hlen y y).carry hz) hn hby (by simp at hzs'; omega)
  exact ⟨v', w', exec_append s r ho hs hr h1, ⟨h2, grown_below hown2 (Below.refl _ _) h3 (by simp at hzs'; omega), Chg.grown hown2 h3⟩, ⟨h3.os, h3.tape, h3.output, h3.size, fun i hi hn => h3.block i hi hn⟩⟩
end
theorem own_form {w : World} {B : Nat} {e : TypeId} {sz : Nat} {v : Value} {n : Nat} {xs : List Value} (h : w.ownsRow B e sz v n xs) : ∃ a c, v = .slice a n c ∧ n ≤ c ∧ c ≤ maxLen := by
  rcases h.2 with ⟨rfl, h0⟩ | ⟨g, cap, cur, rfl, _, _, h1, h2, _⟩
  · exact ⟨none, 0, by rw [h0], by omega, by decide⟩
  · exact ⟨_, _, rfl, h1, h2⟩
theorem wpList_app5 {α : Type} {sz : Nat} {enc : α → List Value} {w : World} {ad : Option Addr} {e : TypeId} {B : Nat} {ops : Array Oper} {rest : List Oper} {o : Oper} {act : Act} {Q : Exit → Act → World → Prop} {w0 : World} (hgd : o.guard = none) (s x : Operand) {t : TypeId} (ho : o.op = .call { callee := .builtin .append, args := #[s, x], argTypes := #[t, t] })
    {i : TypeInfo} {z : Value} {bytes : Nat} {v : Value} {l m : List α} {d : α} {c : Nat} (ht : Try.prog.underlying t = some (.slice e)) (hi : Try.prog.info? e = some i) (hz : i.zero = some z) (hs : i.size = sz) (hy : i.bytes = bytes) (hzs : z.cells.size = sz) (hsz : 0 < sz)
    (hlen : ∀ x, (enc x).length = sz) (hone : ∀ x, ∀ u ∈ enc x, u.oneCell' = true) (hev : act.eval s = v) (hown : w.ownsRow B e sz v l.length (l.map enc).flatten) (hex : act.eval x = .slice ad m.length c) (hr : Els sz enc w ad m.length fun k => m.getD k d) (hn : l.length + m.length ≤ maxLen) (hby : (l.length + m.length) * bytes ≤ 140737488355328) (hb : Below B w0 w) (hB : B ≤ w.heap.size)
    (h : ∀ v' w', w'.ownsRow B e sz v' (l ++ m).length ((l ++ m).map enc).flatten → Below B w0 w' → Chg e w w' → wpList Try.prog ops Q rest (act.put o.dst v') w') : wpList Try.prog ops Q (o :: rest) act w := by
  obtain ⟨v', w', hrun, h2, h3⟩ := run_app4 (c := c) (ty := o.type) ht hi hz hs hy hzs hsz hlen hone hown hr hn hby hB
  refine wpList_plain hgd fun _ hK => ?_
  unfold Oper.wp execOp
  simp only [ho, resolve, invoke, builtin, Sem.run_bind, Sem.run_pure, Result.andThen_ok, List.map_toArray, List.map_cons, List.map_nil, hev, hex, hrun]
  exact hK _ _ (h v' w' h2 (grown_below hown hb h3 hB) (Chg.grown hown h3))
theorem wpl_val {P : Program} {ops : Array Oper} {rest : List Oper} {o : Oper} {a : Act} {w w' : World} {Q : Exit → Act → World → Prop} {v : Value} (hgd : o.guard = none) (he : (execOp a.eval o).run P w = .ok (.value v) w') (hk : wpList P ops Q rest (a.put o.dst v) w') : wpList P ops Q (o :: rest) a w :=
  wpList_plain hgd fun K hK => by
    unfold Oper.wp
    rw [he]
    exact hK _ _ hk
end Go.Proofs.Ytdddhflppngloaa
