/- Slices of integers of any kind: where they lie, what a call owns, append; Nums. -/
import Derived.Test.YtbadkfocfgojlaaVLaw
namespace Go.Proofs.Ytbadkfocfgojlaa
open Go.RowKit
set_option linter.unusedVariables false

/-- The numbers of a list lie where a slice says (a slice of none may lie nowhere). -/
def RowK (k : IntKind) (w : World) (a : Option Addr) (cap : Nat) (l : List Int) : Prop :=
  l.length ≤ cap ∧ ∀ j, j < l.length → ∃ b off, a = some ⟨b, off, none⟩ ∧ b < w.heap.size ∧ w.cell? ⟨b, off + j, none⟩ = some (.int k (l.getD j 0))
theorem RowK.row {w : World} {a : Option Addr} {cap : Nat} {l : List Int} (h : RowK .u8 w a cap l) : Row w a cap l := h
theorem Row.rowK {w : World} {a : Option Addr} {cap : Nat} {l : List Int} (h : Row w a cap l) : RowK .u8 w a cap l := h
section
variable {k : IntKind} {w w' : World} {a : Option Addr} {cap : Nat} {l : List Int}
theorem RowK.carry (h : RowK k w a cap l) (hb : Below w.heap.size w w') : RowK k w' a cap l := ⟨h.1, fun j hj => by
  obtain ⟨b, off, rfl, hB, hc⟩ := h.2 j hj
  exact ⟨b, off, rfl, Nat.lt_of_lt_of_le hB hb.size, (hb.cell (p := ⟨b, off + j, none⟩) hB).trans hc⟩⟩
theorem RowK.none (k : IntKind) (w : World) (cap : Nat) : RowK k w none cap [] := ⟨Nat.zero_le _, fun j hj => absurd hj (by simp)⟩
theorem rowK_new (k : IntKind) (w : World) (c : Int) (cap : Nat) (e : TypeId) (hc : 1 ≤ cap) : RowK k (w.alloc (.cells #[.int k c] e)) (some ⟨w.heap.size, 0, none⟩) cap [c] := ⟨hc, fun j hj => by
  obtain rfl : j = 0 := by simp at hj; omega
  exact ⟨_, _, rfl, by simp, by simp [World.cell?_alloc_at]⟩⟩
end
/-- A slice of integers that the call made. -/
abbrev OwnK (k : IntKind) (e : TypeId) (w : World) (B : Nat) (v : Value) (l : List Int) : Prop := w.ownsRow B e 1 v l.length (l.map (Value.int k))
theorem OwnK.row {k : IntKind} {e : TypeId} {w : World} {B : Nat} {v : Value} {l : List Int} (h : OwnK k e w B v l) : ∃ a cap, v = .slice a l.length cap ∧ RowK k w a cap l := by
  rcases h.2 with ⟨rfl, h0⟩ | ⟨g, cap, cur, rfl, hb, hg, hnc, hm, hs, ht⟩
  · obtain rfl : l = [] := List.eq_nil_of_length_eq_zero h0
    exact ⟨none, 0, rfl, RowK.none _ _ _⟩
  · refine ⟨some ⟨g, 0, none⟩, cap, rfl, hnc, fun j hj => ⟨g, 0, rfl, (Array.getElem?_eq_some_iff.1 hg).1, ?_⟩⟩
    have := World.ownsRow.cellAt (g := g) (cap := cap) h j (by omega)
    rw [Nat.zero_add, this]
    simp [hj]
theorem run_appK {T e : TypeId} {k : IntKind} {by' : Nat} (hT : Try.prog.underlying T = some (.slice e)) (hI : (Try.prog.info? e).map (fun i => (i.zero, i.size, i.bytes)) = some (some (.int k 0), 1, by')) (hby : by' ≤ 8)
    (w : World) (ty : TypeId) (B : Nat) (v : Value) (l : List Int) (hown : OwnK k e w B v l) (a : Option Addr) (c : Nat) (m : List Int) (hr : RowK k w a c m) (hs : l.length + m.length ≤ 100000000) (hB : B ≤ w.heap.size) :
    ∃ v' w', (Builtin.append_ #[T, T] ty #[v, .slice a m.length c]).run Try.prog w = .ok v' w' ∧ OwnK k e w' B v' (l ++ m) ∧ w.grownBy w' v.ownBlock := by
  obtain ⟨i, hi, hz, h1, h2⟩ := info_parts hI
  have hbb : (l.length + m.length) * by' ≤ 140737488355328 := by
    have := Nat.mul_le_mul hs hby
    omega
  rcases Nat.eq_zero_or_pos m.length with h0 | h0
  · obtain rfl : m = [] := List.eq_nil_of_length_eq_zero h0
    cases a with
    | none =>
      refine ⟨v, w, ?_, by simpa [OwnK] using hown, ⟨rfl, rfl, rfl, Nat.le_refl _, fun _ _ _ => rfl⟩⟩
      rcases hown.2 with ⟨rfl, e⟩ | ⟨g, cap, cur, rfl, _, _, hnc, _⟩
      · simp [Builtin.append_, run_underlying hT, sizeOf, typeInfo, hi, Builtin.lenOf, Builtin.firstCells]
      · simp [Builtin.append_, run_underlying hT, sizeOf, typeInfo, hi, Builtin.lenOf, Builtin.firstCells, hnc, storeCells]
    | some ad =>
      obtain ⟨v', w', e, o, g, _⟩ := run_append_own (P := Try.prog) w B T ty e i _ 1 by' hT hi hz h1 h2 rfl (by decide) v l.length _ hown ad 0 c [] rfl (by simp) (by simp) (by simp only [maxLen]; omega) (by simpa using hbb) hB
      exact ⟨v', w', e, by simpa [OwnK] using o, g⟩
  · obtain ⟨b, off, rfl, _⟩ := hr.2 0 h0
    obtain ⟨v', w', e, o, g, _⟩ := run_append_own (P := Try.prog) w B T ty e i _ 1 by' hT hi hz h1 h2 rfl (by decide) v l.length _ hown ⟨b, off, none⟩ m.length c (m.map (Value.int k)) (by simp) (fun j u hj => by
      have hj' : j < m.length := by
        rcases Nat.lt_or_ge j m.length with h | h
        · exact h
        · simp [h] at hj
      obtain ⟨b', off', e, _, hc⟩ := hr.2 j hj'
      obtain ⟨rfl, rfl⟩ : b = b' ∧ off = off' := by simpa using e
      rw [Go.WideShapes.add_plain, hc, ← hj]
      simp [hj']) (fun u hu => by
      obtain ⟨x, _, rfl⟩ := List.mem_map.1 hu
      rfl) (by simp only [maxLen]; omega) hbb hB
    exact ⟨v', w', e, by simpa [OwnK] using o, g⟩
theorem OwnK.below {k : IntKind} {e : TypeId} {w w0 w' : World} {B : Nat} {v : Value} {l : List Int} (h : OwnK k e w B v l) (hb : Below B w0 w) (g : w.grownBy w' v.ownBlock) (hB : B ≤ w.heap.size) : Below B w0 w' :=
  hb.grown g hB fun j hj => (World.ownsRow.lt h j hj).1
theorem wpList_appK {T e : TypeId} {k : IntKind} {by' : Nat} (hT : Try.prog.underlying T = some (.slice e)) (hI : (Try.prog.info? e).map (fun i => (i.zero, i.size, i.bytes)) = some (some (.int k 0), 1, by')) (hby : by' ≤ 8)
    {w : World} {ops : Array Oper} {rest : List Oper} {o : Oper} {a : Act} {Q : Exit → Act → World → Prop} (hgd : o.guard = none) (s x : Operand)
    (ho : o.op = .call { callee := .builtin .append, args := #[s, x], argTypes := #[T, T] }) {B : Nat} {v : Value} {l : List Int} (hs : a.eval s = v) (hown : OwnK k e w B v l)
    {ad : Option Addr} {c : Nat} {m : List Int} (hx : a.eval x = .slice ad m.length c) (hr : RowK k w ad c m) (hsz : l.length + m.length ≤ 100000000) (hB : B ≤ w.heap.size)
    (h : ∀ v' w', OwnK k e w' B v' (l ++ m) → w.grownBy w' v.ownBlock → wpList Try.prog ops Q rest (a.put o.dst v') w') : wpList Try.prog ops Q (o :: rest) a w := by
  obtain ⟨v', w', hr, h2, h3⟩ := run_appK hT hI hby w o.type B v l hown ad c m hr hsz hB
  refine wpList_plain hgd fun _ hK => ?_
  unfold Oper.wp execOp
  simp only [ho, resolve, invoke, builtin, Sem.run_bind, Sem.run_pure, Result.andThen_ok, List.map_toArray, List.map_cons, List.map_nil, hs, hx, hr]
  exact hK _ _ (h v' w' h2 h3)
theorem OwnK.alloc1 {k : IntKind} {e : TypeId} {w : World} {B : Nat} {v : Value} {l : List Int} (h : OwnK k e w B v l) (o : Obj) : OwnK k e (w.alloc o) B v l := World.ownsRow.alloc h o

theorem nums_any (a b : Option Addr) (ca cb : Nat) (l m : List Int) (w : World) (hl : l.length ≤ 1000000) (hm : m.length ≤ 1000000) (ha : RowK .i64 w a ca l) (hb : RowK .i64 w b cb m) :
    Calls Try.prog 13 #[.slice a l.length ca, .slice b m.length cb] w fun e w' => e = .returned (.bool (decide (l = m))) ∧ Below w.heap.size w w' := by
  rcases Nat.decEq l.length m.length with hne | heq
  · rw [decide_eq_false (fun h => hne (by rw [h]))]
    go_enter Try.func13, Try.ntmps13
    go_wp2_with fail
    go_ret
    exact ⟨rfl, Below.refl _ _⟩
  · go_enter Try.func13, Try.ntmps13
    go_wp2_with fail
    go_loopw [5] (fun i wr => ∃ k : Nat, k ≤ l.length ∧ i = .int .i64 k ∧ Below w.heap.size w wr ∧ ∀ j, j < k → l.getD j 0 = m.getD j 0) (fun i _ => l.length - (intOf i).toNat)
    case atStart => exact ⟨0, Nat.zero_le _, rfl, Below.refl _ _, fun j hj => by omega⟩
    case round =>
      obtain ⟨k, hk, rfl, hbl, hp⟩ := hrel
      have HP := Lib.hid hp
      clear hp
      by_cases hlt : k < l.length
      · obtain ⟨x, hx⟩ : ∃ x, x = l.getD k 0 := ⟨_, rfl⟩
        obtain ⟨y, hy⟩ : ∃ y, y = m.getD k 0 := ⟨_, rfl⟩
        obtain ⟨b1, o1, rfl, hB1, hc1⟩ := (ha.carry hbl).2 k hlt
        obtain ⟨b2, o2, rfl, hB2, hc2⟩ := (hb.carry hbl).2 k (by omega)
        rw [← hx] at hc1
        rw [← hy] at hc2
        have HX := Lib.hid hx
        have HY := Lib.hid hy
        clear hx hy ha hb
        by_cases hxy : x = y
        · subst hxy
          go_wp2_with fail
          go_quiet (fail)
          go_wp2
          go_roundw
          case rel =>
            refine ⟨k + 1, by omega, by go_num, bdrewN hbl _, fun j hj => ?_⟩
            rcases Nat.lt_or_ge j k with h | h
            · exact HP.out j h
            · obtain rfl : j = k := by omega
              exact HX.out.symm.trans HY.out
          case measure => simp [intOf]; omega
        · have hne : ¬ l = m := fun h => hxy (by rw [HX.out, HY.out, h])
          have HN := Lib.hid hne
          clear hne
          go_wp2_with fail
          go_quiet (fail)
          go_wp2
          go_ret
          exact ⟨by rw [decide_eq_false HN.out]; rfl, bdrewN hbl _⟩
      · have he : l = m := List.ext_getElem? fun j => by
          rcases Nat.lt_or_ge j l.length with h | h
          · have := HP.out j (by omega)
            have h' : j < m.length := by omega
            simpa [h, h'] using this
          · rw [List.getElem?_eq_none h, List.getElem?_eq_none (by omega)]
        have HN := Lib.hid he
        clear he
        go_wp2
        go_ret
        exact ⟨by rw [decide_eq_true HN.out]; rfl, hbl⟩
end Go.Proofs.Ytbadkfocfgojlaa
