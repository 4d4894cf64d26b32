/- Slices of bytes; Same. append onto a slice of bytes of the call's own. Get of package chain. -/
import Derived.Test.YtjfjekncmejfpaaVFold
import Derived.LoopTactic
import Derived.Lib.Hide
import Derived.Test.YtjfjekncmejfpaaDetU
import Derived.BigQuiet
import Derived.OpenShut
import Derived.OwnWalk
import Derived.Laws.OwnMore
import Derived.Laws.CopyOwn
import Derived.WalkMore
namespace Go.Proofs.Ytjfjekncmejfpaa
open Go.RowKit
set_option maxRecDepth 20000
set_option linter.unusedVariables false

theorem bdrewN {B : Nat} {a w : World} (h : Below B a w) (n : Nat) : Below B a (w.drewN n) := ⟨h.os, h.tape, h.output, h.size, h.block⟩
/-- The bytes of a list lie where a slice says (a slice of none may lie nowhere). -/
def Row (w : World) (a : Option Addr) (cap : Nat) (l : List Int) : Prop :=
  l.length ≤ cap ∧ ∀ k, k < l.length → ∃ b off, a = some ⟨b, off, none⟩ ∧ b < w.heap.size ∧ w.cell? ⟨b, off + k, none⟩ = some (.int .u8 (l.getD k 0))
/-- Each is a byte. -/
def Byt (l : List Int) : Prop := ∀ x ∈ l, 0 ≤ x ∧ x < 256
theorem Byt.at {l : List Int} (h : Byt l) (k : Nat) : 0 ≤ l.getD k 0 ∧ l.getD k 0 < 256 := by
  rcases Nat.lt_or_ge k l.length with hk | hk
  · have e : l.getD k 0 = l[k] := by simp [hk]
    rw [e]; exact h _ (List.getElem_mem hk)
  · have e : l.getD k 0 = 0 := by simp [hk]
    rw [e]; omega
theorem Byt.app {l m : List Int} (h : Byt l) (h' : Byt m) : Byt (l ++ m) := fun x hx => by
  rcases List.mem_append.1 hx with hx | hx
  · exact h x hx
  · exact h' x hx
theorem Row.carry {w w' : World} {a : Option Addr} {cap : Nat} {l : List Int} (h : Row w a cap l) (hb : Below w.heap.size w w') : Row w' a cap l := ⟨h.1, fun k hk => by
  obtain ⟨b, off, rfl, hB, hc⟩ := h.2 k hk
  exact ⟨b, off, rfl, Nat.lt_of_lt_of_le hB hb.size, (hb.cell (p := ⟨b, off + k, none⟩) hB).trans hc⟩⟩
theorem Row.none (w : World) (cap : Nat) : Row w none cap [] := ⟨Nat.zero_le _, fun k hk => absurd hk (by simp)⟩
theorem Row.take {w : World} {a : Option Addr} {cap : Nat} {l : List Int} (h : Row w a cap l) (m : Nat) : Row w a cap (l.take m) := ⟨by have := h.1; simp; omega, fun k hk => by
  have hk' : k < m ∧ k < l.length := by simp at hk; omega
  obtain ⟨b, off, rfl, hB, hc⟩ := h.2 k hk'.2
  refine ⟨b, off, rfl, hB, hc.trans ?_⟩
  simp [hk'.1]⟩
/-- What is owned reads so. -/
theorem own_row {w : World} {B : Nat} {v : Value} {l : List Int} (h : w.ownsRow B 5 1 v l.length (l.map (Value.int .u8))) : ∃ a cap, v = .slice a l.length cap ∧ Row w a cap l := by
  rcases h.2 with ⟨rfl, h0⟩ | ⟨g, cap, cur, rfl, hb, hg, hnc, hm, hs, ht⟩
  · obtain rfl : l = [] := List.eq_nil_of_length_eq_zero h0
    exact ⟨none, 0, rfl, Row.none _ _⟩
  · refine ⟨some ⟨g, 0, none⟩, cap, rfl, hnc, fun k hk => ⟨g, 0, rfl, (Array.getElem?_eq_some_iff.1 hg).1, ?_⟩⟩
    have := h.cellAt (g := g) (cap := cap) k (by omega)
    rw [Nat.zero_add, this]
    simp [hk]
/-- b[at:] -/
theorem cut_from (a : Option Addr) (cap : Nat) (l : List Int) (i : Nat) (hi : i ≤ l.length) (w : World) (h : Row w a cap l) :
    ∃ a' c', (∀ x, Sem.run Try.prog (Instr.slice 22 (.slice a l.length cap) (some (.int .i64 i)) none none) x = .ok (.slice a' (l.length - i) c') x) ∧ Row w a' c' (l.drop i) := by
  refine ⟨if cap = i then a else a.map (·.add i), cap - i, fun x => ?_, ?_, ?_⟩
  · rw [run_slice_l _ 22 a l.length cap Try.underlying22 .i64 i (by omega) (by omega)]
    have e : Sem.run Try.prog (sizeOf (Try.prog.elem 22)) x = .ok 1 x := by kernel_rfl
    rw [e]
    simp [Result.andThen, sliced]
  · have := h.1; simp; omega
  · intro k hk
    have hk' : i + k < l.length := by simp at hk; omega
    obtain ⟨b, off, rfl, hB, hc⟩ := h.2 _ hk'
    have := h.1
    rw [if_neg (by omega)]
    refine ⟨b, off + i, ?_, hB, ?_⟩
    · simp only [Option.map_some, Option.some.injEq]
      unfold Addr.add; split <;> simp_all
    · rw [Nat.add_assoc, hc]
      simp [List.getD_eq_getElem?_getD, List.getElem?_drop]
/-- b[:to] -/
theorem cut_to (a : Option Addr) (cap n : Nat) (l : List Int) (i : Nat) (hi : i ≤ l.length) (w : World) (h : Row w a cap l) :
    ∃ a' c', (∀ x, Sem.run Try.prog (Instr.slice 22 (.slice a n cap) none (some (.int .i64 i)) none) x = .ok (.slice a' i c') x) ∧ Row w a' c' (l.take i) := by
  have hc := h.1
  refine ⟨if cap = 0 then a else a.map (·.add 0), cap, fun x => ?_, ?_⟩
  · rw [run_slice_h _ 22 a n cap Try.underlying22 .i64 i (by omega) (by omega)]
    have e : Sem.run Try.prog (sizeOf (Try.prog.elem 22)) x = .ok 1 x := by kernel_rfl
    rw [e]
    simp [Result.andThen, sliced]
  · have e : (if cap = 0 then a else a.map (·.add 0)) = a := by
      split
      · rfl
      · cases a <;> simp [Addr.add]
    rw [e]
    exact h.take i

theorem same_any (a b : Option Addr) (ca cb : Nat) (l m : List Int) (w : World) (hl : l.length ≤ 1000000) (hm : m.length ≤ 1000000) (ha : Row w a ca l) (hb : Row w b cb m) :
    Calls Try.prog 14 #[.slice a l.length ca, .slice b m.length cb] w fun e w' => e = .returned (.bool (decide (l = m))) ∧ Below w.heap.size w w' := by
  rcases Nat.decEq l.length m.length with hne | heq
  · rw [decide_eq_false (fun h => hne (by rw [h]))]
    go_enter Try.func14, Try.ntmps14
    go_wp2_with fail
    go_ret
    exact ⟨rfl, Below.refl _ _⟩
  · go_enter Try.func14, Try.ntmps14
    go_wp2_with fail
    go_loopw [5] (fun i wr => ∃ k : Nat, k ≤ l.length ∧ i = .int .i64 k ∧ Below w.heap.size w wr ∧ ∀ j, j < k → l.getD j 0 = m.getD j 0) (fun i _ => l.length - (intOf i).toNat)
    case atStart => exact ⟨0, Nat.zero_le _, rfl, Below.refl _ _, fun j hj => by omega⟩
    case round =>
      obtain ⟨k, hk, rfl, hbl, hp⟩ := hrel
      have HP := Lib.hid hp
      clear hp
      by_cases hlt : k < l.length
      · obtain ⟨x, hx⟩ : ∃ x, x = l.getD k 0 := ⟨_, rfl⟩
        obtain ⟨y, hy⟩ : ∃ y, y = m.getD k 0 := ⟨_, rfl⟩
        obtain ⟨b1, o1, rfl, hB1, hc1⟩ := (ha.carry hbl).2 k hlt
        obtain ⟨b2, o2, rfl, hB2, hc2⟩ := (hb.carry hbl).2 k (by omega)
        rw [← hx] at hc1
        rw [← hy] at hc2
        have HX := Lib.hid hx
        have HY := Lib.hid hy
        clear hx hy ha hb
        by_cases hxy : x = y
        · subst hxy
          go_wp2_with fail
          go_quiet (fail)
          go_wp2
          go_roundw
          case rel =>
            refine ⟨k + 1, by omega, by go_num, bdrewN hbl _, fun j hj => ?_⟩
            rcases Nat.lt_or_ge j k with h | h
            · exact HP.out j h
            · obtain rfl : j = k := by omega
              exact HX.out.symm.trans HY.out
          case measure => simp [intOf]; omega
        · have hne : ¬ l = m := fun h => hxy (by rw [HX.out, HY.out, h])
          have HN := Lib.hid hne
          clear hne
          go_wp2_with fail
          go_quiet (fail)
          go_wp2
          go_ret
          exact ⟨by rw [decide_eq_false HN.out]; rfl, bdrewN hbl _⟩
      · have he : l = m := List.ext_getElem? fun j => by
          rcases Nat.lt_or_ge j l.length with h | h
          · have := HP.out j (by omega)
            have h' : j < m.length := by omega
            simpa [h, h'] using this
          · rw [List.getElem?_eq_none h, List.getElem?_eq_none (by omega)]
        have HN := Lib.hid he
        clear he
        go_wp2
        go_ret
        exact ⟨by rw [decide_eq_true HN.out]; rfl, hbl⟩
end Go.Proofs.Ytjfjekncmejfpaa
namespace Go.Proofs.Ytjfjekncmejfpaa
open Go.RowKit
set_option maxRecDepth 20000
set_option linter.unusedVariables false

theorem info5 : (Try.prog.info? 5).map (fun i => (i.zero, i.size, i.bytes)) = some (some (.int .u8 0), 1, 1) := by kernel_rfl
/-- A slice of bytes that the call made. -/
abbrev Own (w : World) (B : Nat) (v : Value) (l : List Int) : Prop := w.ownsRow B 5 1 v l.length (l.map (Value.int .u8))
theorem run_app (w : World) (ty : TypeId) (B : Nat) (v : Value) (l : List Int) (hown : Own w B v l) (a : Option Addr) (c : Nat) (m : List Int) (hr : Row w a c m) (hs : l.length + m.length ≤ 100000000) (hB : B ≤ w.heap.size) :
    ∃ v' w', (Builtin.append_ #[22, 22] ty #[v, .slice a m.length c]).run Try.prog w = .ok v' w' ∧ Own w' B v' (l ++ m) ∧ w.grownBy w' v.ownBlock := by
  obtain ⟨i, hi, hz, h1, h2⟩ := info_parts info5
  rcases Nat.eq_zero_or_pos m.length with h0 | h0
  · obtain rfl : m = [] := List.eq_nil_of_length_eq_zero h0
    cases a with
    | none =>
      refine ⟨v, w, ?_, by simpa [Own] using hown, ⟨rfl, rfl, rfl, Nat.le_refl _, fun _ _ _ => rfl⟩⟩
      rcases hown.2 with ⟨rfl, e⟩ | ⟨g, cap, cur, rfl, _, _, hnc, _⟩
      · simp [Builtin.append_, run_underlying Try.underlying22, sizeOf, typeInfo, hi, Builtin.lenOf, Builtin.firstCells]
      · simp [Builtin.append_, run_underlying Try.underlying22, sizeOf, typeInfo, hi, Builtin.lenOf, Builtin.firstCells, hnc, storeCells]
    | some ad =>
      obtain ⟨v', w', e, o, g, _⟩ := run_append_own (P := Try.prog) w B 22 ty 5 i _ 1 1 Try.underlying22 hi hz h1 h2 rfl (by decide) v l.length _ hown ad 0 c [] rfl (by simp) (by simp) (by simp only [maxLen]; omega) (by omega) hB
      exact ⟨v', w', e, by simpa [Own] using o, g⟩
  · obtain ⟨b, off, rfl, _⟩ := hr.2 0 h0
    obtain ⟨v', w', e, o, g, _⟩ := run_append_own (P := Try.prog) w B 22 ty 5 i _ 1 1 Try.underlying22 hi hz h1 h2 rfl (by decide) v l.length _ hown ⟨b, off, none⟩ m.length c (m.map (Value.int .u8)) (by simp) (fun j u hj => by
      have hj' : j < m.length := by
        rcases Nat.lt_or_ge j m.length with h | h
        · exact h
        · simp [h] at hj
      obtain ⟨b', off', e, _, hc⟩ := hr.2 j hj'
      obtain ⟨rfl, rfl⟩ : b = b' ∧ off = off' := by simpa using e
      rw [Go.WideShapes.add_plain, hc, ← hj]
      simp [hj']) (fun u hu => by
      obtain ⟨x, _, rfl⟩ := List.mem_map.1 hu
      rfl) (by simp only [maxLen]; omega) (by omega) hB
    exact ⟨v', w', e, by simpa [Own] using o, g⟩
theorem Own.below {w w0 w' : World} {B : Nat} {v : Value} {l : List Int} (h : Own w B v l) (hb : Below B w0 w) (g : w.grownBy w' v.ownBlock) (hB : B ≤ w.heap.size) : Below B w0 w' :=
  hb.grown g hB fun k hk => (h.lt k hk).1
theorem wpList_app {w : World} {ops : Array Oper} {rest : List Oper} {o : Oper} {a : Act} {Q : Exit → Act → World → Prop} (hgd : o.guard = none) (s x : Operand)
    (ho : o.op = .call { callee := .builtin .append, args := #[s, x], argTypes := #[22, 22] }) {w0 : World} {B : Nat} {v : Value} {l : List Int} (hs : a.eval s = v) (hown : Own w B v l)
    {ad : Option Addr} {c : Nat} {m : List Int} (hx : a.eval x = .slice ad m.length c) (hr : Row w ad c m) (hsz : l.length + m.length ≤ 100000000) (hb : Below B w0 w) (hB : B ≤ w.heap.size)
    (h : ∀ v' w', Own w' B v' (l ++ m) → Below B w0 w' → wpList Try.prog ops Q rest (a.put o.dst v') w') : wpList Try.prog ops Q (o :: rest) a w := by
  obtain ⟨v', w', hr, h2, h3⟩ := run_app w o.type B v l hown ad c m hr hsz hB
  refine wpList_plain hgd fun _ hK => ?_
  unfold Oper.wp execOp
  simp only [ho, resolve, invoke, builtin, Sem.run_bind, Sem.run_pure, Result.andThen_ok, List.map_toArray, List.map_cons, List.map_nil, hs, hx, hr]
  exact hK _ _ (h v' w' h2 (hown.below hb h3 hB))
theorem Own.alloc1 {w : World} {B : Nat} {v : Value} {l : List Int} (h : Own w B v l) (o : Obj) : Own (w.alloc o) B v l := World.ownsRow.alloc h o
theorem row_new (w : World) (c : Int) (cap : Nat) (hc : 1 ≤ cap) : Row (w.alloc (.cells #[.int .u8 c] 5)) (some ⟨w.heap.size, 0, none⟩) cap [c] := ⟨hc, fun k hk => by
  obtain rfl : k = 0 := by simp at hk; omega
  exact ⟨_, _, rfl, by simp, by simp [World.cell?_alloc_at]⟩⟩

theorem chain_any (n : Int) (h0 : -9223372036854775808 ≤ n) (h1 : n ≤ 9223372036854775807) (w : World) :
    Calls Try.prog 67 #[.int .i64 n] w fun e w' => ∃ v, e = .returned v ∧ Own w' w.heap.size v (chainL (foldZ n)) ∧ Below w.heap.size w w' := by
  obtain ⟨f0, f1⟩ := fold_range n h0 h1
  have cf := rfold_any n h0 h1
  generalize foldZ n = U at *
  go_enter Try.func67, Try.ntmps67
  go_wp2_with (with_reducible refine (cf _).mono ?_; rintro e w' ⟨rfl, rfl⟩)
  go_loopw [3, 4] (fun v u wr => ∃ (x : Int) (done : List Int), 0 ≤ x ∧ x ≤ 18446744073709551615 ∧ u = .int .u64 x ∧ done ++ chainL x = chainL U ∧ Own wr w.heap.size v done ∧ Below w.heap.size w wr) (fun _ u _ => (intOf u).toNat)
  case atStart => exact ⟨U, [], f0, f1, rfl, rfl, World.ownsRow_nil _ _ _ _, Below.refl _ _⟩
  case round =>
    obtain ⟨x, done, x0, x1, rfl, hd, hown, hbl⟩ := hrel
    have hlen : done.length ≤ 10 := by
      have := congrArg List.length hd
      have := chain_ten U f0 f1
      simp at *; omega
    have HD := Lib.hid hd
    clear hd cf
    have hsz := hbl.size
    rcases Int.lt_or_le x 128 with hx | hx
    · go_wp2_with (at_builtin; refine wpList_app rfl (.tmp 18) (.tmp 21) rfl rfl (hown.alloc1 _) (m := [x]) rfl (row_new _ _ _ (by decide)) (by simp; omega) (hbl.alloc hbl.size _) (by simp; omega) ?_; intro v' w1 hown1 hb1)
      go_ret
      refine ⟨v', rfl, ?_, hb1⟩
      rw [← HD.out, chain_lt hx]
      exact hown1
    · go_wp2_with (at_builtin; refine wpList_app rfl (.tmp 9) (.tmp 14) rfl rfl (hown.alloc1 _) (m := [x % 128 + 128]) rfl (row_new _ _ _ (by decide)) (by simp; omega) (hbl.alloc hbl.size _) (by simp; omega) ?_; intro v' w1 hown1 hb1)
      go_roundw
      case rel =>
        refine ⟨x / 128, done ++ [x % 128 + 128], by omega, by omega, rfl, ?_, hown1, hb1⟩
        rw [← HD.out, chain_ge hx]
        simp
      case measure => simp [intOf]; omega

/-- copy(out, b), out made with room for more. -/
theorem wpList_copy_made {w : World} {ops : Array Oper} {rest : List Oper} {o : Oper} {a : Act} {Q : Exit → Act → World → Prop} (hgd : o.guard = none) (d s : Operand)
    (ho : o.op = .call { callee := .builtin .copy, args := #[d, s], argTypes := #[22, 22] }) {w0 : World} {g cap : Nat} {ad : Option Addr} {c : Nat} {l : List Int}
    (hd : a.eval d = .slice (some ⟨g, 0, none⟩) l.length cap) (hs : a.eval s = .slice ad l.length c) (hr : Row w ad c l) (hg : w.heap[g]? = some (.cells (madeCells #[.int .u8 0] cap) 5 (0, 0)))
    (hcap : l.length ≤ cap) (hm : cap ≤ maxLen) {B : Nat} (hb : Below B w0 w) (hB : B ≤ g)
    (h : ∀ w', Own w' B (.slice (some ⟨g, 0, none⟩) l.length cap) l → Below B w0 w' → wpList Try.prog ops Q rest (a.put o.dst (goInt l.length)) w') : wpList Try.prog ops Q (o :: rest) a w := by
  refine wpList_copy_splice hgd d s 22 22 ho 5 Try.underlying22 (by kernel_rfl) _ _ l.length cap l.length c hd hs g 0 (madeCells #[.int .u8 0] cap).toList 5 (by simpa using hg) (l.map (Value.int .u8)) (by simp)
    (fun h0 => ?_) (by simp [size_madeCells]; exact hcap) (fun v hv => ?_) B w0 hb hB ?_
  · refine ⟨rfl, ?_⟩
    obtain ⟨b, off, rfl, _⟩ := hr.2 0 (by simpa using h0)
    refine ⟨_, rfl, fun j u hj => ?_⟩
    have hj' : j < l.length := by
      rcases Nat.lt_or_ge j l.length with h | h
      · exact h
      · simp [h] at hj
    obtain ⟨b', off', e, _, hc⟩ := hr.2 j hj'
    obtain ⟨rfl, rfl⟩ : b = b' ∧ off = off' := by simpa using e
    rw [Go.WideShapes.add_plain, hc, ← hj]
    simp [hj']
  · obtain ⟨x, _, rfl⟩ := List.mem_map.1 hv
    rfl
  · intro w' hh hb'
    have hh := hh.out
    have hl : (splice (madeCells #[.int .u8 0] cap).toList 0 (l.map (Value.int .u8))).length = cap := by
      rw [length_splice _ _ _ (by simp [size_madeCells]; exact hcap)]
      simp [size_madeCells]
    have hw : Own w' B (.slice (some ⟨g, 0, none⟩) l.length cap) l := by
      refine ⟨by simp, .inr ⟨g, cap, _, rfl, hB, hh, hcap, hm, by simpa using hl, ?_⟩⟩
      simp [splice]
    have h2 := h w' hw hb'
    simpa using h2
theorem put_any (a : Option Addr) (c : Nat) (l : List Int) (n : Int) (h0 : -9223372036854775808 ≤ n) (h1 : n ≤ 9223372036854775807) (w : World) (hl : l.length ≤ 1000000) (hr : Row w a c l) :
    Calls Try.prog 68 #[.slice a l.length c, .int .i64 n] w fun e w' => ∃ v, e = .returned v ∧ Own w' w.heap.size v (l ++ chainL (foldZ n)) ∧ Below w.heap.size w w' := by
  obtain ⟨f0, f1⟩ := fold_range n h0 h1
  have cf := fold_any n h0 h1
  have cs := csize_any n h0 h1
  generalize foldZ n = U at *
  have hten := chain_ten U f0 f1
  obtain ⟨S, hS⟩ : ∃ S, S = (chainL U).length := ⟨_, rfl⟩
  rw [← hS] at cs hten
  have HS := Lib.hid hS
  clear hS
  obtain ⟨i, hi, hz, z1, z2⟩ := info_parts info5
  have mk : ∀ x, Sem.run Try.prog (Instr.makeSlice 22 (.int .i64 (l.length : Int)) (.int .i64 ((l.length : Int) + (S : Int)))) x = .ok (.slice (some ⟨x.heap.size, 0, none⟩) l.length (l.length + S)) (x.alloc (.cells (madeCells #[.int .u8 0] (l.length + S)) 5)) := fun x => by
    have := run_make (P := Try.prog) x 22 5 i _ Try.underlying22 hi hz .i64 .i64 (l.length : Int) ((l.length : Int) + (S : Int)) (by omega) (by omega) (by rw [z2]; omega) (by omega)
    rw [this, z1, show ((l.length : Int) + (S : Int)).toNat = l.length + S by omega, Int.toNat_natCast, Nat.mul_one]
    rfl
  clear hi hz z1 z2
  go_enter Try.func68, Try.ntmps68
  have hb0 : Below w.heap.size w (w.alloc (.cells (madeCells #[.int .u8 0] (l.length + S)) 5)) := (Below.refl _ _).alloc (Nat.le_refl _) _
  have hr0 := hr.carry hb0
  go_wp2_with (first
    | (go_at_call 80; with_reducible refine (cs _).mono ?_; rintro e w' ⟨rfl, rfl⟩)
    | (go_at_call 81; with_reducible refine (cf _).mono ?_; rintro e w' ⟨rfl, rfl⟩)
    | ((with_reducible show wpList _ _ _ _ _ _); refine wpList_copy_made (o := ⟨some 17, _, _, _, _, _⟩) rfl (.tmp 15) (.tmp 16) rfl (by rfl) (by rfl) hr0 (heap_alloc_new _ _) (by omega) (by unfold maxLen; omega) hb0 (Nat.le_refl _) ?_; intro w1 hown1 hb1; clear hb0 hr0 mk))
  go_loopw [5, 6] (fun v u wr => ∃ (x : Int) (done : List Int), 0 ≤ x ∧ x ≤ 18446744073709551615 ∧ u = .int .u64 x ∧ done ++ chainL x = chainL U ∧ Own wr w.heap.size v (l ++ done) ∧ Below w.heap.size w wr) (fun _ u _ => (intOf u).toNat)
  case atStart => exact ⟨U, [], f0, f1, rfl, rfl, by simpa [Own] using hown1, hb1⟩
  case round =>
    obtain ⟨x, done, x0, x1, rfl, hd, hown, hbl⟩ := hrel
    have hlen : done.length ≤ 10 := by
      have := congrArg List.length hd
      have := HS.out
      simp at *; omega
    have HD := Lib.hid hd
    clear hd cf hown1 hb1
    have hsz := hbl.size
    rcases Int.lt_or_le x 128 with hx | hx
    · go_wp2_with (at_builtin; refine wpList_app rfl (.tmp 30) (.tmp 33) rfl rfl (hown.alloc1 _) (m := [x]) rfl (row_new _ _ _ (by decide)) (by simp; omega) (hbl.alloc hbl.size _) (by simp; omega) ?_; intro v' w2 hown2 hb2)
      go_ret
      refine ⟨v', rfl, ?_, hb2⟩
      rw [← HD.out, chain_lt hx, ← List.append_assoc]
      exact hown2
    · have hor : bits .or .u8 (x % 256) 128 = x % 128 + 128 := by
        have h := u8_or (x % 256) 128 (by omega) (by omega) (by omega) (by omega)
        rw [h]
        have e : (x % 256).toNat ||| (128 : Int).toNat = (x % 128).toNat + 128 := by
          have hc : ∀ a : Nat, a < 256 → a ||| 128 = a % 128 + 128 := by decide +kernel
          rw [show (128 : Int).toNat = 128 from rfl, hc _ (by omega)]
          omega
        rw [e]
        omega
      go_wp2_with (at_builtin; refine wpList_app rfl (.tmp 24) (.tmp 28) rfl rfl (hown.alloc1 _) (m := [x % 128 + 128]) rfl (row_new _ _ _ (by decide)) (by simp; omega) (hbl.alloc hbl.size _) (by simp; omega) ?_; intro v' w2 hown2 hb2)
      go_roundw
      case rel =>
        refine ⟨x / 128, done ++ [x % 128 + 128], by omega, by omega, rfl, ?_, ?_, hb2⟩
        · rw [← HD.out, chain_ge hx]
          simp
        · rw [← List.append_assoc]; exact hown2
      case measure => simp [intOf]; omega
end Go.Proofs.Ytjfjekncmejfpaa
namespace Go.Proofs.Ytjfjekncmejfpaa
open Go.RowKit
set_option maxRecDepth 20000
set_option linter.unusedVariables false

/-- What Get answers. -/
def gotR (i : Int) (l : List Int) : Int × Int × Int :=
  if i < 0 ∨ (l.length : Int) < i then (0, 0, 1) else match getR (l.drop i.toNat) 0 0 with | none => (0, 0, 2) | some (u, m) => (unfoldZ u, i + m, 0)
def trip (r : Int × Int × Int) : Value := .tuple #[.int .i64 r.1, .int .i64 r.2.1, .int .i64 r.2.2]
theorem got_arg (i : Int) (l : List Int) (h : i < 0 ∨ (l.length : Int) < i) : gotR i l = (0, 0, 1) := if_pos h
theorem got_none (i : Nat) (l : List Int) (h : i ≤ l.length) (hg : getR (l.drop i) 0 0 = none) : gotR i l = (0, 0, 2) := by
  unfold gotR
  rw [if_neg (by omega), Int.toNat_natCast, hg]
theorem got_some (i : Nat) (l : List Int) (h : i ≤ l.length) (u : Int) (m : Nat) (hg : getR (l.drop i) 0 0 = some (u, m)) : gotR i l = (unfoldZ u, (i : Int) + m, 0) := by
  unfold gotR
  rw [if_neg (by omega), Int.toNat_natCast, hg]
theorem drop_cons (L : List Int) (k : Nat) (h : k < L.length) : L.drop k = L.getD k 0 :: L.drop (k + 1) := by
  rw [List.drop_eq_getElem_cons h]
  simp [h]
theorem get_bad (a : Option Addr) (c : Nat) (l : List Int) (i : Int) (h : i < 0 ∨ (l.length : Int) < i) (hl : l.length ≤ 1000000) (w : World) :
    Calls Try.prog 88 #[.slice a l.length c, .int .i64 i] w fun e w' => e = .returned (trip (gotR i l)) ∧ w = w' := by
  rw [got_arg i l h]
  rcases h with h | h
  · go_enter Try.func88, Try.ntmps88
    go_wp2
    go_step3
    go_wp2
    rw [Exit.noGoto_ret]
    go_ret3
    exact ⟨rfl, rfl⟩
  · go_enter Try.func88, Try.ntmps88
    go_wp2
    go_step3
    go_wp2
    rw [Exit.noGoto_ret]
    go_ret3
    exact ⟨rfl, rfl⟩
theorem or_group (x y : Int) (k : Nat) (x0 : 0 ≤ x) (x1 : x < pw k) (y0 : 0 ≤ y) (k9 : k ≤ 9) (h : k ≤ 8 ∨ y ≤ 1) :
    bits .or .u64 x (IntKind.u64.wrap (y % 128 * 2 ^ (7 * k))) = x + y % 128 * pw k := by
  have e : (2 : Int) ^ (7 * k) = pw k := by rw [pw_two]; simp
  rw [e]
  have hp := pw_pos k
  have hb : pw k ≤ 9223372036854775808 ∧ y % 128 * pw k < 18446744073709551616 := by
    rcases cases9 k9 with rfl | rfl | rfl | rfl | rfl | rfl | rfl | rfl | rfl | rfl <;> simp only [pw] <;> omega
  have hn : 0 ≤ y % 128 * pw k := Int.mul_nonneg (by omega) (by omega)
  rw [IntKind.wrap_u64, Int.emod_eq_of_lt hn hb.2]
  have hc : bits .or .u64 x (y % 128 * pw k) = bits .or .u64 (y % 128 * pw k) x := by simp only [bits, BitVec.or_comm]
  rw [hc, bits_join .u64 64 (by decide) (fun n a b => by rw [IntKind.wrap_u64]; omega) (7 * k) _ x hn (by rw [e]; exact Int.mul_emod_left ..) (by omega) x0 (by rw [e]; exact x1) (by omega)]
  omega
theorem group_range (x y : Int) (k : Nat) (x0 : 0 ≤ x) (x1 : x < pw k) (y0 : 0 ≤ y) (k9 : k ≤ 9) (h : k ≤ 8 ∨ y ≤ 1) :
    0 ≤ x + y % 128 * pw k ∧ x + y % 128 * pw k < pw (k + 1) ∧ x + y % 128 * pw k ≤ 18446744073709551615 := by
  rcases cases9 k9 with rfl | rfl | rfl | rfl | rfl | rfl | rfl | rfl | rfl | rfl <;> simp only [pw] at * <;> omega
theorem get_good (a : Option Addr) (c : Nat) (l : List Int) (i : Nat) (hi : i ≤ l.length) (hl : l.length ≤ 1000000) (hB : Byt l) (w : World) (hr : Row w a c l) :
    Calls Try.prog 88 #[.slice a l.length c, .int .i64 i] w fun e w' => e = .returned (trip (gotR i l)) ∧ w = w' := by
  obtain ⟨a', c', hcut, hr'⟩ := cut_from a c l i hi w hr
  have hL : (l.drop i).length = l.length - i := by simp
  have hB' : Byt (l.drop i) := fun x hx => hB x (List.mem_of_mem_drop hx)
  have HN := Lib.hid (got_none i l hi)
  have HS := Lib.hid (got_some i l hi)
  rw [← hL] at hcut
  have hLi : (l.drop i).length + i ≤ 1000000 := by omega
  clear hL hr
  generalize l.drop i = L at *
  have hd : decide (l.length < i) = false := by simp; omega
  go_enter Try.func88, Try.ntmps88
  go_wp2_with fail
  go_step3
  go_wp2_with fail
  go_step3
  go_wp2_with fail
  go_loopw [7, 23] (fun u ix wr => ∃ (x : Int) (k : Nat), 0 ≤ x ∧ x < pw k ∧ k ≤ 9 ∧ k ≤ L.length ∧ u = .int .u64 x ∧ ix = .int .i64 k ∧ getR (L.drop k) k x = getR L 0 0 ∧ wr = w) (fun _ ix _ => L.length - (intOf ix).toNat)
  case atStart => exact ⟨0, 0, by omega, by decide, by omega, by omega, rfl, rfl, rfl, rfl⟩
  case round =>
    obtain ⟨x, k, x0, x1, k9, kL, rfl, rfl, hg, rfl⟩ := hrel
    by_cases hlt : k < L.length
    · obtain ⟨y, hy⟩ : ∃ y, y = L.getD k 0 := ⟨_, rfl⟩
      obtain ⟨b1, o1, rfl, hB1, hc1⟩ := hr'.2 k hlt
      have hyb := hB'.at k
      rw [drop_cons L k hlt, ← hy] at hg
      rw [← hy] at hc1 hyb
      clear hy hr' hcut
      obtain ⟨y0, y1⟩ := hyb
      by_cases hA : k = 9 ∧ 1 < y
      · obtain ⟨rfl, hy1⟩ := hA
        have hn : getR L 0 0 = none := by rw [← hg]; unfold getR; rw [if_pos ⟨rfl, hy1⟩]
        have HG := Lib.hid (HN.out hn)
        clear hn hg x1
        go_wp2_with fail
        rw [Exit.noGoto_ret]
        go_ret3
        exact ⟨by rw [HG.out]; rfl, rfl⟩
      · have hkk : k ≤ 8 ∨ y ≤ 1 := by omega
        have ho := or_group x y k x0 x1 y0 k9 hkk
        obtain ⟨r0, r1, r2⟩ := group_range x y k x0 x1 y0 k9 hkk
        obtain ⟨X, hX⟩ : ∃ X, X = x + y % 128 * pw k := ⟨_, rfl⟩
        rw [← hX] at ho r0 r1 r2
        by_cases hB : 128 ≤ y
        · have hn : getR (L.drop (k + 1)) (k + 1) X = getR L 0 0 := by rw [← hg]; conv => rhs; unfold getR; rw [if_neg hA, if_pos hB, ← hX]
          have HG := Lib.hid hn
          have HR := Lib.hid r1
          have k8 : k ≤ 8 := by omega
          clear hn hg x1 hX r1 hA
          go_wp2_with fail
          go_roundw
          case rel =>
            exact ⟨X, k + 1, r0, HR.out, by omega, by omega, rfl, by go_num, HG.out, by first | rfl | trivial⟩
          case measure => simp [intOf]; omega
        · by_cases hC : y = 0 ∧ 0 < k
          · have hn : getR L 0 0 = none := by rw [← hg]; unfold getR; rw [if_neg hA, if_neg hB, if_pos hC]
            have HG := Lib.hid (HN.out hn)
            obtain ⟨rfl, hk⟩ := hC
            clear hn hg x1 hA hX ho
            go_wp2_with fail
            all_goals try rw [Exit.noGoto_ret]
            all_goals go_ret3
            all_goals exact ⟨by rw [HG.out]; rfl, rfl⟩
          · have hn : getR L 0 0 = some (X, k + 1) := by rw [← hg, hX]; unfold getR; rw [if_neg hA, if_neg hB, if_neg hC]
            have HG := Lib.hid (HS.out _ _ hn)
            have cu := unfold_any X r0 r2
            clear hn hg
            by_cases hy0 : y = 0
            · subst hy0
              obtain rfl : k = 0 := by omega
              obtain rfl : x = 0 := by simp only [pw] at x1; omega
              obtain rfl : X = 0 := by simpa using hX
              clear hX x1 hA ho hB hC hkk
              have ho : bits .or .u64 0 0 = 0 := by decide +kernel
              simp only [Nat.add_zero] at hc1
              go_wp2_with (go_at_call 89; with_reducible refine (cu _).mono ?_; rintro e w' ⟨rfl, rfl⟩)
              rw [Exit.noGoto_ret]
              go_ret3
              exact ⟨by rw [HG.out]; rfl, rfl⟩
            · have hy1 : 1 ≤ y := by omega
              have hy2 : y < 128 := by omega
              have hk9 : k = 9 → y = 1 := by omega
              clear hX x1 hA hB hC hy0
              rcases Nat.lt_or_ge k 9 with h9 | h9
              · go_wp2_with (go_at_call 89; with_reducible refine (cu _).mono ?_; rintro e w' ⟨rfl, rfl⟩)
                rw [Exit.noGoto_ret]
                go_ret3
                exact ⟨by rw [HG.out, Int.natCast_succ, ← Int.add_assoc]; rfl, rfl⟩
              · obtain rfl : k = 9 := by omega
                obtain rfl : y = 1 := hk9 rfl
                clear hk9
                rw [show IntKind.u64.wrap (1 % 128 * 2 ^ (7 * 9)) = 9223372036854775808 by decide +kernel] at ho
                go_wp2_with (go_at_call 89; with_reducible refine (cu _).mono ?_; rintro e w' ⟨rfl, rfl⟩)
                rw [Exit.noGoto_ret]
                go_ret3
                exact ⟨by rw [HG.out]; rfl, rfl⟩
    · have hn : getR L 0 0 = none := by rw [← hg, List.drop_eq_nil_of_le (by omega)]; rfl
      have HG := Lib.hid (HN.out hn)
      clear hn hg x1
      go_wp2_with fail
      rw [Exit.noGoto_ret]
      go_ret3
      exact ⟨by rw [HG.out]; rfl, rfl⟩
theorem get_any (a : Option Addr) (c : Nat) (l : List Int) (i : Int) (hl : l.length ≤ 1000000) (hB : Byt l) (w : World) (hr : Row w a c l) :
    Calls Try.prog 88 #[.slice a l.length c, .int .i64 i] w fun e w' => e = .returned (trip (gotR i l)) ∧ w = w' := by
  by_cases h : i < 0 ∨ (l.length : Int) < i
  · exact get_bad a c l i h hl w
  · obtain ⟨k, rfl⟩ := Int.eq_ofNat_of_zero_le (show 0 ≤ i by omega)
    exact get_good a c l k (by omega) hl hB w hr
end Go.Proofs.Ytjfjekncmejfpaa
