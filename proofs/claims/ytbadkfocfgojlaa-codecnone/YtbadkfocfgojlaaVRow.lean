/- Slices of bytes; Same. -/
import Derived.Test.YtbadkfocfgojlaaVFold
import Derived.LoopTactic
import Derived.Lib.Hide
import Derived.Test.YtbadkfocfgojlaaDet
import Derived.BigQuiet
import Derived.OpenShut
import Derived.OwnWalk
import Derived.Laws.OwnMore
namespace Go.Proofs.Ytbadkfocfgojlaa
open Go.RowKit
set_option linter.unusedVariables false

theorem bdrewN {B : Nat} {a w : World} (h : Below B a w) (n : Nat) : Below B a (w.drewN n) := ⟨h.os, h.tape, h.output, h.size, h.block⟩
/-- The bytes of a list lie where a slice says (a slice of none may lie nowhere). -/
def Row (w : World) (a : Option Addr) (cap : Nat) (l : List Int) : Prop :=
  l.length ≤ cap ∧ ∀ k, k < l.length → ∃ b off, a = some ⟨b, off, none⟩ ∧ b < w.heap.size ∧ w.cell? ⟨b, off + k, none⟩ = some (.int .u8 (l.getD k 0))
/-- Each is a byte. -/
def Byt (l : List Int) : Prop := ∀ x ∈ l, 0 ≤ x ∧ x < 256
theorem Byt.at {l : List Int} (h : Byt l) (k : Nat) : 0 ≤ l.getD k 0 ∧ l.getD k 0 < 256 := by
  rcases Nat.lt_or_ge k l.length with hk | hk
  · have e : l.getD k 0 = l[k] := by simp [hk]
    rw [e]; exact h _ (List.getElem_mem hk)
  · have e : l.getD k 0 = 0 := by simp [hk]
    rw [e]; omega
theorem Byt.app {l m : List Int} (h : Byt l) (h' : Byt m) : Byt (l ++ m) := fun x hx => by
  rcases List.mem_append.1 hx with hx | hx
  · exact h x hx
  · exact h' x hx
theorem Row.carry {w w' : World} {a : Option Addr} {cap : Nat} {l : List Int} (h : Row w a cap l) (hb : Below w.heap.size w w') : Row w' a cap l := ⟨h.1, fun k hk => by
  obtain ⟨b, off, rfl, hB, hc⟩ := h.2 k hk
  exact ⟨b, off, rfl, Nat.lt_of_lt_of_le hB hb.size, (hb.cell (p := ⟨b, off + k, none⟩) hB).trans hc⟩⟩
theorem Row.none (w : World) (cap : Nat) : Row w none cap [] := ⟨Nat.zero_le _, fun k hk => absurd hk (by simp)⟩
theorem Row.take {w : World} {a : Option Addr} {cap : Nat} {l : List Int} (h : Row w a cap l) (m : Nat) : Row w a cap (l.take m) := ⟨by have := h.1; simp; omega, fun k hk => by
  have hk' : k < m ∧ k < l.length := by simp at hk; omega
  obtain ⟨b, off, rfl, hB, hc⟩ := h.2 k hk'.2
  refine ⟨b, off, rfl, hB, hc.trans ?_⟩
  simp [hk'.1]⟩
/-- What is owned reads so. -/
theorem own_row {w : World} {B : Nat} {v : Value} {l : List Int} (h : w.ownsRow B 5 1 v l.length (l.map (Value.int .u8))) : ∃ a cap, v = .slice a l.length cap ∧ Row w a cap l := by
  rcases h.2 with ⟨rfl, h0⟩ | ⟨g, cap, cur, rfl, hb, hg, hnc, hm, hs, ht⟩
  · obtain rfl : l = [] := List.eq_nil_of_length_eq_zero h0
    exact ⟨none, 0, rfl, Row.none _ _⟩
  · refine ⟨some ⟨g, 0, none⟩, cap, rfl, hnc, fun k hk => ⟨g, 0, rfl, (Array.getElem?_eq_some_iff.1 hg).1, ?_⟩⟩
    have := h.cellAt (g := g) (cap := cap) k (by omega)
    rw [Nat.zero_add, this]
    simp [hk]
/-- b[at:] -/
theorem cut_from (a : Option Addr) (cap : Nat) (l : List Int) (i : Nat) (hi : i ≤ l.length) (w : World) (h : Row w a cap l) :
    ∃ a' c', (∀ x, Sem.run Try.prog (Instr.slice 26 (.slice a l.length cap) (some (.int .i64 i)) none none) x = .ok (.slice a' (l.length - i) c') x) ∧ Row w a' c' (l.drop i) := by
  refine ⟨if cap = i then a else a.map (·.add i), cap - i, fun x => ?_, ?_, ?_⟩
  · rw [run_slice_l _ 26 a l.length cap Try.underlying26 .i64 i (by omega) (by omega)]
    have e : Sem.run Try.prog (sizeOf (Try.prog.elem 26)) x = .ok 1 x := by kernel_rfl
    rw [e]
    simp [Result.andThen, sliced]
  · have := h.1; simp; omega
  · intro k hk
    have hk' : i + k < l.length := by simp at hk; omega
    obtain ⟨b, off, rfl, hB, hc⟩ := h.2 _ hk'
    have := h.1
    rw [if_neg (by omega)]
    refine ⟨b, off + i, ?_, hB, ?_⟩
    · simp only [Option.map_some, Option.some.injEq]
      unfold Addr.add; split <;> simp_all
    · rw [Nat.add_assoc, hc]
      simp [List.getD_eq_getElem?_getD, List.getElem?_drop]
/-- b[:to] -/
theorem cut_to (a : Option Addr) (cap n : Nat) (l : List Int) (i : Nat) (hi : i ≤ l.length) (w : World) (h : Row w a cap l) :
    ∃ a' c', (∀ x, Sem.run Try.prog (Instr.slice 26 (.slice a n cap) none (some (.int .i64 i)) none) x = .ok (.slice a' i c') x) ∧ Row w a' c' (l.take i) := by
  have hc := h.1
  refine ⟨if cap = 0 then a else a.map (·.add 0), cap, fun x => ?_, ?_⟩
  · rw [run_slice_h _ 26 a n cap Try.underlying26 .i64 i (by omega) (by omega)]
    have e : Sem.run Try.prog (sizeOf (Try.prog.elem 26)) x = .ok 1 x := by kernel_rfl
    rw [e]
    simp [Result.andThen, sliced]
  · have e : (if cap = 0 then a else a.map (·.add 0)) = a := by
      split
      · rfl
      · cases a <;> simp [Addr.add]
    rw [e]
    exact h.take i

theorem same_any (a b : Option Addr) (ca cb : Nat) (l m : List Int) (w : World) (hl : l.length ≤ 1000000) (hm : m.length ≤ 1000000) (ha : Row w a ca l) (hb : Row w b cb m) :
    Calls Try.prog 9 #[.slice a l.length ca, .slice b m.length cb] w fun e w' => e = .returned (.bool (decide (l = m))) ∧ Below w.heap.size w w' := by
  rcases Nat.decEq l.length m.length with hne | heq
  · rw [decide_eq_false (fun h => hne (by rw [h]))]
    go_enter Try.func9, Try.ntmps9
    go_wp2_with fail
    go_ret
    exact ⟨rfl, Below.refl _ _⟩
  · go_enter Try.func9, Try.ntmps9
    go_wp2_with fail
    go_loopw [5] (fun i wr => ∃ k : Nat, k ≤ l.length ∧ i = .int .i64 k ∧ Below w.heap.size w wr ∧ ∀ j, j < k → l.getD j 0 = m.getD j 0) (fun i _ => l.length - (intOf i).toNat)
    case atStart => exact ⟨0, Nat.zero_le _, rfl, Below.refl _ _, fun j hj => by omega⟩
    case round =>
      obtain ⟨k, hk, rfl, hbl, hp⟩ := hrel
      have HP := Lib.hid hp
      clear hp
      by_cases hlt : k < l.length
      · obtain ⟨x, hx⟩ : ∃ x, x = l.getD k 0 := ⟨_, rfl⟩
        obtain ⟨y, hy⟩ : ∃ y, y = m.getD k 0 := ⟨_, rfl⟩
        obtain ⟨b1, o1, rfl, hB1, hc1⟩ := (ha.carry hbl).2 k hlt
        obtain ⟨b2, o2, rfl, hB2, hc2⟩ := (hb.carry hbl).2 k (by omega)
        rw [← hx] at hc1
        rw [← hy] at hc2
        have HX := Lib.hid hx
        have HY := Lib.hid hy
        clear hx hy ha hb
        by_cases hxy : x = y
        · subst hxy
          go_wp2_with fail
          go_quiet (fail)
          go_wp2
          go_roundw
          case rel =>
            refine ⟨k + 1, by omega, by go_num, bdrewN hbl _, fun j hj => ?_⟩
            rcases Nat.lt_or_ge j k with h | h
            · exact HP.out j h
            · obtain rfl : j = k := by omega
              exact HX.out.symm.trans HY.out
          case measure => simp [intOf]; omega
        · have hne : ¬ l = m := fun h => hxy (by rw [HX.out, HY.out, h])
          have HN := Lib.hid hne
          clear hne
          go_wp2_with fail
          go_quiet (fail)
          go_wp2
          go_ret
          exact ⟨by rw [decide_eq_false HN.out]; rfl, bdrewN hbl _⟩
      · have he : l = m := List.ext_getElem? fun j => by
          rcases Nat.lt_or_ge j l.length with h | h
          · have := HP.out j (by omega)
            have h' : j < m.length := by omega
            simpa [h, h'] using this
          · rw [List.getElem?_eq_none h, List.getElem?_eq_none (by omega)]
        have HN := Lib.hid he
        clear he
        go_wp2
        go_ret
        exact ⟨by rw [decide_eq_true HN.out]; rfl, hbl⟩
end Go.Proofs.Ytbadkfocfgojlaa
