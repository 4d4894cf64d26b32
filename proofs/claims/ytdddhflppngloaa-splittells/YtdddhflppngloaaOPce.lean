/- Pieces in memory: Same, Lines and Next of package split. -/
import Derived.Test.YtdddhflppngloaaOMath
import Derived.Test.YtdddhflppngloaaNSm
import Derived.StillTail
namespace Go.Proofs.Ytdddhflppngloaa
open Go.RowKit
set_option maxRecDepth 20000
set_option linter.unusedVariables false
set_option linter.unusedSimpArgs false

def encP (x : PcO) : List Value := [.int .i64 x.1, .int .i64 x.2.1, .int .i64 x.2.2]
theorem encP_len (x : PcO) : (encP x).length = 3 := rfl
theorem encP_one : ∀ x, ∀ u ∈ encP x, u.oneCell' = true := fun x u hu => by
  simp only [encP, List.mem_cons, List.not_mem_nil, or_false] at hu
  rcases hu with rfl | rfl | rfl <;> rfl
theorem elsP {w : World} {a : Option Addr} {n : Nat} {F : Nat → PcO} (h : Els 3 encP w a n F) {k : Nat} (hk : k < n) : ∃ b off, a = some ⟨b, off, none⟩ ∧ b < w.heap.size ∧ w.cell? ⟨b, off + k * 3, none⟩ = some (.int .i64 (F k).1) ∧ w.cell? ⟨b, off + k * 3 + 1, none⟩ = some (.int .i64 (F k).2.1) ∧ w.cell? ⟨b, off + k * 3 + 2, none⟩ = some (.int .i64 (F k).2.2) := by
  obtain ⟨b, off, rfl, hb, h0⟩ := h k 0 hk (by omega)
  have each : ∀ j, j < 3 → w.cell? ⟨b, off + k * 3 + j, none⟩ = (encP (F k))[j]? := fun j hj => by
    obtain ⟨b', off', e, _, hc⟩ := h k j hk hj
    cases e
    rw [Nat.add_assoc]
    exact hc
  exact ⟨b, off, rfl, hb, each 0 (by omega), each 1 (by omega), each 2 (by omega)⟩
/-- A spot by value. -/
def spo (s : SpO) : Value := .agg #[.int .i64 s.n, .int .i64 s.l, .int .i64 s.b, .bool s.f]
theorem ext_P {l m : List PcO} (h : l.length = m.length) (hp : ∀ k, k < l.length → l.getD k zPc = m.getD k zPc) : l = m := List.ext_getElem? fun k => by
  rcases Nat.lt_or_ge k l.length with h1 | h1
  · have := hp k h1
    have h' : k < m.length := by omega
    simpa [h1, h'] using this
  · rw [List.getElem?_eq_none h1, List.getElem?_eq_none (by omega)]
theorem run_neq_P (x y : PcO) (w : World) : Sem.run Try.prog (binOp .neq 44 (.agg #[.int .i64 x.1, .int .i64 x.2.1, .int .i64 x.2.2]) (.agg #[.int .i64 y.1, .int .i64 y.2.1, .int .i64 y.2.2])) w = .ok (.bool (!decide (x = y))) w := by
  obtain ⟨a0, a1, a2⟩ := x
  obtain ⟨b0, b1, b2⟩ := y
  by_cases h : ((a0, a1, a2) : PcO) = (b0, b1, b2)
  · rw [decide_eq_true h]
    injection h with h0 h
    injection h with h1 h2
    subst h0 h1 h2
    simp [go_sem]
  · rw [decide_eq_false h]
    simp only [Prod.mk.injEq] at h
    simp [go_sem]
    intro e0 e1 e2
    exact h ⟨e0, e1, e2⟩
set_option maxHeartbeats 1000000 in
theorem equal_P (a b : Option Addr) (ca cb : Nat) (l m : List PcO) (w : World) (hl : l.length ≤ 1000000) (hm : m.length ≤ 1000000) (ha : Els 3 encP w a l.length fun k => l.getD k zPc) (hb : Els 3 encP w b m.length fun k => m.getD k zPc) :
    Calls Try.prog 19 #[.slice a l.length ca, .slice b m.length cb] w fun e w' => e = .returned (.bool (decide (l = m))) ∧ Below w.heap.size w w' := by
  rcases Nat.decEq l.length m.length with hne | heq
  · rw [decide_eq_false (fun h => hne (by rw [h]))]
    clear ha hb
    go_enter Try.func19, Try.ntmps19
    go_wp2_with fail
    go_ret
    exact ⟨rfl, Below.refl _ _⟩
  · rw [← heq] at hb ⊢
    have HQ := Lib.hid heq
    have HA := Lib.hid ha
    have HB := Lib.hid hb
    clear ha hb heq
    go_enter Try.func19, Try.ntmps19
    go_wp2_with fail
    go_loopw [13] (fun i wr => ∃ k : Nat, k ≤ l.length ∧ i = .int .i64 k ∧ Below w.heap.size w wr ∧ Hid (∀ j, j < k → l.getD j zPc = m.getD j zPc)) (fun i _ => l.length - (intOf i).toNat)
    case atStart => exact ⟨0, Nat.zero_le _, rfl, Below.refl _ _, Lib.hid fun j hj => by omega⟩
    case round =>
      obtain ⟨k, hk, rfl, hbl, HP⟩ := hrel
      by_cases hlt : k < l.length
      · obtain ⟨b1, o1, rfl, hB1, p0, p1, p2⟩ := elsP (HA.out.carry hbl) hlt
        obtain ⟨b2, o2, rfl, hB2, q0, q1, q2⟩ := elsP (HB.out.carry hbl) hlt
        have HS : Hid (l.getD k zPc = m.getD k zPc → Hid (∀ j, j < k + 1 → l.getD j zPc = m.getD j zPc)) := Lib.hid fun e => Lib.hid fun j hj => by
          rcases Nat.lt_or_ge j k with h | h
          · exact HP.out j h
          · obtain rfl : j = k := by omega
            exact e
        have HN : Hid (¬ l.getD k zPc = m.getD k zPc → decide (l = m) = false) := Lib.hid fun h => decide_eq_false fun e => h (by rw [e])
        generalize l.getD k zPc = x at *
        generalize m.getD k zPc = y at *
        have hxy := run_neq_P x y
        by_cases he : x = y
        · rw [decide_eq_true he] at hxy
          replace HS := HS.out he
          clear he HN
          go_wp2_with fail
          go_quiet (fail)
          go_wp2
          go_roundw
          case rel => exact ⟨k + 1, by omega, by go_num, ndrewN hbl _, HS⟩
          case measure => simp [intOf]; omega
        · rw [decide_eq_false he] at hxy
          replace HN := Lib.hid (HN.out he)
          clear he HS
          go_wp2_with fail
          go_quiet (fail)
          go_wp2
          go_ret
          exact ⟨by rw [HN.out]; rfl, ndrewN hbl _⟩
      · have HE : Hid (decide (l = m) = true) := Lib.hid (decide_eq_true (ext_P HQ.out fun j hj => HP.out j (by omega)))
        clear HP
        go_wp2
        go_ret
        exact ⟨by rw [HE.out]; rfl, hbl⟩
theorem osame_any (a b : Option Addr) (ca cb : Nat) (l m : List PcO) (w : World) (hl : l.length ≤ 1000000) (hm : m.length ≤ 1000000) (ha : Els 3 encP w a l.length fun k => l.getD k zPc) (hb : Els 3 encP w b m.length fun k => m.getD k zPc) :
    Calls Try.prog 13 #[.slice a l.length ca, .slice b m.length cb] w fun e w' => e = .returned (.bool (decide (l = m))) ∧ Below w.heap.size w w' := by
  have c := equal_P a b ca cb l m w hl hm ha hb
  clear ha hb
  generalize decide (l = m) = r at *
  go_enter Try.func13, Try.ntmps13
  go_wp2_with fail
  refine c.mono ?_
  rintro e w1 ⟨rfl, b1⟩
  clear c
  go_wp2
  go_ret
  exact ⟨rfl, b1⟩
theorem oexists_any (a : Option Addr) (len cap : Nat) (n : Int) (w : World) (hl : len ≤ 1000000) :
    Calls Try.prog 16 #[.slice a len cap, .int .i64 n] w fun e w' => e = .returned (.bool (isO len n)) ∧ w' = w := by
  by_cases h0 : 0 ≤ n
  · by_cases h1 : n < len
    · rw [isO_yes h0 h1]
      go_enter Try.func16, Try.ntmps16
      go_wp2
      go_ret
      exact ⟨rfl, rfl⟩
    · rw [isO_high h1]
      go_enter Try.func16, Try.ntmps16
      go_wp2
      go_ret
      exact ⟨rfl, rfl⟩
  · rw [isO_neg h0]
    go_enter Try.func16, Try.ntmps16
    go_wp2
    go_ret
    exact ⟨rfl, rfl⟩
set_option maxHeartbeats 1000000 in
theorem olines_any (a : Option Addr) (cap : Nat) (p : List PcO) (w : World) (hl : p.length ≤ 1000000) (hr : Els 3 encP w a p.length fun k => p.getD k zPc) (hf : ∀ k, k < p.length → fairP (p.getD k zPc)) :
    Calls Try.prog 11 #[.slice a p.length cap] w fun e w' => e = .returned (.int .i64 (linesO p)) ∧ Below w.heap.size w w' := by
  have HR := Lib.hid hr
  have HF := Lib.hid hf
  have HU := Lib.hid (linesUpO_in hf)
  clear hr hf
  unfold linesO
  go_enter Try.func11, Try.ntmps11
  go_wp2_with fail
  go_loopw [3, 8] (fun u i wr => ∃ j : Nat, j ≤ p.length ∧ i = .int .i64 j ∧ u = .int .i64 (linesUpO p j) ∧ Below w.heap.size w wr) (fun _ i _ => p.length - (intOf i).toNat)
  case atStart => exact ⟨0, Nat.zero_le _, rfl, rfl, Below.refl _ _⟩
  case round =>
    obtain ⟨j, hj, rfl, rfl, bw⟩ := hrel
    have hu := HU.out j hj
    by_cases hlt : j < p.length
    · obtain ⟨b, off, rfl, hB, q0, q1, q2⟩ := elsP (HR.out.carry bw) hlt
      have HS : Hid (linesUpO p (j + 1) = linesUpO p j + lineO (p.getD j zPc)) := Lib.hid rfl
      have hq := HF.out j hlt
      unfold fairP at hq
      unfold lineO at HS
      generalize linesUpO p j = u at *
      generalize p.getD j zPc = y at *
      obtain ⟨y0, y1, y2⟩ := y
      dsimp only at *
      have bo := tstep bw (tbel1 wr (.cells #[.int .i64 y0, .int .i64 y1, .int .i64 y2] 44)) bw.size
      by_cases hc : y1 < y2
      · rw [if_pos hc] at HS
        have e1 : wrap64 (y2 - y1) = y2 - y1 := by unfold wrap64; omega
        have e2 : wrap64 (u + (y2 - y1)) = u + (y2 - y1) := by unfold wrap64; omega
        go_wp2
        go_roundw
        case rel => exact ⟨j + 1, by omega, by go_num, by rw [HS.out], bo⟩
        case measure => simp [intOf]; omega
      · rw [if_neg hc] at HS
        go_wp2
        go_roundw
        case rel => exact ⟨j + 1, by omega, by go_num, by rw [HS.out, Int.add_zero], bo⟩
        case measure => simp [intOf]; omega
    · obtain rfl : j = p.length := by omega
      go_wp2
      go_ret
      exact ⟨rfl, bw⟩
end Go.Proofs.Ytdddhflppngloaa
