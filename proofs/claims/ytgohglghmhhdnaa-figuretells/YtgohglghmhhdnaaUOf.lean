/- Of of package figure, and the document's. -/
import Derived.Test.YtgohglghmhhdnaaUHi
import Derived.Test.YtgohglghmhhdnaaNSt
namespace Go.Proofs.Ytgohglghmhhdnaa
open Go.RowKit
set_option maxRecDepth 20000
set_option linter.unusedVariables false
set_option linter.unusedSimpArgs false

/-- The indices of the floats of class c among the first k. -/
def ofFU (l : List F3) (c : Int) : Nat → List Int
  | 0 => []
  | k + 1 => if (l.getD k zeroF).c = c then ofFU l c k ++ [(k : Int)] else ofFU l c k
def ofF (l : List F3) (c : Int) : List Int := ofFU l c l.length
theorem ofFU_len (l : List F3) (c : Int) (k : Nat) : (ofFU l c k).length ≤ k := by
  induction k with
  | zero => simp [ofFU]
  | succ k ih => unfold ofFU; split <;> (try simp) <;> omega
theorem ofFU_mem (l : List F3) (c : Int) (k : Nat) : ∀ x ∈ ofFU l c k, 0 ≤ x ∧ x < k := by
  induction k with
  | zero => simp [ofFU]
  | succ k ih =>
    unfold ofFU
    intro x hx
    split at hx
    · rcases List.mem_append.1 hx with h | h
      · have := ih x h; omega
      · have := List.mem_singleton.1 h; omega
    · have := ih x hx; omega
theorem ofFU_in (l : List F3) (c : Int) (k : Nat) (hk : k ≤ 1000000) : ∀ j, inR ((ofFU l c k).getD j 0) := fun j => by
  rcases Nat.lt_or_ge j (ofFU l c k).length with h | h
  · rw [List.getD_eq_getElem?_getD, List.getElem?_eq_getElem h, Option.getD_some]
    have := ofFU_mem l c k _ (List.getElem_mem h)
    unfold inR
    omega
  · rw [List.getD_eq_getElem?_getD, List.getElem?_eq_none h]
    simp [inR]
theorem OwnN.alloc {w : World} {base : Nat} {v : Value} {l : List Int} (h : OwnN w base v l) (o : Obj) : OwnN (w.alloc o) base v l := ⟨h.own.alloc _, h.ins⟩
theorem cell_one_two (w : World) (o : Obj) (x : Value) (t : TypeId) : ∀ j u, [x][j]? = some u → ((w.alloc o).alloc (.cells #[x] t)).cell? ((⟨w.heap.size + 1, 0, none⟩ : Addr).add j) = some u := by
  have := cell_one_new (w.alloc o) x t
  rwa [World.size_alloc] at this
set_option maxHeartbeats 2000000 in
theorem fof_any (a : Option Addr) (cap : Nat) (l : List F3) (c : Int) (w : World) (hl : l.length ≤ 1000000) (hr : URow w a l) :
    Calls Try.prog 16 #[.slice a l.length cap, .int .i64 c] w fun e w' => ∃ v, e = .returned v ∧ OwnN w' w.heap.size v (ofF l c) ∧ Below w.heap.size w w' := by
  have hmx : 1000002 ≤ maxLen := by decide
  obtain ⟨i0, hi, hz0, hz1, hz2⟩ := info_parts infoInt
  have HR := Lib.hid hr
  clear hr
  go_enter Try.func16, Try.ntmps16
  go_wp2_with fail
  go_loopw [5, 10] (fun v i wr => ∃ (u : Value) (k : Nat), u = v ∧ k ≤ l.length ∧ i = .int .i64 k ∧ Below w.heap.size w wr ∧ OwnN wr w.heap.size u (ofFU l c k)) (fun _ i _ => l.length - (intOf i).toNat)
  case atStart => exact ⟨_, 0, rfl, Nat.zero_le _, rfl, Below.refl _ _, ownN_nil _ _⟩
  case round =>
    obtain ⟨u, k, rfl, hk, rfl, bw, hown⟩ := hrel
    by_cases hlt : k < l.length
    · obtain ⟨_, b, off, rfl, hB, q0, q1, q2⟩ := (HR.out.carry bw) k hlt
      have hkl := ofFU_len l c k
      have hzr := bw.size
      have HS : Hid (ofFU l c (k + 1) = if (l.getD k zeroF).c = c then ofFU l c k ++ [(k : Int)] else ofFU l c k) := Lib.hid rfl
      have HI : Hid (∀ j, inR ((ofFU l c (k + 1)).getD j 0)) := Lib.hid (ofFU_in l c (k + 1) (by omega))
      generalize l.getD k zeroF = y at *
      obtain ⟨y0, y1, y2⟩ := y
      dsimp only at *
      by_cases hy : y0 = c
      · rw [if_pos hy] at HS
        subst hy
        have bo := tstep bw (tbel1 wr (.cells #[.int .i64 y0, .int .i64 y1, .int .i64 y2] 24)) bw.size
        have ho := hown.alloc (.cells #[.int .i64 y0, .int .i64 y1, .int .i64 y2] 24)
        go_wp2_with (at_builtin; refine wpList_append_own _ rfl _ _ 30 rfl w.heap.size 3 i0 (.int .i64 0) 1 8 Try.underlying30 hi hz0 hz1 hz2 rfl (by decide) _ _ _ rfl (ho.own.alloc _) ⟨wr.heap.size + 1, 0, none⟩ 1 1 [.int .i64 k] rfl rfl (cell_one_two _ _ _ _) (by simp [Value.oneCell']) (by omega) (by omega) (by simp; omega) ?_; intro v' w4 hown' hgrow _; have hb4 : Below w.heap.size w w4 := ho.grow bo bo.size hgrow)
        have ho4 : OwnN w4 w.heap.size v' (ofFU l y0 (k + 1)) := ⟨by rw [HS.out]; simpa using hown', HI.out⟩
        clear hown' hgrow ho hown HS HI bo
        go_wp2
        go_roundw
        case rel => exact ⟨_, k + 1, rfl, by omega, by go_num, hb4, ho4⟩
        case measure => simp [intOf]; omega
      · rw [if_neg hy] at HS
        have hy' : (y0 == c) = false := by simpa using hy
        go_wp2
        go_roundw
        case rel => exact ⟨_, k + 1, rfl, by omega, by go_num, tstep bw (tbel1 wr _) bw.size, by rw [HS.out]; exact hown.alloc _⟩
        case measure => simp [intOf]; omega
    · have ej : k = l.length := by omega
      subst ej
      go_wp2
      go_ret
      exact ⟨_, rfl, hown, bw⟩
set_option maxHeartbeats 2000000 in
theorem rfof_any (a : Option Addr) (cap : Nat) (l : List F3) (c : Int) (w : World) (hl : l.length ≤ 1000000) (hr : URow w a l) :
    Calls Try.prog 17 #[.slice a l.length cap, .int .i64 c] w fun e w' => ∃ v, e = .returned v ∧ OwnN w' w.heap.size v (ofF l c) ∧ Below w.heap.size w w' := by
  have hmx : 1000002 ≤ maxLen := by decide
  obtain ⟨i0, hi, hz0, hz1, hz2⟩ := info_parts infoInt
  have HR := Lib.hid hr
  clear hr
  go_enter Try.func17, Try.ntmps17
  go_wp2_with fail
  go_loopw [5, 6] (fun v i wr => ∃ (u : Value) (k : Nat), u = v ∧ k ≤ l.length ∧ i = .int .i64 k ∧ Below w.heap.size w wr ∧ OwnN wr w.heap.size u (ofFU l c k)) (fun _ i _ => l.length - (intOf i).toNat)
  case atStart => exact ⟨_, 0, rfl, Nat.zero_le _, rfl, Below.refl _ _, ownN_nil _ _⟩
  case round =>
    obtain ⟨u, k, rfl, hk, rfl, bw, hown⟩ := hrel
    by_cases hlt : k < l.length
    · obtain ⟨_, b, off, rfl, hB, q0, q1, q2⟩ := (HR.out.carry bw) k hlt
      have hkl := ofFU_len l c k
      have hzr := bw.size
      have HS : Hid (ofFU l c (k + 1) = if (l.getD k zeroF).c = c then ofFU l c k ++ [(k : Int)] else ofFU l c k) := Lib.hid rfl
      have HI : Hid (∀ j, inR ((ofFU l c (k + 1)).getD j 0)) := Lib.hid (ofFU_in l c (k + 1) (by omega))
      generalize l.getD k zeroF = y at *
      obtain ⟨y0, y1, y2⟩ := y
      dsimp only at *
      by_cases hy : y0 = c
      · rw [if_pos hy] at HS
        subst hy
        go_wp2_with (at_builtin; refine wpList_append_own _ rfl _ _ 30 rfl w.heap.size 3 i0 (.int .i64 0) 1 8 Try.underlying30 hi hz0 hz1 hz2 rfl (by decide) _ _ _ rfl (hown.own.alloc _) ⟨wr.heap.size, 0, none⟩ 1 1 [.int .i64 k] rfl rfl (cell_one_new _ _ _) (by simp [Value.oneCell']) (by omega) (by omega) (by simp; omega) ?_; intro v' w4 hown' hgrow _; have hb4 : Below w.heap.size w w4 := hown.grow bw bw.size hgrow)
        have ho4 : OwnN w4 w.heap.size v' (ofFU l y0 (k + 1)) := ⟨by rw [HS.out]; simpa using hown', HI.out⟩
        clear hown' hgrow hown HS HI
        go_wp2
        go_roundw
        case rel => exact ⟨_, k + 1, rfl, by omega, by go_num, hb4, ho4⟩
        case measure => simp [intOf]; omega
      · rw [if_neg hy] at HS
        have hy' : (y0 == c) = false := by simpa using hy
        go_wp2
        go_roundw
        case rel => exact ⟨_, k + 1, rfl, by omega, by go_num, bw, by rw [HS.out]; exact hown⟩
        case measure => simp [intOf]; omega
    · have ej : k = l.length := by omega
      subst ej
      go_wp2
      go_ret
      exact ⟨_, rfl, hown, bw⟩
end Go.Proofs.Ytgohglghmhhdnaa
