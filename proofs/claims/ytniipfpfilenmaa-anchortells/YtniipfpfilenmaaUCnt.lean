/- Counts of package figure. -/
import Derived.Test.YtniipfpfilenmaaUOf
namespace Go.Proofs.Ytniipfpfilenmaa
open Go.RowKit
set_option maxRecDepth 20000
set_option linter.unusedVariables false
set_option linter.unusedSimpArgs false

/-- How many of the first k floats are of class c. -/
def cntFU (l : List F3) (c : Int) (k : Nat) : Int := (ofFU l c k).length
theorem cntFU_yes {l : List F3} {c : Int} {k : Nat} (h : (l.getD k zeroF).c = c) : cntFU l c (k + 1) = cntFU l c k + 1 := by
  unfold cntFU
  rw [ofFU, if_pos h]
  simp
theorem cntFU_no {l : List F3} {c : Int} {k : Nat} (h : ¬ (l.getD k zeroF).c = c) : cntFU l c (k + 1) = cntFU l c k := by
  unfold cntFU
  rw [ofFU, if_neg h]
theorem cntFU_in (l : List F3) (c : Int) (k : Nat) : 0 ≤ cntFU l c k ∧ cntFU l c k ≤ k := by
  have := ofFU_len l c k
  unfold cntFU
  omega
theorem Blk.triple_free {w : World} {g : Nat} {T : TypeId} {v0 v1 v2 : Value} (h : Blk w g #[v0, v1, v2] T) : w.frozen? ⟨g, 0, none⟩ = false ∧ w.frozen? ⟨g, 1, none⟩ = false ∧ w.frozen? ⟨g, 2, none⟩ = false := by
  unfold Blk at h
  simp [World.frozen?, h]
set_option maxHeartbeats 1000000 in
theorem fcounts_any (a : Option Addr) (cap : Nat) (l : List F3) (w : World) (hl : l.length ≤ 1000000) (hr : URow w a l) :
    Calls Try.prog 26 #[.slice a l.length cap] w fun e w' => e = .returned (.agg #[.int .i64 (cntFU l 0 l.length), .int .i64 (cntFU l 1 l.length), .int .i64 (cntFU l 2 l.length)]) ∧ Below w.heap.size w w' := by
  have b0 := tbel2 w (.cells #[.int .i64 0, .int .i64 0, .int .i64 0] 33) (.cells #[.int .i64 0, .int .i64 0, .int .i64 0] 33)
  have HR := Lib.hid hr
  have B0 := (blk_new w #[.int .i64 0, .int .i64 0, .int .i64 0] 33).alloc (.cells #[.int .i64 0, .int .i64 0, .int .i64 0] 33)
  have B1 := blk_two w (.cells #[.int .i64 0, .int .i64 0, .int .i64 0] 33) #[.int .i64 0, .int .i64 0, .int .i64 0] 33
  clear hr
  go_enter Try.func26, Try.ntmps26
  go_wp2_with fail
  generalize (w.alloc _).alloc _ = U at *
  go_loopw [8] (fun i wr => ∃ k : Nat, k ≤ l.length ∧ i = .int .i64 k ∧ Below w.heap.size w wr ∧ Blk wr w.heap.size #[.int .i64 0, .int .i64 0, .int .i64 0] 33 ∧ Blk wr (w.heap.size + 1) #[.int .i64 (cntFU l 0 k), .int .i64 (cntFU l 1 k), .int .i64 (cntFU l 2 k)] 33) (fun i _ => l.length - (intOf i).toNat)
  case atStart => exact ⟨0, Nat.zero_le _, rfl, b0, B0, B1⟩
  case round =>
    obtain ⟨k, hk, rfl, bw, C0, C1⟩ := hrel
    by_cases hlt : k < l.length
    · obtain ⟨_, b, off, rfl, hB, q0, q1, q2⟩ := (HR.out.carry bw) k hlt
      have u0 := cntFU_in l 0 k
      have u1 := cntFU_in l 1 k
      have u2 := cntFU_in l 2 k
      have S0 : Hid (cntFU l 0 (k + 1) = if (l.getD k zeroF).c = 0 then cntFU l 0 k + 1 else cntFU l 0 k) := Lib.hid (by split; (· exact cntFU_yes (by assumption)); (· exact cntFU_no (by assumption)))
      have S1 : Hid (cntFU l 1 (k + 1) = if (l.getD k zeroF).c = 1 then cntFU l 1 k + 1 else cntFU l 1 k) := Lib.hid (by split; (· exact cntFU_yes (by assumption)); (· exact cntFU_no (by assumption)))
      have S2 : Hid (cntFU l 2 (k + 1) = if (l.getD k zeroF).c = 2 then cntFU l 2 k + 1 else cntFU l 2 k) := Lib.hid (by split; (· exact cntFU_yes (by assumption)); (· exact cntFU_no (by assumption)))
      generalize cntFU l 0 k = x0 at *
      generalize cntFU l 1 k = x1 at *
      generalize cntFU l 2 k = x2 at *
      generalize l.getD k zeroF = y at *
      obtain ⟨y0, y1, y2⟩ := y
      dsimp only at *
      have c := classed_any ⟨y0, y1, y2⟩
      unfold flt at c
      dsimp only at c
      have D := blk_new wr #[.int .i64 y0, .int .i64 y1, .int .i64 y2] 42
      have bd := tbel1 wr (.cells #[.int .i64 y0, .int .i64 y1, .int .i64 y2] 42)
      by_cases hy : 0 ≤ y0 ∧ y0 < 3
      · rw [show classF ⟨y0, y1, y2⟩ = true by simp [classF]; omega] at c
        have hy' : y0 = 0 ∨ y0 = 1 ∨ y0 = 2 := by omega
        clear hy
        rcases hy' with rfl | rfl | rfl
        all_goals
          go_wp2_with fail
          refine (c _).mono ?_
          rintro e w1 ⟨rfl, b1⟩
          have E0 := C0.old (tstep bd b1 bd.size)
          have E1 := C1.old (tstep bd b1 bd.size)
          have E := D.old b1
          have bw1 := tstep bw (tstep bd b1 bd.size) bw.size
          obtain ⟨r0, r1, r2⟩ := E1.triple
          obtain ⟨f0, f1, f2⟩ := E1.triple_free
          obtain ⟨p0, p1, p2⟩ := E.triple
          clear c D E C0 C1 q0 q1 q2 b1 bd bw
          go_wp2
          go_roundw
          case rel => exact ⟨k + 1, by omega, by go_num, bw1.setCell (p := ⟨w.heap.size + 1, _, none⟩) (by simp) _, E0.other (by omega) _ _, by rw [S0.out, S1.out, S2.out]; exact E1.set _ _⟩
          case measure => simp [intOf]; omega
      · rw [show classF ⟨y0, y1, y2⟩ = false by simp [classF]; omega] at c
        rw [if_neg (by omega)] at S0 S1 S2
        go_wp2_with fail
        refine (c _).mono ?_
        rintro e w1 ⟨rfl, b1⟩
        have E0 := C0.old (tstep bd b1 bd.size)
        have E1 := C1.old (tstep bd b1 bd.size)
        have bw1 := tstep bw (tstep bd b1 bd.size) bw.size
        clear c D C0 C1 q0 q1 q2 b1 bd bw
        go_wp2
        go_roundw
        case rel => exact ⟨k + 1, by omega, by go_num, bw1, E0, by rw [S0.out, S1.out, S2.out]; exact E1⟩
        case measure => simp [intOf]; omega
    · have ej : k = l.length := by omega
      subst ej
      obtain ⟨x0, e0⟩ : ∃ x, cntFU l 0 l.length = x := ⟨_, rfl⟩
      obtain ⟨x1, e1⟩ : ∃ x, cntFU l 1 l.length = x := ⟨_, rfl⟩
      obtain ⟨x2, e2⟩ : ∃ x, cntFU l 2 l.length = x := ⟨_, rfl⟩
      rw [e0, e1, e2] at C1
      have HE := Lib.hid (show cntFU l 0 l.length = x0 ∧ cntFU l 1 l.length = x1 ∧ cntFU l 2 l.length = x2 from ⟨e0, e1, e2⟩)
      clear e0 e1 e2
      obtain ⟨r0, r1, r2⟩ := C1.triple
      obtain ⟨f0, f1, f2⟩ := C0.triple_free
      obtain ⟨p0, p1, p2⟩ := C0.triple
      go_wp2
      exact bodyPost_ret (v := .agg #[.int .i64 x0, .int .i64 x1, .int .i64 x2]) (by simp [results, Try.results26, go_sem, *]) rfl ⟨by rw [HE.out.1, HE.out.2.1, HE.out.2.2], ((bw.setCell (p := ⟨w.heap.size, 0, none⟩) (Nat.le_refl _) _).setCell (p := ⟨w.heap.size, 1, none⟩) (Nat.le_refl _) _).setCell (p := ⟨w.heap.size, 2, none⟩) (Nat.le_refl _) _⟩
end Go.Proofs.Ytniipfpfilenmaa
