/- The document's answers for layer 2, over the cut: Words. -/
import Derived.Test.YtojphpncidjdiaaWRefB
namespace Go.Proofs.Ytojphpncidjdiaa
open Go.RowKit
set_option linter.unusedVariables false

/-- Two cells of a block. -/
def Cel2 (w : World) (b : Nat) (u v : Value) : Prop :=
  w.cell? ⟨b, 0, none⟩ = some u ∧ w.cell? ⟨b, 1, none⟩ = some v ∧ w.frozen? ⟨b, 0, none⟩ = false ∧ w.frozen? ⟨b, 1, none⟩ = false
theorem Cel2.carry {w w' : World} {b B : Nat} {u v : Value} (h : Cel2 w b u v) (hb : Below B w w') (hB : b < B) : Cel2 w' b u v := by
  obtain ⟨h0, h1, f0, f1⟩ := h
  exact ⟨(hb.cell (p := ⟨b, 0, none⟩) hB).trans h0, (hb.cell (p := ⟨b, 1, none⟩) hB).trans h1, (hb.frozen (p := ⟨b, 0, none⟩) hB).trans f0, (hb.frozen (p := ⟨b, 1, none⟩) hB).trans f1⟩
theorem cel2_new (w : World) (u v : Value) (T : TypeId) : Cel2 (w.alloc (.cells #[u, v] T)) w.heap.size u v := by
  refine ⟨?_, ?_, ?_, ?_⟩ <;> simp
theorem Cel2.lt {w : World} {b : Nat} {u v : Value} (h : Cel2 w b u v) : b < w.heap.size := by
  obtain ⟨h0, _⟩ := h
  unfold World.cell? at h0
  rcases hb : w.heap[b]? with _ | o
  · simp [hb] at h0
  · exact (Array.getElem?_eq_some_iff.1 hb).1
theorem Cel2.alloc {w : World} {b : Nat} {u v : Value} (h : Cel2 w b u v) (o : Obj) : Cel2 (w.alloc o) b u v := h.carry (bel1 w o) h.lt
/-- What Words answers. -/
def wordsV (n : Nat) : Value := .agg #[.int .u64 ((n / 18446744073709551616 : Nat) : Int), .int .u64 ((n % 18446744073709551616 : Nat) : Int)]
theorem or_next (x k : Nat) (hk : k < 64) : bits .or .u64 ((x % 2 ^ k : Nat) : Int) (IntKind.u64.wrap (2 ^ k)) = ((x % 2 ^ k + 2 ^ k : Nat) : Int) := by
  have h1 : 2 ^ k < 18446744073709551616 := Nat.pow_lt_pow_right (a := 2) (by decide) hk
  have h2 := Nat.mod_lt x (pow_pos2 k)
  rw [c_pow, n_wrap _ h1, bits_or_u64_nat _ _ (by omega) h1, or_bit]
theorem next_bit (x k : Nat) : ((x % 2 ^ (k + 1) : Nat) : Int) = if x.testBit k then ((x % 2 ^ k + 2 ^ k : Nat) : Int) else ((x % 2 ^ k : Nat) : Int) := by
  rw [mod_bit]; split <;> rfl
theorem hi_bit (n k : Nat) : n.testBit (64 + k) = (n / 18446744073709551616).testBit k := by
  rw [show n / 18446744073709551616 = n / 2 ^ 64 from rfl, ← Nat.shiftRight_eq_div_pow, Nat.testBit_shiftRight]
set_option maxRecDepth 100000 in
set_option maxHeartbeats 1000000 in
theorem words_any (n : Nat) (w : World) (hn : n < 340282366920938463463374607431768211456) :
    Calls Try.prog 81 #[numB n] w fun e w' => e = .returned (wordsV n) ∧ Below w.heap.size w w' := by
  unfold numB numF
  go_enter Try.func81, Try.ntmps81
  go_wp2
  go_loopw [4] (fun i wr => ∃ k : Nat, k ≤ 64 ∧ i = .int .i64 k ∧ Below w.heap.size w wr ∧ BB wr w.heap.size 106 128 (fun i => n.testBit i) ∧ Cel2 wr (w.heap.size + 1) (.int .u64 0) (.int .u64 0) ∧ Cel2 wr (w.heap.size + 2) (.int .u64 ((n / 18446744073709551616 % 2 ^ k : Nat) : Int)) (.int .u64 ((n % 2 ^ k : Nat) : Int))) (fun i _ => 64 - (intOf i).toNat)
  case atStart =>
    refine ⟨0, by omega, rfl, (bel3 _ _ _ _), ((BB.new _ _ _ _).alloc _).alloc _, ?_, ?_⟩
    · have h := cel2_new (w.alloc (.cells (cellsB 128 fun i => n.testBit i) 106)) (.int .u64 0) (.int .u64 0) 103
      simp only [World.size_alloc] at h
      exact h.alloc _
    · have h := cel2_new ((w.alloc (.cells (cellsB 128 fun i => n.testBit i) 106)).alloc (.cells #[.int .u64 0, .int .u64 0] 103)) (.int .u64 0) (.int .u64 0) 103
      simp only [World.size_alloc] at h
      simp only [Nat.pow_zero, Nat.mod_one]
      exact h
  case round =>
    obtain ⟨k, hk, rfl, hbl, h0, hr, hw⟩ := hrel
    by_cases hlt : k < 64
    · obtain ⟨A, hA⟩ : ∃ A : Int, A = ((n / 18446744073709551616 % 2 ^ k : Nat) : Int) := ⟨_, rfl⟩
      obtain ⟨B, hB⟩ : ∃ B : Int, B = ((n % 2 ^ k : Nat) : Int) := ⟨_, rfl⟩
      rw [← hA, ← hB] at hw
      obtain ⟨w0, w1, g0, g1⟩ := hw
      obtain ⟨p, hp⟩ : ∃ p, p = n.testBit k := ⟨_, rfl⟩
      obtain ⟨q, hq⟩ : ∃ q, q = n.testBit (64 + k) := ⟨_, rfl⟩
      have cp := h0.cell (i := k) (by omega)
      have cq := h0.cell (i := 64 + k) (by omega)
      rw [← hp] at cp
      rw [← hq] at cq
      have HA := Lib.hid hA
      have HB := Lib.hid hB
      have HP := Lib.hid hp
      have HQ := Lib.hid hq
      have H0 := Lib.hid h0
      have HR := Lib.hid hr
      clear hA hB hp hq h0 hr
      obtain ⟨A', hA'⟩ : ∃ A' : Int, A' = ((n / 18446744073709551616 % 2 ^ k + 2 ^ k : Nat) : Int) := ⟨_, rfl⟩
      obtain ⟨B', hB'⟩ : ∃ B' : Int, B' = ((n % 2 ^ k + 2 ^ k : Nat) : Int) := ⟨_, rfl⟩
      have eA : bits .or .u64 A (IntKind.u64.wrap (2 ^ k)) = A' := by rw [HA.out, hA']; exact or_next _ k hlt
      have eB : bits .or .u64 B (IntKind.u64.wrap (2 ^ k)) = B' := by rw [HB.out, hB']; exact or_next _ k hlt
      have HA' := Lib.hid hA'
      have HB' := Lib.hid hB'
      clear hA' hB'
      cases p <;> cases q
      · -- 0 0
        go_wp2
        go_roundw
        case rel =>
          have bw : Below (w.heap.size + 2) wr _ := Below.refl _ _
          refine ⟨k + 1, by omega, by go_num, hbl.trans (bw.mono (by omega)), H0.out.carry bw (by omega), HR.out.carry bw (by omega), ?_⟩
          rw [next_bit, next_bit, ← hi_bit, ← HP.out, ← HQ.out, if_neg (by decide), if_neg (by decide), ← HA.out, ← HB.out]
          refine ⟨?_, ?_, ?_, ?_⟩ <;> simp [go_sem, *]
        case measure => simp [intOf]; omega
      · -- 0 1
        go_wp2
        go_still_tail 6, (by kernel_rfl)
        change wpList _ _ _ _ _ (World.drew _)
        go_wp2
        go_roundw
        case rel =>
          have bw : Below (w.heap.size + 2) wr _ := ((Below.refl _ wr).setCell (p := ⟨w.heap.size + 1 + 1, 0, none⟩) (by simp) (.int .u64 A')).drew
          refine ⟨k + 1, by omega, by go_num, hbl.trans (bw.mono (by omega)), H0.out.carry bw (by omega), HR.out.carry bw (by omega), ?_⟩
          rw [next_bit, next_bit, ← hi_bit, ← HP.out, ← HQ.out, if_pos (by decide), if_neg (by decide), ← HA'.out, ← HB.out]
          refine ⟨?_, ?_, ?_, ?_⟩ <;> simp [go_sem, *]
        case measure => simp [intOf]; omega
      · -- 1 0
        go_wp2
        go_still_tail 6, (by kernel_rfl)
        change wpList _ _ _ _ _ (World.drew _)
        go_wp2
        go_roundw
        case rel =>
          have bw : Below (w.heap.size + 2) wr _ := ((Below.refl _ wr).setCell (p := ⟨w.heap.size + 1 + 1, 1, none⟩) (by simp) (.int .u64 B')).drew
          refine ⟨k + 1, by omega, by go_num, hbl.trans (bw.mono (by omega)), H0.out.carry bw (by omega), HR.out.carry bw (by omega), ?_⟩
          rw [next_bit, next_bit, ← hi_bit, ← HP.out, ← HQ.out, if_neg (by decide), if_pos (by decide), ← HA.out, ← HB'.out]
          refine ⟨?_, ?_, ?_, ?_⟩ <;> simp [go_sem, *]
        case measure => simp [intOf]; omega
      · -- 1 1
        go_wp2
        go_still_tail 6, (by kernel_rfl)
        change wpList _ _ _ _ _ (World.drew _)
        go_wp2
        have K : Cel2 (wr.setCell ⟨w.heap.size + 1 + 1, 1, none⟩ (.int .u64 B')).drew (w.heap.size + 1 + 1) (.int .u64 A) (.int .u64 B') := by
          refine ⟨?_, ?_, ?_, ?_⟩ <;> simp [go_sem, *]
        have bv : Below (w.heap.size + 2) wr (wr.setCell ⟨w.heap.size + 1 + 1, 1, none⟩ (.int .u64 B')).drew := ((Below.refl _ wr).setCell (p := ⟨w.heap.size + 1 + 1, 1, none⟩) (by simp) (.int .u64 B')).drew
        generalize (wr.setCell ⟨w.heap.size + 1 + 1, 1, none⟩ (.int .u64 B')).drew = wv at K bv ⊢
        obtain ⟨v0, v1, j0, j1⟩ := K
        clear w0 w1 g0 g1
        go_still_tail 6, (by kernel_rfl)
        change wpList _ _ _ _ _ (World.drew _)
        go_wp2
        go_roundw
        case rel =>
          have bw : Below (w.heap.size + 2) wr (wv.setCell ⟨w.heap.size + 1 + 1, 0, none⟩ (.int .u64 A')).drew := (bv.setCell (p := ⟨w.heap.size + 1 + 1, 0, none⟩) (by simp) (.int .u64 A')).drew
          refine ⟨k + 1, by omega, by go_num, hbl.trans (bw.mono (by omega)), H0.out.carry bw (by omega), HR.out.carry bw (by omega), ?_⟩
          rw [next_bit, next_bit, ← hi_bit, ← HP.out, ← HQ.out, if_pos (by decide), if_pos (by decide), ← HA'.out, ← HB'.out]
          refine ⟨?_, ?_, ?_, ?_⟩ <;> simp [go_sem, *]
        case measure => simp [intOf]; omega
    · obtain rfl : k = 64 := by omega
      obtain ⟨w0, w1, g0, g1⟩ := hw
      obtain ⟨r0, r1, f0, f1⟩ := hr
      rw [show n / 18446744073709551616 % 2 ^ 64 = n / 18446744073709551616 from Nat.mod_eq_of_lt (show _ < 18446744073709551616 by omega)] at w0
      clear h0
      go_wp2
      refine bodyPost_ret (v := wordsV n) (by simp [results, Try.results81, go_sem, wordsV, *]) rfl ⟨rfl, (hbl.setCell (by simp) _).setCell (by simp) _⟩
end Go.Proofs.Ytojphpncidjdiaa
