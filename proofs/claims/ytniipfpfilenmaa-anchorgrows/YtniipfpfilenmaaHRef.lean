/- The document's Nums, Ahead and Due. -/
import Derived.Test.YtniipfpfilenmaaHNew
namespace Go.Proofs.Ytniipfpfilenmaa
open Go.RowKit
set_option maxRecDepth 20000
set_option linter.unusedVariables false
set_option linter.unusedSimpArgs false

theorem numsA_yes {l : List I7} {kd a b : Int} {k : Nat} (h1 : a ≤ k) (h2 : (k : Int) < b) (h3 : (l.getD k zeroI).k = kd) : numsA l kd a b (k + 1) = numsA l kd a b k ++ [(l.getD k zeroI).n] := by rw [numsA, if_pos ⟨h1, h2, h3⟩]
theorem numsA_no {l : List I7} {kd a b : Int} {k : Nat} (h : ¬ (a ≤ k ∧ (k : Int) < b ∧ (l.getD k zeroI).k = kd)) : numsA l kd a b (k + 1) = numsA l kd a b k := by rw [numsA, if_neg h]
set_option maxHeartbeats 4000000 in
theorem rnums_any (ad : Option Addr) (cap : Nat) (l : List I7) (kd a b : Int) (w : World) (hl : l.length ≤ 1000000) (hr : Els 7 encI w ad l.length fun k => l.getD k zeroI) (hi : ∀ k, inI (l.getD k zeroI)) :
    Calls Try.prog 10 #[.slice ad l.length cap, .int .i64 kd, .int .i64 a, .int .i64 b] w fun e w' => ∃ u, e = .returned u ∧ OwnN w' w.heap.size u (numsA l kd a b l.length) ∧ Below w.heap.size w w' := by
  have hmx : 1000002 ≤ maxLen := by decide
  obtain ⟨i0, hi0, hz0, hz1, hz2⟩ := info_parts infoInt
  have HR := Lib.hid hr
  have HI := Lib.hid fun k => numsA_in hi kd a b k
  clear hr hi
  go_enter Try.func10, Try.ntmps10
  go_wp2_with fail
  go_loopw [9, 10] (fun u i wr => ∃ (u' : Value) (k : Nat), u' = u ∧ i = .int .i64 k ∧ k ≤ l.length ∧ Below w.heap.size w wr ∧ OwnN wr w.heap.size u' (numsA l kd a b k)) (fun _ i _ => l.length - (intOf i).toNat)
  case atStart => exact ⟨_, 0, rfl, rfl, Nat.zero_le _, Below.refl _ _, ownN_nil _ _⟩
  case round =>
    obtain ⟨u, k, rfl, rfl, hk, hbl, hown⟩ := hrel
    have hkl := numsA_len l kd a b k
    have hzr := hbl.size
    by_cases hlt : k < l.length
    · obtain ⟨bb, off, rfl, hB, q0, q1, q2, q3, q4, q5, q6⟩ := (HR.out.carry hbl).item hlt
      have HY := Lib.hid (rfl : l.getD k zeroI = l.getD k zeroI)
      have NI := Lib.hid (HI.out (k + 1))
      by_cases hc : a ≤ k ∧ (k : Int) < b ∧ (l.getD k zeroI).k = kd
      · have e := numsA_yes hc.1 hc.2.1 hc.2.2
        have HE := Lib.hid e
        obtain ⟨hA, hBb, hK⟩ := hc
        generalize l.getD k zeroI = y at *
        obtain ⟨yk, yh, yf, ys, yo, yr, yn⟩ := y
        dsimp only at *
        subst hK
        clear e HI q1 q2 q3 q4 q5 HY
        go_wp2_with (at_builtin; refine wpList_append_own _ rfl _ _ 29 rfl w.heap.size 3 i0 (.int .i64 0) 1 8 Try.underlying29 hi0 hz0 hz1 hz2 rfl (by decide) _ _ _ rfl (hown.own.alloc _) ⟨wr.heap.size, 0, none⟩ 1 1 [.int .i64 yn] rfl rfl (cell_one_new _ _ _) (by simp [Value.oneCell']) (by omega) (by omega) (by simp; omega) ?_; intro v' w4 hown' hgrow _; have hb4 : Below w.heap.size w w4 := hown.grow hbl (by omega) hgrow)
        have ho4 : OwnN w4 w.heap.size v' (numsA l yk a b (k + 1)) := ⟨by rw [HE.out]; simpa using hown', NI.out⟩
        clear hown' hgrow hown NI
        go_wp2
        go_roundw
        case rel => exact ⟨_, k + 1, rfl, by go_num, by omega, hb4, ho4⟩
        case measure => simp [intOf]; omega
      · have HE := Lib.hid (numsA_no hc)
        generalize l.getD k zeroI = y at *
        obtain ⟨yk, yh, yf, ys, yo, yr, yn⟩ := y
        dsimp only at *
        clear HI q1 q2 q3 q4 q5 q6 HY NI
        by_cases hA : a ≤ k
        · by_cases hBb : (k : Int) < b
          · have hK : ¬ yk = kd := fun e => hc ⟨hA, hBb, e⟩
            clear hc
            go_wp2
            go_roundw
            case rel => exact ⟨_, k + 1, rfl, by go_num, by omega, hbl, by rw [HE.out]; exact hown⟩
            case measure => simp [intOf]; omega
          · clear hc
            go_wp2
            go_roundw
            case rel => exact ⟨_, k + 1, rfl, by go_num, by omega, hbl, by rw [HE.out]; exact hown⟩
            case measure => simp [intOf]; omega
        · clear hc
          go_wp2
          go_roundw
          case rel => exact ⟨_, k + 1, rfl, by go_num, by omega, hbl, by rw [HE.out]; exact hown⟩
          case measure => simp [intOf]; omega
    · obtain rfl : k = l.length := by omega
      clear HI
      go_wp2
      go_ret
      exact ⟨_, rfl, hown, hbl⟩
theorem clN_yes {n : Int} {k : Nat} (h : (k : Int) < n) : clN n (k + 1) = k + 1 ∧ clN n k = k := by unfold clN; omega
theorem clN_no {n : Int} {k : Nat} (h : ¬ (k : Int) < n) : clN n (k + 1) = clN n k := by unfold clN; omega
theorem clN_self (k : Nat) (m : Nat) (h : k ≤ m) : clN (k : Int) m = k := by unfold clN; omega
theorem clN_le (n : Int) (k : Nat) : clN n k ≤ k := by unfold clN; omega
/-- What the next item adds. -/
theorem ahead_step_no {l : List I7} {fl : List F3} {n : Int} {k : Nat} (h : ¬ ((k : Int) < n ∧ (l.getD k zeroI).k = 6 ∧ hasAt fl (l.getD k zeroI).n = true)) : aheadA l fl (clN n (k + 1)) = aheadA l fl (clN n k) := by
  by_cases h1 : (k : Int) < n
  · rw [(clN_yes h1).1, (clN_yes h1).2]
    by_cases h2 : (l.getD k zeroI).k = 6
    · rw [aheadA_yes h2]
      have : ofA fl (l.getD k zeroI).n = zeroA := by unfold ofA; rw [if_neg (fun h3 => h ⟨h1, h2, h3⟩)]
      rw [this]
      unfold addA zeroA
      simp
    · exact aheadA_no h2
  · rw [clN_no h1]
theorem ahead_step_yes {l : List I7} {fl : List F3} {n : Int} {k : Nat} (h1 : (k : Int) < n) (h2 : (l.getD k zeroI).k = 6) (h3 : hasAt fl (l.getD k zeroI).n = true) : aheadA l fl (clN n (k + 1)) = addA (aheadA l fl (clN n k)) (oneA (atF fl (l.getD k zeroI).n).c) := by
  rw [(clN_yes h1).1, (clN_yes h1).2, aheadA_yes h2]
  unfold ofA
  rw [if_pos h3]
theorem add_one0 (x0 x1 x2 : Int) : addA ⟨x0, x1, x2⟩ (oneA 0) = ⟨x0 + 1, x1, x2⟩ := by simp [addA, oneA]
theorem add_one1 (x0 x1 x2 : Int) : addA ⟨x0, x1, x2⟩ (oneA 1) = ⟨x0, x1 + 1, x2⟩ := by simp [addA, oneA]
theorem add_one2 (x0 x1 x2 : Int) : addA ⟨x0, x1, x2⟩ (oneA 2) = ⟨x0, x1, x2 + 1⟩ := by simp [addA, oneA]
theorem add_oneN {c : Int} (h : ¬ (0 ≤ c ∧ c < 3)) (x0 x1 x2 : Int) : addA ⟨x0, x1, x2⟩ (oneA c) = ⟨x0, x1, x2⟩ := by
  unfold addA oneA
  rw [if_neg (by omega), if_neg (by omega), if_neg (by omega)]
  simp
set_option maxHeartbeats 8000000 in
theorem rahead_any (ad : Option Addr) (cap : Nat) (l : List I7) (af : Option Addr) (cf : Nat) (fl : List F3) (n : Int) (w : World) (hl : l.length ≤ 1000000) (hr : Els 7 encI w ad l.length fun k => l.getD k zeroI) (hi : ∀ k, inI (l.getD k zeroI)) (hf : fl.length ≤ 9223372036854775807) (hrf : URow w af fl) :
    Calls Try.prog 14 #[.slice ad l.length cap, .slice af fl.length cf, .int .i64 n] w fun e w' => e = .returned (ar3 (aheadA l fl (clN n l.length))) ∧ Below w.heap.size w w' := by
  have HR := Lib.hid hr
  have HF := Lib.hid hrf
  have b0 := tbel2 w (.cells #[.int .i64 0, .int .i64 0, .int .i64 0] 33) (.cells #[.int .i64 0, .int .i64 0, .int .i64 0] 33)
  have R0 := (blk_new w #[.int .i64 0, .int .i64 0, .int .i64 0] 33).alloc (.cells #[.int .i64 0, .int .i64 0, .int .i64 0] 33)
  have O0 := blk_two w (.cells #[.int .i64 0, .int .i64 0, .int .i64 0] 33) #[.int .i64 0, .int .i64 0, .int .i64 0] 33
  unfold ar3
  clear hr hrf hi
  go_enter Try.func14, Try.ntmps14
  go_wp2_with fail
  generalize (w.alloc _).alloc _ = U at *
  go_loopw [8] (fun i wr => ∃ (k : Nat) (x0 x1 x2 : Int), i = .int .i64 k ∧ k ≤ l.length ∧ Below w.heap.size w wr ∧ Blk wr w.heap.size #[.int .i64 0, .int .i64 0, .int .i64 0] 33 ∧ Blk wr (w.heap.size + 1) #[.int .i64 x0, .int .i64 x1, .int .i64 x2] 33 ∧ Hid (aheadA l fl (clN n k) = ⟨x0, x1, x2⟩)) (fun i _ => l.length - (intOf i).toNat)
  case atStart => exact ⟨0, 0, 0, 0, rfl, Nat.zero_le _, b0, R0, O0, Lib.hid (by rw [show clN n 0 = 0 by unfold clN; omega]; rfl)⟩
  case round =>
    clear b0 R0 O0
    obtain ⟨k, x0, x1, x2, rfl, hk, hbl, RB, OB, HX⟩ := hrel
    by_cases hlt : k < l.length
    · obtain ⟨bb, off, rfl, hB, q0, q1, q2, q3, q4, q5, q6⟩ := (HR.out.carry hbl).item hlt
      obtain ⟨y, hy⟩ : ∃ y, l.getD k zeroI = y := ⟨_, rfl⟩
      rw [hy] at q0 q1 q2 q3 q4 q5 q6
      obtain ⟨yk, yh, yf, ys, yo, yr, yn⟩ := y
      dsimp only at q0 q1 q2 q3 q4 q5 q6
      have HY := Lib.hid hy
      clear hy q1 q2 q3 q4 q5
      by_cases hc : (k : Int) < n ∧ yk = 6 ∧ hasAt fl yn = true
      · obtain ⟨hn, rfl, hh⟩ := hc
        have HE : Hid (aheadA l fl (clN n (k + 1)) = addA ⟨x0, x1, x2⟩ (oneA (atF fl yn).c)) := Lib.hid (by rw [ahead_step_yes hn (by rw [HY.out]) (by rw [HY.out]; exact hh), HX.out, HY.out])
        have hin := aheadA_in l fl (clN n k)
        rw [HX.out] at hin
        have hcl := clN_le n k
        unfold InA at hin
        dsimp only at hin
        have hh' : 0 ≤ yn ∧ yn < fl.length := by simpa [hasAt] using hh
        obtain ⟨m, rfl⟩ : ∃ m : Nat, yn = m := ⟨yn.toNat, by omega⟩
        obtain ⟨_, bf, of, rfl, hBf, g0, g1, g2⟩ := (HF.out.carry hbl) m (by omega)
        have ea : atF fl m = fl.getD m zeroF := by unfold atF; rw [hh]; rw [Int.toNat_natCast]; rfl
        rw [ea] at HE
        generalize (fl.getD m zeroF).c = c at *
        obtain ⟨hh1, hh2⟩ := hh'
        have hm : m < fl.length := by omega
        clear hh ea g1 g2 HX hh1
        have u0 : IntKind.i64.wrap (x0 + 1) = x0 + 1 := by rw [IntKind.wrap_i64]; omega
        have u1 : IntKind.i64.wrap (x1 + 1) = x1 + 1 := by rw [IntKind.wrap_i64]; omega
        have u2 : IntKind.i64.wrap (x2 + 1) = x2 + 1 := by rw [IntKind.wrap_i64]; omega
        obtain ⟨r0, r1, r2⟩ := OB.triple
        obtain ⟨f0, f1, f2⟩ := OB.triple_free
        have hol := OB.lt
        clear hin hcl
        by_cases h3 : 0 ≤ c ∧ c < 3
        · rcases (by omega : c = 0 ∨ c = 1 ∨ c = 2) with rfl | rfl | rfl
          · rw [add_one0] at HE
            clear h3
            go_wp2
            go_roundw
            case rel => exact ⟨k + 1, x0 + 1, x1, x2, by go_num, by omega, hbl.setCell (p := ⟨w.heap.size + 1, 0, none⟩) (by simp) _, RB.other (by omega) _ _, OB.set 0 _, HE⟩
            case measure => simp [intOf]; omega
          · rw [add_one1] at HE
            clear h3
            go_wp2
            go_roundw
            case rel => exact ⟨k + 1, x0, x1 + 1, x2, by go_num, by omega, hbl.setCell (p := ⟨w.heap.size + 1, 1, none⟩) (by simp) _, RB.other (by omega) _ _, OB.set 1 _, HE⟩
            case measure => simp [intOf]; omega
          · rw [add_one2] at HE
            clear h3
            go_wp2
            go_roundw
            case rel => exact ⟨k + 1, x0, x1, x2 + 1, by go_num, by omega, hbl.setCell (p := ⟨w.heap.size + 1, 2, none⟩) (by simp) _, RB.other (by omega) _ _, OB.set 2 _, HE⟩
            case measure => simp [intOf]; omega
        · rw [add_oneN h3] at HE
          rcases (by omega : c < 0 ∨ (0 ≤ c ∧ 3 ≤ c)) with h4 | ⟨h4, h5⟩
          all_goals
            clear h3
            go_wp2
            go_roundw
            case rel => exact ⟨k + 1, x0, x1, x2, by go_num, by omega, hbl, RB, OB, HE⟩
            case measure => simp [intOf]; omega
      · have HE : Hid (aheadA l fl (clN n (k + 1)) = ⟨x0, x1, x2⟩) := Lib.hid (by rw [ahead_step_no (by rw [HY.out]; exact hc)]; exact HX.out)
        by_cases hn : (k : Int) < n
        · by_cases h6 : yk = 6
          · have hh : ¬ (0 ≤ yn ∧ yn < fl.length) := fun e => hc ⟨hn, h6, by simpa [hasAt] using e⟩
            clear hc
            rcases (by omega : yn < 0 ∨ (0 ≤ yn ∧ (fl.length : Int) ≤ yn)) with h4 | ⟨h4, h5⟩
            all_goals
              clear hh
              go_wp2
              go_roundw
              case rel => exact ⟨k + 1, x0, x1, x2, by go_num, by omega, hbl, RB, OB, HE⟩
              case measure => simp [intOf]; omega
          · clear hc
            go_wp2
            go_roundw
            case rel => exact ⟨k + 1, x0, x1, x2, by go_num, by omega, hbl, RB, OB, HE⟩
            case measure => simp [intOf]; omega
        · clear hc
          go_wp2
          go_roundw
          case rel => exact ⟨k + 1, x0, x1, x2, by go_num, by omega, hbl, RB, OB, HE⟩
          case measure => simp [intOf]; omega
    · obtain rfl : k = l.length := by omega
      obtain ⟨r0, r1, r2⟩ := OB.triple
      obtain ⟨s0, s1, s2⟩ := RB.triple
      obtain ⟨f0, f1, f2⟩ := RB.triple_free
      have hrl := RB.lt
      go_wp2
      refine bodyPost_ret (v := .agg #[.int .i64 x0, .int .i64 x1, .int .i64 x2]) (by simp [results, Try.results14, go_sem, *]) rfl ⟨by rw [HX.out], ?_⟩
      exact Below.new3 hbl (b := w.heap.size) (Nat.le_refl _) _ _ _
set_option maxHeartbeats 4000000 in
theorem rdue_any (ad : Option Addr) (cap : Nat) (l : List I7) (af : Option Addr) (cf : Nat) (fl : List F3) (n : Int) (w : World) (hl : l.length ≤ 1000000) (hr : Els 7 encI w ad l.length fun k => l.getD k zeroI) (hi : ∀ k, inI (l.getD k zeroI)) (hf : fl.length ≤ 9223372036854775807) (hrf : URow w af fl) :
    Calls Try.prog 16 #[.slice ad l.length cap, .slice af fl.length cf, .int .i64 n] w fun e w' => e = .returned (ar3 (dueA l fl (clN n l.length))) ∧ Below w.heap.size w w' := by
  have HR := Lib.hid hr
  have HA := Lib.hid fun (k : Nat) x (hx : Below w.heap.size w x) => rahead_any ad cap l af cf fl k x hl (hr.carry hx) hi hf (hrf.carry hx)
  have b0 := tbel2 w (.cells #[.int .i64 0, .int .i64 0, .int .i64 0] 33) (.cells #[.int .i64 0, .int .i64 0, .int .i64 0] 33)
  have R0 := (blk_new w #[.int .i64 0, .int .i64 0, .int .i64 0] 33).alloc (.cells #[.int .i64 0, .int .i64 0, .int .i64 0] 33)
  have O0 := blk_two w (.cells #[.int .i64 0, .int .i64 0, .int .i64 0] 33) #[.int .i64 0, .int .i64 0, .int .i64 0] 33
  unfold ar3
  clear hr hrf hi
  go_enter Try.func16, Try.ntmps16
  go_wp2_with fail
  generalize (w.alloc _).alloc _ = U at *
  go_loopw [8] (fun i wr => ∃ (k : Nat) (x0 x1 x2 : Int), i = .int .i64 k ∧ k ≤ l.length ∧ Below w.heap.size w wr ∧ Blk wr w.heap.size #[.int .i64 0, .int .i64 0, .int .i64 0] 33 ∧ Blk wr (w.heap.size + 1) #[.int .i64 x0, .int .i64 x1, .int .i64 x2] 33 ∧ Hid (dueA l fl (clN n k) = ⟨x0, x1, x2⟩)) (fun i _ => l.length - (intOf i).toNat)
  case atStart => exact ⟨0, 0, 0, 0, rfl, Nat.zero_le _, b0, R0, O0, Lib.hid (by rw [show clN n 0 = 0 by unfold clN; omega]; rfl)⟩
  case round =>
    clear b0 R0 O0
    obtain ⟨k, x0, x1, x2, rfl, hk, hbl, RB, OB, HX⟩ := hrel
    by_cases hlt : k < l.length
    · obtain ⟨bb, off, rfl, hB, q0, q1, q2, q3, q4, q5, q6⟩ := (HR.out.carry hbl).item hlt
      obtain ⟨y, hy⟩ : ∃ y, l.getD k zeroI = y := ⟨_, rfl⟩
      rw [hy] at q0 q1 q2 q3 q4 q5 q6
      obtain ⟨yk, yh, yf, ys, yo, yr, yn⟩ := y
      dsimp only at q0 q1 q2 q3 q4 q5 q6
      have HY := Lib.hid hy
      clear hy q1 q2 q3 q4 q5 q6
      by_cases hn : (k : Int) < n
      · by_cases h7 : yk = 7
        · subst h7
          have cA := HA.out k wr hbl
          obtain ⟨s, hs⟩ : ∃ s, aheadA l fl k = s := ⟨_, rfl⟩
          rw [clN_self k l.length hk, hs] at cA
          have HE : Hid (dueA l fl (clN n (k + 1)) = s) := Lib.hid (by rw [(clN_yes hn).1, dueA_yes (by rw [HY.out]), hs])
          clear hs
          obtain ⟨s0, s1, s2⟩ := s
          unfold ar3 at cA
          dsimp only at cA
          go_wp2_with fail
          refine cA.mono ?_
          rintro e w1 ⟨rfl, b1⟩
          have RB1 := RB.old b1
          have OB1 := OB.old b1
          have hb1 := tstep hbl b1 hbl.size
          clear cA RB OB hbl b1 q0
          obtain ⟨r0, r1, r2⟩ := OB1.triple
          obtain ⟨f0, f1, f2⟩ := OB1.triple_free
          have hol := OB1.lt
          go_wp2
          go_roundw
          case rel => exact ⟨k + 1, s0, s1, s2, by go_num, by omega, Below.new3 hb1 (b := w.heap.size + 1) (by omega) _ _ _, RB1.other3 (by omega) _ _ _, OB1.set3 _ _ _, HE⟩
          case measure => simp [intOf]; omega
        · have HE : Hid (dueA l fl (clN n (k + 1)) = ⟨x0, x1, x2⟩) := Lib.hid (by rw [(clN_yes hn).1, dueA_no (by rw [HY.out]; exact h7), ← HX.out, (clN_yes hn).2])
          go_wp2
          go_roundw
          case rel => exact ⟨k + 1, x0, x1, x2, by go_num, by omega, hbl, RB, OB, HE⟩
          case measure => simp [intOf]; omega
      · have HE : Hid (dueA l fl (clN n (k + 1)) = ⟨x0, x1, x2⟩) := Lib.hid (by rw [clN_no hn]; exact HX.out)
        go_wp2
        go_roundw
        case rel => exact ⟨k + 1, x0, x1, x2, by go_num, by omega, hbl, RB, OB, HE⟩
        case measure => simp [intOf]; omega
    · obtain rfl : k = l.length := by omega
      obtain ⟨r0, r1, r2⟩ := OB.triple
      obtain ⟨s0, s1, s2⟩ := RB.triple
      obtain ⟨f0, f1, f2⟩ := RB.triple_free
      have hrl := RB.lt
      go_wp2
      refine bodyPost_ret (v := .agg #[.int .i64 x0, .int .i64 x1, .int .i64 x2]) (by simp [results, Try.results16, go_sem, *]) rfl ⟨by rw [HX.out], ?_⟩
      exact Below.new3 hbl (b := w.heap.size) (Nat.le_refl _) _ _ _
end Go.Proofs.Ytniipfpfilenmaa
