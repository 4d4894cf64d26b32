/- The walk of the law GsetAdds. -/
import Derived.Test.YtojphpncidjdiaaGAw
import Derived.Test.YtojphpncidjdiaaGAdM
import Derived.Test.YtojphpncidjdiaaGRef
import Derived.Test.YtojphpncidjdiaaDet
namespace Go.Proofs.Ytojphpncidjdiaa
open Go.RowKit
set_option maxRecDepth 20000
set_option linter.unusedVariables false
set_option linter.unusedSimpArgs false

theorem adds9_no (boxes high : Int) (a : Option Addr) (len cap : Nat) (w : World) (hlen : len ≤ 9223372036854775807) (h : 40 < len ∨ (len ≤ 40 ∧ boxes < 0) ∨ (len ≤ 40 ∧ 0 ≤ boxes ∧ 1099511627776 < boxes)) :
    Calls Try.prog 6 #[.int .i64 boxes, .slice a len cap, .int .i64 high] w fun e w' => e = .returned (.bool true) ∧ Below w.heap.size w w' := by
  rcases h with h | ⟨h, h2⟩ | ⟨h, h2, h3⟩
  all_goals
    go_enter Try.func6, Try.ntmps6
    go_wp2_with (with_reducible refine (awake9 _).mono ?_; rintro e w1 ⟨rfl, b1⟩)
    go_ret
    exact ⟨rfl, b1⟩
set_option maxHeartbeats 8000000 in
theorem adds9 (boxes high : Int) (a : Option Addr) (cap : Nat) (l : List T6) (w : World) (hn : l.length ≤ 40) (hb : 0 ≤ boxes) (hb' : boxes ≤ 1099511627776) (hhi : inR high) (hr : GRow w.heap.size w a l) :
    Calls Try.prog 6 #[.int .i64 boxes, .slice a l.length cap, .int .i64 high] w fun e w' => e = .returned (.bool true) ∧ Below w.heap.size w w' := by
  have HR := Lib.hid hr
  have B0 := blk_new w #[.int .i64 boxes, .int .i64 0, .int .i64 0, .int .i64 0, .int .i64 0, .int .i64 0] 25
  have b0 := tbel1 w (.cells #[.int .i64 boxes, .int .i64 0, .int .i64 0, .int .i64 0, .int .i64 0, .int .i64 0] 25)
  clear hr
  go_enter Try.func6, Try.ntmps6
  go_wp2_with fail
  go_loopw [8] (fun i wr => ∃ (k : Nat) (T : T6), k ≤ l.length ∧ i = .int .i64 k ∧ Below w.heap.size w wr ∧ Blk wr w.heap.size #[.int .i64 T.n, .int .i64 T.s0, .int .i64 T.s1, .int .i64 T.s2, .int .i64 T.s3, .int .i64 T.h] 25 ∧ T = totK boxes l k ∧ ∀ j, j < k → smallT (l.getD j zeroT)) (fun i _ => l.length - (intOf i).toNat)
  case atStart => exact ⟨0, totK boxes l 0, Nat.zero_le _, rfl, b0, by simpa [totK, sumF_zero] using B0, rfl, fun j hj => absurd hj (Nat.not_lt_zero j)⟩
  case round =>
    clear B0 b0
    obtain ⟨k, T, hk, rfl, hbl, TB, hT, H⟩ := hrel
    have bd := totK_bd hb hb' hk hn H
    rw [← hT] at bd
    have HT := Lib.hid hT
    have HH := Lib.hid H
    have hz0 := TB.lt
    clear hT H
    by_cases hlt : k < l.length
    · obtain ⟨hiy, b, off, rfl, hB, h0, h1, h2, h3, h4, h5⟩ := HR.out.carry hbl (Nat.le_refl _) k hlt
      obtain ⟨y, hy⟩ : ∃ y, y = l.getD k zeroT := ⟨_, rfl⟩
      rw [← hy] at h0 h1 h2 h3 h4 h5
      have HY := Lib.hid hy
      clear hy hiy
      have c := field_any y
      unfold tot at c
      have GB := blk_new wr #[.int .i64 y.n, .int .i64 y.s0, .int .i64 y.s1, .int .i64 y.s2, .int .i64 y.s3, .int .i64 y.h] 25
      replace TB := TB.alloc (.cells #[.int .i64 y.n, .int .i64 y.s0, .int .i64 y.s1, .int .i64 y.s2, .int .i64 y.s3, .int .i64 y.h] 25)
      replace hbl := hbl.alloc hbl.size (.cells #[.int .i64 y.n, .int .i64 y.s0, .int .i64 y.s1, .int .i64 y.s2, .int .i64 y.s3, .int .i64 y.h] 25)
      have HB := Lib.hid bd
      clear bd
      go_wp2_with fail
      refine (c _).mono ?_
      rintro e w1 ⟨rfl, b1⟩
      replace GB := GB.old b1
      replace TB := TB.old b1
      have bV := tstep hbl b1 hbl.size
      have hgg : w.heap.size ≠ wr.heap.size := by omega
      clear c b1 hbl h0 h1 h2 h3 h4 h5
      generalize wr.heap.size = gg at *
      have f1 := GB.six
      cases hs : soundT y
      · go_wp2_with (with_reducible refine (awake9 _).mono ?_; rintro e w2 ⟨rfl, b2⟩)
        go_ret
        exact ⟨rfl, tstep bV b2 bV.size⟩
      by_cases q0 : 1099511627776 < y.n
      · go_wp2_with (with_reducible refine (awake9 _).mono ?_; rintro e w2 ⟨rfl, b2⟩)
        go_ret
        exact ⟨rfl, tstep bV b2 bV.size⟩
      replace q0 : y.n ≤ 1099511627776 := by omega
      by_cases q1 : 1099511627776 < y.h
      · go_wp2_with (with_reducible refine (awake9 _).mono ?_; rintro e w2 ⟨rfl, b2⟩)
        go_ret
        exact ⟨rfl, tstep bV b2 bV.size⟩
      replace q1 : y.h ≤ 1099511627776 := by omega
      by_cases q2 : 1099511627776 < y.s0
      · go_wp2_with (with_reducible refine (awake9 _).mono ?_; rintro e w2 ⟨rfl, b2⟩)
        go_ret
        exact ⟨rfl, tstep bV b2 bV.size⟩
      replace q2 : y.s0 ≤ 1099511627776 := by omega
      by_cases q3 : 1099511627776 < y.s1
      · go_wp2_with (with_reducible refine (awake9 _).mono ?_; rintro e w2 ⟨rfl, b2⟩)
        go_ret
        exact ⟨rfl, tstep bV b2 bV.size⟩
      replace q3 : y.s1 ≤ 1099511627776 := by omega
      by_cases q4 : 1099511627776 < y.s2
      · go_wp2_with (with_reducible refine (awake9 _).mono ?_; rintro e w2 ⟨rfl, b2⟩)
        go_ret
        exact ⟨rfl, tstep bV b2 bV.size⟩
      replace q4 : y.s2 ≤ 1099511627776 := by omega
      by_cases q5 : 1099511627776 < y.s3
      · go_wp2_with (with_reducible refine (awake9 _).mono ?_; rintro e w2 ⟨rfl, b2⟩)
        go_ret
        exact ⟨rfl, tstep bV b2 bV.size⟩
      replace q5 : y.s3 ≤ 1099511627776 := by omega
      · have sm : smallT y := ⟨hs, q0, q1, q2, q3, q4, q5⟩
        have sb := smallT_bd sm
        have bd := HB.out
        obtain ⟨Q, hQ⟩ : ∃ Q : T6, Q = ⟨T.n + y.n, T.s0 + y.s0, T.s1 + y.s1, T.s2 + y.s2, T.s3 + y.s3, T.h + y.h⟩ := ⟨_, rfl⟩
        have e0 : wrap64 (T.n + y.n) = Q.n := by rw [hQ]; unfold wrap64; dsimp only; omega
        have e1 : wrap64 (T.s0 + y.s0) = Q.s0 := by rw [hQ]; unfold wrap64; dsimp only; omega
        have e2 : wrap64 (T.s1 + y.s1) = Q.s1 := by rw [hQ]; unfold wrap64; dsimp only; omega
        have e3 : wrap64 (T.s2 + y.s2) = Q.s2 := by rw [hQ]; unfold wrap64; dsimp only; omega
        have e4 : wrap64 (T.s3 + y.s3) = Q.s3 := by rw [hQ]; unfold wrap64; dsimp only; omega
        have e5 : wrap64 (T.h + y.h) = Q.h := by rw [hQ]; unfold wrap64; dsimp only; omega
        have HQ := Lib.hid hQ
        have HSM := Lib.hid sm
        clear sm sb bd hQ HB
        have f2 := TB.six
        have f3 := TB.six_free
        go_wp2_with fail
        clear f1 f2 f3 q0 q1 q2 q3 q4 q5 hs
        replace TB := (TB.set 0 (.int .i64 Q.n)).set 5 (.int .i64 Q.h)
        replace GB := (GB.other (b := w.heap.size) (by omega) 0 (.int .i64 Q.n)).other (b := w.heap.size) (by omega) 5 (.int .i64 Q.h)
        replace bV := (bV.setCell (p := ⟨w.heap.size, 0, none⟩) (Nat.le_refl _) (.int .i64 Q.n)).setCell (p := ⟨w.heap.size, 5, none⟩) (Nat.le_refl _) (.int .i64 Q.h)
        generalize (w1.setCell ⟨w.heap.size, 0, none⟩ (.int .i64 Q.n)).setCell ⟨w.heap.size, 5, none⟩ (.int .i64 Q.h) = V0 at *
        replace TB : Blk V0 w.heap.size #[.int .i64 Q.n, .int .i64 T.s0, .int .i64 T.s1, .int .i64 T.s2, .int .i64 T.s3, .int .i64 Q.h] 25 := by simpa using TB
        refine wp_loop_rounds 5 ?_
        rw [rounds_succ]
        go_wp2_with fail
        have CE0 := Lib.hid fun x (hx : Old V0 x) => And.intro (TB.old hx).six (And.intro (TB.old hx).six_free (GB.old hx).six)
        (refine wp_region_text (Old V0) 12 (by kernel_rfl) (by kernel_rfl) (Below.refl _ V0).drew ?_; simp only [List.take_succ_cons, List.take_zero, List.drop_succ_cons, List.drop_zero])
        repeat (first | (apply Text.sees (hw := by kernel_rfl); (focus (intro x hx K hK; have hc := CE0.out x hx; go_simp; exact hK)); simp only [Act.put, List.getElem_toArray, List.getElem_cons_succ, List.getElem_cons_zero, List.setIfInBounds_toArray, List.set_cons_zero, List.set_cons_succ]) | (apply Text.idle; (focus (intro x hx K hK; go_simp; exact hK)); simp only [Act.put, List.getElem_toArray, List.getElem_cons_succ, List.getElem_cons_zero, List.setIfInBounds_toArray, List.set_cons_zero, List.set_cons_succ]))
        intro x0 hx
        have hc := CE0.out x0 hx
        replace TB := Lib.hid ((TB.old hx).set 1 (.int .i64 Q.s0))
        replace GB := Lib.hid ((GB.old hx).other (b := w.heap.size) (by omega) 1 (.int .i64 Q.s0))
        replace bV := Lib.hid ((tstep bV hx bV.size).setCell (p := ⟨w.heap.size, 1, none⟩) (Nat.le_refl _) (.int .i64 Q.s0))
        clear CE0 hx
        go_wp2_with fail
        clear hc
        generalize x0.setCell ⟨w.heap.size, 1, none⟩ (.int .i64 Q.s0) = V1 at *
        replace TB : Blk V1 w.heap.size #[.int .i64 Q.n, .int .i64 Q.s0, .int .i64 T.s1, .int .i64 T.s2, .int .i64 T.s3, .int .i64 Q.h] 25 := by simpa using TB.out
        replace GB := GB.out
        replace bV := bV.out
        clear x0
        rw [rounds_succ]
        go_wp2_with fail
        have CE1 := Lib.hid fun x (hx : Old V1 x) => And.intro (TB.old hx).six (And.intro (TB.old hx).six_free (GB.old hx).six)
        (refine wp_region_text (Old V1) 12 (by kernel_rfl) (by kernel_rfl) (Below.refl _ V1).drew ?_; simp only [List.take_succ_cons, List.take_zero, List.drop_succ_cons, List.drop_zero])
        repeat (first | (apply Text.sees (hw := by kernel_rfl); (focus (intro x hx K hK; have hc := CE1.out x hx; go_simp; exact hK)); simp only [Act.put, List.getElem_toArray, List.getElem_cons_succ, List.getElem_cons_zero, List.setIfInBounds_toArray, List.set_cons_zero, List.set_cons_succ]) | (apply Text.idle; (focus (intro x hx K hK; go_simp; exact hK)); simp only [Act.put, List.getElem_toArray, List.getElem_cons_succ, List.getElem_cons_zero, List.setIfInBounds_toArray, List.set_cons_zero, List.set_cons_succ]))
        intro x1 hx
        have hc := CE1.out x1 hx
        replace TB := Lib.hid ((TB.old hx).set 2 (.int .i64 Q.s1))
        replace GB := Lib.hid ((GB.old hx).other (b := w.heap.size) (by omega) 2 (.int .i64 Q.s1))
        replace bV := Lib.hid ((tstep bV hx bV.size).setCell (p := ⟨w.heap.size, 2, none⟩) (Nat.le_refl _) (.int .i64 Q.s1))
        clear CE1 hx
        go_wp2_with fail
        clear hc
        generalize x1.setCell ⟨w.heap.size, 2, none⟩ (.int .i64 Q.s1) = V2 at *
        replace TB : Blk V2 w.heap.size #[.int .i64 Q.n, .int .i64 Q.s0, .int .i64 Q.s1, .int .i64 T.s2, .int .i64 T.s3, .int .i64 Q.h] 25 := by simpa using TB.out
        replace GB := GB.out
        replace bV := bV.out
        clear x1
        rw [rounds_succ]
        go_wp2_with fail
        have CE2 := Lib.hid fun x (hx : Old V2 x) => And.intro (TB.old hx).six (And.intro (TB.old hx).six_free (GB.old hx).six)
        (refine wp_region_text (Old V2) 12 (by kernel_rfl) (by kernel_rfl) (Below.refl _ V2).drew ?_; simp only [List.take_succ_cons, List.take_zero, List.drop_succ_cons, List.drop_zero])
        repeat (first | (apply Text.sees (hw := by kernel_rfl); (focus (intro x hx K hK; have hc := CE2.out x hx; go_simp; exact hK)); simp only [Act.put, List.getElem_toArray, List.getElem_cons_succ, List.getElem_cons_zero, List.setIfInBounds_toArray, List.set_cons_zero, List.set_cons_succ]) | (apply Text.idle; (focus (intro x hx K hK; go_simp; exact hK)); simp only [Act.put, List.getElem_toArray, List.getElem_cons_succ, List.getElem_cons_zero, List.setIfInBounds_toArray, List.set_cons_zero, List.set_cons_succ]))
        intro x2 hx
        have hc := CE2.out x2 hx
        replace TB := Lib.hid ((TB.old hx).set 3 (.int .i64 Q.s2))
        replace GB := Lib.hid ((GB.old hx).other (b := w.heap.size) (by omega) 3 (.int .i64 Q.s2))
        replace bV := Lib.hid ((tstep bV hx bV.size).setCell (p := ⟨w.heap.size, 3, none⟩) (Nat.le_refl _) (.int .i64 Q.s2))
        clear CE2 hx
        go_wp2_with fail
        clear hc
        generalize x2.setCell ⟨w.heap.size, 3, none⟩ (.int .i64 Q.s2) = V3 at *
        replace TB : Blk V3 w.heap.size #[.int .i64 Q.n, .int .i64 Q.s0, .int .i64 Q.s1, .int .i64 Q.s2, .int .i64 T.s3, .int .i64 Q.h] 25 := by simpa using TB.out
        replace GB := GB.out
        replace bV := bV.out
        clear x2
        rw [rounds_succ]
        go_wp2_with fail
        have CE3 := Lib.hid fun x (hx : Old V3 x) => And.intro (TB.old hx).six (And.intro (TB.old hx).six_free (GB.old hx).six)
        (refine wp_region_text (Old V3) 12 (by kernel_rfl) (by kernel_rfl) (Below.refl _ V3).drew ?_; simp only [List.take_succ_cons, List.take_zero, List.drop_succ_cons, List.drop_zero])
        repeat (first | (apply Text.sees (hw := by kernel_rfl); (focus (intro x hx K hK; have hc := CE3.out x hx; go_simp; exact hK)); simp only [Act.put, List.getElem_toArray, List.getElem_cons_succ, List.getElem_cons_zero, List.setIfInBounds_toArray, List.set_cons_zero, List.set_cons_succ]) | (apply Text.idle; (focus (intro x hx K hK; go_simp; exact hK)); simp only [Act.put, List.getElem_toArray, List.getElem_cons_succ, List.getElem_cons_zero, List.setIfInBounds_toArray, List.set_cons_zero, List.set_cons_succ]))
        intro x3 hx
        have hc := CE3.out x3 hx
        replace TB := Lib.hid ((TB.old hx).set 4 (.int .i64 Q.s3))
        replace GB := Lib.hid ((GB.old hx).other (b := w.heap.size) (by omega) 4 (.int .i64 Q.s3))
        replace bV := Lib.hid ((tstep bV hx bV.size).setCell (p := ⟨w.heap.size, 4, none⟩) (Nat.le_refl _) (.int .i64 Q.s3))
        clear CE3 hx
        go_wp2_with fail
        clear hc
        generalize x3.setCell ⟨w.heap.size, 4, none⟩ (.int .i64 Q.s3) = V4 at *
        replace TB : Blk V4 w.heap.size #[.int .i64 Q.n, .int .i64 Q.s0, .int .i64 Q.s1, .int .i64 Q.s2, .int .i64 Q.s3, .int .i64 Q.h] 25 := by simpa using TB.out
        replace GB := GB.out
        replace bV := bV.out
        clear x3
        rw [rounds_succ]
        go_wp2
        go_roundw
        case rel =>
          have eQ : Q = totK boxes l (k + 1) := by
            rw [HQ.out, HT.out, HY.out]
            unfold totK
            dsimp only
            rw [sumF_succ _ l k hlt, sumF_succ _ l k hlt, sumF_succ _ l k hlt, sumF_succ _ l k hlt, sumF_succ _ l k hlt, sumF_succ _ l k hlt, Int.add_assoc]
          refine ⟨k + 1, Q, by omega, by go_num, bV, TB, eQ, fun j hj => ?_⟩
          by_cases e : j = k
          · rw [e, ← HY.out]; exact HSM.out
          · exact HH.out j (by omega)
        case measure => simp [intOf]; omega
    · obtain rfl : k = l.length := by omega
      have hM := adds_math boxes high l hb hb' hn HH.out
      rw [← HT.out] at hM
      have c9 := g_of_any T high false
      obtain ⟨s, hs⟩ : ∃ s, s = ofG T high false := ⟨_, rfl⟩
      rw [← hs] at c9 hM
      unfold tot stg at c9
      have HM := Lib.hid hM
      have f2 := TB.six
      clear hs hM bd
      go_wp2_with fail
      refine (c9 _).mono ?_
      rintro e w1 ⟨rfl, b1⟩
      have bV := tstep hbl b1 hbl.size
      have SB := blk_new w1 #[.int .i64 s.how, .int .i64 s.ord, .int .i64 s.bye, .int .i64 s.off, .int .i64 s.left] 28
      replace bV := bV.alloc bV.size (.cells #[.int .i64 s.how, .int .i64 s.ord, .int .i64 s.bye, .int .i64 s.off, .int .i64 s.left] 28)
      have c15 := sizes_any s a cap l (w1.alloc (.cells #[.int .i64 s.how, .int .i64 s.ord, .int .i64 s.bye, .int .i64 s.off, .int .i64 s.left] 28)) (by omega) ((HR.out.carry bV (Nat.le_refl _)).mono bV.size)
      unfold stg at c15
      clear b1 hbl TB f2 c9
      go_wp2_with fail
      refine c15.mono ?_
      rintro e w2 ⟨v, rfl, ho, b2⟩
      have hLl : (sizesG s l).length = l.length := by unfold sizesG; rw [HM.out.1, cond_true, uptoS_length]
      have HSZ := Lib.hid (size_bd (s := s) (l := l) HM.out.1)
      have HM2 := HM.out.2
      obtain ⟨L, hL⟩ : ∃ L, L = sizesG s l := ⟨_, rfl⟩
      rw [← hL] at ho hLl HSZ HM2
      replace HM2 := Lib.hid HM2
      obtain ⟨va, vc, rfl, _, _, hrow⟩ := ho.row
      rw [hLl]
      replace SB := SB.old b2
      replace bV := tstep bV b2 bV.size
      clear b2 c15 ho hL HM
      go_wp2_with fail
      go_loopw [13, 14] (fun al i wr => ∃ k : Nat, k ≤ l.length ∧ i = .int .i64 k ∧ al = .int .i64 (boxes + (L.take k).sum) ∧ wr = w2) (fun _ i _ => l.length - (intOf i).toNat)
      case atStart => exact ⟨0, Nat.zero_le _, rfl, by simp, rfl⟩
      case round =>
        obtain ⟨k, hk', hi', hal, hwr⟩ := hrel
        subst hi' hwr
        have sb := sum_bd HSZ.out k (by omega) (by omega)
        have ss := HSZ.out k
        obtain ⟨A, hA⟩ : ∃ A, A = boxes + (L.take k).sum := ⟨_, rfl⟩
        rw [← hA] at hal
        subst hal
        by_cases hlt' : k < l.length
        · obtain ⟨_, b', off', rfl, hB', hc⟩ := hrow k (by omega)
          have sn := sum_snoc L k (by omega)
          obtain ⟨z, hz⟩ : ∃ z, z = L.getD k 0 := ⟨_, rfl⟩
          rw [← hz] at hc ss sn
          obtain ⟨A2, hA2⟩ : ∃ A2, A2 = boxes + (L.take (k + 1)).sum := ⟨_, rfl⟩
          have hw : wrap64 (A + z) = A2 := by rw [hA2, sn, hA]; unfold wrap64; omega
          have HA2 := Lib.hid hA2
          clear hA hA2 sn sb ss hz
          go_wp2
          go_roundw
          case rel => exact ⟨k + 1, by omega, by go_num, by rw [← HA2.out, hw], trivial⟩
          case measure => simp [intOf]; omega
        · obtain rfl : k = l.length := by omega
          have eA : A = boxes + L.sum := by rw [hA, ← hLl, List.take_length]
          have f4 := SB.five
          have hr2 : inR high := hhi
          unfold inR at hr2
          by_cases g1 : high < -1125899906842624
          · have ez := HM2.out.1 (.inl g1)
            subst ez
            unfold zeroS at f4
            dsimp only at f4
            clear eA hA sb ss
            go_wp2_with (with_reducible refine (awake9 _).mono ?_; rintro e w3 ⟨rfl, b3⟩)
            go_ret
            exact ⟨rfl, tstep bV b3 bV.size⟩
          · replace g1 : -1125899906842624 ≤ high := by omega
            by_cases g2 : 1125899906842624 < high
            · have ez := HM2.out.1 (.inr g2)
              subst ez
              unfold zeroS at f4
              dsimp only at f4
              clear eA hA sb ss
              go_wp2_with (with_reducible refine (awake9 _).mono ?_; rintro e w3 ⟨rfl, b3⟩)
              go_ret
              exact ⟨rfl, tstep bV b3 bV.size⟩
            · replace g2 : high ≤ 1125899906842624 := by omega
              obtain ⟨m1, m2⟩ := HM2.out.2 g1 g2
              have hw : wrap64 (A + s.left) = high := by rw [eA, m1]; unfold wrap64; omega
              have m3 : (s.left == 0) = true ∨ ((s.left == 0) = false ∧ (s.how == 0) = true) ∨ ((s.left == 0) = false ∧ (s.how == 0) = false ∧ (s.how == 3) = true) := by
                by_cases n1 : s.left = 0
                · exact .inl (by simpa using n1)
                · by_cases n2 : s.how = 0
                  · exact .inr (.inl ⟨by simpa using n1, by simpa using n2⟩)
                  · exact .inr (.inr ⟨by simpa using n1, by simpa using n2, by simp; omega⟩)
              clear eA hA sb ss m1 m2 HM2 HSZ
              rcases m3 with n1 | ⟨n1, n2⟩ | ⟨n1, n2, n3⟩
              all_goals
                go_wp2_with (with_reducible refine (awake9 _).mono ?_; rintro e w3 ⟨rfl, b3⟩)
                go_ret
                exact ⟨rfl, tstep bV b3 bV.size⟩
end Go.Proofs.Ytojphpncidjdiaa
