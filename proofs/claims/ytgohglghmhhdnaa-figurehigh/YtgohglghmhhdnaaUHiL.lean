/- The walk of FigureHigh. -/
import Derived.Test.YtgohglghmhhdnaaUAw
import Derived.Test.YtgohglghmhhdnaaUFlat
import Derived.Test.YtgohglghmhhdnaaSIs
namespace Go.Proofs.Ytgohglghmhhdnaa
open Go.RowKit
set_option maxRecDepth 20000
set_option linter.unusedVariables false
set_option linter.unusedSimpArgs false

theorem fh_far (a a2 : Option Addr) (n cap m cap2 : Nat) (sep : Int) (w : World) (h : 100 < n ∨ 100 < m) (hn : n ≤ 9223372036854775807) (hm : m ≤ 9223372036854775807) :
    Calls Try.prog 4 #[.slice a n cap, .slice a2 m cap2, .int .i64 sep] w fun e w' => e = .returned (.bool true) ∧ Below w.heap.size w w' := by
  have h' : 100 < n ∨ ¬ 100 < n ∧ 100 < m := by omega
  clear h
  rcases h' with h | ⟨h, h2⟩
  all_goals
    go_enter Try.func4, Try.ntmps4
    go_wp2_with fail
    refine (awake12 _).mono ?_
    rintro e w4 ⟨rfl, b4⟩
    go_wp2
    go_ret
    exact ⟨rfl, b4⟩
set_option maxHeartbeats 2000000 in
theorem fh_near (a a2 : Option Addr) (cap cap2 : Nat) (l : List F3) (ids : List Int) (sep : Int) (w : World) (hl : l.length ≤ 100) (hi : ids.length ≤ 100) (hr : URow w a l) (hd : IRow w.heap.size w a2 ids) :
    Calls Try.prog 4 #[.slice a l.length cap, .slice a2 ids.length cap2, .int .i64 sep] w fun e w' => e = .returned (.bool true) ∧ Below w.heap.size w w' := by
  have C1 := Lib.hid fun (n : Int) x (hx : Below w.heap.size w x) => fat_any a cap l n x (by omega) (hr.carry hx)
  have C2 := Lib.hid fun x (hx : Below w.heap.size w x) => fhigh_any a a2 cap cap2 l ids sep x (by omega) (by omega) (hr.carry hx) ((hd.carry hx (Nat.le_refl _)).mono hx.size)
  have C3 := Lib.hid fun x (hx : Below w.heap.size w x) => rfhigh_any a a2 cap cap2 l ids sep x (by omega) (by omega) (hr.carry hx) ((hd.carry hx (Nat.le_refl _)).mono hx.size)
  have HR := Lib.hid hr
  have HD := Lib.hid hd
  clear hr hd
  have g1 : decide ((100 : Int) < l.length) = false := decide_eq_false (by omega)
  have g2 : decide ((100 : Int) < ids.length) = false := decide_eq_false (by omega)
  go_enter Try.func4, Try.ntmps4
  go_wp2_with fail
  go_loopw [7] (fun i wr => ∃ k : Nat, k ≤ ids.length ∧ i = .int .i64 k ∧ Below w.heap.size w wr) (fun i _ => ids.length - (intOf i).toNat)
  case atStart => exact ⟨0, Nat.zero_le _, rfl, Below.refl _ _⟩
  case round =>
    obtain ⟨k, hk, rfl, bw⟩ := hrel
    by_cases hlt : k < ids.length
    · obtain ⟨hyin, b, off, rfl, hB, hck⟩ := (HD.out.carry bw (Nat.le_refl _)) k hlt
      have hBr : b < wr.heap.size := Nat.lt_of_lt_of_le hB bw.size
      generalize ids.getD k 0 = n at *
      have c1 := C1.out n wr bw
      have HR' := Lib.hid (HR.out.carry bw)
      unfold flt at c1
      by_cases h1 : n < 0
      · have e : hasAt l n = false := by simp [hasAt]; omega
        have k1 : decide (0 ≤ n) = false := decide_eq_false (by omega)
        unfold atF at c1
        rw [e] at c1
        simp only [cond_false, zeroF] at c1
        clear e
        go_wp2_with fail
        refine c1.mono ?_
        rintro e w1 ⟨rfl, b1⟩
        have D := blk_new w1 #[.int .i64 0, .int .i64 0, .int .i64 0] 24
        have bd := tstep b1 (tbel1 w1 (.cells #[.int .i64 0, .int .i64 0, .int .i64 0] 24)) b1.size
        clear c1 C1
        go_wp2_with fail
        generalize w1.alloc _ = V at *
        replace hck := (bd.cell (p := ⟨b, off + k, none⟩) hBr).trans hck
        replace hBr := Nat.lt_of_lt_of_le hBr bd.size
        replace bd := tstep bw bd bw.size
        have CE := Lib.hid fun x (hx : Old V x) => And.intro (D.old hx).triple (And.intro ((hx.cell (p := ⟨b, off + k, none⟩) hBr).trans hck) (And.intro hlt (And.intro (Nat.not_le.2 hlt) (And.intro h1 k1))))
        (refine wp_region_text (Old V) 38 (by kernel_rfl) (by kernel_rfl) (Below.refl _ V).drew ?_; simp only [List.take_succ_cons, List.take_zero, List.drop_succ_cons, List.drop_zero])
        repeat (first | (apply Text.sees (hw := by kernel_rfl); (focus (intro x hx K hK; have hc := CE.out x hx; go_simp; exact hK)); simp only [Act.put, List.getElem_toArray, List.getElem_cons_succ, List.getElem_cons_zero, List.setIfInBounds_toArray, List.set_cons_zero, List.set_cons_succ]) | (apply Text.idle; (focus (intro x hx K hK; go_simp; exact hK)); simp only [Act.put, List.getElem_toArray, List.getElem_cons_succ, List.getElem_cons_zero, List.setIfInBounds_toArray, List.set_cons_zero, List.set_cons_succ]))
        intro x hx
        replace hx := tstep bd hx bd.size
        clear CE D hck b1
        go_wp2
        go_roundw
        case rel => exact ⟨k + 1, by omega, by go_num, hx⟩
        case measure => simp [intOf]; omega
      · by_cases h2 : (l.length : Int) ≤ n
        · have e : hasAt l n = false := by simp [hasAt]; omega
          have k1 : decide (0 ≤ n) = true := decide_eq_true (by omega)
          have k2 : decide (n < (l.length : Int)) = false := decide_eq_false (by omega)
          unfold atF at c1
          rw [e] at c1
          simp only [cond_false, zeroF] at c1
          clear e
          go_wp2_with fail
          refine c1.mono ?_
          rintro e w1 ⟨rfl, b1⟩
          have D := blk_new w1 #[.int .i64 0, .int .i64 0, .int .i64 0] 24
          have bd := tstep b1 (tbel1 w1 (.cells #[.int .i64 0, .int .i64 0, .int .i64 0] 24)) b1.size
          clear c1 C1
          go_wp2_with fail
          generalize w1.alloc _ = V at *
          replace hck := (bd.cell (p := ⟨b, off + k, none⟩) hBr).trans hck
          replace hBr := Nat.lt_of_lt_of_le hBr bd.size
          replace bd := tstep bw bd bw.size
          have CE := Lib.hid fun x (hx : Old V x) => And.intro (D.old hx).triple (And.intro ((hx.cell (p := ⟨b, off + k, none⟩) hBr).trans hck) (And.intro hlt (And.intro (Nat.not_le.2 hlt) (And.intro k1 k2))))
          (refine wp_region_text (Old V) 38 (by kernel_rfl) (by kernel_rfl) (Below.refl _ V).drew ?_; simp only [List.take_succ_cons, List.take_zero, List.drop_succ_cons, List.drop_zero])
          repeat (first | (apply Text.sees (hw := by kernel_rfl); (focus (intro x hx K hK; have hc := CE.out x hx; go_simp; exact hK)); simp only [Act.put, List.getElem_toArray, List.getElem_cons_succ, List.getElem_cons_zero, List.setIfInBounds_toArray, List.set_cons_zero, List.set_cons_succ]) | (apply Text.idle; (focus (intro x hx K hK; go_simp; exact hK)); simp only [Act.put, List.getElem_toArray, List.getElem_cons_succ, List.getElem_cons_zero, List.setIfInBounds_toArray, List.set_cons_zero, List.set_cons_succ]))
          intro x hx
          replace hx := tstep bd hx bd.size
          clear CE D hck b1
          go_wp2
          go_roundw
          case rel => exact ⟨k + 1, by omega, by go_num, hx⟩
          case measure => simp [intOf]; omega
        · obtain ⟨m, rfl⟩ : ∃ m : Nat, n = m := ⟨n.toNat, by omega⟩
          have hm : m < l.length := by omega
          have e : hasAt l m = true := by simp [hasAt]; omega
          have k1 : decide (0 ≤ (m : Int)) = true := decide_eq_true (by omega)
          have k2 : decide ((m : Int) < (l.length : Int)) = true := decide_eq_true (by omega)
          unfold atF at c1
          rw [e, cond_true, Int.toNat_natCast] at c1
          obtain ⟨_, b2, off2, rfl, hB2, p0, p1, p2⟩ := HR'.out m hm
          generalize l.getD m zeroF = y at *
          obtain ⟨y0, y1, y2⟩ := y
          dsimp only at *
          clear e
          go_wp2_with fail
          refine c1.mono ?_
          rintro e w1 ⟨rfl, b1⟩
          have D := blk_new w1 #[.int .i64 y0, .int .i64 y1, .int .i64 y2] 24
          have bd := tstep b1 (tbel1 w1 (.cells #[.int .i64 y0, .int .i64 y1, .int .i64 y2] 24)) b1.size
          clear c1 C1
          go_wp2_with fail
          generalize w1.alloc _ = V at *
          replace hck := (bd.cell (p := ⟨b, off + k, none⟩) hBr).trans hck
          replace hBr := Nat.lt_of_lt_of_le hBr bd.size
          replace p0 := (bd.cell (p := ⟨b2, off2 + m * 3, none⟩) hB2).trans p0
          replace p1 := (bd.cell (p := ⟨b2, off2 + m * 3 + 1, none⟩) hB2).trans p1
          replace p2 := (bd.cell (p := ⟨b2, off2 + m * 3 + 2, none⟩) hB2).trans p2
          have hB3 := Nat.lt_of_lt_of_le hB2 bd.size
          replace bd := tstep bw bd bw.size
          have CE := Lib.hid fun x (hx : Old V x) => And.intro (D.old hx).triple (And.intro ((hx.cell (p := ⟨b, off + k, none⟩) hBr).trans hck) (And.intro hlt (And.intro (Nat.not_le.2 hlt) (And.intro hm (And.intro (Nat.not_le.2 hm) (And.intro k1 (And.intro k2 (And.intro ((hx.cell (p := ⟨b2, off2 + m * 3, none⟩) hB3).trans p0) (And.intro ((hx.cell (p := ⟨b2, off2 + m * 3 + 1, none⟩) hB3).trans p1) ((hx.cell (p := ⟨b2, off2 + m * 3 + 2, none⟩) hB3).trans p2))))))))))
          (refine wp_region_text (Old V) 38 (by kernel_rfl) (by kernel_rfl) (Below.refl _ V).drew ?_; simp only [List.take_succ_cons, List.take_zero, List.drop_succ_cons, List.drop_zero])
          repeat (first | (apply Text.sees (hw := by kernel_rfl); (focus (intro x hx K hK; have hc := CE.out x hx; go_simp; exact hK)); simp only [Act.put, List.getElem_toArray, List.getElem_cons_succ, List.getElem_cons_zero, List.setIfInBounds_toArray, List.set_cons_zero, List.set_cons_succ]) | (apply Text.idle; (focus (intro x hx K hK; go_simp; exact hK)); simp only [Act.put, List.getElem_toArray, List.getElem_cons_succ, List.getElem_cons_zero, List.setIfInBounds_toArray, List.set_cons_zero, List.set_cons_succ]))
          intro x hx
          replace hx := tstep bd hx bd.size
          clear CE D hck b1
          go_wp2
          go_roundw
          case rel => exact ⟨k + 1, by omega, by go_num, hx⟩
          case measure => simp [intOf]; omega
    · have ej : k = ids.length := by omega
      subst ej
      generalize highF l ids sep = z at *
      go_wp2_with fail
      refine (C2.out _ bw).mono ?_
      rintro e w1 ⟨rfl, b1⟩
      replace b1 := tstep bw b1 bw.size
      go_wp2_with fail
      refine (C3.out _ b1).mono ?_
      rintro e w2 ⟨rfl, b2⟩
      replace b2 := tstep b1 b2 b1.size
      go_wp2_with fail
      refine (awake12 _).mono ?_
      rintro e w3 ⟨rfl, b3⟩
      replace b3 := tstep b2 b3 b2.size
      go_wp2
      go_ret
      exact ⟨rfl, b3⟩
theorem figureHigh_walk (a : Option Addr) (len cap : Nat) (a2 : Option Addr) (len2 cap2 : Nat) (zs : List Int) (sep : Int) (hs : (Lit.int .i64 sep).wf = true) (w : World) (h : IsFlat Try.prog [3, 22, 3] w a len cap) (h2 : IsRow .i64 w a2 len2 cap2 zs) :
    Calls Try.prog 4 #[.slice a len cap, .slice a2 len2 cap2, .int .i64 sep] w fun e w' => e = .returned (.bool true) ∧ Below w.heap.size w w' := by
  obtain ⟨l, rfl, k1, k2, hr⟩ := h.urow
  obtain ⟨ids, rfl, hd, _, m1⟩ := h2.irow
  have hm : maxLen ≤ 9223372036854775807 := by decide
  by_cases hn : 100 < l.length ∨ 100 < ids.length
  · exact fh_far a a2 _ cap _ cap2 sep w hn (by omega) (by omega)
  · exact fh_near a a2 cap cap2 l ids sep w (by omega) (by omega) hr hd
end Go.Proofs.Ytgohglghmhhdnaa
