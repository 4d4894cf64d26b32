/- High of package split. -/
import Derived.Test.YtdddhflppngloaaONxt
import Derived.Test.YtdddhflppngloaaNHi
namespace Go.Proofs.Ytdddhflppngloaa
open Go.RowKit
set_option maxRecDepth 20000
set_option linter.unusedVariables false
set_option linter.unusedSimpArgs false

theorem lev_ops (r : Int) : (if 1125899906842624 < (if r < 0 then 0 else r) then 1125899906842624 else (if r < 0 then 0 else r)) = levN r := by unfold levN; split <;> rfl
set_option maxHeartbeats 2000000 in
theorem ohigh_any (a : Option Addr) (cap : Nat) (l : List N2) (pa : Option Addr) (pc : Nat) (p : List PcO) (r : Int) (w : World) (hl : l.length ≤ 1000000) (hs : SmallN l) (hp : p.length ≤ 1000000) (hN : NotesAt w a l) (hP : Els 3 encP w pa p.length fun k => p.getD k zPc) :
    Calls Try.prog 7 #[.slice a l.length cap, .slice pa p.length pc, .int .i64 r] w fun e w' => e = .returned (.int .i64 (highO l p r)) ∧ Below w.heap.size w w' := by
  rcases Nat.eq_zero_or_pos p.length with h0 | h0
  · rw [show highO l p r = 0 by unfold highO; rw [if_pos h0], h0]
    clear hN hP
    go_enter Try.func7, Try.ntmps7
    go_wp2
    go_ret
    exact ⟨rfl, Below.refl _ _⟩
  · rw [show highO l p r = highUpO l p r p.length by unfold highO; rw [if_neg (by omega)]]
    have en : ((p.length : Int) == 0) = false := by
      rw [beq_eq_false_iff_ne]
      omega
    have HN := Lib.hid hN
    have HP := Lib.hid hP
    have HS := Lib.hid hs
    obtain ⟨M0, e0⟩ : ∃ M0, (if r < 0 then 0 else r) = M0 := ⟨_, rfl⟩
    obtain ⟨M, e1⟩ : ∃ M, (if 1125899906842624 < M0 then 1125899906842624 else M0) = M := ⟨_, rfl⟩
    have hM : Hid (M = levN r) := Lib.hid (by rw [← e1, ← e0]; exact lev_ops r)
    clear hN hP hs
    go_enter Try.func7, Try.ntmps7
    go_wp2_with fail
    go_loopw [7, 18] (fun u i wr => ∃ j : Nat, j ≤ p.length ∧ i = .int .i64 j ∧ u = .int .i64 (highUpO l p r j) ∧ Below w.heap.size w wr) (fun _ i _ => p.length - (intOf i).toNat)
    case atStart => exact ⟨0, Nat.zero_le _, rfl, by rw [hM.out]; rfl, Below.refl _ _⟩
    case round =>
      clear e0 e1 hM
      obtain ⟨j, hj, rfl, rfl, bw⟩ := hrel
      have hu := highUpO_in l p r j
      by_cases hlt : j < p.length
      · obtain ⟨pb, off, rfl, hB, q0, q1, q2⟩ := elsP (HP.out.carry bw) hlt
        have HQ : Hid (highUpO l p r (j + 1) = stepO l (highUpO l p r j) (p.getD j zPc)) := Lib.hid rfl
        generalize highUpO l p r j = u at *
        generalize p.getD j zPc = y at *
        obtain ⟨n, f, t⟩ := y
        dsimp only at *
        have bo := tstep bw (tbel1 wr (.cells #[.int .i64 n, .int .i64 f, .int .i64 t] 44)) bw.size
        have B2 := blk_new wr #[.int .i64 n, .int .i64 f, .int .i64 t] 44
        have ce := oexists_any a l.length cap n (wr.alloc (.cells #[.int .i64 n, .int .i64 f, .int .i64 t] 44)) hl
        by_cases hi : isO l.length n = true
        · rw [hi] at ce
          obtain ⟨k, rfl, hk⟩ : ∃ k : Nat, n = k ∧ k < l.length := by
            unfold isO at hi
            simp at hi
            exact ⟨n.toNat, by omega, by omega⟩
          obtain ⟨nb, noff, la, lc, qa, qc, ha, hnb, c0, c1, _, _, hlc, hqc, hL, _⟩ := (HN.out.carry bo).get hk
          subst ha
          have hH := highN_in (l.getD k zeroN).l f t
          have cH := Lib.hid fun x (hx : Below (wr.alloc (.cells #[.int .i64 (k : Int), .int .i64 f, .int .i64 t] 44)).heap.size (wr.alloc (.cells #[.int .i64 (k : Int), .int .i64 f, .int .i64 t] 44)) x) => nhigh_any la lc (l.getD k zeroN).l qa (l.getD k zeroN).p.length qc f t x (HS.out k hk) ((hL.carry hx (Nat.le_refl _)).mono hx.size)
          unfold stepO at HQ
          rw [if_pos hi] at HQ
          dsimp only at HQ
          rw [Int.toNat_natCast] at HQ
          generalize highN (l.getD k zeroN).l f t = H at *
          unfold nte at cH
          generalize (l.getD k zeroN).l.length = z at *
          generalize (l.getD k zeroN).p.length = z' at *
          obtain ⟨V, hV⟩ : ∃ V, (if 1125899906842624 < u + H then 1125899906842624 else u + H) = V := ⟨_, rfl⟩
          rw [hV] at HQ
          have ew : IntKind.i64.wrap (u + H) = u + H := by rw [IntKind.wrap_i64]; omega
          clear hL hi
          go_wp2_with fail
          refine ce.mono ?_
          rintro e w1 ⟨rfl, hw1⟩
          clear ce
          have hw1' := hw1.symm
          clear hw1
          subst hw1'
          generalize wr.alloc _ = W at *
          clear hB q0 q1 q2
          go_wp2_with fail
          have CE := Lib.hid fun x (hx : Old W x) => And.intro (Blk.cell3 (Blk.old B2 hx)) (And.intro ((hx.cell (p := ⟨nb, noff + k * 2, none⟩) hnb).trans c0) (And.intro ((hx.cell (p := ⟨nb, noff + k * 2 + 1, none⟩) hnb).trans c1) (And.intro hV ew)))
          clear c0 c1 B2
          (refine wp_region_text (Old W) 13 (by kernel_rfl) (by kernel_rfl) (Below.refl _ W).drew ?_; simp only [List.take_succ_cons, List.take_zero, List.drop_succ_cons, List.drop_zero])
          repeat (first | (apply Text.sees (hw := by kernel_rfl); (focus (intro x hx K hK; have hc := CE.out x hx; go_simp; exact hK)); simp only [Act.put, List.getElem_toArray, List.getElem_cons_succ, List.getElem_cons_zero, List.setIfInBounds_toArray, List.set_cons_zero, List.set_cons_succ]) | (apply Text.idle; (focus (intro x hx K hK; go_simp; exact hK)); simp only [Act.put, List.getElem_toArray, List.getElem_cons_succ, List.getElem_cons_zero, List.setIfInBounds_toArray, List.set_cons_zero, List.set_cons_succ]))
          (refine Text.call (Old.call fun x hx => cH.out x hx) (by kernel_rfl) (fun _ => by kernel_rfl) ?_; simp only [Act.put, List.getElem_toArray, List.getElem_cons_succ, List.getElem_cons_zero, List.setIfInBounds_toArray, List.set_cons_zero, List.set_cons_succ])
          repeat (first | (apply Text.sees (hw := by kernel_rfl); (focus (intro x hx K hK; have hc := CE.out x hx; go_simp; exact hK)); simp only [Act.put, List.getElem_toArray, List.getElem_cons_succ, List.getElem_cons_zero, List.setIfInBounds_toArray, List.set_cons_zero, List.set_cons_succ]) | (apply Text.idle; (focus (intro x hx K hK; go_simp; exact hK)); simp only [Act.put, List.getElem_toArray, List.getElem_cons_succ, List.getElem_cons_zero, List.setIfInBounds_toArray, List.set_cons_zero, List.set_cons_succ]))
          intro x hx
          go_wp2
          go_roundw
          case rel => exact ⟨j + 1, by omega, by go_num, by rw [HQ.out], tstep bo hx bo.size⟩
          case measure => simp [intOf]; omega
        · rw [Bool.eq_false_iff.2 hi] at ce
          unfold stepO at HQ
          rw [if_neg hi] at HQ
          clear hi
          go_wp2_with fail
          refine ce.mono ?_
          rintro e w1 ⟨rfl, hw1⟩
          clear ce
          have hw1' := hw1.symm
          clear hw1
          subst hw1'
          go_wp2
          go_roundw
          case rel => exact ⟨j + 1, by omega, by go_num, by rw [HQ.out], bo⟩
          case measure => simp [intOf]; omega
      · obtain rfl : j = p.length := by omega
        go_wp2
        go_ret
        exact ⟨rfl, bw⟩
end Go.Proofs.Ytdddhflppngloaa
