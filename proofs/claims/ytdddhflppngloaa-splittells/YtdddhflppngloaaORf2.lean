/- The document's High and Lines of layer 22; large. -/
import Derived.Test.YtdddhflppngloaaORef
namespace Go.Proofs.Ytdddhflppngloaa
open Go.RowKit
set_option maxRecDepth 20000
set_option linter.unusedVariables false
set_option linter.unusedSimpArgs false

theorem lev_ops2 (r : Int) : (if 0 < (if 1125899906842624 < r then 1125899906842624 else r) then (if 1125899906842624 < r then 1125899906842624 else r) else 0) = levN r := by
  unfold levN
  by_cases h2 : 1125899906842624 < r
  · rw [if_pos h2, if_pos (by decide), if_neg (by omega)]
  · rw [if_neg h2]
    by_cases h : r < 0
    · rw [if_pos h, if_neg (by omega)]
    · rw [if_neg h]
      split <;> omega
set_option maxHeartbeats 2000000 in
theorem rohigh_any (a : Option Addr) (cap : Nat) (l : List N2) (pa : Option Addr) (pc : Nat) (p : List PcO) (r : Int) (w : World) (hl : l.length ≤ 1000000) (hs : SmallN l) (hp : p.length ≤ 1000000) (hN : NotesAt w a l) (hP : Els 3 encP w pa p.length fun k => p.getD k zPc) :
    Calls Try.prog 10 #[.slice a l.length cap, .slice pa p.length pc, .int .i64 r] w fun e w' => e = .returned (.int .i64 (highO l p r)) ∧ Below w.heap.size w w' := by
  rcases Nat.eq_zero_or_pos p.length with h0 | h0
  · rw [show highO l p r = 0 by unfold highO; rw [if_pos h0], h0]
    clear hN hP
    go_enter Try.func10, Try.ntmps10
    go_wp2
    go_ret
    exact ⟨rfl, Below.refl _ _⟩
  · rw [show highO l p r = highUpO l p r p.length by unfold highO; rw [if_neg (by omega)]]
    have en : ((p.length : Int) == 0) = false := by
      rw [beq_eq_false_iff_ne]
      omega
    have HN := Lib.hid hN
    have HP := Lib.hid hP
    have HS := Lib.hid hs
    obtain ⟨M0, e0⟩ : ∃ M0, (if 1125899906842624 < r then 1125899906842624 else r) = M0 := ⟨_, rfl⟩
    obtain ⟨M, e1⟩ : ∃ M, (if 0 < M0 then M0 else 0) = M := ⟨_, rfl⟩
    have hM : Hid (M = levN r) := Lib.hid (by rw [← e1, ← e0]; exact lev_ops2 r)
    clear hN hP hs
    go_enter Try.func10, Try.ntmps10
    go_wp2_with fail
    go_loopw [7, 8] (fun u i wr => ∃ j : Nat, j ≤ p.length ∧ i = .int .i64 j ∧ u = .int .i64 (highUpO l p r j) ∧ Below w.heap.size w wr) (fun _ i _ => p.length - (intOf i).toNat)
    case atStart => exact ⟨0, Nat.zero_le _, rfl, by rw [hM.out]; rfl, Below.refl _ _⟩
    case round =>
      clear e0 e1 hM
      obtain ⟨j, hj, rfl, rfl, bw⟩ := hrel
      have hu := highUpO_in l p r j
      by_cases hlt : j < p.length
      · obtain ⟨pb, off, rfl, hB, q0, q1, q2⟩ := elsP (HP.out.carry bw) hlt
        have HQ : Hid (highUpO l p r (j + 1) = stepO l (highUpO l p r j) (p.getD j zPc)) := Lib.hid rfl
        generalize highUpO l p r j = u at *
        generalize p.getD j zPc = y at *
        obtain ⟨n, f, t⟩ := y
        dsimp only at *
        by_cases h1 : 0 ≤ n
        · by_cases h2 : n < l.length
          · obtain ⟨k, rfl, hk⟩ : ∃ k : Nat, n = k ∧ k < l.length := ⟨n.toNat, by omega, by omega⟩
            obtain ⟨nb, noff, la, lc, qa, qc, ha, hnb, c0, c1, _, _, hlc, hqc, hL, _⟩ := (HN.out.carry bw).get hk
            subst ha
            have hH := highN_in (l.getD k zeroN).l f t
            have cH := Lib.hid fun x (hx : Below wr.heap.size wr x) => rnhigh_any la lc (l.getD k zeroN).l qa (l.getD k zeroN).p.length qc f t x (HS.out k hk) ((hL.carry hx (Nat.le_refl _)).mono hx.size)
            unfold stepO at HQ
            rw [if_pos (isO_yes h1 h2)] at HQ
            dsimp only at HQ
            rw [Int.toNat_natCast] at HQ
            generalize highN (l.getD k zeroN).l f t = H at *
            unfold nte at cH
            generalize (l.getD k zeroN).l.length = z at *
            generalize (l.getD k zeroN).p.length = z' at *
            obtain ⟨V, hV⟩ : ∃ V, (if 1125899906842624 < u + H then 1125899906842624 else u + H) = V := ⟨_, rfl⟩
            rw [hV] at HQ
            have ew : IntKind.i64.wrap (u + H) = u + H := by rw [IntKind.wrap_i64]; omega
            clear hL
            go_wp2_with fail
            have CE := Lib.hid fun x (hx : Old wr x) => And.intro (And.intro ((hx.cell (p := ⟨pb, off + j * 3, none⟩) hB).trans q0) (And.intro ((hx.cell (p := ⟨pb, off + j * 3 + 1, none⟩) hB).trans q1) ((hx.cell (p := ⟨pb, off + j * 3 + 2, none⟩) hB).trans q2))) (And.intro ((hx.cell (p := ⟨nb, noff + k * 2, none⟩) hnb).trans c0) (And.intro ((hx.cell (p := ⟨nb, noff + k * 2 + 1, none⟩) hnb).trans c1) (And.intro hV ew)))
            clear c0 c1 q0 q1 q2
            (refine wp_region_text (Old wr) 22 (by kernel_rfl) (by kernel_rfl) (Below.refl _ wr).drew ?_; simp only [List.take_succ_cons, List.take_zero, List.drop_succ_cons, List.drop_zero])
            repeat (first | (apply Text.sees (hw := by kernel_rfl); (focus (intro x hx K hK; have hc := CE.out x hx; go_simp; exact hK)); simp only [Act.put, List.getElem_toArray, List.getElem_cons_succ, List.getElem_cons_zero, List.setIfInBounds_toArray, List.set_cons_zero, List.set_cons_succ]) | (apply Text.idle; (focus (intro x hx K hK; go_simp; exact hK)); simp only [Act.put, List.getElem_toArray, List.getElem_cons_succ, List.getElem_cons_zero, List.setIfInBounds_toArray, List.set_cons_zero, List.set_cons_succ]))
            (refine Text.call (Old.call fun x hx => cH.out x hx) (by kernel_rfl) (fun _ => by kernel_rfl) ?_; simp only [Act.put, List.getElem_toArray, List.getElem_cons_succ, List.getElem_cons_zero, List.setIfInBounds_toArray, List.set_cons_zero, List.set_cons_succ])
            repeat (first | (apply Text.sees (hw := by kernel_rfl); (focus (intro x hx K hK; have hc := CE.out x hx; go_simp; exact hK)); simp only [Act.put, List.getElem_toArray, List.getElem_cons_succ, List.getElem_cons_zero, List.setIfInBounds_toArray, List.set_cons_zero, List.set_cons_succ]) | (apply Text.idle; (focus (intro x hx K hK; go_simp; exact hK)); simp only [Act.put, List.getElem_toArray, List.getElem_cons_succ, List.getElem_cons_zero, List.setIfInBounds_toArray, List.set_cons_zero, List.set_cons_succ]))
            intro x hx
            go_wp2
            go_roundw
            case rel => exact ⟨j + 1, by omega, by go_num, by rw [HQ.out], tstep bw hx bw.size⟩
            case measure => simp [intOf]; omega
          · unfold stepO at HQ
            rw [if_neg (by rw [isO_high h2]; decide)] at HQ
            go_wp2
            go_roundw
            case rel => exact ⟨j + 1, by omega, by go_num, by rw [HQ.out], bw⟩
            case measure => simp [intOf]; omega
        · unfold stepO at HQ
          rw [if_neg (by rw [isO_neg h1]; decide)] at HQ
          go_wp2
          go_roundw
          case rel => exact ⟨j + 1, by omega, by go_num, by rw [HQ.out], bw⟩
          case measure => simp [intOf]; omega
      · obtain rfl : j = p.length := by omega
        go_wp2
        go_ret
        exact ⟨rfl, bw⟩
set_option maxHeartbeats 1000000 in
theorem rolines_any (a : Option Addr) (cap : Nat) (p : List PcO) (w : World) (hl : p.length ≤ 1000000) (hr : Els 3 encP w a p.length fun k => p.getD k zPc) (hf : ∀ k, k < p.length → fairP (p.getD k zPc)) :
    Calls Try.prog 12 #[.slice a p.length cap] w fun e w' => e = .returned (.int .i64 (linesO p)) ∧ Below w.heap.size w w' := by
  have HR := Lib.hid hr
  have HF := Lib.hid hf
  have HU := Lib.hid (linesUpO_in hf)
  clear hr hf
  unfold linesO
  go_enter Try.func12, Try.ntmps12
  go_wp2_with fail
  go_loopw [3, 4] (fun u i wr => ∃ j : Nat, j ≤ p.length ∧ i = .int .i64 j ∧ u = .int .i64 (linesUpO p j) ∧ Below w.heap.size w wr) (fun _ i _ => p.length - (intOf i).toNat)
  case atStart => exact ⟨0, Nat.zero_le _, rfl, rfl, Below.refl _ _⟩
  case round =>
    obtain ⟨j, hj, rfl, rfl, bw⟩ := hrel
    have hu := HU.out j hj
    by_cases hlt : j < p.length
    · obtain ⟨b, off, rfl, hB, q0, q1, q2⟩ := elsP (HR.out.carry bw) hlt
      have HS : Hid (linesUpO p (j + 1) = linesUpO p j + lineO (p.getD j zPc)) := Lib.hid rfl
      have hq := HF.out j hlt
      unfold fairP at hq
      generalize linesUpO p j = u at *
      generalize p.getD j zPc = y at *
      obtain ⟨y0, y1, y2⟩ := y
      dsimp only at *
      have hin := lineO_in (x := (y0, y1, y2)) hq
      obtain ⟨V, hV⟩ : ∃ V, V = lineO (y0, y1, y2) := ⟨_, rfl⟩
      rw [← hV] at HS hin
      have e1 : wrap64 (y2 - y1) = y2 - y1 := by unfold wrap64; omega
      have HV : Hid ((if y1 < y2 then y2 - y1 else 0) = V) := Lib.hid (by rw [hV]; rfl)
      have e3 : wrap64 (u + V) = u + V := by unfold wrap64; omega
      have f1 : IntKind.i64.wrap (y2 - y1) = y2 - y1 := by rw [IntKind.wrap_i64]; omega
      have f3 : IntKind.i64.wrap (u + V) = u + V := by rw [IntKind.wrap_i64]; omega
      clear hV
      go_wp2_with fail
      go_quiet (fail)
      go_wp2
      go_roundw
      case rel => exact ⟨j + 1, by omega, by go_num, by rw [HS.out, HV.out], ndrewN bw _⟩
      case measure => simp [intOf]; omega
    · obtain rfl : j = p.length := by omega
      go_wp2
      go_ret
      exact ⟨rfl, bw⟩
end Go.Proofs.Ytdddhflppngloaa
