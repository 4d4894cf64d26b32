/- Same of package note, and the document's; Lines. -/
import Derived.Test.YtllpimhjpfkgpaaNSm
namespace Go.Proofs.Ytllpimhjpfkgpaa
open Go.RowKit
set_option maxRecDepth 20000
set_option linter.unusedVariables false
set_option linter.unusedSimpArgs false

def sameN (L P L' P' : List Int) : Bool := decide (L = L') && decide (P = P')
theorem nsame_any (la : Option Addr) (lc : Nat) (L : List Int) (pa : Option Addr) (pc : Nat) (P : List Int) (la' : Option Addr) (lc' : Nat) (L' : List Int) (pa' : Option Addr) (pc' : Nat) (P' : List Int) (w : World)
    (hl : L.length ≤ 1000000) (hp : P.length ≤ 1000000) (hl' : L'.length ≤ 1000000) (hp' : P'.length ≤ 1000000) (hL : IRow w.heap.size w la L) (hP : IRow w.heap.size w pa P) (hL' : IRow w.heap.size w la' L') (hP' : IRow w.heap.size w pa' P') :
    Calls Try.prog 36 #[nte la L.length lc pa P.length pc, nte la' L'.length lc' pa' P'.length pc'] w fun e w' => e = .returned (.bool (sameN L P L' P')) ∧ Below w.heap.size w w' := by
  have c1 := Lib.hid fun x (hx : Below w.heap.size w x) => equal_sp la la' lc lc' L L' x hl hl' ((hL.carry hx (Nat.le_refl _)).mono hx.size) ((hL'.carry hx (Nat.le_refl _)).mono hx.size)
  have c2 := Lib.hid fun x (hx : Below w.heap.size w x) => equal_int pa pa' pc pc' P P' x hp hp' ((hP.carry hx (Nat.le_refl _)).mono hx.size) ((hP'.carry hx (Nat.le_refl _)).mono hx.size)
  clear hL hP hL' hP'
  unfold nte sameN
  have b0 := tbel2 w (.cells #[.slice la L.length lc, .slice pa P.length pc] 37) (.cells #[.slice la' L'.length lc', .slice pa' P'.length pc'] 37)
  have B0 := (blk_new w #[.slice la L.length lc, .slice pa P.length pc] 37).alloc (.cells #[.slice la' L'.length lc', .slice pa' P'.length pc'] 37)
  have B1 := blk_two w (.cells #[.slice la L.length lc, .slice pa P.length pc] 37) #[.slice la' L'.length lc', .slice pa' P'.length pc'] 37
  generalize decide (L = L') = r1 at *
  generalize decide (P = P') = r2 at *
  cases r1
  · go_enter Try.func36, Try.ntmps36
    go_wp2_with fail
    refine (c1.out _ b0).mono ?_
    rintro e w1 ⟨rfl, b1⟩
    go_wp2
    go_ret
    exact ⟨rfl, tstep b0 b1 b0.size⟩
  · go_enter Try.func36, Try.ntmps36
    go_wp2_with fail
    refine (c1.out _ b0).mono ?_
    rintro e w1 ⟨rfl, b1⟩
    obtain ⟨q0, q1⟩ := (B0.old b1).two
    obtain ⟨q2, q3⟩ := (B1.old b1).two
    replace b1 := tstep b0 b1 b0.size
    clear B0 B1 b0 c1
    go_wp2_with fail
    refine (c2.out _ b1).mono ?_
    rintro e w2 ⟨rfl, b2⟩
    clear c2 q0 q1 q2 q3
    go_wp2
    go_ret
    exact ⟨rfl, tstep b1 b2 b1.size⟩
theorem getD_ext {l m : List Int} (h : l.length = m.length) (hp : ∀ j, j < l.length → l.getD j 0 = m.getD j 0) : l = m := List.ext_getElem? fun j => by
  rcases Nat.lt_or_ge j l.length with h1 | h1
  · have := hp j h1
    have h' : j < m.length := by omega
    simpa [h1, h'] using this
  · rw [List.getElem?_eq_none h1, List.getElem?_eq_none (by omega)]
theorem getD_snoc {l m : List Int} {k : Nat} (hp : ∀ j, j < k → l.getD j 0 = m.getD j 0) (h : l.getD k 0 = m.getD k 0) : ∀ j, j < k + 1 → l.getD j 0 = m.getD j 0 := fun j hj => by
  rcases Nat.lt_or_ge j k with h1 | h1
  · exact hp j h1
  · obtain rfl : j = k := by omega
    exact h
theorem same_not {L P L' P' : List Int} (h : ¬ L = L' ∨ ¬ P = P') : sameN L P L' P' = false := by
  unfold sameN
  rcases h with h | h <;> simp [h]
set_option maxHeartbeats 1000000 in
theorem rnsame_any (la : Option Addr) (lc : Nat) (L : List Int) (pa : Option Addr) (pc : Nat) (P : List Int) (la' : Option Addr) (lc' : Nat) (L' : List Int) (pa' : Option Addr) (pc' : Nat) (P' : List Int) (w : World)
    (hl : L.length ≤ 1000000) (hp : P.length ≤ 1000000) (hl' : L'.length ≤ 1000000) (hp' : P'.length ≤ 1000000) (hL : IRow w.heap.size w la L) (hP : IRow w.heap.size w pa P) (hL' : IRow w.heap.size w la' L') (hP' : IRow w.heap.size w pa' P') :
    Calls Try.prog 41 #[nte la L.length lc pa P.length pc, nte la' L'.length lc' pa' P'.length pc'] w fun e w' => e = .returned (.bool (sameN L P L' P')) ∧ Below w.heap.size w w' := by
  unfold nte
  rcases Nat.decEq L.length L'.length with hne | heq
  · rw [same_not (.inl (fun h => hne (by rw [h])))]
    clear hL hP hL' hP'
    go_enter Try.func41, Try.ntmps41
    go_wp2_with fail
    go_ret
    exact ⟨rfl, tbel2 w _ _⟩
  rw [← heq]
  have HQ := Lib.hid heq
  clear heq
  rcases Nat.decEq P.length P'.length with hne | hpq
  · rw [same_not (.inr (fun h => hne (by rw [h])))]
    clear hL hP hL' hP'
    go_enter Try.func41, Try.ntmps41
    go_wp2_with fail
    go_ret
    exact ⟨rfl, tbel2 w _ _⟩
  rw [← hpq]
  have HPQ := Lib.hid hpq
  clear hpq
  have b0 := tbel2 w (.cells #[.slice la L.length lc, .slice pa P.length pc] 37) (.cells #[.slice la' L.length lc', .slice pa' P.length pc'] 37)
  have HL := Lib.hid hL
  have HP := Lib.hid hP
  have HL' := Lib.hid hL'
  have HP' := Lib.hid hP'
  have B0 := (blk_new w #[.slice la L.length lc, .slice pa P.length pc] 37).alloc (.cells #[.slice la' L.length lc', .slice pa' P.length pc'] 37)
  have B1 := blk_two w (.cells #[.slice la L.length lc, .slice pa P.length pc] 37) #[.slice la' L.length lc', .slice pa' P.length pc'] 37
  clear hL hP hL' hP'
  go_enter Try.func41, Try.ntmps41
  go_wp2_with fail
  generalize (w.alloc _).alloc _ = U at *
  go_loopw [5] (fun i wr => ∃ k : Nat, k ≤ L.length ∧ i = .int .i64 k ∧ Below U.heap.size U wr ∧ Hid (∀ j, j < k → L.getD j 0 = L'.getD j 0)) (fun i _ => L.length - (intOf i).toNat)
  case atStart => exact ⟨0, Nat.zero_le _, rfl, Below.refl _ _, Lib.hid fun j hj => by omega⟩
  case round =>
    obtain ⟨k, hk, rfl, hbl, HK⟩ := hrel
    have bw := tstep b0 hbl b0.size
    obtain ⟨q0, q1⟩ := (B0.old hbl).two
    obtain ⟨q2, q3⟩ := (B1.old hbl).two
    by_cases hlt : k < L.length
    · obtain ⟨_, b1, o1, rfl, hB1, hc1⟩ := (HL.out.carry bw (Nat.le_refl _)) k hlt
      obtain ⟨_, b2, o2, rfl, hB2, hc2⟩ := (HL'.out.carry bw (Nat.le_refl _)) k (by rw [← HQ.out]; exact hlt)
      have HS := Lib.hid (getD_snoc HK.out)
      by_cases hxy : L.getD k 0 = L'.getD k 0
      · replace HS := Lib.hid (HS.out hxy)
        rw [← hxy] at hc2
        clear hxy
        generalize L.getD k 0 = x at hc1 hc2
        go_wp2_with fail
        go_quiet (fail)
        go_wp2
        go_roundw
        case rel => exact ⟨k + 1, by omega, by go_num, ndrewN hbl _, HS⟩
        case measure => simp [intOf]; omega
      · have HN := Lib.hid (same_not (L := L) (P := P) (L' := L') (P' := P') (.inl fun h => hxy (by rw [h])))
        generalize L.getD k 0 = x at hc1 hxy
        generalize L'.getD k 0 = y at hc2 hxy
        clear HS
        go_wp2_with fail
        go_quiet (fail)
        go_wp2
        go_ret
        exact ⟨by rw [HN.out]; rfl, ndrewN bw _⟩
    · have HLL := Lib.hid (getD_ext HQ.out (by obtain rfl : k = L.length := (by omega); exact HK.out))
      clear HK HL HL'
      go_wp2_with fail
      go_loopw [6] (fun i wx => ∃ k : Nat, k ≤ P.length ∧ i = .int .i64 k ∧ Below U.heap.size U wx ∧ Hid (∀ j, j < k → P.getD j 0 = P'.getD j 0)) (fun i _ => P.length - (intOf i).toNat)
      case atStart => exact ⟨0, Nat.zero_le _, rfl, hbl, Lib.hid fun j hj => by omega⟩
      case round =>
        clear q0 q1 q2 q3 bw hbl
        obtain ⟨k, hk, rfl, hbl, HK⟩ := hrel
        have bw := tstep b0 hbl b0.size
        obtain ⟨q0, q1⟩ := (B0.old hbl).two
        obtain ⟨q2, q3⟩ := (B1.old hbl).two
        by_cases hlt : k < P.length
        · obtain ⟨_, b1, o1, rfl, hB1, hc1⟩ := (HP.out.carry bw (Nat.le_refl _)) k hlt
          obtain ⟨_, b2, o2, rfl, hB2, hc2⟩ := (HP'.out.carry bw (Nat.le_refl _)) k (by rw [← HPQ.out]; exact hlt)
          have HS := Lib.hid (getD_snoc HK.out)
          by_cases hxy : P.getD k 0 = P'.getD k 0
          · replace HS := Lib.hid (HS.out hxy)
            rw [← hxy] at hc2
            clear hxy
            generalize P.getD k 0 = x at hc1 hc2
            go_wp2_with fail
            go_quiet (fail)
            go_wp2
            go_roundw
            case rel => exact ⟨k + 1, by omega, by go_num, ndrewN hbl _, HS⟩
            case measure => simp [intOf]; omega
          · have HN := Lib.hid (same_not (L := L) (P := P) (L' := L') (P' := P') (.inr fun h => hxy (by rw [h])))
            generalize P.getD k 0 = x at hc1 hxy
            generalize P'.getD k 0 = y at hc2 hxy
            clear HS
            go_wp2_with fail
            go_quiet (fail)
            go_wp2
            go_ret
            exact ⟨by rw [HN.out]; rfl, ndrewN bw _⟩
        · have HPP := Lib.hid (getD_ext HPQ.out (by obtain rfl : k = P.length := (by omega); exact HK.out))
          have HN : Hid (sameN L P L' P' = true) := Lib.hid (by unfold sameN; rw [HLL.out, HPP.out]; simp)
          clear HK HP HP' HLL HPP
          go_wp2
          go_ret
          exact ⟨by rw [HN.out]; rfl, bw⟩
end Go.Proofs.Ytllpimhjpfkgpaa
