/- Where a note may be split and end: package note, and the document's. First of package note. Stops of package note. The same numbers, the same notes: package slices, package note, and the document's. Same of package note, and the document's; Lines. -/
import Derived.Test.YtjfjekncmejfpaaNCk
import Derived.OwnWalk
import Derived.Maps.AppendAt
import Derived.BigQuiet
namespace Go.Proofs.Ytjfjekncmejfpaa
open Go.RowKit
set_option maxRecDepth 20000
set_option linter.unusedVariables false
set_option linter.unusedSimpArgs false

theorem split_no {L P : List Int} {a : Int} (h : ¬ 1 ≤ a ∨ ¬ a < L.length ∨ ¬ a ≤ P.length) : splitN L P a = false := by
  unfold splitN
  rcases h with h | h | h <;> simp [h]
theorem split_at {L P : List Int} {m : Nat} (h1 : m + 1 < L.length) (h2 : m < P.length) : splitN L P ((m : Int) + 1) = decide (P.getD m 0 < 10000) := by
  unfold splitN
  have e1 : decide (1 ≤ (m : Int) + 1) = true := by simp; omega
  have e2 : decide ((m : Int) + 1 < L.length) = true := by simp; omega
  have e3 : decide ((m : Int) + 1 ≤ P.length) = true := by simp; omega
  have e4 : ((m : Int) + 1 - 1).toNat = m := by omega
  rw [e1, e2, e3, e4]
  rfl
theorem may_len {L P : List Int} {a : Int} (h : a = L.length) : mayN L P a = true := by unfold mayN; simp [h]
theorem may_not {L P : List Int} {a : Int} (h : ¬ a = L.length) : mayN L P a = splitN L P a := by unfold mayN; simp [h]
theorem split_yes {L P : List Int} {a : Int} (h : splitN L P a = true) : ∃ m : Nat, a = (m : Int) + 1 ∧ m + 1 < L.length ∧ m < P.length := by
  unfold splitN at h
  simp at h
  exact ⟨(a - 1).toNat, by omega, by omega, by omega⟩
end Go.Proofs.Ytjfjekncmejfpaa
namespace Go.Proofs.Ytjfjekncmejfpaa
open Go.RowKit
set_option maxRecDepth 20000
set_option linter.unusedVariables false
set_option linter.unusedSimpArgs false

end Go.Proofs.Ytjfjekncmejfpaa
namespace Go.Proofs.Ytjfjekncmejfpaa
open Go.RowKit
set_option maxRecDepth 20000
set_option linter.unusedVariables false
set_option linter.unusedSimpArgs false

/-- The numbers l lie where the slice v says, in a block of the call's own, at base and above. -/
structure OwnN (w : World) (base : Nat) (v : Value) (l : List Int) : Prop where
  own : w.ownsRow base 3 1 v l.length (l.map (Value.int .i64))
  ins : ∀ k, inR (l.getD k 0)
theorem OwnN.row {w : World} {base : Nat} {v : Value} {l : List Int} (h : OwnN w base v l) : ∃ a cap, v = .slice a l.length cap ∧ l.length ≤ cap ∧ cap ≤ maxLen ∧ IRow w.heap.size w a l := by
  rcases h.own.2 with ⟨rfl, h0⟩ | ⟨g, cap, cur, rfl, hb, hg, h1, h2, h3, h4⟩
  · exact ⟨none, 0, by rw [h0], by omega, by decide, fun k hk => by omega⟩
  · refine ⟨some ⟨g, 0, none⟩, cap, rfl, h1, h2, fun k hk => ⟨h.ins k, g, 0, rfl, (Array.getElem?_eq_some_iff.1 hg).1, ?_⟩⟩
    rw [World.ownsRow.cellAt h.own (0 + k) (by omega)]
    rw [List.getElem?_map, List.getD_eq_getElem?_getD, Nat.zero_add, List.getElem?_eq_getElem hk]
    simp
theorem ngrown_of {A B : World} (h : Below A.heap.size A B) : A.grownBy B none := ⟨h.os, h.tape, h.output, h.size, fun k hk _ => h.block k hk⟩
theorem OwnN.carry {w w' : World} {base : Nat} {v : Value} {l : List Int} (h : OwnN w base v l) (hb : Below w.heap.size w w') : OwnN w' base v l :=
  ⟨h.own.kept (row := none) (ngrown_of hb) (by
    rcases h.own.2 with ⟨rfl, _⟩ | ⟨g, cap, cur, rfl, _⟩
    · exact .inl rfl
    · exact .inr (by simp [Value.ownBlock])), h.ins⟩
theorem OwnN.mono {w : World} {base base' : Nat} {v : Value} {l : List Int} (h : OwnN w base v l) (hb : base' ≤ base) : OwnN w base' v l := by
  refine ⟨⟨h.own.1, ?_⟩, h.ins⟩
  rcases h.own.2 with h | ⟨g, cap, cur, h1, h2, h3⟩
  · exact .inl h
  · exact .inr ⟨g, cap, cur, h1, by omega, h3⟩
theorem OwnN.grow {B : Nat} {w w3 w4 : World} {v : Value} {l : List Int} {o : Obj} (hown : OwnN w3 B v l) (hbl : Below B w w3) (hz : B ≤ w3.heap.size) (hgrow : (w3.alloc o).grownBy w4 v.ownBlock) : Below B w w4 := by
  refine (hbl.alloc hz o).grown hgrow (by simp; omega) fun j ej => ?_
  rcases hown.own.2 with ⟨rfl, _⟩ | ⟨g, cap, cur, rfl, hb, _, _⟩
  · simp [Value.ownBlock] at ej
  · obtain rfl : g = j := by simpa [Value.ownBlock] using ej
    exact hb
theorem ownN_nil (w : World) (base : Nat) : OwnN w base (.slice none 0 0) [] := ⟨World.ownsRow_nil _ _ _ _, fun k => by simp [inR]⟩
theorem infoInt : (Try.prog.info? 3).map (fun i => (i.zero, i.size, i.bytes)) = some (some (.int .i64 0), 1, 8) := by kernel_rfl

/-- What is left to come. -/
def stM (n : Nat) (z : Int) : Nat := if z < 0 then 0 else n + 1 - z.toNat
theorem stM_end {n k : Nat} (h : k ≤ n) : stM n (-1) < stM n k := by
  unfold stM
  rw [if_pos (by omega), if_neg (by omega)]
  omega
theorem stM_up {n k k2 : Nat} (h : k < k2) (h2 : k2 ≤ n) : stM n k2 < stM n k := by
  unfold stM
  rw [if_neg (by omega), if_neg (by omega)]
  omega
end Go.Proofs.Ytjfjekncmejfpaa
namespace Go.Proofs.Ytjfjekncmejfpaa
open Go.RowKit
set_option maxRecDepth 20000
set_option linter.unusedVariables false
set_option linter.unusedSimpArgs false

theorem ndrewN {B : Nat} {w x : World} (h : Below B w x) (n : Nat) : Below B w (x.drewN n) := ⟨h.os, h.tape, h.output, h.size, h.block⟩
end Go.Proofs.Ytjfjekncmejfpaa
namespace Go.Proofs.Ytjfjekncmejfpaa
open Go.RowKit
set_option maxRecDepth 20000
set_option linter.unusedVariables false
set_option linter.unusedSimpArgs false

def sameN (L P L' P' : List Int) : Bool := decide (L = L') && decide (P = P')
theorem getD_ext {l m : List Int} (h : l.length = m.length) (hp : ∀ j, j < l.length → l.getD j 0 = m.getD j 0) : l = m := List.ext_getElem? fun j => by
  rcases Nat.lt_or_ge j l.length with h1 | h1
  · have := hp j h1
    have h' : j < m.length := by omega
    simpa [h1, h'] using this
  · rw [List.getElem?_eq_none h1, List.getElem?_eq_none (by omega)]
theorem getD_snoc {l m : List Int} {k : Nat} (hp : ∀ j, j < k → l.getD j 0 = m.getD j 0) (h : l.getD k 0 = m.getD k 0) : ∀ j, j < k + 1 → l.getD j 0 = m.getD j 0 := fun j hj => by
  rcases Nat.lt_or_ge j k with h1 | h1
  · exact hp j h1
  · obtain rfl : j = k := by omega
    exact h
theorem same_not {L P L' P' : List Int} (h : ¬ L = L' ∨ ¬ P = P') : sameN L P L' P' = false := by
  unfold sameN
  rcases h with h | h <;> simp [h]
set_option maxHeartbeats 1000000 in
theorem rnsame_any (la : Option Addr) (lc : Nat) (L : List Int) (pa : Option Addr) (pc : Nat) (P : List Int) (la' : Option Addr) (lc' : Nat) (L' : List Int) (pa' : Option Addr) (pc' : Nat) (P' : List Int) (w : World)
    (hl : L.length ≤ 1000000) (hp : P.length ≤ 1000000) (hl' : L'.length ≤ 1000000) (hp' : P'.length ≤ 1000000) (hL : IRow w.heap.size w la L) (hP : IRow w.heap.size w pa P) (hL' : IRow w.heap.size w la' L') (hP' : IRow w.heap.size w pa' P') :
    Calls Try.prog 48 #[nte la L.length lc pa P.length pc, nte la' L'.length lc' pa' P'.length pc'] w fun e w' => e = .returned (.bool (sameN L P L' P')) ∧ Below w.heap.size w w' := by
  unfold nte
  rcases Nat.decEq L.length L'.length with hne | heq
  · rw [same_not (.inl (fun h => hne (by rw [h])))]
    clear hL hP hL' hP'
    go_enter Try.func48, Try.ntmps48
    go_wp2_with fail
    go_ret
    exact ⟨rfl, tbel2 w _ _⟩
  rw [← heq]
  have HQ := Lib.hid heq
  clear heq
  rcases Nat.decEq P.length P'.length with hne | hpq
  · rw [same_not (.inr (fun h => hne (by rw [h])))]
    clear hL hP hL' hP'
    go_enter Try.func48, Try.ntmps48
    go_wp2_with fail
    go_ret
    exact ⟨rfl, tbel2 w _ _⟩
  rw [← hpq]
  have HPQ := Lib.hid hpq
  clear hpq
  have b0 := tbel2 w (.cells #[.slice la L.length lc, .slice pa P.length pc] 76) (.cells #[.slice la' L.length lc', .slice pa' P.length pc'] 76)
  have HL := Lib.hid hL
  have HP := Lib.hid hP
  have HL' := Lib.hid hL'
  have HP' := Lib.hid hP'
  have B0 := (blk_new w #[.slice la L.length lc, .slice pa P.length pc] 76).alloc (.cells #[.slice la' L.length lc', .slice pa' P.length pc'] 76)
  have B1 := blk_two w (.cells #[.slice la L.length lc, .slice pa P.length pc] 76) #[.slice la' L.length lc', .slice pa' P.length pc'] 76
  clear hL hP hL' hP'
  go_enter Try.func48, Try.ntmps48
  go_wp2_with fail
  generalize (w.alloc _).alloc _ = U at *
  go_loopw [5] (fun i wr => ∃ k : Nat, k ≤ L.length ∧ i = .int .i64 k ∧ Below U.heap.size U wr ∧ Hid (∀ j, j < k → L.getD j 0 = L'.getD j 0)) (fun i _ => L.length - (intOf i).toNat)
  case atStart => exact ⟨0, Nat.zero_le _, rfl, Below.refl _ _, Lib.hid fun j hj => by omega⟩
  case round =>
    obtain ⟨k, hk, rfl, hbl, HK⟩ := hrel
    have bw := tstep b0 hbl b0.size
    obtain ⟨q0, q1⟩ := (B0.old hbl).two
    obtain ⟨q2, q3⟩ := (B1.old hbl).two
    by_cases hlt : k < L.length
    · obtain ⟨_, b1, o1, rfl, hB1, hc1⟩ := (HL.out.carry bw (Nat.le_refl _)) k hlt
      obtain ⟨_, b2, o2, rfl, hB2, hc2⟩ := (HL'.out.carry bw (Nat.le_refl _)) k (by rw [← HQ.out]; exact hlt)
      have HS := Lib.hid (getD_snoc HK.out)
      by_cases hxy : L.getD k 0 = L'.getD k 0
      · replace HS := Lib.hid (HS.out hxy)
        rw [← hxy] at hc2
        clear hxy
        generalize L.getD k 0 = x at hc1 hc2
        go_wp2_with fail
        go_quiet (fail)
        go_wp2
        go_roundw
        case rel => exact ⟨k + 1, by omega, by go_num, ndrewN hbl _, HS⟩
        case measure => simp [intOf]; omega
      · have HN := Lib.hid (same_not (L := L) (P := P) (L' := L') (P' := P') (.inl fun h => hxy (by rw [h])))
        generalize L.getD k 0 = x at hc1 hxy
        generalize L'.getD k 0 = y at hc2 hxy
        clear HS
        go_wp2_with fail
        go_quiet (fail)
        go_wp2
        go_ret
        exact ⟨by rw [HN.out]; rfl, ndrewN bw _⟩
    · have HLL := Lib.hid (getD_ext HQ.out (by obtain rfl : k = L.length := (by omega); exact HK.out))
      clear HK HL HL'
      go_wp2_with fail
      go_loopw [6] (fun i wx => ∃ k : Nat, k ≤ P.length ∧ i = .int .i64 k ∧ Below U.heap.size U wx ∧ Hid (∀ j, j < k → P.getD j 0 = P'.getD j 0)) (fun i _ => P.length - (intOf i).toNat)
      case atStart => exact ⟨0, Nat.zero_le _, rfl, hbl, Lib.hid fun j hj => by omega⟩
      case round =>
        clear q0 q1 q2 q3 bw hbl
        obtain ⟨k, hk, rfl, hbl, HK⟩ := hrel
        have bw := tstep b0 hbl b0.size
        obtain ⟨q0, q1⟩ := (B0.old hbl).two
        obtain ⟨q2, q3⟩ := (B1.old hbl).two
        by_cases hlt : k < P.length
        · obtain ⟨_, b1, o1, rfl, hB1, hc1⟩ := (HP.out.carry bw (Nat.le_refl _)) k hlt
          obtain ⟨_, b2, o2, rfl, hB2, hc2⟩ := (HP'.out.carry bw (Nat.le_refl _)) k (by rw [← HPQ.out]; exact hlt)
          have HS := Lib.hid (getD_snoc HK.out)
          by_cases hxy : P.getD k 0 = P'.getD k 0
          · replace HS := Lib.hid (HS.out hxy)
            rw [← hxy] at hc2
            clear hxy
            generalize P.getD k 0 = x at hc1 hc2
            go_wp2_with fail
            go_quiet (fail)
            go_wp2
            go_roundw
            case rel => exact ⟨k + 1, by omega, by go_num, ndrewN hbl _, HS⟩
            case measure => simp [intOf]; omega
          · have HN := Lib.hid (same_not (L := L) (P := P) (L' := L') (P' := P') (.inr fun h => hxy (by rw [h])))
            generalize P.getD k 0 = x at hc1 hxy
            generalize P'.getD k 0 = y at hc2 hxy
            clear HS
            go_wp2_with fail
            go_quiet (fail)
            go_wp2
            go_ret
            exact ⟨by rw [HN.out]; rfl, ndrewN bw _⟩
        · have HPP := Lib.hid (getD_ext HPQ.out (by obtain rfl : k = P.length := (by omega); exact HK.out))
          have HN : Hid (sameN L P L' P' = true) := Lib.hid (by unfold sameN; rw [HLL.out, HPP.out]; simp)
          clear HK HP HP' HLL HPP
          go_wp2
          go_ret
          exact ⟨by rw [HN.out]; rfl, bw⟩
end Go.Proofs.Ytjfjekncmejfpaa
