/- Where a note may be split and end: package note, and the document's. First of package note. Stops of package note. The same numbers, the same notes: package slices, package note, and the document's. Same of package note, and the document's; Lines. The document's Check of layer 11. -/
import Derived.Test.YthcgncgnbjhniaaGreatNCk
import Derived.OwnWalk
import Derived.Maps.AppendAt
import Derived.BigQuiet
namespace Go.Proofs.YthcgncgnbjhniaaGreat
open Go.RowKit
set_option maxRecDepth 20000
set_option linter.unusedVariables false
set_option linter.unusedSimpArgs false

theorem split_no {L P : List Int} {a : Int} (h : ¬ 1 ≤ a ∨ ¬ a < L.length ∨ ¬ a ≤ P.length) : splitN L P a = false := by
  unfold splitN
  rcases h with h | h | h <;> simp [h]
theorem split_at {L P : List Int} {m : Nat} (h1 : m + 1 < L.length) (h2 : m < P.length) : splitN L P ((m : Int) + 1) = decide (P.getD m 0 < 10000) := by
  unfold splitN
  have e1 : decide (1 ≤ (m : Int) + 1) = true := by simp; omega
  have e2 : decide ((m : Int) + 1 < L.length) = true := by simp; omega
  have e3 : decide ((m : Int) + 1 ≤ P.length) = true := by simp; omega
  have e4 : ((m : Int) + 1 - 1).toNat = m := by omega
  rw [e1, e2, e3, e4]
  rfl
theorem may_len {L P : List Int} {a : Int} (h : a = L.length) : mayN L P a = true := by unfold mayN; simp [h]
theorem may_not {L P : List Int} {a : Int} (h : ¬ a = L.length) : mayN L P a = splitN L P a := by unfold mayN; simp [h]
theorem split_yes {L P : List Int} {a : Int} (h : splitN L P a = true) : ∃ m : Nat, a = (m : Int) + 1 ∧ m + 1 < L.length ∧ m < P.length := by
  unfold splitN at h
  simp at h
  exact ⟨(a - 1).toNat, by omega, by omega, by omega⟩
end Go.Proofs.YthcgncgnbjhniaaGreat
namespace Go.Proofs.YthcgncgnbjhniaaGreat
open Go.RowKit
set_option maxRecDepth 20000
set_option linter.unusedVariables false
set_option linter.unusedSimpArgs false

end Go.Proofs.YthcgncgnbjhniaaGreat
namespace Go.Proofs.YthcgncgnbjhniaaGreat
open Go.RowKit
set_option maxRecDepth 20000
set_option linter.unusedVariables false
set_option linter.unusedSimpArgs false

/-- The numbers l lie where the slice v says, in a block of the call's own, at base and above. -/
structure OwnN (w : World) (base : Nat) (v : Value) (l : List Int) : Prop where
  own : w.ownsRow base 3 1 v l.length (l.map (Value.int .i64))
  ins : ∀ k, inR (l.getD k 0)
theorem OwnN.row {w : World} {base : Nat} {v : Value} {l : List Int} (h : OwnN w base v l) : ∃ a cap, v = .slice a l.length cap ∧ l.length ≤ cap ∧ cap ≤ maxLen ∧ IRow w.heap.size w a l := by
  rcases h.own.2 with ⟨rfl, h0⟩ | ⟨g, cap, cur, rfl, hb, hg, h1, h2, h3, h4⟩
  · exact ⟨none, 0, by rw [h0], by omega, by decide, fun k hk => by omega⟩
  · refine ⟨some ⟨g, 0, none⟩, cap, rfl, h1, h2, fun k hk => ⟨h.ins k, g, 0, rfl, (Array.getElem?_eq_some_iff.1 hg).1, ?_⟩⟩
    rw [World.ownsRow.cellAt h.own (0 + k) (by omega)]
    rw [List.getElem?_map, List.getD_eq_getElem?_getD, Nat.zero_add, List.getElem?_eq_getElem hk]
    simp
theorem ngrown_of {A B : World} (h : Below A.heap.size A B) : A.grownBy B none := ⟨h.os, h.tape, h.output, h.size, fun k hk _ => h.block k hk⟩
theorem OwnN.carry {w w' : World} {base : Nat} {v : Value} {l : List Int} (h : OwnN w base v l) (hb : Below w.heap.size w w') : OwnN w' base v l :=
  ⟨h.own.kept (row := none) (ngrown_of hb) (by
    rcases h.own.2 with ⟨rfl, _⟩ | ⟨g, cap, cur, rfl, _⟩
    · exact .inl rfl
    · exact .inr (by simp [Value.ownBlock])), h.ins⟩
theorem OwnN.mono {w : World} {base base' : Nat} {v : Value} {l : List Int} (h : OwnN w base v l) (hb : base' ≤ base) : OwnN w base' v l := by
  refine ⟨⟨h.own.1, ?_⟩, h.ins⟩
  rcases h.own.2 with h | ⟨g, cap, cur, h1, h2, h3⟩
  · exact .inl h
  · exact .inr ⟨g, cap, cur, h1, by omega, h3⟩
theorem OwnN.grow {B : Nat} {w w3 w4 : World} {v : Value} {l : List Int} {o : Obj} (hown : OwnN w3 B v l) (hbl : Below B w w3) (hz : B ≤ w3.heap.size) (hgrow : (w3.alloc o).grownBy w4 v.ownBlock) : Below B w w4 := by
  refine (hbl.alloc hz o).grown hgrow (by simp; omega) fun j ej => ?_
  rcases hown.own.2 with ⟨rfl, _⟩ | ⟨g, cap, cur, rfl, hb, _, _⟩
  · simp [Value.ownBlock] at ej
  · obtain rfl : g = j := by simpa [Value.ownBlock] using ej
    exact hb
theorem ownN_nil (w : World) (base : Nat) : OwnN w base (.slice none 0 0) [] := ⟨World.ownsRow_nil _ _ _ _, fun k => by simp [inR]⟩
theorem infoInt : (Tryz.prog.info? 3).map (fun i => (i.zero, i.size, i.bytes)) = some (some (.int .i64 0), 1, 8) := by kernel_rfl

/-- What is left to come. -/
def stM (n : Nat) (z : Int) : Nat := if z < 0 then 0 else n + 1 - z.toNat
theorem stM_end {n k : Nat} (h : k ≤ n) : stM n (-1) < stM n k := by
  unfold stM
  rw [if_pos (by omega), if_neg (by omega)]
  omega
theorem stM_up {n k k2 : Nat} (h : k < k2) (h2 : k2 ≤ n) : stM n k2 < stM n k := by
  unfold stM
  rw [if_neg (by omega), if_neg (by omega)]
  omega
end Go.Proofs.YthcgncgnbjhniaaGreat
namespace Go.Proofs.YthcgncgnbjhniaaGreat
open Go.RowKit
set_option maxRecDepth 20000
set_option linter.unusedVariables false
set_option linter.unusedSimpArgs false

theorem ndrewN {B : Nat} {w x : World} (h : Below B w x) (n : Nat) : Below B w (x.drewN n) := ⟨h.os, h.tape, h.output, h.size, h.block⟩
end Go.Proofs.YthcgncgnbjhniaaGreat
namespace Go.Proofs.YthcgncgnbjhniaaGreat
open Go.RowKit
set_option maxRecDepth 20000
set_option linter.unusedVariables false
set_option linter.unusedSimpArgs false

def sameN (L P L' P' : List Int) : Bool := decide (L = L') && decide (P = P')
theorem getD_ext {l m : List Int} (h : l.length = m.length) (hp : ∀ j, j < l.length → l.getD j 0 = m.getD j 0) : l = m := List.ext_getElem? fun j => by
  rcases Nat.lt_or_ge j l.length with h1 | h1
  · have := hp j h1
    have h' : j < m.length := by omega
    simpa [h1, h'] using this
  · rw [List.getElem?_eq_none h1, List.getElem?_eq_none (by omega)]
theorem getD_snoc {l m : List Int} {k : Nat} (hp : ∀ j, j < k → l.getD j 0 = m.getD j 0) (h : l.getD k 0 = m.getD k 0) : ∀ j, j < k + 1 → l.getD j 0 = m.getD j 0 := fun j hj => by
  rcases Nat.lt_or_ge j k with h1 | h1
  · exact hp j h1
  · obtain rfl : j = k := by omega
    exact h
theorem same_not {L P L' P' : List Int} (h : ¬ L = L' ∨ ¬ P = P') : sameN L P L' P' = false := by
  unfold sameN
  rcases h with h | h <;> simp [h]
end Go.Proofs.YthcgncgnbjhniaaGreat
namespace Go.Proofs.YthcgncgnbjhniaaGreat
open Go.RowKit
set_option maxRecDepth 20000
set_option linter.unusedVariables false
set_option linter.unusedSimpArgs false

theorem badH_no {y : Int} (h1 : ¬ y < 1) (h2 : ¬ 1073741823 < y) : badH y = false := by unfold badH; simp [h1, h2]
theorem badP_no {y : Int} (h1 : ¬ y < 0) (h2 : ¬ 10000 < y) : badP y = false := by unfold badP; simp [h1, h2]
theorem badH_yes {y : Int} (h : y < 1 ∨ 1073741823 < y) : badH y = true := by unfold badH; rcases h with h | h <;> simp [h]
theorem badP_yes {y : Int} (h : y < 0 ∨ 10000 < y) : badP y = true := by unfold badP; rcases h with h | h <;> simp [h]
set_option maxHeartbeats 1000000 in
theorem rcheck_fit (la : Option Addr) (lc : Nat) (L : List Int) (pa : Option Addr) (pc : Nat) (P : List Int) (w : World) (h1 : 1 ≤ L.length) (h2 : L.length ≤ 64) (h3 : P.length + 1 = L.length) (hL : IRow w.heap.size w la L) (hP : IRow w.heap.size w pa P) :
    Calls Tryz.prog 13 #[nte la L.length lc pa P.length pc] w fun e w' => e = .returned (.bool (checkN L P)) ∧ Below w.heap.size w w' := by
  rw [check_fit L P h1 h2 h3]
  have h4 : ((P.length : Int) != (L.length : Int) - 1) = false := by rw [bne_eq_false_iff_eq]; omega
  have HL := Lib.hid (hL.carry (tbel1 w (.cells #[.slice la L.length lc, .slice pa P.length pc] 44)) (Nat.le_refl _))
  have HP := Lib.hid (hP.carry (tbel1 w (.cells #[.slice la L.length lc, .slice pa P.length pc] 44)) (Nat.le_refl _))
  have b0 := tbel1 w (.cells #[.slice la L.length lc, .slice pa P.length pc] 44)
  have B0 := blk_new w #[.slice la L.length lc, .slice pa P.length pc] 44
  clear hL hP
  unfold nte
  go_enter Tryz.func13, Tryz.ntmps13
  go_wp2_with fail
  generalize w.alloc _ = U at *
  obtain ⟨q0, q1⟩ := B0.two
  clear B0
  go_loopw [3] (fun i wr => ∃ k : Nat, k ≤ L.length ∧ i = .int .i64 k ∧ wr = U ∧ Hid ((L.take k).any badH = false)) (fun i _ => L.length - (intOf i).toNat)
  case atStart => exact ⟨0, Nat.zero_le _, rfl, rfl, Lib.hid (by simp)⟩
  case round =>
    obtain ⟨k, hk, rfl, rfl, HN⟩ := hrel
    by_cases hlt : k < L.length
    · obtain ⟨hyin, b, off, rfl, hB, hck⟩ := HL.out k hlt
      obtain ⟨y, hy⟩ : ∃ y, y = L.getD k 0 := ⟨_, rfl⟩
      rw [← hy] at hck hyin
      have HY := Lib.hid hy
      clear hy
      by_cases g1 : y < 1
      · go_wp2
        go_ret
        exact ⟨by rw [any_at hlt (by rw [← HY.out]; exact badH_yes (.inl g1))]; rfl, b0⟩
      · by_cases g2 : 1073741823 < y
        · go_wp2
          go_ret
          exact ⟨by rw [any_at hlt (by rw [← HY.out]; exact badH_yes (.inr g2))]; rfl, b0⟩
        · go_wp2
          go_roundw
          case rel => exact ⟨k + 1, by omega, by go_num, trivial, Lib.hid (any_snoc hlt HN.out (by rw [← HY.out]; exact badH_no g1 g2))⟩
          case measure => simp [intOf]; omega
    · have hh : L.any badH = false := by have := HN.out; rwa [List.take_of_length_le (by omega)] at this
      have HH := Lib.hid hh
      clear hh HN HL
      go_wp2_with fail
      go_loopw [4] (fun i wx => ∃ k : Nat, k ≤ P.length ∧ i = .int .i64 k ∧ wx = wr ∧ Hid ((P.take k).any badP = false)) (fun i _ => P.length - (intOf i).toNat)
      case atStart => exact ⟨0, Nat.zero_le _, rfl, rfl, Lib.hid (by simp)⟩
      case round =>
        obtain ⟨k, hk, rfl, rfl, HN⟩ := hrel
        by_cases hlt : k < P.length
        · obtain ⟨hyin, b, off, rfl, hB, hck⟩ := HP.out k hlt
          obtain ⟨y, hy⟩ : ∃ y, y = P.getD k 0 := ⟨_, rfl⟩
          rw [← hy] at hck hyin
          have HY := Lib.hid hy
          clear hy
          by_cases g1 : y < 0
          · go_wp2
            go_ret
            exact ⟨by rw [HH.out, any_at hlt (by rw [← HY.out]; exact badP_yes (.inl g1))]; rfl, b0⟩
          · by_cases g2 : 10000 < y
            · go_wp2
              go_ret
              exact ⟨by rw [HH.out, any_at hlt (by rw [← HY.out]; exact badP_yes (.inr g2))]; rfl, b0⟩
            · go_wp2
              go_roundw
              case rel => exact ⟨k + 1, by omega, by go_num, trivial, Lib.hid (any_snoc hlt HN.out (by rw [← HY.out]; exact badP_no g1 g2))⟩
              case measure => simp [intOf]; omega
        · have hh : P.any badP = false := by have := HN.out; rwa [List.take_of_length_le (by omega)] at this
          go_wp2
          go_ret
          exact ⟨by rw [HH.out, hh]; rfl, b0⟩
theorem rncheck_any (la : Option Addr) (lc : Nat) (L : List Int) (pa : Option Addr) (pc : Nat) (P : List Int) (w : World) (hl : L.length ≤ 9223372036854775807) (hp : P.length ≤ 9223372036854775807) (hL : IRow w.heap.size w la L) (hP : IRow w.heap.size w pa P) :
    Calls Tryz.prog 13 #[nte la L.length lc pa P.length pc] w fun e w' => e = .returned (.bool (checkN L P)) ∧ Below w.heap.size w w' := by
  by_cases h1 : 1 ≤ L.length
  · by_cases h2 : L.length ≤ 64
    · by_cases h3 : P.length + 1 = L.length
      · exact rcheck_fit la lc L pa pc P w h1 h2 h3 hL hP
      · rw [check_few L P (.inr (.inr h3))]
        have h4 : ((P.length : Int) != (L.length : Int) - 1) = true := by rw [bne_iff_ne]; omega
        unfold nte
        go_enter Tryz.func13, Tryz.ntmps13
        go_wp2
        go_ret
        exact ⟨rfl, tbel1 w _⟩
    · rw [check_few L P (.inr (.inl h2))]
      unfold nte
      go_enter Tryz.func13, Tryz.ntmps13
      go_wp2
      go_ret
      exact ⟨rfl, tbel1 w _⟩
  · rw [check_few L P (.inl h1)]
    unfold nte
    go_enter Tryz.func13, Tryz.ntmps13
    go_wp2
    go_ret
    exact ⟨rfl, tbel1 w _⟩
end Go.Proofs.YthcgncgnbjhniaaGreat
