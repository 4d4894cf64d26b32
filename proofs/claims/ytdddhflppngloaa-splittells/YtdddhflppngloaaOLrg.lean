/- What the laws of layer 22 go through: large. -/
import Derived.Test.YtdddhflppngloaaORf2
namespace Go.Proofs.Ytdddhflppngloaa
open Go.RowKit
set_option maxRecDepth 20000
set_option linter.unusedVariables false
set_option linter.unusedSimpArgs false

/-- What the laws go through. -/
structure TameO (l : List N2) (p : List PcO) : Prop where
  nl : l.length ≤ 50
  np : p.length ≤ 50
  lines : ∀ k, k < l.length → (l.getD k zeroN).l.length ≤ 50
  fair : ∀ k, k < p.length → fairP (p.getD k zPc)
/-- How large ends. -/
def LargeE (l : List N2) (p : List PcO) (w : World) (e : Ending) (w' : World) : Prop := ∃ r : Bool, e = .returned (.bool r) ∧ (r = false → TameO l p) ∧ w' = w
set_option maxHeartbeats 2000000 in
theorem olarge_any (a : Option Addr) (cap : Nat) (l : List N2) (pa : Option Addr) (pc : Nat) (p : List PcO) (w : World) (hl : l.length ≤ 9223372036854775807) (hp : p.length ≤ 9223372036854775807) (hN : NotesAt w a l) (hP : Els 3 encP w pa p.length fun k => p.getD k zPc) :
    Calls Try.prog 4 #[.slice a l.length cap, .slice pa p.length pc] w (LargeE l p w) := by
  have HN := Lib.hid hN
  have HP := Lib.hid hP
  clear hN hP
  go_enter Try.func4, Try.ntmps4
  go_wp2_with fail
  go_loopw [5] (fun i wr => ∃ j : Nat, j ≤ 50 ∧ j ≤ l.length ∧ i = .int .i64 j ∧ wr = w ∧ Hid (∀ k, k < j → (l.getD k zeroN).l.length ≤ 50)) (fun i _ => 50 - (intOf i).toNat)
  case atStart => exact ⟨0, by omega, by omega, rfl, rfl, Lib.hid fun k hk => by omega⟩
  case round =>
    obtain ⟨j, hj, hjl, rfl, hwr, HA⟩ := hrel
    have hwr' := hwr.symm
    clear hwr
    subst hwr'
    by_cases hlt : j < l.length
    · by_cases h5 : j < 50
      · obtain ⟨nb, noff, la, lc, qa, qc, ha, hnb, c0, c1, _, _, hlc, _⟩ := HN.out.get hlt
        subst ha
        by_cases hz : 50 < (l.getD j zeroN).l.length
        · generalize (l.getD j zeroN).l.length = z at *
          go_wp2
          go_ret
          exact ⟨true, rfl, (fun h => by cases h), rfl⟩
        · have HB : Hid (∀ k, k < j + 1 → (l.getD k zeroN).l.length ≤ 50) := Lib.hid fun k hk => by
            rcases Nat.lt_or_ge k j with h | h
            · exact HA.out k h
            · obtain rfl : k = j := by omega
              omega
          generalize (l.getD j zeroN).l.length = z at *
          go_wp2
          go_roundw
          case rel => exact ⟨j + 1, by omega, by omega, by go_num, trivial, HB⟩
          case measure => simp [intOf]; omega
      · have hA : Hid (50 < l.length ∨ ∀ k, k < l.length → (l.getD k zeroN).l.length ≤ 50) := Lib.hid (by
          rcases Nat.lt_or_ge 50 l.length with h | h
          · exact .inl h
          · exact .inr fun k hk => HA.out k (by omega))
        clear HA
        go_wp2_with fail
        go_loopw [6] (fun i wr => ∃ m : Nat, m ≤ 50 ∧ m ≤ p.length ∧ i = .int .i64 m ∧ wr = w ∧ Hid (∀ k, k < m → fairP (p.getD k zPc))) (fun i _ => 50 - (intOf i).toNat)
        case atStart => exact ⟨0, by omega, by omega, rfl, rfl, Lib.hid fun k hk => by omega⟩
        case round =>
          obtain ⟨m, hm, hmp, rfl, hwr, HB⟩ := hrel
          have hwr' := hwr.symm
          clear hwr
          subst hwr'
          by_cases hlt2 : m < p.length
          · by_cases h52 : m < 50
            · obtain ⟨b, off, hpa, hB, q0, q1, q2⟩ := elsP HP.out hlt2
              subst hpa
              have HC : Hid (fairP (p.getD m zPc) → ∀ k, k < m + 1 → fairP (p.getD k zPc)) := Lib.hid fun hf k hk => by
                rcases Nat.lt_or_ge k m with h | h
                · exact HB.out k h
                · obtain rfl : k = m := by omega
                  exact hf
              unfold fairP at HC
              generalize p.getD m zPc = y at *
              obtain ⟨y0, y1, y2⟩ := y
              dsimp only at *
              by_cases g1 : y1 < -1073741824
              · go_wp2
                go_ret
                exact ⟨true, rfl, (fun h => by cases h), rfl⟩
              · by_cases g2 : 1073741824 < y2
                · go_wp2
                  go_ret
                  exact ⟨true, rfl, (fun h => by cases h), rfl⟩
                · by_cases g3 : 1073741824 < y1
                  · go_wp2
                    go_ret
                    exact ⟨true, rfl, (fun h => by cases h), rfl⟩
                  · by_cases g4 : y2 < -1073741824
                    · go_wp2
                      go_ret
                      exact ⟨true, rfl, (fun h => by cases h), rfl⟩
                    · have HD := Lib.hid (HC.out ⟨⟨by omega, by omega⟩, by omega, by omega⟩)
                      clear HC
                      go_wp2
                      go_roundw
                      case rel => exact ⟨m + 1, by omega, by omega, by go_num, trivial, Lib.hid HD.out⟩
                      case measure => simp [intOf]; omega
            · have hB : Hid (p.length ≤ 50 → ∀ k, k < p.length → fairP (p.getD k zPc)) := Lib.hid fun h k hk => HB.out k (by omega)
              clear HB
              go_wp2
              all_goals
                go_ret
                refine ⟨_, rfl, fun h => ?_, rfl⟩
                first
                  | (exfalso; simp at h; done)
                  | (have h1 : ¬ 50 < l.length ∧ ¬ 50 < p.length := by constructor <;> (intro hc; simp at h; omega)
                     exact ⟨by omega, by omega, hA.out.resolve_left h1.1, hB.out (by omega)⟩)
          · have hB : Hid (p.length ≤ 50 → ∀ k, k < p.length → fairP (p.getD k zPc)) := Lib.hid fun h k hk => HB.out k (by omega)
            clear HB
            go_wp2
            all_goals
              go_ret
              refine ⟨_, rfl, fun h => ?_, rfl⟩
              first
                | (exfalso; simp at h; done)
                | (have h1 : ¬ 50 < l.length ∧ ¬ 50 < p.length := by constructor <;> (intro hc; simp at h; omega)
                   exact ⟨by omega, by omega, hA.out.resolve_left h1.1, hB.out (by omega)⟩)
    · have hA : Hid (50 < l.length ∨ ∀ k, k < l.length → (l.getD k zeroN).l.length ≤ 50) := Lib.hid (.inr fun k hk => HA.out k (by omega))
      clear HA
      go_wp2_with fail
      go_loopw [6] (fun i wr => ∃ m : Nat, m ≤ 50 ∧ m ≤ p.length ∧ i = .int .i64 m ∧ wr = w ∧ Hid (∀ k, k < m → fairP (p.getD k zPc))) (fun i _ => 50 - (intOf i).toNat)
      case atStart => exact ⟨0, by omega, by omega, rfl, rfl, Lib.hid fun k hk => by omega⟩
      case round =>
        obtain ⟨m, hm, hmp, rfl, hwr, HB⟩ := hrel
        have hwr' := hwr.symm
        clear hwr
        subst hwr'
        by_cases hlt2 : m < p.length
        · by_cases h52 : m < 50
          · obtain ⟨b, off, hpa, hB, q0, q1, q2⟩ := elsP HP.out hlt2
            subst hpa
            have HC : Hid (fairP (p.getD m zPc) → ∀ k, k < m + 1 → fairP (p.getD k zPc)) := Lib.hid fun hf k hk => by
              rcases Nat.lt_or_ge k m with h | h
              · exact HB.out k h
              · obtain rfl : k = m := by omega
                exact hf
            unfold fairP at HC
            generalize p.getD m zPc = y at *
            obtain ⟨y0, y1, y2⟩ := y
            dsimp only at *
            by_cases g1 : y1 < -1073741824
            · go_wp2
              go_ret
              exact ⟨true, rfl, (fun h => by cases h), rfl⟩
            · by_cases g2 : 1073741824 < y2
              · go_wp2
                go_ret
                exact ⟨true, rfl, (fun h => by cases h), rfl⟩
              · by_cases g3 : 1073741824 < y1
                · go_wp2
                  go_ret
                  exact ⟨true, rfl, (fun h => by cases h), rfl⟩
                · by_cases g4 : y2 < -1073741824
                  · go_wp2
                    go_ret
                    exact ⟨true, rfl, (fun h => by cases h), rfl⟩
                  · have HD := Lib.hid (HC.out ⟨⟨by omega, by omega⟩, by omega, by omega⟩)
                    clear HC
                    go_wp2
                    go_roundw
                    case rel => exact ⟨m + 1, by omega, by omega, by go_num, trivial, Lib.hid HD.out⟩
                    case measure => simp [intOf]; omega
          · have hB : Hid (p.length ≤ 50 → ∀ k, k < p.length → fairP (p.getD k zPc)) := Lib.hid fun h k hk => HB.out k (by omega)
            clear HB
            go_wp2
            all_goals
              go_ret
              refine ⟨_, rfl, fun h => ?_, rfl⟩
              first
                | (exfalso; simp at h; done)
                | (have h1 : ¬ 50 < l.length ∧ ¬ 50 < p.length := by constructor <;> (intro hc; simp at h; omega)
                   exact ⟨by omega, by omega, hA.out.resolve_left h1.1, hB.out (by omega)⟩)
        · have hB : Hid (p.length ≤ 50 → ∀ k, k < p.length → fairP (p.getD k zPc)) := Lib.hid fun h k hk => HB.out k (by omega)
          clear HB
          go_wp2
          all_goals
            go_ret
            refine ⟨_, rfl, fun h => ?_, rfl⟩
            first
              | (exfalso; simp at h; done)
              | (have h1 : ¬ 50 < l.length ∧ ¬ 50 < p.length := by constructor <;> (intro hc; simp at h; omega)
                 exact ⟨by omega, by omega, hA.out.resolve_left h1.1, hB.out (by omega)⟩)
end Go.Proofs.Ytdddhflppngloaa
