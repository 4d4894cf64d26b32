/- Fair of the document, and Large of the law. -/
import Derived.Test.YtllpimhjpfkgpaaJSm
namespace Go.Proofs.Ytllpimhjpfkgpaa
open Go.RowKit
set_option maxRecDepth 20000
set_option linter.unusedVariables false
set_option linter.unusedSimpArgs false

theorem all_no {α : Type} {p : α → Bool} {l : List α} {d : α} {k : Nat} (hk : k < l.length) (h : p (l.getD k d) = false) : l.all p = false := by
  rw [List.all_eq_false]
  exact ⟨_, mem_getD hk, by rw [h]; simp⟩
theorem all_yes {α : Type} {p : α → Bool} {l : List α} {d : α} (h : ∀ k, k < l.length → p (l.getD k d) = true) : l.all p = true := by
  rw [List.all_eq_true]
  intro x hx
  obtain ⟨k, hk, rfl⟩ := List.getElem_of_mem hx
  have := h k hk
  rwa [List.getD_eq_getElem?_getD, List.getElem?_eq_getElem hk] at this
theorem fair_any (a : Option Addr) (cap : Nat) (l : List Int) (w : World) (hn : l.length ≤ 1000000) (hr : Els 1 encZ w a l.length fun k => l.getD k 0) :
    Calls Try.prog 38 #[.slice a l.length cap] w fun e w' => e = .returned (.bool (l.all fairZ)) ∧ Below w.heap.size w w' := by
  have HR := Lib.hid hr
  clear hr
  go_enter Try.func38, Try.ntmps38
  go_wp2_with fail
  go_loopw [3] (fun i wr => ∃ k : Nat, k ≤ l.length ∧ i = .int .i64 k ∧ Below w.heap.size w wr ∧ Hid (∀ j, j < k → fairZ (l.getD j 0) = true)) (fun i _ => l.length - (intOf i).toNat)
  case atStart => exact ⟨0, Nat.zero_le _, rfl, Below.refl _ _, Lib.hid fun j hj => by omega⟩
  case round =>
    obtain ⟨k, hk, rfl, hbl, HP⟩ := hrel
    by_cases hlt : k < l.length
    · obtain ⟨b, off, ha, hB, hc⟩ : ∃ b off, a = some ⟨b, off, none⟩ ∧ b < wr.heap.size ∧ wr.cell? ⟨b, off + k, none⟩ = some (.int .i64 (l.getD k 0)) := by
        obtain ⟨b, off, e, hb, h0⟩ := (HR.out.carry hbl) k 0 hlt (by omega)
        rw [Nat.mul_one, Nat.add_zero] at h0
        exact ⟨b, off, e, hb, h0⟩
      subst ha
      have HN : Hid (fairZ (l.getD k 0) = false → l.all fairZ = false) := Lib.hid (all_no hlt)
      have HS : Hid (fairZ (l.getD k 0) = true → ∀ j, j < k + 1 → fairZ (l.getD j 0) = true) := Lib.hid fun h j hj => by
        rcases Nat.lt_or_ge j k with h1 | h1
        · exact HP.out j h1
        · obtain rfl : j = k := by omega
          exact h
      clear HP HR
      generalize l.getD k 0 = x at *
      by_cases g1 : x < 0
      · replace HN := Lib.hid (HN.out (by unfold fairZ; simp; omega))
        clear HS
        go_wp2
        go_ret
        exact ⟨by rw [HN.out]; rfl, hbl⟩
      by_cases g2 : 1073741823 < x
      · replace HN := Lib.hid (HN.out (by unfold fairZ; simp; omega))
        clear HS
        go_wp2
        go_ret
        exact ⟨by rw [HN.out]; rfl, hbl⟩
      · replace HS := Lib.hid (HS.out (by unfold fairZ; simp; omega))
        clear HN
        go_wp2
        go_roundw
        case rel => exact ⟨k + 1, by omega, by go_num, hbl, HS⟩
        case measure => simp [intOf]; omega
    · have HE : Hid (l.all fairZ = true) := Lib.hid (all_yes (d := 0) fun j hj => HP.out j (by omega))
      clear HP
      go_wp2
      go_ret
      exact ⟨by rw [HE.out]; rfl, hbl⟩
/-- What Large tells. -/
def LargeOut (j : J4) (e : Ending) : Prop := (e = .returned (.bool true) ∧ ¬ Few j) ∨ (e = .returned (.bool false) ∧ Few j)
set_option maxHeartbeats 4000000 in
theorem large_any (j : J4) (s : S3) (w : World) (hL : Lists w j s) :
    Calls Try.prog 5 #[.agg (jobC j s)] w fun e w' => LargeOut j e ∧ Below w.heap.size w w' := by
  have D := job_new w j s
  have b0 := tbel1 w (.cells (jobC j s) 29)
  obtain ⟨hs, hH, hN⟩ := hL.notes
  have HH := Lib.hid hH
  have HN := Lib.hid hN
  have m1 := Nat.le_trans hL.ic.1 hL.ic.2
  have m2 := Nat.le_trans hL.nc.1 hL.nc.2
  have m3 := Nat.le_trans hL.fc.1 hL.fc.2
  simp only [maxLen] at m1 m2 m3
  obtain ⟨t19, t20, t21⟩ := D.three
  clear hL hH hN
  go_enter Try.func5, Try.ntmps5
  go_upto_region 1 with (fail)
  generalize w.alloc _ = U at *
  go_wp2_with fail
  go_loopw [3] (fun i wr => ∃ k : Nat, k ≤ j.notes.length ∧ k ≤ 100 ∧ i = .int .i64 k ∧ Below U.heap.size U wr ∧ Hid (∀ m, m < k → (j.notes.getD m zeroN).l.length ≤ 100 ∧ (j.notes.getD m zeroN).p.length ≤ 100)) (fun i _ => j.notes.length - (intOf i).toNat)
  case atStart => exact ⟨0, Nat.zero_le _, Nat.zero_le _, rfl, Below.refl _ _, Lib.hid fun m hm => by omega⟩
  case round =>
    obtain ⟨k, hk, hk2, rfl, hbl, HP⟩ := hrel
    have bw := tstep b0 hbl b0.size
    have D' := D.old hbl
    clear t19 t20 t21
    obtain ⟨t19, t20, t21⟩ := D'.three
    by_cases hlt : k < j.notes.length
    · by_cases hlt2 : k < 100
      · obtain ⟨b, off, hna, hB, p0, p1⟩ := els2 (HH.out.carry bw) hlt
        obtain ⟨n1, n2, n3, n4, _, _⟩ := HN.out k hlt
        rw [hna] at t20
        have HS : Hid ((j.notes.getD k zeroN).l.length ≤ 100 → (j.notes.getD k zeroN).p.length ≤ 100 → ∀ m, m < k + 1 → (j.notes.getD m zeroN).l.length ≤ 100 ∧ (j.notes.getD m zeroN).p.length ≤ 100) := Lib.hid fun h h' m hm => by
          rcases Nat.lt_or_ge m k with h1 | h1
          · exact HP.out m h1
          · obtain rfl : m = k := by omega
            exact ⟨h, h'⟩
        have HF1 : Hid (100 < (j.notes.getD k zeroN).l.length → ¬ Few j) := Lib.hid fun h hf => by have := (hf.2.2.2 k).1; omega
        have HF2 : Hid (100 < (j.notes.getD k zeroN).p.length → ¬ Few j) := Lib.hid fun h hf => by have := (hf.2.2.2 k).2; omega
        rw [n1] at p0 n3
        rw [n2] at p1 n4
        clear HP hna D' n1 n2
        generalize (j.notes.getD k zeroN).l.length = x at *
        generalize (j.notes.getD k zeroN).p.length = y at *
        have n3' := Nat.le_trans n3.1 n3.2
        have n4' := Nat.le_trans n4.1 n4.2
        simp only [maxLen] at n3' n4'
        clear n3 n4
        by_cases g1 : 100 < x
        · clear HS
          go_wp2
          go_ret
          exact ⟨.inl ⟨rfl, HF1.out g1⟩, bw⟩
        by_cases g2 : 100 < y
        · clear HS
          go_wp2
          go_ret
          exact ⟨.inl ⟨rfl, HF2.out g2⟩, bw⟩
        · replace HS := Lib.hid (HS.out (by omega) (by omega))
          go_wp2
          go_roundw
          case rel => exact ⟨k + 1, by omega, by omega, by go_num, hbl, HS⟩
          case measure => simp [intOf]; omega
      · have hn : 100 ≤ j.notes.length := by omega
        obtain rfl : k = 100 := by omega
        clear D'
        by_cases g1 : 100 < j.items.length
        · go_wp2
          go_ret
          exact ⟨.inl ⟨rfl, fun hf => by have := hf.1; omega⟩, bw⟩
        · go_wp2
          go_ret
          exact ⟨.inl ⟨rfl, fun hf => by have := hf.2.1; omega⟩, bw⟩
    · obtain rfl : k = j.notes.length := by omega
      clear D'
      by_cases g1 : 100 < j.items.length
      · go_wp2
        go_ret
        exact ⟨.inl ⟨rfl, fun hf => by have := hf.1; omega⟩, bw⟩
      by_cases g3 : 100 < j.floats.length
      · go_wp2
        go_ret
        exact ⟨.inl ⟨(congrArg (fun b => Ending.returned (Value.bool b)) (show (decide (100 < (j.items.length : Int)) || decide (100 < (j.notes.length : Int)) || decide (100 < (j.floats.length : Int))) = true from by simp; omega)), fun hf => by have := hf.2.2.1; omega⟩, bw⟩
      · have HF : Hid (Few j) := Lib.hid ⟨by omega, by omega, by omega, fun m => by
          rcases Nat.lt_or_ge m j.notes.length with h | h
          · exact HP.out m h
          · rw [getD_none h]; simp [zeroN]⟩
        clear HP
        go_wp2
        go_ret
        exact ⟨.inr ⟨(congrArg (fun b => Ending.returned (Value.bool b)) (show (decide (100 < (j.items.length : Int)) || decide (100 < (j.notes.length : Int)) || decide (100 < (j.floats.length : Int))) = false from by simp; omega)), HF.out⟩, bw⟩
theorem large_is (j : J4) (s : S3) (w : World) (hL : Lists w j s) :
    Calls Try.prog 5 #[.agg (jobC j s)] w fun e w' => e = .returned (.bool (isB (¬ Few j))) ∧ Below w.heap.size w w' := (large_any j s w hL).mono fun e w' h => by
  obtain ⟨h1, h2⟩ := h
  rcases h1 with ⟨h1, h3⟩ | ⟨h1, h3⟩
  · rw [isB_yes h3]; exact ⟨h1, h2⟩
  · rw [isB_no (fun h => h h3)]; exact ⟨h1, h2⟩
end Go.Proofs.Ytllpimhjpfkgpaa
