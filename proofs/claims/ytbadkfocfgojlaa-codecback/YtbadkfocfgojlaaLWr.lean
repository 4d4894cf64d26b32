/- The law's large and write. -/
import Derived.Test.YtbadkfocfgojlaaYWr
import Derived.Test.YtbadkfocfgojlaaFOps
namespace Go.Proofs.Ytbadkfocfgojlaa
open Go.RowKit
set_option linter.unusedVariables false
set_option linter.unusedSimpArgs false

theorem large_any (a : Option Addr) (cap : Nat) (l : List OpD) (hwf : ∀ o ∈ l, o.wf) (hl : l.length ≤ 9223372036854775807) (w : World) (ho : Ops w a cap l) :
    Calls Try.prog 7 #[.slice a l.length cap] w fun e w' => ∃ z : Bool, e = .returned (.bool z) ∧ (z = false → l.length ≤ 60 ∧ ∀ o ∈ l, o.ok) ∧ w = w' := by
  go_enter Try.func7, Try.ntmps7
  go_wp2_with fail
  go_loopw [3] (fun i wr => ∃ k : Nat, k ≤ l.length ∧ k ≤ 60 ∧ i = .int .i64 k ∧ w = wr ∧ ∀ j o, j < k → l[j]? = some o → o.s.size ≤ 100 ∧ o.l.length ≤ 100) (fun i _ => 60 - (intOf i).toNat)
  case atStart => exact ⟨0, Nat.zero_le _, Nat.zero_le _, rfl, rfl, fun j o hj => by omega⟩
  case round =>
    obtain ⟨k, hk, hk60, rfl, rfl, hp⟩ := hrel
    have HP := Lib.hid hp
    clear hp
    by_cases hlt : k < l.length
    · by_cases h60 : k < 60
      · obtain ⟨b, off, o, rfl, hB, hoj, h0, h1, h2, h3, al, cl, h4, h5⟩ := ho.2 k hlt
        have hmem : o ∈ l := List.mem_of_getElem? hoj
        have hw := hwf o hmem
        obtain ⟨w1, w2, w3, w4, w5⟩ := hw
        have HO := Lib.hid hoj
        by_cases hs : 100 < o.s.size
        · have d1 : decide ((100 : Int) < (o.s.size : Int)) = true := by simp; omega
          clear h0 h2 h3 h5 hoj hmem hwf ho
          go_wp2_with fail
          go_ret
          exact ⟨true, rfl, fun h => (by cases h), rfl⟩
        · have d1 : decide ((100 : Int) < (o.s.size : Int)) = false := by simp; omega
          by_cases hll : 100 < o.l.length
          · have d2 : decide ((100 : Int) < (o.l.length : Int)) = true := by simp; omega
            clear h0 h2 h3 h5 hoj hmem hwf ho
            go_wp2_with fail
            go_ret
            exact ⟨true, rfl, fun h => (by cases h), rfl⟩
          · have d2 : decide ((100 : Int) < (o.l.length : Int)) = false := by simp; omega
            clear h0 h2 h3 h5 hoj hmem
            go_wp2_with fail
            go_roundw
            case rel =>
              refine ⟨k + 1, by omega, by omega, by go_num, (by first | trivial | rfl), fun j o' hj hjo => ?_⟩
              rcases Nat.lt_or_ge j k with h | h
              · exact HP.out j o' h hjo
              · obtain rfl : j = k := by omega
                rw [HO.out] at hjo
                injection hjo with hjo
                subst hjo
                omega
            case measure => simp [intOf]; omega
      · have d3 : decide ((60 : Int) < (l.length : Int)) = true := by simp; omega
        go_wp2_with fail
        go_ret
        exact ⟨true, rfl, fun h => (by cases h), rfl⟩
    · have hle : l.length ≤ 60 := by omega
      have d3 : decide ((60 : Int) < (l.length : Int)) = false := by simp; omega
      have HA := Lib.hid (show ∀ o ∈ l, o.ok from fun o hm => by
        obtain ⟨j, hj⟩ := List.getElem?_of_mem hm
        have hjl : j < l.length := (List.getElem?_eq_some_iff.1 hj).1
        have h1 := HP.out j o (by omega) hj
        obtain ⟨w1, w2, w3, w4, w5⟩ := hwf o hm
        exact ⟨w1, w2, w3, h1.1, h1.2⟩)
      go_wp2_with fail
      go_ret
      exact ⟨false, rfl, fun _ => ⟨hle, HA.out⟩, rfl⟩

theorem OwnK.low {k : IntKind} {e : TypeId} {w : World} {B B' : Nat} {v : Value} {l : List Int} (h : OwnK k e w B v l) (hB : B' ≤ B) : OwnK k e w B' v l := by
  refine ⟨h.1, ?_⟩
  rcases h.2 with h | ⟨g', cap, cur, h1, h2, h3⟩
  · exact .inl h
  · exact .inr ⟨g', cap, cur, h1, Nat.le_trans hB h2, h3⟩
theorem flat_len (l : List OpD) (h : ∀ o ∈ l, o.ok) : (l.flatMap writeD).length ≤ 1010 * l.length := by
  induction l with
  | nil => simp
  | cons x l ih =>
    have := write_len x (h x (by simp))
    have := ih fun y hy => h y (by simp [hy])
    simp only [List.flatMap_cons, List.length_append, List.length_cons]
    omega
theorem flat_byt (l : List OpD) (h : ∀ o ∈ l, o.ok) : Byt (l.flatMap writeD) := fun y hy => by
  obtain ⟨x, hx, hy⟩ := List.mem_flatMap.1 hy
  exact write_byt x (h x hx) y hy
theorem write_any (a : Option Addr) (cap : Nat) (l : List OpD) (hok : ∀ o ∈ l, o.ok) (hl : l.length ≤ 100) (w : World) (ho : Ops w a cap l) :
    Calls Try.prog 10 #[.slice a l.length cap] w fun e w' => ∃ v, e = .returned v ∧ Own w' w.heap.size v (l.flatMap writeD) ∧ Below w.heap.size w w' := by
  have W0 := wr_new w
  have b0 := bel1 w (.cells #[.slice none 0 0] 53)
  have hfull := flat_len l hok
  go_enter Try.func10, Try.ntmps10
  go_wp2_with fail
  go_loopw [4] (fun i wr => ∃ k : Nat, k ≤ l.length ∧ i = .int .i64 k ∧ Wr wr w.heap.size w.heap.size ((l.take k).flatMap writeD) ∧ Below w.heap.size w wr) (fun i _ => l.length - (intOf i).toNat)
  case atStart => exact ⟨0, Nat.zero_le _, rfl, by simpa using W0, b0⟩
  case round =>
    clear W0 b0
    obtain ⟨k, hk, rfl, W2, b2⟩ := hrel
    by_cases hlt : k < l.length
    · obtain ⟨b, off, o, rfl, hB, hoj, h0, h1, h2, h3, al, cl, h4, h5⟩ := (ho.carry b2).2 k hlt
      have hmem : o ∈ l := List.mem_of_getElem? hoj
      have hk1 := hok o hmem
      have hrowL : ∀ x, Below w.heap.size wr x → RowK .i64 x al cl o.l := by
        obtain ⟨b', off', o2, e2, hB2, ho2, g0, g1, g2, g3, al2, cl2, g4, g5⟩ := ho.2 k hlt
        obtain ⟨rfl, rfl⟩ : b = b' ∧ off = off' := by simpa using e2
        obtain rfl : o = o2 := by rw [hoj] at ho2; injection ho2
        have := (b2.cell (p := ⟨b, off + k * 5 + 4, none⟩) hB2).trans g4
        rw [h4] at this
        obtain ⟨rfl, rfl⟩ : al = al2 ∧ cl = cl2 := by simpa using this
        exact fun x hx => g5.carry (b2.trans hx)
      have hnext : (l.take (k + 1)).flatMap writeD = (l.take k).flatMap writeD ++ writeD o := by
        rw [List.take_succ_eq_append_getElem hlt, List.flatMap_append]
        have : l[k] = o := by rw [List.getElem?_eq_getElem hlt] at hoj; injection hoj
        simp [this]
      have hfl : ((l.take k).flatMap writeD).length ≤ 1010 * (l.take k).length := flat_len _ fun x hx => hok x (List.mem_of_mem_take hx)
      have htk : (l.take k).length ≤ 100 := by simp; omega
      have hD : ((l.take k).flatMap writeD).length ≤ 101000 := by omega
      clear hfl htk hoj hmem h5 hfull
      generalize ((l.take k).flatMap writeD) = D at *
      obtain ⟨ok, os, on, ob, ol⟩ := o
      obtain ⟨i1, i2, i3, i4, i5⟩ := hk1
      simp only at h0 h1 h2 h3 h4 hrowL i1 i2 i3 i4 i5
      by_cases e0 : ok = 0
      · subst e0
        have hw : writeD ⟨0, os, on, ob, ol⟩ = bytesOf os := rfl
        rw [hw] at hnext
        have HN := Lib.hid hnext
        have cm := wmark_any _ _ D os (by omega) wr W2
        clear hnext hw h2 h3 h4 hrowL
        go_wp2_with (go_at_call 19; refine cm.mono ?_; rintro e w3 ⟨rfl, W3, b3⟩)
        go_roundw
        case rel => exact ⟨k + 1, by omega, by go_num, by rw [HN.out]; exact W3, b2.trans b3⟩
        case measure => simp [intOf]; omega
      · by_cases e1 : ok = 1
        · subst e1
          have hw : writeD ⟨1, os, on, ob, ol⟩ = chainL (foldZ on) := rfl
          rw [hw] at hnext
          have HN := Lib.hid hnext
          have cm := wint_any _ _ D on i2.1 i2.2 (by omega) wr W2
          clear hnext hw h1 h3 h4 hrowL
          go_wp2_with (go_at_call 20; refine cm.mono ?_; rintro e w3 ⟨rfl, W3, b3⟩)
          go_roundw
          case rel => exact ⟨k + 1, by omega, by go_num, by rw [HN.out]; exact W3, b2.trans b3⟩
          case measure => simp [intOf]; omega
        · by_cases e2 : ok = 2
          · subst e2
            have hw : writeD ⟨2, os, on, ob, ol⟩ = [if ob then 1 else 0] := rfl
            rw [hw] at hnext
            have HN := Lib.hid hnext
            have cm := wbool_any _ _ D ob (by omega) wr W2
            generalize (if ob = true then (1 : Int) else 0) = Z at *
            clear hnext hw h1 h2 h4 hrowL
            go_wp2_with (go_at_call 21; refine cm.mono ?_; rintro e w3 ⟨rfl, W3, b3⟩)
            go_roundw
            case rel => exact ⟨k + 1, by omega, by go_num, by rw [HN.out]; exact W3, b2.trans b3⟩
            case measure => simp [intOf]; omega
          · by_cases e3 : ok = 3
            · subst e3
              have hw : writeD ⟨3, os, on, ob, ol⟩ = intsL ol := rfl
              rw [hw] at hnext
              have HN := Lib.hid hnext
              have cm := wints_any _ _ D al cl ol i3 (by omega) (by omega) wr W2 hrowL
              clear hnext hw h1 h2 h3 hrowL
              go_wp2_with (go_at_call 22; refine cm.mono ?_; rintro e w3 ⟨rfl, W3, b3⟩)
              go_roundw
              case rel => exact ⟨k + 1, by omega, by go_num, by rw [HN.out]; exact W3, b2.trans b3⟩
              case measure => simp [intOf]; omega
            · have hw : writeD ⟨ok, os, on, ob, ol⟩ = [] := by unfold writeD; simp only [if_neg e0, if_neg e1, if_neg e2, if_neg e3]
              rw [hw, List.append_nil] at hnext
              have HN := Lib.hid hnext
              have t0 : (ok == 0) = false := by simpa using e0
              have t1 : (ok == 1) = false := by simpa using e1
              have t2 : (ok == 2) = false := by simpa using e2
              have t3 : (ok == 3) = false := by simpa using e3
              clear hnext hw h1 h2 h3 h4 hrowL e0 e1 e2 e3
              go_wp2_with fail
              go_roundw
              case rel => exact ⟨k + 1, by omega, by go_num, by rw [HN.out]; exact W2, b2⟩
              case measure => simp [intOf]; omega
    · rw [List.take_of_length_le (by omega)] at W2
      have cb := bytes_any _ _ (l.flatMap writeD) (by omega) wr W2
      have hsz := b2.size
      go_wp2_with (go_at_call 25; refine cb.mono ?_; rintro e w3 ⟨v, rfl, o3, b3⟩)
      go_ret
      exact ⟨_, rfl, OwnK.low o3 hsz, bstep b2 b3 hsz⟩
end Go.Proofs.Ytbadkfocfgojlaa
