/- The document's All of layer 8. -/
import Derived.Test.YtojphpncidjdiaaSRup
import Derived.OwnWalk
namespace Go.Proofs.Ytojphpncidjdiaa
open Go.RowKit
set_option maxRecDepth 20000
set_option linter.unusedVariables false
set_option linter.unusedSimpArgs false

theorem upS_at {whole : Int} {l : List Int} (h : rightS whole l = true) (k : Nat) (hk : k ≤ l.length) : upS whole l (k : Int) = (cumS whole l k, true) := by
  unfold upS clampN
  rw [if_pos h, if_neg (by omega), if_neg (by omega)]
  rfl
theorem own_carry {w w' : World} {B base : Nat} {v : Value} {k : Nat} {xs : List Value} (h : w.ownsRow base 22 1 v k xs) (hb : Below w.heap.size w w') : w'.ownsRow base 22 1 v k xs :=
  h.kept (row := none) (grown_of hb) (by
    rcases h.2 with ⟨rfl, _⟩ | ⟨g, cap, cur, rfl, _⟩
    · exact .inl rfl
    · exact .inr (by simp [Value.ownBlock]))

theorem grow_below {B : Nat} {w w3 w4 : World} {v : Value} {k : Nat} {xs : List Value} {o : Obj} (hbl : Below B w w3) (hz : B ≤ w3.heap.size) (hown : w3.ownsRow B 22 1 v k xs)
    (hgrow : (w3.alloc o).grownBy w4 v.ownBlock) : Below B w w4 := by
  refine (hbl.alloc hz o).grown hgrow (by simp; omega) fun j ej => ?_
  rcases hown.2 with ⟨rfl, _⟩ | ⟨g, cap, cur, rfl, hb, _, _⟩
  · simp [Value.ownBlock] at ej
  · obtain rfl : g = j := by simpa [Value.ownBlock] using ej
    exact hb
theorem rall_no (whole : Int) (a : Option Addr) (cap len : Nat) (w : World)
    (cR : Calls Try.prog 45 #[.int .i64 whole, .slice a len cap] w fun e w2 => e = .returned (.bool false) ∧ Below w.heap.size w w2) :
    Calls Try.prog 33 #[.int .i64 whole, .slice a len cap] w fun e w' => e = .returned (.slice none 0 0) ∧ Below w.heap.size w w' := by
  go_enter Try.func33, Try.ntmps33
  go_wp2_with (refine cR.mono ?_; rintro e w1 ⟨rfl, b1⟩)
  go_ret
  exact ⟨rfl, b1⟩

set_option maxHeartbeats 1000000 in
theorem rall_yes (whole : Int) (a : Option Addr) (cap : Nat) (l : List Int) (w : World) (hn : l.length ≤ 1000000) (hw : inR whole) (hcap : l.length ≤ cap) (hmax : cap ≤ maxLen)
    (h : rightS whole l = true) (hr : IRow w.heap.size w a l) :
    Calls Try.prog 33 #[.int .i64 whole, .slice a l.length cap] w fun e w' => ∃ v, e = .returned v ∧ w'.ownsRow w.heap.size 22 1 v l.length ((uptoS (shareK whole l) l.length).map (Value.int .i64)) ∧ Below w.heap.size w w' := by
  have hmx : 1000000 ≤ maxLen := by decide
  have f36 := fld36
  obtain ⟨i0, hi, hz0, hz1, hz2⟩ := info_parts infoSp
  have cR := sright_any whole a cap l w hn hr
  rw [h] at cR
  have HH := Lib.hid h
  clear h
  go_enter Try.func33, Try.ntmps33
  go_wp2_with (refine cR.mono ?_; rintro e w1 ⟨rfl, b1⟩; clear cR)
  go_loopw [5, 6] (fun v i wr => ∃ k : Nat, k ≤ l.length ∧ i = .int .i64 k ∧ Below w.heap.size w wr ∧ wr.ownsRow w.heap.size 22 1 v k ((uptoS (shareK whole l) k).map (Value.int .i64))) (fun _ i _ => l.length - (intOf i).toNat)
  case atStart => exact ⟨0, Nat.zero_le _, rfl, b1, World.ownsRow_nil _ _ _ _⟩
  case round =>
    obtain ⟨k, hk, rfl, hbl, hown⟩ := hrel
    by_cases hlt : k < l.length
    · have c1 := fun w' (hb : Below w.heap.size w w') => rup8_any whole ((k + 1 : Nat) : Int) a cap l w' hn hw (by unfold inR; omega) hcap hmax ((hr.carry hb (Nat.le_refl _)).mono hb.size)
      have c0 := fun w' (hb : Below w.heap.size w w') => rup8_any whole (k : Int) a cap l w' hn hw (by unfold inR; omega) hcap hmax ((hr.carry hb (Nat.le_refl _)).mono hb.size)
      rw [upS_at HH.out _ (by omega)] at c1 c0
      have hcb := share_bd HH.out k
      have hww := hw
      unfold inR at hww
      have hw2 : wrap64 (cumS whole l (k + 1) - cumS whole l k) = shareK whole l k := by
        unfold shareK at *; unfold wrap64; omega
      obtain ⟨d1, hd1⟩ : ∃ x, x = cumS whole l (k + 1) := ⟨_, rfl⟩
      obtain ⟨d0, hd0⟩ : ∃ x, x = cumS whole l k := ⟨_, rfl⟩
      obtain ⟨z, hz⟩ : ∃ x, x = shareK whole l k := ⟨_, rfl⟩
      rw [← hd1] at c1 hw2
      rw [← hd0] at c0 hw2
      rw [← hz] at hw2
      have HZ := Lib.hid hz
      unfold pair at c1 c0
      clear hd1 hd0 hz hcb hww
      simp only [Int.natCast_add, Int.cast_ofNat_Int] at c1
      go_wp2_with fail
      refine (c1 _ hbl).mono ?_
      rintro e w2 ⟨rfl, b2⟩
      have hbl2 := hbl.trans (b2.mono hbl.size)
      go_wp2_with fail
      refine (c0 _ hbl2).mono ?_
      rintro e w3 ⟨rfl, b3⟩
      have hbl3 := hbl2.trans (b3.mono hbl2.size)
      have hown3 := own_carry (B := 0) (own_carry (B := 0) hown b2) b3
      have hz3 := hbl3.size
      clear c0 c1 hown b2 b3 hbl hbl2
      go_wp2_with (at_builtin; refine wpList_append_own _ rfl _ _ 36 rfl w.heap.size 22 i0 (.int .i64 0) 1 8 Try.underlying36 hi hz0 hz1 hz2 rfl (by decide) _ _ _ rfl (hown3.alloc _) ⟨w3.heap.size, 0, none⟩ 1 1 [.int .i64 z] rfl rfl (cell_one_new _ _ _) (by simp [Value.oneCell']) (by omega) (by omega) (by simp; omega) ?_; intro v' w4 hown' hgrow _)
      have hb4 : Below w.heap.size w w4 := grow_below hbl3 hz3 hown3 hgrow
      go_roundw
      case rel => exact ⟨k + 1, by omega, by go_num, hb4, by rw [uptoS_succ, ← HZ.out]; simpa using hown'⟩
      case measure => simp [intOf]; omega
    · obtain rfl : k = l.length := by omega
      go_wp2
      go_ret
      exact ⟨_, rfl, hown, hbl⟩
theorem rall_any (whole : Int) (a : Option Addr) (cap : Nat) (l : List Int) (w : World) (hn : l.length ≤ 1000000) (hw : inR whole) (hcap : l.length ≤ cap) (hmax : cap ≤ maxLen)
    (hr : IRow w.heap.size w a l) :
    Calls Try.prog 33 #[.int .i64 whole, .slice a l.length cap] w fun e w' => ∃ v, e = .returned v ∧ OwnI w' w.heap.size v (shareL whole l) ∧ Below w.heap.size w w' := by
  by_cases h : rightS whole l = true
  · refine (rall_yes whole a cap l w hn hw hcap hmax h hr).mono ?_
    rintro e w' ⟨v, rfl, ho, hb⟩
    refine ⟨v, rfl, ⟨?_, shareL_in whole l hw⟩, hb⟩
    rw [shareL_len h]
    unfold shareL
    rw [if_pos h]
    exact ho
  · have h' : rightS whole l = false := by simpa using h
    have cR := sright_any whole a cap l w hn hr
    rw [h'] at cR
    refine (rall_no whole a cap l.length w cR).mono ?_
    rintro e w' ⟨rfl, hb⟩
    refine ⟨_, rfl, ⟨?_, shareL_in whole l hw⟩, hb⟩
    unfold shareL
    rw [h']
    exact World.ownsRow_nil _ _ _ _
end Go.Proofs.Ytojphpncidjdiaa
