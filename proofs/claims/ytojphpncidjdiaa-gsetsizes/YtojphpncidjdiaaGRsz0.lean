/- The document's Sizes of layer 9, a way of it. The document's Sizes of layer 9, a way of it. -/
import Derived.Test.YtojphpncidjdiaaGRsz
import Derived.Test.YtojphpncidjdiaaGSzA
import Derived.Test.YtojphpncidjdiaaSRall
import Derived.Test.YtojphpncidjdiaaDetU
namespace Go.Proofs.Ytojphpncidjdiaa
open Go.RowKit
set_option maxRecDepth 20000
set_option linter.unusedVariables false
set_option linter.unusedSimpArgs false

set_option maxHeartbeats 4000000 in
theorem rsizes_0 (s : S5) (a : Option Addr) (cap : Nat) (l : List T6) (w : World) (hn : l.length ≤ 1000000) (hr : GRow w.heap.size w a l) (hb : fitB s.bye = true) (hh : s.how = 0)  :
    Calls Try.prog 16 #[stg s, .slice a l.length cap] w fun e w' => (l.all soundT = false ∧ e = .returned (.slice none 0 0) ∨ l.all soundT = true ∧ ∃ v, e = .returned v ∧ w'.ownsRow w.heap.size 22 1 v l.length ((uptoS (sizeK s l) l.length).map (Value.int .i64))) ∧ Below w.heap.size w w' := by
  have hbb := fitB_true hb
  have g0 : 0 ≤ s.bye := hbb.1
  have g1 : s.bye ≤ 1125899906842624 := hbb.2
  have hbi : inR s.bye := by unfold inR; omega
  have hmx : 1000000 ≤ maxLen := by decide
  have HR := Lib.hid hr
  have HF := Lib.hid hb
  obtain ⟨i0, hi, hz0, hz1, hz2⟩ := info_parts infoSp
  have B0 := blk_new w #[.int .i64 s.how, .int .i64 s.ord, .int .i64 s.bye, .int .i64 s.off, .int .i64 s.left] 28
  have b0 := tbel1 w (.cells #[.int .i64 s.how, .int .i64 s.ord, .int .i64 s.bye, .int .i64 s.off, .int .i64 s.left] 28)
  have hz : (w.alloc (.cells #[.int .i64 s.how, .int .i64 s.ord, .int .i64 s.bye, .int .i64 s.off, .int .i64 s.left] 28)).heap.size = w.heap.size + 1 := by simp
  unfold stg
  rw [hh] at B0 b0 hz ⊢
  clear hr hb hbb
  go_enter Try.func16, Try.ntmps16
  go_wp2_with fail
  generalize w.alloc _ = U at *
  go_loopw [5, 7] (fun v i wr => ∃ (u : Value) (k : Nat), u = v ∧ k ≤ l.length ∧ i = .int .i64 k ∧ Below U.heap.size U wr ∧ (∀ j, j < k → soundT (l.getD j zeroT) = true) ∧ wr.ownsRow (w.heap.size + 1) 22 1 u ([] : List Int).length (([] : List Int).map (Value.int .i64))) (fun _ i _ => l.length - (intOf i).toNat)
  case atStart => exact ⟨_, 0, rfl, Nat.zero_le _, rfl, Below.refl _ _, fun j hj => absurd hj (Nat.not_lt_zero j), by simpa [uptoS] using World.ownsRow_nil U (w.heap.size + 1) 22 1⟩
  case round =>
    obtain ⟨u, k, rfl, hk, rfl, hbl, H, hown⟩ := hrel
    have HH := Lib.hid H
    clear H
    have B1 := B0.old hbl
    have bw := b0.trans (hbl.mono (by omega))
    have hzl := hbl.size
    by_cases hlt : k < l.length
    · obtain ⟨hiy, b, off, rfl, hB, h0, h1, h2, h3, h4, h5⟩ := HR.out.carry bw (Nat.le_refl _) k hlt
      have HS := Lib.hid (all_stop k hlt)
      obtain ⟨y, hy⟩ : ∃ y, y = l.getD k zeroT := ⟨_, rfl⟩
      rw [← hy] at HS h0 h1 h2 h3 h4 h5
      have HY := Lib.hid hy
      clear hy hiy
      have c := field_any y
      unfold tot at c
      go_wp2_with fail
      refine (c _).mono ?_
      rintro e w1 ⟨rfl, b1⟩
      have hbl1 := hbl.trans (b1.mono hbl.size)
      have hown1 := own_carry (B := 0) hown b1
      have f1 := (B1.old b1).five
      have hz1' := hbl1.size
      have h0' := (b1.cell (p := ⟨b, off + k * 6, none⟩) (by simp; omega)).trans h0
      have h1' := (b1.cell (p := ⟨b, off + k * 6 + 1, none⟩) (by simp; omega)).trans h1
      have h2' := (b1.cell (p := ⟨b, off + k * 6 + 2, none⟩) (by simp; omega)).trans h2
      have h3' := (b1.cell (p := ⟨b, off + k * 6 + 3, none⟩) (by simp; omega)).trans h3
      have h4' := (b1.cell (p := ⟨b, off + k * 6 + 4, none⟩) (by simp; omega)).trans h4
      have h5' := (b1.cell (p := ⟨b, off + k * 6 + 5, none⟩) (by simp; omega)).trans h5
      clear c b1 hbl h0 h1 h2 h3 h4 h5 hown B1 bw
      cases hs : soundT y
      · go_wp2
        go_ret
        exact ⟨.inl ⟨HS.out hs, rfl⟩, b0.trans (hbl1.mono (by omega))⟩
      · go_wp2
        go_roundw
        case rel => exact ⟨_, k + 1, rfl, by omega, by go_num, hbl1, sound_snoc HH.out (by rw [← HY.out]; exact hs), hown1⟩
        case measure => simp [intOf]; omega
    · obtain rfl : k = l.length := by omega
      have hOI : OwnI wr (w.heap.size + 1) _ ([] : List Int) := OwnI.mk hown (fun j => by simp [inR])
      obtain ⟨P, hP⟩ : ∃ P, P = ([] : List Int) := ⟨_, rfl⟩
      rw [← hP] at hOI
      obtain ⟨pa, pc, rfl, hpc, hpm, hpr⟩ := hOI.row
      have hPn : P.length ≤ 1000000 := by rw [hP]; simp [uptoS]; try omega
      have hall := all_go HH.out
      have HALL := Lib.hid hall
      clear hall
      have hPl : P.length = l.length ∨ P.length = 0 := by rw [hP]; simp [uptoS]
      have HP := Lib.hid hP
      clear hP hOI hown HH
      have f1 := B1.five
      go_wp2_with fail
      clear f1
      refine (rall_any s.bye pa pc P _ hPn hbi hpc hpm hpr).mono ?_
      rintro e w5 ⟨lv, rfl, ho, b5⟩
      obtain ⟨la, lc, rfl, hlc, hlm, hlr⟩ := ho.row
      have B5 := B1.old b5
      have bw5 := bw.trans (b5.mono bw.size)
      have hz5 := bw5.size
      have HL2 := Lib.hid (share_at s.bye P 0)
      clear ho b5 hpr hpc hpm B1 bw hbl hzl b0 B0
      obtain ⟨SL, hSL⟩ : ∃ SL, SL = shareL s.bye P := ⟨_, rfl⟩
      rw [← hSL] at hlr HL2 hlc ⊢
      have HSL := Lib.hid hSL
      clear hSL
      have hU1 : w.heap.size + 1 ≤ w5.heap.size := Nat.succ_le_of_lt (Nat.lt_of_lt_of_le (by omega) B5.lt)
      go_wp2_with fail
      go_loopw [6, 9] (fun v i wr => ∃ k : Nat, k ≤ l.length ∧ i = .int .i64 k ∧ Below w5.heap.size w5 wr ∧ wr.ownsRow w5.heap.size 22 1 v k ((uptoS (sizeK s l) k).map (Value.int .i64))) (fun _ i _ => l.length - (intOf i).toNat)
      case atStart => exact ⟨0, Nat.zero_le _, rfl, Below.refl _ _, by simpa [uptoS] using World.ownsRow_nil w5 w5.heap.size 22 1⟩
      case round =>
        obtain ⟨k, hk, rfl, hbl, hown⟩ := hrel
        have bw := bw5.trans (hbl.mono hz5)
        have hzl := hbl.size
        by_cases hlt : k < l.length
        · obtain ⟨hiy, b, off, rfl, hB, h0, h1, h2, h3, h4, h5⟩ := HR.out.carry bw (Nat.le_refl _) k hlt
          have f1 := (B5.old hbl).five
          have hqb := sizeK_in s l HF.out HALL.out k hlt
          obtain ⟨y, hy⟩ : ∃ y, y = l.getD k zeroT := ⟨_, rfl⟩
          obtain ⟨q, hq⟩ : ∃ q, q = sizeK s l k := ⟨_, rfl⟩
          have hqv := hq
          unfold sizeK at hqv
          rw [← hy] at h0 h1 h2 h3 h4 h5
          rw [← hq] at hqb
          rw [← hy, if_neg (by omega), if_neg (by omega), if_neg (by omega)] at hqv
          have HY := Lib.hid (And.intro hy hq)
          clear hy hiy hq
          subst hqv
          go_wp2_with (at_builtin; refine wpList_append_own _ rfl _ _ 36 rfl w5.heap.size 22 i0 (.int .i64 0) 1 8 Try.underlying36 hi hz0 hz1 hz2 rfl (by decide) _ _ _ rfl (hown.alloc _) ⟨wr.heap.size, 0, none⟩ 1 1 [.int .i64 y.n] rfl rfl (cell_one_new _ _ _) (by simp [Value.oneCell']) (by omega) (by omega) (by simp; omega) ?_; intro v' w6 hown' hgrow _)
          have hb6 : Below w5.heap.size w5 w6 := grow_below hbl hzl hown hgrow
          go_roundw
          case rel => exact ⟨k + 1, by omega, by go_num, hb6, by rw [uptoS_succ, ← HY.out.2]; simpa using hown'⟩
          case measure => simp [intOf]; omega
        · obtain rfl : k = l.length := by omega
          go_wp2
          go_ret
          exact ⟨.inr ⟨HALL.out, _, rfl, own_mono hown (by omega)⟩, bw⟩
set_option maxHeartbeats 4000000 in
theorem rsizes_3 (s : S5) (a : Option Addr) (cap : Nat) (l : List T6) (w : World) (hn : l.length ≤ 1000000) (hr : GRow w.heap.size w a l) (hb : fitB s.bye = true) (hh : s.how = 3)  :
    Calls Try.prog 16 #[stg s, .slice a l.length cap] w fun e w' => (l.all soundT = false ∧ e = .returned (.slice none 0 0) ∨ l.all soundT = true ∧ ∃ v, e = .returned v ∧ w'.ownsRow w.heap.size 22 1 v l.length ((uptoS (sizeK s l) l.length).map (Value.int .i64))) ∧ Below w.heap.size w w' := by
  have hbb := fitB_true hb
  have g0 : 0 ≤ s.bye := hbb.1
  have g1 : s.bye ≤ 1125899906842624 := hbb.2
  have hbi : inR s.bye := by unfold inR; omega
  have hmx : 1000000 ≤ maxLen := by decide
  have HR := Lib.hid hr
  have HF := Lib.hid hb
  obtain ⟨i0, hi, hz0, hz1, hz2⟩ := info_parts infoSp
  have B0 := blk_new w #[.int .i64 s.how, .int .i64 s.ord, .int .i64 s.bye, .int .i64 s.off, .int .i64 s.left] 28
  have b0 := tbel1 w (.cells #[.int .i64 s.how, .int .i64 s.ord, .int .i64 s.bye, .int .i64 s.off, .int .i64 s.left] 28)
  have hz : (w.alloc (.cells #[.int .i64 s.how, .int .i64 s.ord, .int .i64 s.bye, .int .i64 s.off, .int .i64 s.left] 28)).heap.size = w.heap.size + 1 := by simp
  unfold stg
  rw [hh] at B0 b0 hz ⊢
  clear hr hb hbb
  go_enter Try.func16, Try.ntmps16
  go_wp2_with fail
  generalize w.alloc _ = U at *
  go_loopw [5, 7] (fun v i wr => ∃ (u : Value) (k : Nat), u = v ∧ k ≤ l.length ∧ i = .int .i64 k ∧ Below U.heap.size U wr ∧ (∀ j, j < k → soundT (l.getD j zeroT) = true) ∧ wr.ownsRow (w.heap.size + 1) 22 1 u ([] : List Int).length (([] : List Int).map (Value.int .i64))) (fun _ i _ => l.length - (intOf i).toNat)
  case atStart => exact ⟨_, 0, rfl, Nat.zero_le _, rfl, Below.refl _ _, fun j hj => absurd hj (Nat.not_lt_zero j), by simpa [uptoS] using World.ownsRow_nil U (w.heap.size + 1) 22 1⟩
  case round =>
    obtain ⟨u, k, rfl, hk, rfl, hbl, H, hown⟩ := hrel
    have HH := Lib.hid H
    clear H
    have B1 := B0.old hbl
    have bw := b0.trans (hbl.mono (by omega))
    have hzl := hbl.size
    by_cases hlt : k < l.length
    · obtain ⟨hiy, b, off, rfl, hB, h0, h1, h2, h3, h4, h5⟩ := HR.out.carry bw (Nat.le_refl _) k hlt
      have HS := Lib.hid (all_stop k hlt)
      obtain ⟨y, hy⟩ : ∃ y, y = l.getD k zeroT := ⟨_, rfl⟩
      rw [← hy] at HS h0 h1 h2 h3 h4 h5
      have HY := Lib.hid hy
      clear hy hiy
      have c := field_any y
      unfold tot at c
      go_wp2_with fail
      refine (c _).mono ?_
      rintro e w1 ⟨rfl, b1⟩
      have hbl1 := hbl.trans (b1.mono hbl.size)
      have hown1 := own_carry (B := 0) hown b1
      have f1 := (B1.old b1).five
      have hz1' := hbl1.size
      have h0' := (b1.cell (p := ⟨b, off + k * 6, none⟩) (by simp; omega)).trans h0
      have h1' := (b1.cell (p := ⟨b, off + k * 6 + 1, none⟩) (by simp; omega)).trans h1
      have h2' := (b1.cell (p := ⟨b, off + k * 6 + 2, none⟩) (by simp; omega)).trans h2
      have h3' := (b1.cell (p := ⟨b, off + k * 6 + 3, none⟩) (by simp; omega)).trans h3
      have h4' := (b1.cell (p := ⟨b, off + k * 6 + 4, none⟩) (by simp; omega)).trans h4
      have h5' := (b1.cell (p := ⟨b, off + k * 6 + 5, none⟩) (by simp; omega)).trans h5
      clear c b1 hbl h0 h1 h2 h3 h4 h5 hown B1 bw
      cases hs : soundT y
      · go_wp2
        go_ret
        exact ⟨.inl ⟨HS.out hs, rfl⟩, b0.trans (hbl1.mono (by omega))⟩
      · go_wp2
        go_roundw
        case rel => exact ⟨_, k + 1, rfl, by omega, by go_num, hbl1, sound_snoc HH.out (by rw [← HY.out]; exact hs), hown1⟩
        case measure => simp [intOf]; omega
    · obtain rfl : k = l.length := by omega
      have hOI : OwnI wr (w.heap.size + 1) _ ([] : List Int) := OwnI.mk hown (fun j => by simp [inR])
      obtain ⟨P, hP⟩ : ∃ P, P = ([] : List Int) := ⟨_, rfl⟩
      rw [← hP] at hOI
      obtain ⟨pa, pc, rfl, hpc, hpm, hpr⟩ := hOI.row
      have hPn : P.length ≤ 1000000 := by rw [hP]; simp [uptoS]; try omega
      have hall := all_go HH.out
      have HALL := Lib.hid hall
      clear hall
      have hPl : P.length = l.length ∨ P.length = 0 := by rw [hP]; simp [uptoS]
      have HP := Lib.hid hP
      clear hP hOI hown HH
      have f1 := B1.five
      go_wp2_with fail
      clear f1
      refine (rall_any s.bye pa pc P _ hPn hbi hpc hpm hpr).mono ?_
      rintro e w5 ⟨lv, rfl, ho, b5⟩
      obtain ⟨la, lc, rfl, hlc, hlm, hlr⟩ := ho.row
      have B5 := B1.old b5
      have bw5 := bw.trans (b5.mono bw.size)
      have hz5 := bw5.size
      have HL2 := Lib.hid (share_at s.bye P 0)
      clear ho b5 hpr hpc hpm B1 bw hbl hzl b0 B0
      obtain ⟨SL, hSL⟩ : ∃ SL, SL = shareL s.bye P := ⟨_, rfl⟩
      rw [← hSL] at hlr HL2 hlc ⊢
      have HSL := Lib.hid hSL
      clear hSL
      have hU1 : w.heap.size + 1 ≤ w5.heap.size := Nat.succ_le_of_lt (Nat.lt_of_lt_of_le (by omega) B5.lt)
      go_wp2_with fail
      go_loopw [6, 9] (fun v i wr => ∃ k : Nat, k ≤ l.length ∧ i = .int .i64 k ∧ Below w5.heap.size w5 wr ∧ wr.ownsRow w5.heap.size 22 1 v k ((uptoS (sizeK s l) k).map (Value.int .i64))) (fun _ i _ => l.length - (intOf i).toNat)
      case atStart => exact ⟨0, Nat.zero_le _, rfl, Below.refl _ _, by simpa [uptoS] using World.ownsRow_nil w5 w5.heap.size 22 1⟩
      case round =>
        obtain ⟨k, hk, rfl, hbl, hown⟩ := hrel
        have bw := bw5.trans (hbl.mono hz5)
        have hzl := hbl.size
        by_cases hlt : k < l.length
        · obtain ⟨hiy, b, off, rfl, hB, h0, h1, h2, h3, h4, h5⟩ := HR.out.carry bw (Nat.le_refl _) k hlt
          have f1 := (B5.old hbl).five
          have hqb := sizeK_in s l HF.out HALL.out k hlt
          obtain ⟨y, hy⟩ : ∃ y, y = l.getD k zeroT := ⟨_, rfl⟩
          obtain ⟨q, hq⟩ : ∃ q, q = sizeK s l k := ⟨_, rfl⟩
          have hqv := hq
          unfold sizeK at hqv
          rw [← hy] at h0 h1 h2 h3 h4 h5
          rw [← hq] at hqb
          rw [← hy, if_neg (by omega), if_neg (by omega), if_pos hh] at hqv
          have HY := Lib.hid (And.intro hy hq)
          clear hy hiy hq
          have hw : wrap64 (y.n - y.h) = q := by rw [← hqv]; unfold wrap64; omega
          clear hqv hqb
          go_wp2_with (at_builtin; refine wpList_append_own _ rfl _ _ 36 rfl w5.heap.size 22 i0 (.int .i64 0) 1 8 Try.underlying36 hi hz0 hz1 hz2 rfl (by decide) _ _ _ rfl (hown.alloc _) ⟨wr.heap.size, 0, none⟩ 1 1 [.int .i64 q] rfl rfl (cell_one_new _ _ _) (by simp [Value.oneCell']) (by omega) (by omega) (by simp; omega) ?_; intro v' w6 hown' hgrow _)
          have hb6 : Below w5.heap.size w5 w6 := grow_below hbl hzl hown hgrow
          go_roundw
          case rel => exact ⟨k + 1, by omega, by go_num, hb6, by rw [uptoS_succ, ← HY.out.2]; simpa using hown'⟩
          case measure => simp [intOf]; omega
        · obtain rfl : k = l.length := by omega
          go_wp2
          go_ret
          exact ⟨.inr ⟨HALL.out, _, rfl, own_mono hown (by omega)⟩, bw⟩
end Go.Proofs.Ytojphpncidjdiaa
namespace Go.Proofs.Ytojphpncidjdiaa
open Go.RowKit
set_option maxRecDepth 20000
set_option linter.unusedVariables false
set_option linter.unusedSimpArgs false

set_option maxHeartbeats 4000000 in
theorem rsizes_1n (s : S5) (a : Option Addr) (cap : Nat) (l : List T6) (w : World) (hn : l.length ≤ 1000000) (hr : GRow w.heap.size w a l) (hb : fitB s.bye = true) (hh : s.how = 1) (ho : s.ord < 0) :
    Calls Try.prog 16 #[stg s, .slice a l.length cap] w fun e w' => (l.all soundT = false ∧ e = .returned (.slice none 0 0) ∨ l.all soundT = true ∧ ∃ v, e = .returned v ∧ w'.ownsRow w.heap.size 22 1 v l.length ((uptoS (sizeK s l) l.length).map (Value.int .i64))) ∧ Below w.heap.size w w' := by
  have hbb := fitB_true hb
  have g0 : 0 ≤ s.bye := hbb.1
  have g1 : s.bye ≤ 1125899906842624 := hbb.2
  have hbi : inR s.bye := by unfold inR; omega
  have hmx : 1000000 ≤ maxLen := by decide
  have HR := Lib.hid hr
  have HF := Lib.hid hb
  obtain ⟨i0, hi, hz0, hz1, hz2⟩ := info_parts infoSp
  have B0 := blk_new w #[.int .i64 s.how, .int .i64 s.ord, .int .i64 s.bye, .int .i64 s.off, .int .i64 s.left] 28
  have b0 := tbel1 w (.cells #[.int .i64 s.how, .int .i64 s.ord, .int .i64 s.bye, .int .i64 s.off, .int .i64 s.left] 28)
  have hz : (w.alloc (.cells #[.int .i64 s.how, .int .i64 s.ord, .int .i64 s.bye, .int .i64 s.off, .int .i64 s.left] 28)).heap.size = w.heap.size + 1 := by simp
  unfold stg
  rw [hh] at B0 b0 hz ⊢
  clear hr hb hbb
  go_enter Try.func16, Try.ntmps16
  go_wp2_with fail
  generalize w.alloc _ = U at *
  go_loopw [5, 7] (fun v i wr => ∃ (u : Value) (k : Nat), u = v ∧ k ≤ l.length ∧ i = .int .i64 k ∧ Below U.heap.size U wr ∧ (∀ j, j < k → soundT (l.getD j zeroT) = true) ∧ wr.ownsRow (w.heap.size + 1) 22 1 u ([] : List Int).length (([] : List Int).map (Value.int .i64))) (fun _ i _ => l.length - (intOf i).toNat)
  case atStart => exact ⟨_, 0, rfl, Nat.zero_le _, rfl, Below.refl _ _, fun j hj => absurd hj (Nat.not_lt_zero j), by simpa [uptoS] using World.ownsRow_nil U (w.heap.size + 1) 22 1⟩
  case round =>
    obtain ⟨u, k, rfl, hk, rfl, hbl, H, hown⟩ := hrel
    have HH := Lib.hid H
    clear H
    have B1 := B0.old hbl
    have bw := b0.trans (hbl.mono (by omega))
    have hzl := hbl.size
    by_cases hlt : k < l.length
    · obtain ⟨hiy, b, off, rfl, hB, h0, h1, h2, h3, h4, h5⟩ := HR.out.carry bw (Nat.le_refl _) k hlt
      have HS := Lib.hid (all_stop k hlt)
      obtain ⟨y, hy⟩ : ∃ y, y = l.getD k zeroT := ⟨_, rfl⟩
      rw [← hy] at HS h0 h1 h2 h3 h4 h5
      have HY := Lib.hid hy
      clear hy hiy
      have c := field_any y
      unfold tot at c
      go_wp2_with fail
      refine (c _).mono ?_
      rintro e w1 ⟨rfl, b1⟩
      have hbl1 := hbl.trans (b1.mono hbl.size)
      have hown1 := own_carry (B := 0) hown b1
      have f1 := (B1.old b1).five
      have hz1' := hbl1.size
      have h0' := (b1.cell (p := ⟨b, off + k * 6, none⟩) (by simp; omega)).trans h0
      have h1' := (b1.cell (p := ⟨b, off + k * 6 + 1, none⟩) (by simp; omega)).trans h1
      have h2' := (b1.cell (p := ⟨b, off + k * 6 + 2, none⟩) (by simp; omega)).trans h2
      have h3' := (b1.cell (p := ⟨b, off + k * 6 + 3, none⟩) (by simp; omega)).trans h3
      have h4' := (b1.cell (p := ⟨b, off + k * 6 + 4, none⟩) (by simp; omega)).trans h4
      have h5' := (b1.cell (p := ⟨b, off + k * 6 + 5, none⟩) (by simp; omega)).trans h5
      clear c b1 hbl h0 h1 h2 h3 h4 h5 hown B1 bw
      cases hs : soundT y
      · go_wp2
        go_ret
        exact ⟨.inl ⟨HS.out hs, rfl⟩, b0.trans (hbl1.mono (by omega))⟩
      · go_wp2
        go_roundw
        case rel => exact ⟨_, k + 1, rfl, by omega, by go_num, hbl1, sound_snoc HH.out (by rw [← HY.out]; exact hs), hown1⟩
        case measure => simp [intOf]; omega
    · obtain rfl : k = l.length := by omega
      have hOI : OwnI wr (w.heap.size + 1) _ ([] : List Int) := OwnI.mk hown (fun j => by simp [inR])
      obtain ⟨P, hP⟩ : ∃ P, P = ([] : List Int) := ⟨_, rfl⟩
      rw [← hP] at hOI
      obtain ⟨pa, pc, rfl, hpc, hpm, hpr⟩ := hOI.row
      have hPn : P.length ≤ 1000000 := by rw [hP]; simp [uptoS]; try omega
      have hall := all_go HH.out
      have HALL := Lib.hid hall
      clear hall
      have hPl : P.length = l.length ∨ P.length = 0 := by rw [hP]; simp [uptoS]
      have HP := Lib.hid hP
      clear hP hOI hown HH
      have f1 := B1.five
      go_wp2_with fail
      clear f1
      refine (rall_any s.bye pa pc P _ hPn hbi hpc hpm hpr).mono ?_
      rintro e w5 ⟨lv, rfl, ho, b5⟩
      obtain ⟨la, lc, rfl, hlc, hlm, hlr⟩ := ho.row
      have B5 := B1.old b5
      have bw5 := bw.trans (b5.mono bw.size)
      have hz5 := bw5.size
      have HL2 := Lib.hid (share_at s.bye P 0)
      clear ho b5 hpr hpc hpm B1 bw hbl hzl b0 B0
      obtain ⟨SL, hSL⟩ : ∃ SL, SL = shareL s.bye P := ⟨_, rfl⟩
      rw [← hSL] at hlr HL2 hlc ⊢
      have HSL := Lib.hid hSL
      clear hSL
      have hU1 : w.heap.size + 1 ≤ w5.heap.size := Nat.succ_le_of_lt (Nat.lt_of_lt_of_le (by omega) B5.lt)
      go_wp2_with fail
      go_loopw [6, 9] (fun v i wr => ∃ k : Nat, k ≤ l.length ∧ i = .int .i64 k ∧ Below w5.heap.size w5 wr ∧ wr.ownsRow w5.heap.size 22 1 v k ((uptoS (sizeK s l) k).map (Value.int .i64))) (fun _ i _ => l.length - (intOf i).toNat)
      case atStart => exact ⟨0, Nat.zero_le _, rfl, Below.refl _ _, by simpa [uptoS] using World.ownsRow_nil w5 w5.heap.size 22 1⟩
      case round =>
        obtain ⟨k, hk, rfl, hbl, hown⟩ := hrel
        have bw := bw5.trans (hbl.mono hz5)
        have hzl := hbl.size
        by_cases hlt : k < l.length
        · obtain ⟨hiy, b, off, rfl, hB, h0, h1, h2, h3, h4, h5⟩ := HR.out.carry bw (Nat.le_refl _) k hlt
          have f1 := (B5.old hbl).five
          have hqb := sizeK_in s l HF.out HALL.out k hlt
          obtain ⟨y, hy⟩ : ∃ y, y = l.getD k zeroT := ⟨_, rfl⟩
          obtain ⟨q, hq⟩ : ∃ q, q = sizeK s l k := ⟨_, rfl⟩
          have hqv := hq
          unfold sizeK at hqv
          rw [← hy] at h0 h1 h2 h3 h4 h5
          rw [← hq] at hqb
          rw [← hy, if_pos hh] at hqv
          have HY := Lib.hid (And.intro hy hq)
          clear hy hiy hq
          have hz9 : q = y.n := by
            rw [hqv, zero_share s.bye _ (fun x hx => by
              rw [part_1 l hh, upto_map] at hx
              obtain ⟨t, _, rfl⟩ := List.mem_map.1 hx
              unfold strT; rw [if_neg (by omega), if_neg (by omega), if_neg (by omega), if_neg (by omega)])]; omega
          have hm0 : SL.length = 0 := by
            by_cases hm : 0 < SL.length
            · have e1 := HL2.out hm
              rw [HP.out] at e1; simpa using e1
            · omega
          rw [hm0]
          clear hqv
          subst hz9
          go_wp2_with (at_builtin; refine wpList_append_own _ rfl _ _ 36 rfl w5.heap.size 22 i0 (.int .i64 0) 1 8 Try.underlying36 hi hz0 hz1 hz2 rfl (by decide) _ _ _ rfl (hown.alloc _) ⟨wr.heap.size, 0, none⟩ 1 1 [.int .i64 y.n] rfl rfl (cell_one_new _ _ _) (by simp [Value.oneCell']) (by omega) (by omega) (by simp; omega) ?_; intro v' w6 hown' hgrow _)
          have hb6 : Below w5.heap.size w5 w6 := grow_below hbl hzl hown hgrow
          go_roundw
          case rel => exact ⟨k + 1, by omega, by go_num, hb6, by rw [uptoS_succ, ← HY.out.2]; simpa using hown'⟩
          case measure => simp [intOf]; omega
        · obtain rfl : k = l.length := by omega
          go_wp2
          go_ret
          exact ⟨.inr ⟨HALL.out, _, rfl, own_mono hown (by omega)⟩, bw⟩
set_option maxHeartbeats 4000000 in
theorem rsizes_1b (s : S5) (a : Option Addr) (cap : Nat) (l : List T6) (w : World) (hn : l.length ≤ 1000000) (hr : GRow w.heap.size w a l) (hb : fitB s.bye = true) (hh : s.how = 1) (ho : 3 < s.ord) :
    Calls Try.prog 16 #[stg s, .slice a l.length cap] w fun e w' => (l.all soundT = false ∧ e = .returned (.slice none 0 0) ∨ l.all soundT = true ∧ ∃ v, e = .returned v ∧ w'.ownsRow w.heap.size 22 1 v l.length ((uptoS (sizeK s l) l.length).map (Value.int .i64))) ∧ Below w.heap.size w w' := by
  have hbb := fitB_true hb
  have g0 : 0 ≤ s.bye := hbb.1
  have g1 : s.bye ≤ 1125899906842624 := hbb.2
  have hbi : inR s.bye := by unfold inR; omega
  have hmx : 1000000 ≤ maxLen := by decide
  have HR := Lib.hid hr
  have HF := Lib.hid hb
  obtain ⟨i0, hi, hz0, hz1, hz2⟩ := info_parts infoSp
  have B0 := blk_new w #[.int .i64 s.how, .int .i64 s.ord, .int .i64 s.bye, .int .i64 s.off, .int .i64 s.left] 28
  have b0 := tbel1 w (.cells #[.int .i64 s.how, .int .i64 s.ord, .int .i64 s.bye, .int .i64 s.off, .int .i64 s.left] 28)
  have hz : (w.alloc (.cells #[.int .i64 s.how, .int .i64 s.ord, .int .i64 s.bye, .int .i64 s.off, .int .i64 s.left] 28)).heap.size = w.heap.size + 1 := by simp
  unfold stg
  rw [hh] at B0 b0 hz ⊢
  clear hr hb hbb
  go_enter Try.func16, Try.ntmps16
  go_wp2_with fail
  generalize w.alloc _ = U at *
  go_loopw [5, 7] (fun v i wr => ∃ (u : Value) (k : Nat), u = v ∧ k ≤ l.length ∧ i = .int .i64 k ∧ Below U.heap.size U wr ∧ (∀ j, j < k → soundT (l.getD j zeroT) = true) ∧ wr.ownsRow (w.heap.size + 1) 22 1 u ([] : List Int).length (([] : List Int).map (Value.int .i64))) (fun _ i _ => l.length - (intOf i).toNat)
  case atStart => exact ⟨_, 0, rfl, Nat.zero_le _, rfl, Below.refl _ _, fun j hj => absurd hj (Nat.not_lt_zero j), by simpa [uptoS] using World.ownsRow_nil U (w.heap.size + 1) 22 1⟩
  case round =>
    obtain ⟨u, k, rfl, hk, rfl, hbl, H, hown⟩ := hrel
    have HH := Lib.hid H
    clear H
    have B1 := B0.old hbl
    have bw := b0.trans (hbl.mono (by omega))
    have hzl := hbl.size
    by_cases hlt : k < l.length
    · obtain ⟨hiy, b, off, rfl, hB, h0, h1, h2, h3, h4, h5⟩ := HR.out.carry bw (Nat.le_refl _) k hlt
      have HS := Lib.hid (all_stop k hlt)
      obtain ⟨y, hy⟩ : ∃ y, y = l.getD k zeroT := ⟨_, rfl⟩
      rw [← hy] at HS h0 h1 h2 h3 h4 h5
      have HY := Lib.hid hy
      clear hy hiy
      have c := field_any y
      unfold tot at c
      go_wp2_with fail
      refine (c _).mono ?_
      rintro e w1 ⟨rfl, b1⟩
      have hbl1 := hbl.trans (b1.mono hbl.size)
      have hown1 := own_carry (B := 0) hown b1
      have f1 := (B1.old b1).five
      have hz1' := hbl1.size
      have h0' := (b1.cell (p := ⟨b, off + k * 6, none⟩) (by simp; omega)).trans h0
      have h1' := (b1.cell (p := ⟨b, off + k * 6 + 1, none⟩) (by simp; omega)).trans h1
      have h2' := (b1.cell (p := ⟨b, off + k * 6 + 2, none⟩) (by simp; omega)).trans h2
      have h3' := (b1.cell (p := ⟨b, off + k * 6 + 3, none⟩) (by simp; omega)).trans h3
      have h4' := (b1.cell (p := ⟨b, off + k * 6 + 4, none⟩) (by simp; omega)).trans h4
      have h5' := (b1.cell (p := ⟨b, off + k * 6 + 5, none⟩) (by simp; omega)).trans h5
      clear c b1 hbl h0 h1 h2 h3 h4 h5 hown B1 bw
      cases hs : soundT y
      · go_wp2
        go_ret
        exact ⟨.inl ⟨HS.out hs, rfl⟩, b0.trans (hbl1.mono (by omega))⟩
      · go_wp2
        go_roundw
        case rel => exact ⟨_, k + 1, rfl, by omega, by go_num, hbl1, sound_snoc HH.out (by rw [← HY.out]; exact hs), hown1⟩
        case measure => simp [intOf]; omega
    · obtain rfl : k = l.length := by omega
      have hOI : OwnI wr (w.heap.size + 1) _ ([] : List Int) := OwnI.mk hown (fun j => by simp [inR])
      obtain ⟨P, hP⟩ : ∃ P, P = ([] : List Int) := ⟨_, rfl⟩
      rw [← hP] at hOI
      obtain ⟨pa, pc, rfl, hpc, hpm, hpr⟩ := hOI.row
      have hPn : P.length ≤ 1000000 := by rw [hP]; simp [uptoS]; try omega
      have hall := all_go HH.out
      have HALL := Lib.hid hall
      clear hall
      have hPl : P.length = l.length ∨ P.length = 0 := by rw [hP]; simp [uptoS]
      have HP := Lib.hid hP
      clear hP hOI hown HH
      have f1 := B1.five
      go_wp2_with fail
      clear f1
      refine (rall_any s.bye pa pc P _ hPn hbi hpc hpm hpr).mono ?_
      rintro e w5 ⟨lv, rfl, ho, b5⟩
      obtain ⟨la, lc, rfl, hlc, hlm, hlr⟩ := ho.row
      have B5 := B1.old b5
      have bw5 := bw.trans (b5.mono bw.size)
      have hz5 := bw5.size
      have HL2 := Lib.hid (share_at s.bye P 0)
      clear ho b5 hpr hpc hpm B1 bw hbl hzl b0 B0
      obtain ⟨SL, hSL⟩ : ∃ SL, SL = shareL s.bye P := ⟨_, rfl⟩
      rw [← hSL] at hlr HL2 hlc ⊢
      have HSL := Lib.hid hSL
      clear hSL
      have hU1 : w.heap.size + 1 ≤ w5.heap.size := Nat.succ_le_of_lt (Nat.lt_of_lt_of_le (by omega) B5.lt)
      go_wp2_with fail
      go_loopw [6, 9] (fun v i wr => ∃ k : Nat, k ≤ l.length ∧ i = .int .i64 k ∧ Below w5.heap.size w5 wr ∧ wr.ownsRow w5.heap.size 22 1 v k ((uptoS (sizeK s l) k).map (Value.int .i64))) (fun _ i _ => l.length - (intOf i).toNat)
      case atStart => exact ⟨0, Nat.zero_le _, rfl, Below.refl _ _, by simpa [uptoS] using World.ownsRow_nil w5 w5.heap.size 22 1⟩
      case round =>
        obtain ⟨k, hk, rfl, hbl, hown⟩ := hrel
        have bw := bw5.trans (hbl.mono hz5)
        have hzl := hbl.size
        by_cases hlt : k < l.length
        · obtain ⟨hiy, b, off, rfl, hB, h0, h1, h2, h3, h4, h5⟩ := HR.out.carry bw (Nat.le_refl _) k hlt
          have f1 := (B5.old hbl).five
          have hqb := sizeK_in s l HF.out HALL.out k hlt
          obtain ⟨y, hy⟩ : ∃ y, y = l.getD k zeroT := ⟨_, rfl⟩
          obtain ⟨q, hq⟩ : ∃ q, q = sizeK s l k := ⟨_, rfl⟩
          have hqv := hq
          unfold sizeK at hqv
          rw [← hy] at h0 h1 h2 h3 h4 h5
          rw [← hq] at hqb
          rw [← hy, if_pos hh] at hqv
          have HY := Lib.hid (And.intro hy hq)
          clear hy hiy hq
          have hz9 : q = y.n := by
            rw [hqv, zero_share s.bye _ (fun x hx => by
              rw [part_1 l hh, upto_map] at hx
              obtain ⟨t, _, rfl⟩ := List.mem_map.1 hx
              unfold strT; rw [if_neg (by omega), if_neg (by omega), if_neg (by omega), if_neg (by omega)])]; omega
          have hm0 : SL.length = 0 := by
            by_cases hm : 0 < SL.length
            · have e1 := HL2.out hm
              rw [HP.out] at e1; simpa using e1
            · omega
          rw [hm0]
          clear hqv
          subst hz9
          go_wp2_with (at_builtin; refine wpList_append_own _ rfl _ _ 36 rfl w5.heap.size 22 i0 (.int .i64 0) 1 8 Try.underlying36 hi hz0 hz1 hz2 rfl (by decide) _ _ _ rfl (hown.alloc _) ⟨wr.heap.size, 0, none⟩ 1 1 [.int .i64 y.n] rfl rfl (cell_one_new _ _ _) (by simp [Value.oneCell']) (by omega) (by omega) (by simp; omega) ?_; intro v' w6 hown' hgrow _)
          have hb6 : Below w5.heap.size w5 w6 := grow_below hbl hzl hown hgrow
          go_roundw
          case rel => exact ⟨k + 1, by omega, by go_num, hb6, by rw [uptoS_succ, ← HY.out.2]; simpa using hown'⟩
          case measure => simp [intOf]; omega
        · obtain rfl : k = l.length := by omega
          go_wp2
          go_ret
          exact ⟨.inr ⟨HALL.out, _, rfl, own_mono hown (by omega)⟩, bw⟩
end Go.Proofs.Ytojphpncidjdiaa
