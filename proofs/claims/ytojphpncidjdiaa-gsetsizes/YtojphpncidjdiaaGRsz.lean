/- The document's Sizes of layer 9. -/
import Derived.Test.YtojphpncidjdiaaGRef
import Derived.Test.YtojphpncidjdiaaGSzA
import Derived.Test.YtojphpncidjdiaaSRall
import Derived.Test.YtojphpncidjdiaaDetU
namespace Go.Proofs.Ytojphpncidjdiaa
open Go.RowKit
set_option maxRecDepth 20000
set_option linter.unusedVariables false
set_option linter.unusedSimpArgs false

theorem sound_snoc {l : List T6} {k : Nat} (h : ∀ j, j < k → soundT (l.getD j zeroT) = true) (hk : soundT (l.getD k zeroT) = true) : ∀ j, j < k + 1 → soundT (l.getD j zeroT) = true := fun j hj => by
  by_cases e : j = k
  · rw [e]; exact hk
  · exact h j (by omega)
theorem up_in {f : Nat → Int} {n : Nat} (h : ∀ j, j < n → inR (f j)) (j : Nat) : inR ((uptoS f n).getD j 0) := by
  by_cases hj : j < n
  · rw [uptoS_getD _ _ _ hj]; exact h j hj
  · rw [List.getD_eq_getElem?_getD, List.getElem?_eq_none (by rw [uptoS_length]; omega)]; simp [inR]
theorem own_block_ge {w : World} {B : Nat} {v : Value} {k : Nat} {xs : List Value} (h : w.ownsRow B 22 1 v k xs) : ∀ i, some i = v.ownBlock → B ≤ i := by
  intro i e
  rcases h.2 with ⟨rfl, _⟩ | ⟨g, cap, cur, rfl, hb, _⟩
  · simp [Value.ownBlock] at e
  · simp [Value.ownBlock] at e; omega
theorem near_cell {M : Nat → Prop} {w x : World} {b i : Nat} {v : Value} (hx : Near M w x) (h : w.cell? ⟨b, i, none⟩ = some v) (hb : ¬ M b) : x.cell? ⟨b, i, none⟩ = some v :=
  (World.cell?_of_block (a := ⟨b, i, none⟩) (hx.block b (World.block_lt_of_cell? _ _ h) hb)).trans h
/-- One number more. -/
theorem app_one (x z : World) (u : Value) (Z : Int) {B k : Nat} {xs : List Value} (o : Oper) (a : Act) (s t : Operand) (ho : o.op = .call { callee := .builtin .append, args := #[s, t], argTypes := #[36, 36] }) (hs : a.eval s = u) (ht : a.eval t = .slice (some ⟨x.heap.size, 0, none⟩) 1 1)
    (hown : (x.alloc (.cells #[.int .i64 Z] 22)).ownsRow B 22 1 u k xs) (hz : Old (x.alloc (.cells #[.int .i64 Z] 22)) z) (hk : k ≤ 1000000) (hB : B ≤ x.heap.size) :
    ∃ v' w', (execOp a.eval o).run Try.prog z = .ok (.value v') w' ∧ (∃ z, Old (x.alloc (.cells #[.int .i64 Z] 22)) z ∧ w'.ownsRow B 22 1 v' (k + 1) (xs ++ [.int .i64 Z]) ∧ z.grownBy w' u.ownBlock) ∧ Near (fun i => some i = u.ownBlock) z w' := by
  obtain ⟨i0, hi, hz0, hz1, hz2⟩ := info_parts infoSp
  have hmx : 1000001 ≤ maxLen := by decide
  have hzs := hz.size
  have hc : z.cell? ⟨x.heap.size, 0, none⟩ = some (.int .i64 Z) := (hz.cell (p := ⟨x.heap.size, 0, none⟩) (by simp)).trans (blk_new x #[.int .i64 Z] 22).one
  obtain ⟨v', w', hr, h1, h2, _⟩ := run_append_own (P := Try.prog) z B 36 o.type 22 i0 (.int .i64 0) 1 8 Try.underlying36 hi hz0 hz1 hz2 rfl (by decide) u k xs (own_carry (B := 0) hown hz) ⟨x.heap.size, 0, none⟩ 1 1 [.int .i64 Z] rfl
    (fun j w hj => by
      match j, hj with
      | 0, hj => simp at hj; subst hj; exact hc) (by simp [Value.oneCell']) (by omega) (by omega) (by simp at hzs; omega)
  exact ⟨v', w', exec_append s t ho hs ht hr, ⟨z, hz, h1, h2⟩, ⟨h2.os, h2.tape, h2.output, h2.size, fun i hi hn => h2.block i hi hn⟩⟩
theorem zero_share (b : Int) (L : List Int) (h : ∀ x ∈ L, x = 0) (k : Nat) : (shareL b L).getD k 0 = 0 := by
  by_cases hr : rightS b L = true
  · have := rightS_facts hr
    have hs : L.sum = 0 := by
      clear this hr
      induction L with
      | nil => rfl
      | cons x L ih => rw [List.sum_cons, h x (by simp), ih fun y hy => h y (by simp [hy])]; rfl
    omega
  · have hr' : rightS b L = false := by simpa using hr
    unfold shareL; rw [hr']; simp
/-- The k-th share, or nothing. -/
theorem share_at (whole : Int) (L : List Int) (k : Nat) : 0 < (shareL whole L).length → (shareL whole L).length = L.length := fun h => by
  by_cases hr : rightS whole L = true
  · exact shareL_len hr
  · have hr' : rightS whole L = false := by simpa using hr
    unfold shareL at h; rw [hr'] at h; simp at h
/-- What the document's Sizes hands back where it hands back nothing. -/
theorem rsizes_a (s : S5) (a : Option Addr) (cap len : Nat) (w : World) (h : s.how < 0 ∨ (0 ≤ s.how ∧ 3 < s.how) ∨ (0 ≤ s.how ∧ s.how ≤ 3 ∧ s.bye < 0) ∨ (0 ≤ s.how ∧ s.how ≤ 3 ∧ 0 ≤ s.bye ∧ 1125899906842624 < s.bye)) :
    Calls Try.prog 16 #[stg s, .slice a len cap] w fun e w' => e = .returned (.slice none 0 0) ∧ Below w.heap.size w w' := by
  unfold stg
  rcases h with h | ⟨h, h'⟩ | ⟨h, h', h2⟩ | ⟨h, h', h2, h3⟩
  all_goals
    go_enter Try.func16, Try.ntmps16
    go_wp2
    go_ret
    exact ⟨rfl, tbel1 w _⟩
set_option maxHeartbeats 4000000 in
theorem rsizes_2 (s : S5) (a : Option Addr) (cap : Nat) (l : List T6) (w : World) (hn : l.length ≤ 1000000) (hr : GRow w.heap.size w a l) (hb : fitB s.bye = true) (hh : s.how = 2)  :
    Calls Try.prog 16 #[stg s, .slice a l.length cap] w fun e w' => (l.all soundT = false ∧ e = .returned (.slice none 0 0) ∨ l.all soundT = true ∧ ∃ v, e = .returned v ∧ w'.ownsRow w.heap.size 22 1 v l.length ((uptoS (sizeK s l) l.length).map (Value.int .i64))) ∧ Below w.heap.size w w' := by
  have hbb := fitB_true hb
  have g0 : 0 ≤ s.bye := hbb.1
  have g1 : s.bye ≤ 1125899906842624 := hbb.2
  have hbi : inR s.bye := by unfold inR; omega
  have hmx : 1000000 ≤ maxLen := by decide
  have HR := Lib.hid hr
  have HF := Lib.hid hb
  obtain ⟨i0, hi, hz0, hz1, hz2⟩ := info_parts infoSp
  have B0 := blk_new w #[.int .i64 s.how, .int .i64 s.ord, .int .i64 s.bye, .int .i64 s.off, .int .i64 s.left] 28
  have b0 := tbel1 w (.cells #[.int .i64 s.how, .int .i64 s.ord, .int .i64 s.bye, .int .i64 s.off, .int .i64 s.left] 28)
  have hz : (w.alloc (.cells #[.int .i64 s.how, .int .i64 s.ord, .int .i64 s.bye, .int .i64 s.off, .int .i64 s.left] 28)).heap.size = w.heap.size + 1 := by simp
  unfold stg
  rw [hh] at B0 b0 hz ⊢
  clear hr hb hbb
  go_enter Try.func16, Try.ntmps16
  go_wp2_with fail
  generalize w.alloc _ = U at *
  go_loopw [5, 7] (fun v i wr => ∃ (u : Value) (k : Nat), u = v ∧ k ≤ l.length ∧ i = .int .i64 k ∧ Below U.heap.size U wr ∧ (∀ j, j < k → soundT (l.getD j zeroT) = true) ∧ wr.ownsRow (w.heap.size + 1) 22 1 u (uptoS (fldK T6.h l) k).length ((uptoS (fldK T6.h l) k).map (Value.int .i64))) (fun _ i _ => l.length - (intOf i).toNat)
  case atStart => exact ⟨_, 0, rfl, Nat.zero_le _, rfl, Below.refl _ _, fun j hj => absurd hj (Nat.not_lt_zero j), by simpa [uptoS] using World.ownsRow_nil U (w.heap.size + 1) 22 1⟩
  case round =>
    obtain ⟨u, k, rfl, hk, rfl, hbl, H, hown⟩ := hrel
    have HH := Lib.hid H
    clear H
    have B1 := B0.old hbl
    have bw := b0.trans (hbl.mono (by omega))
    have hzl := hbl.size
    by_cases hlt : k < l.length
    · obtain ⟨hiy, b, off, rfl, hB, h0, h1, h2, h3, h4, h5⟩ := HR.out.carry bw (Nat.le_refl _) k hlt
      have HS := Lib.hid (all_stop k hlt)
      obtain ⟨y, hy⟩ : ∃ y, y = l.getD k zeroT := ⟨_, rfl⟩
      rw [← hy] at HS h0 h1 h2 h3 h4 h5
      have HY := Lib.hid hy
      clear hy hiy
      have c := field_any y
      unfold tot at c
      go_wp2_with fail
      refine (c _).mono ?_
      rintro e w1 ⟨rfl, b1⟩
      have hbl1 := hbl.trans (b1.mono hbl.size)
      have hown1 := own_carry (B := 0) hown b1
      have f1 := (B1.old b1).five
      have hz1' := hbl1.size
      have h0' := (b1.cell (p := ⟨b, off + k * 6, none⟩) (by simp; omega)).trans h0
      have h1' := (b1.cell (p := ⟨b, off + k * 6 + 1, none⟩) (by simp; omega)).trans h1
      have h2' := (b1.cell (p := ⟨b, off + k * 6 + 2, none⟩) (by simp; omega)).trans h2
      have h3' := (b1.cell (p := ⟨b, off + k * 6 + 3, none⟩) (by simp; omega)).trans h3
      have h4' := (b1.cell (p := ⟨b, off + k * 6 + 4, none⟩) (by simp; omega)).trans h4
      have h5' := (b1.cell (p := ⟨b, off + k * 6 + 5, none⟩) (by simp; omega)).trans h5
      clear c b1 hbl h0 h1 h2 h3 h4 h5 hown B1 bw
      cases hs : soundT y
      · go_wp2
        go_ret
        exact ⟨.inl ⟨HS.out hs, rfl⟩, b0.trans (hbl1.mono (by omega))⟩
      · go_wp2_with (at_builtin; refine wpList_append_own _ rfl _ _ 36 rfl (w.heap.size + 1) 22 i0 (.int .i64 0) 1 8 Try.underlying36 hi hz0 hz1 hz2 rfl (by decide) _ _ _ rfl (hown1.alloc _) ⟨w1.heap.size, 0, none⟩ 1 1 [.int .i64 y.h] rfl rfl (cell_one_new _ _ _) (by simp [Value.oneCell']) (by simp [uptoS]; omega) (by simp [uptoS]; omega) (by simp; omega) ?_; intro v' w4 hown' hgrow _)
        have hb4 : Below U.heap.size U w4 := by rw [hz] at hbl1 hz1' ⊢; exact grow_below hbl1 hz1' hown1 hgrow
        go_roundw
        case rel =>
          have e : fldK T6.h l k = y.h := by rw [HY.out]; rfl
          exact ⟨_, k + 1, rfl, by omega, by go_num, hb4, sound_snoc HH.out (by rw [← HY.out]; exact hs), by rw [uptoS_succ, e]; simpa using hown'⟩
        case measure => simp [intOf]; omega
    · obtain rfl : k = l.length := by omega
      have hOI : OwnI wr (w.heap.size + 1) _ (uptoS (fldK T6.h l) l.length) := OwnI.mk hown (up_in fun j hj => (fld_in HR.out j hj).2.2.2.2.2)
      obtain ⟨P, hP⟩ : ∃ P, P = (uptoS (fldK T6.h l) l.length) := ⟨_, rfl⟩
      rw [← hP] at hOI
      obtain ⟨pa, pc, rfl, hpc, hpm, hpr⟩ := hOI.row
      have hPn : P.length ≤ 1000000 := by rw [hP]; simp [uptoS]; try omega
      have hall := all_go HH.out
      have HALL := Lib.hid hall
      clear hall
      have hPl : P.length = l.length ∨ P.length = 0 := by rw [hP]; simp [uptoS]
      have HP := Lib.hid hP
      clear hP hOI hown HH
      have f1 := B1.five
      go_wp2_with fail
      clear f1
      refine (rall_any s.bye pa pc P _ hPn hbi hpc hpm hpr).mono ?_
      rintro e w5 ⟨lv, rfl, ho, b5⟩
      obtain ⟨la, lc, rfl, hlc, hlm, hlr⟩ := ho.row
      have B5 := B1.old b5
      have bw5 := bw.trans (b5.mono bw.size)
      have hz5 := bw5.size
      have HL2 := Lib.hid (share_at s.bye P 0)
      clear ho b5 hpr hpc hpm B1 bw hbl hzl b0 B0
      obtain ⟨SL, hSL⟩ : ∃ SL, SL = shareL s.bye P := ⟨_, rfl⟩
      rw [← hSL] at hlr HL2 hlc ⊢
      have HSL := Lib.hid hSL
      clear hSL
      have hU1 : w.heap.size + 1 ≤ w5.heap.size := Nat.succ_le_of_lt (Nat.lt_of_lt_of_le (by omega) B5.lt)
      go_wp2_with fail
      go_loopw [6, 9] (fun v i wr => ∃ k : Nat, k ≤ l.length ∧ i = .int .i64 k ∧ Below w5.heap.size w5 wr ∧ wr.ownsRow w5.heap.size 22 1 v k ((uptoS (sizeK s l) k).map (Value.int .i64))) (fun _ i _ => l.length - (intOf i).toNat)
      case atStart => exact ⟨0, Nat.zero_le _, rfl, Below.refl _ _, by simpa [uptoS] using World.ownsRow_nil w5 w5.heap.size 22 1⟩
      case round =>
        obtain ⟨k, hk, rfl, hbl, hown⟩ := hrel
        have bw := bw5.trans (hbl.mono hz5)
        have hzl := hbl.size
        by_cases hlt : k < l.length
        · obtain ⟨hiy, b, off, rfl, hB, h0, h1, h2, h3, h4, h5⟩ := HR.out.carry bw (Nat.le_refl _) k hlt
          have f1 := (B5.old hbl).five
          have hqb := sizeK_in s l HF.out HALL.out k hlt
          obtain ⟨y, hy⟩ : ∃ y, y = l.getD k zeroT := ⟨_, rfl⟩
          obtain ⟨q, hq⟩ : ∃ q, q = sizeK s l k := ⟨_, rfl⟩
          have hqv := hq
          unfold sizeK at hqv
          rw [← hy] at h0 h1 h2 h3 h4 h5
          rw [← hq] at hqb
          rw [← hy, if_neg (by omega), if_pos hh] at hqv
          have HY := Lib.hid (And.intro hy hq)
          clear hy hiy hq
          rw [show shareL s.bye (partG s l) = SL from by rw [HSL.out, HP.out, part_2 l (by omega)]] at hqv
          by_cases hm : 0 < SL.length
          · have hk2 : k < SL.length := by have e1 := HL2.out hm; omega
            obtain ⟨hzi, b', off', rfl, hB', hcz⟩ := hlr.carry hbl (Nat.le_refl _) k hk2
            obtain ⟨z, ez⟩ : ∃ z, z = SL.getD k 0 := ⟨_, rfl⟩
            rw [← ez] at hcz hqv
            have hw : wrap64 (y.n - z) = q := by rw [← hqv]; unfold wrap64; omega
            have hk3 : ¬ SL.length ≤ k := by omega
            clear hqv hqb ez hzi
            go_wp2_with (at_builtin; refine wpList_append_own _ rfl _ _ 36 rfl w5.heap.size 22 i0 (.int .i64 0) 1 8 Try.underlying36 hi hz0 hz1 hz2 rfl (by decide) _ _ _ rfl (hown.alloc _) ⟨wr.heap.size, 0, none⟩ 1 1 [.int .i64 q] rfl rfl (cell_one_new _ _ _) (by simp [Value.oneCell']) (by omega) (by omega) (by simp; omega) ?_; intro v' w6 hown' hgrow _)
            have hb6 : Below w5.heap.size w5 w6 := grow_below hbl hzl hown hgrow
            go_roundw
            case rel => exact ⟨k + 1, by omega, by go_num, hb6, by rw [uptoS_succ, ← HY.out.2]; simpa using hown'⟩
            case measure => simp [intOf]; omega
          · have hm0 : SL.length = 0 := by omega
            have hqv2 : q = y.n := by
              rw [hqv, List.eq_nil_of_length_eq_zero hm0]; simp
            rw [hm0]
            clear hqv
            subst hqv2
            go_wp2_with (at_builtin; refine wpList_append_own _ rfl _ _ 36 rfl w5.heap.size 22 i0 (.int .i64 0) 1 8 Try.underlying36 hi hz0 hz1 hz2 rfl (by decide) _ _ _ rfl (hown.alloc _) ⟨wr.heap.size, 0, none⟩ 1 1 [.int .i64 y.n] rfl rfl (cell_one_new _ _ _) (by simp [Value.oneCell']) (by omega) (by omega) (by simp; omega) ?_; intro v' w6 hown' hgrow _)
            have hb6 : Below w5.heap.size w5 w6 := grow_below hbl hzl hown hgrow
            go_roundw
            case rel => exact ⟨k + 1, by omega, by go_num, hb6, by rw [uptoS_succ, ← HY.out.2]; simpa using hown'⟩
            case measure => simp [intOf]; omega
        · obtain rfl : k = l.length := by omega
          go_wp2
          go_ret
          exact ⟨.inr ⟨HALL.out, _, rfl, own_mono hown (by omega)⟩, bw⟩
end Go.Proofs.Ytojphpncidjdiaa
