/- The document's Sizes of layer 9, a way of it. The contract of the document's Sizes of layer 9. -/
import Derived.Test.YtojphpncidjdiaaGRsz
import Derived.Test.YtojphpncidjdiaaGSzA
import Derived.Test.YtojphpncidjdiaaSRall
import Derived.Test.YtojphpncidjdiaaDetU
import Derived.Test.YtojphpncidjdiaaGRsz0
namespace Go.Proofs.Ytojphpncidjdiaa
open Go.RowKit
set_option maxRecDepth 20000
set_option linter.unusedVariables false
set_option linter.unusedSimpArgs false

theorem run_build1 (Z : Int) (x : World) : (Instr.buildSlice 36 1 #[(0, .int .i64 Z)]).run Try.prog x = .ok (.slice (some ⟨x.heap.size, 0, none⟩) 1 1) (x.alloc (.cells #[.int .i64 Z] 22)) := by
  simp [go_sem]
theorem build_one (o : Oper) (a : Act) (Z : Int) (s : Operand) (ho : o.op = .buildSlice 36 1 #[(0, s)]) (hs : a.eval s = .int .i64 Z) (x : World) :
    (execOp a.eval o).run Try.prog x = .ok (.value (.slice (some ⟨x.heap.size, 0, none⟩) 1 1)) (x.alloc (.cells #[.int .i64 Z] 22)) := by
  unfold execOp
  simp only [ho, List.map_toArray, List.map_cons, List.map_nil, hs, Sem.run_bind, run_build1, Result.andThen_ok, Sem.run_pure]
set_option maxHeartbeats 4000000 in
theorem rsizes_1 (s : S5) (a : Option Addr) (cap : Nat) (l : List T6) (w : World) (hn : l.length ≤ 1000000) (hr : GRow w.heap.size w a l) (hb : fitB s.bye = true) (hh : s.how = 1) (ho : s.ord = 0 ∨ s.ord = 1 ∨ s.ord = 2 ∨ s.ord = 3) :
    Calls Try.prog 16 #[stg s, .slice a l.length cap] w fun e w' => (l.all soundT = false ∧ e = .returned (.slice none 0 0) ∨ l.all soundT = true ∧ ∃ v, e = .returned v ∧ w'.ownsRow w.heap.size 22 1 v l.length ((uptoS (sizeK s l) l.length).map (Value.int .i64))) ∧ Below w.heap.size w w' := by
  have hbb := fitB_true hb
  have g0 : 0 ≤ s.bye := hbb.1
  have g1 : s.bye ≤ 1125899906842624 := hbb.2
  have hbi : inR s.bye := by unfold inR; omega
  have hmx : 1000000 ≤ maxLen := by decide
  have HR := Lib.hid hr
  have HF := Lib.hid hb
  obtain ⟨i0, hi, hz0, hz1, hz2⟩ := info_parts infoSp
  have B0 := blk_new w #[.int .i64 s.how, .int .i64 s.ord, .int .i64 s.bye, .int .i64 s.off, .int .i64 s.left] 28
  have b0 := tbel1 w (.cells #[.int .i64 s.how, .int .i64 s.ord, .int .i64 s.bye, .int .i64 s.off, .int .i64 s.left] 28)
  have hz : (w.alloc (.cells #[.int .i64 s.how, .int .i64 s.ord, .int .i64 s.bye, .int .i64 s.off, .int .i64 s.left] 28)).heap.size = w.heap.size + 1 := by simp
  unfold stg
  rw [hh] at B0 b0 hz ⊢
  clear hr hb hbb
  go_enter Try.func16, Try.ntmps16
  go_wp2_with fail
  generalize w.alloc _ = U at *
  go_loopw [5, 7] (fun v i wr => ∃ (u : Value) (k : Nat), u = v ∧ k ≤ l.length ∧ i = .int .i64 k ∧ Below U.heap.size U wr ∧ (∀ j, j < k → soundT (l.getD j zeroT) = true) ∧ wr.ownsRow (w.heap.size + 1) 22 1 u (uptoS (fldK (fun t => strT t s.ord) l) k).length ((uptoS (fldK (fun t => strT t s.ord) l) k).map (Value.int .i64))) (fun _ i _ => l.length - (intOf i).toNat)
  case atStart => exact ⟨_, 0, rfl, Nat.zero_le _, rfl, Below.refl _ _, fun j hj => absurd hj (Nat.not_lt_zero j), by simpa [uptoS] using World.ownsRow_nil U (w.heap.size + 1) 22 1⟩
  case round =>
    obtain ⟨u, k, rfl, hk, rfl, hbl, H, hown⟩ := hrel
    have HH := Lib.hid H
    clear H
    have B1 := B0.old hbl
    have bw := b0.trans (hbl.mono (by omega))
    have hzl := hbl.size
    by_cases hlt : k < l.length
    · obtain ⟨hiy, b, off, rfl, hB, h0, h1, h2, h3, h4, h5⟩ := HR.out.carry bw (Nat.le_refl _) k hlt
      have HS := Lib.hid (all_stop k hlt)
      obtain ⟨y, hy⟩ : ∃ y, y = l.getD k zeroT := ⟨_, rfl⟩
      rw [← hy] at HS h0 h1 h2 h3 h4 h5
      have HY := Lib.hid hy
      clear hy hiy
      have c := field_any y
      unfold tot at c
      go_wp2_with fail
      refine (c _).mono ?_
      rintro e w1 ⟨rfl, b1⟩
      have hbl1 := hbl.trans (b1.mono hbl.size)
      have hown1 := own_carry (B := 0) hown b1
      have f1 := (B1.old b1).five
      have hz1' := hbl1.size
      have h0' := (b1.cell (p := ⟨b, off + k * 6, none⟩) (by simp; omega)).trans h0
      have h1' := (b1.cell (p := ⟨b, off + k * 6 + 1, none⟩) (by simp; omega)).trans h1
      have h2' := (b1.cell (p := ⟨b, off + k * 6 + 2, none⟩) (by simp; omega)).trans h2
      have h3' := (b1.cell (p := ⟨b, off + k * 6 + 3, none⟩) (by simp; omega)).trans h3
      have h4' := (b1.cell (p := ⟨b, off + k * 6 + 4, none⟩) (by simp; omega)).trans h4
      have h5' := (b1.cell (p := ⟨b, off + k * 6 + 5, none⟩) (by simp; omega)).trans h5
      clear c b1 hbl h0 h1 h2 h3 h4 h5 hown B1 bw
      cases hs : soundT y
      · go_wp2
        go_ret
        exact ⟨.inl ⟨HS.out hs, rfl⟩, b0.trans (hbl1.mono (by omega))⟩
      · rcases ho with ho | ho | ho | ho
        all_goals
          rw [ho] at f1
          obtain ⟨Z, eZ⟩ : ∃ Z, Z = strT y s.ord := ⟨_, rfl⟩
          have eZ2 := eZ
          unfold strT at eZ2
          simp [ho] at eZ2
          clear ho
          try rw [← eZ2] at h1'
          try rw [← eZ2] at h2'
          try rw [← eZ2] at h3'
          try rw [← eZ2] at h4'
          have HEZ := Lib.hid eZ
          clear eZ eZ2
          have hub := own_block_ge hown1
          have hlt1 : w.heap.size < w1.heap.size := World.block_lt_of_cell? _ _ f1.1
          have CE := Lib.hid fun x (hx : Near (fun i => some i = u.ownBlock) w1 x) =>
            And.intro (And.intro (near_cell hx f1.1 (fun e => by have := hub _ e; omega)) (near_cell hx f1.2.1 (fun e => by have := hub _ e; omega)))
            (And.intro (near_cell hx h1' (fun e => by have := hub _ e; omega)) (And.intro (near_cell hx h2' (fun e => by have := hub _ e; omega)) (And.intro (near_cell hx h3' (fun e => by have := hub _ e; omega)) (And.intro (near_cell hx h4' (fun e => by have := hub _ e; omega)) (And.intro hlt (Nat.not_le.2 hlt))))))
          go_wp2_with fail
          (refine wp_region_planU 11 [(0, true), (1, true), (2, true), (3, true), (4, true), (5, true), (6, true), (7, true), (8, true), (9, false), (10, false)] (fun i => some i = u.ownBlock) (by kernel_rfl) (by kernel_rfl) ?_; simp only [pick, List.getElem?_cons_succ, List.getElem?_cons_zero, List.drop_succ_cons, List.drop_zero])
          repeat (first | (apply TextU.sees (hw := by kernel_rfl); (focus (intro x hx K hK; have hc := CE.out x hx; go_simp; exact hK)); simp only [Act.put, List.getElem_toArray, List.getElem_cons_succ, List.getElem_cons_zero, List.setIfInBounds_toArray, List.set_cons_zero, List.set_cons_succ]) | (apply TextU.idle; (focus (intro x hx K hK; go_simp; exact hK)); simp only [Act.put, List.getElem_toArray, List.getElem_cons_succ, List.getElem_cons_zero, List.setIfInBounds_toArray, List.set_cons_zero, List.set_cons_succ]))
          (refine TextU.loudv (fun i => some i = u.ownBlock) (V := fun v y => ∃ x, Old w1 x ∧ v = .slice (some ⟨x.heap.size, 0, none⟩) 1 1 ∧ y = x.alloc (.cells #[.int .i64 Z] 22)) (fun _ h => h) (fun x hx => ⟨_, _, build_one _ _ Z (.tmp 62) rfl rfl x, ⟨x, hx, rfl, rfl⟩, Near.of (tbel1 x _)⟩) (by kernel_rfl) (fun v2 y2 hv2 _ => ?_); simp only [Act.put, List.getElem_toArray, List.getElem_cons_succ, List.getElem_cons_zero, List.setIfInBounds_toArray, List.set_cons_zero, List.set_cons_succ])
          obtain ⟨x, hx, rfl, rfl⟩ := hv2
          have hown2 := (own_carry (B := 0) hown1 hx).alloc (.cells #[.int .i64 Z] 22)
          have hxz := hx.size
          (refine TextU.loudv (fun _ => False) (V := fun v3 w4 => ∃ z, Old (x.alloc (.cells #[.int .i64 Z] 22)) z ∧ w4.ownsRow (w.heap.size + 1) 22 1 v3 ((uptoS (fldK (fun t => strT t s.ord) l) k).length + 1) ((uptoS (fldK (fun t => strT t s.ord) l) k).map (Value.int .i64) ++ [.int .i64 Z]) ∧ z.grownBy w4 u.ownBlock) (fun _ h => h.elim) (fun z hz => app_one x z u Z _ _ (.tmp 54) (.tmp 63) rfl rfl rfl hown2 hz (by rw [uptoS_length]; omega) (by omega)) (by kernel_rfl) (fun v3 w4 hv3 _ => ?_); simp only [Act.put, List.getElem_toArray, List.getElem_cons_succ, List.getElem_cons_zero, List.setIfInBounds_toArray, List.set_cons_zero, List.set_cons_succ])
          obtain ⟨z, hz3, hown', hgrow⟩ := hv3
          apply TextU.done
          intro z2 hz2
          have hb4 : Below U.heap.size U z2 := by
            rw [hz]
            rw [hz] at hbl1
            have hown3 := own_carry (B := 0) hown2 hz3
            have hbz := ((hbl1.trans (hx.mono (by omega))).alloc (by omega) (.cells #[.int .i64 Z] 22)).trans (hz3.mono (by simp; omega))
            have hb5 : Below (w.heap.size + 1) U w4 := hbz.grown hgrow (by have := hz3.size; simp at this; omega) fun j ej => own_block_ge hown3 j ej.symm
            exact hb5.trans (hz2.mono (by have := hgrow.size; have := hz3.size; simp at this; omega))
          have hown4 := own_carry (B := 0) hown' hz2
          clear CE hgrow hown' hz2 hz3 hown2 hx
          have f2 := (B0.old hb4).five
          go_wp2
          go_roundw
          case rel =>
            have e : fldK (fun t => strT t s.ord) l k = Z := by rw [HEZ.out, HY.out]; rfl
            exact ⟨_, k + 1, rfl, by omega, by go_num, hb4, sound_snoc HH.out (by rw [← HY.out]; exact hs), by rw [uptoS_succ, e]; simpa using hown4⟩
          case measure => simp [intOf]; omega
    · obtain rfl : k = l.length := by omega
      have hOI : OwnI wr (w.heap.size + 1) _ (uptoS (fldK (fun t => strT t s.ord) l) l.length) := OwnI.mk hown (up_in fun j hj => inT_str (fld_in HR.out j hj) _)
      obtain ⟨P, hP⟩ : ∃ P, P = (uptoS (fldK (fun t => strT t s.ord) l) l.length) := ⟨_, rfl⟩
      rw [← hP] at hOI
      obtain ⟨pa, pc, rfl, hpc, hpm, hpr⟩ := hOI.row
      have hPn : P.length ≤ 1000000 := by rw [hP]; simp [uptoS]; try omega
      have hall := all_go HH.out
      have HALL := Lib.hid hall
      clear hall
      have hPl : P.length = l.length ∨ P.length = 0 := by rw [hP]; simp [uptoS]
      have HP := Lib.hid hP
      clear hP hOI hown HH
      have f1 := B1.five
      go_wp2_with fail
      clear f1
      refine (rall_any s.bye pa pc P _ hPn hbi hpc hpm hpr).mono ?_
      rintro e w5 ⟨lv, rfl, ho, b5⟩
      obtain ⟨la, lc, rfl, hlc, hlm, hlr⟩ := ho.row
      have B5 := B1.old b5
      have bw5 := bw.trans (b5.mono bw.size)
      have hz5 := bw5.size
      have HL2 := Lib.hid (share_at s.bye P 0)
      clear ho b5 hpr hpc hpm B1 bw hbl hzl b0 B0
      obtain ⟨SL, hSL⟩ : ∃ SL, SL = shareL s.bye P := ⟨_, rfl⟩
      rw [← hSL] at hlr HL2 hlc ⊢
      have HSL := Lib.hid hSL
      clear hSL
      have hU1 : w.heap.size + 1 ≤ w5.heap.size := Nat.succ_le_of_lt (Nat.lt_of_lt_of_le (by omega) B5.lt)
      go_wp2_with fail
      go_loopw [6, 9] (fun v i wr => ∃ k : Nat, k ≤ l.length ∧ i = .int .i64 k ∧ Below w5.heap.size w5 wr ∧ wr.ownsRow w5.heap.size 22 1 v k ((uptoS (sizeK s l) k).map (Value.int .i64))) (fun _ i _ => l.length - (intOf i).toNat)
      case atStart => exact ⟨0, Nat.zero_le _, rfl, Below.refl _ _, by simpa [uptoS] using World.ownsRow_nil w5 w5.heap.size 22 1⟩
      case round =>
        obtain ⟨k, hk, rfl, hbl, hown⟩ := hrel
        have bw := bw5.trans (hbl.mono hz5)
        have hzl := hbl.size
        by_cases hlt : k < l.length
        · obtain ⟨hiy, b, off, rfl, hB, h0, h1, h2, h3, h4, h5⟩ := HR.out.carry bw (Nat.le_refl _) k hlt
          have f1 := (B5.old hbl).five
          have hqb := sizeK_in s l HF.out HALL.out k hlt
          obtain ⟨y, hy⟩ : ∃ y, y = l.getD k zeroT := ⟨_, rfl⟩
          obtain ⟨q, hq⟩ : ∃ q, q = sizeK s l k := ⟨_, rfl⟩
          have hqv := hq
          unfold sizeK at hqv
          rw [← hy] at h0 h1 h2 h3 h4 h5
          rw [← hq] at hqb
          rw [← hy, if_pos hh] at hqv
          have HY := Lib.hid (And.intro hy hq)
          clear hy hiy hq
          rw [show shareL s.bye (partG s l) = SL from by rw [HSL.out, HP.out, part_1 l hh]] at hqv
          by_cases hm : 0 < SL.length
          · have hk2 : k < SL.length := by have e1 := HL2.out hm; omega
            obtain ⟨hzi, b', off', rfl, hB', hcz⟩ := hlr.carry hbl (Nat.le_refl _) k hk2
            obtain ⟨z, ez⟩ : ∃ z, z = SL.getD k 0 := ⟨_, rfl⟩
            rw [← ez] at hcz hqv
            have hw : wrap64 (y.n + z) = q := by rw [← hqv]; unfold wrap64; omega
            have hk3 : ¬ SL.length ≤ k := by omega
            clear hqv hqb ez hzi
            go_wp2_with (at_builtin; refine wpList_append_own _ rfl _ _ 36 rfl w5.heap.size 22 i0 (.int .i64 0) 1 8 Try.underlying36 hi hz0 hz1 hz2 rfl (by decide) _ _ _ rfl (hown.alloc _) ⟨wr.heap.size, 0, none⟩ 1 1 [.int .i64 q] rfl rfl (cell_one_new _ _ _) (by simp [Value.oneCell']) (by omega) (by omega) (by simp; omega) ?_; intro v' w6 hown' hgrow _)
            have hb6 : Below w5.heap.size w5 w6 := grow_below hbl hzl hown hgrow
            go_roundw
            case rel => exact ⟨k + 1, by omega, by go_num, hb6, by rw [uptoS_succ, ← HY.out.2]; simpa using hown'⟩
            case measure => simp [intOf]; omega
          · have hm0 : SL.length = 0 := by omega
            have hqv2 : q = y.n := by
              rw [hqv, List.eq_nil_of_length_eq_zero hm0]; simp
            rw [hm0]
            clear hqv
            subst hqv2
            go_wp2_with (at_builtin; refine wpList_append_own _ rfl _ _ 36 rfl w5.heap.size 22 i0 (.int .i64 0) 1 8 Try.underlying36 hi hz0 hz1 hz2 rfl (by decide) _ _ _ rfl (hown.alloc _) ⟨wr.heap.size, 0, none⟩ 1 1 [.int .i64 y.n] rfl rfl (cell_one_new _ _ _) (by simp [Value.oneCell']) (by omega) (by omega) (by simp; omega) ?_; intro v' w6 hown' hgrow _)
            have hb6 : Below w5.heap.size w5 w6 := grow_below hbl hzl hown hgrow
            go_roundw
            case rel => exact ⟨k + 1, by omega, by go_num, hb6, by rw [uptoS_succ, ← HY.out.2]; simpa using hown'⟩
            case measure => simp [intOf]; omega
        · obtain rfl : k = l.length := by omega
          go_wp2
          go_ret
          exact ⟨.inr ⟨HALL.out, _, rfl, own_mono hown (by omega)⟩, bw⟩
end Go.Proofs.Ytojphpncidjdiaa
namespace Go.Proofs.Ytojphpncidjdiaa
open Go.RowKit
set_option maxRecDepth 20000
set_option linter.unusedVariables false

theorem rsizes_any (s : S5) (a : Option Addr) (cap : Nat) (l : List T6) (w : World) (hn : l.length ≤ 1000000) (hr : GRow w.heap.size w a l) :
    Calls Try.prog 16 #[stg s, .slice a l.length cap] w fun e w' => ∃ v, e = .returned v ∧ OwnI w' w.heap.size v (sizesG s l) ∧ Below w.heap.size w w' := by
  have nope : ∀ e w', okG s l = false → e = Ending.returned (.slice none 0 0) ∧ Below w.heap.size w w' → ∃ v, e = .returned v ∧ OwnI w' w.heap.size v (sizesG s l) ∧ Below w.heap.size w w' := by
    rintro e w' ho ⟨rfl, h⟩
    refine ⟨_, rfl, ?_, h⟩
    unfold sizesG
    rw [ho]
    exact nil_own _ _
  by_cases h0 : 0 ≤ s.how
  · by_cases h3 : s.how ≤ 3
    · cases hb : fitB s.bye
      · refine (rsizes_a s a cap l.length w ?_).mono fun e w' => nope e w' (by unfold okG; rw [hb]; rfl)
        have hb' := fitB_false hb
        by_cases g : s.bye < 0
        · exact .inr (.inr (.inl ⟨h0, h3, g⟩))
        · exact .inr (.inr (.inr ⟨h0, h3, by omega, by omega⟩))
      · have fin : ∀ e w', (l.all soundT = false ∧ e = Ending.returned (.slice none 0 0) ∨ l.all soundT = true ∧ ∃ v, e = .returned v ∧ w'.ownsRow w.heap.size 22 1 v l.length ((uptoS (sizeK s l) l.length).map (Value.int .i64))) ∧ Below w.heap.size w w' → ∃ v, e = .returned v ∧ OwnI w' w.heap.size v (sizesG s l) ∧ Below w.heap.size w w' := by
          rintro e w' ⟨⟨hs, rfl⟩ | ⟨hs, v, rfl, ho⟩, h⟩
          · exact nope _ w' (by unfold okG; rw [hs]; simp) ⟨rfl, h⟩
          · refine ⟨v, rfl, ?_, h⟩
            have hok : okG s l = true := by unfold okG; rw [hb, hs, decide_eq_true h0, decide_eq_true h3]; rfl
            unfold sizesG
            rw [hok, cond_true]
            refine ⟨by rw [uptoS_length]; exact ho, up_in fun i hi => ?_⟩
            have := sizeK_in s l hb hs i hi
            unfold inR; omega
        rcases (show s.how = 0 ∨ s.how = 1 ∨ s.how = 2 ∨ s.how = 3 by omega) with d | d | d | d
        · exact (rsizes_0 s a cap l w hn hr hb d).mono fin
        · by_cases o0 : s.ord < 0
          · exact (rsizes_1n s a cap l w hn hr hb d o0).mono fin
          · by_cases o3 : 3 < s.ord
            · exact (rsizes_1b s a cap l w hn hr hb d o3).mono fin
            · exact (rsizes_1 s a cap l w hn hr hb d (by omega)).mono fin
        · exact (rsizes_2 s a cap l w hn hr hb d).mono fin
        · exact (rsizes_3 s a cap l w hn hr hb d).mono fin
    · exact (rsizes_a s a cap l.length w (.inr (.inl ⟨h0, by omega⟩))).mono fun e w' => nope e w' (by unfold okG; rw [decide_eq_false h3]; simp)
  · exact (rsizes_a s a cap l.length w (.inl (by omega))).mono fun e w' => nope e w' (by unfold okG; rw [decide_eq_false h0]; simp)
end Go.Proofs.Ytojphpncidjdiaa
