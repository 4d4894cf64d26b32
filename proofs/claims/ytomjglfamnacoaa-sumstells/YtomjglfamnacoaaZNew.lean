/- New of package sums. -/
import Derived.Test.YtomjglfamnacoaaZPos
namespace Go.Proofs.Ytomjglfamnacoaa
open Go.RowKit
set_option maxRecDepth 20000
set_option linter.unusedVariables false
set_option linter.unusedSimpArgs false

theorem fairM_no {l : List I7} {k : Nat} (hk : k < l.length) (h : fairT (totK l k) = false) : fairM l = false := by
  have : ¬ fairTo l l.length = true := fun e => by
    have := fairTo_all.1 e k hk
    rw [h] at this
    cases this
  unfold fairM
  rw [Bool.eq_false_iff.2 this]
  rfl
theorem fairM_yes {l : List I7} (hk : l.length ≤ 4096) (h : fairTo l l.length = true) : fairM l = true := by
  unfold fairM
  rw [h, decide_eq_true hk]
  rfl
/-- The next sum fits. -/
theorem next_fits {l : List I7} {k : Nat} (hk : k < l.length) (hl : l.length ≤ 4096) (h : fairTo l (k + 1) = true) : inT (sumK l k).t ∧ inT (totK l k) ∧ inT (plusT (sumK l k).t (totK l k)) ∧ inR ((sumK l k).b + (totK l k).n) ∧ inR ((sumK l k).g + 1) := by
  have h0 := fairTo_less h (Nat.le_succ k)
  have ht := fairTo_all.1 h k (by omega)
  have b0 := (preM_bd h0).inT (by omega)
  have b1 := (preM_bd h).inT (by omega)
  have bt := fairT_bd ht
  have bb := preS_bd (f := boxK l) (M := 4294967296) (k := k) fun i hi => boxK_bd (fairTo_all.1 h i (by omega))
  have gl := gluK_len l k
  have hn := bt.1
  refine ⟨b0, bt.inT (by omega), b1, ?_, ?_⟩
  · unfold inR sumK
    dsimp only
    omega
  · unfold inR sumK
    dsimp only
    omega
theorem own_no {w : World} {B e : Nat} {sz : Nat} {v : Value} {n : Nat} {xs : List Value} {p : Nat} {cs : Array Value} {T : TypeId} (h : w.ownsRow B e sz v n xs) (hp : Blk w p cs T) (hT : T ≠ e) : ¬ some p = v.ownBlock := by
  intro e1
  rcases h.2 with ⟨rfl, _⟩ | ⟨g, cap, cur, rfl, _, hg, _⟩
  · simp [Value.ownBlock] at e1
  · obtain rfl : p = g := by simpa [Value.ownBlock] using e1
    exact Blk.apart hp hg hT rfl
theorem newP_start (l : List I7) (w : World) : NewP w.heap.size l 0 (.slice none 0 0) (w.heap.size + 1) w.heap.size ((w.alloc (.cells (madeCells eightZ ((l.length + 1) * 8)) 57)).alloc (.cells #[.slice (some ⟨w.heap.size, 0, none⟩) (l.length + 1) (l.length + 1), .slice none 0 0] 53)) := by
  refine ⟨((arr_made (blk_new w _ _)).old (tbel1 _ _)).congr fun i hi => ?_, blk_two w _ _ _, ⟨by simp [gluK], .inl ⟨rfl, rfl⟩⟩, Nat.le_refl _, Nat.le_succ _⟩
  by_cases h : i ≤ 0
  · obtain rfl : i = 0 := by omega
    rw [if_pos h]
    rfl
  · rw [if_neg h]
/-- What New made. -/
theorem NewP.sums {B p g : Nat} {l : List I7} {gv : Value} {w : World} (h : NewP B l l.length gv p g w) : SumAt w (.pointer (some ⟨p, 0, none⟩)) l := by
  obtain ⟨a, cap, rfl, h1, h2, ho⟩ := own_of (d := zeroT) h.own encT_len
  exact ⟨p, _, a, cap, rfl, h.head, h.arr.els.congr fun k hk => by rw [if_pos (by omega)], ⟨h1, h2⟩, ho.els⟩
set_option maxHeartbeats 4000000 in
theorem snew_any (a : Option Addr) (cap : Nat) (l : List I7) (w : World) (hn : l.length ≤ 1000000) (hr : Els 7 encI w a l.length fun k => l.getD k zeroI) :
    Calls Try.prog 7 #[.slice a l.length cap] w fun e w' => ∃ v, e = .returned (.tuple #[v, .bool (fairM l)]) ∧ (fairM l = true → SumAt w' v l) ∧ (fairM l = false → v = .pointer none) ∧ Below w.heap.size w w' := by
  have hmx : 1000002 ≤ maxLen := by decide
  by_cases h4 : 4096 < l.length
  · have e : fairM l = false := by
      unfold fairM
      rw [decide_eq_false (by omega)]
      simp
    rw [e]
    clear hr
    go_enter Try.func7, Try.ntmps7
    go_wp2
    refine bodyPost_ret (v := .tuple #[.pointer none, .bool false]) (by simp [results, Try.results7, go_sem, *]) rfl ?_
    exact ⟨_, rfl, fun h => (by cases h), fun _ => rfl, Below.refl _ _⟩
  · have HR := Lib.hid hr
    have mk := make_sums (l.length + 1) (by omega)
    simp only [Int.natCast_add, Int.natCast_one] at mk
    obtain ⟨i0, hi, hz0, hz1, hz2⟩ := info_parts info_tot
    clear hr
    go_enter Try.func7, Try.ntmps7
    go_wp2_with fail
    have P0 := newP_start l w
    have b0 := tbel2 w (.cells (madeCells eightZ ((l.length + 1) * 8)) 57) (.cells #[.slice (some ⟨w.heap.size, 0, none⟩) (l.length + 1) (l.length + 1), .slice none 0 0] 53)
    clear mk
    go_loopw [18] (fun i wr => ∃ (k : Nat) (gv : Value), k ≤ l.length ∧ i = .int .i64 k ∧ Below w.heap.size w wr ∧ Hid (NewP w.heap.size l k gv (w.heap.size + 1) w.heap.size wr) ∧ Hid (fairTo l k = true)) (fun i _ => l.length - (intOf i).toNat)
    case atStart => exact ⟨0, _, Nat.zero_le _, rfl, b0, Lib.hid P0, Lib.hid (by simp [fairTo])⟩
    case round =>
      clear P0 b0
      obtain ⟨k, gv, hk, rfl, hbl, HP, HF⟩ := hrel
      have hps := HP.out.head.lt
      by_cases hlt : k < l.length
      · obtain ⟨b, off, rfl, hB, _⟩ := HR.out.item hlt
        obtain ⟨_, _, e, _, d0, d1, d2, d3, d4, d5, d6⟩ := (HR.out.carry hbl).item hlt
        cases e
        obtain ⟨y, hy⟩ : ∃ y, y = l.getD k zeroI := ⟨_, rfl⟩
        rw [← hy] at d0 d1 d2 d3 d4 d5 d6
        obtain ⟨t, ht⟩ : ∃ t, t = totalI y := ⟨_, rfl⟩
        have HT : Hid (t = totK l k) := Lib.hid (by rw [ht, hy]; rfl)
        have cT := fun x => itotal_any y x
        rw [← ht] at cT
        have HY := Lib.hid hy
        clear hy ht
        have cS := fun x => sfair_any t x
        unfold tot itm at cT
        unfold tot at cS
        go_wp2_with fail
        refine (cT _).mono ?_
        rintro e w1 ⟨rfl, b1⟩
        clear cT d1 d2 d3 d4 d5 d6
        go_wp2_with fail
        refine (cS _).mono ?_
        rintro e w2 ⟨rfl, b2⟩
        clear cS
        have T2 := (blk_new w1 _ _).old b2
        have b3 := tstep (b1.alloc b1.size _) b2 (b1.alloc b1.size _).size
        have hb1s := b1.size
        have d0' := (b3.cell (p := ⟨b, off + k * 7, none⟩) (Nat.lt_of_lt_of_le hB hbl.size)).trans d0
        have HP2 := Lib.hid (HP.out.old b3)
        have hbl2 := tstep hbl b3 hbl.size
        have hge : Hid (∀ i, some i = gv.ownBlock → i < wr.heap.size) := Lib.hid fun i e => (World.ownsRow.lt HP.out.own i e.symm).2
        clear b1 b2 b3 d0 HP hbl
        generalize hfo : fairT t = o
        have HO := Lib.hid hfo
        clear hfo
        cases o
        · go_wp2
          refine bodyPost_ret (v := .tuple #[.pointer none, .bool false]) (by simp [results, Try.results7, go_sem, *]) rfl ?_
          have e : fairM l = false := fairM_no hlt (by rw [← HT.out]; exact HO.out)
          exact ⟨_, by rw [e], fun h => (by rw [e] at h; cases h), fun _ => rfl, hbl2⟩
        · have HF2 : Hid (fairTo l (k + 1) = true) := Lib.hid (by rw [fairTo_next, HF.out, ← HT.out, HO.out]; rfl)
          obtain ⟨f1, f2, f3, f4, f5⟩ := next_fits hlt (by omega) HF2.out
          obtain ⟨s, hs⟩ : ∃ s, s = sumK l k := ⟨_, rfl⟩
          obtain ⟨n1, hn1⟩ : ∃ n1, n1 = sumK l (k + 1) := ⟨_, rfl⟩
          have cW := fun x => with_any s y.k t x (by rw [hs]; exact f1) (by rw [HT.out]; exact f2) (by rw [hs, HT.out]; exact f3) (by rw [hs, HT.out]; exact f4) (by rw [hs]; exact f5)
          rw [show withS s y.k t = n1 by rw [hn1, sumK_next, hs, HT.out, HY.out]] at cW
          have u1 : IntKind.i64.wrap ((k : Int) + 1) = (k : Int) + 1 := by rw [IntKind.wrap_i64]; omega
          have k1 : (k : Int) < (l.length : Int) + 1 := by omega
          have k2 : (k : Int) + 1 < (l.length : Int) + 1 := by omega
          have CE := Lib.hid fun x (hx : Old w2 x) => And.intro u1 <| And.intro k1 <| And.intro k2 <| And.intro ((HP2.out.old hx).ce hlt s hs) (And.intro ((hx.cell (p := ⟨b, off + k * 7, none⟩) (Nat.lt_of_lt_of_le hB hbl2.size)).trans d0') (T2.old hx).six)
          have HS := Lib.hid hn1
          clear f1 f2 f3 f4 f5 hs hn1
          unfold sm8 tot at cW
          go_wp2_with fail
          (refine wp_region_text (Old w2) 21 (by kernel_rfl) (by kernel_rfl) (Below.refl _ w2).drew ?_; simp only [List.take_succ_cons, List.take_zero, List.drop_succ_cons, List.drop_zero])
          repeat (first | (apply Text.sees (hw := by kernel_rfl); (focus (intro x hx K hK; have hc := CE.out x hx; go_simp; exact hK)); simp only [Act.put, List.getElem_toArray, List.getElem_cons_succ, List.getElem_cons_zero, List.setIfInBounds_toArray, List.set_cons_zero, List.set_cons_succ]) | (apply Text.idle; (focus (intro x hx K hK; go_simp; exact hK)); simp only [Act.put, List.getElem_toArray, List.getElem_cons_succ, List.getElem_cons_zero, List.setIfInBounds_toArray, List.set_cons_zero, List.set_cons_succ]))
          (refine Text.call (Old.call fun x hx => cW x) (by kernel_rfl) (fun _ => by kernel_rfl) ?_; simp only [Act.put, List.getElem_toArray, List.getElem_cons_succ, List.getElem_cons_zero, List.setIfInBounds_toArray, List.set_cons_zero, List.set_cons_succ])
          repeat (first | (apply Text.sees (hw := by kernel_rfl); (focus (intro x hx K hK; have hc := CE.out x hx; go_simp; exact hK)); simp only [Act.put, List.getElem_toArray, List.getElem_cons_succ, List.getElem_cons_zero, List.setIfInBounds_toArray, List.set_cons_zero, List.set_cons_succ]) | (apply Text.idle; (focus (intro x hx K hK; go_simp; exact hK)); simp only [Act.put, List.getElem_toArray, List.getElem_cons_succ, List.getElem_cons_zero, List.setIfInBounds_toArray, List.set_cons_zero, List.set_cons_succ]))
          intro x hx
          have HP3 := Lib.hid (HP2.out.old hx)
          have hbl3 := tstep hbl2 hx hbl2.size
          have rm := HP3.out.room hlt
          clear CE cW
          go_upto_region 11 with (fail)
          obtain ⟨A1, H1, O1, B1, C1⟩ := HP3.out.put hlt n1 HS.out
          have hlow := HP3.out.low
          have T3 := C1.block _ _ _ (T2.old hx) (by decide)
          have d1' := (hx.cell (p := ⟨b, off + k * 7, none⟩) (Nat.lt_of_lt_of_le hB hbl2.size)).trans d0'
          replace d1' := (B1.cell (p := ⟨b, off + k * 7, none⟩) hB).trans d1'
          have hbV := Below.trans hbl3 B1
          clear rm
          generalize (((((((World.setCell x _ _).setCell _ _).setCell _ _).setCell _ _).setCell _ _).setCell _ _).setCell _ _).setCell _ _ = V at A1 H1 O1 B1 C1 T3 d1' hbV ⊢
          have HA := Lib.hid A1
          have HH := Lib.hid H1
          have HO1 := Lib.hid O1
          have hpV := H1.lt
          have hVs := hbV.size
          clear A1 O1 B1 C1 T2 d0' hbl2 hbl3 hx HP3 HP2
          by_cases hk2 : y.k = 2
          · have HG : Hid (gluK l (k + 1) = gluK l k ++ [t]) := Lib.hid (by rw [gluK_next, if_pos (by rw [← HY.out]; exact hk2), HT.out])
            have hlen := gluK_len l k
            have hM1 : ¬ some (w.heap.size + 1) = gv.ownBlock := own_no HO1.out H1 (by decide)
            have hM2 : ¬ some w1.heap.size = gv.ownBlock := fun e => by have := hge.out _ e; omega
            have CF := Lib.hid fun z (hz : Near (fun i => some i = gv.ownBlock) V z) => And.intro (near_at hz (show V.cell? ⟨w.heap.size + 1, 1, none⟩ = some gv from H1.cell 1) hM1) ((T3.near hz hM2).six)
            clear hM1 hM2 H1 T3
            go_wp2_with fail
            (refine wp_region_planU 8 [(0, true), (1, true), (2, true), (3, true), (4, true), (5, true), (6, false), (7, false)] (fun i => some i = gv.ownBlock) (by kernel_rfl) (by kernel_rfl) ?_; simp only [pick, List.getElem?_cons_succ, List.getElem?_cons_zero, List.drop_succ_cons, List.drop_zero])
            repeat (first | (apply TextU.sees (hw := by kernel_rfl); (focus (intro x hx K hK; have hc := CF.out x hx; go_simp; exact hK)); simp only [Act.put, List.getElem_toArray, List.getElem_cons_succ, List.getElem_cons_zero, List.setIfInBounds_toArray, List.set_cons_zero, List.set_cons_succ]) | (apply TextU.idle; (focus (intro x hx K hK; go_simp; exact hK)); simp only [Act.put, List.getElem_toArray, List.getElem_cons_succ, List.getElem_cons_zero, List.setIfInBounds_toArray, List.set_cons_zero, List.set_cons_succ]))
            (refine TextU.loudv (fun i => some i = gv.ownBlock) (V := fun v z => ∃ x, Old V x ∧ v = .slice (some ⟨x.heap.size, 0, none⟩) 1 1 ∧ z = x.alloc (.cells (encT t).toArray 31)) (fun _ h => h) (fun x hx => ⟨_, _, build_T _ _ t (.tmp 61) rfl rfl x, ⟨x, hx, rfl, rfl⟩, Near.of (tbel1 x _)⟩) (by kernel_rfl) (fun v2 y2 hv2 _ => ?_); simp only [Act.put, List.getElem_toArray, List.getElem_cons_succ, List.getElem_cons_zero, List.setIfInBounds_toArray, List.set_cons_zero, List.set_cons_succ])
            obtain ⟨z1, hz1', rfl, rfl⟩ := hv2
            have hz1s := hz1'.size
            (refine TextU.loudv (fun _ => False) (V := fun v w' => ∃ z, Old (z1.alloc (.cells (encT t).toArray 31)) z ∧ (w'.ownsRow w.heap.size 31 6 v (gluK l k ++ [t]).length ((gluK l k ++ [t]).map encT).flatten ∧ Below w.heap.size z w' ∧ Chg 31 z w')) (fun _ h => h.elim) (fun z hz => (app_E Try.underlying35 hi hz0 hz1 hz2 rfl (by decide) encT_len encT_one z1 z _ t _ _ (.tmp 60) (.tmp 62) rfl rfl rfl ((own_old HO1.out hz1').alloc _) hz (by omega) (by omega) (by omega)).imp fun v' => fun ⟨w', e1, e2, e3⟩ => ⟨w', e1, ⟨z, hz, e2⟩, e3⟩) (by kernel_rfl) (fun v3 w4 hv3 _ => ?_); simp only [Act.put, List.getElem_toArray, List.getElem_cons_succ, List.getElem_cons_zero, List.setIfInBounds_toArray, List.set_cons_zero, List.set_cons_succ])
            obtain ⟨z, hz3, hown', hb3, hc3⟩ := hv3
            apply TextU.done
            intro z2 hz2'
            obtain ⟨a', c', rfl, hc1', hc2'⟩ := own_form hown'
            have OV : Old V z := Old.old (Old.trans hz1' (tbel1 z1 _)) hz3
            have H2 := (hc3.block _ _ _ (HH.out.old OV) (by decide)).old hz2'
            have HA2 := Lib.hid (((HA.out.old OV).chg hc3 (by decide)).old hz2')
            have hown2 := own_old hown' hz2'
            have hb4 : Below w.heap.size w z2 := Below.trans (Below.trans (Below.trans hbV (Below.mono OV hVs)) hb3) (Below.mono hz2' (by have := hb3.size; have := OV.size; omega))
            have q1 := H2.cell 1
            have f1 := H2.free 1
            have hpz := H2.lt
            have C5 := Chg.set H2 1 (.slice a' (gluK l k ++ [t]).length c')
            have HN : Hid (NewP w.heap.size l (k + 1) (.slice a' (gluK l k ++ [t]).length c') (w.heap.size + 1) w.heap.size (z2.setCell ⟨w.heap.size + 1, 1, none⟩ (.slice a' (gluK l k ++ [t]).length c'))) := Lib.hid ⟨HA2.out.chg C5 (by decide), H2.set 1 _, by rw [HG.out]; exact own_chg hown2 C5 (by decide), hlow⟩
            have hb5 := hb4.setCell (p := ⟨w.heap.size + 1, 1, none⟩) (by simp) (.slice a' (gluK l k ++ [t]).length c')
            rw [show (gluK l k ++ [t]).length = (gluK l k).length + 1 by simp] at hb5 HN
            clear CF hz1' hz3 hown' hb3 hc3 hz2' OV H2 HA2 hown2 hb4 C5 HA HH HO1 hbV
            go_wp2
            go_roundw
            case rel => exact ⟨k + 1, _, by omega, by go_num, hb5, HN, HF2⟩
            case measure => simp [intOf]; omega
          · have HN : Hid (NewP w.heap.size l (k + 1) gv (w.heap.size + 1) w.heap.size V) := Lib.hid ⟨HA.out, HH.out, by rw [gluK_next, if_neg (by rw [← HY.out]; exact hk2)]; exact HO1.out, hlow⟩
            clear H1 T3 HA HH HO1
            go_wp2
            go_roundw
            case rel => exact ⟨k + 1, _, by omega, by go_num, hbV, HN, HF2⟩
            case measure => simp [intOf]; omega
      · obtain rfl : k = l.length := by omega
        go_wp2
        refine bodyPost_ret (v := .tuple #[.pointer (some ⟨w.heap.size + 1, 0, none⟩), .bool true]) (by simp [results, Try.results7, go_sem, *]) rfl ?_
        have e := fairM_yes (by omega) HF.out
        exact ⟨_, by rw [e], fun _ => HP.out.sums, fun h => (by rw [e] at h; cases h), hbl⟩
end Go.Proofs.Ytomjglfamnacoaa
