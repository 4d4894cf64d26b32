/- The document's answers for sums: Fair, Of, Boxes, Glues, Same. The document's answers for sums: Of, Glues, Same. -/
import Derived.Test.YtomjglfamnacoaaZGet
namespace Go.Proofs.Ytomjglfamnacoaa
open Go.RowKit
set_option maxRecDepth 20000
set_option linter.unusedVariables false
set_option linter.unusedSimpArgs false

set_option maxHeartbeats 1000000 in
theorem rFair_any (a : Option Addr) (cap : Nat) (l : List I7) (w : World) (hn : l.length ≤ 1000000) (hr : Els 7 encI w a l.length fun k => l.getD k zeroI) :
    Calls Try.prog 8 #[.slice a l.length cap] w fun e w' => e = .returned (.bool (fairM l)) ∧ Below w.heap.size w w' := by
  have HR := Lib.hid hr
  clear hr
  go_enter Try.func8, Try.ntmps8
  go_wp2_with fail
  go_loopw [3] (fun i wr => ∃ k : Nat, k ≤ l.length ∧ i = .int .i64 k ∧ Below w.heap.size w wr ∧ Hid (fairTo l k = true)) (fun i _ => l.length - (intOf i).toNat)
  case atStart => exact ⟨0, Nat.zero_le _, rfl, Below.refl _ _, Lib.hid (by simp [fairTo])⟩
  case round =>
    obtain ⟨k, hk, rfl, hbl, HF⟩ := hrel
    by_cases hlt : k < l.length
    · obtain ⟨b, off, rfl, hB, d0, d1, d2, d3, d4, d5, d6⟩ := (HR.out.carry hbl).item hlt
      obtain ⟨y, hy⟩ : ∃ y, y = l.getD k zeroI := ⟨_, rfl⟩
      rw [← hy] at d0 d1 d2 d3 d4 d5 d6
      obtain ⟨t, ht⟩ : ∃ t, t = totalI y := ⟨_, rfl⟩
      have HT : Hid (t = totK l k) := Lib.hid (by rw [ht, hy]; rfl)
      have cT := fun x => irtotal_any y x
      rw [← ht] at cT
      clear hy ht
      have cS := fun x => rfair_any t x
      unfold tot itm at cT
      unfold tot at cS
      go_wp2_with fail
      refine (cT _).mono ?_
      rintro e w1 ⟨rfl, b1⟩
      replace b1 := tstep hbl b1 hbl.size
      clear cT d0 d1 d2 d3 d4 d5 d6
      go_wp2_with fail
      refine (cS _).mono ?_
      rintro e w2 ⟨rfl, b2⟩
      replace b2 := tstep b1 b2 b1.size
      clear cS b1 hbl
      generalize hfo : fairT t = o
      have HO := Lib.hid hfo
      clear hfo
      cases o
      · go_wp2
        go_ret
        exact ⟨by rw [fairM_no hlt (by rw [← HT.out]; exact HO.out)]; rfl, b2⟩
      · go_wp2
        go_roundw
        case rel => exact ⟨k + 1, by omega, by go_num, b2, Lib.hid (by rw [fairTo_next, HF.out, ← HT.out, HO.out]; rfl)⟩
        case measure => simp [intOf]; omega
    · obtain rfl : k = l.length := by omega
      have hM : fairM l = decide (l.length ≤ 4096) := by unfold fairM; rw [HF.out]; rfl
      have HM := Lib.hid hM
      clear hM
      go_wp2
      go_ret
      exact ⟨by rw [HM.out]; simp <;> omega, hbl⟩
set_option maxHeartbeats 1000000 in
theorem rBoxes_any (a : Option Addr) (cap : Nat) (l : List I7) (x y : Int) (w : World) (hl : l.length ≤ 4096) (hf : fairTo l l.length = true) (hr : Els 7 encI w a l.length fun k => l.getD k zeroI) :
    Calls Try.prog 15 #[.slice a l.length cap, .int .i64 x, .int .i64 y] w fun e w' => e = .returned (.int .i64 (rngS (boxK l) x y l.length)) ∧ w' = w := by
  have HR := Lib.hid hr
  have HB := Lib.hid fun k (hk : k ≤ l.length) => selS_bd (f := boxK l) (M := 4294967296) (a := x) (b := y) (k := k) (by omega) fun i hi => boxK_bd (fairTo_all.1 hf i (by omega))
  have HS := Lib.hid fun k => @selS_in (boxK l) x y k
  have HO := Lib.hid fun k => @selS_out (boxK l) x y k
  clear hr hf
  rw [← selS_rng]
  go_enter Try.func15, Try.ntmps15
  go_wp2_with fail
  go_loopw [7, 8] (fun u i wr => ∃ k : Nat, k ≤ l.length ∧ i = .int .i64 k ∧ u = .int .i64 (selS (boxK l) x y k) ∧ wr = w) (fun _ i _ => l.length - (intOf i).toNat)
  case atStart => exact ⟨0, Nat.zero_le _, rfl, rfl, rfl⟩
  case round =>
    obtain ⟨k, hk, rfl, rfl, hwr⟩ := hrel
    subst hwr
    by_cases hlt : k < l.length
    · obtain ⟨b, off, rfl, hB, d0, d1, d2, d3, d4, d5, d6⟩ := HR.out.item hlt
      have hb0 := HB.out k hk
      have hb1 := HB.out (k + 1) hlt
      have hin := Lib.hid (HS.out k)
      have hout := Lib.hid (HO.out k)
      have hbx : Hid (boxK l k = if (l.getD k zeroI).k = 1 then (l.getD k zeroI).h else 0) := Lib.hid rfl
      obtain ⟨z, hz⟩ : ∃ z, z = l.getD k zeroI := ⟨_, rfl⟩
      rw [← hz] at d0 d1 d2 d3 d4 d5 d6 hbx
      clear hz
      generalize boxK l k = c at *
      by_cases h1 : x ≤ k
      · by_cases h2 : (k : Int) < y
        · have e1 := hin.out ⟨h1, h2⟩
          clear hin hout
          by_cases h3 : z.k = 1
          · have e2 : c = z.h := by rw [hbx.out, if_pos h3]
            rw [e2] at e1
            have E1 := Lib.hid e1
            rw [e1] at hb1
            clear e1 e2 hbx
            generalize selS (boxK l) x y k = s at *
            go_wp2
            go_roundw
            case rel => exact ⟨k + 1, by omega, by go_num, by rw [E1.out], trivial⟩
            case measure => simp [intOf]; omega
          · have e2 : c = 0 := by rw [hbx.out, if_neg h3]
            have E1 := Lib.hid (show selS (boxK l) x y (k + 1) = selS (boxK l) x y k by rw [e1, e2]; omega)
            clear e1 e2 hbx hb1
            generalize selS (boxK l) x y k = s at *
            go_wp2
            go_roundw
            case rel => exact ⟨k + 1, by omega, by go_num, by rw [E1.out], trivial⟩
            case measure => simp [intOf]; omega
        · have E1 := Lib.hid (hout.out (fun h => h2 h.2))
          clear hin hout hbx hb1
          generalize selS (boxK l) x y k = s at *
          go_wp2
          go_roundw
          case rel => exact ⟨k + 1, by omega, by go_num, by rw [E1.out], trivial⟩
          case measure => simp [intOf]; omega
      · have E1 := Lib.hid (hout.out (fun h => h1 h.1))
        clear hin hout hbx hb1
        generalize selS (boxK l) x y k = s at *
        go_wp2
        go_roundw
        case rel => exact ⟨k + 1, by omega, by go_num, by rw [E1.out], trivial⟩
        case measure => simp [intOf]; omega
    · obtain rfl : k = l.length := by omega
      go_wp2
      go_ret
      exact ⟨rfl, rfl⟩
end Go.Proofs.Ytomjglfamnacoaa
namespace Go.Proofs.Ytomjglfamnacoaa
open Go.RowKit
set_option maxRecDepth 20000
set_option linter.unusedVariables false
set_option linter.unusedSimpArgs false

theorem Blk.sixT {w : World} {g : Nat} {T : TypeId} {u : T6} (h : Blk w g #[.int .i64 u.n, .int .i64 u.s0, .int .i64 u.s1, .int .i64 u.s2, .int .i64 u.s3, .int .i64 u.h] T) (t : T6) : Blk ((((((w.setCell ⟨g, 0, none⟩ (.int .i64 t.n)).setCell ⟨g, 1, none⟩ (.int .i64 t.s0)).setCell ⟨g, 2, none⟩ (.int .i64 t.s1)).setCell ⟨g, 3, none⟩ (.int .i64 t.s2)).setCell ⟨g, 4, none⟩ (.int .i64 t.s3)).setCell ⟨g, 5, none⟩ (.int .i64 t.h)) g #[.int .i64 t.n, .int .i64 t.s0, .int .i64 t.s1, .int .i64 t.s2, .int .i64 t.s3, .int .i64 t.h] T := h.set6 _ _ _ _ _ _
theorem res_T (t : T6) : ∀ y, Sem.run Try.prog (Instr.field 44 (.agg #[.int .i64 t.n, .int .i64 t.s0, .int .i64 t.s1, .int .i64 t.s2, .int .i64 t.s3, .int .i64 t.h, .bool true]) 0) y = .ok (.agg #[.int .i64 t.n, .int .i64 t.s0, .int .i64 t.s1, .int .i64 t.s2, .int .i64 t.s3, .int .i64 t.h]) y := fun y => by kernel_rfl
/-- While the document's Of goes on. -/
structure RoI (w wr : World) (M : T6) : Prop where
  out : Blk wr w.heap.size #[.int .i64 0, .int .i64 0, .int .i64 0, .int .i64 0, .int .i64 0, .int .i64 0] 31
  sum : Blk wr (w.heap.size + 1) #[.int .i64 M.n, .int .i64 M.s0, .int .i64 M.s1, .int .i64 M.s2, .int .i64 M.s3, .int .i64 M.h] 31
  bel : Below w.heap.size w wr
theorem RoI.old {w wr x : World} {M : T6} (h : RoI w wr M) (hx : Old wr x) : RoI w x M := ⟨h.out.old hx, h.sum.old hx, tstep h.bel hx h.bel.size⟩
theorem RoI.set {w wr : World} {M : T6} (h : RoI w wr M) (t : T6) : RoI w ((((((wr.setCell ⟨w.heap.size + 1, 0, none⟩ (.int .i64 t.n)).setCell ⟨w.heap.size + 1, 1, none⟩ (.int .i64 t.s0)).setCell ⟨w.heap.size + 1, 2, none⟩ (.int .i64 t.s1)).setCell ⟨w.heap.size + 1, 3, none⟩ (.int .i64 t.s2)).setCell ⟨w.heap.size + 1, 4, none⟩ (.int .i64 t.s3)).setCell ⟨w.heap.size + 1, 5, none⟩ (.int .i64 t.h)) t :=
  ⟨h.out.other6 (by omega) _ _ _ _ _ _, h.sum.sixT t, Below.new6 h.bel (by omega) _ _ _ _ _ _⟩
set_option maxHeartbeats 4000000 in
theorem rOf_any (a : Option Addr) (cap : Nat) (l : List I7) (p q : Int) (w : World) (hl : l.length ≤ 4096) (hf : fairTo l l.length = true) (hr : Els 7 encI w a l.length fun k => l.getD k zeroI) :
    Calls Try.prog 10 #[.slice a l.length cap, .int .i64 p, .int .i64 q] w fun e w' => e = .returned (tot (rngM l p q)) ∧ Below w.heap.size w w' := by
  have HR := Lib.hid hr
  have HFt := Lib.hid fun k (hk : k < l.length) => (fairT_bd (fairTo_all.1 hf k hk)).inT (by omega)
  have HB := Lib.hid fun k (hk : k ≤ l.length) => (selM_bd (a := p) (b := q) (fairTo_less hf hk)).inT (by omega)
  clear hr hf
  have HE := Lib.hid (selM_rng l p q)
  generalize rngM l p q = RR at *
  unfold tot
  go_enter Try.func10, Try.ntmps10
  go_wp2_with fail
  have R0 : RoI w ((w.alloc (.cells #[.int .i64 0, .int .i64 0, .int .i64 0, .int .i64 0, .int .i64 0, .int .i64 0] 31)).alloc (.cells #[.int .i64 0, .int .i64 0, .int .i64 0, .int .i64 0, .int .i64 0, .int .i64 0] 31)) (selM l p q 0) := ⟨(blk_new w _ _).alloc _, blk_two w _ _ _, tbel2 w _ _⟩
  go_loopw [8] (fun i wr => ∃ k : Nat, k ≤ l.length ∧ i = .int .i64 k ∧ Hid (RoI w wr (selM l p q k))) (fun i _ => l.length - (intOf i).toNat)
  case atStart => exact ⟨0, Nat.zero_le _, rfl, Lib.hid R0⟩
  case round =>
    clear R0
    obtain ⟨k, hk, rfl, HI⟩ := hrel
    have hbl := HI.out.bel
    have hzs := HI.out.sum.lt
    by_cases hlt : k < l.length
    · obtain ⟨b, off, rfl, hB, d0, d1, d2, d3, d4, d5, d6⟩ := (HR.out.carry hbl).item hlt
      have hin := Lib.hid (@selM_in l p q k)
      have hout := Lib.hid (@selM_out l p q k)
      by_cases h1 : p ≤ k
      · by_cases h2 : (k : Int) < q
        · have e1 := hin.out ⟨h1, h2⟩
          have hb0 := HB.out k hk
          have hb1 := HB.out (k + 1) hlt
          have hbt := HFt.out k hlt
          rw [e1] at hb1
          obtain ⟨y, hy⟩ : ∃ y, y = l.getD k zeroI := ⟨_, rfl⟩
          rw [← hy] at d0 d1 d2 d3 d4 d5 d6
          obtain ⟨t, ht⟩ : ∃ t, t = totK l k := ⟨_, rfl⟩
          have ht2 : t = totalI y := by rw [ht, hy]; rfl
          rw [← ht] at e1 hb1 hbt
          have cT := fun x => irtotal_any y x
          rw [← ht2] at cT
          have E1 := Lib.hid e1
          clear hy ht ht2 e1 hin hout
          generalize selM l p q k = M at *
          have cA := fun x => rAdd7_any M t x hb0 hbt
          rw [add_fits hb1] at cA
          have hF := res_T (plusT M t)
          generalize plusT M t = G at *
          clear hb0 hb1 hbt
          go_wp2_with fail
          have CE := Lib.hid fun x (hx : Old wr x) => by
            have gg : ∀ i v, wr.cell? ⟨b, i, none⟩ = some v → x.cell? ⟨b, i, none⟩ = some v := fun i v hv => (hx.cell (p := ⟨b, i, none⟩) hB).trans hv
            exact And.intro hF <| And.intro ((HI.out.old hx).sum.six) <| And.intro (gg _ _ d0) <| And.intro (gg _ _ d1) <| And.intro (gg _ _ d2) <| And.intro (gg _ _ d3) <| And.intro (gg _ _ d4) <| And.intro (gg _ _ d5) (gg _ _ d6)
          clear d0 d1 d2 d3 d4 d5 d6
          unfold tot itm at cT
          unfold tot res at cA
          dsimp only at cA
          (refine wp_region_text (Old wr) 8 (by kernel_rfl) (by kernel_rfl) (Below.refl _ wr).drew ?_; simp only [List.take_succ_cons, List.take_zero, List.drop_succ_cons, List.drop_zero])
          repeat (first | (apply Text.sees (hw := by kernel_rfl); (focus (intro x hx K hK; have hc := CE.out x hx; go_simp; exact hK)); simp only [Act.put, List.getElem_toArray, List.getElem_cons_succ, List.getElem_cons_zero, List.setIfInBounds_toArray, List.set_cons_zero, List.set_cons_succ]) | (apply Text.idle; (focus (intro x hx K hK; go_simp; exact hK)); simp only [Act.put, List.getElem_toArray, List.getElem_cons_succ, List.getElem_cons_zero, List.setIfInBounds_toArray, List.set_cons_zero, List.set_cons_succ]))
          (refine Text.call (Old.call fun x hx => cT x) (by kernel_rfl) (fun _ => by kernel_rfl) ?_; simp only [Act.put, List.getElem_toArray, List.getElem_cons_succ, List.getElem_cons_zero, List.setIfInBounds_toArray, List.set_cons_zero, List.set_cons_succ])
          (refine Text.call (Old.call fun x hx => cA x) (by kernel_rfl) (fun _ => by kernel_rfl) ?_; simp only [Act.put, List.getElem_toArray, List.getElem_cons_succ, List.getElem_cons_zero, List.setIfInBounds_toArray, List.set_cons_zero, List.set_cons_succ])
          repeat (first | (apply Text.sees (hw := by kernel_rfl); (focus (intro x hx K hK; have hc := CE.out x hx; go_simp; exact hK)); simp only [Act.put, List.getElem_toArray, List.getElem_cons_succ, List.getElem_cons_zero, List.setIfInBounds_toArray, List.set_cons_zero, List.set_cons_succ]) | (apply Text.idle; (focus (intro x hx K hK; go_simp; exact hK)); simp only [Act.put, List.getElem_toArray, List.getElem_cons_succ, List.getElem_cons_zero, List.setIfInBounds_toArray, List.set_cons_zero, List.set_cons_succ]))
          intro x hx
          have HI2 := Lib.hid (HI.out.old hx)
          have f7 := HI2.out.sum.six
          have g7 := HI2.out.sum.six_free
          have HI3 := Lib.hid (HI2.out.set G)
          clear CE cT cA hF HI hbl hx
          go_wp2
          go_roundw
          case rel => exact ⟨k + 1, by omega, by go_num, by rw [E1.out]; exact HI3⟩
          case measure => simp [intOf]; omega
        · have E1 := Lib.hid (hout.out (fun h => h2 h.2))
          clear hin hout d0 d1 d2 d3 d4 d5 d6 hbl
          go_wp2
          go_roundw
          case rel => exact ⟨k + 1, by omega, by go_num, by rw [E1.out]; exact HI⟩
          case measure => simp [intOf]; omega
      · have E1 := Lib.hid (hout.out (fun h => h1 h.1))
        clear hin hout d0 d1 d2 d3 d4 d5 d6 hbl
        go_wp2
        go_roundw
        case rel => exact ⟨k + 1, by omega, by go_num, by rw [E1.out]; exact HI⟩
        case measure => simp [intOf]; omega
    · obtain rfl : k = l.length := by omega
      have HI2 : Hid (RoI w wr RR) := Lib.hid (by rw [← HE.out]; exact HI.out)
      have f7 := HI2.out.sum.six
      have f6 := HI2.out.out.six
      have g6 := HI2.out.out.six_free
      go_wp2
      refine bodyPost_ret (v := .agg #[.int .i64 RR.n, .int .i64 RR.s0, .int .i64 RR.s1, .int .i64 RR.s2, .int .i64 RR.s3, .int .i64 RR.h]) (by simp [results, Try.results10, go_sem, *]) rfl ⟨rfl, ?_⟩
      exact Below.new6 hbl (Nat.le_refl _) _ _ _ _ _ _
set_option maxHeartbeats 2000000 in
theorem rGlues_any (a : Option Addr) (cap : Nat) (l : List I7) (p q : Int) (w : World) (hl : l.length ≤ 4096) (hr : Els 7 encI w a l.length fun k => l.getD k zeroI) :
    Calls Try.prog 13 #[.slice a l.length cap, .int .i64 p, .int .i64 q] w fun e w' => ∃ u, e = .returned u ∧ NewT (gluR l p q) u w' ∧ Below w.heap.size w w' := by
  have hmx : 1000002 ≤ maxLen := by decide
  obtain ⟨i0, hi, hz0, hz1, hz2⟩ := info_parts info_tot
  have HR := Lib.hid hr
  clear hr
  rw [← gluS_rng]
  go_enter Try.func13, Try.ntmps13
  go_wp2_with fail
  go_loopw [7, 8] (fun u i wr => ∃ (k : Nat) (v : Value), k ≤ l.length ∧ i = .int .i64 k ∧ u = v ∧ Below w.heap.size w wr ∧ Hid (wr.ownsRow w.heap.size 31 6 v (gluS l p q k).length ((gluS l p q k).map encT).flatten)) (fun _ i _ => l.length - (intOf i).toNat)
  case atStart => exact ⟨0, _, Nat.zero_le _, rfl, rfl, Below.refl _ _, Lib.hid ⟨by simp [gluS], .inl ⟨rfl, rfl⟩⟩⟩
  case round =>
    obtain ⟨k, v, hk, rfl, hv, hbl, HO⟩ := hrel
    subst hv
    by_cases hlt : k < l.length
    · obtain ⟨b, off, rfl, hB, d0, d1, d2, d3, d4, d5, d6⟩ := (HR.out.carry hbl).item hlt
      have hlen := gluS_len l p q k
      have hnext : Hid (gluS l p q (k + 1) = if (p ≤ k ∧ (k : Int) < q) ∧ (l.getD k zeroI).k = 2 then gluS l p q k ++ [totK l k] else gluS l p q k) := Lib.hid rfl
      obtain ⟨y, hy⟩ : ∃ y, y = l.getD k zeroI := ⟨_, rfl⟩
      rw [← hy] at d0 d1 d2 d3 d4 d5 d6 hnext
      obtain ⟨t, ht⟩ : ∃ t, t = totK l k := ⟨_, rfl⟩
      have ht2 : t = totalI y := by rw [ht, hy]; rfl
      rw [← ht] at hnext
      have cT := fun x => irtotal_any y x
      rw [← ht2] at cT
      unfold tot itm at cT
      clear hy ht ht2
      by_cases h1 : p ≤ k
      · by_cases h2 : (k : Int) < q
        · by_cases h3 : y.k = 2
          · have e1 := hnext.out
            rw [if_pos ⟨⟨h1, h2⟩, h3⟩] at e1
            have E1 := Lib.hid e1
            clear e1 hnext
            generalize gluS l p q k = L at *
            rw [h3] at cT d0
            go_wp2_with fail
            refine (cT _).mono ?_
            rintro e w1 ⟨rfl, b1⟩
            have HO1 := Lib.hid (own_old HO.out b1)
            have hb1 := tstep hbl b1 hbl.size
            have hE : Els 6 encT (w1.alloc (.cells #[.int .i64 t.n, .int .i64 t.s0, .int .i64 t.s1, .int .i64 t.s2, .int .i64 t.s3, .int .i64 t.h] 31)) (some ⟨w1.heap.size, 0, none⟩) [t].length fun k => [t].getD k zeroT := els_new (w := w1) (e := 31) encT_len t zeroT
            have HE := Lib.hid hE
            have own5 := HO1.out.alloc (.cells #[.int .i64 t.n, .int .i64 t.s0, .int .i64 t.s1, .int .i64 t.s2, .int .i64 t.s3, .int .i64 t.h] 31)
            have b5 := hb1.alloc hb1.size (.cells #[.int .i64 t.n, .int .i64 t.s0, .int .i64 t.s1, .int .i64 t.s2, .int .i64 t.s3, .int .i64 t.h] 31)
            have hs5 := b5.size
            have hzr := hb1.size
            clear hE cT b1 hbl HO d1 d2 d3 d4 d5 d6
            go_wp2_with (at_builtin; refine wpList_els (B := w.heap.size) (enc := encT) (sz := 6) (w0 := w) (l := L) (m := [t]) (d := zeroT) rfl (.tmp 31) (.tmp 37) rfl Try.underlying35 hi hz0 hz1 hz2 rfl (by decide) encT_len encT_one rfl own5 rfl HE.out (by simp; omega) (by simp; omega) b5 hs5 (fun h => by cases h) ?_; intro v' w4 hown' hb4 _)
            rw [← E1.out] at hown'
            have HN := Lib.hid hown'
            clear hown' HE HO1 own5 b5 hs5
            go_wp2
            go_roundw
            case rel => exact ⟨k + 1, _, by omega, by go_num, rfl, hb4, HN⟩
            case measure => simp [intOf]; omega
          · have e1 := hnext.out
            rw [if_neg (fun h => h3 h.2)] at e1
            rw [← e1] at HO
            clear e1 hnext hlen
            go_wp2
            go_roundw
            case rel => exact ⟨k + 1, _, by omega, by go_num, rfl, hbl, HO⟩
            case measure => simp [intOf]; omega
        · have e1 := hnext.out
          rw [if_neg (fun h => h2 h.1.2)] at e1
          rw [← e1] at HO
          clear e1 hnext hlen
          go_wp2
          go_roundw
          case rel => exact ⟨k + 1, _, by omega, by go_num, rfl, hbl, HO⟩
          case measure => simp [intOf]; omega
      · have e1 := hnext.out
        rw [if_neg (fun h => h1 h.1.1)] at e1
        rw [← e1] at HO
        clear e1 hnext hlen
        go_wp2
        go_roundw
        case rel => exact ⟨k + 1, _, by omega, by go_num, rfl, hbl, HO⟩
        case measure => simp [intOf]; omega
    · obtain rfl : k = l.length := by omega
      go_wp2
      go_ret
      obtain ⟨a', c', h1, h2, h3, h4⟩ := own_of (d := zeroT) HO.out encT_len
      exact ⟨_, rfl, ⟨a', c', h1, h2, h3, h4.els⟩, hbl⟩
set_option maxHeartbeats 2000000 in
theorem rSame_any (u v : Value) (l : List T6) (w : World) (hn : l.length ≤ 1000000) (hu : NewT l u w) (hv : NewT l v w) :
    Calls Try.prog 11 #[u, v] w fun e w' => e = .returned (.bool true) ∧ Below w.heap.size w w' := by
  obtain ⟨a, ca, rfl, _, _, h3⟩ := hu
  obtain ⟨c, cc, rfl, _, _, g3⟩ := hv
  have HA := Lib.hid h3
  have HC := Lib.hid g3
  clear h3 g3
  go_enter Try.func11, Try.ntmps11
  go_wp2_with fail
  go_loopw [5] (fun i wr => ∃ k : Nat, k ≤ l.length ∧ i = .int .i64 k ∧ Below w.heap.size w wr) (fun i _ => l.length - (intOf i).toNat)
  case atStart => exact ⟨0, Nat.zero_le _, rfl, Below.refl _ _⟩
  case round =>
    obtain ⟨k, hk, rfl, hbl⟩ := hrel
    by_cases hlt : k < l.length
    · obtain ⟨b, off, rfl, hB, d0, d1, d2, d3, d4, d5⟩ := (HA.out.carry hbl).tot6 hlt
      obtain ⟨b2, off2, rfl, hB2, c0, c1, c2, c3, c4, c5⟩ := (HC.out.carry hbl).tot6 hlt
      generalize l.getD k zeroT = y at *
      go_wp2_with fail
      have CE := Lib.hid fun x (hx : Old wr x) => by
        have gg : ∀ i v, wr.cell? ⟨b, i, none⟩ = some v → x.cell? ⟨b, i, none⟩ = some v := fun i v hv => (hx.cell (p := ⟨b, i, none⟩) hB).trans hv
        have g2 : ∀ i v, wr.cell? ⟨b2, i, none⟩ = some v → x.cell? ⟨b2, i, none⟩ = some v := fun i v hv => (hx.cell (p := ⟨b2, i, none⟩) hB2).trans hv
        exact And.intro (gg _ _ d0) <| And.intro (gg _ _ d1) <| And.intro (gg _ _ d2) <| And.intro (gg _ _ d3) <| And.intro (gg _ _ d4) <| And.intro (gg _ _ d5) <| And.intro (g2 _ _ c0) <| And.intro (g2 _ _ c1) <| And.intro (g2 _ _ c2) <| And.intro (g2 _ _ c3) <| And.intro (g2 _ _ c4) (g2 _ _ c5)
      clear d0 d1 d2 d3 d4 d5 c0 c1 c2 c3 c4 c5
      (refine wp_region_text (Old wr) 8 (by kernel_rfl) (by kernel_rfl) (Below.refl _ wr).drew ?_; simp only [List.take_succ_cons, List.take_zero, List.drop_succ_cons, List.drop_zero])
      repeat (first | (apply Text.sees (hw := by kernel_rfl); (focus (intro x hx K hK; have hc := CE.out x hx; go_simp; exact hK)); simp only [Act.put, List.getElem_toArray, List.getElem_cons_succ, List.getElem_cons_zero, List.setIfInBounds_toArray, List.set_cons_zero, List.set_cons_succ]) | (apply Text.idle; (focus (intro x hx K hK; go_simp; exact hK)); simp only [Act.put, List.getElem_toArray, List.getElem_cons_succ, List.getElem_cons_zero, List.setIfInBounds_toArray, List.set_cons_zero, List.set_cons_succ]))
      intro x hx
      refine wpl_val rfl (neq_tot (.tmp 20) (.tmp 24) rfl rfl rfl x) ?_
      have hb2 := tstep hbl hx hbl.size
      clear CE hx hbl
      go_wp2
      go_roundw
      case rel => exact ⟨k + 1, by omega, by go_num, hb2⟩
      case measure => simp [intOf]; omega
    · obtain rfl : k = l.length := by omega
      go_wp2
      go_ret
      exact ⟨rfl, hbl⟩
end Go.Proofs.Ytomjglfamnacoaa
