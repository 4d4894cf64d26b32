/- The walk of NotePieces. -/
import Derived.Test.YtimpphkikihhaaaNPc
namespace Go.Proofs.Ytimpphkikihhaaa
open Go.RowKit
set_option maxRecDepth 20000
set_option linter.unusedVariables false
set_option linter.unusedSimpArgs false

theorem pieces_no (u v u' v' : Value) (w : World)
    (c1 : ∀ x, Below w.heap.size w x → Calls Try.prog 7 #[.agg #[u, v]] x fun e y => e = .returned (.int .i64 9) ∧ Below x.heap.size x y) :
    Calls Try.prog 5 #[.agg #[u, v], .agg #[u', v']] w fun e w' => e = .returned (.bool true) ∧ Below w.heap.size w w' := by
  go_enter Try.func5, Try.ntmps5
  go_wp2_with fail
  refine (c1 _ (tbel2 w _ _)).mono ?_
  rintro e w1 ⟨rfl, b1⟩
  replace b1 := tstep (tbel2 w _ _) b1 (tbel2 w _ _).size
  go_wp2_with fail
  refine (awake11 _).mono ?_
  rintro e w2 ⟨rfl, b2⟩
  go_wp2
  go_ret
  exact ⟨rfl, tstep b1 b2 b1.size⟩
theorem pieces_far (la : Option Addr) (ll lc : Nat) (pa : Option Addr) (pl pc : Nat) (la' : Option Addr) (ll' lc' : Nat) (pa' : Option Addr) (pl' pc' : Nat) (w : World) (h : 100 < ll' ∨ 100 < pl') (hl : ll' ≤ 9223372036854775807) (hp : pl' ≤ 9223372036854775807)
    (c1 : ∀ x, Below w.heap.size w x → Calls Try.prog 7 #[.agg #[.slice la ll lc, .slice pa pl pc]] x fun e y => e = .returned (.int .i64 0) ∧ Below x.heap.size x y) :
    Calls Try.prog 5 #[.agg #[.slice la ll lc, .slice pa pl pc], .agg #[.slice la' ll' lc', .slice pa' pl' pc']] w fun e w' => e = .returned (.bool true) ∧ Below w.heap.size w w' := by
  have B1 := blk_two w (.cells #[.slice la ll lc, .slice pa pl pc] 25) #[.slice la' ll' lc', .slice pa' pl' pc'] 25
  by_cases h1 : 100 < ll'
  · go_enter Try.func5, Try.ntmps5
    go_wp2_with fail
    refine (c1 _ (tbel2 w _ _)).mono ?_
    rintro e w1 ⟨rfl, b1⟩
    obtain ⟨q0, q1⟩ := (B1.old b1).two
    replace b1 := tstep (tbel2 w _ _) b1 (tbel2 w _ _).size
    clear B1
    go_wp2_with fail
    refine (awake11 _).mono ?_
    rintro e w2 ⟨rfl, b2⟩
    go_wp2
    go_ret
    exact ⟨rfl, tstep b1 b2 b1.size⟩
  · have h2 : 100 < pl' := by omega
    go_enter Try.func5, Try.ntmps5
    go_wp2_with fail
    refine (c1 _ (tbel2 w _ _)).mono ?_
    rintro e w1 ⟨rfl, b1⟩
    obtain ⟨q0, q1⟩ := (B1.old b1).two
    replace b1 := tstep (tbel2 w _ _) b1 (tbel2 w _ _).size
    clear B1
    go_wp2_with fail
    refine (awake11 _).mono ?_
    rintro e w2 ⟨rfl, b2⟩
    go_wp2
    go_ret
    exact ⟨rfl, tstep b1 b2 b1.size⟩
theorem lines3 (la : Option Addr) (n lc : Nat) (pa : Option Addr) (pl pc : Nat) (la' : Option Addr) (m lc' : Nat) (pa' : Option Addr) (pl' pc' : Nat) (g : Nat) (x : World) (hn : n ≤ 1000000) (hm : m ≤ 1000000)
    (h : Blk x g #[.slice la n lc, .slice pa pl pc, .slice la' m lc', .slice pa' pl' pc', .slice la n lc, .slice pa pl pc] 25) :
    Calls Try.prog 20 #[.slice (some ⟨g, 0, none⟩) 3 3] x fun e y => e = .returned (.int .i64 (2 * (n : Int) + (m : Int))) ∧ Below x.heap.size x y := by
  have c := nlines_any (some ⟨g, 0, none⟩) 3 [n, m, n] x (by simp) (fun k hk => by
    match k, hk with
    | 0, _ => exact ⟨hn, g, 0, la, lc, pa, pl, pc, rfl, h.lt, h.cell 0, h.cell 1⟩
    | 1, _ => exact ⟨hm, g, 0, la', lc', pa', pl', pc', rfl, h.lt, h.cell 2, h.cell 3⟩
    | 2, _ => exact ⟨hn, g, 0, la, lc, pa, pl, pc, rfl, h.lt, h.cell 4, h.cell 5⟩)
  refine c.mono fun e y ⟨he, hb⟩ => ⟨?_, hb⟩
  rw [he]
  have e : ((sumUp [n, m, n] [n, m, n].length : Nat) : Int) = 2 * (n : Int) + (m : Int) := by
    show ((0 + n + m + n : Nat) : Int) = _
    omega
  rw [e]
set_option maxHeartbeats 4000000 in
theorem pieces_walk (la : Option Addr) (lc : Nat) (L : List Int) (pa : Option Addr) (pl pc : Nat) (P : List Int) (la' : Option Addr) (ll' lc' : Nat) (pa' : Option Addr) (pl' pc' : Nat) (q : Bool) (w : World) (hk : checkN L P = true) (hl : ll' ≤ 100) (hp : pl' ≤ 100)
    (c1 : ∀ x, Below w.heap.size w x → Calls Try.prog 7 #[.agg #[.slice la L.length lc, .slice pa pl pc]] x fun e y => e = .returned (.int .i64 0) ∧ Below x.heap.size x y)
    (c2 : ∀ x, Below w.heap.size w x → Calls Try.prog 14 #[.agg #[.slice la L.length lc, .slice pa pl pc], .int .i64 0] x fun e y => ∃ v, e = .returned v ∧ RowP (stopsN L P 0) v y ∧ Below x.heap.size x y)
    (c3 : ∀ (f t : Int) x, Below w.heap.size w x → Calls Try.prog 18 #[.agg #[.slice la L.length lc, .slice pa pl pc], .int .i64 f, .int .i64 t] x fun e y => e = .returned (.int .i64 (highN L f t)) ∧ Below x.heap.size x y)
    (c4 : ∀ x, Below w.heap.size w x → Calls Try.prog 9 #[.agg #[.slice la L.length lc, .slice pa pl pc], .int .i64 L.length] x fun e y => e = .returned (.bool true) ∧ Below x.heap.size x y)
    (c6 : ∀ x, Below w.heap.size w x → Calls Try.prog 21 #[.agg #[.slice la L.length lc, .slice pa pl pc], .agg #[.slice la' ll' lc', .slice pa' pl' pc']] x fun e y => e = .returned (.bool q) ∧ Below x.heap.size x y)
    (c7 : ∀ x, Below w.heap.size w x → Calls Try.prog 22 #[.agg #[.slice la L.length lc, .slice pa pl pc], .agg #[.slice la' ll' lc', .slice pa' pl' pc']] x fun e y => e = .returned (.bool q) ∧ Below x.heap.size x y)
    (c8 : ∀ x, Below w.heap.size w x → Calls Try.prog 21 #[.agg #[.slice la L.length lc, .slice pa pl pc], .agg #[.slice la L.length lc, .slice pa pl pc]] x fun e y => e = .returned (.bool true) ∧ Below x.heap.size x y) :
    Calls Try.prog 5 #[.agg #[.slice la L.length lc, .slice pa pl pc], .agg #[.slice la' ll' lc', .slice pa' pl' pc']] w fun e w' => e = .returned (.bool true) ∧ Below w.heap.size w w' := by
  obtain ⟨h1, h2, h3, hv⟩ := check_facts hk
  have HV := Lib.hid hv
  have C2 := Lib.hid c2
  have C3 := Lib.hid c3
  have C4 := Lib.hid c4
  have C6 := Lib.hid c6
  have C7 := Lib.hid c7
  have C8 := Lib.hid c8
  clear c2 c3 c4 c6 c7 c8 hv hk
  have HSl : (stopsN L P 0).length ≤ 65 := Nat.le_trans (stopsUp_len L P 0 _) (by omega)
  have HA := Lib.hid fun i (hi : i < (stopsN L P 0).length) => atS_lt hi
  have HI := Lib.hid fun i => atS_in (L := L) (P := P) i
  have HE := Lib.hid (atS_end (L := L) (P := P) h1)
  have HJ := Lib.hid (high_join HV.out h2)
  clear HV
  generalize stopsN L P 0 = S at *
  have B0 := (blk_new w #[.slice la L.length lc, .slice pa pl pc] 25).alloc (.cells #[.slice la' ll' lc', .slice pa' pl' pc'] 25)
  have B1 := blk_two w (.cells #[.slice la L.length lc, .slice pa pl pc] 25) #[.slice la' ll' lc', .slice pa' pl' pc'] 25
  have b0 := tbel2 w (.cells #[.slice la L.length lc, .slice pa pl pc] 25) (.cells #[.slice la' ll' lc', .slice pa' pl' pc'] 25)
  go_enter Try.func5, Try.ntmps5
  go_wp2_with fail
  generalize (w.alloc _).alloc _ = U at *
  refine (c1 _ b0).mono ?_
  rintro e w1 ⟨rfl, b1⟩
  replace B0 := B0.old b1
  replace B1 := B1.old b1
  obtain ⟨q0, q1⟩ := B0.two
  obtain ⟨q2, q3⟩ := B1.two
  replace b1 := tstep b0 b1 b0.size
  clear c1 b0
  go_wp2_with fail
  refine (C2.out _ b1).mono ?_
  rintro e w2 ⟨v2, rfl, hv2, b2⟩
  replace B0 := B0.old b2
  replace B1 := B1.old b2
  replace b2 := tstep b1 b2 b1.size
  obtain ⟨a2, k2, rfl, r2⟩ := hv2
  clear b1 q0 q1 q2 q3 C2
  have HR := Lib.hid r2
  clear r2
  go_wp2_with fail
  go_loopw [6, 7, 8] (fun s at' i wr => ∃ k : Nat, k ≤ S.length ∧ i = .int .i64 k ∧ at' = .int .i64 (atS S k) ∧ s = .int .i64 (highN L 0 (atS S k)) ∧ Below w2.heap.size w2 wr) (fun _ _ i _ => S.length - (intOf i).toNat)
  case atStart => exact ⟨0, Nat.zero_le _, rfl, rfl, by rw [show atS S 0 = 0 from rfl, highN_zero L 0 0 (.inl (Int.le_refl _))], Below.refl _ _⟩
  case round =>
    obtain ⟨k, hk, rfl, rfl, rfl, hbl⟩ := hrel
    have bw := tstep b2 hbl b2.size
    by_cases hlt : k < S.length
    · obtain ⟨hyin, b, off, rfl, hB, hck⟩ := (HR.out.carry hbl (Nat.le_refl _)) k hlt
      have hBr : b < wr.heap.size := Nat.lt_of_lt_of_le hB hbl.size
      have g1 := HA.out k hlt
      have g2 := HI.out k
      have g3 := HI.out (k + 1)
      rw [atS_succ] at g3
      have HN : Hid (atS S (k + 1) = S.getD k 0) := Lib.hid (atS_succ S k)
      have HH := Lib.hid (HJ.out (atS S k) (S.getD k 0) (by omega) (by omega))
      generalize atS S k = z at *
      generalize S.getD k 0 = y at *
      have c3 := Lib.hid (C3.out z y)
      have s1 := highN_in L 0 z
      have s2 := highN_in L z y
      generalize highN L z y = h at *
      generalize highN L 0 z = s at *
      have hw : IntKind.i64.wrap (s + h) = s + h := by rw [IntKind.wrap_i64]; omega
      have B0' := B0.old hbl
      obtain ⟨q0, q1⟩ := B0'.two
      go_wp2_with fail
      have CE := Lib.hid fun x (hx : Old wr x) => And.intro (B0'.old hx).two (And.intro ((hx.cell (p := ⟨b, off + k, none⟩) hBr).trans hck) (And.intro hlt (And.intro (Nat.not_le.2 hlt) hw)))
      (refine wp_region_text (Old wr) 9 (by kernel_rfl) (by kernel_rfl) (Below.refl _ wr).drew ?_; simp only [List.take_succ_cons, List.take_zero, List.drop_succ_cons, List.drop_zero])
      repeat (first | (apply Text.sees (hw := by kernel_rfl); (focus (intro x hx K hK; have hc := CE.out x hx; go_simp; exact hK)); simp only [Act.put, List.getElem_toArray, List.getElem_cons_succ, List.getElem_cons_zero, List.setIfInBounds_toArray, List.set_cons_zero, List.set_cons_succ]) | (apply Text.idle; (focus (intro x hx K hK; go_simp; exact hK)); simp only [Act.put, List.getElem_toArray, List.getElem_cons_succ, List.getElem_cons_zero, List.setIfInBounds_toArray, List.set_cons_zero, List.set_cons_succ]))
      (refine Text.call (Old.call fun x hx => c3.out x (tstep bw hx bw.size)) (by kernel_rfl) (fun _ => by kernel_rfl) ?_; simp only [Act.put, List.getElem_toArray, List.getElem_cons_succ, List.getElem_cons_zero, List.setIfInBounds_toArray, List.set_cons_zero, List.set_cons_succ])
      repeat (first | (apply Text.sees (hw := by kernel_rfl); (focus (intro x hx K hK; have hc := CE.out x hx; go_simp; exact hK)); simp only [Act.put, List.getElem_toArray, List.getElem_cons_succ, List.getElem_cons_zero, List.setIfInBounds_toArray, List.set_cons_zero, List.set_cons_succ]) | (apply Text.idle; (focus (intro x hx K hK; go_simp; exact hK)); simp only [Act.put, List.getElem_toArray, List.getElem_cons_succ, List.getElem_cons_zero, List.setIfInBounds_toArray, List.set_cons_zero, List.set_cons_succ]))
      intro w3 hw3
      have hck3 := (hw3.cell (p := ⟨b, off + k, none⟩) hBr).trans hck
      have hbl3 := tstep hbl hw3 hbl.size
      have hBr3 : b < w3.heap.size := Nat.lt_of_lt_of_le hBr hw3.size
      clear CE hck q0 q1 c3 hw3
      go_wp2
      go_roundw
      case rel => exact ⟨k + 1, by omega, by go_num, by rw [HN.out], by rw [HN.out, HH.out], hbl3⟩
      case measure => simp [intOf]; omega
    · obtain rfl : k = S.length := by omega
      rw [HE.out]
      have c3 := Lib.hid (C3.out 0 (L.length : Int))
      have s1 := highN_in L 0 (L.length : Int)
      generalize highN L 0 (L.length : Int) = s at *
      have C5 : Hid (∀ g x, Blk x g #[.slice la L.length lc, .slice pa pl pc, .slice la' ll' lc', .slice pa' pl' pc', .slice la L.length lc, .slice pa pl pc] 25 → Calls Try.prog 20 #[.slice (some ⟨g, 0, none⟩) 3 3] x fun e y => e = .returned (.int .i64 (2 * (L.length : Int) + (ll' : Int))) ∧ Below x.heap.size x y) := Lib.hid fun g x h => lines3 la L.length lc pa pl pc la' ll' lc' pa' pl' pc' g x (by omega) (by omega) h
      have w1' : IntKind.i64.wrap (2 * (L.length : Int)) = 2 * (L.length : Int) := by rw [IntKind.wrap_i64]; omega
      have w2' : IntKind.i64.wrap (2 * (L.length : Int) + (ll' : Int)) = 2 * (L.length : Int) + (ll' : Int) := by rw [IntKind.wrap_i64]; omega
      generalize L.length = n at *
      have B0' := B0.old hbl
      have B1' := B1.old hbl
      clear HA HI HJ C3 HR
      go_wp2_with fail
      have CE := Lib.hid fun x (hx : Old wr x) => And.intro (B0'.old hx).two (And.intro (B1'.old hx).two (And.intro w1' w2'))
      (refine wp_region_plan 48 [(0, true), (1, true), (2, true), (3, true), (4, true), (5, true), (6, true), (7, true), (8, true), (9, true), (10, true), (11, true), (12, true), (13, true), (14, true), (15, true), (16, true), (17, true), (18, true), (19, true), (20, true), (23, true), (24, true), (25, true), (26, true), (27, true), (28, true), (21, false), (22, true), (29, true), (30, true), (31, true), (32, true), (33, true), (34, true), (35, true), (36, true), (37, true), (38, true), (39, true), (40, true), (41, true), (42, true), (43, true), (44, true), (45, true), (46, true), (47, true)] (by kernel_rfl) (by kernel_rfl) ?_; simp only [pick, List.getElem?_cons_succ, List.getElem?_cons_zero, List.drop_succ_cons, List.drop_zero])
      repeat (first | (apply TextV.sees (hw := by kernel_rfl); (focus (intro x hx K hK; have hc := CE.out x hx; go_simp; exact hK)); simp only [Act.put, List.getElem_toArray, List.getElem_cons_succ, List.getElem_cons_zero, List.setIfInBounds_toArray, List.set_cons_zero, List.set_cons_succ]) | (apply TextV.idle; (focus (intro x hx K hK; go_simp; exact hK)); simp only [Act.put, List.getElem_toArray, List.getElem_cons_succ, List.getElem_cons_zero, List.setIfInBounds_toArray, List.set_cons_zero, List.set_cons_succ]))
      (refine TextV.call (fun x hx => c3.out x (tstep bw hx bw.size)) (by kernel_rfl) (fun _ => by kernel_rfl) ?_; simp only [Act.put, List.getElem_toArray, List.getElem_cons_succ, List.getElem_cons_zero, List.setIfInBounds_toArray, List.set_cons_zero, List.set_cons_succ])
      repeat (first | (apply TextV.sees (hw := by kernel_rfl); (focus (intro x hx K hK; have hc := CE.out x hx; go_simp; exact hK)); simp only [Act.put, List.getElem_toArray, List.getElem_cons_succ, List.getElem_cons_zero, List.setIfInBounds_toArray, List.set_cons_zero, List.set_cons_succ]) | (apply TextV.idle; (focus (intro x hx K hK; go_simp; exact hK)); simp only [Act.put, List.getElem_toArray, List.getElem_cons_succ, List.getElem_cons_zero, List.setIfInBounds_toArray, List.set_cons_zero, List.set_cons_succ]))
      (refine TextV.call (fun x hx => C4.out x (tstep bw hx bw.size)) (by kernel_rfl) (fun _ => by kernel_rfl) ?_; simp only [Act.put, List.getElem_toArray, List.getElem_cons_succ, List.getElem_cons_zero, List.setIfInBounds_toArray, List.set_cons_zero, List.set_cons_succ])
      repeat (first | (apply TextV.sees (hw := by kernel_rfl); (focus (intro x hx K hK; have hc := CE.out x hx; go_simp; exact hK)); simp only [Act.put, List.getElem_toArray, List.getElem_cons_succ, List.getElem_cons_zero, List.setIfInBounds_toArray, List.set_cons_zero, List.set_cons_succ]) | (apply TextV.idle; (focus (intro x hx K hK; go_simp; exact hK)); simp only [Act.put, List.getElem_toArray, List.getElem_cons_succ, List.getElem_cons_zero, List.setIfInBounds_toArray, List.set_cons_zero, List.set_cons_succ]))
      (refine TextV.loudv (V := fun v y => ∃ g, v = .slice (some ⟨g, 0, none⟩) 3 3 ∧ Blk y g #[.slice la n lc, .slice pa pl pc, .slice la' ll' lc', .slice pa' pl' pc', .slice la n lc, .slice pa pl pc] 25) (fun x hx => ⟨_, _, build_three _ _ _ _ _ _ (.tmp 70) (.tmp 71) (.tmp 72) rfl rfl rfl rfl x, ⟨x.heap.size, rfl, blk_new _ _ _⟩, tbel1 x _⟩) (by kernel_rfl) (fun v5 y5 hv5 hy5 => ?_); simp only [Act.put, List.getElem_toArray, List.getElem_cons_succ, List.getElem_cons_zero, List.setIfInBounds_toArray, List.set_cons_zero, List.set_cons_succ])
      obtain ⟨g, rfl, Bg⟩ := hv5
      have b5 := tstep bw hy5 bw.size
      have B5 := B0'.old hy5
      have B6 := B1'.old hy5
      clear CE hy5 B0' B1'
      have CE := Lib.hid fun x (hx : Old y5 x) => And.intro (B5.old hx).two (And.intro (B6.old hx).two (And.intro w1' w2'))
      (refine TextV.call (fun x hx => C5.out g x (Bg.old hx)) (by kernel_rfl) (fun _ => by kernel_rfl) ?_; simp only [Act.put, List.getElem_toArray, List.getElem_cons_succ, List.getElem_cons_zero, List.setIfInBounds_toArray, List.set_cons_zero, List.set_cons_succ])
      repeat (first | (apply TextV.sees (hw := by kernel_rfl); (focus (intro x hx K hK; have hc := CE.out x hx; go_simp; exact hK)); simp only [Act.put, List.getElem_toArray, List.getElem_cons_succ, List.getElem_cons_zero, List.setIfInBounds_toArray, List.set_cons_zero, List.set_cons_succ]) | (apply TextV.idle; (focus (intro x hx K hK; go_simp; exact hK)); simp only [Act.put, List.getElem_toArray, List.getElem_cons_succ, List.getElem_cons_zero, List.setIfInBounds_toArray, List.set_cons_zero, List.set_cons_succ]))
      (refine TextV.call (fun x hx => C6.out x (tstep b5 hx b5.size)) (by kernel_rfl) (fun _ => by kernel_rfl) ?_; simp only [Act.put, List.getElem_toArray, List.getElem_cons_succ, List.getElem_cons_zero, List.setIfInBounds_toArray, List.set_cons_zero, List.set_cons_succ])
      repeat (first | (apply TextV.sees (hw := by kernel_rfl); (focus (intro x hx K hK; have hc := CE.out x hx; go_simp; exact hK)); simp only [Act.put, List.getElem_toArray, List.getElem_cons_succ, List.getElem_cons_zero, List.setIfInBounds_toArray, List.set_cons_zero, List.set_cons_succ]) | (apply TextV.idle; (focus (intro x hx K hK; go_simp; exact hK)); simp only [Act.put, List.getElem_toArray, List.getElem_cons_succ, List.getElem_cons_zero, List.setIfInBounds_toArray, List.set_cons_zero, List.set_cons_succ]))
      (refine TextV.call (fun x hx => C7.out x (tstep b5 hx b5.size)) (by kernel_rfl) (fun _ => by kernel_rfl) ?_; simp only [Act.put, List.getElem_toArray, List.getElem_cons_succ, List.getElem_cons_zero, List.setIfInBounds_toArray, List.set_cons_zero, List.set_cons_succ])
      repeat (first | (apply TextV.sees (hw := by kernel_rfl); (focus (intro x hx K hK; have hc := CE.out x hx; go_simp; exact hK)); simp only [Act.put, List.getElem_toArray, List.getElem_cons_succ, List.getElem_cons_zero, List.setIfInBounds_toArray, List.set_cons_zero, List.set_cons_succ]) | (apply TextV.idle; (focus (intro x hx K hK; go_simp; exact hK)); simp only [Act.put, List.getElem_toArray, List.getElem_cons_succ, List.getElem_cons_zero, List.setIfInBounds_toArray, List.set_cons_zero, List.set_cons_succ]))
      (refine TextV.call (fun x hx => C8.out x (tstep b5 hx b5.size)) (by kernel_rfl) (fun _ => by kernel_rfl) ?_; simp only [Act.put, List.getElem_toArray, List.getElem_cons_succ, List.getElem_cons_zero, List.setIfInBounds_toArray, List.set_cons_zero, List.set_cons_succ])
      repeat (first | (apply TextV.sees (hw := by kernel_rfl); (focus (intro x hx K hK; have hc := CE.out x hx; go_simp; exact hK)); simp only [Act.put, List.getElem_toArray, List.getElem_cons_succ, List.getElem_cons_zero, List.setIfInBounds_toArray, List.set_cons_zero, List.set_cons_succ]) | (apply TextV.idle; (focus (intro x hx K hK; go_simp; exact hK)); simp only [Act.put, List.getElem_toArray, List.getElem_cons_succ, List.getElem_cons_zero, List.setIfInBounds_toArray, List.set_cons_zero, List.set_cons_succ]))
      (refine TextV.call (fun x hx => awake11 x) (by kernel_rfl) (fun _ => by kernel_rfl) ?_; simp only [Act.put, List.getElem_toArray, List.getElem_cons_succ, List.getElem_cons_zero, List.setIfInBounds_toArray, List.set_cons_zero, List.set_cons_succ])
      repeat (first | (apply TextV.sees (hw := by kernel_rfl); (focus (intro x hx K hK; have hc := CE.out x hx; go_simp; exact hK)); simp only [Act.put, List.getElem_toArray, List.getElem_cons_succ, List.getElem_cons_zero, List.setIfInBounds_toArray, List.set_cons_zero, List.set_cons_succ]) | (apply TextV.idle; (focus (intro x hx K hK; go_simp; exact hK)); simp only [Act.put, List.getElem_toArray, List.getElem_cons_succ, List.getElem_cons_zero, List.setIfInBounds_toArray, List.set_cons_zero, List.set_cons_succ]))
      intro x hx
      replace hx := tstep b5 hx b5.size
      clear CE C4 C5 C6 C7 C8 c3 Bg
      go_wp2
      go_ret
      exact ⟨rfl, hx⟩
theorem notePieces_walk (la : Option Addr) (ll lc : Nat) (lz : List Int) (pa : Option Addr) (pl pc : Nat) (pz : List Int) (la' : Option Addr) (ll' lc' : Nat) (lz' : List Int) (pa' : Option Addr) (pl' pc' : Nat) (pz' : List Int) (w : World)
    (h1 : IsRow .i64 w la ll lc lz) (h2 : IsRow .i64 w pa pl pc pz) (h3 : IsRow .i64 w la' ll' lc' lz') (h4 : IsRow .i64 w pa' pl' pc' pz') :
    Calls Try.prog 5 #[.agg #[.slice la ll lc, .slice pa pl pc], .agg #[.slice la' ll' lc', .slice pa' pl' pc']] w fun e w' => e = .returned (.bool true) ∧ Below w.heap.size w w' := by
  obtain ⟨L, rfl, hL, _, m1⟩ := h1.irow
  obtain ⟨P, rfl, hP, _, m2⟩ := h2.irow
  obtain ⟨L', rfl, hL', _, m3⟩ := h3.irow
  obtain ⟨P', rfl, hP', _, m4⟩ := h4.irow
  have hm : maxLen ≤ 9223372036854775807 := by decide
  have rL := fun x (hx : Below w.heap.size w x) => (hL.carry hx (Nat.le_refl _)).mono hx.size
  have rP := fun x (hx : Below w.heap.size w x) => (hP.carry hx (Nat.le_refl _)).mono hx.size
  have rL' := fun x (hx : Below w.heap.size w x) => (hL'.carry hx (Nat.le_refl _)).mono hx.size
  have rP' := fun x (hx : Below w.heap.size w x) => (hP'.carry hx (Nat.le_refl _)).mono hx.size
  have c1 := fun x (hx : Below w.heap.size w x) => ncheck_any la lc L pa pc P x (by omega) (by omega) (rL x hx) (rP x hx)
  cases hk : checkN L P
  · rw [hk] at c1
    exact pieces_no _ _ _ _ w c1
  · rw [hk] at c1
    by_cases hc : 100 < L'.length ∨ 100 < P'.length
    · exact pieces_far la L.length lc pa P.length pc la' L'.length lc' pa' P'.length pc' w hc (by omega) (by omega) c1
    · obtain ⟨f1, f2, f3, _⟩ := check_facts hk
      refine pieces_walk la lc L pa P.length pc P la' L'.length lc' pa' P'.length pc' (sameN L P L' P') w hk (by omega) (by omega) c1 ?_ ?_ ?_ ?_ ?_ ?_
      · exact fun x hx => (nstops_any la lc L pa pc P 0 x (by omega) (by omega) (by simp [inR]) (rP x hx)).mono fun e y ⟨v, he, ho, hb⟩ => ⟨v, he, by obtain ⟨a, c, g1, _, _, g2⟩ := ho.row; exact ⟨a, c, g1, g2⟩, hb⟩
      · exact fun f t x hx => nhigh_any la lc L pa P.length pc f t x (by omega) (rL x hx)
      · intro x hx
        have c := nmay_any la lc L pa pc P (L.length : Int) x (by omega) (by omega) (rP x hx)
        rw [may_len rfl] at c
        exact c
      · exact fun x hx => nsame_any la lc L pa pc P la' lc' L' pa' pc' P' x (by omega) (by omega) (by omega) (by omega) (rL x hx) (rP x hx) (rL' x hx) (rP' x hx)
      · exact fun x hx => rnsame_any la lc L pa pc P la' lc' L' pa' pc' P' x (by omega) (by omega) (by omega) (by omega) (rL x hx) (rP x hx) (rL' x hx) (rP' x hx)
      · intro x hx
        have c := nsame_any la lc L pa pc P la lc L pa pc P x (by omega) (by omega) (by omega) (by omega) (rL x hx) (rP x hx) (rL x hx) (rP x hx)
        rw [show sameN L P L P = true by simp [sameN]] at c
        exact c
end Go.Proofs.Ytimpphkikihhaaa
