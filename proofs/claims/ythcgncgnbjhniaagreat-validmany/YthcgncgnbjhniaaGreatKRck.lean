/- The document's anchors and Check. The document's Check. -/
import Derived.Test.YthcgncgnbjhniaaGreatKChk
import Derived.Test.YthcgncgnbjhniaaGreatERck
import Derived.Test.YthcgncgnbjhniaaGreatIRef
import Derived.Test.YthcgncgnbjhniaaGreatJRs2
namespace Go.Proofs.YthcgncgnbjhniaaGreat
open Go.RowKit
set_option maxRecDepth 20000
set_option linter.unusedVariables false
set_option linter.unusedSimpArgs false

set_option maxHeartbeats 1000000 in
theorem ranchors_any (a : Option Addr) (cap : Nat) (l : List I7) (k c : Int) (w : World) (hn : l.length ≤ 1000000) (hr : Els 7 encI w a l.length fun k => l.getD k zeroI) :
    Calls Tryz.prog 15 #[.slice a l.length cap, .int .i64 k, .int .i64 c] w fun e w' => e = .returned (.int .i64 (anchK l k c)) ∧ Below w.heap.size w w' := by
  have HR := Lib.hid hr
  clear hr
  go_enter Tryz.func15, Tryz.ntmps15
  go_wp2_with fail
  go_loopw [7, 8] (fun u i wr => ∃ m : Nat, m ≤ l.length ∧ i = .int .i64 m ∧ u = .int .i64 (cntUp l k m) ∧ Below w.heap.size w wr ∧ Hid (∀ j, j < m → offK l k c j = false)) (fun _ i _ => l.length - (intOf i).toNat)
  case atStart => exact ⟨0, Nat.zero_le _, rfl, rfl, Below.refl _ _, Lib.hid fun j hj => by omega⟩
  case round =>
    obtain ⟨m, hm, rfl, rfl, bw, HP⟩ := hrel
    by_cases hlt : m < l.length
    · obtain ⟨b, off, rfl, hB, h0, h1, h2, h3, h4, h5, h6⟩ := els7 (HR.out.carry bw) hlt
      have hc := cntUp_in l k m
      have HY : Hid (offK l k c m = true → anchK l k c = m) := Lib.hid fun h => by
        have e : strayK l k c = m := firstK_eq hlt h HP.out
        unfold anchK
        rw [e, if_pos hlt]
      have HS : Hid (offK l k c m = false → ∀ j, j < m + 1 → offK l k c j = false) := Lib.hid fun h j hj => by
        rcases Nat.lt_or_ge j m with h1 | h1
        · exact HP.out j h1
        · obtain rfl : j = m := by omega
          exact h
      have Q1 := Lib.hid (offK_other (l := l) (k := k) (c := c) (i := m))
      have Q2 := Lib.hid (offK_n (l := l) (k := k) (c := c) (i := m))
      have Q3 := Lib.hid (offK_c (l := l) (k := k) (c := c) (i := m))
      have Q4 := Lib.hid (offK_not (l := l) (k := k) (c := c) (i := m))
      have Q5 := Lib.hid (cntUp_step (l := l) (k := k) (i := m))
      have Q6 := Lib.hid (cntUp_stay (l := l) (k := k) (i := m))
      clear HP
      generalize cntUp l k m = u at *
      generalize l.getD m zeroI = y at *
      obtain ⟨y0, y1, y2, y3, y4, y5, y6⟩ := y
      dsimp only at *
      by_cases hk : y0 = k
      · subst hk
        by_cases hu : y6 = u
        · subst hu
          by_cases hcu : c ≤ y6
          · have e := Lib.hid (HY.out (Q3.out rfl hcu))
            clear HY HS Q1 Q2 Q3 Q4 Q5 Q6
            go_wp2
            go_ret
            exact ⟨by rw [e.out]; rfl, bw⟩
          · have e := Lib.hid (HS.out (Q4.out rfl hcu))
            have e2 := Lib.hid (Q5.out rfl)
            clear HY HS Q1 Q2 Q3 Q4 Q5 Q6
            go_wp2
            go_roundw
            case rel => exact ⟨m + 1, by omega, by go_num, by rw [e2.out], bw, e⟩
            case measure => simp [intOf]; omega
        · have hne : (y6 != u) = true := by simpa using hu
          have e := Lib.hid (HY.out (Q2.out rfl hu))
          clear HY HS Q1 Q2 Q3 Q4 Q5 Q6
          go_wp2
          go_ret
          exact ⟨by rw [e.out]; rfl, bw⟩
      · have hne : (y0 == k) = false := by simpa using hk
        have e := Lib.hid (HS.out (Q1.out hk))
        have e2 := Lib.hid (Q6.out hk)
        clear HY HS Q1 Q2 Q3 Q4 Q5 Q6
        go_wp2
        go_roundw
        case rel => exact ⟨m + 1, by omega, by go_num, by rw [e2.out], bw, e⟩
        case measure => simp [intOf]; omega
    · obtain rfl : m = l.length := by omega
      have e : strayK l k c = l.length := firstK_none HP.out
      have HE : Hid (anchK l k c = if cntUp l k l.length < c then (l.length : Int) else -1) := Lib.hid (by unfold anchK; rw [e, if_neg (Nat.lt_irrefl _)])
      have hc := cntUp_in l k l.length
      clear HP e
      generalize cntUp l k l.length = u at *
      by_cases hlt : u < c
      · have e := Lib.hid (HE.out.trans (if_pos hlt))
        clear HE
        go_wp2
        go_ret
        exact ⟨by rw [e.out]; rfl, bw⟩
      · have e := Lib.hid (HE.out.trans (if_neg hlt))
        clear HE
        go_wp2
        go_ret
        exact ⟨by rw [e.out]; rfl, bw⟩
/-! ### The document's Check -/
/-- What stands while it goes on. -/
structure RcS (w V : World) (j : J4) (s : S3) : Prop where
  job : JobAt V w.heap.size j s
  room : Blk V (w.heap.size + 1) #[.int .i64 0, .int .i64 0] 36
  bel : Below w.heap.size w V
theorem RcS.old {w V x : World} {j : J4} {s : S3} (h : RcS w V j s) (hx : Old V x) : RcS w x j s := ⟨h.job.old hx, h.room.old hx, tstep h.bel hx h.bel.size⟩
theorem told_two {w V : World} {j : J4} {s : S3} (h : RcS w V j s) (a b : Value) : Blk ((V.setCell ⟨w.heap.size + 1, 0, none⟩ a).setCell ⟨w.heap.size + 1, 1, none⟩ b) (w.heap.size + 1) #[a, b] 36 := by
  simpa using (h.room.set 0 a).set 1 b
theorem told_bel {w V : World} {j : J4} {s : S3} (h : RcS w V j s) (a b : Value) : Below w.heap.size w ((V.setCell ⟨w.heap.size + 1, 0, none⟩ a).setCell ⟨w.heap.size + 1, 1, none⟩ b) :=
  (h.bel.setCell (by simp) _).setCell (by simp) _
theorem info36 : (Tryz.prog.info? 36).map (·.size) = some 2 := by kernel_rfl
/-- The verdict, clause by clause. -/
theorem first_k {j : J4} {k : Nat} {z : Int} (hk : k < 10) (h : faultK j k = z) (hz : ¬ z = -1) (hp : ∀ i, i < k → badK j i = false) : errK j = (k : Int) + 3 ∧ atK j = z := by
  have := verdict_at hk (badK_yes (h ▸ hz)) hp
  rw [h] at this
  exact this
theorem next_k {j : J4} {k : Nat} (h : faultK j k = -1) (hp : ∀ i, i < k → badK j i = false) : ∀ i, i < k + 1 → badK j i = false := fun i hi => by
  rcases Nat.lt_or_ge i k with h1 | h1
  · exact hp i h1
  · obtain rfl : i = k := by omega
    exact badK_no h
theorem whole_0 {p : Prop} [Decidable p] (h : p) : wholeK (decide p) = 0 := by rw [decide_eq_true h]; rfl
theorem whole_no {p : Prop} [Decidable p] (h : ¬ p) : wholeK (decide p) = -1 := by rw [decide_eq_false h]; rfl
theorem errE_ways (g : G19) : errE g = 0 ∨ errE g = 6 ∨ errE g = 7 := by
  unfold errE
  cases btwE g.cols 1 8
  · exact .inr (.inl rfl)
  · cases fitsE g 17
    · exact .inr (.inr rfl)
    · exact .inl rfl
theorem geom_k {j : J4} (hp : ∀ i, i < 3 → badK j i = false) : (errE j.g = 0 → ∀ i, i < 5 → badK j i = false) ∧ (¬ errE j.g = 0 → errK j = errE j.g ∧ atK j = 0) := by
  refine ⟨fun h => next_k (k := 4) ?_ (next_k (k := 3) ?_ hp), fun h => ?_⟩
  · exact whole_no (p := errE j.g = 7) (by omega)
  · exact whole_no (p := errE j.g = 6) (by omega)
  · rcases errE_ways j.g with e | e | e
    · exact absurd e h
    · have := first_k (j := j) (k := 3) (z := 0) (by omega) (whole_0 (p := errE j.g = 6) e) (by omega) hp
      rw [e]; exact this
    · have := first_k (j := j) (k := 4) (z := 0) (by omega) (whole_0 (p := errE j.g = 7) e) (by omega) (next_k (whole_no (p := errE j.g = 6) (by omega)) hp)
      rw [e]; exact this
theorem idx_k {j : J4} {k n : Nat} {q : Nat → Bool} (hk : k < 10) (hf : faultK j k = idxK q n) (hp : ∀ i, i < k → badK j i = false) :
    ((∀ i, i < n → q i = false) → ∀ i, i < k + 1 → badK j i = false) ∧ ∀ m, m < n → (∀ i, i < m → q i = false) → q m = true → errK j = (k : Int) + 3 ∧ atK j = m :=
  ⟨fun h => next_k (hf.trans (idxK_none h)) hp, fun m hm h hq => first_k hk (hf.trans (idxK_eq hm hq h)) (by omega) hp⟩
theorem un_k {j : J4} (hp : ∀ i, i < 8 → badK j i = false) :
    (0 ≤ anchK j.items 5 j.notes.length → (anchK j.items 6 j.floats.length < 0 ∨ anchK j.items 5 j.notes.length ≤ anchK j.items 6 j.floats.length) → errK j = 11 ∧ atK j = anchK j.items 5 j.notes.length) ∧
    (¬ (0 ≤ anchK j.items 5 j.notes.length ∧ (anchK j.items 6 j.floats.length < 0 ∨ anchK j.items 5 j.notes.length ≤ anchK j.items 6 j.floats.length)) → 0 ≤ anchK j.items 6 j.floats.length → errK j = 11 ∧ atK j = anchK j.items 6 j.floats.length) ∧
    (¬ 0 ≤ anchK j.items 6 j.floats.length → ¬ 0 ≤ anchK j.items 5 j.notes.length → ∀ i, i < 9 → badK j i = false) := by
  have hf : faultK j 8 = unR j := unK_unR j
  unfold unR at hf
  dsimp only at hf
  have g1 : anchK j.items 6 j.floats.length = -1 ∨ 0 ≤ anchK j.items 6 j.floats.length := by
    rcases anchK_ways j.items 6 j.floats.length with ⟨_, e⟩ | ⟨_, _, e⟩ | ⟨_, _, e⟩ <;> omega
  refine ⟨fun h1 h2 => ?_, fun h1 h2 => ?_, fun h1 h2 => next_k (k := 8) ?_ hp⟩
  · rw [if_pos ⟨h1, h2⟩] at hf
    exact first_k (by omega) hf (by omega) hp
  · rw [if_neg h1] at hf
    exact first_k (by omega) hf (by omega) hp
  · rw [if_neg (fun h => h2 h.1)] at hf
    rw [hf]; omega
end Go.Proofs.YthcgncgnbjhniaaGreat
namespace Go.Proofs.YthcgncgnbjhniaaGreat
open Go.RowKit
set_option maxRecDepth 20000
set_option linter.unusedVariables false
set_option linter.unusedSimpArgs false

theorem wrong_note (h : H2) (n : N2) (w : World) (hN : NoteOk w h n) : Calls Tryz.prog 13 #[nte h.la h.ll h.lc h.pa h.pl h.pc] w fun e w' => e = .returned (.bool (checkN n.l n.p)) ∧ Below w.heap.size w w' := by
  obtain ⟨n1, n2, n3, n4, r1, r2⟩ := hN
  obtain ⟨la, ll, lc, pa, pl, pc⟩ := h
  obtain ⟨L, P⟩ := n
  dsimp only at *
  subst n1 n2
  have m3 := Nat.le_trans n3.1 n3.2
  have m4 := Nat.le_trans n4.1 n4.2
  simp only [maxLen] at m3 m4
  exact rncheck_any la lc L pa pc P w (by omega) (by omega) r1 r2
set_option maxHeartbeats 4000000 in
theorem rcheck_any (j : J4) (s : S3) (w : World) (hL : Lists w j s) (hT : Told j) :
    Calls Tryz.prog 8 #[.agg (jobC j s)] w fun e w' => e = .returned (.agg #[.int .i64 (errK j), .int .i64 (atK j)]) ∧ Below w.heap.size w w' := by
  have m1 := Nat.le_trans hL.ic.1 hL.ic.2
  have m2 := Nat.le_trans hL.nc.1 hL.nc.2
  have m3 := Nat.le_trans hL.fc.1 hL.fc.2
  simp only [maxLen] at m1 m2 m3
  have C : RcS w ((w.alloc (.cells (jobC j s) 29)).alloc (.cells #[.int .i64 0, .int .i64 0] 36)) j s := ⟨(job_new w j s).old (tbel1 _ _), blk_two w _ _ _, tbel2 w _ _⟩
  have HL := Lib.hid hL
  have HT := Lib.hid hT
  have P0 : Hid (∀ i, i < 0 → badK j i = false) := Lib.hid fun i hi => by omega
  clear hL hT
  go_enter Tryz.func8, Tryz.ntmps8
  go_upto_region 1 with (fail)
  generalize (w.alloc _).alloc _ = U at *
  obtain ⟨t19, t20, t21⟩ := C.job.three
  have f0 := C.room.free 0
  have f1 := C.room.free 1
  have r0 := C.room.two
  by_cases g0 : (4096 : Int) < j.items.length
  · have E := Lib.hid (first_k (k := 0) (z := 0) (by omega) (whole_0 (p := (4096 : Int) < j.items.length) g0) (by omega) P0.out)
    go_wp2
    refine bodyPost_ret (v := .agg #[.int .i64 3, .int .i64 0]) ?_ rfl ⟨?_, ?_⟩
    · exact results_cell_row Tryz.results8 _ _ _ 36 _ _ _ rfl (told_two C _ _) Tryz.underlying36 rfl info36
    · rw [E.out.1, E.out.2]; try rfl
    · exact told_bel C _ _
  replace P0 := Lib.hid (next_k (k := 0) (whole_no (p := (4096 : Int) < j.items.length) g0) P0.out)
  by_cases g1 : (256 : Int) < j.floats.length
  · have E := Lib.hid (first_k (k := 1) (z := 0) (by omega) (whole_0 (p := (256 : Int) < j.floats.length) g1) (by omega) P0.out)
    go_wp2
    refine bodyPost_ret (v := .agg #[.int .i64 4, .int .i64 0]) ?_ rfl ⟨?_, ?_⟩
    · exact results_cell_row Tryz.results8 _ _ _ 36 _ _ _ rfl (told_two C _ _) Tryz.underlying36 rfl info36
    · rw [E.out.1, E.out.2]; try rfl
    · exact told_bel C _ _
  replace P0 := Lib.hid (next_k (k := 1) (whole_no (p := (256 : Int) < j.floats.length) g1) P0.out)
  by_cases g2 : (512 : Int) < j.notes.length
  · have E := Lib.hid (first_k (k := 2) (z := 0) (by omega) (whole_0 (p := (512 : Int) < j.notes.length) g2) (by omega) P0.out)
    go_wp2
    refine bodyPost_ret (v := .agg #[.int .i64 5, .int .i64 0]) ?_ rfl ⟨?_, ?_⟩
    · exact results_cell_row Tryz.results8 _ _ _ 36 _ _ _ rfl (told_two C _ _) Tryz.underlying36 rfl info36
    · rw [E.out.1, E.out.2]; try rfl
    · exact told_bel C _ _
  replace P0 := Lib.hid (next_k (k := 2) (whole_no (p := (512 : Int) < j.notes.length) g2) P0.out)
  go_upto_region 7 with (fail)
  (refine wp_region_plain (Old U) 3 (Below.refl _ U) ?_; simp only [List.take_succ_cons, List.take_zero, List.drop_succ_cons, List.drop_zero])
  (apply Text.sees (hw := by kernel_rfl); (focus (intro x hx K hK; have hc := (fun _ _ => trivial) x hx; go_simp; exact hK)); simp only [Act.put, List.getElem_toArray, List.getElem_cons_succ, List.getElem_cons_zero, List.setIfInBounds_toArray, List.set_cons_zero, List.set_cons_succ])
  (refine Text.val (fun x hx => load_jgeo (.tmp 26) rfl rfl (C.job.old hx)) (by kernel_rfl) ?_; simp only [Act.put, List.getElem_toArray, List.getElem_cons_succ, List.getElem_cons_zero, List.setIfInBounds_toArray, List.set_cons_zero, List.set_cons_succ])
  (refine Text.call (Old.call fun x hx => rgcheck_any j.g x) (by kernel_rfl) (fun _ => by kernel_rfl) ?_; simp only [Act.put, List.getElem_toArray, List.getElem_cons_succ, List.getElem_cons_zero, List.setIfInBounds_toArray, List.set_cons_zero, List.set_cons_succ])
  intro x hx
  replace C := C.old hx
  clear hx t19 t20 t21 f0 f1 r0
  obtain ⟨t19, t20, t21⟩ := C.job.three
  have f0 := C.room.free 0
  have f1 := C.room.free 1
  have r0 := C.room.two
  have GE := Lib.hid (geom_k P0.out)
  generalize errE j.g = ge at *
  by_cases g3 : ge = 0
  case neg =>
    have hne : (ge != 0) = true := by simpa using g3
    have E := Lib.hid (GE.out.2 g3)
    clear GE
    go_wp2
    refine bodyPost_ret (v := .agg #[.int .i64 ge, .int .i64 0]) ?_ rfl ⟨?_, ?_⟩
    · exact results_cell_row Tryz.results8 _ _ _ 36 _ _ _ rfl (told_two C _ _) Tryz.underlying36 rfl info36
    · rw [E.out.1, E.out.2]; try rfl
    · exact told_bel C _ _
  subst g3
  replace P0 := Lib.hid (GE.out.1 rfl)
  clear GE g0 g1 g2
  have HF : Hid (Few j) := Lib.hid (by
    rcases HT.out with h | ⟨i, hi, hb⟩
    · exact h
    · rw [P0.out i hi] at hb; cases hb)
  clear HT
  obtain ⟨k1, k2, k3, _⟩ := HF.out
  have IK := Lib.hid (idx_k (k := 5) (by omega) (rfl : faultK j 5 = idxK (itemQ j.items) j.items.length) P0.out)
  clear t19 t20 t21 f0 f1 r0
  go_upto_region 10 with (fail)
  go_wp2_with fail
  go_loopw [4] (fun i wr => ∃ m : Nat, m ≤ j.items.length ∧ i = .int .i64 m ∧ Hid (RcS w wr j s) ∧ Hid (∀ i, i < m → itemQ j.items i = false)) (fun i _ => j.items.length - (intOf i).toNat)
  case atStart => exact ⟨0, Nat.zero_le _, rfl, Lib.hid C, Lib.hid fun i hi => by omega⟩
  case round =>
    clear C
    obtain ⟨m, hm, rfl, HC, HP⟩ := hrel
    have C := HC.out
    obtain ⟨t19, t20, t21⟩ := C.job.three
    have f0 := C.room.free 0
    have f1 := C.room.free 1
    have r0 := C.room.two
    by_cases hlt : m < j.items.length
    · obtain ⟨b, off, hia, hB, p0, p1, p2, p3, p4, p5, p6⟩ := els7 (HL.out.items.carry C.bel) hlt
      rw [hia] at t19
      have HY : Hid (itemQ j.items m = true → errK j = 8 ∧ atK j = m) := Lib.hid fun h => IK.out.2 m hlt HP.out h
      have HS : Hid (itemQ j.items m = false → ∀ i, i < m + 1 → itemQ j.items i = false) := Lib.hid fun h i hi => by
        rcases Nat.lt_or_ge i m with h1 | h1
        · exact HP.out i h1
        · obtain rfl : i = m := by omega
          exact h
      have cc := fun w => rright_any (j.items.getD m zeroI) w
      unfold itemQ at HY
      have e0 : itemQ j.items m = !rightI (j.items.getD m zeroI) := rfl
      rw [e0] at HS
      clear HP e0 hia IK
      unfold itm at cc
      generalize rightI (j.items.getD m zeroI) = r at *
      generalize j.items.getD m zeroI = y at *
      go_wp2_with fail
      refine (cc _).mono ?_
      rintro e w1 ⟨rfl, b1⟩
      replace C := C.old b1
      clear cc b1 p0 p1 p2 p3 p4 p5 p6 t19 t20 t21 f0 f1 r0 HC
      have f0 := C.room.free 0
      have f1 := C.room.free 1
      have r0 := C.room.two
      cases r
      · have E := Lib.hid (HY.out rfl)
        clear HY HS
        go_wp2
        refine bodyPost_ret (v := .agg #[.int .i64 8, .int .i64 m]) ?_ rfl ⟨?_, ?_⟩
        · exact results_cell_row Tryz.results8 _ _ _ 36 _ _ _ rfl (told_two C _ _) Tryz.underlying36 rfl info36
        · rw [E.out.1, E.out.2]; try rfl
        · exact told_bel C _ _
      · replace HS := Lib.hid (HS.out rfl)
        clear HY
        go_wp2
        go_roundw
        case rel => exact ⟨m + 1, by omega, by go_num, Lib.hid C, HS⟩
        case measure => simp [intOf]; omega
    · obtain rfl : m = j.items.length := by omega
      replace P0 := Lib.hid (IK.out.1 HP.out)
      clear IK HP HC hm hlt
      have IK := Lib.hid (idx_k (k := 6) (by omega) (rfl : faultK j 6 = idxK (noteQ j.notes) j.notes.length) P0.out)
      obtain ⟨V, hV⟩ : ∃ V, V = wr := ⟨_, rfl⟩
      subst hV
      have HC := Lib.hid C
      clear f0 f1 r0 C
      go_upto_region 15 with (fail)
      clear t19 t20 t21
      go_wp2_with fail
      go_loopw [5] (fun i wr => ∃ m : Nat, m ≤ j.notes.length ∧ i = .int .i64 m ∧ Hid (RcS w wr j s) ∧ Hid (∀ i, i < m → noteQ j.notes i = false)) (fun i _ => j.notes.length - (intOf i).toNat)
      case atStart => exact ⟨0, Nat.zero_le _, rfl, HC, Lib.hid fun i hi => by omega⟩
      case round =>
        clear HC
        obtain ⟨m, hm, rfl, HC, HP⟩ := hrel
        have C := HC.out
        obtain ⟨t19, t20, t21⟩ := C.job.three
        have f0 := C.room.free 0
        have f1 := C.room.free 1
        have r0 := C.room.two
        by_cases hlt : m < j.notes.length
        · obtain ⟨hs, hE, hN⟩ := HL.out.notes
          obtain ⟨b, off, hna, hB, p0, p1⟩ := els2 (hE.carry C.bel) hlt
          rw [hna] at t20
          have HY : Hid (noteQ j.notes m = true → errK j = 9 ∧ atK j = m) := Lib.hid fun h => IK.out.2 m hlt HP.out h
          have HS : Hid (noteQ j.notes m = false → ∀ i, i < m + 1 → noteQ j.notes i = false) := Lib.hid fun h i hi => by
            rcases Nat.lt_or_ge i m with h1 | h1
            · exact HP.out i h1
            · obtain rfl : i = m := by omega
              exact h
          have cc := wrong_note (hs m) (j.notes.getD m zeroN) wr ((hN m hlt).carry C.bel)
          have e0 : noteQ j.notes m = !checkN (j.notes.getD m zeroN).l (j.notes.getD m zeroN).p := rfl
          rw [e0] at HS HY
          clear HP e0 hna IK hN hE
          unfold nte at cc
          generalize checkN _ _ = r at *
          generalize hs m = y at *
          go_wp2_with fail
          refine cc.mono ?_
          rintro e w1 ⟨rfl, b1⟩
          replace C := C.old b1
          clear cc b1 p0 p1 t19 t20 t21 f0 f1 r0 HC
          have f0 := C.room.free 0
          have f1 := C.room.free 1
          have r0 := C.room.two
          cases r
          · have E := Lib.hid (HY.out rfl)
            clear HY HS
            go_wp2
            refine bodyPost_ret (v := .agg #[.int .i64 9, .int .i64 m]) ?_ rfl ⟨?_, ?_⟩
            · exact results_cell_row Tryz.results8 _ _ _ 36 _ _ _ rfl (told_two C _ _) Tryz.underlying36 rfl info36
            · rw [E.out.1, E.out.2]; try rfl
            · exact told_bel C _ _
          · replace HS := Lib.hid (HS.out rfl)
            clear HY
            go_wp2
            go_roundw
            case rel => exact ⟨m + 1, by omega, by go_num, Lib.hid C, HS⟩
            case measure => simp [intOf]; omega
        · obtain rfl : m = j.notes.length := by omega
          replace P0 := Lib.hid (IK.out.1 HP.out)
          clear IK HP HC hm hlt
          have IK := Lib.hid (idx_k (k := 7) (by omega) (rfl : faultK j 7 = idxK (floatQ j.floats) j.floats.length) P0.out)
          obtain ⟨V, hV⟩ : ∃ V, V = wr := ⟨_, rfl⟩
          subst hV
          have HC := Lib.hid C
          clear f0 f1 r0 C
          go_upto_region 20 with (fail)
          clear t19 t20 t21
          go_wp2_with fail
          go_loopw [6] (fun i wr => ∃ m : Nat, m ≤ j.floats.length ∧ i = .int .i64 m ∧ Hid (RcS w wr j s) ∧ Hid (∀ i, i < m → floatQ j.floats i = false)) (fun i _ => j.floats.length - (intOf i).toNat)
          case atStart => exact ⟨0, Nat.zero_le _, rfl, HC, Lib.hid fun i hi => by omega⟩
          case round =>
            clear HC
            obtain ⟨m, hm, rfl, HC, HP⟩ := hrel
            have C := HC.out
            obtain ⟨t19, t20, t21⟩ := C.job.three
            have f0 := C.room.free 0
            have f1 := C.room.free 1
            have r0 := C.room.two
            by_cases hlt : m < j.floats.length
            · obtain ⟨b, off, hfa, hB, p0, p1, p2⟩ := els3 (HL.out.floats.carry C.bel) hlt
              rw [hfa] at t21
              have HY : Hid (floatQ j.floats m = true → errK j = 10 ∧ atK j = m) := Lib.hid fun h => IK.out.2 m hlt HP.out h
              have HS : Hid (floatQ j.floats m = false → ∀ i, i < m + 1 → floatQ j.floats i = false) := Lib.hid fun h i hi => by
                rcases Nat.lt_or_ge i m with h1 | h1
                · exact HP.out i h1
                · obtain rfl : i = m := by omega
                  exact h
              have cc := fun w => rfright_any (j.floats.getD m zeroF) w
              have e0 : floatQ j.floats m = !rightF (j.floats.getD m zeroF) := rfl
              rw [e0] at HS HY
              clear HP e0 hfa IK
              unfold flt at cc
              generalize rightF (j.floats.getD m zeroF) = r at *
              generalize j.floats.getD m zeroF = y at *
              go_wp2_with fail
              refine (cc _).mono ?_
              rintro e w1 ⟨rfl, b1⟩
              replace C := C.old b1
              clear cc b1 p0 p1 p2 t19 t20 t21 f0 f1 r0 HC
              have f0 := C.room.free 0
              have f1 := C.room.free 1
              have r0 := C.room.two
              cases r
              · have E := Lib.hid (HY.out rfl)
                clear HY HS
                go_wp2
                refine bodyPost_ret (v := .agg #[.int .i64 10, .int .i64 m]) ?_ rfl ⟨?_, ?_⟩
                · exact results_cell_row Tryz.results8 _ _ _ 36 _ _ _ rfl (told_two C _ _) Tryz.underlying36 rfl info36
                · rw [E.out.1, E.out.2]; try rfl
                · exact told_bel C _ _
              · replace HS := Lib.hid (HS.out rfl)
                clear HY
                go_wp2
                go_roundw
                case rel => exact ⟨m + 1, by omega, by go_num, Lib.hid C, HS⟩
                case measure => simp [intOf]; omega
            · obtain rfl : m = j.floats.length := by omega
              replace P0 := Lib.hid (IK.out.1 HP.out)
              clear IK HP HC hm hlt
              have UN := Lib.hid (un_k P0.out)
              have CI := Lib.hid fun x (hx : Old wr x) => HL.out.items.carry (C.old hx).bel
              have a5 := Lib.hid fun x (hx : Old wr x) => ranchors_any s.ia s.ic j.items 5 j.notes.length x (by omega) (CI.out x hx)
              have a6 := Lib.hid fun x (hx : Old wr x) => ranchors_any s.ia s.ic j.items 6 j.floats.length x (by omega) (CI.out x hx)
              have CE := Lib.hid fun x (hx : Old wr x) => (C.old hx).job.three
              go_upto_region 25 with (fail)
              clear CI t19 t20 t21 f0 f1 r0
              generalize anchK j.items 5 j.notes.length = A at *
              generalize anchK j.items 6 j.floats.length = B at *
              (refine wp_region_text (Old wr) 13 (by kernel_rfl) (by kernel_rfl) (Below.refl _ wr).drew ?_; simp only [List.take_succ_cons, List.take_zero, List.drop_succ_cons, List.drop_zero])
              repeat (first | (apply Text.sees (hw := by kernel_rfl); (focus (intro x hx K hK; have hc := CE.out x hx; go_simp; exact hK)); simp only [Act.put, List.getElem_toArray, List.getElem_cons_succ, List.getElem_cons_zero, List.setIfInBounds_toArray, List.set_cons_zero, List.set_cons_succ]) | (apply Text.idle; (focus (intro x hx K hK; go_simp; exact hK)); simp only [Act.put, List.getElem_toArray, List.getElem_cons_succ, List.getElem_cons_zero, List.setIfInBounds_toArray, List.set_cons_zero, List.set_cons_succ]))
              (refine Text.call (Old.call fun x hx => a5.out x hx) (by kernel_rfl) (fun _ => by kernel_rfl) ?_; simp only [Act.put, List.getElem_toArray, List.getElem_cons_succ, List.getElem_cons_zero, List.setIfInBounds_toArray, List.set_cons_zero, List.set_cons_succ])
              repeat (first | (apply Text.sees (hw := by kernel_rfl); (focus (intro x hx K hK; have hc := CE.out x hx; go_simp; exact hK)); simp only [Act.put, List.getElem_toArray, List.getElem_cons_succ, List.getElem_cons_zero, List.setIfInBounds_toArray, List.set_cons_zero, List.set_cons_succ]) | (apply Text.idle; (focus (intro x hx K hK; go_simp; exact hK)); simp only [Act.put, List.getElem_toArray, List.getElem_cons_succ, List.getElem_cons_zero, List.setIfInBounds_toArray, List.set_cons_zero, List.set_cons_succ]))
              (refine Text.call (Old.call fun x hx => a6.out x hx) (by kernel_rfl) (fun _ => by kernel_rfl) ?_; simp only [Act.put, List.getElem_toArray, List.getElem_cons_succ, List.getElem_cons_zero, List.setIfInBounds_toArray, List.set_cons_zero, List.set_cons_succ])
              repeat (first | (apply Text.sees (hw := by kernel_rfl); (focus (intro x hx K hK; have hc := CE.out x hx; go_simp; exact hK)); simp only [Act.put, List.getElem_toArray, List.getElem_cons_succ, List.getElem_cons_zero, List.setIfInBounds_toArray, List.set_cons_zero, List.set_cons_succ]) | (apply Text.idle; (focus (intro x hx K hK; go_simp; exact hK)); simp only [Act.put, List.getElem_toArray, List.getElem_cons_succ, List.getElem_cons_zero, List.setIfInBounds_toArray, List.set_cons_zero, List.set_cons_succ]))
              intro x hx
              replace C := C.old hx
              clear hx a5 a6 CE
              have f0 := C.room.free 0
              have f1 := C.room.free 1
              have r0 := C.room.two
              by_cases ga : 0 ≤ A ∧ (B < 0 ∨ A ≤ B)
              · have E := Lib.hid (UN.out.1 ga.1 ga.2)
                obtain ⟨ga1, ga2⟩ := ga
                by_cases gb : B < 0
                · clear UN ga2
                  go_wp2
                  refine bodyPost_ret (v := .agg #[.int .i64 11, .int .i64 A]) ?_ rfl ⟨?_, ?_⟩
                  · exact results_cell_row Tryz.results8 _ _ _ 36 _ _ _ rfl (told_two C _ _) Tryz.underlying36 rfl info36
                  · rw [E.out.1, E.out.2]; try rfl
                  · exact told_bel C _ _
                · have gb2 : A ≤ B := by omega
                  clear UN ga2
                  go_wp2
                  refine bodyPost_ret (v := .agg #[.int .i64 11, .int .i64 A]) ?_ rfl ⟨?_, ?_⟩
                  · exact results_cell_row Tryz.results8 _ _ _ 36 _ _ _ rfl (told_two C _ _) Tryz.underlying36 rfl info36
                  · rw [E.out.1, E.out.2]; try rfl
                  · exact told_bel C _ _
              by_cases gb : 0 ≤ B
              · have E := Lib.hid (UN.out.2.1 ga gb)
                clear UN
                by_cases ga0 : 0 ≤ A
                · have gb2 : ¬ A ≤ B := fun h => ga ⟨ga0, .inr h⟩
                  have gb3 : ¬ B < 0 := by omega
                  clear ga
                  go_wp2
                  refine bodyPost_ret (v := .agg #[.int .i64 11, .int .i64 B]) ?_ rfl ⟨?_, ?_⟩
                  · exact results_cell_row Tryz.results8 _ _ _ 36 _ _ _ rfl (told_two C _ _) Tryz.underlying36 rfl info36
                  · rw [E.out.1, E.out.2]; try rfl
                  · exact told_bel C _ _
                · clear ga
                  go_wp2
                  refine bodyPost_ret (v := .agg #[.int .i64 11, .int .i64 B]) ?_ rfl ⟨?_, ?_⟩
                  · exact results_cell_row Tryz.results8 _ _ _ 36 _ _ _ rfl (told_two C _ _) Tryz.underlying36 rfl info36
                  · rw [E.out.1, E.out.2]; try rfl
                  · exact told_bel C _ _
              have ga0 : ¬ 0 ≤ A := fun h => ga ⟨h, .inl (by omega)⟩
              replace P0 := Lib.hid (UN.out.2.2 gb ga0)
              clear UN ga
              have IK := Lib.hid (idx_k (k := 9) (by omega) (rfl : faultK j 9 = idxK (tallQ (snapJ j).floats (snapJ j).g.first) (snapJ j).floats.length) P0.out)
              have hfl : (snapJ j).floats.length ≤ 1000000 := by
                have e : (snapJ j).floats.length = j.floats.length := by
                  unfold snapJ
                  split
                  · rfl
                  · exact List.length_map ..
                omega
              go_upto_region 30 with (fail)
              clear f0 f1 r0
              refine wp_region_lit ?_
              refine wpl_load_job rfl (.tmp 1) rfl rfl C.job ?_
              simp only [Act.put, List.getElem_toArray, List.getElem_cons_succ, List.getElem_cons_zero, List.setIfInBounds_toArray, List.set_cons_zero, List.set_cons_succ]
              refine wpl_call (V := fun v y => ∃ a, v = .agg (jobC (snapJ j) a) ∧ Lists y (snapJ j) a ∧ Below x.heap.size x y) rfl (by kernel_rfl) ((rsnap_any j s x (HL.out.carry C.bel) HF.out).mono fun e y h => by obtain ⟨a, r1, r2, r3⟩ := h; exact ⟨_, r1, a, rfl, r2, r3⟩) ?_
              rintro v w1 ⟨s1, rfl, hL1, b1⟩
              simp only [Act.put, List.getElem_toArray, List.getElem_cons_succ, List.getElem_cons_zero, List.setIfInBounds_toArray, List.set_cons_zero, List.set_cons_succ]
              refine make_job (j := snapJ j) (s := s1) rfl rfl rfl (.tmp 9) (.tmp 111) rfl rfl rfl ?_
              simp only [Act.put, List.getElem_toArray, List.getElem_cons_succ, List.getElem_cons_zero, List.setIfInBounds_toArray, List.set_cons_zero, List.set_cons_succ]
              have D2 := job_new w1 (snapJ j) s1
              have b2 := tbel1 w1 (.cells (jobC (snapJ j) s1) 29)
              replace C := C.old (tstep b1 b2 b1.size)
              have HL1 := Lib.hid (hL1.carry b2)
              clear b1 b2 hL1
              go_upto_region 31 with (fail)
              generalize w1.heap.size = q at *
              generalize w1.alloc _ = W at *
              go_wp2_with fail
              go_loopw [10] (fun i wr => ∃ m : Nat, m ≤ (snapJ j).floats.length ∧ i = .int .i64 m ∧ Old W wr ∧ Hid (∀ i, i < m → tallQ (snapJ j).floats (snapJ j).g.first i = false)) (fun i _ => (snapJ j).floats.length - (intOf i).toNat)
              case atStart => exact ⟨0, Nat.zero_le _, rfl, Below.refl _ _, Lib.hid fun i hi => by omega⟩
              case round =>
                obtain ⟨m, hm, rfl, bw, HP⟩ := hrel
                replace C := C.old bw
                replace D2 := D2.old bw
                have f0 := C.room.free 0
                have f1 := C.room.free 1
                have r0 := C.room.two
                have t21 := D2.three.2.2
                by_cases hlt : m < (snapJ j).floats.length
                · obtain ⟨b, off, hfa, hB, p0, p1, p2⟩ := els3 (HL1.out.floats.carry bw) hlt
                  rw [hfa] at t21
                  have t4 := D2.geo.2.2.2.2.1
                  have HY : Hid (tallQ (snapJ j).floats (snapJ j).g.first m = true → errK j = 12 ∧ atK j = m) := Lib.hid fun h => IK.out.2 m hlt HP.out h
                  have HS : Hid (tallQ (snapJ j).floats (snapJ j).g.first m = false → ∀ i, i < m + 1 → tallQ (snapJ j).floats (snapJ j).g.first i = false) := Lib.hid fun h i hi => by
                    rcases Nat.lt_or_ge i m with h1 | h1
                    · exact HP.out i h1
                    · obtain rfl : i = m := by omega
                      exact h
                  have e0 : tallQ (snapJ j).floats (snapJ j).g.first m = decide ((snapJ j).g.first < ((snapJ j).floats.getD m zeroF).h) := rfl
                  rw [e0] at HS HY
                  have CE := Lib.hid fun x (hx : Old wr x) => And.intro ((Blk.cell (D2.old hx) 21).trans ((Blk.cell D2 21).symm.trans t21)) (And.intro ((Blk.cell (D2.old hx) 4).trans ((Blk.cell D2 4).symm.trans t4)) ((hx.cell (p := ⟨b, off + m * 3 + 1, none⟩) hB).trans p1))
                  go_upto_region 34 with (fail)
                  clear HP e0 hfa IK p0 p1 p2 t21 t4 f0 f1 r0
                  generalize ((snapJ j).floats.getD m zeroF).h = h at *
                  (refine wp_region_text (Old wr) 9 (by kernel_rfl) (by kernel_rfl) (Below.refl _ wr).drew ?_; simp only [List.take_succ_cons, List.take_zero, List.drop_succ_cons, List.drop_zero])
                  repeat (first | (apply Text.sees (hw := by kernel_rfl); (focus (intro x hx K hK; have hc := CE.out x hx; go_simp; exact hK)); simp only [Act.put, List.getElem_toArray, List.getElem_cons_succ, List.getElem_cons_zero, List.setIfInBounds_toArray, List.set_cons_zero, List.set_cons_succ]) | (apply Text.idle; (focus (intro x hx K hK; go_simp; exact hK)); simp only [Act.put, List.getElem_toArray, List.getElem_cons_succ, List.getElem_cons_zero, List.setIfInBounds_toArray, List.set_cons_zero, List.set_cons_succ]))
                  intro x hx
                  replace C := C.old hx
                  replace bw := tstep bw hx bw.size
                  clear hx CE
                  have f0 := C.room.free 0
                  have f1 := C.room.free 1
                  have r0 := C.room.two
                  by_cases hh : (snapJ j).g.first < h
                  · have E := Lib.hid (HY.out (decide_eq_true hh))
                    clear HY HS
                    go_wp2
                    refine bodyPost_ret (v := .agg #[.int .i64 12, .int .i64 m]) ?_ rfl ⟨?_, ?_⟩
                    · exact results_cell_row Tryz.results8 _ _ _ 36 _ _ _ rfl (told_two C _ _) Tryz.underlying36 rfl info36
                    · rw [E.out.1, E.out.2]; try rfl
                    · exact told_bel C _ _
                  · replace HS := Lib.hid (HS.out (decide_eq_false hh))
                    clear HY
                    go_wp2
                    go_roundw
                    case rel => exact ⟨m + 1, by omega, by go_num, bw, HS⟩
                    case measure => simp [intOf]; omega
                · obtain rfl : m = (snapJ j).floats.length := by omega
                  have E := Lib.hid (verdict_none (IK.out.1 HP.out))
                  clear IK HP
                  go_wp2
                  refine bodyPost_ret (v := .agg #[.int .i64 0, .int .i64 0]) ?_ rfl ⟨?_, ?_⟩
                  · exact results_cell_row Tryz.results8 _ _ _ 36 _ _ _ rfl (told_two C _ _) Tryz.underlying36 rfl info36
                  · rw [E.out.1, E.out.2]; try rfl
                  · exact told_bel C _ _
end Go.Proofs.YthcgncgnbjhniaaGreat
