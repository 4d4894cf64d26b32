/- What package anchor tells of entries: between, last. Notes, Floats, Begun, Ahead and Due of package anchor. -/
import Derived.Test.YtniipfpfilenmaaHGet
import Derived.Deep.CutBlock
namespace Go.Proofs.Ytniipfpfilenmaa
open Go.RowKit
set_option maxRecDepth 20000
set_option linter.unusedVariables false
set_option linter.unusedSimpArgs false

theorem hcut (b off n gc i j : Nat) (hij : i < j) (hj : j ≤ gc) (hg : gc ≤ maxLen) : ∀ x, Sem.run Try.prog (Instr.slice 29 (.slice (some ⟨b, off, none⟩) n gc) (some (.int .i64 (i : Int))) (some (.int .i64 (j : Int))) none) x = .ok (.slice (some ⟨b, off + i, none⟩) (j - i) (gc - i)) x := by
  intro x
  rw [run_slice_lh _ 29 _ n gc Try.underlying29 .i64 .i64 i j (by omega) (by omega) (by omega)]
  have e : Sem.run Try.prog (sizeOf (Try.prog.elem 29)) x = .ok 1 x := by kernel_rfl
  rw [e]
  have e2 : ¬ gc = i := by omega
  simp [Result.andThen, sliced, e2, Go.WideShapes.add_plain]
theorem IRow.mid {w : World} {B b off : Nat} {l : List Int} (h : IRow B w (some ⟨b, off, none⟩) l) {i j : Nat} (hj : j ≤ l.length) : IRow B w (some ⟨b, off + i, none⟩) ((l.take j).drop i) := fun k hk => by
  have hk' : k < j - i := by simp at hk; omega
  obtain ⟨h1, b', off', e, h2, h3⟩ := h (i + k) (by omega)
  cases e
  have e : ((l.take j).drop i).getD k 0 = l.getD (i + k) 0 := by
    rw [List.getD_eq_getElem?_getD, List.getD_eq_getElem?_getD, List.getElem?_drop, List.getElem?_take_of_lt (by omega)]
  rw [e]
  exact ⟨h1, _, off + i, rfl, h2, by rw [Nat.add_assoc]; exact h3⟩
theorem midE_len {α : Type} (E : List (Int × α)) (a b : Int) : (midE E a b).length = cntB (atE E) b - cntB (atE E) a := by
  unfold midE
  have h := cntB_le (atE E) b
  rw [atE_len] at h
  rw [List.length_drop, List.length_take, valE_len]
  omega
set_option maxHeartbeats 4000000 in
theorem hbetween_any (v0 v1 : Value) (E : List (Int × Int)) (a b : Int) (w : World) (hl : E.length ≤ 1000000) (h0 : SlI w v0 (atE E)) (h1 : SlI w v1 (valE E)) (hs : RiseL (atE E)) (hi : ∀ k, inR ((valE E).getD k 0)) :
    Calls Try.prog 22 #[.agg #[v0, v1], .int .i64 a, .int .i64 b] w fun e w' => ∃ v, e = .returned v ∧ OwnN w' w.heap.size v (midE E a b) ∧ Below w.heap.size w w' := by
  obtain ⟨a0, c0, rfl, hc0, hp0, hr0⟩ := h0
  obtain ⟨a1, c1, rfl, hc1, hp1, hr1⟩ := h1
  have hml := midE_len E a b
  have hme : midE E a b = ((valE E).take (cntB (atE E) b)).drop (cntB (atE E) a) := rfl
  have hle : ∀ n, cntB (atE E) n ≤ E.length := fun n => by have := cntB_le (atE E) n; rwa [atE_len] at this
  have hla := hle a
  have hlb := hle b
  have hvl := Lib.hid (valE_len E)
  have hal := atE_len E
  have ca := fun x (hx : Below w.heap.size w x) => hbelow_any a0 c0 (atE E) (.slice a1 (valE E).length c1) a x (by omega) ((hr0.carry hx (Nat.le_refl _)).mono hx.size) hs
  have cb := fun x (hx : Below w.heap.size w x) => hbelow_any a0 c0 (atE E) (.slice a1 (valE E).length c1) b x (by omega) ((hr0.carry hx (Nat.le_refl _)).mono hx.size) hs
  have HM : Hid (∀ k, inR ((midE E a b).getD k 0)) := Lib.hid fun k => by
    rw [hme, List.getD_eq_getElem?_getD, List.getElem?_drop]
    by_cases hk : cntB (atE E) a + k < cntB (atE E) b
    · rw [List.getElem?_take_of_lt hk, ← List.getD_eq_getElem?_getD]; exact hi _
    · rw [List.getElem?_eq_none (by simp; omega)]; simp [inR]
  have HR1 := Lib.hid hr1
  have HME := Lib.hid hme
  have HML := Lib.hid hml
  clear hr0 hs hi hle hr1 hme hml hal
  generalize hM : midE E a b = M at *
  clear hM
  generalize (atE E).length = n0 at *
  generalize hV : valE E = V at *
  clear hV
  generalize cntB (atE E) a = i at *
  generalize cntB (atE E) b = j at *
  obtain ⟨nv, hnv⟩ : ∃ nv, nv = V.length := ⟨_, rfl⟩
  rw [← hnv] at ca cb hc1
  have HNV := Lib.hid hnv
  rw [show V.length = nv from hnv.symm]
  clear hnv
  have b0 := tbel1 w (.cells #[.slice a0 n0 c0, .slice a1 nv c1] 44)
  have B0 := blk_new w #[.slice a0 n0 c0, .slice a1 nv c1] 44
  go_enter Try.func22, Try.ntmps22
  go_upto_region 1 with (fail)
  generalize w.alloc _ = U at *
  have CE := Lib.hid fun x (hx : Old U x) => (B0.old hx).two
  have HA := Lib.hid fun x (hx : Old U x) => ca x (tstep b0 hx b0.size)
  have HB := Lib.hid fun x (hx : Old U x) => cb x (tstep b0 hx b0.size)
  clear ca cb
  (refine wp_region_text (Old U) 7 (by kernel_rfl) (by kernel_rfl) (Below.refl _ U).drew ?_; simp only [List.take_succ_cons, List.take_zero, List.drop_succ_cons, List.drop_zero])
  repeat (first | (apply Text.sees (hw := by kernel_rfl); (focus (intro x hx K hK; have hc := CE.out x hx; go_simp; exact hK)); simp only [Act.put, List.getElem_toArray, List.getElem_cons_succ, List.getElem_cons_zero, List.setIfInBounds_toArray, List.set_cons_zero, List.set_cons_succ]) | (apply Text.idle; (focus (intro x hx K hK; go_simp; exact hK)); simp only [Act.put, List.getElem_toArray, List.getElem_cons_succ, List.getElem_cons_zero, List.setIfInBounds_toArray, List.set_cons_zero, List.set_cons_succ]))
  (refine Text.call (Old.call fun x hx => HA.out x hx) (by kernel_rfl) (fun _ => by kernel_rfl) ?_; simp only [Act.put, List.getElem_toArray, List.getElem_cons_succ, List.getElem_cons_zero, List.setIfInBounds_toArray, List.set_cons_zero, List.set_cons_succ])
  repeat (first | (apply Text.sees (hw := by kernel_rfl); (focus (intro x hx K hK; have hc := CE.out x hx; go_simp; exact hK)); simp only [Act.put, List.getElem_toArray, List.getElem_cons_succ, List.getElem_cons_zero, List.setIfInBounds_toArray, List.set_cons_zero, List.set_cons_succ]) | (apply Text.idle; (focus (intro x hx K hK; go_simp; exact hK)); simp only [Act.put, List.getElem_toArray, List.getElem_cons_succ, List.getElem_cons_zero, List.setIfInBounds_toArray, List.set_cons_zero, List.set_cons_succ]))
  (refine Text.call (Old.call fun x hx => HB.out x hx) (by kernel_rfl) (fun _ => by kernel_rfl) ?_; simp only [Act.put, List.getElem_toArray, List.getElem_cons_succ, List.getElem_cons_zero, List.setIfInBounds_toArray, List.set_cons_zero, List.set_cons_succ])
  repeat (first | (apply Text.sees (hw := by kernel_rfl); (focus (intro x hx K hK; have hc := CE.out x hx; go_simp; exact hK)); simp only [Act.put, List.getElem_toArray, List.getElem_cons_succ, List.getElem_cons_zero, List.setIfInBounds_toArray, List.set_cons_zero, List.set_cons_succ]) | (apply Text.idle; (focus (intro x hx K hK; go_simp; exact hK)); simp only [Act.put, List.getElem_toArray, List.getElem_cons_succ, List.getElem_cons_zero, List.setIfInBounds_toArray, List.set_cons_zero, List.set_cons_succ]))
  intro x hx
  have bx := tstep b0 hx b0.size
  have q := CE.out x hx
  clear HA HB CE
  by_cases hij : i < j
  · have hrx := (HR1.out.carry bx (Nat.le_refl _)).mono bx.size
    cases a1 with
    | none =>
      exfalso
      have h0 := inone HR1.out
      have := HNV.out
      have h2 := hvl.out
      rw [h0] at this h2
      simp at this h2
      omega
    | some ad =>
      obtain ⟨bb, off, sp⟩ := ad
      obtain rfl : sp = none := hp1 _ rfl
      have hnv2 : nv = E.length := by rw [HNV.out, hvl.out]
      have e := hcut bb off nv c1 i j hij (by omega) hc1.2
      have c := hclone_any (some ⟨bb, off + i, none⟩) (c1 - i) M x (by rw [HML.out]; omega) (by rw [HME.out]; exact hrx.mid (by rw [hvl.out]; omega)) HM.out (fun ad h => by cases h; rfl)
      rw [HML.out] at c
      clear hrx HR1 HME HML HM
      go_wp2_with fail
      refine c.mono ?_
      rintro e w2 ⟨v, rfl, ho, b2⟩
      clear c
      go_wp2
      go_ret
      exact ⟨_, rfl, ho.mono bx.size, tstep bx b2 bx.size⟩
  · have HE : Hid (M = []) := Lib.hid (List.eq_nil_of_length_eq_zero (by rw [HML.out]; omega))
    clear HR1 HME HML HM
    go_wp2
    go_ret
    exact ⟨.slice none 0 0, rfl, by rw [HE.out]; exact ownN_nil _ _, bx⟩
/-- An element's three cells. -/
theorem Els.three {w : World} {a : Option Addr} {n k : Nat} {F : Nat → A3} (h : Els 3 encA w a n F) (hk : k < n) : ∃ b off, a = some ⟨b, off, none⟩ ∧ b < w.heap.size ∧ w.cell? ⟨b, off + k * 3, none⟩ = some (.int .i64 (F k).a) ∧ w.cell? ⟨b, off + k * 3 + 1, none⟩ = some (.int .i64 (F k).b) ∧ w.cell? ⟨b, off + k * 3 + 2, none⟩ = some (.int .i64 (F k).c) := by
  obtain ⟨b, off, rfl, hB, h0⟩ := h k 0 hk (by omega)
  have g : ∀ j, j < 3 → w.cell? ⟨b, off + (k * 3 + j), none⟩ = (encA (F k))[j]? := fun j hj => by
    obtain ⟨b', off', e, _, hc⟩ := h k j hk hj
    cases e
    exact hc
  exact ⟨b, off, rfl, hB, h0, g 1 (by omega), g 2 (by omega)⟩
set_option maxHeartbeats 2000000 in
theorem hlast_any (v0 v1 : Value) (E : List (Int × A3)) (n : Int) (w : World) (hl : E.length ≤ 1000000) (h0 : SlI w v0 (atE E)) (h1 : SlA w v1 (valE E)) (hs : RiseL (atE E)) :
    Calls Try.prog 24 #[.agg #[v0, v1], .int .i64 n] w fun e w' => e = .returned (ar3 (lastE E n zeroA)) ∧ Below w.heap.size w w' := by
  obtain ⟨a0, c0, rfl, hc0, hp0, hr0⟩ := h0
  obtain ⟨a1, c1, rfl, hc1, he1⟩ := h1
  have hvl := valE_len E
  have hal := atE_len E
  have hle := cntB_le (atE E) n
  have ca := fun x (hx : Below w.heap.size w x) => hbelowC_any a0 c0 (atE E) (.slice a1 (valE E).length c1) n x (by omega) ((hr0.carry hx (Nat.le_refl _)).mono hx.size) hs
  have b0 := tbel2 w (.cells #[.slice a0 (atE E).length c0, .slice a1 (valE E).length c1] 47) (.cells #[.int .i64 0, .int .i64 0, .int .i64 0] 33)
  have B0 := (blk_new w #[.slice a0 (atE E).length c0, .slice a1 (valE E).length c1] 47).alloc (.cells #[.int .i64 0, .int .i64 0, .int .i64 0] 33)
  have B1 := blk_two w (.cells #[.slice a0 (atE E).length c0, .slice a1 (valE E).length c1] 47) #[.int .i64 0, .int .i64 0, .int .i64 0] 33
  unfold lastE
  clear hr0 hs
  by_cases hz : cntB (atE E) n = 0
  · rw [hz] at ca
    rw [if_pos hz]
    unfold ar3 zeroA
    dsimp only
    generalize (atE E).length = n0 at *
    generalize (valE E).length = n1 at *
    clear hz hle he1 hvl hal hl hc0 hc1 hp0
    go_enter Try.func24, Try.ntmps24
    go_wp2_with fail
    generalize (w.alloc _).alloc _ = U at *
    refine (ca _ b0).mono ?_
    rintro e w1 ⟨rfl, b1⟩
    have C1 := B1.old b1
    have bx := tstep b0 b1 b0.size
    clear ca B0 B1 b0 b1
    obtain ⟨r0, r1, r2⟩ := C1.triple
    obtain ⟨f0, f1, f2⟩ := C1.triple_free
    have hlt := C1.lt
    go_wp2
    refine bodyPost_ret (v := .agg #[.int .i64 0, .int .i64 0, .int .i64 0]) (by simp [results, Try.results24, go_sem, *]) rfl ⟨rfl, ?_⟩
    exact (((bx.setCell (p := ⟨w.heap.size + 1, 0, none⟩) (by simp) _).setCell (p := ⟨w.heap.size + 1, 1, none⟩) (by simp) _).setCell (p := ⟨w.heap.size + 1, 2, none⟩) (by simp) _).alloc (by simp; have := bx.size; omega) _
  · rw [if_neg hz]
    obtain ⟨m, hm⟩ : ∃ m, cntB (atE E) n = m + 1 := ⟨cntB (atE E) n - 1, by omega⟩
    rw [hm] at ca
    rw [hm, Nat.add_sub_cancel]
    have hml : m < (valE E).length := by omega
    obtain ⟨b, off, rfl, hB, _⟩ := he1.three hml
    have HQ := Lib.hid fun x (hx : Below w.heap.size w x) => (he1.carry hx).three hml
    obtain ⟨r, hr⟩ : ∃ r, r = (valE E).getD m zeroA := ⟨_, rfl⟩
    rw [← hr] at HQ ⊢
    clear hr he1
    obtain ⟨x0, x1, x2⟩ := r
    unfold ar3
    dsimp only at HQ ⊢
    rw [show ((m + 1 : Nat) : Int) = (m : Int) + 1 from rfl] at ca
    have hn1 : (valE E).length ≤ 1000000 := by omega
    generalize (atE E).length = n0 at *
    generalize (valE E).length = n1 at *
    clear hz hle hm hvl hal hl hc0 hp0
    go_enter Try.func24, Try.ntmps24
    go_wp2_with fail
    generalize (w.alloc _).alloc _ = U at *
    refine (ca _ b0).mono ?_
    rintro e w1 ⟨rfl, b1⟩
    have C0 := B0.old b1
    have C1 := B1.old b1
    have bx := tstep b0 b1 b0.size
    obtain ⟨_, _, e, _, q0, q1, q2⟩ := HQ.out w1 bx
    cases e
    clear ca B0 B1 b0 b1 HQ
    obtain ⟨p0, p1⟩ := C0.two
    obtain ⟨r0, r1, r2⟩ := C1.triple
    obtain ⟨f0, f1, f2⟩ := C1.triple_free
    have hlt := C1.lt
    go_wp2
    refine bodyPost_ret (v := .agg #[.int .i64 x0, .int .i64 x1, .int .i64 x2]) (by simp [results, Try.results24, go_sem, *]) rfl ⟨rfl, ?_⟩
    exact ((bx.setCell (p := ⟨w.heap.size + 1, 0, none⟩) (by simp) _).setCell (p := ⟨w.heap.size + 1, 1, none⟩) (by simp) _).setCell (p := ⟨w.heap.size + 1, 2, none⟩) (by simp) _
end Go.Proofs.Ytniipfpfilenmaa
namespace Go.Proofs.Ytniipfpfilenmaa
open Go.RowKit
set_option maxRecDepth 20000
set_option linter.unusedVariables false
set_option linter.unusedSimpArgs false

theorem entN_in {l : List I7} (hl : ∀ k, inI (l.getD k zeroI)) (kd : Int) (K : Nat) : ∀ k, inR ((valE (entN l kd K)).getD k 0) := by
  induction K with
  | zero => intro k; simp [entN, valE, inR]
  | succ K ih =>
    intro k
    unfold entN
    split
    · rw [valE_snoc]
      by_cases h : k < (valE (entN l kd K)).length
      · rw [getD_snocL _ _ _ _ h]; exact ih k
      · by_cases h2 : k = (valE (entN l kd K)).length
        · rw [h2, getD_lastL]; exact (hl K).2.2.2.2.2.2
        · rw [List.getD_eq_getElem?_getD, List.getElem?_eq_none (by simp; omega)]
          simp [inR]
    · exact ih k
theorem fld0 (v0 v1 v2 v3 v4 v5 v6 v7 : Value) : ∀ x, Sem.run Try.prog (Instr.field 49 (.agg #[v0, v1, v2, v3, v4, v5, v6, v7]) 0) x = .ok (.agg #[v0, v1]) x := fun x => by kernel_rfl
theorem fld1 (v0 v1 v2 v3 v4 v5 v6 v7 : Value) : ∀ x, Sem.run Try.prog (Instr.field 49 (.agg #[v0, v1, v2, v3, v4, v5, v6, v7]) 1) x = .ok (.agg #[v2, v3]) x := fun x => by kernel_rfl
theorem fld2 (v0 v1 v2 v3 v4 v5 v6 v7 : Value) : ∀ x, Sem.run Try.prog (Instr.field 49 (.agg #[v0, v1, v2, v3, v4, v5, v6, v7]) 2) x = .ok (.agg #[v4, v5]) x := fun x => by kernel_rfl
theorem fld3 (v0 v1 v2 v3 v4 v5 v6 v7 : Value) : ∀ x, Sem.run Try.prog (Instr.field 49 (.agg #[v0, v1, v2, v3, v4, v5, v6, v7]) 3) x = .ok (.agg #[v6, v7]) x := fun x => by kernel_rfl
set_option maxHeartbeats 1000000 in
theorem hnotes_any (v : Value) (l : List I7) (fl : List F3) (a b : Int) (w : World) (h : MapV w v l fl) (hl : l.length ≤ 1000000) (hi : ∀ k, inI (l.getD k zeroI)) :
    Calls Try.prog 9 #[v, .int .i64 a, .int .i64 b] w fun e w' => ∃ u, e = .returned u ∧ OwnN w' w.heap.size u (numsA l 5 a b l.length) ∧ Below w.heap.size w w' := by
  have ck := hkept_any v l fl w h
  have u := entN_upto l 5 l.length
  have hf := u.few
  have cb := Lib.hid fun v0 v1 x h0 h1 => hbetween_any v0 v1 (entN l 5 l.length) a b x (by omega) h0 h1 u.rise (entN_in hi 5 l.length)
  rw [midE_entN] at cb
  have ff := fld0
  clear h u hf
  go_enter Try.func9, Try.ntmps9
  go_wp2_with fail
  refine ck.mono ?_
  rintro e w1 ⟨v0, v1, v2, v3, v4, v5, v6, v7, rfl, hc, b1⟩
  clear ck
  have c := cb.out v0 v1 w1 hc.c0 hc.c1
  have f := ff v0 v1 v2 v3 v4 v5 v6 v7
  clear hc cb ff
  go_wp2_with fail
  refine c.mono ?_
  rintro e w2 ⟨u, rfl, ho, b2⟩
  clear c f
  go_wp2
  go_ret
  exact ⟨_, rfl, ho.mono b1.size, tstep b1 b2 b1.size⟩
set_option maxHeartbeats 1000000 in
theorem hfloats_any (v : Value) (l : List I7) (fl : List F3) (a b : Int) (w : World) (h : MapV w v l fl) (hl : l.length ≤ 1000000) (hi : ∀ k, inI (l.getD k zeroI)) :
    Calls Try.prog 11 #[v, .int .i64 a, .int .i64 b] w fun e w' => ∃ u, e = .returned u ∧ OwnN w' w.heap.size u (numsA l 6 a b l.length) ∧ Below w.heap.size w w' := by
  have ck := hkept_any v l fl w h
  have u := entN_upto l 6 l.length
  have hf := u.few
  have cb := Lib.hid fun v0 v1 x h0 h1 => hbetween_any v0 v1 (entN l 6 l.length) a b x (by omega) h0 h1 u.rise (entN_in hi 6 l.length)
  rw [midE_entN] at cb
  have ff := fld1
  clear h u hf
  go_enter Try.func11, Try.ntmps11
  go_wp2_with fail
  refine ck.mono ?_
  rintro e w1 ⟨v0, v1, v2, v3, v4, v5, v6, v7, rfl, hc, b1⟩
  clear ck
  have c := cb.out v2 v3 w1 hc.c2 hc.c3
  have f := ff v0 v1 v2 v3 v4 v5 v6 v7
  clear hc cb ff
  go_wp2_with fail
  refine c.mono ?_
  rintro e w2 ⟨u, rfl, ho, b2⟩
  clear c f
  go_wp2
  go_ret
  exact ⟨_, rfl, ho.mono b1.size, tstep b1 b2 b1.size⟩
set_option maxHeartbeats 1000000 in
theorem hbegun_any (v : Value) (l : List I7) (fl : List F3) (n : Int) (w : World) (h : MapV w v l fl) (hl : l.length ≤ 1000000) :
    Calls Try.prog 12 #[v, .int .i64 n] w fun e w' => e = .returned (.int .i64 (cntB (atE (entN l 5 l.length)) n)) ∧ Below w.heap.size w w' := by
  have ck := hkept_any v l fl w h
  have u := entN_upto l 5 l.length
  have hf := u.few
  have hal := atE_len (entN l 5 l.length)
  have cb : Hid (∀ v0 v1 x, SlI x v0 (atE (entN l 5 l.length)) → Calls Try.prog 23 #[.agg #[v0, v1], .int .i64 n] x fun e w' => e = .returned (.int .i64 (cntB (atE (entN l 5 l.length)) n)) ∧ Below x.heap.size x w') := Lib.hid fun v0 v1 x h0 => by
    obtain ⟨a0, c0, rfl, hc0, hp0, hr0⟩ := h0
    exact hbelow_any a0 c0 (atE (entN l 5 l.length)) v1 n x (by omega) hr0 u.rise
  generalize cntB (atE (entN l 5 l.length)) n = r at *
  have ff := fld0
  clear h u hf hal
  go_enter Try.func12, Try.ntmps12
  go_wp2_with fail
  refine ck.mono ?_
  rintro e w1 ⟨v0, v1, v2, v3, v4, v5, v6, v7, rfl, hc, b1⟩
  clear ck
  have c := cb.out v0 v1 w1 hc.c0
  have f := ff v0 v1 v2 v3 v4 v5 v6 v7
  clear hc cb ff
  go_wp2_with fail
  refine c.mono ?_
  rintro e w2 ⟨rfl, b2⟩
  clear c f
  go_wp2
  go_ret
  exact ⟨rfl, tstep b1 b2 b1.size⟩
set_option maxHeartbeats 1000000 in
theorem hahead_any (v : Value) (l : List I7) (fl : List F3) (n : Int) (w : World) (h : MapV w v l fl) (hl : l.length ≤ 1000000) :
    Calls Try.prog 13 #[v, .int .i64 n] w fun e w' => e = .returned (ar3 (aheadA l fl (clN n l.length))) ∧ Below w.heap.size w w' := by
  have ck := fun x (hx : Below w.heap.size w x) => hkept_any v l fl x (h.carry hx)
  have u := entC_upto (aheadA l fl) l.length
  have hf := u.few
  have cb := Lib.hid fun v0 v1 x h0 h1 => hlast_any v0 v1 (entC (aheadA l fl) l.length) n x (by omega) h0 h1 u.rise
  have e := lastE_entC (aheadA l fl) n l.length
  rw [show aheadA l fl 0 = zeroA from rfl] at e
  rw [e] at cb
  generalize aheadA l fl (clN n l.length) = r at *
  obtain ⟨r0, r1, r2⟩ := r
  unfold ar3 at cb ⊢
  dsimp only at cb ⊢
  have ff := fld2
  have b0 := tbel1 w (.cells #[.int .i64 0, .int .i64 0, .int .i64 0] 33)
  have B0 := blk_new w #[.int .i64 0, .int .i64 0, .int .i64 0] 33
  clear h u hf e
  go_enter Try.func13, Try.ntmps13
  go_wp2_with fail
  refine (ck _ b0).mono ?_
  rintro e w1 ⟨v0, v1, v2, v3, v4, v5, v6, v7, rfl, hc, b1⟩
  clear ck
  have c := cb.out v4 v5 w1 hc.c4 hc.c5
  have f := ff v0 v1 v2 v3 v4 v5 v6 v7
  have B1 := B0.old b1
  have bx := tstep b0 b1 b0.size
  clear hc cb ff B0 b0 b1
  go_wp2_with fail
  refine c.mono ?_
  rintro e w2 ⟨rfl, b2⟩
  have B2 := B1.old b2
  have by_ := tstep bx b2 bx.size
  clear c f B1 b2 bx
  obtain ⟨r0', r1', r2'⟩ := B2.triple
  obtain ⟨f0, f1, f2⟩ := B2.triple_free
  have hlt := B2.lt
  go_wp2
  refine bodyPost_ret (v := .agg #[.int .i64 r0, .int .i64 r1, .int .i64 r2]) (by simp [results, Try.results13, go_sem, *]) rfl ⟨rfl, ?_⟩
  exact ((by_.setCell (p := ⟨w.heap.size, 0, none⟩) (Nat.le_refl _) _).setCell (p := ⟨w.heap.size, 1, none⟩) (Nat.le_refl _) _).setCell (p := ⟨w.heap.size, 2, none⟩) (Nat.le_refl _) _
set_option maxHeartbeats 1000000 in
theorem hdue_any (v : Value) (l : List I7) (fl : List F3) (n : Int) (w : World) (h : MapV w v l fl) (hl : l.length ≤ 1000000) :
    Calls Try.prog 15 #[v, .int .i64 n] w fun e w' => e = .returned (ar3 (dueA l fl (clN n l.length))) ∧ Below w.heap.size w w' := by
  have ck := fun x (hx : Below w.heap.size w x) => hkept_any v l fl x (h.carry hx)
  have u := entC_upto (dueA l fl) l.length
  have hf := u.few
  have cb := Lib.hid fun v0 v1 x h0 h1 => hlast_any v0 v1 (entC (dueA l fl) l.length) n x (by omega) h0 h1 u.rise
  have e := lastE_entC (dueA l fl) n l.length
  rw [show dueA l fl 0 = zeroA from rfl] at e
  rw [e] at cb
  generalize dueA l fl (clN n l.length) = r at *
  obtain ⟨r0, r1, r2⟩ := r
  unfold ar3 at cb ⊢
  dsimp only at cb ⊢
  have ff := fld3
  have b0 := tbel1 w (.cells #[.int .i64 0, .int .i64 0, .int .i64 0] 33)
  have B0 := blk_new w #[.int .i64 0, .int .i64 0, .int .i64 0] 33
  clear h u hf e
  go_enter Try.func15, Try.ntmps15
  go_wp2_with fail
  refine (ck _ b0).mono ?_
  rintro e w1 ⟨v0, v1, v2, v3, v4, v5, v6, v7, rfl, hc, b1⟩
  clear ck
  have c := cb.out v6 v7 w1 hc.c6 hc.c7
  have f := ff v0 v1 v2 v3 v4 v5 v6 v7
  have B1 := B0.old b1
  have bx := tstep b0 b1 b0.size
  clear hc cb ff B0 b0 b1
  go_wp2_with fail
  refine c.mono ?_
  rintro e w2 ⟨rfl, b2⟩
  have B2 := B1.old b2
  have by_ := tstep bx b2 bx.size
  clear c f B1 b2 bx
  obtain ⟨r0', r1', r2'⟩ := B2.triple
  obtain ⟨f0, f1, f2⟩ := B2.triple_free
  have hlt := B2.lt
  go_wp2
  refine bodyPost_ret (v := .agg #[.int .i64 r0, .int .i64 r1, .int .i64 r2]) (by simp [results, Try.results15, go_sem, *]) rfl ⟨rfl, ?_⟩
  exact ((by_.setCell (p := ⟨w.heap.size, 0, none⟩) (Nat.le_refl _) _).setCell (p := ⟨w.heap.size, 1, none⟩) (Nat.le_refl _) _).setCell (p := ⟨w.heap.size, 2, none⟩) (Nat.le_refl _) _
end Go.Proofs.Ytniipfpfilenmaa
