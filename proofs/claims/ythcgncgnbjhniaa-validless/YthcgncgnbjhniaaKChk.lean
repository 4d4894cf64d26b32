/- The list of clauses of package valid, Check and Right. -/
import Derived.Test.YthcgncgnbjhniaaKTal
namespace Go.Proofs.Ythcgncgnbjhniaa
open Go.RowKit
set_option maxRecDepth 20000
set_option linter.unusedVariables false
set_option linter.unusedSimpArgs false

def clsC : Array Value := #[.int .i64 3, .func (.func 16) #[] #[], .int .i64 4, .func (.func 18) #[] #[], .int .i64 5, .func (.func 19) #[] #[], .int .i64 6, .func (.func 20) #[] #[], .int .i64 7, .func (.func 22) #[] #[], .int .i64 8, .func (.func 23) #[] #[], .int .i64 9, .func (.func 26) #[] #[], .int .i64 10, .func (.func 29) #[] #[], .int .i64 11, .func (.func 32) #[] #[], .int .i64 12, .func (.func 33) #[] #[]]
theorem clauses_any (w : World) : Calls Try.prog 13 #[] w fun e w' => e = .returned (.slice (some ⟨w.heap.size, 0, none⟩) 10 10) ∧ Below w.heap.size w w' ∧ Blk w' w.heap.size clsC 49 := by
  have B := blk_new w clsC 49
  have b := tbel1 w (.cells clsC 49)
  unfold clsC at *
  go_enter Try.func13, Try.ntmps13
  go_wp2
  go_ret
  exact ⟨rfl, b, B⟩
/-- Is the verdict on j had without a look at more than the first 100 of each? -/
def Told (j : J4) : Prop := Few j ∨ ∃ i, i < 5 ∧ badK j i = true
theorem clause_k (j : J4) (s : S3) (g : Nat) (w : World) (hL : Lists w j s) (hB : Blk w g clsC 49) (hT : Told j) (k : Nat) (hk : k < 10) (hp : ∀ i, i < k → badK j i = false) :
    ∃ F, w.cell? ⟨g, k * 2, none⟩ = some (.int .i64 ((k : Int) + 3)) ∧ w.cell? ⟨g, k * 2 + 1, none⟩ = some (.func (.func F) #[] #[]) ∧ (∀ v w, Sem.run Try.prog (callFunc F #[v]) w = .ok (.enter F #[v]) w) ∧ ∀ x, Below w.heap.size w x → Calls Try.prog F #[.agg (jobC j s)] x fun e y => e = .returned (.int .i64 (faultK j k)) ∧ Below x.heap.size x y := by
  have hf : 5 ≤ k → Few j := fun h => by
    rcases hT with h | ⟨i, hi, hb⟩
    · exact h
    · rw [hp i (by omega)] at hb; cases hb
  have e : k = 0 ∨ k = 1 ∨ k = 2 ∨ k = 3 ∨ k = 4 ∨ k = 5 ∨ k = 6 ∨ k = 7 ∨ k = 8 ∨ k = 9 := by omega
  rcases e with rfl | rfl | rfl | rfl | rfl | rfl | rfl | rfl | rfl | rfl
  · exact ⟨16, hB.cell 0, hB.cell 1, fun v w => by kernel_rfl, fun x hx => clause1_any j s x (hL.carry hx)⟩
  · exact ⟨18, hB.cell 2, hB.cell 3, fun v w => by kernel_rfl, fun x hx => clause2_any j s x (hL.carry hx)⟩
  · exact ⟨19, hB.cell 4, hB.cell 5, fun v w => by kernel_rfl, fun x hx => clause3_any j s x (hL.carry hx)⟩
  · exact ⟨20, hB.cell 6, hB.cell 7, fun v w => by kernel_rfl, fun x hx => clause4_any j s x⟩
  · exact ⟨22, hB.cell 8, hB.cell 9, fun v w => by kernel_rfl, fun x hx => clause5_any j s x⟩
  · exact ⟨23, hB.cell 10, hB.cell 11, fun v w => by kernel_rfl, fun x hx => clause6_any j s x (hL.carry hx) (by have := (hf (by omega)).1; omega)⟩
  · exact ⟨26, hB.cell 12, hB.cell 13, fun v w => by kernel_rfl, fun x hx => clause7_any j s x (hL.carry hx) (by have := (hf (by omega)).2.1; omega)⟩
  · exact ⟨29, hB.cell 14, hB.cell 15, fun v w => by kernel_rfl, fun x hx => clause8_any j s x (hL.carry hx) (by have := (hf (by omega)).2.2.1; omega)⟩
  · exact ⟨32, hB.cell 16, hB.cell 17, fun v w => by kernel_rfl, fun x hx => unanchored_any j s x (hL.carry hx) (by have := (hf (by omega)).1; omega)⟩
  · exact ⟨33, hB.cell 18, hB.cell 19, fun v w => by kernel_rfl, fun x hx => tall_any j s x (hL.carry hx) (hf (by omega))⟩
theorem badK_yes {j : J4} {k : Nat} (h : ¬ faultK j k = -1) : badK j k = true := decide_eq_true h
theorem badK_no {j : J4} {k : Nat} (h : faultK j k = -1) : badK j k = false := decide_eq_false (not_not_intro h)
set_option maxHeartbeats 1000000 in
theorem vcheck_any (j : J4) (s : S3) (w : World) (hL : Lists w j s) (hT : Told j) :
    Calls Try.prog 12 #[.agg (jobC j s)] w fun e w' => e = .returned (.tuple #[.int .i64 (errK j), .int .i64 (atK j)]) ∧ Below w.heap.size w w' := by
  have D := job_new w j s
  have b0 := tbel1 w (.cells (jobC j s) 35)
  have HL := Lib.hid hL
  clear hL
  go_enter Try.func12, Try.ntmps12
  go_upto_region 1 with (fail)
  replace HL := Lib.hid (HL.out.carry b0)
  generalize w.alloc _ = U at *
  go_wp2_with fail
  refine (clauses_any U).mono ?_
  rintro e w1 ⟨rfl, b1, B⟩
  have C := Lib.hid (clause_k j s U.heap.size w1 (HL.out.carry b1) B hT)
  have D1 := D.old b1
  have hlt := B.lt
  replace b1 := tstep b0 b1 b0.size
  clear HL D b0 B
  generalize U.heap.size = g at *
  go_wp2_with fail
  go_loopw [9] (fun i wr => ∃ k : Nat, k ≤ 10 ∧ i = .int .i64 k ∧ Below w1.heap.size w1 wr ∧ Hid (∀ i, i < k → badK j i = false)) (fun i _ => 10 - (intOf i).toNat)
  case atStart => exact ⟨0, Nat.zero_le _, rfl, Below.refl _ _, Lib.hid fun i hi => by omega⟩
  case round =>
    obtain ⟨k, hk, rfl, bw, HP⟩ := hrel
    by_cases hlt2 : k < 10
    · obtain ⟨F, q0, q1, hF, hC⟩ := C.out k hlt2 HP.out
      replace q0 := (bw.cell (p := ⟨g, k * 2, none⟩) hlt).trans q0
      replace q1 := (bw.cell (p := ⟨g, k * 2 + 1, none⟩) hlt).trans q1
      have D2 := (D1.old bw).old (tbel1 wr (.cells #[.int .i64 ((k : Int) + 3), .func (.func F) #[] #[]] 49))
      have c := Lib.hid fun x (hx : Old wr x) => hC x (tstep bw hx bw.size)
      have B2 := blk_new wr #[.int .i64 ((k : Int) + 3), .func (.func F) #[] #[]] 49
      have b2 := tbel1 wr (.cells #[.int .i64 ((k : Int) + 3), .func (.func F) #[] #[]] 49)
      have HN : Hid (∀ i, faultK j k = -1 → i < k + 1 → badK j i = false) := Lib.hid fun i h hi => by
        rcases Nat.lt_or_ge i k with h1 | h1
        · exact HP.out i h1
        · obtain rfl : i = k := by omega
          exact badK_no h
      have HY : Hid (¬ faultK j k = -1 → errK j = (k : Int) + 3 ∧ atK j = faultK j k) := Lib.hid fun h => verdict_at hlt2 (badK_yes h) HP.out
      clear hC C HP
      generalize faultK j k = z at *
      go_upto_region 4 with (fail)
      replace bw := tstep bw b2 bw.size
      have c' := Lib.hid fun x (hx : Old (wr.alloc (.cells #[.int .i64 ((k : Int) + 3), .func (.func F) #[] #[]] 49)) x) => c.out x (tstep b2 hx b2.size)
      clear c b2 q0 q1
      obtain ⟨r0, r1⟩ := B2.two
      have CE := Lib.hid fun x (hx : Old (wr.alloc (.cells #[.int .i64 ((k : Int) + 3), .func (.func F) #[] #[]] 49)) x) => (B2.old hx).two
      generalize wr.heap.size = q at *
      generalize wr.alloc _ = V at *
      (refine wp_region_plain (Old V) 3 (Below.refl _ V) ?_; simp only [List.take_succ_cons, List.take_zero, List.drop_succ_cons, List.drop_zero])
      (apply Text.sees (hw := by kernel_rfl); (focus (intro x hx K hK; have hc := (fun _ _ => trivial) x hx; go_simp; exact hK)); simp only [Act.put, List.getElem_toArray, List.getElem_cons_succ, List.getElem_cons_zero, List.setIfInBounds_toArray, List.set_cons_zero, List.set_cons_succ])
      (apply Text.sees (hw := by kernel_rfl); (focus (intro x hx K hK; have hc := CE.out x hx; go_simp; exact hK)); simp only [Act.put, List.getElem_toArray, List.getElem_cons_succ, List.getElem_cons_zero, List.setIfInBounds_toArray, List.set_cons_zero, List.set_cons_succ])
      (refine Text.val (fun x hx => load_job (.tmp 1) rfl rfl (D2.old hx)) (by kernel_rfl) ?_; simp only [Act.put, List.getElem_toArray, List.getElem_cons_succ, List.getElem_cons_zero, List.setIfInBounds_toArray, List.set_cons_zero, List.set_cons_succ])
      intro x hx
      have c2 := c'.out x hx
      replace B2 := B2.old hx
      clear c' CE D2 r0 r1
      go_wp2_with fail
      refine c2.mono ?_
      rintro e w2 ⟨rfl, b2⟩
      obtain ⟨r0, r1⟩ := (B2.old b2).two
      replace bw := tstep bw (tstep hx b2 hx.size) bw.size
      clear c2 B2 hx b2
      by_cases hz : z = -1
      · subst hz
        have e := Lib.hid fun i hi => HN.out i rfl hi
        clear HN HY
        go_wp2
        go_roundw
        case rel => exact ⟨k + 1, by omega, by go_num, bw, e⟩
        case measure => simp [intOf]; omega
      · have hne : (z != -1) = true := by simpa using hz
        have e := HY.out hz
        have E := Lib.hid e
        clear HN HY e hz
        go_wp2
        go_ret2
        exact ⟨by rw [E.out.1, E.out.2]; rfl, tstep b1 bw b1.size⟩
    · obtain rfl : k = 10 := by omega
      have E := Lib.hid (verdict_none HP.out)
      clear HP C
      go_wp2
      go_ret2
      exact ⟨by rw [E.out.1, E.out.2]; rfl, tstep b1 bw b1.size⟩
theorem vright_any (j : J4) (s : S3) (w : World) (hL : Lists w j s) (hT : Told j) :
    Calls Try.prog 10 #[.agg (jobC j s)] w fun e w' => e = .returned (.bool (rightK j)) ∧ Below w.heap.size w w' := by
  have D := job_new w j s
  have b0 := tbel1 w (.cells (jobC j s) 35)
  have c := Lib.hid fun x (hx : Old (w.alloc (.cells (jobC j s) 35)) x) => vcheck_any j s x (hL.carry (tstep b0 hx b0.size)) hT
  clear hL
  unfold rightK
  generalize errK j = z at *
  generalize atK j = i at *
  go_enter Try.func10, Try.ntmps10
  go_upto_region 1 with (fail)
  generalize w.alloc _ = U at *
  (refine wp_region_plain (Old U) 2 (Below.refl _ U) ?_; simp only [List.take_succ_cons, List.take_zero, List.drop_succ_cons, List.drop_zero])
  (refine Text.val (fun x hx => load_job (.tmp 1) rfl rfl (D.old hx)) (by kernel_rfl) ?_; simp only [Act.put, List.getElem_toArray, List.getElem_cons_succ, List.getElem_cons_zero, List.setIfInBounds_toArray, List.set_cons_zero, List.set_cons_succ])
  (refine Text.call (Old.call fun x hx => c.out x hx) (by kernel_rfl) (fun _ => by kernel_rfl) ?_; simp only [Act.put, List.getElem_toArray, List.getElem_cons_succ, List.getElem_cons_zero, List.setIfInBounds_toArray, List.set_cons_zero, List.set_cons_succ])
  intro x hx
  go_wp2
  go_ret
  exact ⟨rfl, tstep b0 hx b0.size⟩
end Go.Proofs.Ythcgncgnbjhniaa
