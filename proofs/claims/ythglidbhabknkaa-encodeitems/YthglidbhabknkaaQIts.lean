/- The walk of EncodeItems. -/
import Derived.Test.YthglidbhabknkaaQAw
import Derived.Test.YthglidbhabknkaaJLaw
import Derived.Test.YthglidbhabknkaaFLeaf
namespace Go.Proofs.Ythglidbhabknkaa
open Go.RowKit
set_option maxRecDepth 20000
set_option linter.unusedVariables false
set_option linter.unusedSimpArgs false

/-- Items that came in. -/
theorem IsFlat.items {w : World} {a : Option Addr} {len cap : Nat} (h : IsFlat Try.prog [3, 22, 3, 22, 3, 22, 3] w a len cap) : ∃ l : List I7, l.length = len ∧ len ≤ cap ∧ cap ≤ maxLen ∧ (∀ k, inI (l.getD k zeroI)) ∧ Els 7 encI w a l.length fun k => l.getD k zeroI := by
  rcases h with ⟨rfl, rfl, rfl⟩ | ⟨ad, rfl, h1, h2, hall⟩
  · exact ⟨[], rfl, Nat.le_refl _, by decide, fun k => by simpa using (zero_in4).1, none_els⟩
  · obtain ⟨l, q1, q2, q3⟩ := els_of (w := w) (ok := inI) (en := encI) (d := zeroI) (sz := 7) zero_in4.1 (by omega) encI_len (ad := ad) (len := len) (fun i hi => by
      obtain ⟨cs, hlen, hc, hk⟩ := hall i hi
      match cs, hlen with
      | [c0, c1, c2, c3, c4, c5, c6], _ =>
        obtain ⟨z0, rfl, w0⟩ := (hk 0 _ _ rfl rfl).1 _ Try.underlying3
        obtain ⟨z1, rfl, w1⟩ := (hk 1 _ _ rfl rfl).1 _ Try.underlying22
        obtain ⟨z2, rfl, w2⟩ := (hk 2 _ _ rfl rfl).1 _ Try.underlying3
        obtain ⟨z3, rfl, w3⟩ := (hk 3 _ _ rfl rfl).1 _ Try.underlying22
        obtain ⟨z4, rfl, w4⟩ := (hk 4 _ _ rfl rfl).1 _ Try.underlying3
        obtain ⟨z5, rfl, w5⟩ := (hk 5 _ _ rfl rfl).1 _ Try.underlying22
        obtain ⟨z6, rfl, w6⟩ := (hk 6 _ _ rfl rfl).1 _ Try.underlying3
        exact ⟨⟨z0, z1, z2, z3, z4, z5, z6⟩, ⟨wfR14 w0, wfR14 w1, wfR14 w2, wfR14 w3, wfR14 w4, wfR14 w5, wfR14 w6⟩, hc⟩)
    exact ⟨l, q1, h1, h2, q2, q3⟩
theorem encodeItems_long (a : Option Addr) (len cap : Nat) (w : World) (h : 100 < len) (hm : len ≤ 9223372036854775807) :
    Calls Try.prog 4 #[.slice a len cap] w fun e w' => e = .returned (.bool true) ∧ Below w.heap.size w w' := by
  go_enter Try.func4, Try.ntmps4
  go_wp2_with (go_at_call 7; refine (awake16 _).mono ?_; rintro e w1 ⟨rfl, b1⟩)
  go_ret
  exact ⟨rfl, b1⟩
set_option maxHeartbeats 4000000 in
theorem encodeItems_short (a : Option Addr) (cap : Nat) (L : List I7) (w : World) (hl : L.length ≤ 100) (hin : ∀ k, inI (L.getD k zeroI)) (hr : Els 7 encI w a L.length fun k => L.getD k zeroI) :
    Calls Try.prog 4 #[.slice a L.length cap] w fun e w' => e = .returned (.bool true) ∧ Below w.heap.size w w' := by
  have HR := Lib.hid hr
  have c1 := Items_any a cap L w hin hl hr
  have c2 := Lib.hid fun x (hx : Below w.heap.size w x) => rItems_any a cap L x hin hl (hr.carry hx)
  have ca := Lib.hid awake16
  have lE : (itemsB L).length ≤ 7010 := by
    unfold itemsB
    by_cases h : ∀ x ∈ L, bareI x
    · rw [isB_yes h, cond_true]; exact items_len hin h hl
    · rw [isB_no h]; simp
  clear hr hin
  generalize isB (∀ x ∈ L, bareI x) = R at *
  generalize itemsB L = E at *
  go_enter Try.func4, Try.ntmps4
  go_upto_region 4 with (go_at_call 13; refine c1.mono ?_; rintro e w1 ⟨a1, n1, rfl, r1, b1⟩)
  have k2 := c2.out w1 b1
  clear c1 c2
  go_upto_region 5 with (go_at_call 14; refine k2.mono ?_; rintro e w2 ⟨a2, n2, rfl, r2, b2⟩; have b3 := tstep b1 b2 b1.size; have r3 := r1.carry b2; have Q := blk_new w2 #[.slice a2 E.length n2, .bool R] 36; have bq := tbel1 w2 (.cells #[.slice a2 E.length n2, .bool R] 36))
  have b4 := tstep b3 bq b3.size
  have s2 := r2.carry bq
  have s3 := r3.carry bq
  clear k2 b2 r1 b1 r2 r3 b3 bq
  generalize w2.alloc _ = Y at *
  go_wp2_with fail
  go_loopw [6] (fun i wr => ∃ k : Nat, k ≤ L.length ∧ i = .int .i64 k ∧ Below Y.heap.size Y wr) (fun i _ => L.length - (intOf i).toNat)
  case atStart => exact ⟨0, Nat.zero_le _, rfl, Below.refl _ _⟩
  case round =>
    obtain ⟨k, hk, rfl, hbl⟩ := hrel
    have bw := tstep b4 hbl b4.size
    by_cases hlt : k < L.length
    · obtain ⟨b1, o1, rfl, hB1, p0, p1, p2, p3, p4, p5, p6⟩ := els7 (HR.out.carry bw) hlt
      have d1 := fun w => Bare_any (L.getD k zeroI) w
      have d2 := fun w => rBare_any (L.getD k zeroI) w
      generalize L.getD k zeroI = x at *
      unfold itm at d1 d2
      generalize isB (bareI x) = q at *
      have CE := Lib.hid fun y (hy : Old wr y) => And.intro ((hy.cell (p := ⟨b1, o1 + k * 7, none⟩) hB1).trans p0) (And.intro ((hy.cell (p := ⟨b1, o1 + k * 7 + 1, none⟩) hB1).trans p1) (And.intro ((hy.cell (p := ⟨b1, o1 + k * 7 + 2, none⟩) hB1).trans p2) (And.intro ((hy.cell (p := ⟨b1, o1 + k * 7 + 3, none⟩) hB1).trans p3) (And.intro ((hy.cell (p := ⟨b1, o1 + k * 7 + 4, none⟩) hB1).trans p4) (And.intro ((hy.cell (p := ⟨b1, o1 + k * 7 + 5, none⟩) hB1).trans p5) ((hy.cell (p := ⟨b1, o1 + k * 7 + 6, none⟩) hB1).trans p6))))))
      cases q
      all_goals
        go_upto_region 8 with (fail)
        clear p0 p1 p2 p3 p4 p5 p6
        (refine wp_region_text (Old wr) 10 (by kernel_rfl) (by kernel_rfl) (Below.refl _ wr).drew ?_; simp only [List.take_succ_cons, List.take_zero, List.drop_succ_cons, List.drop_zero])
        repeat (first | (apply Text.sees (hw := by kernel_rfl); (focus (intro x hx K hK; have hc := CE.out x hx; go_simp; exact hK)); simp only [Act.put, List.getElem_toArray, List.getElem_cons_succ, List.getElem_cons_zero, List.setIfInBounds_toArray, List.set_cons_zero, List.set_cons_succ]) | (apply Text.idle; (focus (intro x hx K hK; go_simp; exact hK)); simp only [Act.put, List.getElem_toArray, List.getElem_cons_succ, List.getElem_cons_zero, List.setIfInBounds_toArray, List.set_cons_zero, List.set_cons_succ]))
        (refine Text.call (Old.call fun x hx => d1 x) (by kernel_rfl) (fun _ => by kernel_rfl) ?_; simp only [Act.put, List.getElem_toArray, List.getElem_cons_succ, List.getElem_cons_zero, List.setIfInBounds_toArray, List.set_cons_zero, List.set_cons_succ])
        repeat (first | (apply Text.sees (hw := by kernel_rfl); (focus (intro x hx K hK; have hc := CE.out x hx; go_simp; exact hK)); simp only [Act.put, List.getElem_toArray, List.getElem_cons_succ, List.getElem_cons_zero, List.setIfInBounds_toArray, List.set_cons_zero, List.set_cons_succ]) | (apply Text.idle; (focus (intro x hx K hK; go_simp; exact hK)); simp only [Act.put, List.getElem_toArray, List.getElem_cons_succ, List.getElem_cons_zero, List.setIfInBounds_toArray, List.set_cons_zero, List.set_cons_succ]))
        (refine Text.call (Old.call fun x hx => d2 x) (by kernel_rfl) (fun _ => by kernel_rfl) ?_; simp only [Act.put, List.getElem_toArray, List.getElem_cons_succ, List.getElem_cons_zero, List.setIfInBounds_toArray, List.set_cons_zero, List.set_cons_succ])
        intro y hy
        have hb2 := tstep hbl hy hbl.size
        clear CE d1 d2 hy bw hbl
        go_wp2
        go_roundw
        case rel => exact ⟨k + 1, by omega, by go_num, hb2⟩
        case measure => simp [intOf]; omega
    · have cs := same_any a1 a2 n1 n2 E E wr (by omega) (by omega) (s3.carry hbl) (s2.carry hbl)
      rw [decide_eq_true (rfl : E = E)] at cs
      obtain ⟨q0, q1⟩ := (Q.old hbl).two
      cases R
      all_goals
        go_wp2_with (first
          | (go_at_call 10; refine cs.mono ?_; rintro e w5 ⟨rfl, b5⟩; have b6 := tstep bw b5 bw.size; clear b5)
          | (go_at_call 7; refine (ca.out _).mono ?_; rintro e w7 ⟨rfl, b7⟩; have b8 := tstep b6 b7 b6.size; clear b7))
        go_ret
        exact ⟨rfl, b8⟩
theorem encodeItems_walk (a : Option Addr) (len cap : Nat) (w : World) (h : IsFlat Try.prog [3, 22, 3, 22, 3, 22, 3] w a len cap) :
    Calls Try.prog 4 #[.slice a len cap] w fun e w' => e = .returned (.bool true) ∧ Below w.heap.size w w' := by
  obtain ⟨l, rfl, h1, h2, h3, h4⟩ := IsFlat.items h
  rcases Nat.lt_or_ge 100 l.length with hn | hn
  · exact encodeItems_long a l.length cap w hn (by unfold maxLen at h2; omega)
  · exact encodeItems_short a cap l w hn h3 h4
end Go.Proofs.Ythglidbhabknkaa
