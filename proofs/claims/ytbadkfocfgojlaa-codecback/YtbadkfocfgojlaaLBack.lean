/- CodecBack: the walk. -/
import Derived.Test.YtbadkfocfgojlaaLAw
import Derived.Test.YtbadkfocfgojlaaLBackM
namespace Go.Proofs.Ytbadkfocfgojlaa
open Go.RowKit
set_option linter.unusedVariables false
set_option linter.unusedSimpArgs false

set_option maxRecDepth 20000 in
set_option maxHeartbeats 10000000 in
theorem codecBack_walk (a : Option Addr) (len cap : Nat) (l : List OpD) (w : World) (h : IsOps w a len cap l) :
    Calls Try.prog 5 #[.slice a len cap] w fun e w' => e = .returned (.bool true) ∧ Below w.heap.size w w' := by
  obtain ⟨rfl, ho, hwf, hlen⟩ := h
  have cl := large_any a cap l hwf hlen w ho
  go_enter Try.func5, Try.ntmps5
  go_wp2_with fail
  refine cl.mono ?_
  rintro e w' ⟨z, rfl, hz, rfl⟩
  clear cl hwf hlen
  rcases Bool.eq_false_or_eq_true z with rfl | rfl
  · go_wp2_with (go_at_call 8; refine (awake_any _).mono ?_; rintro e w4 ⟨rfl, b4⟩)
    go_ret
    exact ⟨rfl, b4⟩
  obtain ⟨hl, hok⟩ := hz rfl
  clear hz
  have cw := write_any a cap l hok (by omega) w ho
  have hfl := flat_len l hok
  have hB := flat_byt l hok
  obtain ⟨bs, hbs⟩ : ∃ bs, bs = l.flatMap writeD := ⟨_, rfl⟩
  rw [← hbs] at cw hfl hB
  have hbl : bs.length ≤ 1000000 := by omega
  have HBS := Lib.hid hbs
  have HO := Lib.hid ho
  clear hbs hfl ho
  go_wp2_with fail
  refine cw.mono ?_
  rintro e w1 ⟨v1, rfl, o1, b1⟩
  obtain ⟨a1, c1, rfl, r1⟩ := own_row o1
  clear cw o1
  go_wp2_with fail
  refine (open_any a1 c1 bs.length w1).mono ?_
  rintro e w2 ⟨rfl, R2, b2⟩
  have r2 := r1.carry b2
  have HRow := Lib.hid (fun (x : World) (hx : But w1.heap.size w2 x) => r2.cbut R2 hx)
  have bw2 := bstep b1 b2 b1.size
  have hgr := b1.size
  have HBel := Lib.hid (fun (x : World) (hx : But w1.heap.size w2 x) => Below.trans bw2 (hx.below hgr bw2.size))
  generalize w1.heap.size = gr at *
  clear r1 r2 b1 b2 bw2
  go_wp2_with fail
  go_loopw [4] (fun i wr => ∃ k : Nat, k ≤ l.length ∧ i = .int .i64 k ∧ CdAt wr gr a1 c1 bs.length ((l.take k).flatMap writeD).length false ∧ But gr w2 wr) (fun i _ => l.length - (intOf i).toNat)
  case atStart => exact ⟨0, Nat.zero_le _, rfl, by simpa using R2, But.refl _ _⟩
  case round =>
    clear R2
    obtain ⟨k, hk, rfl, R, B⟩ := hrel
    by_cases hlt : k < l.length
    · obtain ⟨b, off, o, rfl, hBo, hoj, h0, h1, h2, h3, al, cl, h4, h5⟩ := HO.out.2 k hlt
      have hk1 := hok o (List.mem_of_getElem? hoj)
      have hflat := HBS.out.trans (flat_at l k o hoj)
      have hpre : ((l.take k).flatMap writeD).length ≤ bs.length := by rw [hflat]; simp
      have hnext : ((l.take (k + 1)).flatMap writeD).length = ((l.take k).flatMap writeD).length + (writeD o).length := by
        rw [List.take_succ_eq_append_getElem hlt, List.flatMap_append]
        have : l[k] = o := by rw [List.getElem?_eq_getElem hlt] at hoj; injection hoj
        simp [this]
      have hback := fun hk => read_back o hk1 hk ((l.take k).flatMap writeD) ((l.drop (k + 1)).flatMap writeD)
      rw [← hflat] at hback
      have cr := read_any gr a1 c1 bs ((l.take k).flatMap writeD).length false o al cl (by have := hk1.2.2.2.1; omega) hpre hbl hB wr R (HRow.out wr B)
      have hL := readR_len bs ((l.take k).flatMap writeD).length false o hpre hbl hB
      have HC := Lib.hid (fun (x : World) (hx : Below w.heap.size w x) => show (x.cell? ⟨b, off + k * 5, none⟩ = some (.int .i64 o.k) ∧ x.cell? ⟨b, off + k * 5 + 1, none⟩ = some (.string o.s) ∧ x.cell? ⟨b, off + k * 5 + 2, none⟩ = some (.int .i64 o.n) ∧ x.cell? ⟨b, off + k * 5 + 3, none⟩ = some (.bool o.b) ∧ x.cell? ⟨b, off + k * 5 + 4, none⟩ = some (.slice al o.l.length cl)) ∧ RowK .i64 x al cl o.l from
        ⟨⟨(hx.cell (p := ⟨b, off + k * 5, none⟩) hBo).trans h0, (hx.cell (p := ⟨b, off + k * 5 + 1, none⟩) hBo).trans h1, (hx.cell (p := ⟨b, off + k * 5 + 2, none⟩) hBo).trans h2, (hx.cell (p := ⟨b, off + k * 5 + 3, none⟩) hBo).trans h3, (hx.cell (p := ⟨b, off + k * 5 + 4, none⟩) hBo).trans h4⟩, h5.carry hx⟩)
      have HBig : b < w.heap.size := hBo
      have bwr := HBel.out wr B
      obtain ⟨⟨d0, d1, d2, d3, d4⟩, _⟩ := HC.out wr bwr
      have HNx := Lib.hid hnext
      clear h0 h1 h2 h3 h4 h5 hflat hpre hoj hnext R hBo
      generalize ((l.take k).flatMap writeD).length = p at *
      obtain ⟨⟨L, q, t⟩, hres⟩ : ∃ r, r = readR bs p false o := ⟨_, rfl⟩
      rw [← hres] at cr hL hback
      clear hres
      have hl5 : o.l.length ≤ 100 := hk1.2.2.2.2
      obtain ⟨ok, os, on, ob, ol⟩ := o
      unfold opV at cr
      simp only at cr hL hback d0 d1 d2 d3 d4 HC hl5
      by_cases hin : 0 ≤ ok ∧ ok ≤ 3
      · have hb2 := hback hin
        injection hb2 with e1 e2
        injection e2 with e2 e3
        subst e1 e2 e3
        have hfin : ∀ x, CdAt x gr a1 c1 bs.length ((p + (writeD ⟨ok, os, on, ob, ol⟩).length : Nat) : Int) false → But gr w2 x → ∃ k' : Nat, k' ≤ l.length ∧ (Value.int .i64 ((k : Int) + 1)) = .int .i64 k' ∧ CdAt x gr a1 c1 bs.length ((l.take k').flatMap writeD).length false ∧ But gr w2 x := fun x h1 h2 =>
          ⟨k + 1, by omega, by simp, by rw [HNx.out]; exact h1, h2⟩
        have HF := Lib.hid hfin
        clear hfin hback
        generalize p + (writeD ⟨ok, os, on, ob, ol⟩).length = q at *
        have cR := fun x hx => right_any gr a1 c1 bs.length q false x hx
        rw [Bool.not_false] at cR
        rcases (show ok = 0 ∨ ok = 1 ∨ ok = 2 ∨ ok = 3 by omega) with rfl | rfl | rfl | rfl
        · go_wp2_with fail
          refine cr.mono ?_
          rintro e w3 ⟨v3, rfl, o3, R3, B3⟩
          have B4 := But.trans B B3
          obtain ⟨⟨f0, f1, f2, f3, f4⟩, _⟩ := HC.out w3 (HBel.out w3 B4)
          clear d0 d1 d2 d3 d4 cr B3
          go_wp2_with (go_at_call 16; refine (cR _ R3).mono ?_; rintro e w5 ⟨rfl, rfl⟩)
          go_roundw
          case rel => exact HF.out w3 R3 B4
          case measure => simp [intOf]; omega
        · go_wp2_with fail
          refine cr.mono ?_
          rintro e w3 ⟨v3, rfl, o3, R3, B3⟩
          replace o3 : OwnK .i64 2 w3 wr.heap.size v3 [on] := o3
          have B4 := But.trans B B3
          have bA := bel1 w3 (.cells #[.int .i64 on] 2)
          have B5 := But.step B4 bA
          have R5 := R3.old bA
          obtain ⟨a3, k3, rfl, r3⟩ := o3.row
          have r5 := r3.carry bA
          have rn := rowK_new .i64 w3 on 1 2 (by decide)
          obtain ⟨⟨f0, f1, f2, f3, f4⟩, _⟩ := HC.out w3 (HBel.out w3 B4)
          obtain ⟨⟨g0, g1, g2, g3, g4⟩, _⟩ := HC.out _ (HBel.out _ B5)
          have cn := nums_any a3 (some ⟨w3.heap.size, 0, none⟩) k3 1 [on] [on] _ (by simp) (by simp) r5 rn
          rw [decide_eq_true rfl] at cn
          clear d0 d1 d2 d3 d4 cr B3 r5 rn r3 o3 R3 B4 bA
          go_wp2_with (first
            | (go_at_call 13; refine cn.mono ?_; rintro e w5 ⟨rfl, b5⟩; have R6 := R5.old b5; have B6 := But.step B5 b5)
            | (go_at_call 16; refine (cR _ R6).mono ?_; rintro e w7 ⟨rfl, rfl⟩))
          go_roundw
          case rel => exact HF.out w5 R6 B6
          case measure => simp [intOf]; omega
        · cases ob with
          | true =>
            go_wp2_with fail
            refine cr.mono ?_
            rintro e w3 ⟨v3, rfl, o3, R3, B3⟩
            replace o3 : OwnK .i64 2 w3 wr.heap.size v3 [1] := o3
            have B4 := But.trans B B3
            have bA := bel1 w3 (.cells #[.int .i64 1] 2)
            have B5 := But.step B4 bA
            have R5 := R3.old bA
            obtain ⟨a3, k3, rfl, r3⟩ := o3.row
            have r5 := r3.carry bA
            have rn := rowK_new .i64 w3 1 1 2 (by decide)
            obtain ⟨⟨f0, f1, f2, f3, f4⟩, _⟩ := HC.out w3 (HBel.out w3 B4)
            obtain ⟨⟨g0, g1, g2, g3, g4⟩, _⟩ := HC.out _ (HBel.out _ B5)
            have cn := nums_any a3 (some ⟨w3.heap.size, 0, none⟩) k3 1 [1] [1] _ (by simp) (by simp) r5 rn
            rw [decide_eq_true rfl] at cn
            clear d0 d1 d2 d3 d4 cr B3 r5 rn r3 o3 R3 B4 bA
            go_wp2_with (first
              | (go_at_call 13; refine cn.mono ?_; rintro e w5 ⟨rfl, b5⟩; have R6 := R5.old b5; have B6 := But.step B5 b5)
              | (go_at_call 16; refine (cR _ R6).mono ?_; rintro e w7 ⟨rfl, rfl⟩))
            go_roundw
            case rel => exact HF.out w5 R6 B6
            case measure => simp [intOf]; omega
          | false =>
            go_wp2_with fail
            refine cr.mono ?_
            rintro e w3 ⟨v3, rfl, o3, R3, B3⟩
            replace o3 : OwnK .i64 2 w3 wr.heap.size v3 [0] := o3
            have B4 := But.trans B B3
            have bA := bel1 w3 (.cells #[.int .i64 0] 2)
            have B5 := But.step B4 bA
            have R5 := R3.old bA
            obtain ⟨a3, k3, rfl, r3⟩ := o3.row
            have r5 := r3.carry bA
            have rn := rowK_new .i64 w3 0 1 2 (by decide)
            obtain ⟨⟨f0, f1, f2, f3, f4⟩, _⟩ := HC.out w3 (HBel.out w3 B4)
            obtain ⟨⟨g0, g1, g2, g3, g4⟩, _⟩ := HC.out _ (HBel.out _ B5)
            have cn := nums_any a3 (some ⟨w3.heap.size, 0, none⟩) k3 1 [0] [0] _ (by simp) (by simp) r5 rn
            rw [decide_eq_true rfl] at cn
            clear d0 d1 d2 d3 d4 cr B3 r5 rn r3 o3 R3 B4 bA
            go_wp2_with (first
              | (go_at_call 13; refine cn.mono ?_; rintro e w5 ⟨rfl, b5⟩; have R6 := R5.old b5; have B6 := But.step B5 b5)
              | (go_at_call 16; refine (cR _ R6).mono ?_; rintro e w7 ⟨rfl, rfl⟩))
            go_roundw
            case rel => exact HF.out w5 R6 B6
            case measure => simp [intOf]; omega
        · go_wp2_with fail
          refine cr.mono ?_
          rintro e w3 ⟨v3, rfl, o3, R3, B3⟩
          replace o3 : OwnK .i64 2 w3 wr.heap.size v3 ol := o3
          have B4 := But.trans B B3
          obtain ⟨a3, k3, rfl, r3⟩ := o3.row
          obtain ⟨⟨f0, f1, f2, f3, f4⟩, rl⟩ := HC.out w3 (HBel.out w3 B4)
          have cn := nums_any a3 al k3 cl ol ol _ (by omega) (by omega) r3 rl
          rw [decide_eq_true rfl] at cn
          clear d0 d1 d2 d3 d4 cr B3 rl r3 o3
          go_wp2_with (first
            | (go_at_call 13; refine cn.mono ?_; rintro e w5 ⟨rfl, b5⟩; have R6 := R3.old b5; have B6 := But.step B4 b5)
            | (go_at_call 16; refine (cR _ R6).mono ?_; rintro e w7 ⟨rfl, rfl⟩))
          go_roundw
          case rel => exact HF.out w5 R6 B6
          case measure => simp [intOf]; omega
      · have t1 : (ok == 1) = false := by simp; omega
        have t2 : (ok == 2) = false := by simp; omega
        clear hback
        by_cases hneg : ok < 0
        · have t3 : decide (ok < 0) = true := by simpa using hneg
          go_wp2_with fail
          refine cr.mono ?_
          rintro e w3 ⟨v3, rfl, o3, R3, B3⟩
          have B4 := But.trans B B3
          have b4 := HBel.out w3 B4
          obtain ⟨⟨f0, f1, f2, f3, f4⟩, rl⟩ := HC.out w3 b4
          clear d0 d1 d2 d3 d4 cr B3 rl o3
          go_wp2_with (go_at_call 8; refine (awake_any _).mono ?_; rintro e w7 ⟨rfl, b7⟩; have b8 := bstep b4 b7 b4.size)
          go_ret
          exact ⟨rfl, b8⟩
        · have t3 : decide (ok < 0) = false := by simpa using hneg
          have t4 : decide (3 < ok) = true := by simp; omega
          go_wp2_with fail
          refine cr.mono ?_
          rintro e w3 ⟨v3, rfl, o3, R3, B3⟩
          have B4 := But.trans B B3
          have b4 := HBel.out w3 B4
          obtain ⟨⟨f0, f1, f2, f3, f4⟩, rl⟩ := HC.out w3 b4
          clear d0 d1 d2 d3 d4 cr B3 rl o3
          go_wp2_with (go_at_call 8; refine (awake_any _).mono ?_; rintro e w7 ⟨rfl, b7⟩; have b8 := bstep b4 b7 b4.size)
          go_ret
          exact ⟨rfl, b8⟩
    · rw [List.take_of_length_le (by omega), ← HBS.out] at R
      have ce := end_any gr a1 c1 bs.length bs.length false (Nat.le_refl _) hbl wr R
      rw [show endR false bs.length bs.length = 0 from if_pos ⟨rfl, rfl⟩] at ce
      have bwr := HBel.out wr B
      go_wp2_with (first
        | (go_at_call 18; refine ce.mono ?_; rintro e w5 ⟨rfl, b5⟩; have b6 := bstep bwr b5 bwr.size)
        | (go_at_call 8; refine (awake_any _).mono ?_; rintro e w7 ⟨rfl, b7⟩; have b8 := bstep b6 b7 b6.size))
      go_ret
      exact ⟨rfl, b8⟩
end Go.Proofs.Ytbadkfocfgojlaa
