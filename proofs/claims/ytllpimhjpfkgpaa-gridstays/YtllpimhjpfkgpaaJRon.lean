/- The document's On. -/
import Derived.Test.YtllpimhjpfkgpaaJSm
namespace Go.Proofs.Ytllpimhjpfkgpaa
open Go.RowKit
set_option maxRecDepth 20000
set_option linter.unusedVariables false
set_option linter.unusedSimpArgs false

theorem rany_yes {α : Type} {p : α → Bool} {l : List α} {d : α} {k : Nat} (hk : k < l.length) (h : p (l.getD k d) = true) : l.any p = true := List.any_eq_true.2 ⟨_, mem_getD hk, h⟩
theorem rany_no {α : Type} {p : α → Bool} {l : List α} {d : α} (h : ∀ k, k < l.length → p (l.getD k d) = false) : l.any p = false := by
  rw [List.any_eq_false]
  intro x hx
  obtain ⟨k, hk, rfl⟩ := List.getElem_of_mem hx
  have := h k hk
  rw [List.getD_eq_getElem?_getD, List.getElem?_eq_getElem hk] at this
  simpa using this
/-- What Go's remainder is, whatever the sign. -/
theorem rem_off {s h : Int} (h1 : 1 ≤ s) (hs : inR s) : ∃ m : Int, h.tmod s = m ∧ (m != 0) = offZ s h ∧ -9223372036854775808 ≤ m ∧ m ≤ 9223372036854775807 := by
  have ho := over_bd h s h1
  unfold inR at hs
  refine ⟨h.tmod s, rfl, ?_, by omega, by omega⟩
  unfold offZ
  have e : h % s = 0 ↔ h.tmod s = 0 := ⟨fun e => Int.tmod_eq_zero_of_dvd (Int.dvd_of_emod_eq_zero e), fun e => Int.emod_eq_zero_of_dvd (Int.dvd_of_tmod_eq_zero e)⟩
  by_cases h0 : h % s = 0
  · rw [e.1 h0]; simp [h0]
  · have : ¬ h.tmod s = 0 := fun e' => h0 (e.2 e')
    simp [h0, this]
theorem ron_yes (j : J4) (s : S3) (w : World) (hL : Lists w j s) (hf : Few j) (hg : j.g.grid < 1) :
    Calls Try.prog 11 #[.agg (jobC j s)] w fun e w' => e = .returned (.bool true) ∧ Below w.heap.size w w' := by
  have D := job_new w j s
  have q5 := D.geo.2.2.2.2.2.1
  have b0 := tbel1 w (.cells (jobC j s) 29)
  clear hL
  go_enter Try.func11, Try.ntmps11
  go_upto_region 1 with (fail)
  generalize w.alloc _ = U at *
  go_wp2
  go_ret
  exact ⟨rfl, b0⟩
set_option maxHeartbeats 4000000 in
theorem ron_any (j : J4) (s : S3) (w : World) (hL : Lists w j s) (hf : Few j) :
    Calls Try.prog 11 #[.agg (jobC j s)] w fun e w' => e = .returned (.bool (onJ j)) ∧ Below w.heap.size w w' := by
  by_cases hg : j.g.grid < 1
  · rw [show onJ j = true by unfold onJ; simp [hg]]
    exact ron_yes j s w hL hf hg
  · have hg1 : 1 ≤ j.g.grid := by omega
    obtain ⟨f1, f2, f3, f4⟩ := id hf
    obtain ⟨⟨_, _, _, i3, i4, i5, i6, i7, _⟩, hII, hIF⟩ := hL.ins
    have D := job_new w j s
    obtain ⟨_, _, _, q3, q4, q5, q6, q7, _⟩ := D.geo
    obtain ⟨t19, t20, t21⟩ := D.three
    have b0 := tbel1 w (.cells (jobC j s) 29)
    have hE : onJ j = !(offZ j.g.grid j.g.high || offZ j.g.grid j.g.first || offZ j.g.grid j.g.rule || offZ j.g.grid j.g.sep || j.items.any (offI j.g.grid) || j.notes.any (offN j.g.grid) || j.floats.any (offF j.g.grid)) := by
      unfold onJ; rw [decide_eq_false hg, Bool.false_or]
    rw [hE]
    obtain ⟨t, ht⟩ : ∃ t, t = j.g.grid := ⟨_, rfl⟩
    rw [← ht] at hg hg1 i5 q5 ⊢
    clear hf
    have HT := Lib.hid ht
    have HL := Lib.hid hL
    clear hE ht hL
    obtain ⟨m1, e1, n1, x1, y1⟩ := rem_off (h := j.g.high) hg1 i5
    obtain ⟨m2, e2, n2, x2, y2⟩ := rem_off (h := j.g.first) hg1 i5
    obtain ⟨m3, e3, n3, x3, y3⟩ := rem_off (h := j.g.rule) hg1 i5
    obtain ⟨m4, e4, n4, x4, y4⟩ := rem_off (h := j.g.sep) hg1 i5
    generalize offZ t j.g.high = z1 at *
    generalize offZ t j.g.first = z2 at *
    generalize offZ t j.g.rule = z3 at *
    generalize offZ t j.g.sep = z4 at *
    obtain ⟨A1, hA1⟩ : ∃ A1, A1 = j.items.any (offI t) := ⟨_, rfl⟩
    obtain ⟨A2, hA2⟩ : ∃ A2, A2 = j.notes.any (offN t) := ⟨_, rfl⟩
    obtain ⟨A3, hA3⟩ : ∃ A3, A3 = j.floats.any (offF t) := ⟨_, rfl⟩
    obtain ⟨R, hR⟩ : ∃ R, R = (j.items.any (offI t) || j.notes.any (offN t) || j.floats.any (offF t)) := ⟨_, rfl⟩
    have hE : (z1 || z2 || z3 || z4 || j.items.any (offI t) || j.notes.any (offN t) || j.floats.any (offF t)) = (z1 || z2 || z3 || z4 || R) := by
      rw [hR]; simp only [Bool.or_assoc]
    rw [hE]
    rw [← hA1, ← hA2, ← hA3] at hR
    have HR := Lib.hid hR
    have HA1 := Lib.hid hA1
    have HA2 := Lib.hid hA2
    have HA3 := Lib.hid hA3
    clear hE hR hA1 hA2 hA3
    have i5' := i5
    unfold inR at i3 i4 i5 i6 i7
    cases z1
    · cases z2
      · cases z3
        · cases z4
          · go_enter Try.func11, Try.ntmps11
            go_upto_region 1 with (fail)
            generalize w.alloc _ = U at *
            go_upto_region 4 with (fail)
            go_wp2_with fail
            go_loopw [4] (fun i wr => ∃ k : Nat, k ≤ j.items.length ∧ i = .int .i64 k ∧ Below U.heap.size U wr ∧ Hid (∀ m, m < k → offI t (j.items.getD m zeroI) = false)) (fun i _ => j.items.length - (intOf i).toNat)
            case atStart => exact ⟨0, Nat.zero_le _, rfl, Below.refl _ _, Lib.hid fun m hm => by omega⟩
            case round =>
              obtain ⟨k, hk, rfl, hbl, HP⟩ := hrel
              have bw := tstep b0 hbl b0.size
              have D' := D.old hbl
              clear t19 t20 t21 q3 q4 q5 q6 q7 e1 e2 e3 e4 n1 n2 n3 n4 x1 x2 x3 x4 y1 y2 y3 y4 i3 i4 i6 i7
              obtain ⟨t19, t20, t21⟩ := D'.three
              by_cases hlt : k < j.items.length
              · obtain ⟨b, off, hia, hB, p0, p1, p2, p3, p4, p5, p6⟩ := els7 (HL.out.items.carry bw) hlt
                rw [hia] at t19
                have HY : Hid (offI t (j.items.getD k zeroI) = true → A1 = true) := Lib.hid fun h => HA1.out.trans (rany_yes (p := offI t) (d := zeroI) hlt h)
                have HS : Hid (offI t (j.items.getD k zeroI) = false → ∀ m, m < k + 1 → offI t (j.items.getD m zeroI) = false) := Lib.hid fun h m hm => by
                  rcases Nat.lt_or_ge m k with h1 | h1
                  · exact HP.out m h1
                  · obtain rfl : m = k := by omega
                    exact h
                have hxh := (hII k).2.1
                have HI := Lib.hid hII
                have HF := Lib.hid hIF
                clear HP hia D' hII hIF
                generalize j.items.getD k zeroI = x at *
                obtain ⟨xk, xh, xf, xs, xo, xr, xn⟩ := x
                dsimp only at *
                obtain ⟨m, e1, n1, x1, y1⟩ := rem_off (h := xh) hg1 i5'
                unfold offI at HY HS
                dsimp only at HY HS
                generalize offZ t xh = z at *
                unfold inR at hxh
                by_cases k1 : xk = 1
                · subst k1
                  simp only [if_true] at HY HS
                  cases z
                  · replace HS := Lib.hid (HS.out rfl)
                    clear HY
                    go_wp2
                    go_roundw
                    case rel => exact ⟨k + 1, by omega, by go_num, tstep hbl (tbel1 wr _) hbl.size, HS⟩
                    case measure => simp [intOf]; omega
                  · replace HY := Lib.hid (HY.out rfl)
                    clear HS
                    go_wp2
                    go_ret
                    exact ⟨by rw [HR.out, HY.out]; rfl, tstep bw (tbel1 wr _) bw.size⟩
                by_cases k2 : xk = 2
                · subst k2
                  simp only [show ¬ ((2 : Int) = 1) by decide, if_false, if_true] at HY HS
                  cases z
                  · by_cases g1 : xs = 0
                    · subst g1
                      by_cases g2 : xo = 0
                      · subst g2
                        by_cases g3 : xr = 0
                        · subst g3
                          replace HS := Lib.hid (HS.out rfl)
                          clear HY
                          go_wp2
                          go_roundw
                          case rel => exact ⟨k + 1, by omega, by go_num, tstep hbl (tbel1 wr _) hbl.size, HS⟩
                          case measure => simp [intOf]; omega
                        · have g3 : (xr != 0) = true := by simpa using g3
                          replace HY := Lib.hid (HY.out (by simpa using g3))
                          clear HS
                          go_wp2
                          go_ret
                          exact ⟨by rw [HR.out, HY.out]; rfl, tstep bw (tbel1 wr _) bw.size⟩
                      · have g3 : (xo != 0) = true := by simpa using g2
                        replace HY := Lib.hid (HY.out (by simp [g2]))
                        clear HS
                        go_wp2
                        go_ret
                        exact ⟨by rw [HR.out, HY.out]; rfl, tstep bw (tbel1 wr _) bw.size⟩
                    · have g3 : (xs != 0) = true := by simpa using g1
                      replace HY := Lib.hid (HY.out (by simp [g1]))
                      clear HS
                      go_wp2
                      go_ret
                      exact ⟨by rw [HR.out, HY.out]; rfl, tstep bw (tbel1 wr _) bw.size⟩
                  · replace HY := Lib.hid (HY.out (by simp))
                    clear HS
                    go_wp2
                    go_ret
                    exact ⟨by rw [HR.out, HY.out]; rfl, tstep bw (tbel1 wr _) bw.size⟩
                · have e1 : (xk == 1) = false := by simpa using k1
                  have e2 : (xk == 2) = false := by simpa using k2
                  rw [if_neg k1, if_neg k2] at HY HS
                  replace HS := Lib.hid (HS.out rfl)
                  clear HY
                  go_wp2
                  go_roundw
                  case rel => exact ⟨k + 1, by omega, by go_num, tstep hbl (tbel1 wr _) hbl.size, HS⟩
                  case measure => simp [intOf]; omega
              · obtain rfl : k = j.items.length := by omega
                have HN1 : Hid (A1 = false) := Lib.hid (HA1.out.trans (rany_no (d := zeroI) fun m hm => HP.out m hm))
                clear HP hk hlt
                go_wp2_with fail
                go_loopw [6] (fun i wr => ∃ k : Nat, k ≤ j.notes.length ∧ i = .int .i64 k ∧ Below U.heap.size U wr ∧ Hid (∀ m, m < k → offN t (j.notes.getD m zeroN) = false)) (fun i _ => j.notes.length - (intOf i).toNat)
                case atStart => exact ⟨0, Nat.zero_le _, rfl, hbl, Lib.hid fun m hm => by omega⟩
                case round =>
                  clear hbl bw D' t19 t20 t21
                  obtain ⟨k, hk, rfl, hbl, HP⟩ := hrel
                  have bw := tstep b0 hbl b0.size
                  have D' := D.old hbl
                  obtain ⟨t19, t20, t21⟩ := D'.three
                  by_cases hlt : k < j.notes.length
                  · obtain ⟨hs, hH, hN⟩ := HL.out.notes.carry bw
                    obtain ⟨b, off, hna, hB, p0, p1⟩ := els2 hH hlt
                    rw [hna] at t20
                    obtain ⟨n1, n2, n3, n4, n5, n6⟩ := hN k hlt
                    have HY : Hid (offN t (j.notes.getD k zeroN) = true → A2 = true) := Lib.hid fun h => HA2.out.trans (rany_yes (p := offN t) (d := zeroN) hlt h)
                    have HS : Hid (offN t (j.notes.getD k zeroN) = false → ∀ m, m < k + 1 → offN t (j.notes.getD m zeroN) = false) := Lib.hid fun h m hm => by
                      rcases Nat.lt_or_ge m k with h1 | h1
                      · exact HP.out m h1
                      · obtain rfl : m = k := by omega
                        exact h
                    have hln := (f4 k).1
                    clear HP hH hN n2 n4 n6
                    generalize j.notes.getD k zeroN = N at *
                    rw [n1] at p0 n3
                    have HN5 := Lib.hid n5
                    clear n1 n5
                    generalize hs k = h at *
                    obtain ⟨V, hV⟩ : ∃ V, V = wr := ⟨_, rfl⟩
                    subst hV
                    go_wp2_with fail
                    go_loopw [7] (fun i wx => ∃ k : Nat, k ≤ N.l.length ∧ i = .int .i64 k ∧ Below V.heap.size V wx ∧ Hid (∀ m, m < k → offZ t (N.l.getD m 0) = false)) (fun i _ => N.l.length - (intOf i).toNat)
                    case atStart => exact ⟨0, Nat.zero_le _, rfl, Below.refl _ _, Lib.hid fun m hm => by omega⟩
                    case round =>
                      clear t19 t20 t21
                      obtain ⟨i, hi, rfl, hvl, HP⟩ := hrel
                      obtain ⟨t19, t20, t21⟩ := (D'.old hvl).three
                      rw [hna] at t20
                      have r0 := (hvl.cell (p := ⟨b, off + k * 2, none⟩) hB).trans p0
                      have bx := tstep bw hvl bw.size
                      by_cases hli : i < N.l.length
                      · obtain ⟨hin, b2, o2, hla, hB2, hc2⟩ := (HN5.out.carry hvl (Nat.le_refl _)) i hli
                        rw [hla] at r0
                        have HZ : Hid (offZ t (N.l.getD i 0) = true → A2 = true) := Lib.hid fun h => HY.out (rany_yes (p := offZ t) (d := 0) hli h)
                        have HQ : Hid (offZ t (N.l.getD i 0) = false → ∀ m, m < i + 1 → offZ t (N.l.getD m 0) = false) := Lib.hid fun h m hm => by
                          rcases Nat.lt_or_ge m i with h1 | h1
                          · exact HP.out m h1
                          · obtain rfl : m = i := by omega
                            exact h
                        clear HP hla
                        generalize N.l.getD i 0 = x at *
                        obtain ⟨m, e1, n1, x1, y1⟩ := rem_off (h := x) hg1 i5'
                        generalize offZ t x = z at *
                        unfold inR at hin
                        cases z
                        · replace HQ := Lib.hid (HQ.out rfl)
                          clear HZ
                          go_wp2
                          go_roundw
                          case rel => exact ⟨i + 1, by omega, by go_num, hvl, HQ⟩
                          case measure => simp [intOf]; omega
                        · replace HZ := Lib.hid (HZ.out rfl)
                          clear HQ
                          go_wp2
                          go_ret
                          exact ⟨by rw [HR.out, HZ.out]; simp, bx⟩
                      · have HQ := Lib.hid (HS.out (rany_no (d := 0) fun m hm => HP.out m (by omega)))
                        clear HP HY HS
                        go_wp2
                        go_roundw
                        case rel => exact ⟨k + 1, by omega, by go_num, hbl.trans (hvl.mono hbl.size), HQ⟩
                        case measure => simp [intOf]; omega
                  · obtain rfl : k = j.notes.length := by omega
                    have HN2 : Hid (A2 = false) := Lib.hid (HA2.out.trans (rany_no (d := zeroN) fun m hm => HP.out m hm))
                    clear HP hk hlt
                    go_wp2_with fail
                    go_loopw [8] (fun i wr => ∃ k : Nat, k ≤ j.floats.length ∧ i = .int .i64 k ∧ Below U.heap.size U wr ∧ Hid (∀ m, m < k → offF t (j.floats.getD m zeroF) = false)) (fun i _ => j.floats.length - (intOf i).toNat)
                    case atStart => exact ⟨0, Nat.zero_le _, rfl, hbl, Lib.hid fun m hm => by omega⟩
                    case round =>
                      clear hbl bw D' t19 t20 t21
                      obtain ⟨k, hk, rfl, hbl, HP⟩ := hrel
                      have bw := tstep b0 hbl b0.size
                      have D' := D.old hbl
                      obtain ⟨t19, t20, t21⟩ := D'.three
                      by_cases hlt : k < j.floats.length
                      · obtain ⟨b, off, hfa, hB, p0, p1, p2⟩ := els3 (HL.out.floats.carry bw) hlt
                        rw [hfa] at t21
                        have HY : Hid (offF t (j.floats.getD k zeroF) = true → A3 = true) := Lib.hid fun h => HA3.out.trans (rany_yes (p := offF t) (d := zeroF) hlt h)
                        have HS : Hid (offF t (j.floats.getD k zeroF) = false → ∀ m, m < k + 1 → offF t (j.floats.getD m zeroF) = false) := Lib.hid fun h m hm => by
                          rcases Nat.lt_or_ge m k with h1 | h1
                          · exact HP.out m h1
                          · obtain rfl : m = k := by omega
                            exact h
                        have hxh := (hIF k).2.1
                        clear HP hfa D'
                        generalize j.floats.getD k zeroF = x at *
                        obtain ⟨xc, xh, xp⟩ := x
                        dsimp only at *
                        obtain ⟨m, e1, n1, x1, y1⟩ := rem_off (h := xh) hg1 i5'
                        unfold offF at HY HS
                        dsimp only at HY HS
                        generalize offZ t xh = z at *
                        unfold inR at hxh
                        cases z
                        · replace HS := Lib.hid (HS.out rfl)
                          clear HY
                          go_wp2
                          go_roundw
                          case rel => exact ⟨k + 1, by omega, by go_num, hbl, HS⟩
                          case measure => simp [intOf]; omega
                        · replace HY := Lib.hid (HY.out rfl)
                          clear HS
                          go_wp2
                          go_ret
                          exact ⟨by rw [HR.out, HY.out]; simp, bw⟩
                      · obtain rfl : k = j.floats.length := by omega
                        have HN3 : Hid (A3 = false) := Lib.hid (HA3.out.trans (rany_no (d := zeroF) fun m hm => HP.out m hm))
                        clear HP hk hlt
                        go_wp2
                        go_ret
                        exact ⟨by rw [HR.out, HN1.out, HN2.out, HN3.out]; rfl, bw⟩
          all_goals
            go_enter Try.func11, Try.ntmps11
            go_upto_region 1 with (fail)
            generalize w.alloc _ = U at *
            go_wp2
            go_ret
            exact ⟨rfl, b0⟩
        all_goals
          go_enter Try.func11, Try.ntmps11
          go_upto_region 1 with (fail)
          generalize w.alloc _ = U at *
          go_wp2
          go_ret
          exact ⟨rfl, b0⟩
      all_goals
        go_enter Try.func11, Try.ntmps11
        go_upto_region 1 with (fail)
        generalize w.alloc _ = U at *
        go_wp2
        go_ret
        exact ⟨rfl, b0⟩
    all_goals
      go_enter Try.func11, Try.ntmps11
      go_upto_region 1 with (fail)
      generalize w.alloc _ = U at *
      go_wp2
      go_ret
      exact ⟨rfl, b0⟩
end Go.Proofs.Ytllpimhjpfkgpaa
