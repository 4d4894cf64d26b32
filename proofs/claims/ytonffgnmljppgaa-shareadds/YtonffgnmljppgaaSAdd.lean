/- The walk of the law ShareAdds. -/
import Derived.Test.YtonffgnmljppgaaSAw
import Derived.Test.YtonffgnmljppgaaSAdM
import Derived.Test.YtonffgnmljppgaaSIs
import Derived.Test.YtonffgnmljppgaaBlk
namespace Go.Proofs.Ytonffgnmljppgaa
open Go.RowKit
set_option linter.unusedVariables false
set_option linter.unusedSimpArgs false

theorem adds_many (whole : Int) (a : Option Addr) (cap len : Nat) (w : World) (h : 40 < len) (hlen : (len : Int) ≤ 9223372036854775807) :
    Calls Try.prog 4 #[.int .i64 whole, .slice a len cap] w fun e w' => e = .returned (.bool true) ∧ Below w.heap.size w w' := by
  go_enter Try.func4, Try.ntmps4
  go_wp2_with (refine (awake8 _).mono ?_; rintro e w1 ⟨rfl, b1⟩)
  go_ret
  exact ⟨rfl, b1⟩
theorem adds_no (whole : Int) (a : Option Addr) (cap len : Nat) (w : World) (h : len ≤ 40)
    (c : Calls Try.prog 7 #[.int .i64 whole, .slice a len cap] w fun e w' => ∃ v, e = .returned (.tuple #[v, .bool false]) ∧ OwnI w' w.heap.size v [] ∧ Below w.heap.size w w') :
    Calls Try.prog 4 #[.int .i64 whole, .slice a len cap] w fun e w' => e = .returned (.bool true) ∧ Below w.heap.size w w' := by
  go_enter Try.func4, Try.ntmps4
  go_wp2_with fail
  refine c.mono ?_
  rintro e w1 ⟨v, rfl, ho, b1⟩
  obtain ⟨la, lc, rfl, _, _, _⟩ := ho.row
  clear c ho
  rw [List.length_nil]
  go_wp2_with (refine (awake8 _).mono ?_; rintro e w2 ⟨rfl, b2⟩)
  go_ret
  exact ⟨rfl, b1.trans (b2.mono b1.size)⟩

theorem mk_res2 {ops : Array Oper} (i d : Nat) (o : Oper) (ho : ops[i]? = some o) (hop : o.op = .alloc 40) (hd : o.dst = some d) (hg : o.guard = none) : Makes Try.prog ops i (.cells #[.int .i64 0, .bool false] 40) :=
  ⟨o, d, ho, hd, fun y => by simp [Region.wanted, hg], fun a w => by
    unfold execOp
    simp only [hop]
    simp [go_sem, newVar]⟩
set_option maxHeartbeats 1000000 in
set_option maxRecDepth 20000 in
theorem adds_yes (whole : Int) (a : Option Addr) (cap : Nat) (l : List Int) (w : World) (hn : l.length ≤ 40) (hw : inR whole) (h : rightS whole l = true) (hr : IRow w.heap.size w a l) :
    Calls Try.prog 4 #[.int .i64 whole, .slice a l.length cap] w fun e w' => e = .returned (.bool true) ∧ Below w.heap.size w w' := by
  have cA := all_any whole a cap l w (by omega) hw hr
  obtain ⟨L, hL⟩ : ∃ L, L = shareL whole l := ⟨_, rfl⟩
  obtain ⟨S, hS⟩ : ∃ S, S = l.sum := ⟨_, rfl⟩
  obtain ⟨N, hN⟩ : ∃ N, N = l.length := ⟨_, rfl⟩
  have hLl : L.length = N := by rw [hL, hN, shareL_len h]
  rw [h, ← hL] at cA
  have tL := shares_total h hw
  have tl := parts_total h
  rw [← hL] at tL
  rw [← hS] at tl
  have HL := Lib.hid hL
  have HS := Lib.hid hS
  have HH := Lib.hid h
  have HW := Lib.hid hw
  have HN := Lib.hid hN
  have cS : ∀ w', Below w.heap.size w w' → Calls Try.prog 14 #[.slice a N cap] w' fun e y => e = .returned (.agg #[.int .i64 S, .bool true]) ∧ Below w'.heap.size w' y := fun w' hb => by
    have c := rsum_any a cap l w' (by omega) ((hr.carry hb (Nat.le_refl _)).mono hb.size)
    rw [tl, ← hN] at c
    exact c
  rw [← hN] at cA hn ⊢
  clear h hL hS hN hw tl
  have e0 : decide ((40 : Int) < N) = false := decide_eq_false (by omega)
  go_enter Try.func4, Try.ntmps4
  go_wp2_with fail
  refine cA.mono ?_
  rintro e w1 ⟨lv, rfl, ho, b1⟩
  obtain ⟨la, lc, rfl, hlc, hlm, hlr⟩ := ho.row
  have cT : ∀ w', Below w1.heap.size w1 w' → Calls Try.prog 14 #[.slice la N lc] w' fun e y => e = .returned (.agg #[.int .i64 whole, .bool true]) ∧ Below w'.heap.size w' y := fun w' hb => by
    have c := rsum_any la lc L w' (by omega) ((hlr.carry hb (Nat.le_refl _)).mono hb.size)
    rw [tL, hLl] at c
    exact c
  clear cA ho tL
  rw [hLl]
  go_wp2_with fail
  refine (cS _ b1).mono ?_
  rintro e w2 ⟨rfl, b2⟩
  go_wp2_with fail
  refine (cT _ b2).mono ?_
  rintro e w3 ⟨rfl, b3⟩
  have k3 : Below w.heap.size w w3 := b1.trans ((b2.trans (b3.mono b2.size)).mono b1.size)
  have q3 : Below w1.heap.size w1 w3 := b2.trans (b3.mono b2.size)
  clear cS cT b2 b3
  have e1 : (whole == whole) = true := beq_self_eq_true _
  have e2 : ((N : Int) == (N : Int)) = true := beq_self_eq_true _
  go_upto_region 9 with (fail)
  have g0 := scel_new w3 (.int .i64 S) (.bool true) 36
  have g1 := g0.carry (w' := (w3.alloc (.cells #[.int .i64 S, .bool true] 36)).alloc (.cells #[.int .i64 whole, .bool true] 36)) ((Below.refl _ _).alloc (Nat.le_refl _) _) (by simp)
  have k4 := (k3.alloc k3.size (.cells #[.int .i64 S, .bool true] 36)).alloc (by have := k3.size; simp; omega) (.cells #[.int .i64 whole, .bool true] 36)
  have q4 := (q3.alloc q3.size (.cells #[.int .i64 S, .bool true] 36)).alloc (by have := q3.size; simp; omega) (.cells #[.int .i64 whole, .bool true] 36)
  have z4 : ((w3.alloc (.cells #[.int .i64 S, .bool true] 36)).alloc (.cells #[.int .i64 whole, .bool true] 36)).heap.size = w3.heap.size + 2 := by simp
  generalize (w3.alloc (.cells #[.int .i64 S, .bool true] 36)).alloc (.cells #[.int .i64 whole, .bool true] 36) = W1 at *
  clear g0
  have hr4 := (hr.carry k4 (Nat.le_refl _)).mono k4.size
  have hl4 := (hlr.carry q4 (Nat.le_refl _)).mono q4.size
  clear hr hlr q3 q4 k3
  generalize w3.heap.size = g at *
  clear w3
  go_wp2_with fail
  go_loopw [9] (fun i wr => ∃ k : Nat, k ≤ N ∧ i = .int .i64 k ∧ Below W1.heap.size W1 wr) (fun i _ => N - (intOf i).toNat)
  case atStart => exact ⟨0, Nat.zero_le _, rfl, Below.refl _ _⟩
  case round =>
    obtain ⟨k, hk, rfl, hbl⟩ := hrel
    by_cases hlt : k < N
    · have hkl : k < l.length := by rw [← HN.out]; exact hlt
      obtain ⟨hyin, b, off, rfl, hB, hcp⟩ := (hr4.carry hbl (Nat.le_refl _)) k hkl
      obtain ⟨hzin, b', off', rfl, hB', hcz⟩ := (hl4.carry hbl (Nat.le_refl _)) k (by omega)
      have hcS := (g1.carry hbl (by omega)).1
      obtain ⟨p, hp⟩ : ∃ p, p = l.getD k 0 := ⟨_, rfl⟩
      obtain ⟨z, hz⟩ : ∃ z, z = L.getD k 0 := ⟨_, rfl⟩
      obtain ⟨f, hf⟩ : ∃ f, f = fairK whole l k := ⟨_, rfl⟩
      have cr := fun x => rrat_any whole p S x HW.out.2 (by rw [hp]; exact hyin.2) (by rw [HS.out]; exact (rightS_facts HH.out).2.2.2.1)
      rw [hp, HS.out, rat_fair HH.out HW.out.2 k hkl, ← hf, ← hp, ← HS.out] at cr
      unfold pairV at cr
      rw [← hp] at hcp
      rw [← hz] at hcz
      have hz' : z = shareK whole l k := by rw [hz, HL.out, shareL_getD HH.out k hkl]
      have f1 := share_fair HH.out k hkl
      have f2 := fair_bd HH.out k hkl
      have f3 := share_bd HH.out k
      have f4 : p = 0 → z = 0 := fun e => by rw [hz']; exact share_zero HH.out k hkl (by rw [← hp]; exact e)
      rw [← hz'] at f1 f3
      rw [← hf] at f1 f2
      have f5 : p = 0 → f = 0 := fun e => by have := f4 e; omega
      have hww := HW.out
      unfold inR at hww
      have d1 : decide (z < f) = false := decide_eq_false (by omega)
      have d2 : wrap64 (z - f) = z - f := by unfold wrap64; omega
      have d3 : decide (1 < z - f) = false := decide_eq_false (by omega)
      clear hz hz' hp hf f1 f2 f3 hyin hzin hww hr4 hl4
      go_wp2_with fail
      have hnk : ¬ N ≤ k := by omega
      have cells : ∀ x, Old wr x → x.cell? ⟨b, off + k, none⟩ = some (.int .i64 p) ∧ x.cell? ⟨g, 0, none⟩ = some (.int .i64 S) := fun x hx =>
        ⟨(hx.cell (p := ⟨b, off + k, none⟩) (by have := hbl.size; simp; omega)).trans hcp, (hx.cell (p := ⟨g, 0, none⟩) (by have := hbl.size; simp; omega)).trans hcS⟩
      have CE := Lib.hid cells
      clear cells
      (refine wp_region_textW (fun _ => .cells #[.int .i64 0, .bool false] 40) 8 9 (by kernel_rfl) (by kernel_rfl) (by kernel_rfl) (by kernel_rfl) (fun i h1 h2 => by obtain rfl : i = 8 := (by omega); exact mk_res2 8 10 _ rfl rfl rfl rfl) ?_; simp only [List.take_succ_cons, List.take_zero, List.drop_succ_cons, List.drop_zero])
      repeat (apply TextW.sees (hw := by kernel_rfl) (hk := by decide); (focus (intro x hx K hK; have hc := CE.out x hx; go_simp; exact hK)); simp only [Act.put, List.getElem_toArray, List.getElem_cons_succ, List.getElem_cons_zero, List.setIfInBounds_toArray, List.set_cons_zero, List.set_cons_succ])
      (refine TextW.call (fun x _ => cr x) (by kernel_rfl) (fun _ => by kernel_rfl) (by decide) ?_; simp only [Act.put, List.getElem_toArray, List.getElem_cons_succ, List.getElem_cons_zero, List.setIfInBounds_toArray, List.set_cons_zero, List.set_cons_succ])
      (refine TextW.make (by decide) fun g9 => ?_; simp only [Act.put, List.getElem_toArray, List.getElem_cons_succ, List.getElem_cons_zero, List.setIfInBounds_toArray, List.set_cons_zero, List.set_cons_succ])
      intro y hy listed hl hM
      have M9 := hM.one (i := 8) (g := g9) (by decide) (hl 8 (by decide)) rfl rfl rfl
      clear hM hl CE
      obtain ⟨L9, H9⟩ := M9
      have K9 : Blk y g9 #[.int .i64 0, .bool false] 40 := H9
      have N9 := (K9.set 0 (.int .i64 f)).set 1 (.bool true)
      have k0 := K9.cell 0
      have k1 := K9.cell 1
      have f0 := K9.free 0
      have f1 := K9.free 1
      have y1 := hbl.trans (hy.mono hbl.size)
      have y2 := (y1.setCell (p := ⟨g9, 0, none⟩) (by have := hbl.size; simp; omega) (.int .i64 f)).setCell (p := ⟨g9, 1, none⟩) (by have := hbl.size; simp; omega) (.bool true)
      have y3 := (hy.setCell (p := ⟨g9, 0, none⟩) (by simp; omega) (.int .i64 f)).setCell (p := ⟨g9, 1, none⟩) (by simp; omega) (.bool true)
      have m1 := (y3.cell (p := ⟨b, off + k, none⟩) (by have := hbl.size; simp; omega)).trans hcp
      have m2 := (y3.cell (p := ⟨b', off' + k, none⟩) (by have := hbl.size; simp; omega)).trans hcz
      clear H9 K9 y1 hy hcp hcz hcS y3 cr
      go_upto_region 13 with (fail)
      have n0 : ((y.setCell ⟨g9, 0, none⟩ (.int .i64 f)).setCell ⟨g9, 1, none⟩ (.bool true)).cell? ⟨g9, 0, none⟩ = some (.int .i64 f) := N9.cell 0
      have n1 : ((y.setCell ⟨g9, 0, none⟩ (.int .i64 f)).setCell ⟨g9, 1, none⟩ (.bool true)).cell? ⟨g9, 1, none⟩ = some (.bool true) := N9.cell 1
      generalize (y.setCell ⟨g9, 0, none⟩ (.int .i64 f)).setCell ⟨g9, 1, none⟩ (.bool true) = V at *
      clear N9 k0 k1 f0 f1 hbl
      unfold ptr
      by_cases hp0 : p = 0
      · obtain rfl := f4 hp0
        obtain rfl := f5 hp0
        subst hp0
        clear d1 d2 d3 f4 f5
        go_quiet (fail)
        go_wp2
        go_roundw
        case rel => exact ⟨k + 1, by omega, by go_num, sdrewN y2 _⟩
        case measure => simp [intOf]; omega
      · have hp1 : (p == 0) = false := by rw [beq_eq_false_iff_ne]; exact hp0
        go_quiet (fail)
        go_wp2
        go_roundw
        case rel => exact ⟨k + 1, by omega, by go_num, sdrewN y2 _⟩
        case measure => simp [intOf]; omega
    · clear hr4 hl4
      go_wp2_with (refine (awake8 _).mono ?_; rintro e w5 ⟨rfl, b5⟩)
      go_ret
      have y1 := k4.trans (hbl.mono k4.size)
      exact ⟨rfl, y1.trans (b5.mono y1.size)⟩
theorem shareAdds_walk (whole : Int) (hw : (Lit.int .i64 whole).wf = true) (a : Option Addr) (len cap : Nat) (zs : List Int) (w : World) (h : IsRow .i64 w a len cap zs) :
    Calls Try.prog 4 #[.int .i64 whole, .slice a len cap] w fun e w' => e = .returned (.bool true) ∧ Below w.heap.size w w' := by
  obtain ⟨l, rfl, hr, h1, h2⟩ := h.irow
  have hm : maxLen ≤ 9223372036854775807 := by decide
  by_cases hc : 40 < l.length
  · exact adds_many whole a cap l.length w hc (by omega)
  · by_cases hR : rightS whole l = true
    · exact adds_yes whole a cap l w (by omega) (swfR hw) hR hr
    · have hR' : rightS whole l = false := by simpa using hR
      have c := all_any whole a cap l w (by omega) (swfR hw) hr
      have e : shareL whole l = [] := by unfold shareL; rw [hR']; rfl
      rw [hR', e] at c
      exact adds_no whole a cap l.length w (by omega) c
end Go.Proofs.Ytonffgnmljppgaa
