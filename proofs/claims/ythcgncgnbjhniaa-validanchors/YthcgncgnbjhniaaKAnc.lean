/- Anchors, the document's Anchors, Clauses; the walk of ValidAnchors. -/
import Derived.Test.YthcgncgnbjhniaaKAw
import Derived.Maps.AppendAt
namespace Go.Proofs.Ythcgncgnbjhniaa
open Go.RowKit
set_option maxRecDepth 20000
set_option linter.unusedVariables false
set_option linter.unusedSimpArgs false

theorem vanchors_any (a : Option Addr) (cap : Nat) (l : List I7) (k : Int) (w : World) (hn : l.length ≤ 1000000) (hr : Els 7 encI w a l.length fun k => l.getD k zeroI) :
    Calls Try.prog 7 #[.slice a l.length cap, .int .i64 k] w fun e w' => e = .returned (.int .i64 (idxK (offK l k l.length) l.length)) ∧ Below w.heap.size w w' := by
  have c := stray_any a cap l k l.length w hn hr
  have hle : strayK l k l.length ≤ l.length := firstK_le _ _
  have e : idxK (offK l k l.length) l.length = if strayK l k l.length < l.length then (strayK l k l.length : Int) else -1 := rfl
  rw [e]
  clear hr e
  generalize strayK l k l.length = S at *
  by_cases h : S < l.length
  · rw [if_pos h]
    go_enter Try.func7, Try.ntmps7
    go_wp2_with (refine c.mono ?_; rintro e w1 ⟨rfl, b1⟩)
    go_ret
    exact ⟨rfl, b1⟩
  · rw [if_neg h]
    go_enter Try.func7, Try.ntmps7
    go_wp2_with (refine c.mono ?_; rintro e w1 ⟨rfl, b1⟩)
    go_ret
    exact ⟨rfl, b1⟩
set_option maxHeartbeats 1000000 in
theorem ranchors2_any (a : Option Addr) (cap : Nat) (l : List I7) (k : Int) (w : World) (hn : l.length ≤ 1000000) (hr : Els 7 encI w a l.length fun k => l.getD k zeroI) :
    Calls Try.prog 8 #[.slice a l.length cap, .int .i64 k] w fun e w' => e = .returned (.int .i64 (idxK (offK l k l.length) l.length)) ∧ Below w.heap.size w w' := by
  have HR := Lib.hid hr
  clear hr
  go_enter Try.func8, Try.ntmps8
  go_wp2_with fail
  go_loopw [5, 6] (fun u i wr => ∃ m : Nat, m ≤ l.length ∧ i = .int .i64 m ∧ u = .int .i64 (cntUp l k m) ∧ Below w.heap.size w wr ∧ Hid (∀ j, j < m → offK l k l.length j = false)) (fun _ i _ => l.length - (intOf i).toNat)
  case atStart => exact ⟨0, Nat.zero_le _, rfl, rfl, Below.refl _ _, Lib.hid fun j hj => by omega⟩
  case round =>
    obtain ⟨m, hm, rfl, rfl, bw, HP⟩ := hrel
    by_cases hlt : m < l.length
    · obtain ⟨b, off, rfl, hB, h0, h1, h2, h3, h4, h5, h6⟩ := els7 (HR.out.carry bw) hlt
      have hc := cntUp_in l k m
      have HY : Hid (offK l k l.length m = true → idxK (offK l k l.length) l.length = m) := Lib.hid fun h => idxK_eq hlt h HP.out
      have HS : Hid (offK l k l.length m = false → ∀ j, j < m + 1 → offK l k l.length j = false) := Lib.hid fun h j hj => by
        rcases Nat.lt_or_ge j m with h1 | h1
        · exact HP.out j h1
        · obtain rfl : j = m := by omega
          exact h
      have Q1 := Lib.hid (offK_other (l := l) (k := k) (c := l.length) (i := m))
      have Q2 := Lib.hid (offK_n (l := l) (k := k) (c := l.length) (i := m))
      have Q4 := Lib.hid (offK_not (l := l) (k := k) (c := l.length) (i := m))
      have Q5 := Lib.hid (cntUp_step (l := l) (k := k) (i := m))
      have Q6 := Lib.hid (cntUp_stay (l := l) (k := k) (i := m))
      clear HP
      generalize cntUp l k m = u at *
      generalize l.getD m zeroI = y at *
      obtain ⟨y0, y1, y2, y3, y4, y5, y6⟩ := y
      dsimp only at *
      by_cases hk : y0 = k
      · subst hk
        by_cases hu : y6 = u
        · subst hu
          have e := Lib.hid (HS.out (Q4.out rfl (by omega)))
          have e2 := Lib.hid (Q5.out rfl)
          clear HY HS Q1 Q2 Q4 Q5 Q6
          go_wp2
          go_roundw
          case rel => exact ⟨m + 1, by omega, by go_num, by rw [e2.out], bw, e⟩
          case measure => simp [intOf]; omega
        · have hne : (y6 != u) = true := by simpa using hu
          have e := Lib.hid (HY.out (Q2.out rfl hu))
          clear HY HS Q1 Q2 Q4 Q5 Q6
          go_wp2
          go_ret
          exact ⟨by rw [e.out]; rfl, bw⟩
      · have hne : (y0 == k) = false := by simpa using hk
        have e := Lib.hid (HS.out (Q1.out hk))
        have e2 := Lib.hid (Q6.out hk)
        clear HY HS Q1 Q2 Q4 Q5 Q6
        go_wp2
        go_roundw
        case rel => exact ⟨m + 1, by omega, by go_num, by rw [e2.out], bw, e⟩
        case measure => simp [intOf]; omega
    · obtain rfl : m = l.length := by omega
      have e : Hid (idxK (offK l k l.length) l.length = -1) := Lib.hid (idxK_none HP.out)
      clear HP
      go_wp2
      go_ret
      exact ⟨by rw [e.out]; rfl, bw⟩
def errL : Nat → List Int
  | 0 => []
  | k + 1 => errL k ++ [(k : Int) + 3]
theorem errL_len (k : Nat) : (errL k).length = k := by
  induction k with
  | zero => rfl
  | succ k ih => unfold errL; rw [List.length_append, ih]; rfl
theorem errL_get {k : Nat} (hk : k < 10) : (errL 10).getD k 0 = (k : Int) + 3 := by
  have e : k = 0 ∨ k = 1 ∨ k = 2 ∨ k = 3 ∨ k = 4 ∨ k = 5 ∨ k = 6 ∨ k = 7 ∨ k = 8 ∨ k = 9 := by omega
  rcases e with rfl | rfl | rfl | rfl | rfl | rfl | rfl | rfl | rfl | rfl <;> rfl
theorem cls_at {k : Nat} (hk : k < 10) : ∃ F, clsC[k * 2]? = some (.int .i64 ((k : Int) + 3)) ∧ clsC[k * 2 + 1]? = some (.func (.func F) #[] #[]) := by
  have e : k = 0 ∨ k = 1 ∨ k = 2 ∨ k = 3 ∨ k = 4 ∨ k = 5 ∨ k = 6 ∨ k = 7 ∨ k = 8 ∨ k = 9 := by omega
  rcases e with rfl | rfl | rfl | rfl | rfl | rfl | rfl | rfl | rfl | rfl <;> exact ⟨_, rfl, rfl⟩
theorem one_two (w : World) (o : Obj) (x : Value) (t : TypeId) : ∀ j u, [x][j]? = some u → ((w.alloc o).alloc (.cells #[x] t)).cell? ((⟨w.heap.size + 1, 0, none⟩ : Addr).add j) = some u := by
  have := cell_one_new (w.alloc o) x t
  rwa [World.size_alloc] at this
theorem infoErr : (Try.prog.info? 26).map (fun i => (i.zero, i.size, i.bytes)) = some (some (.int .i64 0), 1, 8) := by kernel_rfl
theorem vclauses_any (w : World) : Calls Try.prog 6 #[] w fun e w' => ∃ a cap, e = .returned (.slice a 10 cap) ∧ (Els 1 encZ w' a 10 fun k => (k : Int) + 3) ∧ Below w.heap.size w w' := by
  have hmx : 1000002 ≤ maxLen := by decide
  obtain ⟨i0, hi, hz0, hz1, hz2⟩ := info_parts infoErr
  go_enter Try.func6, Try.ntmps6
  go_wp2_with fail
  refine (clauses_any _).mono ?_
  rintro e w1 ⟨rfl, b1, B⟩
  have hlt := B.lt
  have HB := Lib.hid B
  clear B
  go_wp2_with fail
  go_loopw [1, 6] (fun v i wr => ∃ (u : Value) (k : Nat), u = v ∧ k ≤ 10 ∧ i = .int .i64 k ∧ Below w1.heap.size w1 wr ∧ wr.ownsRow w1.heap.size 26 1 u k (((errL k).map encZ).flatten)) (fun _ i _ => 10 - (intOf i).toNat)
  case atStart => exact ⟨_, 0, rfl, Nat.zero_le _, rfl, Below.refl _ _, World.ownsRow_nil _ _ _ _⟩
  case round =>
    obtain ⟨u, k, rfl, hk, rfl, bw, hown⟩ := hrel
    by_cases hlt2 : k < 10
    · obtain ⟨F, q0, q1⟩ := cls_at hlt2
      replace q0 := ((HB.out.old bw).cell (k * 2)).trans q0
      replace q1 := ((HB.out.old bw).cell (k * 2 + 1)).trans q1
      have bo := tstep bw (tbel1 wr (.cells #[.int .i64 ((k : Int) + 3), .func (.func F) #[] #[]] 49)) bw.size
      have ho := hown.alloc (.cells #[.int .i64 ((k : Int) + 3), .func (.func F) #[] #[]] 49)
      have hzr : w1.heap.size ≤ wr.heap.size := bw.size
      have bo2 := tstep bo (tbel1 (wr.alloc (.cells #[.int .i64 ((k : Int) + 3), .func (.func F) #[] #[]] 49)) (.cells #[.int .i64 ((k : Int) + 3)] 26)) bo.size
      have hrow : (errL (k + 1)).length = k + 1 := errL_len _
      have HS : Hid (((errL (k + 1)).map encZ).flatten = ((errL k).map encZ).flatten ++ [.int .i64 ((k : Int) + 3)]) := Lib.hid (by rw [show errL (k + 1) = errL k ++ [(k : Int) + 3] from rfl, flat_snoc]; rfl)
      clear hown bw
      go_wp2_with (at_builtin; go_loud (refine wpList_append_own _ rfl _ _ 24 rfl w1.heap.size 26 i0 (.int .i64 0) 1 8 Try.underlying24 hi hz0 hz1 hz2 rfl (by decide) _ _ _ rfl (ho.alloc _) ⟨wr.heap.size + 1, 0, none⟩ 1 1 [.int .i64 ((k : Int) + 3)] rfl rfl (one_two _ _ _ _) (by simp [Value.oneCell']) (by omega) (by omega) (by simp; omega) ?_; intro v' w4 hown' hgrow _; have hb4 : Below w1.heap.size w1 w4 := grown_below (ho.alloc _) bo2 hgrow (by simp; omega)))
      have ho4 : w4.ownsRow w1.heap.size 26 1 v' (k + 1) (((errL (k + 1)).map encZ).flatten) := by rw [HS.out]; exact hown'
      clear hown' hgrow ho HS bo bo2
      go_wp2
      go_roundw
      case rel => exact ⟨_, k + 1, rfl, by omega, by go_num, hb4, ho4⟩
      case measure => simp [intOf]; omega
    · obtain rfl : k = 10 := by omega
      obtain ⟨a, cap, rfl, _, _, hO⟩ := own_of (l := errL 10) (d := 0) (by rw [errL_len]; exact hown) encZ_len
      rw [errL_len] at hO ⊢
      have HE : Hid (Els 1 encZ wr a 10 fun k => (k : Int) + 3) := Lib.hid (hO.els.congr fun k hk => errL_get hk)
      clear hO hown
      go_wp2
      go_ret
      exact ⟨a, cap, rfl, HE.out, tstep b1 bw b1.size⟩
theorem irw_els {w : World} {a : Option Addr} {l : List I7} (h : IRw w a l) : Els 7 encI w a l.length fun k => l.getD k zeroI := fun k j hk hj => by
  obtain ⟨b, off, rfl, hB, h0, h1, h2, h3, h4, h5, h6⟩ := h k hk
  refine ⟨b, off, rfl, hB, ?_⟩
  have e : j = 0 ∨ j = 1 ∨ j = 2 ∨ j = 3 ∨ j = 4 ∨ j = 5 ∨ j = 6 := by omega
  rcases e with rfl | rfl | rfl | rfl | rfl | rfl | rfl
  · exact h0
  · rw [← Nat.add_assoc]; exact h1
  · rw [← Nat.add_assoc]; exact h2
  · rw [← Nat.add_assoc]; exact h3
  · rw [← Nat.add_assoc]; exact h4
  · rw [← Nat.add_assoc]; exact h5
  · rw [← Nat.add_assoc]; exact h6
theorem anchors_long (a : Option Addr) (len cap : Nat) (k : Int) (w : World) (h : 200 < len) (h' : len ≤ 9223372036854775807) :
    Calls Try.prog 3 #[.slice a len cap, .int .i64 k] w fun e w' => e = .returned (.bool true) ∧ Below w.heap.size w w' := by
  have ca := Lib.hid awake15
  go_enter Try.func3, Try.ntmps3
  go_wp2_with fail
  refine (ca.out _).mono ?_
  rintro e z ⟨rfl, hz⟩
  go_wp2
  go_ret
  exact ⟨rfl, hz⟩
set_option maxHeartbeats 1000000 in
theorem anchors_short (a : Option Addr) (cap : Nat) (l : List I7) (k : Int) (w : World) (hn : l.length ≤ 200) (hr : Els 7 encI w a l.length fun k => l.getD k zeroI) :
    Calls Try.prog 3 #[.slice a l.length cap, .int .i64 k] w fun e w' => e = .returned (.bool true) ∧ Below w.heap.size w w' := by
  have ca := Lib.hid awake15
  have c1 := Lib.hid fun x (hx : Below w.heap.size w x) => vanchors_any a cap l k x (by omega) (hr.carry hx)
  have c2 := Lib.hid fun x (hx : Below w.heap.size w x) => ranchors2_any a cap l k x (by omega) (hr.carry hx)
  clear hr
  generalize idxK _ _ = z at *
  have hz : (z == z) = true := by simp
  go_enter Try.func3, Try.ntmps3
  go_wp2_with fail
  refine (vclauses_any _).mono ?_
  rintro e w1 ⟨a2, cap2, rfl, hE, b1⟩
  have HE := Lib.hid hE
  clear hE
  go_wp2_with fail
  go_loopw [6] (fun i wr => ∃ m : Nat, m ≤ 10 ∧ i = .int .i64 m ∧ Below w1.heap.size w1 wr) (fun i _ => 10 - (intOf i).toNat)
  case atStart => exact ⟨0, Nat.zero_le _, rfl, Below.refl _ _⟩
  case round =>
    obtain ⟨m, hm, rfl, bw⟩ := hrel
    by_cases hlt : m < 10
    · obtain ⟨b, off, rfl, hB, p0⟩ := HE.out.carry bw m 0 hlt (by omega)
      rw [Nat.mul_one, Nat.add_zero] at p0
      replace p0 : wr.cell? ⟨b, off + m, none⟩ = some (.int .i64 ((m : Int) + 3)) := p0
      have e1 : (3 : Int) + m = (m : Int) + 3 := by omega
      have e2 : ((m : Int) + 3 != (m : Int) + 3) = false := by simp
      have e3 : IntKind.i64.wrap (3 + (m : Int)) = (m : Int) + 3 := by rw [IntKind.wrap_i64]; omega
      go_wp2
      go_roundw
      case rel => exact ⟨m + 1, by omega, by go_num, bw⟩
      case measure => simp [intOf]; omega
    · obtain rfl : m = 10 := by omega
      have b2 := tstep b1 bw b1.size
      have d1 := Lib.hid fun x (hx : Old wr x) => c1.out x (tstep b2 hx b2.size)
      have d2 := Lib.hid fun x (hx : Old wr x) => c2.out x (tstep b2 hx b2.size)
      clear c1 c2 HE
      go_upto_region 9 with (fail)
      (refine wp_region_plain (Old wr) 15 (Below.refl _ wr) ?_; simp only [List.take_succ_cons, List.take_zero, List.drop_succ_cons, List.drop_zero])
      repeat (first | (apply Text.sees (hw := by kernel_rfl); (focus (intro x hx K hK; have hc := (fun _ _ => hz) x hx; go_simp; exact hK)); simp only [Act.put, List.getElem_toArray, List.getElem_cons_succ, List.getElem_cons_zero, List.setIfInBounds_toArray, List.set_cons_zero, List.set_cons_succ]) | (apply Text.idle; (focus (intro x hx K hK; go_simp; exact hK)); simp only [Act.put, List.getElem_toArray, List.getElem_cons_succ, List.getElem_cons_zero, List.setIfInBounds_toArray, List.set_cons_zero, List.set_cons_succ]))
      (refine Text.call (Old.call fun x hx => d1.out x hx) (by kernel_rfl) (fun _ => by kernel_rfl) ?_; simp only [Act.put, List.getElem_toArray, List.getElem_cons_succ, List.getElem_cons_zero, List.setIfInBounds_toArray, List.set_cons_zero, List.set_cons_succ])
      repeat (first | (apply Text.sees (hw := by kernel_rfl); (focus (intro x hx K hK; have hc := (fun _ _ => hz) x hx; go_simp; exact hK)); simp only [Act.put, List.getElem_toArray, List.getElem_cons_succ, List.getElem_cons_zero, List.setIfInBounds_toArray, List.set_cons_zero, List.set_cons_succ]) | (apply Text.idle; (focus (intro x hx K hK; go_simp; exact hK)); simp only [Act.put, List.getElem_toArray, List.getElem_cons_succ, List.getElem_cons_zero, List.setIfInBounds_toArray, List.set_cons_zero, List.set_cons_succ]))
      (refine Text.call (Old.call fun x hx => d2.out x hx) (by kernel_rfl) (fun _ => by kernel_rfl) ?_; simp only [Act.put, List.getElem_toArray, List.getElem_cons_succ, List.getElem_cons_zero, List.setIfInBounds_toArray, List.set_cons_zero, List.set_cons_succ])
      repeat (first | (apply Text.sees (hw := by kernel_rfl); (focus (intro x hx K hK; have hc := (fun _ _ => hz) x hx; go_simp; exact hK)); simp only [Act.put, List.getElem_toArray, List.getElem_cons_succ, List.getElem_cons_zero, List.setIfInBounds_toArray, List.set_cons_zero, List.set_cons_succ]) | (apply Text.idle; (focus (intro x hx K hK; go_simp; exact hK)); simp only [Act.put, List.getElem_toArray, List.getElem_cons_succ, List.getElem_cons_zero, List.setIfInBounds_toArray, List.set_cons_zero, List.set_cons_succ]))
      (refine Text.call (Old.call fun x hx => ca.out x) (by kernel_rfl) (fun _ => by kernel_rfl) ?_; simp only [Act.put, List.getElem_toArray, List.getElem_cons_succ, List.getElem_cons_zero, List.setIfInBounds_toArray, List.set_cons_zero, List.set_cons_succ])
      repeat (first | (apply Text.sees (hw := by kernel_rfl); (focus (intro x hx K hK; have hc := (fun _ _ => hz) x hx; go_simp; exact hK)); simp only [Act.put, List.getElem_toArray, List.getElem_cons_succ, List.getElem_cons_zero, List.setIfInBounds_toArray, List.set_cons_zero, List.set_cons_succ]) | (apply Text.idle; (focus (intro x hx K hK; go_simp; exact hK)); simp only [Act.put, List.getElem_toArray, List.getElem_cons_succ, List.getElem_cons_zero, List.setIfInBounds_toArray, List.set_cons_zero, List.set_cons_succ]))
      intro x hx
      go_wp2
      go_ret
      exact ⟨rfl, tstep b2 hx b2.size⟩
theorem validAnchors_walk (a : Option Addr) (len cap : Nat) (k : Int) (hk : (Lit.int .i64 k).wf = true) (w : World) (h : IsFlat Try.prog [3, 29, 3, 29, 3, 29, 3] w a len cap) :
    Calls Try.prog 3 #[.slice a len cap, .int .i64 k] w fun e w' => e = .returned (.bool true) ∧ Below w.heap.size w w' := by
  obtain ⟨l, rfl, h1, h2, hr⟩ := h.irw
  have h3 := Nat.le_trans h1 h2
  simp only [maxLen] at h3
  by_cases hn : l.length ≤ 200
  · exact anchors_short a cap l k w hn (irw_els hr)
  · exact anchors_long a l.length cap k w (by omega) (by omega)
end Go.Proofs.Ythcgncgnbjhniaa
