/- Package codec's Reader: Int, Count. -/
import Derived.Test.YtbadkfocfgojlaaYRd
import Derived.Test.YtbadkfocfgojlaaXCnt
import Derived.Test.YtbadkfocfgojlaaVGet
namespace Go.Proofs.Ytbadkfocfgojlaa
open Go.RowKit
set_option linter.unusedVariables false
set_option linter.unusedSimpArgs false

theorem int_nil (w : World) :
    Calls Try.prog 26 #[.pointer none] w fun e w' => e = .returned (.int .i64 0) ∧ w = w' := by
  have cr := right_nil w
  go_enter Try.func26, Try.ntmps26
  go_wp2_with (refine cr.mono ?_; rintro e w' ⟨rfl, rfl⟩)
  go_ret
  exact ⟨rfl, rfl⟩
theorem int_stop (g : Nat) (a : Option Addr) (c n : Nat) (p : Int) (w : World) (hR : CdAt w g a c n p true) :
    Calls Try.prog 26 #[.pointer (some ⟨g, 0, none⟩)] w fun e w' => e = .returned (.int .i64 0) ∧ w = w' := by
  have cr := right_any g a c n p true w hR
  rw [Bool.not_true] at cr
  go_enter Try.func26, Try.ntmps26
  go_wp2_with (refine cr.mono ?_; rintro e w' ⟨rfl, rfl⟩)
  go_ret
  exact ⟨rfl, rfl⟩
theorem int_go (g : Nat) (a : Option Addr) (c : Nat) (bs : List Int) (p : Nat) (hp : p ≤ bs.length) (hl : bs.length ≤ 1000000) (hB : Byt bs) (w : World) (hR : CdAt w g a c bs.length p false) (hr : Row w a c bs) :
    Calls Try.prog 26 #[.pointer (some ⟨g, 0, none⟩)] w fun e w' => e = .returned (.int .i64 (intR bs p false).1) ∧ CdAt w' g a c bs.length (intR bs p false).2.1 (intR bs p false).2.2 ∧ But g w w' := by
  have cr := right_any g a c bs.length p false w hR
  rw [Bool.not_false] at cr
  have cg : ∀ x, Old w x → Calls Try.prog 38 #[.slice a bs.length c, .int .i64 p] x fun e y => e = .returned (trip (gotR p bs)) ∧ Below x.heap.size x y := fun x hx => (get_any a c bs p hl hB x (hr.carry hx)).mono fun e y ⟨he, hy⟩ => by subst hy; exact ⟨he, Below.refl _ _⟩
  have CE := Lib.hid (show ∀ x, Old w x → (x.cell? ⟨g, 0, none⟩ = some (.slice a bs.length c) ∧ x.cell? ⟨g, 1, none⟩ = some (.int .i64 p)) from fun x hx => ⟨(hR.old hx).c0, (hR.old hx).c1⟩)
  have cs := fun x hx => stop_any g a c bs.length p false x hx
  obtain ⟨⟨r0, r1, r2⟩, hres⟩ : ∃ r, r = gotR p bs := ⟨_, rfl⟩
  rw [← hres] at cg
  unfold trip at cg
  cases hgr : getR (bs.drop p) 0 0 with
  | none =>
    rw [got_none p bs hp hgr] at hres
    obtain ⟨rfl, rfl, rfl⟩ : r0 = 0 ∧ r1 = 0 ∧ r2 = 2 := by simpa using hres
    have HI := Lib.hid (intR_none bs p hgr)
    clear hgr hres
    go_enter Try.func26, Try.ntmps26
    go_wp2_with (go_at_call 16; refine cr.mono ?_; rintro e w' ⟨rfl, rfl⟩)
    (refine wp_region_text (Old w) 15 (by kernel_rfl) (by kernel_rfl) (Below.refl _ w).drew ?_; simp only [List.take_succ_cons, List.take_zero, List.drop_succ_cons, List.drop_zero])
    repeat (first | (apply Text.sees (hw := by kernel_rfl); (focus (intro x hx K hK; have hc := CE.out x hx; go_simp; exact hK)); simp only [Act.put, List.getElem_toArray, List.getElem_cons_succ, List.getElem_cons_zero, List.setIfInBounds_toArray, List.set_cons_zero, List.set_cons_succ]) | (apply Text.idle; (focus (intro x hx K hK; go_simp; exact hK)); simp only [Act.put, List.getElem_toArray, List.getElem_cons_succ, List.getElem_cons_zero, List.setIfInBounds_toArray, List.set_cons_zero, List.set_cons_succ]))
    (refine Text.call (Old.call fun x hx => cg x hx) (by kernel_rfl) (fun _ => by kernel_rfl) ?_; simp only [Act.put, List.getElem_toArray, List.getElem_cons_succ, List.getElem_cons_zero, List.setIfInBounds_toArray, List.set_cons_zero, List.set_cons_succ])
    repeat (first | (apply Text.sees (hw := by kernel_rfl); (focus (intro x hx K hK; have hc := CE.out x hx; go_simp; exact hK)); simp only [Act.put, List.getElem_toArray, List.getElem_cons_succ, List.getElem_cons_zero, List.setIfInBounds_toArray, List.set_cons_zero, List.set_cons_succ]) | (apply Text.idle; (focus (intro x hx K hK; go_simp; exact hK)); simp only [Act.put, List.getElem_toArray, List.getElem_cons_succ, List.getElem_cons_zero, List.setIfInBounds_toArray, List.set_cons_zero, List.set_cons_succ]))
    intro x hx
    go_wp2_with fail
    refine (cs _ (hR.old hx)).mono ?_
    rintro e w2 ⟨rfl, R2, B2⟩
    go_wp2
    go_ret
    rw [HI.out]
    exact ⟨rfl, R2, But.trans (But.of hx) B2⟩
  | some r =>
    obtain ⟨u, m⟩ := r
    rw [got_some p bs hp u m hgr] at hres
    obtain ⟨rfl, rfl, rfl⟩ : r0 = unfoldZ u ∧ r1 = (p : Int) + m ∧ r2 = 0 := by simpa using hres
    have HI := Lib.hid (intR_some bs p u m hgr)
    clear hgr hres
    go_enter Try.func26, Try.ntmps26
    go_wp2_with (go_at_call 16; refine cr.mono ?_; rintro e w' ⟨rfl, rfl⟩)
    (refine wp_region_text (Old w) 15 (by kernel_rfl) (by kernel_rfl) (Below.refl _ w).drew ?_; simp only [List.take_succ_cons, List.take_zero, List.drop_succ_cons, List.drop_zero])
    repeat (first | (apply Text.sees (hw := by kernel_rfl); (focus (intro x hx K hK; have hc := CE.out x hx; go_simp; exact hK)); simp only [Act.put, List.getElem_toArray, List.getElem_cons_succ, List.getElem_cons_zero, List.setIfInBounds_toArray, List.set_cons_zero, List.set_cons_succ]) | (apply Text.idle; (focus (intro x hx K hK; go_simp; exact hK)); simp only [Act.put, List.getElem_toArray, List.getElem_cons_succ, List.getElem_cons_zero, List.setIfInBounds_toArray, List.set_cons_zero, List.set_cons_succ]))
    (refine Text.call (Old.call fun x hx => cg x hx) (by kernel_rfl) (fun _ => by kernel_rfl) ?_; simp only [Act.put, List.getElem_toArray, List.getElem_cons_succ, List.getElem_cons_zero, List.setIfInBounds_toArray, List.set_cons_zero, List.set_cons_succ])
    repeat (first | (apply Text.sees (hw := by kernel_rfl); (focus (intro x hx K hK; have hc := CE.out x hx; go_simp; exact hK)); simp only [Act.put, List.getElem_toArray, List.getElem_cons_succ, List.getElem_cons_zero, List.setIfInBounds_toArray, List.set_cons_zero, List.set_cons_succ]) | (apply Text.idle; (focus (intro x hx K hK; go_simp; exact hK)); simp only [Act.put, List.getElem_toArray, List.getElem_cons_succ, List.getElem_cons_zero, List.setIfInBounds_toArray, List.set_cons_zero, List.set_cons_succ]))
    intro x hx
    have Rx := hR.old hx
    have k1 := Rx.c1
    have k2 := Rx.fr 1
    go_wp2
    go_ret
    rw [HI.out]
    exact ⟨rfl, Rx.set1 _, (But.of hx).set 1 _⟩
theorem int_any (g : Nat) (a : Option Addr) (c : Nat) (bs : List Int) (p : Nat) (st : Bool) (hp : p ≤ bs.length) (hl : bs.length ≤ 1000000) (hB : Byt bs) (w : World) (hR : CdAt w g a c bs.length p st) (hr : Row w a c bs) :
    Calls Try.prog 26 #[.pointer (some ⟨g, 0, none⟩)] w fun e w' => e = .returned (.int .i64 (intR bs p st).1) ∧ CdAt w' g a c bs.length (intR bs p st).2.1 (intR bs p st).2.2 ∧ But g w w' := by
  cases st with
  | true => exact (int_stop g a c bs.length p w hR).mono fun e w' ⟨he, hw⟩ => by subst hw; exact ⟨he, hR, But.refl _ _⟩
  | false => exact int_go g a c bs p hp hl hB w hR hr

theorem count_nil (w : World) :
    Calls Try.prog 28 #[.pointer none] w fun e w' => e = .returned (.int .i64 0) ∧ w = w' := by
  have cr := right_nil w
  go_enter Try.func28, Try.ntmps28
  go_wp2_with (refine cr.mono ?_; rintro e w' ⟨rfl, rfl⟩)
  go_ret
  exact ⟨rfl, rfl⟩
theorem count_stop (g : Nat) (a : Option Addr) (c n : Nat) (p : Int) (w : World) (hR : CdAt w g a c n p true) :
    Calls Try.prog 28 #[.pointer (some ⟨g, 0, none⟩)] w fun e w' => e = .returned (.int .i64 0) ∧ w = w' := by
  have cr := right_any g a c n p true w hR
  rw [Bool.not_true] at cr
  go_enter Try.func28, Try.ntmps28
  go_wp2_with (refine cr.mono ?_; rintro e w' ⟨rfl, rfl⟩)
  go_ret
  exact ⟨rfl, rfl⟩
theorem count_go (g : Nat) (a : Option Addr) (c : Nat) (bs : List Int) (p : Nat) (hp : p ≤ bs.length) (hl : bs.length ≤ 1000000) (hB : Byt bs) (w : World) (hR : CdAt w g a c bs.length p false) (hr : Row w a c bs) :
    Calls Try.prog 28 #[.pointer (some ⟨g, 0, none⟩)] w fun e w' => e = .returned (.int .i64 (countR bs p false).1) ∧ CdAt w' g a c bs.length (countR bs p false).2.1 (countR bs p false).2.2 ∧ But g w w' := by
  have cr := right_any g a c bs.length p false w hR
  rw [Bool.not_false] at cr
  have ci := int_any g a c bs p false hp hl hB w hR hr
  have hle := intR_le bs p false hp hB
  have hin := intR_in bs p false hB
  have hcnt : countR bs p false = if (intR bs p false).1 < 0 ∨ (bs.length : Int) - (intR bs p false).2.1 < (intR bs p false).1 then (0, p, true) else intR bs p false := rfl
  obtain ⟨⟨x, q, t⟩, hI⟩ : ∃ r, r = intR bs p false := ⟨_, rfl⟩
  rw [← hI] at ci hle hin hcnt
  simp only at ci hle hin hcnt
  obtain ⟨hx0, hx1⟩ := hin
  clear hI
  have q1 := hR.c1
  have cl := fun y hy => left_any g a c bs.length q t hle.1 hl y hy
  by_cases h0 : x < 0
  · rw [if_pos (.inl h0)] at hcnt
    have HC := Lib.hid hcnt
    have e0 : decide (x < 0) = true := by simpa using h0
    clear hcnt
    go_enter Try.func28, Try.ntmps28
    go_wp2_with (first
      | (go_at_call 16; refine cr.mono ?_; rintro e w' ⟨rfl, rfl⟩)
      | (go_at_call 26; refine ci.mono ?_; rintro e w1 ⟨rfl, R1, B1⟩; clear q1; have d1 := R1.c1; have f1 := R1.fr 1)
      | (go_at_call 24; refine (stop_any g a c bs.length p t _ (R1.set1 p)).mono ?_; rintro e w2 ⟨rfl, R2, B2⟩))
    go_ret
    rw [HC.out]
    exact ⟨rfl, R2, But.trans (B1.set 1 _) B2⟩
  · have e0 : decide (x < 0) = false := by simpa using h0
    by_cases h1 : (bs.length : Int) - q < x
    · rw [if_pos (.inr h1)] at hcnt
      have HC := Lib.hid hcnt
      have e1 : decide ((bs.length : Int) - (q : Int) < x) = true := by simpa using h1
      clear hcnt
      go_enter Try.func28, Try.ntmps28
      go_wp2_with (first
        | (go_at_call 16; refine cr.mono ?_; rintro e w' ⟨rfl, rfl⟩)
        | (go_at_call 26; refine ci.mono ?_; rintro e w1 ⟨rfl, R1, B1⟩; clear q1; have d1 := R1.c1; have f1 := R1.fr 1)
        | (go_at_call 36; refine (cl _ R1).mono ?_; rintro e w3 ⟨rfl, b3⟩; have R3 := R1.old b3; have B3 := But.step B1 b3; clear d1 f1 R1 B1; have d1 := R3.c1; have f1 := R3.fr 1)
        | (go_at_call 24; refine (stop_any g a c bs.length p t _ (R3.set1 p)).mono ?_; rintro e w2 ⟨rfl, R2, B2⟩))
      go_ret
      rw [HC.out]
      exact ⟨rfl, R2, But.trans (B3.set 1 _) B2⟩
    · rw [if_neg (by omega)] at hcnt
      have HC := Lib.hid hcnt
      have e1 : decide ((bs.length : Int) - (q : Int) < x) = false := by simpa using h1
      clear hcnt
      go_enter Try.func28, Try.ntmps28
      go_wp2_with (first
        | (go_at_call 16; refine cr.mono ?_; rintro e w' ⟨rfl, rfl⟩)
        | (go_at_call 26; refine ci.mono ?_; rintro e w1 ⟨rfl, R1, B1⟩; clear q1; have d1 := R1.c1; have f1 := R1.fr 1)
        | (go_at_call 36; refine (cl _ R1).mono ?_; rintro e w3 ⟨rfl, b3⟩))
      go_ret
      rw [HC.out]
      exact ⟨rfl, R1.old b3, But.step B1 b3⟩
theorem countR_stop (bs : List Int) (p : Nat) (hp : p ≤ bs.length) : countR bs p true = (0, p, true) := by
  unfold countR
  rw [intR_stop]
  rw [if_neg (by simp only; omega)]
theorem count_any (g : Nat) (a : Option Addr) (c : Nat) (bs : List Int) (p : Nat) (st : Bool) (hp : p ≤ bs.length) (hl : bs.length ≤ 1000000) (hB : Byt bs) (w : World) (hR : CdAt w g a c bs.length p st) (hr : Row w a c bs) :
    Calls Try.prog 28 #[.pointer (some ⟨g, 0, none⟩)] w fun e w' => e = .returned (.int .i64 (countR bs p st).1) ∧ CdAt w' g a c bs.length (countR bs p st).2.1 (countR bs p st).2.2 ∧ But g w w' := by
  cases st with
  | true =>
    rw [countR_stop bs p hp]
    exact (count_stop g a c bs.length p w hR).mono fun e w' ⟨he, hw⟩ => by subst hw; exact ⟨he, hR, But.refl _ _⟩
  | false => exact count_go g a c bs p hp hl hB w hR hr
end Go.Proofs.Ytbadkfocfgojlaa
