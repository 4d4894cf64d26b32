/- Package codec's Reader: Bool, Mark. -/
import Derived.Test.YtjfjekncmejfpaaYEach
import Derived.Test.YtjfjekncmejfpaaXReadC
namespace Go.Proofs.Ytjfjekncmejfpaa
open Go.RowKit
set_option maxRecDepth 20000
set_option linter.unusedVariables false
set_option linter.unusedSimpArgs false

theorem bool_nil (w : World) :
    Calls Try.prog 71 #[.pointer none] w fun e w' => e = .returned (.bool false) ∧ w = w' := by
  have cr := right_nil w
  go_enter Try.func71, Try.ntmps71
  go_wp2_with (refine cr.mono ?_; rintro e w' ⟨rfl, rfl⟩)
  go_ret
  exact ⟨rfl, rfl⟩
theorem bool_stop (g : Nat) (a : Option Addr) (c n : Nat) (p : Int) (w : World) (hR : CdAt w g a c n p true) :
    Calls Try.prog 71 #[.pointer (some ⟨g, 0, none⟩)] w fun e w' => e = .returned (.bool false) ∧ w = w' := by
  have cr := right_any g a c n p true w hR
  rw [Bool.not_true] at cr
  go_enter Try.func71, Try.ntmps71
  go_wp2_with (refine cr.mono ?_; rintro e w' ⟨rfl, rfl⟩)
  go_ret
  exact ⟨rfl, rfl⟩
theorem bool_end (g : Nat) (a : Option Addr) (c n : Nat) (hn : n ≤ 1000000) (w : World) (hR : CdAt w g a c n n false) :
    Calls Try.prog 71 #[.pointer (some ⟨g, 0, none⟩)] w fun e w' => e = .returned (.bool false) ∧ CdAt w' g a c n n true ∧ But g w w' := by
  have cr := right_any g a c n n false w hR
  rw [Bool.not_false] at cr
  have cl : ∀ x, Old w x → Calls Try.prog 37 #[.pointer (some ⟨g, 0, none⟩)] x fun e y => e = .returned (.int .i64 0) ∧ Below x.heap.size x y := fun x hx => (left_any g a c n n false (Nat.le_refl _) hn x (hR.old hx)).mono fun e y ⟨he, hy⟩ => ⟨by rw [he, Int.sub_self], hy⟩
  have CE := Lib.hid (show ∀ x, Old w x → (x.cell? ⟨g, 0, none⟩ = some (.slice a n c) ∧ x.cell? ⟨g, 1, none⟩ = some (.int .i64 n)) from fun x hx => ⟨(hR.old hx).c0, (hR.old hx).c1⟩)
  go_enter Try.func71, Try.ntmps71
  go_wp2_with (go_at_call 25; refine cr.mono ?_; rintro e w' ⟨rfl, rfl⟩)
  (refine wp_region_text (Old w) 15 (by kernel_rfl) (by kernel_rfl) (Below.refl _ w).drew ?_; simp only [List.take_succ_cons, List.take_zero, List.drop_succ_cons, List.drop_zero])
  repeat (first | (apply Text.sees (hw := by kernel_rfl); (focus (intro x hx K hK; have hc := CE.out x hx; go_simp; exact hK)); simp only [Act.put, List.getElem_toArray, List.getElem_cons_succ, List.getElem_cons_zero, List.setIfInBounds_toArray, List.set_cons_zero, List.set_cons_succ]) | (apply Text.idle; (focus (intro x hx K hK; go_simp; exact hK)); simp only [Act.put, List.getElem_toArray, List.getElem_cons_succ, List.getElem_cons_zero, List.setIfInBounds_toArray, List.set_cons_zero, List.set_cons_succ]))
  (refine Text.call (Old.call fun x hx => cl x hx) (by kernel_rfl) (fun _ => by kernel_rfl) ?_; simp only [Act.put, List.getElem_toArray, List.getElem_cons_succ, List.getElem_cons_zero, List.setIfInBounds_toArray, List.set_cons_zero, List.set_cons_succ])
  repeat (first | (apply Text.sees (hw := by kernel_rfl); (focus (intro x hx K hK; have hc := CE.out x hx; go_simp; exact hK)); simp only [Act.put, List.getElem_toArray, List.getElem_cons_succ, List.getElem_cons_zero, List.setIfInBounds_toArray, List.set_cons_zero, List.set_cons_succ]) | (apply Text.idle; (focus (intro x hx K hK; go_simp; exact hK)); simp only [Act.put, List.getElem_toArray, List.getElem_cons_succ, List.getElem_cons_zero, List.setIfInBounds_toArray, List.set_cons_zero, List.set_cons_succ]))
  intro x hx
  go_wp2_with fail
  refine (stop_any g a c n n false x (hR.old hx)).mono ?_
  rintro e w2 ⟨rfl, R2, B2⟩
  go_wp2
  go_ret
  exact ⟨rfl, R2, But.trans (But.of hx) B2⟩
theorem bool_bad (g : Nat) (a : Option Addr) (c : Nat) (bs : List Int) (p : Nat) (hp : p < bs.length) (hl : bs.length ≤ 1000000) (hB : Byt bs) (w : World) (hR : CdAt w g a c bs.length p false) (hr : Row w a c bs) (hy1 : 1 < bs.getD p 0) :
    Calls Try.prog 71 #[.pointer (some ⟨g, 0, none⟩)] w fun e w' => e = .returned (.bool false) ∧ CdAt w' g a c bs.length p true ∧ But g w w' := by
  have cr := right_any g a c bs.length p false w hR
  rw [Bool.not_false] at cr
  have cl : ∀ x, Old w x → Calls Try.prog 37 #[.pointer (some ⟨g, 0, none⟩)] x fun e y => e = .returned (.int .i64 ((bs.length : Int) - p)) ∧ Below x.heap.size x y := fun x hx => left_any g a c bs.length p false (by omega) hl x (hR.old hx)
  obtain ⟨b1, o1, rfl, hB1, hc1⟩ := hr.2 p hp
  have hyb := hB.at p
  generalize bs.getD p 0 = y at *
  have CE := Lib.hid (show ∀ x, Old w x → (x.cell? ⟨g, 0, none⟩ = some (.slice (some ⟨b1, o1, none⟩) bs.length c) ∧ x.cell? ⟨g, 1, none⟩ = some (.int .i64 p)) ∧ x.cell? ⟨b1, o1 + p, none⟩ = some (.int .u8 y) from fun x hx => ⟨⟨(hR.old hx).c0, (hR.old hx).c1⟩, (hx.cell (p := ⟨b1, o1 + p, none⟩) hB1).trans hc1⟩)
  have hne : ((bs.length : Int) - p == 0) = false := by simp; omega
  have hpl : ¬ bs.length ≤ p := by omega
  have hd1 : decide (1 < y) = true := by simpa using hy1
  have HR := Lib.hid hR
  clear hR hr hc1
  go_enter Try.func71, Try.ntmps71
  go_wp2_with (go_at_call 25; refine cr.mono ?_; rintro e w' ⟨rfl, rfl⟩)
  (refine wp_region_text (Old w) 15 (by kernel_rfl) (by kernel_rfl) (Below.refl _ w).drew ?_; simp only [List.take_succ_cons, List.take_zero, List.drop_succ_cons, List.drop_zero])
  repeat (first | (apply Text.sees (hw := by kernel_rfl); (focus (intro x hx K hK; have hc := CE.out x hx; go_simp; exact hK)); simp only [Act.put, List.getElem_toArray, List.getElem_cons_succ, List.getElem_cons_zero, List.setIfInBounds_toArray, List.set_cons_zero, List.set_cons_succ]) | (apply Text.idle; (focus (intro x hx K hK; go_simp; exact hK)); simp only [Act.put, List.getElem_toArray, List.getElem_cons_succ, List.getElem_cons_zero, List.setIfInBounds_toArray, List.set_cons_zero, List.set_cons_succ]))
  (refine Text.call (Old.call fun x hx => cl x hx) (by kernel_rfl) (fun _ => by kernel_rfl) ?_; simp only [Act.put, List.getElem_toArray, List.getElem_cons_succ, List.getElem_cons_zero, List.setIfInBounds_toArray, List.set_cons_zero, List.set_cons_succ])
  repeat (first | (apply Text.sees (hw := by kernel_rfl); (focus (intro x hx K hK; have hc := CE.out x hx; go_simp; exact hK)); simp only [Act.put, List.getElem_toArray, List.getElem_cons_succ, List.getElem_cons_zero, List.setIfInBounds_toArray, List.set_cons_zero, List.set_cons_succ]) | (apply Text.idle; (focus (intro x hx K hK; go_simp; exact hK)); simp only [Act.put, List.getElem_toArray, List.getElem_cons_succ, List.getElem_cons_zero, List.setIfInBounds_toArray, List.set_cons_zero, List.set_cons_succ]))
  intro x hx
  go_wp2_with fail
  refine (stop_any g _ c bs.length p false x (HR.out.old hx)).mono ?_
  rintro e w2 ⟨rfl, R2, B2⟩
  go_wp2
  go_ret
  exact ⟨rfl, R2, But.trans (But.of hx) B2⟩
theorem bool_good (g : Nat) (a : Option Addr) (c : Nat) (bs : List Int) (p : Nat) (hp : p < bs.length) (hl : bs.length ≤ 1000000) (hB : Byt bs) (w : World) (hR : CdAt w g a c bs.length p false) (hr : Row w a c bs) (z : Bool) (hz : bs.getD p 0 = if z then 1 else 0) :
    Calls Try.prog 71 #[.pointer (some ⟨g, 0, none⟩)] w fun e w' => e = .returned (.bool z) ∧ CdAt w' g a c bs.length (p + 1 : Nat) false ∧ But g w w' := by
  have cr := right_any g a c bs.length p false w hR
  rw [Bool.not_false] at cr
  have cl : ∀ x, Old w x → Calls Try.prog 37 #[.pointer (some ⟨g, 0, none⟩)] x fun e y => e = .returned (.int .i64 ((bs.length : Int) - p)) ∧ Below x.heap.size x y := fun x hx => left_any g a c bs.length p false (by omega) hl x (hR.old hx)
  obtain ⟨b1, o1, rfl, hB1, hc1⟩ := hr.2 p hp
  rw [hz] at hc1
  obtain ⟨y, hy⟩ : ∃ y : Int, y = if z then 1 else 0 := ⟨_, rfl⟩
  rw [← hy] at hc1
  have hyy : ¬ 1 < y := by rw [hy]; split <;> decide
  have hyd : (y == 1) = z := by rw [hy]; cases z <;> rfl
  have CE := Lib.hid (show ∀ x, Old w x → (x.cell? ⟨g, 0, none⟩ = some (.slice (some ⟨b1, o1, none⟩) bs.length c) ∧ x.cell? ⟨g, 1, none⟩ = some (.int .i64 p)) ∧ x.cell? ⟨b1, o1 + p, none⟩ = some (.int .u8 y) from fun x hx => ⟨⟨(hR.old hx).c0, (hR.old hx).c1⟩, (hx.cell (p := ⟨b1, o1 + p, none⟩) hB1).trans hc1⟩)
  have hne : ((bs.length : Int) - p == 0) = false := by simp; omega
  have hpi : (p : Int) < (bs.length : Int) := by omega
  have hpl : ¬ bs.length ≤ p := by omega
  have hd1 : decide (1 < y) = false := by simpa using hyy
  have HR := Lib.hid hR
  have HC := Lib.hid hc1
  clear hR hr hc1 hy hz
  go_enter Try.func71, Try.ntmps71
  go_wp2_with (go_at_call 25; refine cr.mono ?_; rintro e w' ⟨rfl, rfl⟩)
  (refine wp_region_text (Old w) 15 (by kernel_rfl) (by kernel_rfl) (Below.refl _ w).drew ?_; simp only [List.take_succ_cons, List.take_zero, List.drop_succ_cons, List.drop_zero])
  repeat (first | (apply Text.sees (hw := by kernel_rfl); (focus (intro x hx K hK; have hc := CE.out x hx; go_simp; exact hK)); simp only [Act.put, List.getElem_toArray, List.getElem_cons_succ, List.getElem_cons_zero, List.setIfInBounds_toArray, List.set_cons_zero, List.set_cons_succ]) | (apply Text.idle; (focus (intro x hx K hK; go_simp; exact hK)); simp only [Act.put, List.getElem_toArray, List.getElem_cons_succ, List.getElem_cons_zero, List.setIfInBounds_toArray, List.set_cons_zero, List.set_cons_succ]))
  (refine Text.call (Old.call fun x hx => cl x hx) (by kernel_rfl) (fun _ => by kernel_rfl) ?_; simp only [Act.put, List.getElem_toArray, List.getElem_cons_succ, List.getElem_cons_zero, List.setIfInBounds_toArray, List.set_cons_zero, List.set_cons_succ])
  repeat (first | (apply Text.sees (hw := by kernel_rfl); (focus (intro x hx K hK; have hc := CE.out x hx; go_simp; exact hK)); simp only [Act.put, List.getElem_toArray, List.getElem_cons_succ, List.getElem_cons_zero, List.setIfInBounds_toArray, List.set_cons_zero, List.set_cons_succ]) | (apply Text.idle; (focus (intro x hx K hK; go_simp; exact hK)); simp only [Act.put, List.getElem_toArray, List.getElem_cons_succ, List.getElem_cons_zero, List.setIfInBounds_toArray, List.set_cons_zero, List.set_cons_succ]))
  intro x hx
  have Rx := HR.out.old hx
  have c1 := Rx.c1
  have f1 := Rx.fr 1
  have Bx := (But.of (g := g) hx).set 1 (.int .i64 ((p : Int) + 1))
  have RV := Rx.set1 ((p : Int) + 1)
  have hcx := (hx.cell (p := ⟨b1, o1 + p, none⟩) hB1).trans HC.out
  have hneb := crow_ne Rx hcx
  have hcV : (x.setCell ⟨g, 1, none⟩ (.int .i64 ((p : Int) + 1))).cell? ⟨b1, o1 + p, none⟩ = some (.int .u8 y) := (World.cell?_of_block (heap_setCell_other x ⟨g, 1, none⟩ b1 _ hneb)).trans hcx
  have hB1V : b1 < (x.setCell ⟨g, 1, none⟩ (.int .i64 ((p : Int) + 1))).heap.size := by simpa using Nat.lt_of_lt_of_le hB1 hx.size
  clear hcx hx hneb CE cr cl HC HR
  have hw1 : wrap64 (p : Int) = p := by unfold wrap64; omega
  have hw2 : IntKind.i64.wrap (p : Int) = p := by rw [IntKind.wrap_i64]; omega
  go_upto_region 7 with (fail)
  generalize x.setCell ⟨g, 1, none⟩ (.int .i64 ((p : Int) + 1)) = V at Bx RV hcV hB1V ⊢
  have CZ := Lib.hid (show ∀ x, Old V x → (x.cell? ⟨g, 0, none⟩ = some (.slice (some ⟨b1, o1, none⟩) bs.length c) ∧ x.cell? ⟨g, 1, none⟩ = some (.int .i64 ((p : Int) + 1))) ∧ x.cell? ⟨b1, o1 + p, none⟩ = some (.int .u8 y) from
    fun x hx => ⟨⟨(RV.old hx).c0, (RV.old hx).c1⟩, (hx.cell (p := ⟨b1, o1 + p, none⟩) hB1V).trans hcV⟩)
  clear c1 f1 Rx hcV
  (refine wp_region_text (Old V) 12 (by kernel_rfl) (by kernel_rfl) (Below.refl _ V).drew ?_; simp only [List.take_succ_cons, List.take_zero, List.drop_succ_cons, List.drop_zero])
  repeat (first | (apply Text.sees (hw := by kernel_rfl); (focus (intro x hx K hK; have hc := CZ.out x hx; go_simp; exact hK)); simp only [Act.put, List.getElem_toArray, List.getElem_cons_succ, List.getElem_cons_zero, List.setIfInBounds_toArray, List.set_cons_zero, List.set_cons_succ]) | (apply Text.idle; (focus (intro x hx K hK; go_simp; exact hK)); simp only [Act.put, List.getElem_toArray, List.getElem_cons_succ, List.getElem_cons_zero, List.setIfInBounds_toArray, List.set_cons_zero, List.set_cons_succ]))
  intro v hv
  go_wp2
  go_ret
  exact ⟨rfl, RV.old hv, But.step Bx hv⟩
theorem bool_any (g : Nat) (a : Option Addr) (c : Nat) (bs : List Int) (p : Nat) (st : Bool) (hp : p ≤ bs.length) (hl : bs.length ≤ 1000000) (hB : Byt bs) (w : World) (hR : CdAt w g a c bs.length p st) (hr : Row w a c bs) :
    Calls Try.prog 71 #[.pointer (some ⟨g, 0, none⟩)] w fun e w' => e = .returned (.bool ((boolR bs p st).1 == 1)) ∧ CdAt w' g a c bs.length (boolR bs p st).2.1 (boolR bs p st).2.2 ∧ But g w w' := by
  cases st with
  | true =>
    rw [show boolR bs p true = (0, p, true) from if_pos (.inl rfl)]
    exact (bool_stop g a c bs.length p w hR).mono fun e w' ⟨he, hw⟩ => by subst hw; exact ⟨he, hR, But.refl _ _⟩
  | false =>
    by_cases h : bs.length ≤ p
    · rw [show boolR bs p false = (0, p, true) from if_pos (.inr (.inl h))]
      obtain rfl : p = bs.length := by omega
      exact bool_end g a c bs.length hl w hR
    · by_cases h1 : 1 < bs.getD p 0
      · rw [show boolR bs p false = (0, p, true) from if_pos (.inr (.inr h1))]
        exact bool_bad g a c bs p (by omega) hl hB w hR hr h1
      · rw [show boolR bs p false = (bs.getD p 0, p + 1, false) from if_neg (by rintro (h2 | h2 | h2); cases h2; exact h h2; exact h1 h2)]
        have hb := hB.at p
        have hz : bs.getD p 0 = if (bs.getD p 0 == 1) then 1 else 0 := by
          split
          · rename_i h2; simpa using h2
          · rename_i h2
            have : ¬ bs.getD p 0 = 1 := by simpa using h2
            omega
        exact bool_good g a c bs p (by omega) hl hB w hR hr _ hz

theorem mark_nil (s : ByteArray) (w : World) :
    Calls Try.prog 23 #[.pointer none, .string s] w fun e w' => e = .returned (.tuple #[]) ∧ w = w' := by
  have cr := right_nil w
  go_enter Try.func23, Try.ntmps23
  go_wp2_with (refine cr.mono ?_; rintro e w' ⟨rfl, rfl⟩)
  refine bodyPost_ret (v := .tuple #[]) (by simp [results, Try.results23, go_sem]) rfl ?_
  exact ⟨rfl, rfl⟩
theorem mark_stop (g : Nat) (a : Option Addr) (c n : Nat) (p : Int) (s : ByteArray) (w : World) (hR : CdAt w g a c n p true) :
    Calls Try.prog 23 #[.pointer (some ⟨g, 0, none⟩), .string s] w fun e w' => e = .returned (.tuple #[]) ∧ w = w' := by
  have cr := right_any g a c n p true w hR
  rw [Bool.not_true] at cr
  go_enter Try.func23, Try.ntmps23
  go_wp2_with (refine cr.mono ?_; rintro e w' ⟨rfl, rfl⟩)
  refine bodyPost_ret (v := .tuple #[]) (by simp [results, Try.results23, go_sem]) rfl ?_
  exact ⟨rfl, rfl⟩
theorem mark_short (g : Nat) (a : Option Addr) (c n p : Nat) (s : ByteArray) (hs : s.size ≤ 1000000) (hp : p ≤ n) (hn : n ≤ 1000000) (w : World) (hR : CdAt w g a c n p false) (hlt : (n : Int) - p < s.size) :
    Calls Try.prog 23 #[.pointer (some ⟨g, 0, none⟩), .string s] w fun e w' => e = .returned (.tuple #[]) ∧ CdAt w' g a c n p true ∧ But g w w' := by
  have cr := right_any g a c n p false w hR
  rw [Bool.not_false] at cr
  have cl : ∀ x, Old w x → Calls Try.prog 37 #[.pointer (some ⟨g, 0, none⟩)] x fun e y => e = .returned (.int .i64 ((n : Int) - p)) ∧ Below x.heap.size x y := fun x hx => left_any g a c n p false hp hn x (hR.old hx)
  have CE := Lib.hid (show ∀ x, Old w x → (x.cell? ⟨g, 0, none⟩ = some (.slice a n c) ∧ x.cell? ⟨g, 1, none⟩ = some (.int .i64 p)) from fun x hx => ⟨(hR.old hx).c0, (hR.old hx).c1⟩)
  have hd : decide ((n : Int) - p < s.size) = true := by simpa using hlt
  go_enter Try.func23, Try.ntmps23
  go_wp2_with (go_at_call 25; refine cr.mono ?_; rintro e w' ⟨rfl, rfl⟩)
  (refine wp_region_text (Old w) 25 (by kernel_rfl) (by kernel_rfl) (Below.refl _ w).drew ?_; simp only [List.take_succ_cons, List.take_zero, List.drop_succ_cons, List.drop_zero])
  repeat (first | (apply Text.sees (hw := by kernel_rfl); (focus (intro x hx K hK; have hc := CE.out x hx; go_simp; exact hK)); simp only [Act.put, List.getElem_toArray, List.getElem_cons_succ, List.getElem_cons_zero, List.setIfInBounds_toArray, List.set_cons_zero, List.set_cons_succ]) | (apply Text.idle; (focus (intro x hx K hK; go_simp; exact hK)); simp only [Act.put, List.getElem_toArray, List.getElem_cons_succ, List.getElem_cons_zero, List.setIfInBounds_toArray, List.set_cons_zero, List.set_cons_succ]))
  (refine Text.call (Old.call fun x hx => cl x hx) (by kernel_rfl) (fun _ => by kernel_rfl) ?_; simp only [Act.put, List.getElem_toArray, List.getElem_cons_succ, List.getElem_cons_zero, List.setIfInBounds_toArray, List.set_cons_zero, List.set_cons_succ])
  repeat (first | (apply Text.sees (hw := by kernel_rfl); (focus (intro x hx K hK; have hc := CE.out x hx; go_simp; exact hK)); simp only [Act.put, List.getElem_toArray, List.getElem_cons_succ, List.getElem_cons_zero, List.setIfInBounds_toArray, List.set_cons_zero, List.set_cons_succ]) | (apply Text.idle; (focus (intro x hx K hK; go_simp; exact hK)); simp only [Act.put, List.getElem_toArray, List.getElem_cons_succ, List.getElem_cons_zero, List.setIfInBounds_toArray, List.set_cons_zero, List.set_cons_succ]))
  intro x hx
  go_wp2_with fail
  refine (stop_any g a c n p false x (hR.old hx)).mono ?_
  rintro e w2 ⟨rfl, R2, B2⟩
  go_wp2
  refine bodyPost_ret (v := .tuple #[]) (by simp [results, Try.results23, go_sem]) rfl ?_
  exact ⟨rfl, R2, But.trans (But.of hx) B2⟩
theorem mark_long (g : Nat) (a : Option Addr) (c : Nat) (bs : List Int) (p : Nat) (s : ByteArray) (hs : s.size ≤ 1000000) (hl : bs.length ≤ 1000000) (hB : Byt bs) (w : World) (hR : CdAt w g a c bs.length p false) (hr : Row w a c bs)
    (hfit : p + s.size ≤ bs.length) :
    Calls Try.prog 23 #[.pointer (some ⟨g, 0, none⟩), .string s] w fun e w' => e = .returned (.tuple #[]) ∧ CdAt w' g a c bs.length (markR bs p false s).1 (markR bs p false s).2 ∧ But g w w' := by
  have hmark : markR bs p false s = if strOf ((bs.drop p).take s.size) = s then (p + s.size, false) else (p, true) := by
    have hb : Byt ((bs.drop p).take s.size) := fun x hx => hB x (List.mem_of_mem_drop (List.mem_of_mem_take hx))
    unfold markR
    by_cases h : (bs.drop p).take s.size = bytesOf s
    · rw [if_pos ((str_eq _ hb _).2 h), if_neg (by rintro (h1 | h1 | h1); cases h1; omega; exact h1 h)]
    · rw [if_neg (fun e => h ((str_eq _ hb _).1 e)), if_pos (.inr (.inr h))]
  have cr := right_any g a c bs.length p false w hR
  rw [Bool.not_false] at cr
  have cl : ∀ x, Old w x → Calls Try.prog 37 #[.pointer (some ⟨g, 0, none⟩)] x fun e y => e = .returned (.int .i64 ((bs.length : Int) - p)) ∧ Below x.heap.size x y := fun x hx => left_any g a c bs.length p false (by omega) hl x (hR.old hx)
  obtain ⟨a', c', hcut, hrc⟩ := cut_mid a c bs.length bs p s.size hfit w hr
  obtain ⟨M, hM⟩ : ∃ M, M = (bs.drop p).take s.size := ⟨_, rfl⟩
  have hMl : M.length = s.size := by rw [hM]; simp; omega
  have hMB : Byt M := fun x hx => hB x (List.mem_of_mem_drop (List.mem_of_mem_take (by rw [← hM]; exact hx)))
  rw [← hM] at hrc hmark
  have hcv : ∀ x, Old w x → (convert 22 9 (.slice a' s.size c')).run Try.prog x = .ok (.string (strOf M)) x := fun x hx => by rw [← hMl]; exact conv_row x a' c' M (hrc.carry hx) hMB
  generalize strOf M = S at *
  have CV := Lib.hid (show ∀ x, Old w x → (x.cell? ⟨g, 0, none⟩ = some (.slice a bs.length c) ∧ x.cell? ⟨g, 1, none⟩ = some (.int .i64 p)) ∧ (convert 22 9 (.slice a' s.size c')).run Try.prog x = .ok (.string S) x from fun x hx => ⟨⟨(hR.old hx).c0, (hR.old hx).c1⟩, hcv x hx⟩)
  clear hcv hM hMl hMB hrc hr
  have hw1 : wrap64 ((bs.length : Int) - (p : Int)) = (bs.length : Int) - (p : Int) := by unfold wrap64; omega
  have hw2 : IntKind.i64.wrap ((bs.length : Int) - (p : Int)) = (bs.length : Int) - (p : Int) := by rw [IntKind.wrap_i64]; omega
  have hw3 : wrap64 ((p : Int) + (s.size : Int)) = (p : Int) + (s.size : Int) := by unfold wrap64; omega
  have hw4 : IntKind.i64.wrap ((p : Int) + (s.size : Int)) = (p : Int) + (s.size : Int) := by rw [IntKind.wrap_i64]; omega
  have hb2 : ¬ (bs.length : Int) - p < s.size := by omega
  have hd : decide ((bs.length : Int) - (p : Int) < (s.size : Int)) = false := by simpa using hb2
  have HR := Lib.hid hR
  clear hR
  by_cases hS : S = s
  · rw [if_pos hS] at hmark
    have HM := Lib.hid hmark
    clear hmark
    subst hS
    go_enter Try.func23, Try.ntmps23
    go_wp2_with (go_at_call 25; refine cr.mono ?_; rintro e w' ⟨rfl, rfl⟩)
    (refine wp_region_text (Old w) 25 (by kernel_rfl) (by kernel_rfl) (Below.refl _ w).drew ?_; simp only [List.take_succ_cons, List.take_zero, List.drop_succ_cons, List.drop_zero])
    repeat (first | (apply Text.sees (hw := by kernel_rfl); (focus (intro x hx K hK; have hc := CV.out x hx; go_simp; exact hK)); simp only [Act.put, List.getElem_toArray, List.getElem_cons_succ, List.getElem_cons_zero, List.setIfInBounds_toArray, List.set_cons_zero, List.set_cons_succ]) | (apply Text.idle; (focus (intro x hx K hK; go_simp; exact hK)); simp only [Act.put, List.getElem_toArray, List.getElem_cons_succ, List.getElem_cons_zero, List.setIfInBounds_toArray, List.set_cons_zero, List.set_cons_succ]))
    (refine Text.call (Old.call fun x hx => cl x hx) (by kernel_rfl) (fun _ => by kernel_rfl) ?_; simp only [Act.put, List.getElem_toArray, List.getElem_cons_succ, List.getElem_cons_zero, List.setIfInBounds_toArray, List.set_cons_zero, List.set_cons_succ])
    repeat (first | (apply Text.sees (hw := by kernel_rfl); (focus (intro x hx K hK; have hc := CV.out x hx; go_simp; exact hK)); simp only [Act.put, List.getElem_toArray, List.getElem_cons_succ, List.getElem_cons_zero, List.setIfInBounds_toArray, List.set_cons_zero, List.set_cons_succ]) | (apply Text.idle; (focus (intro x hx K hK; go_simp; exact hK)); simp only [Act.put, List.getElem_toArray, List.getElem_cons_succ, List.getElem_cons_zero, List.setIfInBounds_toArray, List.set_cons_zero, List.set_cons_succ]))
    intro x hx
    have Rx := HR.out.old hx
    have c1 := Rx.c1
    have f1 := Rx.fr 1
    clear CV cr cl
    go_wp2
    go_end0
    rw [HM.out]
    exact ⟨rfl, Rx.set1 _, (But.of hx).set 1 _⟩
  · rw [if_neg hS] at hmark
    have HM := Lib.hid hmark
    have hne := toList_ne hS
    clear hmark
    go_enter Try.func23, Try.ntmps23
    go_wp2_with (go_at_call 25; refine cr.mono ?_; rintro e w' ⟨rfl, rfl⟩)
    (refine wp_region_text (Old w) 25 (by kernel_rfl) (by kernel_rfl) (Below.refl _ w).drew ?_; simp only [List.take_succ_cons, List.take_zero, List.drop_succ_cons, List.drop_zero])
    repeat (first | (apply Text.sees (hw := by kernel_rfl); (focus (intro x hx K hK; have hc := CV.out x hx; go_simp; exact hK)); simp only [Act.put, List.getElem_toArray, List.getElem_cons_succ, List.getElem_cons_zero, List.setIfInBounds_toArray, List.set_cons_zero, List.set_cons_succ]) | (apply Text.idle; (focus (intro x hx K hK; go_simp; exact hK)); simp only [Act.put, List.getElem_toArray, List.getElem_cons_succ, List.getElem_cons_zero, List.setIfInBounds_toArray, List.set_cons_zero, List.set_cons_succ]))
    (refine Text.call (Old.call fun x hx => cl x hx) (by kernel_rfl) (fun _ => by kernel_rfl) ?_; simp only [Act.put, List.getElem_toArray, List.getElem_cons_succ, List.getElem_cons_zero, List.setIfInBounds_toArray, List.set_cons_zero, List.set_cons_succ])
    repeat (first | (apply Text.sees (hw := by kernel_rfl); (focus (intro x hx K hK; have hc := CV.out x hx; go_simp; exact hK)); simp only [Act.put, List.getElem_toArray, List.getElem_cons_succ, List.getElem_cons_zero, List.setIfInBounds_toArray, List.set_cons_zero, List.set_cons_succ]) | (apply Text.idle; (focus (intro x hx K hK; go_simp; exact hK)); simp only [Act.put, List.getElem_toArray, List.getElem_cons_succ, List.getElem_cons_zero, List.setIfInBounds_toArray, List.set_cons_zero, List.set_cons_succ]))
    intro x hx
    go_wp2_with fail
    refine (stop_any g a c bs.length p false x (HR.out.old hx)).mono ?_
    rintro e w2 ⟨rfl, R2, B2⟩
    go_wp2
    refine bodyPost_ret (v := .tuple #[]) (by simp [results, Try.results23, go_sem]) rfl ?_
    rw [HM.out]
    exact ⟨rfl, R2, But.trans (But.of hx) B2⟩
theorem mark_any (g : Nat) (a : Option Addr) (c : Nat) (bs : List Int) (p : Nat) (st : Bool) (s : ByteArray) (hs : s.size ≤ 1000000) (hp : p ≤ bs.length) (hl : bs.length ≤ 1000000) (hB : Byt bs) (w : World) (hR : CdAt w g a c bs.length p st) (hr : Row w a c bs) :
    Calls Try.prog 23 #[.pointer (some ⟨g, 0, none⟩), .string s] w fun e w' => e = .returned (.tuple #[]) ∧ CdAt w' g a c bs.length (markR bs p st s).1 (markR bs p st s).2 ∧ But g w w' := by
  cases st with
  | true =>
    rw [show markR bs p true s = (p, true) from if_pos (.inl rfl)]
    exact (mark_stop g a c bs.length p s w hR).mono fun e w' ⟨he, hw⟩ => by subst hw; exact ⟨he, hR, But.refl _ _⟩
  | false =>
    by_cases h : (bs.length : Int) - p < s.size
    · rw [show markR bs p false s = (p, true) from if_pos (.inr (.inl h))]
      exact mark_short g a c bs.length p s hs hp hl w hR h
    · exact mark_long g a c bs p s hs hl hB w hR hr (by omega)
end Go.Proofs.Ytjfjekncmejfpaa
