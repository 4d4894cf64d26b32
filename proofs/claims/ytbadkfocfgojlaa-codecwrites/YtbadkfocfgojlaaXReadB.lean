/- The document's Reader: Read of a bool that is there. -/
import Derived.Test.YtbadkfocfgojlaaXRead
namespace Go.Proofs.Ytbadkfocfgojlaa
open Go.RowKit
set_option linter.unusedVariables false
set_option linter.unusedSimpArgs false

set_option maxRecDepth 20000 in
set_option maxHeartbeats 10000000 in
theorem rbool_good (g : Nat) (a : Option Addr) (c : Nat) (bs : List Int) (p : Nat) (o : OpD) (al : Option Addr) (cl : Nat) (hk : o.k = 2) (hp : p ≤ bs.length) (hl : bs.length ≤ 1000000) (hB : Byt bs) (w : World) (hR : RdAt w g a c bs.length p false) (hr : Row w a c bs) (hplt : p < bs.length) (hyy : bs.getD p 0 ≤ 1) :
    Calls Try.prog 15 #[.pointer (some ⟨g, 0, none⟩), opV o al cl] w fun e w' => ∃ v, e = .returned v ∧ OwnK .i64 2 w' w.heap.size v [(boolR bs p false).1] ∧ RdAt w' g a c bs.length (boolR bs p false).2.1 (boolR bs p false).2.2 ∧ But g w w' := by
  have sg := sight_of w g a c bs.length p false o al cl hR
  have R1 := hR.below (bel1 w (opO o al cl)) hR.lt
  have B1 : But g w (w.alloc (opO o al cl)) := But.of (bel1 w (opO o al cl))
  have hr1 := hr.carry (bel1 w (opO o al cl))
  have hz : w.heap.size ≤ (w.alloc (opO o al cl)).heap.size := by simp
  obtain ⟨ok, os, on, ob, ol⟩ := o
  simp only at hk sg
  subst hk
  unfold opV
  simp only
  go_enter Try.func15, Try.ntmps15
  go_upto_region 10 with (fail)
  generalize w.alloc (.cells #[.int .i64 2, .string os, .int .i64 on, .bool ob, .slice al ol.length cl] 37) = W at sg R1 B1 hr1 hz ⊢
  have SG := Lib.hid sg
  obtain ⟨b1, o1, rfl, hB1, hc1⟩ := hr1.2 p (by omega)
  have hpi : (p : Int) < (bs.length : Int) := by omega
  have hpl : ¬ bs.length ≤ p := by omega
  have hyb := hB.at p
  obtain ⟨y, hy⟩ : ∃ y, y = bs.getD p 0 := ⟨_, rfl⟩
  rw [← hy] at hc1 hyb hyy
  have hd : decide ((bs.length : Int) ≤ (p : Int)) = false := by simp; omega
  have CY := Lib.hid (show ∀ x, Old W x → (x.cell? ⟨g, 0, none⟩ = some (.slice (some ⟨b1, o1, none⟩) bs.length c) ∧ x.cell? ⟨g, 1, none⟩ = some (.int .i64 p) ∧ x.cell? ⟨g, 2, none⟩ = some (.bool false)) ∧ x.cell? ⟨b1, o1 + p, none⟩ = some (.int .u8 y) from
    fun x hx => ⟨⟨(SG.out x hx).1, (SG.out x hx).2.1, (SG.out x hx).2.2.1⟩, (hx.cell (p := ⟨b1, o1 + p, none⟩) hB1).trans hc1⟩)
  have HB := Lib.hid (show boolR bs p false = (y, p + 1, false) by unfold boolR; rw [if_neg (by rw [← hy]; simp; omega), ← hy])
  have hy1 : ¬ 1 < y := by omega
  have hd1 : decide (1 < y) = false := by simpa using hy1
  clear hy
  (refine wp_region_text (Old W) 28 (by kernel_rfl) (by kernel_rfl) (Below.refl _ W).drew ?_; simp only [List.take_succ_cons, List.take_zero, List.drop_succ_cons, List.drop_zero])
  repeat (first | (apply Text.sees (hw := by kernel_rfl); (focus (intro x hx K hK; have hc := CY.out x hx; go_simp; exact hK)); simp only [Act.put, List.getElem_toArray, List.getElem_cons_succ, List.getElem_cons_zero, List.setIfInBounds_toArray, List.set_cons_zero, List.set_cons_succ]) | (apply Text.idle; (focus (intro x hx K hK; go_simp; exact hK)); simp only [Act.put, List.getElem_toArray, List.getElem_cons_succ, List.getElem_cons_zero, List.setIfInBounds_toArray, List.set_cons_zero, List.set_cons_succ]))
  intro x hx
  have Rx := R1.below hx R1.lt
  have c1 := Rx.c1
  have f1 := Rx.fr 1
  have Bx := (But.trans B1 (But.of hx)).set 1 (.int .i64 ((p : Int) + 1))
  have RV := Rx.set1 ((p : Int) + 1)
  have hcx := (hx.cell (p := ⟨b1, o1 + p, none⟩) hB1).trans hc1
  have hne := row_ne Rx hcx
  have hcV : (x.setCell ⟨g, 1, none⟩ (.int .i64 ((p : Int) + 1))).cell? ⟨b1, o1 + p, none⟩ = some (.int .u8 y) := (World.cell?_of_block (heap_setCell_other x ⟨g, 1, none⟩ b1 _ hne)).trans hcx
  have hB1V : b1 < (x.setCell ⟨g, 1, none⟩ (.int .i64 ((p : Int) + 1))).heap.size := by simpa using Nat.lt_of_lt_of_le hB1 hx.size
  clear R1 B1 hr1 sg SG CY hcx hx hne
  have hw1 : wrap64 (p : Int) = p := by unfold wrap64; omega
  have hw2 : IntKind.i64.wrap (p : Int) = p := by rw [IntKind.wrap_i64]; omega
  go_upto_region 14 with (fail)
  generalize x.setCell ⟨g, 1, none⟩ (.int .i64 ((p : Int) + 1)) = V at Bx RV hcV hB1V ⊢
  have hsV := Bx.size
  have hgV := RV.lt
  have CZ := Lib.hid (show ∀ x, Old V x → (x.cell? ⟨g, 0, none⟩ = some (.slice (some ⟨b1, o1, none⟩) bs.length c) ∧ x.cell? ⟨g, 1, none⟩ = some (.int .i64 ((p : Int) + 1))) ∧ x.cell? ⟨b1, o1 + p, none⟩ = some (.int .u8 y) from
    fun x hx => ⟨⟨(RV.below hx hgV).c0, (RV.below hx hgV).c1⟩, (hx.cell (p := ⟨b1, o1 + p, none⟩) hB1V).trans hcV⟩)
  clear c1 f1 Rx hcV
  (refine wp_region_text (Old V) 12 (by kernel_rfl) (by kernel_rfl) (Below.refl _ V).drew ?_; simp only [List.take_succ_cons, List.take_zero, List.drop_succ_cons, List.drop_zero])
  repeat (first | (apply Text.sees (hw := by kernel_rfl); (focus (intro x hx K hK; have hc := CZ.out x hx; go_simp; exact hK)); simp only [Act.put, List.getElem_toArray, List.getElem_cons_succ, List.getElem_cons_zero, List.setIfInBounds_toArray, List.set_cons_zero, List.set_cons_succ]) | (apply Text.idle; (focus (intro x hx K hK; go_simp; exact hK)); simp only [Act.put, List.getElem_toArray, List.getElem_cons_succ, List.getElem_cons_zero, List.setIfInBounds_toArray, List.set_cons_zero, List.set_cons_succ]))
  intro z hz2
  go_wp2
  go_ret
  refine ⟨_, rfl, ?_, ?_, ?_⟩
  · rw [HB.out]; exact own_one' _ _ _ y (Nat.le_trans hsV hz2.size) rfl
  · rw [HB.out]; exact (RV.below hz2 hgV).below (bel1 _ _) (Nat.lt_of_lt_of_le hgV hz2.size)
  · exact But.trans (But.trans Bx (But.of hz2)) (But.of (bel1 _ _))
end Go.Proofs.Ytbadkfocfgojlaa
