/- The document's Reader: Read. -/
import Derived.Test.YtbadkfocfgojlaaXCnt
namespace Go.Proofs.Ytbadkfocfgojlaa
open Go.RowKit
set_option linter.unusedVariables false
set_option linter.unusedSimpArgs false

def boolR (bs : List Int) (p : Nat) (st : Bool) : Int × Nat × Bool :=
  if st = true ∨ bs.length ≤ p ∨ 1 < bs.getD p 0 then (0, p, true) else (bs.getD p 0, p + 1, false)
def opV (o : OpD) (al : Option Addr) (cl : Nat) : Value := .agg #[.int .i64 o.k, .string o.s, .int .i64 o.n, .bool o.b, .slice al o.l.length cl]
abbrev opO (o : OpD) (al : Option Addr) (cl : Nat) : Obj := .cells #[.int .i64 o.k, .string o.s, .int .i64 o.n, .bool o.b, .slice al o.l.length cl] 37
/-- What a reading needs to know of the world, and of all that hold what stands in it. -/
def Sight (W : World) (g B : Nat) (a : Option Addr) (c n : Nat) (p : Int) (st : Bool) (k : Int) (s : ByteArray) : Prop :=
  ∀ x, Old W x → x.cell? ⟨g, 0, none⟩ = some (.slice a n c) ∧ x.cell? ⟨g, 1, none⟩ = some (.int .i64 p) ∧ x.cell? ⟨g, 2, none⟩ = some (.bool st) ∧ x.cell? ⟨B, 0, none⟩ = some (.int .i64 k) ∧ x.cell? ⟨B, 1, none⟩ = some (.string s)
theorem sight_of (w : World) (g : Nat) (a : Option Addr) (c n : Nat) (p : Int) (st : Bool) (o : OpD) (al : Option Addr) (cl : Nat) (hR : RdAt w g a c n p st) : Sight (w.alloc (opO o al cl)) g w.heap.size a c n p st o.k o.s := fun x hx => by
  have h1 := (hR.below (bel1 w (opO o al cl)) hR.lt).below hx (by have := hR.lt; simp; omega)
  have h2 : x.heap[w.heap.size]? = some (opO o al cl) := (hx.block w.heap.size (by simp)).trans (heap_alloc_new w _)
  exact ⟨h1.c0, h1.c1, h1.c2, (cell_of_row x _ 0 _ _ _ h2).trans rfl, (cell_of_row x _ 1 _ _ _ h2).trans rfl⟩
theorem own_one (w : World) (B : Nat) (z : Int) (hB : B ≤ w.heap.size) : OwnK .i64 2 (w.alloc (.cells #[.int .i64 z] 2)) B (.slice (some ⟨w.heap.size, 0, none⟩) 1 1) [z] :=
  World.ownsRow_lit w #[.int .i64 z] 1 hB (by unfold maxLen; omega) rfl
theorem own_one' (w : World) (B G : Nat) (z : Int) (hB : B ≤ G) (hG : w.heap.size = G) : OwnK .i64 2 (w.alloc (.cells #[.int .i64 z] 2)) B (.slice (some ⟨G, 0, none⟩) 1 1) [z] := by
  subst hG; exact own_one w B z hB
set_option maxRecDepth 20000 in
set_option maxHeartbeats 10000000 in
theorem rbool_bad (g : Nat) (a : Option Addr) (c : Nat) (bs : List Int) (p : Nat) (st : Bool) (o : OpD) (al : Option Addr) (cl : Nat) (hk : o.k = 2) (hp : p ≤ bs.length) (hl : bs.length ≤ 1000000) (hB : Byt bs) (w : World) (hR : RdAt w g a c bs.length p st) (hr : Row w a c bs) (hbad : boolR bs p st = (0, p, true)) :
    Calls Try.prog 15 #[.pointer (some ⟨g, 0, none⟩), opV o al cl] w fun e w' => ∃ v, e = .returned v ∧ OwnK .i64 2 w' w.heap.size v [(boolR bs p st).1] ∧ RdAt w' g a c bs.length (boolR bs p st).2.1 (boolR bs p st).2.2 ∧ But g w w' := by
  have sg := sight_of w g a c bs.length p st o al cl hR
  have R1 := hR.below (bel1 w (opO o al cl)) hR.lt
  have B1 : But g w (w.alloc (opO o al cl)) := But.of (bel1 w (opO o al cl))
  have hr1 := hr.carry (bel1 w (opO o al cl))
  have hz : w.heap.size ≤ (w.alloc (opO o al cl)).heap.size := by simp
  obtain ⟨ok, os, on, ob, ol⟩ := o
  simp only at hk sg
  subst hk
  unfold opV
  simp only
  go_enter Try.func15, Try.ntmps15
  go_upto_region 10 with (fail)
  generalize w.alloc (.cells #[.int .i64 2, .string os, .int .i64 on, .bool ob, .slice al ol.length cl] 37) = W at sg R1 B1 hr1 hz ⊢
  have SG := Lib.hid sg
  cases st with
  | true =>
    have HB := Lib.hid (show boolR bs p true = (0, p, true) from rfl)
    (refine wp_region_text (Old W) 28 (by kernel_rfl) (by kernel_rfl) (Below.refl _ W).drew ?_; simp only [List.take_succ_cons, List.take_zero, List.drop_succ_cons, List.drop_zero])
    repeat (first | (apply Text.sees (hw := by kernel_rfl); (focus (intro x hx K hK; have hc := SG.out x hx; go_simp; exact hK)); simp only [Act.put, List.getElem_toArray, List.getElem_cons_succ, List.getElem_cons_zero, List.setIfInBounds_toArray, List.set_cons_zero, List.set_cons_succ]) | (apply Text.idle; (focus (intro x hx K hK; go_simp; exact hK)); simp only [Act.put, List.getElem_toArray, List.getElem_cons_succ, List.getElem_cons_zero, List.setIfInBounds_toArray, List.set_cons_zero, List.set_cons_succ]))
    intro x hx
    have Rx := R1.below hx R1.lt
    have c2 := Rx.c2
    have f2 := Rx.fr 2
    have Bx := But.trans B1 (But.of hx)
    have hsx := Bx.size
    have hgx := Rx.lt
    clear R1 B1 hr1 sg hx
    go_wp2
    go_ret
    refine ⟨_, rfl, ?_, ?_, ?_⟩
    · rw [HB.out]; exact own_one' _ _ _ 0 hsx (by simp)
    · rw [HB.out]; exact (Rx.set2 true).below (bel1 _ _) (by simpa using hgx)
    · exact But.trans (Bx.set 2 _) (But.of (bel1 _ _))
  | false =>
    by_cases hpl : bs.length ≤ p
    · have HB := Lib.hid (show boolR bs p false = (0, p, true) by unfold boolR; rw [if_pos (.inr (.inl hpl))])
      have hd : decide ((bs.length : Int) ≤ (p : Int)) = true := by simpa using hpl
      (refine wp_region_text (Old W) 28 (by kernel_rfl) (by kernel_rfl) (Below.refl _ W).drew ?_; simp only [List.take_succ_cons, List.take_zero, List.drop_succ_cons, List.drop_zero])
      repeat (first | (apply Text.sees (hw := by kernel_rfl); (focus (intro x hx K hK; have hc := SG.out x hx; go_simp; exact hK)); simp only [Act.put, List.getElem_toArray, List.getElem_cons_succ, List.getElem_cons_zero, List.setIfInBounds_toArray, List.set_cons_zero, List.set_cons_succ]) | (apply Text.idle; (focus (intro x hx K hK; go_simp; exact hK)); simp only [Act.put, List.getElem_toArray, List.getElem_cons_succ, List.getElem_cons_zero, List.setIfInBounds_toArray, List.set_cons_zero, List.set_cons_succ]))
      intro x hx
      have Rx := R1.below hx R1.lt
      have c2 := Rx.c2
      have f2 := Rx.fr 2
      have Bx := But.trans B1 (But.of hx)
      have hsx := Bx.size
      have hgx := Rx.lt
      clear R1 B1 hr1 sg hx
      go_wp2
      go_ret
      refine ⟨_, rfl, ?_, ?_, ?_⟩
      · rw [HB.out]; exact own_one' _ _ _ 0 hsx (by simp)
      · rw [HB.out]; exact (Rx.set2 true).below (bel1 _ _) (by simpa using hgx)
      · exact But.trans (Bx.set 2 _) (But.of (bel1 _ _))
    · obtain ⟨b1, o1, rfl, hB1, hc1⟩ := hr1.2 p (by omega)
      have hplt : p < bs.length := by omega
      have hpi : (p : Int) < (bs.length : Int) := by omega
      have hyb := hB.at p
      obtain ⟨y, hy⟩ : ∃ y, y = bs.getD p 0 := ⟨_, rfl⟩
      rw [← hy] at hc1 hyb
      have hd : decide ((bs.length : Int) ≤ (p : Int)) = false := by simpa using hpl
      have CY := Lib.hid (show ∀ x, Old W x → (x.cell? ⟨g, 0, none⟩ = some (.slice (some ⟨b1, o1, none⟩) bs.length c) ∧ x.cell? ⟨g, 1, none⟩ = some (.int .i64 p) ∧ x.cell? ⟨g, 2, none⟩ = some (.bool false)) ∧ x.cell? ⟨b1, o1 + p, none⟩ = some (.int .u8 y) from
        fun x hx => ⟨⟨(SG.out x hx).1, (SG.out x hx).2.1, (SG.out x hx).2.2.1⟩, (hx.cell (p := ⟨b1, o1 + p, none⟩) hB1).trans hc1⟩)
      by_cases hy1 : 1 < y
      · have HB := Lib.hid (show boolR bs p false = (0, p, true) by unfold boolR; rw [if_pos (.inr (.inr (by rw [← hy]; exact hy1)))])
        have hd1 : decide (1 < y) = true := by simpa using hy1
        clear hy
        (refine wp_region_text (Old W) 28 (by kernel_rfl) (by kernel_rfl) (Below.refl _ W).drew ?_; simp only [List.take_succ_cons, List.take_zero, List.drop_succ_cons, List.drop_zero])
        repeat (first | (apply Text.sees (hw := by kernel_rfl); (focus (intro x hx K hK; have hc := CY.out x hx; go_simp; exact hK)); simp only [Act.put, List.getElem_toArray, List.getElem_cons_succ, List.getElem_cons_zero, List.setIfInBounds_toArray, List.set_cons_zero, List.set_cons_succ]) | (apply Text.idle; (focus (intro x hx K hK; go_simp; exact hK)); simp only [Act.put, List.getElem_toArray, List.getElem_cons_succ, List.getElem_cons_zero, List.setIfInBounds_toArray, List.set_cons_zero, List.set_cons_succ]))
        intro x hx
        have Rx := R1.below hx R1.lt
        have c2 := Rx.c2
        have f2 := Rx.fr 2
        have Bx := But.trans B1 (But.of hx)
        have hsx := Bx.size
        have hgx := Rx.lt
        clear R1 B1 hr1 sg hx
        go_wp2
        go_ret
        refine ⟨_, rfl, ?_, ?_, ?_⟩
        · rw [HB.out]; exact own_one' _ _ _ 0 hsx (by simp)
        · rw [HB.out]; exact (Rx.set2 true).below (bel1 _ _) (by simpa using hgx)
        · exact But.trans (Bx.set 2 _) (But.of (bel1 _ _))
      · exfalso; unfold boolR at hbad; rw [if_neg (by rw [← hy]; simp; omega)] at hbad; simp at hbad
end Go.Proofs.Ytbadkfocfgojlaa
