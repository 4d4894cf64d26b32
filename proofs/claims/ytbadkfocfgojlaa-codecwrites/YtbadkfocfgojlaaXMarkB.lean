/- The document's Reader: Read of a mark for which there are bytes enough. -/
import Derived.Test.YtbadkfocfgojlaaXMark
namespace Go.Proofs.Ytbadkfocfgojlaa
open Go.RowKit
set_option linter.unusedVariables false
set_option linter.unusedSimpArgs false

theorem toList_ne {S s : ByteArray} (h : ¬ S = s) : (S.toList == s.toList) = false := by
  rw [beq_eq_false_iff_ne]
  intro e
  rw [ByteArray.toList_eq, ByteArray.toList_eq] at e
  exact h (Go.WideShapes.bytes_inj e)
set_option maxRecDepth 20000 in
set_option maxHeartbeats 10000000 in
theorem rmark_long (g : Nat) (a : Option Addr) (c : Nat) (bs : List Int) (p : Nat) (o : OpD) (al : Option Addr) (cl : Nat) (hk : o.k = 0) (hs : o.s.size ≤ 1000000) (hl : bs.length ≤ 1000000) (hB : Byt bs) (w : World) (hR : RdAt w g a c bs.length p false) (hr : Row w a c bs)
    (hfit : p + o.s.size ≤ bs.length) :
    Calls Try.prog 15 #[.pointer (some ⟨g, 0, none⟩), opV o al cl] w fun e w' => e = .returned (.slice none 0 0) ∧ RdAt w' g a c bs.length (markR bs p false o.s).1 (markR bs p false o.s).2 ∧ But g w w' := by
  have hmark : markR bs p false o.s = if strOf ((bs.drop p).take o.s.size) = o.s then (p + o.s.size, false) else (p, true) := by
    have hb : Byt ((bs.drop p).take o.s.size) := fun x hx => hB x (List.mem_of_mem_drop (List.mem_of_mem_take hx))
    unfold markR
    by_cases h : (bs.drop p).take o.s.size = bytesOf o.s
    · rw [if_pos ((str_eq _ hb _).2 h), if_neg (by rintro (h1 | h1 | h1); cases h1; omega; exact h1 h)]
    · rw [if_neg (fun e => h ((str_eq _ hb _).1 e)), if_pos (.inr (.inr h))]
  have sg := sight_of w g a c bs.length p false o al cl hR
  have R1 := hR.below (bel1 w (opO o al cl)) hR.lt
  have B1 : But g w (w.alloc (opO o al cl)) := But.of (bel1 w (opO o al cl))
  have hr1 := hr.carry (bel1 w (opO o al cl))
  obtain ⟨ok, os, on, ob, ol⟩ := o
  simp only at hk sg hs hfit hmark
  subst hk
  unfold opV
  simp only
  go_enter Try.func15, Try.ntmps15
  go_upto_region 3 with (fail)
  generalize w.alloc (.cells #[.int .i64 0, .string os, .int .i64 on, .bool ob, .slice al ol.length cl] 37) = W at sg R1 B1 hr1 ⊢
  obtain ⟨a', c', hcut, hrc⟩ := cut_mid a c bs.length bs p os.size hfit W hr1
  obtain ⟨M, hM⟩ : ∃ M, M = (bs.drop p).take os.size := ⟨_, rfl⟩
  have hMl : M.length = os.size := by rw [hM]; simp; omega
  have hMB : Byt M := fun x hx => hB x (List.mem_of_mem_drop (List.mem_of_mem_take (by rw [← hM]; exact hx)))
  rw [← hM] at hrc hmark
  have hcv : ∀ x, Old W x → (convert 26 9 (.slice a' os.size c')).run Try.prog x = .ok (.string (strOf M)) x := fun x hx => by rw [← hMl]; exact conv_row x a' c' M (hrc.carry hx) hMB
  generalize strOf M = S at *
  have CV := Lib.hid (show ∀ x, Old W x → (x.cell? ⟨g, 0, none⟩ = some (.slice a bs.length c) ∧ x.cell? ⟨g, 1, none⟩ = some (.int .i64 p) ∧ x.cell? ⟨g, 2, none⟩ = some (.bool false) ∧ x.cell? ⟨w.heap.size, 0, none⟩ = some (.int .i64 0) ∧ x.cell? ⟨w.heap.size, 1, none⟩ = some (.string os)) ∧ (convert 26 9 (.slice a' os.size c')).run Try.prog x = .ok (.string S) x from fun x hx => ⟨sg x hx, hcv x hx⟩)
  clear sg hcv hM hMl hMB hrc hr hr1
  have hw1 : wrap64 ((bs.length : Int) - (p : Int)) = (bs.length : Int) - (p : Int) := by unfold wrap64; omega
  have hw2 : IntKind.i64.wrap ((bs.length : Int) - (p : Int)) = (bs.length : Int) - (p : Int) := by rw [IntKind.wrap_i64]; omega
  have hw3 : wrap64 ((p : Int) + (os.size : Int)) = (p : Int) + (os.size : Int) := by unfold wrap64; omega
  have hw4 : IntKind.i64.wrap ((p : Int) + (os.size : Int)) = (p : Int) + (os.size : Int) := by rw [IntKind.wrap_i64]; omega
  have hb2 : ¬ (bs.length : Int) - p < os.size := by omega
  have hd : decide ((bs.length : Int) - (p : Int) < (os.size : Int)) = false := by simpa using hb2
  by_cases hS : S = os
  · rw [if_pos hS] at hmark
    have HM := Lib.hid hmark
    clear hmark
    have hSS := Lib.hid hS
    subst hS
    (refine wp_region_text (Old W) 42 (by kernel_rfl) (by kernel_rfl) (Below.refl _ W).drew ?_; simp only [List.take_succ_cons, List.take_zero, List.drop_succ_cons, List.drop_zero])
    repeat (first | (apply Text.sees (hw := by kernel_rfl); (focus (intro x hx K hK; have hc := CV.out x hx; go_simp; exact hK)); simp only [Act.put, List.getElem_toArray, List.getElem_cons_succ, List.getElem_cons_zero, List.setIfInBounds_toArray, List.set_cons_zero, List.set_cons_succ]) | (apply Text.idle; (focus (intro x hx K hK; go_simp; exact hK)); simp only [Act.put, List.getElem_toArray, List.getElem_cons_succ, List.getElem_cons_zero, List.setIfInBounds_toArray, List.set_cons_zero, List.set_cons_succ]))
    intro x hx
    have Rx := R1.below hx R1.lt
    have c1 := Rx.c1
    have f1 := Rx.fr 1
    have Bx := But.trans B1 (But.of hx)
    have CX := Lib.hid (fun y (hy : Old x y) => (CV.out y (hx.old hy)).1)
    clear R1 B1 CV
    go_upto_region 6 with (fail)
    (refine wp_region_text (Old x) 11 (by kernel_rfl) (by kernel_rfl) (Below.refl _ x).drew ?_; simp only [List.take_succ_cons, List.take_zero, List.drop_succ_cons, List.drop_zero])
    repeat (first | (apply Text.sees (hw := by kernel_rfl); (focus (intro x hx K hK; have hc := CX.out x hx; go_simp; exact hK)); simp only [Act.put, List.getElem_toArray, List.getElem_cons_succ, List.getElem_cons_zero, List.setIfInBounds_toArray, List.set_cons_zero, List.set_cons_succ]) | (apply Text.idle; (focus (intro x hx K hK; go_simp; exact hK)); simp only [Act.put, List.getElem_toArray, List.getElem_cons_succ, List.getElem_cons_zero, List.setIfInBounds_toArray, List.set_cons_zero, List.set_cons_succ]))
    intro y hy
    have Ry := Rx.below hy Rx.lt
    have d1 := Ry.c1
    have e1 := Ry.fr 1
    have By := But.trans Bx (But.of hy)
    clear Rx Bx CX c1 f1
    go_wp2
    go_ret
    exact ⟨rfl, by rw [HM.out]; exact Ry.set1 _, By.set 1 _⟩
  · rw [if_neg hS] at hmark
    have HM := Lib.hid hmark
    clear hmark
    have hD := toList_ne hS
    (refine wp_region_text (Old W) 42 (by kernel_rfl) (by kernel_rfl) (Below.refl _ W).drew ?_; simp only [List.take_succ_cons, List.take_zero, List.drop_succ_cons, List.drop_zero])
    repeat (first | (apply Text.sees (hw := by kernel_rfl); (focus (intro x hx K hK; have hc := CV.out x hx; go_simp; exact hK)); simp only [Act.put, List.getElem_toArray, List.getElem_cons_succ, List.getElem_cons_zero, List.setIfInBounds_toArray, List.set_cons_zero, List.set_cons_succ]) | (apply Text.idle; (focus (intro x hx K hK; go_simp; exact hK)); simp only [Act.put, List.getElem_toArray, List.getElem_cons_succ, List.getElem_cons_zero, List.setIfInBounds_toArray, List.set_cons_zero, List.set_cons_succ]))
    intro x hx
    have Rx := R1.below hx R1.lt
    have c2 := Rx.c2
    have f2 := Rx.fr 2
    have Bx := But.trans B1 (But.of hx)
    clear R1 B1 CV hx
    go_wp2
    go_ret
    exact ⟨rfl, by rw [HM.out]; exact Rx.set2 true, Bx.set 2 _⟩
end Go.Proofs.Ytbadkfocfgojlaa
