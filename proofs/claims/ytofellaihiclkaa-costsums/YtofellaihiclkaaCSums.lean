/- The walk of CostSums. -/
import Derived.Test.YtofellaihiclkaaCLaw
import Derived.Test.YtofellaihiclkaaDet
import Derived.ProofKit
import Derived.OpenShut
import Derived.IntWalk
import Derived.Deep.CutBlock
import Derived.Deep.DeepCutAuto
namespace Go.Proofs.Ytofellaihiclkaa
open Go.RowKit
set_option linter.unusedVariables false
set_option linter.unusedSimpArgs false

theorem CRow.but {w w' : World} {a : Option Addr} {l : List (Int × Int)} {m B : Nat} (h : CRow w a l) (hb : Below B w w') (hB : w.heap.size ≤ B) : CRow w' a l := h.carry (hb.mono hB)
set_option maxHeartbeats 2000000 in
theorem sums_walk (a : Option Addr) (cap : Nat) (l : List (Int × Int)) (w : World) (hn : l.length ≤ 100) (hcap : l.length ≤ cap) (hr : CRow w a l) :
    Calls Try.prog 4 #[.slice a l.length cap] w fun e w' => e = .returned (.bool true) ∧ Below w.heap.size w w' := by
  go_enter Try.func4, Try.ntmps4
  go_wp2_with fail
  go_loopw [5] (fun i wr => ∃ k : Nat, k ≤ l.length ∧ i = .int .i64 k ∧ Below w.heap.size w wr ∧ w.heap.size < wr.heap.size ∧ CAt wr w.heap.size (sumC (l.take k))) (fun i _ => l.length - (intOf i).toNat)
  case atStart =>
    refine ⟨0, Nat.zero_le _, rfl, bel1 _ _, by simp, ?_⟩
    exact cel2_new w (.int .i64 0) (.int .i64 0) 35
  case round =>
    obtain ⟨k, hk, rfl, hbl, hz, hs⟩ := hrel
    by_cases hlt : k < l.length
    · obtain ⟨⟨y0, y1⟩, hy⟩ : ∃ y, y = l.getD k (0, 0) := ⟨_, rfl⟩
      obtain ⟨b, off, rfl, hB, hck, hck1⟩ := hr k hlt
      have g0 := (hbl.cell (p := ⟨b, off + k * 2, none⟩) hB).trans hck
      have g1 := (hbl.cell (p := ⟨b, off + k * 2 + 1, none⟩) hB).trans hck1
      rw [← hy] at g0 g1
      have HR := Lib.hid hr
      have HY := Lib.hid hy
      clear hy hr hck hck1
      go_wp2_with fail
      refine (put_any _ _ (y0, y1) wr hs (okC_sum _)).mono ?_
      rintro e w1 ⟨rfl, n1, u1⟩
      have hb1 : Below w.heap.size w w1 := hbl.trans (u1.below (by omega))
      have g0' := (u1.cell (p := ⟨b, off + k * 2, none⟩) (Nat.lt_trans hB hz) (by show b ≠ w.heap.size; omega)).trans g0
      have g1' := (u1.cell (p := ⟨b, off + k * 2 + 1, none⟩) (Nat.lt_trans hB hz) (by show b ≠ w.heap.size; omega)).trans g1
      have z1 : w.heap.size < w1.heap.size := Nat.lt_of_lt_of_le hz u1.size
      have et : sumC (l.take (k + 1)) = addC (sumC (l.take k)) (y0, y1) := by rw [sumC_snoc l k hlt, HY.out]
      rw [← et] at n1
      clear g0 g1 hs u1 hz hbl et
      go_wp2_with fail
      refine (put_nil (y0, y1) w1).mono ?_
      rintro e w2 ⟨rfl, u2⟩
      have hb2 : Below w.heap.size w w2 := bstep hb1 u2 (by omega)
      have n2 := Cel2.carry n1 u2 z1
      have z2 : w.heap.size < w2.heap.size := Nat.lt_of_lt_of_le z1 u2.size
      clear g0' g1' n1 u2 hb1 z1
      go_upto_region 10 with (fail)
      have hrr : ∀ x, Old w2 x → CRow x (some ⟨b, off, none⟩) l := fun x hx => HR.out.carry (hb2.trans (hx.mono hb2.size))
      have c17 := fun x (hx : Old w2 x) => cost_any _ _ x (Cel2.carry n2 hx z2)
      have c18 := fun x (hx : Old w2 x) => all_any (some ⟨b, off, none⟩) (k + 1) cap (l.take (k + 1)) x (by simp; omega) (by omega) ((hrr x hx).take _)
      have c19 := fun x (hx : Old w2 x) => Least_any (some ⟨b, off, none⟩) k cap (l.take k) x (by simp; omega) (by omega) ((hrr x hx).take _)
      have c20 := fun x (hx : Old w2 x) => rleast_any (some ⟨b, off, none⟩) k cap (l.take k) x (by simp; omega) (by omega) ((hrr x hx).take _)
      obtain ⟨⟨x0, x1⟩, hx⟩ : ∃ x, x = sumC (l.take (k + 1)) := ⟨_, rfl⟩
      rw [← hx] at c17 c18
      have HX := Lib.hid hx
      have N2 := Lib.hid n2
      generalize leastC (l.take k) = t at c19 c20
      have e1 : IntKind.i64.wrap ((k : Int) + 1) = (k : Int) + 1 := IntWalk.i64_in _ (by omega)
      have e2 : (0 : Int) ≤ (k : Int) + 1 := by omega
      have e3 : ((k : Int) + 1).toNat = k + 1 := by omega
      have e4 : (k : Int) + 1 ≤ (cap : Int) := by omega
      have e5 : (k : Int) ≤ (cap : Int) := by omega
      clear hx n2 hrr
      unfold cst at c17 c18
      have CE : ∀ x, Old w2 x → True := fun _ _ => trivial
      (refine wp_region_text (Old w2) 17 (by kernel_rfl) (by kernel_rfl) (Below.refl _ w2).drew ?_; simp only [List.take_succ_cons, List.take_zero, List.drop_succ_cons, List.drop_zero])
      (refine Text.call (Old.call c17) (by kernel_rfl) (fun _ => by kernel_rfl) ?_; simp only [Act.put, List.getElem_toArray, List.getElem_cons_succ, List.getElem_cons_zero, List.setIfInBounds_toArray, List.set_cons_zero, List.set_cons_succ])
      repeat (first | (apply Text.sees (hw := by kernel_rfl); (focus (intro x hx K hK; have hc := CE x hx; go_simp; exact hK)); simp only [Act.put, List.getElem_toArray, List.getElem_cons_succ, List.getElem_cons_zero, List.setIfInBounds_toArray, List.set_cons_zero, List.set_cons_succ]) | (apply Text.idle; (focus (intro x hx K hK; go_simp; exact hK)); simp only [Act.put, List.getElem_toArray, List.getElem_cons_succ, List.getElem_cons_zero, List.setIfInBounds_toArray, List.set_cons_zero, List.set_cons_succ]))
      (refine Text.call (Old.call c18) (by kernel_rfl) (fun _ => by kernel_rfl) ?_; simp only [Act.put, List.getElem_toArray, List.getElem_cons_succ, List.getElem_cons_zero, List.setIfInBounds_toArray, List.set_cons_zero, List.set_cons_succ])
      repeat (first | (apply Text.sees (hw := by kernel_rfl); (focus (intro x hx K hK; have hc := CE x hx; go_simp; exact hK)); simp only [Act.put, List.getElem_toArray, List.getElem_cons_succ, List.getElem_cons_zero, List.setIfInBounds_toArray, List.set_cons_zero, List.set_cons_succ]) | (apply Text.idle; (focus (intro x hx K hK; go_simp; exact hK)); simp only [Act.put, List.getElem_toArray, List.getElem_cons_succ, List.getElem_cons_zero, List.setIfInBounds_toArray, List.set_cons_zero, List.set_cons_succ]))
      (refine Text.call (Old.call c19) (by kernel_rfl) (fun _ => by kernel_rfl) ?_; simp only [Act.put, List.getElem_toArray, List.getElem_cons_succ, List.getElem_cons_zero, List.setIfInBounds_toArray, List.set_cons_zero, List.set_cons_succ])
      repeat (first | (apply Text.sees (hw := by kernel_rfl); (focus (intro x hx K hK; have hc := CE x hx; go_simp; exact hK)); simp only [Act.put, List.getElem_toArray, List.getElem_cons_succ, List.getElem_cons_zero, List.setIfInBounds_toArray, List.set_cons_zero, List.set_cons_succ]) | (apply Text.idle; (focus (intro x hx K hK; go_simp; exact hK)); simp only [Act.put, List.getElem_toArray, List.getElem_cons_succ, List.getElem_cons_zero, List.setIfInBounds_toArray, List.set_cons_zero, List.set_cons_succ]))
      (refine Text.call (Old.call c20) (by kernel_rfl) (fun _ => by kernel_rfl) ?_; simp only [Act.put, List.getElem_toArray, List.getElem_cons_succ, List.getElem_cons_zero, List.setIfInBounds_toArray, List.set_cons_zero, List.set_cons_succ])
      repeat (first | (apply Text.sees (hw := by kernel_rfl); (focus (intro x hx K hK; have hc := CE x hx; go_simp; exact hK)); simp only [Act.put, List.getElem_toArray, List.getElem_cons_succ, List.getElem_cons_zero, List.setIfInBounds_toArray, List.set_cons_zero, List.set_cons_succ]) | (apply Text.idle; (focus (intro x hx K hK; go_simp; exact hK)); simp only [Act.put, List.getElem_toArray, List.getElem_cons_succ, List.getElem_cons_zero, List.setIfInBounds_toArray, List.set_cons_zero, List.set_cons_succ]))
      intro x hx
      have hb3 := hb2.trans (hx.mono hb2.size)
      have n3 := Cel2.carry N2.out hx z2
      have z3 : w.heap.size < x.heap.size := Nat.lt_of_lt_of_le z2 hx.size
      clear c17 c18 c19 c20 N2 CE hx hb2 z2 e1 e2 e3 e4 e5
      go_wp2
      go_roundw
      case rel => exact ⟨k + 1, by omega, by go_num, hb3, z3, n3⟩
      case measure => simp [intOf]; omega
    · have el : l.length = k := by omega
      have EL := Lib.hid el
      clear hs el
      go_wp2_with fail
      refine (cost_nil wr).mono ?_
      rintro e w1 ⟨rfl, u1⟩
      have hb1 := bstep hbl u1 (by omega)
      have z1 : w.heap.size < w1.heap.size := Nat.lt_of_lt_of_le hz u1.size
      unfold cst
      clear u1 hbl hz
      go_wp2_with fail
      refine (Least_any a _ cap l w1 rfl hn (hr.carry hb1)).mono ?_
      rintro e w2 ⟨rfl, u2⟩
      have hb2 := bstep hb1 u2 (by omega)
      have z2 : w.heap.size < w2.heap.size := Nat.lt_of_lt_of_le z1 u2.size
      clear u2 hb1 z1
      go_wp2_with fail
      refine (rleast_any a _ cap l w2 rfl hn (hr.carry hb2)).mono ?_
      rintro e w3 ⟨rfl, u3⟩
      have hb3 := bstep hb2 u3 (by omega)
      have z3 : w.heap.size < w3.heap.size := Nat.lt_of_lt_of_le z2 u3.size
      clear u3 hb2 z2 hr
      go_wp2_with fail
      refine (awake_any w3).mono ?_
      rintro e w4 ⟨rfl, u4⟩
      have hb4 := bstep hb3 u4 (by omega)
      clear u4 hb3 z3
      go_wp2
      go_ret
      exact ⟨rfl, hb4⟩
end Go.Proofs.Ytofellaihiclkaa
