/- WideReckons holds of every input: the walk at the numbers. -/
import Derived.Test.YtmggcdhahimpnaaWLaw3
namespace Go.Proofs.Ytmggcdhahimpnaa
open Go.RowKit
set_option linter.unusedVariables false
theorem nm_eq (h l : Nat) (hl : l < 18446744073709551616) : nm (h * 18446744073709551616 + l) = .agg #[.int .u64 (h : Int), .int .u64 (l : Int)] := by
  unfold nm
  rw [show (h * 18446744073709551616 + l) / 18446744073709551616 = h by omega, show (h * 18446744073709551616 + l) % 18446744073709551616 = l by omega]
theorem two_words (h l : Nat) (hh : h < 18446744073709551616) (hl : l < 18446744073709551616) : h * 18446744073709551616 + l < 340282366920938463463374607431768211456 := by omega
theorem sum_ok (x y : Nat) : sumF x y 128 = (sumW x y).2 := by unfold sumF sumW; split <;> simp
theorem sum_bits (x y i : Nat) (hi : i < 128) : sumF x y i = (sumW x y).1.testBit i := by unfold sumF sumW; split <;> simp [hi]
theorem sum_num (x y : Nat) : numB (sumW x y).1 = .agg (cellsB 128 (sumF x y)) :=
  congrArg Value.agg (cellsB_congr (n := 128) (f := fun i => (sumW x y).1.testBit i) (g := sumF x y) fun i hi => (sum_bits x y i hi).symm)
theorem zero_num : numB 0 = .agg (cellsB 128 fun _ => false) :=
  congrArg Value.agg (cellsB_congr (n := 128) (f := fun i => Nat.testBit 0 i) (g := fun _ => false) fun i hi => Nat.zero_testBit i)
theorem sum_lt (x y : Nat) : (sumW x y).1 < 340282366920938463463374607431768211456 := by unfold sumW; split <;> simp <;> omega
theorem wideReckons_walk (ah : Int) (w1 : (Lit.int .u64 ah).wf = true) (al : Int) (w2 : (Lit.int .u64 al).wf = true) (bh : Int) (w3 : (Lit.int .u64 bh).wf = true) (bl : Int) (w4 : (Lit.int .u64 bl).wf = true) (d : Int) (w5 : (Lit.int .u64 d).wf = true) (w : World) :
    Calls Try.prog 3 #[.agg #[.int .u64 ah, .int .u64 al], .agg #[.int .u64 bh, .int .u64 bl], .int .u64 d] w fun e w' => e = .returned (.bool true) ∧ Below w.heap.size w w' := by
  obtain ⟨ah, rfl, h1⟩ := u64_nat w1
  obtain ⟨al, rfl, h2⟩ := u64_nat w2
  obtain ⟨bh, rfl, h3⟩ := u64_nat w3
  obtain ⟨bl, rfl, h4⟩ := u64_nat w4
  obtain ⟨d, rfl, h5⟩ := u64_nat w5
  clear w1 w2 w3 w4 w5
  have hx := two_words ah al h1 h2
  have hy := two_words bh bl h3 h4
  have c3 := fun w => nadd_any (ah * 18446744073709551616 + al) (bh * 18446744073709551616 + bl) w hx hy
  have c4 := fun w => radd_any (ah * 18446744073709551616 + al) (bh * 18446744073709551616 + bl) w hx hy
  have c5 := fun w => ndiv_any (ah * 18446744073709551616 + al) d w hx h5
  have c6 := fun w => rdiv_any (ah * 18446744073709551616 + al) d w hx h5
  have c9 := fun w => same_yes (al * bl) w (mul_lt h2 (Nat.le_of_lt h4))
  have c10 := fun w => same_yes (sumW (ah * 18446744073709551616 + al) (bh * 18446744073709551616 + bl)).1 w (sum_lt _ _)
  have c12 := fun w => nless_any (ah * 18446744073709551616 + al) (bh * 18446744073709551616 + bl) w
  have c13 := fun w => rless_any (ah * 18446744073709551616 + al) (bh * 18446744073709551616 + bl) w hx hy
  have e10 := sum_num (ah * 18446744073709551616 + al) (bh * 18446744073709551616 + bl)
  rw [e10] at c10
  rw [nm_eq ah al h2, nm_eq bh bl h4] at c3 c12
  rw [nm_eq ah al h2] at c5
  by_cases hd : d = 0
  · subst hd
    have e5 : divW (ah * 18446744073709551616 + al) 0 = .tuple #[nm 0, .int .u64 0, .bool false] := if_pos rfl
    have e6 : divF (ah * 18446744073709551616 + al) 0 = .agg (partsC (fun _ => false) 0 false) := if_pos rfl
    rw [e5] at c5
    rw [e6] at c6
    have c11 := fun w => same_yes 0 w (Nat.lt_of_le_of_lt (Nat.zero_le _) hx)
    have e11 := zero_num
    rw [e11] at c11
    exact lreck_walk ah al bh bl _ _ _ _ _ _ _ _ _ _ _ _ _ _ _ _ w (fun w => wide_any ah al w h1 h2) (fun w => wide_any bh bl w h3 h4) c3 c4 (sum_ok _ _) c5 c6 (fun w => wmul_any al bl w h2 h4) (fun w => rmul_any al bl w h2 h4) c9 c10 c11 c12 c13
  · have e5 : divW (ah * 18446744073709551616 + al) d = .tuple #[nm ((ah * 18446744073709551616 + al) / d), .int .u64 (((ah * 18446744073709551616 + al) % d : Nat) : Int), .bool true] := if_neg hd
    have e6 : divF (ah * 18446744073709551616 + al) d = .agg (partsC (fun i => ((ah * 18446744073709551616 + al) / d).testBit i) (((ah * 18446744073709551616 + al) % d : Nat) : Int) true) := if_neg hd
    rw [e5] at c5
    rw [e6] at c6
    have c11 := fun w => same_yes ((ah * 18446744073709551616 + al) / d) w (Nat.lt_of_le_of_lt (Nat.div_le_self _ _) hx)
    exact lreck_walk ah al bh bl _ _ _ _ _ _ _ _ _ _ _ _ _ _ _ _ w (fun w => wide_any ah al w h1 h2) (fun w => wide_any bh bl w h3 h4) c3 c4 (sum_ok _ _) c5 c6 (fun w => wmul_any al bl w h2 h4) (fun w => rmul_any al bl w h2 h4) c9 c10 c11 c12 c13
end Go.Proofs.Ytmggcdhahimpnaa
