/- The walk of VlistNone. -/
import Derived.Test.YtnajjgohodnfhaaAAw
namespace Go.Proofs.Ytnajjgohodnfhaa
open Go.RowKit
set_option maxRecDepth 20000
set_option linter.unusedVariables false
set_option linter.unusedSimpArgs false

theorem none_has (n : Int) : hasV [] n = false := hasV_no (by simp; omega)
theorem none_may (b : Int) : mayV [] b = false := by
  unfold mayV
  by_cases h : b < 1
  · rw [if_pos h]
  · rw [if_neg h, if_neg (by simp; omega)]
    simp
    omega
theorem none_trim (n : Int) : trimV [] n = 0 := by
  unfold trimV
  have e : startV [] n = 0 := by unfold startV; simp
  rw [e]
  exact findQ_yes (L := 0) (Nat.le_refl 0) (firmV_end [])
theorem none_breaks (n : Int) : (breaksV [] n).length = 0 := by
  unfold breaksV
  rw [selQ_none fun j hj => ?_]
  · rfl
  · obtain rfl : j = 0 := by simp at hj; omega
    exact brk_low (by omega)
theorem none_between (n b : Int) : (betweenV [] n b).length = 0 := rfl
set_option maxHeartbeats 2000000 in
theorem vlistNone_walk (n : Int) (hn : (Lit.int .i64 n).wf = true) (b : Int) (hb : (Lit.int .i64 b).wf = true) (w : World) :
    Calls Try.prog 4 #[.int .i64 n, .int .i64 b] w fun e w' => e = .returned (.bool true) ∧ Below w.heap.size w w' := by
  have V : ∀ x : World, VAt x (.pointer none) [] := fun x => .inl ⟨rfl, rfl⟩
  have hl : ([] : List I7).length ≤ 1000000 := by decide
  have cat := fun x => vat_any (.pointer none) [] n x (V x) hl
  have clen := fun x => vlen_any (.pointer none) [] x (V x)
  have cmay := fun x => vmay_any (.pointer none) [] b x (V x) hl
  have ctrim := fun x => vtrim_any (.pointer none) [] n x (V x) hl
  have cfirst := fun x => vfirst_any (.pointer none) [] 0 x (V x) hl
  have cforce := fun x => vforce_any (.pointer none) [] 0 x (V x) hl
  have cbreaks := fun x => vbreaks_any (.pointer none) [] n x (V x) hl
  have cbetween := fun x => vbetween_any (.pointer none) [] n b x (V x) hl (wfA hn)
  rw [atV_out (none_has n), none_has] at cat
  rw [none_may] at cmay
  rw [none_trim] at ctrim
  rw [show firstV [] 0 = -1 from rfl] at cfirst
  rw [show forceV [] 0 = -1 from rfl] at cforce
  have HB := Lib.hid (And.intro (none_breaks n) (none_between n b))
  generalize breaksV [] n = B1 at *
  generalize betweenV [] n b = B2 at *
  unfold itm zeroI at cat
  dsimp only [List.length_nil] at cat clen
  have HC := Lib.hid (And.intro cat (And.intro clen (And.intro cmay (And.intro ctrim (And.intro cfirst (And.intro cforce (And.intro cbreaks cbetween)))))))
  clear cat clen cmay ctrim cfirst cforce cbreaks cbetween V
  go_enter Try.func4, Try.ntmps4
  go_wp2_with fail
  refine (HC.out.1 _).mono ?_
  rintro e w1 ⟨rfl, b1⟩
  have bx := tbel1 w1 (.cells #[.int .i64 0, .int .i64 0, .int .i64 0, .int .i64 0, .int .i64 0, .int .i64 0, .int .i64 0] 31)
  have B0 := blk_new w1 #[.int .i64 0, .int .i64 0, .int .i64 0, .int .i64 0, .int .i64 0, .int .i64 0, .int .i64 0] 31
  have b2 := tstep b1 bx b1.size
  have e0 : ∀ w, Sem.run Try.prog (binOp BinOp.eql 31 (.agg #[.int .i64 0, .int .i64 0, .int .i64 0, .int .i64 0, .int .i64 0, .int .i64 0, .int .i64 0]) (.agg #[.int .i64 0, .int .i64 0, .int .i64 0, .int .i64 0, .int .i64 0, .int .i64 0, .int .i64 0])) w = .ok (.bool true) w := fun w => by kernel_rfl
  clear bx b1
  go_wp2_with fail
  generalize w1.alloc _ = U at *
  generalize w1.heap.size = g at *
  obtain ⟨d0, d1, d2, d3, d4, d5, d6⟩ := B0.seven
  refine (HC.out.2.1 U).mono ?_
  rintro e w3 ⟨rfl, rfl⟩
  go_wp2_with fail
  refine (HC.out.2.2.1 w3).mono ?_
  rintro e w4 ⟨rfl, b4⟩
  replace b4 := tstep b2 b4 b2.size
  clear b2 d0 d1 d2 d3 d4 d5 d6 B0 e0
  go_wp2_with fail
  refine (HC.out.2.2.2.1 w4).mono ?_
  rintro e w5 ⟨rfl, b5⟩
  replace b5 := tstep b4 b5 b4.size
  clear b4
  go_wp2_with fail
  refine (HC.out.2.2.2.2.1 w5).mono ?_
  rintro e w6 ⟨rfl, b6⟩
  replace b6 := tstep b5 b6 b5.size
  clear b5
  go_wp2_with fail
  refine (HC.out.2.2.2.2.2.1 w6).mono ?_
  rintro e w7 ⟨rfl, b7⟩
  replace b7 := tstep b6 b7 b6.size
  clear b6
  go_wp2_with fail
  refine (HC.out.2.2.2.2.2.2.1 w7).mono ?_
  rintro e w8 ⟨u, rfl, ho, b8⟩
  replace b8 := tstep b7 b8 b7.size
  clear b7
  obtain ⟨a1, c1, rfl, _, _, _⟩ := ho.row
  rw [HB.out.1]
  clear ho
  go_wp2_with fail
  refine (HC.out.2.2.2.2.2.2.2 w8).mono ?_
  rintro e w9 ⟨u, rfl, ho, b9⟩
  replace b9 := tstep b8 b9 b8.size
  clear b8
  obtain ⟨a2, c2, rfl, _, _, _⟩ := ho.row
  rw [HB.out.2]
  clear ho HB HC
  go_wp2_with fail
  refine (awake18 w9).mono ?_
  rintro e w10 ⟨rfl, b10⟩
  replace b10 := tstep b9 b10 b9.size
  go_wp2
  go_ret
  exact ⟨rfl, b10⟩
end Go.Proofs.Ytnajjgohodnfhaa
