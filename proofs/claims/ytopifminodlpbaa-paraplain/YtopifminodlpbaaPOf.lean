/- Of of package para: the eight ways of a break that costs something. Of of package para. -/
import Derived.Test.YtopifminodlpbaaPAhd
namespace Go.Proofs.Ytopifminodlpbaa
open Go.RowKit
set_option maxRecDepth 20000
set_option linter.unusedVariables false
set_option linter.unusedSimpArgs false

set_option maxHeartbeats 1000000 in
theorem pof_pcw (x1 x2 x3 x4 x5 x6 g0 g1 g2 g3 g4 g5 g6 g7 g8 g9 g10 g11 g12 gc gd g15 g16 g17 P C D r : Int) (gb : Bool) (v : Value) (b : Int) (w : World)
    (b0 : Below w.heap.size w (w.alloc (.cells #[.int .i64 g0, .int .i64 g1, .int .i64 g2, .int .i64 g3, .int .i64 g4, .int .i64 g5, .int .i64 g6, .int .i64 g7, .int .i64 g8, .int .i64 g9, .int .i64 g10, .int .i64 g11, .int .i64 g12, .int .i64 gc, .int .i64 gd, .int .i64 g15, .int .i64 g16, .int .i64 g17, .bool gb] 24)))
    (ca : Calls Try.prog 20 #[v, .int .i64 b] (w.alloc (.cells #[.int .i64 g0, .int .i64 g1, .int .i64 g2, .int .i64 g3, .int .i64 g4, .int .i64 g5, .int .i64 g6, .int .i64 g7, .int .i64 g8, .int .i64 g9, .int .i64 g10, .int .i64 g11, .int .i64 g12, .int .i64 gc, .int .i64 gd, .int .i64 g15, .int .i64 g16, .int .i64 g17, .bool gb] 24)) fun e w' => e = .returned (.tuple #[.agg #[.int .i64 3, .int .i64 x1, .int .i64 x2, .int .i64 x3, .int .i64 x4, .int .i64 x5, .int .i64 x6], .bool true]) ∧ Below (w.alloc (.cells #[.int .i64 g0, .int .i64 g1, .int .i64 g2, .int .i64 g3, .int .i64 g4, .int .i64 g5, .int .i64 g6, .int .i64 g7, .int .i64 g8, .int .i64 g9, .int .i64 g10, .int .i64 g11, .int .i64 g12, .int .i64 gc, .int .i64 gd, .int .i64 g15, .int .i64 g16, .int .i64 g17, .bool gb] 24)).heap.size (w.alloc (.cells #[.int .i64 g0, .int .i64 g1, .int .i64 g2, .int .i64 g3, .int .i64 g4, .int .i64 g5, .int .i64 g6, .int .i64 g7, .int .i64 g8, .int .i64 g9, .int .i64 g10, .int .i64 g11, .int .i64 g12, .int .i64 gc, .int .i64 gd, .int .i64 g15, .int .i64 g16, .int .i64 g17, .bool gb] 24)) w')
    (CM : Hid (∀ x, Old (w.alloc (.cells #[.int .i64 g0, .int .i64 g1, .int .i64 g2, .int .i64 g3, .int .i64 g4, .int .i64 g5, .int .i64 g6, .int .i64 g7, .int .i64 g8, .int .i64 g9, .int .i64 g10, .int .i64 g11, .int .i64 g12, .int .i64 gc, .int .i64 gd, .int .i64 g15, .int .i64 g16, .int .i64 g17, .bool gb] 24)) x → Calls Try.prog 21 #[v, .int .i64 b] x fun e w' => e = .returned (.bool true) ∧ Below x.heap.size x w'))
    (CF : Hid (∀ x, Calls Try.prog 22 #[.agg #[.int .i64 3, .int .i64 x1, .int .i64 x2, .int .i64 x3, .int .i64 x4, .int .i64 x5, .int .i64 x6]] x fun e w' => e = .returned (.bool false) ∧ Below x.heap.size x w'))
    (CC : Hid (∀ x, Old (w.alloc (.cells #[.int .i64 g0, .int .i64 g1, .int .i64 g2, .int .i64 g3, .int .i64 g4, .int .i64 g5, .int .i64 g6, .int .i64 g7, .int .i64 g8, .int .i64 g9, .int .i64 g10, .int .i64 g11, .int .i64 g12, .int .i64 gc, .int .i64 gd, .int .i64 g15, .int .i64 g16, .int .i64 g17, .bool gb] 24)) x → Calls Try.prog 14 #[v, .int .i64 b] x fun e w' => e = .returned (.bool true) ∧ Below x.heap.size x w'))
    (CD : Hid (∀ x, Old (w.alloc (.cells #[.int .i64 g0, .int .i64 g1, .int .i64 g2, .int .i64 g3, .int .i64 g4, .int .i64 g5, .int .i64 g6, .int .i64 g7, .int .i64 g8, .int .i64 g9, .int .i64 g10, .int .i64 g11, .int .i64 g12, .int .i64 gc, .int .i64 gd, .int .i64 g15, .int .i64 g16, .int .i64 g17, .bool gb] 24)) x → Calls Try.prog 16 #[v, .int .i64 b] x fun e w' => e = .returned (.bool true) ∧ Below x.heap.size x w'))
    (CP : Hid (∀ n x, Calls Try.prog 23 #[.int .i64 n] x fun e w' => e = .returned (.int .i64 (max n 0)) ∧ w' = x))
    (CE : Hid (∀ x, Old (w.alloc (.cells #[.int .i64 g0, .int .i64 g1, .int .i64 g2, .int .i64 g3, .int .i64 g4, .int .i64 g5, .int .i64 g6, .int .i64 g7, .int .i64 g8, .int .i64 g9, .int .i64 g10, .int .i64 g11, .int .i64 g12, .int .i64 gc, .int .i64 gd, .int .i64 g15, .int .i64 g16, .int .i64 g17, .bool gb] 24)) x → x.cell? ⟨w.heap.size, 13, none⟩ = some (.int .i64 gc) ∧ x.cell? ⟨w.heap.size, 14, none⟩ = some (.int .i64 gd) ∧ w.heap.size < x.heap.size))
    (HP : Hid (max x6 0 = P ∧ 0 ≤ P ∧ P ≤ 1099511627776)) (HC : Hid (max gc 0 = C ∧ 0 ≤ C ∧ C ≤ 1099511627776)) (HD : Hid (max gd 0 = D ∧ 0 ≤ D ∧ D ≤ 1099511627776)) (HR : Hid (r = P + C + D)) :
    Calls Try.prog 8 #[.agg #[.int .i64 g0, .int .i64 g1, .int .i64 g2, .int .i64 g3, .int .i64 g4, .int .i64 g5, .int .i64 g6, .int .i64 g7, .int .i64 g8, .int .i64 g9, .int .i64 g10, .int .i64 g11, .int .i64 g12, .int .i64 gc, .int .i64 gd, .int .i64 g15, .int .i64 g16, .int .i64 g17, .bool gb], v, .int .i64 b] w fun e w' => e = .returned (.int .i64 r) ∧ Below w.heap.size w w' := by
  go_enter Try.func8, Try.ntmps8
  go_wp2_with fail
  refine ca.mono ?_
  rintro e w1 ⟨rfl, b1⟩
  have b2 := b1.alloc b1.size (.cells #[.int .i64 3, .int .i64 x1, .int .i64 x2, .int .i64 x3, .int .i64 x4, .int .i64 x5, .int .i64 x6] 28)
  have B := blk_new w1 #[.int .i64 3, .int .i64 x1, .int .i64 x2, .int .i64 x3, .int .i64 x4, .int .i64 x5, .int .i64 x6] 28
  have cm1 := CM.out _ b2
  replace b1 := tstep b0 b2 b0.size
  have o1 := b2
  clear ca b2
  go_wp2_with fail
  refine cm1.mono ?_
  rintro e w2 ⟨rfl, b2⟩
  have B2 := B.old b2
  have o2 := tstep o1 b2 o1.size
  replace b2 := tstep b1 b2 b1.size
  have B7 := B2.seven
  have B8 := B2.lt
  clear cm1 B o1 b1
  go_wp2_with fail
  refine (CF.out _).mono ?_
  rintro e w3 ⟨rfl, b3⟩
  have B3 := B2.old b3
  have o3 := tstep o2 b3 o2.size
  replace b3 := tstep b2 b3 b2.size
  have B9 := B3.lt
  have k0 := B3.cell 0
  have k6 := B3.cell 6
  simp only [List.getElem?_toArray, List.getElem?_cons_zero, List.getElem?_cons_succ] at k0 k6
  clear B7 B8 B2 B3 o2 b2
  go_wp2_with fail
  refine (CP.out x6 _).mono ?_
  rintro e w4 ⟨rfl, rfl⟩
  rw [HP.out.1]
  have cc1 := CC.out _ o3
  go_wp2_with fail
  refine cc1.mono ?_
  rintro e w5 ⟨rfl, b5⟩
  have o5 := tstep o3 b5 o3.size
  replace b5 := tstep b3 b5 b3.size
  clear cc1 o3 b3 k0 k6
  have k13 := (CE.out _ o5).1
  have kl := (CE.out _ o5).2.2
  go_wp2_with fail
  refine (CP.out gc _).mono ?_
  rintro e w6 ⟨rfl, rfl⟩
  rw [HC.out.1]
  have cd1 := CD.out _ o5
  go_wp2_with fail
  refine cd1.mono ?_
  rintro e w7 ⟨rfl, b7⟩
  have o7 := tstep o5 b7 o5.size
  replace b7 := tstep b5 b7 b5.size
  clear cd1 k13 kl o5 b5
  have k14 := (CE.out _ o7).2.1
  have kl := (CE.out _ o7).2.2
  go_wp2_with fail
  refine (CP.out gd _).mono ?_
  rintro e w8 ⟨rfl, rfl⟩
  rw [HD.out.1]
  clear CP
  go_wp2
  go_ret
  refine ⟨congrArg (fun z => Ending.returned (Value.int .i64 z)) ?_, b7⟩
  have h1 := HP.out.2
  have h2 := HC.out.2
  have h3 := HD.out.2
  have h4 := HR.out
  try unfold wrap64
  omega
set_option maxHeartbeats 1000000 in
theorem pof_pcn (x1 x2 x3 x4 x5 x6 g0 g1 g2 g3 g4 g5 g6 g7 g8 g9 g10 g11 g12 gc gd g15 g16 g17 P C D r : Int) (gb : Bool) (v : Value) (b : Int) (w : World)
    (b0 : Below w.heap.size w (w.alloc (.cells #[.int .i64 g0, .int .i64 g1, .int .i64 g2, .int .i64 g3, .int .i64 g4, .int .i64 g5, .int .i64 g6, .int .i64 g7, .int .i64 g8, .int .i64 g9, .int .i64 g10, .int .i64 g11, .int .i64 g12, .int .i64 gc, .int .i64 gd, .int .i64 g15, .int .i64 g16, .int .i64 g17, .bool gb] 24)))
    (ca : Calls Try.prog 20 #[v, .int .i64 b] (w.alloc (.cells #[.int .i64 g0, .int .i64 g1, .int .i64 g2, .int .i64 g3, .int .i64 g4, .int .i64 g5, .int .i64 g6, .int .i64 g7, .int .i64 g8, .int .i64 g9, .int .i64 g10, .int .i64 g11, .int .i64 g12, .int .i64 gc, .int .i64 gd, .int .i64 g15, .int .i64 g16, .int .i64 g17, .bool gb] 24)) fun e w' => e = .returned (.tuple #[.agg #[.int .i64 3, .int .i64 x1, .int .i64 x2, .int .i64 x3, .int .i64 x4, .int .i64 x5, .int .i64 x6], .bool true]) ∧ Below (w.alloc (.cells #[.int .i64 g0, .int .i64 g1, .int .i64 g2, .int .i64 g3, .int .i64 g4, .int .i64 g5, .int .i64 g6, .int .i64 g7, .int .i64 g8, .int .i64 g9, .int .i64 g10, .int .i64 g11, .int .i64 g12, .int .i64 gc, .int .i64 gd, .int .i64 g15, .int .i64 g16, .int .i64 g17, .bool gb] 24)).heap.size (w.alloc (.cells #[.int .i64 g0, .int .i64 g1, .int .i64 g2, .int .i64 g3, .int .i64 g4, .int .i64 g5, .int .i64 g6, .int .i64 g7, .int .i64 g8, .int .i64 g9, .int .i64 g10, .int .i64 g11, .int .i64 g12, .int .i64 gc, .int .i64 gd, .int .i64 g15, .int .i64 g16, .int .i64 g17, .bool gb] 24)) w')
    (CM : Hid (∀ x, Old (w.alloc (.cells #[.int .i64 g0, .int .i64 g1, .int .i64 g2, .int .i64 g3, .int .i64 g4, .int .i64 g5, .int .i64 g6, .int .i64 g7, .int .i64 g8, .int .i64 g9, .int .i64 g10, .int .i64 g11, .int .i64 g12, .int .i64 gc, .int .i64 gd, .int .i64 g15, .int .i64 g16, .int .i64 g17, .bool gb] 24)) x → Calls Try.prog 21 #[v, .int .i64 b] x fun e w' => e = .returned (.bool true) ∧ Below x.heap.size x w'))
    (CF : Hid (∀ x, Calls Try.prog 22 #[.agg #[.int .i64 3, .int .i64 x1, .int .i64 x2, .int .i64 x3, .int .i64 x4, .int .i64 x5, .int .i64 x6]] x fun e w' => e = .returned (.bool false) ∧ Below x.heap.size x w'))
    (CC : Hid (∀ x, Old (w.alloc (.cells #[.int .i64 g0, .int .i64 g1, .int .i64 g2, .int .i64 g3, .int .i64 g4, .int .i64 g5, .int .i64 g6, .int .i64 g7, .int .i64 g8, .int .i64 g9, .int .i64 g10, .int .i64 g11, .int .i64 g12, .int .i64 gc, .int .i64 gd, .int .i64 g15, .int .i64 g16, .int .i64 g17, .bool gb] 24)) x → Calls Try.prog 14 #[v, .int .i64 b] x fun e w' => e = .returned (.bool true) ∧ Below x.heap.size x w'))
    (CD : Hid (∀ x, Old (w.alloc (.cells #[.int .i64 g0, .int .i64 g1, .int .i64 g2, .int .i64 g3, .int .i64 g4, .int .i64 g5, .int .i64 g6, .int .i64 g7, .int .i64 g8, .int .i64 g9, .int .i64 g10, .int .i64 g11, .int .i64 g12, .int .i64 gc, .int .i64 gd, .int .i64 g15, .int .i64 g16, .int .i64 g17, .bool gb] 24)) x → Calls Try.prog 16 #[v, .int .i64 b] x fun e w' => e = .returned (.bool false) ∧ Below x.heap.size x w'))
    (CP : Hid (∀ n x, Calls Try.prog 23 #[.int .i64 n] x fun e w' => e = .returned (.int .i64 (max n 0)) ∧ w' = x))
    (CE : Hid (∀ x, Old (w.alloc (.cells #[.int .i64 g0, .int .i64 g1, .int .i64 g2, .int .i64 g3, .int .i64 g4, .int .i64 g5, .int .i64 g6, .int .i64 g7, .int .i64 g8, .int .i64 g9, .int .i64 g10, .int .i64 g11, .int .i64 g12, .int .i64 gc, .int .i64 gd, .int .i64 g15, .int .i64 g16, .int .i64 g17, .bool gb] 24)) x → x.cell? ⟨w.heap.size, 13, none⟩ = some (.int .i64 gc) ∧ x.cell? ⟨w.heap.size, 14, none⟩ = some (.int .i64 gd) ∧ w.heap.size < x.heap.size))
    (HP : Hid (max x6 0 = P ∧ 0 ≤ P ∧ P ≤ 1099511627776)) (HC : Hid (max gc 0 = C ∧ 0 ≤ C ∧ C ≤ 1099511627776)) (HD : Hid (max gd 0 = D ∧ True)) (HR : Hid (r = P + C)) :
    Calls Try.prog 8 #[.agg #[.int .i64 g0, .int .i64 g1, .int .i64 g2, .int .i64 g3, .int .i64 g4, .int .i64 g5, .int .i64 g6, .int .i64 g7, .int .i64 g8, .int .i64 g9, .int .i64 g10, .int .i64 g11, .int .i64 g12, .int .i64 gc, .int .i64 gd, .int .i64 g15, .int .i64 g16, .int .i64 g17, .bool gb], v, .int .i64 b] w fun e w' => e = .returned (.int .i64 r) ∧ Below w.heap.size w w' := by
  go_enter Try.func8, Try.ntmps8
  go_wp2_with fail
  refine ca.mono ?_
  rintro e w1 ⟨rfl, b1⟩
  have b2 := b1.alloc b1.size (.cells #[.int .i64 3, .int .i64 x1, .int .i64 x2, .int .i64 x3, .int .i64 x4, .int .i64 x5, .int .i64 x6] 28)
  have B := blk_new w1 #[.int .i64 3, .int .i64 x1, .int .i64 x2, .int .i64 x3, .int .i64 x4, .int .i64 x5, .int .i64 x6] 28
  have cm1 := CM.out _ b2
  replace b1 := tstep b0 b2 b0.size
  have o1 := b2
  clear ca b2
  go_wp2_with fail
  refine cm1.mono ?_
  rintro e w2 ⟨rfl, b2⟩
  have B2 := B.old b2
  have o2 := tstep o1 b2 o1.size
  replace b2 := tstep b1 b2 b1.size
  have B7 := B2.seven
  have B8 := B2.lt
  clear cm1 B o1 b1
  go_wp2_with fail
  refine (CF.out _).mono ?_
  rintro e w3 ⟨rfl, b3⟩
  have B3 := B2.old b3
  have o3 := tstep o2 b3 o2.size
  replace b3 := tstep b2 b3 b2.size
  have B9 := B3.lt
  have k0 := B3.cell 0
  have k6 := B3.cell 6
  simp only [List.getElem?_toArray, List.getElem?_cons_zero, List.getElem?_cons_succ] at k0 k6
  clear B7 B8 B2 B3 o2 b2
  go_wp2_with fail
  refine (CP.out x6 _).mono ?_
  rintro e w4 ⟨rfl, rfl⟩
  rw [HP.out.1]
  have cc1 := CC.out _ o3
  go_wp2_with fail
  refine cc1.mono ?_
  rintro e w5 ⟨rfl, b5⟩
  have o5 := tstep o3 b5 o3.size
  replace b5 := tstep b3 b5 b3.size
  clear cc1 o3 b3 k0 k6
  have k13 := (CE.out _ o5).1
  have kl := (CE.out _ o5).2.2
  go_wp2_with fail
  refine (CP.out gc _).mono ?_
  rintro e w6 ⟨rfl, rfl⟩
  rw [HC.out.1]
  have cd1 := CD.out _ o5
  go_wp2_with fail
  refine cd1.mono ?_
  rintro e w7 ⟨rfl, b7⟩
  have o7 := tstep o5 b7 o5.size
  replace b7 := tstep b5 b7 b5.size
  clear cd1 k13 kl o5 b5
  have k14 := (CE.out _ o7).2.1
  have kl := (CE.out _ o7).2.2
  clear CP
  go_wp2
  go_ret
  refine ⟨congrArg (fun z => Ending.returned (Value.int .i64 z)) ?_, b7⟩
  have h1 := HP.out.2
  have h2 := HC.out.2
  have h3 := HD.out.2
  have h4 := HR.out
  try unfold wrap64
  omega
set_option maxHeartbeats 1000000 in
theorem pof_pnw (x1 x2 x3 x4 x5 x6 g0 g1 g2 g3 g4 g5 g6 g7 g8 g9 g10 g11 g12 gc gd g15 g16 g17 P C D r : Int) (gb : Bool) (v : Value) (b : Int) (w : World)
    (b0 : Below w.heap.size w (w.alloc (.cells #[.int .i64 g0, .int .i64 g1, .int .i64 g2, .int .i64 g3, .int .i64 g4, .int .i64 g5, .int .i64 g6, .int .i64 g7, .int .i64 g8, .int .i64 g9, .int .i64 g10, .int .i64 g11, .int .i64 g12, .int .i64 gc, .int .i64 gd, .int .i64 g15, .int .i64 g16, .int .i64 g17, .bool gb] 24)))
    (ca : Calls Try.prog 20 #[v, .int .i64 b] (w.alloc (.cells #[.int .i64 g0, .int .i64 g1, .int .i64 g2, .int .i64 g3, .int .i64 g4, .int .i64 g5, .int .i64 g6, .int .i64 g7, .int .i64 g8, .int .i64 g9, .int .i64 g10, .int .i64 g11, .int .i64 g12, .int .i64 gc, .int .i64 gd, .int .i64 g15, .int .i64 g16, .int .i64 g17, .bool gb] 24)) fun e w' => e = .returned (.tuple #[.agg #[.int .i64 3, .int .i64 x1, .int .i64 x2, .int .i64 x3, .int .i64 x4, .int .i64 x5, .int .i64 x6], .bool true]) ∧ Below (w.alloc (.cells #[.int .i64 g0, .int .i64 g1, .int .i64 g2, .int .i64 g3, .int .i64 g4, .int .i64 g5, .int .i64 g6, .int .i64 g7, .int .i64 g8, .int .i64 g9, .int .i64 g10, .int .i64 g11, .int .i64 g12, .int .i64 gc, .int .i64 gd, .int .i64 g15, .int .i64 g16, .int .i64 g17, .bool gb] 24)).heap.size (w.alloc (.cells #[.int .i64 g0, .int .i64 g1, .int .i64 g2, .int .i64 g3, .int .i64 g4, .int .i64 g5, .int .i64 g6, .int .i64 g7, .int .i64 g8, .int .i64 g9, .int .i64 g10, .int .i64 g11, .int .i64 g12, .int .i64 gc, .int .i64 gd, .int .i64 g15, .int .i64 g16, .int .i64 g17, .bool gb] 24)) w')
    (CM : Hid (∀ x, Old (w.alloc (.cells #[.int .i64 g0, .int .i64 g1, .int .i64 g2, .int .i64 g3, .int .i64 g4, .int .i64 g5, .int .i64 g6, .int .i64 g7, .int .i64 g8, .int .i64 g9, .int .i64 g10, .int .i64 g11, .int .i64 g12, .int .i64 gc, .int .i64 gd, .int .i64 g15, .int .i64 g16, .int .i64 g17, .bool gb] 24)) x → Calls Try.prog 21 #[v, .int .i64 b] x fun e w' => e = .returned (.bool true) ∧ Below x.heap.size x w'))
    (CF : Hid (∀ x, Calls Try.prog 22 #[.agg #[.int .i64 3, .int .i64 x1, .int .i64 x2, .int .i64 x3, .int .i64 x4, .int .i64 x5, .int .i64 x6]] x fun e w' => e = .returned (.bool false) ∧ Below x.heap.size x w'))
    (CC : Hid (∀ x, Old (w.alloc (.cells #[.int .i64 g0, .int .i64 g1, .int .i64 g2, .int .i64 g3, .int .i64 g4, .int .i64 g5, .int .i64 g6, .int .i64 g7, .int .i64 g8, .int .i64 g9, .int .i64 g10, .int .i64 g11, .int .i64 g12, .int .i64 gc, .int .i64 gd, .int .i64 g15, .int .i64 g16, .int .i64 g17, .bool gb] 24)) x → Calls Try.prog 14 #[v, .int .i64 b] x fun e w' => e = .returned (.bool false) ∧ Below x.heap.size x w'))
    (CD : Hid (∀ x, Old (w.alloc (.cells #[.int .i64 g0, .int .i64 g1, .int .i64 g2, .int .i64 g3, .int .i64 g4, .int .i64 g5, .int .i64 g6, .int .i64 g7, .int .i64 g8, .int .i64 g9, .int .i64 g10, .int .i64 g11, .int .i64 g12, .int .i64 gc, .int .i64 gd, .int .i64 g15, .int .i64 g16, .int .i64 g17, .bool gb] 24)) x → Calls Try.prog 16 #[v, .int .i64 b] x fun e w' => e = .returned (.bool true) ∧ Below x.heap.size x w'))
    (CP : Hid (∀ n x, Calls Try.prog 23 #[.int .i64 n] x fun e w' => e = .returned (.int .i64 (max n 0)) ∧ w' = x))
    (CE : Hid (∀ x, Old (w.alloc (.cells #[.int .i64 g0, .int .i64 g1, .int .i64 g2, .int .i64 g3, .int .i64 g4, .int .i64 g5, .int .i64 g6, .int .i64 g7, .int .i64 g8, .int .i64 g9, .int .i64 g10, .int .i64 g11, .int .i64 g12, .int .i64 gc, .int .i64 gd, .int .i64 g15, .int .i64 g16, .int .i64 g17, .bool gb] 24)) x → x.cell? ⟨w.heap.size, 13, none⟩ = some (.int .i64 gc) ∧ x.cell? ⟨w.heap.size, 14, none⟩ = some (.int .i64 gd) ∧ w.heap.size < x.heap.size))
    (HP : Hid (max x6 0 = P ∧ 0 ≤ P ∧ P ≤ 1099511627776)) (HC : Hid (max gc 0 = C ∧ True)) (HD : Hid (max gd 0 = D ∧ 0 ≤ D ∧ D ≤ 1099511627776)) (HR : Hid (r = P + D)) :
    Calls Try.prog 8 #[.agg #[.int .i64 g0, .int .i64 g1, .int .i64 g2, .int .i64 g3, .int .i64 g4, .int .i64 g5, .int .i64 g6, .int .i64 g7, .int .i64 g8, .int .i64 g9, .int .i64 g10, .int .i64 g11, .int .i64 g12, .int .i64 gc, .int .i64 gd, .int .i64 g15, .int .i64 g16, .int .i64 g17, .bool gb], v, .int .i64 b] w fun e w' => e = .returned (.int .i64 r) ∧ Below w.heap.size w w' := by
  go_enter Try.func8, Try.ntmps8
  go_wp2_with fail
  refine ca.mono ?_
  rintro e w1 ⟨rfl, b1⟩
  have b2 := b1.alloc b1.size (.cells #[.int .i64 3, .int .i64 x1, .int .i64 x2, .int .i64 x3, .int .i64 x4, .int .i64 x5, .int .i64 x6] 28)
  have B := blk_new w1 #[.int .i64 3, .int .i64 x1, .int .i64 x2, .int .i64 x3, .int .i64 x4, .int .i64 x5, .int .i64 x6] 28
  have cm1 := CM.out _ b2
  replace b1 := tstep b0 b2 b0.size
  have o1 := b2
  clear ca b2
  go_wp2_with fail
  refine cm1.mono ?_
  rintro e w2 ⟨rfl, b2⟩
  have B2 := B.old b2
  have o2 := tstep o1 b2 o1.size
  replace b2 := tstep b1 b2 b1.size
  have B7 := B2.seven
  have B8 := B2.lt
  clear cm1 B o1 b1
  go_wp2_with fail
  refine (CF.out _).mono ?_
  rintro e w3 ⟨rfl, b3⟩
  have B3 := B2.old b3
  have o3 := tstep o2 b3 o2.size
  replace b3 := tstep b2 b3 b2.size
  have B9 := B3.lt
  have k0 := B3.cell 0
  have k6 := B3.cell 6
  simp only [List.getElem?_toArray, List.getElem?_cons_zero, List.getElem?_cons_succ] at k0 k6
  clear B7 B8 B2 B3 o2 b2
  go_wp2_with fail
  refine (CP.out x6 _).mono ?_
  rintro e w4 ⟨rfl, rfl⟩
  rw [HP.out.1]
  have cc1 := CC.out _ o3
  go_wp2_with fail
  refine cc1.mono ?_
  rintro e w5 ⟨rfl, b5⟩
  have o5 := tstep o3 b5 o3.size
  replace b5 := tstep b3 b5 b3.size
  clear cc1 o3 b3 k0 k6
  have k13 := (CE.out _ o5).1
  have kl := (CE.out _ o5).2.2
  have cd1 := CD.out _ o5
  go_wp2_with fail
  refine cd1.mono ?_
  rintro e w7 ⟨rfl, b7⟩
  have o7 := tstep o5 b7 o5.size
  replace b7 := tstep b5 b7 b5.size
  clear cd1 k13 kl o5 b5
  have k14 := (CE.out _ o7).2.1
  have kl := (CE.out _ o7).2.2
  go_wp2_with fail
  refine (CP.out gd _).mono ?_
  rintro e w8 ⟨rfl, rfl⟩
  rw [HD.out.1]
  clear CP
  go_wp2
  go_ret
  refine ⟨congrArg (fun z => Ending.returned (Value.int .i64 z)) ?_, b7⟩
  have h1 := HP.out.2
  have h2 := HC.out.2
  have h3 := HD.out.2
  have h4 := HR.out
  try unfold wrap64
  omega
set_option maxHeartbeats 1000000 in
theorem pof_pnn (x1 x2 x3 x4 x5 x6 g0 g1 g2 g3 g4 g5 g6 g7 g8 g9 g10 g11 g12 gc gd g15 g16 g17 P C D r : Int) (gb : Bool) (v : Value) (b : Int) (w : World)
    (b0 : Below w.heap.size w (w.alloc (.cells #[.int .i64 g0, .int .i64 g1, .int .i64 g2, .int .i64 g3, .int .i64 g4, .int .i64 g5, .int .i64 g6, .int .i64 g7, .int .i64 g8, .int .i64 g9, .int .i64 g10, .int .i64 g11, .int .i64 g12, .int .i64 gc, .int .i64 gd, .int .i64 g15, .int .i64 g16, .int .i64 g17, .bool gb] 24)))
    (ca : Calls Try.prog 20 #[v, .int .i64 b] (w.alloc (.cells #[.int .i64 g0, .int .i64 g1, .int .i64 g2, .int .i64 g3, .int .i64 g4, .int .i64 g5, .int .i64 g6, .int .i64 g7, .int .i64 g8, .int .i64 g9, .int .i64 g10, .int .i64 g11, .int .i64 g12, .int .i64 gc, .int .i64 gd, .int .i64 g15, .int .i64 g16, .int .i64 g17, .bool gb] 24)) fun e w' => e = .returned (.tuple #[.agg #[.int .i64 3, .int .i64 x1, .int .i64 x2, .int .i64 x3, .int .i64 x4, .int .i64 x5, .int .i64 x6], .bool true]) ∧ Below (w.alloc (.cells #[.int .i64 g0, .int .i64 g1, .int .i64 g2, .int .i64 g3, .int .i64 g4, .int .i64 g5, .int .i64 g6, .int .i64 g7, .int .i64 g8, .int .i64 g9, .int .i64 g10, .int .i64 g11, .int .i64 g12, .int .i64 gc, .int .i64 gd, .int .i64 g15, .int .i64 g16, .int .i64 g17, .bool gb] 24)).heap.size (w.alloc (.cells #[.int .i64 g0, .int .i64 g1, .int .i64 g2, .int .i64 g3, .int .i64 g4, .int .i64 g5, .int .i64 g6, .int .i64 g7, .int .i64 g8, .int .i64 g9, .int .i64 g10, .int .i64 g11, .int .i64 g12, .int .i64 gc, .int .i64 gd, .int .i64 g15, .int .i64 g16, .int .i64 g17, .bool gb] 24)) w')
    (CM : Hid (∀ x, Old (w.alloc (.cells #[.int .i64 g0, .int .i64 g1, .int .i64 g2, .int .i64 g3, .int .i64 g4, .int .i64 g5, .int .i64 g6, .int .i64 g7, .int .i64 g8, .int .i64 g9, .int .i64 g10, .int .i64 g11, .int .i64 g12, .int .i64 gc, .int .i64 gd, .int .i64 g15, .int .i64 g16, .int .i64 g17, .bool gb] 24)) x → Calls Try.prog 21 #[v, .int .i64 b] x fun e w' => e = .returned (.bool true) ∧ Below x.heap.size x w'))
    (CF : Hid (∀ x, Calls Try.prog 22 #[.agg #[.int .i64 3, .int .i64 x1, .int .i64 x2, .int .i64 x3, .int .i64 x4, .int .i64 x5, .int .i64 x6]] x fun e w' => e = .returned (.bool false) ∧ Below x.heap.size x w'))
    (CC : Hid (∀ x, Old (w.alloc (.cells #[.int .i64 g0, .int .i64 g1, .int .i64 g2, .int .i64 g3, .int .i64 g4, .int .i64 g5, .int .i64 g6, .int .i64 g7, .int .i64 g8, .int .i64 g9, .int .i64 g10, .int .i64 g11, .int .i64 g12, .int .i64 gc, .int .i64 gd, .int .i64 g15, .int .i64 g16, .int .i64 g17, .bool gb] 24)) x → Calls Try.prog 14 #[v, .int .i64 b] x fun e w' => e = .returned (.bool false) ∧ Below x.heap.size x w'))
    (CD : Hid (∀ x, Old (w.alloc (.cells #[.int .i64 g0, .int .i64 g1, .int .i64 g2, .int .i64 g3, .int .i64 g4, .int .i64 g5, .int .i64 g6, .int .i64 g7, .int .i64 g8, .int .i64 g9, .int .i64 g10, .int .i64 g11, .int .i64 g12, .int .i64 gc, .int .i64 gd, .int .i64 g15, .int .i64 g16, .int .i64 g17, .bool gb] 24)) x → Calls Try.prog 16 #[v, .int .i64 b] x fun e w' => e = .returned (.bool false) ∧ Below x.heap.size x w'))
    (CP : Hid (∀ n x, Calls Try.prog 23 #[.int .i64 n] x fun e w' => e = .returned (.int .i64 (max n 0)) ∧ w' = x))
    (CE : Hid (∀ x, Old (w.alloc (.cells #[.int .i64 g0, .int .i64 g1, .int .i64 g2, .int .i64 g3, .int .i64 g4, .int .i64 g5, .int .i64 g6, .int .i64 g7, .int .i64 g8, .int .i64 g9, .int .i64 g10, .int .i64 g11, .int .i64 g12, .int .i64 gc, .int .i64 gd, .int .i64 g15, .int .i64 g16, .int .i64 g17, .bool gb] 24)) x → x.cell? ⟨w.heap.size, 13, none⟩ = some (.int .i64 gc) ∧ x.cell? ⟨w.heap.size, 14, none⟩ = some (.int .i64 gd) ∧ w.heap.size < x.heap.size))
    (HP : Hid (max x6 0 = P ∧ 0 ≤ P ∧ P ≤ 1099511627776)) (HC : Hid (max gc 0 = C ∧ True)) (HD : Hid (max gd 0 = D ∧ True)) (HR : Hid (r = P)) :
    Calls Try.prog 8 #[.agg #[.int .i64 g0, .int .i64 g1, .int .i64 g2, .int .i64 g3, .int .i64 g4, .int .i64 g5, .int .i64 g6, .int .i64 g7, .int .i64 g8, .int .i64 g9, .int .i64 g10, .int .i64 g11, .int .i64 g12, .int .i64 gc, .int .i64 gd, .int .i64 g15, .int .i64 g16, .int .i64 g17, .bool gb], v, .int .i64 b] w fun e w' => e = .returned (.int .i64 r) ∧ Below w.heap.size w w' := by
  go_enter Try.func8, Try.ntmps8
  go_wp2_with fail
  refine ca.mono ?_
  rintro e w1 ⟨rfl, b1⟩
  have b2 := b1.alloc b1.size (.cells #[.int .i64 3, .int .i64 x1, .int .i64 x2, .int .i64 x3, .int .i64 x4, .int .i64 x5, .int .i64 x6] 28)
  have B := blk_new w1 #[.int .i64 3, .int .i64 x1, .int .i64 x2, .int .i64 x3, .int .i64 x4, .int .i64 x5, .int .i64 x6] 28
  have cm1 := CM.out _ b2
  replace b1 := tstep b0 b2 b0.size
  have o1 := b2
  clear ca b2
  go_wp2_with fail
  refine cm1.mono ?_
  rintro e w2 ⟨rfl, b2⟩
  have B2 := B.old b2
  have o2 := tstep o1 b2 o1.size
  replace b2 := tstep b1 b2 b1.size
  have B7 := B2.seven
  have B8 := B2.lt
  clear cm1 B o1 b1
  go_wp2_with fail
  refine (CF.out _).mono ?_
  rintro e w3 ⟨rfl, b3⟩
  have B3 := B2.old b3
  have o3 := tstep o2 b3 o2.size
  replace b3 := tstep b2 b3 b2.size
  have B9 := B3.lt
  have k0 := B3.cell 0
  have k6 := B3.cell 6
  simp only [List.getElem?_toArray, List.getElem?_cons_zero, List.getElem?_cons_succ] at k0 k6
  clear B7 B8 B2 B3 o2 b2
  go_wp2_with fail
  refine (CP.out x6 _).mono ?_
  rintro e w4 ⟨rfl, rfl⟩
  rw [HP.out.1]
  have cc1 := CC.out _ o3
  go_wp2_with fail
  refine cc1.mono ?_
  rintro e w5 ⟨rfl, b5⟩
  have o5 := tstep o3 b5 o3.size
  replace b5 := tstep b3 b5 b3.size
  clear cc1 o3 b3 k0 k6
  have k13 := (CE.out _ o5).1
  have kl := (CE.out _ o5).2.2
  have cd1 := CD.out _ o5
  go_wp2_with fail
  refine cd1.mono ?_
  rintro e w7 ⟨rfl, b7⟩
  have o7 := tstep o5 b7 o5.size
  replace b7 := tstep b5 b7 b5.size
  clear cd1 k13 kl o5 b5
  have k14 := (CE.out _ o7).2.1
  have kl := (CE.out _ o7).2.2
  clear CP
  go_wp2
  go_ret
  refine ⟨congrArg (fun z => Ending.returned (Value.int .i64 z)) ?_, b7⟩
  have h1 := HP.out.2
  have h2 := HC.out.2
  have h3 := HD.out.2
  have h4 := HR.out
  try unfold wrap64
  omega
set_option maxHeartbeats 1000000 in
theorem pof_ncw (x0 x1 x2 x3 x4 x5 x6 g0 g1 g2 g3 g4 g5 g6 g7 g8 g9 g10 g11 g12 gc gd g15 g16 g17 P C D r : Int) (gb : Bool) (v : Value) (b : Int) (w : World)
    (f1 : (x0 == 3) = false)
    (b0 : Below w.heap.size w (w.alloc (.cells #[.int .i64 g0, .int .i64 g1, .int .i64 g2, .int .i64 g3, .int .i64 g4, .int .i64 g5, .int .i64 g6, .int .i64 g7, .int .i64 g8, .int .i64 g9, .int .i64 g10, .int .i64 g11, .int .i64 g12, .int .i64 gc, .int .i64 gd, .int .i64 g15, .int .i64 g16, .int .i64 g17, .bool gb] 24)))
    (ca : Calls Try.prog 20 #[v, .int .i64 b] (w.alloc (.cells #[.int .i64 g0, .int .i64 g1, .int .i64 g2, .int .i64 g3, .int .i64 g4, .int .i64 g5, .int .i64 g6, .int .i64 g7, .int .i64 g8, .int .i64 g9, .int .i64 g10, .int .i64 g11, .int .i64 g12, .int .i64 gc, .int .i64 gd, .int .i64 g15, .int .i64 g16, .int .i64 g17, .bool gb] 24)) fun e w' => e = .returned (.tuple #[.agg #[.int .i64 x0, .int .i64 x1, .int .i64 x2, .int .i64 x3, .int .i64 x4, .int .i64 x5, .int .i64 x6], .bool true]) ∧ Below (w.alloc (.cells #[.int .i64 g0, .int .i64 g1, .int .i64 g2, .int .i64 g3, .int .i64 g4, .int .i64 g5, .int .i64 g6, .int .i64 g7, .int .i64 g8, .int .i64 g9, .int .i64 g10, .int .i64 g11, .int .i64 g12, .int .i64 gc, .int .i64 gd, .int .i64 g15, .int .i64 g16, .int .i64 g17, .bool gb] 24)).heap.size (w.alloc (.cells #[.int .i64 g0, .int .i64 g1, .int .i64 g2, .int .i64 g3, .int .i64 g4, .int .i64 g5, .int .i64 g6, .int .i64 g7, .int .i64 g8, .int .i64 g9, .int .i64 g10, .int .i64 g11, .int .i64 g12, .int .i64 gc, .int .i64 gd, .int .i64 g15, .int .i64 g16, .int .i64 g17, .bool gb] 24)) w')
    (CM : Hid (∀ x, Old (w.alloc (.cells #[.int .i64 g0, .int .i64 g1, .int .i64 g2, .int .i64 g3, .int .i64 g4, .int .i64 g5, .int .i64 g6, .int .i64 g7, .int .i64 g8, .int .i64 g9, .int .i64 g10, .int .i64 g11, .int .i64 g12, .int .i64 gc, .int .i64 gd, .int .i64 g15, .int .i64 g16, .int .i64 g17, .bool gb] 24)) x → Calls Try.prog 21 #[v, .int .i64 b] x fun e w' => e = .returned (.bool true) ∧ Below x.heap.size x w'))
    (CF : Hid (∀ x, Calls Try.prog 22 #[.agg #[.int .i64 x0, .int .i64 x1, .int .i64 x2, .int .i64 x3, .int .i64 x4, .int .i64 x5, .int .i64 x6]] x fun e w' => e = .returned (.bool false) ∧ Below x.heap.size x w'))
    (CC : Hid (∀ x, Old (w.alloc (.cells #[.int .i64 g0, .int .i64 g1, .int .i64 g2, .int .i64 g3, .int .i64 g4, .int .i64 g5, .int .i64 g6, .int .i64 g7, .int .i64 g8, .int .i64 g9, .int .i64 g10, .int .i64 g11, .int .i64 g12, .int .i64 gc, .int .i64 gd, .int .i64 g15, .int .i64 g16, .int .i64 g17, .bool gb] 24)) x → Calls Try.prog 14 #[v, .int .i64 b] x fun e w' => e = .returned (.bool true) ∧ Below x.heap.size x w'))
    (CD : Hid (∀ x, Old (w.alloc (.cells #[.int .i64 g0, .int .i64 g1, .int .i64 g2, .int .i64 g3, .int .i64 g4, .int .i64 g5, .int .i64 g6, .int .i64 g7, .int .i64 g8, .int .i64 g9, .int .i64 g10, .int .i64 g11, .int .i64 g12, .int .i64 gc, .int .i64 gd, .int .i64 g15, .int .i64 g16, .int .i64 g17, .bool gb] 24)) x → Calls Try.prog 16 #[v, .int .i64 b] x fun e w' => e = .returned (.bool true) ∧ Below x.heap.size x w'))
    (CP : Hid (∀ n x, Calls Try.prog 23 #[.int .i64 n] x fun e w' => e = .returned (.int .i64 (max n 0)) ∧ w' = x))
    (CE : Hid (∀ x, Old (w.alloc (.cells #[.int .i64 g0, .int .i64 g1, .int .i64 g2, .int .i64 g3, .int .i64 g4, .int .i64 g5, .int .i64 g6, .int .i64 g7, .int .i64 g8, .int .i64 g9, .int .i64 g10, .int .i64 g11, .int .i64 g12, .int .i64 gc, .int .i64 gd, .int .i64 g15, .int .i64 g16, .int .i64 g17, .bool gb] 24)) x → x.cell? ⟨w.heap.size, 13, none⟩ = some (.int .i64 gc) ∧ x.cell? ⟨w.heap.size, 14, none⟩ = some (.int .i64 gd) ∧ w.heap.size < x.heap.size))
    (HP : Hid (max x6 0 = P ∧ True)) (HC : Hid (max gc 0 = C ∧ 0 ≤ C ∧ C ≤ 1099511627776)) (HD : Hid (max gd 0 = D ∧ 0 ≤ D ∧ D ≤ 1099511627776)) (HR : Hid (r = 0 + C + D)) :
    Calls Try.prog 8 #[.agg #[.int .i64 g0, .int .i64 g1, .int .i64 g2, .int .i64 g3, .int .i64 g4, .int .i64 g5, .int .i64 g6, .int .i64 g7, .int .i64 g8, .int .i64 g9, .int .i64 g10, .int .i64 g11, .int .i64 g12, .int .i64 gc, .int .i64 gd, .int .i64 g15, .int .i64 g16, .int .i64 g17, .bool gb], v, .int .i64 b] w fun e w' => e = .returned (.int .i64 r) ∧ Below w.heap.size w w' := by
  go_enter Try.func8, Try.ntmps8
  go_wp2_with fail
  refine ca.mono ?_
  rintro e w1 ⟨rfl, b1⟩
  have b2 := b1.alloc b1.size (.cells #[.int .i64 x0, .int .i64 x1, .int .i64 x2, .int .i64 x3, .int .i64 x4, .int .i64 x5, .int .i64 x6] 28)
  have B := blk_new w1 #[.int .i64 x0, .int .i64 x1, .int .i64 x2, .int .i64 x3, .int .i64 x4, .int .i64 x5, .int .i64 x6] 28
  have cm1 := CM.out _ b2
  replace b1 := tstep b0 b2 b0.size
  have o1 := b2
  clear ca b2
  go_wp2_with fail
  refine cm1.mono ?_
  rintro e w2 ⟨rfl, b2⟩
  have B2 := B.old b2
  have o2 := tstep o1 b2 o1.size
  replace b2 := tstep b1 b2 b1.size
  have B7 := B2.seven
  have B8 := B2.lt
  clear cm1 B o1 b1
  go_wp2_with fail
  refine (CF.out _).mono ?_
  rintro e w3 ⟨rfl, b3⟩
  have B3 := B2.old b3
  have o3 := tstep o2 b3 o2.size
  replace b3 := tstep b2 b3 b2.size
  have B9 := B3.lt
  have k0 := B3.cell 0
  have k6 := B3.cell 6
  simp only [List.getElem?_toArray, List.getElem?_cons_zero, List.getElem?_cons_succ] at k0 k6
  clear B7 B8 B2 B3 o2 b2
  have cc1 := CC.out _ o3
  go_wp2_with fail
  refine cc1.mono ?_
  rintro e w5 ⟨rfl, b5⟩
  have o5 := tstep o3 b5 o3.size
  replace b5 := tstep b3 b5 b3.size
  clear cc1 o3 b3 k0 k6
  have k13 := (CE.out _ o5).1
  have kl := (CE.out _ o5).2.2
  go_wp2_with fail
  refine (CP.out gc _).mono ?_
  rintro e w6 ⟨rfl, rfl⟩
  rw [HC.out.1]
  have cd1 := CD.out _ o5
  go_wp2_with fail
  refine cd1.mono ?_
  rintro e w7 ⟨rfl, b7⟩
  have o7 := tstep o5 b7 o5.size
  replace b7 := tstep b5 b7 b5.size
  clear cd1 k13 kl o5 b5
  have k14 := (CE.out _ o7).2.1
  have kl := (CE.out _ o7).2.2
  go_wp2_with fail
  refine (CP.out gd _).mono ?_
  rintro e w8 ⟨rfl, rfl⟩
  rw [HD.out.1]
  clear CP
  go_wp2
  go_ret
  refine ⟨congrArg (fun z => Ending.returned (Value.int .i64 z)) ?_, b7⟩
  have h1 := HP.out.2
  have h2 := HC.out.2
  have h3 := HD.out.2
  have h4 := HR.out
  try unfold wrap64
  omega
set_option maxHeartbeats 1000000 in
theorem pof_ncn (x0 x1 x2 x3 x4 x5 x6 g0 g1 g2 g3 g4 g5 g6 g7 g8 g9 g10 g11 g12 gc gd g15 g16 g17 P C D r : Int) (gb : Bool) (v : Value) (b : Int) (w : World)
    (f1 : (x0 == 3) = false)
    (b0 : Below w.heap.size w (w.alloc (.cells #[.int .i64 g0, .int .i64 g1, .int .i64 g2, .int .i64 g3, .int .i64 g4, .int .i64 g5, .int .i64 g6, .int .i64 g7, .int .i64 g8, .int .i64 g9, .int .i64 g10, .int .i64 g11, .int .i64 g12, .int .i64 gc, .int .i64 gd, .int .i64 g15, .int .i64 g16, .int .i64 g17, .bool gb] 24)))
    (ca : Calls Try.prog 20 #[v, .int .i64 b] (w.alloc (.cells #[.int .i64 g0, .int .i64 g1, .int .i64 g2, .int .i64 g3, .int .i64 g4, .int .i64 g5, .int .i64 g6, .int .i64 g7, .int .i64 g8, .int .i64 g9, .int .i64 g10, .int .i64 g11, .int .i64 g12, .int .i64 gc, .int .i64 gd, .int .i64 g15, .int .i64 g16, .int .i64 g17, .bool gb] 24)) fun e w' => e = .returned (.tuple #[.agg #[.int .i64 x0, .int .i64 x1, .int .i64 x2, .int .i64 x3, .int .i64 x4, .int .i64 x5, .int .i64 x6], .bool true]) ∧ Below (w.alloc (.cells #[.int .i64 g0, .int .i64 g1, .int .i64 g2, .int .i64 g3, .int .i64 g4, .int .i64 g5, .int .i64 g6, .int .i64 g7, .int .i64 g8, .int .i64 g9, .int .i64 g10, .int .i64 g11, .int .i64 g12, .int .i64 gc, .int .i64 gd, .int .i64 g15, .int .i64 g16, .int .i64 g17, .bool gb] 24)).heap.size (w.alloc (.cells #[.int .i64 g0, .int .i64 g1, .int .i64 g2, .int .i64 g3, .int .i64 g4, .int .i64 g5, .int .i64 g6, .int .i64 g7, .int .i64 g8, .int .i64 g9, .int .i64 g10, .int .i64 g11, .int .i64 g12, .int .i64 gc, .int .i64 gd, .int .i64 g15, .int .i64 g16, .int .i64 g17, .bool gb] 24)) w')
    (CM : Hid (∀ x, Old (w.alloc (.cells #[.int .i64 g0, .int .i64 g1, .int .i64 g2, .int .i64 g3, .int .i64 g4, .int .i64 g5, .int .i64 g6, .int .i64 g7, .int .i64 g8, .int .i64 g9, .int .i64 g10, .int .i64 g11, .int .i64 g12, .int .i64 gc, .int .i64 gd, .int .i64 g15, .int .i64 g16, .int .i64 g17, .bool gb] 24)) x → Calls Try.prog 21 #[v, .int .i64 b] x fun e w' => e = .returned (.bool true) ∧ Below x.heap.size x w'))
    (CF : Hid (∀ x, Calls Try.prog 22 #[.agg #[.int .i64 x0, .int .i64 x1, .int .i64 x2, .int .i64 x3, .int .i64 x4, .int .i64 x5, .int .i64 x6]] x fun e w' => e = .returned (.bool false) ∧ Below x.heap.size x w'))
    (CC : Hid (∀ x, Old (w.alloc (.cells #[.int .i64 g0, .int .i64 g1, .int .i64 g2, .int .i64 g3, .int .i64 g4, .int .i64 g5, .int .i64 g6, .int .i64 g7, .int .i64 g8, .int .i64 g9, .int .i64 g10, .int .i64 g11, .int .i64 g12, .int .i64 gc, .int .i64 gd, .int .i64 g15, .int .i64 g16, .int .i64 g17, .bool gb] 24)) x → Calls Try.prog 14 #[v, .int .i64 b] x fun e w' => e = .returned (.bool true) ∧ Below x.heap.size x w'))
    (CD : Hid (∀ x, Old (w.alloc (.cells #[.int .i64 g0, .int .i64 g1, .int .i64 g2, .int .i64 g3, .int .i64 g4, .int .i64 g5, .int .i64 g6, .int .i64 g7, .int .i64 g8, .int .i64 g9, .int .i64 g10, .int .i64 g11, .int .i64 g12, .int .i64 gc, .int .i64 gd, .int .i64 g15, .int .i64 g16, .int .i64 g17, .bool gb] 24)) x → Calls Try.prog 16 #[v, .int .i64 b] x fun e w' => e = .returned (.bool false) ∧ Below x.heap.size x w'))
    (CP : Hid (∀ n x, Calls Try.prog 23 #[.int .i64 n] x fun e w' => e = .returned (.int .i64 (max n 0)) ∧ w' = x))
    (CE : Hid (∀ x, Old (w.alloc (.cells #[.int .i64 g0, .int .i64 g1, .int .i64 g2, .int .i64 g3, .int .i64 g4, .int .i64 g5, .int .i64 g6, .int .i64 g7, .int .i64 g8, .int .i64 g9, .int .i64 g10, .int .i64 g11, .int .i64 g12, .int .i64 gc, .int .i64 gd, .int .i64 g15, .int .i64 g16, .int .i64 g17, .bool gb] 24)) x → x.cell? ⟨w.heap.size, 13, none⟩ = some (.int .i64 gc) ∧ x.cell? ⟨w.heap.size, 14, none⟩ = some (.int .i64 gd) ∧ w.heap.size < x.heap.size))
    (HP : Hid (max x6 0 = P ∧ True)) (HC : Hid (max gc 0 = C ∧ 0 ≤ C ∧ C ≤ 1099511627776)) (HD : Hid (max gd 0 = D ∧ True)) (HR : Hid (r = 0 + C)) :
    Calls Try.prog 8 #[.agg #[.int .i64 g0, .int .i64 g1, .int .i64 g2, .int .i64 g3, .int .i64 g4, .int .i64 g5, .int .i64 g6, .int .i64 g7, .int .i64 g8, .int .i64 g9, .int .i64 g10, .int .i64 g11, .int .i64 g12, .int .i64 gc, .int .i64 gd, .int .i64 g15, .int .i64 g16, .int .i64 g17, .bool gb], v, .int .i64 b] w fun e w' => e = .returned (.int .i64 r) ∧ Below w.heap.size w w' := by
  go_enter Try.func8, Try.ntmps8
  go_wp2_with fail
  refine ca.mono ?_
  rintro e w1 ⟨rfl, b1⟩
  have b2 := b1.alloc b1.size (.cells #[.int .i64 x0, .int .i64 x1, .int .i64 x2, .int .i64 x3, .int .i64 x4, .int .i64 x5, .int .i64 x6] 28)
  have B := blk_new w1 #[.int .i64 x0, .int .i64 x1, .int .i64 x2, .int .i64 x3, .int .i64 x4, .int .i64 x5, .int .i64 x6] 28
  have cm1 := CM.out _ b2
  replace b1 := tstep b0 b2 b0.size
  have o1 := b2
  clear ca b2
  go_wp2_with fail
  refine cm1.mono ?_
  rintro e w2 ⟨rfl, b2⟩
  have B2 := B.old b2
  have o2 := tstep o1 b2 o1.size
  replace b2 := tstep b1 b2 b1.size
  have B7 := B2.seven
  have B8 := B2.lt
  clear cm1 B o1 b1
  go_wp2_with fail
  refine (CF.out _).mono ?_
  rintro e w3 ⟨rfl, b3⟩
  have B3 := B2.old b3
  have o3 := tstep o2 b3 o2.size
  replace b3 := tstep b2 b3 b2.size
  have B9 := B3.lt
  have k0 := B3.cell 0
  have k6 := B3.cell 6
  simp only [List.getElem?_toArray, List.getElem?_cons_zero, List.getElem?_cons_succ] at k0 k6
  clear B7 B8 B2 B3 o2 b2
  have cc1 := CC.out _ o3
  go_wp2_with fail
  refine cc1.mono ?_
  rintro e w5 ⟨rfl, b5⟩
  have o5 := tstep o3 b5 o3.size
  replace b5 := tstep b3 b5 b3.size
  clear cc1 o3 b3 k0 k6
  have k13 := (CE.out _ o5).1
  have kl := (CE.out _ o5).2.2
  go_wp2_with fail
  refine (CP.out gc _).mono ?_
  rintro e w6 ⟨rfl, rfl⟩
  rw [HC.out.1]
  have cd1 := CD.out _ o5
  go_wp2_with fail
  refine cd1.mono ?_
  rintro e w7 ⟨rfl, b7⟩
  have o7 := tstep o5 b7 o5.size
  replace b7 := tstep b5 b7 b5.size
  clear cd1 k13 kl o5 b5
  have k14 := (CE.out _ o7).2.1
  have kl := (CE.out _ o7).2.2
  clear CP
  go_wp2
  go_ret
  refine ⟨congrArg (fun z => Ending.returned (Value.int .i64 z)) ?_, b7⟩
  have h1 := HP.out.2
  have h2 := HC.out.2
  have h3 := HD.out.2
  have h4 := HR.out
  try unfold wrap64
  omega
set_option maxHeartbeats 1000000 in
theorem pof_nnw (x0 x1 x2 x3 x4 x5 x6 g0 g1 g2 g3 g4 g5 g6 g7 g8 g9 g10 g11 g12 gc gd g15 g16 g17 P C D r : Int) (gb : Bool) (v : Value) (b : Int) (w : World)
    (f1 : (x0 == 3) = false)
    (b0 : Below w.heap.size w (w.alloc (.cells #[.int .i64 g0, .int .i64 g1, .int .i64 g2, .int .i64 g3, .int .i64 g4, .int .i64 g5, .int .i64 g6, .int .i64 g7, .int .i64 g8, .int .i64 g9, .int .i64 g10, .int .i64 g11, .int .i64 g12, .int .i64 gc, .int .i64 gd, .int .i64 g15, .int .i64 g16, .int .i64 g17, .bool gb] 24)))
    (ca : Calls Try.prog 20 #[v, .int .i64 b] (w.alloc (.cells #[.int .i64 g0, .int .i64 g1, .int .i64 g2, .int .i64 g3, .int .i64 g4, .int .i64 g5, .int .i64 g6, .int .i64 g7, .int .i64 g8, .int .i64 g9, .int .i64 g10, .int .i64 g11, .int .i64 g12, .int .i64 gc, .int .i64 gd, .int .i64 g15, .int .i64 g16, .int .i64 g17, .bool gb] 24)) fun e w' => e = .returned (.tuple #[.agg #[.int .i64 x0, .int .i64 x1, .int .i64 x2, .int .i64 x3, .int .i64 x4, .int .i64 x5, .int .i64 x6], .bool true]) ∧ Below (w.alloc (.cells #[.int .i64 g0, .int .i64 g1, .int .i64 g2, .int .i64 g3, .int .i64 g4, .int .i64 g5, .int .i64 g6, .int .i64 g7, .int .i64 g8, .int .i64 g9, .int .i64 g10, .int .i64 g11, .int .i64 g12, .int .i64 gc, .int .i64 gd, .int .i64 g15, .int .i64 g16, .int .i64 g17, .bool gb] 24)).heap.size (w.alloc (.cells #[.int .i64 g0, .int .i64 g1, .int .i64 g2, .int .i64 g3, .int .i64 g4, .int .i64 g5, .int .i64 g6, .int .i64 g7, .int .i64 g8, .int .i64 g9, .int .i64 g10, .int .i64 g11, .int .i64 g12, .int .i64 gc, .int .i64 gd, .int .i64 g15, .int .i64 g16, .int .i64 g17, .bool gb] 24)) w')
    (CM : Hid (∀ x, Old (w.alloc (.cells #[.int .i64 g0, .int .i64 g1, .int .i64 g2, .int .i64 g3, .int .i64 g4, .int .i64 g5, .int .i64 g6, .int .i64 g7, .int .i64 g8, .int .i64 g9, .int .i64 g10, .int .i64 g11, .int .i64 g12, .int .i64 gc, .int .i64 gd, .int .i64 g15, .int .i64 g16, .int .i64 g17, .bool gb] 24)) x → Calls Try.prog 21 #[v, .int .i64 b] x fun e w' => e = .returned (.bool true) ∧ Below x.heap.size x w'))
    (CF : Hid (∀ x, Calls Try.prog 22 #[.agg #[.int .i64 x0, .int .i64 x1, .int .i64 x2, .int .i64 x3, .int .i64 x4, .int .i64 x5, .int .i64 x6]] x fun e w' => e = .returned (.bool false) ∧ Below x.heap.size x w'))
    (CC : Hid (∀ x, Old (w.alloc (.cells #[.int .i64 g0, .int .i64 g1, .int .i64 g2, .int .i64 g3, .int .i64 g4, .int .i64 g5, .int .i64 g6, .int .i64 g7, .int .i64 g8, .int .i64 g9, .int .i64 g10, .int .i64 g11, .int .i64 g12, .int .i64 gc, .int .i64 gd, .int .i64 g15, .int .i64 g16, .int .i64 g17, .bool gb] 24)) x → Calls Try.prog 14 #[v, .int .i64 b] x fun e w' => e = .returned (.bool false) ∧ Below x.heap.size x w'))
    (CD : Hid (∀ x, Old (w.alloc (.cells #[.int .i64 g0, .int .i64 g1, .int .i64 g2, .int .i64 g3, .int .i64 g4, .int .i64 g5, .int .i64 g6, .int .i64 g7, .int .i64 g8, .int .i64 g9, .int .i64 g10, .int .i64 g11, .int .i64 g12, .int .i64 gc, .int .i64 gd, .int .i64 g15, .int .i64 g16, .int .i64 g17, .bool gb] 24)) x → Calls Try.prog 16 #[v, .int .i64 b] x fun e w' => e = .returned (.bool true) ∧ Below x.heap.size x w'))
    (CP : Hid (∀ n x, Calls Try.prog 23 #[.int .i64 n] x fun e w' => e = .returned (.int .i64 (max n 0)) ∧ w' = x))
    (CE : Hid (∀ x, Old (w.alloc (.cells #[.int .i64 g0, .int .i64 g1, .int .i64 g2, .int .i64 g3, .int .i64 g4, .int .i64 g5, .int .i64 g6, .int .i64 g7, .int .i64 g8, .int .i64 g9, .int .i64 g10, .int .i64 g11, .int .i64 g12, .int .i64 gc, .int .i64 gd, .int .i64 g15, .int .i64 g16, .int .i64 g17, .bool gb] 24)) x → x.cell? ⟨w.heap.size, 13, none⟩ = some (.int .i64 gc) ∧ x.cell? ⟨w.heap.size, 14, none⟩ = some (.int .i64 gd) ∧ w.heap.size < x.heap.size))
    (HP : Hid (max x6 0 = P ∧ True)) (HC : Hid (max gc 0 = C ∧ True)) (HD : Hid (max gd 0 = D ∧ 0 ≤ D ∧ D ≤ 1099511627776)) (HR : Hid (r = 0 + D)) :
    Calls Try.prog 8 #[.agg #[.int .i64 g0, .int .i64 g1, .int .i64 g2, .int .i64 g3, .int .i64 g4, .int .i64 g5, .int .i64 g6, .int .i64 g7, .int .i64 g8, .int .i64 g9, .int .i64 g10, .int .i64 g11, .int .i64 g12, .int .i64 gc, .int .i64 gd, .int .i64 g15, .int .i64 g16, .int .i64 g17, .bool gb], v, .int .i64 b] w fun e w' => e = .returned (.int .i64 r) ∧ Below w.heap.size w w' := by
  go_enter Try.func8, Try.ntmps8
  go_wp2_with fail
  refine ca.mono ?_
  rintro e w1 ⟨rfl, b1⟩
  have b2 := b1.alloc b1.size (.cells #[.int .i64 x0, .int .i64 x1, .int .i64 x2, .int .i64 x3, .int .i64 x4, .int .i64 x5, .int .i64 x6] 28)
  have B := blk_new w1 #[.int .i64 x0, .int .i64 x1, .int .i64 x2, .int .i64 x3, .int .i64 x4, .int .i64 x5, .int .i64 x6] 28
  have cm1 := CM.out _ b2
  replace b1 := tstep b0 b2 b0.size
  have o1 := b2
  clear ca b2
  go_wp2_with fail
  refine cm1.mono ?_
  rintro e w2 ⟨rfl, b2⟩
  have B2 := B.old b2
  have o2 := tstep o1 b2 o1.size
  replace b2 := tstep b1 b2 b1.size
  have B7 := B2.seven
  have B8 := B2.lt
  clear cm1 B o1 b1
  go_wp2_with fail
  refine (CF.out _).mono ?_
  rintro e w3 ⟨rfl, b3⟩
  have B3 := B2.old b3
  have o3 := tstep o2 b3 o2.size
  replace b3 := tstep b2 b3 b2.size
  have B9 := B3.lt
  have k0 := B3.cell 0
  have k6 := B3.cell 6
  simp only [List.getElem?_toArray, List.getElem?_cons_zero, List.getElem?_cons_succ] at k0 k6
  clear B7 B8 B2 B3 o2 b2
  have cc1 := CC.out _ o3
  go_wp2_with fail
  refine cc1.mono ?_
  rintro e w5 ⟨rfl, b5⟩
  have o5 := tstep o3 b5 o3.size
  replace b5 := tstep b3 b5 b3.size
  clear cc1 o3 b3 k0 k6
  have k13 := (CE.out _ o5).1
  have kl := (CE.out _ o5).2.2
  have cd1 := CD.out _ o5
  go_wp2_with fail
  refine cd1.mono ?_
  rintro e w7 ⟨rfl, b7⟩
  have o7 := tstep o5 b7 o5.size
  replace b7 := tstep b5 b7 b5.size
  clear cd1 k13 kl o5 b5
  have k14 := (CE.out _ o7).2.1
  have kl := (CE.out _ o7).2.2
  go_wp2_with fail
  refine (CP.out gd _).mono ?_
  rintro e w8 ⟨rfl, rfl⟩
  rw [HD.out.1]
  clear CP
  go_wp2
  go_ret
  refine ⟨congrArg (fun z => Ending.returned (Value.int .i64 z)) ?_, b7⟩
  have h1 := HP.out.2
  have h2 := HC.out.2
  have h3 := HD.out.2
  have h4 := HR.out
  try unfold wrap64
  omega
set_option maxHeartbeats 1000000 in
theorem pof_nnn (x0 x1 x2 x3 x4 x5 x6 g0 g1 g2 g3 g4 g5 g6 g7 g8 g9 g10 g11 g12 gc gd g15 g16 g17 P C D r : Int) (gb : Bool) (v : Value) (b : Int) (w : World)
    (f1 : (x0 == 3) = false)
    (b0 : Below w.heap.size w (w.alloc (.cells #[.int .i64 g0, .int .i64 g1, .int .i64 g2, .int .i64 g3, .int .i64 g4, .int .i64 g5, .int .i64 g6, .int .i64 g7, .int .i64 g8, .int .i64 g9, .int .i64 g10, .int .i64 g11, .int .i64 g12, .int .i64 gc, .int .i64 gd, .int .i64 g15, .int .i64 g16, .int .i64 g17, .bool gb] 24)))
    (ca : Calls Try.prog 20 #[v, .int .i64 b] (w.alloc (.cells #[.int .i64 g0, .int .i64 g1, .int .i64 g2, .int .i64 g3, .int .i64 g4, .int .i64 g5, .int .i64 g6, .int .i64 g7, .int .i64 g8, .int .i64 g9, .int .i64 g10, .int .i64 g11, .int .i64 g12, .int .i64 gc, .int .i64 gd, .int .i64 g15, .int .i64 g16, .int .i64 g17, .bool gb] 24)) fun e w' => e = .returned (.tuple #[.agg #[.int .i64 x0, .int .i64 x1, .int .i64 x2, .int .i64 x3, .int .i64 x4, .int .i64 x5, .int .i64 x6], .bool true]) ∧ Below (w.alloc (.cells #[.int .i64 g0, .int .i64 g1, .int .i64 g2, .int .i64 g3, .int .i64 g4, .int .i64 g5, .int .i64 g6, .int .i64 g7, .int .i64 g8, .int .i64 g9, .int .i64 g10, .int .i64 g11, .int .i64 g12, .int .i64 gc, .int .i64 gd, .int .i64 g15, .int .i64 g16, .int .i64 g17, .bool gb] 24)).heap.size (w.alloc (.cells #[.int .i64 g0, .int .i64 g1, .int .i64 g2, .int .i64 g3, .int .i64 g4, .int .i64 g5, .int .i64 g6, .int .i64 g7, .int .i64 g8, .int .i64 g9, .int .i64 g10, .int .i64 g11, .int .i64 g12, .int .i64 gc, .int .i64 gd, .int .i64 g15, .int .i64 g16, .int .i64 g17, .bool gb] 24)) w')
    (CM : Hid (∀ x, Old (w.alloc (.cells #[.int .i64 g0, .int .i64 g1, .int .i64 g2, .int .i64 g3, .int .i64 g4, .int .i64 g5, .int .i64 g6, .int .i64 g7, .int .i64 g8, .int .i64 g9, .int .i64 g10, .int .i64 g11, .int .i64 g12, .int .i64 gc, .int .i64 gd, .int .i64 g15, .int .i64 g16, .int .i64 g17, .bool gb] 24)) x → Calls Try.prog 21 #[v, .int .i64 b] x fun e w' => e = .returned (.bool true) ∧ Below x.heap.size x w'))
    (CF : Hid (∀ x, Calls Try.prog 22 #[.agg #[.int .i64 x0, .int .i64 x1, .int .i64 x2, .int .i64 x3, .int .i64 x4, .int .i64 x5, .int .i64 x6]] x fun e w' => e = .returned (.bool false) ∧ Below x.heap.size x w'))
    (CC : Hid (∀ x, Old (w.alloc (.cells #[.int .i64 g0, .int .i64 g1, .int .i64 g2, .int .i64 g3, .int .i64 g4, .int .i64 g5, .int .i64 g6, .int .i64 g7, .int .i64 g8, .int .i64 g9, .int .i64 g10, .int .i64 g11, .int .i64 g12, .int .i64 gc, .int .i64 gd, .int .i64 g15, .int .i64 g16, .int .i64 g17, .bool gb] 24)) x → Calls Try.prog 14 #[v, .int .i64 b] x fun e w' => e = .returned (.bool false) ∧ Below x.heap.size x w'))
    (CD : Hid (∀ x, Old (w.alloc (.cells #[.int .i64 g0, .int .i64 g1, .int .i64 g2, .int .i64 g3, .int .i64 g4, .int .i64 g5, .int .i64 g6, .int .i64 g7, .int .i64 g8, .int .i64 g9, .int .i64 g10, .int .i64 g11, .int .i64 g12, .int .i64 gc, .int .i64 gd, .int .i64 g15, .int .i64 g16, .int .i64 g17, .bool gb] 24)) x → Calls Try.prog 16 #[v, .int .i64 b] x fun e w' => e = .returned (.bool false) ∧ Below x.heap.size x w'))
    (CP : Hid (∀ n x, Calls Try.prog 23 #[.int .i64 n] x fun e w' => e = .returned (.int .i64 (max n 0)) ∧ w' = x))
    (CE : Hid (∀ x, Old (w.alloc (.cells #[.int .i64 g0, .int .i64 g1, .int .i64 g2, .int .i64 g3, .int .i64 g4, .int .i64 g5, .int .i64 g6, .int .i64 g7, .int .i64 g8, .int .i64 g9, .int .i64 g10, .int .i64 g11, .int .i64 g12, .int .i64 gc, .int .i64 gd, .int .i64 g15, .int .i64 g16, .int .i64 g17, .bool gb] 24)) x → x.cell? ⟨w.heap.size, 13, none⟩ = some (.int .i64 gc) ∧ x.cell? ⟨w.heap.size, 14, none⟩ = some (.int .i64 gd) ∧ w.heap.size < x.heap.size))
    (HP : Hid (max x6 0 = P ∧ True)) (HC : Hid (max gc 0 = C ∧ True)) (HD : Hid (max gd 0 = D ∧ True)) (HR : Hid (r = 0)) :
    Calls Try.prog 8 #[.agg #[.int .i64 g0, .int .i64 g1, .int .i64 g2, .int .i64 g3, .int .i64 g4, .int .i64 g5, .int .i64 g6, .int .i64 g7, .int .i64 g8, .int .i64 g9, .int .i64 g10, .int .i64 g11, .int .i64 g12, .int .i64 gc, .int .i64 gd, .int .i64 g15, .int .i64 g16, .int .i64 g17, .bool gb], v, .int .i64 b] w fun e w' => e = .returned (.int .i64 r) ∧ Below w.heap.size w w' := by
  go_enter Try.func8, Try.ntmps8
  go_wp2_with fail
  refine ca.mono ?_
  rintro e w1 ⟨rfl, b1⟩
  have b2 := b1.alloc b1.size (.cells #[.int .i64 x0, .int .i64 x1, .int .i64 x2, .int .i64 x3, .int .i64 x4, .int .i64 x5, .int .i64 x6] 28)
  have B := blk_new w1 #[.int .i64 x0, .int .i64 x1, .int .i64 x2, .int .i64 x3, .int .i64 x4, .int .i64 x5, .int .i64 x6] 28
  have cm1 := CM.out _ b2
  replace b1 := tstep b0 b2 b0.size
  have o1 := b2
  clear ca b2
  go_wp2_with fail
  refine cm1.mono ?_
  rintro e w2 ⟨rfl, b2⟩
  have B2 := B.old b2
  have o2 := tstep o1 b2 o1.size
  replace b2 := tstep b1 b2 b1.size
  have B7 := B2.seven
  have B8 := B2.lt
  clear cm1 B o1 b1
  go_wp2_with fail
  refine (CF.out _).mono ?_
  rintro e w3 ⟨rfl, b3⟩
  have B3 := B2.old b3
  have o3 := tstep o2 b3 o2.size
  replace b3 := tstep b2 b3 b2.size
  have B9 := B3.lt
  have k0 := B3.cell 0
  have k6 := B3.cell 6
  simp only [List.getElem?_toArray, List.getElem?_cons_zero, List.getElem?_cons_succ] at k0 k6
  clear B7 B8 B2 B3 o2 b2
  have cc1 := CC.out _ o3
  go_wp2_with fail
  refine cc1.mono ?_
  rintro e w5 ⟨rfl, b5⟩
  have o5 := tstep o3 b5 o3.size
  replace b5 := tstep b3 b5 b3.size
  clear cc1 o3 b3 k0 k6
  have k13 := (CE.out _ o5).1
  have kl := (CE.out _ o5).2.2
  have cd1 := CD.out _ o5
  go_wp2_with fail
  refine cd1.mono ?_
  rintro e w7 ⟨rfl, b7⟩
  have o7 := tstep o5 b7 o5.size
  replace b7 := tstep b5 b7 b5.size
  clear cd1 k13 kl o5 b5
  have k14 := (CE.out _ o7).2.1
  have kl := (CE.out _ o7).2.2
  clear CP
  go_wp2
  go_ret
  refine ⟨congrArg (fun z => Ending.returned (Value.int .i64 z)) ?_, b7⟩
  have h1 := HP.out.2
  have h2 := HC.out.2
  have h3 := HD.out.2
  have h4 := HR.out
  try unfold wrap64
  omega
end Go.Proofs.Ytopifminodlpbaa
namespace Go.Proofs.Ytopifminodlpbaa
open Go.RowKit
set_option maxRecDepth 20000
set_option linter.unusedVariables false
set_option linter.unusedSimpArgs false

/-- The break at b costs nothing. -/
theorem pof_no (g : G19) (v : Value) (l : List I7) (b : Int) (w : World) (h : VAt w v l) (hl : l.length ≤ 1000000) (hn : inV l b = false) :
    Calls Try.prog 8 #[geo g, v, .int .i64 b] w fun e w' => e = .returned (.int .i64 0) ∧ Below w.heap.size w w' := by
  have b0 := tbel1 w (.cells (geoC g) 24)
  have V := h.carry b0
  clear h
  have ca := vat_any v l b _ V hl
  have cm := fun x (hx : Old (w.alloc (.cells (geoC g) 24)) x) => vmay_any v l b x (V.carry hx) hl
  have cf := fun x => forces_any (atV l b) x
  clear V
  unfold inV at hn
  unfold geoC at *
  unfold geo geoC
  generalize hasV l b = y at *
  generalize mayV l b = m at *
  generalize forcesI (atV l b) = f at *
  generalize atV l b = x at *
  obtain ⟨x0, x1, x2, x3, x4, x5, x6⟩ := x
  unfold itm at ca cf
  dsimp only at ca cf
  cases y
  · clear cm cf
    go_enter Try.func8, Try.ntmps8
    go_wp2_with fail
    refine ca.mono ?_
    rintro e w1 ⟨rfl, b1⟩
    replace b1 := tstep b0 (b1.alloc b1.size (.cells #[.int .i64 x0, .int .i64 x1, .int .i64 x2, .int .i64 x3, .int .i64 x4, .int .i64 x5, .int .i64 x6] 28)) b0.size
    clear ca
    go_wp2
    go_ret
    exact ⟨rfl, b1⟩
  · cases m
    · clear cf
      go_enter Try.func8, Try.ntmps8
      go_wp2_with fail
      refine ca.mono ?_
      rintro e w1 ⟨rfl, b1⟩
      have b2 := b1.alloc b1.size (.cells #[.int .i64 x0, .int .i64 x1, .int .i64 x2, .int .i64 x3, .int .i64 x4, .int .i64 x5, .int .i64 x6] 28)
      replace cm := cm _ b2
      replace b1 := tstep b0 b2 b0.size
      clear ca b2
      go_wp2_with fail
      refine cm.mono ?_
      rintro e w2 ⟨rfl, b2⟩
      replace b2 := tstep b1 b2 b1.size
      clear cm
      go_wp2
      go_ret
      exact ⟨rfl, b2⟩
    · have hf : f = true := by simpa using hn
      subst hf
      go_enter Try.func8, Try.ntmps8
      go_wp2_with fail
      refine ca.mono ?_
      rintro e w1 ⟨rfl, b1⟩
      have b2 := b1.alloc b1.size (.cells #[.int .i64 x0, .int .i64 x1, .int .i64 x2, .int .i64 x3, .int .i64 x4, .int .i64 x5, .int .i64 x6] 28)
      have B := blk_new w1 #[.int .i64 x0, .int .i64 x1, .int .i64 x2, .int .i64 x3, .int .i64 x4, .int .i64 x5, .int .i64 x6] 28
      replace cm := cm _ b2
      replace b1 := tstep b0 b2 b0.size
      clear ca b2
      go_wp2_with fail
      refine cm.mono ?_
      rintro e w2 ⟨rfl, b2⟩
      have B2 := B.old b2
      replace b2 := tstep b1 b2 b1.size
      have B7 := B2.seven
      have B8 := B2.lt
      clear cm B B2
      go_wp2_with fail
      refine (cf _).mono ?_
      rintro e w3 ⟨rfl, b3⟩
      replace b3 := tstep b2 b3 b2.size
      clear cf B7
      go_wp2
      go_ret
      exact ⟨rfl, b3⟩
theorem pen_low {l : List I7} {b : Int} (h : inV l b = true) (hk : (atV l b).k = 3) : (atV l b).n < 10000 := by
  unfold inV at h
  simp only [Bool.and_eq_true] at h
  obtain ⟨⟨h1, h2⟩, _⟩ := h
  have hh := hasV_iff'.1 h1
  unfold mayV at h2
  by_cases h0 : b < 1
  · rw [if_pos h0] at h2; cases h2
  · rw [if_neg h0, if_pos hh.2, if_neg (by omega), if_pos hk] at h2
    unfold forbidsI hasK at h2
    simp [hk] at h2
    omega
/-- What Of tells. -/
theorem pof_any (g : G19) (v : Value) (l : List I7) (b : Int) (w : World) (h : VAt w v l) (hl : l.length ≤ 1000000) (hc : clubV l b = true → g.club ≤ 1099511627776) (hd : widowV l b = true → g.widow ≤ 1099511627776) :
    Calls Try.prog 8 #[geo g, v, .int .i64 b] w fun e w' => e = .returned (.int .i64 (ofV g.club g.widow l b)) ∧ Below w.heap.size w w' := by
  unfold ofV
  by_cases hn : inV l b = true
  · rw [if_pos hn]
    have hp := pen_low hn
    have b0 := tbel1 w (.cells (geoC g) 24)
    have V := h.carry b0
    have G := blk_new w (geoC g) 24
    clear h
    have ca := vat_any v l b _ V hl
    have CM := Lib.hid fun x (hx : Old (w.alloc (.cells (geoC g) 24)) x) => vmay_any v l b x (V.carry hx) hl
    have CF := Lib.hid fun x => forces_any (atV l b) x
    have CC := Lib.hid fun x (hx : Old (w.alloc (.cells (geoC g) 24)) x) => pclub_any v l b x (V.carry hx) hl
    have CD := Lib.hid fun x (hx : Old (w.alloc (.cells (geoC g) 24)) x) => pwidow_any v l b x (V.carry hx) hl
    have CE : Hid (∀ x, Old (w.alloc (.cells (geoC g) 24)) x → x.cell? ⟨w.heap.size, 13, none⟩ = some (.int .i64 g.club) ∧ x.cell? ⟨w.heap.size, 14, none⟩ = some (.int .i64 g.widow) ∧ w.heap.size < x.heap.size) :=
      Lib.hid fun x hx => ⟨(G.old hx).cell 13, (G.old hx).cell 14, (G.old hx).lt⟩
    have CP := Lib.hid ppos_any
    clear V G
    unfold inV at hn
    simp only [Bool.and_eq_true, Bool.not_eq_true'] at hn
    obtain ⟨⟨e1, e2⟩, e3⟩ := hn
    rw [e1] at ca
    rw [e2] at CM
    rw [e3] at CF
    clear e1 e2 e3
    generalize clubV l b = c at *
    generalize widowV l b = d at *
    generalize atV l b = x at *
    obtain ⟨x0, x1, x2, x3, x4, x5, x6⟩ := x
    obtain ⟨g0, g1, g2, g3, g4, g5, g6, g7, g8, g9, g10, g11, g12, gc, gd, g15, g16, g17, gb⟩ := g
    unfold penV
    unfold geo geoC at *
    unfold itm at ca CF
    dsimp only at *
    have HP : Hid (max x6 0 = max x6 0 ∧ True) := Lib.hid ⟨rfl, trivial⟩
    have HC : Hid (max gc 0 = max gc 0 ∧ True) := Lib.hid ⟨rfl, trivial⟩
    have HD : Hid (max gd 0 = max gd 0 ∧ True) := Lib.hid ⟨rfl, trivial⟩
    by_cases hk : x0 = 3
    · subst hk
      replace hp := hp rfl
      replace HP : Hid (max x6 0 = max x6 0 ∧ 0 ≤ max x6 0 ∧ max x6 0 ≤ 1099511627776) := Lib.hid ⟨rfl, by omega, by omega⟩
      rw [if_pos rfl]
      cases c
      · cases d
        · exact pof_pnn x1 x2 x3 x4 x5 x6 g0 g1 g2 g3 g4 g5 g6 g7 g8 g9 g10 g11 g12 gc gd g15 g16 g17 _ _ _ _ gb v b w b0 ca CM CF CC CD CP CE HP HC HD (Lib.hid (by simp))
        · replace HD : Hid (max gd 0 = max gd 0 ∧ 0 ≤ max gd 0 ∧ max gd 0 ≤ 1099511627776) := Lib.hid ⟨rfl, by omega, by have := hd rfl; omega⟩
          exact pof_pnw x1 x2 x3 x4 x5 x6 g0 g1 g2 g3 g4 g5 g6 g7 g8 g9 g10 g11 g12 gc gd g15 g16 g17 _ _ _ _ gb v b w b0 ca CM CF CC CD CP CE HP HC HD (Lib.hid (by simp))
      · replace HC : Hid (max gc 0 = max gc 0 ∧ 0 ≤ max gc 0 ∧ max gc 0 ≤ 1099511627776) := Lib.hid ⟨rfl, by omega, by have := hc rfl; omega⟩
        cases d
        · exact pof_pcn x1 x2 x3 x4 x5 x6 g0 g1 g2 g3 g4 g5 g6 g7 g8 g9 g10 g11 g12 gc gd g15 g16 g17 _ _ _ _ gb v b w b0 ca CM CF CC CD CP CE HP HC HD (Lib.hid (by simp))
        · replace HD : Hid (max gd 0 = max gd 0 ∧ 0 ≤ max gd 0 ∧ max gd 0 ≤ 1099511627776) := Lib.hid ⟨rfl, by omega, by have := hd rfl; omega⟩
          exact pof_pcw x1 x2 x3 x4 x5 x6 g0 g1 g2 g3 g4 g5 g6 g7 g8 g9 g10 g11 g12 gc gd g15 g16 g17 _ _ _ _ gb v b w b0 ca CM CF CC CD CP CE HP HC HD (Lib.hid (by simp))
    · rw [if_neg hk]
      have f1 : (x0 == 3) = false := by simpa using hk
      cases c
      · cases d
        · exact pof_nnn x0 x1 x2 x3 x4 x5 x6 g0 g1 g2 g3 g4 g5 g6 g7 g8 g9 g10 g11 g12 gc gd g15 g16 g17 _ _ _ _ gb v b w f1 b0 ca CM CF CC CD CP CE HP HC HD (Lib.hid (by simp))
        · replace HD : Hid (max gd 0 = max gd 0 ∧ 0 ≤ max gd 0 ∧ max gd 0 ≤ 1099511627776) := Lib.hid ⟨rfl, by omega, by have := hd rfl; omega⟩
          exact pof_nnw x0 x1 x2 x3 x4 x5 x6 g0 g1 g2 g3 g4 g5 g6 g7 g8 g9 g10 g11 g12 gc gd g15 g16 g17 _ _ _ _ gb v b w f1 b0 ca CM CF CC CD CP CE HP HC HD (Lib.hid (by simp))
      · replace HC : Hid (max gc 0 = max gc 0 ∧ 0 ≤ max gc 0 ∧ max gc 0 ≤ 1099511627776) := Lib.hid ⟨rfl, by omega, by have := hc rfl; omega⟩
        cases d
        · exact pof_ncn x0 x1 x2 x3 x4 x5 x6 g0 g1 g2 g3 g4 g5 g6 g7 g8 g9 g10 g11 g12 gc gd g15 g16 g17 _ _ _ _ gb v b w f1 b0 ca CM CF CC CD CP CE HP HC HD (Lib.hid (by simp))
        · replace HD : Hid (max gd 0 = max gd 0 ∧ 0 ≤ max gd 0 ∧ max gd 0 ≤ 1099511627776) := Lib.hid ⟨rfl, by omega, by have := hd rfl; omega⟩
          exact pof_ncw x0 x1 x2 x3 x4 x5 x6 g0 g1 g2 g3 g4 g5 g6 g7 g8 g9 g10 g11 g12 gc gd g15 g16 g17 _ _ _ _ gb v b w f1 b0 ca CM CF CC CD CP CE HP HC HD (Lib.hid (by simp))
  · rw [if_neg hn]
    exact pof_no g v l b w h hl (by simpa using hn)
end Go.Proofs.Ytopifminodlpbaa
