/- The document's Of of layer 20: its ways. The document's Of of layer 20. -/
import Derived.Test.YtopifminodlpbaaPRef
import Derived.Test.YtopifminodlpbaaPOf
namespace Go.Proofs.Ytopifminodlpbaa
open Go.RowKit
set_option maxRecDepth 20000
set_option linter.unusedVariables false
set_option linter.unusedSimpArgs false

set_option maxHeartbeats 1000000 in
theorem prof_ncw (x0 x6 g0 g1 g2 g3 g4 g5 g6 g7 g8 g9 g10 g11 g12 gc gd g15 g16 g17 C D r : Int) (gb : Bool) (B off k N cap : Nat) (w : World) (hk : k < N) (hN : N ≤ 1000000)
    (f1 : (x0 == 3) = false)
    (f2 : ((k : Int) == (N : Int)) = false)
    (b0 : Below w.heap.size w (w.alloc (.cells #[.int .i64 g0, .int .i64 g1, .int .i64 g2, .int .i64 g3, .int .i64 g4, .int .i64 g5, .int .i64 g6, .int .i64 g7, .int .i64 g8, .int .i64 g9, .int .i64 g10, .int .i64 g11, .int .i64 g12, .int .i64 gc, .int .i64 gd, .int .i64 g15, .int .i64 g16, .int .i64 g17, .bool gb] 24)))
    (CM : Hid (∀ x, Old (w.alloc (.cells #[.int .i64 g0, .int .i64 g1, .int .i64 g2, .int .i64 g3, .int .i64 g4, .int .i64 g5, .int .i64 g6, .int .i64 g7, .int .i64 g8, .int .i64 g9, .int .i64 g10, .int .i64 g11, .int .i64 g12, .int .i64 gc, .int .i64 gd, .int .i64 g15, .int .i64 g16, .int .i64 g17, .bool gb] 24)) x → Calls Try.prog 18 #[.slice (some ⟨B, off, none⟩) N cap, .int .i64 k] x fun e w' => e = .returned (.bool true) ∧ Below x.heap.size x w'))
    (CU : Hid (∀ x, Old (w.alloc (.cells #[.int .i64 g0, .int .i64 g1, .int .i64 g2, .int .i64 g3, .int .i64 g4, .int .i64 g5, .int .i64 g6, .int .i64 g7, .int .i64 g8, .int .i64 g9, .int .i64 g10, .int .i64 g11, .int .i64 g12, .int .i64 gc, .int .i64 gd, .int .i64 g15, .int .i64 g16, .int .i64 g17, .bool gb] 24)) x → Calls Try.prog 24 #[.slice (some ⟨B, off, none⟩) N cap, .int .i64 k] x fun e w' => e = .returned (.bool false) ∧ Below x.heap.size x w'))
    (CC : Hid (∀ x, Old (w.alloc (.cells #[.int .i64 g0, .int .i64 g1, .int .i64 g2, .int .i64 g3, .int .i64 g4, .int .i64 g5, .int .i64 g6, .int .i64 g7, .int .i64 g8, .int .i64 g9, .int .i64 g10, .int .i64 g11, .int .i64 g12, .int .i64 gc, .int .i64 gd, .int .i64 g15, .int .i64 g16, .int .i64 g17, .bool gb] 24)) x → Calls Try.prog 15 #[.slice (some ⟨B, off, none⟩) N cap, .int .i64 k] x fun e w' => e = .returned (.bool true) ∧ Below x.heap.size x w'))
    (CD : Hid (∀ x, Old (w.alloc (.cells #[.int .i64 g0, .int .i64 g1, .int .i64 g2, .int .i64 g3, .int .i64 g4, .int .i64 g5, .int .i64 g6, .int .i64 g7, .int .i64 g8, .int .i64 g9, .int .i64 g10, .int .i64 g11, .int .i64 g12, .int .i64 gc, .int .i64 gd, .int .i64 g15, .int .i64 g16, .int .i64 g17, .bool gb] 24)) x → Calls Try.prog 17 #[.slice (some ⟨B, off, none⟩) N cap, .int .i64 k] x fun e w' => e = .returned (.bool true) ∧ Below x.heap.size x w'))
    (CI : Hid (∀ x, Old (w.alloc (.cells #[.int .i64 g0, .int .i64 g1, .int .i64 g2, .int .i64 g3, .int .i64 g4, .int .i64 g5, .int .i64 g6, .int .i64 g7, .int .i64 g8, .int .i64 g9, .int .i64 g10, .int .i64 g11, .int .i64 g12, .int .i64 gc, .int .i64 gd, .int .i64 g15, .int .i64 g16, .int .i64 g17, .bool gb] 24)) x → B < x.heap.size ∧ x.cell? ⟨B, off + k * 7, none⟩ = some (.int .i64 x0) ∧ x.cell? ⟨B, off + k * 7 + 6, none⟩ = some (.int .i64 x6)))
    (CE : Hid (∀ x, Old (w.alloc (.cells #[.int .i64 g0, .int .i64 g1, .int .i64 g2, .int .i64 g3, .int .i64 g4, .int .i64 g5, .int .i64 g6, .int .i64 g7, .int .i64 g8, .int .i64 g9, .int .i64 g10, .int .i64 g11, .int .i64 g12, .int .i64 gc, .int .i64 gd, .int .i64 g15, .int .i64 g16, .int .i64 g17, .bool gb] 24)) x → x.cell? ⟨w.heap.size, 13, none⟩ = some (.int .i64 gc) ∧ x.cell? ⟨w.heap.size, 14, none⟩ = some (.int .i64 gd) ∧ w.heap.size < x.heap.size))
    (ec : (if 0 < gc then gc else 0) = C)
    (ed : (if 0 < gd then gd else 0) = D)
    (HC : Hid (0 ≤ C ∧ C ≤ 1099511627776)) (HD : Hid (0 ≤ D ∧ D ≤ 1099511627776)) (HR : Hid (r = 0 + C + D)) :
    Calls Try.prog 9 #[.agg #[.int .i64 g0, .int .i64 g1, .int .i64 g2, .int .i64 g3, .int .i64 g4, .int .i64 g5, .int .i64 g6, .int .i64 g7, .int .i64 g8, .int .i64 g9, .int .i64 g10, .int .i64 g11, .int .i64 g12, .int .i64 gc, .int .i64 gd, .int .i64 g15, .int .i64 g16, .int .i64 g17, .bool gb], .slice (some ⟨B, off, none⟩) N cap, .int .i64 k] w fun e w' => e = .returned (.int .i64 r) ∧ Below w.heap.size w w' := by
  go_enter Try.func9, Try.ntmps9
  have cm1 := CM.out _ (Below.refl _ _)
  go_wp2_with fail
  refine cm1.mono ?_
  rintro e w2 ⟨rfl, b2⟩
  have o2 := b2
  replace b2 := tstep b0 b2 b0.size
  have cu1 := CU.out _ o2
  clear cm1
  go_wp2_with fail
  refine cu1.mono ?_
  rintro e w3 ⟨rfl, b3⟩
  have o3 := tstep o2 b3 o2.size
  replace b3 := tstep b2 b3 b2.size
  obtain ⟨hB, k0, k6⟩ := CI.out _ o3
  clear cu1 o2 b2
  have cc1 := CC.out _ o3
  go_wp2_with fail
  refine cc1.mono ?_
  rintro e w5 ⟨rfl, b5⟩
  have o5 := tstep o3 b5 o3.size
  replace b5 := tstep b3 b5 b3.size
  clear cc1 o3 b3 k0 k6 hB
  have k13 := (CE.out _ o5).1
  have kl := (CE.out _ o5).2.2
  have cd1 := CD.out _ o5
  go_wp2_with fail
  refine cd1.mono ?_
  rintro e w7 ⟨rfl, b7⟩
  have o7 := tstep o5 b7 o5.size
  replace b7 := tstep b5 b7 b5.size
  clear cd1 k13 kl o5 b5
  have k14 := (CE.out _ o7).2.1
  have kl := (CE.out _ o7).2.2
  go_wp2
  go_ret
  refine ⟨congrArg (fun z => Ending.returned (Value.int .i64 z)) ?_, b7⟩
  have h2 := HC.out
  have h3 := HD.out
  have h4 := HR.out
  try unfold wrap64
  omega
set_option maxHeartbeats 1000000 in
theorem prof_ncn (x0 x6 g0 g1 g2 g3 g4 g5 g6 g7 g8 g9 g10 g11 g12 gc gd g15 g16 g17 C D r : Int) (gb : Bool) (B off k N cap : Nat) (w : World) (hk : k < N) (hN : N ≤ 1000000)
    (f1 : (x0 == 3) = false)
    (f2 : ((k : Int) == (N : Int)) = false)
    (b0 : Below w.heap.size w (w.alloc (.cells #[.int .i64 g0, .int .i64 g1, .int .i64 g2, .int .i64 g3, .int .i64 g4, .int .i64 g5, .int .i64 g6, .int .i64 g7, .int .i64 g8, .int .i64 g9, .int .i64 g10, .int .i64 g11, .int .i64 g12, .int .i64 gc, .int .i64 gd, .int .i64 g15, .int .i64 g16, .int .i64 g17, .bool gb] 24)))
    (CM : Hid (∀ x, Old (w.alloc (.cells #[.int .i64 g0, .int .i64 g1, .int .i64 g2, .int .i64 g3, .int .i64 g4, .int .i64 g5, .int .i64 g6, .int .i64 g7, .int .i64 g8, .int .i64 g9, .int .i64 g10, .int .i64 g11, .int .i64 g12, .int .i64 gc, .int .i64 gd, .int .i64 g15, .int .i64 g16, .int .i64 g17, .bool gb] 24)) x → Calls Try.prog 18 #[.slice (some ⟨B, off, none⟩) N cap, .int .i64 k] x fun e w' => e = .returned (.bool true) ∧ Below x.heap.size x w'))
    (CU : Hid (∀ x, Old (w.alloc (.cells #[.int .i64 g0, .int .i64 g1, .int .i64 g2, .int .i64 g3, .int .i64 g4, .int .i64 g5, .int .i64 g6, .int .i64 g7, .int .i64 g8, .int .i64 g9, .int .i64 g10, .int .i64 g11, .int .i64 g12, .int .i64 gc, .int .i64 gd, .int .i64 g15, .int .i64 g16, .int .i64 g17, .bool gb] 24)) x → Calls Try.prog 24 #[.slice (some ⟨B, off, none⟩) N cap, .int .i64 k] x fun e w' => e = .returned (.bool false) ∧ Below x.heap.size x w'))
    (CC : Hid (∀ x, Old (w.alloc (.cells #[.int .i64 g0, .int .i64 g1, .int .i64 g2, .int .i64 g3, .int .i64 g4, .int .i64 g5, .int .i64 g6, .int .i64 g7, .int .i64 g8, .int .i64 g9, .int .i64 g10, .int .i64 g11, .int .i64 g12, .int .i64 gc, .int .i64 gd, .int .i64 g15, .int .i64 g16, .int .i64 g17, .bool gb] 24)) x → Calls Try.prog 15 #[.slice (some ⟨B, off, none⟩) N cap, .int .i64 k] x fun e w' => e = .returned (.bool true) ∧ Below x.heap.size x w'))
    (CD : Hid (∀ x, Old (w.alloc (.cells #[.int .i64 g0, .int .i64 g1, .int .i64 g2, .int .i64 g3, .int .i64 g4, .int .i64 g5, .int .i64 g6, .int .i64 g7, .int .i64 g8, .int .i64 g9, .int .i64 g10, .int .i64 g11, .int .i64 g12, .int .i64 gc, .int .i64 gd, .int .i64 g15, .int .i64 g16, .int .i64 g17, .bool gb] 24)) x → Calls Try.prog 17 #[.slice (some ⟨B, off, none⟩) N cap, .int .i64 k] x fun e w' => e = .returned (.bool false) ∧ Below x.heap.size x w'))
    (CI : Hid (∀ x, Old (w.alloc (.cells #[.int .i64 g0, .int .i64 g1, .int .i64 g2, .int .i64 g3, .int .i64 g4, .int .i64 g5, .int .i64 g6, .int .i64 g7, .int .i64 g8, .int .i64 g9, .int .i64 g10, .int .i64 g11, .int .i64 g12, .int .i64 gc, .int .i64 gd, .int .i64 g15, .int .i64 g16, .int .i64 g17, .bool gb] 24)) x → B < x.heap.size ∧ x.cell? ⟨B, off + k * 7, none⟩ = some (.int .i64 x0) ∧ x.cell? ⟨B, off + k * 7 + 6, none⟩ = some (.int .i64 x6)))
    (CE : Hid (∀ x, Old (w.alloc (.cells #[.int .i64 g0, .int .i64 g1, .int .i64 g2, .int .i64 g3, .int .i64 g4, .int .i64 g5, .int .i64 g6, .int .i64 g7, .int .i64 g8, .int .i64 g9, .int .i64 g10, .int .i64 g11, .int .i64 g12, .int .i64 gc, .int .i64 gd, .int .i64 g15, .int .i64 g16, .int .i64 g17, .bool gb] 24)) x → x.cell? ⟨w.heap.size, 13, none⟩ = some (.int .i64 gc) ∧ x.cell? ⟨w.heap.size, 14, none⟩ = some (.int .i64 gd) ∧ w.heap.size < x.heap.size))
    (ec : (if 0 < gc then gc else 0) = C)
    (HC : Hid (0 ≤ C ∧ C ≤ 1099511627776)) (HD : Hid (True)) (HR : Hid (r = 0 + C)) :
    Calls Try.prog 9 #[.agg #[.int .i64 g0, .int .i64 g1, .int .i64 g2, .int .i64 g3, .int .i64 g4, .int .i64 g5, .int .i64 g6, .int .i64 g7, .int .i64 g8, .int .i64 g9, .int .i64 g10, .int .i64 g11, .int .i64 g12, .int .i64 gc, .int .i64 gd, .int .i64 g15, .int .i64 g16, .int .i64 g17, .bool gb], .slice (some ⟨B, off, none⟩) N cap, .int .i64 k] w fun e w' => e = .returned (.int .i64 r) ∧ Below w.heap.size w w' := by
  go_enter Try.func9, Try.ntmps9
  have cm1 := CM.out _ (Below.refl _ _)
  go_wp2_with fail
  refine cm1.mono ?_
  rintro e w2 ⟨rfl, b2⟩
  have o2 := b2
  replace b2 := tstep b0 b2 b0.size
  have cu1 := CU.out _ o2
  clear cm1
  go_wp2_with fail
  refine cu1.mono ?_
  rintro e w3 ⟨rfl, b3⟩
  have o3 := tstep o2 b3 o2.size
  replace b3 := tstep b2 b3 b2.size
  obtain ⟨hB, k0, k6⟩ := CI.out _ o3
  clear cu1 o2 b2
  have cc1 := CC.out _ o3
  go_wp2_with fail
  refine cc1.mono ?_
  rintro e w5 ⟨rfl, b5⟩
  have o5 := tstep o3 b5 o3.size
  replace b5 := tstep b3 b5 b3.size
  clear cc1 o3 b3 k0 k6 hB
  have k13 := (CE.out _ o5).1
  have kl := (CE.out _ o5).2.2
  have cd1 := CD.out _ o5
  go_wp2_with fail
  refine cd1.mono ?_
  rintro e w7 ⟨rfl, b7⟩
  have o7 := tstep o5 b7 o5.size
  replace b7 := tstep b5 b7 b5.size
  clear cd1 k13 kl o5 b5
  have k14 := (CE.out _ o7).2.1
  have kl := (CE.out _ o7).2.2
  go_wp2
  go_ret
  refine ⟨congrArg (fun z => Ending.returned (Value.int .i64 z)) ?_, b7⟩
  have h2 := HC.out
  have h3 := HD.out
  have h4 := HR.out
  try unfold wrap64
  omega
set_option maxHeartbeats 1000000 in
theorem prof_nnw (x0 x6 g0 g1 g2 g3 g4 g5 g6 g7 g8 g9 g10 g11 g12 gc gd g15 g16 g17 C D r : Int) (gb : Bool) (B off k N cap : Nat) (w : World) (hk : k < N) (hN : N ≤ 1000000)
    (f1 : (x0 == 3) = false)
    (f2 : ((k : Int) == (N : Int)) = false)
    (b0 : Below w.heap.size w (w.alloc (.cells #[.int .i64 g0, .int .i64 g1, .int .i64 g2, .int .i64 g3, .int .i64 g4, .int .i64 g5, .int .i64 g6, .int .i64 g7, .int .i64 g8, .int .i64 g9, .int .i64 g10, .int .i64 g11, .int .i64 g12, .int .i64 gc, .int .i64 gd, .int .i64 g15, .int .i64 g16, .int .i64 g17, .bool gb] 24)))
    (CM : Hid (∀ x, Old (w.alloc (.cells #[.int .i64 g0, .int .i64 g1, .int .i64 g2, .int .i64 g3, .int .i64 g4, .int .i64 g5, .int .i64 g6, .int .i64 g7, .int .i64 g8, .int .i64 g9, .int .i64 g10, .int .i64 g11, .int .i64 g12, .int .i64 gc, .int .i64 gd, .int .i64 g15, .int .i64 g16, .int .i64 g17, .bool gb] 24)) x → Calls Try.prog 18 #[.slice (some ⟨B, off, none⟩) N cap, .int .i64 k] x fun e w' => e = .returned (.bool true) ∧ Below x.heap.size x w'))
    (CU : Hid (∀ x, Old (w.alloc (.cells #[.int .i64 g0, .int .i64 g1, .int .i64 g2, .int .i64 g3, .int .i64 g4, .int .i64 g5, .int .i64 g6, .int .i64 g7, .int .i64 g8, .int .i64 g9, .int .i64 g10, .int .i64 g11, .int .i64 g12, .int .i64 gc, .int .i64 gd, .int .i64 g15, .int .i64 g16, .int .i64 g17, .bool gb] 24)) x → Calls Try.prog 24 #[.slice (some ⟨B, off, none⟩) N cap, .int .i64 k] x fun e w' => e = .returned (.bool false) ∧ Below x.heap.size x w'))
    (CC : Hid (∀ x, Old (w.alloc (.cells #[.int .i64 g0, .int .i64 g1, .int .i64 g2, .int .i64 g3, .int .i64 g4, .int .i64 g5, .int .i64 g6, .int .i64 g7, .int .i64 g8, .int .i64 g9, .int .i64 g10, .int .i64 g11, .int .i64 g12, .int .i64 gc, .int .i64 gd, .int .i64 g15, .int .i64 g16, .int .i64 g17, .bool gb] 24)) x → Calls Try.prog 15 #[.slice (some ⟨B, off, none⟩) N cap, .int .i64 k] x fun e w' => e = .returned (.bool false) ∧ Below x.heap.size x w'))
    (CD : Hid (∀ x, Old (w.alloc (.cells #[.int .i64 g0, .int .i64 g1, .int .i64 g2, .int .i64 g3, .int .i64 g4, .int .i64 g5, .int .i64 g6, .int .i64 g7, .int .i64 g8, .int .i64 g9, .int .i64 g10, .int .i64 g11, .int .i64 g12, .int .i64 gc, .int .i64 gd, .int .i64 g15, .int .i64 g16, .int .i64 g17, .bool gb] 24)) x → Calls Try.prog 17 #[.slice (some ⟨B, off, none⟩) N cap, .int .i64 k] x fun e w' => e = .returned (.bool true) ∧ Below x.heap.size x w'))
    (CI : Hid (∀ x, Old (w.alloc (.cells #[.int .i64 g0, .int .i64 g1, .int .i64 g2, .int .i64 g3, .int .i64 g4, .int .i64 g5, .int .i64 g6, .int .i64 g7, .int .i64 g8, .int .i64 g9, .int .i64 g10, .int .i64 g11, .int .i64 g12, .int .i64 gc, .int .i64 gd, .int .i64 g15, .int .i64 g16, .int .i64 g17, .bool gb] 24)) x → B < x.heap.size ∧ x.cell? ⟨B, off + k * 7, none⟩ = some (.int .i64 x0) ∧ x.cell? ⟨B, off + k * 7 + 6, none⟩ = some (.int .i64 x6)))
    (CE : Hid (∀ x, Old (w.alloc (.cells #[.int .i64 g0, .int .i64 g1, .int .i64 g2, .int .i64 g3, .int .i64 g4, .int .i64 g5, .int .i64 g6, .int .i64 g7, .int .i64 g8, .int .i64 g9, .int .i64 g10, .int .i64 g11, .int .i64 g12, .int .i64 gc, .int .i64 gd, .int .i64 g15, .int .i64 g16, .int .i64 g17, .bool gb] 24)) x → x.cell? ⟨w.heap.size, 13, none⟩ = some (.int .i64 gc) ∧ x.cell? ⟨w.heap.size, 14, none⟩ = some (.int .i64 gd) ∧ w.heap.size < x.heap.size))
    (ed : (if 0 < gd then gd else 0) = D)
    (HC : Hid (True)) (HD : Hid (0 ≤ D ∧ D ≤ 1099511627776)) (HR : Hid (r = 0 + D)) :
    Calls Try.prog 9 #[.agg #[.int .i64 g0, .int .i64 g1, .int .i64 g2, .int .i64 g3, .int .i64 g4, .int .i64 g5, .int .i64 g6, .int .i64 g7, .int .i64 g8, .int .i64 g9, .int .i64 g10, .int .i64 g11, .int .i64 g12, .int .i64 gc, .int .i64 gd, .int .i64 g15, .int .i64 g16, .int .i64 g17, .bool gb], .slice (some ⟨B, off, none⟩) N cap, .int .i64 k] w fun e w' => e = .returned (.int .i64 r) ∧ Below w.heap.size w w' := by
  go_enter Try.func9, Try.ntmps9
  have cm1 := CM.out _ (Below.refl _ _)
  go_wp2_with fail
  refine cm1.mono ?_
  rintro e w2 ⟨rfl, b2⟩
  have o2 := b2
  replace b2 := tstep b0 b2 b0.size
  have cu1 := CU.out _ o2
  clear cm1
  go_wp2_with fail
  refine cu1.mono ?_
  rintro e w3 ⟨rfl, b3⟩
  have o3 := tstep o2 b3 o2.size
  replace b3 := tstep b2 b3 b2.size
  obtain ⟨hB, k0, k6⟩ := CI.out _ o3
  clear cu1 o2 b2
  have cc1 := CC.out _ o3
  go_wp2_with fail
  refine cc1.mono ?_
  rintro e w5 ⟨rfl, b5⟩
  have o5 := tstep o3 b5 o3.size
  replace b5 := tstep b3 b5 b3.size
  clear cc1 o3 b3 k0 k6 hB
  have k13 := (CE.out _ o5).1
  have kl := (CE.out _ o5).2.2
  have cd1 := CD.out _ o5
  go_wp2_with fail
  refine cd1.mono ?_
  rintro e w7 ⟨rfl, b7⟩
  have o7 := tstep o5 b7 o5.size
  replace b7 := tstep b5 b7 b5.size
  clear cd1 k13 kl o5 b5
  have k14 := (CE.out _ o7).2.1
  have kl := (CE.out _ o7).2.2
  go_wp2
  go_ret
  refine ⟨congrArg (fun z => Ending.returned (Value.int .i64 z)) ?_, b7⟩
  have h2 := HC.out
  have h3 := HD.out
  have h4 := HR.out
  try unfold wrap64
  omega
set_option maxHeartbeats 1000000 in
theorem prof_nnn (x0 x6 g0 g1 g2 g3 g4 g5 g6 g7 g8 g9 g10 g11 g12 gc gd g15 g16 g17 C D r : Int) (gb : Bool) (B off k N cap : Nat) (w : World) (hk : k < N) (hN : N ≤ 1000000)
    (f1 : (x0 == 3) = false)
    (f2 : ((k : Int) == (N : Int)) = false)
    (b0 : Below w.heap.size w (w.alloc (.cells #[.int .i64 g0, .int .i64 g1, .int .i64 g2, .int .i64 g3, .int .i64 g4, .int .i64 g5, .int .i64 g6, .int .i64 g7, .int .i64 g8, .int .i64 g9, .int .i64 g10, .int .i64 g11, .int .i64 g12, .int .i64 gc, .int .i64 gd, .int .i64 g15, .int .i64 g16, .int .i64 g17, .bool gb] 24)))
    (CM : Hid (∀ x, Old (w.alloc (.cells #[.int .i64 g0, .int .i64 g1, .int .i64 g2, .int .i64 g3, .int .i64 g4, .int .i64 g5, .int .i64 g6, .int .i64 g7, .int .i64 g8, .int .i64 g9, .int .i64 g10, .int .i64 g11, .int .i64 g12, .int .i64 gc, .int .i64 gd, .int .i64 g15, .int .i64 g16, .int .i64 g17, .bool gb] 24)) x → Calls Try.prog 18 #[.slice (some ⟨B, off, none⟩) N cap, .int .i64 k] x fun e w' => e = .returned (.bool true) ∧ Below x.heap.size x w'))
    (CU : Hid (∀ x, Old (w.alloc (.cells #[.int .i64 g0, .int .i64 g1, .int .i64 g2, .int .i64 g3, .int .i64 g4, .int .i64 g5, .int .i64 g6, .int .i64 g7, .int .i64 g8, .int .i64 g9, .int .i64 g10, .int .i64 g11, .int .i64 g12, .int .i64 gc, .int .i64 gd, .int .i64 g15, .int .i64 g16, .int .i64 g17, .bool gb] 24)) x → Calls Try.prog 24 #[.slice (some ⟨B, off, none⟩) N cap, .int .i64 k] x fun e w' => e = .returned (.bool false) ∧ Below x.heap.size x w'))
    (CC : Hid (∀ x, Old (w.alloc (.cells #[.int .i64 g0, .int .i64 g1, .int .i64 g2, .int .i64 g3, .int .i64 g4, .int .i64 g5, .int .i64 g6, .int .i64 g7, .int .i64 g8, .int .i64 g9, .int .i64 g10, .int .i64 g11, .int .i64 g12, .int .i64 gc, .int .i64 gd, .int .i64 g15, .int .i64 g16, .int .i64 g17, .bool gb] 24)) x → Calls Try.prog 15 #[.slice (some ⟨B, off, none⟩) N cap, .int .i64 k] x fun e w' => e = .returned (.bool false) ∧ Below x.heap.size x w'))
    (CD : Hid (∀ x, Old (w.alloc (.cells #[.int .i64 g0, .int .i64 g1, .int .i64 g2, .int .i64 g3, .int .i64 g4, .int .i64 g5, .int .i64 g6, .int .i64 g7, .int .i64 g8, .int .i64 g9, .int .i64 g10, .int .i64 g11, .int .i64 g12, .int .i64 gc, .int .i64 gd, .int .i64 g15, .int .i64 g16, .int .i64 g17, .bool gb] 24)) x → Calls Try.prog 17 #[.slice (some ⟨B, off, none⟩) N cap, .int .i64 k] x fun e w' => e = .returned (.bool false) ∧ Below x.heap.size x w'))
    (CI : Hid (∀ x, Old (w.alloc (.cells #[.int .i64 g0, .int .i64 g1, .int .i64 g2, .int .i64 g3, .int .i64 g4, .int .i64 g5, .int .i64 g6, .int .i64 g7, .int .i64 g8, .int .i64 g9, .int .i64 g10, .int .i64 g11, .int .i64 g12, .int .i64 gc, .int .i64 gd, .int .i64 g15, .int .i64 g16, .int .i64 g17, .bool gb] 24)) x → B < x.heap.size ∧ x.cell? ⟨B, off + k * 7, none⟩ = some (.int .i64 x0) ∧ x.cell? ⟨B, off + k * 7 + 6, none⟩ = some (.int .i64 x6)))
    (CE : Hid (∀ x, Old (w.alloc (.cells #[.int .i64 g0, .int .i64 g1, .int .i64 g2, .int .i64 g3, .int .i64 g4, .int .i64 g5, .int .i64 g6, .int .i64 g7, .int .i64 g8, .int .i64 g9, .int .i64 g10, .int .i64 g11, .int .i64 g12, .int .i64 gc, .int .i64 gd, .int .i64 g15, .int .i64 g16, .int .i64 g17, .bool gb] 24)) x → x.cell? ⟨w.heap.size, 13, none⟩ = some (.int .i64 gc) ∧ x.cell? ⟨w.heap.size, 14, none⟩ = some (.int .i64 gd) ∧ w.heap.size < x.heap.size))
    (HC : Hid (True)) (HD : Hid (True)) (HR : Hid (r = 0)) :
    Calls Try.prog 9 #[.agg #[.int .i64 g0, .int .i64 g1, .int .i64 g2, .int .i64 g3, .int .i64 g4, .int .i64 g5, .int .i64 g6, .int .i64 g7, .int .i64 g8, .int .i64 g9, .int .i64 g10, .int .i64 g11, .int .i64 g12, .int .i64 gc, .int .i64 gd, .int .i64 g15, .int .i64 g16, .int .i64 g17, .bool gb], .slice (some ⟨B, off, none⟩) N cap, .int .i64 k] w fun e w' => e = .returned (.int .i64 r) ∧ Below w.heap.size w w' := by
  go_enter Try.func9, Try.ntmps9
  have cm1 := CM.out _ (Below.refl _ _)
  go_wp2_with fail
  refine cm1.mono ?_
  rintro e w2 ⟨rfl, b2⟩
  have o2 := b2
  replace b2 := tstep b0 b2 b0.size
  have cu1 := CU.out _ o2
  clear cm1
  go_wp2_with fail
  refine cu1.mono ?_
  rintro e w3 ⟨rfl, b3⟩
  have o3 := tstep o2 b3 o2.size
  replace b3 := tstep b2 b3 b2.size
  obtain ⟨hB, k0, k6⟩ := CI.out _ o3
  clear cu1 o2 b2
  have cc1 := CC.out _ o3
  go_wp2_with fail
  refine cc1.mono ?_
  rintro e w5 ⟨rfl, b5⟩
  have o5 := tstep o3 b5 o3.size
  replace b5 := tstep b3 b5 b3.size
  clear cc1 o3 b3 k0 k6 hB
  have k13 := (CE.out _ o5).1
  have kl := (CE.out _ o5).2.2
  have cd1 := CD.out _ o5
  go_wp2_with fail
  refine cd1.mono ?_
  rintro e w7 ⟨rfl, b7⟩
  have o7 := tstep o5 b7 o5.size
  replace b7 := tstep b5 b7 b5.size
  clear cd1 k13 kl o5 b5
  have k14 := (CE.out _ o7).2.1
  have kl := (CE.out _ o7).2.2
  go_wp2
  go_ret
  refine ⟨congrArg (fun z => Ending.returned (Value.int .i64 z)) ?_, b7⟩
  have h2 := HC.out
  have h3 := HD.out
  have h4 := HR.out
  try unfold wrap64
  omega
set_option maxHeartbeats 1000000 in
theorem prof_zcw (x6 g0 g1 g2 g3 g4 g5 g6 g7 g8 g9 g10 g11 g12 gc gd g15 g16 g17 C D r : Int) (gb : Bool) (B off k N cap : Nat) (w : World) (hk : k < N) (hN : N ≤ 1000000)
    (f1 : ¬ 0 < x6)
    (f2 : ((k : Int) == (N : Int)) = false)
    (b0 : Below w.heap.size w (w.alloc (.cells #[.int .i64 g0, .int .i64 g1, .int .i64 g2, .int .i64 g3, .int .i64 g4, .int .i64 g5, .int .i64 g6, .int .i64 g7, .int .i64 g8, .int .i64 g9, .int .i64 g10, .int .i64 g11, .int .i64 g12, .int .i64 gc, .int .i64 gd, .int .i64 g15, .int .i64 g16, .int .i64 g17, .bool gb] 24)))
    (CM : Hid (∀ x, Old (w.alloc (.cells #[.int .i64 g0, .int .i64 g1, .int .i64 g2, .int .i64 g3, .int .i64 g4, .int .i64 g5, .int .i64 g6, .int .i64 g7, .int .i64 g8, .int .i64 g9, .int .i64 g10, .int .i64 g11, .int .i64 g12, .int .i64 gc, .int .i64 gd, .int .i64 g15, .int .i64 g16, .int .i64 g17, .bool gb] 24)) x → Calls Try.prog 18 #[.slice (some ⟨B, off, none⟩) N cap, .int .i64 k] x fun e w' => e = .returned (.bool true) ∧ Below x.heap.size x w'))
    (CU : Hid (∀ x, Old (w.alloc (.cells #[.int .i64 g0, .int .i64 g1, .int .i64 g2, .int .i64 g3, .int .i64 g4, .int .i64 g5, .int .i64 g6, .int .i64 g7, .int .i64 g8, .int .i64 g9, .int .i64 g10, .int .i64 g11, .int .i64 g12, .int .i64 gc, .int .i64 gd, .int .i64 g15, .int .i64 g16, .int .i64 g17, .bool gb] 24)) x → Calls Try.prog 24 #[.slice (some ⟨B, off, none⟩) N cap, .int .i64 k] x fun e w' => e = .returned (.bool false) ∧ Below x.heap.size x w'))
    (CC : Hid (∀ x, Old (w.alloc (.cells #[.int .i64 g0, .int .i64 g1, .int .i64 g2, .int .i64 g3, .int .i64 g4, .int .i64 g5, .int .i64 g6, .int .i64 g7, .int .i64 g8, .int .i64 g9, .int .i64 g10, .int .i64 g11, .int .i64 g12, .int .i64 gc, .int .i64 gd, .int .i64 g15, .int .i64 g16, .int .i64 g17, .bool gb] 24)) x → Calls Try.prog 15 #[.slice (some ⟨B, off, none⟩) N cap, .int .i64 k] x fun e w' => e = .returned (.bool true) ∧ Below x.heap.size x w'))
    (CD : Hid (∀ x, Old (w.alloc (.cells #[.int .i64 g0, .int .i64 g1, .int .i64 g2, .int .i64 g3, .int .i64 g4, .int .i64 g5, .int .i64 g6, .int .i64 g7, .int .i64 g8, .int .i64 g9, .int .i64 g10, .int .i64 g11, .int .i64 g12, .int .i64 gc, .int .i64 gd, .int .i64 g15, .int .i64 g16, .int .i64 g17, .bool gb] 24)) x → Calls Try.prog 17 #[.slice (some ⟨B, off, none⟩) N cap, .int .i64 k] x fun e w' => e = .returned (.bool true) ∧ Below x.heap.size x w'))
    (CI : Hid (∀ x, Old (w.alloc (.cells #[.int .i64 g0, .int .i64 g1, .int .i64 g2, .int .i64 g3, .int .i64 g4, .int .i64 g5, .int .i64 g6, .int .i64 g7, .int .i64 g8, .int .i64 g9, .int .i64 g10, .int .i64 g11, .int .i64 g12, .int .i64 gc, .int .i64 gd, .int .i64 g15, .int .i64 g16, .int .i64 g17, .bool gb] 24)) x → B < x.heap.size ∧ x.cell? ⟨B, off + k * 7, none⟩ = some (.int .i64 3) ∧ x.cell? ⟨B, off + k * 7 + 6, none⟩ = some (.int .i64 x6)))
    (CE : Hid (∀ x, Old (w.alloc (.cells #[.int .i64 g0, .int .i64 g1, .int .i64 g2, .int .i64 g3, .int .i64 g4, .int .i64 g5, .int .i64 g6, .int .i64 g7, .int .i64 g8, .int .i64 g9, .int .i64 g10, .int .i64 g11, .int .i64 g12, .int .i64 gc, .int .i64 gd, .int .i64 g15, .int .i64 g16, .int .i64 g17, .bool gb] 24)) x → x.cell? ⟨w.heap.size, 13, none⟩ = some (.int .i64 gc) ∧ x.cell? ⟨w.heap.size, 14, none⟩ = some (.int .i64 gd) ∧ w.heap.size < x.heap.size))
    (ec : (if 0 < gc then gc else 0) = C)
    (ed : (if 0 < gd then gd else 0) = D)
    (HC : Hid (0 ≤ C ∧ C ≤ 1099511627776)) (HD : Hid (0 ≤ D ∧ D ≤ 1099511627776)) (HR : Hid (r = 0 + C + D)) :
    Calls Try.prog 9 #[.agg #[.int .i64 g0, .int .i64 g1, .int .i64 g2, .int .i64 g3, .int .i64 g4, .int .i64 g5, .int .i64 g6, .int .i64 g7, .int .i64 g8, .int .i64 g9, .int .i64 g10, .int .i64 g11, .int .i64 g12, .int .i64 gc, .int .i64 gd, .int .i64 g15, .int .i64 g16, .int .i64 g17, .bool gb], .slice (some ⟨B, off, none⟩) N cap, .int .i64 k] w fun e w' => e = .returned (.int .i64 r) ∧ Below w.heap.size w w' := by
  go_enter Try.func9, Try.ntmps9
  have cm1 := CM.out _ (Below.refl _ _)
  go_wp2_with fail
  refine cm1.mono ?_
  rintro e w2 ⟨rfl, b2⟩
  have o2 := b2
  replace b2 := tstep b0 b2 b0.size
  have cu1 := CU.out _ o2
  clear cm1
  go_wp2_with fail
  refine cu1.mono ?_
  rintro e w3 ⟨rfl, b3⟩
  have o3 := tstep o2 b3 o2.size
  replace b3 := tstep b2 b3 b2.size
  obtain ⟨hB, k0, k6⟩ := CI.out _ o3
  clear cu1 o2 b2
  have cc1 := CC.out _ o3
  go_wp2_with fail
  refine cc1.mono ?_
  rintro e w5 ⟨rfl, b5⟩
  have o5 := tstep o3 b5 o3.size
  replace b5 := tstep b3 b5 b3.size
  clear cc1 o3 b3 k0 k6 hB
  have k13 := (CE.out _ o5).1
  have kl := (CE.out _ o5).2.2
  have cd1 := CD.out _ o5
  go_wp2_with fail
  refine cd1.mono ?_
  rintro e w7 ⟨rfl, b7⟩
  have o7 := tstep o5 b7 o5.size
  replace b7 := tstep b5 b7 b5.size
  clear cd1 k13 kl o5 b5
  have k14 := (CE.out _ o7).2.1
  have kl := (CE.out _ o7).2.2
  go_wp2
  go_ret
  refine ⟨congrArg (fun z => Ending.returned (Value.int .i64 z)) ?_, b7⟩
  have h2 := HC.out
  have h3 := HD.out
  have h4 := HR.out
  try unfold wrap64
  omega
set_option maxHeartbeats 1000000 in
theorem prof_zcn (x6 g0 g1 g2 g3 g4 g5 g6 g7 g8 g9 g10 g11 g12 gc gd g15 g16 g17 C D r : Int) (gb : Bool) (B off k N cap : Nat) (w : World) (hk : k < N) (hN : N ≤ 1000000)
    (f1 : ¬ 0 < x6)
    (f2 : ((k : Int) == (N : Int)) = false)
    (b0 : Below w.heap.size w (w.alloc (.cells #[.int .i64 g0, .int .i64 g1, .int .i64 g2, .int .i64 g3, .int .i64 g4, .int .i64 g5, .int .i64 g6, .int .i64 g7, .int .i64 g8, .int .i64 g9, .int .i64 g10, .int .i64 g11, .int .i64 g12, .int .i64 gc, .int .i64 gd, .int .i64 g15, .int .i64 g16, .int .i64 g17, .bool gb] 24)))
    (CM : Hid (∀ x, Old (w.alloc (.cells #[.int .i64 g0, .int .i64 g1, .int .i64 g2, .int .i64 g3, .int .i64 g4, .int .i64 g5, .int .i64 g6, .int .i64 g7, .int .i64 g8, .int .i64 g9, .int .i64 g10, .int .i64 g11, .int .i64 g12, .int .i64 gc, .int .i64 gd, .int .i64 g15, .int .i64 g16, .int .i64 g17, .bool gb] 24)) x → Calls Try.prog 18 #[.slice (some ⟨B, off, none⟩) N cap, .int .i64 k] x fun e w' => e = .returned (.bool true) ∧ Below x.heap.size x w'))
    (CU : Hid (∀ x, Old (w.alloc (.cells #[.int .i64 g0, .int .i64 g1, .int .i64 g2, .int .i64 g3, .int .i64 g4, .int .i64 g5, .int .i64 g6, .int .i64 g7, .int .i64 g8, .int .i64 g9, .int .i64 g10, .int .i64 g11, .int .i64 g12, .int .i64 gc, .int .i64 gd, .int .i64 g15, .int .i64 g16, .int .i64 g17, .bool gb] 24)) x → Calls Try.prog 24 #[.slice (some ⟨B, off, none⟩) N cap, .int .i64 k] x fun e w' => e = .returned (.bool false) ∧ Below x.heap.size x w'))
    (CC : Hid (∀ x, Old (w.alloc (.cells #[.int .i64 g0, .int .i64 g1, .int .i64 g2, .int .i64 g3, .int .i64 g4, .int .i64 g5, .int .i64 g6, .int .i64 g7, .int .i64 g8, .int .i64 g9, .int .i64 g10, .int .i64 g11, .int .i64 g12, .int .i64 gc, .int .i64 gd, .int .i64 g15, .int .i64 g16, .int .i64 g17, .bool gb] 24)) x → Calls Try.prog 15 #[.slice (some ⟨B, off, none⟩) N cap, .int .i64 k] x fun e w' => e = .returned (.bool true) ∧ Below x.heap.size x w'))
    (CD : Hid (∀ x, Old (w.alloc (.cells #[.int .i64 g0, .int .i64 g1, .int .i64 g2, .int .i64 g3, .int .i64 g4, .int .i64 g5, .int .i64 g6, .int .i64 g7, .int .i64 g8, .int .i64 g9, .int .i64 g10, .int .i64 g11, .int .i64 g12, .int .i64 gc, .int .i64 gd, .int .i64 g15, .int .i64 g16, .int .i64 g17, .bool gb] 24)) x → Calls Try.prog 17 #[.slice (some ⟨B, off, none⟩) N cap, .int .i64 k] x fun e w' => e = .returned (.bool false) ∧ Below x.heap.size x w'))
    (CI : Hid (∀ x, Old (w.alloc (.cells #[.int .i64 g0, .int .i64 g1, .int .i64 g2, .int .i64 g3, .int .i64 g4, .int .i64 g5, .int .i64 g6, .int .i64 g7, .int .i64 g8, .int .i64 g9, .int .i64 g10, .int .i64 g11, .int .i64 g12, .int .i64 gc, .int .i64 gd, .int .i64 g15, .int .i64 g16, .int .i64 g17, .bool gb] 24)) x → B < x.heap.size ∧ x.cell? ⟨B, off + k * 7, none⟩ = some (.int .i64 3) ∧ x.cell? ⟨B, off + k * 7 + 6, none⟩ = some (.int .i64 x6)))
    (CE : Hid (∀ x, Old (w.alloc (.cells #[.int .i64 g0, .int .i64 g1, .int .i64 g2, .int .i64 g3, .int .i64 g4, .int .i64 g5, .int .i64 g6, .int .i64 g7, .int .i64 g8, .int .i64 g9, .int .i64 g10, .int .i64 g11, .int .i64 g12, .int .i64 gc, .int .i64 gd, .int .i64 g15, .int .i64 g16, .int .i64 g17, .bool gb] 24)) x → x.cell? ⟨w.heap.size, 13, none⟩ = some (.int .i64 gc) ∧ x.cell? ⟨w.heap.size, 14, none⟩ = some (.int .i64 gd) ∧ w.heap.size < x.heap.size))
    (ec : (if 0 < gc then gc else 0) = C)
    (HC : Hid (0 ≤ C ∧ C ≤ 1099511627776)) (HD : Hid (True)) (HR : Hid (r = 0 + C)) :
    Calls Try.prog 9 #[.agg #[.int .i64 g0, .int .i64 g1, .int .i64 g2, .int .i64 g3, .int .i64 g4, .int .i64 g5, .int .i64 g6, .int .i64 g7, .int .i64 g8, .int .i64 g9, .int .i64 g10, .int .i64 g11, .int .i64 g12, .int .i64 gc, .int .i64 gd, .int .i64 g15, .int .i64 g16, .int .i64 g17, .bool gb], .slice (some ⟨B, off, none⟩) N cap, .int .i64 k] w fun e w' => e = .returned (.int .i64 r) ∧ Below w.heap.size w w' := by
  go_enter Try.func9, Try.ntmps9
  have cm1 := CM.out _ (Below.refl _ _)
  go_wp2_with fail
  refine cm1.mono ?_
  rintro e w2 ⟨rfl, b2⟩
  have o2 := b2
  replace b2 := tstep b0 b2 b0.size
  have cu1 := CU.out _ o2
  clear cm1
  go_wp2_with fail
  refine cu1.mono ?_
  rintro e w3 ⟨rfl, b3⟩
  have o3 := tstep o2 b3 o2.size
  replace b3 := tstep b2 b3 b2.size
  obtain ⟨hB, k0, k6⟩ := CI.out _ o3
  clear cu1 o2 b2
  have cc1 := CC.out _ o3
  go_wp2_with fail
  refine cc1.mono ?_
  rintro e w5 ⟨rfl, b5⟩
  have o5 := tstep o3 b5 o3.size
  replace b5 := tstep b3 b5 b3.size
  clear cc1 o3 b3 k0 k6 hB
  have k13 := (CE.out _ o5).1
  have kl := (CE.out _ o5).2.2
  have cd1 := CD.out _ o5
  go_wp2_with fail
  refine cd1.mono ?_
  rintro e w7 ⟨rfl, b7⟩
  have o7 := tstep o5 b7 o5.size
  replace b7 := tstep b5 b7 b5.size
  clear cd1 k13 kl o5 b5
  have k14 := (CE.out _ o7).2.1
  have kl := (CE.out _ o7).2.2
  go_wp2
  go_ret
  refine ⟨congrArg (fun z => Ending.returned (Value.int .i64 z)) ?_, b7⟩
  have h2 := HC.out
  have h3 := HD.out
  have h4 := HR.out
  try unfold wrap64
  omega
set_option maxHeartbeats 1000000 in
theorem prof_znw (x6 g0 g1 g2 g3 g4 g5 g6 g7 g8 g9 g10 g11 g12 gc gd g15 g16 g17 C D r : Int) (gb : Bool) (B off k N cap : Nat) (w : World) (hk : k < N) (hN : N ≤ 1000000)
    (f1 : ¬ 0 < x6)
    (f2 : ((k : Int) == (N : Int)) = false)
    (b0 : Below w.heap.size w (w.alloc (.cells #[.int .i64 g0, .int .i64 g1, .int .i64 g2, .int .i64 g3, .int .i64 g4, .int .i64 g5, .int .i64 g6, .int .i64 g7, .int .i64 g8, .int .i64 g9, .int .i64 g10, .int .i64 g11, .int .i64 g12, .int .i64 gc, .int .i64 gd, .int .i64 g15, .int .i64 g16, .int .i64 g17, .bool gb] 24)))
    (CM : Hid (∀ x, Old (w.alloc (.cells #[.int .i64 g0, .int .i64 g1, .int .i64 g2, .int .i64 g3, .int .i64 g4, .int .i64 g5, .int .i64 g6, .int .i64 g7, .int .i64 g8, .int .i64 g9, .int .i64 g10, .int .i64 g11, .int .i64 g12, .int .i64 gc, .int .i64 gd, .int .i64 g15, .int .i64 g16, .int .i64 g17, .bool gb] 24)) x → Calls Try.prog 18 #[.slice (some ⟨B, off, none⟩) N cap, .int .i64 k] x fun e w' => e = .returned (.bool true) ∧ Below x.heap.size x w'))
    (CU : Hid (∀ x, Old (w.alloc (.cells #[.int .i64 g0, .int .i64 g1, .int .i64 g2, .int .i64 g3, .int .i64 g4, .int .i64 g5, .int .i64 g6, .int .i64 g7, .int .i64 g8, .int .i64 g9, .int .i64 g10, .int .i64 g11, .int .i64 g12, .int .i64 gc, .int .i64 gd, .int .i64 g15, .int .i64 g16, .int .i64 g17, .bool gb] 24)) x → Calls Try.prog 24 #[.slice (some ⟨B, off, none⟩) N cap, .int .i64 k] x fun e w' => e = .returned (.bool false) ∧ Below x.heap.size x w'))
    (CC : Hid (∀ x, Old (w.alloc (.cells #[.int .i64 g0, .int .i64 g1, .int .i64 g2, .int .i64 g3, .int .i64 g4, .int .i64 g5, .int .i64 g6, .int .i64 g7, .int .i64 g8, .int .i64 g9, .int .i64 g10, .int .i64 g11, .int .i64 g12, .int .i64 gc, .int .i64 gd, .int .i64 g15, .int .i64 g16, .int .i64 g17, .bool gb] 24)) x → Calls Try.prog 15 #[.slice (some ⟨B, off, none⟩) N cap, .int .i64 k] x fun e w' => e = .returned (.bool false) ∧ Below x.heap.size x w'))
    (CD : Hid (∀ x, Old (w.alloc (.cells #[.int .i64 g0, .int .i64 g1, .int .i64 g2, .int .i64 g3, .int .i64 g4, .int .i64 g5, .int .i64 g6, .int .i64 g7, .int .i64 g8, .int .i64 g9, .int .i64 g10, .int .i64 g11, .int .i64 g12, .int .i64 gc, .int .i64 gd, .int .i64 g15, .int .i64 g16, .int .i64 g17, .bool gb] 24)) x → Calls Try.prog 17 #[.slice (some ⟨B, off, none⟩) N cap, .int .i64 k] x fun e w' => e = .returned (.bool true) ∧ Below x.heap.size x w'))
    (CI : Hid (∀ x, Old (w.alloc (.cells #[.int .i64 g0, .int .i64 g1, .int .i64 g2, .int .i64 g3, .int .i64 g4, .int .i64 g5, .int .i64 g6, .int .i64 g7, .int .i64 g8, .int .i64 g9, .int .i64 g10, .int .i64 g11, .int .i64 g12, .int .i64 gc, .int .i64 gd, .int .i64 g15, .int .i64 g16, .int .i64 g17, .bool gb] 24)) x → B < x.heap.size ∧ x.cell? ⟨B, off + k * 7, none⟩ = some (.int .i64 3) ∧ x.cell? ⟨B, off + k * 7 + 6, none⟩ = some (.int .i64 x6)))
    (CE : Hid (∀ x, Old (w.alloc (.cells #[.int .i64 g0, .int .i64 g1, .int .i64 g2, .int .i64 g3, .int .i64 g4, .int .i64 g5, .int .i64 g6, .int .i64 g7, .int .i64 g8, .int .i64 g9, .int .i64 g10, .int .i64 g11, .int .i64 g12, .int .i64 gc, .int .i64 gd, .int .i64 g15, .int .i64 g16, .int .i64 g17, .bool gb] 24)) x → x.cell? ⟨w.heap.size, 13, none⟩ = some (.int .i64 gc) ∧ x.cell? ⟨w.heap.size, 14, none⟩ = some (.int .i64 gd) ∧ w.heap.size < x.heap.size))
    (ed : (if 0 < gd then gd else 0) = D)
    (HC : Hid (True)) (HD : Hid (0 ≤ D ∧ D ≤ 1099511627776)) (HR : Hid (r = 0 + D)) :
    Calls Try.prog 9 #[.agg #[.int .i64 g0, .int .i64 g1, .int .i64 g2, .int .i64 g3, .int .i64 g4, .int .i64 g5, .int .i64 g6, .int .i64 g7, .int .i64 g8, .int .i64 g9, .int .i64 g10, .int .i64 g11, .int .i64 g12, .int .i64 gc, .int .i64 gd, .int .i64 g15, .int .i64 g16, .int .i64 g17, .bool gb], .slice (some ⟨B, off, none⟩) N cap, .int .i64 k] w fun e w' => e = .returned (.int .i64 r) ∧ Below w.heap.size w w' := by
  go_enter Try.func9, Try.ntmps9
  have cm1 := CM.out _ (Below.refl _ _)
  go_wp2_with fail
  refine cm1.mono ?_
  rintro e w2 ⟨rfl, b2⟩
  have o2 := b2
  replace b2 := tstep b0 b2 b0.size
  have cu1 := CU.out _ o2
  clear cm1
  go_wp2_with fail
  refine cu1.mono ?_
  rintro e w3 ⟨rfl, b3⟩
  have o3 := tstep o2 b3 o2.size
  replace b3 := tstep b2 b3 b2.size
  obtain ⟨hB, k0, k6⟩ := CI.out _ o3
  clear cu1 o2 b2
  have cc1 := CC.out _ o3
  go_wp2_with fail
  refine cc1.mono ?_
  rintro e w5 ⟨rfl, b5⟩
  have o5 := tstep o3 b5 o3.size
  replace b5 := tstep b3 b5 b3.size
  clear cc1 o3 b3 k0 k6 hB
  have k13 := (CE.out _ o5).1
  have kl := (CE.out _ o5).2.2
  have cd1 := CD.out _ o5
  go_wp2_with fail
  refine cd1.mono ?_
  rintro e w7 ⟨rfl, b7⟩
  have o7 := tstep o5 b7 o5.size
  replace b7 := tstep b5 b7 b5.size
  clear cd1 k13 kl o5 b5
  have k14 := (CE.out _ o7).2.1
  have kl := (CE.out _ o7).2.2
  go_wp2
  go_ret
  refine ⟨congrArg (fun z => Ending.returned (Value.int .i64 z)) ?_, b7⟩
  have h2 := HC.out
  have h3 := HD.out
  have h4 := HR.out
  try unfold wrap64
  omega
set_option maxHeartbeats 1000000 in
theorem prof_znn (x6 g0 g1 g2 g3 g4 g5 g6 g7 g8 g9 g10 g11 g12 gc gd g15 g16 g17 C D r : Int) (gb : Bool) (B off k N cap : Nat) (w : World) (hk : k < N) (hN : N ≤ 1000000)
    (f1 : ¬ 0 < x6)
    (f2 : ((k : Int) == (N : Int)) = false)
    (b0 : Below w.heap.size w (w.alloc (.cells #[.int .i64 g0, .int .i64 g1, .int .i64 g2, .int .i64 g3, .int .i64 g4, .int .i64 g5, .int .i64 g6, .int .i64 g7, .int .i64 g8, .int .i64 g9, .int .i64 g10, .int .i64 g11, .int .i64 g12, .int .i64 gc, .int .i64 gd, .int .i64 g15, .int .i64 g16, .int .i64 g17, .bool gb] 24)))
    (CM : Hid (∀ x, Old (w.alloc (.cells #[.int .i64 g0, .int .i64 g1, .int .i64 g2, .int .i64 g3, .int .i64 g4, .int .i64 g5, .int .i64 g6, .int .i64 g7, .int .i64 g8, .int .i64 g9, .int .i64 g10, .int .i64 g11, .int .i64 g12, .int .i64 gc, .int .i64 gd, .int .i64 g15, .int .i64 g16, .int .i64 g17, .bool gb] 24)) x → Calls Try.prog 18 #[.slice (some ⟨B, off, none⟩) N cap, .int .i64 k] x fun e w' => e = .returned (.bool true) ∧ Below x.heap.size x w'))
    (CU : Hid (∀ x, Old (w.alloc (.cells #[.int .i64 g0, .int .i64 g1, .int .i64 g2, .int .i64 g3, .int .i64 g4, .int .i64 g5, .int .i64 g6, .int .i64 g7, .int .i64 g8, .int .i64 g9, .int .i64 g10, .int .i64 g11, .int .i64 g12, .int .i64 gc, .int .i64 gd, .int .i64 g15, .int .i64 g16, .int .i64 g17, .bool gb] 24)) x → Calls Try.prog 24 #[.slice (some ⟨B, off, none⟩) N cap, .int .i64 k] x fun e w' => e = .returned (.bool false) ∧ Below x.heap.size x w'))
    (CC : Hid (∀ x, Old (w.alloc (.cells #[.int .i64 g0, .int .i64 g1, .int .i64 g2, .int .i64 g3, .int .i64 g4, .int .i64 g5, .int .i64 g6, .int .i64 g7, .int .i64 g8, .int .i64 g9, .int .i64 g10, .int .i64 g11, .int .i64 g12, .int .i64 gc, .int .i64 gd, .int .i64 g15, .int .i64 g16, .int .i64 g17, .bool gb] 24)) x → Calls Try.prog 15 #[.slice (some ⟨B, off, none⟩) N cap, .int .i64 k] x fun e w' => e = .returned (.bool false) ∧ Below x.heap.size x w'))
    (CD : Hid (∀ x, Old (w.alloc (.cells #[.int .i64 g0, .int .i64 g1, .int .i64 g2, .int .i64 g3, .int .i64 g4, .int .i64 g5, .int .i64 g6, .int .i64 g7, .int .i64 g8, .int .i64 g9, .int .i64 g10, .int .i64 g11, .int .i64 g12, .int .i64 gc, .int .i64 gd, .int .i64 g15, .int .i64 g16, .int .i64 g17, .bool gb] 24)) x → Calls Try.prog 17 #[.slice (some ⟨B, off, none⟩) N cap, .int .i64 k] x fun e w' => e = .returned (.bool false) ∧ Below x.heap.size x w'))
    (CI : Hid (∀ x, Old (w.alloc (.cells #[.int .i64 g0, .int .i64 g1, .int .i64 g2, .int .i64 g3, .int .i64 g4, .int .i64 g5, .int .i64 g6, .int .i64 g7, .int .i64 g8, .int .i64 g9, .int .i64 g10, .int .i64 g11, .int .i64 g12, .int .i64 gc, .int .i64 gd, .int .i64 g15, .int .i64 g16, .int .i64 g17, .bool gb] 24)) x → B < x.heap.size ∧ x.cell? ⟨B, off + k * 7, none⟩ = some (.int .i64 3) ∧ x.cell? ⟨B, off + k * 7 + 6, none⟩ = some (.int .i64 x6)))
    (CE : Hid (∀ x, Old (w.alloc (.cells #[.int .i64 g0, .int .i64 g1, .int .i64 g2, .int .i64 g3, .int .i64 g4, .int .i64 g5, .int .i64 g6, .int .i64 g7, .int .i64 g8, .int .i64 g9, .int .i64 g10, .int .i64 g11, .int .i64 g12, .int .i64 gc, .int .i64 gd, .int .i64 g15, .int .i64 g16, .int .i64 g17, .bool gb] 24)) x → x.cell? ⟨w.heap.size, 13, none⟩ = some (.int .i64 gc) ∧ x.cell? ⟨w.heap.size, 14, none⟩ = some (.int .i64 gd) ∧ w.heap.size < x.heap.size))
    (HC : Hid (True)) (HD : Hid (True)) (HR : Hid (r = 0)) :
    Calls Try.prog 9 #[.agg #[.int .i64 g0, .int .i64 g1, .int .i64 g2, .int .i64 g3, .int .i64 g4, .int .i64 g5, .int .i64 g6, .int .i64 g7, .int .i64 g8, .int .i64 g9, .int .i64 g10, .int .i64 g11, .int .i64 g12, .int .i64 gc, .int .i64 gd, .int .i64 g15, .int .i64 g16, .int .i64 g17, .bool gb], .slice (some ⟨B, off, none⟩) N cap, .int .i64 k] w fun e w' => e = .returned (.int .i64 r) ∧ Below w.heap.size w w' := by
  go_enter Try.func9, Try.ntmps9
  have cm1 := CM.out _ (Below.refl _ _)
  go_wp2_with fail
  refine cm1.mono ?_
  rintro e w2 ⟨rfl, b2⟩
  have o2 := b2
  replace b2 := tstep b0 b2 b0.size
  have cu1 := CU.out _ o2
  clear cm1
  go_wp2_with fail
  refine cu1.mono ?_
  rintro e w3 ⟨rfl, b3⟩
  have o3 := tstep o2 b3 o2.size
  replace b3 := tstep b2 b3 b2.size
  obtain ⟨hB, k0, k6⟩ := CI.out _ o3
  clear cu1 o2 b2
  have cc1 := CC.out _ o3
  go_wp2_with fail
  refine cc1.mono ?_
  rintro e w5 ⟨rfl, b5⟩
  have o5 := tstep o3 b5 o3.size
  replace b5 := tstep b3 b5 b3.size
  clear cc1 o3 b3 k0 k6 hB
  have k13 := (CE.out _ o5).1
  have kl := (CE.out _ o5).2.2
  have cd1 := CD.out _ o5
  go_wp2_with fail
  refine cd1.mono ?_
  rintro e w7 ⟨rfl, b7⟩
  have o7 := tstep o5 b7 o5.size
  replace b7 := tstep b5 b7 b5.size
  clear cd1 k13 kl o5 b5
  have k14 := (CE.out _ o7).2.1
  have kl := (CE.out _ o7).2.2
  go_wp2
  go_ret
  refine ⟨congrArg (fun z => Ending.returned (Value.int .i64 z)) ?_, b7⟩
  have h2 := HC.out
  have h3 := HD.out
  have h4 := HR.out
  try unfold wrap64
  omega
set_option maxHeartbeats 1000000 in
theorem prof_pcw (x6 g0 g1 g2 g3 g4 g5 g6 g7 g8 g9 g10 g11 g12 gc gd g15 g16 g17 C D r : Int) (gb : Bool) (B off k N cap : Nat) (w : World) (hk : k < N) (hN : N ≤ 1000000)
    (f1 : 0 < x6) (HP : Hid (x6 ≤ 1099511627776))
    (f2 : ((k : Int) == (N : Int)) = false)
    (b0 : Below w.heap.size w (w.alloc (.cells #[.int .i64 g0, .int .i64 g1, .int .i64 g2, .int .i64 g3, .int .i64 g4, .int .i64 g5, .int .i64 g6, .int .i64 g7, .int .i64 g8, .int .i64 g9, .int .i64 g10, .int .i64 g11, .int .i64 g12, .int .i64 gc, .int .i64 gd, .int .i64 g15, .int .i64 g16, .int .i64 g17, .bool gb] 24)))
    (CM : Hid (∀ x, Old (w.alloc (.cells #[.int .i64 g0, .int .i64 g1, .int .i64 g2, .int .i64 g3, .int .i64 g4, .int .i64 g5, .int .i64 g6, .int .i64 g7, .int .i64 g8, .int .i64 g9, .int .i64 g10, .int .i64 g11, .int .i64 g12, .int .i64 gc, .int .i64 gd, .int .i64 g15, .int .i64 g16, .int .i64 g17, .bool gb] 24)) x → Calls Try.prog 18 #[.slice (some ⟨B, off, none⟩) N cap, .int .i64 k] x fun e w' => e = .returned (.bool true) ∧ Below x.heap.size x w'))
    (CU : Hid (∀ x, Old (w.alloc (.cells #[.int .i64 g0, .int .i64 g1, .int .i64 g2, .int .i64 g3, .int .i64 g4, .int .i64 g5, .int .i64 g6, .int .i64 g7, .int .i64 g8, .int .i64 g9, .int .i64 g10, .int .i64 g11, .int .i64 g12, .int .i64 gc, .int .i64 gd, .int .i64 g15, .int .i64 g16, .int .i64 g17, .bool gb] 24)) x → Calls Try.prog 24 #[.slice (some ⟨B, off, none⟩) N cap, .int .i64 k] x fun e w' => e = .returned (.bool false) ∧ Below x.heap.size x w'))
    (CC : Hid (∀ x, Old (w.alloc (.cells #[.int .i64 g0, .int .i64 g1, .int .i64 g2, .int .i64 g3, .int .i64 g4, .int .i64 g5, .int .i64 g6, .int .i64 g7, .int .i64 g8, .int .i64 g9, .int .i64 g10, .int .i64 g11, .int .i64 g12, .int .i64 gc, .int .i64 gd, .int .i64 g15, .int .i64 g16, .int .i64 g17, .bool gb] 24)) x → Calls Try.prog 15 #[.slice (some ⟨B, off, none⟩) N cap, .int .i64 k] x fun e w' => e = .returned (.bool true) ∧ Below x.heap.size x w'))
    (CD : Hid (∀ x, Old (w.alloc (.cells #[.int .i64 g0, .int .i64 g1, .int .i64 g2, .int .i64 g3, .int .i64 g4, .int .i64 g5, .int .i64 g6, .int .i64 g7, .int .i64 g8, .int .i64 g9, .int .i64 g10, .int .i64 g11, .int .i64 g12, .int .i64 gc, .int .i64 gd, .int .i64 g15, .int .i64 g16, .int .i64 g17, .bool gb] 24)) x → Calls Try.prog 17 #[.slice (some ⟨B, off, none⟩) N cap, .int .i64 k] x fun e w' => e = .returned (.bool true) ∧ Below x.heap.size x w'))
    (CI : Hid (∀ x, Old (w.alloc (.cells #[.int .i64 g0, .int .i64 g1, .int .i64 g2, .int .i64 g3, .int .i64 g4, .int .i64 g5, .int .i64 g6, .int .i64 g7, .int .i64 g8, .int .i64 g9, .int .i64 g10, .int .i64 g11, .int .i64 g12, .int .i64 gc, .int .i64 gd, .int .i64 g15, .int .i64 g16, .int .i64 g17, .bool gb] 24)) x → B < x.heap.size ∧ x.cell? ⟨B, off + k * 7, none⟩ = some (.int .i64 3) ∧ x.cell? ⟨B, off + k * 7 + 6, none⟩ = some (.int .i64 x6)))
    (CE : Hid (∀ x, Old (w.alloc (.cells #[.int .i64 g0, .int .i64 g1, .int .i64 g2, .int .i64 g3, .int .i64 g4, .int .i64 g5, .int .i64 g6, .int .i64 g7, .int .i64 g8, .int .i64 g9, .int .i64 g10, .int .i64 g11, .int .i64 g12, .int .i64 gc, .int .i64 gd, .int .i64 g15, .int .i64 g16, .int .i64 g17, .bool gb] 24)) x → x.cell? ⟨w.heap.size, 13, none⟩ = some (.int .i64 gc) ∧ x.cell? ⟨w.heap.size, 14, none⟩ = some (.int .i64 gd) ∧ w.heap.size < x.heap.size))
    (ec : (if 0 < gc then gc else 0) = C)
    (ed : (if 0 < gd then gd else 0) = D)
    (HC : Hid (0 ≤ C ∧ C ≤ 1099511627776)) (HD : Hid (0 ≤ D ∧ D ≤ 1099511627776)) (HR : Hid (r = x6 + C + D)) :
    Calls Try.prog 9 #[.agg #[.int .i64 g0, .int .i64 g1, .int .i64 g2, .int .i64 g3, .int .i64 g4, .int .i64 g5, .int .i64 g6, .int .i64 g7, .int .i64 g8, .int .i64 g9, .int .i64 g10, .int .i64 g11, .int .i64 g12, .int .i64 gc, .int .i64 gd, .int .i64 g15, .int .i64 g16, .int .i64 g17, .bool gb], .slice (some ⟨B, off, none⟩) N cap, .int .i64 k] w fun e w' => e = .returned (.int .i64 r) ∧ Below w.heap.size w w' := by
  go_enter Try.func9, Try.ntmps9
  have cm1 := CM.out _ (Below.refl _ _)
  go_wp2_with fail
  refine cm1.mono ?_
  rintro e w2 ⟨rfl, b2⟩
  have o2 := b2
  replace b2 := tstep b0 b2 b0.size
  have cu1 := CU.out _ o2
  clear cm1
  go_wp2_with fail
  refine cu1.mono ?_
  rintro e w3 ⟨rfl, b3⟩
  have o3 := tstep o2 b3 o2.size
  replace b3 := tstep b2 b3 b2.size
  obtain ⟨hB, k0, k6⟩ := CI.out _ o3
  clear cu1 o2 b2
  have cc1 := CC.out _ o3
  go_wp2_with fail
  refine cc1.mono ?_
  rintro e w5 ⟨rfl, b5⟩
  have o5 := tstep o3 b5 o3.size
  replace b5 := tstep b3 b5 b3.size
  clear cc1 o3 b3 k0 k6 hB
  have k13 := (CE.out _ o5).1
  have kl := (CE.out _ o5).2.2
  have cd1 := CD.out _ o5
  go_wp2_with fail
  refine cd1.mono ?_
  rintro e w7 ⟨rfl, b7⟩
  have o7 := tstep o5 b7 o5.size
  replace b7 := tstep b5 b7 b5.size
  clear cd1 k13 kl o5 b5
  have k14 := (CE.out _ o7).2.1
  have kl := (CE.out _ o7).2.2
  go_wp2
  go_ret
  refine ⟨congrArg (fun z => Ending.returned (Value.int .i64 z)) ?_, b7⟩
  have h2 := HC.out
  have h3 := HD.out
  have h4 := HR.out
  have h5 := HP.out
  try unfold wrap64
  omega
set_option maxHeartbeats 1000000 in
theorem prof_pcn (x6 g0 g1 g2 g3 g4 g5 g6 g7 g8 g9 g10 g11 g12 gc gd g15 g16 g17 C D r : Int) (gb : Bool) (B off k N cap : Nat) (w : World) (hk : k < N) (hN : N ≤ 1000000)
    (f1 : 0 < x6) (HP : Hid (x6 ≤ 1099511627776))
    (f2 : ((k : Int) == (N : Int)) = false)
    (b0 : Below w.heap.size w (w.alloc (.cells #[.int .i64 g0, .int .i64 g1, .int .i64 g2, .int .i64 g3, .int .i64 g4, .int .i64 g5, .int .i64 g6, .int .i64 g7, .int .i64 g8, .int .i64 g9, .int .i64 g10, .int .i64 g11, .int .i64 g12, .int .i64 gc, .int .i64 gd, .int .i64 g15, .int .i64 g16, .int .i64 g17, .bool gb] 24)))
    (CM : Hid (∀ x, Old (w.alloc (.cells #[.int .i64 g0, .int .i64 g1, .int .i64 g2, .int .i64 g3, .int .i64 g4, .int .i64 g5, .int .i64 g6, .int .i64 g7, .int .i64 g8, .int .i64 g9, .int .i64 g10, .int .i64 g11, .int .i64 g12, .int .i64 gc, .int .i64 gd, .int .i64 g15, .int .i64 g16, .int .i64 g17, .bool gb] 24)) x → Calls Try.prog 18 #[.slice (some ⟨B, off, none⟩) N cap, .int .i64 k] x fun e w' => e = .returned (.bool true) ∧ Below x.heap.size x w'))
    (CU : Hid (∀ x, Old (w.alloc (.cells #[.int .i64 g0, .int .i64 g1, .int .i64 g2, .int .i64 g3, .int .i64 g4, .int .i64 g5, .int .i64 g6, .int .i64 g7, .int .i64 g8, .int .i64 g9, .int .i64 g10, .int .i64 g11, .int .i64 g12, .int .i64 gc, .int .i64 gd, .int .i64 g15, .int .i64 g16, .int .i64 g17, .bool gb] 24)) x → Calls Try.prog 24 #[.slice (some ⟨B, off, none⟩) N cap, .int .i64 k] x fun e w' => e = .returned (.bool false) ∧ Below x.heap.size x w'))
    (CC : Hid (∀ x, Old (w.alloc (.cells #[.int .i64 g0, .int .i64 g1, .int .i64 g2, .int .i64 g3, .int .i64 g4, .int .i64 g5, .int .i64 g6, .int .i64 g7, .int .i64 g8, .int .i64 g9, .int .i64 g10, .int .i64 g11, .int .i64 g12, .int .i64 gc, .int .i64 gd, .int .i64 g15, .int .i64 g16, .int .i64 g17, .bool gb] 24)) x → Calls Try.prog 15 #[.slice (some ⟨B, off, none⟩) N cap, .int .i64 k] x fun e w' => e = .returned (.bool true) ∧ Below x.heap.size x w'))
    (CD : Hid (∀ x, Old (w.alloc (.cells #[.int .i64 g0, .int .i64 g1, .int .i64 g2, .int .i64 g3, .int .i64 g4, .int .i64 g5, .int .i64 g6, .int .i64 g7, .int .i64 g8, .int .i64 g9, .int .i64 g10, .int .i64 g11, .int .i64 g12, .int .i64 gc, .int .i64 gd, .int .i64 g15, .int .i64 g16, .int .i64 g17, .bool gb] 24)) x → Calls Try.prog 17 #[.slice (some ⟨B, off, none⟩) N cap, .int .i64 k] x fun e w' => e = .returned (.bool false) ∧ Below x.heap.size x w'))
    (CI : Hid (∀ x, Old (w.alloc (.cells #[.int .i64 g0, .int .i64 g1, .int .i64 g2, .int .i64 g3, .int .i64 g4, .int .i64 g5, .int .i64 g6, .int .i64 g7, .int .i64 g8, .int .i64 g9, .int .i64 g10, .int .i64 g11, .int .i64 g12, .int .i64 gc, .int .i64 gd, .int .i64 g15, .int .i64 g16, .int .i64 g17, .bool gb] 24)) x → B < x.heap.size ∧ x.cell? ⟨B, off + k * 7, none⟩ = some (.int .i64 3) ∧ x.cell? ⟨B, off + k * 7 + 6, none⟩ = some (.int .i64 x6)))
    (CE : Hid (∀ x, Old (w.alloc (.cells #[.int .i64 g0, .int .i64 g1, .int .i64 g2, .int .i64 g3, .int .i64 g4, .int .i64 g5, .int .i64 g6, .int .i64 g7, .int .i64 g8, .int .i64 g9, .int .i64 g10, .int .i64 g11, .int .i64 g12, .int .i64 gc, .int .i64 gd, .int .i64 g15, .int .i64 g16, .int .i64 g17, .bool gb] 24)) x → x.cell? ⟨w.heap.size, 13, none⟩ = some (.int .i64 gc) ∧ x.cell? ⟨w.heap.size, 14, none⟩ = some (.int .i64 gd) ∧ w.heap.size < x.heap.size))
    (ec : (if 0 < gc then gc else 0) = C)
    (HC : Hid (0 ≤ C ∧ C ≤ 1099511627776)) (HD : Hid (True)) (HR : Hid (r = x6 + C)) :
    Calls Try.prog 9 #[.agg #[.int .i64 g0, .int .i64 g1, .int .i64 g2, .int .i64 g3, .int .i64 g4, .int .i64 g5, .int .i64 g6, .int .i64 g7, .int .i64 g8, .int .i64 g9, .int .i64 g10, .int .i64 g11, .int .i64 g12, .int .i64 gc, .int .i64 gd, .int .i64 g15, .int .i64 g16, .int .i64 g17, .bool gb], .slice (some ⟨B, off, none⟩) N cap, .int .i64 k] w fun e w' => e = .returned (.int .i64 r) ∧ Below w.heap.size w w' := by
  go_enter Try.func9, Try.ntmps9
  have cm1 := CM.out _ (Below.refl _ _)
  go_wp2_with fail
  refine cm1.mono ?_
  rintro e w2 ⟨rfl, b2⟩
  have o2 := b2
  replace b2 := tstep b0 b2 b0.size
  have cu1 := CU.out _ o2
  clear cm1
  go_wp2_with fail
  refine cu1.mono ?_
  rintro e w3 ⟨rfl, b3⟩
  have o3 := tstep o2 b3 o2.size
  replace b3 := tstep b2 b3 b2.size
  obtain ⟨hB, k0, k6⟩ := CI.out _ o3
  clear cu1 o2 b2
  have cc1 := CC.out _ o3
  go_wp2_with fail
  refine cc1.mono ?_
  rintro e w5 ⟨rfl, b5⟩
  have o5 := tstep o3 b5 o3.size
  replace b5 := tstep b3 b5 b3.size
  clear cc1 o3 b3 k0 k6 hB
  have k13 := (CE.out _ o5).1
  have kl := (CE.out _ o5).2.2
  have cd1 := CD.out _ o5
  go_wp2_with fail
  refine cd1.mono ?_
  rintro e w7 ⟨rfl, b7⟩
  have o7 := tstep o5 b7 o5.size
  replace b7 := tstep b5 b7 b5.size
  clear cd1 k13 kl o5 b5
  have k14 := (CE.out _ o7).2.1
  have kl := (CE.out _ o7).2.2
  go_wp2
  go_ret
  refine ⟨congrArg (fun z => Ending.returned (Value.int .i64 z)) ?_, b7⟩
  have h2 := HC.out
  have h3 := HD.out
  have h4 := HR.out
  have h5 := HP.out
  try unfold wrap64
  omega
set_option maxHeartbeats 1000000 in
theorem prof_pnw (x6 g0 g1 g2 g3 g4 g5 g6 g7 g8 g9 g10 g11 g12 gc gd g15 g16 g17 C D r : Int) (gb : Bool) (B off k N cap : Nat) (w : World) (hk : k < N) (hN : N ≤ 1000000)
    (f1 : 0 < x6) (HP : Hid (x6 ≤ 1099511627776))
    (f2 : ((k : Int) == (N : Int)) = false)
    (b0 : Below w.heap.size w (w.alloc (.cells #[.int .i64 g0, .int .i64 g1, .int .i64 g2, .int .i64 g3, .int .i64 g4, .int .i64 g5, .int .i64 g6, .int .i64 g7, .int .i64 g8, .int .i64 g9, .int .i64 g10, .int .i64 g11, .int .i64 g12, .int .i64 gc, .int .i64 gd, .int .i64 g15, .int .i64 g16, .int .i64 g17, .bool gb] 24)))
    (CM : Hid (∀ x, Old (w.alloc (.cells #[.int .i64 g0, .int .i64 g1, .int .i64 g2, .int .i64 g3, .int .i64 g4, .int .i64 g5, .int .i64 g6, .int .i64 g7, .int .i64 g8, .int .i64 g9, .int .i64 g10, .int .i64 g11, .int .i64 g12, .int .i64 gc, .int .i64 gd, .int .i64 g15, .int .i64 g16, .int .i64 g17, .bool gb] 24)) x → Calls Try.prog 18 #[.slice (some ⟨B, off, none⟩) N cap, .int .i64 k] x fun e w' => e = .returned (.bool true) ∧ Below x.heap.size x w'))
    (CU : Hid (∀ x, Old (w.alloc (.cells #[.int .i64 g0, .int .i64 g1, .int .i64 g2, .int .i64 g3, .int .i64 g4, .int .i64 g5, .int .i64 g6, .int .i64 g7, .int .i64 g8, .int .i64 g9, .int .i64 g10, .int .i64 g11, .int .i64 g12, .int .i64 gc, .int .i64 gd, .int .i64 g15, .int .i64 g16, .int .i64 g17, .bool gb] 24)) x → Calls Try.prog 24 #[.slice (some ⟨B, off, none⟩) N cap, .int .i64 k] x fun e w' => e = .returned (.bool false) ∧ Below x.heap.size x w'))
    (CC : Hid (∀ x, Old (w.alloc (.cells #[.int .i64 g0, .int .i64 g1, .int .i64 g2, .int .i64 g3, .int .i64 g4, .int .i64 g5, .int .i64 g6, .int .i64 g7, .int .i64 g8, .int .i64 g9, .int .i64 g10, .int .i64 g11, .int .i64 g12, .int .i64 gc, .int .i64 gd, .int .i64 g15, .int .i64 g16, .int .i64 g17, .bool gb] 24)) x → Calls Try.prog 15 #[.slice (some ⟨B, off, none⟩) N cap, .int .i64 k] x fun e w' => e = .returned (.bool false) ∧ Below x.heap.size x w'))
    (CD : Hid (∀ x, Old (w.alloc (.cells #[.int .i64 g0, .int .i64 g1, .int .i64 g2, .int .i64 g3, .int .i64 g4, .int .i64 g5, .int .i64 g6, .int .i64 g7, .int .i64 g8, .int .i64 g9, .int .i64 g10, .int .i64 g11, .int .i64 g12, .int .i64 gc, .int .i64 gd, .int .i64 g15, .int .i64 g16, .int .i64 g17, .bool gb] 24)) x → Calls Try.prog 17 #[.slice (some ⟨B, off, none⟩) N cap, .int .i64 k] x fun e w' => e = .returned (.bool true) ∧ Below x.heap.size x w'))
    (CI : Hid (∀ x, Old (w.alloc (.cells #[.int .i64 g0, .int .i64 g1, .int .i64 g2, .int .i64 g3, .int .i64 g4, .int .i64 g5, .int .i64 g6, .int .i64 g7, .int .i64 g8, .int .i64 g9, .int .i64 g10, .int .i64 g11, .int .i64 g12, .int .i64 gc, .int .i64 gd, .int .i64 g15, .int .i64 g16, .int .i64 g17, .bool gb] 24)) x → B < x.heap.size ∧ x.cell? ⟨B, off + k * 7, none⟩ = some (.int .i64 3) ∧ x.cell? ⟨B, off + k * 7 + 6, none⟩ = some (.int .i64 x6)))
    (CE : Hid (∀ x, Old (w.alloc (.cells #[.int .i64 g0, .int .i64 g1, .int .i64 g2, .int .i64 g3, .int .i64 g4, .int .i64 g5, .int .i64 g6, .int .i64 g7, .int .i64 g8, .int .i64 g9, .int .i64 g10, .int .i64 g11, .int .i64 g12, .int .i64 gc, .int .i64 gd, .int .i64 g15, .int .i64 g16, .int .i64 g17, .bool gb] 24)) x → x.cell? ⟨w.heap.size, 13, none⟩ = some (.int .i64 gc) ∧ x.cell? ⟨w.heap.size, 14, none⟩ = some (.int .i64 gd) ∧ w.heap.size < x.heap.size))
    (ed : (if 0 < gd then gd else 0) = D)
    (HC : Hid (True)) (HD : Hid (0 ≤ D ∧ D ≤ 1099511627776)) (HR : Hid (r = x6 + D)) :
    Calls Try.prog 9 #[.agg #[.int .i64 g0, .int .i64 g1, .int .i64 g2, .int .i64 g3, .int .i64 g4, .int .i64 g5, .int .i64 g6, .int .i64 g7, .int .i64 g8, .int .i64 g9, .int .i64 g10, .int .i64 g11, .int .i64 g12, .int .i64 gc, .int .i64 gd, .int .i64 g15, .int .i64 g16, .int .i64 g17, .bool gb], .slice (some ⟨B, off, none⟩) N cap, .int .i64 k] w fun e w' => e = .returned (.int .i64 r) ∧ Below w.heap.size w w' := by
  go_enter Try.func9, Try.ntmps9
  have cm1 := CM.out _ (Below.refl _ _)
  go_wp2_with fail
  refine cm1.mono ?_
  rintro e w2 ⟨rfl, b2⟩
  have o2 := b2
  replace b2 := tstep b0 b2 b0.size
  have cu1 := CU.out _ o2
  clear cm1
  go_wp2_with fail
  refine cu1.mono ?_
  rintro e w3 ⟨rfl, b3⟩
  have o3 := tstep o2 b3 o2.size
  replace b3 := tstep b2 b3 b2.size
  obtain ⟨hB, k0, k6⟩ := CI.out _ o3
  clear cu1 o2 b2
  have cc1 := CC.out _ o3
  go_wp2_with fail
  refine cc1.mono ?_
  rintro e w5 ⟨rfl, b5⟩
  have o5 := tstep o3 b5 o3.size
  replace b5 := tstep b3 b5 b3.size
  clear cc1 o3 b3 k0 k6 hB
  have k13 := (CE.out _ o5).1
  have kl := (CE.out _ o5).2.2
  have cd1 := CD.out _ o5
  go_wp2_with fail
  refine cd1.mono ?_
  rintro e w7 ⟨rfl, b7⟩
  have o7 := tstep o5 b7 o5.size
  replace b7 := tstep b5 b7 b5.size
  clear cd1 k13 kl o5 b5
  have k14 := (CE.out _ o7).2.1
  have kl := (CE.out _ o7).2.2
  go_wp2
  go_ret
  refine ⟨congrArg (fun z => Ending.returned (Value.int .i64 z)) ?_, b7⟩
  have h2 := HC.out
  have h3 := HD.out
  have h4 := HR.out
  have h5 := HP.out
  try unfold wrap64
  omega
set_option maxHeartbeats 1000000 in
theorem prof_pnn (x6 g0 g1 g2 g3 g4 g5 g6 g7 g8 g9 g10 g11 g12 gc gd g15 g16 g17 C D r : Int) (gb : Bool) (B off k N cap : Nat) (w : World) (hk : k < N) (hN : N ≤ 1000000)
    (f1 : 0 < x6) (HP : Hid (x6 ≤ 1099511627776))
    (f2 : ((k : Int) == (N : Int)) = false)
    (b0 : Below w.heap.size w (w.alloc (.cells #[.int .i64 g0, .int .i64 g1, .int .i64 g2, .int .i64 g3, .int .i64 g4, .int .i64 g5, .int .i64 g6, .int .i64 g7, .int .i64 g8, .int .i64 g9, .int .i64 g10, .int .i64 g11, .int .i64 g12, .int .i64 gc, .int .i64 gd, .int .i64 g15, .int .i64 g16, .int .i64 g17, .bool gb] 24)))
    (CM : Hid (∀ x, Old (w.alloc (.cells #[.int .i64 g0, .int .i64 g1, .int .i64 g2, .int .i64 g3, .int .i64 g4, .int .i64 g5, .int .i64 g6, .int .i64 g7, .int .i64 g8, .int .i64 g9, .int .i64 g10, .int .i64 g11, .int .i64 g12, .int .i64 gc, .int .i64 gd, .int .i64 g15, .int .i64 g16, .int .i64 g17, .bool gb] 24)) x → Calls Try.prog 18 #[.slice (some ⟨B, off, none⟩) N cap, .int .i64 k] x fun e w' => e = .returned (.bool true) ∧ Below x.heap.size x w'))
    (CU : Hid (∀ x, Old (w.alloc (.cells #[.int .i64 g0, .int .i64 g1, .int .i64 g2, .int .i64 g3, .int .i64 g4, .int .i64 g5, .int .i64 g6, .int .i64 g7, .int .i64 g8, .int .i64 g9, .int .i64 g10, .int .i64 g11, .int .i64 g12, .int .i64 gc, .int .i64 gd, .int .i64 g15, .int .i64 g16, .int .i64 g17, .bool gb] 24)) x → Calls Try.prog 24 #[.slice (some ⟨B, off, none⟩) N cap, .int .i64 k] x fun e w' => e = .returned (.bool false) ∧ Below x.heap.size x w'))
    (CC : Hid (∀ x, Old (w.alloc (.cells #[.int .i64 g0, .int .i64 g1, .int .i64 g2, .int .i64 g3, .int .i64 g4, .int .i64 g5, .int .i64 g6, .int .i64 g7, .int .i64 g8, .int .i64 g9, .int .i64 g10, .int .i64 g11, .int .i64 g12, .int .i64 gc, .int .i64 gd, .int .i64 g15, .int .i64 g16, .int .i64 g17, .bool gb] 24)) x → Calls Try.prog 15 #[.slice (some ⟨B, off, none⟩) N cap, .int .i64 k] x fun e w' => e = .returned (.bool false) ∧ Below x.heap.size x w'))
    (CD : Hid (∀ x, Old (w.alloc (.cells #[.int .i64 g0, .int .i64 g1, .int .i64 g2, .int .i64 g3, .int .i64 g4, .int .i64 g5, .int .i64 g6, .int .i64 g7, .int .i64 g8, .int .i64 g9, .int .i64 g10, .int .i64 g11, .int .i64 g12, .int .i64 gc, .int .i64 gd, .int .i64 g15, .int .i64 g16, .int .i64 g17, .bool gb] 24)) x → Calls Try.prog 17 #[.slice (some ⟨B, off, none⟩) N cap, .int .i64 k] x fun e w' => e = .returned (.bool false) ∧ Below x.heap.size x w'))
    (CI : Hid (∀ x, Old (w.alloc (.cells #[.int .i64 g0, .int .i64 g1, .int .i64 g2, .int .i64 g3, .int .i64 g4, .int .i64 g5, .int .i64 g6, .int .i64 g7, .int .i64 g8, .int .i64 g9, .int .i64 g10, .int .i64 g11, .int .i64 g12, .int .i64 gc, .int .i64 gd, .int .i64 g15, .int .i64 g16, .int .i64 g17, .bool gb] 24)) x → B < x.heap.size ∧ x.cell? ⟨B, off + k * 7, none⟩ = some (.int .i64 3) ∧ x.cell? ⟨B, off + k * 7 + 6, none⟩ = some (.int .i64 x6)))
    (CE : Hid (∀ x, Old (w.alloc (.cells #[.int .i64 g0, .int .i64 g1, .int .i64 g2, .int .i64 g3, .int .i64 g4, .int .i64 g5, .int .i64 g6, .int .i64 g7, .int .i64 g8, .int .i64 g9, .int .i64 g10, .int .i64 g11, .int .i64 g12, .int .i64 gc, .int .i64 gd, .int .i64 g15, .int .i64 g16, .int .i64 g17, .bool gb] 24)) x → x.cell? ⟨w.heap.size, 13, none⟩ = some (.int .i64 gc) ∧ x.cell? ⟨w.heap.size, 14, none⟩ = some (.int .i64 gd) ∧ w.heap.size < x.heap.size))
    (HC : Hid (True)) (HD : Hid (True)) (HR : Hid (r = x6)) :
    Calls Try.prog 9 #[.agg #[.int .i64 g0, .int .i64 g1, .int .i64 g2, .int .i64 g3, .int .i64 g4, .int .i64 g5, .int .i64 g6, .int .i64 g7, .int .i64 g8, .int .i64 g9, .int .i64 g10, .int .i64 g11, .int .i64 g12, .int .i64 gc, .int .i64 gd, .int .i64 g15, .int .i64 g16, .int .i64 g17, .bool gb], .slice (some ⟨B, off, none⟩) N cap, .int .i64 k] w fun e w' => e = .returned (.int .i64 r) ∧ Below w.heap.size w w' := by
  go_enter Try.func9, Try.ntmps9
  have cm1 := CM.out _ (Below.refl _ _)
  go_wp2_with fail
  refine cm1.mono ?_
  rintro e w2 ⟨rfl, b2⟩
  have o2 := b2
  replace b2 := tstep b0 b2 b0.size
  have cu1 := CU.out _ o2
  clear cm1
  go_wp2_with fail
  refine cu1.mono ?_
  rintro e w3 ⟨rfl, b3⟩
  have o3 := tstep o2 b3 o2.size
  replace b3 := tstep b2 b3 b2.size
  obtain ⟨hB, k0, k6⟩ := CI.out _ o3
  clear cu1 o2 b2
  have cc1 := CC.out _ o3
  go_wp2_with fail
  refine cc1.mono ?_
  rintro e w5 ⟨rfl, b5⟩
  have o5 := tstep o3 b5 o3.size
  replace b5 := tstep b3 b5 b3.size
  clear cc1 o3 b3 k0 k6 hB
  have k13 := (CE.out _ o5).1
  have kl := (CE.out _ o5).2.2
  have cd1 := CD.out _ o5
  go_wp2_with fail
  refine cd1.mono ?_
  rintro e w7 ⟨rfl, b7⟩
  have o7 := tstep o5 b7 o5.size
  replace b7 := tstep b5 b7 b5.size
  clear cd1 k13 kl o5 b5
  have k14 := (CE.out _ o7).2.1
  have kl := (CE.out _ o7).2.2
  go_wp2
  go_ret
  refine ⟨congrArg (fun z => Ending.returned (Value.int .i64 z)) ?_, b7⟩
  have h2 := HC.out
  have h3 := HD.out
  have h4 := HR.out
  have h5 := HP.out
  try unfold wrap64
  omega
end Go.Proofs.Ytopifminodlpbaa
namespace Go.Proofs.Ytopifminodlpbaa
open Go.RowKit
set_option maxRecDepth 20000
set_option linter.unusedVariables false
set_option linter.unusedSimpArgs false

theorem rof_no (g : G19) (a : Option Addr) (cap : Nat) (l : List I7) (b : Int) (w : World) (hl : l.length ≤ 1000000) (hr : Els 7 encI w a l.length fun k => l.getD k zeroI) (hn : inV l b = false) :
    Calls Try.prog 9 #[geo g, .slice a l.length cap, .int .i64 b] w fun e w' => e = .returned (.int .i64 0) ∧ Below w.heap.size w w' := by
  have b0 := tbel1 w (.cells (geoC g) 24)
  have cm := rmay18_any a cap l b (w.alloc (.cells (geoC g) 24)) hl (hr.carry b0)
  have cu := fun x (hx : Below w.heap.size w x) => rmust18_any a cap l b x hl (hr.carry hx)
  clear hr
  rw [inV_doc] at hn
  unfold geoC at *
  unfold geo geoC
  generalize mayV l b = m at *
  generalize mustR l b = u at *
  generalize l.length = N at *
  cases m
  · clear cu
    go_enter Try.func9, Try.ntmps9
    go_wp2_with fail
    refine cm.mono ?_
    rintro e w1 ⟨rfl, b1⟩
    replace b1 := tstep b0 b1 b0.size
    clear cm
    go_wp2
    go_ret
    exact ⟨rfl, b1⟩
  · by_cases h : b = N
    · subst h
      clear cu
      go_enter Try.func9, Try.ntmps9
      go_wp2_with fail
      refine cm.mono ?_
      rintro e w1 ⟨rfl, b1⟩
      replace b1 := tstep b0 b1 b0.size
      clear cm
      go_wp2
      go_ret
      exact ⟨rfl, b1⟩
    · have hu : u = true := by simpa [h] using hn
      subst hu
      have f1 : (b == (N : Int)) = false := by simpa using h
      go_enter Try.func9, Try.ntmps9
      go_wp2_with fail
      refine cm.mono ?_
      rintro e w1 ⟨rfl, b1⟩
      replace b1 := tstep b0 b1 b0.size
      have cu1 := cu _ b1
      clear cm cu
      go_wp2_with fail
      refine cu1.mono ?_
      rintro e w2 ⟨rfl, b2⟩
      replace b2 := tstep b1 b2 b1.size
      clear cu1
      go_wp2
      go_ret
      exact ⟨rfl, b2⟩
/-- What the document's Of tells. -/
theorem rof_any (g : G19) (a : Option Addr) (cap : Nat) (l : List I7) (b : Int) (w : World) (hl : l.length ≤ 1000000) (hr : Els 7 encI w a l.length fun k => l.getD k zeroI) (hc : clubV l b = true → g.club ≤ 1099511627776) (hd : widowV l b = true → g.widow ≤ 1099511627776) :
    Calls Try.prog 9 #[geo g, .slice a l.length cap, .int .i64 b] w fun e w' => e = .returned (.int .i64 (ofV g.club g.widow l b)) ∧ Below w.heap.size w w' := by
  unfold ofV
  by_cases hn : inV l b = true
  · rw [if_pos hn]
    have hp := pen_low hn
    have hin := hn
    unfold inV at hin
    simp only [Bool.and_eq_true] at hin
    have hh := hasV_iff'.1 hin.1.1
    obtain ⟨k, rfl⟩ : ∃ k : Nat, b = k := ⟨b.toNat, by omega⟩
    have hk : k < l.length := by omega
    have b0 := tbel1 w (.cells (geoC g) 24)
    have G := blk_new w (geoC g) 24
    have E := hr.carry b0
    obtain ⟨B, off, rfl, hB, _⟩ := hr.item hk
    have CM := Lib.hid fun x (hx : Old (w.alloc (.cells (geoC g) 24)) x) => rmay18_any _ cap l k x hl (E.carry hx)
    have CU := Lib.hid fun x (hx : Old (w.alloc (.cells (geoC g) 24)) x) => rmust18_any _ cap l k x hl (E.carry hx)
    have CC := Lib.hid fun x (hx : Old (w.alloc (.cells (geoC g) 24)) x) => rclub_any _ cap l k x hl (E.carry hx)
    have CD := Lib.hid fun x (hx : Old (w.alloc (.cells (geoC g) 24)) x) => rwidow_any _ cap l k x hl (E.carry hx)
    have CE : Hid (∀ x, Old (w.alloc (.cells (geoC g) 24)) x → x.cell? ⟨w.heap.size, 13, none⟩ = some (.int .i64 g.club) ∧ x.cell? ⟨w.heap.size, 14, none⟩ = some (.int .i64 g.widow) ∧ w.heap.size < x.heap.size) :=
      Lib.hid fun x hx => ⟨(G.old hx).cell 13, (G.old hx).cell 14, (G.old hx).lt⟩
    have CI : Hid (∀ x, Old (w.alloc (.cells (geoC g) 24)) x → B < x.heap.size ∧ x.cell? ⟨B, off + k * 7, none⟩ = some (.int .i64 (atV l k).k) ∧ x.cell? ⟨B, off + k * 7 + 6, none⟩ = some (.int .i64 (atV l k).n)) :=
      Lib.hid fun x hx => by
        obtain ⟨B', off', e', q, d0, d1, d2, d3, d4, d5, d6⟩ := (E.carry hx).item hk
        cases e'
        rw [atV_in hk]
        exact ⟨q, d0, d6⟩
    clear E G hr
    rw [inV_doc] at hn
    simp only [Bool.and_eq_true, Bool.not_eq_true', decide_eq_false_iff_not] at hn
    obtain ⟨⟨e1, e2⟩, e3⟩ := hn
    rw [e1] at CM
    rw [e3] at CU
    have f2 : ((k : Int) == (l.length : Int)) = false := by simpa using e2
    clear e1 e2 e3 hin hh
    generalize clubV l k = c at *
    generalize widowV l k = d at *
    generalize l.length = N at *
    generalize atV l k = x at *
    obtain ⟨x0, x1, x2, x3, x4, x5, x6⟩ := x
    obtain ⟨g0, g1, g2, g3, g4, g5, g6, g7, g8, g9, g10, g11, g12, gc, gd, g15, g16, g17, gb⟩ := g
    unfold penV
    unfold geo geoC at *
    dsimp only at *
    have ec : (if 0 < gc then gc else 0) = max gc 0 := by split <;> omega
    have ed : (if 0 < gd then gd else 0) = max gd 0 := by split <;> omega
    have TT : Hid True := Lib.hid trivial
    by_cases hk3 : x0 = 3
    · subst hk3
      replace hp := hp rfl
      rw [if_pos rfl]
      by_cases f1 : 0 < x6
      · rw [show max x6 0 = x6 by omega]
        cases c
        · cases d
          · exact prof_pnn x6 g0 g1 g2 g3 g4 g5 g6 g7 g8 g9 g10 g11 g12 gc gd g15 g16 g17 (max gc 0) (max gd 0) _ gb B off k N cap w hk hl f1 (Lib.hid (by omega)) f2 b0 CM CU CC CD CI CE TT TT (Lib.hid (by simp))
          · exact prof_pnw x6 g0 g1 g2 g3 g4 g5 g6 g7 g8 g9 g10 g11 g12 gc gd g15 g16 g17 (max gc 0) (max gd 0) _ gb B off k N cap w hk hl f1 (Lib.hid (by omega)) f2 b0 CM CU CC CD CI CE ed TT (Lib.hid ⟨by omega, by have := hd rfl; omega⟩) (Lib.hid (by simp))
        · cases d
          · exact prof_pcn x6 g0 g1 g2 g3 g4 g5 g6 g7 g8 g9 g10 g11 g12 gc gd g15 g16 g17 (max gc 0) (max gd 0) _ gb B off k N cap w hk hl f1 (Lib.hid (by omega)) f2 b0 CM CU CC CD CI CE ec (Lib.hid ⟨by omega, by have := hc rfl; omega⟩) TT (Lib.hid (by simp))
          · exact prof_pcw x6 g0 g1 g2 g3 g4 g5 g6 g7 g8 g9 g10 g11 g12 gc gd g15 g16 g17 (max gc 0) (max gd 0) _ gb B off k N cap w hk hl f1 (Lib.hid (by omega)) f2 b0 CM CU CC CD CI CE ec ed (Lib.hid ⟨by omega, by have := hc rfl; omega⟩) (Lib.hid ⟨by omega, by have := hd rfl; omega⟩) (Lib.hid (by simp))
      · rw [show max x6 0 = 0 by omega]
        cases c
        · cases d
          · exact prof_znn x6 g0 g1 g2 g3 g4 g5 g6 g7 g8 g9 g10 g11 g12 gc gd g15 g16 g17 (max gc 0) (max gd 0) _ gb B off k N cap w hk hl f1 f2 b0 CM CU CC CD CI CE TT TT (Lib.hid (by simp))
          · exact prof_znw x6 g0 g1 g2 g3 g4 g5 g6 g7 g8 g9 g10 g11 g12 gc gd g15 g16 g17 (max gc 0) (max gd 0) _ gb B off k N cap w hk hl f1 f2 b0 CM CU CC CD CI CE ed TT (Lib.hid ⟨by omega, by have := hd rfl; omega⟩) (Lib.hid (by simp))
        · cases d
          · exact prof_zcn x6 g0 g1 g2 g3 g4 g5 g6 g7 g8 g9 g10 g11 g12 gc gd g15 g16 g17 (max gc 0) (max gd 0) _ gb B off k N cap w hk hl f1 f2 b0 CM CU CC CD CI CE ec (Lib.hid ⟨by omega, by have := hc rfl; omega⟩) TT (Lib.hid (by simp))
          · exact prof_zcw x6 g0 g1 g2 g3 g4 g5 g6 g7 g8 g9 g10 g11 g12 gc gd g15 g16 g17 (max gc 0) (max gd 0) _ gb B off k N cap w hk hl f1 f2 b0 CM CU CC CD CI CE ec ed (Lib.hid ⟨by omega, by have := hc rfl; omega⟩) (Lib.hid ⟨by omega, by have := hd rfl; omega⟩) (Lib.hid (by simp))
    · rw [if_neg hk3]
      have f1 : (x0 == 3) = false := by simpa using hk3
      cases c
      · cases d
        · exact prof_nnn x0 x6 g0 g1 g2 g3 g4 g5 g6 g7 g8 g9 g10 g11 g12 gc gd g15 g16 g17 (max gc 0) (max gd 0) _ gb B off k N cap w hk hl f1 f2 b0 CM CU CC CD CI CE TT TT (Lib.hid (by simp))
        · exact prof_nnw x0 x6 g0 g1 g2 g3 g4 g5 g6 g7 g8 g9 g10 g11 g12 gc gd g15 g16 g17 (max gc 0) (max gd 0) _ gb B off k N cap w hk hl f1 f2 b0 CM CU CC CD CI CE ed TT (Lib.hid ⟨by omega, by have := hd rfl; omega⟩) (Lib.hid (by simp))
      · cases d
        · exact prof_ncn x0 x6 g0 g1 g2 g3 g4 g5 g6 g7 g8 g9 g10 g11 g12 gc gd g15 g16 g17 (max gc 0) (max gd 0) _ gb B off k N cap w hk hl f1 f2 b0 CM CU CC CD CI CE ec (Lib.hid ⟨by omega, by have := hc rfl; omega⟩) TT (Lib.hid (by simp))
        · exact prof_ncw x0 x6 g0 g1 g2 g3 g4 g5 g6 g7 g8 g9 g10 g11 g12 gc gd g15 g16 g17 (max gc 0) (max gd 0) _ gb B off k N cap w hk hl f1 f2 b0 CM CU CC CD CI CE ec ed (Lib.hid ⟨by omega, by have := hc rfl; omega⟩) (Lib.hid ⟨by omega, by have := hd rfl; omega⟩) (Lib.hid (by simp))
  · rw [if_neg hn]
    exact rof_no g a cap l b w hl hr (by simpa using hn)
end Go.Proofs.Ytopifminodlpbaa
