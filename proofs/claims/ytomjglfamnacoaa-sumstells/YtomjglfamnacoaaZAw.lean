/- Awake of layer 19. -/
import Derived.Test.YtomjglfamnacoaaZRe2
namespace Go.Proofs.Ytomjglfamnacoaa
open Go.RowKit
set_option maxRecDepth 20000
set_option linter.unusedVariables false
set_option linter.unusedSimpArgs false

def wakeZ : List I7 := [⟨1, 3, 0, 0, 0, 0, 0⟩, ⟨2, 2, 0, 0, 0, 1, 0⟩, ⟨1, 4, 0, 0, 0, 0, 0⟩]
def wakeZC : Array Value := #[.int .i64 1, .int .i64 3, .int .i64 0, .int .i64 0, .int .i64 0, .int .i64 0, .int .i64 0, .int .i64 2, .int .i64 2, .int .i64 0, .int .i64 0, .int .i64 0, .int .i64 1, .int .i64 0, .int .i64 1, .int .i64 4, .int .i64 0, .int .i64 0, .int .i64 0, .int .i64 0, .int .i64 0]
theorem wakeZC_eq : wakeZC = ((wakeZ.map encI).flatten).toArray := rfl
theorem wakeZ_els (w : World) : Els 7 encI (w.alloc (.cells wakeZC 50)) (some ⟨w.heap.size, 0, none⟩) 3 fun k => wakeZ.getD k zeroI := fun k j hk hj => by
  refine ⟨w.heap.size, 0, rfl, by simp, ?_⟩
  rw [(blk_new w wakeZC 50).cell, Nat.zero_add, ← flat_get encI_len zeroI wakeZ k j hk hj, wakeZC_eq, List.getElem?_toArray]
theorem wakeZ_fair : fairM wakeZ = true := by decide +kernel
theorem wakeZ_fairTo : fairTo wakeZ wakeZ.length = true := by decide +kernel
theorem wakeZ_of : rngM wakeZ 0 3 = ⟨9, 0, 0, 0, 0, 1⟩ := by
  have h0 : (rngM wakeZ 0 3).n = 9 := by decide +kernel
  have h1 : (rngM wakeZ 0 3).s0 = 0 := by decide +kernel
  have h2 : (rngM wakeZ 0 3).s1 = 0 := by decide +kernel
  have h3 : (rngM wakeZ 0 3).s2 = 0 := by decide +kernel
  have h4 : (rngM wakeZ 0 3).s3 = 0 := by decide +kernel
  have h5 : (rngM wakeZ 0 3).h = 1 := by decide +kernel
  generalize rngM wakeZ 0 3 = r at *
  obtain ⟨r0, r1, r2, r3, r4, r5⟩ := r
  dsimp only at *
  subst h0 h1 h2 h3 h4 h5
  rfl
theorem wakeZ_boxes : rngS (boxK wakeZ) 0 3 wakeZ.length = 7 := by decide +kernel
theorem wakeZ_glues : (gluR wakeZ 1 2).length = 1 := by decide +kernel
set_option maxHeartbeats 1000000 in
theorem awake19 (w : World) : Calls Try.prog 6 #[] w fun e w' => e = .returned (.bool true) ∧ Below w.heap.size w w' := by
  have c1 := snew_any (some ⟨w.heap.size, 0, none⟩) 3 wakeZ (w.alloc (.cells wakeZC 50)) (by decide) (wakeZ_els w)
  change Calls _ _ #[.slice (some ⟨w.heap.size, 0, none⟩) 3 3] _ _ at c1
  rw [wakeZ_fair] at c1
  have b0 := tbel1 w (.cells wakeZC 50)
  have HC := Lib.hid fun (v : Value) (x : World) (h : SumV x v wakeZ) => And.intro (sof_any v wakeZ 0 3 x h (by decide) wakeZ_fairTo) (And.intro (sboxes_any v wakeZ 0 3 x h (by decide) wakeZ_fairTo) (And.intro (sglues_any v wakeZ 1 2 x h (by decide)) (slen_any v wakeZ x h (by decide))))
  rw [wakeZ_of, wakeZ_boxes] at HC
  unfold tot at HC
  unfold wakeZC at c1 b0
  go_enter Try.func6, Try.ntmps6
  go_wp2_with fail
  refine c1.mono ?_
  rintro e w1 ⟨v, rfl, hV, _, b1⟩
  have V1 : SumV w1 v wakeZ := .inr (hV trivial)
  replace b1 := tstep b0 b1 b0.size
  clear c1 b0 hV
  go_wp2_with fail
  refine (HC.out v w1 V1).1.mono ?_
  rintro e w2 ⟨rfl, b2⟩
  have V2 := V1.carry b2
  replace b2 := tstep b1 b2 b1.size
  have h2 := b2.size
  clear b1 V1
  have V3 := V2.carry (tbel1 w2 (.cells #[.int .i64 9, .int .i64 0, .int .i64 0, .int .i64 0, .int .i64 0, .int .i64 1] 31))
  have b3 := b2.alloc b2.size (.cells #[.int .i64 9, .int .i64 0, .int .i64 0, .int .i64 0, .int .i64 0, .int .i64 1] 31)
  go_wp2_with fail
  refine (HC.out v _ V3).2.1.mono ?_
  rintro e w4 ⟨rfl, b4⟩
  have V4 := V3.carry b4
  replace b4 := tstep b3 b4 b3.size
  clear V3 b3 V2
  go_wp2_with fail
  refine (HC.out v w4 V4).2.2.1.mono ?_
  rintro e w5 ⟨u, rfl, ⟨a, cap, rfl, _, _, _⟩, b5⟩
  have V5 := V4.carry b5
  replace b5 := tstep b4 b5 b4.size
  rw [wakeZ_glues]
  clear V4 b4
  go_wp2_with fail
  refine (HC.out v w5 V5).2.2.2.mono ?_
  rintro e w6 ⟨rfl, rfl⟩
  rw [show wakeZ.length = 3 from rfl]
  clear HC V5
  go_wp2
  go_ret
  exact ⟨rfl, b5⟩
end Go.Proofs.Ytomjglfamnacoaa
