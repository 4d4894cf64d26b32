/- Awake of layer 21. -/
import Derived.Test.YtniipfpfilenmaaHRef
namespace Go.Proofs.Ytniipfpfilenmaa
open Go.RowKit
set_option maxRecDepth 20000
set_option linter.unusedVariables false
set_option linter.unusedSimpArgs false

def wakeH : List I7 := [⟨6, 0, 0, 0, 0, 0, 0⟩, ⟨7, 0, 0, 0, 0, 0, 0⟩, ⟨6, 0, 0, 0, 0, 0, 1⟩, ⟨5, 0, 0, 0, 0, 0, 0⟩]
def wakeHF : List F3 := [⟨0, 1, 0⟩, ⟨0, 1, 0⟩]
def wakeHC : Array Value := #[.int .i64 6, .int .i64 0, .int .i64 0, .int .i64 0, .int .i64 0, .int .i64 0, .int .i64 0, .int .i64 7, .int .i64 0, .int .i64 0, .int .i64 0, .int .i64 0, .int .i64 0, .int .i64 0, .int .i64 6, .int .i64 0, .int .i64 0, .int .i64 0, .int .i64 0, .int .i64 0, .int .i64 1, .int .i64 5, .int .i64 0, .int .i64 0, .int .i64 0, .int .i64 0, .int .i64 0, .int .i64 0]
def wakeHG : Array Value := #[.int .i64 0, .int .i64 1, .int .i64 0, .int .i64 0, .int .i64 1, .int .i64 0]
theorem wakeHC_eq : wakeHC = ((wakeH.map encI).flatten).toArray := rfl
theorem wakeH_els (w : World) : Els 7 encI (w.alloc (.cells wakeHC 40)) (some ⟨w.heap.size, 0, none⟩) 4 fun k => wakeH.getD k zeroI := fun k j hk hj => by
  refine ⟨w.heap.size, 0, rfl, by simp, ?_⟩
  rw [(blk_new w wakeHC 40).cell, Nat.zero_add, ← flat_get encI_len zeroI wakeH k j hk hj, wakeHC_eq, List.getElem?_toArray]
theorem wakeH_in : ∀ k, inI (wakeH.getD k zeroI) := fun k => by
  match k with
  | 0 => unfold inI inR; decide
  | 1 => unfold inI inR; decide
  | 2 => unfold inI inR; decide
  | 3 => unfold inI inR; decide
  | _ + 4 => exact zeroI_in
theorem wakeH_flo (w : World) : URow (w.alloc (.cells wakeHG 42)) (some ⟨w.heap.size, 0, none⟩) wakeHF := fun k hk => by
  have B := blk_new w wakeHG 42
  have hk' : k = 0 ∨ k = 1 := by simp [wakeHF] at hk; omega
  rcases hk' with rfl | rfl
  · exact ⟨by unfold inF inR; decide, _, 0, rfl, B.lt, B.cell 0, B.cell 1, B.cell 2⟩
  · exact ⟨by unfold inF inR; decide, _, 0, rfl, B.lt, B.cell 3, B.cell 4, B.cell 5⟩
theorem wakeH_ahead : aheadA wakeH wakeHF (clN 3 wakeH.length) = ⟨2, 0, 0⟩ := by decide +kernel
theorem wakeH_due : dueA wakeH wakeHF (clN 3 wakeH.length) = ⟨1, 0, 0⟩ := by decide +kernel
theorem wakeH_begun : cntB (atE (entN wakeH 5 wakeH.length)) 4 = 1 := by decide +kernel
theorem wakeH_nums : (numsA wakeH 6 0 2 wakeH.length).length = 1 := by decide +kernel
set_option maxHeartbeats 1000000 in
theorem awake21 (w : World) : Calls Try.prog 6 #[] w fun e w' => e = .returned (.bool true) ∧ Below w.heap.size w w' := by
  have b0 := tbel2 w (.cells wakeHC 40) (.cells wakeHG 42)
  have c1 := hnew_any (some ⟨w.heap.size, 0, none⟩) 4 wakeH (some ⟨w.heap.size + 1, 0, none⟩) 2 wakeHF ((w.alloc (.cells wakeHC 40)).alloc (.cells wakeHG 42)) (by decide) ((wakeH_els w).carry (tbel1 _ _)) wakeH_in (by decide) (by have := wakeH_flo (w.alloc (.cells wakeHC 40)); rwa [World.size_alloc] at this)
  change Calls _ _ #[.slice (some ⟨w.heap.size, 0, none⟩) 4 4, .slice (some ⟨w.heap.size + 1, 0, none⟩) 2 2] _ _ at c1
  have HC := Lib.hid fun (v : Value) (x : World) (h : MapV x v wakeH wakeHF) => And.intro (hahead_any v wakeH wakeHF 3 x h (by decide)) (And.intro (hdue_any v wakeH wakeHF 3 x h (by decide)) (And.intro (hbegun_any v wakeH wakeHF 4 x h (by decide)) (hfloats_any v wakeH wakeHF 0 2 x h (by decide) wakeH_in)))
  rw [wakeH_ahead, wakeH_due, wakeH_begun] at HC
  unfold ar3 at HC
  unfold wakeHC wakeHG at c1 b0
  go_enter Try.func6, Try.ntmps6
  go_wp2_with fail
  refine c1.mono ?_
  rintro e w1 ⟨v, rfl, V1, b1⟩
  replace b1 := tstep b0 b1 b0.size
  clear c1 b0
  go_wp2_with fail
  refine (HC.out v w1 V1).1.mono ?_
  rintro e w2 ⟨rfl, b2⟩
  have V2 := V1.carry b2
  replace b2 := tstep b1 b2 b1.size
  clear b1 V1
  go_wp2_with fail
  refine (HC.out v w2 V2).2.1.mono ?_
  rintro e w4 ⟨rfl, b4⟩
  have V4 := V2.carry b4
  replace b4 := tstep b2 b4 b2.size
  clear V2 b2
  go_wp2_with fail
  refine (HC.out v w4 V4).2.2.1.mono ?_
  rintro e w5 ⟨rfl, b5⟩
  have V5 := V4.carry b5
  replace b5 := tstep b4 b5 b4.size
  clear V4 b4
  go_wp2_with fail
  refine (HC.out v w5 V5).2.2.2.mono ?_
  rintro e w6 ⟨u, rfl, ho, b6⟩
  obtain ⟨a, cap, rfl, _, _, _⟩ := ho.row
  rw [wakeH_nums]
  replace b6 := tstep b5 b6 b5.size
  clear HC V5 ho b5
  go_wp2
  go_ret
  exact ⟨rfl, b6⟩
end Go.Proofs.Ytniipfpfilenmaa
