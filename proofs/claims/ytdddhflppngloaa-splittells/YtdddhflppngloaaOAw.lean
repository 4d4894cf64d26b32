/- awake of layer 22. -/
import Derived.Test.YtdddhflppngloaaOMbe
import Derived.Test.YtdddhflppngloaaOHgh
import Derived.Test.YtdddhflppngloaaNAw
namespace Go.Proofs.Ytdddhflppngloaa
open Go.RowKit
set_option maxRecDepth 20000
set_option linter.unusedVariables false
set_option linter.unusedSimpArgs false

def wakeO : List N2 := [⟨[2, 2], [0]⟩, ⟨[3, 3, 3], [0, 0]⟩]
def wakeOS : SpO := ⟨0, 0, 2, true⟩
def wakeOC : List (List PcO) := [[(0, 0, 2), (1, 0, 1)], [(0, 0, 2), (1, 0, 2)], [(0, 0, 2), (1, 0, 3)]]
theorem wakeO_cho : choO wakeO wakeOS = wakeOC := by decide +kernel
theorem wakeO_high : highO wakeO [(0, 0, 2), (1, 0, 1)] 1 = 8 := by decide +kernel
theorem wakeO_lines : linesO [(0, 0, 2), (1, 0, 3)] = 5 := by decide +kernel
theorem wakeO_may : decide ([(0, 0, 2), (1, 0, 2)] ∈ choO wakeO wakeOS) = true := by decide +kernel
theorem wakeO_no : decide (([] : List PcO) ∈ choO wakeO wakeOS) = false := by decide +kernel
theorem wakeO_small : SmallN wakeO ∧ SmallP wakeO := by
  refine ⟨fun k hk => ?_, fun k hk => ?_⟩ <;> (rcases (show k = 0 ∨ k = 1 by simp [wakeO] at hk; omega) with rfl | rfl <;> decide)
theorem wakeO_fair : ∀ k, k < [((0 : Int), (0 : Int), (2 : Int)), (1, 0, 3)].length → fairP ([((0 : Int), (0 : Int), (2 : Int)), (1, 0, 3)].getD k zPc) := fun k hk => by
  rcases (show k = 0 ∨ k = 1 by simp at hk; omega) with rfl | rfl <;> (unfold fairP; decide)
/-- The notes of awake, in five blocks. -/
theorem wakeO_notes {w : World} {g : Nat} (h0 : Blk w g #[.int .i64 2, .int .i64 2] 30) (h1 : Blk w (g + 1) #[.int .i64 0] 3) (h2 : Blk w (g + 1 + 1) #[.int .i64 3, .int .i64 3, .int .i64 3] 30) (h3 : Blk w (g + 1 + 1 + 1) #[.int .i64 0, .int .i64 0] 3)
    (h4 : Blk w (g + 1 + 1 + 1 + 1) #[.slice (some ⟨g, 0, none⟩) 2 2, .slice (some ⟨g + 1, 0, none⟩) 1 1, .slice (some ⟨g + 1 + 1, 0, none⟩) 3 3, .slice (some ⟨g + 1 + 1 + 1, 0, none⟩) 2 2] 42) : NotesAt w (some ⟨g + 1 + 1 + 1 + 1, 0, none⟩) wakeO := by
  have r0 := row_blk (l := [2, 2]) (B := w.heap.size) h0 h0.lt (by simp [inR])
  have r1 := row_blk (l := [0]) (B := w.heap.size) h1 h1.lt (by simp [inR])
  have r2 := row_blk (l := [3, 3, 3]) (B := w.heap.size) h2 h2.lt (by simp [inR])
  have r3 := row_blk (l := [0, 0]) (B := w.heap.size) h3 h3.lt (by simp [inR])
  refine ⟨fun k => if k = 0 then ⟨some ⟨g, 0, none⟩, 2, 2, some ⟨g + 1, 0, none⟩, 1, 1⟩ else ⟨some ⟨g + 1 + 1, 0, none⟩, 3, 3, some ⟨g + 1 + 1 + 1, 0, none⟩, 2, 2⟩, fun k j hk hj => ⟨g + 1 + 1 + 1 + 1, 0, rfl, h4.lt, ?_⟩, fun k hk => ?_⟩
  · rw [h4.cell, Nat.zero_add]
    rcases (show k = 0 ∨ k = 1 by simp [wakeO] at hk; omega) with rfl | rfl <;> rcases (show j = 0 ∨ j = 1 by omega) with rfl | rfl <;> rfl
  · rcases (show k = 0 ∨ k = 1 by simp [wakeO] at hk; omega) with rfl | rfl
    · exact ⟨rfl, rfl, (show 2 ≤ 2 ∧ 2 ≤ maxLen by decide), (show 1 ≤ 1 ∧ 1 ≤ maxLen by decide), r0, r1⟩
    · exact ⟨rfl, rfl, (show 3 ≤ 3 ∧ 3 ≤ maxLen by decide), (show 2 ≤ 2 ∧ 2 ≤ maxLen by decide), r2, r3⟩
/-- One of the lists, opened. -/
theorem ListsO.get {B g : Nat} {v : Value} {cs : List (List PcO)} {w : World} (h : ListsO B g v cs w) : ∃ va vc, v = .slice va cs.length vc ∧ cs.length ≤ vc ∧ vc ≤ maxLen ∧ ∀ k, k < cs.length → ∃ vb a c, va = some ⟨vb, 0, none⟩ ∧ vb < w.heap.size ∧ w.cell? ⟨vb, k, none⟩ = some (.slice a (cs.getD k []).length c) ∧ (cs.getD k []).length ≤ c ∧ c ≤ maxLen ∧ Els 3 encP w a (cs.getD k []).length fun i => (cs.getD k []).getD i zPc := by
  obtain ⟨vals, h1, _, h3⟩ := h
  obtain ⟨va, vc, rfl, e1, e2⟩ := own_form h1
  refine ⟨va, vc, rfl, e1, e2, fun k hk => ?_⟩
  obtain ⟨a, c, e, e3, e4, hE⟩ := (h3 k hk).1.form
  rcases h1.2 with ⟨_, h0⟩ | ⟨vb, cap, cur, ev, hb, hg, _⟩
  · omega
  · cases ev
    refine ⟨vb, a, c, rfl, (Array.getElem?_eq_some_iff.1 hg).1, ?_, e3, e4, hE.els⟩
    have hl : vals.length = cs.length := by have := h1.1; omega
    have hc := World.ownsRow.cellAt h1 (0 + k) (by omega)
    rw [Nat.zero_add] at hc
    rw [hc, ← e, List.getD_eq_getElem?_getD, List.getElem?_eq_getElem (by omega)]
    rfl
/-- The world in which awake asks. -/
def wakeOW (w : World) : World := (((((w.alloc (.cells #[.int .i64 2, .int .i64 2] 30)).alloc (.cells #[.int .i64 0] 3)).alloc (.cells #[.int .i64 3, .int .i64 3, .int .i64 3] 30)).alloc (.cells #[.int .i64 0, .int .i64 0] 3)).alloc
  (.cells #[.slice (some ⟨w.heap.size, 0, none⟩) 2 2, .slice (some ⟨w.heap.size + 1, 0, none⟩) 1 1, .slice (some ⟨w.heap.size + 1 + 1, 0, none⟩) 3 3, .slice (some ⟨w.heap.size + 1 + 1 + 1, 0, none⟩) 2 2] 42)).alloc (.cells #[.int .i64 0, .int .i64 0, .int .i64 2, .bool true] 24)
theorem blk_at {w : World} (cs : Array Value) (T : TypeId) {g : Nat} (h : w.heap.size = g) : Blk (w.alloc (.cells cs T)) g cs T := h ▸ blk_new w cs T
theorem wakeOW_facts (w : World) : Below w.heap.size w (wakeOW w) ∧ NotesAt (wakeOW w) (some ⟨w.heap.size + 1 + 1 + 1 + 1, 0, none⟩) wakeO ∧ Blk (wakeOW w) (w.heap.size + 1 + 1 + 1 + 1 + 1) #[.int .i64 0, .int .i64 0, .int .i64 2, .bool true] 24 := by
  refine ⟨?_, ?_, blk_at _ _ (by simp)⟩
  · exact ((tbel3 w _ _ _).alloc (by simp; omega) _ |>.alloc (by simp; omega) _).alloc (by simp; omega) _
  · refine wakeO_notes ?_ ?_ ?_ ?_ ?_
    · exact (((((blk_at _ _ rfl).alloc _).alloc _).alloc _).alloc _).alloc _
    · exact ((((blk_at _ _ (by simp)).alloc _).alloc _).alloc _).alloc _
    · exact (((blk_at _ _ (by simp)).alloc _).alloc _).alloc _
    · exact ((blk_at _ _ (by simp)).alloc _).alloc _
    · exact (blk_at _ _ (by simp)).alloc _
set_option maxHeartbeats 4000000 in
theorem awake22 (w : World) : Calls Try.prog 5 #[] w fun e w' => e = .returned (.bool true) ∧ Below w.heap.size w w' := by
  obtain ⟨b0, hN, hB⟩ := wakeOW_facts w
  have c1 := ochoices_any (some ⟨w.heap.size + 1 + 1 + 1 + 1, 0, none⟩) 2 wakeO wakeOS (wakeOW w) (by decide) wakeO_small (by decide) hN
  rw [wakeO_cho] at c1
  change Calls _ _ #[.slice (some ⟨w.heap.size + 1 + 1 + 1 + 1, 0, none⟩) 2 2, .agg #[.int .i64 0, .int .i64 0, .int .i64 2, .bool true]] _ _ at c1
  have HN := Lib.hid fun x (hx : Below (wakeOW w).heap.size (wakeOW w) x) => hN.carry hx
  have HB := Lib.hid hB
  clear hN hB
  go_enter Try.func5, Try.ntmps5
  go_wp2_with fail
  unfold wakeOW at c1 b0 HN HB
  generalize (((((w.alloc _).alloc _).alloc _).alloc _).alloc _).alloc _ = U at *
  refine c1.mono ?_
  rintro e W ⟨v, gI, rfl, hls, b1⟩
  obtain ⟨va, vc, rfl, hv1, hv2, each⟩ := hls.get
  obtain ⟨vb, a0, k0, rfl, hvb, q0, l0, m0, E0⟩ := each 0 (by decide)
  obtain ⟨vb', a1, k1, ev, _, q1, l1, m1, E1⟩ := each 1 (by decide)
  cases ev
  obtain ⟨vb', a2, k2, ev, _, q2, l2, m2, E2⟩ := each 2 (by decide)
  cases ev
  change W.cell? _ = some (.slice a0 2 k0) at q0
  change W.cell? _ = some (.slice a1 2 k1) at q1
  change W.cell? _ = some (.slice a2 2 k2) at q2
  change Els 3 encP W a0 [((0 : Int), (0 : Int), (2 : Int)), (1, 0, 1)].length (fun i => [((0 : Int), (0 : Int), (2 : Int)), (1, 0, 1)].getD i zPc) at E0
  change Els 3 encP W a1 [((0 : Int), (0 : Int), (2 : Int)), (1, 0, 2)].length (fun i => [((0 : Int), (0 : Int), (2 : Int)), (1, 0, 2)].getD i zPc) at E1
  change Els 3 encP W a2 [((0 : Int), (0 : Int), (2 : Int)), (1, 0, 3)].length (fun i => [((0 : Int), (0 : Int), (2 : Int)), (1, 0, 3)].getD i zPc) at E2
  obtain ⟨pb, off, rfl, hpb, p0, p1, p2⟩ := elsP E0 (k := 1) (by decide)
  change W.cell? ⟨pb, off + 3, none⟩ = some (.int .i64 1) at p0
  change W.cell? ⟨pb, off + 4, none⟩ = some (.int .i64 0) at p1
  change W.cell? ⟨pb, off + 5, none⟩ = some (.int .i64 1) at p2
  have bw := tstep b0 b1 b0.size
  have NW := fun x (hx : Old W x) => HN.out x (tstep b1 hx b1.size)
  have cH := Lib.hid fun x (hx : Old W x) => ohigh_any (some ⟨w.heap.size + 1 + 1 + 1 + 1, 0, none⟩) 2 wakeO (some ⟨pb, off, none⟩) k0 _ 1 x (by decide) wakeO_small.1 (by decide) (NW x hx) (E0.carry hx)
  have cL := Lib.hid fun x (hx : Old W x) => olines_any a2 k2 _ x (by decide) (E2.carry hx) wakeO_fair
  have cM := Lib.hid fun x (hx : Old W x) => omay_any (some ⟨w.heap.size + 1 + 1 + 1 + 1, 0, none⟩) 2 wakeO wakeOS a1 k1 _ x (by decide) wakeO_small (by decide) (by decide) (NW x hx) (E1.carry hx)
  have cN := Lib.hid fun x (hx : Old W x) => omay_any (some ⟨w.heap.size + 1 + 1 + 1 + 1, 0, none⟩) 2 wakeO wakeOS none 0 [] x (by decide) wakeO_small (by decide) (by decide) (NW x hx) none_els
  rw [wakeO_high] at cH
  rw [wakeO_lines] at cL
  rw [wakeO_may] at cM
  rw [wakeO_no] at cN
  rw [show wakeOC.length = 3 from rfl]
  have B := HB.out.old b1
  have CE := Lib.hid fun x (hx : Old W x) => And.intro (And.intro ((B.old hx).cell 0) (And.intro ((B.old hx).cell 1) (And.intro ((B.old hx).cell 2) ((B.old hx).cell 3)))) (And.intro (And.intro ((hx.cell (p := ⟨vb, 0, none⟩) hvb).trans q0) (And.intro ((hx.cell (p := ⟨vb, 1, none⟩) hvb).trans q1) ((hx.cell (p := ⟨vb, 2, none⟩) hvb).trans q2)))
    (And.intro ((hx.cell (p := ⟨pb, off + 3, none⟩) hpb).trans p0) (And.intro ((hx.cell (p := ⟨pb, off + 4, none⟩) hpb).trans p1) ((hx.cell (p := ⟨pb, off + 5, none⟩) hpb).trans p2))))
  clear each E0 E1 E2 q0 q1 q2 p0 p1 p2 B NW hls c1 b0 b1 HB HN
  go_wp2_with fail
  (refine wp_region_text (Old W) 48 (by kernel_rfl) (by kernel_rfl) (Below.refl _ W).drew ?_; simp only [List.take_succ_cons, List.take_zero, List.drop_succ_cons, List.drop_zero])
  repeat (first | (apply Text.sees (hw := by kernel_rfl); (focus (intro x hx K hK; have hc := CE.out x hx; go_simp; exact hK)); simp only [Act.put, List.getElem_toArray, List.getElem_cons_succ, List.getElem_cons_zero, List.setIfInBounds_toArray, List.set_cons_zero, List.set_cons_succ]) | (apply Text.idle; (focus (intro x hx K hK; go_simp; exact hK)); simp only [Act.put, List.getElem_toArray, List.getElem_cons_succ, List.getElem_cons_zero, List.setIfInBounds_toArray, List.set_cons_zero, List.set_cons_succ]))
  (refine Text.call (Old.call cH.out) (by kernel_rfl) (fun _ => by kernel_rfl) ?_; simp only [Act.put, List.getElem_toArray, List.getElem_cons_succ, List.getElem_cons_zero, List.setIfInBounds_toArray, List.set_cons_zero, List.set_cons_succ])
  repeat (first | (apply Text.sees (hw := by kernel_rfl); (focus (intro x hx K hK; have hc := CE.out x hx; go_simp; exact hK)); simp only [Act.put, List.getElem_toArray, List.getElem_cons_succ, List.getElem_cons_zero, List.setIfInBounds_toArray, List.set_cons_zero, List.set_cons_succ]) | (apply Text.idle; (focus (intro x hx K hK; go_simp; exact hK)); simp only [Act.put, List.getElem_toArray, List.getElem_cons_succ, List.getElem_cons_zero, List.setIfInBounds_toArray, List.set_cons_zero, List.set_cons_succ]))
  (refine Text.call (Old.call cL.out) (by kernel_rfl) (fun _ => by kernel_rfl) ?_; simp only [Act.put, List.getElem_toArray, List.getElem_cons_succ, List.getElem_cons_zero, List.setIfInBounds_toArray, List.set_cons_zero, List.set_cons_succ])
  repeat (first | (apply Text.sees (hw := by kernel_rfl); (focus (intro x hx K hK; have hc := CE.out x hx; go_simp; exact hK)); simp only [Act.put, List.getElem_toArray, List.getElem_cons_succ, List.getElem_cons_zero, List.setIfInBounds_toArray, List.set_cons_zero, List.set_cons_succ]) | (apply Text.idle; (focus (intro x hx K hK; go_simp; exact hK)); simp only [Act.put, List.getElem_toArray, List.getElem_cons_succ, List.getElem_cons_zero, List.setIfInBounds_toArray, List.set_cons_zero, List.set_cons_succ]))
  (refine Text.call (Old.call cM.out) (by kernel_rfl) (fun _ => by kernel_rfl) ?_; simp only [Act.put, List.getElem_toArray, List.getElem_cons_succ, List.getElem_cons_zero, List.setIfInBounds_toArray, List.set_cons_zero, List.set_cons_succ])
  repeat (first | (apply Text.sees (hw := by kernel_rfl); (focus (intro x hx K hK; have hc := CE.out x hx; go_simp; exact hK)); simp only [Act.put, List.getElem_toArray, List.getElem_cons_succ, List.getElem_cons_zero, List.setIfInBounds_toArray, List.set_cons_zero, List.set_cons_succ]) | (apply Text.idle; (focus (intro x hx K hK; go_simp; exact hK)); simp only [Act.put, List.getElem_toArray, List.getElem_cons_succ, List.getElem_cons_zero, List.setIfInBounds_toArray, List.set_cons_zero, List.set_cons_succ]))
  (refine Text.call (Old.call cN.out) (by kernel_rfl) (fun _ => by kernel_rfl) ?_; simp only [Act.put, List.getElem_toArray, List.getElem_cons_succ, List.getElem_cons_zero, List.setIfInBounds_toArray, List.set_cons_zero, List.set_cons_succ])
  repeat (first | (apply Text.sees (hw := by kernel_rfl); (focus (intro x hx K hK; have hc := CE.out x hx; go_simp; exact hK)); simp only [Act.put, List.getElem_toArray, List.getElem_cons_succ, List.getElem_cons_zero, List.setIfInBounds_toArray, List.set_cons_zero, List.set_cons_succ]) | (apply Text.idle; (focus (intro x hx K hK; go_simp; exact hK)); simp only [Act.put, List.getElem_toArray, List.getElem_cons_succ, List.getElem_cons_zero, List.setIfInBounds_toArray, List.set_cons_zero, List.set_cons_succ]))
  intro x hx
  go_wp2
  go_ret
  exact ⟨rfl, tstep bw hx bw.size⟩
end Go.Proofs.Ytdddhflppngloaa
