/- awake of layer 11. -/
import Derived.Test.YtimpphkikihhaaaNSt
import Derived.Test.YtimpphkikihhaaaNHi
namespace Go.Proofs.Ytimpphkikihhaaa
open Go.RowKit
set_option maxRecDepth 20000
set_option linter.unusedVariables false
set_option linter.unusedSimpArgs false

theorem row_blk {w : World} {g B : Nat} {T : TypeId} {l : List Int} (h : Blk w g (l.map (Value.int .i64)).toArray T) (hB : g < B) (ha : ∀ x ∈ l, inR x) : IRow B w (some ⟨g, 0, none⟩) l := fun k hk => by
  have e : l.getD k 0 = l[k] := by rw [List.getD_eq_getElem?_getD, List.getElem?_eq_getElem hk]; rfl
  refine ⟨by rw [e]; exact ha _ (List.getElem_mem hk), g, 0, rfl, hB, ?_⟩
  rw [h.cell, e]
  simp [hk]
theorem wake_facts : checkN [3, 4, 5] [7, 10000] = true ∧ mayN [3, 4, 5] [7, 10000] 1 = true ∧ mayN [3, 4, 5] [7, 10000] 2 = false ∧ highN [3, 4, 5] 1 3 = 9 ∧ penN [3, 4, 5] [7, 10000] 1 = 7 ∧ firstN [3, 4, 5] [7, 10000] 1 = 3 := by decide
set_option maxHeartbeats 1000000 in
theorem awake11 (w : World) : Calls Try.prog 6 #[] w fun e w' => e = .returned (.bool true) ∧ Below w.heap.size w w' := by
  obtain ⟨f1, f2, f3, f4, f5, f6⟩ := wake_facts
  have b0 := tbel3 w (.cells #[.int .i64 3, .int .i64 4, .int .i64 5] 34) (.cells #[.int .i64 7, .int .i64 10000] 3) (.cells #[.slice (some ⟨w.heap.size, 0, none⟩) 3 3, .slice (some ⟨w.heap.size + 1, 0, none⟩) 2 2] 25)
  have B0 := ((blk_new w #[.int .i64 3, .int .i64 4, .int .i64 5] 34).alloc (.cells #[.int .i64 7, .int .i64 10000] 3)).alloc (.cells #[.slice (some ⟨w.heap.size, 0, none⟩) 3 3, .slice (some ⟨w.heap.size + 1, 0, none⟩) 2 2] 25)
  have B1 := (blk_two w (.cells #[.int .i64 3, .int .i64 4, .int .i64 5] 34) #[.int .i64 7, .int .i64 10000] 3).alloc (.cells #[.slice (some ⟨w.heap.size, 0, none⟩) 3 3, .slice (some ⟨w.heap.size + 1, 0, none⟩) 2 2] 25)
  have B2 := blk_three w (.cells #[.int .i64 3, .int .i64 4, .int .i64 5] 34) (.cells #[.int .i64 7, .int .i64 10000] 3) #[.slice (some ⟨w.heap.size, 0, none⟩) 3 3, .slice (some ⟨w.heap.size + 1, 0, none⟩) 2 2] 25
  go_enter Try.func6, Try.ntmps6
  go_wp2_with fail
  generalize ((w.alloc _).alloc _).alloc _ = U at *
  have r0 := fun x (hx : Below U.heap.size U x) => row_blk (l := [3, 4, 5]) (B := x.heap.size) (B0.old hx) (B0.old hx).lt (by simp [inR])
  have r1 := fun x (hx : Below U.heap.size U x) => row_blk (l := [7, 10000]) (B := x.heap.size) (B1.old hx) (B1.old hx).lt (by simp [inR])
  have q := Lib.hid fun x (hx : Below U.heap.size U x) => (B2.old hx).two
  have c1 := Lib.hid fun x (hx : Below U.heap.size U x) => ncheck_any (some ⟨w.heap.size, 0, none⟩) 3 [3, 4, 5] (some ⟨w.heap.size + 1, 0, none⟩) 2 [7, 10000] x (by simp) (by simp) (r0 x hx) (r1 x hx)
  have c2 := Lib.hid fun (a : Int) x (hx : Below U.heap.size U x) => nmay_any (some ⟨w.heap.size, 0, none⟩) 3 [3, 4, 5] (some ⟨w.heap.size + 1, 0, none⟩) 2 [7, 10000] a x (by simp) (by simp) (r1 x hx)
  have c3 := Lib.hid fun x (hx : Below U.heap.size U x) => nhigh_any (some ⟨w.heap.size, 0, none⟩) 3 [3, 4, 5] (some ⟨w.heap.size + 1, 0, none⟩) 2 2 1 3 x (by simp) (r0 x hx)
  have c4 := Lib.hid fun x (hx : Below U.heap.size U x) => npen_any (some ⟨w.heap.size, 0, none⟩) 3 [3, 4, 5] (some ⟨w.heap.size + 1, 0, none⟩) 2 [7, 10000] 1 x (by simp) (by simp) (r1 x hx)
  have c5 := Lib.hid fun x (hx : Below U.heap.size U x) => nfirst_any (some ⟨w.heap.size, 0, none⟩) 3 [3, 4, 5] (some ⟨w.heap.size + 1, 0, none⟩) 2 [7, 10000] 1 x (by simp) (by simp) (by simp [inR]) (r1 x hx)
  clear r0 r1 B0 B1 B2
  rw [f1] at c1
  rw [f4] at c3
  rw [f5] at c4
  rw [f6] at c5
  have c21 := Lib.hid (c2.out 1)
  have c22 := Lib.hid (c2.out 2)
  rw [f2] at c21
  rw [f3] at c22
  clear c2 f1 f2 f3 f4 f5 f6
  unfold nte at c1 c21 c22 c3 c4 c5
  simp only [List.length_cons, List.length_nil, Nat.reduceAdd] at c1 c21 c22 c3 c4 c5
  refine (c1.out _ (Below.refl _ _)).mono ?_
  rintro e w1 ⟨rfl, b1⟩
  obtain ⟨q0, q1⟩ := q.out _ b1
  clear c1
  simp only [errN, cond_true]
  go_wp2_with fail
  refine (c21.out _ b1).mono ?_
  rintro e w2 ⟨rfl, b2⟩
  replace b2 := tstep b1 b2 b1.size
  clear q0 q1 b1 c21
  obtain ⟨q0, q1⟩ := q.out _ b2
  go_wp2_with fail
  refine (c22.out _ b2).mono ?_
  rintro e w3 ⟨rfl, b3⟩
  replace b3 := tstep b2 b3 b2.size
  clear q0 q1 b2 c22
  obtain ⟨q0, q1⟩ := q.out _ b3
  go_wp2_with fail
  refine (c3.out _ b3).mono ?_
  rintro e w4 ⟨rfl, b4⟩
  replace b4 := tstep b3 b4 b3.size
  clear q0 q1 b3 c3
  obtain ⟨q0, q1⟩ := q.out _ b4
  go_wp2_with fail
  refine (c4.out _ b4).mono ?_
  rintro e w5 ⟨rfl, b5⟩
  replace b5 := tstep b4 b5 b4.size
  clear q0 q1 b4 c4
  obtain ⟨q0, q1⟩ := q.out _ b5
  go_wp2_with fail
  refine (c5.out _ b5).mono ?_
  rintro e w6 ⟨rfl, b6⟩
  replace b6 := tstep b5 b6 b5.size
  clear q0 q1 b5 c5
  go_wp2
  go_ret
  exact ⟨rfl, tstep b0 b6 b0.size⟩
end Go.Proofs.Ytimpphkikihhaaa
