/- fields and Check of package item: the answers. -/
import Derived.Test.YtinkjpcilpdaaaaIChk
namespace Go.Proofs.Ytinkjpcilpdaaaa
open Go.RowKit
set_option maxRecDepth 20000
set_option linter.unusedVariables false
set_option linter.unusedSimpArgs false

/-- What field k says of x. -/
def qI (x : I7) : Nat → Bool
  | 0 => admR [1, 2] x.k x.h (btw x.h 0 1073741823)
  | 1 => admR [1] x.k x.f (btw x.f 0 3)
  | 2 => admR [2] x.k x.s (btw x.s 0 1073741823)
  | 3 => admR [2] x.k x.o (btw x.o 0 3)
  | 4 => admR [2] x.k x.r (btw x.r 0 (min x.h 1073741823))
  | _ => admR [3, 4, 5, 6] x.k x.n (numI x.k x.n)
/-- May it be? -/
def rightI (x : I7) : Bool := decide (1 ≤ x.k) && decide (x.k ≤ 7) && chkQ (qI x) 6
def checkI (x : I7) : Int := bif rightI x then 0 else 8
theorem blk_four' (w : World) (a b c d : Obj) (cs : Array Value) (T : TypeId) : Blk (((((w.alloc a).alloc b).alloc c).alloc d).alloc (.cells cs T)) (w.heap.size + 1 + 1 + 1 + 1) cs T := by
  have := blk_four (w.alloc a) b c d cs T
  rwa [World.size_alloc] at this
theorem blk_six' (w : World) (a b c d e : Obj) (cs : Array Value) (T : TypeId) : Blk ((((((w.alloc a).alloc b).alloc c).alloc d).alloc e).alloc (.cells cs T)) (w.heap.size + 1 + 1 + 1 + 1 + 1) cs T := by
  have := blk_four' (w.alloc a) b c d e cs T
  rwa [World.size_alloc] at this
theorem blk_seven' (w : World) (a b c d e f : Obj) (cs : Array Value) (T : TypeId) : Blk (((((((w.alloc a).alloc b).alloc c).alloc d).alloc e).alloc f).alloc (.cells cs T)) (w.heap.size + 1 + 1 + 1 + 1 + 1 + 1) cs T := by
  have := blk_six' (w.alloc a) b c d e f cs T
  rwa [World.size_alloc] at this
theorem fields_blk (w : World) : Calls Try.prog 17 #[] w fun e w' => e = .returned (.slice (some ⟨w.heap.size + 1 + 1 + 1 + 1 + 1 + 1, 0, none⟩) 6 6) ∧ Below w.heap.size w w' ∧ Blk w' (w.heap.size) #[.int .i64 1, .int .i64 2] 3 ∧ Blk w' (w.heap.size + 1) #[.int .i64 1] 3 ∧ Blk w' (w.heap.size + 1 + 1) #[.int .i64 2] 3 ∧ Blk w' (w.heap.size + 1 + 1 + 1) #[.int .i64 2] 3 ∧ Blk w' (w.heap.size + 1 + 1 + 1 + 1) #[.int .i64 2] 3 ∧ Blk w' (w.heap.size + 1 + 1 + 1 + 1 + 1) #[.int .i64 3, .int .i64 4, .int .i64 5, .int .i64 6] 3 ∧ Blk w' (w.heap.size + 1 + 1 + 1 + 1 + 1 + 1) #[.slice (some ⟨w.heap.size, 0, none⟩) 2 2, .func (.func 33) #[] #[], .func (.func 34) #[] #[], .slice (some ⟨w.heap.size + 1, 0, none⟩) 1 1, .func (.func 36) #[] #[], .func (.func 37) #[] #[], .slice (some ⟨w.heap.size + 1 + 1, 0, none⟩) 1 1, .func (.func 39) #[] #[], .func (.func 40) #[] #[], .slice (some ⟨w.heap.size + 1 + 1 + 1, 0, none⟩) 1 1, .func (.func 41) #[] #[], .func (.func 42) #[] #[], .slice (some ⟨w.heap.size + 1 + 1 + 1 + 1, 0, none⟩) 1 1, .func (.func 43) #[] #[], .func (.func 44) #[] #[], .slice (some ⟨w.heap.size + 1 + 1 + 1 + 1 + 1, 0, none⟩) 4 4, .func (.func 45) #[] #[], .func (.func 46) #[] #[]] 42 := by
  go_enter Try.func17, Try.ntmps17
  go_wp2
  go_ret
  refine ⟨rfl, ?_, ?_⟩
  · exact (tbel3 w _ _ _).trans ((((((tbel1 _ _).mono (by simp; omega)).alloc (by simp; omega) _).alloc (by simp; omega) _).alloc (by simp; omega) _))
  · exact ⟨((((((blk_new w _ _).alloc _).alloc _).alloc _).alloc _).alloc _).alloc _, (((((blk_two w _ _ _).alloc _).alloc _).alloc _).alloc _).alloc _, ((((blk_three w _ _ _ _).alloc _).alloc _).alloc _).alloc _, (((blk_four w _ _ _ _ _).alloc _).alloc _).alloc _, ((blk_four' w _ _ _ _ _ _).alloc _).alloc _, (blk_six' w _ _ _ _ _ _ _).alloc _, blk_seven' w _ _ _ _ _ _ _ _⟩
theorem row_1 {w : World} {g B : Nat} {T : TypeId} {a : Int} (h : Blk w g #[.int .i64 a] T) (hB : g < B) (ha : inR a) : IRow B w (some ⟨g, 0, none⟩) [a] := fun k hk => by
  have : k = 0 := by simp at hk; exact hk
  subst this
  exact ⟨ha, g, 0, rfl, hB, h.cell 0⟩
theorem row_2 {w : World} {g B : Nat} {T : TypeId} {a b : Int} (h : Blk w g #[.int .i64 a, .int .i64 b] T) (hB : g < B) (ha : inR a) (hb : inR b) : IRow B w (some ⟨g, 0, none⟩) [a, b] := fun k hk => by
  have hk : k = 0 ∨ k = 1 := by simp at hk; omega
  rcases hk with rfl | rfl
  · exact ⟨ha, g, 0, rfl, hB, h.cell 0⟩
  · exact ⟨hb, g, 0, rfl, hB, h.cell 1⟩
theorem row_4 {w : World} {g B : Nat} {T : TypeId} {a b c d : Int} (h : Blk w g #[.int .i64 a, .int .i64 b, .int .i64 c, .int .i64 d] T) (hB : g < B) (ha : inR a) (hb : inR b) (hc : inR c) (hd : inR d) : IRow B w (some ⟨g, 0, none⟩) [a, b, c, d] := fun k hk => by
  have hk : k = 0 ∨ k = 1 ∨ k = 2 ∨ k = 3 := by simp at hk; omega
  rcases hk with rfl | rfl | rfl | rfl
  · exact ⟨ha, g, 0, rfl, hB, h.cell 0⟩
  · exact ⟨hb, g, 0, rfl, hB, h.cell 1⟩
  · exact ⟨hc, g, 0, rfl, hB, h.cell 2⟩
  · exact ⟨hd, g, 0, rfl, hB, h.cell 3⟩
theorem fields_any (x : I7) (w : World) : Calls Try.prog 17 #[] w fun e w2 => ∃ g, g < w2.heap.size ∧ e = .returned (.slice (some ⟨g, 0, none⟩) 6 6) ∧ Below w.heap.size w w2 ∧ FldAt x (qI x) w2 g := by
  refine (fields_blk w).mono ?_
  rintro e w2 ⟨rfl, hb, B0, B1, B2, B3, B4, B5, B6⟩
  refine ⟨_, B6.lt, rfl, hb, fun k hk => ?_⟩
  have hk : k = 0 ∨ k = 1 ∨ k = 2 ∨ k = 3 ∨ k = 4 ∨ k = 5 := by omega
  rcases hk with rfl | rfl | rfl | rfl | rfl | rfl
  · exact ⟨_, _, _, _, _, B6.cell 0, B6.cell 1, B6.cell 2, fun w' h => adm_any x _ 2 [1, 2] 33 34 x.h (btw x.h 0 1073741823) w' (by simp) ((row_2 (B0.old h) (Nat.lt_of_lt_of_le B0.lt h.size) (by unfold inR; omega) (by unfold inR; omega))) (val1 x) (fit1 x) (fun w => by kernel_rfl) (fun w => by kernel_rfl)⟩
  · exact ⟨_, _, _, _, _, B6.cell 3, B6.cell 4, B6.cell 5, fun w' h => adm_any x _ 1 [1] 36 37 x.f (btw x.f 0 3) w' (by simp) ((row_1 (B1.old h) (Nat.lt_of_lt_of_le B1.lt h.size) (by unfold inR; omega))) (val2 x) (fit2 x) (fun w => by kernel_rfl) (fun w => by kernel_rfl)⟩
  · exact ⟨_, _, _, _, _, B6.cell 6, B6.cell 7, B6.cell 8, fun w' h => adm_any x _ 1 [2] 39 40 x.s (btw x.s 0 1073741823) w' (by simp) ((row_1 (B2.old h) (Nat.lt_of_lt_of_le B2.lt h.size) (by unfold inR; omega))) (val3 x) (fit3 x) (fun w => by kernel_rfl) (fun w => by kernel_rfl)⟩
  · exact ⟨_, _, _, _, _, B6.cell 9, B6.cell 10, B6.cell 11, fun w' h => adm_any x _ 1 [2] 41 42 x.o (btw x.o 0 3) w' (by simp) ((row_1 (B3.old h) (Nat.lt_of_lt_of_le B3.lt h.size) (by unfold inR; omega))) (val4 x) (fit4 x) (fun w => by kernel_rfl) (fun w => by kernel_rfl)⟩
  · exact ⟨_, _, _, _, _, B6.cell 12, B6.cell 13, B6.cell 14, fun w' h => adm_any x _ 1 [2] 43 44 x.r (btw x.r 0 (min x.h 1073741823)) w' (by simp) ((row_1 (B4.old h) (Nat.lt_of_lt_of_le B4.lt h.size) (by unfold inR; omega))) (val5 x) (fit5 x) (fun w => by kernel_rfl) (fun w => by kernel_rfl)⟩
  · exact ⟨_, _, _, _, _, B6.cell 15, B6.cell 16, B6.cell 17, fun w' h => adm_any x _ 4 [3, 4, 5, 6] 45 46 x.n (numI x.k x.n) w' (by simp) ((row_4 (B5.old h) (Nat.lt_of_lt_of_le B5.lt h.size) (by unfold inR; omega) (by unfold inR; omega) (by unfold inR; omega) (by unfold inR; omega))) (val6 x) (fit6 x) (fun w => by kernel_rfl) (fun w => by kernel_rfl)⟩
theorem check_out (k h f s o r n : Int) (w : World) (hk : k < 1 ∨ 7 < k) : Calls Try.prog 6 #[.agg #[.int .i64 k, .int .i64 h, .int .i64 f, .int .i64 s, .int .i64 o, .int .i64 r, .int .i64 n]] w fun e w' => e = .returned (.int .i64 8) ∧ Below w.heap.size w w' := by
  by_cases h1 : k < 1
  · go_enter Try.func6, Try.ntmps6
    go_wp2
    go_ret
    exact ⟨rfl, tbel1 w _⟩
  · have h7 : 7 < k := by omega
    clear hk
    go_enter Try.func6, Try.ntmps6
    go_wp2
    go_ret
    exact ⟨rfl, tbel1 w _⟩
theorem check_any (x : I7) (w : World) : Calls Try.prog 6 #[itm x] w fun e w' => e = .returned (.int .i64 (checkI x)) ∧ Below w.heap.size w w' := by
  by_cases hk : 1 ≤ x.k ∧ x.k ≤ 7
  · have e : checkI x = bif chkQ (qI x) 6 then 0 else 8 := by unfold checkI rightI; rw [decide_eq_true hk.1, decide_eq_true hk.2]; rfl
    rw [e]
    exact check_walk x (qI x) 0 w hk fun w' _ => fields_any x w'
  · have e : checkI x = 8 := by
      unfold checkI rightI
      by_cases h1 : 1 ≤ x.k
      · rw [decide_eq_false (p := x.k ≤ 7) (fun h => hk ⟨h1, h⟩), Bool.and_false, Bool.false_and]; rfl
      · rw [decide_eq_false h1, Bool.false_and, Bool.false_and]; rfl
    rw [e]
    exact check_out x.k x.h x.f x.s x.o x.r x.n w (by omega)
end Go.Proofs.Ytinkjpcilpdaaaa
