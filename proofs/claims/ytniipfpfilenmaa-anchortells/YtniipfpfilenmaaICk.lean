/- fields and Check of package item: the answers. -/
import Derived.Test.YtniipfpfilenmaaIChk
namespace Go.Proofs.Ytniipfpfilenmaa
open Go.RowKit
set_option maxRecDepth 20000
set_option linter.unusedVariables false
set_option linter.unusedSimpArgs false

/-- What field k says of x. -/
def qI (x : I7) : Nat → Bool
  | 0 => admR [1, 2] x.k x.h (btw x.h 0 1073741823)
  | 1 => admR [1] x.k x.f (btw x.f 0 3)
  | 2 => admR [2] x.k x.s (btw x.s 0 1073741823)
  | 3 => admR [2] x.k x.o (btw x.o 0 3)
  | 4 => admR [2] x.k x.r (btw x.r 0 (min x.h 1073741823))
  | _ => admR [3, 4, 5, 6] x.k x.n (numI x.k x.n)
/-- May it be? -/
def rightI (x : I7) : Bool := decide (1 ≤ x.k) && decide (x.k ≤ 7) && chkQ (qI x) 6
def checkI (x : I7) : Int := bif rightI x then 0 else 8
theorem blk_four' (w : World) (a b c d : Obj) (cs : Array Value) (T : TypeId) : Blk (((((w.alloc a).alloc b).alloc c).alloc d).alloc (.cells cs T)) (w.heap.size + 1 + 1 + 1 + 1) cs T := by
  have := blk_four (w.alloc a) b c d cs T
  rwa [World.size_alloc] at this
theorem blk_six' (w : World) (a b c d e : Obj) (cs : Array Value) (T : TypeId) : Blk ((((((w.alloc a).alloc b).alloc c).alloc d).alloc e).alloc (.cells cs T)) (w.heap.size + 1 + 1 + 1 + 1 + 1) cs T := by
  have := blk_four' (w.alloc a) b c d e cs T
  rwa [World.size_alloc] at this
theorem blk_seven' (w : World) (a b c d e f : Obj) (cs : Array Value) (T : TypeId) : Blk (((((((w.alloc a).alloc b).alloc c).alloc d).alloc e).alloc f).alloc (.cells cs T)) (w.heap.size + 1 + 1 + 1 + 1 + 1 + 1) cs T := by
  have := blk_six' (w.alloc a) b c d e f cs T
  rwa [World.size_alloc] at this
theorem row_1 {w : World} {g B : Nat} {T : TypeId} {a : Int} (h : Blk w g #[.int .i64 a] T) (hB : g < B) (ha : inR a) : IRow B w (some ⟨g, 0, none⟩) [a] := fun k hk => by
  have : k = 0 := by simp at hk; exact hk
  subst this
  exact ⟨ha, g, 0, rfl, hB, h.cell 0⟩
theorem row_2 {w : World} {g B : Nat} {T : TypeId} {a b : Int} (h : Blk w g #[.int .i64 a, .int .i64 b] T) (hB : g < B) (ha : inR a) (hb : inR b) : IRow B w (some ⟨g, 0, none⟩) [a, b] := fun k hk => by
  have hk : k = 0 ∨ k = 1 := by simp at hk; omega
  rcases hk with rfl | rfl
  · exact ⟨ha, g, 0, rfl, hB, h.cell 0⟩
  · exact ⟨hb, g, 0, rfl, hB, h.cell 1⟩
theorem row_4 {w : World} {g B : Nat} {T : TypeId} {a b c d : Int} (h : Blk w g #[.int .i64 a, .int .i64 b, .int .i64 c, .int .i64 d] T) (hB : g < B) (ha : inR a) (hb : inR b) (hc : inR c) (hd : inR d) : IRow B w (some ⟨g, 0, none⟩) [a, b, c, d] := fun k hk => by
  have hk : k = 0 ∨ k = 1 ∨ k = 2 ∨ k = 3 := by simp at hk; omega
  rcases hk with rfl | rfl | rfl | rfl
  · exact ⟨ha, g, 0, rfl, hB, h.cell 0⟩
  · exact ⟨hb, g, 0, rfl, hB, h.cell 1⟩
  · exact ⟨hc, g, 0, rfl, hB, h.cell 2⟩
  · exact ⟨hd, g, 0, rfl, hB, h.cell 3⟩
end Go.Proofs.Ytniipfpfilenmaa
