/- The document's Near; items, lines and geometries brought to a grid, in place and by value. -/
import Derived.Test.YtniipfpfilenmaaJNum
import Derived.Test.YtniipfpfilenmaaNSm
namespace Go.Proofs.Ytniipfpfilenmaa
open Go.RowKit
set_option maxRecDepth 20000
set_option linter.unusedVariables false
set_option linter.unusedSimpArgs false

/-! ### Items -/
def encI (x : I7) : List Value := [.int .i64 x.k, .int .i64 x.h, .int .i64 x.f, .int .i64 x.s, .int .i64 x.o, .int .i64 x.r, .int .i64 x.n]
def encF (x : F3) : List Value := [.int .i64 x.c, .int .i64 x.h, .int .i64 x.p]
def encZ (x : Int) : List Value := [.int .i64 x]
theorem encI_len (x : I7) : (encI x).length = 7 := rfl
theorem encF_len (x : F3) : (encF x).length = 3 := rfl
theorem encZ_len (x : Int) : (encZ x).length = 1 := rfl
theorem encI_one : ∀ x, ∀ u ∈ encI x, u.oneCell' = true := fun x u hu => by
  simp only [encI, List.mem_cons, List.not_mem_nil, or_false] at hu
  rcases hu with rfl | rfl | rfl | rfl | rfl | rfl | rfl <;> rfl
theorem encF_one : ∀ x, ∀ u ∈ encF x, u.oneCell' = true := fun x u hu => by
  simp only [encF, List.mem_cons, List.not_mem_nil, or_false] at hu
  rcases hu with rfl | rfl | rfl <;> rfl
theorem encZ_one : ∀ x, ∀ u ∈ encZ x, u.oneCell' = true := fun x u hu => by
  simp only [encZ, List.mem_cons, List.not_mem_nil, or_false] at hu
  subst hu; rfl
theorem Blk.set7j {w : World} {g : Nat} {T : TypeId} {u0 u1 u2 u3 u4 u5 u6 : Value} (h : Blk w g #[u0, u1, u2, u3, u4, u5, u6] T) (v0 v1 v2 v3 v4 v5 v6 : Value) : Blk (((((((w.setCell ⟨g, 0, none⟩ v0).setCell ⟨g, 1, none⟩ v1).setCell ⟨g, 2, none⟩ v2).setCell ⟨g, 3, none⟩ v3).setCell ⟨g, 4, none⟩ v4).setCell ⟨g, 5, none⟩ v5).setCell ⟨g, 6, none⟩ v6) g #[v0, v1, v2, v3, v4, v5, v6] T := by
  simpa using ((((((h.set 0 v0).set 1 v1).set 2 v2).set 3 v3).set 4 v4).set 5 v5).set 6 v6
theorem info39 : (Try.prog.info? 40).map (·.size) = some 7 := by kernel_rfl
end Go.Proofs.Ytniipfpfilenmaa
