/- The walk of the law ShareStops, whatever comes in. -/
import Derived.Test.YtonffgnmljppgaaSStop
import Derived.Test.YtonffgnmljppgaaSIs
namespace Go.Proofs.Ytonffgnmljppgaa
open Go.RowKit
theorem shareStops_walk (whole : Int) (hw : (Lit.int .i64 whole).wf = true) (a : Option Addr) (len cap : Nat) (zs : List Int) (n : Int) (hn : (Lit.int .i64 n).wf = true) (w : World) (h : IsRow .i64 w a len cap zs) :
    Calls Try.prog 5 #[.int .i64 whole, .slice a len cap, .int .i64 n] w fun e w' => e = .returned (.bool true) ∧ Below w.heap.size w w' := by
  obtain ⟨l, rfl, hr, h1, h2⟩ := h.irow
  have hm : maxLen ≤ 9223372036854775807 := by decide
  by_cases hc : 40 < l.length ∨ n < 1 ∨ (l.length : Int) < n
  · exact stops_none whole n a cap l.length w (by omega) hc
  · obtain ⟨m, rfl⟩ : ∃ m : Nat, n = m := ⟨n.toNat, by omega⟩
    exact stops_some whole m a cap l w (by omega) (swfR hw) (by omega) (by omega) hr
end Go.Proofs.Ytonffgnmljppgaa
