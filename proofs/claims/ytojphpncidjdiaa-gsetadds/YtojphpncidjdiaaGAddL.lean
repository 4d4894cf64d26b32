/- The walk of the law GsetAdds, for whatever comes in. -/
import Derived.Test.YtojphpncidjdiaaGAdd
import Derived.Test.YtojphpncidjdiaaGArr
namespace Go.Proofs.Ytojphpncidjdiaa
open Go.RowKit
set_option linter.unusedVariables false

theorem gsetAdds_walk (boxes : Int) (h0 : (Lit.int .i64 boxes).wf = true) (a : Option Addr) (len cap : Nat) (high : Int) (h1 : (Lit.int .i64 high).wf = true) (w : World) (h : IsFlat Try.prog [22, 22, 22, 22, 22, 22] w a len cap) :
    Calls Try.prog 6 #[.int .i64 boxes, .slice a len cap, .int .i64 high] w fun e w' => e = .returned (.bool true) ∧ Below w.heap.size w w' := by
  by_cases hn : len ≤ 40
  · by_cases hb : boxes < 0
    · exact adds9_no boxes high a len cap w h.len_le (.inr (.inl ⟨hn, hb⟩))
    · by_cases hb' : 1099511627776 < boxes
      · exact adds9_no boxes high a len cap w h.len_le (.inr (.inr ⟨hn, by omega, hb'⟩))
      · obtain ⟨l, rfl, hr⟩ := h.grow
        exact adds9 boxes high a cap l w hn (by omega) (by omega) (gs_wfR h1) hr
  · exact adds9_no boxes high a len cap w h.len_le (.inl (by omega))
end Go.Proofs.Ytojphpncidjdiaa
