/- The document's Add and Sub over totals; 'awake' of the laws of stage 7. -/
import Derived.Test.YtomjglfamnacoaaTPair
import Derived.Test.YtomjglfamnacoaaTRef
import Derived.Test.YtomjglfamnacoaaTSm
import Derived.Test.YtomjglfamnacoaaTEq
namespace Go.Proofs.Ytomjglfamnacoaa
open Go.RowKit
set_option maxRecDepth 20000
set_option linter.unusedVariables false

theorem rAdd7_any (a b : T6) (w : World) (ha : inT a) (hb : inT b) : Calls Try.prog 17 #[tot a, tot b] w fun e w' => e = .returned (res (addT a b)) ∧ Below w.heap.size w w' := by
  obtain ⟨h0, h1, h2, h3, h4, h5⟩ := ha
  obtain ⟨g0, g1, g2, g3, g4, g5⟩ := hb
  refine (rAdd7_walk a.n a.s0 a.s1 a.s2 a.s3 a.h b.n b.s0 b.s1 b.s2 b.s3 b.h _ _ _ _ _ _ _ _ _ _ _ _ w (fun w => radd_any _ _ w h0 g0) (fun w => radd_any _ _ w h1 g1) (fun w => radd_any _ _ w h2 g2) (fun w => radd_any _ _ w h3 g3) (fun w => radd_any _ _ w h4 g4) (fun w => radd_any _ _ w h5 g5)).mono ?_
  rintro e w' ⟨rfl, hw⟩
  refine ⟨?_, hw⟩
  unfold addT pairT allT
  generalize (addR a.n b.n).2 = o0, (addR a.s0 b.s0).2 = o1, (addR a.s1 b.s1).2 = o2, (addR a.s2 b.s2).2 = o3, (addR a.s3 b.s3).2 = o4, (addR a.h b.h).2 = o5
  cases o0 <;> cases o1 <;> cases o2 <;> cases o3 <;> cases o4 <;> cases o5 <;> rfl
theorem inT_lit : inT (boxT 10) ∧ inT (glueT 5 2 1 3) ∧ inT ⟨15, 0, 2, 0, 0, 3⟩ := by
  refine ⟨?_, ?_, ?_⟩ <;> unfold inT inR <;> decide
end Go.Proofs.Ytomjglfamnacoaa
