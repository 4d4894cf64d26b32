/- The iterator over the choices for a spot keeps its contract. -/
import Derived.Test.YtdddhflppngloaaOEcw
namespace Go.Proofs.Ytdddhflppngloaa
open Go.RowKit
set_option maxRecDepth 20000
set_option linter.unusedVariables false

theorem oeach_mem (m n b1 b2 bx : Nat) (wc : World) (a : Option Addr) (cap : Nat) (l : List N2) (s : SpO) (w : World) (hl : l.length ≤ 1000000) (hSm : SmallN l ∧ SmallP l) (hsl : inR s.l) (hN : NotesAt wc a l) (E : EchW n b1 b2 wc a cap l s w)
    (hc : wc.heap.size ≤ n) (hbx : wc.heap.size ≤ bx) (h1 : b1 < n) (h2 : b2 < n) (x1 : b1 ≠ bx) (x2 : b2 ≠ bx) :
    SeqMem Fence.wide m Try.prog 23 #[.pointer (some ⟨b1, 0, none⟩), .pointer (some ⟨b2, 0, none⟩)] LayO (KpO n bx) (fun xs => xs = choO l s) (fun pre => pre ≠ [] ∧ ∃ r, choO l s = pre ++ r) (choO l s).length w := fun l0 J Jx W hW hst hY h0 => by
  have E1 := E.old hW
  rcases Nat.eq_zero_or_pos (openN l s) with h | h
  · exact oeach_none m l0 n b1 b2 bx wc a cap l s J Jx W hl hN E1 h hY h0
  · obtain ⟨mm, hmm⟩ : ∃ mm, openN l s = mm + 1 := ⟨openN l s - 1, by omega⟩
    cases hf : s.f
    · exact oeach_wait m l0 n b1 b2 bx mm wc a cap l s J Jx W hl hSm hsl hN E1 hmm hf E1.sz hc hbx h1 h2 x1 x2 hst hY h0
    · exact oeach_fresh m l0 n b1 b2 bx mm wc a cap l s J Jx W hl hSm hsl hN E1 hmm hf E1.sz hc hbx h1 h2 x1 x2 hst hY h0
end Go.Proofs.Ytdddhflppngloaa
