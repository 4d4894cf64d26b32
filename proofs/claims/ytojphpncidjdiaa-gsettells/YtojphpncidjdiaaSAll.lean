/- The walk of share.All. -/
import Derived.Test.YtojphpncidjdiaaSEach
import Derived.BigQuiet
import Derived.Laws.OwnMore
namespace Go.Proofs.Ytojphpncidjdiaa
open Go.RowKit Go.Shelf
set_option maxRecDepth 20000
set_option linter.unusedVariables false
attribute [local go_sem] Oper.semAt_some

theorem ownFrom_sbut {β : Type} {n b B : Nat} {w : World} (hn : n ≤ w.heap.size) (hB : n ≤ B) : OwnFrom B (fun (_ : β) W => SBut n b w W) :=
  fun _ X Y row hs hg hr => hs.trans ⟨hg.os, hg.tape, hg.output, hg.size, fun k hk hb =>
    hg.block k (by have := hs.size; omega) (fun e => by have := (hr k e.symm).1; omega)⟩
theorem own_mono {w : World} {base base' : Nat} {e : TypeId} {size : Nat} {v : Value} {n : Nat} {xs : List Value} (h : w.ownsRow base e size v n xs) (hb : base' ≤ base) : w.ownsRow base' e size v n xs := by
  refine ⟨h.1, ?_⟩
  rcases h.2 with h | ⟨g, cap, cur, h1, h2, h3⟩
  · exact .inl h
  · exact .inr ⟨g, cap, cur, h1, by omega, h3⟩
/-- 'out = append(out, v)': what the walk owes behind it; the slice's own rows lie at n and above. -/
theorem sapp {W w1 : World} {n B : Nat} {t e : TypeId} {size : Nat} {v v' : Value} {k m : Nat} {xs ys : List Value} {tmp : Obj}
    (hv : Boxed W B t v) (hte : t ≠ e) (hrow : W.ownsRow n e size v k xs) (hn : n ≤ W.heap.size)
    (hown' : w1.ownsRow n e size v' m ys) (hgrow : (W.alloc tmp).grownBy w1 v.ownBlock) :
    Boxed w1 B t v ∧ Boxed (w1.setCell ⟨B, 0, none⟩ v') B t v' ∧ (w1.setCell ⟨B, 0, none⟩ v').ownsRow n e size v' m ys ∧ KeepsOthers W (w1.setCell ⟨B, 0, none⟩ v') ∧ SBut n B W (w1.setCell ⟨B, 0, none⟩ v') := by
  have h0 := Boxed.appended (n₀ := 0) hv hte (own_mono hrow (Nat.zero_le _)) (Nat.zero_le _) (Nat.zero_le _) (own_mono hown' (Nat.zero_le _)) hgrow
  obtain ⟨hv1, hv2, _, hk, hb⟩ := h0
  refine ⟨hv1, hv2, hown'.kept (grownBy_setCell' w1 B v') (.inr (hv1.not_row hte hown').symm), hk, hb.os, hb.tape, hb.output, hb.size, fun j hj hjB => ?_⟩
  refine ((grownBy_setCell' w1 B v').block j ?_ (fun e => hjB (by cases e; rfl))).trans ((hgrow.block j (by simp; omega) ?_).trans ?_)
  · have := hgrow.size; simp at this; omega
  · rcases hrow.2 with ⟨rfl, _⟩ | ⟨g, cap, cur, rfl, hb, _, _⟩
    · simp [Value.ownBlock]
    · simp [Value.ownBlock]; omega
  · exact Below.heap_alloc W tmp j (by omega)
theorem infoSp : (Try.prog.info? 22).map (fun i => (i.zero, i.size, i.bytes)) = some (some (.int .i64 0), 1, 8) := by kernel_rfl

theorem allS_len (whole : Int) (l : List Int) : (allS whole l).length = (shareL whole l).length := by
  unfold allS shareL; split <;> simp [uptoS]
theorem allS_map (whole : Int) (l : List Int) : (allS whole l).map (fun x => Value.int .i64 x.2) = (shareL whole l).map (Value.int .i64) := by
  unfold allS shareL; split <;> simp [uptoS, comeS]
theorem allS_pos (whole : Int) (l : List Int) : decide (0 < (allS whole l).length) = rightS whole l := by
  by_cases h : rightS whole l = true
  · have := right_pos h
    rw [h, allS_len, shareL_len h]; simpa using this
  · have h' : rightS whole l = false := by simpa using h
    unfold allS; rw [h']; simp
/-- The numbers l lie where the slice v says, in a block of the call's own, at base and above. -/
structure OwnI (w : World) (base : Nat) (v : Value) (l : List Int) : Prop where
  own : w.ownsRow base 22 1 v l.length (l.map (Value.int .i64))
  ins : ∀ k, inR (l.getD k 0)
theorem shareL_in (whole : Int) (l : List Int) (hw : inR whole) (k : Nat) : inR ((shareL whole l).getD k 0) := by
  by_cases h : rightS whole l = true
  · by_cases hk : k < l.length
    · rw [shareL_getD h k hk]
      have := share_bd h k
      unfold inR at *; omega
    · rw [List.getD_eq_getElem?_getD, List.getElem?_eq_none (by rw [shareL_len h]; omega)]; simp [inR]
  · have h' : rightS whole l = false := by simpa using h
    unfold shareL; rw [h']; simp [inR]
/-- A slice of the call's own is a row that may be read. -/
theorem OwnI.row {w : World} {base : Nat} {v : Value} {l : List Int} (h : OwnI w base v l) : ∃ a cap, v = .slice a l.length cap ∧ l.length ≤ cap ∧ cap ≤ maxLen ∧ IRow w.heap.size w a l := by
  rcases h.own.2 with ⟨rfl, h0⟩ | ⟨g, cap, cur, rfl, hb, hg, h1, h2, h3, h4⟩
  · exact ⟨none, 0, by rw [h0], by omega, by decide, fun k hk => by omega⟩
  · refine ⟨some ⟨g, 0, none⟩, cap, rfl, h1, h2, fun k hk => ⟨h.ins k, g, 0, rfl, (Array.getElem?_eq_some_iff.1 hg).1, ?_⟩⟩
    rw [World.ownsRow.cellAt h.own (0 + k) (by omega)]
    rw [List.getElem?_map, List.getD_eq_getElem?_getD, Nat.zero_add, List.getElem?_eq_getElem hk]
    simp
end Go.Proofs.Ytojphpncidjdiaa
