/- What Choices keeps while the choices come. -/
import Derived.Test.YtdddhflppngloaaOMem
import Derived.Test.YtdddhflppngloaaDetJ
namespace Go.Proofs.Ytdddhflppngloaa
open Go.RowKit
set_option maxRecDepth 20000
set_option linter.unusedVariables false
set_option linter.unusedSimpArgs false

theorem own_ne {w : World} {B B' sz sz' n n' : Nat} {e e' : TypeId} {v v' : Value} {xs xs' : List Value} (h : w.ownsRow B e sz v n xs) (h' : w.ownsRow B' e' sz' v' n' xs') (hne : e ≠ e') : v.ownBlock = none ∨ v.ownBlock ≠ v'.ownBlock := by
  rcases h.2 with ⟨rfl, _⟩ | ⟨g, cap, cur, rfl, _, hg, _⟩
  · exact .inl rfl
  · rcases h'.2 with ⟨rfl, _⟩ | ⟨g', cap', cur', rfl, _, hg', _⟩
    · exact .inr (by simp [Value.ownBlock])
    · refine .inr fun e' => ?_
      obtain rfl : g = g' := by simpa [Value.ownBlock] using e'
      rw [hg] at hg'
      simp only [Option.some.injEq, Obj.cells.injEq] at hg'
      exact hne hg'.2.1
theorem own_block_lt {w : World} {B sz n : Nat} {e : TypeId} {v : Value} {xs : List Value} (h : w.ownsRow B e sz v n xs) : ∀ i, v.ownBlock = some i → B ≤ i ∧ i < w.heap.size := fun i ei => by
  rcases h.2 with ⟨rfl, _⟩ | ⟨g, cap, cur, rfl, hb, hg, _⟩
  · simp [Value.ownBlock] at ei
  · obtain rfl : g = i := by simpa [Value.ownBlock] using ei
    exact ⟨hb, (Array.getElem?_eq_some_iff.1 hg).1⟩
theorem near_grown {g : Nat} {A B : World} (h : Near (fun k => k = g) A B) : A.grownBy B (some g) := ⟨h.os, h.tape, h.output, h.size, fun k hk hne => h.block k hk fun e => hne (by rw [e])⟩
/-- Lists of pieces, each in a block of its own, where the slice v says; none in block g. -/
def ListsO (B g : Nat) (v : Value) (cs : List (List PcO)) (w : World) : Prop :=
  ∃ vals : List Value, w.ownsRow B 25 1 v cs.length vals ∧ v.ownBlock ≠ some g ∧ ∀ k, k < cs.length → OwnP B (cs.getD k []) (vals.getD k undef) w ∧ (vals.getD k undef).ownBlock ≠ some g
theorem ListsO.near {B g : Nat} {v : Value} {cs : List (List PcO)} {A C : World} (h : ListsO B g v cs A) (hn : Near (fun k => k = g) A C) : ListsO B g v cs C := by
  obtain ⟨vals, h1, h2, h3⟩ := h
  exact ⟨vals, h1.kept (near_grown hn) (.inr h2), h2, fun k hk => ⟨World.ownsRow.kept (h3 k hk).1 (near_grown hn) (.inr (h3 k hk).2), (h3 k hk).2⟩⟩
theorem ListsO.put {B g : Nat} {v : Value} {cs : List (List PcO)} {A : World} (h : ListsO B g v cs A) {k : Nat} {o : Obj} (o' : Obj) (hk : A.heap[k]? = some o) (ho : o.isCells = false) : ListsO B g v cs (A.putObj k o') := by
  obtain ⟨vals, h1, h2, h3⟩ := h
  exact ⟨vals, ownsRow_putObj h1 o' hk ho, h2, fun i hi => ⟨ownsRow_putObj (h3 i hi).1 o' hk ho, (h3 i hi).2⟩⟩
theorem own_monoO {w : World} {B B' sz n : Nat} {e : TypeId} {v : Value} {xs : List Value} (h : w.ownsRow B e sz v n xs) (hB : B' ≤ B) : w.ownsRow B' e sz v n xs := by
  refine ⟨h.1, ?_⟩
  rcases h.2 with h | ⟨g, cap, cur, h1, h2, h3⟩
  · exact .inl h
  · exact .inr ⟨g, cap, cur, h1, by omega, h3⟩
theorem ListsO.mono {B B' g : Nat} {v : Value} {cs : List (List PcO)} {A : World} (h : ListsO B g v cs A) (hB : B' ≤ B) : ListsO B' g v cs A := by
  obtain ⟨vals, h1, h2, h3⟩ := h
  exact ⟨vals, own_monoO h1 hB, h2, fun k hk => ⟨OwnP.mono (h3 k hk).1 hB, (h3 k hk).2⟩⟩
theorem ListsO.old {B g : Nat} {v : Value} {cs : List (List PcO)} {A C : World} (h : ListsO B g v cs A) (hb : Old A C) : ListsO B g v cs C := h.near (Near.of hb)
/-- What Choices keeps: its variable in block b, the lists so far; all else of W0 stands. -/
structure ChoI (b : Nat) (W0 : World) (g : Nat) (cs : List (List PcO)) (W : World) : Prop where
  hg : g < W.heap.size
  all : ∃ v, Boxed W b 45 v ∧ ListsO W0.heap.size g v cs W
  but : OBut W0.heap.size b W0 W
theorem ChoI.near {b g : Nat} {W0 A C : World} {cs : List (List PcO)} (h : ChoI b W0 g cs A) (hn : Near (fun k => k = g) A C) (hb : b < W0.heap.size) (hgb : W0.heap.size ≤ g) : ChoI b W0 g cs C := by
  obtain ⟨v, hv, hl⟩ := h.all
  refine ⟨Nat.lt_of_lt_of_le h.hg hn.size, ⟨v, hv.kept (near_grown hn) (fun e => by cases e; omega), hl.near hn⟩, h.but.trans ⟨hn.os, hn.tape, hn.output, hn.size, fun k hk _ => hn.block k (by have := h.but.size; omega) (by omega)⟩⟩
theorem ChoI.bears {b g : Nat} {W0 : World} {cs : List (List PcO)} : Bears W0.heap.size (ChoI b W0 g cs) := fun A k o o' h hk hko ho => by
  obtain ⟨v, hv, hl⟩ := h.all
  have hne : k ≠ b := by
    rintro rfl
    rw [show A.heap[k]? = _ from hv] at hko
    cases hko
    cases ho
  exact ⟨by simpa [World.putObj] using h.hg, ⟨v, (World.putObj_heap_other (Ne.symm hne)).trans hv, hl.put o' hko ho⟩, h.but.trans (OBut.put A k o' hk)⟩
/-- One list more. -/
theorem ChoI.step {b g : Nat} {W0 W Z w4 : World} {cs : List (List PcO)} {x : List PcO} {v v' c : Value} {vals : List Value} (hW : OBut W0.heap.size b W0 W) (hgW : g < W.heap.size) (hb : b < W0.heap.size) (hgb : W0.heap.size ≤ g) (hv : Boxed W b 45 v)
    (h1 : W.ownsRow W0.heap.size 25 1 v cs.length vals) (h2 : v.ownBlock ≠ some g) (h3 : ∀ k, k < cs.length → OwnP W0.heap.size (cs.getD k []) (vals.getD k undef) W ∧ (vals.getD k undef).ownBlock ≠ some g) (hlen : vals.length = cs.length)
    (hZ : Old W Z) (hc : OwnP W.heap.size x c Z) (hown : w4.ownsRow W0.heap.size 25 1 v' (cs.length + 1) (vals ++ [c])) (hgr : Z.grownBy w4 v.ownBlock) (hob : v'.ownBlock = v.ownBlock ∨ v'.ownBlock = some Z.heap.size) :
    Boxed w4 b 45 v ∧ KeepsFrom W0.heap.size W (w4.setCell ⟨b, 0, none⟩ v') ∧ KpO W0.heap.size b g W (w4.setCell ⟨b, 0, none⟩ v') ∧ ChoI b W0 g (cs ++ [x]) (w4.setCell ⟨b, 0, none⟩ v') := by
  have hWs := hW.size
  have hZs := hZ.size
  have h4s := hgr.size
  have vZ : Boxed Z b 45 v := (hZ.block b hv.lt).trans hv
  have rZ := own_old h1 hZ
  have vb : some b ≠ v.ownBlock := hv.not_row (by decide) h1
  have v4 := vZ.kept hgr vb
  have vb' : some b ≠ v'.ownBlock := v4.not_row (by decide) hown
  have hblk : ∀ i, v.ownBlock = some i → W0.heap.size ≤ i ∧ i < W.heap.size := own_block_lt h1
  have hset := grownBy_setCell' w4 b v'
  have keepP : ∀ {B : Nat} {q : List PcO} {u : Value}, OwnP B q u Z → OwnP B q u (w4.setCell ⟨b, 0, none⟩ v') := fun {B q u} hu => by
    have hu4 : OwnP B q u w4 := World.ownsRow.kept hu hgr (own_ne hu rZ (by decide))
    exact World.ownsRow.kept hu4 hset (.inr (v4.not_row (by decide) hu4).symm)
  have hcb : c.ownBlock ≠ some g := fun e => by have := own_block_lt hc g e; omega
  refine ⟨v4, ?_, ⟨⟨?_, ?_, ?_, ?_, fun k hk hkb => ?_⟩, ?_⟩, ⟨by simp; omega, ⟨v', Boxed.set v' v4, vals ++ [c], ?_, ?_, fun k hk => ?_⟩, ?_⟩⟩
  · have k1 : KeepsFrom W0.heap.size W Z := ⟨hZ.size, fun k o _ hk _ => (hZ.block k (Array.getElem?_eq_some_iff.1 hk).1).trans hk⟩
    have k2 : KeepsFrom W0.heap.size Z w4 := (KeepsOthers.of_grownBy hgr fun j o ej hj => by
      rcases rZ.2 with ⟨rfl, _⟩ | ⟨g', cap, cur, rfl, _, hgg, _⟩
      · simp [Value.ownBlock] at ej
      · obtain rfl : g' = j := by simpa [Value.ownBlock] using ej
        rw [hgg] at hj
        cases hj
        rfl).from _
    exact (k1.trans k2).trans ((KeepsOthers.setCell w4 _ v').from _)
  · exact hset.os.trans (hgr.os.trans hZ.os)
  · exact hset.tape.trans (hgr.tape.trans hZ.tape)
  · exact hset.output.trans (hgr.output.trans hZ.output)
  · exact Nat.le_trans (Nat.le_trans hZs h4s) hset.size
  · refine (hset.block k (by omega) (fun e => by cases e; exact hkb rfl)).trans ((hgr.block k (by omega) fun e => ?_).trans (hZ.block k (by omega)))
    have := hblk k e.symm
    omega
  · refine (hset.block g (by omega) (fun e => by cases e; omega)).trans ((hgr.block g (by omega) fun e => h2 e.symm).trans (hZ.block g hgW))
  · have e : (cs ++ [x]).length = cs.length + 1 := by simp
    rw [e]
    exact hown.kept hset (.inr vb'.symm)
  · rcases hob with e | e
    · rw [e]; exact h2
    · rw [e]; intro e'; cases e'; omega
  · rcases Nat.lt_or_ge k cs.length with h | h
    · have e1 : (cs ++ [x]).getD k [] = cs.getD k [] := by simp [List.getD_eq_getElem?_getD, List.getElem?_append_left h]
      have e2 : (vals ++ [c]).getD k undef = vals.getD k undef := by simp [List.getD_eq_getElem?_getD, List.getElem?_append_left (show k < vals.length by omega)]
      rw [e1, e2]
      exact ⟨keepP (OwnP.old (h3 k h).1 hZ), (h3 k h).2⟩
    · obtain rfl : k = cs.length := by simp at hk; omega
      have e1 : (cs ++ [x]).getD cs.length [] = x := by simp [List.getD_eq_getElem?_getD]
      have e2 : (vals ++ [c]).getD cs.length undef = c := by rw [← hlen]; simp [List.getD_eq_getElem?_getD]
      rw [e1, e2]
      exact ⟨keepP (OwnP.mono hc hWs), hcb⟩
  · refine hW.trans ⟨hset.os.trans (hgr.os.trans hZ.os), hset.tape.trans (hgr.tape.trans hZ.tape), hset.output.trans (hgr.output.trans hZ.output), Nat.le_trans (Nat.le_trans hZs h4s) hset.size, fun k hk hkb => ?_⟩
    refine (hset.block k (by omega) (fun e => by cases e; exact hkb rfl)).trans ((hgr.block k (by omega) fun e => ?_).trans (hZ.block k (by omega)))
    have := hblk k e.symm
    omega
end Go.Proofs.Ytdddhflppngloaa
