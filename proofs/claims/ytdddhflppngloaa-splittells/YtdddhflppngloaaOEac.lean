/- The iterator over the choices for a spot: what it leaves between two rounds. -/
import Derived.Test.YtdddhflppngloaaOOpn
import Derived.Test.YtdddhflppngloaaOSeq
import Derived.Test.YtdddhflppngloaaNFst
import Derived.Test.YtdddhflppngloaaNSt
import Derived.WalkKit
import Derived.OwnWalkIn
import Derived.TacticsInMore
import Derived.LoopNIn
import Derived.LoopIn
namespace Go.Proofs.Ytdddhflppngloaa
open Go.RowKit
set_option maxRecDepth 20000
set_option linter.unusedVariables false
set_option linter.unusedSimpArgs false

theorem cutO_len (q : List PcO) (t : Int) : (cutO q t).length = q.length := by simp [cutO]
theorem cutO_last {q : List PcO} (h : 0 < q.length) (t : Int) : (cutO q t).getD (q.length - 1) zPc = ((q.getD (q.length - 1) zPc).1, (q.getD (q.length - 1) zPc).2.1, t) := by
  unfold cutO
  rw [List.getD_eq_getElem?_getD, List.getElem?_set_self (by omega)]
  rfl
theorem cutO_other {q : List PcO} {k : Nat} (h : k ≠ q.length - 1) (t : Int) : (cutO q t).getD k zPc = q.getD k zPc := by
  unfold cutO
  rw [List.getD_eq_getElem?_getD, List.getElem?_set_ne (by omega), ← List.getD_eq_getElem?_getD]
theorem cutO_self {q : List PcO} (h : 0 < q.length) : cutO q (q.getD (q.length - 1) zPc).2.2 = q := ext_P (cutO_len q _) fun k hk => by
  by_cases e : k = q.length - 1
  · rw [e, cutO_last h]
  · exact cutO_other e _
/-- The pieces q lie in block g. -/
def PcAt (w : World) (g : Nat) (q : List PcO) : Prop := ∃ cur : Array Value, Blk w g cur 44 ∧ ∀ k j, k < q.length → j < 3 → cur[k * 3 + j]? = (encP (q.getD k zPc))[j]?
theorem PcAt.els {w : World} {g : Nat} {q : List PcO} (h : PcAt w g q) : Els 3 encP w (some ⟨g, 0, none⟩) q.length fun k => q.getD k zPc := fun k j hk hj => by
  obtain ⟨cur, hb, hc⟩ := h
  exact ⟨g, 0, rfl, hb.lt, by rw [hb.cell, Nat.zero_add]; exact hc k j hk hj⟩
theorem PcAt.same {w w' : World} {g : Nat} {q : List PcO} (h : PcAt w g q) (hb : w'.heap[g]? = w.heap[g]?) : PcAt w' g q := by
  obtain ⟨cur, h1, h2⟩ := h
  exact ⟨cur, hb.trans h1, h2⟩
theorem PcAt.old {w w' : World} {g : Nat} {q : List PcO} (h : PcAt w g q) (hb : Old w w') : PcAt w' g q := by
  obtain ⟨cur, h1, h2⟩ := h
  exact ⟨cur, h1.old hb, h2⟩
theorem PcAt.lt {w : World} {g : Nat} {q : List PcO} (h : PcAt w g q) : g < w.heap.size := by
  obtain ⟨cur, h1, _⟩ := h
  exact h1.lt
theorem PcAt.free {w : World} {g : Nat} {q : List PcO} (h : PcAt w g q) (i : Nat) : w.frozen? ⟨g, i, none⟩ = false := by
  obtain ⟨cur, h1, _⟩ := h
  exact h1.free i
theorem PcAt.cut {w : World} {g : Nat} {q : List PcO} {t0 : Int} (h : PcAt w g (cutO q t0)) (h0 : 0 < q.length) (t : Int) : PcAt (w.setCell ⟨g, (q.length - 1) * 3 + 2, none⟩ (.int .i64 t)) g (cutO q t) := by
  obtain ⟨cur, h1, h2⟩ := h
  refine ⟨_, h1.set ((q.length - 1) * 3 + 2) (.int .i64 t), fun k j hk hj => ?_⟩
  rw [cutO_len] at hk h2
  have hc := h2 k j hk hj
  have hsz : k * 3 + j < cur.size := by
    rcases Nat.lt_or_ge (k * 3 + j) cur.size with h | h
    · exact h
    · rw [Array.getElem?_eq_none h] at hc
      have : j < (encP ((cutO q t0).getD k zPc)).length := by rw [encP_len]; exact hj
      rw [List.getElem?_eq_getElem this] at hc
      cases hc
  by_cases e : k = q.length - 1
  · subst e
    rw [cutO_last h0] at hc ⊢
    by_cases ej : j = 2
    · subst ej
      rw [Array.getElem?_setIfInBounds_self_of_lt hsz]
      rfl
    · rw [Array.getElem?_setIfInBounds_ne (by omega), hc]
      match j, hj, ej with
      | 0, _, _ => rfl
      | 1, _, _ => rfl
      | 2, _, h => exact absurd rfl h
  · rw [cutO_other e] at hc ⊢
    rw [Array.getElem?_setIfInBounds_ne (by omega), hc]
/-- What comes: the pieces x, where the value v says; if they lie anywhere, in block g. -/
def LayO (g : Nat) (x : List PcO) (A : World) (v : Value) : Prop := ∃ a cap, v = .slice a x.length cap ∧ x.length ≤ cap ∧ cap ≤ maxLen ∧ (Els 3 encP A a x.length fun k => x.getD k zPc) ∧ x.length ≤ 1000000
theorem LayO.nil (g : Nat) (A : World) : LayO g [] A (.slice none 0 0) := ⟨none, 0, rfl, Nat.le_refl _, by decide, fun k j hk _ => absurd hk (Nat.not_lt_zero k), by simp⟩
theorem els_put {w : World} {a : Option Addr} {n : Nat} {F : Nat → PcO} (h : Els 3 encP w a n F) {k : Nat} {o : Obj} (o' : Obj) (hk : w.heap[k]? = some o) (ho : o.isCells = false) : Els 3 encP (w.putObj k o') a n F := fun i j hi hj => by
  obtain ⟨b, off, e, hb, hc⟩ := h i j hi hj
  have hs : ∃ u, w.cell? ⟨b, off + (i * 3 + j), none⟩ = some u := by
    rw [hc, List.getElem?_eq_getElem (show j < (encP (F i)).length by rw [encP_len]; exact hj)]
    exact ⟨_, rfl⟩
  obtain ⟨u, hu⟩ := hs
  obtain ⟨o2, h2, h3⟩ := cells_of_cell hu
  have hne : k ≠ b := by
    rintro rfl
    rw [hk] at h2
    cases h2
    rw [ho] at h3
    cases h3
  refine ⟨b, off, e, by simpa [World.putObj] using hb, ?_⟩
  rw [← hc]
  exact World.cell?_of_block (World.putObj_heap_other (Ne.symm hne))
theorem LayO.bears (b g : Nat) (x : List PcO) (v : Value) : Bears b (fun A => LayO g x A v) := fun A k o o' h _ hk ho => by
  obtain ⟨a, cap, h1, h2, h3, h4, h5⟩ := h
  exact ⟨a, cap, h1, h2, h3, els_put h4 o' hk ho, h5⟩
/-- What stood stands, below n, but for block b. -/
structure OBut (n b : Nat) (w w' : World) : Prop where
  os : w'.os = w.os
  tape : w'.tape = w.tape
  output : w'.output = w.output
  size : w.heap.size ≤ w'.heap.size
  block : ∀ k, k < n → k ≠ b → w'.heap[k]? = w.heap[k]?
theorem OBut.refl (n b : Nat) (w : World) : OBut n b w w := ⟨rfl, rfl, rfl, Nat.le_refl _, fun _ _ _ => rfl⟩
theorem OBut.trans {n b : Nat} {u v w : World} (h : OBut n b u v) (k : OBut n b v w) : OBut n b u w :=
  ⟨k.os.trans h.os, k.tape.trans h.tape, k.output.trans h.output, Nat.le_trans h.size k.size, fun i hi hb => (k.block i hi hb).trans (h.block i hi hb)⟩
theorem OBut.below {n b m : Nat} {u v : World} (h : OBut n b u v) (hm : m ≤ n) (hb : m ≤ b) : Below m u v :=
  ⟨h.os, h.tape, h.output, h.size, fun i hi => h.block i (by omega) (by omega)⟩
theorem OBut.of {n b : Nat} {u v : World} (h : Below n u v) : OBut n b u v := ⟨h.os, h.tape, h.output, h.size, fun i hi _ => h.block i hi⟩
theorem OBut.put {n b : Nat} (W : World) (k : Nat) (o' : Obj) (hk : n ≤ k) : OBut n b W (W.putObj k o') :=
  ⟨rfl, rfl, rfl, by simp [World.putObj], fun i hi _ => World.putObj_heap_other (by omega)⟩
/-- What a round keeps: all below n but block b, and the iterator's own block g. -/
def KpO (n b : Nat) (g : Nat) (A B : World) : Prop := OBut n b A B ∧ B.heap[g]? = A.heap[g]?
theorem KpO.trans {n b g : Nat} {A B C : World} (h : KpO n b g A B) (k : KpO n b g B C) : KpO n b g A C := ⟨h.1.trans k.1, k.2.trans h.2⟩
theorem KpO.put {n b : Nat} (g : Nat) (W : World) (k : Nat) (o o' : Obj) (hk : n ≤ k) (hg : k < g) : KpO n b g W (W.putObj k o') := ⟨OBut.put W k o' hk, World.putObj_heap_other (by omega)⟩
theorem oeach_any (s : SpO) (a : Option Addr) (len cap : Nat) (w : World) :
    Calls Try.prog 20 #[.slice a len cap, spo s] w fun e w' => e = .returned (.func (.func 23) #[] #[.pointer (some ⟨w.heap.size, 0, none⟩), .pointer (some ⟨w.heap.size + 1, 0, none⟩)]) ∧
      w' = (w.alloc (.cells #[.slice a len cap] 22)).alloc (.cells #[.int .i64 s.n, .int .i64 s.l, .int .i64 s.b, .bool s.f] 24) := by
  obtain ⟨s0, s1, s2, s3⟩ := s
  unfold spo
  dsimp only
  go_enter Try.func20, Try.ntmps20
  go_wp2
  go_ret
  exact ⟨rfl, rfl⟩
end Go.Proofs.Ytdddhflppngloaa
