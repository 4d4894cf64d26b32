/- The iterator over the choices for a spot has its contract. -/
import Derived.Test.YtdddhflppngloaaOEac
namespace Go.Proofs.Ytdddhflppngloaa
open Go.RowKit
set_option maxRecDepth 20000
set_option linter.unusedVariables false
set_option linter.unusedSimpArgs false
attribute [local go_sem] Oper.semAt_some

/-- The notes' penalties are not too many. -/
def SmallP (l : List N2) : Prop := ∀ k, k < l.length → (l.getD k zeroN).p.length ≤ 1000000
/-- What the iterator reads: its notes and its spot. -/
structure EchW (n b1 b2 : Nat) (wc : World) (a : Option Addr) (cap : Nat) (l : List N2) (s : SpO) (A : World) : Prop where
  bl : Below wc.heap.size wc A
  c1 : Blk A b1 #[.slice a l.length cap] 22
  c2 : Blk A b2 #[.int .i64 s.n, .int .i64 s.l, .int .i64 s.b, .bool s.f] 24
  sz : n ≤ A.heap.size
section
variable {n b1 b2 : Nat} {wc : World} {a : Option Addr} {cap : Nat} {l : List N2} {s : SpO} {A B : World}
theorem EchW.but (h : EchW n b1 b2 wc a cap l s A) {bx : Nat} (hb : OBut n bx A B) (hc : wc.heap.size ≤ n) (hx : wc.heap.size ≤ bx) (h1 : b1 < n) (h2 : b2 < n) (x1 : b1 ≠ bx) (x2 : b2 ≠ bx) : EchW n b1 b2 wc a cap l s B :=
  ⟨h.bl.trans (hb.below hc hx), (hb.block _ h1 x1).trans h.c1, (hb.block _ h2 x2).trans h.c2, Nat.le_trans h.sz hb.size⟩
theorem EchW.old (h : EchW n b1 b2 wc a cap l s A) (hb : Old A B) : EchW n b1 b2 wc a cap l s B :=
  ⟨tstep h.bl hb h.bl.size, h.c1.old hb, h.c2.old hb, Nat.le_trans h.sz hb.size⟩
theorem EchW.set (h : EchW n b1 b2 wc a cap l s A) {g : Nat} (hg : wc.heap.size ≤ g) (h1 : b1 ≠ g) (h2 : b2 ≠ g) (i : Nat) (v : Value) : EchW n b1 b2 wc a cap l s (A.setCell ⟨g, i, none⟩ v) :=
  ⟨h.bl.setCell (p := ⟨g, i, none⟩) hg v, h.c1.other h1 i v, h.c2.other h2 i v, by simpa using h.sz⟩
end
/-- The choice of no pieces. -/
def baseO (s : SpO) : List (List PcO) := if s.f = true then [] else [[]]
theorem choO_none {l : List N2} {s : SpO} (h : openN l s = 0) : choO l s = [[]] := by unfold choO; rw [if_pos h]
theorem choO_some {l : List N2} {s : SpO} (h : openN l s ≠ 0) : choO l s = baseO s ++ (endsO l (openO l s)).map (cutO (openO l s)) := by unfold choO; rw [if_neg h]; rfl
set_option maxHeartbeats 4000000 in
theorem oeach_none (m l0 n b1 b2 bx : Nat) (wc : World) (a : Option Addr) (cap : Nat) (l : List N2) (s : SpO) (J Jx : Nat → List (List PcO) → World → Prop) (W : World) (hl : l.length ≤ 1000000) (hN : NotesAt wc a l) (E : EchW n b1 b2 wc a cap l s W) (h : openN l s = 0)
    (hY : ∀ g pre x v A, W.heap.size ≤ g → J g pre A → LayO g x A v → pre.length < (choO l s).length → YieldAt Fence.wide (m - 1) Try.prog l0 #[v] A fun e B =>
      (e = .returned (.bool true) ∧ J g (pre ++ [x]) B ∧ KpO n bx g A B) ∨ (e = .returned (.bool false) ∧ Jx g (pre ++ [x]) B))
    (h0 : ∀ g B, W.heap.size ≤ g → g < B.heap.size → Below W.heap.size W B → J g [] B) :
    CallsIn Fence.wide m Try.prog 23 #[.func (.yield l0) #[] #[], .pointer (some ⟨b1, 0, none⟩), .pointer (some ⟨b2, 0, none⟩)] W fun e B => (∃ v, e = .returned v) ∧ ((∃ g xs, xs = choO l s ∧ J g xs B) ∨ ∃ g pre, (pre ≠ [] ∧ ∃ r, choO l s = pre ++ r) ∧ Jx g pre B) := by
  have co := oopen_any a cap l s W hl (hN.carry E.bl)
  have hq : openO l s = [] := List.eq_nil_of_length_eq_zero (by rw [openO_len, h])
  have hch := choO_none h
  rw [hq] at co
  rw [hch] at hY ⊢
  have q1 := E.c1.cell 0
  obtain ⟨s0, s1, s2, s3⟩ := s
  have q20 := E.c2.cell 0
  have q21 := E.c2.cell 1
  have q22 := E.c2.cell 2
  have q23 := E.c2.cell 3
  unfold spo at co
  dsimp only at co
  have HY := Lib.hid hY
  have HJ := Lib.hid h0
  clear hN hq hch h hY h0 E
  refine callsIn_of_wp Try.func23 rfl trivial ?_ rfl
  simp only [Try.ntmps23, List.size_toArray, List.length_cons, List.length_nil, Nat.reduceAdd, Nat.reduceSub, Array.replicate_succ, Array.replicate_zero, List.push_toArray, List.append_toArray, List.nil_append, List.cons_append]
  gi_wp2_with fail
  refine ⟨trivial, fun hd => (by cases hd), ?_⟩
  refine (callsIn_wide.2 co).mono ?_
  rintro e w1 ⟨v, rfl, ho, b, hlt⟩
  obtain ⟨va, vc, rfl, hc1, hc2, hE⟩ := OwnP.form ho
  obtain ⟨fn, tmps, assign, body, hy, hR⟩ := HY.out W.heap.size [] [] _ w1 (Nat.le_refl _) (HJ.out _ _ (Nat.le_refl _) hlt b) (LayO.nil _ _) (by simp)
  clear co q1 q20 q21 q22 q23 ho hE HJ HY
  gi_wp2_with fail
  refine ⟨fun hd => (by cases hd), ?_⟩
  refine hR.mono ?_
  rintro e W3 (⟨rfl, hJ3, hk3⟩ | ⟨rfl, hJx3⟩)
  all_goals
    clear hR hy
    gi_wp2
    refine bodyPost_ret (results_none rfl _ _ _) rfl ?_
  · exact ⟨⟨_, rfl⟩, .inl ⟨_, _, rfl, hJ3⟩⟩
  · exact ⟨⟨_, rfl⟩, .inr ⟨_, _, ⟨by simp, [], rfl⟩, hJx3⟩⟩
end Go.Proofs.Ytdddhflppngloaa
