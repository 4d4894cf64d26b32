/- awake; ChainTells. -/
import Derived.Test.YtmpchobbgadiiaaVGet
namespace Go.Proofs.Ytmpchobbgadiiaa
open Go.RowKit
set_option linter.unusedVariables false

theorem bel1 (w : World) (o : Obj) : Below w.heap.size w (w.alloc o) := (Below.refl _ _).alloc (Nat.le_refl _) _
theorem bstep {B : Nat} {w x y : World} (h : Below B w x) (g : Below x.heap.size x y) (hB : B ≤ x.heap.size) : Below B w y := h.trans (g.mono hB)
theorem chain64 : chainL (foldZ 64) = [128, 1] := by
  rw [show foldZ 64 = 128 by decide, chain_ge (by decide), chain_lt (by decide)]
  decide
theorem got64 : gotR 1 ([7] ++ chainL (foldZ 64)) = (64, 3, 0) := by
  have h := got_some 1 ([7] ++ chainL (foldZ 64)) (by simp) (foldZ 64) 2 (by
    have := get_chain (foldZ 64) [] (by decide) (by decide)
    rw [List.append_nil] at this
    show getR (chainL (foldZ 64)) 0 0 = _
    rw [this, chain64]
    rfl)
  rw [unfold_fold] at h
  exact h
theorem awake_any (w : World) : Calls Try.prog 6 #[] w fun e w' => e = .returned (.bool true) ∧ Below w.heap.size w w' := by
  have cp := fun a c w hr => put_any a c [7] 64 (by decide) (by decide) w (by decide) hr
  have cg := fun a c w hr => get_any a c ([7] ++ chainL (foldZ 64)) 1 (by rw [chain64]; decide) (Byt.app (by intro x hx; simp at hx; omega) (chain_bytes _ (by decide))) w hr
  rw [got64] at cg
  rw [chain64] at cp cg
  have cf := fold_any (-2) (by decide) (by decide)
  have cs := size_any (-1) (by decide) (by decide)
  rw [show foldZ (-2) = 3 by decide] at cf
  rw [show foldZ (-1) = 1 by decide, chain_lt (by decide)] at cs
  simp only [List.singleton_append, List.length_cons, List.length_nil, Nat.zero_add, Nat.reduceAdd, trip] at cp cg cs
  rw [show ((1 : Nat) : Int) = 1 from rfl] at cs
  go_enter Try.func6, Try.ntmps6
  go_wp2_with fail
  refine (cp _ _ _ (row_new _ _ _ (by decide))).mono ?_
  rintro e w1 ⟨v, rfl, hown, hb⟩
  obtain ⟨a, cap, rfl, hr⟩ := own_row hown
  obtain ⟨b, off, rfl, hB, c1⟩ := hr.2 1 (by decide)
  obtain ⟨b', off', e2, _, c2⟩ := hr.2 2 (by decide)
  obtain ⟨rfl, rfl⟩ : b = b' ∧ off = off' := by simpa using e2
  change w1.cell? ⟨b, off + 1, none⟩ = some (.int .u8 128) at c1
  change w1.cell? ⟨b, off + 2, none⟩ = some (.int .u8 1) at c2
  have hb1 : Below w.heap.size w w1 := bstep (bel1 _ _) hb (by simp)
  clear cp hown hb e2
  go_wp2_with (first
    | (go_at_call 15; refine (cg _ _ _ hr).mono ?_; rintro e w' ⟨rfl, rfl⟩)
    | (go_at_call 7; refine (cf _).mono ?_; rintro e w' ⟨rfl, rfl⟩)
    | (go_at_call 14; refine (cs _).mono ?_; rintro e w' ⟨rfl, rfl⟩))
  go_ret
  exact ⟨rfl, hb1⟩
/-- What the walk is told of a slice of integers that came in. -/
def IsRow (k : IntKind) (w : World) (a : Option Addr) (len cap : Nat) (zs : List Int) : Prop :=
  (a = none ∧ len = 0 ∧ cap = 0 ∧ zs = []) ∨
  ∃ x, a = some x ∧ len ≤ cap ∧ cap ≤ maxLen ∧ zs.length = cap ∧ (∀ i, i < zs.length → w.cell? (x.add i) = some (.int k (zs.getD i 0))) ∧ ∀ n ∈ zs, (Lit.int k n).wf = true
theorem IsRow.row {w : World} {a : Option Addr} {len cap : Nat} {zs : List Int} (h : IsRow .u8 w a len cap zs) : ∃ l : List Int, l.length = len ∧ Row w a cap l ∧ Byt l := by
  rcases h with ⟨rfl, rfl, _⟩ | ⟨x, rfl, hl, hm, hz, hc, hwf⟩
  · exact ⟨[], rfl, Row.none _ _, fun x hx => by simp at hx⟩
  · refine ⟨zs.take len, by simp; omega, ⟨by simp; omega, fun k hk => ?_⟩, fun x hx => ?_⟩
    · have hk' : k < len := by simp at hk; omega
      obtain ⟨b, off, rfl, hc'⟩ := ints_at hc (by omega)
      refine ⟨b, off, rfl, World.block_lt_of_cell? _ _ (hc' 0 (by omega)), ?_⟩
      rw [hc' k (by omega)]
      simp [hk']
    · have := hwf x (List.mem_of_mem_take hx)
      simp [Lit.wf, IntKind.min, IntKind.max, IntKind.bits, IntKind.signed] at this
      omega
theorem IsRow.le {k : IntKind} {w : World} {a : Option Addr} {len cap : Nat} {zs : List Int} (h : IsRow k w a len cap zs) : len ≤ 9223372036854775807 := by
  rcases h with ⟨_, rfl, _⟩ | ⟨_, _, h1, h2, _⟩
  · omega
  · unfold maxLen at h2; omega
theorem tells_long (n u : Int) (a : Option Addr) (len cap : Nat) (w : World) (h : 200 < len) (hm : len ≤ 9223372036854775807) :
    Calls Try.prog 3 #[.int .i64 n, .int .u64 u, .slice a len cap] w fun e w' => e = .returned (.bool true) ∧ Below w.heap.size w w' := by
  go_enter Try.func3, Try.ntmps3
  go_wp2_with (go_at_call 6; refine (awake_any _).mono ?_; rintro e w1 ⟨rfl, b1⟩)
  go_ret
  exact ⟨rfl, b1⟩
theorem tells_short (n u : Int) (n0 : -9223372036854775808 ≤ n) (n1 : n ≤ 9223372036854775807) (u0 : 0 ≤ u) (u1 : u ≤ 18446744073709551615) (a : Option Addr) (cap : Nat) (l : List Int) (w : World) (h : l.length ≤ 200) (hr : Row w a cap l) :
    Calls Try.prog 3 #[.int .i64 n, .int .u64 u, .slice a l.length cap] w fun e w' => e = .returned (.bool true) ∧ Below w.heap.size w w' := by
  obtain ⟨f0, f1⟩ := fold_range n n0 n1
  have c7 := fold_any n n0 n1
  have c8 := rfold_any n n0 n1
  have c9 := unfold_any u u0 u1
  have c10 := runfold_any u u0 u1
  have c14 := size_any n n0 n1
  have c13 := chain_any n n0 n1
  have c12 := fun w => put_any none 0 [] n n0 n1 w (by decide) (Row.none w 0)
  have c12' := fun w hr => put_any a cap l n n0 n1 w (by omega) hr
  simp only [List.nil_append, List.length_nil] at c12
  have hten := chain_ten _ f0 f1
  generalize foldZ n = U at *
  generalize unfoldZ u = V at *
  obtain ⟨S, hS⟩ : ∃ S, S = (chainL U).length := ⟨_, rfl⟩
  rw [← hS] at c14 hten
  have HS := Lib.hid hS
  clear hS
  have c11 := fun a b ca cb w (ha : Row w a ca (chainL U)) (hb : Row w b cb (chainL U)) => same_any a b ca cb (chainL U) (chainL U) w (by have := HS.out; omega) (by have := HS.out; omega) ha hb
  simp only [decide_true, ← HS.out] at c11
  go_enter Try.func3, Try.ntmps3
  go_wp2_with (first
    | (go_at_call 7; with_reducible refine (c7 _).mono ?_; rintro e w' ⟨rfl, rfl⟩)
    | (go_at_call 8; with_reducible refine (c8 _).mono ?_; rintro e w' ⟨rfl, rfl⟩)
    | (go_at_call 9; with_reducible refine (c9 _).mono ?_; rintro e w' ⟨rfl, rfl⟩)
    | (go_at_call 10; with_reducible refine (c10 _).mono ?_; rintro e w' ⟨rfl, rfl⟩)
    | fail)
  refine (c12 _).mono ?_
  rintro e w1 ⟨v1, rfl, o1, b1⟩
  obtain ⟨a1, k1, rfl, r1⟩ := own_row o1
  rw [← HS.out]
  clear o1 c7 c8 c9 c10 c12
  go_wp2_with fail
  refine (c13 _).mono ?_
  rintro e w2 ⟨v2, rfl, o2, b2⟩
  obtain ⟨a2, k2, rfl, r2⟩ := own_row o2
  rw [← HS.out]
  have r1' := r1.carry b2
  have b2' := bstep b1 b2 b1.size
  clear o2 r1 b1 b2
  go_wp2_with fail
  refine (c11 _ _ _ _ _ r1' r2).mono ?_
  rintro e w3 ⟨rfl, b3⟩
  have b3' := bstep b2' b3 b2'.size
  clear r1' r2 b2' b3 c11
  go_wp2_with (go_at_call 14; with_reducible refine (c14 _).mono ?_; rintro e w' ⟨rfl, rfl⟩)
  refine (c13 _).mono ?_
  rintro e w4 ⟨v4, rfl, o4, b4⟩
  obtain ⟨a4, k4, rfl, r4⟩ := own_row o4
  rw [← HS.out]
  have b4' := bstep b3' b4 b3'.size
  clear o4 r4 b4 b3'
  go_wp2_with fail
  refine (c12' _ (hr.carry b4')).mono ?_
  rintro e w5 ⟨v5, rfl, o5, b5⟩
  obtain ⟨a5, k5, rfl, r5⟩ := own_row o5
  rw [List.length_append, ← HS.out]
  have b5' := bstep b4' b5 b4'.size
  clear o5 r5 b5 b4' hr
  go_wp2_with (go_at_call 14; with_reducible refine (c14 _).mono ?_; rintro e w' ⟨rfl, rfl⟩)
  refine (awake_any _).mono ?_
  rintro e w6 ⟨rfl, b6⟩
  have b6' := bstep b5' b6 b5'.size
  clear b6 b5'
  go_wp2_with fail
  go_ret
  exact ⟨rfl, b6'⟩
theorem i64_in {n : Int} (h : (Lit.int .i64 n).wf = true) : -9223372036854775808 ≤ n ∧ n ≤ 9223372036854775807 := by
  simp [Lit.wf, IntKind.min, IntKind.max, IntKind.bits, IntKind.signed] at h
  omega
theorem u64_in {n : Int} (h : (Lit.int .u64 n).wf = true) : 0 ≤ n ∧ n ≤ 18446744073709551615 := by
  simp [Lit.wf, IntKind.min, IntKind.max, IntKind.bits, IntKind.signed] at h
  omega
theorem chainTells_walk (n : Int) (hn : (Lit.int .i64 n).wf = true) (u : Int) (hu : (Lit.int .u64 u).wf = true) (a : Option Addr) (len cap : Nat) (zs : List Int) (w : World) (h : IsRow .u8 w a len cap zs) :
    Calls Try.prog 3 #[.int .i64 n, .int .u64 u, .slice a len cap] w fun e w' => e = .returned (.bool true) ∧ Below w.heap.size w w' := by
  rcases Nat.lt_or_ge 200 len with hl | hl
  · exact tells_long n u a len cap w hl h.le
  · obtain ⟨l, rfl, hr, _⟩ := h.row
    obtain ⟨n0, n1⟩ := i64_in hn
    obtain ⟨u0, u1⟩ := u64_in hu
    exact tells_short n u n0 n1 u0 u1 a cap l w hl hr
end Go.Proofs.Ytmpchobbgadiiaa
