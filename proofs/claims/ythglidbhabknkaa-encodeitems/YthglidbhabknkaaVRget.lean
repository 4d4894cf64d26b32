/- awake; ChainTells. Get, as the document says it: the plain part. Get, as the document says it: the walk. -/
import Derived.Test.YthglidbhabknkaaVGet
namespace Go.Proofs.Ythglidbhabknkaa
open Go.RowKit
set_option linter.unusedVariables false

theorem bel1 (w : World) (o : Obj) : Below w.heap.size w (w.alloc o) := (Below.refl _ _).alloc (Nat.le_refl _) _
theorem bstep {B : Nat} {w x y : World} (h : Below B w x) (g : Below x.heap.size x y) (hB : B ≤ x.heap.size) : Below B w y := h.trans (g.mono hB)
theorem chain64 : chainL (foldZ 64) = [128, 1] := by
  rw [show foldZ 64 = 128 by decide, chain_ge (by decide), chain_lt (by decide)]
  decide
theorem got64 : gotR 1 ([7] ++ chainL (foldZ 64)) = (64, 3, 0) := by
  have h := got_some 1 ([7] ++ chainL (foldZ 64)) (by simp) (foldZ 64) 2 (by
    have := get_chain (foldZ 64) [] (by decide) (by decide)
    rw [List.append_nil] at this
    show getR (chainL (foldZ 64)) 0 0 = _
    rw [this, chain64]
    rfl)
  rw [unfold_fold] at h
  exact h
/-- What the walk is told of a slice of integers that came in. -/
def IsRowV (k : IntKind) (w : World) (a : Option Addr) (len cap : Nat) (zs : List Int) : Prop :=
  (a = none ∧ len = 0 ∧ cap = 0 ∧ zs = []) ∨
  ∃ x, a = some x ∧ len ≤ cap ∧ cap ≤ maxLen ∧ zs.length = cap ∧ (∀ i, i < zs.length → w.cell? (x.add i) = some (.int k (zs.getD i 0))) ∧ ∀ n ∈ zs, (Lit.int k n).wf = true
theorem IsRowV.row {w : World} {a : Option Addr} {len cap : Nat} {zs : List Int} (h : IsRowV .u8 w a len cap zs) : ∃ l : List Int, l.length = len ∧ Row w a cap l ∧ Byt l := by
  rcases h with ⟨rfl, rfl, _⟩ | ⟨x, rfl, hl, hm, hz, hc, hwf⟩
  · exact ⟨[], rfl, Row.none _ _, fun x hx => by simp at hx⟩
  · refine ⟨zs.take len, by simp; omega, ⟨by simp; omega, fun k hk => ?_⟩, fun x hx => ?_⟩
    · have hk' : k < len := by simp at hk; omega
      obtain ⟨b, off, rfl, hc'⟩ := ints_at hc (by omega)
      refine ⟨b, off, rfl, World.block_lt_of_cell? _ _ (hc' 0 (by omega)), ?_⟩
      rw [hc' k (by omega)]
      simp [hk']
    · have := hwf x (List.mem_of_mem_take hx)
      simp [Lit.wf, IntKind.min, IntKind.max, IntKind.bits, IntKind.signed] at this
      omega
theorem IsRowV.le {k : IntKind} {w : World} {a : Option Addr} {len cap : Nat} {zs : List Int} (h : IsRowV k w a len cap zs) : len ≤ 9223372036854775807 := by
  rcases h with ⟨_, rfl, _⟩ | ⟨_, _, h1, h2, _⟩
  · omega
  · unfold maxLen at h2; omega
theorem i64_in {n : Int} (h : (Lit.int .i64 n).wf = true) : -9223372036854775808 ≤ n ∧ n ≤ 9223372036854775807 := by
  simp [Lit.wf, IntKind.min, IntKind.max, IntKind.bits, IntKind.signed] at h
  omega
theorem u64_in {n : Int} (h : (Lit.int .u64 n).wf = true) : 0 ≤ n ∧ n ≤ 18446744073709551615 := by
  simp [Lit.wf, IntKind.min, IntKind.max, IntKind.bits, IntKind.signed] at h
  omega
end Go.Proofs.Ythglidbhabknkaa
namespace Go.Proofs.Ythglidbhabknkaa
open Go.RowKit
set_option linter.unusedVariables false

/-- How many of the first bytes are 128 or more, ten at most. -/
def lead : List Int → Nat → Nat
  | [], n => n
  | c :: cs, n => if 127 < c ∧ n < 10 then lead cs (n + 1) else n
/-- The number of a list of groups, reckoned from the last to the first. -/
def valD : List Int → Int
  | [] => 0
  | c :: cs => valD cs * 128 + c % 128
theorem val_chain (u : Int) : 0 ≤ u → valD (chainL u) = u := by
  induction u using chain_rec with
  | h1 u h => intro h0; rw [chain_lt h]; simp only [valD]; omega
  | h2 u h ih => intro h0; rw [chain_ge h]; simp only [valD]; rw [ih (by omega)]; omega
theorem lead_ge (l : List Int) : ∀ n, n ≤ lead l n := by
  induction l with
  | nil => intro n; exact Nat.le_refl _
  | cons c cs ih =>
    intro n
    unfold lead
    split
    · exact Nat.le_trans (Nat.le_succ n) (ih (n + 1))
    · exact Nat.le_refl _
theorem lead_le (l : List Int) : ∀ n, n ≤ 10 → lead l n ≤ 10 ∧ lead l n ≤ n + l.length := by
  induction l with
  | nil => intro n hn; exact ⟨hn, Nat.le_refl _⟩
  | cons c cs ih =>
    intro n hn
    unfold lead
    split
    · have := ih (n + 1) (by omega)
      simp; omega
    · simp; omega
theorem lead_chain (x : Int) : ∀ (n : Nat) (rest : List Int), 0 ≤ x → n + (chainL x).length ≤ 10 → lead (chainL x ++ rest) n = n + (chainL x).length - 1 := by
  induction x using chain_rec with
  | h1 x h =>
    intro n rest h0 hn
    rw [chain_lt h]
    show lead (x :: rest) n = _
    unfold lead
    rw [if_neg (by omega)]
    rfl
  | h2 x h ih =>
    intro n rest h0 hn
    rw [chain_ge h] at hn ⊢
    show lead ((x % 128 + 128) :: (chainL (x / 128) ++ rest)) n = _
    simp only [List.length_cons] at hn ⊢
    unfold lead
    have := chain_pos (x / 128)
    rw [if_pos (by omega), ih (n + 1) rest (by omega) (by omega)]
    omega
/-- What the document reads is what package chain reads. -/
theorem ref_none (l : List Int) (hB : Byt l) (h : lead l 0 = 10 ∨ lead l 0 = l.length) : getR l 0 0 = none := by
  cases hg : getR l 0 0 with
  | none => rfl
  | some r =>
    obtain ⟨v, m⟩ := r
    obtain ⟨h0, h1, hm, hml, ht⟩ := get_sound hB hg
    have hten := chain_ten v h0 h1
    have hp := chain_pos v
    have e : l = chainL v ++ l.drop m := by rw [← ht]; exact (List.take_append_drop m l).symm
    have := lead_chain v 0 (l.drop m) h0 (by omega)
    rw [← e] at this
    omega
theorem ref_some (l : List Int) (hB : Byt l) (h9 : lead l 0 ≤ 9) (hl : lead l 0 < l.length) :
    getR l 0 0 = if chainL (valD (l.take (lead l 0 + 1)) % 18446744073709551616) = l.take (lead l 0 + 1) then some (valD (l.take (lead l 0 + 1)) % 18446744073709551616, lead l 0 + 1) else none := by
  split
  · rename_i h
    have e : l = chainL (valD (l.take (lead l 0 + 1)) % 18446744073709551616) ++ l.drop (lead l 0 + 1) := by rw [h]; exact (List.take_append_drop _ l).symm
    have g := get_chain (valD (l.take (lead l 0 + 1)) % 18446744073709551616) (l.drop (lead l 0 + 1)) (by omega) (by omega)
    rw [← e] at g
    rw [g, h]
    simp
    omega
  · rename_i h
    cases hg : getR l 0 0 with
    | none => rfl
    | some r =>
      exfalso
      obtain ⟨v, m⟩ := r
      obtain ⟨h0, h1, hm, hml, ht⟩ := get_sound hB hg
      have hten := chain_ten v h0 h1
      have hp := chain_pos v
      have e : l = chainL v ++ l.drop m := by rw [← ht]; exact (List.take_append_drop m l).symm
      have hle := lead_chain v 0 (l.drop m) h0 (by omega)
      rw [← e] at hle
      have hm1 : lead l 0 + 1 = m := by omega
      apply h
      rw [hm1, ht, val_chain v h0, Int.emod_eq_of_lt h0 (by omega)]
theorem val_snoc (l : List Int) (k : Nat) (h : k < l.length) : valD (l.drop k) = valD (l.drop (k + 1)) * 128 + l.getD k 0 % 128 := by
  rw [drop_cons l k h]
  rfl
theorem lead_step (l : List Int) (k : Nat) (n : Nat) (h : k < l.length) : lead (l.drop k) n = if 127 < l.getD k 0 ∧ n < 10 then lead (l.drop (k + 1)) (n + 1) else n := by
  rw [drop_cons l k h]
  rfl
end Go.Proofs.Ythglidbhabknkaa
namespace Go.Proofs.Ythglidbhabknkaa
open Go.RowKit
set_option linter.unusedVariables false

def agg3 (r : Int × Int × Int) : Value := .agg #[.int .i64 r.1, .int .i64 r.2.1, .int .i64 r.2.2]
/-- A new Got. -/
def Got0 (w : World) (g : Nat) : Prop :=
  w.cell? ⟨g, 0, none⟩ = some (.int .i64 0) ∧ w.cell? ⟨g, 1, none⟩ = some (.int .i64 0) ∧ w.cell? ⟨g, 2, none⟩ = some (.int .i64 0) ∧
  w.frozen? ⟨g, 0, none⟩ = false ∧ w.frozen? ⟨g, 1, none⟩ = false ∧ w.frozen? ⟨g, 2, none⟩ = false
theorem Got0.carry {w w' : World} {g B : Nat} (h : Got0 w g) (hb : Below B w w') (hg : g < B) : Got0 w' g := by
  obtain ⟨c0, c1, c2, f0, f1, f2⟩ := h
  exact ⟨(hb.cell (p := ⟨g, 0, none⟩) hg).trans c0, (hb.cell (p := ⟨g, 1, none⟩) hg).trans c1, (hb.cell (p := ⟨g, 2, none⟩) hg).trans c2,
    (hb.frozen (p := ⟨g, 0, none⟩) hg).trans f0, (hb.frozen (p := ⟨g, 1, none⟩) hg).trans f1, (hb.frozen (p := ⟨g, 2, none⟩) hg).trans f2⟩
theorem bel_set3 {B : Nat} {w x : World} (h : Below B w x) (g : Nat) (hg : B ≤ g) (u v t : Value) : Below B w (((x.setCell ⟨g, 0, none⟩ u).setCell ⟨g, 1, none⟩ v).setCell ⟨g, 2, none⟩ t) :=
  ((h.setCell (p := ⟨g, 0, none⟩) hg _).setCell (p := ⟨g, 1, none⟩) hg _).setCell (p := ⟨g, 2, none⟩) hg _
end Go.Proofs.Ythglidbhabknkaa
