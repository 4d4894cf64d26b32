/- Plain mathematics of stage 4: what the functions of package cost answer, over Lean's integers. -/
import Derived.WalkKit
namespace Go.Proofs.Ytofellaihiclkaa
open Go.RowKit

/-- A number of 64 bits. -/
def i64R (x : Int) : Prop := -9223372036854775808 ≤ x ∧ x ≤ 9223372036854775807
/-- A number held between 0 and where sums stop. -/
def lev (n : Int) : Int := if n < 0 then 0 else if 1125899906842624 < n then 1125899906842624 else n
/-- Between 0 and where sums stop. -/
def lvl (n : Int) : Prop := 0 ≤ n ∧ n ≤ 1125899906842624
instance (n : Int) : Decidable (lvl n) := by unfold lvl; exact inferInstance
theorem lev_lvl (n : Int) : lvl (lev n) := by unfold lvl lev; split <;> (try split) <;> omega
theorem lev_of {n : Int} (h : lvl n) : lev n = n := by unfold lvl at h; unfold lev; rw [if_neg (by omega), if_neg (by omega)]
theorem lev_lo {n : Int} (h : n < 0) : lev n = 0 := if_pos h
theorem lev_hi {n : Int} (h : 1125899906842624 < n) : lev n = 1125899906842624 := by unfold lev; rw [if_neg (by omega), if_pos h]
theorem lev_mono {m n : Int} (h : m ≤ n) : lev m ≤ lev n := by unfold lev; split <;> (try split) <;> (try split) <;> (try split) <;> omega
/-- Two numbers added as costs are. -/
def lad (a b : Int) : Int := lev (lev a + lev b)
theorem lad_lvl (a b : Int) : lvl (lad a b) := lev_lvl _
/-- The sum of two costs. -/
def addC (a b : Int × Int) : Int × Int := (lad a.1 b.1, lad a.2 b.2)
/-- -1, 0 or 1. -/
def cmp1 (a b : Int) : Int := if a < b then -1 else if b < a then 1 else 0
def cmpC (a b : Int × Int) : Int := if cmp1 a.1 b.1 = 0 then cmp1 a.2 b.2 else cmp1 a.1 b.1
def okC (a : Int × Int) : Prop := lvl a.1 ∧ lvl a.2
instance (a : Int × Int) : Decidable (okC a) := by unfold okC; exact inferInstance
def rightC (a : Int × Int) : Bool := decide (okC a)
theorem okC_zero : okC (0, 0) := by unfold okC lvl; simp
theorem okC_add (a b : Int × Int) : okC (addC a b) := ⟨lad_lvl _ _, lad_lvl _ _⟩
/-- A cost as Go holds it. -/
def cst (a : Int × Int) : Value := .agg #[.int .i64 a.1, .int .i64 a.2]
def sumC (l : List (Int × Int)) : Int × Int := l.foldl addC (0, 0)
theorem okC_fold (l : List (Int × Int)) : ∀ x, okC x → okC (l.foldl addC x) := by
  induction l with
  | nil => exact fun _ h => h
  | cons a r ih => exact fun x _ => ih _ (okC_add x a)
theorem okC_sum (l : List (Int × Int)) : okC (sumC l) := okC_fold l _ okC_zero
theorem sumC_snoc (l : List (Int × Int)) (k : Nat) (h : k < l.length) : sumC (l.take (k + 1)) = addC (sumC (l.take k)) (l.getD k (0, 0)) := by
  unfold sumC
  rw [List.take_succ_eq_append_getElem h, List.foldl_append]
  simp [h]
def ofStep (s : Int × Int) (d : Int) : Int × Int := addC s (0, d)
def ofC (over : Bool) (l : List Int) : Int × Int := l.foldl ofStep (if over then 1 else 0, 0)
theorem ofC_snoc (o : Bool) (l : List Int) (k : Nat) (h : k < l.length) : ofC o (l.take (k + 1)) = addC (ofC o (l.take k)) (0, l.getD k 0) := by
  unfold ofC
  rw [List.take_succ_eq_append_getElem h, List.foldl_append]
  simp [h, ofStep]
theorem okC_ofStart (o : Bool) : okC (if o then 1 else 0, 0) := by cases o <;> simp [okC, lvl]
theorem okC_of (o : Bool) (l : List Int) : okC (ofC o l) := by
  have : ∀ (l : List Int) x, okC x → okC (l.foldl ofStep x) := by
    intro l
    induction l with
    | nil => exact fun _ h => h
    | cons a r ih => exact fun x _ => ih _ (okC_add x _)
  exact this l _ (okC_ofStart o)
/-- The least of the first k costs of a list. -/
def leastTo (l : List (Int × Int)) : Nat → Int
  | 0 => -1
  | k + 1 => if leastTo l k < 0 ∨ cmpC (l.getD k (0, 0)) (l.getD (leastTo l k).toNat (0, 0)) < 0 then (k : Int) else leastTo l k
def leastC (l : List (Int × Int)) : Int := leastTo l l.length
theorem leastTo_bd (l : List (Int × Int)) : ∀ k, -1 ≤ leastTo l k ∧ leastTo l k < (k : Int) ∧ (leastTo l k < 0 ↔ k = 0)
  | 0 => by simp [leastTo]
  | k + 1 => by
    have ih := leastTo_bd l k
    unfold leastTo
    split
    · omega
    · rename_i h
      omega
theorem leastTo_take (l : List (Int × Int)) (m : Nat) : ∀ k, k ≤ m → k ≤ l.length → leastTo (l.take m) k = leastTo l k
  | 0, _, _ => rfl
  | k + 1, h, h' => by
    have ih := leastTo_take l m k (by omega) (by omega)
    have bd := leastTo_bd l k
    have g : ∀ i, i < m → (l.take m).getD i (0, 0) = l.getD i (0, 0) := by
      intro i hi; simp [hi]
    unfold leastTo
    rw [ih, g k (by omega)]
    by_cases hn : leastTo l k < 0
    · rw [if_pos (.inl hn), if_pos (.inl hn)]
    · rw [g (leastTo l k).toNat (by omega)]
/-! ### What follows (P4.3) -/
theorem lad_comm (a b : Int) : lad a b = lad b a := by unfold lad; rw [Int.add_comm]
theorem lad_of {a b : Int} (ha : lvl a) (hb : lvl b) : lad a b = if a + b ≤ 1125899906842624 then a + b else 1125899906842624 := by
  unfold lad; rw [lev_of ha, lev_of hb]; unfold lvl at ha hb; unfold lev; rw [if_neg (by omega)]; split <;> split <;> omega
theorem lad_assoc {a b c : Int} (ha : lvl a) (hb : lvl b) (hc : lvl c) : lad (lad a b) c = lad a (lad c b) := by
  rw [lad_of (lad_lvl a b) hc, lad_of ha (lad_lvl c b), lad_of ha hb, lad_of hc hb]
  unfold lvl at *
  split <;> split <;> split <;> split <;> omega
theorem lad_zero {a : Int} (ha : lvl a) : lad a 0 = a := by
  rw [lad_of ha (by unfold lvl; omega)]; unfold lvl at ha; split <;> omega
theorem addC_assoc {a b c : Int × Int} (ha : okC a) (hb : okC b) (hc : okC c) : addC (addC a b) c = addC a (addC c b) := by
  unfold addC; simp only; rw [lad_assoc ha.1 hb.1 hc.1, lad_assoc ha.2 hb.2 hc.2]
theorem addC_zero {a : Int × Int} (ha : okC a) : addC a (0, 0) = a := by
  unfold addC; simp only; rw [lad_zero ha.1, lad_zero ha.2]
theorem cmpC_le (a b : Int × Int) : cmpC a b ≤ 0 ↔ a.1 < b.1 ∨ a.1 = b.1 ∧ a.2 ≤ b.2 := by
  unfold cmpC cmp1; repeat' split
  all_goals omega
theorem cmpC_zero (a b : Int × Int) : cmpC a b = 0 ↔ a.1 = b.1 ∧ a.2 = b.2 := by
  unfold cmpC cmp1; repeat' split
  all_goals omega
theorem cmpC_neg (a b : Int × Int) : cmpC a b = -cmpC b a := by
  unfold cmpC cmp1; repeat' split
  all_goals omega
theorem cmpC_bd (a b : Int × Int) : -1 ≤ cmpC a b ∧ cmpC a b ≤ 1 := by
  unfold cmpC cmp1; repeat' split
  all_goals omega
theorem cmpC_trans {a b c : Int × Int} (h : cmpC a b ≤ 0) (h' : cmpC b c ≤ 0) : cmpC a c ≤ 0 := by
  rw [cmpC_le] at *; omega
theorem cmpC_add {a b c : Int × Int} (ha : okC a) (hb : okC b) (hc : okC c) (ra : a.1 + c.1 < 1125899906842624) (rb : b.1 + c.1 < 1125899906842624) (h : cmpC a b ≤ 0) : cmpC (addC a c) (addC b c) ≤ 0 := by
  rw [cmpC_le] at *
  unfold addC; simp only
  rw [lad_of ha.1 hc.1, lad_of hb.1 hc.1, lad_of ha.2 hc.2, lad_of hb.2 hc.2]
  unfold okC lvl at *
  repeat' split
  all_goals omega
theorem cmpC_up {a b c : Int × Int} (ha : okC a) (hb : okC b) (hc : okC c) : cmpC a (addC (addC a b) c) ≤ 0 := by
  rw [cmpC_le]
  unfold addC; simp only
  rw [lad_of (lad_lvl _ _) hc.1, lad_of (lad_lvl _ _) hc.2, lad_of ha.1 hb.1, lad_of ha.2 hb.2]
  unfold okC lvl at *
  repeat' split
  all_goals omega
end Go.Proofs.Ytofellaihiclkaa
