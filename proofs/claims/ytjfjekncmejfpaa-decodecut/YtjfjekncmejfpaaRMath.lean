/- Plain mathematics for stage 17: what reads encodings; the reading of a job. Nothing of a program is in it. -/
import Derived.Test.YtjfjekncmejfpaaQEnc
import Derived.Test.YtjfjekncmejfpaaXReadC
namespace Go.Proofs.Ytjfjekncmejfpaa
open Go.RowKit
set_option maxRecDepth 20000
set_option linter.unusedVariables false
set_option linter.unusedSimpArgs false

/-- What reads bytes from a place on, stopped or not: a value, the place behind, whether it has stopped. -/
abbrev RdF (α : Type) := List Int → Nat → Bool → α × Nat × Bool
/-- R reads what e writes of values that are right, and what R reads without a stop was written by e. -/
structure Reads {α : Type} (ok : α → Prop) (e : α → List Int) (R : RdF α) : Prop where
  back : ∀ x pre rest, ok x → R (pre ++ (e x ++ rest)) pre.length false = (x, pre.length + (e x).length, false)
  sound : ∀ bs p st, p ≤ bs.length → Byt bs → (R bs p st).2.2 = false → st = false ∧ ok (R bs p st).1 ∧ p ≤ (R bs p st).2.1 ∧ (R bs p st).2.1 ≤ bs.length ∧ (bs.drop p).take ((R bs p st).2.1 - p) = e (R bs p st).1
  stop : ∀ bs p, (R bs p true).2 = (p, true)
theorem take_two (l : List Int) (p q r : Nat) (h1 : p ≤ q) (h2 : q ≤ r) : (l.drop p).take (r - p) = (l.drop p).take (q - p) ++ (l.drop q).take (r - q) := by
  have e : r - p = (q - p) + (r - q) := by omega
  rw [e, List.take_add, List.drop_drop, show p + (q - p) = q by omega]
theorem int_reads : Reads in64 chZ intR := ⟨fun n pre rest hn => by
    have fr := fold_range n hn.1 hn.2
    unfold chZ
    rw [intR_some _ _ (foldZ n) (chainL (foldZ n)).length (by rw [List.drop_left]; exact get_chain _ _ fr.1 fr.2), unfold_fold],
  fun bs p st hp hB h => by
    cases st with
    | true => rw [intR_stop] at h; cases h
    | false =>
      cases hg : getR (bs.drop p) 0 0 with
      | none => rw [intR_none bs p hg] at h; cases h
      | some r =>
        obtain ⟨u, m⟩ := r
        have hs := get_sound (fun x hx => hB x (List.mem_of_mem_drop hx)) hg
        obtain ⟨g1, g2, g3, g4, g5⟩ := hs
        rw [intR_some bs p u m hg]
        simp only [List.length_drop] at g4
        refine ⟨rfl, unfold_range u g1 g2, Nat.le_add_right _ _, by show p + m ≤ _; omega, ?_⟩
        show (bs.drop p).take (p + m - p) = chainL (foldZ (unfoldZ u))
        rw [fold_unfold u g1, show p + m - p = m by omega]
        exact g5,
  fun bs p => rfl⟩
theorem bool_reads : Reads (fun x => x = 0 ∨ x = 1) (fun x => [x]) boolR := ⟨fun x pre rest hx => by
    have hg : (pre ++ ([x] ++ rest)).getD pre.length 0 = x := by simp
    unfold boolR
    rw [if_neg, hg]
    · rfl
    · rw [hg]
      rintro (h | h | h)
      · cases h
      · simp only [List.length_append, List.length_singleton] at h; omega
      · omega,
  fun bs p st hp hB h => by
    unfold boolR at h ⊢
    by_cases hc : st = true ∨ bs.length ≤ p ∨ 1 < bs.getD p 0
    · rw [if_pos hc] at h; cases h
    · rw [if_neg hc]
      have h1 : st = false := by cases st <;> simp_all
      have h2 : p < bs.length := by omega
      have h3 : ¬ 1 < bs.getD p 0 := fun e => hc (.inr (.inr e))
      have h4 := hB (bs.getD p 0) (by rw [List.getD_eq_getElem?_getD, List.getElem?_eq_getElem h2]; exact List.getElem_mem h2)
      refine ⟨h1, by show bs.getD p 0 = 0 ∨ bs.getD p 0 = 1; omega, Nat.le_succ _, h2, ?_⟩
      show (bs.drop p).take (p + 1 - p) = [bs.getD p 0]
      rw [show p + 1 - p = 1 by omega, List.drop_eq_getElem_cons h2, List.take_succ_cons, List.take_zero, List.getD_eq_getElem?_getD, List.getElem?_eq_getElem h2]
      rfl,
  fun bs p => by unfold boolR; rw [if_pos (.inl rfl)]⟩
/-- A mark. -/
def markF (s : ByteArray) : RdF Unit := fun bs p st => ((), markR bs p st s)
theorem mark_reads (s : ByteArray) : Reads (fun _ => True) (fun _ => bytesOf s) (markF s) := ⟨fun x pre rest _ => by
    unfold markF markR
    rw [if_neg, bytesOf_len]
    rintro (h | h | h)
    · cases h
    · simp only [List.length_append, bytesOf_len] at h; omega
    · apply h
      rw [List.drop_left, ← bytesOf_len]
      exact List.take_left,
  fun bs p st hp hB h => by
    unfold markF markR at h ⊢
    by_cases hc : st = true ∨ (bs.length : Int) - p < s.size ∨ (bs.drop p).take s.size ≠ bytesOf s
    · rw [if_pos hc] at h; cases h
    · rw [if_neg hc]
      have h1 : st = false := by cases st <;> simp_all
      have h2 : ¬ (bs.length : Int) - p < s.size := fun e => hc (.inr (.inl e))
      have h3 : (bs.drop p).take s.size = bytesOf s := Classical.byContradiction fun e => hc (.inr (.inr e))
      exact ⟨h1, trivial, Nat.le_add_right _ _, by show p + s.size ≤ _; omega, by show (bs.drop p).take (p + s.size - p) = _; rw [show p + s.size - p = s.size by omega]; exact h3⟩,
  fun bs p => by unfold markF markR; rw [if_pos (.inl rfl)]⟩
/-- One behind the other; the second may hang on what the first has read. -/
def thenR {α β : Type} (R : RdF α) (S : α → RdF β) : RdF (α × β) := fun bs p st => (((R bs p st).1, (S (R bs p st).1 bs (R bs p st).2.1 (R bs p st).2.2).1), (S (R bs p st).1 bs (R bs p st).2.1 (R bs p st).2.2).2)
theorem Reads.dep {α β : Type} {ok : α → Prop} {e : α → List Int} {R : RdF α} {ok' : α → β → Prop} {e' : α → β → List Int} {S : α → RdF β} (h : Reads ok e R) (k : ∀ x, Reads (ok' x) (e' x) (S x)) : Reads (fun z : α × β => ok z.1 ∧ ok' z.1 z.2) (fun z => e z.1 ++ e' z.1 z.2) (thenR R S) := ⟨fun z pre rest hz => by
    obtain ⟨x, y⟩ := z
    have h1 := h.back x pre (e' x y ++ rest) hz.1
    have h2 := (k x).back y (pre ++ e x) rest hz.2
    rw [List.length_append, List.append_assoc] at h2
    unfold thenR
    simp only [List.append_assoc, h1, h2, List.length_append]
    rw [Nat.add_assoc],
  fun bs p st hp hB hs => by
    unfold thenR at hs ⊢
    dsimp only at hs ⊢
    generalize hr : R bs p st = a at *
    obtain ⟨x, q, s1⟩ := a
    dsimp only at hs ⊢
    cases s1 with
    | true => rw [(k x).stop] at hs; cases hs
    | false =>
      have g := h.sound bs p st hp hB (by rw [hr])
      rw [hr] at g
      obtain ⟨g1, g2, g3, g4, g5⟩ := g
      obtain ⟨f1, f2, f3, f4, f5⟩ := (k x).sound bs q false g4 hB hs
      dsimp only at *
      refine ⟨g1, ⟨g2, f2⟩, by omega, f4, ?_⟩
      rw [take_two bs p q _ g3 f3, g5, f5],
  fun bs p => by
    unfold thenR
    have e := h.stop bs p
    generalize R bs p true = a at *
    obtain ⟨x, q, s1⟩ := a
    cases e
    exact (k x).stop bs p⟩
/-- Of one form another. -/
def mapR {α β : Type} (g : α → β) (R : RdF α) : RdF β := fun bs p st => (g (R bs p st).1, (R bs p st).2)
theorem Reads.map {α β : Type} {ok : α → Prop} {e : α → List Int} {R : RdF α} {ok' : β → Prop} {e' : β → List Int} (h : Reads ok e R) (g : α → β) (inv : β → α) (h1 : ∀ y, ok' y → ok (inv y) ∧ g (inv y) = y ∧ e (inv y) = e' y) (h2 : ∀ x, ok x → ok' (g x) ∧ inv (g x) = x) : Reads ok' e' (mapR g R) := ⟨fun y pre rest hy => by
    obtain ⟨a, b, c⟩ := h1 y hy
    have := h.back (inv y) pre rest a
    rw [c] at this
    unfold mapR
    rw [this, b],
  fun bs p st hp hB hs => by
    obtain ⟨g1, g2, g3, g4, g5⟩ := h.sound bs p st hp hB hs
    obtain ⟨a, b⟩ := h2 _ g2
    obtain ⟨_, _, c⟩ := h1 _ a
    exact ⟨g1, a, g3, g4, by unfold mapR; dsimp only; rw [g5, ← c, b]⟩,
  fun bs p => h.stop bs p⟩
theorem Reads.more {α : Type} {ok ok' : α → Prop} {e e' : α → List Int} {R : RdF α} (h : Reads ok e R) (h1 : ∀ x, ok' x ↔ ok x) (h2 : ∀ x, ok x → e x = e' x) : Reads ok' e' R := ⟨fun x pre rest hx => by
    have hx' := (h1 x).1 hx
    have := h.back x pre rest hx'
    rwa [h2 x hx'] at this,
  fun bs p st hp hB hs => by
    obtain ⟨g1, g2, g3, g4, g5⟩ := h.sound bs p st hp hB hs
    exact ⟨g1, (h1 _).2 g2, g3, g4, by rw [g5, h2 _ g2]⟩,
  h.stop⟩
/-- Nothing is read; nothing can be read. -/
def pureR {α : Type} (x : α) : RdF α := fun _ p st => (x, p, st)
theorem pure_reads {α : Type} (x : α) : Reads (fun y => y = x) (fun _ => []) (pureR x) := ⟨fun y pre rest hy => by subst hy; rfl, fun bs p st hp hB hs => ⟨hs, rfl, Nat.le_refl _, hp, by simp [pureR]⟩, fun _ _ => rfl⟩
def failR {α : Type} (x : α) : RdF α := fun _ p _ => (x, p, true)
theorem fail_reads {α : Type} (x : α) (e : α → List Int) : Reads (fun _ => False) e (failR x) := ⟨fun _ _ _ h => h.elim, fun _ _ _ _ _ h => (by cases h), fun _ _ => rfl⟩
/-- k numbers, one behind the other, also behind a stop. -/
def numsR : Nat → RdF (List Int)
  | 0 => pureR []
  | k + 1 => mapR (fun z => z.1 :: z.2) (thenR intR fun _ => numsR k)
theorem nums_reads : ∀ k : Nat, Reads (fun l : List Int => l.length = k ∧ ∀ x ∈ l, in64 x) (fun l => l.flatMap chZ) (numsR k)
  | 0 => (pure_reads []).more (fun l => ⟨fun h => List.eq_nil_of_length_eq_zero h.1, fun h => by subst h; exact ⟨rfl, by simp⟩⟩) (fun l h => by subst h; rfl)
  | k + 1 => by
    refine (int_reads.dep fun _ => nums_reads k).map _ (fun l => (l.headD 0, l.tail)) (fun l hl => ?_) (fun z hz => ?_)
    · match l, hl with
      | x :: l, hl =>
        refine ⟨⟨hl.2 x (by simp), by simpa using hl.1, fun y hy => hl.2 y (by simp only [List.tail_cons] at hy; simp [hy])⟩, rfl, by simp⟩
    · obtain ⟨h1, h2, h3⟩ := hz
      refine ⟨⟨by simp [h2], fun y hy => ?_⟩, rfl⟩
      rcases List.mem_cons.1 hy with rfl | hy
      · exact h1
      · exact h3 y hy
/-- So many elements, until there is a stop. -/
def loopR {α : Type} (R : RdF α) (bs : List Int) : Nat → Nat → Bool → List α × Nat × Bool
  | 0, p, st => ([], p, st)
  | n + 1, p, st => if st then ([], p, true) else ((R bs p false).1 :: (loopR R bs n (R bs p false).2.1 (R bs p false).2.2).1, (loopR R bs n (R bs p false).2.1 (R bs p false).2.2).2)
theorem loop_stop {α : Type} (R : RdF α) (bs : List Int) (n p : Nat) : loopR R bs n p true = ([], p, true) := by cases n <;> rfl
theorem loop_many (bs : List Int) : ∀ (n p : Nat) (st : Bool), manyR bs n p st = loopR intR bs n p st
  | 0, _, _ => rfl
  | n + 1, p, st => by unfold manyR loopR; rw [loop_many bs n]
theorem loop_back {α : Type} {ok : α → Prop} {e : α → List Int} {R : RdF α} (h : Reads ok e R) : ∀ (l : List α) (pre rest : List Int), (∀ x ∈ l, ok x) → loopR R (pre ++ (l.flatMap e ++ rest)) l.length pre.length false = (l, pre.length + (l.flatMap e).length, false)
  | [], pre, rest, _ => by simp [loopR]
  | x :: l, pre, rest, hx => by
    have h1 := h.back x pre (l.flatMap e ++ rest) (hx x (by simp))
    have h2 := loop_back h l (pre ++ e x) rest fun y hy => hx y (by simp [hy])
    rw [List.length_append, List.append_assoc] at h2
    rw [List.flatMap_cons, List.append_assoc, List.length_cons]
    unfold loopR
    simp only [Bool.false_eq_true, if_false, h1, h2]
    rw [List.length_append, Nat.add_assoc]
theorem loop_sound {α : Type} {ok : α → Prop} {e : α → List Int} {R : RdF α} (h : Reads ok e R) (bs : List Int) (hB : Byt bs) : ∀ (n p : Nat) (st : Bool), p ≤ bs.length → (loopR R bs n p st).2.2 = false → st = false ∧ ((loopR R bs n p st).1.length = n ∧ ∀ x ∈ (loopR R bs n p st).1, ok x) ∧ p ≤ (loopR R bs n p st).2.1 ∧ (loopR R bs n p st).2.1 ≤ bs.length ∧ (bs.drop p).take ((loopR R bs n p st).2.1 - p) = (loopR R bs n p st).1.flatMap e
  | 0, p, st, hp, hs => ⟨hs, ⟨rfl, by simp [loopR]⟩, Nat.le_refl _, hp, by simp [loopR]⟩
  | n + 1, p, st, hp, hs => by
    unfold loopR at hs ⊢
    cases st with
    | true => simp at hs
    | false =>
      simp only [Bool.false_eq_true, if_false] at hs ⊢
      generalize hr : R bs p false = a at *
      obtain ⟨x, q, s1⟩ := a
      dsimp only at hs ⊢
      cases s1 with
      | true => rw [loop_stop] at hs; cases hs
      | false =>
        have g := h.sound bs p false hp hB (by rw [hr])
        rw [hr] at g
        obtain ⟨g1, g2, g3, g4, g5⟩ := g
        obtain ⟨f1, ⟨f2, f6⟩, f3, f4, f5⟩ := loop_sound h bs hB n q false g4 hs
        dsimp only at *
        refine ⟨trivial, ⟨by simp [f2], fun y hy => ?_⟩, by omega, f4, ?_⟩
        · rcases List.mem_cons.1 hy with rfl | hy
          · exact g2
          · exact f6 y hy
        · rw [take_two bs p q _ g3 f3, g5, f5]
          rfl
theorem loop_le {α : Type} (R : RdF α) (bs : List Int) : ∀ (n p : Nat) (st : Bool), (loopR R bs n p st).1.length ≤ n
  | 0, _, _ => Nat.le_refl _
  | n + 1, p, st => by
    unfold loopR
    split
    · exact Nat.zero_le _
    · simp only [List.length_cons]
      have := loop_le R bs n (R bs p false).2.1 (R bs p false).2.2
      omega
/-- A list: the number of its elements, and these. -/
def listR {α : Type} (R : RdF α) : RdF (List α) := fun bs p st => loopR R bs (countR bs p st).1.toNat (countR bs p st).2.1 (countR bs p st).2.2
theorem flat_ge {α : Type} {ok : α → Prop} {e : α → List Int} (h1 : ∀ x, ok x → 1 ≤ (e x).length) : ∀ m : List α, (∀ x ∈ m, ok x) → m.length ≤ (m.flatMap e).length
  | [], _ => by simp
  | x :: m, hm => by
    have a := h1 x (hm x (by simp))
    have b := flat_ge h1 m fun y hy => hm y (by simp [hy])
    simp only [List.flatMap_cons, List.length_append, List.length_cons]
    omega
theorem list_reads {α : Type} {ok : α → Prop} {e : α → List Int} {R : RdF α} (h : Reads ok e R) (h1 : ∀ x, ok x → 1 ≤ (e x).length) : Reads (fun l : List α => l.length ≤ 9223372036854775807 ∧ ∀ x ∈ l, ok x) (listE e) (listR R) := ⟨fun l pre rest hl => by
    have hle := flat_ge h1 l hl.2
    have hi := int_reads.back (l.length : Int) pre (l.flatMap e ++ rest) ⟨by omega, by omega⟩
    have hc : countR (pre ++ (listE e l ++ rest)) pre.length false = ((l.length : Int), pre.length + (chZ l.length).length, false) := by
      unfold countR listE
      rw [List.append_assoc, hi, if_neg]
      simp only [List.length_append]
      omega
    have h2 := loop_back h l (pre ++ chZ l.length) rest hl.2
    unfold listR
    rw [hc]
    simp only [Int.toNat_natCast]
    unfold listE
    rw [List.length_append, List.append_assoc] at h2
    rw [List.append_assoc, h2, List.length_append, Nat.add_assoc],
  fun bs p st hp hB hs => by
    unfold listR at hs ⊢
    have hcs : (countR bs p st).2.2 = false := by
      cases hq : (countR bs p st).2.2
      · rfl
      · rw [hq, loop_stop] at hs; cases hs
    have hci : countR bs p st = intR bs p st ∧ 0 ≤ (intR bs p st).1 := by
      unfold countR at hcs ⊢
      by_cases hc : (intR bs p st).1 < 0 ∨ (bs.length : Int) - (intR bs p st).2.1 < (intR bs p st).1
      · rw [if_pos hc] at hcs; cases hcs
      · rw [if_neg hc]; exact ⟨rfl, by omega⟩
    rw [hci.1] at hs hcs ⊢
    obtain ⟨g1, g2, g3, g4, g5⟩ := int_reads.sound bs p st hp hB hcs
    rw [hcs] at hs ⊢
    obtain ⟨f1, ⟨f2, f6⟩, f3, f4, f5⟩ := loop_sound h bs hB _ _ false g4 hs
    have h0 := hci.2
    have hn : (((intR bs p st).1.toNat : Nat) : Int) = (intR bs p st).1 := Int.toNat_of_nonneg h0
    refine ⟨g1, ⟨by rw [f2]; have := g2.2; omega, f6⟩, by omega, f4, ?_⟩
    rw [take_two bs p _ _ g3 f3, g5, f5]
    unfold listE
    rw [f2, hn],
  fun bs p => by
    unfold listR
    have hc : countR bs p true = (0, p, true) := by
      unfold countR
      split
      · rfl
      · rfl
    rw [hc]
    rfl⟩
/-! ### A job -/
/-- An item: its kind, and the numbers that this kind has; a kind that does not exist stops. -/
def kindR (k : Int) : RdF (List Int) := if k = 1 then numsR 2 else if k = 2 then numsR 4 else if 3 ≤ k ∧ k ≤ 6 then numsR 1 else if k = 7 then numsR 0 else failR []
def itemOf (z : Int × List Int) : I7 :=
  if z.1 = 1 then ⟨z.1, z.2.getD 0 0, z.2.getD 1 0, 0, 0, 0, 0⟩ else if z.1 = 2 then ⟨z.1, z.2.getD 0 0, 0, z.2.getD 1 0, z.2.getD 2 0, z.2.getD 3 0, 0⟩ else if 3 ≤ z.1 ∧ z.1 ≤ 6 then ⟨z.1, 0, 0, 0, 0, 0, z.2.getD 0 0⟩ else ⟨z.1, 0, 0, 0, 0, 0, 0⟩
def numsOf (x : I7) : List Int := if x.k = 1 then [x.h, x.f] else if x.k = 2 then [x.h, x.s, x.o, x.r] else if 3 ≤ x.k ∧ x.k ≤ 6 then [x.n] else []
def itemR : RdF I7 := mapR itemOf (thenR intR kindR)
def okK (k : Int) (l : List Int) : Prop := (1 ≤ k ∧ k ≤ 7) ∧ l.length = (if k = 1 then 2 else if k = 2 then 4 else if 3 ≤ k ∧ k ≤ 6 then 1 else 0) ∧ ∀ x ∈ l, in64 x
theorem kind_reads (k : Int) : Reads (okK k) (fun l => l.flatMap chZ) (kindR k) := by
  unfold kindR okK
  by_cases h1 : k = 1
  · subst h1
    exact (nums_reads 2).more (fun l => by simp) (fun _ _ => rfl)
  by_cases h2 : k = 2
  · subst h2
    exact (nums_reads 4).more (fun l => by simp) (fun _ _ => rfl)
  by_cases h3 : 3 ≤ k ∧ k ≤ 6
  · simp only [if_neg h1, if_neg h2, if_pos h3]
    exact (nums_reads 1).more (fun l => ⟨fun h => h.2, fun h => ⟨by omega, h⟩⟩) (fun _ _ => rfl)
  by_cases h7 : k = 7
  · subst h7
    exact (nums_reads 0).more (fun l => by simp) (fun _ _ => rfl)
  · simp only [if_neg h1, if_neg h2, if_neg h3, if_neg h7]
    exact (fail_reads [] _).more (fun l => ⟨fun h => by omega, fun h => h.elim⟩) (fun _ _ => rfl)
theorem item_reads : Reads (fun x => bareI x ∧ inI x) itemE itemR := by
  have h64 : in64 0 := by unfold in64; omega
  refine (int_reads.dep kind_reads).map itemOf (fun x => (x.k, numsOf x)) (fun x hx => ?_) (fun z hz => ?_)
  · obtain ⟨⟨b1, b2, b3⟩, i0, i1, i2, i3, i4, i5, i6⟩ := hx
    obtain ⟨k, h, f, s, o, r, n⟩ := x
    dsimp only at *
    have hk : k = 1 ∨ k = 2 ∨ k = 3 ∨ k = 4 ∨ k = 5 ∨ k = 6 ∨ k = 7 := by omega
    rcases hk with rfl | rfl | rfl | rfl | rfl | rfl | rfl
    all_goals
      simp [okK, numsOf, itemOf, itemE] at *
      simp [b3]
      first | exact ⟨i0, i1, i2⟩ | exact ⟨i0, i1, i3, i4, i5⟩ | exact ⟨i0, i6⟩ | exact i0
  · obtain ⟨k, l⟩ := z
    obtain ⟨g1, ⟨g2, g3⟩, g4, g5⟩ := hz
    dsimp only at *
    have hk : k = 1 ∨ k = 2 ∨ k = 3 ∨ k = 4 ∨ k = 5 ∨ k = 6 ∨ k = 7 := by omega
    have z64 : inR 0 := h64
    rcases hk with rfl | rfl | rfl | rfl | rfl | rfl | rfl
    · match l, g4 with
      | [a, b], _ =>
        have ha : inR a := g5 a (by simp)
        have hb : inR b := g5 b (by simp)
        exact ⟨⟨by simp [bareI, itemOf], g1, ha, hb, z64, z64, z64, z64⟩, by simp [itemOf, numsOf]⟩
    · match l, g4 with
      | [a, b, c, d], _ =>
        have ha : inR a := g5 a (by simp)
        have hb : inR b := g5 b (by simp)
        have hc : inR c := g5 c (by simp)
        have hd : inR d := g5 d (by simp)
        exact ⟨⟨by simp [bareI, itemOf], g1, ha, z64, hb, hc, hd, z64⟩, by simp [itemOf, numsOf]⟩
    iterate 4
      · match l, g4 with
        | [a], _ =>
          have ha : inR a := g5 a (by simp)
          exact ⟨⟨by simp [bareI, itemOf], g1, z64, z64, z64, z64, z64, ha⟩, by simp [itemOf, numsOf]⟩
    · match l, g4 with
      | [], _ => exact ⟨⟨by simp [bareI, itemOf], g1, z64, z64, z64, z64, z64, z64⟩, by simp [itemOf, numsOf]⟩
theorem chZ_one (n : Int) : 1 ≤ (chZ n).length := chain_pos _
theorem itemE_one (x : I7) : 1 ≤ (itemE x).length := by
  have := chZ_one x.k
  unfold itemE
  rw [List.length_append]
  omega
/-- A float. -/
def floatR : RdF F3 := mapR (fun l => ⟨l.getD 0 0, l.getD 1 0, l.getD 2 0⟩) (numsR 3)
theorem float_reads : Reads inF floatE floatR := by
  refine (nums_reads 3).map _ (fun x => [x.c, x.h, x.p]) (fun x hx => ?_) (fun l hl => ?_)
  · obtain ⟨h1, h2, h3⟩ := hx
    refine ⟨⟨rfl, fun y hy => ?_⟩, rfl, by simp [floatE]⟩
    simp only [List.mem_cons, List.not_mem_nil, or_false] at hy
    rcases hy with rfl | rfl | rfl <;> assumption
  · match l, hl.1 with
    | [a, b, c], _ => exact ⟨⟨hl.2 a (by simp), hl.2 b (by simp), hl.2 c (by simp)⟩, rfl⟩
theorem floatE_one (x : F3) : 1 ≤ (floatE x).length := by
  have := chZ_one x.c
  unfold floatE
  rw [List.length_append]
  omega
/-- Numbers with their number ahead: package codec's Ints (nothing behind a stop). -/
theorem ints_reads : Reads (fun l : List Int => l.length ≤ 9223372036854775807 ∧ ∀ x ∈ l, in64 x) (listE chZ) intsR := by
  have h := list_reads int_reads fun x _ => chZ_one x
  have e : ∀ bs p st, (intsR bs p st).2 = (listR intR bs p st).2 ∧ ((listR intR bs p st).2.2 = false → (intsR bs p st).1 = (listR intR bs p st).1) := fun bs p st => by
    unfold intsR listR
    simp only [loop_many]
    refine ⟨trivial, fun h => ?_⟩
    rw [h]
    rfl
  refine ⟨fun x pre rest hx => ?_, fun bs p st hp hB hs => ?_, fun bs p => (e bs p true).1.trans (h.stop bs p)⟩
  · have hb := h.back x pre rest hx
    have he := e (pre ++ (listE chZ x ++ rest)) pre.length false
    rw [hb] at he
    exact Prod.ext (he.2 rfl) he.1
  · have he := e bs p st
    rw [he.1] at hs ⊢
    rw [he.2 hs]
    exact h.sound bs p st hp hB hs
def noteR : RdF N2 := mapR (fun z => ⟨z.1, z.2⟩) (thenR intsR fun _ => intsR)
def okN (n : N2) : Prop := (n.l.length ≤ 9223372036854775807 ∧ ∀ x ∈ n.l, in64 x) ∧ (n.p.length ≤ 9223372036854775807 ∧ ∀ x ∈ n.p, in64 x)
theorem note_reads : Reads okN noteE noteR :=
  (ints_reads.dep fun _ => ints_reads).map _ (fun n => (n.l, n.p)) (fun _ hn => ⟨hn, rfl, rfl⟩) (fun _ hz => ⟨hz, rfl⟩)
theorem listE_one {α : Type} (f : α → List Int) (l : List α) : 1 ≤ (listE f l).length := by
  have := chZ_one (l.length : Int)
  unfold listE
  rw [List.length_append]
  omega
theorem noteE_one (n : N2) : 1 ≤ (noteE n).length := by
  have := listE_one chZ n.l
  unfold noteE
  rw [List.length_append]
  omega
/-- A geometry. -/
def geoOf (z : List Int × Int) : G19 := ⟨z.1.getD 0 0, z.1.getD 1 0, z.1.getD 2 0, z.1.getD 3 0, z.1.getD 4 0, z.1.getD 5 0, z.1.getD 6 0, z.1.getD 7 0, z.1.getD 8 0, z.1.getD 9 0, z.1.getD 10 0, z.1.getD 11 0, z.1.getD 12 0, z.1.getD 13 0, z.1.getD 14 0, z.1.getD 15 0, z.1.getD 16 0, z.1.getD 17 0, decide (z.2 = 1)⟩
def geomR : RdF G19 := mapR geoOf (thenR (numsR 18) fun _ => boolR)
theorem geom_reads : Reads inE geomE geomR := by
  refine ((nums_reads 18).dep fun _ => bool_reads).map geoOf (fun g => (numsG g, if g.bal then 1 else 0)) (fun g hg => ?_) (fun z hz => ?_)
  · refine ⟨⟨⟨rfl, fun y hy => ?_⟩, ?_⟩, ?_, rfl⟩
    · obtain ⟨h0, h1, h2, h3, h4, h5, h6, h7, h8, h9, h10, h11, h12, h13, h14, h15, h16, h17⟩ := hg
      simp only [numsG, List.mem_cons, List.not_mem_nil, or_false] at hy
      rcases hy with rfl | rfl | rfl | rfl | rfl | rfl | rfl | rfl | rfl | rfl | rfl | rfl | rfl | rfl | rfl | rfl | rfl | rfl <;> assumption
    · show (if g.bal = true then (1 : Int) else 0) = 0 ∨ (if g.bal = true then (1 : Int) else 0) = 1
      split
      · exact .inr rfl
      · exact .inl rfl
    · obtain ⟨a0, a1, a2, a3, a4, a5, a6, a7, a8, a9, a10, a11, a12, a13, a14, a15, a16, a17, a18⟩ := g
      unfold geoOf numsG
      cases a18 <;> rfl
  · obtain ⟨l, b⟩ := z
    obtain ⟨⟨h1, h2⟩, h3⟩ := hz
    dsimp only at *
    match l, h1, h2 with
    | [a0, a1, a2, a3, a4, a5, a6, a7, a8, a9, a10, a11, a12, a13, a14, a15, a16, a17], _, h2 =>
      refine ⟨⟨h2 a0 (by simp), h2 a1 (by simp), h2 a2 (by simp), h2 a3 (by simp), h2 a4 (by simp), h2 a5 (by simp), h2 a6 (by simp), h2 a7 (by simp), h2 a8 (by simp), h2 a9 (by simp), h2 a10 (by simp), h2 a11 (by simp), h2 a12 (by simp), h2 a13 (by simp), h2 a14 (by simp), h2 a15 (by simp), h2 a16 (by simp), h2 a17 (by simp)⟩, ?_⟩
      unfold geoOf numsG
      rcases h3 with rfl | rfl <;> rfl
/-- The parts of a job, one behind the other. -/
def magicS : ByteArray := ⟨#[84, 89, 77, 49]⟩
def jobR : RdF J4 := mapR (fun z => ⟨z.2.1, z.2.2.1, z.2.2.2.1, z.2.2.2.2⟩) (thenR (markF magicS) fun _ => thenR geomR fun _ => thenR (listR itemR) fun _ => thenR (listR noteR) fun _ => listR floatR)
def okL {α : Type} (ok : α → Prop) (l : List α) : Prop := l.length ≤ 9223372036854775807 ∧ ∀ x ∈ l, ok x
def okJ (j : J4) : Prop := inE j.g ∧ okL (fun x => bareI x ∧ inI x) j.items ∧ okL okN j.notes ∧ okL inF j.floats
theorem job_reads : Reads okJ jobE jobR :=
  ((mark_reads magicS).dep fun _ => geom_reads.dep fun _ => (list_reads item_reads fun x _ => itemE_one x).dep fun _ => (list_reads note_reads fun x _ => noteE_one x).dep fun _ => list_reads float_reads fun x _ => floatE_one x).map _
    (fun j => ((), j.g, j.items, j.notes, j.floats)) (fun j hj => ⟨⟨trivial, hj⟩, rfl, rfl⟩) (fun z hz => ⟨hz.2, rfl⟩)
theorem Byt.take {l : List Int} (h : Byt l) (n : Nat) : Byt (l.take n) := fun x hx => h x (List.mem_of_mem_take hx)
/-- What is cut off is not read to its end. -/
theorem Reads.cut {α : Type} {ok : α → Prop} {e : α → List Int} {R : RdF α} (h : Reads ok e R) {x : α} (hx : ok x) (hB : Byt (e x)) {n : Nat} (hn : n < (e x).length) : (R ((e x).take n) 0 false).2.2 = true := by
  cases hs : (R ((e x).take n) 0 false).2.2
  · exfalso
    obtain ⟨_, g2, _, g4, g5⟩ := h.sound _ 0 false (Nat.zero_le _) (hB.take n) hs
    generalize (R ((e x).take n) 0 false).1 = y at *
    generalize (R ((e x).take n) 0 false).2.1 = q at *
    have hq : q ≤ n := by rw [List.length_take] at g4; omega
    rw [List.drop_zero, Nat.sub_zero, List.take_take, Nat.min_eq_left hq] at g5
    have b1 := h.back x [] [] hx
    have b2 := h.back y [] ((e x).drop q) g2
    rw [← g5, List.nil_append, List.take_append_drop] at b2
    rw [List.nil_append, List.append_nil, b2] at b1
    simp only [Prod.mk.injEq, List.length_nil, Nat.zero_add, List.length_take] at b1
    omega
  · rfl
/-- From the first byte on: what was written, and more behind it. -/
theorem Reads.whole {α : Type} {ok : α → Prop} {e : α → List Int} {R : RdF α} (h : Reads ok e R) {x : α} (hx : ok x) (rest : List Int) : R (e x ++ rest) 0 false = (x, (e x).length, false) := by
  have := h.back x [] rest hx
  simpa using this
/-- What is read without a stop, from the first byte on, has just these bytes. -/
theorem Reads.these {α : Type} {ok : α → Prop} {e : α → List Int} {R : RdF α} (h : Reads ok e R) {bs : List Int} (hB : Byt bs) (hs : (R bs 0 false).2.2 = false) : ok (R bs 0 false).1 ∧ (R bs 0 false).2.1 ≤ bs.length ∧ bs.take (R bs 0 false).2.1 = e (R bs 0 false).1 := by
  obtain ⟨_, g2, _, g4, g5⟩ := h.sound bs 0 false (Nat.zero_le _) hB hs
  exact ⟨g2, g4, by simpa using g5⟩
theorem flat_byt {α : Type} {f : α → List Int} {l : List α} (h : ∀ x ∈ l, Byt (f x)) : Byt (l.flatMap f) := fun y hy => by
  obtain ⟨x, hx, hy⟩ := List.mem_flatMap.1 hy
  exact h x hx y hy
theorem chZ_byt {n : Int} (h : in64 n) : Byt (chZ n) := chain_bytes _ (fold_range n h.1 h.2).1
theorem listE_byt {α : Type} {f : α → List Int} {l : List α} (hl : l.length ≤ 9223372036854775807) (h : ∀ x ∈ l, Byt (f x)) : Byt (listE f l) := Byt.app (chZ_byt ⟨by omega, by omega⟩) (flat_byt h)
theorem job_byt {j : J4} (h : okJ j) : Byt (jobE j) := by
  obtain ⟨h1, ⟨h2, h3⟩, ⟨h4, h5⟩, h6, h7⟩ := h
  have magic : Byt [84, 89, 77, 49] := fun x hx => by
    simp only [List.mem_cons, List.not_mem_nil, or_false] at hx
    omega
  have geo : Byt (geomE j.g) := by
    refine Byt.app (flat_byt fun x hx => chZ_byt ?_) fun x hx => ?_
    · obtain ⟨h0, h1, h2, h3, h4, h5, h6, h7, h8, h9, h10, h11, h12, h13, h14, h15, h16, h17⟩ := h1
      simp only [numsG, List.mem_cons, List.not_mem_nil, or_false] at hx
      rcases hx with rfl | rfl | rfl | rfl | rfl | rfl | rfl | rfl | rfl | rfl | rfl | rfl | rfl | rfl | rfl | rfl | rfl | rfl <;> assumption
    · simp only [List.mem_singleton] at hx
      split at hx <;> omega
  refine Byt.app magic (Byt.app geo (Byt.app (listE_byt h2 fun x hx => ?_) (Byt.app (listE_byt h4 fun x hx => ?_) (listE_byt h6 fun x hx => ?_))))
  · obtain ⟨i0, i1, i2, i3, i4, i5, i6⟩ := (h3 x hx).2
    unfold itemE
    refine Byt.app (chZ_byt i0) ?_
    split
    · exact Byt.app (chZ_byt i1) (chZ_byt i2)
    · split
      · exact Byt.app (chZ_byt i1) (Byt.app (chZ_byt i3) (Byt.app (chZ_byt i4) (chZ_byt i5)))
      · split
        · exact chZ_byt i6
        · intro y hy; simp at hy
  · obtain ⟨⟨n1, n2⟩, n3, n4⟩ := h5 x hx
    exact Byt.app (listE_byt n1 fun y hy => chZ_byt (n2 y hy)) (listE_byt n3 fun y hy => chZ_byt (n4 y hy))
  · obtain ⟨f1, f2, f3⟩ := h7 x hx
    exact Byt.app (chZ_byt f1) (Byt.app (chZ_byt f2) (chZ_byt f3))
/-- How many parts of a job are read without a stop. -/
def partJ (bs : List Int) : Nat :=
  let a := markF magicS bs 0 false
  let b := geomR bs a.2.1 a.2.2
  let c := listR itemR bs b.2.1 b.2.2
  let d := listR noteR bs c.2.1 c.2.2
  let e := listR floatR bs d.2.1 d.2.2
  if a.2.2 then 0 else if b.2.2 then 1 else if c.2.2 then 2 else if d.2.2 then 3 else if e.2.2 then 4 else 5
theorem partJ_end (bs : List Int) : partJ bs = 5 ↔ (jobR bs 0 false).2.2 = false := by
  have hf : ∀ p, (listR floatR bs p true).2.2 = true := fun p => by rw [(list_reads float_reads fun x _ => floatE_one x).stop]
  have hn : ∀ p, (listR noteR bs p true).2.2 = true := fun p => by rw [(list_reads note_reads fun x _ => noteE_one x).stop]
  have hi : ∀ p, (listR itemR bs p true).2.2 = true := fun p => by rw [(list_reads item_reads fun x _ => itemE_one x).stop]
  have hg : ∀ p, (geomR bs p true).2.2 = true := fun p => by rw [geom_reads.stop]
  unfold partJ jobR mapR thenR
  dsimp only
  generalize ha : markF magicS bs 0 false = a
  obtain ⟨a0, a1, a2⟩ := a
  dsimp only
  generalize hb : geomR bs a1 a2 = b
  obtain ⟨b0, b1, b2⟩ := b
  dsimp only
  generalize hc : listR itemR bs b1 b2 = c
  obtain ⟨c0, c1, c2⟩ := c
  dsimp only
  generalize hd : listR noteR bs c1 c2 = d
  obtain ⟨d0, d1, d2⟩ := d
  dsimp only
  generalize he : listR floatR bs d1 d2 = x
  obtain ⟨x0, x1, x2⟩ := x
  dsimp only
  cases x2
  · have e4 : d2 = false := by cases d2; rfl; have := hf d1; rw [he] at this; cases this
    subst e4
    have e3 : c2 = false := by cases c2; rfl; have := hn c1; rw [hd] at this; cases this
    subst e3
    have e2 : b2 = false := by cases b2; rfl; have := hi b1; rw [hc] at this; cases this
    subst e2
    have e1 : a2 = false := by cases a2; rfl; have := hg a1; rw [hb] at this; cases this
    subst e1
    simp
  · cases a2 <;> cases b2 <;> cases c2 <;> cases d2 <;> simp
end Go.Proofs.Ytjfjekncmejfpaa
