/- Plain mathematics for stage 16: the encodings of jobs as lists of bytes, and that unlike ones have unlike bytes. -/
import Derived.Test.YtjfjekncmejfpaaVFold
import Derived.Test.YtjfjekncmejfpaaJNum
namespace Go.Proofs.Ytjfjekncmejfpaa
open Go.RowKit
set_option maxRecDepth 20000
set_option linter.unusedVariables false

def chZ (n : Int) : List Int := chainL (foldZ n)
theorem fold_nn (n : Int) : 0 ≤ foldZ n := by unfold foldZ; split <;> omega
/-- A chain says where it ends. -/
theorem chain_split (u : Int) : 0 ≤ u → ∀ (v : Int) (r s : List Int), 0 ≤ v → chainL u ++ r = chainL v ++ s → u = v ∧ r = s := by
  induction u using chain_rec with
  | h1 u h =>
    intro hu v r s hv e
    rw [chain_lt h] at e
    rcases Int.lt_or_le v 128 with hv2 | hv2
    · rw [chain_lt hv2] at e
      simpa using e
    · rw [chain_ge hv2] at e
      simp only [List.cons_append, List.nil_append, List.cons.injEq] at e
      omega
  | h2 u h ih =>
    intro hu v r s hv e
    rw [chain_ge h] at e
    rcases Int.lt_or_le v 128 with hv2 | hv2
    · rw [chain_lt hv2] at e
      simp only [List.cons_append, List.nil_append, List.cons.injEq] at e
      omega
    · rw [chain_ge hv2] at e
      simp only [List.cons_append, List.cons.injEq] at e
      obtain ⟨e1, e2⟩ := e
      obtain ⟨h1, h2⟩ := ih (by omega) (v / 128) r s (by omega) e2
      exact ⟨by omega, h2⟩
/-- An encoding whose end is seen from it alone. -/
def Ends {α : Type} (ok : α → Prop) (f : α → List Int) : Prop := ∀ x y r s, ok x → ok y → f x ++ r = f y ++ s → x = y ∧ r = s
theorem chZ_ends : Ends (fun _ => True) chZ := fun x y r s _ _ e => by
  obtain ⟨h, h'⟩ := chain_split _ (fold_nn x) _ r s (fold_nn y) e
  refine ⟨?_, h'⟩
  have := congrArg unfoldZ h
  rwa [unfold_fold, unfold_fold] at this
theorem Ends.many {α : Type} {ok : α → Prop} {f : α → List Int} (h : Ends ok f) : ∀ (l m : List α) (r s : List Int), (∀ x ∈ l, ok x) → (∀ x ∈ m, ok x) → l.length = m.length → l.flatMap f ++ r = m.flatMap f ++ s → l = m ∧ r = s
  | [], [], r, s, _, _, _, e => ⟨rfl, by simpa using e⟩
  | [], y :: m, r, s, _, _, hl, e => by simp at hl
  | x :: l, [], r, s, _, _, hl, e => by simp at hl
  | x :: l, y :: m, r, s, hx, hy, hl, e => by
    rw [List.flatMap_cons, List.flatMap_cons, List.append_assoc, List.append_assoc] at e
    obtain ⟨rfl, e2⟩ := h x y _ _ (hx x (by simp)) (hy y (by simp)) e
    obtain ⟨rfl, e3⟩ := Ends.many h l m r s (fun z hz => hx z (by simp [hz])) (fun z hz => hy z (by simp [hz])) (by simpa using hl) e2
    exact ⟨rfl, e3⟩
/-- A list: its length, then its elements. -/
def listE {α : Type} (f : α → List Int) (l : List α) : List Int := chZ l.length ++ l.flatMap f
theorem Ends.list {α : Type} {ok : α → Prop} {f : α → List Int} (h : Ends ok f) : Ends (fun l : List α => ∀ x ∈ l, ok x) (listE f) := fun l m r s hl hm e => by
  unfold listE at e
  rw [List.append_assoc, List.append_assoc] at e
  obtain ⟨h1, h2⟩ := chZ_ends _ _ _ _ trivial trivial e
  exact h.many l m r s hl hm (by omega) h2
/-- The encodings. -/
def itemE (x : I7) : List Int := chZ x.k ++ (if x.k = 1 then chZ x.h ++ chZ x.f else if x.k = 2 then chZ x.h ++ (chZ x.s ++ (chZ x.o ++ chZ x.r)) else if x.k < 7 then chZ x.n else [])
def bareI (x : I7) : Prop := 1 ≤ x.k ∧ x.k ≤ 7 ∧ (if x.k = 1 then x.s = 0 ∧ x.o = 0 ∧ x.r = 0 ∧ x.n = 0 else if x.k = 2 then x.f = 0 ∧ x.n = 0 else x.h = 0 ∧ x.f = 0 ∧ x.s = 0 ∧ x.o = 0 ∧ x.r = 0 ∧ (x.k = 7 → x.n = 0))
def noteE (n : N2) : List Int := listE chZ n.l ++ listE chZ n.p
def floatE (f : F3) : List Int := chZ f.c ++ (chZ f.h ++ chZ f.p)
def numsG (g : G19) : List Int := [g.cols, g.wide, g.gap, g.high, g.first, g.grid, g.rule, g.sep, g.nmost, g.tmost, g.bmost, g.tmany, g.bmany, g.club, g.widow, g.split, g.later, g.spare]
def geomE (g : G19) : List Int := (numsG g).flatMap chZ ++ [if g.bal then 1 else 0]
def jobE (j : J4) : List Int := [84, 89, 77, 49] ++ (geomE j.g ++ (listE itemE j.items ++ (listE noteE j.notes ++ listE floatE j.floats)))
theorem item_ends : Ends bareI itemE := fun x y r s hx hy e => by
  obtain ⟨k, h, f, t, o, u, n⟩ := x
  obtain ⟨k', h', f', t', o', u', n'⟩ := y
  unfold itemE at e
  rw [List.append_assoc, List.append_assoc] at e
  obtain ⟨rfl, e1⟩ := chZ_ends _ _ _ _ trivial trivial e
  obtain ⟨a1, a2, a3⟩ := hx
  obtain ⟨b1, b2, b3⟩ := hy
  dsimp only at *
  by_cases h1 : k = 1
  · rw [if_pos h1] at a3 b3 e1
    rw [if_pos h1, List.append_assoc, List.append_assoc] at e1
    obtain ⟨rfl, e2⟩ := chZ_ends _ _ _ _ trivial trivial e1
    obtain ⟨rfl, e3⟩ := chZ_ends _ _ _ _ trivial trivial e2
    obtain ⟨rfl, rfl, rfl, rfl⟩ := a3
    obtain ⟨rfl, rfl, rfl, rfl⟩ := b3
    exact ⟨rfl, e3⟩
  by_cases h2 : k = 2
  · rw [if_neg h1, if_pos h2] at a3 b3 e1
    rw [if_neg h1, if_pos h2] at e1
    simp only [List.append_assoc] at e1
    obtain ⟨rfl, e4⟩ := chZ_ends _ _ _ _ trivial trivial e1
    obtain ⟨rfl, e5⟩ := chZ_ends _ _ _ _ trivial trivial e4
    obtain ⟨rfl, e6⟩ := chZ_ends _ _ _ _ trivial trivial e5
    obtain ⟨rfl, e7⟩ := chZ_ends _ _ _ _ trivial trivial e6
    obtain ⟨rfl, rfl⟩ := a3
    obtain ⟨rfl, rfl⟩ := b3
    exact ⟨rfl, e7⟩
  · rw [if_neg h1, if_neg h2] at a3 b3 e1
    rw [if_neg h1, if_neg h2] at e1
    obtain ⟨rfl, rfl, rfl, rfl, rfl, a4⟩ := a3
    obtain ⟨rfl, rfl, rfl, rfl, rfl, b4⟩ := b3
    by_cases h7 : k < 7
    · rw [if_pos h7, if_pos h7] at e1
      obtain ⟨rfl, e8⟩ := chZ_ends _ _ _ _ trivial trivial e1
      exact ⟨rfl, e8⟩
    · rw [if_neg h7, if_neg h7] at e1
      rw [a4 (by omega), b4 (by omega)]
      exact ⟨rfl, by simpa using e1⟩
theorem note_ends : Ends (fun _ => True) noteE := fun x y r s _ _ e => by
  obtain ⟨l, p⟩ := x
  obtain ⟨l', p'⟩ := y
  unfold noteE at e
  rw [List.append_assoc, List.append_assoc] at e
  obtain ⟨rfl, e9⟩ := (chZ_ends.list) _ _ _ _ (fun _ _ => trivial) (fun _ _ => trivial) e
  obtain ⟨rfl, e10⟩ := (chZ_ends.list) _ _ _ _ (fun _ _ => trivial) (fun _ _ => trivial) e9
  exact ⟨rfl, e10⟩
theorem float_ends : Ends (fun _ => True) floatE := fun x y r s _ _ e => by
  obtain ⟨c, h, p⟩ := x
  obtain ⟨c', h', p'⟩ := y
  unfold floatE at e
  simp only [List.append_assoc] at e
  obtain ⟨rfl, e11⟩ := chZ_ends _ _ _ _ trivial trivial e
  obtain ⟨rfl, e12⟩ := chZ_ends _ _ _ _ trivial trivial e11
  obtain ⟨rfl, e13⟩ := chZ_ends _ _ _ _ trivial trivial e12
  exact ⟨rfl, e13⟩
theorem geom_ends : Ends (fun _ => True) geomE := fun x y r s _ _ e => by
  unfold geomE at e
  rw [List.append_assoc, List.append_assoc] at e
  obtain ⟨h, e14⟩ := chZ_ends.many (numsG x) (numsG y) _ _ (fun _ _ => trivial) (fun _ _ => trivial) rfl e
  simp only [List.cons_append, List.nil_append, List.cons.injEq] at e14
  obtain ⟨hb, e15⟩ := e14
  refine ⟨?_, e15⟩
  obtain ⟨a0, a1, a2, a3, a4, a5, a6, a7, a8, a9, a10, a11, a12, a13, a14, a15, a16, a17, a18⟩ := x
  obtain ⟨b0, b1, b2, b3, b4, b5, b6, b7, b8, b9, b10, b11, b12, b13, b14, b15, b16, b17, b18⟩ := y
  simp only [numsG, List.cons.injEq, and_true] at h
  obtain ⟨rfl, rfl, rfl, rfl, rfl, rfl, rfl, rfl, rfl, rfl, rfl, rfl, rfl, rfl, rfl, rfl, rfl, rfl⟩ := h
  cases a18 <;> cases b18 <;> first | rfl | (simp at hb)
/-- Unlike jobs have unlike bytes. -/
theorem job_apart {j k : J4} (hj : ∀ x ∈ j.items, bareI x) (hk : ∀ x ∈ k.items, bareI x) (e : jobE j = jobE k) : j = k := by
  obtain ⟨g, l, m, n⟩ := j
  obtain ⟨g', l', m', n'⟩ := k
  unfold jobE at e
  have e16 := List.append_cancel_left e
  obtain ⟨rfl, e17⟩ := geom_ends _ _ _ _ trivial trivial e16
  obtain ⟨rfl, e18⟩ := item_ends.list _ _ _ _ hj hk e17
  obtain ⟨rfl, e19⟩ := note_ends.list _ _ _ _ (fun _ _ => trivial) (fun _ _ => trivial) e18
  obtain ⟨rfl, _⟩ := float_ends.list n n' [] [] (fun _ _ => trivial) (fun _ _ => trivial) (by rw [List.append_nil, List.append_nil]; exact e19)
  rfl
end Go.Proofs.Ytjfjekncmejfpaa
