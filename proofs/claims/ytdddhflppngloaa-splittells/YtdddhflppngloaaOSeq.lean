/- A range over a function whose iterator keeps a block of its own and turns it between the rounds: its contract, and the loop's law. Nothing of a program is in it. -/
import Derived.RangeFuncNested
import Derived.RangeFuncBound
import Derived.RangeFuncCalls
import Derived.RangeFuncLeaves
import Derived.Test.YtdddhflppngloaaBlk
namespace Go.Proofs.Ytdddhflppngloaa
open Go.RowKit
set_option linter.unusedVariables false

section
variable {α : Type} {F : Fence} {n : Nat} {P : Program}
/-- The iterator's contract: at each call of yield the block g is its own, and the value v that comes lies as Lay says; the rounds leave g alone (Kp), and what the caller keeps (J) bears that g turns. -/
def SeqMem (F : Fence) (n : Nat) (P : Program) (gf : Nat) (lb : Array Value) (Lay : Nat → α → World → Value → Prop) (Kp : Nat → World → World → Prop) (S Sp : List α → Prop) (N : Nat) (w : World) : Prop :=
  ∀ (l : Nat) (J Jx : Nat → List α → World → Prop) (W : World), Below w.heap.size w W →
    (∀ g pre A B, W.heap.size ≤ g → J g pre A → Near (fun k => k = g) A B → J g pre B) →
    (∀ g pre x v A, W.heap.size ≤ g → J g pre A → Lay g x A v → pre.length < N → YieldAt F (n - 1) P l #[v] A fun e B =>
      (e = .returned (.bool true) ∧ J g (pre ++ [x]) B ∧ Kp g A B) ∨ (e = .returned (.bool false) ∧ Jx g (pre ++ [x]) B)) →
    (∀ g B, W.heap.size ≤ g → g < B.heap.size → Below W.heap.size W B → J g [] B) →
    CallsIn F n P gf (#[.func (.yield l) #[] #[]] ++ lb) W fun e B => (∃ v, e = .returned v) ∧ ((∃ g xs, S xs ∧ J g xs B) ∨ ∃ g pre, Sp pre ∧ Jx g pre B)
/-- How a round may be left. -/
def memPost (b : Nat) (Kp : Nat → World → World → Prop) (I : Nat → List α → World → Prop) (Ix : Code → Nat → List α → World → Prop) (g : Nat) (xs : List α) (W : World) : Exit → Act → World → Prop
  | .normal, _, B => KeepsFrom b W B ∧ Kp g W B ∧ I g xs B
  | .ret, _, B => KeepsFrom b W B ∧ Ix .ret g xs B
  | .exit id, _, B => KeepsFrom b W B ∧ Ix (.exit id) g xs B
  | .goto t, _, B => KeepsFrom b W B ∧ Ix (.goto t) g xs B
  | .panic _, _, _ => False
  | .outgrown, _, _ => False
/-- What bears that a block that holds no cells is turned, from block b on. -/
def Bears (b : Nat) (I : World → Prop) : Prop := ∀ (A : World) (k : Nat) (o o' : Obj), I A → b ≤ k → A.heap[k]? = some o → o.isCells = false → I (A.putObj k o')
/-- The loop's record and the block of its rounds' deferred calls. -/
structure LoopAt (b : Nat) (rec : LoopState → Option Code → Loop) (st : LoopState) (pe : Option Code) (W : World) : Prop where
  rc : W.heap[b + 1]? = some (.loop (rec st pe))
  df : W.heap[b]? = some (.deferred (some []))
theorem LoopAt.near {b g : Nat} {rec : LoopState → Option Code → Loop} {st : LoopState} {pe : Option Code} {A B : World} (h : LoopAt b rec st pe A) (hn : Near (fun k => k = g) A B) (hg : b + 2 ≤ g) : LoopAt b rec st pe B :=
  ⟨(hn.block _ (Array.getElem?_eq_some_iff.1 h.rc).1 (by omega)).trans h.rc, (hn.block _ (Array.getElem?_eq_some_iff.1 h.df).1 (by omega)).trans h.df⟩
theorem LoopAt.put {b : Nat} {rec : LoopState → Option Code → Loop} {st st' : LoopState} {pe pe' : Option Code} {A : World} (h : LoopAt b rec st pe A) : LoopAt b rec st' pe' (A.putObj (b + 1) (.loop (rec st' pe'))) :=
  ⟨World.putObj_heap_same (Array.getElem?_eq_some_iff.1 h.rc).1, (World.putObj_heap_other (by omega)).trans h.df⟩
theorem wpIn_rangeFunc_mem {g : Operand} {ps : Array Tmp} {assign body : Code} {Q : Exit → Act → World → Prop} {a : Act} {w : World}
    (hro : F.round = none) (h1 : 1 ≤ n) {gf : Nat} {lb : Array Value} (hg : a.eval g = .func (.func gf) #[] lb) (hFg : F.fn gf) (eg : ∀ args w, (callFunc gf args).run P w = .ok (.enter gf args) w)
    {Lay : Nat → α → World → Value → Prop} {Kp : Nat → World → World → Prop} {S Sp : List α → Prop} {N : Nat} (hseq : SeqMem F (n - 1) P gf lb Lay Kp S Sp N w)
    (hKt : ∀ {g : Nat} {A B C : World}, Kp g A B → Kp g B C → Kp g A C) (hKb : ∀ (g : Nat) (W : World) (k : Nat) (o o' : Obj), w.heap.size ≤ k → k < g → W.heap[k]? = some o → o.isCells = false → o.isWalk = false → Kp g W (W.putObj k o'))
    (hps : ps.size = 1) (I : Nat → List α → World → Prop) (Ix : Code → Nat → List α → World → Prop)
    (hIn : ∀ g pre A B, w.heap.size + 2 ≤ g → I g pre A → Near (fun k => k = g) A B → I g pre B)
    (hI : ∀ g pre, Bears w.heap.size (I g pre)) (hIx : ∀ c g pre, Bears w.heap.size (Ix c g pre)) (hL : ∀ g x v, Bears w.heap.size (fun A => Lay g x A v))
    (h0 : ∀ g B, w.heap.size + 2 ≤ g → g < B.heap.size → Below w.heap.size w B → I g [] B) (a₁ : Value → Act)
    (hassign : ∀ (l : Nat) (v : Value) (W : World) (K : Act → World → Prop), K (a₁ v) W →
      assign.wpIn (F.inRound l) (n - 1 - 1) P (Exit.then K (fun _ _ _ => False)) { tmps := (ps.zip #[v]).foldl (fun t (p, v) => t.setIfInBounds p v) a.tmps, defers := [] } W)
    (hbody : ∀ (l g : Nat) (pre : List α) (x : α) (v : Value) (W : World), w.heap.size + 2 ≤ g → I g pre W → Lay g x W v → pre.length < N → body.wpIn (F.inRound l) (n - 1 - 1) P (memPost w.heap.size Kp I Ix g (pre ++ [x]) W) (a₁ v) W)
    (hdone : ∀ (D g : Nat) (xs : List α) (W : World), w.heap.size ≤ D → S xs → I g xs W → W.heap[D]? = some (.deferred (some [])) → Q .normal { a with defers := { target := .collected D, args := #[] } :: a.defers } W)
    (hstop : ∀ (D g : Nat) (c : Code) (pre : List α) (W : World), w.heap.size ≤ D → Sp pre → Ix c g pre W → W.heap[D]? = some (.deferred (some [])) → c.wpIn F n P Q { a with defers := { target := .collected D, args := #[] } :: a.defers } W) :
    (Code.rangeFunc g ps assign body).wpIn F n P Q a w := by
  refine wpIn_rangeFunc fun fn hfn => ?_
  rw [hro]
  obtain ⟨rec, hrec⟩ : ∃ rec : LoopState → Option Code → Loop, rec = fun st pe => { state := st, pending := pe, fn, tmps := a.tmps, params := ps, assign, body, defers := w.heap.size } := ⟨_, rfl⟩
  obtain ⟨W1, hW1⟩ : ∃ W1, W1 = (w.alloc (.deferred (some []))).alloc (.loop (rec .ready none)) := ⟨_, rfl⟩
  have hz : W1.heap.size = w.heap.size + 2 := by rw [hW1]; simp
  have hb1 : Below w.heap.size w W1 := by rw [hW1]; exact ((Below.refl _ w).alloc (Nat.le_refl _) _).alloc (by simp) _
  have hl1 : LoopAt w.heap.size rec .ready none W1 := by
    rw [hW1]
    refine ⟨?_, (Below.heap_alloc _ _ _ (by simp)).trans (World.alloc_heap_new w _)⟩
    have := World.alloc_heap_new (w.alloc (.deferred (some []))) (.loop (rec .ready none))
    rwa [World.size_alloc] at this
  refine ⟨w.heap.size + 1, [{ target := .collected w.heap.size, args := #[] }], W1, { target := .fn (.func gf) lb, args := #[.func (.yield (w.heap.size + 1)) #[] #[]] }, W1, gf,
    #[.func (.yield (w.heap.size + 1)) #[] #[]] ++ lb, W1, ?_, ?_, ?_, ?_, fun _ => h1, ?_⟩
  · rw [hW1, hrec]; exact run_enterLoop_outer _ _ _ _ _
  · simp only [resolve, hg]
    simp [go_sem]
  · intro f' hf'; simp [Target.leads] at hf'; subst hf'; exact hFg
  · simp [invoke, go_sem, eg]
  · refine (hseq (w.heap.size + 1) (fun g pre W => I g pre W ∧ LoopAt w.heap.size rec .ready none W) (fun g pre W => ∃ c, Ix c g pre W ∧ LoopAt w.heap.size rec .done (some c) W) W1 hb1
      (fun g pre A B hgB hJ hn => ⟨hIn g pre A B (by omega) hJ.1 hn, hJ.2.near hn (by omega)⟩) ?_
      (fun g B hgB hlt hb => ⟨h0 g B (by omega) hlt (hb1.trans (hb.mono (by omega))), ⟨(hb.block _ (by omega)).trans hl1.rc, (hb.block _ (by omega)).trans hl1.df⟩⟩)).mono ?_
    · rintro g pre x v W hgW ⟨hi, hl⟩ hlay hlen
      have hy := run_yield (P := P) (args := #[v]) hl.rc (by rw [hrec]; exact hps.symm)
      rw [hrec] at hy
      have hl2 := hl.put (st' := .busy) (pe' := none)
      have hw2 : Kp g W (W.putObj (w.heap.size + 1) (.loop (rec .busy none))) := hKb _ _ _ _ _ (by omega) (by omega) hl.rc rfl rfl
      refine ⟨fn, _, assign, body, hy, roundIn_of_wpIn hfn (hassign _ v W _ ⟨_, run_beginRound hl.rc (by rw [hrec]), ?_⟩)⟩
      have eb : W.putObj (w.heap.size + 1) (.loop { rec .ready none with state := .busy }) = W.putObj (w.heap.size + 1) (.loop (rec .busy none)) := by rw [hrec]
      rw [eb]
      refine wpIn_mono (hbody _ g pre x v _ (by omega) (hI g pre W _ _ _ hi (by omega) hl.rc rfl) (hL g x v W _ _ _ hlay (by omega) hl.rc rfl) hlen) ?_
      have fin : ∀ (jump : Option Code) (B : World), KeepsFrom w.heap.size (W.putObj (w.heap.size + 1) (.loop (rec .busy none))) B → LoopAt w.heap.size rec .busy none B ∧
          (Instr.endRound (w.heap.size + 1) jump).run P B = .ok (.bool jump.isNone) (B.putObj (w.heap.size + 1) (.loop (rec (if jump.isNone then .ready else .done) jump))) := fun jump B hk => by
        have hlB : LoopAt w.heap.size rec .busy none B := ⟨hk.same _ _ (by omega) hl2.rc rfl, hk.same _ _ (Nat.le_refl _) hl2.df rfl⟩
        refine ⟨hlB, ?_⟩
        have := run_endRound (P := P) jump hlB.rc
        rw [hrec] at this ⊢
        exact this
      rintro e a3 B hp
      cases e with
      | normal =>
        obtain ⟨hk, hkp, hi3⟩ := hp
        obtain ⟨hlB, hr⟩ := fin none B hk
        exact ⟨_, _, hr, .inl ⟨rfl, ⟨hI g _ B _ _ _ hi3 (by omega) hlB.rc rfl, hlB.put⟩, hKt (hKt hw2 hkp) (hKb _ _ _ _ _ (by omega) (by omega) hlB.rc rfl rfl)⟩⟩
      | ret =>
        obtain ⟨hlB, hr⟩ := fin (some .ret) B hp.1
        exact ⟨_, _, hr, .inr ⟨rfl, .ret, hIx _ g _ B _ _ _ hp.2 (by omega) hlB.rc rfl, hlB.put⟩⟩
      | exit id =>
        obtain ⟨hlB, hr⟩ := fin (some (.exit id)) B hp.1
        exact ⟨_, _, hr, .inr ⟨rfl, .exit id, hIx _ g _ B _ _ _ hp.2 (by omega) hlB.rc rfl, hlB.put⟩⟩
      | goto t =>
        obtain ⟨hlB, hr⟩ := fin (some (.goto t)) B hp.1
        exact ⟨_, _, hr, .inr ⟨rfl, .goto t, hIx _ g _ B _ _ _ hp.2 (by omega) hlB.rc rfl, hlB.put⟩⟩
      | panic ch => exact hp.elim
      | outgrown => exact hp.elim
    · rintro e W2 ⟨⟨v, rfl⟩, (⟨g, xs, hS, hi, hl⟩ | ⟨g, pre, hSp, c, hi, hl⟩)⟩
      · exact ⟨none, _, by have := run_endLoop (P := P) hl.rc (by rw [hrec]; simp); rw [hrec] at this; exact this, hdone _ g xs _ (Nat.le_refl _) hS (hI g _ W2 _ _ _ hi (by omega) hl.rc rfl) ((World.putObj_heap_other (by omega)).trans hl.df)⟩
      · exact ⟨some c, _, by have := run_endLoop (P := P) hl.rc (by rw [hrec]; simp); rw [hrec] at this; exact this, hstop _ g c pre _ (Nat.le_refl _) hSp (hIx c g _ W2 _ _ _ hi (by omega) hl.rc rfl) ((World.putObj_heap_other (by omega)).trans hl.df)⟩
end
end Go.Proofs.Ytdddhflppngloaa
