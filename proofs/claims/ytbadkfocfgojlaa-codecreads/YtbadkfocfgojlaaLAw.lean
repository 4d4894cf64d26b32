/- The law's awake. -/
import Derived.Test.YtbadkfocfgojlaaLWr
import Derived.Test.YtbadkfocfgojlaaLRd
namespace Go.Proofs.Ytbadkfocfgojlaa
open Go.RowKit
set_option linter.unusedVariables false
set_option linter.unusedSimpArgs false

theorem Wr.but {w w' : World} {B g gr : Nat} {l : List Int} {a : Option Addr} {c n : Nat} {p : Int} {st : Bool} (h : Wr w B g l) (hR : CdAt w gr a c n p st) (hb : But gr w w') : Wr w' B g l := by
  obtain ⟨v, hg, ho, hB⟩ := h
  have hne : g ≠ gr := by
    rintro rfl
    unfold CdAt at hR
    rw [hg] at hR
    simp at hR
  have hno : v.ownBlock ≠ some gr := by
    rcases ho.2 with ⟨rfl, _⟩ | ⟨g', cap, cur, rfl, _, hgg, _⟩
    · simp [Value.ownBlock]
    · simp only [Value.ownBlock]
      intro e
      injection e with e
      subst e
      unfold CdAt at hR
      rw [hgg] at hR
      simp at hR
  exact ⟨v, (hb.block g (Array.getElem?_eq_some_iff.1 hg).1 (fun e => hne (by injection e))).trans hg, World.ownsRow.kept ho hb (.inr hno), hB⟩
theorem chain3 : chainL (foldZ 3) = [6] := by
  rw [show foldZ 3 = 6 by decide, chain_lt (by decide)]
def ab61 : List Int := [97, 98, 6, 1]
theorem ab_mark : markR ab61 0 false ⟨#[97, 98]⟩ = (2, false) := by decide +kernel
theorem ab_int : intR ab61 2 false = (3, 3, false) := by
  have h : getR (ab61.drop 2) 0 0 = some (6, 1) := by decide +kernel
  rw [intR_some ab61 2 6 1 h]
  decide
theorem ab_bool : boolR ab61 3 false = (1, 4, false) := by decide +kernel
theorem ab_byt : Byt ab61 := by unfold Byt ab61; decide
theorem ab_str : strOf ab61 = ⟨#[97, 98, 6, 1]⟩ := by rfl
theorem awake_any (w : World) : Calls Try.prog 8 #[] w fun e w' => e = .returned (.bool true) ∧ Below w.heap.size w w' := by
  have W0 := wr_new w
  have b0 := bel1 w (.cells #[.slice none 0 0] 53)
  have hB := Nat.le_refl w.heap.size
  go_enter Try.func8, Try.ntmps8
  go_wp2_with fail
  generalize w.alloc (.cells #[.slice none 0 0] 53) = x0 at W0 b0 ⊢
  refine (wmark_any _ _ [] ⟨#[97, 98]⟩ (by decide) x0 W0).mono ?_
  rintro e x1 ⟨rfl, W1, b1⟩
  replace b1 := b0.trans b1
  clear W0 b0
  go_wp2_with fail
  refine (wint_any _ _ _ 3 (by decide) (by decide) (by decide) x1 W1).mono ?_
  rw [chain3]
  rintro e x2 ⟨rfl, W2, b2⟩
  replace b2 := b1.trans b2
  clear W1 b1
  go_wp2_with fail
  refine (wbool_any _ _ _ true (by decide) x2 W2).mono ?_
  rintro e x3 ⟨rfl, W3, b3⟩
  replace b3 := b2.trans b3
  clear W2 b2
  replace W3 : Wr x3 w.heap.size w.heap.size ab61 := W3
  go_wp2_with fail
  refine (bytes_any _ _ ab61 (by decide) x3 W3).mono ?_
  rintro e x4 ⟨v4, rfl, o4, b4⟩
  have W4 := W3.old b4
  replace b4 := bstep b3 b4 b3.size
  clear W3 b3
  obtain ⟨a4, c4, rfl, r4⟩ := own_row o4
  clear o4
  go_wp2_with fail
  refine (open_any a4 c4 ab61.length x4).mono ?_
  rintro e x5 ⟨rfl, R5, b5⟩
  have W5 := W4.old b5
  have r5 := r4.carry b5
  replace b5 := bstep b4 b5 b4.size
  have hgr := b4.size
  generalize x4.heap.size = gr at *
  clear W4 b4 r4
  go_wp2_with fail
  refine (mark_any gr a4 c4 ab61 0 false ⟨#[97, 98]⟩ (by decide) (by decide) (by decide) ab_byt x5 R5 r5).mono ?_
  rw [ab_mark]
  rintro e x6 ⟨rfl, R6, B6⟩
  have W6 := W5.but R5 B6
  have r6 := r5.cbut R5 B6
  have b6 := b5.trans (B6.below hgr b5.size)
  clear W5 R5 r5 B6 b5
  go_wp2_with fail
  refine (int_any gr a4 c4 ab61 2 false (by decide) (by decide) ab_byt x6 R6 r6).mono ?_
  rw [ab_int]
  rintro e x7 ⟨rfl, R7, B7⟩
  have W7 := W6.but R6 B7
  have r7 := r6.cbut R6 B7
  have b7 := b6.trans (B7.below hgr b6.size)
  clear W6 R6 r6 B7 b6
  go_wp2_with fail
  refine (bytes_any _ _ ab61 (by decide) x7 W7).mono ?_
  rintro e x8 ⟨v8, rfl, o8, b8⟩
  have R8 := R7.old b8
  have r8 := r7.carry b8
  obtain ⟨a8, c8, rfl, s8⟩ := own_row o8
  have hcv := conv_row x8 a8 c8 ab61 s8 ab_byt
  rw [ab_str] at hcv
  replace b8 := bstep b7 b8 b7.size
  clear W7 R7 r7 b7 o8 s8
  have cb := bool_any gr a4 c4 ab61 3 false (by decide) (by decide) ab_byt x8 R8 r8
  rw [ab_bool] at cb
  replace cb : Calls Try.prog 27 #[.pointer (some ⟨gr, 0, none⟩)] x8 fun e w' => e = .returned (.bool true) ∧ CdAt w' gr a4 c4 ab61.length (4 : Nat) false ∧ But gr x8 w' := cb
  have ce := fun x hx => end_any gr a4 c4 ab61.length 4 false (by decide) (by decide) x hx
  rw [show endR false 4 ab61.length = 0 from rfl] at ce
  have ct := fun x hx => at_any gr a4 c4 ab61.length (4 : Nat) false x hx
  go_wp2_with (first
    | (go_at_call 27; refine cb.mono ?_; rintro e x9 ⟨rfl, R9, B9⟩)
    | (go_at_call 18; refine (ce _ R9).mono ?_; rintro e y ⟨rfl, by10⟩)
    | (go_at_call 17; refine (ct _ (R9.old by10)).mono ?_; rintro e y2 ⟨rfl, rfl⟩))
  go_ret
  exact ⟨rfl, bstep (b8.trans (B9.below hgr b8.size)) by10 (Nat.le_trans b8.size B9.size)⟩
end Go.Proofs.Ytbadkfocfgojlaa
