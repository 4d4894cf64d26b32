/- The law NotePieces holds for every input: the call returns true, and each argument reads behind it as before. Conditions: none beyond the given row's. -/
import Derived.Test.YtimpphkikihhaaaNPd
import Derived.Test.YtimpphkikihhaaaFMix
import Derived.WalkKit
import Derived.ProofKit
import Derived.OpenShut
import Derived.ShutString
import Derived.ChangeOld
import Derived.Below
import Derived.Lib.SmallJoins
import Derived.Laws.IdiomArrays
namespace Go.Proofs.Ytimpphkikihhaaa
open Go.ChangeShapes Go.WideShapes Go.ChangeAt Go.RowKit
open Go.ChangeMaps (open_string shut_string)
set_option linter.unusedVariables false

theorem notePieces_own : ownKnob Try.prog.godebug = none := by kernel_rfl
theorem notePieces_laid : laidOutB Try.prog = true := by kernel_rfl
theorem notePieces_arr2 (cs : Array Value) (h : cs.size = 2) : ∃ c0 c1, cs = #[c0, c1] := by
  obtain ⟨l⟩ := cs
  match l, h with
  | [c0, c1], _ => exact ⟨c0, c1, rfl⟩
set_option maxRecDepth 100000 in
theorem notePieces_lifted (os : Os) (started : os.Started) (H : Type) (enc : TypeId × Value → H) :
    ReturnsInHanded {} Try.checked os 5 .any (Rows.notePiecesSpec.pre6 enc Try.prog Try.f5 Rows.notePiecesRow.domain false) (Rows.notePiecesSpec.post enc Try.prog Try.f5 false true false false) := by
  refine returnsInHanded_of_change (C := Try.checked) notePieces_own started (by kernel_rfl) Try.func5
    (ChangeSpec.witness6 (enc := enc) (C := Try.checked) false ⟨#[], #[.agg #[.slice none 0 0, .slice none 0 0], .agg #[.slice none 0 0, .slice none 0 0]], []⟩ 8 (by kernel_rfl) (by kernel_rfl) (by kernel_rfl) (by kernel_rfl)) ?_
  intro W base args ds gs before hval0 hW hcnd _
  have hval : ∀ (j : Nat) t v, Try.f5.params[j]? = some t → args[j]? = some v → Value.okWide Try.prog W .any base t v := hval0
  have hW' := hW
  obtain ⟨p, q, hA0, hV, rfl, hfz, hnd⟩ := hW
  have hA : DataW.TrodAll enc Try.prog W 0 (fun _ => true) true Try.f5.params.toList args.toList ds p := hA0
  rw [Try.params5] at hA hval
  obtain ⟨v0, vs0, d0, ds0, p0, q0, hargs, rfl, rfl, h0, r0⟩ := trodAll_cons hA
  obtain ⟨v1, vs1, d1, ds1, p1, q1, rfl, rfl, rfl, h1, r1⟩ := trodAll_cons r0
  obtain ⟨rfl, rfl, rfl⟩ := trodAll_nil r1
  obtain rfl : args = #[v0, v1] := by cases args; simp_all
  obtain ⟨rfl, rfl⟩ := trodVars_none hV
  have k0 := h0
  have lt0 : ∀ x ∈ p0, x.block < W.heap.size := by obtain ⟨m, hm⟩ := k0; exact DataW.trod_lt m _ _ _ hm
  obtain ⟨cs0, rfl, hsz0⟩ : ∃ cs : Array Value, v0 = .agg cs ∧ cs.size = 2 := by
    have ho := hval 0 25 v0 rfl rfl
    simp only [Value.okWide, Try.underlying25] at ho
    obtain ⟨cs, h1, h2, _⟩ := ho
    exact ⟨cs, h1, h2.trans (show Try.prog.cellsOf 25 = 2 by kernel_rfl)⟩
  obtain ⟨c0_0, c0_1, rfl⟩ := notePieces_arr2 cs0 hsz0
  have L0 := leaves_agg (f := 9) (ts := [22, 23]) (r := .any) (b0 := base) (by kernel_rfl) (by kernel_rfl) h0
  obtain ⟨a0_0, len0_0, cap0_0, z0_0, rfl, w0_0⟩ := L0.ints 0 rfl Try.underlying22 Try.underlying34 (by kernel_rfl) rfl
  obtain ⟨a0_1, len0_1, cap0_1, z0_1, rfl, w0_1⟩ := L0.ints 1 rfl Try.underlying23 Try.underlying3 (by kernel_rfl) rfl
  have k1 := h1
  have lt1 : ∀ x ∈ p1, x.block < W.heap.size := by obtain ⟨m, hm⟩ := k1; exact DataW.trod_lt m _ _ _ hm
  obtain ⟨cs1, rfl, hsz1⟩ : ∃ cs : Array Value, v1 = .agg cs ∧ cs.size = 2 := by
    have ho := hval 1 25 v1 rfl rfl
    simp only [Value.okWide, Try.underlying25] at ho
    obtain ⟨cs, h1, h2, _⟩ := ho
    exact ⟨cs, h1, h2.trans (show Try.prog.cellsOf 25 = 2 by kernel_rfl)⟩
  obtain ⟨c1_0, c1_1, rfl⟩ := notePieces_arr2 cs1 hsz1
  have L1 := leaves_agg (f := 9) (ts := [22, 23]) (r := .any) (b0 := base) (by kernel_rfl) (by kernel_rfl) h1
  obtain ⟨a1_0, len1_0, cap1_0, z1_0, rfl, w1_0⟩ := L1.ints 0 rfl Try.underlying22 Try.underlying34 (by kernel_rfl) rfl
  obtain ⟨a1_1, len1_1, cap1_1, z1_1, rfl, w1_1⟩ := L1.ints 1 rfl Try.underlying23 Try.underlying3 (by kernel_rfl) rfl
  clear hA0 hval0
  refine (notePieces_walk a0_0 len0_0 cap0_0 z0_0 a0_1 len0_1 cap0_1 z0_1 a1_0 len1_0 cap1_0 z1_0 a1_1 len1_1 cap1_1 z1_1 W w0_0 w0_1 w1_0 w1_1).mono fun e W' ⟨he, bel⟩ => ?_
  subst he
  exact ⟨_, rfl, _, _, _, [], _, [], hW', trodAll_mk1 (shut_bool Try.underlying4 _), (trodAll_cons_mk (Below.trod notePieces_laid (by kernel_rfl) (of_decide_eq_true (by kernel_rfl)) k0 bel lt0) (trodAll_cons_mk (Below.trod notePieces_laid (by kernel_rfl) (of_decide_eq_true (by kernel_rfl)) k1 bel lt1) trodAll_mk0)), rfl, bel.frame _, fun h => by cases h⟩

theorem notePieces_holds : Rows.NotePiecesSaid :=
  OpenClaim.holds_of_wide 5 Try.f5 rfl rfl rfl rfl rfl rfl rfl ⟨rfl, rfl, rfl, rfl, rfl⟩ rfl rfl rfl rfl rfl (by kernel_rfl) Try.func5 (by kernel_rfl)
    (of_decide_eq_true (by kernel_rfl)) (by unfold Func.isWrapper; first | (rw [if_pos (by decide +kernel)]; kernel_rfl) | (rw [if_neg (by decide +kernel)]; exact ⟨rfl, rfl⟩))
    (fun os started H enc _ => notePieces_lifted os started H enc)
#print axioms notePieces_holds
end Go.Proofs.Ytimpphkikihhaaa
