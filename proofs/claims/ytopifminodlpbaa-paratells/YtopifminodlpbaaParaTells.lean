/- The law ParaTells holds for every input: the call returns true, and each argument reads behind it as before. Conditions: none beyond the given row's. -/
import Derived.Test.YtopifminodlpbaaPTel
import Derived.Test.YtopifminodlpbaaFLeaf
import Derived.WalkKit
import Derived.ProofKit
import Derived.OpenShut
import Derived.ShutString
import Derived.ChangeOld
import Derived.Below
import Derived.Lib.SmallJoins
import Derived.Laws.IdiomArrays
namespace Go.Proofs.Ytopifminodlpbaa
open Go.ChangeShapes Go.WideShapes Go.ChangeAt Go.RowKit
open Go.ChangeMaps (open_string shut_string)
set_option linter.unusedVariables false

theorem paraTells_own : ownKnob Try.prog.godebug = none := by kernel_rfl
theorem paraTells_laid : laidOutB Try.prog = true := by kernel_rfl
theorem paraTells_arr19 (cs : Array Value) (h : cs.size = 19) : ∃ c0 c1 c2 c3 c4 c5 c6 c7 c8 c9 c10 c11 c12 c13 c14 c15 c16 c17 c18, cs = #[c0, c1, c2, c3, c4, c5, c6, c7, c8, c9, c10, c11, c12, c13, c14, c15, c16, c17, c18] := by
  obtain ⟨l⟩ := cs
  match l, h with
  | [c0, c1, c2, c3, c4, c5, c6, c7, c8, c9, c10, c11, c12, c13, c14, c15, c16, c17, c18], _ => exact ⟨c0, c1, c2, c3, c4, c5, c6, c7, c8, c9, c10, c11, c12, c13, c14, c15, c16, c17, c18, rfl⟩
set_option maxRecDepth 100000 in
theorem paraTells_lifted (os : Os) (started : os.Started) (H : Type) (enc : TypeId × Value → H) :
    ReturnsInHanded {} Try.checked os 3 .any (Rows.paraTellsSpec.pre6 enc Try.prog Try.f3 Rows.paraTellsRow.domain false) (Rows.paraTellsSpec.post enc Try.prog Try.f3 false true false false) := by
  refine returnsInHanded_of_change (C := Try.checked) paraTells_own started (by kernel_rfl) Try.func3
    (ChangeSpec.witness6 (enc := enc) (C := Try.checked) false ⟨#[], #[.agg #[.int .i64 0, .int .i64 0, .int .i64 0, .int .i64 0, .int .i64 0, .int .i64 0, .int .i64 0, .int .i64 0, .int .i64 0, .int .i64 0, .int .i64 0, .int .i64 0, .int .i64 0, .int .i64 0, .int .i64 0, .int .i64 0, .int .i64 0, .int .i64 0, .bool false], .slice none 0 0, .int .i64 0], []⟩ 8 (by kernel_rfl) (by kernel_rfl) (by kernel_rfl) (by kernel_rfl)) ?_
  intro W base args ds gs before hval0 hW hcnd _
  have hval : ∀ (j : Nat) t v, Try.f3.params[j]? = some t → args[j]? = some v → Value.okWide Try.prog W .any base t v := hval0
  have hW' := hW
  obtain ⟨p, q, hA0, hV, rfl, hfz, hnd⟩ := hW
  have hA : DataW.TrodAll enc Try.prog W 0 (fun _ => true) true Try.f3.params.toList args.toList ds p := hA0
  rw [Try.params3] at hA hval
  obtain ⟨v0, vs0, d0, ds0, p0, q0, hargs, rfl, rfl, h0, r0⟩ := trodAll_cons hA
  obtain ⟨v1, vs1, d1, ds1, p1, q1, rfl, rfl, rfl, h1, r1⟩ := trodAll_cons r0
  obtain ⟨v2, vs2, d2, ds2, p2, q2, rfl, rfl, rfl, h2, r2⟩ := trodAll_cons r1
  obtain ⟨rfl, rfl, rfl⟩ := trodAll_nil r2
  obtain rfl : args = #[v0, v1, v2] := by cases args; simp_all
  obtain ⟨rfl, rfl⟩ := trodVars_none hV
  have k0 := h0
  have lt0 : ∀ x ∈ p0, x.block < W.heap.size := by obtain ⟨m, hm⟩ := k0; exact DataW.trod_lt m _ _ _ hm
  obtain ⟨cs0, rfl, hsz0⟩ : ∃ cs : Array Value, v0 = .agg cs ∧ cs.size = 19 := by
    have ho := hval 0 24 v0 rfl rfl
    simp only [Value.okWide, Try.underlying24] at ho
    obtain ⟨cs, h1, h2, _⟩ := ho
    exact ⟨cs, h1, h2.trans (show Try.prog.cellsOf 24 = 19 by kernel_rfl)⟩
  obtain ⟨c0_0, c0_1, c0_2, c0_3, c0_4, c0_5, c0_6, c0_7, c0_8, c0_9, c0_10, c0_11, c0_12, c0_13, c0_14, c0_15, c0_16, c0_17, c0_18, rfl⟩ := paraTells_arr19 cs0 hsz0
  have L0 := leaves_agg (f := 9) (ts := [3, 22, 22, 22, 22, 22, 22, 22, 22, 22, 22, 3, 3, 3, 3, 3, 3, 3, 4]) (r := .any) (b0 := base) (by kernel_rfl) (by kernel_rfl) h0
  obtain ⟨a0_0, rfl, w0_0⟩ := L0.int 0 rfl Try.underlying3 rfl
  obtain ⟨a0_1, rfl, w0_1⟩ := L0.int 1 rfl Try.underlying22 rfl
  obtain ⟨a0_2, rfl, w0_2⟩ := L0.int 2 rfl Try.underlying22 rfl
  obtain ⟨a0_3, rfl, w0_3⟩ := L0.int 3 rfl Try.underlying22 rfl
  obtain ⟨a0_4, rfl, w0_4⟩ := L0.int 4 rfl Try.underlying22 rfl
  obtain ⟨a0_5, rfl, w0_5⟩ := L0.int 5 rfl Try.underlying22 rfl
  obtain ⟨a0_6, rfl, w0_6⟩ := L0.int 6 rfl Try.underlying22 rfl
  obtain ⟨a0_7, rfl, w0_7⟩ := L0.int 7 rfl Try.underlying22 rfl
  obtain ⟨a0_8, rfl, w0_8⟩ := L0.int 8 rfl Try.underlying22 rfl
  obtain ⟨a0_9, rfl, w0_9⟩ := L0.int 9 rfl Try.underlying22 rfl
  obtain ⟨a0_10, rfl, w0_10⟩ := L0.int 10 rfl Try.underlying22 rfl
  obtain ⟨a0_11, rfl, w0_11⟩ := L0.int 11 rfl Try.underlying3 rfl
  obtain ⟨a0_12, rfl, w0_12⟩ := L0.int 12 rfl Try.underlying3 rfl
  obtain ⟨a0_13, rfl, w0_13⟩ := L0.int 13 rfl Try.underlying3 rfl
  obtain ⟨a0_14, rfl, w0_14⟩ := L0.int 14 rfl Try.underlying3 rfl
  obtain ⟨a0_15, rfl, w0_15⟩ := L0.int 15 rfl Try.underlying3 rfl
  obtain ⟨a0_16, rfl, w0_16⟩ := L0.int 16 rfl Try.underlying3 rfl
  obtain ⟨a0_17, rfl, w0_17⟩ := L0.int 17 rfl Try.underlying3 rfl
  obtain ⟨a0_18, rfl⟩ := L0.bool 18 rfl Try.underlying4 rfl
  obtain ⟨a1, len1, cap1, rfl⟩ := okWide_slice Try.underlying25 (hval 1 25 v1 rfl rfl)
  have k1 := h1
  have lt1 : ∀ x ∈ p1, x.block < W.heap.size := by obtain ⟨m, hm⟩ := k1; exact DataW.trod_lt m _ _ _ hm
  have w1 : IsFlat Try.prog [3, 22, 3, 22, 3, 22, 3] W a1 len1 cap1 := by
    obtain ⟨fuel, hf⟩ := h1
    exact flat_of (f := 9) Try.underlying25 (by kernel_rfl) hf
  obtain ⟨a2, rfl, rfl, rfl, w2⟩ := open_int Try.underlying3 (hval 2 3 v2 rfl rfl) h2
  clear hA0 hval0
  refine (paraTells_walk a0_0 w0_0 a0_1 w0_1 a0_2 w0_2 a0_3 w0_3 a0_4 w0_4 a0_5 w0_5 a0_6 w0_6 a0_7 w0_7 a0_8 w0_8 a0_9 w0_9 a0_10 w0_10 a0_11 w0_11 a0_12 w0_12 a0_13 w0_13 a0_14 w0_14 a0_15 w0_15 a0_16 w0_16 a0_17 w0_17 a0_18 a1 len1 cap1 a2 w2 W w1).mono fun e W' ⟨he, bel⟩ => ?_
  subst he
  exact ⟨_, rfl, _, _, _, [], _, [], hW', trodAll_mk1 (shut_bool Try.underlying4 _), (trodAll_cons_mk (Below.trod paraTells_laid (by kernel_rfl) (of_decide_eq_true (by kernel_rfl)) k0 bel lt0) (trodAll_cons_mk (Below.trod paraTells_laid (by kernel_rfl) (of_decide_eq_true (by kernel_rfl)) k1 bel lt1) (trodAll_cons_mk (shut_int Try.underlying3 w2) trodAll_mk0))), rfl, bel.frame _, fun h => by cases h⟩

theorem paraTells_holds : Rows.ParaTellsSaid :=
  OpenClaim.holds_of_wide 3 Try.f3 rfl rfl rfl rfl rfl rfl rfl ⟨rfl, rfl, rfl, rfl, rfl⟩ rfl rfl rfl rfl rfl (by kernel_rfl) Try.func3 (by kernel_rfl)
    (of_decide_eq_true (by kernel_rfl)) (by unfold Func.isWrapper; first | (rw [if_pos (by decide +kernel)]; kernel_rfl) | (rw [if_neg (by decide +kernel)]; exact ⟨rfl, rfl⟩))
    (fun os started H enc _ => paraTells_lifted os started H enc)
#print axioms paraTells_holds
end Go.Proofs.Ytopifminodlpbaa
