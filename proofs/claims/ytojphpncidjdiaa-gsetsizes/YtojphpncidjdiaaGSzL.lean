/- The walk of the law GsetSizes. -/
import Derived.Test.YtojphpncidjdiaaGAw
import Derived.Test.YtojphpncidjdiaaGRszA
import Derived.Test.YtojphpncidjdiaaSRef
import Derived.Test.YtojphpncidjdiaaDetV
import Derived.Test.YtojphpncidjdiaaGArr
namespace Go.Proofs.Ytojphpncidjdiaa
open Go.RowKit
set_option maxRecDepth 20000
set_option linter.unusedVariables false
set_option linter.unusedSimpArgs false

theorem sizesG_len (s : S5) (l : List T6) : (sizesG s l).length ≤ l.length := by
  unfold sizesG
  cases okG s l
  · simp
  · simp [uptoS]
theorem sizes9_long (s : S5) (ad : Option Addr) (n cap : Nat) (w : World) (h : 40 < n) (h' : n ≤ 9223372036854775807) :
    Calls Try.prog 5 #[stg s, .slice ad n cap] w fun e w' => e = .returned (.bool true) ∧ Below w.heap.size w w' := by
  unfold stg
  go_enter Try.func5, Try.ntmps5
  go_wp2_with (with_reducible refine (awake9 _).mono ?_; rintro e w1 ⟨rfl, b1⟩)
  go_ret
  exact ⟨rfl, tstep (tbel1 w _) b1 (by simp)⟩
set_option maxHeartbeats 2000000 in
theorem sizes9 (s : S5) (a : Option Addr) (cap : Nat) (l : List T6) (w : World) (hn : l.length ≤ 40) (hr : GRow w.heap.size w a l) :
    Calls Try.prog 5 #[stg s, .slice a l.length cap] w fun e w' => e = .returned (.bool true) ∧ Below w.heap.size w w' := by
  have B := blk_new w #[.int .i64 s.how, .int .i64 s.ord, .int .i64 s.bye, .int .i64 s.off, .int .i64 s.left] 28
  have b0 := tbel1 w (.cells #[.int .i64 s.how, .int .i64 s.ord, .int .i64 s.bye, .int .i64 s.off, .int .i64 s.left] 28)
  have c15 := fun x (hx : Below w.heap.size w x) => sizes_any s a cap l x (by omega) ((hr.carry hx (Nat.le_refl _)).mono hx.size)
  have c16 := fun x (hx : Below w.heap.size w x) => rsizes_any s a cap l x (by omega) ((hr.carry hx (Nat.le_refl _)).mono hx.size)
  have hL := sizesG_len s l
  generalize sizesG s l = L at c15 c16 hL
  unfold stg at c15 c16 ⊢
  clear hr
  go_enter Try.func5, Try.ntmps5
  go_wp2_with fail
  generalize w.alloc _ = W at *
  have CE := Lib.hid fun x (hx : Old W x) => (B.old hx).five
  (refine wp_region_plan 10 [(0, true), (1, true), (3, true), (4, true), (2, false), (5, false), (6, true), (7, true), (8, true), (9, true)] (by kernel_rfl) (by kernel_rfl) ?_; simp only [pick, List.getElem?_cons_succ, List.getElem?_cons_zero, List.drop_succ_cons, List.drop_zero])
  repeat (first | (apply TextV.sees (hw := by kernel_rfl); (focus (intro x hx K hK; have hc := CE.out x hx; go_simp; exact hK)); simp only [Act.put, List.getElem_toArray, List.getElem_cons_succ, List.getElem_cons_zero, List.setIfInBounds_toArray, List.set_cons_zero, List.set_cons_succ]) | (apply TextV.idle; (focus (intro x hx K hK; go_simp; exact hK)); simp only [Act.put, List.getElem_toArray, List.getElem_cons_succ, List.getElem_cons_zero, List.setIfInBounds_toArray, List.set_cons_zero, List.set_cons_succ]))
  (refine TextV.loud (V := fun v y => ∃ va vc, v = .slice va L.length vc ∧ IRow y.heap.size y va L) (fun x hx => (c15 x (tstep b0 hx b0.size)).mono fun e y ⟨v, he, ho, hb⟩ => ⟨v, he, by obtain ⟨va, vc, e1, _, _, h5⟩ := ho.row; exact ⟨va, vc, e1, h5⟩, hb⟩) (by kernel_rfl) (fun _ => by kernel_rfl) (fun v y hv hy => ?_); simp only [Act.put, List.getElem_toArray, List.getElem_cons_succ, List.getElem_cons_zero, List.setIfInBounds_toArray, List.set_cons_zero, List.set_cons_succ])
  obtain ⟨va, vc, rfl, hrow⟩ := hv
  (refine TextV.loud (V := fun v y => ∃ va vc, v = .slice va L.length vc ∧ IRow y.heap.size y va L) (fun x hx => (c16 x (tstep b0 (hy.old hx) b0.size)).mono fun e y ⟨v, he, ho, hb⟩ => ⟨v, he, by obtain ⟨va, vc, e1, _, _, h5⟩ := ho.row; exact ⟨va, vc, e1, h5⟩, hb⟩) (by kernel_rfl) (fun _ => by kernel_rfl) (fun v2 y2 hv2 hy2 => ?_); simp only [Act.put, List.getElem_toArray, List.getElem_cons_succ, List.getElem_cons_zero, List.setIfInBounds_toArray, List.set_cons_zero, List.set_cons_succ])
  obtain ⟨vb, vd, rfl, hrow2⟩ := hv2
  have CF := Lib.hid (show ∀ x, Old y2 x → True from fun _ _ => trivial)
  have c14 := fun x (hx : Old y2 x) => ssame_any va vb vc vd L L x (by omega) (by omega) ((hrow.carry (hy2.old hx) (Nat.le_refl _)).mono (hy2.old hx).size) ((hrow2.carry hx (Nat.le_refl _)).mono hx.size)
  simp only [decide_true] at c14
  (refine TextV.call (fun x hx => c14 x hx) (by kernel_rfl) (fun _ => by kernel_rfl) ?_; simp only [Act.put, List.getElem_toArray, List.getElem_cons_succ, List.getElem_cons_zero, List.setIfInBounds_toArray, List.set_cons_zero, List.set_cons_succ])
  repeat (first | (apply TextV.sees (hw := by kernel_rfl); (focus (intro x hx K hK; have hc := CF.out x hx; go_simp; exact hK)); simp only [Act.put, List.getElem_toArray, List.getElem_cons_succ, List.getElem_cons_zero, List.setIfInBounds_toArray, List.set_cons_zero, List.set_cons_succ]) | (apply TextV.idle; (focus (intro x hx K hK; go_simp; exact hK)); simp only [Act.put, List.getElem_toArray, List.getElem_cons_succ, List.getElem_cons_zero, List.setIfInBounds_toArray, List.set_cons_zero, List.set_cons_succ]))
  (refine TextV.call (fun x hx => awake9 x) (by kernel_rfl) (fun _ => by kernel_rfl) ?_; simp only [Act.put, List.getElem_toArray, List.getElem_cons_succ, List.getElem_cons_zero, List.setIfInBounds_toArray, List.set_cons_zero, List.set_cons_succ])
  repeat (first | (apply TextV.sees (hw := by kernel_rfl); (focus (intro x hx K hK; have hc := CF.out x hx; go_simp; exact hK)); simp only [Act.put, List.getElem_toArray, List.getElem_cons_succ, List.getElem_cons_zero, List.setIfInBounds_toArray, List.set_cons_zero, List.set_cons_succ]) | (apply TextV.idle; (focus (intro x hx K hK; go_simp; exact hK)); simp only [Act.put, List.getElem_toArray, List.getElem_cons_succ, List.getElem_cons_zero, List.setIfInBounds_toArray, List.set_cons_zero, List.set_cons_succ]))
  intro x hx
  have hx' := tstep b0 (hy.old (hy2.old hx)) b0.size
  clear hx hy hy2 hrow hrow2 c14 c15 c16 CE CF b0 B
  go_wp2
  go_ret
  exact ⟨rfl, hx'⟩
theorem gsetSizes_walk (a0 : Int) (h0 : (Lit.int .i64 a0).wf = true) (a1 : Int) (h1 : (Lit.int .i64 a1).wf = true) (a2 : Int) (h2 : (Lit.int .i64 a2).wf = true) (a3 : Int) (h3 : (Lit.int .i64 a3).wf = true) (a4 : Int) (h4 : (Lit.int .i64 a4).wf = true)
    (a : Option Addr) (len cap : Nat) (w : World) (h : IsFlat Try.prog [22, 22, 22, 22, 22, 22] w a len cap) :
    Calls Try.prog 5 #[.agg #[.int .i64 a0, .int .i64 a1, .int .i64 a2, .int .i64 a3, .int .i64 a4], .slice a len cap] w fun e w' => e = .returned (.bool true) ∧ Below w.heap.size w w' := by
  by_cases hn : len ≤ 40
  · obtain ⟨l, rfl, hr⟩ := h.grow
    exact sizes9 ⟨a0, a1, a2, a3, a4⟩ a cap l w hn hr
  · exact sizes9_long ⟨a0, a1, a2, a3, a4⟩ a len cap w (by omega) h.len_le
end Go.Proofs.Ytojphpncidjdiaa
