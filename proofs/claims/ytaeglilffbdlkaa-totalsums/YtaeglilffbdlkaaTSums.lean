/- The walk of TotalSums. -/
import Derived.Test.YtaeglilffbdlkaaTSum
import Derived.ProofKit
import Derived.OpenShut
namespace Go.Proofs.Ytaeglilffbdlkaa
open Go.RowKit
set_option linter.unusedVariables false
set_option linter.unusedSimpArgs false

theorem wfR' {a : Int} (h : (Lit.int .i64 a).wf = true) : inR a := by
  simp [Lit.wf, IntKind.min, IntKind.max, IntKind.signed, IntKind.bits] at h
  exact h
theorem IsFlat.trow {w : World} {a : Option Addr} {len cap : Nat} (h : IsFlat Try.prog [22, 22, 22, 22, 22, 22] w a len cap) : ∃ l : List T6, l.length = len ∧ TRow w a l := by
  rcases h with ⟨rfl, rfl, _⟩ | ⟨ad, rfl, hl, hm, hall⟩
  · exact ⟨[], rfl, fun k hk => absurd hk (by simp)⟩
  · by_cases hz : len = 0
    · subst hz
      exact ⟨[], rfl, fun k hk => absurd hk (by simp)⟩
    obtain ⟨b, off, spot⟩ := ad
    have hs : spot = none := by
      obtain ⟨cs, hlen, hc, _⟩ := hall 0 (by omega)
      match cs, hlen with
      | [c0, c1, c2, c3, c4, c5], _ =>
        have g0 := hc 0 _ rfl
        simpa [Addr.add] using World.cell?_spot g0
    subst hs
    have each : ∀ i, ∃ t : T6, i < len → inT t ∧ ∃ b' off', some (⟨b, off, none⟩ : Addr) = some ⟨b', off', none⟩ ∧ b' < w.heap.size ∧ w.cell? ⟨b', off' + i * 6, none⟩ = some (.int .i64 t.n) ∧ w.cell? ⟨b', off' + i * 6 + 1, none⟩ = some (.int .i64 t.s0) ∧ w.cell? ⟨b', off' + i * 6 + 2, none⟩ = some (.int .i64 t.s1) ∧ w.cell? ⟨b', off' + i * 6 + 3, none⟩ = some (.int .i64 t.s2) ∧ w.cell? ⟨b', off' + i * 6 + 4, none⟩ = some (.int .i64 t.s3) ∧ w.cell? ⟨b', off' + i * 6 + 5, none⟩ = some (.int .i64 t.h) := by
      intro i
      by_cases hi : i < len
      · obtain ⟨cs, hlen, hc, hk⟩ := hall i hi
        match cs, hlen with
        | [c0, c1, c2, c3, c4, c5], _ =>
          obtain ⟨z0, rfl, w0⟩ := (hk 0 22 c0 rfl rfl).1 .i64 Try.underlying22
          obtain ⟨z1, rfl, w1⟩ := (hk 1 22 c1 rfl rfl).1 .i64 Try.underlying22
          obtain ⟨z2, rfl, w2⟩ := (hk 2 22 c2 rfl rfl).1 .i64 Try.underlying22
          obtain ⟨z3, rfl, w3⟩ := (hk 3 22 c3 rfl rfl).1 .i64 Try.underlying22
          obtain ⟨z4, rfl, w4⟩ := (hk 4 22 c4 rfl rfl).1 .i64 Try.underlying22
          obtain ⟨z5, rfl, w5⟩ := (hk 5 22 c5 rfl rfl).1 .i64 Try.underlying22
          have g0 := hc 0 _ rfl
          have g1 := hc 1 _ rfl
          have g2 := hc 2 _ rfl
          have g3 := hc 3 _ rfl
          have g4 := hc 4 _ rfl
          have g5 := hc 5 _ rfl
          simp only [Go.WideShapes.add_plain, List.length_cons, List.length_nil, Nat.add_zero, ← Nat.add_assoc] at g0 g1 g2 g3 g4 g5
          exact ⟨⟨z0, z1, z2, z3, z4, z5⟩, fun _ => ⟨⟨wfR' w0, wfR' w1, wfR' w2, wfR' w3, wfR' w4, wfR' w5⟩, b, off, rfl, World.block_lt_of_cell? _ _ g0, g0, g1, g2, g3, g4, g5⟩⟩
      · exact ⟨zeroT, fun h => absurd h hi⟩
    obtain ⟨f, hf⟩ := Classical.axiomOfChoice each
    refine ⟨(List.range len).map f, by simp, fun k hk => ?_⟩
    have hk' : k < len := by simpa using hk
    have eg : ((List.range len).map f).getD k zeroT = f k := by simp [hk']
    rw [eg]
    exact hf k hk'
theorem sums_long (ad : Option Addr) (n cap : Nat) (w : World) (h : 60 < n) (h' : n ≤ 9223372036854775807) :
    Calls Try.prog 4 #[.slice ad n cap] w fun e w' => e = .returned (.bool true) ∧ Below w.heap.size w w' := by
  go_enter Try.func4, Try.ntmps4
  go_wp2_with fail
  refine (awake7 _).mono ?_
  rintro e w4 ⟨rfl, b4⟩
  go_wp2
  go_ret
  exact ⟨rfl, b4⟩
set_option maxHeartbeats 2000000 in
theorem sums7 (ad : Option Addr) (n cap : Nat) (s0 s1 s2 s3 s4 s5 : Int) (f : Bool) (w : World) (hn : n ≤ 60)
    (c19 : ∀ x, Below w.heap.size w x → Calls Try.prog 19 #[.slice ad n cap] x fun e w' => e = .returned (.tuple #[.agg #[.int .i64 s0, .int .i64 s1, .int .i64 s2, .int .i64 s3, .int .i64 s4, .int .i64 s5], .bool f]) ∧ Below x.heap.size x w')
    (c20 : ∀ x, Below w.heap.size w x → Calls Try.prog 20 #[.slice ad n cap] x fun e w' => e = .returned (.agg #[.int .i64 s0, .int .i64 s1, .int .i64 s2, .int .i64 s3, .int .i64 s4, .int .i64 s5, .bool f]) ∧ Below x.heap.size x w') :
    Calls Try.prog 4 #[.slice ad n cap] w fun e w' => e = .returned (.bool true) ∧ Below w.heap.size w w' := by
  have C20 := Lib.hid c20
  clear c20
  go_enter Try.func4, Try.ntmps4
  go_wp2_with fail
  refine (c19 _ (Below.refl _ _)).mono ?_
  rintro e x ⟨rfl, hx⟩
  clear c19
  go_upto_region 4 with (fail)
  have Bs := blk_new x #[.int .i64 s0, .int .i64 s1, .int .i64 s2, .int .i64 s3, .int .i64 s4, .int .i64 s5] 25
  have hW := hx.alloc hx.size (.cells #[.int .i64 s0, .int .i64 s1, .int .i64 s2, .int .i64 s3, .int .i64 s4, .int .i64 s5] 25)
  generalize x.heap.size = gs at Bs ⊢
  generalize x.alloc _ = W at Bs hW ⊢
  clear hx
  clear x
  have CE := Lib.hid fun x (hx : Old W x) => (Bs.old hx).six
  clear Bs
  (refine wp_region_text (Old W) 9 (by kernel_rfl) (by kernel_rfl) (Below.refl _ W).drew ?_; simp only [List.take_succ_cons, List.take_zero, List.drop_succ_cons, List.drop_zero])
  repeat (first | (apply Text.sees (hw := by kernel_rfl); (focus (intro x hx K hK; have hc := CE.out x hx; go_simp; exact hK)); simp only [Act.put, List.getElem_toArray, List.getElem_cons_succ, List.getElem_cons_zero, List.setIfInBounds_toArray, List.set_cons_zero, List.set_cons_succ]) | (apply Text.idle; (focus (intro x hx K hK; go_simp; exact hK)); simp only [Act.put, List.getElem_toArray, List.getElem_cons_succ, List.getElem_cons_zero, List.setIfInBounds_toArray, List.set_cons_zero, List.set_cons_succ]))
  (refine Text.call (Old.call fun x hx => C20.out x (tstep hW hx hW.size)) (by kernel_rfl) (fun _ => by kernel_rfl) ?_; simp only [Act.put, List.getElem_toArray, List.getElem_cons_succ, List.getElem_cons_zero, List.setIfInBounds_toArray, List.set_cons_zero, List.set_cons_succ])
  repeat (first | (apply Text.sees (hw := by kernel_rfl); (focus (intro x hx K hK; have hc := CE.out x hx; go_simp; exact hK)); simp only [Act.put, List.getElem_toArray, List.getElem_cons_succ, List.getElem_cons_zero, List.setIfInBounds_toArray, List.set_cons_zero, List.set_cons_succ]) | (apply Text.idle; (focus (intro x hx K hK; go_simp; exact hK)); simp only [Act.put, List.getElem_toArray, List.getElem_cons_succ, List.getElem_cons_zero, List.setIfInBounds_toArray, List.set_cons_zero, List.set_cons_succ]))
  (refine Text.call (Old.call fun x _ => awake7 x) (by kernel_rfl) (fun _ => by kernel_rfl) ?_; simp only [Act.put, List.getElem_toArray, List.getElem_cons_succ, List.getElem_cons_zero, List.setIfInBounds_toArray, List.set_cons_zero, List.set_cons_succ])
  repeat (first | (apply Text.sees (hw := by kernel_rfl); (focus (intro x hx K hK; have hc := CE.out x hx; go_simp; exact hK)); simp only [Act.put, List.getElem_toArray, List.getElem_cons_succ, List.getElem_cons_zero, List.setIfInBounds_toArray, List.set_cons_zero, List.set_cons_succ]) | (apply Text.idle; (focus (intro x hx K hK; go_simp; exact hK)); simp only [Act.put, List.getElem_toArray, List.getElem_cons_succ, List.getElem_cons_zero, List.setIfInBounds_toArray, List.set_cons_zero, List.set_cons_succ]))
  intro x hx
  have hx' := tstep hW hx hW.size
  clear hx hW CE C20
  go_wp2
  go_ret
  exact ⟨rfl, hx'⟩
theorem totalSums_walk (a : Option Addr) (len cap : Nat) (w : World) (h : IsFlat Try.prog [22, 22, 22, 22, 22, 22] w a len cap) :
    Calls Try.prog 4 #[.slice a len cap] w fun e w' => e = .returned (.bool true) ∧ Below w.heap.size w w' := by
  by_cases hn : len ≤ 60
  · obtain ⟨l, rfl, hr⟩ := h.trow
    exact sums7 a l.length cap _ _ _ _ _ _ _ w hn (fun x hx => sum_walk a cap l x hn (hr.carry hx)) (fun x hx => rsum_walk a cap l x hn (hr.carry hx))
  · refine sums_long a len cap w (by omega) ?_
    rcases h with ⟨_, rfl, _⟩ | ⟨_, _, h1, h2, _⟩
    · omega
    · unfold maxLen at h2; omega
end Go.Proofs.Ytaeglilffbdlkaa
