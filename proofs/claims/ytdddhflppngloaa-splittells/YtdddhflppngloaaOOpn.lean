/- open of package split; slices.Clone of pieces. -/
import Derived.Test.YtdddhflppngloaaONxt
import Derived.Test.YtdddhflppngloaaJGrw
namespace Go.Proofs.Ytdddhflppngloaa
open Go.RowKit
set_option maxRecDepth 20000
set_option linter.unusedVariables false
set_option linter.unusedSimpArgs false

theorem infoPc : (Try.prog.info? 44).map (fun i => (i.zero, i.size, i.bytes)) = some (some (.agg #[.int .i64 0, .int .i64 0, .int .i64 0]), 3, 24) := by kernel_rfl
theorem pnil_no (ad : Addr) (n c : Nat) : ∀ w, Sem.run Try.prog (binOp BinOp.eql 25 (.slice (some ad) n c) (.slice none 0 0)) w = .ok (.bool false) w := fun w => by kernel_rfl
theorem pnil_yes (n c : Nat) : ∀ w, Sem.run Try.prog (binOp BinOp.eql 25 (.slice none n c) (.slice none 0 0)) w = .ok (.bool true) w := fun w => by kernel_rfl
theorem pown_new (w : World) (e : TypeId) (sz : Nat) : (w.alloc (.cells #[] e)).ownsRow w.heap.size e sz (.slice (some ⟨w.heap.size, 0, none⟩) 0 0) 0 [] :=
  ⟨by simp, .inr ⟨w.heap.size, 0, #[], rfl, Nat.le_refl _, blk_new w #[] e, Nat.le_refl _, by decide, by simp, by simp⟩⟩
/-- The pieces p lie where the slice v says, in a block of the call's own, at B and above. -/
def OwnP (B : Nat) (p : List PcO) (v : Value) (w : World) : Prop := w.ownsRow B 44 3 v p.length (p.map encP).flatten
theorem OwnP.form {B : Nat} {p : List PcO} {v : Value} {w : World} (h : OwnP B p v w) : ∃ a cap, v = .slice a p.length cap ∧ p.length ≤ cap ∧ cap ≤ maxLen ∧ OwnE 44 3 encP B w a p.length fun k => p.getD k zPc := own_of h encP_len
theorem OwnP.nil (B : Nat) (w : World) : OwnP B [] (.slice none 0 0) w := World.ownsRow_nil _ _ _ _
theorem OwnP.old {B : Nat} {p : List PcO} {v : Value} {w w' : World} (h : OwnP B p v w) (hb : Old w w') : OwnP B p v w' := own_old h hb
theorem OwnP.mono {B B' : Nat} {p : List PcO} {v : Value} {w : World} (h : OwnP B p v w) (hB : B' ≤ B) : OwnP B' p v w := by
  refine ⟨h.1, ?_⟩
  rcases h.2 with h | ⟨g, cap, cur, h1, h2, h3⟩
  · exact .inl h
  · exact .inr ⟨g, cap, cur, h1, by omega, h3⟩
set_option maxHeartbeats 1000000 in
theorem oclone_any (a : Option Addr) (cap : Nat) (p : List PcO) (w : World) (hn : p.length ≤ 1000000) (hr : Els 3 encP w a p.length fun k => p.getD k zPc) :
    Calls Try.prog 21 #[.slice a p.length cap] w fun e w' => ∃ v, e = .returned v ∧ OwnP w.heap.size p v w' ∧ Below w.heap.size w w' := by
  have hmx : 1000002 ≤ maxLen := by decide
  obtain ⟨i0, hi, hz0, hz1, hz2⟩ := info_parts infoPc
  cases a with
  | none =>
    have h0 := none_nil hr (by omega)
    obtain rfl : p = [] := List.eq_nil_of_length_eq_zero h0
    clear hr
    have e := pnil_yes 0 cap
    go_enter Try.func21, Try.ntmps21
    go_wp2_with fail
    go_ret
    exact ⟨.slice none 0 0, rfl, OwnP.nil _ _, Below.refl _ _⟩
  | some ad =>
    have HR := Lib.hid (hr.carry (tbel1 w (.cells #[] 44)))
    clear hr
    have e := pnil_no ad p.length cap
    go_enter Try.func21, Try.ntmps21
    go_wp2_with (at_builtin; refine wpList_app4 (l := []) (m := p) (d := zPc) rfl _ _ rfl Try.underlying25 hi hz0 hz1 hz2 rfl (by decide) encP_len encP_one rfl (pown_new w 44 3) rfl HR.out (by simp; omega) (by simp; omega) (tbel1 w _) (by simp) ?_; intro v' w1 hown hb1)
    go_ret
    rw [List.nil_append] at hown
    exact ⟨_, rfl, hown, hb1⟩
theorem openN_neg {l : List N2} {s : SpO} (h : s.n < 0 ∨ s.l < 0) : openN l s = 0 := by unfold openN; rw [if_pos h]
theorem openN_le (l : List N2) (s : SpO) : openN l s ≤ l.length := by
  unfold openN
  split
  · omega
  · split <;> omega
theorem opens_snoc (l : List N2) (s : SpO) (k : Nat) : (List.range (k + 1)).map (pceO l s) = (List.range k).map (pceO l s) ++ [pceO l s k] := by
  rw [List.range_succ, List.map_append]
  rfl
set_option maxHeartbeats 2000000 in
theorem oopen_any (a : Option Addr) (cap : Nat) (l : List N2) (s : SpO) (w : World) (hl : l.length ≤ 1000000) (hN : NotesAt w a l) :
    Calls Try.prog 24 #[.slice a l.length cap, spo s] w fun e w' => ∃ v, e = .returned v ∧ OwnP (w.heap.size + 1) (openO l s) v w' ∧ Below w.heap.size w w' ∧ w.heap.size < w'.heap.size := by
  have hmx : 1000002 ≤ maxLen := by decide
  obtain ⟨i0, hi, hz0, hz1, hz2⟩ := info_parts infoPc
  have hle := openN_le l s
  obtain ⟨s0, s1, s2, s3⟩ := s
  have b1 := tbel1 w (.cells #[.int .i64 s0, .int .i64 s1, .int .i64 s2, .bool s3] 24)
  have hz : (w.alloc (.cells #[.int .i64 s0, .int .i64 s1, .int .i64 s2, .bool s3] 24)).heap.size = w.heap.size + 1 := by simp
  by_cases g0 : s0 < 0
  · have e : openO l ⟨s0, s1, s2, s3⟩ = [] := by unfold openO; rw [openN_neg (.inl g0)]; rfl
    rw [e]
    unfold spo
    dsimp only
    clear hN e
    go_enter Try.func24, Try.ntmps24
    go_wp2
    go_ret
    exact ⟨.slice none 0 0, rfl, OwnP.nil _ _, b1, by omega⟩
  · by_cases g1 : s1 < 0
    · have e : openO l ⟨s0, s1, s2, s3⟩ = [] := by unfold openO; rw [openN_neg (.inr g1)]; rfl
      rw [e]
      unfold spo
      dsimp only
      clear hN e
      go_enter Try.func24, Try.ntmps24
      go_wp2
      go_ret
      exact ⟨.slice none 0 0, rfl, OwnP.nil _ _, b1, by omega⟩
    · obtain ⟨M, hM⟩ : ∃ M, (if (l.length : Int) < s2 then (l.length : Int) else s2) = M := ⟨_, rfl⟩
      have hMl : M ≤ l.length := by rw [← hM]; split <;> omega
      have hO : openN l ⟨s0, s1, s2, s3⟩ = (M - s0).toNat := by
        unfold openN
        rw [if_neg (by simp; omega)]
        dsimp only
        rw [hM]
      have HE : Hid (openO l ⟨s0, s1, s2, s3⟩ = (List.range (M - s0).toNat).map (pceO l ⟨s0, s1, s2, s3⟩)) := Lib.hid (by unfold openO; rw [hO])
      have HN := Lib.hid fun (x : World) (hx : Below w.heap.size w x) => hN.carry hx
      have B1 := blk_new w #[.int .i64 s0, .int .i64 s1, .int .i64 s2, .bool s3] 24
      rw [hO] at hle
      obtain ⟨n0, rfl⟩ : ∃ n0 : Nat, s0 = n0 := ⟨s0.toNat, by omega⟩
      have HO := Lib.hid (And.intro hO hN)
      unfold spo
      dsimp only
      clear hN hO HO g0
      go_enter Try.func24, Try.ntmps24
      go_wp2_with fail
      generalize w.alloc _ = U at *
      go_loopw [5, 6, 7] (fun v f i wr => ∃ (u : Value) (k : Nat), u = v ∧ k ≤ (M - n0).toNat ∧ f = .int .i64 (fromO ⟨n0, s1, s2, s3⟩ k) ∧ i = .int .i64 ((n0 + k : Nat) : Int) ∧ Below (w.heap.size + 1) U wr ∧ OwnP (w.heap.size + 1) ((List.range k).map (pceO l ⟨n0, s1, s2, s3⟩)) u wr) (fun _ _ i _ => l.length - (intOf i).toNat)
      case atStart => exact ⟨_, 0, rfl, Nat.zero_le _, rfl, rfl, Below.refl _ _, OwnP.nil _ _⟩
      case round =>
        obtain ⟨u, k, rfl, hk, rfl, rfl, hbl, hown⟩ := hrel
        have bw := b1.trans (hbl.mono (by omega))
        have hzr := hbl.size
        rw [hz] at hzr
        have q := (Blk.old B1 (by rw [← hz] at hbl; exact hbl)).cell 2
        have q' : wr.cell? ⟨w.heap.size, 2, none⟩ = some (.int .i64 s2) := q
        clear q
        by_cases hlt : k < (M - n0).toNat
        · have hkl : n0 + k < l.length := by omega
          obtain ⟨nb, noff, la, lc, qa, qc, ha, hnb, c0, c1, _⟩ := (HN.out _ bw).get hkl
          subst ha
          have HP : Hid (pceO l ⟨n0, s1, s2, s3⟩ k = (((n0 + k : Nat) : Int), fromO ⟨n0, s1, s2, s3⟩ k, ((l.getD (n0 + k) zeroN).l.length : Int))) := Lib.hid (by
            unfold pceO lenO
            dsimp only
            rw [show ((n0 : Int) + (k : Int)) = ((n0 + k : Nat) : Int) by omega, Int.toNat_natCast])
          have hlen : ((List.range k).map (pceO l ⟨n0, s1, s2, s3⟩)).length = k := by simp
          have HS := Lib.hid (opens_snoc l ⟨n0, s1, s2, s3⟩ k)
          have HF : Hid (fromO ⟨n0, s1, s2, s3⟩ (k + 1) = 0) := Lib.hid rfl
          generalize fromO ⟨n0, s1, s2, s3⟩ k = y at *
          generalize (l.getD (n0 + k) zeroN).l.length = z at *
          have d1 : decide (((n0 + k : Nat) : Int) < M) = true := decide_eq_true (by omega)
          generalize hNk : n0 + k = N at *
          have HNk := Lib.hid hNk
          clear hNk
          have hown2 := OwnP.old hown (tbel1 wr (.cells (encP ((N : Int), y, (z : Int))).toArray 44))
          generalize (List.range k).map (pceO l ⟨n0, s1, s2, s3⟩) = P at *
          go_wp2_with (at_builtin; refine wpList_app4 (l := P) (m := [((N : Int), y, (z : Int))]) (d := zPc) (w0 := U) rfl _ _ rfl Try.underlying25 hi hz0 hz1 hz2 rfl (by decide) encP_len encP_one rfl hown2 rfl (els_new encP_len ((N : Int), y, (z : Int)) zPc) (by simp; omega) (by simp; omega) (hbl.alloc (by omega) _) (by simp; omega) ?_; intro v' w4 hown' hb4)
          have hown4 : OwnP (w.heap.size + 1) ((List.range (k + 1)).map (pceO l ⟨n0, s1, s2, s3⟩)) v' w4 := by
            rw [HS.out, HP.out]
            exact hown'
          clear hown' hown hown2
          go_roundw
          case rel => exact ⟨_, k + 1, rfl, by omega, by rw [HF.out], by rw [← Nat.add_assoc, HNk.out]; go_num, hb4, hown4⟩
          case measure => simp [intOf]; omega
        · obtain rfl : k = (M - n0).toNat := by omega
          have d1 : decide (((n0 + (M - n0).toNat : Nat) : Int) < M) = false := decide_eq_false (by omega)
          rw [← HE.out] at hown
          generalize fromO ⟨n0, s1, s2, s3⟩ _ = y at *
          generalize n0 + (M - n0).toNat = N at *
          go_wp2
          go_ret
          exact ⟨_, rfl, hown, bw, by omega⟩
end Go.Proofs.Ytdddhflppngloaa
