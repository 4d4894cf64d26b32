/- The walk of SumsNone. -/
import Derived.Test.YtomjglfamnacoaaZAw
namespace Go.Proofs.Ytomjglfamnacoaa
open Go.RowKit
set_option maxRecDepth 20000
set_option linter.unusedVariables false
set_option linter.unusedSimpArgs false

theorem none_rng (a b : Int) : rngM [] a b = zeroT := rngM_none (by simp; omega)
theorem none_box (a b : Int) : rngS (boxK []) a b ([] : List I7).length = 0 := by
  unfold rngS
  rw [if_neg (by simp; omega)]
theorem none_glu (a b : Int) : gluR [] a b = [] := by
  unfold gluR
  rw [if_neg (by simp; omega)]
theorem rep9 (n k : Nat) : (List.replicate n zeroI).getD k zeroI = zeroI := by
  rw [List.getD_eq_getElem?_getD, List.getElem?_replicate]
  split <;> rfl
theorem many_fair (n : Nat) : fairTo (List.replicate n zeroI) n = true := fairTo_all.2 fun i _ => by
  unfold totK
  rw [rep9]
  decide
theorem many_ok (n : Nat) : fairM (List.replicate n zeroI) = decide (n ≤ 4096) := by
  unfold fairM
  rw [List.length_replicate, many_fair]
  rfl
set_option maxHeartbeats 2000000 in
theorem sumsNone_walk (a : Int) (ha : (Lit.int .i64 a).wf = true) (b : Int) (hb : (Lit.int .i64 b).wf = true) (m : Int) (hm : (Lit.int .u16 m).wf = true) (w : World) :
    Calls Try.prog 5 #[.int .i64 a, .int .i64 b, .int .u16 m] w fun e w' => e = .returned (.bool true) ∧ Below w.heap.size w w' := by
  have V : ∀ x : World, SumV x (.pointer none) [] := fun x => .inl ⟨rfl, rfl⟩
  have h0 : 0 ≤ m ∧ m ≤ 65535 := by
    simp [Lit.wf, IntKind.min, IntKind.max, IntKind.signed, IntKind.bits] at hm
    exact hm
  obtain ⟨n, hn⟩ : ∃ n : Nat, m.tmod 5000 = n := ⟨(m.tmod 5000).toNat, by have := Int.tmod_nonneg 5000 h0.1; omega⟩
  have hn5 : n < 5000 := by have := Int.tmod_lt_of_pos m (b := 5000) (by omega); omega
  have hw : IntKind.i64.wrap m = m := by rw [IntKind.wrap_i64]; omega
  have clen := fun x => slen_any (.pointer none) [] x (V x) (by decide)
  have cof := fun x => sof_any (.pointer none) [] a b x (V x) (by decide) rfl
  have cglu := fun x => sglues_any (.pointer none) [] a b x (V x) (by decide)
  have cbox := fun x => sboxes_any (.pointer none) [] a b x (V x) (by decide) rfl
  rw [none_rng] at cof
  rw [none_box] at cbox
  rw [none_glu] at cglu
  unfold tot zeroT at cof
  dsimp only [List.length_nil] at cof clen
  have mk := make_items n (by omega)
  have c1 := snew_any (some ⟨w.heap.size, 0, none⟩) n (List.replicate n zeroI) (w.alloc (.cells (madeCells sevenZ9 (n * 7)) 50)) (by rw [List.length_replicate]; omega) (els_made9 (z := zeroI) (zs := sevenZ9) (sz := 7) rfl (fun j => by simp [sevenZ9, encI, zeroI]) (by rw [List.length_replicate]; exact blk_new w _ _) fun k _ => rep9 n k)
  rw [List.length_replicate, many_ok] at c1
  have b0 := tbel1 w (.cells (madeCells sevenZ9 (n * 7)) 50)
  have cl2 := Lib.hid fun (v : Value) (x : World) (h : SumV x v (List.replicate n zeroI)) => slen_any v _ x h (by rw [List.length_replicate]; omega)
  rw [List.length_replicate] at cl2
  have HC := Lib.hid (And.intro clen (And.intro cof (And.intro cglu (And.intro cbox awake19))))
  clear clen cof cglu cbox V
  by_cases h4 : n ≤ 4096
  · rw [decide_eq_true h4] at c1
    go_enter Try.func5, Try.ntmps5
    go_wp2_with fail
    refine c1.mono ?_
    rintro e w1 ⟨v, rfl, hv, _, b1⟩
    have V1 : SumV w1 v (List.replicate n zeroI) := .inr (hv trivial)
    replace b1 := tstep b0 b1 b0.size
    clear c1 hv b0 mk
    go_wp2_with fail
    refine (HC.out.1 _).mono ?_
    rintro e w2 ⟨rfl, rfl⟩
    go_wp2_with fail
    refine (HC.out.2.1 _).mono ?_
    rintro e w2 ⟨rfl, b2⟩
    have V2 := V1.carry b2
    replace b2 := tstep b1 b2 b1.size
    clear V1 b1
    go_wp2_with fail
    refine (HC.out.2.2.1 _).mono ?_
    rintro e w3 ⟨u, rfl, ⟨ua, uc, rfl, _, _, _⟩, b3⟩
    have V3 := V2.carry b3
    replace b3 := tstep b2 b3 b2.size
    clear V2 b2
    go_wp2_with fail
    refine (HC.out.2.2.2.1 _).mono ?_
    rintro e w4 ⟨rfl, b4⟩
    have V4 := V3.carry b4
    replace b4 := tstep b3 b4 b3.size
    clear V3 b3
    go_wp2_with fail
    refine (cl2.out _ _ V4).mono ?_
    rintro e w5 ⟨rfl, rfl⟩
    clear V4
    go_wp2_with fail
    refine (HC.out.2.2.2.2 _).mono ?_
    rintro e w6 ⟨rfl, b6⟩
    replace b6 := tstep b4 b6 b4.size
    go_wp2
    go_ret
    exact ⟨rfl, b6⟩
  · rw [decide_eq_false h4] at c1
    go_enter Try.func5, Try.ntmps5
    go_wp2_with fail
    refine c1.mono ?_
    rintro e w1 ⟨v, rfl, _, hv, b1⟩
    obtain rfl := hv trivial
    replace b1 := tstep b0 b1 b0.size
    clear c1 hv b0 mk
    go_wp2_with fail
    refine (HC.out.1 _).mono ?_
    rintro e w2 ⟨rfl, rfl⟩
    go_wp2_with fail
    refine (HC.out.2.1 _).mono ?_
    rintro e w2 ⟨rfl, b2⟩
    replace b2 := tstep b1 b2 b1.size
    clear b1
    go_wp2_with fail
    refine (HC.out.2.2.1 _).mono ?_
    rintro e w3 ⟨u, rfl, ⟨ua, uc, rfl, _, _, _⟩, b3⟩
    replace b3 := tstep b2 b3 b2.size
    clear b2
    go_wp2_with fail
    refine (HC.out.2.2.2.1 _).mono ?_
    rintro e w4 ⟨rfl, b4⟩
    replace b4 := tstep b3 b4 b3.size
    clear b3
    go_wp2_with fail
    refine (HC.out.2.2.2.2 _).mono ?_
    rintro e w6 ⟨rfl, b6⟩
    replace b6 := tstep b4 b6 b4.size
    go_wp2
    go_ret
    exact ⟨by simp <;> omega, b6⟩
end Go.Proofs.Ytomjglfamnacoaa
