/- The walk of the law SplitTells. -/
import Derived.Test.YtdddhflppngloaaOAw
import Derived.Test.YtdddhflppngloaaOLrg
import Derived.Test.YtdddhflppngloaaFLeaf
namespace Go.Proofs.Ytdddhflppngloaa
open Go.RowKit
set_option maxRecDepth 20000
set_option linter.unusedVariables false
set_option linter.unusedSimpArgs false

theorem wfO {a : Int} (h : (Lit.int .i64 a).wf = true) : inR a := by
  simp [Lit.wf, IntKind.min, IntKind.max, IntKind.signed, IntKind.bits] at h
  exact h
/-- Pieces that came in. -/
theorem IsFlat.piecesO {w : World} {a : Option Addr} {len cap : Nat} (h : IsFlat Try.prog [3, 3, 3] w a len cap) : ∃ p : List PcO, p.length = len ∧ len ≤ cap ∧ cap ≤ maxLen ∧ Els 3 encP w a p.length fun k => p.getD k zPc := by
  rcases h with ⟨rfl, rfl, rfl⟩ | ⟨ad, rfl, h1, h2, hall⟩
  · exact ⟨[], rfl, Nat.le_refl _, by decide, none_els⟩
  · obtain ⟨l, q1, _, q3⟩ := els_of (w := w) (ok := fun _ => True) (en := encP) (d := zPc) (sz := 3) trivial (by omega) encP_len (ad := ad) (len := len) (fun i hi => by
      obtain ⟨cs, hlen, hc, hk⟩ := hall i hi
      match cs, hlen with
      | [c0, c1, c2], _ =>
        obtain ⟨z0, rfl, w0⟩ := (hk 0 _ _ rfl rfl).1 _ Try.underlying3
        obtain ⟨z1, rfl, w1⟩ := (hk 1 _ _ rfl rfl).1 _ Try.underlying3
        obtain ⟨z2, rfl, w2⟩ := (hk 2 _ _ rfl rfl).1 _ Try.underlying3
        exact ⟨(z0, z1, z2), trivial, hc⟩)
    exact ⟨l, q1, h1, h2, q3⟩
theorem sz_intO (w : World) : (sizeOf 3).run Try.prog w = .ok 1 w := by kernel_rfl
theorem pt2O (a b : Value) : (∀ w, (part 3 #[a, b] 0).run Try.prog w = .ok a w) ∧ ∀ w, (part 3 #[a, b] 1).run Try.prog w = .ok b w := ⟨fun _ => by kernel_rfl, fun _ => by kernel_rfl⟩
@[go_sem] theorem eq_arr2x (d : Nat) (x y : Int) (w : World) : (Op.equalIn (d + 1 + 1) 32 (.agg #[.int .i64 x, .int .i64 y]) (.agg #[.int .i64 x, .int .i64 y])).run Try.prog w = .ok true w := by
  rw [Op.equalIn]
  have q := fun x => run_equalIn_int (P := Try.prog) w d 3 .i64 .i64 x x Try.underlying3
  obtain ⟨p0, p1⟩ := pt2O (.int .i64 x) (.int .i64 y)
  generalize Op.equalIn (d + 1) = E at q ⊢
  simp only [Sem.run_bind, run_underlying Try.underlying32, Result.andThen_ok, sz_intO]
  simp [Std.Legacy.Range.forIn_eq_forIn_range', List.range', p0, p1, q]
theorem eq_arr2O (x y : Int) : ∀ w, Sem.run Try.prog (binOp .eql 32 (.agg #[.int .i64 x, .int .i64 y]) (.agg #[.int .i64 x, .int .i64 y])) w = .ok (.bool true) w := fun w => by
  simp [go_sem]
set_option maxHeartbeats 4000000 in
theorem tells_any (a : Option Addr) (cap : Nat) (l : List N2) (s : SpO) (pa : Option Addr) (pc : Nat) (p : List PcO) (w : World) (hl : l.length ≤ 9223372036854775807) (hp : p.length ≤ 9223372036854775807) (hN : NotesAt w a l) (hP : Els 3 encP w pa p.length fun k => p.getD k zPc) :
    Calls Try.prog 3 #[.slice a l.length cap, spo s, .slice pa p.length pc] w fun e w' => e = .returned (.bool true) ∧ Below w.heap.size w w' := by
  have b1 := tbel1 w (.cells #[.int .i64 s.n, .int .i64 s.l, .int .i64 s.b, .bool s.f] 24)
  have B1 := blk_new w #[.int .i64 s.n, .int .i64 s.l, .int .i64 s.b, .bool s.f] 24
  have c0 := olarge_any a cap l pa pc p _ hl hp (hN.carry b1) (hP.carry b1)
  have HN := Lib.hid fun x (hx : Below w.heap.size w x) => hN.carry hx
  have HP := Lib.hid fun x (hx : Below w.heap.size w x) => hP.carry hx
  obtain ⟨s0, s1, s2, s3⟩ := s
  have HS : Hid (SpO.mk s0 s1 s2 s3 = SpO.mk s0 s1 s2 s3) := Lib.hid rfl
  clear hN hP
  unfold spo
  dsimp only at b1 B1 c0 ⊢
  go_enter Try.func3, Try.ntmps3
  go_wp2_with fail
  generalize w.alloc _ = U at *
  refine c0.mono ?_
  rintro e w1 ⟨r, rfl, hr, rfl⟩
  cases r with
  | true =>
    clear c0 hr
    go_wp2_with fail
    refine (awake22 _).mono ?_
    rintro e w2 ⟨rfl, b2⟩
    go_wp2
    go_ret
    exact ⟨rfl, tstep b1 b2 b1.size⟩
  | false =>
    have ht := hr rfl
    have hl1 := ht.nl
    have hp1 := ht.np
    have HT := Lib.hid ht
    clear c0 hr ht
    have hsm : SmallN l := fun k hk => by have := HT.out.lines k hk; omega
    obtain ⟨nx, hnx⟩ : ∃ nx, nextO l ⟨s0, s1, s2, s3⟩ p = nx := ⟨_, rfl⟩
    obtain ⟨n0, n1⟩ := nx
    obtain ⟨hh, hhh⟩ : ∃ hh, highO l p s2 = hh := ⟨_, rfl⟩
    obtain ⟨ln, hln⟩ : ∃ ln, linesO p = ln := ⟨_, rfl⟩
    obtain ⟨B, hB⟩ : ∃ B, decide (p = []) = B := ⟨_, rfl⟩
    have eB : ((p.length : Int) == 0) = B := by
      rw [← hB]
      cases p with
      | nil => rfl
      | cons x q =>
        rw [decide_eq_false (by simp), beq_eq_false_iff_ne]
        simp
        omega
    have cX := Lib.hid fun x (hx : Old w1 x) => And.intro (HN.out x (tstep b1 hx b1.size)) (HP.out x (tstep b1 hx b1.size))
    have c1 := Lib.hid fun x (hx : Old w1 x) => onext_any a cap l ⟨s0, s1, s2, s3⟩ pa pc p x (by omega) (by omega) (cX.out x hx).1 (cX.out x hx).2
    have c2 := Lib.hid fun x (hx : Old w1 x) => ohigh_any a cap l pa pc p s2 x (by omega) hsm (by omega) (cX.out x hx).1 (cX.out x hx).2
    have c3 := Lib.hid fun x => oref_any ⟨s0, s1, s2, s3⟩ x
    have c4 := Lib.hid fun x (hx : Old w1 x) => ronext_any a cap l ⟨s0, s1, s2, s3⟩ pa pc p x (by omega) (by omega) (cX.out x hx).1 (cX.out x hx).2
    have c5 := Lib.hid fun x (hx : Old w1 x) => rohigh_any a cap l pa pc p s2 x (by omega) hsm (by omega) (cX.out x hx).1 (cX.out x hx).2
    have c6 := Lib.hid fun x (hx : Old w1 x) => olines_any pa pc p x (by omega) (cX.out x hx).2 HT.out.fair
    have c7 := Lib.hid fun x (hx : Old w1 x) => rolines_any pa pc p x (by omega) (cX.out x hx).2 HT.out.fair
    have c8 := Lib.hid fun x (hx : Old w1 x) => osame_any pa pa pc pc p p x (by omega) (by omega) (cX.out x hx).2 (cX.out x hx).2
    have c9 := Lib.hid fun x (hx : Old w1 x) => osame_any pa none pc 0 p [] x (by omega) (by simp) (cX.out x hx).2 none_els
    rw [hnx] at c1 c4
    rw [hhh] at c2 c5
    rw [hln] at c6 c7
    rw [decide_eq_true rfl] at c8
    rw [hB] at c9
    unfold spo at c1 c3 c4
    dsimp only at c1 c3 c4 n0 n1
    have HB := Lib.hid B1
    have e2 := eq_arr2O n0 n1
    have CE := Lib.hid fun x (hx : Old w1 x) => And.intro ((Blk.old HB.out hx).cell 0) (And.intro ((Blk.old HB.out hx).cell 1) (And.intro ((Blk.old HB.out hx).cell 2) ((Blk.old HB.out hx).cell 3)))
    clear hnx hhh hln hB HN HP HS HT hsm B1
    have hc := CE.out w1 (Below.refl _ _)
    go_wp2_with fail
    refine (c1.out w1 (Below.refl _ _)).mono ?_
    rintro e x1 ⟨rfl, y1⟩
    replace hc := CE.out x1 y1
    clear c1
    go_wp2_with fail
    refine (c2.out x1 y1).mono ?_
    rintro e x2 ⟨rfl, b2⟩
    have y2 := Old.old y1 b2
    replace hc := CE.out x2 y2
    clear c2 b2 y1
    go_wp2_with fail
    refine (c3.out x2).mono ?_
    rintro e x3 ⟨rfl, b3⟩
    have y3 := Old.old y2 b3
    replace hc := CE.out x3 y3
    clear c3 b3 y2
    go_wp2_with fail
    refine (c4.out x3 y3).mono ?_
    rintro e x4 ⟨rfl, b4⟩
    have y4 := Old.old y3 b4
    replace hc := CE.out x4 y4
    clear c4 b4 y3
    go_wp2_with fail
    refine (c5.out x4 y4).mono ?_
    rintro e x5 ⟨rfl, b5⟩
    have y5 := Old.old y4 b5
    clear c5 b5 y4 hc
    go_wp2_with fail
    refine (c6.out x5 y5).mono ?_
    rintro e x6 ⟨rfl, b6⟩
    have y6 := Old.old y5 b6
    clear c6 b6 y5
    go_wp2_with fail
    refine (c7.out x6 y6).mono ?_
    rintro e x7 ⟨rfl, b7⟩
    have y7 := Old.old y6 b7
    clear c7 b7 y6
    go_wp2_with fail
    refine (c8.out x7 y7).mono ?_
    rintro e x8 ⟨rfl, b8⟩
    have y8 := Old.old y7 b8
    clear c8 b8 y7
    go_wp2_with fail
    refine (c9.out x8 y8).mono ?_
    rintro e x9 ⟨rfl, b9⟩
    have y9 := Old.old y8 b9
    clear c9 b9 y8
    go_wp2_with fail
    refine (awake22 x9).mono ?_
    rintro e xa ⟨rfl, ba⟩
    have ya := Old.old y9 ba
    go_wp2
    go_ret
    exact ⟨rfl, tstep b1 ya b1.size⟩
theorem splitTells_walk (a : Option Addr) (len cap : Nat) (x0 : Int) (h0 : (Lit.int .i64 x0).wf = true) (x1 : Int) (h1 : (Lit.int .i64 x1).wf = true) (x2 : Int) (h2 : (Lit.int .i64 x2).wf = true) (x3 : Bool) (pa : Option Addr) (plen pcap : Nat) (w : World)
    (hN : ∃ l : List N2, l.length = len ∧ len ≤ cap ∧ cap ≤ maxLen ∧ NotesAt w a l) (hP : IsFlat Try.prog [3, 3, 3] w pa plen pcap) :
    Calls Try.prog 3 #[.slice a len cap, .agg #[.int .i64 x0, .int .i64 x1, .int .i64 x2, .bool x3], .slice pa plen pcap] w fun e w' => e = .returned (.bool true) ∧ Below w.heap.size w w' := by
  obtain ⟨l, rfl, k1, k2, hL⟩ := hN
  obtain ⟨p, rfl, k3, k4, hE⟩ := hP.piecesO
  exact tells_any a cap l ⟨x0, x1, x2, x3⟩ pa pcap p w (Nat.le_trans (Nat.le_trans k1 k2) (by decide)) (Nat.le_trans (Nat.le_trans k3 k4) (by decide)) hL hE
end Go.Proofs.Ytdddhflppngloaa
