/- At and High of package figure, and the document's. -/
import Derived.Test.YtgohglghmhhdnaaUBase
import Derived.BigQuiet
namespace Go.Proofs.Ytgohglghmhhdnaa
open Go.RowKit
set_option maxRecDepth 20000
set_option linter.unusedVariables false
set_option linter.unusedSimpArgs false

def zeroF : F3 := ⟨0, 0, 0⟩
def inF (x : F3) : Prop := inR x.c ∧ inR x.h ∧ inR x.p
/-- The floats of a list lie where a slice says. -/
def URow (w : World) (a : Option Addr) (l : List F3) : Prop := ∀ k, k < l.length → inF (l.getD k zeroF) ∧ ∃ b off, a = some ⟨b, off, none⟩ ∧ b < w.heap.size ∧ w.cell? ⟨b, off + k * 3, none⟩ = some (.int .i64 (l.getD k zeroF).c) ∧ w.cell? ⟨b, off + k * 3 + 1, none⟩ = some (.int .i64 (l.getD k zeroF).h) ∧ w.cell? ⟨b, off + k * 3 + 2, none⟩ = some (.int .i64 (l.getD k zeroF).p)
theorem URow.carry {w w' : World} {a : Option Addr} {l : List F3} (h : URow w a l) (hb : Below w.heap.size w w') : URow w' a l := fun k hk => by
  obtain ⟨hi, b, off, rfl, hB, h0, h1, h2⟩ := h k hk
  have e : ∀ j, w'.cell? ⟨b, off + k * 3 + j, none⟩ = w.cell? ⟨b, off + k * 3 + j, none⟩ := fun j => hb.cell (p := ⟨b, off + k * 3 + j, none⟩) hB
  exact ⟨hi, b, off, rfl, Nat.lt_of_lt_of_le hB hb.size, (hb.cell (p := ⟨b, off + k * 3, none⟩) hB).trans h0, (e 1).trans h1, (e 2).trans h2⟩
def hasAt (l : List F3) (n : Int) : Bool := decide (0 ≤ n) && decide (n < l.length)
def atF (l : List F3) (n : Int) : F3 := cond (hasAt l n) (l.getD n.toNat zeroF) zeroF
theorem fat_any (a : Option Addr) (cap : Nat) (l : List F3) (n : Int) (w : World) (hl : l.length ≤ 1000000) (hr : URow w a l) :
    Calls Try.prog 11 #[.slice a l.length cap, .int .i64 n] w fun e w' => e = .returned (.tuple #[flt (atF l n), .bool (hasAt l n)]) ∧ Below w.heap.size w w' := by
  by_cases h1 : n < 0
  · have e : hasAt l n = false := by simp [hasAt]; omega
    unfold atF
    rw [e]
    unfold flt zeroF cond
    dsimp only
    clear e hr
    go_enter Try.func11, Try.ntmps11
    go_wp2
    exact bodyPost_ret (v := .tuple #[.agg #[.int .i64 0, .int .i64 0, .int .i64 0], .bool false]) (by simp [results, Try.results11, go_sem]) rfl ⟨rfl, tbel1 w _⟩
  · by_cases h2 : (l.length : Int) ≤ n
    · have e : hasAt l n = false := by simp [hasAt]; omega
      unfold atF
      rw [e]
      unfold flt zeroF cond
      dsimp only
      clear e hr
      go_enter Try.func11, Try.ntmps11
      go_wp2
      exact bodyPost_ret (v := .tuple #[.agg #[.int .i64 0, .int .i64 0, .int .i64 0], .bool false]) (by simp [results, Try.results11, go_sem]) rfl ⟨rfl, tbel1 w _⟩
    · obtain ⟨k, rfl⟩ : ∃ k : Nat, n = k := ⟨n.toNat, by omega⟩
      have e : hasAt l k = true := by simp [hasAt]; omega
      unfold atF
      rw [e]
      have hk : k < l.length := by omega
      obtain ⟨hi, b, off, rfl, hB, q0, q1, q2⟩ := hr k hk
      unfold flt cond
      rw [Int.toNat_natCast]
      generalize l.getD k zeroF = y at *
      obtain ⟨c, h, p⟩ := y
      dsimp only at *
      clear e hr hi
      go_enter Try.func11, Try.ntmps11
      go_wp2
      exact bodyPost_ret (v := .tuple #[.agg #[.int .i64 c, .int .i64 h, .int .i64 p], .bool true]) (by simp [results, Try.results11, go_sem]) rfl ⟨rfl, tbel1 w _⟩
def highFU (l : List F3) (ids : List Int) (sep : Int) : Nat → Int
  | 0 => 0
  | k + 1 => cond (hasAt l (ids.getD k 0)) (levN (highFU l ids sep k + levN (atF l (ids.getD k 0)).h + levN sep)) (highFU l ids sep k)
def highF (l : List F3) (ids : List Int) (sep : Int) : Int := highFU l ids sep ids.length
theorem highFU_in (l : List F3) (ids : List Int) (sep : Int) (k : Nat) : 0 ≤ highFU l ids sep k ∧ highFU l ids sep k ≤ 1125899906842624 := by
  induction k with
  | zero => simp [highFU]
  | succ k ih =>
    unfold highFU
    cases hasAt l (ids.getD k 0)
    · exact ih
    · exact lev_in _
set_option maxHeartbeats 1000000 in
theorem fhigh_any (a a2 : Option Addr) (cap cap2 : Nat) (l : List F3) (ids : List Int) (sep : Int) (w : World) (hl : l.length ≤ 1000000) (hi : ids.length ≤ 1000000) (hr : URow w a l) (hd : IRow w.heap.size w a2 ids) :
    Calls Try.prog 12 #[.slice a l.length cap, .slice a2 ids.length cap2, .int .i64 sep] w fun e w' => e = .returned (.int .i64 (highF l ids sep)) ∧ Below w.heap.size w w' := by
  have HR := Lib.hid hr
  have HD := Lib.hid hd
  clear hr hd
  go_enter Try.func12, Try.ntmps12
  go_wp2_with fail
  go_loopw [7, 14] (fun u i wr => ∃ k : Nat, k ≤ ids.length ∧ i = .int .i64 k ∧ u = .int .i64 (highFU l ids sep k) ∧ Below w.heap.size w wr) (fun _ i _ => ids.length - (intOf i).toNat)
  case atStart => exact ⟨0, Nat.zero_le _, rfl, rfl, Below.refl _ _⟩
  case round =>
    obtain ⟨k, hk, rfl, rfl, bw⟩ := hrel
    by_cases hlt : k < ids.length
    · obtain ⟨hyin, b, off, rfl, hB, hck⟩ := (HD.out.carry bw (Nat.le_refl _)) k hlt
      have HS : Hid (highFU l ids sep (k + 1) = cond (hasAt l (ids.getD k 0)) (levN (highFU l ids sep k + levN (atF l (ids.getD k 0)).h + levN sep)) (highFU l ids sep k)) := Lib.hid rfl
      have hu := highFU_in l ids sep k
      generalize highFU l ids sep k = u at *
      generalize ids.getD k 0 = n at *
      have c := fat_any a cap l n wr hl (HR.out.carry bw)
      unfold flt at c
      generalize atF l n = y at *
      obtain ⟨y0, y1, y2⟩ := y
      dsimp only at *
      generalize hasAt l n = z at *
      have v1 := lev_in y1
      have v2 := lev_in sep
      have c1 := flevel_any y1
      have c2 := flevel_any sep
      generalize levN y1 = z1 at *
      generalize levN sep = z2 at *
      have c3 := flevel_any (u + z1 + z2)
      go_wp2_with fail
      refine c.mono ?_
      rintro e w1 ⟨rfl, b1⟩
      replace b1 := tstep bw b1 bw.size
      clear c
      cases z
      · replace HS : Hid (highFU l ids sep (k + 1) = u) := HS
        clear c1 c2 c3
        go_wp2
        go_roundw
        case rel => exact ⟨k + 1, by omega, by go_num, by rw [HS.out], tstep b1 (tbel1 w1 _) b1.size⟩
        case measure => simp [intOf]; omega
      · replace HS : Hid (highFU l ids sep (k + 1) = levN (u + z1 + z2)) := HS
        generalize levN (u + z1 + z2) = t at *
        go_wp2_with fail
        refine (c1 _).mono ?_
        rintro e w2 ⟨rfl, rfl⟩
        go_wp2_with fail
        refine (c2 _).mono ?_
        rintro e w2 ⟨rfl, rfl⟩
        go_wp2_with fail
        refine (c3 _).mono ?_
        rintro e w2 ⟨rfl, rfl⟩
        go_wp2
        go_roundw
        case rel => exact ⟨k + 1, by omega, by go_num, by rw [HS.out], tstep b1 (tbel1 w1 _) b1.size⟩
        case measure => simp [intOf]; omega
    · have ej : k = ids.length := by omega
      subst ej
      go_wp2
      go_ret
      exact ⟨rfl, bw⟩
set_option maxHeartbeats 1000000 in
theorem rfhigh_any (a a2 : Option Addr) (cap cap2 : Nat) (l : List F3) (ids : List Int) (sep : Int) (w : World) (hl : l.length ≤ 1000000) (hi : ids.length ≤ 1000000) (hr : URow w a l) (hd : IRow w.heap.size w a2 ids) :
    Calls Try.prog 13 #[.slice a l.length cap, .slice a2 ids.length cap2, .int .i64 sep] w fun e w' => e = .returned (.int .i64 (highF l ids sep)) ∧ Below w.heap.size w w' := by
  have HR := Lib.hid hr
  have HD := Lib.hid hd
  clear hr hd
  go_enter Try.func13, Try.ntmps13
  go_wp2_with fail
  go_loopw [7, 8] (fun u i wr => ∃ k : Nat, k ≤ ids.length ∧ i = .int .i64 k ∧ u = .int .i64 (highFU l ids sep k) ∧ Below w.heap.size w wr) (fun _ i _ => ids.length - (intOf i).toNat)
  case atStart => exact ⟨0, Nat.zero_le _, rfl, rfl, Below.refl _ _⟩
  case round =>
    obtain ⟨k, hk, rfl, rfl, bw⟩ := hrel
    by_cases hlt : k < ids.length
    · obtain ⟨hyin, b, off, rfl, hB, hck⟩ := (HD.out.carry bw (Nat.le_refl _)) k hlt
      have HS : Hid (highFU l ids sep (k + 1) = cond (hasAt l (ids.getD k 0)) (levN (highFU l ids sep k + levN (atF l (ids.getD k 0)).h + levN sep)) (highFU l ids sep k)) := Lib.hid rfl
      have hu := highFU_in l ids sep k
      generalize highFU l ids sep k = u at *
      generalize ids.getD k 0 = n at *
      have v2 := lev_in sep
      have c2 := held_any sep
      generalize levN sep = z2 at *
      by_cases h1 : n < 0
      · rw [show hasAt l n = false by simp [hasAt]; omega] at HS
        replace HS : Hid (highFU l ids sep (k + 1) = u) := HS
        clear c2
        go_wp2
        go_roundw
        case rel => exact ⟨k + 1, by omega, by go_num, by rw [HS.out], bw⟩
        case measure => simp [intOf]; omega
      · by_cases h2 : (l.length : Int) ≤ n
        · rw [show hasAt l n = false by simp [hasAt]; omega] at HS
          replace HS : Hid (highFU l ids sep (k + 1) = u) := HS
          clear c2
          go_wp2
          go_roundw
          case rel => exact ⟨k + 1, by omega, by go_num, by rw [HS.out], bw⟩
          case measure => simp [intOf]; omega
        · obtain ⟨m, rfl⟩ : ∃ m : Nat, n = m := ⟨n.toNat, by omega⟩
          have e : hasAt l m = true := by simp [hasAt]; omega
          have hm : m < l.length := by omega
          unfold atF at HS
          rw [e, cond_true, cond_true, Int.toNat_natCast] at HS
          obtain ⟨_, b2, off2, rfl, hB2, q0, q1, q2⟩ := (HR.out.carry bw) m hm
          generalize l.getD m zeroF = y at *
          obtain ⟨y0, y1, y2⟩ := y
          dsimp only at *
          have v1 := lev_in y1
          have c1 := held_any y1
          generalize levN y1 = z1 at *
          have c3 := held_any (u + z1 + z2)
          generalize levN (u + z1 + z2) = t at *
          go_wp2_with fail
          refine (c1 _).mono ?_
          rintro e w2 ⟨rfl, rfl⟩
          go_wp2_with fail
          refine (c2 _).mono ?_
          rintro e w2 ⟨rfl, rfl⟩
          go_wp2_with fail
          refine (c3 _).mono ?_
          rintro e w2 ⟨rfl, rfl⟩
          go_wp2
          go_roundw
          case rel => exact ⟨k + 1, by omega, by go_num, by rw [HS.out], bw⟩
          case measure => simp [intOf]; omega
    · have ej : k = ids.length := by omega
      subst ej
      go_wp2
      go_ret
      exact ⟨rfl, bw⟩
end Go.Proofs.Ytgohglghmhhdnaa
