/- Stops of package note. -/
import Derived.Test.YtimpphkikihhaaaNFst
import Derived.OwnWalk
import Derived.Maps.AppendAt
namespace Go.Proofs.Ytimpphkikihhaaa
open Go.RowKit
set_option maxRecDepth 20000
set_option linter.unusedVariables false
set_option linter.unusedSimpArgs false

/-- The numbers l lie where the slice v says, in a block of the call's own, at base and above. -/
structure OwnN (w : World) (base : Nat) (v : Value) (l : List Int) : Prop where
  own : w.ownsRow base 3 1 v l.length (l.map (Value.int .i64))
  ins : ∀ k, inR (l.getD k 0)
theorem OwnN.row {w : World} {base : Nat} {v : Value} {l : List Int} (h : OwnN w base v l) : ∃ a cap, v = .slice a l.length cap ∧ l.length ≤ cap ∧ cap ≤ maxLen ∧ IRow w.heap.size w a l := by
  rcases h.own.2 with ⟨rfl, h0⟩ | ⟨g, cap, cur, rfl, hb, hg, h1, h2, h3, h4⟩
  · exact ⟨none, 0, by rw [h0], by omega, by decide, fun k hk => by omega⟩
  · refine ⟨some ⟨g, 0, none⟩, cap, rfl, h1, h2, fun k hk => ⟨h.ins k, g, 0, rfl, (Array.getElem?_eq_some_iff.1 hg).1, ?_⟩⟩
    rw [World.ownsRow.cellAt h.own (0 + k) (by omega)]
    rw [List.getElem?_map, List.getD_eq_getElem?_getD, Nat.zero_add, List.getElem?_eq_getElem hk]
    simp
theorem ngrown_of {A B : World} (h : Below A.heap.size A B) : A.grownBy B none := ⟨h.os, h.tape, h.output, h.size, fun k hk _ => h.block k hk⟩
theorem OwnN.carry {w w' : World} {base : Nat} {v : Value} {l : List Int} (h : OwnN w base v l) (hb : Below w.heap.size w w') : OwnN w' base v l :=
  ⟨h.own.kept (row := none) (ngrown_of hb) (by
    rcases h.own.2 with ⟨rfl, _⟩ | ⟨g, cap, cur, rfl, _⟩
    · exact .inl rfl
    · exact .inr (by simp [Value.ownBlock])), h.ins⟩
theorem OwnN.mono {w : World} {base base' : Nat} {v : Value} {l : List Int} (h : OwnN w base v l) (hb : base' ≤ base) : OwnN w base' v l := by
  refine ⟨⟨h.own.1, ?_⟩, h.ins⟩
  rcases h.own.2 with h | ⟨g, cap, cur, h1, h2, h3⟩
  · exact .inl h
  · exact .inr ⟨g, cap, cur, h1, by omega, h3⟩
theorem OwnN.grow {B : Nat} {w w3 w4 : World} {v : Value} {l : List Int} {o : Obj} (hown : OwnN w3 B v l) (hbl : Below B w w3) (hz : B ≤ w3.heap.size) (hgrow : (w3.alloc o).grownBy w4 v.ownBlock) : Below B w w4 := by
  refine (hbl.alloc hz o).grown hgrow (by simp; omega) fun j ej => ?_
  rcases hown.own.2 with ⟨rfl, _⟩ | ⟨g, cap, cur, rfl, hb, _, _⟩
  · simp [Value.ownBlock] at ej
  · obtain rfl : g = j := by simpa [Value.ownBlock] using ej
    exact hb
theorem ownN_nil (w : World) (base : Nat) : OwnN w base (.slice none 0 0) [] := ⟨World.ownsRow_nil _ _ _ _, fun k => by simp [inR]⟩
theorem infoInt : (Try.prog.info? 3).map (fun i => (i.zero, i.size, i.bytes)) = some (some (.int .i64 0), 1, 8) := by kernel_rfl

/-- What is left to come. -/
def stM (n : Nat) (z : Int) : Nat := if z < 0 then 0 else n + 1 - z.toNat
theorem stM_end {n k : Nat} (h : k ≤ n) : stM n (-1) < stM n k := by
  unfold stM
  rw [if_pos (by omega), if_neg (by omega)]
  omega
theorem stM_up {n k k2 : Nat} (h : k < k2) (h2 : k2 ≤ n) : stM n k2 < stM n k := by
  unfold stM
  rw [if_neg (by omega), if_neg (by omega)]
  omega
set_option maxHeartbeats 2000000 in
theorem nstops_walk (la : Option Addr) (lc : Nat) (L : List Int) (pa : Option Addr) (pc : Nat) (P : List Int) (f : Int) (w : World) (hl : L.length ≤ 1000000) (hp : P.length ≤ 1000000) (hf : inR f) (hP : IRow w.heap.size w pa P) :
    Calls Try.prog 14 #[nte la L.length lc pa P.length pc, .int .i64 f] w fun e w' => ∃ v, e = .returned v ∧ OwnN w' (w.heap.size + 1) v (stopsN L P f) ∧ Below w.heap.size w w' := by
  have hmx : 1000002 ≤ maxLen := by decide
  obtain ⟨i0, hi, hz0, hz1, hz2⟩ := info_parts infoInt
  have HC := Lib.hid fun (z : Int) (hz : inR z) x (hx : Below w.heap.size w x) => nfirst_any la lc L pa pc P z x hl hp hz ((hP.carry hx (Nat.le_refl _)).mono hx.size)
  have b0 := tbel1 w (.cells #[.slice la L.length lc, .slice pa P.length pc] 25)
  have B0 := blk_new w #[.slice la L.length lc, .slice pa P.length pc] 25
  have hz : (w.alloc (.cells #[.slice la L.length lc, .slice pa P.length pc] 25)).heap.size = w.heap.size + 1 := by simp
  have c0 := HC.out f hf _ b0
  have HF := Lib.hid (firstN_spec L P f)
  clear hP hf
  unfold nte at c0 ⊢ HC
  generalize firstN L P f = r at *
  go_enter Try.func14, Try.ntmps14
  go_wp2_with fail
  refine c0.mono ?_
  rintro e w1 ⟨rfl, b1⟩
  clear c0
  generalize w.alloc _ = U at *
  go_wp2_with fail
  go_loopw [5, 6] (fun v i wr => ∃ (u : Value) (z : Int) (k : Nat), u = v ∧ i = .int .i64 z ∧ Below (w.heap.size + 1) U wr ∧ ((k = L.length + 1 ∧ z = -1) ∨ (k ≤ L.length ∧ z = k ∧ f < (k : Int) ∧ mayN L P k = true)) ∧ OwnN wr (w.heap.size + 1) u (stopsUp L P f k)) (fun _ i _ => stM L.length (intOf i))
  case atStart =>
    rcases HF.out with ⟨h1, h2⟩ | ⟨k, h1, h2, h3, h4, h5⟩
    · exact ⟨_, _, L.length + 1, rfl, rfl, by rw [← hz]; exact b1, .inl ⟨rfl, h1⟩, by unfold stopsN at h2; rw [h2]; exact ownN_nil _ _⟩
    · exact ⟨_, _, k, rfl, rfl, by rw [← hz]; exact b1, .inr ⟨h1, h2, h3, h4⟩, by rw [h5]; exact ownN_nil _ _⟩
  case round =>
    obtain ⟨u, z, k, rfl, rfl, hbl, hk, hown⟩ := hrel
    have bw := b0.trans (hbl.mono (by omega))
    rcases hk with ⟨rfl, rfl⟩ | ⟨hk, rfl, hfk, hmk⟩
    · go_wp2
      go_ret
      exact ⟨_, rfl, hown, bw⟩
    · have hkl := stopsUp_len L P f k
      have hzr := hbl.size
      have HS := Lib.hid (stopsUp_yes hfk hmk)
      have HI : Hid (∀ j, inR ((stopsUp L P f (k + 1)).getD j 0)) := Lib.hid (stops_in (by omega))
      have HFF := Lib.hid hfk
      have cc := HC.out (k : Int) (by unfold inR; omega)
      clear hmk hfk
      go_wp2_with (at_builtin; refine wpList_append_own _ rfl _ _ 23 rfl (w.heap.size + 1) 3 i0 (.int .i64 0) 1 8 Try.underlying23 hi hz0 hz1 hz2 rfl (by decide) _ _ _ rfl (hown.own.alloc _) ⟨wr.heap.size, 0, none⟩ 1 1 [.int .i64 k] rfl rfl (cell_one_new _ _ _) (by simp [Value.oneCell']) (by omega) (by omega) (by simp; omega) ?_; intro v' w4 hown' hgrow _; have hb4 : Below (w.heap.size + 1) U w4 := hown.grow hbl (by omega) hgrow; obtain ⟨q0, q1⟩ := (B0.old (by rw [← hz] at hb4; exact hb4)).two)
      have ho4 : OwnN w4 (w.heap.size + 1) v' (stopsUp L P f (k + 1)) := ⟨by rw [HS.out]; simpa using hown', HI.out⟩
      have bw4 := b0.trans (hb4.mono (by omega))
      have c4 := cc _ bw4
      have HG := Lib.hid (firstN_spec L P k)
      have HK := Lib.hid fun d => stopsUp_split L P f k (by have := HFF.out; omega) d
      clear hown' hgrow cc HC hown HS HI
      generalize firstN L P k = r2 at *
      refine c4.mono ?_
      rintro e w5 ⟨rfl, b5⟩
      clear c4
      go_wp2
      go_roundw
      case rel =>
        have hb5 := hb4.trans (b5.mono (show w.heap.size + 1 ≤ w4.heap.size by have := hb4.size; omega))
        have ho5 := ho4.carry b5
        rcases HG.out with ⟨h1, h2⟩ | ⟨k2, h1, h2, h3, h4, h5⟩
        · refine ⟨_, _, L.length + 1, rfl, rfl, hb5, .inl ⟨rfl, h1⟩, ?_⟩
          have e := HK.out (L.length - k)
          unfold stopsN at h2
          rw [show k + 1 + (L.length - k) = L.length + 1 by omega, h2, List.append_nil] at e
          rw [e]
          exact ho5
        · refine ⟨_, _, k2, rfl, rfl, hb5, .inr ⟨h1, h2, by have := HFF.out; omega, h4⟩, ?_⟩
          have e := HK.out (k2 - (k + 1))
          rw [show k + 1 + (k2 - (k + 1)) = k2 by omega, h5, List.append_nil] at e
          rw [e]
          exact ho5
      case measure =>
        show stM L.length r2 < stM L.length (k : Int)
        rcases HG.out with ⟨h1, h2⟩ | ⟨k2, h1, h2, h3, h4, h5⟩
        · rw [h1]; exact stM_end hk
        · rw [h2]; exact stM_up (by omega) h1
theorem nstops_any (la : Option Addr) (lc : Nat) (L : List Int) (pa : Option Addr) (pc : Nat) (P : List Int) (f : Int) (w : World) (hl : L.length ≤ 1000000) (hp : P.length ≤ 1000000) (hf : inR f) (hP : IRow w.heap.size w pa P) :
    Calls Try.prog 14 #[nte la L.length lc pa P.length pc, .int .i64 f] w fun e w' => ∃ v, e = .returned v ∧ OwnN w' w.heap.size v (stopsN L P f) ∧ Below w.heap.size w w' :=
  (nstops_walk la lc L pa pc P f w hl hp hf hP).mono fun e w' ⟨v, h1, h2, h3⟩ => ⟨v, h1, h2.mono (by omega), h3⟩
set_option maxHeartbeats 2000000 in
theorem rnstops_walk (la : Option Addr) (lc : Nat) (L : List Int) (pa : Option Addr) (pc : Nat) (P : List Int) (f : Int) (w : World) (hl : L.length ≤ 1000000) (hp : P.length ≤ 1000000) (hP : IRow w.heap.size w pa P) :
    Calls Try.prog 15 #[nte la L.length lc pa P.length pc, .int .i64 f] w fun e w' => ∃ v, e = .returned v ∧ OwnN w' (w.heap.size + 1) v (stopsN L P f) ∧ Below w.heap.size w w' := by
  have hmx : 1000002 ≤ maxLen := by decide
  obtain ⟨i0, hi, hz0, hz1, hz2⟩ := info_parts infoInt
  have HC := Lib.hid fun (z : Int) x (hx : Below w.heap.size w x) => rnmay_any la lc L pa pc P z x hl hp ((hP.carry hx (Nat.le_refl _)).mono hx.size)
  have b0 := tbel1 w (.cells #[.slice la L.length lc, .slice pa P.length pc] 25)
  have B0 := blk_new w #[.slice la L.length lc, .slice pa P.length pc] 25
  have hz : (w.alloc (.cells #[.slice la L.length lc, .slice pa P.length pc] 25)).heap.size = w.heap.size + 1 := by simp
  clear hP
  unfold nte at ⊢ HC
  go_enter Try.func15, Try.ntmps15
  go_wp2_with fail
  generalize w.alloc _ = U at *
  go_loopw [5, 6] (fun v i wr => ∃ (u : Value) (k : Nat), u = v ∧ i = .int .i64 k ∧ k ≤ L.length + 1 ∧ Below (w.heap.size + 1) U wr ∧ OwnN wr (w.heap.size + 1) u (stopsUp L P f k)) (fun _ i _ => L.length + 1 - (intOf i).toNat)
  case atStart => exact ⟨_, 0, rfl, rfl, by omega, Below.refl _ _, ownN_nil _ _⟩
  case round =>
    obtain ⟨u, k, rfl, rfl, hk, hbl, hown⟩ := hrel
    have bw := b0.trans (hbl.mono (by omega))
    have hzr := hbl.size
    obtain ⟨q0, q1⟩ := (B0.old (by rw [← hz] at hbl; exact hbl)).two
    by_cases hlt : k ≤ L.length
    · have hkl := stopsUp_len L P f k
      have cc := HC.out (k : Int) _ bw
      by_cases hfk : f < (k : Int)
      · cases hmk : mayN L P k
        · rw [hmk] at cc
          have HS := Lib.hid (stopsUp_no (f := f) (.inr hmk))
          clear hmk HC
          go_wp2_with fail
          refine cc.mono ?_
          rintro e w1 ⟨rfl, b1⟩
          clear cc
          go_wp2
          go_roundw
          case rel => exact ⟨_, k + 1, rfl, by go_num, by omega, hbl.trans (b1.mono (by omega)), by rw [HS.out]; exact hown.carry b1⟩
          case measure => simp [intOf]; omega
        · rw [hmk] at cc
          have HS := Lib.hid (stopsUp_yes hfk hmk)
          have HI : Hid (∀ j, inR ((stopsUp L P f (k + 1)).getD j 0)) := Lib.hid (stops_in (by omega))
          clear hmk HC
          go_wp2_with fail
          refine cc.mono ?_
          rintro e w1 ⟨rfl, b1⟩
          clear cc q0 q1
          have hbl1 := hbl.trans (b1.mono (show w.heap.size + 1 ≤ wr.heap.size by omega))
          have hown1 := hown.carry b1
          have hz1' := hbl1.size
          clear hown hbl hzr
          go_wp2_with (at_builtin; refine wpList_append_own _ rfl _ _ 23 rfl (w.heap.size + 1) 3 i0 (.int .i64 0) 1 8 Try.underlying23 hi hz0 hz1 hz2 rfl (by decide) _ _ _ rfl (hown1.own.alloc _) ⟨w1.heap.size, 0, none⟩ 1 1 [.int .i64 k] rfl rfl (cell_one_new _ _ _) (by simp [Value.oneCell']) (by omega) (by omega) (by simp; omega) ?_; intro v' w4 hown' hgrow _)
          have hb4 : Below (w.heap.size + 1) U w4 := hown1.grow hbl1 (by omega) hgrow
          have ho4 : OwnN w4 (w.heap.size + 1) v' (stopsUp L P f (k + 1)) := ⟨by rw [HS.out]; simpa using hown', HI.out⟩
          go_roundw
          case rel => exact ⟨_, k + 1, rfl, by go_num, by omega, hb4, ho4⟩
          case measure => simp [intOf]; omega
      · have HS := Lib.hid (stopsUp_no (L := L) (P := P) (.inl hfk))
        clear cc HC
        go_wp2
        go_roundw
        case rel => exact ⟨_, k + 1, rfl, by go_num, by omega, hbl, by rw [HS.out]; exact hown⟩
        case measure => simp [intOf]; omega
    · obtain rfl : k = L.length + 1 := by omega
      clear HC
      go_wp2
      go_ret
      exact ⟨_, rfl, hown, bw⟩
theorem rnstops_any (la : Option Addr) (lc : Nat) (L : List Int) (pa : Option Addr) (pc : Nat) (P : List Int) (f : Int) (w : World) (hl : L.length ≤ 1000000) (hp : P.length ≤ 1000000) (hP : IRow w.heap.size w pa P) :
    Calls Try.prog 15 #[nte la L.length lc pa P.length pc, .int .i64 f] w fun e w' => ∃ v, e = .returned v ∧ OwnN w' w.heap.size v (stopsN L P f) ∧ Below w.heap.size w w' :=
  (rnstops_walk la lc L pa pc P f w hl hp hP).mono fun e w' ⟨v, h1, h2, h3⟩ => ⟨v, h1, h2.mono (by omega), h3⟩
theorem rnfirst_any (la : Option Addr) (lc : Nat) (L : List Int) (pa : Option Addr) (pc : Nat) (P : List Int) (f : Int) (w : World) (hl : L.length ≤ 1000000) (hp : P.length ≤ 1000000) (hP : IRow w.heap.size w pa P) :
    Calls Try.prog 17 #[nte la L.length lc pa P.length pc, .int .i64 f] w fun e w' => e = .returned (.int .i64 (firstN L P f)) ∧ Below w.heap.size w w' := by
  have c := fun x (hx : Below w.heap.size w x) => rnstops_any la lc L pa pc P f x hl hp ((hP.carry hx (Nat.le_refl _)).mono hx.size)
  clear hP
  unfold nte at c ⊢
  unfold firstN
  have hsl : (stopsN L P f).length ≤ 1000001 := Nat.le_trans (stopsUp_len L P f _) (by omega)
  generalize stopsN L P f = S at *
  cases S with
  | nil =>
    go_enter Try.func17, Try.ntmps17
    go_wp2_with fail
    refine (c _ (tbel1 w _)).mono ?_
    rintro e w1 ⟨v, rfl, ho, b1⟩
    replace b1 := tstep (tbel1 w _) b1 (tbel1 w _).size
    obtain ⟨a, cap, rfl, h1, h2, hr⟩ := ho.row
    clear c ho hr
    go_wp2
    go_ret
    exact ⟨rfl, b1⟩
  | cons s S' =>
    go_enter Try.func17, Try.ntmps17
    go_wp2_with fail
    refine (c _ (tbel1 w _)).mono ?_
    rintro e w1 ⟨v, rfl, ho, b1⟩
    replace b1 := tstep (tbel1 w _) b1 (tbel1 w _).size
    obtain ⟨a, cap, rfl, h1, h2, hr⟩ := ho.row
    clear c ho
    obtain ⟨hin, b, off, rfl, hB, hc⟩ := hr 0 (by simp)
    simp only [List.getD_cons_zero, Nat.add_zero] at hc hin
    clear hr
    simp only [List.length_cons] at hsl h1 ⊢
    generalize S'.length = n at *
    go_wp2
    go_ret
    exact ⟨rfl, b1⟩
end Go.Proofs.Ytimpphkikihhaaa
