/- Package decode: read. Package decode: Job, Where, Begins. -/
import Derived.Test.YtjfjekncmejfpaaRPt2
import Derived.Test.YtjfjekncmejfpaaJLaw
namespace Go.Proofs.Ytjfjekncmejfpaa
open Go.RowKit
set_option maxRecDepth 20000
set_option linter.unusedVariables false
set_option linter.unusedSimpArgs false

def partsC : Array Value := #[.string (nameP 0), .func (.func 58) #[] #[], .string (nameP 1), .func (.func 59) #[] #[], .string (nameP 2), .func (.func 60) #[] #[], .string (nameP 3), .func (.func 61) #[] #[], .string (nameP 4), .func (.func 62) #[] #[]]
theorem parts_any (w : World) : Calls Try.prog 36 #[] w fun e w' => e = .returned (.slice (some ⟨w.heap.size, 0, none⟩) 5 5) ∧ Blk w' w.heap.size partsC 97 ∧ Below w.heap.size w w' := by
  go_enter Try.func36, Try.ntmps36
  go_wp2
  go_ret
  exact ⟨rfl, blk_new w partsC 97, tbel1 w _⟩
/-- What has been read behind k parts. -/
structure PartOk (bs : List Int) (B k : Nat) (y : World) (j : J4) (s : S3) : Prop where
  geo : 2 ≤ k → j.g = (rdG bs).1
  its : 3 ≤ k → j.items = (rdI bs).1 ∧ (j.items.length ≤ s.ic ∧ s.ic ≤ maxLen) ∧ OwnE 49 7 encI B y s.ia j.items.length fun i => j.items.getD i zeroI
  nts : 4 ≤ k → j.notes = (rdN bs).1 ∧ (j.notes.length ≤ s.nc ∧ s.nc ≤ maxLen) ∧ ∃ hl, (OwnE 76 2 encH B y s.na hl.length fun i => hl.getD i zeroH) ∧ NotesL B y hl j.notes
  fls : 5 ≤ k → j.floats = (rdF bs).1 ∧ (j.floats.length ≤ s.fc ∧ s.fc ≤ maxLen) ∧ OwnE 90 3 encF B y s.fa j.floats.length fun i => j.floats.getD i zeroF
theorem PartOk.near {bs : List Int} {B k : Nat} {y z : World} {j : J4} {s : S3} {M : Nat → Prop} (H : PartOk bs B k y j s) (hz : Near M y z) (hM : ∀ i, M i → i < B) : PartOk bs B k z j s :=
  ⟨H.geo, fun hk => ⟨(H.its hk).1, (H.its hk).2.1, (H.its hk).2.2.near hz hM⟩, fun hk => by
    obtain ⟨h1, h2, hl, h3, h4⟩ := H.nts hk
    exact ⟨h1, h2, hl, h3.near hz hM, h4.near hz hM⟩, fun hk => ⟨(H.fls hk).1, (H.fls hk).2.1, (H.fls hk).2.2.near hz hM⟩⟩
section
variable {bs : List Int} {B : Nat} {y : World} {j : J4} {s : S3}
theorem PartOk.one (bs : List Int) (B : Nat) (y : World) (j : J4) (s : S3) : PartOk bs B 1 y j s := ⟨fun h => by omega, fun h => by omega, fun h => by omega, fun h => by omega⟩
theorem PartOk.two {G : G19} (e : G = (rdG bs).1) : PartOk bs B 2 y { j with g := G } s := ⟨fun _ => e, fun h => by omega, fun h => by omega, fun h => by omega⟩
theorem PartOk.three (P : PartOk bs B 2 y j s) {L : List I7} {a : Option Addr} {k : Nat} (e : L = (rdI bs).1) (hk : L.length ≤ k ∧ k ≤ maxLen) (O : OwnE 49 7 encI B y a L.length fun i => L.getD i zeroI) : PartOk bs B 3 y { j with items := L } { s with ia := a, ic := k } :=
  ⟨fun _ => P.geo (Nat.le_refl _), fun _ => ⟨e, hk, O⟩, fun h => by omega, fun h => by omega⟩
theorem PartOk.four (P : PartOk bs B 3 y j s) {L : List N2} {a : Option Addr} {k : Nat} {hl : List H2} (e : L = (rdN bs).1) (hk : L.length ≤ k ∧ k ≤ maxLen) (O : OwnE 76 2 encH B y a hl.length fun i => hl.getD i zeroH) (N : NotesL B y hl L) : PartOk bs B 4 y { j with notes := L } { s with na := a, nc := k } :=
  ⟨fun _ => P.geo (by omega), fun _ => P.its (Nat.le_refl _), fun _ => ⟨e, hk, hl, O, N⟩, fun h => by omega⟩
theorem PartOk.five (P : PartOk bs B 4 y j s) {L : List F3} {a : Option Addr} {k : Nat} (e : L = (rdF bs).1) (hk : L.length ≤ k ∧ k ≤ maxLen) (O : OwnE 90 3 encF B y a L.length fun i => L.getD i zeroF) : PartOk bs B 5 y { j with floats := L } { s with fa := a, fc := k } :=
  ⟨fun _ => P.geo (by omega), fun _ => P.its (by omega), fun _ => P.nts (Nat.le_refl _), fun _ => ⟨e, hk, O⟩⟩
end
/-- The reader behind k parts. -/
def RdS (bs : List Int) (h g : Nat) (a : Option Addr) (c k : Nat) (y : World) : Prop :=
  RdP bs y h g a c (posJ bs k).1 (posJ bs k).2 ∧ (g < h ∧ h + 1 ≤ y.heap.size) ∧ ∃ j s, RjAt y h g j s ∧ ((posJ bs k).2 = false → PartOk bs (h + 1) k y j s)
theorem jobR_pos (bs : List Int) : (jobR bs 0 false).2 = (rdF bs).2 := by rw [jobR_is]
theorem jobR_val (bs : List Int) : (jobR bs 0 false).1 = ⟨(rdG bs).1, (rdI bs).1, (rdN bs).1, (rdF bs).1⟩ := by rw [jobR_is]
theorem partJ_five {bs : List Int} (h : (rdF bs).2.2 = false) : partJ bs = 5 := by
  rw [partJ_end, jobR_pos]
  exact h
theorem RdS.old {bs : List Int} {h g : Nat} {a : Option Addr} {c k : Nat} {y z : World} (H : RdS bs h g a c k y) (hz : Old y z) : RdS bs h g a c k z := by
  obtain ⟨H1, hg, j, s, D, hP⟩ := H
  exact ⟨H1.old hz, ⟨hg.1, Nat.le_trans hg.2 hz.size⟩, j, s, D.old hz, fun hn => (hP hn).near (M := fun _ => False) (Near.of hz) (fun _ e => e.elim)⟩
theorem part_call (bs : List Int) (h g : Nat) (a : Option Addr) (c k : Nat) (hk : k < 5) :
    ∃ F, partsC[k * 2]? = some (.string (nameP k)) ∧ partsC[k * 2 + 1]? = some (.func (.func F) #[] #[]) ∧ (∀ v w, Sem.run Try.prog (callFunc F #[v]) w = .ok (.enter F #[v]) w) ∧
      ∀ x, RdS bs h g a c k x → (posJ bs k).2 = false → Calls Try.prog F #[.pointer (some ⟨h, 0, none⟩)] x fun e y => e = .returned (.tuple #[]) ∧ RdS bs h g a c (k + 1) y ∧ Two g h x y := by
  have hM : g < h → ∀ i, (i = g ∨ i = h) → i < h + 1 := fun hg i hi => by omega
  have hk' : k = 0 ∨ k = 1 ∨ k = 2 ∨ k = 3 ∨ k = 4 := by omega
  rcases hk' with rfl | rfl | rfl | rfl | rfl
  · refine ⟨58, rfl, rfl, fun v w => by kernel_rfl, fun x hx hs => ?_⟩
    obtain ⟨H, hg, j, s, D, hP⟩ := hx
    rw [posJ0] at H
    refine (magic_any bs h g a c 0 false x H).mono ?_
    rintro e y ⟨he, H1, B1⟩
    unfold RdS
    rw [Nat.zero_add, posJ1, pos1]
    exact ⟨he, ⟨H1, ⟨hg.1, Nat.le_trans hg.2 B1.size⟩, j, s, D.but B1 H.ne, fun _ => PartOk.one _ _ _ _ _⟩, B1.two⟩
  · refine ⟨59, rfl, rfl, fun v w => by kernel_rfl, fun x hx hs => ?_⟩
    obtain ⟨H, hg, j, s, D, hP⟩ := hx
    rw [posJ1] at H
    refine (geometry_any bs h g a c _ _ x j s H D).mono ?_
    rintro e y ⟨he, H1, D1, T1⟩
    rw [← rdG] at H1 D1
    unfold RdS
    rw [posJ2]
    exact ⟨he, ⟨H1, ⟨hg.1, Nat.le_trans hg.2 T1.size⟩, _, s, D1, fun _ => PartOk.two rfl⟩, T1⟩
  · refine ⟨60, rfl, rfl, fun v w => by kernel_rfl, fun x hx hs => ?_⟩
    obtain ⟨H, hg, j, s, D, hP⟩ := hx
    have P0 := hP hs
    rw [posJ2] at H hs
    refine (items_any bs h g a c _ _ x j s H D).mono ?_
    rintro e y ⟨he, H1, T1, a1, k1, D1, L1, O1⟩
    have hv := each_val itemR bs (rdG bs).2.1 (rdG bs).2.2
    rw [← rdI] at H1 hv
    unfold RdS
    rw [posJ3]
    have P1 := P0.near T1 (hM hg.1)
    exact ⟨he, ⟨H1, ⟨hg.1, Nat.le_trans hg.2 T1.size⟩, _, _, D1, fun hn => P1.three (hv hn) L1 (O1.mono hg.2)⟩, T1⟩
  · refine ⟨61, rfl, rfl, fun v w => by kernel_rfl, fun x hx hs => ?_⟩
    obtain ⟨H, hg, j, s, D, hP⟩ := hx
    have P0 := hP hs
    rw [posJ3] at H hs
    refine (notes_any bs h g a c _ _ x j s H D).mono ?_
    rintro e y ⟨he, H1, T1, a1, k1, D1, L1, hl, O1, N1⟩
    have hv := each_val noteR bs (rdI bs).2.1 (rdI bs).2.2
    rw [← rdN] at H1 hv
    unfold RdS
    rw [posJ4]
    have P1 := P0.near T1 (hM hg.1)
    exact ⟨he, ⟨H1, ⟨hg.1, Nat.le_trans hg.2 T1.size⟩, _, _, D1, fun hn => P1.four (hv hn) L1 (O1.mono hg.2) (N1.mono hg.2)⟩, T1⟩
  · refine ⟨62, rfl, rfl, fun v w => by kernel_rfl, fun x hx hs => ?_⟩
    obtain ⟨H, hg, j, s, D, hP⟩ := hx
    have P0 := hP hs
    rw [posJ4] at H hs
    refine (floats_any bs h g a c _ _ x j s H D).mono ?_
    rintro e y ⟨he, H1, T1, a1, k1, D1, L1, O1⟩
    have hv := each_val floatR bs (rdN bs).2.1 (rdN bs).2.2
    rw [← rdF] at H1 hv
    unfold RdS
    rw [posJ5]
    have P1 := P0.near T1 (hM hg.1)
    exact ⟨he, ⟨H1, ⟨hg.1, Nat.le_trans hg.2 T1.size⟩, _, _, D1, fun hn => P1.five (hv hn) L1 (O1.mono hg.2)⟩, T1⟩
theorem Two.below {g h B : Nat} {w x y : World} (H : Below B w x) (T : Two g h x y) (hg : B ≤ g) (hh : B ≤ h) (hB : B ≤ x.heap.size) : Below B w y := H.trans (Near.below T (fun i hi => by omega) hB)
set_option maxHeartbeats 1000000 in
theorem read_any (bs : List Int) (a : Option Addr) (c : Nat) (w : World) (hl : bs.length ≤ 1000000) (hB : Byt bs) (hr : Row w a c bs) :
    Calls Try.prog 15 #[.slice a bs.length c] w fun e w' => ∃ h g, e = .returned (.tuple #[.pointer (some ⟨h, 0, none⟩), .string (nameP (partJ bs))]) ∧ RdP bs w' h g a c (rdF bs).2.1 (rdF bs).2.2 ∧ Below w.heap.size w w' ∧ (w.heap.size ≤ g ∧ g < h) ∧
      ∃ j s, RjAt w' h g j s ∧ ((rdF bs).2.2 = false → PartOk bs (h + 1) 5 w' j s) := by
  have HR := Lib.hid hr
  clear hr
  go_enter Try.func15, Try.ntmps15
  go_upto_region 2 with (refine (open_any a c bs.length w).mono ?_; rintro e w1 ⟨rfl, R1, b1⟩)
  have hg := R1.lt
  have D := blk_new w1 (rdrL w.heap.size zeroJ zeroS4).toArray 56
  have b2 := tbel1 w1 (.cells (rdrL w.heap.size zeroJ zeroS4).toArray 56)
  have b3 := tstep b1 b2 b1.size
  have b2' : w1.heap.size < (w1.alloc (.cells (rdrL w.heap.size zeroJ zeroS4).toArray 56)).heap.size := by simp
  have S0 : RdS bs w1.heap.size w.heap.size a c 0 (w1.alloc (.cells (rdrL w.heap.size zeroJ zeroS4).toArray 56)) := by
    unfold RdS
    rw [posJ0]
    exact ⟨⟨Nat.zero_le _, hl, hB, by omega, b2', RjAt.ptr (j := zeroJ) (s := zeroS4) D, R1.old b2, HR.out.carry b3⟩, ⟨hg, b2'⟩, zeroJ, zeroS4, D, fun _ => ⟨fun h => by omega, fun h => by omega, fun h => by omega, fun h => by omega⟩⟩
  clear D b2
  change Code.wp _ _ _ _ (w1.alloc (.cells (rdrL w.heap.size zeroJ zeroS4).toArray 56))
  generalize w1.alloc _ = U at *
  generalize w1.heap.size = h at *
  clear R1 b1
  go_upto_region 3 with (refine (parts_any U).mono ?_; rintro e w2 ⟨rfl, P2, b4⟩)
  have hhP : h < U.heap.size := S0.2.1.2
  have S2 := S0.old b4
  have b5 := tstep b3 b4 (by omega)
  have hPl := P2.lt
  generalize U.heap.size = P at *
  clear S0 b3 b4 U b2'
  go_loopw [13] (fun i wr => ∃ k : Nat, k ≤ 5 ∧ i = .int .i64 k ∧ Hid (RdS bs h w.heap.size a c k wr) ∧ Hid ((posJ bs k).2 = false) ∧ Hid (Blk wr P partsC 97) ∧ Below w.heap.size w wr ∧ P < wr.heap.size) (fun i _ => 5 - (intOf i).toNat)
  case atStart => exact ⟨0, by omega, rfl, Lib.hid S2, Lib.hid (by rw [posJ0]), Lib.hid P2, b5, hPl⟩
  case round =>
    clear S2 P2 b5 hPl
    obtain ⟨k, hk, rfl, HS, HN, HP, b6, hPl⟩ := hrel
    by_cases hlt : k < 5
    · obtain ⟨F, f0, f1, hF, cF⟩ := part_call bs h w.heap.size a c k hlt
      have p0 := (HP.out.cell (k * 2)).trans f0
      have p1 := (HP.out.cell (k * 2 + 1)).trans f1
      obtain ⟨S, hS⟩ : ∃ S, S = nameP k := ⟨_, rfl⟩
      rw [← hS] at p0
      have HSn := Lib.hid hS
      clear hS f0 f1
      have b7 := tbel1 wr (.cells #[.string S, .func (.func F) #[] #[]] 97)
      have D7 := blk_new wr #[.string S, .func (.func F) #[] #[]] 97
      have S7 := Lib.hid (HS.out.old b7)
      have P7 := Lib.hid (HP.out.old b7)
      have b8 := tstep b6 b7 (by have := b6.size; omega)
      have cf := fun x hx => cF x hx HN.out
      clear HS b7 cF
      go_wp2_with fail
      refine (cf _ S7.out).mono ?_
      rintro e y ⟨rfl, S8, T8⟩
      have hwg : wr.heap.size ≠ w.heap.size := by omega
      have hwh : wr.heap.size ≠ h := by omega
      have D8 := D7.near T8 (by omega)
      have P8 := P7.out.near T8 (by omega)
      have b9 := T8.below b8 (Nat.le_refl _) (by omega) (by have := b8.size; omega)
      have hy := T8.size
      have hyP : P < y.heap.size := by simp at hy; omega
      clear S7 P7 D7 b8 HP T8 cf p0 p1 hy
      obtain ⟨H8, hg8, j8, s8, E8, Q8⟩ := S8
      have d0 := H8.ptr
      have n0 := D8.two.1
      have cr := right_any w.heap.size a c bs.length _ _ y H8.cd
      cases hst : (posJ bs (k + 1)).2 with
      | true =>
        rw [hst, Bool.not_true] at cr
        have hpj := partJ_at bs k hlt HN.out hst
        have hpe := posJ_end bs k hlt hst
        have HX := Lib.hid (And.intro H8 (And.intro E8 (And.intro hst (And.intro hpj hpe))))
        clear H8 E8 Q8 hst hpj hpe HN
        go_wp2_with (refine cr.mono ?_; rintro e w4 ⟨rfl, rfl⟩)
        go_quiet (fail)
        go_wp2
        go_ret2
        obtain ⟨H8, E8, hst, hpj, hpe⟩ := HX.out
        have H9 := H8.old (bdrewN (Below.refl _ _) nq)
        have E9 := E8.old (bdrewN (Below.refl _ _) nq)
        clear H8 E8
        rw [hpj, hpe, ← HSn.out]
        exact ⟨h, w.heap.size, rfl, H9, bdrewN b9 _, ⟨Nat.le_refl _, hg8.1⟩, j8, s8, E9, fun hn => by rw [hst] at hn; cases hn⟩
      | false =>
        rw [hst, Bool.not_false] at cr
        have HX := Lib.hid (show RdS bs h w.heap.size a c (k + 1) y from ⟨H8, hg8, j8, s8, E8, Q8⟩)
        have HY := Lib.hid hst
        clear H8 E8 Q8 hst HN HSn
        go_wp2_with (refine cr.mono ?_; rintro e w4 ⟨rfl, rfl⟩)
        go_roundw
        case rel => exact ⟨k + 1, by omega, by go_num, HX, HY, Lib.hid P8, b9, hyP⟩
        case measure => simp [intOf]; omega
    · obtain rfl : k = 5 := by omega
      have HX := Lib.hid (And.intro HS.out HN.out)
      clear HS HN HP
      go_wp2
      go_ret2
      obtain ⟨⟨H8, hg8, j8, s8, E8, Q8⟩, hn⟩ := HX.out
      have hpj : partJ bs = 5 := by
        rw [posJ5] at hn
        exact partJ_five hn
      have hQ := Q8 hn
      rw [posJ5] at H8
      rw [hpj]
      exact ⟨h, w.heap.size, rfl, H8, b6, ⟨Nat.le_refl _, hg8.1⟩, j8, s8, E8, fun _ => hQ⟩
end Go.Proofs.Ytjfjekncmejfpaa
namespace Go.Proofs.Ytjfjekncmejfpaa
open Go.RowKit
set_option maxRecDepth 20000
set_option linter.unusedVariables false
set_option linter.unusedSimpArgs false

/-! ### Plain mathematics -/
theorem get_all {α : Type} {P : α → Prop} {l : List α} {d : α} (h : ∀ x ∈ l, P x) (hd : P d) (k : Nat) : P (l.getD k d) := by
  rcases Nat.lt_or_ge k l.length with hk | hk
  · rw [List.getD_eq_getElem?_getD, List.getElem?_eq_getElem hk]
    exact h _ (List.getElem_mem hk)
  · rw [List.getD_eq_getElem?_getD, List.getElem?_eq_none hk]
    exact hd
theorem okJ.ins {j : J4} (h : okJ j) : inJ j := by
  obtain ⟨h1, h2, h3, h4⟩ := h
  have z := zero_in 0
  exact ⟨h1, get_all (fun x hx => (h2.2 x hx).2) z.1, get_all h4.2 z.2⟩
theorem mem_le {α : Type} {f : α → List Int} {x : α} : ∀ {l : List α}, x ∈ l → (f x).length ≤ (l.flatMap f).length
  | y :: l, h => by
    rw [List.flatMap_cons, List.length_append]
    rcases List.mem_cons.1 h with rfl | h
    · omega
    · have := mem_le (f := f) h
      omega
/-- A job is no greater than its encoding. -/
structure Fits (n : Nat) (j : J4) : Prop where
  items : j.items.length ≤ n
  notes : j.notes.length ≤ n
  floats : j.floats.length ≤ n
  each : ∀ k, (j.notes.getD k zeroN).l.length ≤ n ∧ (j.notes.getD k zeroN).p.length ≤ n
  all : (j.notes.flatMap noteE).length ≤ n
theorem okJ.fits {j : J4} (h : okJ j) {n : Nat} (hn : (jobE j).length ≤ n) : Fits n j := by
  obtain ⟨h1, h2, h3, h4⟩ := h
  have a := flat_ge (fun x (_ : bareI x ∧ inI x) => itemE_one x) j.items h2.2
  have b := flat_ge (fun x (_ : okN x) => noteE_one x) j.notes h3.2
  have c := flat_ge (fun x (_ : inF x) => floatE_one x) j.floats h4.2
  unfold jobE listE at hn
  simp only [List.length_append] at hn
  refine ⟨by omega, by omega, by omega, get_all (P := fun x : N2 => x.l.length ≤ n ∧ x.p.length ≤ n) (fun x hx => ?_) ⟨Nat.zero_le _, Nat.zero_le _⟩, by omega⟩
  have d := Nat.le_trans (mem_le (f := noteE) hx) (show (j.notes.flatMap noteE).length ≤ n by omega)
  have e := h3.2 x hx
  have f1 := flat_ge (fun x (_ : in64 x) => chZ_one x) x.l e.1.2
  have f2 := flat_ge (fun x (_ : in64 x) => chZ_one x) x.p e.2.2
  unfold noteE listE at d
  simp only [List.length_append] at d
  omega
theorem Fits.room {j : J4} (h : Fits 1000000 j) : RoomJ j := ⟨h.items, h.notes, h.floats, h.each⟩
theorem Fits.mid {j : J4} {n : Nat} (h : Fits n j) (hn : n ≤ 3000) : Mid j := ⟨Nat.le_trans h.items hn, Nat.le_trans h.notes hn, Nat.le_trans h.floats hn, fun k => ⟨Nat.le_trans (h.each k).1 hn, Nat.le_trans (h.each k).2 hn⟩, by have := h.all; omega⟩
/-- All bytes are those of a job. -/
def okB (bs : List Int) : Prop := (jobR bs 0 false).2.2 = false ∧ (jobR bs 0 false).2.1 = bs.length
/-- The job that the bytes encode, or an empty one. -/
noncomputable def decJ (bs : List Int) : J4 := bif isB (okB bs) then (jobR bs 0 false).1 else zeroJ
theorem decJ_yes {bs : List Int} (h : okB bs) : decJ bs = (jobR bs 0 false).1 := by unfold decJ; rw [isB_yes h]; rfl
theorem decJ_no {bs : List Int} (h : ¬ okB bs) : decJ bs = zeroJ := by unfold decJ; rw [isB_no h]; rfl
theorem okB_these {bs : List Int} (hB : Byt bs) (h : okB bs) : okJ (jobR bs 0 false).1 ∧ bs = jobE (jobR bs 0 false).1 := by
  obtain ⟨h1, _, h3⟩ := job_reads.these hB h.1
  rw [h.2, List.take_length] at h3
  exact ⟨h1, h3⟩
theorem zero_fits (n : Nat) : Fits n zeroJ := ⟨Nat.zero_le _, Nat.zero_le _, Nat.zero_le _, fun k => by simp [zeroJ, zeroN], Nat.zero_le _⟩
theorem decJ_fits {bs : List Int} (hB : Byt bs) {n : Nat} (hn : bs.length ≤ n) : Fits n (decJ bs) := by
  by_cases h : okB bs
  · rw [decJ_yes h]
    obtain ⟨h1, h2⟩ := okB_these hB h
    exact h1.fits (by rw [← h2]; exact hn)
  · rw [decJ_no h]
    exact zero_fits n
theorem zero_lists (w : World) : Lists w zeroJ zeroS4 := by
  have z := zero_in 0
  have r0 : inR 0 := by unfold inR; omega
  exact ⟨⟨⟨r0, r0, r0, r0, r0, r0, r0, r0, r0, r0, r0, r0, r0, r0, r0, r0, r0, r0⟩, get_all (fun x hx => by simp [zeroJ] at hx) z.1, get_all (fun x hx => by simp [zeroJ] at hx) z.2⟩, fun k i hk => by simp [zeroJ] at hk, ⟨fun _ => zeroH, fun k i hk => by simp [zeroJ] at hk, fun k hk => by simp [zeroJ] at hk⟩, fun k i hk => by simp [zeroJ] at hk, ⟨Nat.le_refl _, by decide⟩, ⟨Nat.le_refl _, by decide⟩, ⟨Nat.le_refl _, by decide⟩⟩
theorem PartOk.lists {bs : List Int} {B : Nat} {y : World} {j : J4} {s : S3} (P : PartOk bs B 5 y j s) (hj : okJ (jobR bs 0 false).1) : j = (jobR bs 0 false).1 ∧ Lists y j s := by
  have e0 := P.geo (by omega)
  obtain ⟨e1, c1, o1⟩ := P.its (by omega)
  obtain ⟨e2, c2, hl, o2, n2⟩ := P.nts (by omega)
  obtain ⟨e3, c3, o3⟩ := P.fls (by omega)
  have e : j = (jobR bs 0 false).1 := by
    rw [jobR_val, ← e0, ← e1, ← e2, ← e3]
  refine ⟨e, lists_own o1 (hs := fun i => hl.getD i zeroH) ?_ n2.2 o3 ?_ ⟨c1, c2, c3⟩⟩
  · rw [← n2.1]; exact o2
  · rw [e]; exact hj.ins
theorem PartOk.row {bs : List Int} {B k b : Nat} {y : World} {j : J4} {s : S3} (H : PartOk bs B k y j s) (hb : b < B) (cs : Array Value) : PartOk bs B k (y.setRow b cs) j s :=
  ⟨H.geo, fun hk => ⟨(H.its hk).1, (H.its hk).2.1, (H.its hk).2.2.row hb cs⟩, fun hk => by
    obtain ⟨h1, h2, hl, h3, h4⟩ := H.nts hk
    exact ⟨h1, h2, hl, h3.row hb cs, h4.1, fun i hi => (h4.2 i hi).row hb cs⟩, fun hk => ⟨(H.fls hk).1, (H.fls hk).2.1, (H.fls hk).2.2.row hb cs⟩⟩
/-- The job that a reader holds is loaded whole. -/
theorem load_rjob {o : Oper} {a : Act} {w : World} {j : J4} {s : S3} {h g : Nat} (x : Operand) (ho : o.op = .load 31 x) (hx : a.eval x = .pointer (some ⟨h, 1, none⟩)) (D : RjAt w h g j s) :
    (execOp a.eval o).run Try.prog w = .ok (.value (.agg (jobC j s))) w := by
  have e := run_loadAt_mid (P := Try.prog) w h 1 31 (jobC j s).toList _ D.range Try.underlying31 rfl info29
  unfold execOp
  simp only [ho, hx, Sem.run_bind, Sem.run_pure, Result.andThen_ok, e, Array.toArray_toList]
theorem results_cell_tmp {P : Program} {fn : Func} {p q : Tmp} {ty : TypeId} (h : fn.results = #[.cell p ty, .tmp q]) (tmps : Array Value) (w : World) (g : Nat) (t : TypeId) (cs : Array Value) (fr : Nat × Nat) (d : TypeDesc) (v : Value)
    (hp : tmps.getD p undef = .pointer (some ⟨g, 0, none⟩)) (hq : tmps.getD q undef = v) (hg : w.heap[g]? = some (.cells cs t fr))
    (hu : P.underlying ty = some d) (hd : (match d with | .struct _ | .array _ _ => true | _ => false) = true) (hi : (P.info? ty).map (·.size) = some cs.size) :
    (results fn tmps).run P w = .ok (.tuple #[.agg cs, v]) w := by
  have hp' : tmps[p]?.getD undef = .pointer (some ⟨g, 0, none⟩) := by simpa using hp
  have hq' : tmps[q]?.getD undef = v := by simpa using hq
  simp [results, h, hp', hq', asAddr, run_loadVar_row w g t ty cs fr d hg hu hd hi]
theorem build_zjob {o : Oper} {a : Act} (ho : o.op = .build 31 #[]) (w : World) : (execOp a.eval o).run Try.prog w = .ok (.value (.agg (jobC zeroJ zeroS4))) w := by
  unfold execOp
  rw [ho]
  kernel_rfl
/-! ### Job -/
set_option maxHeartbeats 1000000 in
theorem dJob_any (bs : List Int) (a : Option Addr) (c : Nat) (w : World) (hl : bs.length ≤ 1000000) (hB : Byt bs) (hr : Row w a c bs) :
    Calls Try.prog 7 #[.slice a bs.length c] w fun e w' => ∃ s, e = .returned (.tuple #[.agg (jobC (decJ bs) s), .int .i64 (endR (jobR bs 0 false).2.2 (jobR bs 0 false).2.1 bs.length)]) ∧ Lists w' (decJ bs) s ∧ Below w.heap.size w w' := by
  have D0 := job_new w zeroJ zeroS4
  have b0 := tbel1 w (.cells (jobC zeroJ zeroS4) 31)
  have s0 : w.heap.size < (w.alloc (.cells (jobC zeroJ zeroS4) 31)).heap.size := by simp
  have cr := fun y (hy : Row y a c bs) => read_any bs a c y hl hB hy
  have hr0 := hr.carry b0
  have hP : (jobR bs 0 false).2 = (rdF bs).2 := jobR_pos bs
  have hy := fun h : okB bs => decJ_yes h
  have hn := fun h : ¬ okB bs => decJ_no h
  have ht := fun h : okB bs => (okB_these hB h).1
  have hL := fun (B : Nat) (y : World) (j : J4) (s : S3) (P : PartOk bs B 5 y j s) (h : okB bs) => P.lists (ht h)
  have hok : okB bs ↔ ((rdF bs).2.2 = false ∧ (rdF bs).2.1 = bs.length) := by unfold okB; rw [hP]
  have HE := Lib.hid (show endR (jobR bs 0 false).2.2 (jobR bs 0 false).2.1 bs.length = endR (rdF bs).2.2 (rdF bs).2.1 bs.length by rw [hP])
  have HY := Lib.hid (And.intro hy (And.intro hn hL))
  clear hP ht hy hn hL hr
  go_enter Try.func7, Try.ntmps7
  go_upto_region 1 with (fail)
  change Code.wp _ _ _ _ (w.alloc (.cells (jobC zeroJ zeroS4) 31))
  generalize w.alloc _ = U at *
  go_wp2_with fail
  refine (cr U hr0).mono ?_
  rintro e w1 ⟨h, g, rfl, H1, b1, hg, j, s, E, hPt⟩
  have D1 := D0.old b1
  have b2 := tstep b0 b1 (by omega)
  have hle := H1.le
  have d0 := H1.ptr
  have ce := fun x (hx : Old w1 x) => end_any g a c bs.length (rdF bs).2.1 (rdF bs).2.2 hle (by exact hl) x (H1.cd.old hx)
  clear D0 b0 b1 hr0 cr
  by_cases hk : okB bs
  · have hk2 := hok.1 hk
    have he : endR (rdF bs).2.2 (rdF bs).2.1 bs.length = 0 := by unfold endR; rw [if_pos hk2]
    rw [he] at ce
    rw [he] at HE
    have hPt := hPt hk2.1
    have HQ := Lib.hid (And.intro H1 (And.intro hPt hk))
    have CE := Lib.hid fun y (hy : Old w1 y) => E.old hy
    have hgh : w.heap.size < h + 1 := by omega
    clear H1 hPt hk2 he hk hok
    go_upto_region 5 with (refine (ce w1 (Below.refl _ _)).mono ?_; rintro e w3 ⟨rfl, b3⟩)
    (refine wp_region_plain (Old w1) 4 b3 ?_; simp only [List.take_succ_cons, List.take_zero, List.drop_succ_cons, List.drop_zero])
    repeat (first | (apply Text.sees (hw := by kernel_rfl); (focus (intro x hx K hK; have hc := CE.out x hx; go_simp; exact hK)); simp only [Act.put, List.getElem_toArray, List.getElem_cons_succ, List.getElem_cons_zero, List.setIfInBounds_toArray, List.set_cons_zero, List.set_cons_succ]) | (apply Text.idle; (focus (intro x hx K hK; go_simp; exact hK)); simp only [Act.put, List.getElem_toArray, List.getElem_cons_succ, List.getElem_cons_zero, List.setIfInBounds_toArray, List.set_cons_zero, List.set_cons_succ]))
    (refine Text.val (fun x hx => load_rjob (.tmp 23) rfl rfl (CE.out x hx)) (by kernel_rfl) ?_; simp only [Act.put, List.getElem_toArray, List.getElem_cons_succ, List.getElem_cons_zero, List.setIfInBounds_toArray, List.set_cons_zero, List.set_cons_succ])
    intro x hx
    have D3 := D1.old hx
    have b4 := tstep b2 hx b2.size
    refine store_job (j := j) (s := s) rfl (.tmp 2) (.tmp 24) rfl rfl (by kernel_rfl) D3 ?_
    go_wp2
    rw [HE.out]
    obtain ⟨H1, hPt, hk⟩ := HQ.out
    obtain ⟨hy, hn, hLs⟩ := HY.out
    have P3 := (hPt.near (M := fun _ => False) (Near.of hx) (fun _ e => e.elim)).row hgh (jobC j s)
    obtain ⟨ej, L3⟩ := hLs _ _ _ _ P3 hk
    rw [hy hk, ← ej]
    refine bodyPost_ret (v := .tuple #[.agg (jobC j s), .int .i64 0]) ?_ rfl ⟨s, rfl, L3, below_row b4 (Nat.le_refl _) _⟩
    exact results_cell_tmp Try.results7 _ _ _ 31 _ _ _ _ rfl rfl (D3.row j s) Try.underlying31 rfl info29
  · have hk2 : ¬ ((rdF bs).2.2 = false ∧ (rdF bs).2.1 = bs.length) := fun e => hk (hok.2 e)
    have he : endR (rdF bs).2.2 (rdF bs).2.1 bs.length = 2 := by unfold endR; rw [if_neg hk2]
    rw [he] at ce
    rw [he] at HE
    clear hk2 he hok E hPt H1
    have CF := Lib.hid fun (y : World) (hy : Old w1 y) => trivial
    go_upto_region 4 with (refine (ce w1 (Below.refl _ _)).mono ?_; rintro e w3 ⟨rfl, b3⟩)
    (refine wp_region_plain (Old w1) 2 b3 ?_; simp only [List.take_succ_cons, List.take_zero, List.drop_succ_cons, List.drop_zero])
    (refine Text.val (fun x hx => build_zjob rfl x) (by kernel_rfl) ?_; simp only [Act.put, List.getElem_toArray, List.getElem_cons_succ, List.getElem_cons_zero, List.setIfInBounds_toArray, List.set_cons_zero, List.set_cons_succ])
    repeat (first | (apply Text.sees (hw := by kernel_rfl); (focus (intro x hx K hK; have hc := CF.out x hx; go_simp; exact hK)); simp only [Act.put, List.getElem_toArray, List.getElem_cons_succ, List.getElem_cons_zero, List.setIfInBounds_toArray, List.set_cons_zero, List.set_cons_succ]) | (apply Text.idle; (focus (intro x hx K hK; go_simp; exact hK)); simp only [Act.put, List.getElem_toArray, List.getElem_cons_succ, List.getElem_cons_zero, List.setIfInBounds_toArray, List.set_cons_zero, List.set_cons_succ]))
    intro x hx
    have D3 := D1.old hx
    have b4 := tstep b2 hx b2.size
    refine store_job (j := zeroJ) (s := zeroS4) rfl (.tmp 2) (.tmp 19) rfl rfl (by kernel_rfl) D3 ?_
    go_wp2
    obtain ⟨hy, hn, hLs⟩ := HY.out
    rw [HE.out, hn hk]
    refine bodyPost_ret (v := .tuple #[.agg (jobC zeroJ zeroS4), .int .i64 2]) ?_ rfl ⟨zeroS4, rfl, zero_lists _, below_row b4 (Nat.le_refl _) _⟩
    exact results_cell_tmp Try.results7 _ _ _ 31 _ _ _ _ rfl rfl (D3.row zeroJ zeroS4) Try.underlying31 rfl info29
/-! ### Where, Begins -/
theorem dWhere_any (bs : List Int) (a : Option Addr) (c : Nat) (w : World) (hl : bs.length ≤ 1000000) (hB : Byt bs) (hr : Row w a c bs) :
    Calls Try.prog 8 #[.slice a bs.length c] w fun e w' => e = .returned (.tuple #[.string (nameP (partJ bs)), .int .i64 (jobR bs 0 false).2.1]) ∧ Below w.heap.size w w' := by
  have cr := read_any bs a c w hl hB hr
  rw [jobR_pos]
  clear hr
  go_enter Try.func8, Try.ntmps8
  go_wp2_with fail
  refine cr.mono ?_
  rintro e w1 ⟨h, g, rfl, H1, b1, hg, j, s, E, hPt⟩
  have d0 := H1.ptr
  have ca := at_any g a c bs.length _ _ w1 H1.cd
  clear H1 E hPt cr
  go_wp2_with (refine ca.mono ?_; rintro e w3 ⟨rfl, rfl⟩)
  go_ret2
  exact ⟨rfl, b1⟩
def begB (bs : List Int) : Bool := !(markR bs 0 false magicS).2
theorem dBegins_any (bs : List Int) (a : Option Addr) (c : Nat) (w : World) (hl : bs.length ≤ 1000000) (hB : Byt bs) (hr : Row w a c bs) :
    Calls Try.prog 11 #[.slice a bs.length c] w fun e w' => e = .returned (.bool (begB bs)) ∧ Below w.heap.size w w' := by
  have co := open_any a c bs.length w
  have HR := Lib.hid hr
  unfold begB
  clear hr
  go_enter Try.func11, Try.ntmps11
  go_wp2_with fail
  refine co.mono ?_
  rintro e w1 ⟨rfl, R1, b1⟩
  have hg := R1.lt
  have cM := (Magic_any w1)
  have cm := mark_any w.heap.size a c bs 0 false magicS (by decide) (Nat.zero_le _) hl hB w1 R1 (HR.out.carry b1)
  have cr := fun y (hy : CdAt y w.heap.size a c bs.length (markR bs 0 false magicS).1 (markR bs 0 false magicS).2) => right_any w.heap.size a c bs.length _ _ y hy
  clear co
  go_wp2_with (first
    | (go_at_call 24; refine cM.mono ?_; rintro e w2 ⟨rfl, rfl⟩)
    | (go_at_call 23; refine cm.mono ?_; rintro e w3 ⟨rfl, R3, B3⟩)
    | (go_at_call 25; refine (cr _ R3).mono ?_; rintro e w4 ⟨rfl, rfl⟩))
  go_ret
  exact ⟨rfl, b1.trans (B3.below (Nat.le_refl _) b1.size)⟩
end Go.Proofs.Ytjfjekncmejfpaa
