/- Package decode: a note read. Package decode: the notes read. -/
import Derived.Test.YtjfjekncmejfpaaREch
namespace Go.Proofs.Ytjfjekncmejfpaa
open Go.RowKit
set_option maxRecDepth 20000
set_option linter.unusedVariables false
set_option linter.unusedSimpArgs false

def hdV (x : H2) : Value := .agg #[.slice x.la x.ll x.lc, .slice x.pa x.pl x.pc]
theorem ints_in64 {bs : List Int} (hB : Byt bs) {q : Nat} (hq : q ≤ bs.length) (st : Bool) : ∀ k, inR ((intsR bs q st).1.getD k 0) := fun k => by
  have h0 : inR 0 := by unfold inR; omega
  rcases Nat.lt_or_ge k (intsR bs q st).1.length with hk | hk
  · cases hs : (intsR bs q st).2.2 with
    | false =>
      obtain ⟨_, ⟨_, h⟩, _⟩ := ints_reads.sound bs q st hq hB hs
      refine h _ ?_
      rw [List.getD_eq_getElem?_getD, List.getElem?_eq_getElem hk]
      exact List.getElem_mem hk
    | true =>
      have e : (intsR bs q st).1 = [] := by
        unfold intsR at hs ⊢
        dsimp only at hs ⊢
        rw [if_pos hs]
      rw [e] at hk
      simp at hk
  · rw [List.getD_eq_getElem?_getD, List.getElem?_eq_none hk]
    exact h0
section
variable {α : Type} {e e' : TypeId} {sz sz' : Nat} {enc : α → List Value} {B B' g n n' : Nat} {w w' : World} {a : Option Addr} {F : Nat → α} {v : Value} {vs : List Value}
theorem OwnE.but (h : OwnE e sz enc B w a n F) (hb : But g w w') (hg : g < B) : OwnE e sz enc B w' a n F := by
  rcases h with h | ⟨b, cur, h1, h2, h3, h4⟩
  · exact .inl h
  · exact .inr ⟨b, cur, h1, h2, h3.but hb (by omega), h4⟩
theorem OwnE.grown (h : OwnE e sz enc B w a n F) (ho : w.ownsRow B' e' sz' v n' vs) (hg : w.grownBy w' v.ownBlock) (hne : e ≠ e') : OwnE e sz enc B w' a n F := by
  rcases h with h | ⟨b, cur, h1, h2, h3, h4⟩
  · exact .inl h
  · refine .inr ⟨b, cur, h1, h2, (hg.block b h3.lt fun e => ?_).trans h3, h4⟩
    obtain ⟨_, cur', h5⟩ := own_block_kind ho e.symm
    unfold Blk at h3 h5
    rw [h3] at h5
    simp only [Option.some.injEq, Obj.cells.injEq] at h5
    exact hne h5.2.1
end
theorem NoteOwn.but {B g : Nat} {w x : World} {h : H2} {n : N2} (H : NoteOwn B w h n) (hb : But g w x) (hg : g < B) : NoteOwn B x h n := by
  obtain ⟨h1, h2, h3', h4, h5, h6, h7, h8⟩ := H
  exact ⟨h1, h2, h3', h4, h5.but hb hg, h6, h7.but hb hg, h8⟩
theorem NoteOwn.grown {B B' n' sz' : Nat} {w x : World} {h : H2} {n : N2} {e' : TypeId} {v : Value} {vs : List Value} (H : NoteOwn B w h n) (ho : w.ownsRow B' e' sz' v n' vs) (hg : w.grownBy x v.ownBlock) (h24 : (24 : TypeId) ≠ e') (h3 : (3 : TypeId) ≠ e') : NoteOwn B x h n := by
  obtain ⟨h1, h2, h3', h4, h5, h6, h7, h8⟩ := H
  exact ⟨h1, h2, h3', h4, h5.grown ho hg h24, h6, h7.grown ho hg h3, h8⟩
/-- Notes whose numbers are the call's own. -/
def NotesL (B : Nat) (w : World) (hl : List H2) (l : List N2) : Prop := hl.length = l.length ∧ ∀ i, i < l.length → NoteOwn B w (hl.getD i zeroH) (l.getD i zeroN)
theorem notesL_nil (B : Nat) (w : World) : NotesL B w [] [] := ⟨rfl, fun i hi => by simp at hi⟩
theorem NotesL.but {B g : Nat} {w x : World} {hl : List H2} {l : List N2} (H : NotesL B w hl l) (hb : But g w x) (hg : g < B) : NotesL B x hl l := ⟨H.1, fun i hi => (H.2 i hi).but hb hg⟩
theorem NotesL.old {B : Nat} {w x : World} {hl : List H2} {l : List N2} (H : NotesL B w hl l) (hx : Old w x) : NotesL B x hl l := ⟨H.1, fun i hi => (H.2 i hi).old hx⟩
theorem NotesL.grown {B B' n' sz' : Nat} {w x : World} {hl : List H2} {l : List N2} {e' : TypeId} {v : Value} {vs : List Value} (H : NotesL B w hl l) (ho : w.ownsRow B' e' sz' v n' vs) (hg : w.grownBy x v.ownBlock) (h24 : (24 : TypeId) ≠ e') (h3 : (3 : TypeId) ≠ e') : NotesL B x hl l := ⟨H.1, fun i hi => (H.2 i hi).grown ho hg h24 h3⟩
theorem NotesL.add {B : Nat} {x : World} {hl : List H2} {l : List N2} {hd : H2} {n : N2} (H : NotesL B x hl l) (hn : NoteOwn B x hd n) : NotesL B x (hl ++ [hd]) (l ++ [n]) := by
  refine ⟨by simp [H.1], fun i hi => ?_⟩
  by_cases h : i < l.length
  · rw [List.getD_eq_getElem?_getD, List.getD_eq_getElem?_getD, List.getElem?_append_left h, List.getElem?_append_left (by rw [H.1]; exact h), ← List.getD_eq_getElem?_getD, ← List.getD_eq_getElem?_getD]
    exact H.2 i h
  · obtain rfl : i = l.length := by simp at hi; omega
    rw [List.getD_eq_getElem?_getD, List.getD_eq_getElem?_getD, List.getElem?_append_right (Nat.le_refl _), List.getElem?_append_right (by rw [H.1]; exact Nat.le_refl _), H.1, Nat.sub_self]
    exact hn
theorem NotesL.snoc {B g : Nat} {w x : World} {hl : List H2} {l : List N2} {hd : H2} {n : N2} (H : NotesL B w hl l) (hb : But g w x) (hg : g < B) (hB : B ≤ w.heap.size) (hn : NoteOwn w.heap.size x hd n) : NotesL B x (hl ++ [hd]) (l ++ [n]) := (H.but hb hg).add (hn.mono hB)
theorem But.new2 {g b : Nat} {w x : World} (hb : But g w x) (hl : w.heap.size ≤ b) (v0 v1 : Value) : But g w ((x.setCell ⟨b, 0, none⟩ v0).setCell ⟨b, 1, none⟩ v1) := (hb.newc hl 0 v0).newc hl 1 v1
theorem CdAt.farc2 {w : World} {g b c n : Nat} {a : Option Addr} {p : Int} {st : Bool} (H : CdAt w g a c n p st) (hb : g ≠ b) (v0 v1 : Value) : CdAt ((w.setCell ⟨b, 0, none⟩ v0).setCell ⟨b, 1, none⟩ v1) g a c n p st := (H.farc hb 0 v0).farc hb 1 v1
theorem NoteOwn.far2 {B b : Nat} {w : World} {h : H2} {n : N2} (H : NoteOwn B w h n) (hb : b < B) (v0 v1 : Value) : NoteOwn B ((w.setCell ⟨b, 0, none⟩ v0).setCell ⟨b, 1, none⟩ v1) h n := by
  obtain ⟨h1, h2, h3', h4, h5, h6, h7, h8⟩ := H
  exact ⟨h1, h2, h3', h4, (h5.other hb 0 v0).other hb 1 v1, h6, (h7.other hb 0 v0).other hb 1 v1, h8⟩
/-- What Each of numbers hands back. -/
def NumsV (e : TypeId) (B : Nat) (l : List Int) (v : Value) (w : World) : Prop := ∃ a cap, v = .slice a l.length cap ∧ l.length ≤ cap ∧ cap ≤ maxLen ∧ OwnE e 1 encZ B w a l.length fun k => l.getD k 0
set_option maxHeartbeats 1000000 in
theorem note_any (bs : List Int) (h g : Nat) (a : Option Addr) (c q : Nat) (st : Bool) (w : World) (H : RdP bs w h g a c q st) :
    Calls Try.prog 75 #[.pointer (some ⟨h, 0, none⟩)] w fun e w' => ∃ hd, e = .returned (hdV hd) ∧ NoteOwn w.heap.size w' hd (noteR bs q st).1 ∧ RdP bs w' h g a c (noteR bs q st).2.1 (noteR bs q st).2.2 ∧ But g w w' := by
  have hR : noteR bs q st = (⟨(intsR bs q st).1, (intsR bs (intsR bs q st).2.1 (intsR bs q st).2.2).1⟩, (intsR bs (intsR bs q st).2.1 (intsR bs q st).2.2).2) := rfl
  have i0 := ints_in64 H.byt H.le st
  have c0 := fun y (hy : RdP bs y h g a c q st) => each_sp bs h g a c q st y hy
  rw [each_many] at c0
  obtain ⟨⟨x0, q1, t1⟩, e0⟩ : ∃ r, r = intsR bs q st := ⟨_, rfl⟩
  rw [← e0] at hR i0 c0
  dsimp only at hR i0 c0
  have c1 := fun y (hy : RdP bs y h g a c q1 t1) => each_num bs h g a c q1 t1 y hy
  have i1 := fun (hq : q1 ≤ bs.length) => ints_in64 H.byt hq t1
  rw [each_many] at c1
  obtain ⟨⟨x1, q2, t2⟩, e1⟩ : ∃ r, r = intsR bs q1 t1 := ⟨_, rfl⟩
  rw [← e1] at hR i1 c1
  dsimp only at hR i1 c1
  have HR := Lib.hid hR
  have HI0 := Lib.hid i0
  have HI1 := Lib.hid i1
  have R := blk_new w #[.slice none 0 0, .slice none 0 0] 76
  have H0 := H.old (tbel1 w (.cells #[.slice none 0 0, .slice none 0 0] 76))
  have B0 := But.of (g := g) (tbel1 w (.cells #[.slice none 0 0, .slice none 0 0] 76))
  have hg := H.cd.lt
  have hs0 : w.heap.size < (w.alloc (.cells #[.slice none 0 0, .slice none 0 0] 76)).heap.size := by simp
  have HH := Lib.hid H
  have hne : g ≠ w.heap.size := by omega
  clear H hR e0 e1 i0 i1
  go_enter Try.func75, Try.ntmps75
  go_upto_region 1 with (fail)
  generalize w.alloc _ = U at *
  have CE := Lib.hid fun y (hy : Near (fun i => i = g) U y) => (hy.but.cellN H0.lt H0.ne).trans H0.ptr
  have K0 := Lib.hid fun y (hy : Old U y) => c0 y (H0.old hy)
  (refine wp_region_planU 15 [(0, true), (1, true), (2, true), (3, true), (4, true), (5, true), (7, true), (8, true), (9, true), (10, true), (11, true), (12, true), (6, false), (13, false), (14, true)] (fun i => i = g) (by kernel_rfl) (by kernel_rfl) ?_; simp only [pick, List.getElem?_cons_succ, List.getElem?_cons_zero, List.drop_succ_cons, List.drop_zero])
  repeat (first | (apply TextU.sees (hw := by kernel_rfl); (focus (intro x hx K hK; have hc := CE.out x hx; go_simp; exact hK)); simp only [Act.put, List.getElem_toArray, List.getElem_cons_succ, List.getElem_cons_zero, List.setIfInBounds_toArray, List.set_cons_zero, List.set_cons_succ]) | (apply TextU.idle; (focus (intro x hx K hK; go_simp; exact hK)); simp only [Act.put, List.getElem_toArray, List.getElem_cons_succ, List.getElem_cons_zero, List.setIfInBounds_toArray, List.set_cons_zero, List.set_cons_succ]))
  (refine TextU.loud (fun i => i = g) (V := fun v y => ∃ W, Old U W ∧ OwnR 24 1 encZ y W.heap.size v x0 ∧ RdP bs y h g a c q1 t1 ∧ But g W y) (fun _ h => h) (fun x hx => (K0.out x hx).mono fun e y hh => by obtain ⟨v, r1, r2, r3, r4⟩ := hh; exact ⟨v, r1, ⟨x, hx, r2, r3, r4⟩, r4.near⟩) (by kernel_rfl) (fun _ => by kernel_rfl) (fun v1 y1 hv1 _ => ?_); simp only [Act.put, List.getElem_toArray, List.getElem_cons_succ, List.getElem_cons_zero, List.setIfInBounds_toArray, List.set_cons_zero, List.set_cons_succ])
  obtain ⟨W1, hW1, O1, H1, B1⟩ := hv1
  obtain ⟨a1, k1, rfl, l1, m1, o1⟩ := own_of (d := 0) O1 encZ_len
  have K1 := Lib.hid fun y (hy : Old y1 y) => c1 y (H1.old hy)
  (refine TextU.loud (fun _ => False) (V := fun v y => ∃ W, Old y1 W ∧ OwnR 3 1 encZ y W.heap.size v x1 ∧ RdP bs y h g a c q2 t2 ∧ But g W y) (fun _ h => h.elim) (fun x hx => (K1.out x hx).mono fun e y hh => by obtain ⟨v, r1, r2, r3, r4⟩ := hh; exact ⟨v, r1, ⟨x, hx, r2, r3, r4⟩, r4.near⟩) (by kernel_rfl) (fun _ => by kernel_rfl) (fun v2 y2 hv2 _ => ?_); simp only [Act.put, List.getElem_toArray, List.getElem_cons_succ, List.getElem_cons_zero, List.setIfInBounds_toArray, List.set_cons_zero, List.set_cons_succ])
  obtain ⟨W2, hW2, O2, H2, B2⟩ := hv2
  obtain ⟨a2, k2, rfl, l2, m2, o2⟩ := own_of (d := 0) O2 encZ_len
  have CF := Lib.hid fun (y : World) (hy : Near (fun _ => False) y2 y) => trivial
  repeat (first | (apply TextU.sees (hw := by kernel_rfl); (focus (intro x hx K hK; have hc := CF.out x hx; go_simp; exact hK)); simp only [Act.put, List.getElem_toArray, List.getElem_cons_succ, List.getElem_cons_zero, List.setIfInBounds_toArray, List.set_cons_zero, List.set_cons_succ]) | (apply TextU.idle; (focus (intro x hx K hK; go_simp; exact hK)); simp only [Act.put, List.getElem_toArray, List.getElem_cons_succ, List.getElem_cons_zero, List.setIfInBounds_toArray, List.set_cons_zero, List.set_cons_succ]))
  apply TextU.done
  intro x hx
  have hq1 := H1.le
  have s1 := hW1.size
  have s2 := B1.size
  have s3 := hW2.size
  have P1 := ((o1.old hW2).but B2 (by omega)).old hx
  have P2 := o2.old hx
  have H3 := H2.old hx
  have BB := But.trans (But.trans (But.trans (But.of hW1) B1) (But.of hW2)) (But.trans B2 (But.of hx))
  have R3 := R.but BB hne.symm
  have B3 := But.trans B0 BB
  clear R H0 H1 H2 B0 B1 B2 O1 O2 o1 o2 K0 K1 c0 c1 CE CF hW1 hW2 hx BB
  obtain ⟨r0, r1⟩ := R3.two
  have f0 := R3.free 0
  have f1 := R3.free 1
  go_wp2
  refine bodyPost_ret (v := .agg #[.slice a1 x0.length k1, .slice a2 x1.length k2]) (by simp [results, Try.results75, go_sem, r0, r1]) rfl ⟨⟨a1, x0.length, k1, a2, x1.length, k2⟩, rfl, ?_, ?_, ?_⟩
  · rw [HR.out]
    have N : NoteOwn (w.heap.size + 1) x ⟨a1, x0.length, k1, a2, x1.length, k2⟩ ⟨x0, x1⟩ := ⟨rfl, rfl, ⟨l1, m1⟩, ⟨l2, m2⟩, P1.mono (by omega), HI0.out, P2.mono (by omega), HI1.out hq1⟩
    exact (N.far2 (Nat.lt_succ_self _) _ _).mono (Nat.le_succ _)
  · rw [HR.out]
    exact HH.out.but (B3.new2 (Nat.le_refl _) _ _) H3.le (H3.cd.farc2 hne _ _)
  · exact B3.new2 (Nat.le_refl _) _ _
end Go.Proofs.Ytjfjekncmejfpaa
namespace Go.Proofs.Ytjfjekncmejfpaa
open Go.RowKit
set_option maxRecDepth 20000
set_option linter.unusedVariables false
set_option linter.unusedSimpArgs false

theorem fn_eq_note (f : Nat) (p : Value) (w : World) : Sem.run Try.prog (binOp BinOp.eql 106 (Value.func (Fn.func f) #[p] #[]) Value.nilFunc) w = .ok (.bool false) w := by
  kernel_rfl
set_option maxHeartbeats 1000000 in
theorem each_note (bs : List Int) (h g : Nat) (a : Option Addr) (c q : Nat) (st : Bool) (w : World) (H : RdP bs w h g a c q st) :
    Calls Try.prog 74 #[.pointer (some ⟨g, 0, none⟩), .func (.func 75) #[.pointer (some ⟨h, 0, none⟩)] #[]] w fun e w' => ∃ v hl, e = .returned v ∧ OwnR 76 2 encH w' w.heap.size v hl ∧ NotesL w.heap.size w' hl (eachG noteR bs q st).1 ∧ RdP bs w' h g a c (eachG noteR bs q st).2.1 (eachG noteR bs q st).2.2 ∧ But g w w' := by
  have cc := count_any g a c bs q st H.le H.len H.byt w H.cd H.row
  have hle := countR_le bs q st H.le H.byt
  have hin := countR_in bs q st H.le
  have hdef : eachG noteR bs q st = (if (loopR noteR bs (countR bs q st).1.toNat (countR bs q st).2.1 (countR bs q st).2.2).2.2 then [] else (loopR noteR bs (countR bs q st).1.toNat (countR bs q st).2.1 (countR bs q st).2.2).1, (loopR noteR bs (countR bs q st).1.toNat (countR bs q st).2.1 (countR bs q st).2.2).2) := rfl
  obtain ⟨⟨x0, q0, t0⟩, hC⟩ : ∃ r, r = countR bs q st := ⟨_, rfl⟩
  rw [← hC] at cc hle hin hdef
  simp only at cc hle hin hdef
  clear hC
  obtain ⟨N, rfl⟩ := Int.eq_ofNat_of_zero_le hin.1
  rw [Int.toNat_natCast] at hdef
  have hN : N ≤ 1000000 := by have := H.len; omega
  have hgw := H.cd.lt
  have HD := Lib.hid hdef
  have HH := Lib.hid H
  have hq0 := hle.1
  have hmx : 1000002 ≤ maxLen := by decide
  obtain ⟨i0, hi, hz0, hz1, hz2⟩ := info_parts infoH2
  have HI := Lib.hid (And.intro hi (And.intro hz0 (And.intro hz1 hz2)))
  clear hdef H hi hz0 hz1 hz2 hle hin
  have hfn := fun w => fn_eq_note 75 (.pointer (some ⟨h, 0, none⟩)) w
  go_enter Try.func74, Try.ntmps74
  go_wp2_with fail
  refine cc.mono ?_
  rintro e w1 ⟨rfl, R1, B1⟩
  have H1 := HH.out.but B1 hq0 R1
  clear cc R1
  go_wp2_with fail
  go_loopw [6, 13] (fun v i wr => ∃ (k p' : Nat) (st' : Bool) (acc : List H2) (acn : List N2), k ≤ N ∧ acc.length ≤ k ∧ i = .int .i64 k ∧ Hid (OwnR 76 2 encH wr w.heap.size v acc) ∧ Hid (NotesL w.heap.size wr acc acn) ∧ RdP bs wr h g a c p' st' ∧ But g w wr ∧
    Hid ((st' = false → acn ++ (loopR noteR bs (N - k) p' st').1 = (loopR noteR bs N q0 t0).1) ∧ (loopR noteR bs (N - k) p' st').2 = (loopR noteR bs N q0 t0).2)) (fun _ i _ => N - (intOf i).toNat)
  case atStart => exact ⟨0, q0, t0, [], [], Nat.zero_le _, Nat.le_refl _, rfl, Lib.hid (World.ownsRow_nil _ _ _ _), Lib.hid (notesL_nil _ _), H1, B1, Lib.hid ⟨fun _ => rfl, rfl⟩⟩
  case round =>
    clear H1 B1
    obtain ⟨k, p', st', acc, acn, hk, hal, rfl, hown, hnl, R2, B2, hab⟩ := hrel
    have hgr := R2.cd.lt
    by_cases hlt : k < N
    · have ci := note_any bs h g a c p' st' wr R2
      obtain ⟨j, hj⟩ : ∃ j, N - k = j + 1 := ⟨N - k - 1, by omega⟩
      have ha := hab.out.1
      have hb := hab.out.2
      have h1 := loop_one (R := noteR) note_reads.stop bs j p' st'
      rw [hj] at ha hb
      rw [loop_two note_reads.stop] at hb
      obtain ⟨⟨y, q2, t2⟩, hI⟩ : ∃ r, r = noteR bs p' st' := ⟨_, rfl⟩
      rw [← hI] at ci hb h1
      simp only at ci hb h1
      have hj' : j = N - (k + 1) := by omega
      rw [hj'] at ha hb h1
      have HB := Lib.hid hb
      clear hI hb hj hab
      have B2s := B2.size
      cases t2 with
      | true =>
        clear h1 ha
        have cr := fun x (hx : RdP bs x h g a c q2 true) => right_any g a c bs.length q2 true x hx.cd
        rw [Bool.not_true] at cr
        go_wp2_with fail
        refine ci.mono ?_
        rintro e w3 ⟨hd, rfl, O3, R3, B3⟩
        have own3 := Lib.hid (hown.out.but B3 hgw)
        have nl3 := Lib.hid (hnl.out.but B3 hgw)
        have But3 := But.trans B2 B3
        clear ci hown B2 B3 R2 hnl O3
        obtain ⟨la, ll, lc, pa, pl, pc⟩ := hd
        unfold hdV
        dsimp only
        have R4 := R3.old (tbel1 w3 (.cells #[.slice la ll lc, .slice pa pl pc] 76))
        have But4 := But.step But3 (tbel1 w3 (.cells #[.slice la ll lc, .slice pa pl pc] 76))
        have own4 := Lib.hid (own3.out.alloc1 (.cells #[.slice la ll lc, .slice pa pl pc] 76))
        have nl4 := Lib.hid (nl3.out.old (tbel1 w3 (.cells #[.slice la ll lc, .slice pa pl pc] 76)))
        go_wp2_with (go_at_call 25; refine (cr _ R4).mono ?_; rintro e w4 ⟨rfl, rfl⟩)
        go_roundw
        case rel => exact ⟨k + 1, q2, true, acc, acn, by omega, by omega, by go_num, own4, nl4, R4, But4, Lib.hid ⟨fun h => (by cases h), HB.out⟩⟩
        case measure => simp [intOf]; omega
      | false =>
        obtain ⟨rfl, h2⟩ := h1 rfl
        have ha := ha rfl
        rw [h2] at ha
        have HA := Lib.hid ha
        clear h1 h2 ha
        have cr := fun x (hx : RdP bs x h g a c q2 false) => right_any g a c bs.length q2 false x hx.cd
        rw [Bool.not_false] at cr
        go_wp2_with fail
        refine ci.mono ?_
        rintro e w3 ⟨hd, rfl, O3, R3, B3⟩
        have own3 := Lib.hid (hown.out.but B3 hgw)
        have nl3 := Lib.hid (hnl.out.snoc B3 hgw B2s O3)
        have But3 := But.trans B2 B3
        have hs3 := But3.size
        clear ci hown B2 B3 R2 hnl O3
        obtain ⟨la, ll, lc, pa, pl, pc⟩ := hd
        unfold hdV
        dsimp only
        have R4 := R3.old (tbel1 w3 (.cells #[.slice la ll lc, .slice pa pl pc] 76))
        have But4 := But.step But3 (tbel1 w3 (.cells #[.slice la ll lc, .slice pa pl pc] 76))
        have own4 := Lib.hid (own3.out.alloc1 (.cells #[.slice la ll lc, .slice pa pl pc] 76))
        have nl4 := Lib.hid (nl3.out.old (tbel1 w3 (.cells #[.slice la ll lc, .slice pa pl pc] 76)))
        clear R3 But3 own3 nl3
        have hs4 := But4.size
        have E0 := els_single (w3.alloc (.cells #[.slice la ll lc, .slice pa pl pc] 76)) (enc := encH) (sz := 2) zeroH (⟨la, ll, lc, pa, pl, pc⟩ : H2) 76 encH_len (by decide)
        rw [World.size_alloc] at E0
        have E := Lib.hid E0
        clear E0
        have own5 := own4.out.alloc1 (.cells #[.slice la ll lc, .slice pa pl pc] 76)
        have R5 := R4.old (tbel1 (w3.alloc (.cells #[.slice la ll lc, .slice pa pl pc] 76)) (.cells #[.slice la ll lc, .slice pa pl pc] 76))
        have But5 := But.step But4 (tbel1 (w3.alloc (.cells #[.slice la ll lc, .slice pa pl pc] 76)) (.cells #[.slice la ll lc, .slice pa pl pc] 76))
        have hs5 := But5.size
        have nl5 := Lib.hid (nl4.out.old (tbel1 (w3.alloc (.cells #[.slice la ll lc, .slice pa pl pc] 76)) (.cells #[.slice la ll lc, .slice pa pl pc] 76)))
        obtain ⟨hi, hz0, hz1, hz2⟩ := HI.out
        go_wp2_with (first
          | (go_at_call 25; refine (cr _ R4).mono ?_; rintro e w4 ⟨rfl, rfl⟩)
          | (at_builtin; refine wpList_els (B := w.heap.size) (l := acc) (m := [⟨la, ll, lc, pa, pl, pc⟩]) (d := zeroH) (enc := encH) (sz := 2) (w0 := (w3.alloc (.cells #[.slice la ll lc, .slice pa pl pc] 76)).alloc (.cells #[.slice la ll lc, .slice pa pl pc] 76)) rfl (.tmp 19) (.tmp 21) rfl Try.underlying28 hi hz0 hz1 hz2 rfl (by decide) encH_len encH_one rfl own5 rfl E.out (by simp; omega) (by simp; omega) (Below.refl _ _) hs5 (fun h => by cases h) ?_; intro v5 w5 o5 b5 g5))
        have But6 := But5.ownR own5 g5
        have R6 := HH.out.but But6 R5.le (R5.cd.keptR own5 g5 hgw)
        have nl6 := nl5.out.grown own5 g5 (by decide) (by decide)
        go_roundw
        case rel =>
          refine ⟨k + 1, q2, false, acc ++ [⟨la, ll, lc, pa, pl, pc⟩], acn ++ [y], by omega, by simp; omega, by go_num, Lib.hid o5, Lib.hid nl6, R6, But6, Lib.hid ⟨fun _ => ?_, HB.out⟩⟩
          rw [← HA.out]; simp
        case measure => simp [intOf]; omega
    · obtain rfl : k = N := by omega
      have ha := hab.out.1
      have hb := hab.out.2
      rw [Nat.sub_self] at ha hb
      simp only [loopR, List.append_nil] at ha hb
      have cr := fun x (hx : RdP bs x h g a c p' st') => right_any g a c bs.length p' st' x hx.cd
      cases st' with
      | true =>
        have hres : eachG noteR bs q st = ([], p', true) := by rw [HD.out, ← hb]; rfl
        have HR := Lib.hid hres
        rw [Bool.not_true] at cr
        clear ha hb hres hab
        go_wp2_with (go_at_call 25; refine (cr _ R2).mono ?_; rintro e w4 ⟨rfl, rfl⟩)
        go_ret
        rw [HR.out]
        exact ⟨_, [], rfl, World.ownsRow_nil _ _ _ _, notesL_nil _ _, R2, B2⟩
      | false =>
        have hres : eachG noteR bs q st = (acn, p', false) := by rw [HD.out, ← hb, ← ha rfl]; rfl
        have HR := Lib.hid hres
        rw [Bool.not_false] at cr
        clear ha hb hres hab
        go_wp2_with (go_at_call 25; refine (cr _ R2).mono ?_; rintro e w4 ⟨rfl, rfl⟩)
        go_ret
        rw [HR.out]
        exact ⟨_, acc, rfl, hown.out, hnl.out, R2, B2⟩
end Go.Proofs.Ytjfjekncmejfpaa
