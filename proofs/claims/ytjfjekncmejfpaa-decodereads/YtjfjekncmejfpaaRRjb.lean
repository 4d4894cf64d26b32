/- The document's reader of jobs: what stands while a job is read. The document's reader of jobs: a job. -/
import Derived.Test.YtjfjekncmejfpaaRRno
import Derived.Test.YtjfjekncmejfpaaRDec
namespace Go.Proofs.Ytjfjekncmejfpaa
open Go.RowKit
set_option maxRecDepth 20000
set_option linter.unusedVariables false
set_option linter.unusedSimpArgs false

/-! ### Plain mathematics -/
theorem list_stop_val {α : Type} (R : RdF α) (bs : List Int) (p : Nat) : (listR R bs p true).1 = [] := by
  unfold listR
  have hc : countR bs p true = (0, p, true) := by
    unfold countR
    split <;> rfl
  rw [hc]
  rfl
theorem nums_stop_val (bs : List Int) (p : Nat) : ∀ k, (numsR k bs p true).1 = List.replicate k 0
  | 0 => rfl
  | k + 1 => by
    rw [nums_succ, intR_stop]
    dsimp only
    rw [nums_stop_val bs p k]
    rfl
theorem map_then {α β γ : Type} (f : α × β → γ) (R : RdF α) (S : RdF β) (bs : List Int) (p : Nat) (st : Bool) : mapR f (thenR R fun _ => S) bs p st = (f ((R bs p st).1, (S bs (R bs p st).2.1 (R bs p st).2.2).1), (S bs (R bs p st).2.1 (R bs p st).2.2).2) := rfl
theorem geom_two (bs : List Int) (p : Nat) (st : Bool) : geomR bs p st = (geoOf ((numsR 18 bs p st).1, (boolR bs (numsR 18 bs p st).2.1 (numsR 18 bs p st).2.2).1), (boolR bs (numsR 18 bs p st).2.1 (numsR 18 bs p st).2.2).2) := by
  rw [geomR, map_then]
theorem geom_stop_val (bs : List Int) (p : Nat) : (geomR bs p true).1 = zeroG4 := by
  rw [geom_two, nums_stop_val]
  have e : (numsR 18 bs p true).2 = (p, true) := (nums_reads 18).stop bs p
  rw [e]
  dsimp only
  rw [show boolR bs p true = (0, p, true) from if_pos (.inl rfl)]
  rfl
/-- The job as far as it is read. -/
def readJ (bs : List Int) : J4 := ⟨(rdG bs).1, (rdI bs).1, (rdN bs).1, (rdF bs).1⟩
theorem stop4 (bs : List Int) (h : (rdN bs).2.2 = true) : (rdF bs).1 = [] := by
  unfold rdF
  rw [h]
  exact list_stop_val _ _ _
theorem stop3 (bs : List Int) (h : (rdI bs).2.2 = true) : (rdN bs).1 = [] ∧ (rdF bs).1 = [] := by
  refine ⟨?_, stop4 bs (by rw [next3 bs h]; exact h)⟩
  unfold rdN
  rw [h]
  exact list_stop_val _ _ _
theorem stop2 (bs : List Int) (h : (rdG bs).2.2 = true) : (rdI bs).1 = [] ∧ (rdN bs).1 = [] ∧ (rdF bs).1 = [] := by
  refine ⟨?_, stop3 bs (by rw [next2 bs h]; exact h)⟩
  unfold rdI
  rw [h]
  exact list_stop_val _ _ _
theorem stop1 (bs : List Int) (h : (pos1 bs).2 = true) : (rdG bs).1 = zeroG4 ∧ (rdI bs).1 = [] ∧ (rdN bs).1 = [] ∧ (rdF bs).1 = [] := by
  refine ⟨?_, stop2 bs (by rw [next1 bs h]; exact h)⟩
  unfold rdG
  rw [h]
  exact geom_stop_val _ _
theorem loop_in {α : Type} {P : α → Prop} {R : RdF α} (bs : List Int) (hR : ∀ p st, p ≤ bs.length → P (R bs p st).1 ∧ (R bs p st).2.1 ≤ bs.length) : ∀ (n p : Nat) (st : Bool), p ≤ bs.length → ∀ x ∈ (loopR R bs n p st).1, P x
  | 0, p, st, hp, x, hx => by simp [loopR] at hx
  | n + 1, p, st, hp, x, hx => by
    unfold loopR at hx
    split at hx
    · simp at hx
    · rcases List.mem_cons.1 hx with rfl | hx
      · exact (hR p false hp).1
      · exact loop_in bs hR n _ _ (hR p false hp).2 x hx
theorem nums_in {bs : List Int} (hB : Byt bs) : ∀ (k p : Nat) (st : Bool), p ≤ bs.length → (∀ x ∈ (numsR k bs p st).1, in64 x) ∧ (numsR k bs p st).2.1 ≤ bs.length ∧ (numsR k bs p st).1.length = k
  | 0, p, st, hp => ⟨by simp [nums_zero], hp, rfl⟩
  | k + 1, p, st, hp => by
    have h1 := intR_le bs p st hp hB
    have h2 := nums_in hB k (intR bs p st).2.1 (intR bs p st).2.2 h1.1
    rw [nums_succ]
    refine ⟨fun x hx => ?_, h2.2.1, by simp [h2.2.2]⟩
    rcases List.mem_cons.1 hx with rfl | hx
    · exact intR_in bs p st hB
    · exact h2.1 x hx
theorem geoOf_in (l : List Int) (b : Int) (h0 : ∀ i, in64 (l.getD i 0)) : inE (geoOf (l, b)) :=
  ⟨h0 0, h0 1, h0 2, h0 3, h0 4, h0 5, h0 6, h0 7, h0 8, h0 9, h0 10, h0 11, h0 12, h0 13, h0 14, h0 15, h0 16, h0 17⟩
theorem geom_in {bs : List Int} (hB : Byt bs) (p : Nat) (st : Bool) (hp : p ≤ bs.length) : inE (geomR bs p st).1 ∧ (geomR bs p st).2.1 ≤ bs.length := by
  obtain ⟨h1, h2, h3⟩ := nums_in hB 18 p st hp
  have h4 := (boolR_le bs (numsR 18 bs p st).2.1 (numsR 18 bs p st).2.2 h2).1
  have h0 : in64 0 := by unfold in64; omega
  have h5 := geoOf_in _ (boolR bs (numsR 18 bs p st).2.1 (numsR 18 bs p st).2.2).1 (get_all h1 h0)
  have e := geom_two bs p st
  generalize numsR 18 bs p st = A at *
  generalize boolR bs A.2.1 A.2.2 = C at *
  rw [e]
  exact ⟨h5, h4⟩
theorem kind_in {bs : List Int} (hB : Byt bs) (k : Int) (p : Nat) (st : Bool) (hp : p ≤ bs.length) : (∀ i, in64 ((kindR k bs p st).1.getD i 0)) ∧ (kindR k bs p st).2.1 ≤ bs.length := by
  have h0 : in64 0 := by unfold in64; omega
  have key : ∀ n, (∀ i, in64 ((numsR n bs p st).1.getD i 0)) ∧ (numsR n bs p st).2.1 ≤ bs.length := fun n => by
    obtain ⟨h1, h2, _⟩ := nums_in hB n p st hp
    exact ⟨get_all h1 h0, h2⟩
  unfold kindR
  split
  · exact key 2
  · split
    · exact key 4
    · split
      · exact key 1
      · split
        · exact key 0
        · exact ⟨fun i => by simpa [failR] using h0, hp⟩
theorem item_in {bs : List Int} (hB : Byt bs) (p : Nat) (st : Bool) (hp : p ≤ bs.length) : inI (itemR bs p st).1 ∧ (itemR bs p st).2.1 ≤ bs.length := by
  rw [item_two]
  have h1 := intR_le bs p st hp hB
  have h2 := intR_in bs p st hB
  obtain ⟨h3, h4⟩ := kind_in hB (intR bs p st).1 (intR bs p st).2.1 (intR bs p st).2.2 h1.1
  refine ⟨?_, h4⟩
  have h0 : inR 0 := by unfold inR; omega
  generalize (kindR (intR bs p st).1 bs (intR bs p st).2.1 (intR bs p st).2.2).1 = l at *
  generalize (intR bs p st).1 = k at *
  unfold itemOf
  dsimp only
  split
  · exact ⟨h2, h3 0, h3 1, h0, h0, h0, h0⟩
  · split
    · exact ⟨h2, h3 0, h0, h3 1, h3 2, h3 3, h0⟩
    · split
      · exact ⟨h2, h0, h0, h0, h0, h0, h3 0⟩
      · exact ⟨h2, h0, h0, h0, h0, h0, h0⟩
theorem float_in {bs : List Int} (hB : Byt bs) (p : Nat) (st : Bool) (hp : p ≤ bs.length) : inF (floatR bs p st).1 ∧ (floatR bs p st).2.1 ≤ bs.length := by
  obtain ⟨h1, h2, h3⟩ := nums_in hB 3 p st hp
  have h0 : in64 0 := by unfold in64; omega
  have h4 := get_all h1 h0
  exact ⟨⟨h4 0, h4 1, h4 2⟩, h2⟩
theorem ints_room {bs : List Int} (hB : Byt bs) (p : Nat) (st : Bool) (hp : p ≤ bs.length) : p ≤ (intsR bs p st).2.1 ∧ (intsR bs p st).2.1 ≤ bs.length ∧ (listE chZ (intsR bs p st).1).length ≤ (intsR bs p st).2.1 - p + 1 := by
  have h1 := countR_le bs p st hp hB
  have h2 := many_le bs (countR bs p st).1.toNat (countR bs p st).2.1 (countR bs p st).2.2 h1.1 hB
  have h3 : p ≤ (intsR bs p st).2.1 := Nat.le_trans h1.2 h2.2.1
  have h4 : (intsR bs p st).2.1 ≤ bs.length := h2.1
  refine ⟨h3, h4, ?_⟩
  cases hs : (intsR bs p st).2.2 with
  | false =>
    obtain ⟨_, _, _, _, h⟩ := ints_reads.sound bs p st hp hB hs
    rw [← h, List.length_take]
    omega
  | true =>
    have e : (intsR bs p st).1 = [] := by
      unfold intsR at hs ⊢
      dsimp only at hs ⊢
      rw [if_pos hs]
    rw [e]
    have e2 : (listE chZ ([] : List Int)).length = 1 := by
      unfold listE chZ
      rw [show foldZ ((([] : List Int).length : Nat) : Int) = 0 from rfl, chain_lt (by omega)]
      rfl
    omega
theorem note_room {bs : List Int} (hB : Byt bs) (p : Nat) (st : Bool) (hp : p ≤ bs.length) : p ≤ (noteR bs p st).2.1 ∧ (noteR bs p st).2.1 ≤ bs.length ∧ (noteE (noteR bs p st).1).length ≤ (noteR bs p st).2.1 - p + 2 := by
  have h1 := ints_room hB p st hp
  have h2 := ints_room hB (intsR bs p st).2.1 (intsR bs p st).2.2 h1.2.1
  have e : noteR bs p st = (⟨(intsR bs p st).1, (intsR bs (intsR bs p st).2.1 (intsR bs p st).2.2).1⟩, (intsR bs (intsR bs p st).2.1 (intsR bs p st).2.2).2) := rfl
  rw [e]
  unfold noteE
  simp only [List.length_append]
  omega
theorem notes_room {bs : List Int} (hB : Byt bs) : ∀ (n p : Nat) (st : Bool), p ≤ bs.length → p ≤ (loopR noteR bs n p st).2.1 ∧ (loopR noteR bs n p st).2.1 ≤ bs.length ∧ ((loopR noteR bs n p st).1.flatMap noteE).length ≤ (loopR noteR bs n p st).2.1 - p + 2 * n
  | 0, p, st, hp => ⟨Nat.le_refl _, hp, by simp [loopR]⟩
  | n + 1, p, st, hp => by
    unfold loopR
    split
    · exact ⟨Nat.le_refl _, hp, by simp⟩
    · have h1 := note_room hB p false hp
      have h2 := notes_room hB n (noteR bs p false).2.1 (noteR bs p false).2.2 h1.2.1
      dsimp only
      rw [List.flatMap_cons, List.length_append]
      omega
theorem note_each {bs : List Int} (hB : Byt bs) (p : Nat) (st : Bool) (hp : p ≤ bs.length) : ((noteR bs p st).1.l.length ≤ bs.length ∧ (noteR bs p st).1.p.length ≤ bs.length) ∧ (noteR bs p st).2.1 ≤ bs.length := by
  have e : noteR bs p st = (⟨(intsR bs p st).1, (intsR bs (intsR bs p st).2.1 (intsR bs p st).2.2).1⟩, (intsR bs (intsR bs p st).2.1 (intsR bs p st).2.2).2) := rfl
  have h1 := intsR_le bs p st hp hB
  rw [e]
  exact ⟨⟨intsR_len bs p st hp, intsR_len bs _ _ h1⟩, intsR_le bs _ _ h1 hB⟩
theorem list_len {α : Type} (R : RdF α) (bs : List Int) (p : Nat) (st : Bool) (hp : p ≤ bs.length) : (listR R bs p st).1.length ≤ bs.length := by
  have h1 := countR_in bs p st hp
  have h2 := loop_le R bs (countR bs p st).1.toNat (countR bs p st).2.1 (countR bs p st).2.2
  unfold listR
  omega
theorem loop_pos {α : Type} {R : RdF α} (bs : List Int) (hR : ∀ p st, p ≤ bs.length → (R bs p st).2.1 ≤ bs.length) : ∀ (n p : Nat) (st : Bool), p ≤ bs.length → (loopR R bs n p st).2.1 ≤ bs.length
  | 0, p, st, hp => hp
  | n + 1, p, st, hp => by
    unfold loopR
    split
    · exact hp
    · exact loop_pos bs hR n _ _ (hR p false hp)
theorem list_pos {α : Type} {R : RdF α} {bs : List Int} (hB : Byt bs) (hR : ∀ p st, p ≤ bs.length → (R bs p st).2.1 ≤ bs.length) (p : Nat) (st : Bool) (hp : p ≤ bs.length) : (listR R bs p st).2.1 ≤ bs.length := loop_pos bs hR _ _ _ (countR_le bs p st hp hB).1
/-- Places lie within the bytes. -/
theorem pos_in {bs : List Int} (hB : Byt bs) : (pos1 bs).1 ≤ bs.length ∧ (rdG bs).2.1 ≤ bs.length ∧ (rdI bs).2.1 ≤ bs.length ∧ (rdN bs).2.1 ≤ bs.length ∧ (rdF bs).2.1 ≤ bs.length := by
  have h1 : (pos1 bs).1 ≤ bs.length := by
    rw [pos1]
    exact (markR_le bs 0 false magicS (Nat.zero_le _)).1
  have h2 : (rdG bs).2.1 ≤ bs.length := by
    rw [rdG]
    exact (geom_in hB _ _ h1).2
  have h3 : (rdI bs).2.1 ≤ bs.length := by
    rw [rdI]
    exact list_pos hB (fun p st hp => (item_in hB p st hp).2) _ _ h2
  have h4 : (rdN bs).2.1 ≤ bs.length := by
    rw [rdN]
    exact list_pos hB (fun p st hp => (note_each hB p st hp).2) _ _ h3
  refine ⟨h1, h2, h3, h4, ?_⟩
  rw [rdF]
  exact list_pos hB (fun p st hp => (float_in hB p st hp).2) _ _ h4
/-- What has been read of up to 2000 bytes is no great job. -/
theorem readJ_mid {bs : List Int} (hB : Byt bs) (hl : bs.length ≤ 2000) : Mid (readJ bs) := by
  obtain ⟨h1, h2, h3, h4, h5⟩ := pos_in hB
  have a : (rdI bs).1.length ≤ bs.length := by
    rw [rdI]
    exact list_len _ _ _ _ h2
  have b : (rdN bs).1.length ≤ bs.length := by
    rw [rdN]
    exact list_len _ _ _ _ h3
  have c : (rdF bs).1.length ≤ bs.length := by
    rw [rdF]
    exact list_len _ _ _ _ h4
  have hc := countR_le bs (rdI bs).2.1 (rdI bs).2.2 h3 hB
  have hn := countR_in bs (rdI bs).2.1 (rdI bs).2.2 h3
  have d := notes_room hB (countR bs (rdI bs).2.1 (rdI bs).2.2).1.toNat (countR bs (rdI bs).2.1 (rdI bs).2.2).2.1 (countR bs (rdI bs).2.1 (rdI bs).2.2).2.2 hc.1
  have e := loop_in (P := fun x : N2 => x.l.length ≤ bs.length ∧ x.p.length ≤ bs.length) bs (fun p st hp => note_each hB p st hp) (countR bs (rdI bs).2.1 (rdI bs).2.2).1.toNat (countR bs (rdI bs).2.1 (rdI bs).2.2).2.1 (countR bs (rdI bs).2.1 (rdI bs).2.2).2.2 hc.1
  have f : (rdN bs).1 = (loopR noteR bs (countR bs (rdI bs).2.1 (rdI bs).2.2).1.toNat (countR bs (rdI bs).2.1 (rdI bs).2.2).2.1 (countR bs (rdI bs).2.1 (rdI bs).2.2).2.2).1 := by rw [rdN, listR]
  rw [← f] at d e
  have e2 := get_all (P := fun x : N2 => x.l.length ≤ bs.length ∧ x.p.length ≤ bs.length) (d := zeroN) e ⟨Nat.zero_le _, Nat.zero_le _⟩
  refine ⟨by unfold readJ; dsimp only; omega, by unfold readJ; dsimp only; omega, by unfold readJ; dsimp only; omega, fun k => ?_, ?_⟩
  · have := e2 k
    unfold readJ
    dsimp only
    omega
  · unfold readJ
    dsimp only
    omega
end Go.Proofs.Ytjfjekncmejfpaa
namespace Go.Proofs.Ytjfjekncmejfpaa
open Go.RowKit
set_option maxRecDepth 20000
set_option linter.unusedVariables false
set_option linter.unusedSimpArgs false

/-- The lists of a job that are the call's own. -/
structure OwnD (B : Nat) (V : World) (j : J4) (s : S3) : Prop where
  its : (j.items.length ≤ s.ic ∧ s.ic ≤ maxLen) ∧ OwnE 49 7 encI B V s.ia j.items.length fun i => j.items.getD i zeroI
  nts : (j.notes.length ≤ s.nc ∧ s.nc ≤ maxLen) ∧ ∃ hl, (OwnE 76 2 encH B V s.na hl.length fun i => hl.getD i zeroH) ∧ NotesL B V hl j.notes
  fls : (j.floats.length ≤ s.fc ∧ s.fc ≤ maxLen) ∧ OwnE 90 3 encF B V s.fa j.floats.length fun i => j.floats.getD i zeroF
theorem NotesL.chg {B : Nat} {w x : World} {hl : List H2} {l : List N2} (H : NotesL B w hl l) {T : TypeId} (hc : Chg T w x) (h24 : (24 : TypeId) ≠ T) (h3 : (3 : TypeId) ≠ T) : NotesL B x hl l := ⟨H.1, fun i hi => by
  obtain ⟨h1, h2, h3', h4, h5, h6, h7, h8⟩ := H.2 i hi
  exact ⟨h1, h2, h3', h4, h5.chg hc h24, h6, h7.chg hc h3, h8⟩⟩
theorem NotesL.other {B b : Nat} {w : World} {hl : List H2} {l : List N2} (H : NotesL B w hl l) (hb : b < B) (i : Nat) (v : Value) : NotesL B (w.setCell ⟨b, i, none⟩ v) hl l := ⟨H.1, fun k hk => by
  obtain ⟨h1, h2, h3', h4, h5, h6, h7, h8⟩ := H.2 k hk
  exact ⟨h1, h2, h3', h4, h5.other hb i v, h6, h7.other hb i v, h8⟩⟩
theorem OwnD.near {B : Nat} {V x : World} {j : J4} {s : S3} {M : Nat → Prop} (H : OwnD B V j s) (hx : Near M V x) (hM : ∀ i, M i → i < B) : OwnD B x j s := by
  obtain ⟨⟨c1, o1⟩, ⟨c2, hl, o2, n2⟩, c3, o3⟩ := H
  exact ⟨⟨c1, o1.near hx hM⟩, ⟨c2, hl, o2.near hx hM, n2.near hx hM⟩, c3, o3.near hx hM⟩
theorem OwnD.old {B : Nat} {V x : World} {j : J4} {s : S3} (H : OwnD B V j s) (hx : Old V x) : OwnD B x j s := H.near (M := fun _ => False) (Near.of hx) fun _ e => e.elim
theorem OwnD.row {B b : Nat} {V : World} {j : J4} {s : S3} (H : OwnD B V j s) (hb : b < B) (cs : Array Value) : OwnD B (V.setRow b cs) j s := by
  obtain ⟨⟨c1, o1⟩, ⟨c2, hl, o2, n2⟩, c3, o3⟩ := H
  exact ⟨⟨c1, o1.row hb cs⟩, ⟨c2, hl, o2.row hb cs, n2.1, fun i hi => (n2.2 i hi).row hb cs⟩, c3, o3.row hb cs⟩
theorem OwnD.lists {B : Nat} {V : World} {j : J4} {s : S3} (H : OwnD B V j s) (hin : inJ j) : Lists V j s := by
  obtain ⟨⟨c1, o1⟩, ⟨c2, hl, o2, n2⟩, c3, o3⟩ := H
  refine lists_own o1 (hs := fun i => hl.getD i zeroH) ?_ n2.2 o3 hin ⟨c1, c2, c3⟩
  rw [← n2.1]
  exact o2
theorem OwnD.mono {B B' : Nat} {V : World} {j : J4} {s : S3} (H : OwnD B V j s) (hB : B' ≤ B) : OwnD B' V j s := by
  obtain ⟨⟨c1, o1⟩, ⟨c2, hl, o2, n2⟩, c3, o3⟩ := H
  exact ⟨⟨c1, o1.mono hB⟩, ⟨c2, hl, o2.mono hB, n2.mono hB⟩, c3, o3.mono hB⟩
theorem OwnD.zero (B : Nat) (V : World) (G : G19) : OwnD B V ⟨G, [], [], []⟩ zeroS4 := ⟨⟨⟨Nat.le_refl _, by decide⟩, .inl rfl⟩, ⟨⟨Nat.le_refl _, by decide⟩, [], .inl rfl, notesL_nil _ _⟩, ⟨Nat.le_refl _, by decide⟩, .inl rfl⟩
/-- What stands while a job is read: the reader, its part, room for what is handed back, the job. -/
structure JbS (w V : World) (h g : Nat) (a : Option Addr) (c n : Nat) (part : ByteArray) (q : Nat) (st : Bool) (j : J4) (s : S3) : Prop where
  le : q ≤ n
  cd : RdAt V g a c n q st
  rf : Blk V h #[.pointer (some ⟨g, 0, none⟩), .string part] 63
  room : JobAt V w.heap.size zeroJ zeroS4
  job : JobAt V (w.heap.size + 1) j s
  near : Two g h w V
  size : w.heap.size + 2 ≤ V.heap.size
section
variable {w V x : World} {h g : Nat} {a : Option Addr} {c n q r : Nat} {part : ByteArray} {st st' : Bool} {j : J4} {s : S3}
theorem JbS.ptr (S : JbS w V h g a c n part q st j s) : V.cell? ⟨h, 0, none⟩ = some (.pointer (some ⟨g, 0, none⟩)) := S.rf.two.1
theorem JbS.rdd {bs : List Int} (S : JbS w V h g a c bs.length part q st j s) (hne : h ≠ g) (hlen : bs.length ≤ 1000000) (hB : Byt bs) (hr : ∀ x, Two g h w x → Row x a c bs) : RdD bs V h g a c q st :=
  ⟨S.le, hlen, hB, hne, S.rf.lt, S.ptr, S.cd, hr V S.near⟩
theorem JbS.call (S : JbS w V h g a c n part q st j s) (hg : g < w.heap.size) (hne : h ≠ g) (hb : But g V x) (hr : r ≤ n) (hc : RdAt x g a c n r st') : JbS w x h g a c n part r st' j s :=
  ⟨hr, hc, S.rf.but hb hne, Blk.but S.room hb (by omega), Blk.but S.job hb (by omega), S.near.trans hb.two, Nat.le_trans S.size hb.size⟩
theorem JbS.old (S : JbS w V h g a c n part q st j s) (hx : Old V x) : JbS w x h g a c n part q st j s :=
  ⟨S.le, S.cd.oldr hx, S.rf.old hx, Blk.old S.room hx, Blk.old S.job hx, S.near.trans (Near.of hx), Nat.le_trans S.size hx.size⟩
theorem JbS.below (S : JbS w V h g a c n part q st j s) (hg : g < w.heap.size) (hh : h < w.heap.size) (hx : Below (w.heap.size + 2) V x) : JbS w x h g a c n part q st j s :=
  ⟨S.le, S.cd.below hx (by omega), blk_below S.rf hx (by omega), blk_below S.room hx (by omega), blk_below S.job hx (by omega), ⟨hx.os.trans S.near.os, hx.tape.trans S.near.tape, hx.output.trans S.near.output, Nat.le_trans S.near.size hx.size, fun i hi hn => (hx.block i (by omega)).trans (S.near.block i hi hn)⟩, Nat.le_trans S.size hx.size⟩
theorem JbS.named (S : JbS w V h g a c n part q st j s) (hh : h < w.heap.size) (hne : h ≠ g) (p : ByteArray) : JbS w (V.setCell ⟨h, 1, none⟩ (.string p)) h g a c n p q st j s :=
  ⟨S.le, S.cd.farr hne.symm _ _, S.rf.set 1 _, Blk.other S.room (by omega) _ _, Blk.other S.job (by omega) _ _, S.near.trans (Sole.set V 1 (.string p)).two, by simpa using S.size⟩
theorem JbS.jobs {j' : J4} {s' : S3} (S : JbS w V h g a c n part q st j s) (hg : g < w.heap.size) (hh : h < w.heap.size) (hs : Sole (w.heap.size + 1) V x) (hj : JobAt x (w.heap.size + 1) j' s') : JbS w x h g a c n part q st j' s' :=
  ⟨S.le, (hs.block g (by omega)).trans S.cd, Blk.sole S.rf hs (by omega), Blk.sole S.room hs (by omega), hj, ⟨hs.os.trans S.near.os, hs.tape.trans S.near.tape, hs.output.trans S.near.output, by rw [hs.size]; exact S.near.size, fun i hi hn => (hs.block i (by omega)).trans (S.near.block i hi hn)⟩, by rw [hs.size]; exact S.size⟩
/-- What is so at the end. -/
def FinR (bs : List Int) (w : World) (h g : Nat) (a : Option Addr) (c : Nat) (x : World) (s : S3) : Prop :=
  (OwnD w.heap.size x (readJ bs) s ∧ inJ (readJ bs)) ∧ RdD bs x h g a c (rdF bs).2.1 (rdF bs).2.2 ∧ Blk x h #[.pointer (some ⟨g, 0, none⟩), .string (nameP (partJ bs))] 63 ∧ Two g h w x
theorem JbS.fin {bs : List Int} (S : JbS w V h g a c bs.length part q st j s) (O : OwnD (w.heap.size + 2) V j s) (hin : inJ j) (ej : readJ bs = j) (ep : (rdF bs).2 = (q, st)) (en : part = nameP (partJ bs)) (hg : g < w.heap.size) (hh : h < w.heap.size) (hne : h ≠ g) (hlen : bs.length ≤ 1000000) (hB : Byt bs) (hr : ∀ x, Two g h w x → Row x a c bs) :
    FinR bs w h g a c (V.setRow w.heap.size (jobC j s)) s := by
  have e1 : ∀ k, k ≠ w.heap.size → (V.setRow w.heap.size (jobC j s)).heap[k]? = V.heap[k]? := fun k hk => setRow_other V _ k _ hk
  have N : Two g h w (V.setRow w.heap.size (jobC j s)) := ⟨S.near.os, S.near.tape, S.near.output, by simpa using S.near.size, fun i hi hn => (e1 i (by omega)).trans (S.near.block i hi hn)⟩
  have F : Blk (V.setRow w.heap.size (jobC j s)) h #[.pointer (some ⟨g, 0, none⟩), .string part] 63 := (e1 h (by omega)).trans S.rf
  unfold FinR
  rw [ej, ep, ← en]
  exact ⟨⟨(O.row (by omega) _).mono (by omega), hin⟩, ⟨S.le, hlen, hB, hne, F.lt, F.two.1, (e1 g (by omega)).trans S.cd, hr _ N⟩, F, N⟩
end
theorem JobAt.there {w : World} {b : Nat} {j : J4} {s : S3} (H : JobAt w b j s) : w.there b 0 19 := fun i hi => by
  refine ⟨?_, Blk.free H _⟩
  rw [Blk.cell H, Nat.zero_add, Array.getElem?_eq_getElem (by rw [jobC_size]; omega)]
  rfl
theorem JobAt.geoCells {w : World} {b : Nat} {j : J4} {s : S3} (H : JobAt w b j s) (G : G19) : JobAt (w.setCells b 0 (geoC G).toList) b { j with g := G } s := by
  have e : ∀ (j : J4), (jobC j s) = ([] ++ ((geoC j.g).toList ++ [Value.slice s.ia j.items.length s.ic, .slice s.na j.notes.length s.nc, .slice s.fa j.floats.length s.fc])).toArray := fun j => rfl
  unfold JobAt at H ⊢
  rw [e] at H
  have := blk_cells b 31 (geoC G).toList (geoC j.g).toList [] _ w rfl H
  rw [e]
  exact this
def opT : OpD := ⟨0, magicS, 0, false, []⟩
theorem zero_inJ (G : G19) (hG : inE G) : inJ ⟨G, [], [], []⟩ := ⟨hG, get_all (fun x hx => by simp at hx) (zero_in 0).1, get_all (fun x hx => by simp at hx) (zero_in 0).2⟩
theorem zeroG_in : inE zeroG4 := by
  have h0 : inR 0 := by unfold inR; omega
  exact ⟨h0, h0, h0, h0, h0, h0, h0, h0, h0, h0, h0, h0, h0, h0, h0, h0, h0, h0⟩
set_option maxHeartbeats 16000000 in
theorem rjob_any (bs : List Int) (h g : Nat) (a : Option Addr) (c : Nat) (p0 : ByteArray) (w : World) (H : RdD bs w h g a c 0 false) (Hf : Blk w h #[.pointer (some ⟨g, 0, none⟩), .string p0] 63) :
    Calls Try.prog 18 #[.pointer (some ⟨h, 0, none⟩)] w fun e w' => ∃ s, e = .returned (.agg (jobC (readJ bs) s)) ∧ FinR bs w h g a c w' s := by
  have hg := H.rd.lt
  have hh := H.lt
  have hne := H.ne
  have hlen := H.len
  have hmx : 1000002 ≤ maxLen := by decide
  have HB := Lib.hid H.byt
  have HRow : Hid (∀ x, Two g h w x → Row x a c bs) := Lib.hid fun x hx => ⟨H.row.1, fun k hk => by
    obtain ⟨b, off, rfl, hB, hc⟩ := H.row.2 k hk
    have n1 := row_ne H.rd hc
    have n2 : b ≠ h := by
      rintro rfl
      have e := (Blk.cell Hf (off + k)).symm.trans hc
      have hl : off + k < 2 := (Array.getElem?_eq_some_iff.1 e).1
      rcases (show off + k = 0 ∨ off + k = 1 by omega) with h0 | h0 <;> (rw [h0] at e; simp at e)
    exact ⟨b, off, rfl, Nat.lt_of_lt_of_le hB hx.size, (World.cell?_of_block (hx.block b hB (fun e => by omega))).trans hc⟩⟩
  have HF : Hid (∀ (V : World) (part : ByteArray) (q : Nat) (st : Bool) (j : J4) (s : S3), JbS w V h g a c bs.length part q st j s → OwnD (w.heap.size + 2) V j s → inJ j → readJ bs = j → (rdF bs).2 = (q, st) → part = nameP (partJ bs) → FinR bs w h g a c (V.setRow w.heap.size (jobC j s)) s) :=
    Lib.hid fun V part q st j s S O hin ej ep en => S.fin O hin ej ep en hg hh hne hlen HB.out HRow.out
  have HP := Lib.hid (pos_in H.byt)
  have HD := Lib.hid fun (V : World) (part : ByteArray) (q : Nat) (st : Bool) (j : J4) (s : S3) (S : JbS w V h g a c bs.length part q st j s) => S.rdd hne hlen HB.out HRow.out
  have S0 : JbS w ((w.alloc (.cells (jobC zeroJ zeroS4) 31)).alloc (.cells (jobC zeroJ zeroS4) 31)) h g a c bs.length p0 0 false zeroJ zeroS4 := by
    have b0 := tbel2 w (.cells (jobC zeroJ zeroS4) 31) (.cells (jobC zeroJ zeroS4) 31)
    have D := job_new (w.alloc (.cells (jobC zeroJ zeroS4) 31)) zeroJ zeroS4
    rw [World.size_alloc] at D
    exact ⟨Nat.zero_le _, H.rd.oldr b0, Hf.old b0, (job_new w zeroJ zeroS4).old (tbel1 (w.alloc (.cells (jobC zeroJ zeroS4) 31)) (.cells (jobC zeroJ zeroS4) 31)), D, Near.of b0, by simp⟩
  have hpt := fun k hk h0 h1 => partJ_at bs k hk h0 h1
  have hpe := fun k hk h => posJ_end bs k hk h
  have HX := Lib.hid (And.intro hpt hpe)
  clear H Hf hpt hpe
  go_enter Try.func18, Try.ntmps18
  go_upto_region 2 with (fail)
  change Code.wp _ _ _ _ ((w.alloc (.cells (jobC zeroJ zeroS4) 31)).alloc (.cells (jobC zeroJ zeroS4) 31))
  generalize (w.alloc _).alloc _ = U at *
  have d0 := S0.ptr
  have p1 := S0.rf.two.2
  have f1 := S0.rf.free 1
  go_upto_region 3 with (fail)
  have S1 := S0.named hh hne (nameP 0)
  change Code.wp _ _ _ _ (U.setCell ⟨h, 1, none⟩ (.string (nameP 0)))
  generalize U.setCell _ _ = V1 at *
  clear d0 p1 f1 S0
  have d0 := S1.ptr
  have cm := rread_any g a c bs 0 false opT none 0 (by decide) S1.le hlen HB.out V1 S1.cd (HRow.out V1 S1.near)
  have hv : readR bs 0 false opT = ([], pos1 bs) := by
    unfold readR opT
    rw [pos1]
    rfl
  rw [hv] at cm
  unfold opV opT at cm
  dsimp only at cm
  have hP1 := HP.out.1
  go_wp2_with fail
  refine cm.mono ?_
  rintro e V2 ⟨v, rfl, _, R1, B1⟩
  have S2 := S1.call hg hne B1 hP1 R1
  clear S1 R1 B1 cm hv d0
  have d0 := S2.ptr
  have c2 := S2.cd.c2
  cases hs1 : (pos1 bs).2 with
  | true =>
    rw [hs1] at c2
    go_upto_region 5 with (fail)
    (refine wp_region_plain (Old V2) 1 (Below.refl _ V2) ?_; simp only [List.take_succ_cons, List.take_zero, List.drop_succ_cons, List.drop_zero])
    (refine Text.val (fun x hx => load_job (.tmp 3) rfl rfl (S2.job.old hx)) (by kernel_rfl) ?_; simp only [Act.put, List.getElem_toArray, List.getElem_cons_succ, List.getElem_cons_zero, List.setIfInBounds_toArray, List.set_cons_zero, List.set_cons_succ])
    intro x hx
    refine store_job (j := zeroJ) (s := zeroS4) rfl (.tmp 2) (.tmp 24) rfl rfl (by kernel_rfl) (S2.room.old hx) ?_
    go_wp2
    obtain ⟨e1, e2, e3, e4⟩ := stop1 bs hs1
    have ej : readJ bs = zeroJ := by unfold readJ; rw [e1, e2, e3, e4]; rfl
    have h0 : (posJ bs 0).2 = false := by rw [posJ0]
    have h1 : (posJ bs (0 + 1)).2 = true := by rw [Nat.zero_add, posJ1]; exact hs1
    have en := HX.out.1 0 (by omega) h0 h1
    have ep := HX.out.2 0 (by omega) h1
    rw [Nat.zero_add, posJ1] at ep
    have hf := HF.out x _ _ _ zeroJ zeroS4 (S2.old hx) (OwnD.zero _ _ _) (zero_inJ _ zeroG_in) ej ep (by rw [en])
    refine bodyPost_ret (v := .agg (jobC zeroJ zeroS4)) ?_ rfl ⟨zeroS4, by rw [ej], hf⟩
    exact results_cell_row Try.results18 _ _ _ 31 _ _ _ rfl ((S2.room.old hx).row zeroJ zeroS4) Try.underlying31 rfl info29
  | false =>
    rw [hs1] at c2
    go_upto_region 6 with (fail)
    clear d0 c2
    have d0 := S2.ptr
    have p1 := S2.rf.two.2
    have f1 := S2.rf.free 1
    go_upto_region 7 with (fail)
    have S3 := S2.named hh hne (nameP 1)
    change Code.wp _ _ _ _ (V2.setCell ⟨h, 1, none⟩ (.string (nameP 1)))
    generalize V2.setCell _ _ = V3 at *
    clear d0 p1 f1 S2
    have cg := fun x (hx : Old V3 x) => rgeom_any bs h g a c _ _ x ((HD.out V3 _ _ _ _ _ S3).old hx)
    rw [← rdG] at cg
    have hP2 := HP.out.2.1
    have hGi : inE (rdG bs).1 := by
      rw [rdG]
      exact (geom_in HB.out _ _ hP1).1
    have HGi := Lib.hid hGi
    clear hGi
    obtain ⟨G, hG⟩ : ∃ G, G = (rdG bs).1 := ⟨_, rfl⟩
    rw [← hG] at cg
    have HG := Lib.hid hG
    clear hG
    have CF := Lib.hid fun (y : World) (hy : Old V3 y) => trivial
    (refine wp_region_plain (Old V3) 1 (Below.refl _ V3) ?_; simp only [List.take_succ_cons, List.take_zero, List.drop_succ_cons, List.drop_zero])
    repeat (first | (apply Text.sees (hw := by kernel_rfl); (focus (intro x hx K hK; have hc := CF.out x hx; go_simp; exact hK)); simp only [Act.put, List.getElem_toArray, List.getElem_cons_succ, List.getElem_cons_zero, List.setIfInBounds_toArray, List.set_cons_zero, List.set_cons_succ]) | (apply Text.idle; (focus (intro x hx K hK; go_simp; exact hK)); simp only [Act.put, List.getElem_toArray, List.getElem_cons_succ, List.getElem_cons_zero, List.setIfInBounds_toArray, List.set_cons_zero, List.set_cons_succ]))
    intro x hx
    refine wpl_call (V := fun v y => v = .agg (geoC G) ∧ RdAt y g a c bs.length (rdG bs).2.1 (rdG bs).2.2 ∧ But g x y) rfl (by kernel_rfl) ((cg x hx).mono fun e y hh => ⟨_, hh.1, rfl, hh.2.1.rd, hh.2.2⟩) ?_
    rintro v V4 ⟨rfl, R4, B4⟩
    have S4 := (S3.old hx).call hg hne B4 hP2 R4
    refine wpl_step (w' := V4) (v := .pointer (some ⟨w.heap.size + 1, 0, none⟩)) rfl (by kernel_rfl) ?_
    refine wpList_store_mid rfl 26 (.tmp 30) (.tmp 29) rfl (w.heap.size + 1) 0 (geoC G) rfl rfl (JobAt.there S4.job) info24 (geo_one G) ?_
    have S5 := S4.jobs hg hh (sole_cells (w.heap.size + 1) (geoC G).toList 0 V4) (S4.job.geoCells G)
    change JbS w _ h g a c bs.length (nameP 1) _ _ ⟨G, [], [], []⟩ zeroS4 at S5
    generalize V4.setCells _ _ _ = V5 at *
    clear S3 S4 R4 B4 cg CF hx x
    have d0 := S5.ptr
    have c2 := S5.cd.c2
    cases hs2 : (rdG bs).2.2 with
    | true =>
      rw [hs2] at c2
      go_upto_region 9 with (fail)
      (refine wp_region_plain (Old V5) 1 (Below.refl _ V5) ?_; simp only [List.take_succ_cons, List.take_zero, List.drop_succ_cons, List.drop_zero])
      (refine Text.val (fun x hx => load_job (.tmp 3) rfl rfl (S5.job.old hx)) (by kernel_rfl) ?_; simp only [Act.put, List.getElem_toArray, List.getElem_cons_succ, List.getElem_cons_zero, List.setIfInBounds_toArray, List.set_cons_zero, List.set_cons_succ])
      intro x hx
      refine store_job (j := ⟨G, [], [], []⟩) (s := zeroS4) rfl (.tmp 2) (.tmp 38) rfl rfl (by kernel_rfl) (S5.room.old hx) ?_
      go_wp2
      obtain ⟨e2, e3, e4⟩ := stop2 bs hs2
      have ej : readJ bs = ⟨G, [], [], []⟩ := by unfold readJ; rw [e2, e3, e4, ← HG.out]
      have h0 : (posJ bs 1).2 = false := by rw [posJ1]; exact hs1
      have h1 : (posJ bs (1 + 1)).2 = true := by rw [posJ2]; exact hs2
      have en := HX.out.1 1 (by omega) h0 h1
      have ep := HX.out.2 1 (by omega) h1
      rw [posJ2] at ep
      have hf := HF.out x _ _ _ ⟨G, [], [], []⟩ zeroS4 (S5.old hx) (OwnD.zero _ _ _) (zero_inJ _ (by rw [HG.out]; exact HGi.out)) ej ep (by rw [en])
      refine bodyPost_ret (v := .agg (jobC ⟨G, [], [], []⟩ zeroS4)) ?_ rfl ⟨zeroS4, by rw [ej], hf⟩
      exact results_cell_row Try.results18 _ _ _ 31 _ _ _ rfl ((S5.room.old hx).row ⟨G, [], [], []⟩ zeroS4) Try.underlying31 rfl info29
    | false =>
      rw [hs2] at c2
      go_upto_region 10 with (fail)
      clear d0 c2
      have d0 := S5.ptr
      have p1 := S5.rf.two.2
      have f1 := S5.rf.free 1
      go_upto_region 11 with (fail)
      have S6 := S5.named hh hne (nameP 2)
      change Code.wp _ _ _ _ (V5.setCell ⟨h, 1, none⟩ (.string (nameP 2)))
      generalize V5.setCell _ _ = V6 at *
      clear d0 p1 f1 S5
      rw [hs2] at S6
      have cc := fun x (hx : RdD bs x h g a c (rdG bs).2.1 false) => rcount_any g a c bs _ _ hx.le hlen hx.byt x hx.rd hx.row
      have hle := countR_le bs (rdG bs).2.1 false S6.le HB.out
      have hci := countR_in bs (rdG bs).2.1 false S6.le
      have hdef : rdI bs = loopR itemR bs (countR bs (rdG bs).2.1 false).1.toNat (countR bs (rdG bs).2.1 false).2.1 (countR bs (rdG bs).2.1 false).2.2 := by rw [rdI, listR, hs2]
      obtain ⟨⟨x0, q0, t0⟩, hC⟩ : ∃ r, r = countR bs (rdG bs).2.1 false := ⟨_, rfl⟩
      rw [← hC] at cc hle hci hdef
      dsimp only at cc hle hci hdef
      clear hC
      obtain ⟨M, rfl⟩ := Int.eq_ofNat_of_zero_le hci.1
      rw [Int.toNat_natCast] at hdef
      have hM : M ≤ 1000000 := by omega
      have HDf := Lib.hid hdef
      have hq0 := hle.1
      have ccV := cc V6 (HD.out _ _ _ _ _ _ S6)
      clear hdef hle hci cc
      have d0 := S6.ptr
      go_wp2_with fail
      refine ccV.mono ?_
      rintro e y0 ⟨rfl, R0, B0⟩
      have T0 := S6.call hg hne B0 hq0 R0
      clear R0 d0 ccV S6 B0
      go_wp2_with fail
      go_loopw [5] (fun i wr => ∃ (k p' : Nat) (st' : Bool) (acc : List I7) (ia : Option Addr) (ic : Nat), k ≤ M ∧ acc.length ≤ k ∧ i = .int .i64 k ∧ Hid (JbS w wr h g a c bs.length (nameP 2) p' st' ⟨G, acc, [], []⟩ ⟨ia, ic, none, 0, none, 0⟩) ∧ Hid ((acc.length ≤ ic ∧ ic ≤ maxLen) ∧ wr.ownsRow (w.heap.size + 2) 49 7 (.slice ia acc.length ic) acc.length (acc.map encI).flatten) ∧ Hid (True) ∧ Hid ((∀ x ∈ acc, inI x)) ∧ Hid (acc ++ (loopR itemR bs (M - k) p' st').1 = (rdI bs).1 ∧ (loopR itemR bs (M - k) p' st').2 = (rdI bs).2)) (fun i _ => M - (intOf i).toNat)
      case atStart =>
        exact ⟨0, q0, t0, [], none, 0, Nat.zero_le _, Nat.le_refl _, rfl, Lib.hid T0, Lib.hid ⟨⟨Nat.le_refl _, by decide⟩, World.ownsRow_nil _ _ _ _⟩, Lib.hid trivial, Lib.hid (by simp), Lib.hid (by rw [HDf.out]; exact ⟨rfl, rfl⟩)⟩
      case round =>
        clear T0
        obtain ⟨k, p', st', acc, ia, ic, hk, hal, rfl, HS, HO, HT, HN, HE⟩ := hrel
        by_cases hlt : k < M
        · cases st' with
          | true =>
            have eA : acc = (rdI bs).1 := by
              have := HE.out.1
              rwa [loop_stop, List.append_nil] at this
            have eB : (rdI bs).2 = (p', true) := by
              have := HE.out.2
              rw [loop_stop] at this
              exact this.symm
            have S := HS.out
            have d0 := S.ptr
            have c2 := S.cd.c2
            go_upto_region 17 with (fail)
            (refine wp_region_plain (Old wr) 1 (Below.refl _ wr) ?_; simp only [List.take_succ_cons, List.take_zero, List.drop_succ_cons, List.drop_zero])
            (refine Text.val (fun x hx => load_job (.tmp 3) rfl rfl (S.job.old hx)) (by kernel_rfl) ?_; simp only [Act.put, List.getElem_toArray, List.getElem_cons_succ, List.getElem_cons_zero, List.setIfInBounds_toArray, List.set_cons_zero, List.set_cons_succ])
            intro x hx
            refine store_job (j := ⟨G, acc, [], []⟩) (s := ⟨ia, ic, none, 0, none, 0⟩) rfl (.tmp 2) (.tmp 76) rfl rfl (by kernel_rfl) (S.room.old hx) ?_
            go_wp2
            have hsx : (rdI bs).2.2 = true := by rw [eB]
            obtain ⟨_, _, eo, _, _, oA⟩ := own_of (d := zeroI) HO.out.2 encI_len
            cases eo
            have ej : readJ bs = ⟨G, acc, [], []⟩ := by unfold readJ; rw [(stop3 bs hsx).1, (stop3 bs hsx).2, ← HG.out, ← eA]
            have h0 : (posJ bs 2).2 = false := by rw [posJ2]; exact hs2
            have h1 : (posJ bs (2 + 1)).2 = true := by rw [posJ3]; exact hsx
            have en := HX.out.1 2 (by omega) h0 h1
            have ep := HX.out.2 2 (by omega) h1
            rw [posJ3, eB] at ep
            have S7 := HS.out
            have hf := HF.out x _ _ _ ⟨G, acc, [], []⟩ ⟨ia, ic, none, 0, none, 0⟩ (S7.old hx) (OwnD.near (M := fun _ => False) ⟨⟨HO.out.1, oA⟩, ⟨⟨Nat.le_refl _, Nat.zero_le _⟩, [], .inl rfl, notesL_nil _ _⟩, ⟨Nat.le_refl _, Nat.zero_le _⟩, .inl rfl⟩ (Near.of hx) (fun _ e => e.elim)) ⟨by rw [HG.out]; exact HGi.out, get_all HN.out (zero_in 0).1, get_all (fun x hx => by simp at hx) (zero_in 0).2⟩ ej ep (by rw [en])
            refine bodyPost_ret (v := .agg (jobC ⟨G, acc, [], []⟩ ⟨ia, ic, none, 0, none, 0⟩)) ?_ rfl ⟨⟨ia, ic, none, 0, none, 0⟩, by rw [ej], hf⟩
            exact results_cell_row Try.results18 _ _ _ 31 _ _ _ rfl ((S7.room.old hx).row ⟨G, acc, [], []⟩ ⟨ia, ic, none, 0, none, 0⟩) Try.underlying31 rfl info29
          | false =>
            have S := HS.out
            have d0 := S.ptr
            have c2 := S.cd.c2
            go_upto_region 15 with (fail)
            have o19 := (S.job.three).1
            dsimp only at o19
            obtain ⟨jm, hjm⟩ : ∃ jm, M - k = jm + 1 := ⟨M - k - 1, by omega⟩
            have ha := HE.out.1
            have hb := HE.out.2
            rw [hjm] at ha hb
            simp only [loopR, Bool.false_eq_true, if_false] at ha hb
            rw [show jm = M - (k + 1) by omega] at ha hb
            clear hjm d0 c2 HE
            have RD := HD.out _ _ _ _ _ _ S
            have hsz := S.size
            have hown := HO.out.2
            have hub := own_ge hown
            have hgb : g < w.heap.size + 2 := by omega
            obtain ⟨i0, hi, hz0, hz1, hz2⟩ := info_parts infoI7
            have CE := Lib.hid fun z (hz : Near (fun i => i = g ∨ some i = (Value.slice ia acc.length ic).ownBlock) wr z) => near_at hz o19 (fun e => e.elim (fun e => by omega) (fun e => by have := hub _ e; omega))
            obtain ⟨⟨y, q2, t2⟩, hI⟩ : ∃ r, r = itemR bs p' false := ⟨_, rfl⟩
            have hyi := (item_in HB.out p' false S.le).1
            have ci := fun x (hx : RdD bs x h g a c p' false) => ritem17_any bs h g a c p' false x hx
            rw [← hI] at ha hb hyi ci
            dsimp only at ha hb hyi ci
            have HAB := Lib.hid (And.intro ha hb)
            clear ha hb hI o19
            (refine wp_region_planU 7 [(0, true), (1, true), (2, true), (3, false), (4, false), (5, false), (6, true)] (fun i => i = g ∨ some i = (Value.slice ia acc.length ic).ownBlock) (by kernel_rfl) (by kernel_rfl) ?_; simp only [pick, List.getElem?_cons_succ, List.getElem?_cons_zero, List.drop_succ_cons, List.drop_zero])
            repeat (first | (apply TextU.sees (hw := by kernel_rfl); (focus (intro x hx K hK; have hc := CE.out x hx; go_simp; exact hK)); simp only [Act.put, List.getElem_toArray, List.getElem_cons_succ, List.getElem_cons_zero, List.setIfInBounds_toArray, List.set_cons_zero, List.set_cons_succ]) | (apply TextU.idle; (focus (intro x hx K hK; go_simp; exact hK)); simp only [Act.put, List.getElem_toArray, List.getElem_cons_succ, List.getElem_cons_zero, List.setIfInBounds_toArray, List.set_cons_zero, List.set_cons_succ]))
            (refine TextU.loud (fun i => some i = (Value.slice ia acc.length ic).ownBlock) (V := fun v y' => ∃ x, Old wr x ∧ v = itm y ∧ RdD bs y' h g a c q2 t2 ∧ But g x y') (fun _ h => .inr h) (fun x hx => (ci x (RD.old hx)).mono fun e y' hh => ⟨_, hh.1, ⟨x, hx, rfl, hh.2⟩, hh.2.2.near.wide fun _ h => .inl h⟩) (by kernel_rfl) (fun _ => by kernel_rfl) (fun v3 y3 hv3 _ => ?_); simp only [Act.put, List.getElem_toArray, List.getElem_cons_succ, List.getElem_cons_zero, List.setIfInBounds_toArray, List.set_cons_zero, List.set_cons_succ])
            obtain ⟨x3, hx3, rfl, R3, B3⟩ := hv3
            have own3 : y3.ownsRow (w.heap.size + 2) 49 7 (.slice ia acc.length ic) acc.length (acc.map encI).flatten := OwnR.but (own_old hown hx3) B3 hgb
            have S3 := (S.old hx3).call hg hne B3 R3.le R3.rd
            have h3s := S3.size
            have hx3s := hx3.size
            have HQ := Lib.hid (And.intro S3 (And.intro hx3 (And.intro B3 trivial)))
            clear S S3 RD R3 CE hown HS
            (refine TextU.loudv (fun i => some i = (Value.slice ia acc.length ic).ownBlock) (V := fun v z => ∃ x, Old y3 x ∧ v = .slice (some ⟨x.heap.size, 0, none⟩) 1 1 ∧ z = x.alloc (.cells (encI y).toArray 49)) (fun _ h => h) (fun x hx => ⟨_, _, build_I _ _ y (.tmp 65) rfl rfl x, ⟨x, hx, rfl, rfl⟩, Near.of (tbel1 x _)⟩) (by kernel_rfl) (fun v4 y4 hv4 _ => ?_); simp only [Act.put, List.getElem_toArray, List.getElem_cons_succ, List.getElem_cons_zero, List.setIfInBounds_toArray, List.set_cons_zero, List.set_cons_succ])
            obtain ⟨x1, hx1, rfl, rfl⟩ := hv4
            have hx1s := hx1.size
            (refine TextU.loudv (fun _ => False) (V := fun v w' => ∃ z, Old (x1.alloc (.cells (encI y).toArray 49)) z ∧ (w'.ownsRow (w.heap.size + 2) 49 7 v (acc ++ [y]).length ((acc ++ [y]).map encI).flatten ∧ Below (w.heap.size + 2) z w' ∧ Chg 49 z w')) (fun _ h => h.elim) (fun z hz => (app_E Try.underlying27 hi hz0 hz1 hz2 rfl (by decide) encI_len encI_one x1 z _ y _ _ (.tmp 63) (.tmp 66) rfl rfl rfl ((own_old own3 hx1).alloc _) hz (by omega) (by omega) (by omega)).imp fun v' => fun ⟨w', e1, e2, e3⟩ => ⟨w', e1, ⟨z, hz, e2⟩, e3⟩) (by kernel_rfl) (fun v5 w4 hv5 _ => ?_); simp only [Act.put, List.getElem_toArray, List.getElem_cons_succ, List.getElem_cons_zero, List.setIfInBounds_toArray, List.set_cons_zero, List.set_cons_succ])
            obtain ⟨z, hz3, hown', hb3, hc3⟩ := hv5
            have CF := Lib.hid fun (y : World) (hy : Near (fun _ => False) w4 y) => trivial
            repeat (first | (apply TextU.sees (hw := by kernel_rfl); (focus (intro x hx K hK; have hc := CF.out x hx; go_simp; exact hK)); simp only [Act.put, List.getElem_toArray, List.getElem_cons_succ, List.getElem_cons_zero, List.setIfInBounds_toArray, List.set_cons_zero, List.set_cons_succ]) | (apply TextU.idle; (focus (intro x hx K hK; go_simp; exact hK)); simp only [Act.put, List.getElem_toArray, List.getElem_cons_succ, List.getElem_cons_zero, List.setIfInBounds_toArray, List.set_cons_zero, List.set_cons_succ]))
            apply TextU.done
            intro z2 hz2'
            obtain ⟨a', c', rfl, hc1', hc2'⟩ := own_form hown'
            have hs3 := hz3.size
            have hs4 := hb3.size
            simp only [World.size_alloc] at hs3
            have bz : Below (w.heap.size + 2) y3 z2 := ((((hx1.mono (by omega)).alloc (by omega) (.cells (encI y).toArray 49)).trans (hz3.mono (by simp; omega))).trans hb3).trans (hz2'.mono (by omega))
            have S4 := HQ.out.1.below hg hh bz
            have p19 := (S4.job.three).1
            have f19 := Blk.free S4.job 19
            have S5 : JbS w (z2.setCell ⟨w.heap.size + 1, 19, none⟩ (.slice a' (acc ++ [y]).length c')) h g a c bs.length (nameP 2) q2 t2 ⟨G, acc ++ [y], [], []⟩ ⟨a', c', none, 0, none, 0⟩ := S4.jobs hg hh (Sole.set (g := w.heap.size + 1) z2 19 (.slice a' (acc ++ [y]).length c')) (S4.job.newI (acc ++ [y]) a' c')
            have own5 := ownsRow_setCell_below (own_old hown' hz2') (a := ⟨w.heap.size + 1, 19, none⟩) (show w.heap.size + 1 < w.heap.size + 2 by omega) (.slice a' (acc ++ [y]).length c')
            have HT5 : Hid True := Lib.hid trivial
            have HN5 : Hid (∀ x ∈ acc ++ [y], inI x) := Lib.hid fun x hx => by
              rcases List.mem_append.1 hx with hx | hx
              · exact HN.out x hx
              · rw [List.mem_singleton.1 hx]; exact hyi
            have HS5 := Lib.hid S5
            have HO5 := Lib.hid (And.intro (And.intro hc1' hc2') own5)
            have hl5 : (acc ++ [y]).length ≤ k + 1 := by simp; omega
            clear CF hown' hz2' hb3 hc3 hz3 hx1 bz S4 S5 own5 own3 HQ hub HO HT HN hx3 B3 ci
            go_wp2
            go_roundw
            case rel =>
              refine ⟨k + 1, q2, t2, acc ++ [y], a', c', by omega, hl5, by go_num, ?_, ?_, ?_, ?_, Lib.hid ⟨?_, HAB.out.2⟩⟩
              · simpa only [List.length_append, List.length_singleton] using HS5
              · simpa only [List.length_append, List.length_singleton] using HO5
              · simpa only [List.length_append, List.length_singleton] using HT5
              · simpa only [List.length_append, List.length_singleton] using HN5
              · rw [List.append_assoc]; exact HAB.out.1
            case measure => simp [intOf]; omega
        · obtain rfl : k = M := by omega
          rw [Nat.sub_self] at HE
          cases st' with
          | true =>
            have HE : Hid (acc ++ (loopR itemR bs 0 p' true).1 = (rdI bs).1 ∧ (loopR itemR bs 0 p' true).2 = (rdI bs).2) := HE
            have eA : acc = (rdI bs).1 := by
              have := HE.out.1
              rwa [loop_stop, List.append_nil] at this
            have eB : (rdI bs).2 = (p', true) := by
              have := HE.out.2
              rw [loop_stop] at this
              exact this.symm
            have S := HS.out
            have d0 := S.ptr
            have c2 := S.cd.c2
            go_upto_region 17 with (fail)
            (refine wp_region_plain (Old wr) 1 (Below.refl _ wr) ?_; simp only [List.take_succ_cons, List.take_zero, List.drop_succ_cons, List.drop_zero])
            (refine Text.val (fun x hx => load_job (.tmp 3) rfl rfl (S.job.old hx)) (by kernel_rfl) ?_; simp only [Act.put, List.getElem_toArray, List.getElem_cons_succ, List.getElem_cons_zero, List.setIfInBounds_toArray, List.set_cons_zero, List.set_cons_succ])
            intro x hx
            refine store_job (j := ⟨G, acc, [], []⟩) (s := ⟨ia, ic, none, 0, none, 0⟩) rfl (.tmp 2) (.tmp 76) rfl rfl (by kernel_rfl) (S.room.old hx) ?_
            go_wp2
            have hsx : (rdI bs).2.2 = true := by rw [eB]
            obtain ⟨_, _, eo, _, _, oA⟩ := own_of (d := zeroI) HO.out.2 encI_len
            cases eo
            have ej : readJ bs = ⟨G, acc, [], []⟩ := by unfold readJ; rw [(stop3 bs hsx).1, (stop3 bs hsx).2, ← HG.out, ← eA]
            have h0 : (posJ bs 2).2 = false := by rw [posJ2]; exact hs2
            have h1 : (posJ bs (2 + 1)).2 = true := by rw [posJ3]; exact hsx
            have en := HX.out.1 2 (by omega) h0 h1
            have ep := HX.out.2 2 (by omega) h1
            rw [posJ3, eB] at ep
            have S7 := HS.out
            have hf := HF.out x _ _ _ ⟨G, acc, [], []⟩ ⟨ia, ic, none, 0, none, 0⟩ (S7.old hx) (OwnD.near (M := fun _ => False) ⟨⟨HO.out.1, oA⟩, ⟨⟨Nat.le_refl _, Nat.zero_le _⟩, [], .inl rfl, notesL_nil _ _⟩, ⟨Nat.le_refl _, Nat.zero_le _⟩, .inl rfl⟩ (Near.of hx) (fun _ e => e.elim)) ⟨by rw [HG.out]; exact HGi.out, get_all HN.out (zero_in 0).1, get_all (fun x hx => by simp at hx) (zero_in 0).2⟩ ej ep (by rw [en])
            refine bodyPost_ret (v := .agg (jobC ⟨G, acc, [], []⟩ ⟨ia, ic, none, 0, none, 0⟩)) ?_ rfl ⟨⟨ia, ic, none, 0, none, 0⟩, by rw [ej], hf⟩
            exact results_cell_row Try.results18 _ _ _ 31 _ _ _ rfl ((S7.room.old hx).row ⟨G, acc, [], []⟩ ⟨ia, ic, none, 0, none, 0⟩) Try.underlying31 rfl info29
          | false =>
            have eA : acc = (rdI bs).1 := by
              have := HE.out.1
              simpa only [loopR, List.append_nil] using this
            have eB : (rdI bs).2 = (p', false) := by
              have := HE.out.2
              exact this.symm
            have hs3 : (rdI bs).2.2 = false := by rw [eB]
            have eC : (rdI bs).2.1 = p' := by rw [eB]
            obtain ⟨_, _, eo, _, _, oA⟩ := own_of (d := zeroI) HO.out.2 encI_len
            cases eo
            have S := HS.out
            have d0 := S.ptr
            have c2 := S.cd.c2
            go_upto_region 18 with (fail)
            clear d0 c2
            rw [← eC] at S
            have HOw : OwnD (w.heap.size + 2) wr ⟨G, acc, [], []⟩ ⟨ia, ic, none, 0, none, 0⟩ := ⟨⟨HO.out.1, oA⟩, ⟨⟨Nat.le_refl _, Nat.zero_le _⟩, [], .inl rfl, notesL_nil _ _⟩, ⟨Nat.le_refl _, Nat.zero_le _⟩, .inl rfl⟩
            have d0 := S.ptr
            have p1 := S.rf.two.2
            have f1 := S.rf.free 1
            go_upto_region 19 with (fail)
            have S8 := S.named hh hne (nameP 3)
            change Code.wp _ _ _ _ (wr.setCell ⟨h, 1, none⟩ (.string (nameP 3)))
            replace HOw := HOw.near ((Sole.set (g := h) wr 1 (.string (nameP 3))).two (g := g)) (fun i hi => by omega)
            generalize wr.setCell _ _ = V8 at *
            clear d0 p1 f1 S
            have HOw0 := Lib.hid HOw
            have HCap := Lib.hid (And.intro HO.out.1 trivial)
            have HIi := HN
            obtain ⟨IT, rfl⟩ : ∃ IT, IT = acc := ⟨_, rfl⟩
            have HIT := Lib.hid eA
            clear HOw eA eB eC oA HE HS HO HT HN hk hal
            have cc := fun x (hx : RdD bs x h g a c (rdI bs).2.1 false) => rcount_any g a c bs _ _ hx.le hlen hx.byt x hx.rd hx.row
            have hle := countR_le bs (rdI bs).2.1 false S8.le HB.out
            have hci := countR_in bs (rdI bs).2.1 false S8.le
            have hdef : rdN bs = loopR noteR bs (countR bs (rdI bs).2.1 false).1.toNat (countR bs (rdI bs).2.1 false).2.1 (countR bs (rdI bs).2.1 false).2.2 := by rw [rdN, listR, hs3]
            obtain ⟨⟨x0, q0, t0⟩, hC⟩ : ∃ r, r = countR bs (rdI bs).2.1 false := ⟨_, rfl⟩
            rw [← hC] at cc hle hci hdef
            dsimp only at cc hle hci hdef
            clear hC
            obtain ⟨M, rfl⟩ := Int.eq_ofNat_of_zero_le hci.1
            rw [Int.toNat_natCast] at hdef
            have hM : M ≤ 1000000 := by omega
            have HDf := Lib.hid hdef
            have hq0 := hle.1
            have ccV := cc V8 (HD.out _ _ _ _ _ _ S8)
            clear hdef hle hci cc
            have d0 := S8.ptr
            go_wp2_with fail
            refine ccV.mono ?_
            rintro e y0 ⟨rfl, R0, B0⟩
            have T1 := S8.call hg hne B0 hq0 R0
            have HO1 := Lib.hid (HOw0.out.near B0.near (fun i hi => by omega))
            clear R0 d0 ccV S8 B0
            go_wp2_with fail
            go_loopw [6] (fun i wr => ∃ (k p' : Nat) (st' : Bool) (acc : List H2) (acn : List N2) (na : Option Addr) (nc : Nat), k ≤ M ∧ acc.length ≤ k ∧ acc.length = acn.length ∧ i = .int .i64 k ∧ Hid (JbS w wr h g a c bs.length (nameP 3) p' st' ⟨G, IT, acn, []⟩ ⟨ia, ic, na, nc, none, 0⟩) ∧ Hid ((acc.length ≤ nc ∧ nc ≤ maxLen) ∧ wr.ownsRow (w.heap.size + 2) 76 2 (.slice na acc.length nc) acc.length (acc.map encH).flatten) ∧ Hid (OwnE 49 7 encI (w.heap.size + 2) wr ia IT.length (fun i => IT.getD i zeroI)) ∧ Hid (NotesL (w.heap.size + 2) wr acc acn) ∧ Hid (acn ++ (loopR noteR bs (M - k) p' st').1 = (rdN bs).1 ∧ (loopR noteR bs (M - k) p' st').2 = (rdN bs).2)) (fun i _ => M - (intOf i).toNat)
            case atStart =>
              exact ⟨0, q0, t0, [], [], none, 0, Nat.zero_le _, Nat.le_refl _, rfl, rfl, Lib.hid T1, Lib.hid ⟨⟨Nat.le_refl _, by decide⟩, World.ownsRow_nil _ _ _ _⟩, Lib.hid HO1.out.its.2, Lib.hid (notesL_nil _ _), Lib.hid (by rw [HDf.out]; exact ⟨rfl, rfl⟩)⟩
            case round =>
              clear T1
              obtain ⟨k, p', st', acc, acn, na, nc, hk, hal, han, rfl, HS, HO, HT, HN, HE⟩ := hrel
              have HAN := Lib.hid han
              clear han
              by_cases hlt : k < M
              · cases st' with
                | true =>
                  have eA : acn = (rdN bs).1 := by
                    have := HE.out.1
                    rwa [loop_stop, List.append_nil] at this
                  have eB : (rdN bs).2 = (p', true) := by
                    have := HE.out.2
                    rw [loop_stop] at this
                    exact this.symm
                  have S := HS.out
                  have d0 := S.ptr
                  have c2 := S.cd.c2
                  go_upto_region 25 with (fail)
                  (refine wp_region_plain (Old wr) 1 (Below.refl _ wr) ?_; simp only [List.take_succ_cons, List.take_zero, List.drop_succ_cons, List.drop_zero])
                  (refine Text.val (fun x hx => load_job (.tmp 3) rfl rfl (S.job.old hx)) (by kernel_rfl) ?_; simp only [Act.put, List.getElem_toArray, List.getElem_cons_succ, List.getElem_cons_zero, List.setIfInBounds_toArray, List.set_cons_zero, List.set_cons_succ])
                  intro x hx
                  refine store_job (j := ⟨G, IT, acn, []⟩) (s := ⟨ia, ic, na, nc, none, 0⟩) rfl (.tmp 2) (.tmp 114) rfl rfl (by kernel_rfl) (S.room.old hx) ?_
                  go_wp2
                  have hsx : (rdN bs).2.2 = true := by rw [eB]
                  obtain ⟨_, _, eo, _, _, oA⟩ := own_of (d := zeroH) HO.out.2 encH_len
                  cases eo
                  have cN := HO.out.1
                  rw [HAN.out] at cN
                  have ej : readJ bs = ⟨G, IT, acn, []⟩ := by unfold readJ; rw [stop4 bs hsx, ← HG.out, ← HIT.out, ← eA]
                  have h0 : (posJ bs 3).2 = false := by rw [posJ3]; exact hs3
                  have h1 : (posJ bs (3 + 1)).2 = true := by rw [posJ4]; exact hsx
                  have en := HX.out.1 3 (by omega) h0 h1
                  have ep := HX.out.2 3 (by omega) h1
                  rw [posJ4, eB] at ep
                  have S7 := HS.out
                  have hf := HF.out x _ _ _ ⟨G, IT, acn, []⟩ ⟨ia, ic, na, nc, none, 0⟩ (S7.old hx) (OwnD.near (M := fun _ => False) ⟨⟨HCap.out.1, HT.out⟩, ⟨cN, acc, oA, HN.out⟩, ⟨Nat.le_refl _, Nat.zero_le _⟩, .inl rfl⟩ (Near.of hx) (fun _ e => e.elim)) ⟨by rw [HG.out]; exact HGi.out, get_all HIi.out (zero_in 0).1, get_all (fun x hx => by simp at hx) (zero_in 0).2⟩ ej ep (by rw [en])
                  refine bodyPost_ret (v := .agg (jobC ⟨G, IT, acn, []⟩ ⟨ia, ic, na, nc, none, 0⟩)) ?_ rfl ⟨⟨ia, ic, na, nc, none, 0⟩, by rw [ej], hf⟩
                  exact results_cell_row Try.results18 _ _ _ 31 _ _ _ rfl ((S7.room.old hx).row ⟨G, IT, acn, []⟩ ⟨ia, ic, na, nc, none, 0⟩) Try.underlying31 rfl info29
                | false =>
                  have S := HS.out
                  have d0 := S.ptr
                  have c2 := S.cd.c2
                  go_upto_region 23 with (fail)
                  have o19 := (S.job.three).2.1
                  dsimp only at o19
                  rw [← HAN.out] at o19
                  obtain ⟨jm, hjm⟩ : ∃ jm, M - k = jm + 1 := ⟨M - k - 1, by omega⟩
                  have ha := HE.out.1
                  have hb := HE.out.2
                  rw [hjm] at ha hb
                  simp only [loopR, Bool.false_eq_true, if_false] at ha hb
                  rw [show jm = M - (k + 1) by omega] at ha hb
                  clear hjm d0 c2 HE
                  have RD := HD.out _ _ _ _ _ _ S
                  have hsz := S.size
                  have hown := HO.out.2
                  have hub := own_ge hown
                  have hgb : g < w.heap.size + 2 := by omega
                  obtain ⟨i0, hi, hz0, hz1, hz2⟩ := info_parts infoH2
                  have CE := Lib.hid fun z (hz : Near (fun i => i = g ∨ some i = (Value.slice na acc.length nc).ownBlock) wr z) => near_at hz o19 (fun e => e.elim (fun e => by omega) (fun e => by have := hub _ e; omega))
                  obtain ⟨⟨y, q2, t2⟩, hI⟩ : ∃ r, r = noteR bs p' false := ⟨_, rfl⟩
                  have ci := fun x (hx : RdD bs x h g a c p' false) => rnote_any bs h g a c p' false x hx
                  rw [← hI] at ha hb ci
                  dsimp only at ha hb ci
                  have HAB := Lib.hid (And.intro ha hb)
                  clear ha hb hI o19
                  (refine wp_region_planU 7 [(0, true), (1, true), (2, true), (3, false), (4, false), (5, false), (6, true)] (fun i => i = g ∨ some i = (Value.slice na acc.length nc).ownBlock) (by kernel_rfl) (by kernel_rfl) ?_; simp only [pick, List.getElem?_cons_succ, List.getElem?_cons_zero, List.drop_succ_cons, List.drop_zero])
                  repeat (first | (apply TextU.sees (hw := by kernel_rfl); (focus (intro x hx K hK; have hc := CE.out x hx; go_simp; exact hK)); simp only [Act.put, List.getElem_toArray, List.getElem_cons_succ, List.getElem_cons_zero, List.setIfInBounds_toArray, List.set_cons_zero, List.set_cons_succ]) | (apply TextU.idle; (focus (intro x hx K hK; go_simp; exact hK)); simp only [Act.put, List.getElem_toArray, List.getElem_cons_succ, List.getElem_cons_zero, List.setIfInBounds_toArray, List.set_cons_zero, List.set_cons_succ]))
                  (refine TextU.loud (fun i => some i = (Value.slice na acc.length nc).ownBlock) (V := fun v y' => ∃ x hd, Old wr x ∧ v = hdV hd ∧ NoteOwn x.heap.size y' hd y ∧ RdD bs y' h g a c q2 t2 ∧ But g x y') (fun _ h => .inr h) (fun x hx => (ci x (RD.old hx)).mono fun e y' hh => by obtain ⟨hd, r1, r2, r3, r4⟩ := hh; exact ⟨_, r1, ⟨x, hd, hx, rfl, r2, r3, r4⟩, r4.near.wide fun _ h => .inl h⟩) (by kernel_rfl) (fun _ => by kernel_rfl) (fun v3 y3 hv3 _ => ?_); simp only [Act.put, List.getElem_toArray, List.getElem_cons_succ, List.getElem_cons_zero, List.setIfInBounds_toArray, List.set_cons_zero, List.set_cons_succ])
                  obtain ⟨x3, hd, hx3, rfl, NO3, R3, B3⟩ := hv3
                  have own3 : y3.ownsRow (w.heap.size + 2) 76 2 (.slice na acc.length nc) acc.length (acc.map encH).flatten := OwnR.but (own_old hown hx3) B3 hgb
                  have S3 := (S.old hx3).call hg hne B3 R3.le R3.rd
                  have h3s := S3.size
                  have hx3s := hx3.size
                  have HQ := Lib.hid (And.intro S3 (And.intro hx3 (And.intro B3 trivial)))
                  clear S S3 RD R3 CE hown HS
                  (refine TextU.loudv (fun i => some i = (Value.slice na acc.length nc).ownBlock) (V := fun v z => ∃ x, Old y3 x ∧ v = .slice (some ⟨x.heap.size, 0, none⟩) 1 1 ∧ z = x.alloc (.cells (encH hd).toArray 76)) (fun _ h => h) (fun x hx => ⟨_, _, build_H _ _ hd (.tmp 103) rfl rfl x, ⟨x, hx, rfl, rfl⟩, Near.of (tbel1 x _)⟩) (by kernel_rfl) (fun v4 y4 hv4 _ => ?_); simp only [Act.put, List.getElem_toArray, List.getElem_cons_succ, List.getElem_cons_zero, List.setIfInBounds_toArray, List.set_cons_zero, List.set_cons_succ])
                  obtain ⟨x1, hx1, rfl, rfl⟩ := hv4
                  have hx1s := hx1.size
                  (refine TextU.loudv (fun _ => False) (V := fun v w' => ∃ z, Old (x1.alloc (.cells (encH hd).toArray 76)) z ∧ (w'.ownsRow (w.heap.size + 2) 76 2 v (acc ++ [hd]).length ((acc ++ [hd]).map encH).flatten ∧ Below (w.heap.size + 2) z w' ∧ Chg 76 z w')) (fun _ h => h.elim) (fun z hz => (app_E Try.underlying28 hi hz0 hz1 hz2 rfl (by decide) encH_len encH_one x1 z _ hd _ _ (.tmp 101) (.tmp 104) rfl rfl rfl ((own_old own3 hx1).alloc _) hz (by omega) (by omega) (by omega)).imp fun v' => fun ⟨w', e1, e2, e3⟩ => ⟨w', e1, ⟨z, hz, e2⟩, e3⟩) (by kernel_rfl) (fun v5 w4 hv5 _ => ?_); simp only [Act.put, List.getElem_toArray, List.getElem_cons_succ, List.getElem_cons_zero, List.setIfInBounds_toArray, List.set_cons_zero, List.set_cons_succ])
                  obtain ⟨z, hz3, hown', hb3, hc3⟩ := hv5
                  have CF := Lib.hid fun (y : World) (hy : Near (fun _ => False) w4 y) => trivial
                  repeat (first | (apply TextU.sees (hw := by kernel_rfl); (focus (intro x hx K hK; have hc := CF.out x hx; go_simp; exact hK)); simp only [Act.put, List.getElem_toArray, List.getElem_cons_succ, List.getElem_cons_zero, List.setIfInBounds_toArray, List.set_cons_zero, List.set_cons_succ]) | (apply TextU.idle; (focus (intro x hx K hK; go_simp; exact hK)); simp only [Act.put, List.getElem_toArray, List.getElem_cons_succ, List.getElem_cons_zero, List.setIfInBounds_toArray, List.set_cons_zero, List.set_cons_succ]))
                  apply TextU.done
                  intro z2 hz2'
                  obtain ⟨a', c', rfl, hc1', hc2'⟩ := own_form hown'
                  have hs3 := hz3.size
                  have hs4 := hb3.size
                  simp only [World.size_alloc] at hs3
                  have bz : Below (w.heap.size + 2) y3 z2 := ((((hx1.mono (by omega)).alloc (by omega) (.cells (encH hd).toArray 76)).trans (hz3.mono (by simp; omega))).trans hb3).trans (hz2'.mono (by omega))
                  have S4 := HQ.out.1.below hg hh bz
                  have p19 := (S4.job.three).2.1
                  have f19 := Blk.free S4.job 20
                  have eln : (acc ++ [hd]).length = (acn ++ [y]).length := by simp [HAN.out]
                  have S5 : JbS w (z2.setCell ⟨w.heap.size + 1, 20, none⟩ (.slice a' (acc ++ [hd]).length c')) h g a c bs.length (nameP 3) q2 t2 ⟨G, IT, acn ++ [y], []⟩ ⟨ia, ic, a', c', none, 0⟩ := by
                    rw [eln]
                    exact S4.jobs hg hh (Sole.set (g := w.heap.size + 1) z2 20 (.slice a' (acn ++ [y]).length c')) (S4.job.newN (acn ++ [y]) a' c')
                  have ELN := Lib.hid eln
                  clear eln
                  have own5 := ownsRow_setCell_below (own_old hown' hz2') (a := ⟨w.heap.size + 1, 20, none⟩) (show w.heap.size + 1 < w.heap.size + 2 by omega) (.slice a' (acc ++ [hd]).length c')
                  have HT5 := Lib.hid ((((((((HT.out.old hx3).but B3 hgb).old hx1).old (tbel1 x1 (.cells (encH hd).toArray 76))).old hz3).chg hc3 (by decide)).old hz2').other (show w.heap.size + 1 < w.heap.size + 2 by omega) 20 (.slice a' (acc ++ [hd]).length c'))
                  have nl3 := NotesL.snoc (HN.out.old hx3) B3 hgb (by omega) NO3
                  have HN5 := Lib.hid ((((((nl3.old hx1).old (tbel1 x1 (.cells (encH hd).toArray 76))).old hz3).chg hc3 (by decide) (by decide)).old hz2').other (show w.heap.size + 1 < w.heap.size + 2 by omega) 20 (.slice a' (acc ++ [hd]).length c'))
                  have HS5 := Lib.hid S5
                  have HO5 := Lib.hid (And.intro (And.intro hc1' hc2') own5)
                  have hl5 : (acc ++ [hd]).length ≤ k + 1 := by simp; omega
                  clear CF hown' hz2' hb3 hc3 hz3 hx1 bz S4 S5 own5 own3 HQ hub HO HT HN hx3 B3 ci NO3 nl3
                  go_wp2
                  go_roundw
                  case rel =>
                    refine ⟨k + 1, q2, t2, acc ++ [hd], acn ++ [y], a', c', by omega, hl5, ELN.out, by go_num, ?_, ?_, ?_, ?_, Lib.hid ⟨?_, HAB.out.2⟩⟩
                    · simpa only [List.length_append, List.length_singleton] using HS5
                    · simpa only [List.length_append, List.length_singleton] using HO5
                    · simpa only [List.length_append, List.length_singleton] using HT5
                    · simpa only [List.length_append, List.length_singleton] using HN5
                    · rw [List.append_assoc]; exact HAB.out.1
                  case measure => simp [intOf]; omega
              · obtain rfl : k = M := by omega
                rw [Nat.sub_self] at HE
                cases st' with
                | true =>
                  have HE : Hid (acn ++ (loopR noteR bs 0 p' true).1 = (rdN bs).1 ∧ (loopR noteR bs 0 p' true).2 = (rdN bs).2) := HE
                  have eA : acn = (rdN bs).1 := by
                    have := HE.out.1
                    rwa [loop_stop, List.append_nil] at this
                  have eB : (rdN bs).2 = (p', true) := by
                    have := HE.out.2
                    rw [loop_stop] at this
                    exact this.symm
                  have S := HS.out
                  have d0 := S.ptr
                  have c2 := S.cd.c2
                  go_upto_region 25 with (fail)
                  (refine wp_region_plain (Old wr) 1 (Below.refl _ wr) ?_; simp only [List.take_succ_cons, List.take_zero, List.drop_succ_cons, List.drop_zero])
                  (refine Text.val (fun x hx => load_job (.tmp 3) rfl rfl (S.job.old hx)) (by kernel_rfl) ?_; simp only [Act.put, List.getElem_toArray, List.getElem_cons_succ, List.getElem_cons_zero, List.setIfInBounds_toArray, List.set_cons_zero, List.set_cons_succ])
                  intro x hx
                  refine store_job (j := ⟨G, IT, acn, []⟩) (s := ⟨ia, ic, na, nc, none, 0⟩) rfl (.tmp 2) (.tmp 114) rfl rfl (by kernel_rfl) (S.room.old hx) ?_
                  go_wp2
                  have hsx : (rdN bs).2.2 = true := by rw [eB]
                  obtain ⟨_, _, eo, _, _, oA⟩ := own_of (d := zeroH) HO.out.2 encH_len
                  cases eo
                  have cN := HO.out.1
                  rw [HAN.out] at cN
                  have ej : readJ bs = ⟨G, IT, acn, []⟩ := by unfold readJ; rw [stop4 bs hsx, ← HG.out, ← HIT.out, ← eA]
                  have h0 : (posJ bs 3).2 = false := by rw [posJ3]; exact hs3
                  have h1 : (posJ bs (3 + 1)).2 = true := by rw [posJ4]; exact hsx
                  have en := HX.out.1 3 (by omega) h0 h1
                  have ep := HX.out.2 3 (by omega) h1
                  rw [posJ4, eB] at ep
                  have S7 := HS.out
                  have hf := HF.out x _ _ _ ⟨G, IT, acn, []⟩ ⟨ia, ic, na, nc, none, 0⟩ (S7.old hx) (OwnD.near (M := fun _ => False) ⟨⟨HCap.out.1, HT.out⟩, ⟨cN, acc, oA, HN.out⟩, ⟨Nat.le_refl _, Nat.zero_le _⟩, .inl rfl⟩ (Near.of hx) (fun _ e => e.elim)) ⟨by rw [HG.out]; exact HGi.out, get_all HIi.out (zero_in 0).1, get_all (fun x hx => by simp at hx) (zero_in 0).2⟩ ej ep (by rw [en])
                  refine bodyPost_ret (v := .agg (jobC ⟨G, IT, acn, []⟩ ⟨ia, ic, na, nc, none, 0⟩)) ?_ rfl ⟨⟨ia, ic, na, nc, none, 0⟩, by rw [ej], hf⟩
                  exact results_cell_row Try.results18 _ _ _ 31 _ _ _ rfl ((S7.room.old hx).row ⟨G, IT, acn, []⟩ ⟨ia, ic, na, nc, none, 0⟩) Try.underlying31 rfl info29
                | false =>
                  have eA : acn = (rdN bs).1 := by
                    have := HE.out.1
                    simpa only [loopR, List.append_nil] using this
                  have eB : (rdN bs).2 = (p', false) := by
                    have := HE.out.2
                    exact this.symm
                  have hs4 : (rdN bs).2.2 = false := by rw [eB]
                  have eC : (rdN bs).2.1 = p' := by rw [eB]
                  obtain ⟨_, _, eo, _, _, oA⟩ := own_of (d := zeroH) HO.out.2 encH_len
                  cases eo
                  have S := HS.out
                  have d0 := S.ptr
                  have c2 := S.cd.c2
                  go_upto_region 26 with (fail)
                  clear d0 c2
                  rw [← eC] at S
                  have cN := HO.out.1
                  rw [HAN.out] at cN
                  have HOw : OwnD (w.heap.size + 2) wr ⟨G, IT, acn, []⟩ ⟨ia, ic, na, nc, none, 0⟩ := ⟨⟨HCap.out.1, HT.out⟩, ⟨cN, acc, oA, HN.out⟩, ⟨Nat.le_refl _, Nat.zero_le _⟩, .inl rfl⟩
                  have d0 := S.ptr
                  have p1 := S.rf.two.2
                  have f1 := S.rf.free 1
                  go_upto_region 27 with (fail)
                  have S9 := S.named hh hne (nameP 4)
                  change Code.wp _ _ _ _ (wr.setCell ⟨h, 1, none⟩ (.string (nameP 4)))
                  replace HOw := HOw.near ((Sole.set (g := h) wr 1 (.string (nameP 4))).two (g := g)) (fun i hi => by omega)
                  generalize wr.setCell _ _ = V9 at *
                  clear d0 p1 f1 S
                  have HOw1 := Lib.hid HOw
                  have HCap := Lib.hid (And.intro HCap.out.1 cN)
                  have HNT := Lib.hid eA
                  obtain ⟨NT, rfl⟩ : ∃ NT, NT = acn := ⟨_, rfl⟩
                  clear HOw eA eB eC oA HE HS HO HT HN HAN cN hk hal
                  have cc := fun x (hx : RdD bs x h g a c (rdN bs).2.1 false) => rcount_any g a c bs _ _ hx.le hlen hx.byt x hx.rd hx.row
                  have hle := countR_le bs (rdN bs).2.1 false S9.le HB.out
                  have hci := countR_in bs (rdN bs).2.1 false S9.le
                  have hdef : rdF bs = loopR floatR bs (countR bs (rdN bs).2.1 false).1.toNat (countR bs (rdN bs).2.1 false).2.1 (countR bs (rdN bs).2.1 false).2.2 := by rw [rdF, listR, hs4]
                  obtain ⟨⟨x0, q0, t0⟩, hC⟩ : ∃ r, r = countR bs (rdN bs).2.1 false := ⟨_, rfl⟩
                  rw [← hC] at cc hle hci hdef
                  dsimp only at cc hle hci hdef
                  clear hC
                  obtain ⟨M, rfl⟩ := Int.eq_ofNat_of_zero_le hci.1
                  rw [Int.toNat_natCast] at hdef
                  have hM : M ≤ 1000000 := by omega
                  have HDf := Lib.hid hdef
                  have hq0 := hle.1
                  have ccV := cc V9 (HD.out _ _ _ _ _ _ S9)
                  clear hdef hle hci cc
                  have d0 := S9.ptr
                  go_wp2_with fail
                  refine ccV.mono ?_
                  rintro e y0 ⟨rfl, R0, B0⟩
                  have T2 := S9.call hg hne B0 hq0 R0
                  have HO2 := Lib.hid (HOw1.out.near B0.near (fun i hi => by omega))
                  clear R0 d0 ccV S9 B0
                  go_wp2_with fail
                  go_loopw [7] (fun i wr => ∃ (k p' : Nat) (st' : Bool) (acc : List F3) (fa : Option Addr) (fc : Nat), k ≤ M ∧ acc.length ≤ k ∧ i = .int .i64 k ∧ Hid (JbS w wr h g a c bs.length (nameP 4) p' st' ⟨G, IT, NT, acc⟩ ⟨ia, ic, na, nc, fa, fc⟩) ∧ Hid ((acc.length ≤ fc ∧ fc ≤ maxLen) ∧ wr.ownsRow (w.heap.size + 2) 90 3 (.slice fa acc.length fc) acc.length (acc.map encF).flatten) ∧ Hid ((OwnE 49 7 encI (w.heap.size + 2) wr ia IT.length fun i => IT.getD i zeroI) ∧ ∃ hl, (OwnE 76 2 encH (w.heap.size + 2) wr na hl.length fun i => hl.getD i zeroH) ∧ NotesL (w.heap.size + 2) wr hl NT) ∧ Hid ((∀ x ∈ acc, inF x)) ∧ Hid (acc ++ (loopR floatR bs (M - k) p' st').1 = (rdF bs).1 ∧ (loopR floatR bs (M - k) p' st').2 = (rdF bs).2)) (fun i _ => M - (intOf i).toNat)
                  case atStart =>
                    exact ⟨0, q0, t0, [], none, 0, Nat.zero_le _, Nat.le_refl _, rfl, Lib.hid T2, Lib.hid ⟨⟨Nat.le_refl _, by decide⟩, World.ownsRow_nil _ _ _ _⟩, Lib.hid ⟨HO2.out.its.2, HO2.out.nts.2⟩, Lib.hid (by simp), Lib.hid (by rw [HDf.out]; exact ⟨rfl, rfl⟩)⟩
                  case round =>
                    clear T2
                    obtain ⟨k, p', st', acc, fa, fc, hk, hal, rfl, HS, HO, HT, HN, HE⟩ := hrel
                    by_cases hlt : k < M
                    · cases st' with
                      | true =>
                        have eA : acc = (rdF bs).1 := by
                          have := HE.out.1
                          rwa [loop_stop, List.append_nil] at this
                        have eB : (rdF bs).2 = (p', true) := by
                          have := HE.out.2
                          rw [loop_stop] at this
                          exact this.symm
                        have S := HS.out
                        have d0 := S.ptr
                        have c2 := S.cd.c2
                        have HSx := Lib.hid S
                        go_upto_region 34 with (fail)
                        (refine wp_region_plain (Old wr) 1 (Below.refl _ wr) ?_; simp only [List.take_succ_cons, List.take_zero, List.drop_succ_cons, List.drop_zero])
                        (refine Text.val (fun x hx => load_job (.tmp 3) rfl rfl (S.job.old hx)) (by kernel_rfl) ?_; simp only [Act.put, List.getElem_toArray, List.getElem_cons_succ, List.getElem_cons_zero, List.setIfInBounds_toArray, List.set_cons_zero, List.set_cons_succ])
                        intro x hx
                        refine store_job (j := ⟨G, IT, NT, acc⟩) (s := ⟨ia, ic, na, nc, fa, fc⟩) rfl (.tmp 2) (.tmp 161) rfl rfl (by kernel_rfl) (S.room.old hx) ?_
                        go_wp2
                        have hsx : (rdF bs).2.2 = true := by rw [eB]
                        obtain ⟨_, _, eo, _, _, oA⟩ := own_of (d := zeroF) HO.out.2 encF_len
                        cases eo
                        have ej : readJ bs = ⟨G, IT, NT, acc⟩ := by unfold readJ; rw [← HG.out, ← HIT.out, ← HNT.out, ← eA]
                        have h0 : (posJ bs 4).2 = false := by rw [posJ4]; exact hs4
                        have h1 : (posJ bs (4 + 1)).2 = true := by rw [posJ5]; exact hsx
                        have en := HX.out.1 4 (by omega) h0 h1
                        have ep := HX.out.2 4 (by omega) h1
                        replace ep := eB
                        have S7 := HS.out
                        have hf := HF.out x _ _ _ ⟨G, IT, NT, acc⟩ ⟨ia, ic, na, nc, fa, fc⟩ (S7.old hx) (OwnD.near (M := fun _ => False) ⟨⟨HCap.out.1, HT.out.1⟩, ⟨HCap.out.2, HT.out.2⟩, HO.out.1, oA⟩ (Near.of hx) (fun _ e => e.elim)) ⟨by rw [HG.out]; exact HGi.out, get_all HIi.out (zero_in 0).1, get_all HN.out (zero_in 0).2⟩ ej ep (by rw [en])
                        refine bodyPost_ret (v := .agg (jobC ⟨G, IT, NT, acc⟩ ⟨ia, ic, na, nc, fa, fc⟩)) ?_ rfl ⟨⟨ia, ic, na, nc, fa, fc⟩, by rw [ej], hf⟩
                        exact results_cell_row Try.results18 _ _ _ 31 _ _ _ rfl ((S7.room.old hx).row ⟨G, IT, NT, acc⟩ ⟨ia, ic, na, nc, fa, fc⟩) Try.underlying31 rfl info29
                      | false =>
                        have S := HS.out
                        have d0 := S.ptr
                        have c2 := S.cd.c2
                        go_upto_region 31 with (fail)
                        have o19 := (S.job.three).2.2
                        dsimp only at o19
                        obtain ⟨jm, hjm⟩ : ∃ jm, M - k = jm + 1 := ⟨M - k - 1, by omega⟩
                        have ha := HE.out.1
                        have hb := HE.out.2
                        rw [hjm] at ha hb
                        simp only [loopR, Bool.false_eq_true, if_false] at ha hb
                        rw [show jm = M - (k + 1) by omega] at ha hb
                        clear hjm d0 c2 HE
                        have RD := HD.out _ _ _ _ _ _ S
                        have hsz := S.size
                        have hown := HO.out.2
                        have hub := own_ge hown
                        have hgb : g < w.heap.size + 2 := by omega
                        obtain ⟨i0, hi, hz0, hz1, hz2⟩ := info_parts infoF3
                        have CE := Lib.hid fun z (hz : Near (fun i => i = g ∨ some i = (Value.slice fa acc.length fc).ownBlock) wr z) => near_at hz o19 (fun e => e.elim (fun e => by omega) (fun e => by have := hub _ e; omega))
                        have hFR : floatR bs p' false = (⟨(intR bs p' false).1, (intR bs (intR bs p' false).2.1 (intR bs p' false).2.2).1, (intR bs (intR bs (intR bs p' false).2.1 (intR bs p' false).2.2).2.1 (intR bs (intR bs p' false).2.1 (intR bs p' false).2.2).2.2).1⟩, (intR bs (intR bs (intR bs p' false).2.1 (intR bs p' false).2.2).2.1 (intR bs (intR bs p' false).2.1 (intR bs p' false).2.2).2.2).2) := rfl
                        have hyi := (float_in HB.out p' false S.le).1
                        obtain ⟨⟨z0, q1, t1⟩, e0⟩ : ∃ r, r = intR bs p' false := ⟨_, rfl⟩
                        rw [← e0] at hFR
                        dsimp only at hFR
                        obtain ⟨⟨z1, q2, t2⟩, e1⟩ : ∃ r, r = intR bs q1 t1 := ⟨_, rfl⟩
                        rw [← e1] at hFR
                        dsimp only at hFR
                        obtain ⟨⟨z2, q3, t3⟩, e2⟩ : ∃ r, r = intR bs q2 t2 := ⟨_, rfl⟩
                        rw [← e2] at hFR
                        dsimp only at hFR
                        rw [hFR] at ha hb hyi
                        dsimp only at ha hb hyi
                        obtain ⟨y, hy⟩ : ∃ y : F3, y = ⟨z0, z1, z2⟩ := ⟨_, rfl⟩
                        rw [← hy] at ha hyi
                        have HY := Lib.hid hy
                        have HAB := Lib.hid (And.intro ha hb)
                        have k0 := Lib.hid fun y (hy : RdD bs y h g a c p' false) => num_at e0 y hy
                        have k1 := Lib.hid fun y (hy : RdD bs y h g a c q1 t1) => sp_at e1 y hy
                        have k2 := Lib.hid fun y (hy : RdD bs y h g a c q2 t2) => num_at e2 y hy
                        clear ha hb hFR hy e0 e1 e2 o19
                        (refine wp_region_planU 12 [(0, true), (1, true), (2, true), (4, true), (6, true), (3, false), (5, false), (7, false), (8, true), (9, false), (10, false), (11, true)] (fun i => i = g ∨ some i = (Value.slice fa acc.length fc).ownBlock) (by kernel_rfl) (by kernel_rfl) ?_; simp only [pick, List.getElem?_cons_succ, List.getElem?_cons_zero, List.drop_succ_cons, List.drop_zero])
                        repeat (first | (apply TextU.sees (hw := by kernel_rfl); (focus (intro x hx K hK; have hc := CE.out x hx; go_simp; exact hK)); simp only [Act.put, List.getElem_toArray, List.getElem_cons_succ, List.getElem_cons_zero, List.setIfInBounds_toArray, List.set_cons_zero, List.set_cons_succ]) | (apply TextU.idle; (focus (intro x hx K hK; go_simp; exact hK)); simp only [Act.put, List.getElem_toArray, List.getElem_cons_succ, List.getElem_cons_zero, List.setIfInBounds_toArray, List.set_cons_zero, List.set_cons_succ]))
                        (refine TextU.loud (fun i => i = g ∨ some i = (Value.slice fa acc.length fc).ownBlock) (V := fun v y' => ∃ x, Old wr x ∧ v = .int .i64 z0 ∧ RdD bs y' h g a c q1 t1 ∧ But g x y') (fun _ h => h) (fun x hx => (k0.out x (RD.old hx)).mono fun e y' hh => ⟨_, hh.1, ⟨x, hx, rfl, hh.2⟩, hh.2.2.near.wide fun _ h => .inl h⟩) (by kernel_rfl) (fun _ => by kernel_rfl) (fun v u0 hv _ => ?_); simp only [Act.put, List.getElem_toArray, List.getElem_cons_succ, List.getElem_cons_zero, List.setIfInBounds_toArray, List.set_cons_zero, List.set_cons_succ])
                        obtain ⟨m0, hm0, rfl, W0, C0⟩ := hv
                        (refine TextU.loud (fun i => i = g ∨ some i = (Value.slice fa acc.length fc).ownBlock) (V := fun v y' => ∃ x, Old u0 x ∧ v = .int .i64 z1 ∧ RdD bs y' h g a c q2 t2 ∧ But g x y') (fun _ h => h) (fun x hx => (k1.out x (W0.old hx)).mono fun e y' hh => ⟨_, hh.1, ⟨x, hx, rfl, hh.2⟩, hh.2.2.near.wide fun _ h => .inl h⟩) (by kernel_rfl) (fun _ => by kernel_rfl) (fun v u1 hv _ => ?_); simp only [Act.put, List.getElem_toArray, List.getElem_cons_succ, List.getElem_cons_zero, List.setIfInBounds_toArray, List.set_cons_zero, List.set_cons_succ])
                        obtain ⟨m1, hm1, rfl, W1, C1⟩ := hv
                        (refine TextU.loud (fun i => some i = (Value.slice fa acc.length fc).ownBlock) (V := fun v y' => ∃ x, Old u1 x ∧ v = .int .i64 z2 ∧ RdD bs y' h g a c q3 t3 ∧ But g x y') (fun _ h => .inr h) (fun x hx => (k2.out x (W1.old hx)).mono fun e y' hh => ⟨_, hh.1, ⟨x, hx, rfl, hh.2⟩, hh.2.2.near.wide fun _ h => .inl h⟩) (by kernel_rfl) (fun _ => by kernel_rfl) (fun v u2 hv _ => ?_); simp only [Act.put, List.getElem_toArray, List.getElem_cons_succ, List.getElem_cons_zero, List.setIfInBounds_toArray, List.set_cons_zero, List.set_cons_succ])
                        obtain ⟨m2, hm2, rfl, W2, C2⟩ := hv
                        have CF0 := Lib.hid fun (y : World) (hy : Near (fun i => some i = (Value.slice fa acc.length fc).ownBlock) u2 y) => trivial
                        repeat (first | (apply TextU.sees (hw := by kernel_rfl); (focus (intro x hx K hK; have hc := CF0.out x hx; go_simp; exact hK)); simp only [Act.put, List.getElem_toArray, List.getElem_cons_succ, List.getElem_cons_zero, List.setIfInBounds_toArray, List.set_cons_zero, List.set_cons_succ]) | (apply TextU.idle; (focus (intro x hx K hK; go_simp; exact hK)); simp only [Act.put, List.getElem_toArray, List.getElem_cons_succ, List.getElem_cons_zero, List.setIfInBounds_toArray, List.set_cons_zero, List.set_cons_succ]))
                        have R3 := W2
                        have B3 := But.trans (But.trans (But.of hm0) C0) (But.trans (But.trans (But.of hm1) C1) (But.trans (But.of hm2) C2))
                        have hx3 : Old wr wr := Below.refl _ _
                        have own3 : u2.ownsRow (w.heap.size + 2) 90 3 (.slice fa acc.length fc) acc.length (acc.map encF).flatten := OwnR.but (own_old hown hx3) B3 hgb
                        have S3 := (S.old hx3).call hg hne B3 R3.le R3.rd
                        have h3s := S3.size
                        have hx3s := hx3.size
                        have HQ := Lib.hid (And.intro S3 (And.intro hx3 (And.intro B3 trivial)))
                        clear S S3 RD R3 CE hown HS
                        (refine TextU.loudv (fun i => some i = (Value.slice fa acc.length fc).ownBlock) (V := fun v z => ∃ x, Old u2 x ∧ v = .slice (some ⟨x.heap.size, 0, none⟩) 1 1 ∧ z = x.alloc (.cells (encF y).toArray 90)) (fun _ h => h) (fun x hx => ⟨_, _, build_F _ _ y (.tmp 146) rfl (by rw [HY.out]; rfl) x, ⟨x, hx, rfl, rfl⟩, Near.of (tbel1 x _)⟩) (by kernel_rfl) (fun v4 y4 hv4 _ => ?_); simp only [Act.put, List.getElem_toArray, List.getElem_cons_succ, List.getElem_cons_zero, List.setIfInBounds_toArray, List.set_cons_zero, List.set_cons_succ])
                        obtain ⟨x1, hx1, rfl, rfl⟩ := hv4
                        have hx1s := hx1.size
                        (refine TextU.loudv (fun _ => False) (V := fun v w' => ∃ z, Old (x1.alloc (.cells (encF y).toArray 90)) z ∧ (w'.ownsRow (w.heap.size + 2) 90 3 v (acc ++ [y]).length ((acc ++ [y]).map encF).flatten ∧ Below (w.heap.size + 2) z w' ∧ Chg 90 z w')) (fun _ h => h.elim) (fun z hz => (app_E Try.underlying29 hi hz0 hz1 hz2 rfl (by decide) encF_len encF_one x1 z _ y _ _ (.tmp 139) (.tmp 147) rfl rfl rfl ((own_old own3 hx1).alloc _) hz (by omega) (by omega) (by omega)).imp fun v' => fun ⟨w', e1, e2, e3⟩ => ⟨w', e1, ⟨z, hz, e2⟩, e3⟩) (by kernel_rfl) (fun v5 w4 hv5 _ => ?_); simp only [Act.put, List.getElem_toArray, List.getElem_cons_succ, List.getElem_cons_zero, List.setIfInBounds_toArray, List.set_cons_zero, List.set_cons_succ])
                        obtain ⟨z, hz3, hown', hb3, hc3⟩ := hv5
                        have CF := Lib.hid fun (y : World) (hy : Near (fun _ => False) w4 y) => trivial
                        repeat (first | (apply TextU.sees (hw := by kernel_rfl); (focus (intro x hx K hK; have hc := CF.out x hx; go_simp; exact hK)); simp only [Act.put, List.getElem_toArray, List.getElem_cons_succ, List.getElem_cons_zero, List.setIfInBounds_toArray, List.set_cons_zero, List.set_cons_succ]) | (apply TextU.idle; (focus (intro x hx K hK; go_simp; exact hK)); simp only [Act.put, List.getElem_toArray, List.getElem_cons_succ, List.getElem_cons_zero, List.setIfInBounds_toArray, List.set_cons_zero, List.set_cons_succ]))
                        apply TextU.done
                        intro z2 hz2'
                        obtain ⟨a', c', rfl, hc1', hc2'⟩ := own_form hown'
                        have hs3 := hz3.size
                        have hs4 := hb3.size
                        simp only [World.size_alloc] at hs3
                        have bz : Below (w.heap.size + 2) u2 z2 := ((((hx1.mono (by omega)).alloc (by omega) (.cells (encF y).toArray 90)).trans (hz3.mono (by simp; omega))).trans hb3).trans (hz2'.mono (by omega))
                        have S4 := HQ.out.1.below hg hh bz
                        have p19 := (S4.job.three).2.2
                        have f19 := Blk.free S4.job 21
                        have S5 : JbS w (z2.setCell ⟨w.heap.size + 1, 21, none⟩ (.slice a' (acc ++ [y]).length c')) h g a c bs.length (nameP 4) q3 t3 ⟨G, IT, NT, acc ++ [y]⟩ ⟨ia, ic, na, nc, a', c'⟩ := S4.jobs hg hh (Sole.set (g := w.heap.size + 1) z2 21 (.slice a' (acc ++ [y]).length c')) (S4.job.newF (acc ++ [y]) a' c')
                        have own5 := ownsRow_setCell_below (own_old hown' hz2') (a := ⟨w.heap.size + 1, 21, none⟩) (show w.heap.size + 1 < w.heap.size + 2 by omega) (.slice a' (acc ++ [y]).length c')
                        obtain ⟨hl, oh, nlh⟩ := HT.out.2
                        have oI5 := (((((((HT.out.1.old hx3).but B3 hgb).old hx1).old (tbel1 x1 (.cells (encF y).toArray 90))).old hz3).chg hc3 (by decide)).old hz2').other (show w.heap.size + 1 < w.heap.size + 2 by omega) 21 (.slice a' (acc ++ [y]).length c')
                        have oH5 := (((((((oh.old hx3).but B3 hgb).old hx1).old (tbel1 x1 (.cells (encF y).toArray 90))).old hz3).chg hc3 (by decide)).old hz2').other (show w.heap.size + 1 < w.heap.size + 2 by omega) 21 (.slice a' (acc ++ [y]).length c')
                        have nN5 := (((((((nlh.old hx3).but B3 hgb).old hx1).old (tbel1 x1 (.cells (encF y).toArray 90))).old hz3).chg hc3 (by decide) (by decide)).old hz2').other (show w.heap.size + 1 < w.heap.size + 2 by omega) 21 (.slice a' (acc ++ [y]).length c')
                        have HT5 : Hid ((OwnE 49 7 encI (w.heap.size + 2) (z2.setCell ⟨w.heap.size + 1, 21, none⟩ (.slice a' (acc ++ [y]).length c')) ia IT.length fun i => IT.getD i zeroI) ∧ ∃ hl, (OwnE 76 2 encH (w.heap.size + 2) (z2.setCell ⟨w.heap.size + 1, 21, none⟩ (.slice a' (acc ++ [y]).length c')) na hl.length fun i => hl.getD i zeroH) ∧ NotesL (w.heap.size + 2) (z2.setCell ⟨w.heap.size + 1, 21, none⟩ (.slice a' (acc ++ [y]).length c')) hl NT) := Lib.hid ⟨oI5, hl, oH5, nN5⟩
                        clear oI5 oH5 nN5 oh nlh
                        have HN5 : Hid (∀ x ∈ acc ++ [y], inF x) := Lib.hid fun x hx => by
                          rcases List.mem_append.1 hx with hx | hx
                          · exact HN.out x hx
                          · rw [List.mem_singleton.1 hx]; exact hyi
                        have HS5 := Lib.hid S5
                        have HO5 := Lib.hid (And.intro (And.intro hc1' hc2') own5)
                        have hl5 : (acc ++ [y]).length ≤ k + 1 := by simp; omega
                        clear CF hown' hz2' hb3 hc3 hz3 hx1 bz S4 S5 own5 own3 HQ hub HO HT HN hx3 B3 C0 C1 C2 W0 W1 hm0 hm1 hm2 CF0 k0 k1 k2
                        go_wp2
                        go_roundw
                        case rel =>
                          refine ⟨k + 1, q3, t3, acc ++ [y], a', c', by omega, hl5, by go_num, ?_, ?_, ?_, ?_, Lib.hid ⟨?_, HAB.out.2⟩⟩
                          · simpa only [List.length_append, List.length_singleton] using HS5
                          · simpa only [List.length_append, List.length_singleton] using HO5
                          · simpa only [List.length_append, List.length_singleton] using HT5
                          · simpa only [List.length_append, List.length_singleton] using HN5
                          · rw [List.append_assoc]; exact HAB.out.1
                        case measure => simp [intOf]; omega
                    · obtain rfl : k = M := by omega
                      rw [Nat.sub_self] at HE
                      cases st' with
                      | true =>
                        have HE : Hid (acc ++ (loopR floatR bs 0 p' true).1 = (rdF bs).1 ∧ (loopR floatR bs 0 p' true).2 = (rdF bs).2) := HE
                        have eA : acc = (rdF bs).1 := by
                          have := HE.out.1
                          rwa [loop_stop, List.append_nil] at this
                        have eB : (rdF bs).2 = (p', true) := by
                          have := HE.out.2
                          rw [loop_stop] at this
                          exact this.symm
                        have S := HS.out
                        have d0 := S.ptr
                        have c2 := S.cd.c2
                        have HSx := Lib.hid S
                        go_upto_region 34 with (fail)
                        (refine wp_region_plain (Old wr) 1 (Below.refl _ wr) ?_; simp only [List.take_succ_cons, List.take_zero, List.drop_succ_cons, List.drop_zero])
                        (refine Text.val (fun x hx => load_job (.tmp 3) rfl rfl (S.job.old hx)) (by kernel_rfl) ?_; simp only [Act.put, List.getElem_toArray, List.getElem_cons_succ, List.getElem_cons_zero, List.setIfInBounds_toArray, List.set_cons_zero, List.set_cons_succ])
                        intro x hx
                        refine store_job (j := ⟨G, IT, NT, acc⟩) (s := ⟨ia, ic, na, nc, fa, fc⟩) rfl (.tmp 2) (.tmp 161) rfl rfl (by kernel_rfl) (S.room.old hx) ?_
                        go_wp2
                        have hsx : (rdF bs).2.2 = true := by rw [eB]
                        obtain ⟨_, _, eo, _, _, oA⟩ := own_of (d := zeroF) HO.out.2 encF_len
                        cases eo
                        have ej : readJ bs = ⟨G, IT, NT, acc⟩ := by unfold readJ; rw [← HG.out, ← HIT.out, ← HNT.out, ← eA]
                        have h0 : (posJ bs 4).2 = false := by rw [posJ4]; exact hs4
                        have h1 : (posJ bs (4 + 1)).2 = true := by rw [posJ5]; exact hsx
                        have en := HX.out.1 4 (by omega) h0 h1
                        have ep := HX.out.2 4 (by omega) h1
                        replace ep := eB
                        have S7 := HS.out
                        have hf := HF.out x _ _ _ ⟨G, IT, NT, acc⟩ ⟨ia, ic, na, nc, fa, fc⟩ (S7.old hx) (OwnD.near (M := fun _ => False) ⟨⟨HCap.out.1, HT.out.1⟩, ⟨HCap.out.2, HT.out.2⟩, HO.out.1, oA⟩ (Near.of hx) (fun _ e => e.elim)) ⟨by rw [HG.out]; exact HGi.out, get_all HIi.out (zero_in 0).1, get_all HN.out (zero_in 0).2⟩ ej ep (by rw [en])
                        refine bodyPost_ret (v := .agg (jobC ⟨G, IT, NT, acc⟩ ⟨ia, ic, na, nc, fa, fc⟩)) ?_ rfl ⟨⟨ia, ic, na, nc, fa, fc⟩, by rw [ej], hf⟩
                        exact results_cell_row Try.results18 _ _ _ 31 _ _ _ rfl ((S7.room.old hx).row ⟨G, IT, NT, acc⟩ ⟨ia, ic, na, nc, fa, fc⟩) Try.underlying31 rfl info29
                      | false =>
                        have eA : acc = (rdF bs).1 := by
                          have := HE.out.1
                          simpa only [loopR, List.append_nil] using this
                        have eB : (rdF bs).2 = (p', false) := by
                          have := HE.out.2
                          exact this.symm
                        have hs5 : (rdF bs).2.2 = false := by rw [eB]
                        have eC : (rdF bs).2.1 = p' := by rw [eB]
                        obtain ⟨_, _, eo, _, _, oA⟩ := own_of (d := zeroF) HO.out.2 encF_len
                        cases eo
                        have S := HS.out
                        have d0 := S.ptr
                        have c2 := S.cd.c2
                        go_upto_region 33 with (fail)
                        clear d0 c2
                        have d0 := S.ptr
                        have p1 := S.rf.two.2
                        have f1 := S.rf.free 1
                        go_upto_region 34 with (fail)
                        have S9 := S.named hh hne (nameP 5)
                        change Code.wp _ _ _ _ (wr.setCell ⟨h, 1, none⟩ (.string (nameP 5)))
                        have HOw : OwnD (w.heap.size + 2) wr ⟨G, IT, NT, acc⟩ ⟨ia, ic, na, nc, fa, fc⟩ := ⟨⟨HCap.out.1, HT.out.1⟩, ⟨HCap.out.2, HT.out.2⟩, HO.out.1, oA⟩
                        replace HOw := HOw.near ((Sole.set (g := h) wr 1 (.string (nameP 5))).two (g := g)) (fun i hi => by omega)
                        generalize wr.setCell _ _ = V9 at *
                        clear d0 p1 f1 S
                        (refine wp_region_plain (Old V9) 1 (Below.refl _ V9) ?_; simp only [List.take_succ_cons, List.take_zero, List.drop_succ_cons, List.drop_zero])
                        (refine Text.val (fun x hx => load_job (.tmp 3) rfl rfl (S9.job.old hx)) (by kernel_rfl) ?_; simp only [Act.put, List.getElem_toArray, List.getElem_cons_succ, List.getElem_cons_zero, List.setIfInBounds_toArray, List.set_cons_zero, List.set_cons_succ])
                        intro x hx
                        refine store_job (j := ⟨G, IT, NT, acc⟩) (s := ⟨ia, ic, na, nc, fa, fc⟩) rfl (.tmp 2) (.tmp 161) rfl rfl (by kernel_rfl) (S9.room.old hx) ?_
                        go_wp2
                        have ej : readJ bs = ⟨G, IT, NT, acc⟩ := by unfold readJ; rw [← HG.out, ← HIT.out, ← HNT.out, ← eA]
                        have en := partJ_five hs5
                        have hf := HF.out x _ _ _ ⟨G, IT, NT, acc⟩ ⟨ia, ic, na, nc, fa, fc⟩ (S9.old hx) (HOw.old hx) ⟨by rw [HG.out]; exact HGi.out, get_all HIi.out (zero_in 0).1, get_all HN.out (zero_in 0).2⟩ ej eB (by rw [en])
                        refine bodyPost_ret (v := .agg (jobC ⟨G, IT, NT, acc⟩ ⟨ia, ic, na, nc, fa, fc⟩)) ?_ rfl ⟨⟨ia, ic, na, nc, fa, fc⟩, by rw [ej], hf⟩
                        exact results_cell_row Try.results18 _ _ _ 31 _ _ _ rfl ((S9.room.old hx).row ⟨G, IT, NT, acc⟩ ⟨ia, ic, na, nc, fa, fc⟩) Try.underlying31 rfl info29
end Go.Proofs.Ytjfjekncmejfpaa
