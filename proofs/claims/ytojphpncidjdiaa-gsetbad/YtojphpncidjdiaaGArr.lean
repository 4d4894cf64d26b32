/- Slices of totals; the walks of slices.IndexFunc, ContainsFunc at unsound, of gset.natOf, shrOf, strOf and its closure. Slices of totals that come in. A slice that the call made, number by number; the walk of gset.fields. -/
import Derived.Test.YtojphpncidjdiaaGBase
import Derived.Test.YtojphpncidjdiaaSAll
import Derived.Test.YtojphpncidjdiaaFLeaf
import Derived.ProofKit
import Derived.OpenShut
import Derived.OwnWalk
namespace Go.Proofs.Ytojphpncidjdiaa
open Go.RowKit
set_option maxRecDepth 20000
set_option linter.unusedVariables false
set_option linter.unusedSimpArgs false

/-- The totals of a list lie where a slice says, below block B. -/
def GRow (B : Nat) (w : World) (a : Option Addr) (l : List T6) : Prop := ∀ k, k < l.length → inT (l.getD k zeroT) ∧ ∃ b off, a = some ⟨b, off, none⟩ ∧ b < B ∧ w.cell? ⟨b, off + k * 6, none⟩ = some (.int .i64 (l.getD k zeroT).n) ∧ w.cell? ⟨b, off + k * 6 + 1, none⟩ = some (.int .i64 (l.getD k zeroT).s0) ∧ w.cell? ⟨b, off + k * 6 + 2, none⟩ = some (.int .i64 (l.getD k zeroT).s1) ∧ w.cell? ⟨b, off + k * 6 + 3, none⟩ = some (.int .i64 (l.getD k zeroT).s2) ∧ w.cell? ⟨b, off + k * 6 + 4, none⟩ = some (.int .i64 (l.getD k zeroT).s3) ∧ w.cell? ⟨b, off + k * 6 + 5, none⟩ = some (.int .i64 (l.getD k zeroT).h)
theorem GRow.carry {B B' : Nat} {w w' : World} {a : Option Addr} {l : List T6} (h : GRow B w a l) (hb : Below B' w w') (hB' : B ≤ B') : GRow B w' a l := fun k hk => by
  obtain ⟨hi, b, off, rfl, hB, h0, h1, h2, h3, h4, h5⟩ := h k hk
  have e : ∀ j, w'.cell? ⟨b, off + k * 6 + j, none⟩ = w.cell? ⟨b, off + k * 6 + j, none⟩ := fun j => hb.cell (p := ⟨b, off + k * 6 + j, none⟩) (by simp; omega)
  exact ⟨hi, b, off, rfl, hB, (hb.cell (p := ⟨b, off + k * 6, none⟩) (by simp; omega)).trans h0, (e 1).trans h1, (e 2).trans h2, (e 3).trans h3, (e 4).trans h4, (e 5).trans h5⟩
theorem GRow.mono {B B' : Nat} {w : World} {a : Option Addr} {l : List T6} (h : GRow B w a l) (hB : B ≤ B') : GRow B' w a l := fun k hk => by
  obtain ⟨hi, b, off, rfl, hb, hr⟩ := h k hk
  exact ⟨hi, b, off, rfl, by omega, hr⟩
theorem all_stop {l : List T6} (k : Nat) (hk : k < l.length) (h : soundT (l.getD k zeroT) = false) : l.all soundT = false := by
  rw [List.all_eq_false]
  refine ⟨l.getD k zeroT, ?_, by rw [h]; simp⟩
  rw [List.getD_eq_getElem?_getD, List.getElem?_eq_getElem hk]
  exact List.getElem_mem hk
theorem all_go {l : List T6} (h : ∀ k, k < l.length → soundT (l.getD k zeroT) = true) : l.all soundT = true := by
  rw [List.all_eq_true]
  intro x hx
  obtain ⟨k, hk, rfl⟩ := List.getElem_of_mem hx
  have := h k hk
  rwa [List.getD_eq_getElem?_getD, List.getElem?_eq_getElem hk] at this
theorem all_get {l : List T6} (h : l.all soundT = true) (k : Nat) (hk : k < l.length) : soundT (l.getD k zeroT) = true := by
  rw [List.all_eq_true] at h
  refine h _ ?_
  rw [List.getD_eq_getElem?_getD, List.getElem?_eq_getElem hk]
  exact List.getElem_mem hk
set_option maxHeartbeats 1000000 in
theorem indexf_any (a : Option Addr) (cap : Nat) (l : List T6) (w : World) (hn : l.length ≤ 1000000) (hr : GRow w.heap.size w a l) :
    Calls Try.prog 40 #[.slice a l.length cap, .func (.func 27) #[] #[]] w fun e w' => (∃ r : Int, e = .returned (.int .i64 r) ∧ decide (0 ≤ r) = !(l.all soundT)) ∧ Below w.heap.size w w' := by
  have HR := Lib.hid hr
  clear hr
  go_enter Try.func40, Try.ntmps40
  go_wp2_with fail
  go_loopw [8] (fun i wr => ∃ k : Nat, k ≤ l.length ∧ i = .int .i64 k ∧ Below w.heap.size w wr ∧ ∀ j, j < k → soundT (l.getD j zeroT) = true) (fun i _ => l.length - (intOf i).toNat)
  case atStart => exact ⟨0, Nat.zero_le _, rfl, Below.refl _ _, fun j hj => by omega⟩
  case round =>
    obtain ⟨k, hk, rfl, hbl, H⟩ := hrel
    have HH := Lib.hid H
    clear H
    by_cases hlt : k < l.length
    · obtain ⟨hiy, b, off, rfl, hB, h0, h1, h2, h3, h4, h5⟩ := HR.out.carry hbl (Nat.le_refl _) k hlt
      have HS := Lib.hid (all_stop k hlt)
      have HY : ∃ y, y = l.getD k zeroT := ⟨_, rfl⟩
      obtain ⟨y, hy⟩ := HY
      rw [← hy] at HS h0 h1 h2 h3 h4 h5
      have HY := Lib.hid hy
      clear hy hiy
      have c := unsound_any y
      unfold tot at c
      go_wp2_with fail
      refine (c _).mono ?_
      rintro e w1 ⟨rfl, b1⟩
      have hbl1 := tstep hbl b1 hbl.size
      clear c b1 hbl h0 h1 h2 h3 h4 h5
      cases hs : soundT y
      · simp only [Bool.not_false]
        go_wp2
        go_ret
        refine ⟨⟨_, rfl, ?_⟩, hbl1⟩
        rw [HS.out hs]
        simp
      · simp only [Bool.not_true]
        go_wp2
        go_roundw
        case rel =>
          refine ⟨k + 1, by omega, by go_num, hbl1, fun j hj => ?_⟩
          by_cases hj' : j < k
          · exact HH.out j hj'
          · have e : j = k := by omega
            rw [e, ← HY.out]; exact hs
        case measure => simp [intOf]; omega
    · obtain rfl : k = l.length := by omega
      go_wp2
      go_ret
      refine ⟨⟨_, rfl, ?_⟩, hbl⟩
      rw [all_go HH.out]
      rfl
theorem contains_any (a : Option Addr) (cap : Nat) (l : List T6) (w : World) (hn : l.length ≤ 1000000) (hr : GRow w.heap.size w a l) :
    Calls Try.prog 26 #[.slice a l.length cap, .func (.func 27) #[] #[]] w fun e w' => e = .returned (.bool (!(l.all soundT))) ∧ Below w.heap.size w w' := by
  have c := indexf_any a cap l w hn hr
  go_enter Try.func26, Try.ntmps26
  go_wp2_with (refine c.mono ?_; rintro e w1 ⟨⟨r, rfl, hr⟩, b1⟩)
  go_ret
  rw [← hr]
  exact ⟨rfl, b1⟩
theorem nat_any (n s0 s1 s2 s3 h : Int) (w : World) : Calls Try.prog 29 #[.agg #[.int .i64 n, .int .i64 s0, .int .i64 s1, .int .i64 s2, .int .i64 s3, .int .i64 h]] w fun e w' => e = .returned (.int .i64 n) ∧ Below w.heap.size w w' := by
  go_enter Try.func29, Try.ntmps29
  go_wp2
  go_ret
  exact ⟨rfl, tbel1 w _⟩
theorem shr_any (n s0 s1 s2 s3 h : Int) (w : World) : Calls Try.prog 30 #[.agg #[.int .i64 n, .int .i64 s0, .int .i64 s1, .int .i64 s2, .int .i64 s3, .int .i64 h]] w fun e w' => e = .returned (.int .i64 h) ∧ Below w.heap.size w w' := by
  go_enter Try.func30, Try.ntmps30
  go_wp2
  go_ret
  exact ⟨rfl, tbel1 w _⟩
theorem strof_any (o : Int) (w : World) : Calls Try.prog 31 #[.int .i64 o] w fun e w' => e = .returned (.func (.func 41) #[] #[.pointer (some ⟨w.heap.size, 0, none⟩)]) ∧ w' = w.alloc (.cells #[.int .i64 o] 3) := by
  go_enter Try.func31, Try.ntmps31
  go_wp2
  go_ret
  exact ⟨rfl, rfl⟩
theorem str_any (t : T6) (o : Int) (b : Nat) (w : World) (hb : w.cell? ⟨b, 0, none⟩ = some (.int .i64 o)) : Calls Try.prog 41 #[tot t, .pointer (some ⟨b, 0, none⟩)] w fun e w' => e = .returned (.int .i64 (strT t o)) ∧ Below w.heap.size w w' := by
  obtain ⟨n, s0, s1, s2, s3, h⟩ := t
  unfold tot strT
  dsimp only
  have hlt : b < w.heap.size := World.block_lt_of_cell? _ _ hb
  by_cases h0 : o < 0
  · rw [if_neg (by omega), if_neg (by omega), if_neg (by omega), if_neg (by omega)]
    go_enter Try.func41, Try.ntmps41
    go_wp2
    go_ret
    exact ⟨rfl, tbel1 w _⟩
  by_cases h4 : 4 ≤ o
  · rw [if_neg (by omega), if_neg (by omega), if_neg (by omega), if_neg (by omega)]
    go_enter Try.func41, Try.ntmps41
    go_wp2
    go_ret
    exact ⟨rfl, tbel1 w _⟩
  rcases (show o = 0 ∨ o = 1 ∨ o = 2 ∨ o = 3 by omega) with rfl | rfl | rfl | rfl
  all_goals
    go_enter Try.func41, Try.ntmps41
    go_wp2
    go_ret
    exact ⟨rfl, tbel1 w _⟩
end Go.Proofs.Ytojphpncidjdiaa
namespace Go.Proofs.Ytojphpncidjdiaa
open Go.RowKit
set_option maxRecDepth 20000
set_option linter.unusedVariables false
set_option linter.unusedSimpArgs false

theorem gs_wfR {a : Int} (h : (Lit.int .i64 a).wf = true) : inR a := by
  simp [Lit.wf, IntKind.min, IntKind.max, IntKind.signed, IntKind.bits] at h
  exact h
theorem IsFlat.grow {w : World} {a : Option Addr} {len cap : Nat} (h : IsFlat Try.prog [22, 22, 22, 22, 22, 22] w a len cap) : ∃ l : List T6, l.length = len ∧ GRow w.heap.size w a l := by
  rcases h with ⟨rfl, rfl, _⟩ | ⟨ad, rfl, hl, hm, hall⟩
  · exact ⟨[], rfl, fun k hk => absurd hk (by simp)⟩
  · by_cases hz : len = 0
    · subst hz
      exact ⟨[], rfl, fun k hk => absurd hk (by simp)⟩
    obtain ⟨b, off, spot⟩ := ad
    have hs : spot = none := by
      obtain ⟨cs, hlen, hc, _⟩ := hall 0 (by omega)
      match cs, hlen with
      | [c0, c1, c2, c3, c4, c5], _ =>
        have g0 := hc 0 _ rfl
        simpa [Addr.add] using World.cell?_spot g0
    subst hs
    have each : ∀ i, ∃ t : T6, i < len → inT t ∧ ∃ b' off', some (⟨b, off, none⟩ : Addr) = some ⟨b', off', none⟩ ∧ b' < w.heap.size ∧ w.cell? ⟨b', off' + i * 6, none⟩ = some (.int .i64 t.n) ∧ w.cell? ⟨b', off' + i * 6 + 1, none⟩ = some (.int .i64 t.s0) ∧ w.cell? ⟨b', off' + i * 6 + 2, none⟩ = some (.int .i64 t.s1) ∧ w.cell? ⟨b', off' + i * 6 + 3, none⟩ = some (.int .i64 t.s2) ∧ w.cell? ⟨b', off' + i * 6 + 4, none⟩ = some (.int .i64 t.s3) ∧ w.cell? ⟨b', off' + i * 6 + 5, none⟩ = some (.int .i64 t.h) := by
      intro i
      by_cases hi : i < len
      · obtain ⟨cs, hlen, hc, hk⟩ := hall i hi
        match cs, hlen with
        | [c0, c1, c2, c3, c4, c5], _ =>
          obtain ⟨z0, rfl, w0⟩ := (hk 0 22 c0 rfl rfl).1 .i64 Try.underlying22
          obtain ⟨z1, rfl, w1⟩ := (hk 1 22 c1 rfl rfl).1 .i64 Try.underlying22
          obtain ⟨z2, rfl, w2⟩ := (hk 2 22 c2 rfl rfl).1 .i64 Try.underlying22
          obtain ⟨z3, rfl, w3⟩ := (hk 3 22 c3 rfl rfl).1 .i64 Try.underlying22
          obtain ⟨z4, rfl, w4⟩ := (hk 4 22 c4 rfl rfl).1 .i64 Try.underlying22
          obtain ⟨z5, rfl, w5⟩ := (hk 5 22 c5 rfl rfl).1 .i64 Try.underlying22
          have g0 := hc 0 _ rfl
          have g1 := hc 1 _ rfl
          have g2 := hc 2 _ rfl
          have g3 := hc 3 _ rfl
          have g4 := hc 4 _ rfl
          have g5 := hc 5 _ rfl
          simp only [Go.WideShapes.add_plain, List.length_cons, List.length_nil, Nat.add_zero, ← Nat.add_assoc] at g0 g1 g2 g3 g4 g5
          exact ⟨⟨z0, z1, z2, z3, z4, z5⟩, fun _ => ⟨⟨gs_wfR w0, gs_wfR w1, gs_wfR w2, gs_wfR w3, gs_wfR w4, gs_wfR w5⟩, b, off, rfl, World.block_lt_of_cell? _ _ g0, g0, g1, g2, g3, g4, g5⟩⟩
      · exact ⟨zeroT, fun h => absurd h hi⟩
    obtain ⟨f, hf⟩ := Classical.axiomOfChoice each
    refine ⟨(List.range len).map f, by simp, fun k hk => ?_⟩
    have hk' : k < len := by simpa using hk
    have eg : ((List.range len).map f).getD k zeroT = f k := by simp [hk']
    rw [eg]
    exact hf k hk'
theorem IsFlat.len_le {ts : List TypeId} {w : World} {a : Option Addr} {len cap : Nat} (h : IsFlat Try.prog ts w a len cap) : len ≤ 9223372036854775807 := by
  rcases h with ⟨_, rfl, _⟩ | ⟨_, _, h1, h2, _⟩
  · omega
  · unfold maxLen at h2; omega
end Go.Proofs.Ytojphpncidjdiaa
namespace Go.Proofs.Ytojphpncidjdiaa
open Go.RowKit
set_option maxRecDepth 20000
set_option linter.unusedVariables false
set_option linter.unusedSimpArgs false

/-- Block g holds the n numbers f 0, f 1, .. -/
def ArrF (w : World) (g n : Nat) (f : Nat → Int) : Prop := Blk w g ((List.range n).map fun i => Value.int .i64 (f i)).toArray 22
theorem ArrF.cell {w : World} {g n : Nat} {f : Nat → Int} (h : ArrF w g n f) (i : Nat) (hi : i < n) : w.cell? ⟨g, i, none⟩ = some (.int .i64 (f i)) := by
  rw [Blk.cell h i]
  simp [hi]
theorem ArrF.free {w : World} {g n : Nat} {f : Nat → Int} (h : ArrF w g n f) (i : Nat) : w.frozen? ⟨g, i, none⟩ = false := Blk.free h i
theorem ArrF.congr {w : World} {g n : Nat} {f f' : Nat → Int} (h : ArrF w g n f) (e : ∀ i, i < n → f i = f' i) : ArrF w g n f' := by
  unfold ArrF at *
  have : (List.range n).map (fun i => Value.int .i64 (f i)) = (List.range n).map (fun i => Value.int .i64 (f' i)) := List.map_congr_left fun i hi => by rw [e i (by simpa using hi)]
  rwa [this] at h
theorem ArrF.set {w : World} {g n : Nat} {f : Nat → Int} (h : ArrF w g n f) (k : Nat) (v : Int) : ArrF (w.setCell ⟨g, k, none⟩ (.int .i64 v)) g n (fun i => if i = k then v else f i) := by
  have h1 := Blk.set h k (.int .i64 v)
  unfold ArrF
  have e : ((List.range n).map fun i => Value.int .i64 (f i)).toArray.setIfInBounds k (.int .i64 v) = ((List.range n).map fun i => Value.int .i64 (if i = k then v else f i)).toArray := by
    apply Array.ext
    · simp
    · intro i h1 h2
      by_cases hk : i = k
      · subst hk; simp
      · have hk' : ¬ k = i := fun e => hk e.symm
        simp [List.getElem_set, hk, hk']
  rwa [e] at h1
theorem ArrF.lt {w : World} {g n : Nat} {f : Nat → Int} (h : ArrF w g n f) : g < w.heap.size := Blk.lt h
theorem ArrF.old {w w' : World} {g n : Nat} {f : Nat → Int} (h : ArrF w g n f) (hx : Below w.heap.size w w') : ArrF w' g n f := Blk.old h hx
theorem ArrF.below {w w' : World} {g n B : Nat} {f : Nat → Int} (h : ArrF w g n f) (hx : Below B w w') (hg : g < B) : ArrF w' g n f := (hx.block g hg).trans h
theorem ArrF.alloc {w : World} {g n : Nat} {f : Nat → Int} (h : ArrF w g n f) (o : Obj) : ArrF (w.alloc o) g n f := Blk.alloc h o
theorem ArrF.other {w : World} {g b n : Nat} {f : Nat → Int} (h : ArrF w g n f) (hb : g ≠ b) (i : Nat) (v : Value) : ArrF (w.setCell ⟨b, i, none⟩ v) g n f := Blk.other h hb i v
theorem ArrF.own {w : World} {g n base : Nat} {f : Nat → Int} (h : ArrF w g n f) (hb : base ≤ g) (hn : n ≤ maxLen) (hi : ∀ i, i < n → inR (f i)) : OwnI w base (.slice (some ⟨g, 0, none⟩) n n) (uptoS f n) := by
  have e : (uptoS f n).length = n := uptoS_length f n
  refine ⟨⟨by simp, .inr ⟨g, n, _, by rw [e], hb, h, by rw [e]; exact Nat.le_refl _, hn, by simp, ?_⟩⟩, fun k => ?_⟩
  · rw [e, Nat.mul_one]
    simp only [uptoS]
    rw [List.take_of_length_le (by simp), List.map_map]
    rfl
  · by_cases hk : k < n
    · rw [uptoS_getD f n k hk]; exact hi k hk
    · rw [List.getD_eq_getElem?_getD, List.getElem?_eq_none (by rw [e]; omega)]; simp [inR]
theorem ArrF.row {w : World} {g n B : Nat} {f : Nat → Int} (h : ArrF w g n f) (hB : g < B) (hi : ∀ i, i < n → inR (f i)) : IRow B w (some ⟨g, 0, none⟩) (uptoS f n) := fun k hk => by
  rw [uptoS_length] at hk
  refine ⟨by rw [uptoS_getD f n k hk]; exact hi k hk, g, 0, rfl, hB, ?_⟩
  rw [uptoS_getD f n k hk, Nat.zero_add]
  exact h.cell k hk
theorem arr_new (w : World) (n : Nat) : ArrF (w.alloc (.cells (madeCells #[.int .i64 0] n) 22)) w.heap.size n (fun _ => 0) := by
  have e : madeCells #[.int .i64 0] n = ((List.range n).map fun i => Value.int .i64 0).toArray := by
    apply Array.ext
    · simp [madeCells]
    · intro i h1 h2
      simp [madeCells, Nat.mod_one]
  unfold ArrF
  rw [← e]
  exact blk_new _ _ _
theorem mk36 (n : Nat) (hn : n ≤ 1000000) : ∀ x, Sem.run Try.prog (Instr.makeSlice 36 (.int .i64 (n : Int)) (.int .i64 (n : Int))) x = .ok (.slice (some ⟨x.heap.size, 0, none⟩) n n) (x.alloc (.cells (madeCells #[.int .i64 0] n) 22)) := by
  intro x
  obtain ⟨i, hi, hz, z1, z2⟩ := info_parts infoSp
  have := run_make (P := Try.prog) x 36 22 i _ Try.underlying36 hi hz .i64 .i64 (n : Int) (n : Int) (by omega) (by omega) (by rw [z2]; omega) (by omega)
  rw [z1] at this
  have e : (Value.int .i64 0).cells = #[.int .i64 0] := rfl
  simpa [e] using this
/-- The field of the k-th total. -/
def fldK (p : T6 → Int) (l : List T6) (k : Nat) : Int := p (l.getD k zeroT)
set_option maxHeartbeats 1000000 in
theorem fields_29 (a : Option Addr) (cap : Nat) (l : List T6) (w : World) (p : T6 → Int)  (hn : l.length ≤ 1000000) (hr : GRow w.heap.size w a l)
    (cf : ∀ y w', Below w.heap.size w w' → Calls Try.prog 29 #[tot y] w' fun e w2 => e = .returned (.int .i64 (p y)) ∧ Below w'.heap.size w' w2) :
    Calls Try.prog 28 #[.slice a l.length cap, .func (.func 29) #[] #[]] w fun e w' => ∃ g, e = .returned (.slice (some ⟨g, 0, none⟩) l.length l.length) ∧ w.heap.size ≤ g ∧ ArrF w' g l.length (fldK p l) ∧ Below w.heap.size w w' := by
  have HR := Lib.hid hr
  have HC := Lib.hid cf
  have mk := mk36 l.length hn
  clear hr cf
  go_enter Try.func28, Try.ntmps28
  go_wp2_with fail
  have A0 := arr_new w l.length
  have b0 := tbel1 w (.cells (madeCells #[.int .i64 0] l.length) 22)
  go_loopw [13] (fun i wr => ∃ k : Nat, k ≤ l.length ∧ i = .int .i64 k ∧ Below w.heap.size w wr ∧ ArrF wr w.heap.size l.length (fun j => if j < k then fldK p l j else 0)) (fun i _ => l.length - (intOf i).toNat)
  case atStart => exact ⟨0, Nat.zero_le _, rfl, b0, A0.congr fun j _ => by rw [if_neg (Nat.not_lt_zero j)]⟩
  case round =>
    obtain ⟨k, hk, rfl, hbl, A⟩ := hrel
    have HA := Lib.hid A
    have hlt0 := A.lt
    clear A A0 b0
    by_cases hlt : k < l.length
    · obtain ⟨hiy, b, off, rfl, hB, h0, h1, h2, h3, h4, h5⟩ := HR.out.carry hbl (Nat.le_refl _) k hlt
      have HY : ∃ y, y = l.getD k zeroT := ⟨_, rfl⟩
      obtain ⟨y, hy⟩ := HY
      rw [← hy] at h0 h1 h2 h3 h4 h5
      have HY := Lib.hid hy
      clear hy hiy
      have hb1 := hbl.alloc hbl.size (.cells #[.int .i64 y.n, .int .i64 y.s0, .int .i64 y.s1, .int .i64 y.s2, .int .i64 y.s3, .int .i64 y.h] 25)
      have HA1 := Lib.hid (HA.out.alloc (.cells #[.int .i64 y.n, .int .i64 y.s0, .int .i64 y.s1, .int .i64 y.s2, .int .i64 y.s3, .int .i64 y.h] 25))
      have c := HC.out y _ hb1
      unfold tot at c
      go_wp2_with fail
      refine c.mono ?_
      rintro e w1 ⟨rfl, b1⟩
      have hbl1 := tstep hb1 b1 hb1.size
      have A1 := HA1.out.old b1
      have hc := A1.cell k hlt
      have hf := A1.free k
      have HA2 := Lib.hid (A1.set k (p y))
      have hb2 := hbl1.setCell (p := ⟨w.heap.size, k, none⟩) (Nat.le_refl _) (.int .i64 (p y))
      clear c b1 hbl h0 h1 h2 h3 h4 h5 A1 HA HA1 hb1
      go_wp2
      go_roundw
      case rel =>
        refine ⟨k + 1, by omega, by go_num, hb2, HA2.out.congr fun j hj => ?_⟩
        by_cases hj' : j = k
        · subst hj'
          rw [if_pos rfl, if_pos (by omega), HY.out]; rfl
        · rw [if_neg hj']
          by_cases hj2 : j < k
          · rw [if_pos hj2, if_pos (by omega)]
          · rw [if_neg hj2, if_neg (by omega)]
      case measure => simp [intOf]; omega
    · obtain rfl : k = l.length := by omega
      go_wp2
      go_ret
      exact ⟨w.heap.size, rfl, Nat.le_refl _, HA.out.congr fun j hj => by rw [if_pos hj], hbl⟩
set_option maxHeartbeats 1000000 in
theorem fields_30 (a : Option Addr) (cap : Nat) (l : List T6) (w : World) (p : T6 → Int)  (hn : l.length ≤ 1000000) (hr : GRow w.heap.size w a l)
    (cf : ∀ y w', Below w.heap.size w w' → Calls Try.prog 30 #[tot y] w' fun e w2 => e = .returned (.int .i64 (p y)) ∧ Below w'.heap.size w' w2) :
    Calls Try.prog 28 #[.slice a l.length cap, .func (.func 30) #[] #[]] w fun e w' => ∃ g, e = .returned (.slice (some ⟨g, 0, none⟩) l.length l.length) ∧ w.heap.size ≤ g ∧ ArrF w' g l.length (fldK p l) ∧ Below w.heap.size w w' := by
  have HR := Lib.hid hr
  have HC := Lib.hid cf
  have mk := mk36 l.length hn
  clear hr cf
  go_enter Try.func28, Try.ntmps28
  go_wp2_with fail
  have A0 := arr_new w l.length
  have b0 := tbel1 w (.cells (madeCells #[.int .i64 0] l.length) 22)
  go_loopw [13] (fun i wr => ∃ k : Nat, k ≤ l.length ∧ i = .int .i64 k ∧ Below w.heap.size w wr ∧ ArrF wr w.heap.size l.length (fun j => if j < k then fldK p l j else 0)) (fun i _ => l.length - (intOf i).toNat)
  case atStart => exact ⟨0, Nat.zero_le _, rfl, b0, A0.congr fun j _ => by rw [if_neg (Nat.not_lt_zero j)]⟩
  case round =>
    obtain ⟨k, hk, rfl, hbl, A⟩ := hrel
    have HA := Lib.hid A
    have hlt0 := A.lt
    clear A A0 b0
    by_cases hlt : k < l.length
    · obtain ⟨hiy, b, off, rfl, hB, h0, h1, h2, h3, h4, h5⟩ := HR.out.carry hbl (Nat.le_refl _) k hlt
      have HY : ∃ y, y = l.getD k zeroT := ⟨_, rfl⟩
      obtain ⟨y, hy⟩ := HY
      rw [← hy] at h0 h1 h2 h3 h4 h5
      have HY := Lib.hid hy
      clear hy hiy
      have hb1 := hbl.alloc hbl.size (.cells #[.int .i64 y.n, .int .i64 y.s0, .int .i64 y.s1, .int .i64 y.s2, .int .i64 y.s3, .int .i64 y.h] 25)
      have HA1 := Lib.hid (HA.out.alloc (.cells #[.int .i64 y.n, .int .i64 y.s0, .int .i64 y.s1, .int .i64 y.s2, .int .i64 y.s3, .int .i64 y.h] 25))
      have c := HC.out y _ hb1
      unfold tot at c
      go_wp2_with fail
      refine c.mono ?_
      rintro e w1 ⟨rfl, b1⟩
      have hbl1 := tstep hb1 b1 hb1.size
      have A1 := HA1.out.old b1
      have hc := A1.cell k hlt
      have hf := A1.free k
      have HA2 := Lib.hid (A1.set k (p y))
      have hb2 := hbl1.setCell (p := ⟨w.heap.size, k, none⟩) (Nat.le_refl _) (.int .i64 (p y))
      clear c b1 hbl h0 h1 h2 h3 h4 h5 A1 HA HA1 hb1
      go_wp2
      go_roundw
      case rel =>
        refine ⟨k + 1, by omega, by go_num, hb2, HA2.out.congr fun j hj => ?_⟩
        by_cases hj' : j = k
        · subst hj'
          rw [if_pos rfl, if_pos (by omega), HY.out]; rfl
        · rw [if_neg hj']
          by_cases hj2 : j < k
          · rw [if_pos hj2, if_pos (by omega)]
          · rw [if_neg hj2, if_neg (by omega)]
      case measure => simp [intOf]; omega
    · obtain rfl : k = l.length := by omega
      go_wp2
      go_ret
      exact ⟨w.heap.size, rfl, Nat.le_refl _, HA.out.congr fun j hj => by rw [if_pos hj], hbl⟩
set_option maxHeartbeats 1000000 in
theorem fields_41 (a : Option Addr) (cap : Nat) (l : List T6) (w : World) (p : T6 → Int) (bo : Nat) (hn : l.length ≤ 1000000) (hr : GRow w.heap.size w a l)
    (cf : ∀ y w', Below w.heap.size w w' → Calls Try.prog 41 #[tot y, .pointer (some ⟨bo, 0, none⟩)] w' fun e w2 => e = .returned (.int .i64 (p y)) ∧ Below w'.heap.size w' w2) :
    Calls Try.prog 28 #[.slice a l.length cap, .func (.func 41) #[] #[.pointer (some ⟨bo, 0, none⟩)]] w fun e w' => ∃ g, e = .returned (.slice (some ⟨g, 0, none⟩) l.length l.length) ∧ w.heap.size ≤ g ∧ ArrF w' g l.length (fldK p l) ∧ Below w.heap.size w w' := by
  have HR := Lib.hid hr
  have HC := Lib.hid cf
  have mk := mk36 l.length hn
  clear hr cf
  go_enter Try.func28, Try.ntmps28
  go_wp2_with fail
  have A0 := arr_new w l.length
  have b0 := tbel1 w (.cells (madeCells #[.int .i64 0] l.length) 22)
  go_loopw [13] (fun i wr => ∃ k : Nat, k ≤ l.length ∧ i = .int .i64 k ∧ Below w.heap.size w wr ∧ ArrF wr w.heap.size l.length (fun j => if j < k then fldK p l j else 0)) (fun i _ => l.length - (intOf i).toNat)
  case atStart => exact ⟨0, Nat.zero_le _, rfl, b0, A0.congr fun j _ => by rw [if_neg (Nat.not_lt_zero j)]⟩
  case round =>
    obtain ⟨k, hk, rfl, hbl, A⟩ := hrel
    have HA := Lib.hid A
    have hlt0 := A.lt
    clear A A0 b0
    by_cases hlt : k < l.length
    · obtain ⟨hiy, b, off, rfl, hB, h0, h1, h2, h3, h4, h5⟩ := HR.out.carry hbl (Nat.le_refl _) k hlt
      have HY : ∃ y, y = l.getD k zeroT := ⟨_, rfl⟩
      obtain ⟨y, hy⟩ := HY
      rw [← hy] at h0 h1 h2 h3 h4 h5
      have HY := Lib.hid hy
      clear hy hiy
      have hb1 := hbl.alloc hbl.size (.cells #[.int .i64 y.n, .int .i64 y.s0, .int .i64 y.s1, .int .i64 y.s2, .int .i64 y.s3, .int .i64 y.h] 25)
      have HA1 := Lib.hid (HA.out.alloc (.cells #[.int .i64 y.n, .int .i64 y.s0, .int .i64 y.s1, .int .i64 y.s2, .int .i64 y.s3, .int .i64 y.h] 25))
      have c := HC.out y _ hb1
      unfold tot at c
      go_wp2_with fail
      refine c.mono ?_
      rintro e w1 ⟨rfl, b1⟩
      have hbl1 := tstep hb1 b1 hb1.size
      have A1 := HA1.out.old b1
      have hc := A1.cell k hlt
      have hf := A1.free k
      have HA2 := Lib.hid (A1.set k (p y))
      have hb2 := hbl1.setCell (p := ⟨w.heap.size, k, none⟩) (Nat.le_refl _) (.int .i64 (p y))
      clear c b1 hbl h0 h1 h2 h3 h4 h5 A1 HA HA1 hb1
      go_wp2
      go_roundw
      case rel =>
        refine ⟨k + 1, by omega, by go_num, hb2, HA2.out.congr fun j hj => ?_⟩
        by_cases hj' : j = k
        · subst hj'
          rw [if_pos rfl, if_pos (by omega), HY.out]; rfl
        · rw [if_neg hj']
          by_cases hj2 : j < k
          · rw [if_pos hj2, if_pos (by omega)]
          · rw [if_neg hj2, if_neg (by omega)]
      case measure => simp [intOf]; omega
    · obtain rfl : k = l.length := by omega
      go_wp2
      go_ret
      exact ⟨w.heap.size, rfl, Nat.le_refl _, HA.out.congr fun j hj => by rw [if_pos hj], hbl⟩
theorem fnat_any (a : Option Addr) (cap : Nat) (l : List T6) (w : World) (hn : l.length ≤ 1000000) (hr : GRow w.heap.size w a l) :
    Calls Try.prog 28 #[.slice a l.length cap, .func (.func 29) #[] #[]] w fun e w' => ∃ g, e = .returned (.slice (some ⟨g, 0, none⟩) l.length l.length) ∧ w.heap.size ≤ g ∧ ArrF w' g l.length (fldK T6.n l) ∧ Below w.heap.size w w' :=
  fields_29 a cap l w T6.n hn hr fun y w' _ => nat_any _ _ _ _ _ _ w'
theorem fshr_any (a : Option Addr) (cap : Nat) (l : List T6) (w : World) (hn : l.length ≤ 1000000) (hr : GRow w.heap.size w a l) :
    Calls Try.prog 28 #[.slice a l.length cap, .func (.func 30) #[] #[]] w fun e w' => ∃ g, e = .returned (.slice (some ⟨g, 0, none⟩) l.length l.length) ∧ w.heap.size ≤ g ∧ ArrF w' g l.length (fldK T6.h l) ∧ Below w.heap.size w w' :=
  fields_30 a cap l w T6.h hn hr fun y w' _ => shr_any _ _ _ _ _ _ w'
theorem fstr_any (a : Option Addr) (cap : Nat) (l : List T6) (w : World) (bo : Nat) (o : Int) (hb : w.cell? ⟨bo, 0, none⟩ = some (.int .i64 o)) (hn : l.length ≤ 1000000) (hr : GRow w.heap.size w a l) :
    Calls Try.prog 28 #[.slice a l.length cap, .func (.func 41) #[] #[.pointer (some ⟨bo, 0, none⟩)]] w fun e w' => ∃ g, e = .returned (.slice (some ⟨g, 0, none⟩) l.length l.length) ∧ w.heap.size ≤ g ∧ ArrF w' g l.length (fldK (fun t => strT t o) l) ∧ Below w.heap.size w w' :=
  fields_41 a cap l w (fun t => strT t o) bo hn hr fun y w' hw => str_any y o bo w' ((hw.cell (p := ⟨bo, 0, none⟩) (World.block_lt_of_cell? _ _ hb)).trans hb)
end Go.Proofs.Ytojphpncidjdiaa
