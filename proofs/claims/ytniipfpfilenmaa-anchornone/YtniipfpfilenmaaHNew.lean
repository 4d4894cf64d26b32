/- What New's map holds while it is made. New of package anchor. -/
import Derived.Test.YtniipfpfilenmaaHPu2
import Derived.Test.YtniipfpfilenmaaHAdd
import Derived.LoopN
import Derived.Deep.CutBlock
namespace Go.Proofs.Ytniipfpfilenmaa
open Go.RowKit
set_option maxRecDepth 20000
set_option linter.unusedVariables false
set_option linter.unusedSimpArgs false

def nsE (E0 E1 : List (Int × Int)) (E2 E3 : List (Int × A3)) : Nat → Nat
  | 0 => E0.length
  | 1 => E0.length
  | 2 => E1.length
  | 3 => E1.length
  | 4 => E2.length
  | 5 => E2.length
  | 6 => E3.length
  | 7 => E3.length
  | _ + 8 => 0
def xsE (E0 E1 : List (Int × Int)) (E2 E3 : List (Int × A3)) : Nat → List Value
  | 0 => (atE E0).map (Value.int .i64)
  | 1 => (valE E0).map (Value.int .i64)
  | 2 => (atE E1).map (Value.int .i64)
  | 3 => (valE E1).map (Value.int .i64)
  | 4 => (atE E2).map (Value.int .i64)
  | 5 => ((valE E2).map encA).flatten
  | 6 => (atE E3).map (Value.int .i64)
  | 7 => ((valE E3).map encA).flatten
  | _ + 8 => []
section
variable (E0 E1 : List (Int × Int)) (E2 E3 : List (Int × A3)) (k x : Int) (y : A3)
theorem ns_put0 : updF (updF (nsE E0 E1 E2 E3) 0 (nsE E0 E1 E2 E3 0 + 1)) (0 + 1) (nsE E0 E1 E2 E3 (0 + 1) + 1) = nsE (E0 ++ [(k, x)]) E1 E2 E3 :=
  funext fun i => match i with | 0 => by simp [updF, nsE] | 1 => by simp [updF, nsE] | 2 => rfl | 3 => rfl | 4 => rfl | 5 => rfl | 6 => rfl | 7 => rfl | _ + 8 => rfl
theorem ns_put2 : updF (updF (nsE E0 E1 E2 E3) 2 (nsE E0 E1 E2 E3 2 + 1)) (2 + 1) (nsE E0 E1 E2 E3 (2 + 1) + 1) = nsE E0 (E1 ++ [(k, x)]) E2 E3 :=
  funext fun i => match i with | 0 => rfl | 1 => rfl | 2 => by simp [updF, nsE] | 3 => by simp [updF, nsE] | 4 => rfl | 5 => rfl | 6 => rfl | 7 => rfl | _ + 8 => rfl
theorem ns_put4 : updF (updF (nsE E0 E1 E2 E3) 4 (nsE E0 E1 E2 E3 4 + 1)) (4 + 1) (nsE E0 E1 E2 E3 (4 + 1) + 1) = nsE E0 E1 (E2 ++ [(k, y)]) E3 :=
  funext fun i => match i with | 0 => rfl | 1 => rfl | 2 => rfl | 3 => rfl | 4 => by simp [updF, nsE] | 5 => by simp [updF, nsE] | 6 => rfl | 7 => rfl | _ + 8 => rfl
theorem ns_put6 : updF (updF (nsE E0 E1 E2 E3) 6 (nsE E0 E1 E2 E3 6 + 1)) (6 + 1) (nsE E0 E1 E2 E3 (6 + 1) + 1) = nsE E0 E1 E2 (E3 ++ [(k, y)]) :=
  funext fun i => match i with | 0 => rfl | 1 => rfl | 2 => rfl | 3 => rfl | 4 => rfl | 5 => rfl | 6 => by simp [updF, nsE] | 7 => by simp [updF, nsE] | _ + 8 => rfl
theorem xs_put0 : updF (updF (xsE E0 E1 E2 E3) 0 (xsE E0 E1 E2 E3 0 ++ [.int .i64 k])) (0 + 1) (xsE E0 E1 E2 E3 (0 + 1) ++ [.int .i64 x]) = xsE (E0 ++ [(k, x)]) E1 E2 E3 :=
  funext fun i => match i with | 0 => by simp [updF, xsE, atE] | 1 => by simp [updF, xsE, valE] | 2 => rfl | 3 => rfl | 4 => rfl | 5 => rfl | 6 => rfl | 7 => rfl | _ + 8 => rfl
theorem xs_put2 : updF (updF (xsE E0 E1 E2 E3) 2 (xsE E0 E1 E2 E3 2 ++ [.int .i64 k])) (2 + 1) (xsE E0 E1 E2 E3 (2 + 1) ++ [.int .i64 x]) = xsE E0 (E1 ++ [(k, x)]) E2 E3 :=
  funext fun i => match i with | 0 => rfl | 1 => rfl | 2 => by simp [updF, xsE, atE] | 3 => by simp [updF, xsE, valE] | 4 => rfl | 5 => rfl | 6 => rfl | 7 => rfl | _ + 8 => rfl
theorem xs_put4 : updF (updF (xsE E0 E1 E2 E3) 4 (xsE E0 E1 E2 E3 4 ++ [.int .i64 k])) (4 + 1) (xsE E0 E1 E2 E3 (4 + 1) ++ encA y) = xsE E0 E1 (E2 ++ [(k, y)]) E3 :=
  funext fun i => match i with | 0 => rfl | 1 => rfl | 2 => rfl | 3 => rfl | 4 => by simp [updF, xsE, atE] | 5 => by simp [updF, xsE, valE] | 6 => rfl | 7 => rfl | _ + 8 => rfl
theorem xs_put6 : updF (updF (xsE E0 E1 E2 E3) 6 (xsE E0 E1 E2 E3 6 ++ [.int .i64 k])) (6 + 1) (xsE E0 E1 E2 E3 (6 + 1) ++ encA y) = xsE E0 E1 E2 (E3 ++ [(k, y)]) :=
  funext fun i => match i with | 0 => rfl | 1 => rfl | 2 => rfl | 3 => rfl | 4 => rfl | 5 => rfl | 6 => by simp [updF, xsE, atE] | 7 => by simp [updF, xsE, valE] | _ + 8 => rfl
end
/-- The map of the first k items. -/
def NewM (B p : Nat) (vs : Nat → Value) (l : List I7) (fl : List F3) (k : Nat) (w : World) : Prop :=
  NewG B p vs (nsE (entN l 5 k) (entN l 6 k) (entC (aheadA l fl) k) (entC (dueA l fl) k)) (xsE (entN l 5 k) (entN l 6 k) (entC (aheadA l fl) k) (entC (dueA l fl) k)) w
theorem NewM.old {B p : Nat} {vs : Nat → Value} {l : List I7} {fl : List F3} {k : Nat} {w w' : World} (h : NewM B p vs l fl k w) (hx : Old w w') : NewM B p vs l fl k w' := NewG.old h hx
theorem slI_own {w : World} {B : Nat} {v : Value} {L : List Int} (h : w.ownsRow B 3 1 v L.length (L.map (Value.int .i64))) (hi : ∀ k, inR (L.getD k 0)) : SlI w v L := by
  have e : ∃ a c, v = .slice a L.length c ∧ (∀ ad, a = some ad → ad.spot = none) := by
    rcases h.2 with ⟨rfl, h0⟩ | ⟨g, cap, cur, rfl, _⟩
    · exact ⟨none, 0, by rw [h0], fun ad h => by cases h⟩
    · exact ⟨_, _, rfl, fun ad h => by cases h; rfl⟩
  obtain ⟨a, c, rfl, hs⟩ := e
  obtain ⟨a', c', e, h1, h2, h3⟩ := (OwnN.mk h hi).row
  cases e
  exact ⟨_, _, rfl, ⟨h1, h2⟩, hs, h3⟩
theorem slA_own {w : World} {B : Nat} {v : Value} {L : List A3} (h : w.ownsRow B 33 3 v L.length (L.map encA).flatten) : SlA w v L := by
  obtain ⟨a, c, h1, h2, h3, h4⟩ := own_of (d := zeroA) h encA_len
  exact ⟨a, c, h1, ⟨h2, h3⟩, h4.els⟩
theorem atE_in {α : Type} {E : List (Int × α)} {K : Nat} (h : Upto E K) (hK : K ≤ 1000000) : ∀ k, inR ((atE E).getD k 0) := fun k => by
  by_cases hk : k < (atE E).length
  · have := h.less ((atE E).getD k 0) (by rw [List.getD_eq_getElem?_getD, List.getElem?_eq_getElem hk]; exact List.getElem_mem _)
    unfold inR
    omega
  · rw [List.getD_eq_getElem?_getD, List.getElem?_eq_none (by omega)]
    simp [inR]
theorem NewM.done {B p : Nat} {vs : Nat → Value} {l : List I7} {fl : List F3} {w : World} (h : NewM B p vs l fl l.length w) (hl : l.length ≤ 1000000) (hi : ∀ k, inI (l.getD k zeroI)) : MapV w (.pointer (some ⟨p, 0, none⟩)) l fl := by
  refine .inr ⟨p, _, _, _, _, _, _, _, _, rfl, h.head, ?_, ?_, ?_, ?_, ?_, ?_, ?_, ?_⟩
  · have := h.rows 0 (by omega)
    exact slI_own (by rw [atE_len]; exact this) (atE_in (entN_upto l 5 _) hl)
  · have := h.rows 1 (by omega)
    exact slI_own (by rw [valE_len]; exact this) (entN_in hi 5 _)
  · have := h.rows 2 (by omega)
    exact slI_own (by rw [atE_len]; exact this) (atE_in (entN_upto l 6 _) hl)
  · have := h.rows 3 (by omega)
    exact slI_own (by rw [valE_len]; exact this) (entN_in hi 6 _)
  · have := h.rows 4 (by omega)
    exact slI_own (by rw [atE_len]; exact this) (atE_in (entC_upto (aheadA l fl) _) hl)
  · have := h.rows 5 (by omega)
    exact slA_own (by rw [valE_len]; exact this)
  · have := h.rows 6 (by omega)
    exact slI_own (by rw [atE_len]; exact this) (atE_in (entC_upto (dueA l fl) _) hl)
  · have := h.rows 7 (by omega)
    exact slA_own (by rw [valE_len]; exact this)
/-- How many entries there may be. -/
theorem NewM.few {l : List I7} {fl : List F3} {k : Nat} (hk : k ≤ 1000000) (i : Nat) : nsE (entN l 5 k) (entN l 6 k) (entC (aheadA l fl) k) (entC (dueA l fl) k) i ≤ 1000000 := by
  have h0 := (entN_upto l 5 k).few
  have h1 := (entN_upto l 6 k).few
  have h2 := (entC_upto (aheadA l fl) k).few
  have h3 := (entC_upto (dueA l fl) k).few
  exact match i with | 0 => Nat.le_trans h0 hk | 1 => Nat.le_trans h0 hk | 2 => Nat.le_trans h1 hk | 3 => Nat.le_trans h1 hk | 4 => Nat.le_trans h2 hk | 5 => Nat.le_trans h2 hk | 6 => Nat.le_trans h3 hk | 7 => Nat.le_trans h3 hk | _ + 8 => Nat.zero_le _
theorem newM_start (w : World) (l : List I7) (fl : List F3) : NewM (w.heap.size + 1 + 1 + 1) w.heap.size (fun _ => .slice none 0 0) l fl 0 (((w.alloc (.cells nil8 49)).alloc (.cells #[.int .i64 0, .int .i64 0, .int .i64 0] 33)).alloc (.cells #[.int .i64 0, .int .i64 0, .int .i64 0] 33)) := by
  refine ⟨((blk_new w nil8 49).alloc _).alloc _, fun i hi => ?_, fun i j _ _ _ g e => by simp [Value.ownBlock] at e, by omega, by simp⟩
  rcases (by omega : i = 0 ∨ i = 1 ∨ i = 2 ∨ i = 3 ∨ i = 4 ∨ i = 5 ∨ i = 6 ∨ i = 7) with rfl | rfl | rfl | rfl | rfl | rfl | rfl | rfl <;> exact World.ownsRow_nil _ _ _ _
/-! ### one item more -/
section
variable {l : List I7} {fl : List F3} {k : Nat}
theorem entN_yes {kd : Int} (h : (l.getD k zeroI).k = kd) : entN l kd (k + 1) = entN l kd k ++ [((k : Int), (l.getD k zeroI).n)] := by rw [entN, if_pos h]
theorem entN_no {kd : Int} (h : ¬ (l.getD k zeroI).k = kd) : entN l kd (k + 1) = entN l kd k := by rw [entN, if_neg h]
theorem aheadA_no (h : ¬ (l.getD k zeroI).k = 6) : aheadA l fl (k + 1) = aheadA l fl k := by rw [aheadA, if_neg h]
theorem dueA_no (h : ¬ (l.getD k zeroI).k = 7) : dueA l fl (k + 1) = dueA l fl k := by rw [dueA, if_neg h]
theorem aheadA_yes (h : (l.getD k zeroI).k = 6) : aheadA l fl (k + 1) = addA (aheadA l fl k) (ofA fl (l.getD k zeroI).n) := by rw [aheadA, if_pos h]
theorem dueA_yes (h : (l.getD k zeroI).k = 7) : dueA l fl (k + 1) = aheadA l fl k := by rw [dueA, if_pos h]
theorem entC_no {f : Nat → A3} (h : f (k + 1) = f k) : entC f (k + 1) = entC f k := by rw [entC, if_pos h]
theorem entC_yes {f : Nat → A3} (h : ¬ f (k + 1) = f k) : entC f (k + 1) = entC f k ++ [((k : Int), f (k + 1))] := by rw [entC, if_neg h]
end
end Go.Proofs.Ytniipfpfilenmaa
namespace Go.Proofs.Ytniipfpfilenmaa
open Go.RowKit
set_option maxRecDepth 20000
set_option linter.unusedVariables false
set_option linter.unusedSimpArgs false

theorem Blk.set3 {w : World} {g : Nat} {T : TypeId} {u0 u1 u2 : Value} (h : Blk w g #[u0, u1, u2] T) (v0 v1 v2 : Value) : Blk (((w.setCell ⟨g, 0, none⟩ v0).setCell ⟨g, 1, none⟩ v1).setCell ⟨g, 2, none⟩ v2) g #[v0, v1, v2] T := by
  simpa using ((h.set 0 v0).set 1 v1).set 2 v2
theorem Blk.other3 {w : World} {g b : Nat} {T : TypeId} {cs : Array Value} (h : Blk w g cs T) (hb : g ≠ b) (v0 v1 v2 : Value) : Blk (((w.setCell ⟨b, 0, none⟩ v0).setCell ⟨b, 1, none⟩ v1).setCell ⟨b, 2, none⟩ v2) g cs T :=
  ((h.other hb 0 v0).other hb 1 v1).other hb 2 v2
theorem Below.new3 {B b : Nat} {w x : World} (h : Below B w x) (hb : B ≤ b) (v0 v1 v2 : Value) : Below B w (((x.setCell ⟨b, 0, none⟩ v0).setCell ⟨b, 1, none⟩ v1).setCell ⟨b, 2, none⟩ v2) :=
  ((h.setCell (p := ⟨b, 0, none⟩) hb v0).setCell (p := ⟨b, 1, none⟩) hb v1).setCell (p := ⟨b, 2, none⟩) hb v2
section
variable {B p : Nat} {vs : Nat → Value} {ns : Nat → Nat} {xs : Nat → List Value} {w w' : World}
theorem NewG.other (h : NewG B p vs ns xs w) {b : Nat} (hb : p ≠ b) (hn : ∀ i, i < 8 → ¬ some b = (vs i).ownBlock) (i : Nat) (v : Value) : NewG B p vs ns xs (w.setCell ⟨b, i, none⟩ v) :=
  ⟨h.head.other hb i v, fun j hj => (h.rows j hj).kept (grown_set _ _ _ _) (.inr fun e => hn j hj e.symm), h.apart, h.low.1, by simpa using h.low.2⟩
theorem NewG.other3 (h : NewG B p vs ns xs w) {b : Nat} (hb : p ≠ b) (hn : ∀ i, i < 8 → ¬ some b = (vs i).ownBlock) (v0 v1 v2 : Value) : NewG B p vs ns xs (((w.setCell ⟨b, 0, none⟩ v0).setCell ⟨b, 1, none⟩ v1).setCell ⟨b, 2, none⟩ v2) :=
  ((h.other hb hn 0 v0).other hb hn 1 v1).other hb hn 2 v2
theorem NewG.low_no (h : NewG B p vs ns xs w) {b : Nat} (hb : b < B) : ∀ i, i < 8 → ¬ some b = (vs i).ownBlock := fun i hi e => by
  have := own_ge (h.rows i hi) b e
  omega
theorem NewG.new_no (h : NewG B p vs ns xs w) {b : Nat} (hb : w.heap.size ≤ b) : ∀ i, i < 8 → ¬ some b = (vs i).ownBlock := fun i hi e => by
  have := own_lt (h.rows i hi) b e
  omega
theorem not_near {o b : Nat} (hb : b ≠ p) (ho : o + 1 < 8) (hn : ∀ i, i < 8 → ¬ some b = (vs i).ownBlock) : ¬ (b = p ∨ some b = (vs o).ownBlock ∨ some b = (vs (o + 1)).ownBlock) := fun e => by
  rcases e with e | e | e
  · exact hb e
  · exact hn o (by omega) e
  · exact hn (o + 1) ho e
theorem NewG.near_ge (h : NewG B p vs ns xs w) {o : Nat} (ho : o + 1 < 8) : ∀ b, (b = p ∨ some b = (vs o).ownBlock ∨ some b = (vs (o + 1)).ownBlock) → p ≤ b := fun b e => by
  have := h.low.1
  rcases e with e | e | e
  · omega
  · have := own_ge (h.rows o (by omega)) b e; omega
  · have := own_ge (h.rows (o + 1) ho) b e; omega
end
theorem mk_cnt {ops : Array Oper} (i d : Nat) (o : Oper) (ho : ops[i]? = some o) (hop : o.op = .alloc 33) (hd : o.dst = some d) (hg : o.guard = none) : Makes Try.prog ops i (.cells #[.int .i64 0, .int .i64 0, .int .i64 0] 33) :=
  ⟨o, d, ho, hd, fun y => by simp [Region.wanted, hg], fun a w => by
    unfold execOp
    simp only [hop]
    simp [go_sem, newVar]⟩
theorem addA_room {l : List I7} {fl : List F3} {k : Nat} (hk : k ≤ 1000000) (n : Int) : inR ((aheadA l fl k).a + (ofA fl n).a) ∧ inR ((aheadA l fl k).b + (ofA fl n).b) ∧ inR ((aheadA l fl k).c + (ofA fl n).c) := by
  have h := aheadA_in l fl k
  have g := ofA_in fl n
  unfold InA at h g
  unfold inR
  omega
set_option maxHeartbeats 8000000 in
theorem hnew_any (a : Option Addr) (cap : Nat) (l : List I7) (af : Option Addr) (cf : Nat) (fl : List F3) (w : World) (hl : l.length ≤ 1000000) (hr : Els 7 encI w a l.length fun k => l.getD k zeroI) (hi : ∀ k, inI (l.getD k zeroI)) (hf : fl.length ≤ 9223372036854775807) (hrf : URow w af fl) :
    Calls Try.prog 7 #[.slice a l.length cap, .slice af fl.length cf] w fun e w' => ∃ v, e = .returned v ∧ MapV w' v l fl ∧ Below w.heap.size w w' := by
  have HR := Lib.hid hr
  have HF := Lib.hid fun x (n : Int) (hx : Below w.heap.size w x) => hof_any af cf fl n x hf (hrf.carry hx)
  have HI := Lib.hid hi
  have P0 := newM_start w l fl
  have b0 := tbel3 w (.cells nil8 49) (.cells #[.int .i64 0, .int .i64 0, .int .i64 0] 33) (.cells #[.int .i64 0, .int .i64 0, .int .i64 0] 33)
  have A0 := (blk_two w (.cells nil8 49) #[.int .i64 0, .int .i64 0, .int .i64 0] 33).alloc (.cells #[.int .i64 0, .int .i64 0, .int .i64 0] 33)
  have D0 := blk_three w (.cells nil8 49) (.cells #[.int .i64 0, .int .i64 0, .int .i64 0] 33) #[.int .i64 0, .int .i64 0, .int .i64 0] 33
  unfold nil8 at P0 b0 A0 D0
  clear hr hrf hi
  go_enter Try.func7, Try.ntmps7
  go_wp2_with fail
  generalize ((w.alloc _).alloc _).alloc _ = U at *
  go_loopw [15] (fun i wr => ∃ (k : Nat) (vs : Nat → Value) (x0 x1 x2 d0 d1 d2 : Int), k ≤ l.length ∧ i = .int .i64 k ∧ Below w.heap.size w wr ∧ Hid (NewM (w.heap.size + 1 + 1 + 1) w.heap.size vs l fl k wr) ∧ Blk wr (w.heap.size + 1) #[.int .i64 x0, .int .i64 x1, .int .i64 x2] 33 ∧ Blk wr (w.heap.size + 1 + 1) #[.int .i64 d0, .int .i64 d1, .int .i64 d2] 33 ∧ Hid (aheadA l fl k = ⟨x0, x1, x2⟩ ∧ dueA l fl k = ⟨d0, d1, d2⟩)) (fun i _ => l.length - (intOf i).toNat)
  case atStart => exact ⟨0, _, 0, 0, 0, 0, 0, 0, Nat.zero_le _, rfl, b0, Lib.hid P0, A0, D0, Lib.hid ⟨rfl, rfl⟩⟩
  case round =>
    clear P0 b0 A0 D0
    obtain ⟨k, vs, x0, x1, x2, d0, d1, d2, hk, rfl, hbl, HP, AB, DB, HX⟩ := hrel
    have hps := HP.out.head.lt
    by_cases hlt : k < l.length
    · obtain ⟨b, off, rfl, hB, _⟩ := HR.out.item hlt
      obtain ⟨_, _, e, _, q0, q1, q2, q3, q4, q5, q6⟩ := (HR.out.carry hbl).item hlt
      cases e
      obtain ⟨y, hy⟩ : ∃ y, l.getD k zeroI = y := ⟨_, rfl⟩
      rw [hy] at q0 q1 q2 q3 q4 q5 q6
      obtain ⟨yk, yh, yf, ys, yo, yr, yn⟩ := y
      dsimp only at q0 q1 q2 q3 q4 q5 q6
      have HY := Lib.hid hy
      clear hy
      have BI := blk_new wr #[.int .i64 yk, .int .i64 yh, .int .i64 yf, .int .i64 ys, .int .i64 yo, .int .i64 yr, .int .i64 yn] 40
      have bI := tbel1 wr (.cells #[.int .i64 yk, .int .i64 yh, .int .i64 yf, .int .i64 ys, .int .i64 yo, .int .i64 yr, .int .i64 yn] 40)
      have few := Lib.hid fun i => NewM.few (l := l) (fl := fl) (k := k) (by omega) i
      by_cases h5 : yk = 5
      · subst h5
        go_wp2_with fail
        clear q0 q1 q2 q3 q4 q5 q6
        generalize wr.alloc _ = W at *
        have CE := Lib.hid fun x (hx : Old W x) => (show x.cell? ⟨wr.heap.size, 6, none⟩ = some (.int .i64 yn) from (BI.old hx).cell 6)
        (refine wp_region_text (Old W) 6 (by kernel_rfl) (by kernel_rfl) (Below.refl _ W).drew ?_; simp only [List.take_succ_cons, List.take_zero, List.drop_succ_cons, List.drop_zero])
        repeat (first | (apply Text.sees (hw := by kernel_rfl); (focus (intro x hx K hK; have hc := CE.out x hx; go_simp; exact hK)); simp only [Act.put, List.getElem_toArray, List.getElem_cons_succ, List.getElem_cons_zero, List.setIfInBounds_toArray, List.set_cons_zero, List.set_cons_succ]) | (apply Text.idle; (focus (intro x hx K hK; go_simp; exact hK)); simp only [Act.put, List.getElem_toArray, List.getElem_cons_succ, List.getElem_cons_zero, List.setIfInBounds_toArray, List.set_cons_zero, List.set_cons_succ]))
        intro x hx
        have bx := tstep bI hx bI.size
        have Px := HP.out.old bx
        have c := hput_any 0 (by omega) ⟨rfl, rfl, rfl, rfl⟩ _ _ vs _ _ k yn x Px ⟨few.out _, few.out _⟩
        rw [ns_put0 (k := (k : Int)) (x := yn), xs_put0] at c
        go_wp2_with fail
        refine c.mono ?_
        rintro e w2 ⟨rfl, ⟨vs', hN⟩, hn⟩
        clear c CE few
        go_wp2
        go_roundw
        case rel =>
          have no5 : ∀ m : Int, m ≠ 5 → ¬ (l.getD k zeroI).k = m := fun m hm => by rw [HY.out]; exact fun e => hm e.symm
          refine ⟨k + 1, vs', x0, x1, x2, d0, d1, d2, by omega, by go_num, ?_, Lib.hid ?_, ?_, ?_, Lib.hid ?_⟩
          · exact (tstep hbl bx hbl.size).trans (hn.below (Px.near_ge (by omega)) (by have := bx.size; omega))
          · unfold NewM
            rw [entN_yes (kd := 5) (by rw [HY.out]), entN_no (kd := 6) (no5 6 (by decide)), entC_no (aheadA_no (no5 6 (by decide))), entC_no (dueA_no (no5 7 (by decide))), HY.out]
            exact hN
          · exact (AB.old bx).near hn (not_near (by omega) (by omega) (Px.low_no (by omega)))
          · exact (DB.old bx).near hn (not_near (by omega) (by omega) (Px.low_no (by omega)))
          · rw [aheadA_no (no5 6 (by decide)), dueA_no (no5 7 (by decide))]
            exact HX.out
        case measure => simp [intOf]; omega
      · by_cases h7 : yk = 7
        · subst h7
          have no7 : ∀ m : Int, m ≠ 7 → ¬ (l.getD k zeroI).k = m := fun m hm => by rw [HY.out]; exact fun e => hm e.symm
          by_cases hs : (⟨d0, d1, d2⟩ : A3) = ⟨x0, x1, x2⟩
          · have nq := neq_arr3 ⟨d0, d1, d2⟩ ⟨x0, x1, x2⟩
            unfold ar3 at nq
            rw [decide_eq_false (not_not_intro hs)] at nq
            dsimp only at nq
            have HN : Hid (NewM (w.heap.size + 1 + 1 + 1) w.heap.size vs l fl (k + 1) wr ∧ aheadA l fl (k + 1) = ⟨x0, x1, x2⟩ ∧ dueA l fl (k + 1) = ⟨d0, d1, d2⟩) := Lib.hid (by
              have e1 : dueA l fl (k + 1) = dueA l fl k := by rw [dueA_yes (by rw [HY.out]), HX.out.1, HX.out.2, hs]
              refine ⟨?_, by rw [aheadA_no (no7 6 (by decide))]; exact HX.out.1, by rw [e1]; exact HX.out.2⟩
              unfold NewM
              rw [entN_no (kd := 5) (no7 5 (by decide)), entN_no (kd := 6) (no7 6 (by decide)), entC_no (aheadA_no (no7 6 (by decide))), entC_no e1]
              exact HP.out)
            clear hs no7 few
            obtain ⟨p0, p1, p2⟩ := (DB.alloc (.cells #[.int .i64 7, .int .i64 yh, .int .i64 yf, .int .i64 ys, .int .i64 yo, .int .i64 yr, .int .i64 yn] 40)).triple
            obtain ⟨r0, r1, r2⟩ := (AB.alloc (.cells #[.int .i64 7, .int .i64 yh, .int .i64 yf, .int .i64 ys, .int .i64 yo, .int .i64 yr, .int .i64 yn] 40)).triple
            go_wp2
            go_roundw
            case rel => exact ⟨k + 1, vs, x0, x1, x2, d0, d1, d2, by omega, by go_num, tstep hbl bI hbl.size, Lib.hid (HN.out.1.old bI), AB.alloc _, DB.alloc _, Lib.hid HN.out.2⟩
            case measure => simp [intOf]; omega
          · have nq := neq_arr3 ⟨d0, d1, d2⟩ ⟨x0, x1, x2⟩
            unfold ar3 at nq
            rw [decide_eq_true hs] at nq
            dsimp only at nq
            have HE : Hid (¬ dueA l fl (k + 1) = dueA l fl k) := Lib.hid (by rw [dueA_yes (by rw [HY.out]), HX.out.1, HX.out.2]; exact fun e => hs e.symm)
            have DA := DB.alloc (.cells #[.int .i64 7, .int .i64 yh, .int .i64 yf, .int .i64 ys, .int .i64 yo, .int .i64 yr, .int .i64 yn] 40)
            have AA := AB.alloc (.cells #[.int .i64 7, .int .i64 yh, .int .i64 yf, .int .i64 ys, .int .i64 yo, .int .i64 yr, .int .i64 yn] 40)
            have HP1 := Lib.hid (HP.out.old bI)
            have hbl1 := tstep hbl bI hbl.size
            clear hs HP hbl
            obtain ⟨p0, p1, p2⟩ := DA.triple
            obtain ⟨f0, f1, f2⟩ := DA.triple_free
            obtain ⟨r0, r1, r2⟩ := AA.triple
            have hdl := DA.lt
            go_wp2_with fail
            have D3 := DA.set3 (.int .i64 x0) (.int .i64 x1) (.int .i64 x2)
            have AQ := AA.other3 (b := w.heap.size + 1 + 1) (by omega) (.int .i64 x0) (.int .i64 x1) (.int .i64 x2)
            have HP3 := Lib.hid (NewG.other3 HP1.out (b := w.heap.size + 1 + 1) (by omega) (HP1.out.low_no (by omega)) (.int .i64 x0) (.int .i64 x1) (.int .i64 x2))
            have hbl3 := Below.new3 hbl1 (b := w.heap.size + 1 + 1) (by omega) (.int .i64 x0) (.int .i64 x1) (.int .i64 x2)
            clear q0 q1 q2 q3 q4 q5 q6 DA AA hbl1 p0 p1 p2 f0 f1 f2 r0 r1 r2 BI bI
            generalize (((wr.alloc _).setCell _ _).setCell _ _).setCell _ _ = W at *
            have hwl := D3.lt
            have CE := Lib.hid fun x (hx : Old W x) => (D3.old hx).triple
            (refine wp_region_text (Old W) 5 (by kernel_rfl) (by kernel_rfl) (Below.refl _ W).drew ?_; simp only [List.take_succ_cons, List.take_zero, List.drop_succ_cons, List.drop_zero])
            repeat (first | (apply Text.sees (hw := by kernel_rfl); (focus (intro x hx K hK; have hc := CE.out x hx; go_simp; exact hK)); simp only [Act.put, List.getElem_toArray, List.getElem_cons_succ, List.getElem_cons_zero, List.setIfInBounds_toArray, List.set_cons_zero, List.set_cons_succ]) | (apply Text.idle; (focus (intro x hx K hK; go_simp; exact hK)); simp only [Act.put, List.getElem_toArray, List.getElem_cons_succ, List.getElem_cons_zero, List.setIfInBounds_toArray, List.set_cons_zero, List.set_cons_succ]))
            intro x hx
            have Px := NewG.old HP3.out hx
            have c := hputC_any 6 (by omega) ⟨rfl, rfl, rfl, rfl⟩ _ _ vs _ _ k ⟨x0, x1, x2⟩ x Px ⟨few.out _, few.out _⟩
            rw [ns_put6 (k := (k : Int)) (y := ⟨x0, x1, x2⟩), xs_put6] at c
            unfold ar3 at c
            dsimp only at c
            go_wp2_with fail
            refine c.mono ?_
            rintro e w2 ⟨rfl, ⟨vs', hN⟩, hn⟩
            clear c CE few
            go_wp2
            go_roundw
            case rel =>
              refine ⟨k + 1, vs', x0, x1, x2, x0, x1, x2, by omega, by go_num, ?_, Lib.hid ?_, ?_, ?_, Lib.hid ?_⟩
              · exact (tstep hbl3 hx hbl3.size).trans (hn.below (Px.near_ge (by omega)) (by have := hx.size; omega))
              · unfold NewM
                rw [entN_no (kd := 5) (no7 5 (by decide)), entN_no (kd := 6) (no7 6 (by decide)), entC_no (aheadA_no (no7 6 (by decide))), entC_yes HE.out, dueA_yes (by rw [HY.out]), HX.out.1]
                exact hN
              · exact (AQ.old hx).near hn (not_near (by omega) (by omega) (Px.low_no (by omega)))
              · exact (D3.old hx).near hn (not_near (by omega) (by omega) (Px.low_no (by omega)))
              · rw [aheadA_no (no7 6 (by decide)), dueA_yes (by rw [HY.out])]
                exact ⟨HX.out.1, HX.out.1⟩
            case measure => simp [intOf]; omega
        · by_cases h6 : yk = 6
          · subst h6
            have no6 : ∀ m : Int, m ≠ 6 → ¬ (l.getD k zeroI).k = m := fun m hm => by rw [HY.out]; exact fun e => hm e.symm
            obtain ⟨o, ho⟩ : ∃ o, ofA fl yn = o := ⟨_, rfl⟩
            obtain ⟨s, hs⟩ : ∃ s, addA ⟨x0, x1, x2⟩ o = s := ⟨_, rfl⟩
            have HS : Hid (aheadA l fl (k + 1) = s) := Lib.hid (by rw [aheadA_yes (by rw [HY.out]), HX.out.1, HY.out]; dsimp only; rw [ho, hs])
            have hD : dueA l fl (k + 1) = dueA l fl k := dueA_no (no6 7 (by decide))
            have HD := Lib.hid hD
            have cO := Lib.hid fun z (hz : Below w.heap.size w z) => HF.out z yn hz
            rw [ho] at cO
            have cP := Lib.hid fun z => hplus_any ⟨x0, x1, x2⟩ o z (by
              have := addA_room (l := l) (fl := fl) (k := k) (by omega) yn
              rw [HX.out.1, ho] at this
              exact this)
            rw [hs] at cP
            clear hs ho hD
            obtain ⟨o0, o1, o2⟩ := o
            obtain ⟨s0, s1, s2⟩ := s
            unfold ar3 at cO cP
            dsimp only at cO cP
            go_wp2_with fail
            clear q0 q1 q2 q3 q4 q5 q6
            generalize wr.alloc _ = W at *
            have CE := Lib.hid fun x (hx : Old W x) => (show x.cell? ⟨wr.heap.size, 6, none⟩ = some (.int .i64 yn) from (BI.old hx).cell 6)
            (refine wp_region_text (Old W) 6 (by kernel_rfl) (by kernel_rfl) (Below.refl _ W).drew ?_; simp only [List.take_succ_cons, List.take_zero, List.drop_succ_cons, List.drop_zero])
            repeat (first | (apply Text.sees (hw := by kernel_rfl); (focus (intro x hx K hK; have hc := CE.out x hx; go_simp; exact hK)); simp only [Act.put, List.getElem_toArray, List.getElem_cons_succ, List.getElem_cons_zero, List.setIfInBounds_toArray, List.set_cons_zero, List.set_cons_succ]) | (apply Text.idle; (focus (intro x hx K hK; go_simp; exact hK)); simp only [Act.put, List.getElem_toArray, List.getElem_cons_succ, List.getElem_cons_zero, List.setIfInBounds_toArray, List.set_cons_zero, List.set_cons_succ]))
            intro x hx
            have bx := tstep bI hx bI.size
            have Px := HP.out.old bx
            have c := hput_any 2 (by omega) ⟨rfl, rfl, rfl, rfl⟩ _ _ vs _ _ k yn x Px ⟨few.out _, few.out _⟩
            rw [ns_put2 (k := (k : Int)) (x := yn), xs_put2] at c
            go_wp2_with fail
            refine c.mono ?_
            rintro e w2 ⟨rfl, ⟨vs', hN⟩, hn⟩
            clear c CE few
            have AB2 := (AB.old bx).near hn (not_near (by omega) (by omega) (Px.low_no (by omega)))
            have DB2 := (DB.old bx).near hn (not_near (by omega) (by omega) (Px.low_no (by omega)))
            have BI2 := (BI.old hx).near hn (not_near (by omega) (by omega) (NewG.new_no HP.out (Nat.le_refl _)))
            have hbl2 : Below w.heap.size w w2 := (tstep hbl bx hbl.size).trans (hn.below (Px.near_ge (by omega)) (by have := bx.size; omega))
            have HN := Lib.hid hN
            have h2s := hbl2.size
            clear hN hn Px bx hx bI BI AB DB HP hbl
            go_wp2_with fail
            have CE := Lib.hid fun z (hz : Near (fun _ => False) w2 z) => And.intro (AB2.near hz (fun e => e)).triple (show z.cell? ⟨wr.heap.size, 6, none⟩ = some (.int .i64 yn) from (BI2.near hz (fun e => e)).cell 6)
            (refine wp_region_planX 7 [6] [(0, true), (1, true), (2, true), (3, true), (4, true), (5, true)] (fun _ => False) (fun _ => .cells #[.int .i64 0, .int .i64 0, .int .i64 0] 33) (by kernel_rfl) (by kernel_rfl) (by kernel_rfl) (fun j hj => hj.elim) (fun i hi => by obtain rfl : i = 6 := (by simpa using hi); exact mk_cnt 6 10 _ rfl rfl rfl rfl) ?_; simp only [pick, pickM, List.getElem?_cons_succ, List.getElem?_cons_zero, List.drop_succ_cons, List.drop_zero])
            repeat (first | (apply TextU.sees (hw := by kernel_rfl); (focus (intro x hx K hK; have hc := CE.out x hx; go_simp; exact hK)); simp only [Act.put, List.getElem_toArray, List.getElem_cons_succ, List.getElem_cons_zero, List.setIfInBounds_toArray, List.set_cons_zero, List.set_cons_succ]) | (apply TextU.idle; (focus (intro x hx K hK; go_simp; exact hK)); simp only [Act.put, List.getElem_toArray, List.getElem_cons_succ, List.getElem_cons_zero, List.setIfInBounds_toArray, List.set_cons_zero, List.set_cons_succ]))
            (refine TextU.call (fun z hz => cO.out z (tstep hbl2 (Near.old hz) h2s)) (by kernel_rfl) (fun _ => by kernel_rfl) ?_; simp only [Act.put, List.getElem_toArray, List.getElem_cons_succ, List.getElem_cons_zero, List.setIfInBounds_toArray, List.set_cons_zero, List.set_cons_succ])
            repeat (first | (apply TextU.sees (hw := by kernel_rfl); (focus (intro x hx K hK; have hc := CE.out x hx; go_simp; exact hK)); simp only [Act.put, List.getElem_toArray, List.getElem_cons_succ, List.getElem_cons_zero, List.setIfInBounds_toArray, List.set_cons_zero, List.set_cons_succ]) | (apply TextU.idle; (focus (intro x hx K hK; go_simp; exact hK)); simp only [Act.put, List.getElem_toArray, List.getElem_cons_succ, List.getElem_cons_zero, List.setIfInBounds_toArray, List.set_cons_zero, List.set_cons_succ]))
            (refine TextU.call (fun z _ => cP.out z) (by kernel_rfl) (fun _ => by kernel_rfl) ?_; simp only [Act.put, List.getElem_toArray, List.getElem_cons_succ, List.getElem_cons_zero, List.setIfInBounds_toArray, List.set_cons_zero, List.set_cons_succ])
            repeat (first | (apply TextU.sees (hw := by kernel_rfl); (focus (intro x hx K hK; have hc := CE.out x hx; go_simp; exact hK)); simp only [Act.put, List.getElem_toArray, List.getElem_cons_succ, List.getElem_cons_zero, List.setIfInBounds_toArray, List.set_cons_zero, List.set_cons_succ]) | (apply TextU.idle; (focus (intro x hx K hK; go_simp; exact hK)); simp only [Act.put, List.getElem_toArray, List.getElem_cons_succ, List.getElem_cons_zero, List.setIfInBounds_toArray, List.set_cons_zero, List.set_cons_succ]))
            apply TextU.done
            intro x3 hx3
            (refine TextM.make fun g9 => ?_; simp only [Act.put, List.getElem_toArray, List.getElem_cons_succ, List.getElem_cons_zero, List.setIfInBounds_toArray, List.set_cons_zero, List.set_cons_succ])
            apply TextM.done
            intro z hz listed hl' hM
            have M9 := hM.one (i := 6) (g := g9) (by decide) (hl' 6 (by decide)) rfl rfl rfl
            clear hM hl'
            obtain ⟨L9, H9⟩ := M9
            have K9 : Blk z g9 #[.int .i64 0, .int .i64 0, .int .i64 0] 33 := H9
            have hyz : Old w2 z := hx3.old hz
            have L9' : w2.heap.size ≤ g9 := L9
            have hab2 := AB2.lt
            have AQ := (AB2.old hyz).other3 (b := g9) (by have := AB2.lt; omega) (.int .i64 s0) (.int .i64 s1) (.int .i64 s2)
            have D3 := (DB2.old hyz).other3 (b := g9) (by have := DB2.lt; omega) (.int .i64 s0) (.int .i64 s1) (.int .i64 s2)
            have HN3 := Lib.hid (NewG.other3 (HN.out.old hyz) (b := g9) (by have := HN.out.head.lt; omega) (HN.out.new_no L9') (.int .i64 s0) (.int .i64 s1) (.int .i64 s2))
            have C3 := K9.set3 (.int .i64 s0) (.int .i64 s1) (.int .i64 s2)
            have hbl3 := Below.new3 (tstep hbl2 hyz h2s) (b := g9) (by omega) (.int .i64 s0) (.int .i64 s1) (.int .i64 s2)
            obtain ⟨k0, k1, k2⟩ := K9.triple
            obtain ⟨kf0, kf1, kf2⟩ := K9.triple_free
            have hgl := K9.lt
            clear H9 K9 hx3 hz hyz L9 AB2 DB2 BI2 HN hbl2 cO cP CE
            go_upto_region 12 with (fail)
            clear k0 k1 k2 kf0 kf1 kf2 hgl
            generalize ((z.setCell _ _).setCell _ _).setCell _ _ = V at *
            obtain ⟨p0, p1, p2⟩ := C3.triple
            obtain ⟨r0, r1, r2⟩ := AQ.triple
            by_cases hs : (⟨s0, s1, s2⟩ : A3) = ⟨x0, x1, x2⟩
            · have nq := neq_arr3 ⟨s0, s1, s2⟩ ⟨x0, x1, x2⟩
              unfold ar3 at nq
              rw [decide_eq_false (not_not_intro hs)] at nq
              dsimp only at nq
              have HE : Hid (aheadA l fl (k + 1) = aheadA l fl k) := Lib.hid (by rw [HS.out, HX.out.1, hs])
              clear hs
              go_wp2
              go_roundw
              case rel =>
                refine ⟨k + 1, vs', x0, x1, x2, d0, d1, d2, by omega, by go_num, hbl3, Lib.hid ?_, AQ, D3, Lib.hid ?_⟩
                · unfold NewM
                  rw [entN_no (kd := 5) (no6 5 (by decide)), entN_yes (kd := 6) (by rw [HY.out]), entC_no HE.out, entC_no HD.out, HY.out]
                  exact HN3.out
                · rw [HE.out, HD.out]
                  exact HX.out
              case measure => simp [intOf]; omega
            · have nq := neq_arr3 ⟨s0, s1, s2⟩ ⟨x0, x1, x2⟩
              unfold ar3 at nq
              rw [decide_eq_true hs] at nq
              dsimp only at nq
              have HE : Hid (¬ aheadA l fl (k + 1) = aheadA l fl k) := Lib.hid (by rw [HS.out, HX.out.1]; exact hs)
              obtain ⟨f0, f1, f2⟩ := AQ.triple_free
              have hal := AQ.lt
              clear hs
              go_wp2_with fail
              have A4 := AQ.set3 (.int .i64 s0) (.int .i64 s1) (.int .i64 s2)
              have D4 := D3.other3 (b := w.heap.size + 1) (by omega) (.int .i64 s0) (.int .i64 s1) (.int .i64 s2)
              have C4 := C3.other3 (b := w.heap.size + 1) (by omega) (.int .i64 s0) (.int .i64 s1) (.int .i64 s2)
              have HN4 := Lib.hid (NewG.other3 HN3.out (b := w.heap.size + 1) (by omega) (HN3.out.low_no (by omega)) (.int .i64 s0) (.int .i64 s1) (.int .i64 s2))
              have hbl4 := Below.new3 hbl3 (b := w.heap.size + 1) (by omega) (.int .i64 s0) (.int .i64 s1) (.int .i64 s2)
              clear AQ D3 C3 HN3 hbl3 p0 p1 p2 r0 r1 r2 f0 f1 f2 nq hal
              generalize ((V.setCell _ _).setCell _ _).setCell _ _ = V4 at *
              have CE := Lib.hid fun x (hx : Old V4 x) => (C4.old hx).triple
              (refine wp_region_text (Old V4) 5 (by kernel_rfl) (by kernel_rfl) (Below.refl _ V4).drew ?_; simp only [List.take_succ_cons, List.take_zero, List.drop_succ_cons, List.drop_zero])
              repeat (first | (apply Text.sees (hw := by kernel_rfl); (focus (intro x hx K hK; have hc := CE.out x hx; go_simp; exact hK)); simp only [Act.put, List.getElem_toArray, List.getElem_cons_succ, List.getElem_cons_zero, List.setIfInBounds_toArray, List.set_cons_zero, List.set_cons_succ]) | (apply Text.idle; (focus (intro x hx K hK; go_simp; exact hK)); simp only [Act.put, List.getElem_toArray, List.getElem_cons_succ, List.getElem_cons_zero, List.setIfInBounds_toArray, List.set_cons_zero, List.set_cons_succ]))
              intro x5 hx5
              have Px := NewG.old HN4.out hx5
              have c := hputC_any 4 (by omega) ⟨rfl, rfl, rfl, rfl⟩ _ _ vs' _ _ k ⟨s0, s1, s2⟩ x5 Px ⟨Nat.le_trans (entC_upto (aheadA l fl) k).few (by omega), Nat.le_trans (entC_upto (aheadA l fl) k).few (by omega)⟩
              rw [ns_put4 (k := (k : Int)) (y := ⟨s0, s1, s2⟩), xs_put4] at c
              unfold ar3 at c
              dsimp only at c
              go_wp2_with fail
              refine c.mono ?_
              rintro e w6 ⟨rfl, ⟨vs6, hN6⟩, hn6⟩
              clear c CE
              go_wp2
              go_roundw
              case rel =>
                refine ⟨k + 1, vs6, s0, s1, s2, d0, d1, d2, by omega, by go_num, ?_, Lib.hid ?_, ?_, ?_, Lib.hid ?_⟩
                · exact (tstep hbl4 hx5 hbl4.size).trans (hn6.below (Px.near_ge (by omega)) (by have := hx5.size; have := hbl4.size; omega))
                · unfold NewM
                  rw [entN_no (kd := 5) (no6 5 (by decide)), entN_yes (kd := 6) (by rw [HY.out]), entC_yes HE.out, entC_no HD.out, HY.out, HS.out]
                  exact hN6
                · exact (A4.old hx5).near hn6 (not_near (by omega) (by omega) (Px.low_no (by omega)))
                · exact (D4.old hx5).near hn6 (not_near (by omega) (by omega) (Px.low_no (by omega)))
                · rw [HS.out, HD.out]
                  exact ⟨rfl, HX.out.2⟩
              case measure => simp [intOf]; omega
          · have no : ∀ m : Int, m ≠ yk → ¬ (l.getD k zeroI).k = m := fun m hm => by rw [HY.out]; exact fun e => hm e.symm
            go_wp2
            go_roundw
            case rel =>
              refine ⟨k + 1, vs, x0, x1, x2, d0, d1, d2, by omega, by go_num, tstep hbl bI hbl.size, Lib.hid ?_, AB.alloc _, DB.alloc _, Lib.hid ?_⟩
              · unfold NewM
                rw [entN_no (kd := 5) (no 5 (Ne.symm h5)), entN_no (kd := 6) (no 6 (Ne.symm h6)), entC_no (aheadA_no (no 6 (Ne.symm h6))), entC_no (dueA_no (no 7 (Ne.symm h7)))]
                exact HP.out.old bI
              · rw [aheadA_no (no 6 (Ne.symm h6)), dueA_no (no 7 (Ne.symm h7))]
                exact HX.out
            case measure => simp [intOf]; omega
    · obtain rfl : k = l.length := by omega
      go_wp2
      go_ret
      exact ⟨_, rfl, HP.out.done hl HI.out, hbl⟩
end Go.Proofs.Ytniipfpfilenmaa
