/- Sums in memory; New of package sums: what it needs. -/
import Derived.Test.YtomjglfamnacoaaZSm
import Derived.Test.YtomjglfamnacoaaIFlt
import Derived.Test.YtomjglfamnacoaaJGrw
import Derived.Laws.MakeOwn
import Derived.LoopN
namespace Go.Proofs.Ytomjglfamnacoaa
open Go.RowKit
set_option maxRecDepth 20000
set_option linter.unusedVariables false
set_option linter.unusedSimpArgs false

def encT (t : T6) : List Value := [.int .i64 t.n, .int .i64 t.s0, .int .i64 t.s1, .int .i64 t.s2, .int .i64 t.s3, .int .i64 t.h]
theorem encT_len (t : T6) : (encT t).length = 6 := rfl
theorem encT_one : ∀ x, ∀ u ∈ encT x, u.oneCell' = true := fun x u hu => by
  simp only [encT, List.mem_cons, List.not_mem_nil, or_false] at hu
  rcases hu with rfl | rfl | rfl | rfl | rfl | rfl <;> rfl
/-- Block g holds n sums. -/
def Arr8 (w : World) (g n : Nat) (F : Nat → S8) : Prop := ∃ cs, Blk w g cs 57 ∧ ∀ k j, k < n → j < 8 → cs[k * 8 + j]? = (encS (F k))[j]?
section
variable {w w' : World} {g b n : Nat} {F G : Nat → S8}
theorem Arr8.lt (h : Arr8 w g n F) : g < w.heap.size := by
  obtain ⟨cs, h1, _⟩ := h
  exact h1.lt
theorem Arr8.els (h : Arr8 w g n F) : Els 8 encS w (some ⟨g, 0, none⟩) n F := fun k j hk hj => by
  obtain ⟨cs, h1, h2⟩ := h
  refine ⟨g, 0, rfl, h1.lt, ?_⟩
  rw [h1.cell, Nat.zero_add, h2 k j hk hj]
theorem Arr8.old (h : Arr8 w g n F) (hx : Old w w') : Arr8 w' g n F := by
  obtain ⟨cs, h1, h2⟩ := h
  exact ⟨cs, h1.old hx, h2⟩
theorem Arr8.chg {T : TypeId} (h : Arr8 w g n F) (hx : Chg T w w') (hT : 57 ≠ T) : Arr8 w' g n F := by
  obtain ⟨cs, h1, h2⟩ := h
  exact ⟨cs, hx.block _ _ _ h1 hT, h2⟩
theorem Arr8.congr (h : Arr8 w g n F) (e : ∀ k, k < n → F k = G k) : Arr8 w g n G := by
  obtain ⟨cs, h1, h2⟩ := h
  exact ⟨cs, h1, fun k j hk hj => by rw [← e k hk]; exact h2 k j hk hj⟩
theorem Arr8.free (h : Arr8 w g n F) (i : Nat) : w.frozen? ⟨g, i, none⟩ = false := by
  obtain ⟨cs, h1, _⟩ := h
  exact h1.free i
/-- A sum stored whole. -/
theorem Arr8.set (h : Arr8 w g n F) {k : Nat} (hk : k < n) (x : S8) : Arr8 ((((((((w.setCell ⟨g, k * 8, none⟩ (.int .i64 x.t.n)).setCell ⟨g, k * 8 + 1, none⟩ (.int .i64 x.t.s0)).setCell ⟨g, k * 8 + 2, none⟩ (.int .i64 x.t.s1)).setCell ⟨g, k * 8 + 3, none⟩ (.int .i64 x.t.s2)).setCell ⟨g, k * 8 + 4, none⟩ (.int .i64 x.t.s3)).setCell ⟨g, k * 8 + 5, none⟩ (.int .i64 x.t.h)).setCell ⟨g, k * 8 + 6, none⟩ (.int .i64 x.b)).setCell ⟨g, k * 8 + 7, none⟩ (.int .i64 x.g)) g n (fun i => if i = k then x else F i) := by
  obtain ⟨cs, h1, h2⟩ := h
  refine ⟨_, (((((((h1.set _ _).set _ _).set _ _).set _ _).set _ _).set _ _).set _ _).set _ _, fun i j hi hj => ?_⟩
  have hsz : k * 8 + 7 < cs.size := by
    have := h2 k 7 hk (by omega)
    rcases Nat.lt_or_ge (k * 8 + 7) cs.size with h | h
    · exact h
    · rw [Array.getElem?_eq_none h] at this
      simp [encS] at this
  simp only [Array.getElem?_setIfInBounds, Array.size_setIfInBounds]
  by_cases hik : i = k
  · subst hik
    rw [if_pos rfl]
    rcases (by omega : j = 0 ∨ j = 1 ∨ j = 2 ∨ j = 3 ∨ j = 4 ∨ j = 5 ∨ j = 6 ∨ j = 7) with rfl | rfl | rfl | rfl | rfl | rfl | rfl | rfl <;> simp [encS, hsz] <;> omega
  · rw [if_neg hik]
    rw [if_neg (by omega), if_neg (by omega), if_neg (by omega), if_neg (by omega), if_neg (by omega), if_neg (by omega), if_neg (by omega), if_neg (by omega)]
    exact h2 i j hi hj
end
/-- An element's eight cells. -/
theorem Els.sum8 {w : World} {a : Option Addr} {n k : Nat} {F : Nat → S8} (h : Els 8 encS w a n F) (hk : k < n) : ∃ b off, a = some ⟨b, off, none⟩ ∧ b < w.heap.size ∧ w.cell? ⟨b, off + k * 8, none⟩ = some (.int .i64 (F k).t.n) ∧ w.cell? ⟨b, off + k * 8 + 1, none⟩ = some (.int .i64 (F k).t.s0) ∧ w.cell? ⟨b, off + k * 8 + 2, none⟩ = some (.int .i64 (F k).t.s1) ∧ w.cell? ⟨b, off + k * 8 + 3, none⟩ = some (.int .i64 (F k).t.s2) ∧ w.cell? ⟨b, off + k * 8 + 4, none⟩ = some (.int .i64 (F k).t.s3) ∧ w.cell? ⟨b, off + k * 8 + 5, none⟩ = some (.int .i64 (F k).t.h) ∧ w.cell? ⟨b, off + k * 8 + 6, none⟩ = some (.int .i64 (F k).b) ∧ w.cell? ⟨b, off + k * 8 + 7, none⟩ = some (.int .i64 (F k).g) := by
  obtain ⟨b, off, rfl, hB, h0⟩ := h k 0 hk (by omega)
  have g : ∀ j, j < 8 → w.cell? ⟨b, off + (k * 8 + j), none⟩ = (encS (F k))[j]? := fun j hj => by
    obtain ⟨b', off', e, _, hc⟩ := h k j hk hj
    cases e
    exact hc
  exact ⟨b, off, rfl, hB, h0, g 1 (by omega), g 2 (by omega), g 3 (by omega), g 4 (by omega), g 5 (by omega), g 6 (by omega), g 7 (by omega)⟩
/-- A total's six cells. -/
theorem Els.tot6 {w : World} {a : Option Addr} {n k : Nat} {F : Nat → T6} (h : Els 6 encT w a n F) (hk : k < n) : ∃ b off, a = some ⟨b, off, none⟩ ∧ b < w.heap.size ∧ w.cell? ⟨b, off + k * 6, none⟩ = some (.int .i64 (F k).n) ∧ w.cell? ⟨b, off + k * 6 + 1, none⟩ = some (.int .i64 (F k).s0) ∧ w.cell? ⟨b, off + k * 6 + 2, none⟩ = some (.int .i64 (F k).s1) ∧ w.cell? ⟨b, off + k * 6 + 3, none⟩ = some (.int .i64 (F k).s2) ∧ w.cell? ⟨b, off + k * 6 + 4, none⟩ = some (.int .i64 (F k).s3) ∧ w.cell? ⟨b, off + k * 6 + 5, none⟩ = some (.int .i64 (F k).h) := by
  obtain ⟨b, off, rfl, hB, h0⟩ := h k 0 hk (by omega)
  have g : ∀ j, j < 6 → w.cell? ⟨b, off + (k * 6 + j), none⟩ = (encT (F k))[j]? := fun j hj => by
    obtain ⟨b', off', e, _, hc⟩ := h k j hk hj
    cases e
    exact hc
  exact ⟨b, off, rfl, hB, h0, g 1 (by omega), g 2 (by omega), g 3 (by omega), g 4 (by omega), g 5 (by omega)⟩
/-- The sums of the list l, by pointer. -/
def SumAt (w : World) (v : Value) (l : List I7) : Prop :=
  ∃ p ba ga gc, v = .pointer (some ⟨p, 0, none⟩) ∧ Blk w p #[.slice ba (l.length + 1) (l.length + 1), .slice ga (gluK l l.length).length gc] 53 ∧ Els 8 encS w ba (l.length + 1) (sumK l) ∧ ((gluK l l.length).length ≤ gc ∧ gc ≤ maxLen) ∧ Els 6 encT w ga (gluK l l.length).length fun k => (gluK l l.length).getD k zeroT
theorem SumAt.carry {w w' : World} {v : Value} {l : List I7} (h : SumAt w v l) (hb : Below w.heap.size w w') : SumAt w' v l := by
  obtain ⟨p, ba, ga, gc, h1, h2, h3, h4, h5⟩ := h
  exact ⟨p, ba, ga, gc, h1, h2.old hb, h3.carry hb, h4, h5.carry hb⟩
/-! ### While New goes on -/
structure NewP (B : Nat) (l : List I7) (k : Nat) (gv : Value) (p g : Nat) (w : World) : Prop where
  arr : Arr8 w g (l.length + 1) (fun i => if i ≤ k then sumK l i else zero8)
  head : Blk w p #[.slice (some ⟨g, 0, none⟩) (l.length + 1) (l.length + 1), gv] 53
  own : w.ownsRow B 31 6 gv (gluK l k).length ((gluK l k).map encT).flatten
  low : B ≤ g ∧ B ≤ p
theorem NewP.old {B k p g : Nat} {l : List I7} {gv : Value} {w w' : World} (h : NewP B l k gv p g w) (hx : Old w w') : NewP B l k gv p g w' :=
  ⟨h.arr.old hx, h.head.old hx, own_old h.own hx, h.low⟩
theorem own_chg {w w' : World} {e T : TypeId} {sz B : Nat} {v : Value} {k : Nat} {xs : List Value} (h : w.ownsRow B e sz v k xs) (hx : Chg T w w') (hT : e ≠ T) : w'.ownsRow B e sz v k xs := by
  refine ⟨h.1, ?_⟩
  rcases h.2 with h2 | ⟨g, cap, cur, h1, h2, h3, h4⟩
  · exact .inl h2
  · exact .inr ⟨g, cap, cur, h1, h2, hx.block g cur e h3 hT, h4⟩
theorem Chg.set8 {w : World} {g : Nat} {cs : Array Value} {T : TypeId} (h : Blk w g cs T) (k : Nat) (v0 v1 v2 v3 v4 v5 v6 v7 : Value) : Chg T w ((((((((w.setCell ⟨g, k, none⟩ v0).setCell ⟨g, k + 1, none⟩ v1).setCell ⟨g, k + 2, none⟩ v2).setCell ⟨g, k + 3, none⟩ v3).setCell ⟨g, k + 4, none⟩ v4).setCell ⟨g, k + 5, none⟩ v5).setCell ⟨g, k + 6, none⟩ v6).setCell ⟨g, k + 7, none⟩ v7) := by
  have a0 := h.set k v0
  have a1 := a0.set (k + 1) v1
  have a2 := a1.set (k + 2) v2
  have a3 := a2.set (k + 3) v3
  have a4 := a3.set (k + 4) v4
  have a5 := a4.set (k + 5) v5
  have a6 := a5.set (k + 6) v6
  exact (((((((Chg.set h k v0).trans (Chg.set a0 _ v1)).trans (Chg.set a1 _ v2)).trans (Chg.set a2 _ v3)).trans (Chg.set a3 _ v4)).trans (Chg.set a4 _ v5)).trans (Chg.set a5 _ v6)).trans (Chg.set a6 _ v7)
/-- The next sum is stored: the sums stand at k + 1, the glues still at k. -/
theorem NewP.put {B k p g : Nat} {l : List I7} {gv : Value} {w : World} (h : NewP B l k gv p g w) (hk : k < l.length) (x : S8) (hx : x = sumK l (k + 1)) :
    let W := ((((((((w.setCell ⟨g, (k + 1) * 8, none⟩ (.int .i64 x.t.n)).setCell ⟨g, (k + 1) * 8 + 1, none⟩ (.int .i64 x.t.s0)).setCell ⟨g, (k + 1) * 8 + 2, none⟩ (.int .i64 x.t.s1)).setCell ⟨g, (k + 1) * 8 + 3, none⟩ (.int .i64 x.t.s2)).setCell ⟨g, (k + 1) * 8 + 4, none⟩ (.int .i64 x.t.s3)).setCell ⟨g, (k + 1) * 8 + 5, none⟩ (.int .i64 x.t.h)).setCell ⟨g, (k + 1) * 8 + 6, none⟩ (.int .i64 x.b)).setCell ⟨g, (k + 1) * 8 + 7, none⟩ (.int .i64 x.g))
    Arr8 W g (l.length + 1) (fun i => if i ≤ k + 1 then sumK l i else zero8) ∧ Blk W p #[.slice (some ⟨g, 0, none⟩) (l.length + 1) (l.length + 1), gv] 53 ∧ W.ownsRow B 31 6 gv (gluK l k).length ((gluK l k).map encT).flatten ∧ Below B w W ∧ Chg 57 w W := by
  intro W
  obtain ⟨cs, hb, _⟩ := h.arr
  have hc : Chg 57 w W := Chg.set8 hb _ _ _ _ _ _ _ _ _
  refine ⟨(h.arr.set (k := k + 1) (by omega) x).congr fun i hi => ?_, hc.block _ _ _ h.head (by decide), own_chg h.own hc (by decide), ?_, hc⟩
  · by_cases e : i = k + 1
    · subst e
      rw [if_pos rfl, if_pos (Nat.le_refl _), hx]
    · rw [if_neg e]
      by_cases e2 : i ≤ k
      · rw [if_pos e2, if_pos (by omega)]
      · rw [if_neg e2, if_neg (by omega)]
  · have b0 := Below.refl B w
    have hg := h.low.1
    exact (((((((b0.setCell (p := ⟨g, (k + 1) * 8, none⟩) hg _).setCell (p := ⟨g, (k + 1) * 8 + 1, none⟩) hg _).setCell (p := ⟨g, (k + 1) * 8 + 2, none⟩) hg _).setCell (p := ⟨g, (k + 1) * 8 + 3, none⟩) hg _).setCell (p := ⟨g, (k + 1) * 8 + 4, none⟩) hg _).setCell (p := ⟨g, (k + 1) * 8 + 5, none⟩) hg _).setCell (p := ⟨g, (k + 1) * 8 + 6, none⟩) hg _).setCell (p := ⟨g, (k + 1) * 8 + 7, none⟩) hg _
/-- What the next round reads. -/
theorem NewP.ce {B k p g : Nat} {l : List I7} {gv : Value} {w : World} (h : NewP B l k gv p g w) (hk : k < l.length) (s : S8) (hs : s = sumK l k) :
    w.cell? ⟨p, 0, none⟩ = some (.slice (some ⟨g, 0, none⟩) (l.length + 1) (l.length + 1)) ∧ w.cell? ⟨g, k * 8, none⟩ = some (.int .i64 s.t.n) ∧ w.cell? ⟨g, k * 8 + 1, none⟩ = some (.int .i64 s.t.s0) ∧ w.cell? ⟨g, k * 8 + 2, none⟩ = some (.int .i64 s.t.s1) ∧ w.cell? ⟨g, k * 8 + 3, none⟩ = some (.int .i64 s.t.s2) ∧ w.cell? ⟨g, k * 8 + 4, none⟩ = some (.int .i64 s.t.s3) ∧ w.cell? ⟨g, k * 8 + 5, none⟩ = some (.int .i64 s.t.h) ∧ w.cell? ⟨g, k * 8 + 6, none⟩ = some (.int .i64 s.b) ∧ w.cell? ⟨g, k * 8 + 7, none⟩ = some (.int .i64 s.g) := by
  obtain ⟨b, off, e, _, q⟩ := (h.arr.els).sum8 (k := k) (by omega)
  cases e
  rw [if_pos (Nat.le_refl k), ← hs] at q
  simp only [Nat.zero_add] at q
  exact ⟨h.head.cell 0, q⟩
theorem NewP.room {B k p g : Nat} {l : List I7} {gv : Value} {w : World} (h : NewP B l k gv p g w) (hk : k < l.length) :
    (w.cell? ⟨g, (k + 1) * 8, none⟩ = some (.int .i64 0) ∧ w.cell? ⟨g, (k + 1) * 8 + 1, none⟩ = some (.int .i64 0) ∧ w.cell? ⟨g, (k + 1) * 8 + 2, none⟩ = some (.int .i64 0) ∧ w.cell? ⟨g, (k + 1) * 8 + 3, none⟩ = some (.int .i64 0) ∧ w.cell? ⟨g, (k + 1) * 8 + 4, none⟩ = some (.int .i64 0) ∧ w.cell? ⟨g, (k + 1) * 8 + 5, none⟩ = some (.int .i64 0) ∧ w.cell? ⟨g, (k + 1) * 8 + 6, none⟩ = some (.int .i64 0) ∧ w.cell? ⟨g, (k + 1) * 8 + 7, none⟩ = some (.int .i64 0)) ∧
    w.frozen? ⟨g, (k + 1) * 8, none⟩ = false ∧ w.frozen? ⟨g, (k + 1) * 8 + 1, none⟩ = false ∧ w.frozen? ⟨g, (k + 1) * 8 + 2, none⟩ = false ∧ w.frozen? ⟨g, (k + 1) * 8 + 3, none⟩ = false ∧ w.frozen? ⟨g, (k + 1) * 8 + 4, none⟩ = false ∧ w.frozen? ⟨g, (k + 1) * 8 + 5, none⟩ = false ∧ w.frozen? ⟨g, (k + 1) * 8 + 6, none⟩ = false ∧ w.frozen? ⟨g, (k + 1) * 8 + 7, none⟩ = false := by
  obtain ⟨b, off, e, _, q⟩ := (h.arr.els).sum8 (k := k + 1) (by omega)
  cases e
  rw [if_neg (by omega)] at q
  simp only [Nat.zero_add] at q
  exact ⟨q, h.arr.free _, h.arr.free _, h.arr.free _, h.arr.free _, h.arr.free _, h.arr.free _, h.arr.free _, h.arr.free _⟩
/-- Zeros that make makes. -/
def eightZ : Array Value := #[.int .i64 0, .int .i64 0, .int .i64 0, .int .i64 0, .int .i64 0, .int .i64 0, .int .i64 0, .int .i64 0]
def sevenZ9 : Array Value := #[.int .i64 0, .int .i64 0, .int .i64 0, .int .i64 0, .int .i64 0, .int .i64 0, .int .i64 0]
theorem made_at9 {zs : Array Value} {sz n k j : Nat} (hs : zs.size = sz) (hk : k < n) (hj : j < sz) : (madeCells zs (n * sz))[k * sz + j]? = zs[j]? := by
  have h1 : k * sz + j < n * sz := by
    have := Nat.mul_le_mul_right sz (show k + 1 ≤ n by omega)
    rw [Nat.add_mul] at this
    omega
  have h2 : (k * sz + j) % sz = j := by rw [Nat.mul_comm, Nat.mul_add_mod, Nat.mod_eq_of_lt hj]
  subst hs
  simp [madeCells, h1, h2, hj]
theorem els_made9 {α : Type} {sz n g : Nat} {enc : α → List Value} {z : α} {zs : Array Value} {w : World} {T : TypeId} (hs : zs.size = sz) (hz : ∀ j : Nat, zs[j]? = (enc z)[j]?) (hb : Blk w g (madeCells zs (n * sz)) T) {F : Nat → α} (hF : ∀ k, k < n → F k = z) :
    Els sz enc w (some ⟨g, 0, none⟩) n F := fun k j hk hj => by
  refine ⟨g, 0, rfl, hb.lt, ?_⟩
  rw [hb.cell, Nat.zero_add, made_at9 hs hk hj, hF k hk, hz]
theorem make_of9 {t e : TypeId} {z : Array Value} {sz by_ : Nat} (ht : Try.prog.underlying t = some (.slice e)) (hi : (Try.prog.info? e).map (fun i => (i.zero, i.size, i.bytes)) = some (some (.agg z), sz, by_)) (hb : by_ ≤ 64) (n : Nat) (hn : n ≤ 1000000) (x : World) :
    (Instr.makeSlice t (.int .i64 (n : Int)) (.int .i64 (n : Int))).run Try.prog x = .ok (.slice (some ⟨x.heap.size, 0, none⟩) n n) (x.alloc (.cells (madeCells z (n * sz)) e)) := by
  obtain ⟨i, hi, hz, z1, z2⟩ := info_parts hi
  have h0 : i.bytes * n ≤ 64000000 := Nat.le_trans (Nat.mul_le_mul (show i.bytes ≤ 64 by omega) hn) (by decide)
  have h1 : (i.bytes : Int) * (n : Int) ≤ 64000000 := by rw [← Int.natCast_mul]; exact Int.ofNat_le.2 h0
  have := run_make (P := Try.prog) x t e i _ ht hi hz .i64 .i64 (n : Int) (n : Int) (by omega) (by omega) (by omega) (by omega)
  rw [z1] at this
  have e : (Value.agg z).cells = z := rfl
  simpa [e] using this
theorem info_sum : (Try.prog.info? 57).map (fun i => (i.zero, i.size, i.bytes)) = some (some (.agg eightZ), 8, 64) := by kernel_rfl
theorem info_itm : (Try.prog.info? 50).map (fun i => (i.zero, i.size, i.bytes)) = some (some (.agg sevenZ9), 7, 56) := by kernel_rfl
theorem info_tot : (Try.prog.info? 31).map (fun i => (i.zero, i.size, i.bytes)) = some (some (.agg #[.int .i64 0, .int .i64 0, .int .i64 0, .int .i64 0, .int .i64 0, .int .i64 0]), 6, 48) := by kernel_rfl
theorem make_sums (n : Nat) (hn : n ≤ 1000000) (x : World) : Sem.run Try.prog (Instr.makeSlice 51 (.int .i64 (n : Int)) (.int .i64 (n : Int))) x = .ok (.slice (some ⟨x.heap.size, 0, none⟩) n n) (x.alloc (.cells (madeCells eightZ (n * 8)) 57)) :=
  make_of9 Try.underlying51 info_sum (by decide) n hn x
theorem make_items (n : Nat) (hn : n ≤ 1000000) (x : World) : Sem.run Try.prog (Instr.makeSlice 22 (.int .i64 (n : Int)) (.int .i64 (n : Int))) x = .ok (.slice (some ⟨x.heap.size, 0, none⟩) n n) (x.alloc (.cells (madeCells sevenZ9 (n * 7)) 50)) :=
  make_of9 Try.underlying22 info_itm (by decide) n hn x
theorem arr_made {w : World} {g n : Nat} (h : Blk w g (madeCells eightZ (n * 8)) 57) : Arr8 w g n fun _ => zero8 :=
  ⟨_, h, fun k j hk hj => by rw [made_at9 (zs := eightZ) (sz := 8) rfl hk hj]; rcases (by omega : j = 0 ∨ j = 1 ∨ j = 2 ∨ j = 3 ∨ j = 4 ∨ j = 5 ∨ j = 6 ∨ j = 7) with rfl | rfl | rfl | rfl | rfl | rfl | rfl | rfl <;> rfl⟩
theorem run_buildT (x0 x1 x2 x3 x4 x5 : Int) (x : World) : (Instr.buildSlice 35 1 #[(0, .agg #[.int .i64 x0, .int .i64 x1, .int .i64 x2, .int .i64 x3, .int .i64 x4, .int .i64 x5])]).run Try.prog x = .ok (.slice (some ⟨x.heap.size, 0, none⟩) 1 1) (x.alloc (.cells #[.int .i64 x0, .int .i64 x1, .int .i64 x2, .int .i64 x3, .int .i64 x4, .int .i64 x5] 31)) := by
  simp [go_sem]
theorem build_T (o : Oper) (a : Act) (y : T6) (s : Operand) (ho : o.op = .buildSlice 35 1 #[(0, s)]) (hs : a.eval s = tot y) (x : World) :
    (execOp a.eval o).run Try.prog x = .ok (.value (.slice (some ⟨x.heap.size, 0, none⟩) 1 1)) (x.alloc (.cells (encT y).toArray 31)) := by
  unfold execOp
  unfold tot at hs
  simp only [ho, List.map_toArray, List.map_cons, List.map_nil, hs, Sem.run_bind, run_buildT, Result.andThen_ok, Sem.run_pure]
  rfl
end Go.Proofs.Ytomjglfamnacoaa
