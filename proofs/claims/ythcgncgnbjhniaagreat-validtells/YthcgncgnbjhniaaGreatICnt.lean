/- The other calls of package item, and the document's. 'awake' and 'made' of the laws of stage 10. count and Count of package item, over a slice of items. -/
import Derived.Test.YthcgncgnbjhniaaGreatIMath
import Derived.Test.YthcgncgnbjhniaaGreatTEq
import Derived.Test.YthcgncgnbjhniaaGreatFLeaf
import Derived.ProofKit
import Derived.OpenShut
namespace Go.Proofs.YthcgncgnbjhniaaGreat
open Go.RowKit
set_option maxRecDepth 20000
set_option linter.unusedVariables false
set_option linter.unusedSimpArgs false

def looseI (x : I7) : Bool := hasK [2, 3] x.k
def forcesI (x : I7) : Bool := hasK [3] x.k && decide (x.n ≤ -10000)
def forbidsI (x : I7) : Bool := hasK [3] x.k && decide (10000 ≤ x.n)
def totalI (x : I7) : T6 := if x.k = 1 then boxT x.h else if x.k = 2 then glueT x.h x.s x.o x.r else zeroT
theorem below_set6 {B b : Nat} {w x : World} (h : Below B w x) (hb : B ≤ b) (v0 v1 v2 v3 v4 v5 : Value) : Below B w ((((((x.setCell ⟨b, 0, none⟩ v0).setCell ⟨b, 1, none⟩ v1).setCell ⟨b, 2, none⟩ v2).setCell ⟨b, 3, none⟩ v3).setCell ⟨b, 4, none⟩ v4).setCell ⟨b, 5, none⟩ v5) :=
  (((((h.setCell (p := ⟨b, 0, none⟩) hb v0).setCell (p := ⟨b, 1, none⟩) hb v1).setCell (p := ⟨b, 2, none⟩) hb v2).setCell (p := ⟨b, 3, none⟩) hb v3).setCell (p := ⟨b, 4, none⟩) hb v4).setCell (p := ⟨b, 5, none⟩) hb v5
end Go.Proofs.YthcgncgnbjhniaaGreat
namespace Go.Proofs.YthcgncgnbjhniaaGreat
open Go.RowKit
set_option maxRecDepth 20000
set_option linter.unusedVariables false
set_option linter.unusedSimpArgs false

end Go.Proofs.YthcgncgnbjhniaaGreat
namespace Go.Proofs.YthcgncgnbjhniaaGreat
open Go.RowKit
set_option maxRecDepth 20000
set_option linter.unusedVariables false
set_option linter.unusedSimpArgs false

def zeroI10 : I7 := ⟨0, 0, 0, 0, 0, 0, 0⟩
/-- How many of the first j items are of kind k. -/
def cntUp (l : List I7) (k : Int) : Nat → Int
  | 0 => 0
  | j + 1 => cntUp l k j + (if (l.getD j zeroI10).k = k then 1 else 0)
theorem cntUp_in (l : List I7) (k : Int) (j : Nat) : 0 ≤ cntUp l k j ∧ cntUp l k j ≤ j := by
  induction j with
  | zero => simp [cntUp]
  | succ j ih => unfold cntUp; split <;> omega
/-- The items of a list lie where a slice says. -/
def IRw (w : World) (a : Option Addr) (l : List I7) : Prop := ∀ k, k < l.length → ∃ b off, a = some ⟨b, off, none⟩ ∧ b < w.heap.size ∧ w.cell? ⟨b, off + k * 7, none⟩ = some (.int .i64 (l.getD k zeroI10).k) ∧ w.cell? ⟨b, off + k * 7 + 1, none⟩ = some (.int .i64 (l.getD k zeroI10).h) ∧ w.cell? ⟨b, off + k * 7 + 2, none⟩ = some (.int .i64 (l.getD k zeroI10).f) ∧ w.cell? ⟨b, off + k * 7 + 3, none⟩ = some (.int .i64 (l.getD k zeroI10).s) ∧ w.cell? ⟨b, off + k * 7 + 4, none⟩ = some (.int .i64 (l.getD k zeroI10).o) ∧ w.cell? ⟨b, off + k * 7 + 5, none⟩ = some (.int .i64 (l.getD k zeroI10).r) ∧ w.cell? ⟨b, off + k * 7 + 6, none⟩ = some (.int .i64 (l.getD k zeroI10).n)
theorem IRw.carry {w w' : World} {a : Option Addr} {l : List I7} (h : IRw w a l) (hb : Below w.heap.size w w') : IRw w' a l := fun k hk => by
  obtain ⟨b, off, rfl, hB, h0, h1, h2, h3, h4, h5, h6⟩ := h k hk
  have e : ∀ j, w'.cell? ⟨b, off + k * 7 + j, none⟩ = w.cell? ⟨b, off + k * 7 + j, none⟩ := fun j => hb.cell (p := ⟨b, off + k * 7 + j, none⟩) hB
  exact ⟨b, off, rfl, Nat.lt_of_lt_of_le hB hb.size, (hb.cell (p := ⟨b, off + k * 7, none⟩) hB).trans h0, (e 1).trans h1, (e 2).trans h2, (e 3).trans h3, (e 4).trans h4, (e 5).trans h5, (e 6).trans h6⟩
theorem count_any (a a2 : Option Addr) (cap : Nat) (l : List I7) (k : Int) (w : World) (hn : l.length ≤ 1000000) (hr : IRw w a l) (hk : IRow w.heap.size w a2 [k]) :
    Calls Tryz.prog 81 #[.slice a l.length cap, .slice a2 1 1] w fun e w' => e = .returned (.int .i64 (cntUp l k l.length)) ∧ Below w.heap.size w w' := by
  have HR := Lib.hid hr
  have HK := Lib.hid hk
  clear hr hk
  go_enter Tryz.func81, Tryz.ntmps81
  go_wp2_with fail
  go_loopw [5, 10] (fun u i wr => ∃ j : Nat, j ≤ l.length ∧ i = .int .i64 j ∧ u = .int .i64 (cntUp l k j) ∧ Below w.heap.size w wr) (fun _ i _ => l.length - (intOf i).toNat)
  case atStart => exact ⟨0, Nat.zero_le _, rfl, rfl, Below.refl _ _⟩
  case round =>
    obtain ⟨j, hj, rfl, rfl, bw⟩ := hrel
    by_cases hlt : j < l.length
    · obtain ⟨b, off, rfl, hB, h0, h1, h2, h3, h4, h5, h6⟩ := HR.out.carry bw j hlt
      have HS : Hid (cntUp l k (j + 1) = cntUp l k j + (if (l.getD j zeroI10).k = k then 1 else 0)) := Lib.hid rfl
      have hc := cntUp_in l k j
      generalize cntUp l k j = u at *
      generalize l.getD j zeroI10 = y at *
      obtain ⟨y0, y1, y2, y3, y4, y5, y6⟩ := y
      dsimp only at *
      have c := fun w' (h : Below wr.heap.size wr w') => is_any ⟨y0, y1, y2, y3, y4, y5, y6⟩ a2 1 [k] w' (by simp) ((HK.out.carry (bw.trans (h.mono bw.size)) (Nat.le_refl _)).mono (Nat.le_trans bw.size h.size))
      unfold itm at c
      dsimp only at c
      go_wp2_with fail
      refine (c _ (tbel1 wr _)).mono ?_
      rintro e w1 ⟨rfl, b1⟩
      replace b1 := tstep bw (tstep (tbel1 wr _) b1 (tbel1 wr _).size) bw.size
      clear c h0 h1 h2 h3 h4 h5 h6
      by_cases hy : y0 = k
      · have e : hasK [k] y0 = true := by simp [hasK, hy]
        rw [if_pos hy] at HS
        simp only [e]
        clear e
        go_wp2
        go_roundw
        case rel => exact ⟨j + 1, by omega, by go_num, by rw [HS.out], b1⟩
        case measure => simp [intOf]; omega
      · have e : hasK [k] y0 = false := by simp [hasK, hy]
        rw [if_neg hy, Int.add_zero] at HS
        simp only [e]
        clear e
        go_wp2
        go_roundw
        case rel => exact ⟨j + 1, by omega, by go_num, by rw [HS.out], b1⟩
        case measure => simp [intOf]; omega
    · have ej : j = l.length := by omega
      subst ej
      go_wp2
      go_ret
      exact ⟨rfl, bw⟩
theorem Count_any (a : Option Addr) (cap : Nat) (l : List I7) (k : Int) (w : World) (hn : l.length ≤ 1000000) (hk : inR k) (hr : IRw w a l) :
    Calls Tryz.prog 56 #[.slice a l.length cap, .int .i64 k] w fun e w' => e = .returned (.int .i64 (cntUp l k l.length)) ∧ Below w.heap.size w w' := by
  have c := fun (o : Obj) (B : Blk (w.alloc o) w.heap.size #[.int .i64 k] 3) => count_any a (some ⟨w.heap.size, 0, none⟩) cap l k (w.alloc o) hn (hr.carry (tbel1 w o)) (row_1 B B.lt hk)
  clear hr
  go_enter Tryz.func56, Tryz.ntmps56
  go_wp2_with fail
  refine (c _ (blk_new w _ _)).mono ?_
  rintro e w1 ⟨rfl, b1⟩
  replace b1 := tstep (tbel1 w _) b1 (tbel1 w _).size
  clear c
  go_wp2
  go_ret
  exact ⟨rfl, b1⟩
theorem wfR10 {a : Int} (h : (Lit.int .i64 a).wf = true) : inR a := by
  simp [Lit.wf, IntKind.min, IntKind.max, IntKind.signed, IntKind.bits] at h
  exact h
theorem IsFlat.irw {w : World} {a : Option Addr} {len cap : Nat} (h : IsFlat Tryz.prog [3, 22, 3, 22, 3, 22, 3] w a len cap) : ∃ l : List I7, l.length = len ∧ len ≤ cap ∧ cap ≤ maxLen ∧ IRw w a l := by
  rcases h with ⟨rfl, rfl, hc⟩ | ⟨ad, rfl, hl, hm, hall⟩
  · exact ⟨[], rfl, by omega, by rw [hc]; exact Nat.zero_le _, fun k hk => absurd hk (by simp)⟩
  · by_cases hz : len = 0
    · subst hz
      exact ⟨[], rfl, hl, hm, fun k hk => absurd hk (by simp)⟩
    obtain ⟨b, off, spot⟩ := ad
    have hs : spot = none := by
      obtain ⟨cs, hlen, hc, _⟩ := hall 0 (by omega)
      match cs, hlen with
      | [c0, c1, c2, c3, c4, c5, c6], _ =>
        have g0 := hc 0 _ rfl
        simpa [Addr.add] using World.cell?_spot g0
    subst hs
    have each : ∀ i, ∃ t : I7, i < len → ∃ b' off', some (⟨b, off, none⟩ : Addr) = some ⟨b', off', none⟩ ∧ b' < w.heap.size ∧ w.cell? ⟨b', off' + i * 7, none⟩ = some (.int .i64 t.k) ∧ w.cell? ⟨b', off' + i * 7 + 1, none⟩ = some (.int .i64 t.h) ∧ w.cell? ⟨b', off' + i * 7 + 2, none⟩ = some (.int .i64 t.f) ∧ w.cell? ⟨b', off' + i * 7 + 3, none⟩ = some (.int .i64 t.s) ∧ w.cell? ⟨b', off' + i * 7 + 4, none⟩ = some (.int .i64 t.o) ∧ w.cell? ⟨b', off' + i * 7 + 5, none⟩ = some (.int .i64 t.r) ∧ w.cell? ⟨b', off' + i * 7 + 6, none⟩ = some (.int .i64 t.n) := by
      intro i
      by_cases hi : i < len
      · obtain ⟨cs, hlen, hc, hk⟩ := hall i hi
        match cs, hlen with
        | [c0, c1, c2, c3, c4, c5, c6], _ =>
          obtain ⟨z0, rfl, w0⟩ := (hk 0 3 c0 rfl rfl).1 .i64 Tryz.underlying3
          obtain ⟨z1, rfl, w1⟩ := (hk 1 22 c1 rfl rfl).1 .i64 Tryz.underlying22
          obtain ⟨z2, rfl, w2⟩ := (hk 2 3 c2 rfl rfl).1 .i64 Tryz.underlying3
          obtain ⟨z3, rfl, w3⟩ := (hk 3 22 c3 rfl rfl).1 .i64 Tryz.underlying22
          obtain ⟨z4, rfl, w4⟩ := (hk 4 3 c4 rfl rfl).1 .i64 Tryz.underlying3
          obtain ⟨z5, rfl, w5⟩ := (hk 5 22 c5 rfl rfl).1 .i64 Tryz.underlying22
          obtain ⟨z6, rfl, w6⟩ := (hk 6 3 c6 rfl rfl).1 .i64 Tryz.underlying3
          have g0 := hc 0 _ rfl
          have g1 := hc 1 _ rfl
          have g2 := hc 2 _ rfl
          have g3 := hc 3 _ rfl
          have g4 := hc 4 _ rfl
          have g5 := hc 5 _ rfl
          have g6 := hc 6 _ rfl
          simp only [Go.WideShapes.add_plain, List.length_cons, List.length_nil, Nat.add_zero, ← Nat.add_assoc] at g0 g1 g2 g3 g4 g5 g6
          exact ⟨⟨z0, z1, z2, z3, z4, z5, z6⟩, fun _ => ⟨b, off, rfl, World.block_lt_of_cell? _ _ g0, g0, g1, g2, g3, g4, g5, g6⟩⟩
      · exact ⟨zeroI10, fun h => absurd h hi⟩
    obtain ⟨f, hf⟩ := Classical.axiomOfChoice each
    refine ⟨(List.range len).map f, by simp, hl, hm, fun k hk => ?_⟩
    have hk' : k < len := by simpa using hk
    have eg : ((List.range len).map f).getD k zeroI10 = f k := by simp [hk']
    rw [eg]
    exact hf k hk'
end Go.Proofs.YthcgncgnbjhniaaGreat
