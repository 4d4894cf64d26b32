/- count and Count of package item, over a slice of items. -/
import Derived.Test.YtinkjpcilpdaaaaIAw
import Derived.Test.YtinkjpcilpdaaaaFLeaf
import Derived.ProofKit
import Derived.OpenShut
namespace Go.Proofs.Ytinkjpcilpdaaaa
open Go.RowKit
set_option maxRecDepth 20000
set_option linter.unusedVariables false
set_option linter.unusedSimpArgs false

def zeroI : I7 := ⟨0, 0, 0, 0, 0, 0, 0⟩
/-- How many of the first j items are of kind k. -/
def cntUp (l : List I7) (k : Int) : Nat → Int
  | 0 => 0
  | j + 1 => cntUp l k j + (if (l.getD j zeroI).k = k then 1 else 0)
theorem cntUp_in (l : List I7) (k : Int) (j : Nat) : 0 ≤ cntUp l k j ∧ cntUp l k j ≤ j := by
  induction j with
  | zero => simp [cntUp]
  | succ j ih => unfold cntUp; split <;> omega
/-- The items of a list lie where a slice says. -/
def IRw (w : World) (a : Option Addr) (l : List I7) : Prop := ∀ k, k < l.length → ∃ b off, a = some ⟨b, off, none⟩ ∧ b < w.heap.size ∧ w.cell? ⟨b, off + k * 7, none⟩ = some (.int .i64 (l.getD k zeroI).k) ∧ w.cell? ⟨b, off + k * 7 + 1, none⟩ = some (.int .i64 (l.getD k zeroI).h) ∧ w.cell? ⟨b, off + k * 7 + 2, none⟩ = some (.int .i64 (l.getD k zeroI).f) ∧ w.cell? ⟨b, off + k * 7 + 3, none⟩ = some (.int .i64 (l.getD k zeroI).s) ∧ w.cell? ⟨b, off + k * 7 + 4, none⟩ = some (.int .i64 (l.getD k zeroI).o) ∧ w.cell? ⟨b, off + k * 7 + 5, none⟩ = some (.int .i64 (l.getD k zeroI).r) ∧ w.cell? ⟨b, off + k * 7 + 6, none⟩ = some (.int .i64 (l.getD k zeroI).n)
theorem IRw.carry {w w' : World} {a : Option Addr} {l : List I7} (h : IRw w a l) (hb : Below w.heap.size w w') : IRw w' a l := fun k hk => by
  obtain ⟨b, off, rfl, hB, h0, h1, h2, h3, h4, h5, h6⟩ := h k hk
  have e : ∀ j, w'.cell? ⟨b, off + k * 7 + j, none⟩ = w.cell? ⟨b, off + k * 7 + j, none⟩ := fun j => hb.cell (p := ⟨b, off + k * 7 + j, none⟩) hB
  exact ⟨b, off, rfl, Nat.lt_of_lt_of_le hB hb.size, (hb.cell (p := ⟨b, off + k * 7, none⟩) hB).trans h0, (e 1).trans h1, (e 2).trans h2, (e 3).trans h3, (e 4).trans h4, (e 5).trans h5, (e 6).trans h6⟩
theorem count_any (a a2 : Option Addr) (cap : Nat) (l : List I7) (k : Int) (w : World) (hn : l.length ≤ 1000000) (hr : IRw w a l) (hk : IRow w.heap.size w a2 [k]) :
    Calls Try.prog 32 #[.slice a l.length cap, .slice a2 1 1] w fun e w' => e = .returned (.int .i64 (cntUp l k l.length)) ∧ Below w.heap.size w w' := by
  have HR := Lib.hid hr
  have HK := Lib.hid hk
  clear hr hk
  go_enter Try.func32, Try.ntmps32
  go_wp2_with fail
  go_loopw [5, 10] (fun u i wr => ∃ j : Nat, j ≤ l.length ∧ i = .int .i64 j ∧ u = .int .i64 (cntUp l k j) ∧ Below w.heap.size w wr) (fun _ i _ => l.length - (intOf i).toNat)
  case atStart => exact ⟨0, Nat.zero_le _, rfl, rfl, Below.refl _ _⟩
  case round =>
    obtain ⟨j, hj, rfl, rfl, bw⟩ := hrel
    by_cases hlt : j < l.length
    · obtain ⟨b, off, rfl, hB, h0, h1, h2, h3, h4, h5, h6⟩ := HR.out.carry bw j hlt
      have HS : Hid (cntUp l k (j + 1) = cntUp l k j + (if (l.getD j zeroI).k = k then 1 else 0)) := Lib.hid rfl
      have hc := cntUp_in l k j
      generalize cntUp l k j = u at *
      generalize l.getD j zeroI = y at *
      obtain ⟨y0, y1, y2, y3, y4, y5, y6⟩ := y
      dsimp only at *
      have c := fun w' (h : Below wr.heap.size wr w') => is_any ⟨y0, y1, y2, y3, y4, y5, y6⟩ a2 1 [k] w' (by simp) ((HK.out.carry (bw.trans (h.mono bw.size)) (Nat.le_refl _)).mono (Nat.le_trans bw.size h.size))
      unfold itm at c
      dsimp only at c
      go_wp2_with fail
      refine (c _ (tbel1 wr _)).mono ?_
      rintro e w1 ⟨rfl, b1⟩
      replace b1 := tstep bw (tstep (tbel1 wr _) b1 (tbel1 wr _).size) bw.size
      clear c h0 h1 h2 h3 h4 h5 h6
      by_cases hy : y0 = k
      · have e : hasK [k] y0 = true := by simp [hasK, hy]
        rw [if_pos hy] at HS
        simp only [e]
        clear e
        go_wp2
        go_roundw
        case rel => exact ⟨j + 1, by omega, by go_num, by rw [HS.out], b1⟩
        case measure => simp [intOf]; omega
      · have e : hasK [k] y0 = false := by simp [hasK, hy]
        rw [if_neg hy, Int.add_zero] at HS
        simp only [e]
        clear e
        go_wp2
        go_roundw
        case rel => exact ⟨j + 1, by omega, by go_num, by rw [HS.out], b1⟩
        case measure => simp [intOf]; omega
    · have ej : j = l.length := by omega
      subst ej
      go_wp2
      go_ret
      exact ⟨rfl, bw⟩
theorem Count_any (a : Option Addr) (cap : Nat) (l : List I7) (k : Int) (w : World) (hn : l.length ≤ 1000000) (hk : inR k) (hr : IRw w a l) :
    Calls Try.prog 16 #[.slice a l.length cap, .int .i64 k] w fun e w' => e = .returned (.int .i64 (cntUp l k l.length)) ∧ Below w.heap.size w w' := by
  have c := fun (o : Obj) (B : Blk (w.alloc o) w.heap.size #[.int .i64 k] 3) => count_any a (some ⟨w.heap.size, 0, none⟩) cap l k (w.alloc o) hn (hr.carry (tbel1 w o)) (row_1 B B.lt hk)
  clear hr
  go_enter Try.func16, Try.ntmps16
  go_wp2_with fail
  refine (c _ (blk_new w _ _)).mono ?_
  rintro e w1 ⟨rfl, b1⟩
  replace b1 := tstep (tbel1 w _) b1 (tbel1 w _).size
  clear c
  go_wp2
  go_ret
  exact ⟨rfl, b1⟩
theorem counts_long (a : Option Addr) (len cap : Nat) (k : Int) (w : World) (h : 200 < len) (h' : len ≤ 9223372036854775807) :
    Calls Try.prog 5 #[.slice a len cap, .int .i64 k] w fun e w' => e = .returned (.bool true) ∧ Below w.heap.size w w' := by
  go_enter Try.func5, Try.ntmps5
  go_wp2_with fail
  refine (awake10 _).mono ?_
  rintro e w4 ⟨rfl, b4⟩
  go_wp2
  go_ret
  exact ⟨rfl, b4⟩
theorem counts_short (a : Option Addr) (cap : Nat) (l : List I7) (k : Int) (w : World) (hn : l.length ≤ 200) (hk : inR k) (hr : IRw w a l) :
    Calls Try.prog 5 #[.slice a l.length cap, .int .i64 k] w fun e w' => e = .returned (.bool true) ∧ Below w.heap.size w w' := by
  have C := Lib.hid fun x (hx : Below w.heap.size w x) => Count_any a cap l k x (by omega) hk (hr.carry hx)
  have C0 : Hid (∀ x, Calls Try.prog 16 #[.slice none 0 0, .int .i64 k] x fun e w' => e = .returned (.int .i64 0) ∧ Below x.heap.size x w') := Lib.hid fun x => Count_any none 0 [] k x (by simp) hk (fun j hj => absurd hj (by simp))
  have HR := Lib.hid hr
  clear hr
  go_enter Try.func5, Try.ntmps5
  go_wp2_with fail
  go_loopw [5, 6] (fun u i wr => ∃ j : Nat, j ≤ l.length ∧ i = .int .i64 j ∧ u = .int .i64 (cntUp l k j) ∧ wr = w) (fun _ i _ => l.length - (intOf i).toNat)
  case atStart => exact ⟨0, Nat.zero_le _, rfl, rfl, rfl⟩
  case round =>
    obtain ⟨j, hj, rfl, rfl, rfl⟩ := hrel
    by_cases hlt : j < l.length
    · obtain ⟨b, off, rfl, hB, h0, h1, h2, h3, h4, h5, h6⟩ := HR.out j hlt
      have HS : Hid (cntUp l k (j + 1) = cntUp l k j + (if (l.getD j zeroI).k = k then 1 else 0)) := Lib.hid rfl
      have hc := cntUp_in l k j
      clear C C0
      generalize cntUp l k j = u at *
      generalize l.getD j zeroI = y at *
      obtain ⟨y0, y1, y2, y3, y4, y5, y6⟩ := y
      dsimp only at *
      by_cases hy : y0 = k
      · rw [if_pos hy] at HS
        subst hy
        go_wp2
        go_roundw
        case rel => exact ⟨j + 1, by omega, by go_num, by rw [HS.out], trivial⟩
        case measure => simp [intOf]; omega
      · rw [if_neg hy, Int.add_zero] at HS
        have hy' : (y0 == k) = false := by simpa using hy
        go_wp2
        go_roundw
        case rel => exact ⟨j + 1, by omega, by go_num, by rw [HS.out], trivial⟩
        case measure => simp [intOf]; omega
    · have ej : j = l.length := by omega
      subst ej
      have hc := cntUp_in l k l.length
      generalize cntUp l k l.length = u at *
      go_wp2_with fail
      refine (C.out _ (Below.refl _ _)).mono ?_
      rintro e w1 ⟨rfl, b1⟩
      clear C HR
      go_wp2_with fail
      refine (C0.out _).mono ?_
      rintro e w2 ⟨rfl, b2⟩
      replace b2 := tstep b1 b2 b1.size
      clear C0 b1
      go_wp2_with fail
      refine (awake10 _).mono ?_
      rintro e w3 ⟨rfl, b3⟩
      replace b3 := tstep b2 b3 b2.size
      go_wp2
      go_ret
      exact ⟨rfl, b3⟩
theorem wfR10 {a : Int} (h : (Lit.int .i64 a).wf = true) : inR a := by
  simp [Lit.wf, IntKind.min, IntKind.max, IntKind.signed, IntKind.bits] at h
  exact h
theorem IsFlat.irw {w : World} {a : Option Addr} {len cap : Nat} (h : IsFlat Try.prog [3, 22, 3, 22, 3, 22, 3] w a len cap) : ∃ l : List I7, l.length = len ∧ len ≤ cap ∧ cap ≤ maxLen ∧ IRw w a l := by
  rcases h with ⟨rfl, rfl, hc⟩ | ⟨ad, rfl, hl, hm, hall⟩
  · exact ⟨[], rfl, by omega, by rw [hc]; exact Nat.zero_le _, fun k hk => absurd hk (by simp)⟩
  · by_cases hz : len = 0
    · subst hz
      exact ⟨[], rfl, hl, hm, fun k hk => absurd hk (by simp)⟩
    obtain ⟨b, off, spot⟩ := ad
    have hs : spot = none := by
      obtain ⟨cs, hlen, hc, _⟩ := hall 0 (by omega)
      match cs, hlen with
      | [c0, c1, c2, c3, c4, c5, c6], _ =>
        have g0 := hc 0 _ rfl
        simpa [Addr.add] using World.cell?_spot g0
    subst hs
    have each : ∀ i, ∃ t : I7, i < len → ∃ b' off', some (⟨b, off, none⟩ : Addr) = some ⟨b', off', none⟩ ∧ b' < w.heap.size ∧ w.cell? ⟨b', off' + i * 7, none⟩ = some (.int .i64 t.k) ∧ w.cell? ⟨b', off' + i * 7 + 1, none⟩ = some (.int .i64 t.h) ∧ w.cell? ⟨b', off' + i * 7 + 2, none⟩ = some (.int .i64 t.f) ∧ w.cell? ⟨b', off' + i * 7 + 3, none⟩ = some (.int .i64 t.s) ∧ w.cell? ⟨b', off' + i * 7 + 4, none⟩ = some (.int .i64 t.o) ∧ w.cell? ⟨b', off' + i * 7 + 5, none⟩ = some (.int .i64 t.r) ∧ w.cell? ⟨b', off' + i * 7 + 6, none⟩ = some (.int .i64 t.n) := by
      intro i
      by_cases hi : i < len
      · obtain ⟨cs, hlen, hc, hk⟩ := hall i hi
        match cs, hlen with
        | [c0, c1, c2, c3, c4, c5, c6], _ =>
          obtain ⟨z0, rfl, w0⟩ := (hk 0 3 c0 rfl rfl).1 .i64 Try.underlying3
          obtain ⟨z1, rfl, w1⟩ := (hk 1 22 c1 rfl rfl).1 .i64 Try.underlying22
          obtain ⟨z2, rfl, w2⟩ := (hk 2 3 c2 rfl rfl).1 .i64 Try.underlying3
          obtain ⟨z3, rfl, w3⟩ := (hk 3 22 c3 rfl rfl).1 .i64 Try.underlying22
          obtain ⟨z4, rfl, w4⟩ := (hk 4 3 c4 rfl rfl).1 .i64 Try.underlying3
          obtain ⟨z5, rfl, w5⟩ := (hk 5 22 c5 rfl rfl).1 .i64 Try.underlying22
          obtain ⟨z6, rfl, w6⟩ := (hk 6 3 c6 rfl rfl).1 .i64 Try.underlying3
          have g0 := hc 0 _ rfl
          have g1 := hc 1 _ rfl
          have g2 := hc 2 _ rfl
          have g3 := hc 3 _ rfl
          have g4 := hc 4 _ rfl
          have g5 := hc 5 _ rfl
          have g6 := hc 6 _ rfl
          simp only [Go.WideShapes.add_plain, List.length_cons, List.length_nil, Nat.add_zero, ← Nat.add_assoc] at g0 g1 g2 g3 g4 g5 g6
          exact ⟨⟨z0, z1, z2, z3, z4, z5, z6⟩, fun _ => ⟨b, off, rfl, World.block_lt_of_cell? _ _ g0, g0, g1, g2, g3, g4, g5, g6⟩⟩
      · exact ⟨zeroI, fun h => absurd h hi⟩
    obtain ⟨f, hf⟩ := Classical.axiomOfChoice each
    refine ⟨(List.range len).map f, by simp, hl, hm, fun k hk => ?_⟩
    have hk' : k < len := by simpa using hk
    have eg : ((List.range len).map f).getD k zeroI = f k := by simp [hk']
    rw [eg]
    exact hf k hk'
theorem itemCounts_walk (a : Option Addr) (len cap : Nat) (k : Int) (hk : (Lit.int .i64 k).wf = true) (w : World) (h : IsFlat Try.prog [3, 22, 3, 22, 3, 22, 3] w a len cap) :
    Calls Try.prog 5 #[.slice a len cap, .int .i64 k] w fun e w' => e = .returned (.bool true) ∧ Below w.heap.size w w' := by
  obtain ⟨l, rfl, h1, h2, hr⟩ := h.irw
  by_cases hn : l.length ≤ 200
  · exact counts_short a cap l k w hn (wfR10 hk) hr
  · have hm : maxLen ≤ 9223372036854775807 := by decide
    exact counts_long a _ cap k w (by omega) (by omega)
end Go.Proofs.Ytinkjpcilpdaaaa
