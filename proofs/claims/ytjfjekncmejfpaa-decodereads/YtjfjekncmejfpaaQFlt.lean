/- An item written: package encode. A float and a geometry written: package encode. -/
import Derived.Test.YtjfjekncmejfpaaQBar
import Derived.Test.YtjfjekncmejfpaaYWr
namespace Go.Proofs.Ytjfjekncmejfpaa
open Go.RowKit
set_option maxRecDepth 20000
set_option linter.unusedVariables false
set_option linter.unusedSimpArgs false

theorem chZ_ten {n : Int} (h : inR n) : (chZ n).length ≤ 10 := by
  have hf := fold_range n h.1 h.2
  exact chain_ten _ hf.1 hf.2
/-- What writing leaves: the blocks below B, and all but g that hold no bytes. -/
structure Wt (B g : Nat) (w w' : World) : Prop where
  bel : Below B w w'
  kp : Kp g w w'
theorem Wt.refl (B g : Nat) (w : World) : Wt B g w w := ⟨Below.refl _ _, Kp.refl _ _⟩
theorem Wt.trans {B g : Nat} {w x y : World} (h : Wt B g w x) (k : Wt B g x y) : Wt B g w y := ⟨Below.trans h.bel k.bel, h.kp.trans k.kp⟩
theorem Wt.old {B g : Nat} {w x y : World} (h : Wt B g w x) (k : Old x y) (hB : B ≤ w.heap.size) : Wt B g w y := h.trans ⟨Below.mono k (Nat.le_trans hB h.bel.size), Kp.of k⟩
theorem Wt.blk {B g b : Nat} {w x : World} {cs : Array Value} {T : TypeId} (h : Wt B g w x) (hb : Blk w b cs T) (hg : b ≠ g) (hT : T ≠ 5) : Blk x b cs T := h.kp _ _ _ hg hT hb
def partQ (p : Nat → Bool) (q : Nat → Int) : Nat → List Int
  | 0 => []
  | j + 1 => partQ p q j ++ bif p j then chZ (q j) else []
theorem partQ_len {p : Nat → Bool} {q : Nat → Int} (h : ∀ j, inR (q j)) : ∀ j, (partQ p q j).length ≤ 10 * j
  | 0 => by simp [partQ]
  | j + 1 => by
    have h1 := partQ_len (p := p) h j
    have h2 := chZ_ten (h j)
    unfold partQ
    rw [List.length_append]
    cases p j
    · simp only [cond_false, List.length_nil]; omega
    · simp only [cond_true]; omega
theorem valQ_in {x : I7} (h : inI x) : ∀ j, inR (valQ x j)
  | 0 => h.2.1
  | 1 => h.2.2.1
  | 2 => h.2.2.2.1
  | 3 => h.2.2.2.2.1
  | 4 => h.2.2.2.2.2.1
  | 5 => h.2.2.2.2.2.2
  | _ + 6 => by show inR 0; unfold inR; omega
theorem item_part (x : I7) (h1 : 1 ≤ x.k) (h2 : x.k ≤ 7) : itemE x = chZ x.k ++ partQ (ownQ x.k) (valQ x) 6 := by
  obtain ⟨k, h, f, s, o, r, n⟩ := x
  dsimp only at h1 h2
  have hk : k = 1 ∨ k = 2 ∨ k = 3 ∨ k = 4 ∨ k = 5 ∨ k = 6 ∨ k = 7 := by omega
  rcases hk with rfl | rfl | rfl | rfl | rfl | rfl | rfl <;> simp [itemE, partQ, ownQ, valQ]
set_option maxHeartbeats 1000000 in
theorem witem_any (B g : Nat) (l : List Int) (x : I7) (hx : inI x) (h1 : 1 ≤ x.k) (h2 : x.k ≤ 7) (hsz : l.length ≤ 800000) (w : World) (hW : Wr w B g l) :
    Calls Try.prog 30 #[.pointer (some ⟨g, 0, none⟩), itm x] w fun e w' => e = .returned (.tuple #[]) ∧ Wr w' B g (l ++ itemE x) ∧ Below B w w' ∧ Kp g w w' := by
  have hBg := hW.lt
  have hpl := partQ_len (p := ownQ x.k) (valQ_in hx)
  have hqi := Lib.hid (valQ_in hx)
  rw [item_part x h1 h2]
  have ck := chZ_ten hx.1
  have hsize : (w.alloc (.cells #[.int .i64 x.k, .int .i64 x.h, .int .i64 x.f, .int .i64 x.s, .int .i64 x.o, .int .i64 x.r, .int .i64 x.n] 49)).heap.size = w.heap.size + 1 := by simp
  have cw := wint_any B g l x.k hx.1.1 hx.1.2 (by omega) _ (hW.old (tbel1 w (.cells #[.int .i64 x.k, .int .i64 x.h, .int .i64 x.f, .int .i64 x.s, .int .i64 x.o, .int .i64 x.r, .int .i64 x.n] 49)))
  have c1 := fun w => owned_any x.k w
  have c2 := fun w => values_any x w
  have HI := Lib.hid (at6 x)
  have HC := Lib.hid (ownA_at x.k)
  have hO : ownA x.k = #[.bool (ownQ x.k 0), .bool (ownQ x.k 1), .bool (ownQ x.k 2), .bool (ownQ x.k 3), .bool (ownQ x.k 4), .bool (ownQ x.k 5)] := rfl
  rw [hO] at c1 HC
  clear hO h1 h2 hx hW
  change Calls _ _ _ _ fun e w' => e = .returned (.tuple #[]) ∧ Wr w' B g (l ++ (chainL (foldZ x.k) ++ partQ (ownQ x.k) (valQ x) 6)) ∧ Below B w w' ∧ Kp g w w'
  change (chainL (foldZ x.k)).length ≤ 10 at ck
  generalize chainL (foldZ x.k) = C at *
  generalize valA x = V at *
  generalize valQ x = q at *
  generalize ownQ x.k = p at *
  have HL := Lib.hid hpl
  clear hpl
  obtain ⟨k, h, f, s, o, r, n⟩ := x
  unfold itm at *
  dsimp only at *
  have E0 := blk_new w #[.int .i64 k, .int .i64 h, .int .i64 f, .int .i64 s, .int .i64 o, .int .i64 r, .int .i64 n] 49
  have t0 := (Wt.refl B g w).old (tbel1 w (.cells #[.int .i64 k, .int .i64 h, .int .i64 f, .int .i64 s, .int .i64 o, .int .i64 r, .int .i64 n] 49)) (by omega)
  have hB : B ≤ w.heap.size := by omega
  have hg : w.heap.size ≠ g := by omega
  clear hsize
  obtain ⟨r0, _⟩ := E0.seven
  go_enter Try.func30, Try.ntmps30
  go_wp2_with fail
  refine cw.mono ?_
  rintro e w1 ⟨rfl, W1, b1, K1⟩
  have t1 := t0.trans ⟨b1, K1⟩
  have E1 := Wt.blk ⟨b1, K1⟩ E0 hg (by decide)
  clear b1 K1 t0 E0 r0 cw
  obtain ⟨r0, _⟩ := E1.seven
  go_wp2_with fail
  refine (c1 _).mono ?_
  rintro e w2 ⟨rfl, b2⟩
  have E2 := E1.old b2
  have W2 := W1.old b2
  have t2 := t1.old b2 hB
  clear E1 W1 t1 r0 c1 b2
  have bx := tbel1 w2 (.cells #[.bool (p 0), .bool (p 1), .bool (p 2), .bool (p 3), .bool (p 4), .bool (p 5)] 117)
  have B3 := blk_new w2 #[.bool (p 0), .bool (p 1), .bool (p 2), .bool (p 3), .bool (p 4), .bool (p 5)] 117
  have hg5 : w2.heap.size ≠ g := by have := t2.bel.size; omega
  have E3 := E2.old bx
  have W3 := W2.old bx
  have t3 := t2.old bx hB
  obtain ⟨r0, r1, r2, r3, r4, r5, r6⟩ := E3.seven
  clear E2 W2 t2 bx
  go_wp2_with fail
  refine (c2 _).mono ?_
  rintro e w4 ⟨rfl, b4⟩
  have B4 := B3.old b4
  have W4 := W3.old b4
  have t4 := t3.old b4 hB
  clear E3 W3 t3 B3 r0 r1 r2 r3 r4 r5 r6 c2 b4
  generalize w2.heap.size = G at *
  go_wp2_with fail
  go_loopw [21] (fun i wr => ∃ j : Nat, j ≤ 6 ∧ i = .int .i64 j ∧ Wr wr B g (l ++ (C ++ partQ p q j)) ∧ Wt B g w wr ∧ Blk wr G #[.bool (p 0), .bool (p 1), .bool (p 2), .bool (p 3), .bool (p 4), .bool (p 5)] 117) (fun i _ => 6 - (intOf i).toNat)
  case atStart => exact ⟨0, by omega, rfl, by simpa [partQ] using W4, t4, B4⟩
  case round =>
    obtain ⟨j, hj, rfl, W5, t5, B5⟩ := hrel
    clear W4 t4 B4
    by_cases hlt : j < 6
    · have hix := HI.out j hlt
      have hcl : wr.cell? ⟨G, j, none⟩ = some (.bool (p j)) := (B5.cell j).trans (HC.out j hlt)
      have hle := HL.out j
      have hin := hqi.out j
      have ci := wint_any B g (l ++ (C ++ partQ p q j)) (q j) hin.1 hin.2 (by simp only [List.length_append]; omega) wr W5
      have HE : Hid (partQ p q (j + 1) = partQ p q j ++ bif p j then chainL (foldZ (q j)) else []) := Lib.hid rfl
      obtain ⟨pj, hpj⟩ : ∃ b, b = p j := ⟨_, rfl⟩
      rw [← hpj] at hcl HE
      generalize q j = v at *
      clear hle
      cases pj
      · clear ci hpj
        go_wp2
        go_roundw
        case rel => exact ⟨j + 1, by omega, by go_num, by rw [HE.out, cond_false, List.append_nil]; exact W5, t5, B5⟩
        case measure => simp [intOf]; omega
      · clear hpj
        go_wp2_with (refine ci.mono ?_; rintro e w6 ⟨rfl, W6, b6, K6⟩)
        go_roundw
        case rel => exact ⟨j + 1, by omega, by go_num, by rw [HE.out, cond_true, ← List.append_assoc C, ← List.append_assoc l]; exact W6, t5.trans ⟨b6, K6⟩, Wt.blk ⟨b6, K6⟩ B5 hg5 (by decide)⟩
        case measure => simp [intOf]; omega
    · obtain rfl : j = 6 := by omega
      go_wp2
      go_end0
      exact ⟨rfl, W5, t5.bel, t5.kp⟩
end Go.Proofs.Ytjfjekncmejfpaa
namespace Go.Proofs.Ytjfjekncmejfpaa
open Go.RowKit
set_option maxRecDepth 20000
set_option linter.unusedVariables false
set_option linter.unusedSimpArgs false

theorem flatZ_len {l : List Int} (h : ∀ x ∈ l, inR x) : (l.flatMap chZ).length ≤ 10 * l.length := chains_len l h
theorem flatZ_take {l : List Int} (h : ∀ x ∈ l, inR x) (j : Nat) : ((l.take j).flatMap chZ).length ≤ 10 * j := by
  have h1 := flatZ_len (l := l.take j) fun x hx => h x (List.mem_of_mem_take hx)
  have h2 : (l.take j).length ≤ j := by simp; omega
  omega
theorem flatZ_step (l : List Int) (j : Nat) (h : j < l.length) : (l.take (j + 1)).flatMap chZ = (l.take j).flatMap chZ ++ chZ (l.getD j 0) := take_flat l j h chZ
theorem getD_in {l : List Int} (h : ∀ x ∈ l, inR x) (j : Nat) (hj : j < l.length) : inR (l.getD j 0) := h _ (mem_getD hj)
def numsF (x : F3) : List Int := [x.c, x.h, x.p]
theorem floatE_nums (x : F3) : floatE x = (numsF x).flatMap chZ := by simp [floatE, numsF]
theorem numsF_in {x : F3} (h : inF x) : ∀ n ∈ numsF x, inR n := by
  obtain ⟨h1, h2, h3⟩ := h
  intro n hn
  simp only [numsF, List.mem_cons, List.not_mem_nil, or_false] at hn
  rcases hn with rfl | rfl | rfl <;> assumption
theorem at3F (x : F3) (j : Nat) (hj : j < 3) (w : World) : Sem.run Try.prog (Instr.index 124 (.agg #[.int .i64 x.c, .int .i64 x.h, .int .i64 x.p]) (.int .i64 j)) w = .ok (.int .i64 ((numsF x).getD j 0)) w := by
  obtain ⟨c, h, p⟩ := x
  dsimp only [numsF]
  have : j = 0 ∨ j = 1 ∨ j = 2 := by omega
  rcases this with rfl | rfl | rfl
  all_goals
    clear hj
    show _ = _
    kernel_rfl
theorem wfloat_any (B g : Nat) (l : List Int) (x : F3) (hx : inF x) (hsz : l.length ≤ 800000) (w : World) (hW : Wr w B g l) :
    Calls Try.prog 34 #[.pointer (some ⟨g, 0, none⟩), flt x] w fun e w' => e = .returned (.tuple #[]) ∧ Wr w' B g (l ++ floatE x) ∧ Below B w w' ∧ Kp g w w' := by
  have hBg := hW.lt
  rw [floatE_nums]
  have hB : B ≤ w.heap.size := by omega
  have HI := Lib.hid (at3F x)
  have HL := Lib.hid (flatZ_take (numsF_in hx))
  have HS := Lib.hid (flatZ_step (numsF x))
  have HN := Lib.hid (getD_in (numsF_in hx))
  have HT : Hid ((numsF x).length = 3 ∧ (numsF x).take 3 = numsF x) := Lib.hid ⟨rfl, rfl⟩
  generalize numsF x = N at *
  obtain ⟨c, h, p⟩ := x
  unfold flt
  dsimp only at *
  have W1 := hW.old (tbel1 w (.cells #[.int .i64 c, .int .i64 h, .int .i64 p] 90))
  have t1 := (Wt.refl B g w).old (tbel1 w (.cells #[.int .i64 c, .int .i64 h, .int .i64 p] 90)) hB
  clear hW hx
  go_enter Try.func34, Try.ntmps34
  go_wp2_with fail
  go_loopw [18] (fun i wr => ∃ j : Nat, j ≤ 3 ∧ i = .int .i64 j ∧ Wr wr B g (l ++ (N.take j).flatMap chZ) ∧ Wt B g w wr) (fun i _ => 3 - (intOf i).toNat)
  case atStart => exact ⟨0, by omega, rfl, by simpa using W1, t1⟩
  case round =>
    obtain ⟨j, hj, rfl, W5, t5⟩ := hrel
    clear W1 t1
    by_cases hlt : j < 3
    · have hix := HI.out j hlt
      have hle := HL.out j
      have hj' : j < N.length := by rw [HT.out.1]; exact hlt
      have hin := HN.out j hj'
      have ci := wint_any B g (l ++ (N.take j).flatMap chZ) (N.getD j 0) hin.1 hin.2 (by rw [List.length_append]; omega) wr W5
      have HE := Lib.hid (HS.out j hj')
      change Hid (_ = _ ++ chainL (foldZ (N.getD j 0))) at HE
      generalize N.getD j 0 = v at *
      clear hle hj'
      go_wp2_with (refine ci.mono ?_; rintro e w6 ⟨rfl, W6, b6, K6⟩)
      go_roundw
      case rel => exact ⟨j + 1, by omega, by go_num, by rw [HE.out, ← List.append_assoc]; exact W6, t5.trans ⟨b6, K6⟩⟩
      case measure => simp [intOf]; omega
    · obtain rfl : j = 3 := by omega
      rw [HT.out.2] at W5
      go_wp2
      go_end0
      exact ⟨rfl, W5, t5.bel, t5.kp⟩
/-! ### A geometry -/
def numA (g : G19) : Array Value := #[.int .i64 g.cols, .int .i64 g.wide, .int .i64 g.gap, .int .i64 g.high, .int .i64 g.first, .int .i64 g.grid, .int .i64 g.rule, .int .i64 g.sep, .int .i64 g.nmost, .int .i64 g.tmost, .int .i64 g.bmost, .int .i64 g.tmany, .int .i64 g.bmany, .int .i64 g.club, .int .i64 g.widow, .int .i64 g.split, .int .i64 g.later, .int .i64 g.spare]
theorem numsG_in {g : G19} (h : inE g) : ∀ n ∈ numsG g, inR n := by
  obtain ⟨h0, h1, h2, h3, h4, h5, h6, h7, h8, h9, h10, h11, h12, h13, h14, h15, h16, h17⟩ := h
  intro n hn
  simp only [numsG, List.mem_cons, List.not_mem_nil, or_false] at hn
  rcases hn with rfl | rfl | rfl | rfl | rfl | rfl | rfl | rfl | rfl | rfl | rfl | rfl | rfl | rfl | rfl | rfl | rfl | rfl <;> assumption
theorem at18 (g : G19) (j : Nat) (hj : j < 18) (w : World) : Sem.run Try.prog (Instr.index 115 (.agg (numA g)) (.int .i64 j)) w = .ok (.int .i64 ((numsG g).getD j 0)) w := by
  obtain ⟨a0, a1, a2, a3, a4, a5, a6, a7, a8, a9, a10, a11, a12, a13, a14, a15, a16, a17, a18⟩ := g
  dsimp only [numsG, numA]
  have : j = 0 ∨ j = 1 ∨ j = 2 ∨ j = 3 ∨ j = 4 ∨ j = 5 ∨ j = 6 ∨ j = 7 ∨ j = 8 ∨ j = 9 ∨ j = 10 ∨ j = 11 ∨ j = 12 ∨ j = 13 ∨ j = 14 ∨ j = 15 ∨ j = 16 ∨ j = 17 := by omega
  rcases this with rfl | rfl | rfl | rfl | rfl | rfl | rfl | rfl | rfl | rfl | rfl | rfl | rfl | rfl | rfl | rfl | rfl | rfl
  all_goals
    clear hj
    show _ = _
    kernel_rfl
set_option maxHeartbeats 1000000 in
theorem wgeom_any (B g : Nat) (l : List Int) (x : G19) (hx : inE x) (hsz : l.length ≤ 800000) (w : World) (hW : Wr w B g l) :
    Calls Try.prog 28 #[.pointer (some ⟨g, 0, none⟩), .agg (geoC x)] w fun e w' => e = .returned (.tuple #[]) ∧ Wr w' B g (l ++ geomE x) ∧ Below B w w' ∧ Kp g w w' := by
  have hBg := hW.lt
  have hB : B ≤ w.heap.size := by omega
  have hg : w.heap.size ≠ g := by omega
  have HI := Lib.hid (at18 x)
  have HL := Lib.hid (flatZ_take (numsG_in hx))
  have HS := Lib.hid (flatZ_step (numsG x))
  have HN := Lib.hid (getD_in (numsG_in hx))
  have HT : Hid ((numsG x).length = 18 ∧ (numsG x).take 18 = numsG x) := Lib.hid ⟨rfl, rfl⟩
  have HG : Hid (geomE x = (numsG x).flatMap chZ ++ [if x.bal then 1 else 0]) := Lib.hid rfl
  have HA : numA x = #[.int .i64 x.cols, .int .i64 x.wide, .int .i64 x.gap, .int .i64 x.high, .int .i64 x.first, .int .i64 x.grid, .int .i64 x.rule, .int .i64 x.sep, .int .i64 x.nmost, .int .i64 x.tmost, .int .i64 x.bmost, .int .i64 x.tmany, .int .i64 x.bmany, .int .i64 x.club, .int .i64 x.widow, .int .i64 x.split, .int .i64 x.later, .int .i64 x.spare] := rfl
  rw [HA] at HI
  clear HA
  generalize numsG x = N at *
  have W1 := hW.old (tbel1 w (.cells (geoC x) 26))
  have t1 := (Wt.refl B g w).old (tbel1 w (.cells (geoC x) 26)) hB
  have D := geo_new w x
  clear hW hx
  go_enter Try.func28, Try.ntmps28
  go_upto_region 1 with (fail)
  generalize w.alloc _ = U at *
  obtain ⟨q0, q1, q2, q3, q4, q5, q6, q7, q8, q9, q10, q11, q12, q13, q14, q15, q16, q17, q18⟩ := D.cells
  go_wp2_with fail
  clear q0 q1 q2 q3 q4 q5 q6 q7 q8 q9 q10 q11 q12 q13 q14 q15 q16 q17 q18
  go_loopw [48] (fun i wr => ∃ j : Nat, j ≤ 18 ∧ i = .int .i64 j ∧ Wr wr B g (l ++ (N.take j).flatMap chZ) ∧ Wt B g w wr ∧ GeoAt wr w.heap.size x) (fun i _ => 18 - (intOf i).toNat)
  case atStart => exact ⟨0, by omega, rfl, by simpa using W1, t1, D⟩
  case round =>
    obtain ⟨j, hj, rfl, W5, t5, D5⟩ := hrel
    clear W1 t1 D
    by_cases hlt : j < 18
    · have hix := HI.out j hlt
      have hle := HL.out j
      have hj' : j < N.length := by rw [HT.out.1]; exact hlt
      have hin := HN.out j hj'
      have ci := wint_any B g (l ++ (N.take j).flatMap chZ) (N.getD j 0) hin.1 hin.2 (by rw [List.length_append]; omega) wr W5
      have HE := Lib.hid (HS.out j hj')
      change Hid (_ = _ ++ chainL (foldZ (N.getD j 0))) at HE
      generalize N.getD j 0 = v at *
      clear hle hj'
      go_wp2_with (refine ci.mono ?_; rintro e w6 ⟨rfl, W6, b6, K6⟩)
      go_roundw
      case rel => exact ⟨j + 1, by omega, by go_num, by rw [HE.out, ← List.append_assoc]; exact W6, t5.trans ⟨b6, K6⟩, Wt.blk ⟨b6, K6⟩ D5 hg (by decide)⟩
      case measure => simp [intOf]; omega
    · obtain rfl : j = 18 := by omega
      have hle := HL.out 18
      rw [HT.out.2] at W5 hle
      have cb := fun y (hy : Old wr y) => wbool_any B g (l ++ N.flatMap chZ) x.bal (by rw [List.length_append]; omega) y (W5.old hy)
      have CE := Lib.hid fun y (hy : Old wr y) => (D5.old hy).cells.2.2.2.2.2.2.2.2.2.2.2.2.2.2.2.2.2.2
      have hBr : B ≤ w.heap.size := hB
      clear hle HL HS HN HI
      go_upto_region 7 with (fail)
      (refine wp_region_text (Old wr) 5 (by kernel_rfl) (by kernel_rfl) (Below.refl _ wr).drew ?_; simp only [List.take_succ_cons, List.take_zero, List.drop_succ_cons, List.drop_zero])
      repeat (first | (apply Text.sees (hw := by kernel_rfl); (focus (intro x hx K hK; have hc := CE.out x hx; go_simp; exact hK)); simp only [Act.put, List.getElem_toArray, List.getElem_cons_succ, List.getElem_cons_zero, List.setIfInBounds_toArray, List.set_cons_zero, List.set_cons_succ]) | (apply Text.idle; (focus (intro x hx K hK; go_simp; exact hK)); simp only [Act.put, List.getElem_toArray, List.getElem_cons_succ, List.getElem_cons_zero, List.setIfInBounds_toArray, List.set_cons_zero, List.set_cons_succ]))
      intro y hy
      go_wp2_with (refine (cb y hy).mono ?_; rintro e w6 ⟨rfl, W6, b6, K6⟩)
      go_end0
      have t6 := (t5.old hy hB).trans ⟨b6, K6⟩
      exact ⟨rfl, by rw [HG.out, ← List.append_assoc]; exact W6, t6.bel, t6.kp⟩
end Go.Proofs.Ytjfjekncmejfpaa
