/- awake; ChainTells. Get, as the document says it: the plain part. Get, as the document says it: the walk. -/
import Derived.Test.YtjfjekncmejfpaaVGet
namespace Go.Proofs.Ytjfjekncmejfpaa
open Go.RowKit
set_option maxRecDepth 20000
set_option linter.unusedVariables false

theorem bel1 (w : World) (o : Obj) : Below w.heap.size w (w.alloc o) := (Below.refl _ _).alloc (Nat.le_refl _) _
theorem bstep {B : Nat} {w x y : World} (h : Below B w x) (g : Below x.heap.size x y) (hB : B ≤ x.heap.size) : Below B w y := h.trans (g.mono hB)
theorem chain64 : chainL (foldZ 64) = [128, 1] := by
  rw [show foldZ 64 = 128 by decide, chain_ge (by decide), chain_lt (by decide)]
  decide
theorem got64 : gotR 1 ([7] ++ chainL (foldZ 64)) = (64, 3, 0) := by
  have h := got_some 1 ([7] ++ chainL (foldZ 64)) (by simp) (foldZ 64) 2 (by
    have := get_chain (foldZ 64) [] (by decide) (by decide)
    rw [List.append_nil] at this
    show getR (chainL (foldZ 64)) 0 0 = _
    rw [this, chain64]
    rfl)
  rw [unfold_fold] at h
  exact h
/-- What the walk is told of a slice of integers that came in. -/
def IsRowV (k : IntKind) (w : World) (a : Option Addr) (len cap : Nat) (zs : List Int) : Prop :=
  (a = none ∧ len = 0 ∧ cap = 0 ∧ zs = []) ∨
  ∃ x, a = some x ∧ len ≤ cap ∧ cap ≤ maxLen ∧ zs.length = cap ∧ (∀ i, i < zs.length → w.cell? (x.add i) = some (.int k (zs.getD i 0))) ∧ ∀ n ∈ zs, (Lit.int k n).wf = true
theorem IsRowV.row {w : World} {a : Option Addr} {len cap : Nat} {zs : List Int} (h : IsRowV .u8 w a len cap zs) : ∃ l : List Int, l.length = len ∧ Row w a cap l ∧ Byt l := by
  rcases h with ⟨rfl, rfl, _⟩ | ⟨x, rfl, hl, hm, hz, hc, hwf⟩
  · exact ⟨[], rfl, Row.none _ _, fun x hx => by simp at hx⟩
  · refine ⟨zs.take len, by simp; omega, ⟨by simp; omega, fun k hk => ?_⟩, fun x hx => ?_⟩
    · have hk' : k < len := by simp at hk; omega
      obtain ⟨b, off, rfl, hc'⟩ := ints_at hc (by omega)
      refine ⟨b, off, rfl, World.block_lt_of_cell? _ _ (hc' 0 (by omega)), ?_⟩
      rw [hc' k (by omega)]
      simp [hk']
    · have := hwf x (List.mem_of_mem_take hx)
      simp [Lit.wf, IntKind.min, IntKind.max, IntKind.bits, IntKind.signed] at this
      omega
theorem IsRowV.le {k : IntKind} {w : World} {a : Option Addr} {len cap : Nat} {zs : List Int} (h : IsRowV k w a len cap zs) : len ≤ 9223372036854775807 := by
  rcases h with ⟨_, rfl, _⟩ | ⟨_, _, h1, h2, _⟩
  · omega
  · unfold maxLen at h2; omega
theorem i64_in {n : Int} (h : (Lit.int .i64 n).wf = true) : -9223372036854775808 ≤ n ∧ n ≤ 9223372036854775807 := by
  simp [Lit.wf, IntKind.min, IntKind.max, IntKind.bits, IntKind.signed] at h
  omega
theorem u64_in {n : Int} (h : (Lit.int .u64 n).wf = true) : 0 ≤ n ∧ n ≤ 18446744073709551615 := by
  simp [Lit.wf, IntKind.min, IntKind.max, IntKind.bits, IntKind.signed] at h
  omega
end Go.Proofs.Ytjfjekncmejfpaa
namespace Go.Proofs.Ytjfjekncmejfpaa
open Go.RowKit
set_option maxRecDepth 20000
set_option linter.unusedVariables false

/-- How many of the first bytes are 128 or more, ten at most. -/
def lead : List Int → Nat → Nat
  | [], n => n
  | c :: cs, n => if 127 < c ∧ n < 10 then lead cs (n + 1) else n
/-- The number of a list of groups, reckoned from the last to the first. -/
def valD : List Int → Int
  | [] => 0
  | c :: cs => valD cs * 128 + c % 128
theorem val_chain (u : Int) : 0 ≤ u → valD (chainL u) = u := by
  induction u using chain_rec with
  | h1 u h => intro h0; rw [chain_lt h]; simp only [valD]; omega
  | h2 u h ih => intro h0; rw [chain_ge h]; simp only [valD]; rw [ih (by omega)]; omega
theorem lead_ge (l : List Int) : ∀ n, n ≤ lead l n := by
  induction l with
  | nil => intro n; exact Nat.le_refl _
  | cons c cs ih =>
    intro n
    unfold lead
    split
    · exact Nat.le_trans (Nat.le_succ n) (ih (n + 1))
    · exact Nat.le_refl _
theorem lead_le (l : List Int) : ∀ n, n ≤ 10 → lead l n ≤ 10 ∧ lead l n ≤ n + l.length := by
  induction l with
  | nil => intro n hn; exact ⟨hn, Nat.le_refl _⟩
  | cons c cs ih =>
    intro n hn
    unfold lead
    split
    · have := ih (n + 1) (by omega)
      simp; omega
    · simp; omega
theorem lead_chain (x : Int) : ∀ (n : Nat) (rest : List Int), 0 ≤ x → n + (chainL x).length ≤ 10 → lead (chainL x ++ rest) n = n + (chainL x).length - 1 := by
  induction x using chain_rec with
  | h1 x h =>
    intro n rest h0 hn
    rw [chain_lt h]
    show lead (x :: rest) n = _
    unfold lead
    rw [if_neg (by omega)]
    rfl
  | h2 x h ih =>
    intro n rest h0 hn
    rw [chain_ge h] at hn ⊢
    show lead ((x % 128 + 128) :: (chainL (x / 128) ++ rest)) n = _
    simp only [List.length_cons] at hn ⊢
    unfold lead
    have := chain_pos (x / 128)
    rw [if_pos (by omega), ih (n + 1) rest (by omega) (by omega)]
    omega
/-- What the document reads is what package chain reads. -/
theorem ref_none (l : List Int) (hB : Byt l) (h : lead l 0 = 10 ∨ lead l 0 = l.length) : getR l 0 0 = none := by
  cases hg : getR l 0 0 with
  | none => rfl
  | some r =>
    obtain ⟨v, m⟩ := r
    obtain ⟨h0, h1, hm, hml, ht⟩ := get_sound hB hg
    have hten := chain_ten v h0 h1
    have hp := chain_pos v
    have e : l = chainL v ++ l.drop m := by rw [← ht]; exact (List.take_append_drop m l).symm
    have := lead_chain v 0 (l.drop m) h0 (by omega)
    rw [← e] at this
    omega
theorem ref_some (l : List Int) (hB : Byt l) (h9 : lead l 0 ≤ 9) (hl : lead l 0 < l.length) :
    getR l 0 0 = if chainL (valD (l.take (lead l 0 + 1)) % 18446744073709551616) = l.take (lead l 0 + 1) then some (valD (l.take (lead l 0 + 1)) % 18446744073709551616, lead l 0 + 1) else none := by
  split
  · rename_i h
    have e : l = chainL (valD (l.take (lead l 0 + 1)) % 18446744073709551616) ++ l.drop (lead l 0 + 1) := by rw [h]; exact (List.take_append_drop _ l).symm
    have g := get_chain (valD (l.take (lead l 0 + 1)) % 18446744073709551616) (l.drop (lead l 0 + 1)) (by omega) (by omega)
    rw [← e] at g
    rw [g, h]
    simp
    omega
  · rename_i h
    cases hg : getR l 0 0 with
    | none => rfl
    | some r =>
      exfalso
      obtain ⟨v, m⟩ := r
      obtain ⟨h0, h1, hm, hml, ht⟩ := get_sound hB hg
      have hten := chain_ten v h0 h1
      have hp := chain_pos v
      have e : l = chainL v ++ l.drop m := by rw [← ht]; exact (List.take_append_drop m l).symm
      have hle := lead_chain v 0 (l.drop m) h0 (by omega)
      rw [← e] at hle
      have hm1 : lead l 0 + 1 = m := by omega
      apply h
      rw [hm1, ht, val_chain v h0, Int.emod_eq_of_lt h0 (by omega)]
theorem val_snoc (l : List Int) (k : Nat) (h : k < l.length) : valD (l.drop k) = valD (l.drop (k + 1)) * 128 + l.getD k 0 % 128 := by
  rw [drop_cons l k h]
  rfl
theorem lead_step (l : List Int) (k : Nat) (n : Nat) (h : k < l.length) : lead (l.drop k) n = if 127 < l.getD k 0 ∧ n < 10 then lead (l.drop (k + 1)) (n + 1) else n := by
  rw [drop_cons l k h]
  rfl
end Go.Proofs.Ytjfjekncmejfpaa
namespace Go.Proofs.Ytjfjekncmejfpaa
open Go.RowKit
set_option maxRecDepth 20000
set_option linter.unusedVariables false

def agg3 (r : Int × Int × Int) : Value := .agg #[.int .i64 r.1, .int .i64 r.2.1, .int .i64 r.2.2]
/-- A new Got. -/
def Got0 (w : World) (g : Nat) : Prop :=
  w.cell? ⟨g, 0, none⟩ = some (.int .i64 0) ∧ w.cell? ⟨g, 1, none⟩ = some (.int .i64 0) ∧ w.cell? ⟨g, 2, none⟩ = some (.int .i64 0) ∧
  w.frozen? ⟨g, 0, none⟩ = false ∧ w.frozen? ⟨g, 1, none⟩ = false ∧ w.frozen? ⟨g, 2, none⟩ = false
theorem Got0.carry {w w' : World} {g B : Nat} (h : Got0 w g) (hb : Below B w w') (hg : g < B) : Got0 w' g := by
  obtain ⟨c0, c1, c2, f0, f1, f2⟩ := h
  exact ⟨(hb.cell (p := ⟨g, 0, none⟩) hg).trans c0, (hb.cell (p := ⟨g, 1, none⟩) hg).trans c1, (hb.cell (p := ⟨g, 2, none⟩) hg).trans c2,
    (hb.frozen (p := ⟨g, 0, none⟩) hg).trans f0, (hb.frozen (p := ⟨g, 1, none⟩) hg).trans f1, (hb.frozen (p := ⟨g, 2, none⟩) hg).trans f2⟩
theorem got0_new (w : World) : Got0 (w.alloc (.cells #[.int .i64 0, .int .i64 0, .int .i64 0] 134)) w.heap.size := by
  have h := heap_alloc_new w (.cells #[.int .i64 0, .int .i64 0, .int .i64 0] 134)
  refine ⟨?_, ?_, ?_, ?_, ?_, ?_⟩
  · rw [cell_of_row _ _ _ _ _ _ h]; rfl
  · rw [cell_of_row _ _ _ _ _ _ h]; rfl
  · rw [cell_of_row _ _ _ _ _ _ h]; rfl
  all_goals exact frozen_of_row _ _ _ _ _ h
theorem bel_set3 {B : Nat} {w x : World} (h : Below B w x) (g : Nat) (hg : B ≤ g) (u v t : Value) : Below B w (((x.setCell ⟨g, 0, none⟩ u).setCell ⟨g, 1, none⟩ v).setCell ⟨g, 2, none⟩ t) :=
  ((h.setCell (p := ⟨g, 0, none⟩) hg _).setCell (p := ⟨g, 1, none⟩) hg _).setCell (p := ⟨g, 2, none⟩) hg _
theorem rget_bad (a : Option Addr) (c : Nat) (l : List Int) (i : Int) (h : i < 0 ∨ (l.length : Int) < i) (hl : l.length ≤ 1000000) (w : World) :
    Calls Try.prog 78 #[.slice a l.length c, .int .i64 i] w fun e w' => e = .returned (agg3 (gotR i l)) ∧ Below w.heap.size w w' := by
  rw [got_arg i l h]
  rcases h with h | h
  · go_enter Try.func78, Try.ntmps78
    go_wp2
    refine bodyPost_ret (v := agg3 (0, 0, 1)) (by simp [results, Try.results78, go_sem, agg3, *]) rfl ⟨rfl, ?_⟩
    exact bel1 _ _
  · go_enter Try.func78, Try.ntmps78
    go_wp2
    refine bodyPost_ret (v := agg3 (0, 0, 1)) (by simp [results, Try.results78, go_sem, agg3, *]) rfl ⟨rfl, ?_⟩
    exact bel1 _ _
set_option maxHeartbeats 2000000 in
theorem rget_good (a : Option Addr) (c : Nat) (l : List Int) (i : Nat) (hi : i ≤ l.length) (hl : l.length ≤ 1000000) (hB : Byt l) (w : World) (hr : Row w a c l) :
    Calls Try.prog 78 #[.slice a l.length c, .int .i64 i] w fun e w' => e = .returned (agg3 (gotR i l)) ∧ Below w.heap.size w w' := by
  obtain ⟨L, hL⟩ : ∃ L, L = l.drop i := ⟨_, rfl⟩
  have hLl : i + L.length = l.length := by rw [hL]; simp; omega
  have hB' : Byt L := fun x hx => hB x (List.mem_of_mem_drop (by rw [← hL]; exact hx))
  have hat : ∀ k, L.getD k 0 = l.getD (i + k) 0 := fun k => by rw [hL]; simp [List.getD_eq_getElem?_getD, List.getElem?_drop]
  have HN := Lib.hid (got_none i l hi)
  have HS := Lib.hid (got_some i l hi)
  rw [← hL] at HN HS
  have HA := Lib.hid hat
  have HL := Lib.hid hLl
  have hle : i + L.length ≤ l.length := by omega
  have hge : l.length ≤ i + L.length := by omega
  have hd : decide (l.length < i) = false := by simp; omega
  clear hL hLl hat
  go_enter Try.func78, Try.ntmps78
  go_wp2_with fail
  have g0 := got0_new w
  have hb := bel1 w (.cells #[.int .i64 0, .int .i64 0, .int .i64 0] 134)
  have hz : w.heap.size < (w.alloc (.cells #[.int .i64 0, .int .i64 0, .int .i64 0] 134)).heap.size := by simp
  generalize w.alloc (.cells #[.int .i64 0, .int .i64 0, .int .i64 0] 134) = W at g0 hb hz ⊢
  have hrW := hr.carry hb
  go_loopw [5] (fun n wr => ∃ k : Nat, k ≤ 10 ∧ k ≤ L.length ∧ n = .int .i64 k ∧ lead (L.drop k) k = lead L 0 ∧ wr = W) (fun n _ => 10 - (intOf n).toNat)
  case atStart => exact ⟨0, by omega, by omega, rfl, rfl, rfl⟩
  case round =>
    obtain ⟨k, k10, kL, rfl, hg, rfl⟩ := hrel
    by_cases hlt : k < L.length
    · obtain ⟨y, hy⟩ : ∃ y, y = L.getD k 0 := ⟨_, rfl⟩
      obtain ⟨b1, o1, rfl, hB1, hc1⟩ := hrW.2 (i + k) (by omega)
      have hyb := hB'.at k
      rw [lead_step L k k hlt, ← hy] at hg
      rw [← HA.out, ← hy] at hc1
      rw [← hy] at hyb
      have HY := Lib.hid hy
      clear hy
      by_cases h1 : 127 < y
      · by_cases h10 : k < 10
        · rw [if_pos ⟨h1, h10⟩] at hg
          have HG := Lib.hid hg
          clear hg g0
          go_wp2_with fail
          go_roundw
          case rel => exact ⟨k + 1, by omega, by omega, by go_num, HG.out, by first | rfl | trivial⟩
          case measure => simp [intOf]; omega
        · rw [if_neg (by omega)] at hg
          have hn := ref_none L hB' (.inl (by omega))
          have HG := Lib.hid (HN.out hn)
          obtain rfl : k = 10 := by omega
          obtain ⟨c0, c1, c2, f0, f1, f2⟩ := g0
          clear hg hn
          go_wp2_with fail
          refine bodyPost_ret (v := agg3 (0, 0, 2)) (by simp [results, Try.results78, go_sem, agg3, *]) rfl ⟨by rw [HG.out], ?_⟩
          exact bel_set3 hb _ (Nat.le_refl _) _ _ _
      · rw [if_neg (by omega)] at hg
        have hk9 : k ≤ 9 ∨ k = 10 := by omega
        rcases hk9 with hk9 | rfl
        · have hsome := ref_some L hB' (by omega) (by omega)
          rw [← hg] at hsome
          have HSO := Lib.hid hsome
          have e1 : ((i : Int) + (k : Int) == (l.length : Int)) = false := by simp; omega
          have e2 : ((k : Int) == 10) = false := by simp; omega
          clear hsome hg
          go_wp2_with fail
          clear e1 e2
          obtain ⟨P, hP⟩ : ∃ P, P = L.take (k + 1) := ⟨_, rfl⟩
          have hPl : P.length = k + 1 := by rw [hP]; simp; omega
          have hPat : ∀ j, j ≤ k → P.getD j 0 = L.getD j 0 := fun j hj => by rw [hP]; simp [List.getD_eq_getElem?_getD, show j < k + 1 by omega]
          rw [← hP] at HSO
          have HPL := Lib.hid hPl
          have HPA := Lib.hid hPat
          clear hP hPl hPat hc1 hyb HY
          go_loopw [6, 7] (fun u z wr' => ∃ x zi : Int, -1 ≤ zi ∧ zi ≤ k ∧ 0 ≤ x ∧ x ≤ 18446744073709551615 ∧ z = .int .i64 zi ∧ u = .int .u64 x ∧ x = valD (P.drop (zi + 1).toNat) % 18446744073709551616 ∧ wr' = wr) (fun _ z _ => (intOf z + 1).toNat)
          case atStart =>
            refine ⟨0, k, by omega, by omega, by omega, by omega, rfl, rfl, ?_, rfl⟩
            have := HPL.out
            rw [List.drop_eq_nil_of_le (by omega)]; rfl
          case round =>
            obtain ⟨x, zi, z0, z1, x0, x1, rfl, rfl, hx, rfl⟩ := hrel
            rcases Int.lt_or_le zi 0 with hz0 | hz0
            · obtain rfl : zi = -1 := by omega
              replace hx : x = valD P % 18446744073709551616 := hx
              rw [← hx] at HSO
              have cu := runfold_any x x0 x1
              have cc := fun w => chain_any (unfoldZ x) (unfold_range x x0 x1).1 (unfold_range x x0 x1).2 w
              rw [fold_unfold x x0] at cc
              have hB2 := chain_bytes x x0
              have hten := chain_ten x x0 x1
              clear hx
              generalize hC : chainL x = C at *
              clear hC
              go_wp2_with (first | (go_at_call 86; with_reducible refine (cu _).mono ?_; rintro e w' ⟨rfl, rfl⟩) | fail)
              refine (cc _).mono ?_
              rintro e w2 ⟨v2, rfl, o2, bb2⟩
              obtain ⟨a2, k2, rfl, r2⟩ := own_row o2
              have hr2 := (hrW.carry bb2)
              have gg := g0.carry bb2 hz
              have hb2 := hb.trans (bb2.mono hb.size)
              have hz2 := bb2.size
              clear o2 bb2 g0 hrW hb hr cc
              by_cases hlen : C.length = k + 1
              · have hcl : C.length ≤ k + 1 := by omega
                have hcg : k + 1 ≤ C.length := by omega
                have HC := Lib.hid hlen
                have e1 : ((C.length : Int) != (k : Int) + 1) = false := by simp; omega
                have hzz : w.heap.size < w2.heap.size := Nat.lt_of_lt_of_le hz hz2
                clear hlen hz hz2
                go_wp2_with fail
                clear e1
                go_loopw [9] (fun z wr' => ∃ j : Nat, j ≤ k + 1 ∧ z = .int .i64 j ∧ Below w2.heap.size w2 wr' ∧ ∀ t, t < j → C.getD t 0 = L.getD t 0) (fun z _ => k + 1 - (intOf z).toNat)
                case atStart => exact ⟨0, by omega, rfl, Below.refl _ _, fun t ht => by omega⟩
                case round =>
                  rename_i wz
                  obtain ⟨j, hj, rfl, hbl, hp⟩ := hrel
                  have HP := Lib.hid hp
                  have gg3 := gg.carry hbl hzz
                  have hb3 := hb2.trans (hbl.mono hb2.size)
                  clear hp gg
                  rcases Nat.lt_or_ge k j with hjk | hjk
                  · have hCP : C = P := List.ext_getElem? fun t => by
                      have h1 := HC.out
                      have h2 := HPL.out
                      rcases Nat.lt_or_ge t C.length with h | h
                      · have h3 := (HP.out t (by omega)).trans (HPA.out t (by omega)).symm
                        have h' : t < P.length := by omega
                        simpa [h, h'] using h3
                      · rw [List.getElem?_eq_none h, List.getElem?_eq_none (by omega)]
                    have hn : getR L 0 0 = some (x, k + 1) := by rw [HSO.out, if_pos hCP]
                    have HG := Lib.hid (HS.out _ _ hn)
                    obtain ⟨c0, c1, c2, f0, f1, f2⟩ := gg3
                    obtain ⟨V, hV⟩ : ∃ V, V = unfoldZ x := ⟨_, rfl⟩
                    rw [← hV] at cu HG
                    clear hn hCP hV
                    go_wp2_with (first | (go_at_call 86; with_reducible refine (cu _).mono ?_; rintro e w' ⟨rfl, rfl⟩) | fail)
                    refine bodyPost_ret (v := agg3 (V, (i : Int) + (k : Int) + 1, 0)) (by simp [results, Try.results78, go_sem, agg3, *]) rfl ⟨by rw [HG.out, Int.natCast_succ, ← Int.add_assoc], ?_⟩
                    exact bel_set3 hb3 _ (Nat.le_refl _) _ _ _
                  · obtain ⟨y1, hy1⟩ : ∃ y, y = C.getD j 0 := ⟨_, rfl⟩
                    obtain ⟨y2, hy2⟩ : ∃ y, y = L.getD j 0 := ⟨_, rfl⟩
                    obtain ⟨b3, o3, rfl, hB3, hc3⟩ := (r2.carry hbl).2 j (by omega)
                    obtain ⟨b4, o4, e4, hB4, hc4⟩ := (hr2.carry hbl).2 (i + j) (by omega)
                    obtain ⟨rfl, rfl⟩ : b1 = b4 ∧ o1 = o4 := by simpa using e4
                    rw [← HA.out, ← hy2] at hc4
                    rw [← hy1] at hc3
                    have H1 := Lib.hid hy1
                    have H2 := Lib.hid hy2
                    clear hy1 hy2 e4 r2 hr2
                    by_cases hyy : y1 = y2
                    · subst hyy
                      go_wp2_with fail
                      go_quiet (fail)
                      go_wp2
                      go_roundw
                      case rel =>
                        refine ⟨j + 1, by omega, by go_num, bdrewN hbl _, fun t ht => ?_⟩
                        rcases Nat.lt_or_ge t j with h | h
                        · exact HP.out t h
                        · obtain rfl : t = j := by omega
                          exact H1.out.symm.trans H2.out
                      case measure => simp [intOf]; omega
                    · have hne : C ≠ P := fun h => hyy (by rw [H1.out, H2.out, h]; exact HPA.out j (by omega))
                      have hn : getR L 0 0 = none := by rw [HSO.out, if_neg hne]
                      have HG := Lib.hid (HN.out hn)
                      obtain ⟨c0, c1, c2, f0, f1, f2⟩ := gg3
                      clear hn hne
                      go_wp2_with fail
                      go_quiet (fail)
                      go_wp2
                      refine bodyPost_ret (v := agg3 (0, 0, 2)) (by simp [results, Try.results78, go_sem, agg3, *]) rfl ⟨by rw [HG.out], ?_⟩
                      exact bel_set3 (bdrewN hb3 _) _ (Nat.le_refl _) _ _ _
              · have hne : C ≠ P := fun h => hlen (by rw [h]; exact HPL.out)
                have hn : getR L 0 0 = none := by rw [HSO.out, if_neg hne]
                have HG := Lib.hid (HN.out hn)
                have e1 : ((C.length : Int) == (k : Int) + 1) = false := by simp; omega
                obtain ⟨c0, c1, c2, f0, f1, f2⟩ := gg
                clear hn hne
                go_wp2_with fail
                refine bodyPost_ret (v := agg3 (0, 0, 2)) (by simp [results, Try.results78, go_sem, agg3, *]) rfl ⟨by rw [HG.out], ?_⟩
                exact bel_set3 hb2 _ (Nat.le_refl _) _ _ _
            · obtain ⟨j, rfl⟩ := Int.eq_ofNat_of_zero_le hz0
              obtain ⟨y2, hy2⟩ : ∃ y, y = L.getD j 0 := ⟨_, rfl⟩
              obtain ⟨b2, o2, e, _, hc2⟩ := hrW.2 (i + j) (by omega)
              obtain ⟨rfl, rfl⟩ : b1 = b2 ∧ o1 = o2 := by simpa using e
              have hyb := hB'.at j
              rw [← HA.out, ← hy2] at hc2
              rw [← hy2] at hyb
              have hv := val_snoc P j (by have := HPL.out; omega)
              rw [HPA.out j (by omega), ← hy2] at hv
              obtain ⟨x', hx'⟩ : ∃ x', x' = (x * 128 + y2 % 128) % 18446744073709551616 := ⟨_, rfl⟩
              have ho : IntKind.u64.wrap (IntKind.u64.wrap (x * 128) + y2 % 128) = x' := by rw [IntKind.wrap_u64, IntKind.wrap_u64]; omega
              have r0 : 0 ≤ x' := by omega
              have r1 : x' ≤ 18446744073709551615 := by omega
              have hxx : x' = valD (P.drop j) % 18446744073709551616 := by
                rw [show ((j : Int) + 1).toNat = j + 1 by omega] at hx
                rw [hv, hx', hx]; omega
              have HX := Lib.hid hxx
              clear hx hx' hv hxx e hy2
              go_wp2_with fail
              go_roundw
              case rel =>
                refine ⟨x', (j : Int) - 1, by omega, by omega, r0, r1, by go_num, rfl, ?_, by first | rfl | trivial⟩
                rw [show ((j : Int) - 1 + 1).toNat = j by omega]; exact HX.out
              case measure => simp [intOf]
        · have hn := ref_none L hB' (.inl (by omega))
          have HG := Lib.hid (HN.out hn)
          obtain ⟨c0, c1, c2, f0, f1, f2⟩ := g0
          clear hg hn
          go_wp2_with fail
          refine bodyPost_ret (v := agg3 (0, 0, 2)) (by simp [results, Try.results78, go_sem, agg3, *]) rfl ⟨by rw [HG.out], ?_⟩
          exact bel_set3 hb _ (Nat.le_refl _) _ _ _
    · obtain rfl : k = L.length := by omega
      have hn := ref_none L hB' (.inr (by rw [← hg, List.drop_length]; rfl))
      have HG := Lib.hid (HN.out hn)
      obtain ⟨c0, c1, c2, f0, f1, f2⟩ := g0
      have e1 : ((i : Int) + (L.length : Int) == (l.length : Int)) = true := by simp; omega
      have e3 : ¬ (i : Int) + (L.length : Int) < (l.length : Int) := by omega
      clear hg hn
      go_wp2_with fail
      all_goals refine bodyPost_ret (v := agg3 (0, 0, 2)) (by simp [results, Try.results78, go_sem, agg3, *]) rfl ⟨by rw [HG.out], ?_⟩
      all_goals exact bel_set3 hb _ (Nat.le_refl _) _ _ _
theorem rget_any (a : Option Addr) (c : Nat) (l : List Int) (i : Int) (hl : l.length ≤ 1000000) (hB : Byt l) (w : World) (hr : Row w a c l) :
    Calls Try.prog 78 #[.slice a l.length c, .int .i64 i] w fun e w' => e = .returned (agg3 (gotR i l)) ∧ Below w.heap.size w w' := by
  by_cases h : i < 0 ∨ (l.length : Int) < i
  · exact rget_bad a c l i h hl w
  · obtain ⟨k, rfl⟩ := Int.eq_ofNat_of_zero_le (show 0 ≤ i by omega)
    exact rget_good a c l k (by omega) hl hB w hr
end Go.Proofs.Ytjfjekncmejfpaa
