/- The iterator over the choices for a spot, where notes are open: some begin here. -/
import Derived.Test.YtdddhflppngloaaOEch
import Derived.Deep.Cut
namespace Go.Proofs.Ytdddhflppngloaa
open Go.RowKit
set_option maxRecDepth 20000
set_option linter.unusedVariables false
set_option linter.unusedSimpArgs false
attribute [local go_sem] Oper.semAt_some

/-- The last open note. -/
theorem open_last {l : List N2} {s : SpO} {mm : Nat} (h : openN l s = mm + 1) : ∃ N : Nat, N < l.length ∧ (openO l s).getD mm zPc = ((N : Int), fromO s mm, ((l.getD N zeroN).l.length : Int)) ∧ s.n + mm = N ∧ ¬ s.l < 0 := by
  unfold openN at h
  split at h
  · omega
  · rename_i hn
    have hb : ∀ M : Int, M ≤ l.length → (M - s.n).toNat = mm + 1 → ∃ N : Nat, N < l.length ∧ s.n + mm = N := fun M h1 h2 => ⟨(s.n + mm).toNat, by omega, by omega⟩
    obtain ⟨N, h1, h2⟩ : ∃ N : Nat, N < l.length ∧ s.n + mm = N := by
      split at h
      · exact hb _ (Int.le_refl _) h
      · exact hb _ (by omega) h
    refine ⟨N, h1, ?_, h2, by omega⟩
    have hmm : mm < openN l s := by
      unfold openN
      rw [if_neg hn, h]
      omega
    unfold openO
    rw [List.getD_eq_getElem?_getD, List.getElem?_map, List.getElem?_range hmm]
    show pceO l s mm = _
    unfold pceO lenO
    rw [h2, Int.toNat_natCast]
theorem ends_is {l : List N2} {q : List PcO} {mm N : Nat} {f t : Int} (hq : q.length = mm + 1) (hx : q.getD mm zPc = ((N : Int), f, t)) : endsO l q = stopsN (l.getD N zeroN).l (l.getD N zeroN).p f := by
  unfold endsO
  rw [show q.length - 1 = mm by omega, hx]
  dsimp only
  rw [Int.toNat_natCast]
theorem stops_more {L P : List Int} {f : Int} {k : Nat} (hk : k ≤ L.length) (h1 : f < (k : Int)) (h2 : mayN L P k = true) : ∃ r, stopsN L P f = (stopsUp L P f k ++ [(k : Int)]) ++ r := by
  obtain ⟨r, hr⟩ := stopsUp_pre L P f (k + 1) (L.length - k)
  rw [show k + 1 + (L.length - k) = L.length + 1 by omega, stopsUp_yes h1 h2] at hr
  exact ⟨r, hr⟩
/-- The stops from one to the next. -/
theorem stops_next {L P : List Int} {f : Int} {k : Nat} (hk : k ≤ L.length) (h1 : f < (k : Int)) (h2 : mayN L P k = true) :
    (firstN L P k = -1 ∧ stopsUp L P f (L.length + 1) = stopsUp L P f k ++ [(k : Int)]) ∨ ∃ k2 : Nat, k2 ≤ L.length ∧ firstN L P k = k2 ∧ k < k2 ∧ mayN L P k2 = true ∧ stopsUp L P f k2 = stopsUp L P f k ++ [(k : Int)] := by
  have hs := fun d => stopsUp_split L P f k (by omega) d
  rcases firstN_spec L P k with ⟨g1, g2⟩ | ⟨k2, g1, g2, g3, g4, g5⟩
  · refine .inl ⟨g1, ?_⟩
    have e := hs (L.length - k)
    unfold stopsN at g2
    rw [show k + 1 + (L.length - k) = L.length + 1 by omega, g2, List.append_nil, stopsUp_yes h1 h2] at e
    exact e
  · refine .inr ⟨k2, g1, g2, by omega, g4, ?_⟩
    have e := hs (k2 - (k + 1))
    rw [show k + 1 + (k2 - (k + 1)) = k2 by omega, g5, List.append_nil, stopsUp_yes h1 h2] at e
    exact e
/-- Where the loop stands: at the stop k, or behind all. -/
def StO (L P : List Int) (f : Int) (z : Int) (k : Nat) : Prop := (k = L.length + 1 ∧ z = -1) ∨ (k ≤ L.length ∧ z = k ∧ f < (k : Int) ∧ mayN L P k = true)
theorem sto_first (L P : List Int) (f : Int) : ∃ k, StO L P f (firstN L P f) k ∧ stopsUp L P f k = [] := by
  rcases firstN_spec L P f with ⟨h1, h2⟩ | ⟨k, h1, h2, h3, h4, h5⟩
  · exact ⟨L.length + 1, .inl ⟨rfl, h1⟩, h2⟩
  · exact ⟨k, .inr ⟨h1, h2, h3, h4⟩, h5⟩
theorem sto_next {L P : List Int} {f : Int} {k : Nat} (hk : k ≤ L.length) (h1 : f < (k : Int)) (h2 : mayN L P k = true) : ∃ k2, StO L P f (firstN L P k) k2 ∧ stopsUp L P f k2 = stopsUp L P f k ++ [(k : Int)] ∧ stM L.length (firstN L P k) < stM L.length (k : Int) := by
  rcases stops_next hk h1 h2 with ⟨g1, g2⟩ | ⟨k2, g1, g2, g3, g4, g5⟩
  · exact ⟨L.length + 1, .inl ⟨rfl, g1⟩, g2, by rw [g1]; exact stM_end hk⟩
  · exact ⟨k2, .inr ⟨g1, g2, by omega, g4⟩, g5, by rw [g2]; exact stM_up g3 g1⟩
set_option maxHeartbeats 8000000 in
theorem oeach_fresh (m l0 n b1 b2 bx mm : Nat) (wc : World) (a : Option Addr) (cap : Nat) (l : List N2) (s : SpO) (J Jx : Nat → List (List PcO) → World → Prop) (W : World) (hl : l.length ≤ 1000000) (hSm : SmallN l ∧ SmallP l) (hsl : inR s.l) (hN : NotesAt wc a l) (E : EchW n b1 b2 wc a cap l s W) (h : openN l s = mm + 1) (hf : s.f = true)
    (hn : n ≤ W.heap.size) (hc : wc.heap.size ≤ n) (hbx : wc.heap.size ≤ bx) (h1 : b1 < n) (h2 : b2 < n) (x1 : b1 ≠ bx) (x2 : b2 ≠ bx)
    (hst : ∀ g pre A B, W.heap.size ≤ g → J g pre A → Near (fun k => k = g) A B → J g pre B)
    (hY : ∀ g pre x v A, W.heap.size ≤ g → J g pre A → LayO g x A v → pre.length < (choO l s).length → YieldAt Fence.wide (m - 1) Try.prog l0 #[v] A fun e B =>
      (e = .returned (.bool true) ∧ J g (pre ++ [x]) B ∧ KpO n bx g A B) ∨ (e = .returned (.bool false) ∧ Jx g (pre ++ [x]) B))
    (h0 : ∀ g B, W.heap.size ≤ g → g < B.heap.size → Below W.heap.size W B → J g [] B) :
    CallsIn Fence.wide m Try.prog 23 #[.func (.yield l0) #[] #[], .pointer (some ⟨b1, 0, none⟩), .pointer (some ⟨b2, 0, none⟩)] W fun e B => (∃ v, e = .returned v) ∧ ((∃ g xs, xs = choO l s ∧ J g xs B) ∨ ∃ g pre, (pre ≠ [] ∧ ∃ r, choO l s = pre ++ r) ∧ Jx g pre B) := by
  have co := oopen_any a cap l s W hl (hN.carry E.bl)
  have hq : (openO l s).length = mm + 1 := by rw [openO_len, h]
  obtain ⟨N, hNl, hx, _, hs0⟩ := open_last h
  have hmm : mm < 1000000 := by have := openN_le l s; omega
  have hfr : inR (fromO s mm) := by
    unfold fromO
    split
    · exact hsl
    · decide
  have hch := choO_some (l := l) (s := s) (by omega)
  rw [ends_is hq hx] at hch
  have q1 := E.c1.cell 0
  have q20 := E.c2.cell 0
  have q21 := E.c2.cell 1
  have q22 := E.c2.cell 2
  have q23 := E.c2.cell 3
  have HY := Lib.hid hY
  have HJ := Lib.hid h0
  have HT := Lib.hid (And.intro hNl hfr)
  have HC := Lib.hid hch
  have HX := Lib.hid hx
  have HN := Lib.hid fun (x : World) (hx : Below wc.heap.size wc x) => hN.carry hx
  have HST := Lib.hid hst
  have HS := Lib.hid hSm
  have HB := Lib.hid (And.intro hn (And.intro hc (And.intro hbx (And.intro h1 (And.intro h2 (And.intro x1 x2))))))
  have HE := Lib.hid E
  clear hN h hY h0 hNl hfr hch hx hst hSm hsl E hn hc hbx h1 h2 x1 x2
  generalize hqq : openO l s = q at *
  have HQ := Lib.hid hq
  clear hqq
  generalize fromO s mm = f at *
  obtain ⟨s0, s1, s2, s3⟩ := s
  dsimp only at hf hs0
  subst hf
  unfold spo at co
  dsimp only at co q20 q21 q22 q23
  refine callsIn_of_wp Try.func23 rfl trivial ?_ rfl
  simp only [Try.ntmps23, List.size_toArray, List.length_cons, List.length_nil, Nat.reduceAdd, Nat.reduceSub, Array.replicate_succ, Array.replicate_zero, List.push_toArray, List.append_toArray, List.nil_append, List.cons_append]
  refine wpIn_wide.2 ?_
  go_wp2_with fail
  refine co.mono ?_
  rintro e w1 ⟨v, rfl, ho, b, hlt⟩
  obtain ⟨va, vc, rfl, hc1, hc2, hE⟩ := OwnP.form ho
  obtain ⟨g, hva, hg, P0⟩ : ∃ g, va = some ⟨g, 0, none⟩ ∧ W.heap.size ≤ g ∧ PcAt w1 g q := by
    rcases hE with h | ⟨g, cur, e1, e2, e3, e4⟩
    · omega
    · exact ⟨g, e1, by omega, cur, e3, e4⟩
  subst hva
  have J0 := HJ.out g w1 hg P0.lt b
  have E0 := HE.out.old b
  rw [hq] at hc1 ⊢
  have q23' := (E0.c2.cell 3)
  dsimp only at q23'
  clear co q1 q20 q21 q22 q23 ho hE HJ HE b hlt hq
  have e0 : baseO ⟨s0, s1, s2, true⟩ = [] := rfl
  rw [e0] at HC
  have HJ0 : Hid (J g [] w1) := Lib.hid J0
  clear J0 e0
  have hm1 : wrap64 (mm : Int) = (mm : Int) := by unfold wrap64; omega
  have hm2 : ((mm : Int) + 1 == 0) = false := by
    rw [beq_eq_false_iff_ne]
    omega
  go_wp2_with fail
  obtain ⟨nb, noff, la, lc, qa, qc, ha, hnb, c0, c1, _, _, hlc, hqc, hL, hP⟩ := (HN.out w1 E0.bl).get HT.out.1
  subst ha
  have cF := Lib.hid fun (z : Int) (hz : inR z) x (hx : Below w1.heap.size w1 x) => nfirst_any la lc (l.getD N zeroN).l qa qc (l.getD N zeroN).p z x (HS.out.1 N HT.out.1) (HS.out.2 N HT.out.1) hz ((hP.carry hx (Nat.le_refl _)).mono hx.size)
  obtain ⟨gb, goff, hge, hgl, g0, g1, g2⟩ := elsP P0.els (k := mm) (by rw [HQ.out]; omega)
  rw [HX.out] at g0 g1 g2
  dsimp only at g0 g1 g2
  obtain ⟨rfl, rfl⟩ : g = gb ∧ 0 = goff := by cases hge; exact ⟨rfl, rfl⟩
  rw [Nat.zero_add] at g0 g1 g2
  have hz0 : PcAt w1 g (cutO q (q.getD mm zPc).2.2) := by
    have e := cutO_self (q := q) (by rw [HQ.out]; omega)
    rw [show q.length - 1 = mm by rw [HQ.out]; omega] at e
    rw [e]
    exact P0
  generalize hLe : (l.getD N zeroN).l = L at *
  have HLe := Lib.hid hLe
  clear hLe
  generalize hPe : (l.getD N zeroN).p = P at *
  have HPe := Lib.hid hPe
  clear hPe
  unfold nte at cF
  have d1 : ¬ l.length ≤ N := Nat.not_le.2 HT.out.1
  have d2 := HT.out.1
  have q1 : w1.cell? ⟨b1, 0, none⟩ = some (.slice (some ⟨nb, noff, none⟩) l.length cap) := E0.c1.cell 0
  have k1 := E0.c1.lt
  have CE := Lib.hid fun x (hx : Old w1 x) => And.intro ((hx.cell (p := ⟨b1, 0, none⟩) k1).trans q1) (And.intro ((hx.cell (p := ⟨g, mm * 3, none⟩) hgl).trans g0) (And.intro ((hx.cell (p := ⟨g, mm * 3 + 1, none⟩) hgl).trans g1) (And.intro ((hx.cell (p := ⟨nb, noff + N * 2, none⟩) hnb).trans c0) (And.intro ((hx.cell (p := ⟨nb, noff + N * 2 + 1, none⟩) hnb).trans c1) (And.intro d2 d1)))))
  have cf := Lib.hid fun x (hx : Old w1 x) => cF.out f HT.out.2 x hx
  obtain ⟨k0, hk0, he0⟩ := sto_first L P f
  have HK0 := Lib.hid (And.intro hk0 he0)
  clear hk0 he0 c0 c1 q1 g0 g1 g2 hlc hqc hL hP hge P0 q23'
  generalize firstN L P f = r1 at *
  (refine wp_region_text (Old w1) 12 (by kernel_rfl) (by kernel_rfl) (Below.refl _ w1).drew ?_; simp only [List.take_succ_cons, List.take_zero, List.drop_succ_cons, List.drop_zero])
  repeat (first | (apply Text.sees (hw := by kernel_rfl); (focus (intro x hx K hK; have hc := CE.out x hx; go_simp; exact hK)); simp only [Act.put, List.getElem_toArray, List.getElem_cons_succ, List.getElem_cons_zero, List.setIfInBounds_toArray, List.set_cons_zero, List.set_cons_succ]) | (apply Text.idle; (focus (intro x hx K hK; go_simp; exact hK)); simp only [Act.put, List.getElem_toArray, List.getElem_cons_succ, List.getElem_cons_zero, List.setIfInBounds_toArray, List.set_cons_zero, List.set_cons_succ]))
  (refine Text.call (Old.call cf.out) (by kernel_rfl) (fun _ => by kernel_rfl) ?_; simp only [Act.put, List.getElem_toArray, List.getElem_cons_succ, List.getElem_cons_zero, List.setIfInBounds_toArray, List.set_cons_zero, List.set_cons_succ])
  repeat (first | (apply Text.sees (hw := by kernel_rfl); (focus (intro x hx K hK; have hc := CE.out x hx; go_simp; exact hK)); simp only [Act.put, List.getElem_toArray, List.getElem_cons_succ, List.getElem_cons_zero, List.setIfInBounds_toArray, List.set_cons_zero, List.set_cons_succ]) | (apply Text.idle; (focus (intro x hx K hK; go_simp; exact hK)); simp only [Act.put, List.getElem_toArray, List.getElem_cons_succ, List.getElem_cons_zero, List.setIfInBounds_toArray, List.set_cons_zero, List.set_cons_succ]))
  intro x hx
  have J1 := HST.out g _ w1 x hg HJ0.out (Near.of hx)
  have E1 := E0.old hx
  have P1 := hz0.old hx
  clear CE cf hz0 E0
  go_wp2_with fail
  go_loopw [6] (fun z wr => ∃ (r : Int) (k : Nat) (t0 : Int), z = .int .i64 r ∧ StO L P f r k ∧ J g (([] : List (List PcO)) ++ (stopsUp L P f k).map (cutO q)) wr ∧ PcAt wr g (cutO q t0) ∧ EchW n b1 b2 wc (some ⟨nb, noff, none⟩) cap l ⟨s0, s1, s2, true⟩ wr) (fun z _ => stM L.length (intOf z))
  case atStart => exact ⟨r1, k0, _, rfl, HK0.out.1, by rw [HK0.out.2, List.map_nil, List.append_nil]; exact J1, P1, E1⟩
  case round =>
    clear J1 P1 E1 HK0 hx d1 d2
    obtain ⟨r, k, t0, rfl, hk, hJ, hP, hE⟩ := hrel
    have HJ := Lib.hid hJ
    rcases hk with ⟨rfl, rfl⟩ | ⟨hk, rfl, hfk, hmk⟩
    · have HCC : Hid (J g (choO l ⟨s0, s1, s2, true⟩) wr) := Lib.hid (by rw [HC.out]; exact hJ)
      clear hJ HJ
      go_wp2
      go_end0
      exact ⟨⟨_, rfl⟩, .inl ⟨g, _, rfl, HCC.out⟩⟩
    · have h0q : 0 < q.length := by rw [HQ.out]; omega
      have ei : q.length - 1 = mm := by rw [HQ.out]; omega
      obtain ⟨gb, goff, hge, hgl, _, _, g2⟩ := elsP hP.els (k := mm) (by rw [cutO_len, HQ.out]; omega)
      obtain ⟨rfl, rfl⟩ : g = gb ∧ 0 = goff := by cases hge; exact ⟨rfl, rfl⟩
      rw [Nat.zero_add] at g2
      have fr := hP.free (mm * 3 + 2)
      have P2 := hP.cut h0q (k : Int)
      rw [ei] at P2
      have J2 := HST.out g _ wr _ hg HJ.out (near_set wr (b := g) (mm * 3 + 2) (.int .i64 k))
      obtain ⟨hB1, hB2, hB3, hB4, hB5, hB6, hB7⟩ := HB.out
      have E2 := hE.set (g := g) (by omega) (by omega) (by omega) (mm * 3 + 2) (.int .i64 k)
      obtain ⟨rr, hrr⟩ := stops_more hk hfk hmk
      have hlen : (([] : List (List PcO)) ++ (stopsUp L P f k).map (cutO q)).length < (choO l ⟨s0, s1, s2, true⟩).length := by
        rw [HC.out, hrr]
        simp
      have HPRE : Hid (∃ r, choO l ⟨s0, s1, s2, true⟩ = (([] : List (List PcO)) ++ (stopsUp L P f k).map (cutO q) ++ [cutO q k]) ++ r) := Lib.hid ⟨rr.map (cutO q), by rw [HC.out, hrr]; simp⟩
      obtain ⟨fn, tmps, assign, body, hy, hR⟩ := HY.out g _ (cutO q k) (.slice (some ⟨g, 0, none⟩) (mm + 1) vc) _ hg J2 ⟨_, _, by rw [cutO_len, HQ.out], by rw [cutO_len, HQ.out]; exact hc1, hc2, P2.els, by rw [cutO_len, HQ.out]; omega⟩ hlen
      have HP2 := Lib.hid P2
      have HE2 := Lib.hid E2
      have HST2 := Lib.hid (sto_next hk hfk hmk)
      clear hge P2 J2 E2 hB1 hB2 hB3 hB4 hB5 hB6 hB7 hlen hrr hJ HJ hP hE ei h0q
      go_upto_region 9 with (fail)
      generalize wr.setCell _ _ = W2 at *
      refine (wpIn_wide (n := m)).1 ?_
      gi_wp2_with fail
      refine ⟨fun hd => (by cases hd), ?_⟩
      refine hR.mono ?_
      rintro e W3 (⟨rfl, hJ3, hk3⟩ | ⟨rfl, hJx3⟩)
      · clear hR hy
        gi_wp2_with fail
        go_wp2_with fail
        obtain ⟨hB1, hB2, hB3, hB4, hB5, hB6, hB7⟩ := HB.out
        have E3 := HE2.out.but hk3.1 hB2 hB3 hB4 hB5 hB6 hB7
        have P3 := HP2.out.same hk3.2
        obtain ⟨nb', noff', la', lc', qa', qc', ha, hnb', c0, c1, _, _, hlc, hqc, hL, hPr⟩ := (HN.out W3 E3.bl).get HT.out.1
        obtain ⟨rfl, rfl⟩ : nb = nb' ∧ noff = noff' := by cases ha; exact ⟨rfl, rfl⟩
        rw [HLe.out] at c0
        rw [HPe.out] at c1 hPr
        have cN := Lib.hid fun x (hx : Below W3.heap.size W3 x) => nfirst_any la' lc' L qa' qc' P (k : Int) x (by have := HS.out.1 N HT.out.1; rw [HLe.out] at this; exact this) (by have := HS.out.2 N HT.out.1; rw [HPe.out] at this; exact this) (by have := HS.out.1 N HT.out.1; rw [HLe.out] at this; unfold inR; omega) ((hPr.carry hx (Nat.le_refl _)).mono hx.size)
        unfold nte at cN
        obtain ⟨gb, goff, hge, hgl3, g0, _, _⟩ := elsP P3.els (k := mm) (by rw [cutO_len, HQ.out]; omega)
        obtain ⟨rfl, rfl⟩ : g = gb ∧ 0 = goff := by cases hge; exact ⟨rfl, rfl⟩
        have hlast := cutO_last (q := q) (by rw [HQ.out]; omega) (k : Int)
        rw [show q.length - 1 = mm by rw [HQ.out]; omega] at hlast
        rw [hlast, HX.out] at g0
        dsimp only at g0
        rw [Nat.zero_add] at g0
        have d1 : ¬ l.length ≤ N := Nat.not_le.2 HT.out.1
        have d2 := HT.out.1
        have q1 : W3.cell? ⟨b1, 0, none⟩ = some (.slice (some ⟨nb, noff, none⟩) l.length cap) := E3.c1.cell 0
        have k1 := E3.c1.lt
        have CE := Lib.hid fun x (hx : Old W3 x) => And.intro ((hx.cell (p := ⟨b1, 0, none⟩) k1).trans q1) (And.intro ((hx.cell (p := ⟨g, mm * 3, none⟩) hgl3).trans g0) (And.intro ((hx.cell (p := ⟨nb, noff + N * 2, none⟩) hnb').trans c0) (And.intro ((hx.cell (p := ⟨nb, noff + N * 2 + 1, none⟩) hnb').trans c1) (And.intro d2 d1))))
        obtain ⟨k2, hk2, he2, hm2⟩ := HST2.out
        have HK2 := Lib.hid (And.intro hk2 (And.intro he2 hm2))
        have HJ3 := Lib.hid hJ3
        have HE3 := Lib.hid E3
        have HP3 := Lib.hid P3
        clear hk2 he2 hm2 c0 c1 q1 g0 hlc hqc hL hPr hge hlast HST2 HP2 HE2 hB1 hB2 hB3 hB4 hB5 hB6 hB7 hk3 hJ3 E3 P3 d1 d2 ha
        generalize firstN L P (k : Int) = r2 at *
        (refine wp_region_text (Old W3) 9 (by kernel_rfl) (by kernel_rfl) (Below.refl _ W3).drew ?_; simp only [List.take_succ_cons, List.take_zero, List.drop_succ_cons, List.drop_zero])
        repeat (first | (apply Text.sees (hw := by kernel_rfl); (focus (intro x hx K hK; have hc := CE.out x hx; go_simp; exact hK)); simp only [Act.put, List.getElem_toArray, List.getElem_cons_succ, List.getElem_cons_zero, List.setIfInBounds_toArray, List.set_cons_zero, List.set_cons_succ]) | (apply Text.idle; (focus (intro x hx K hK; go_simp; exact hK)); simp only [Act.put, List.getElem_toArray, List.getElem_cons_succ, List.getElem_cons_zero, List.setIfInBounds_toArray, List.set_cons_zero, List.set_cons_succ]))
        (refine Text.call (Old.call cN.out) (by kernel_rfl) (fun _ => by kernel_rfl) ?_; simp only [Act.put, List.getElem_toArray, List.getElem_cons_succ, List.getElem_cons_zero, List.setIfInBounds_toArray, List.set_cons_zero, List.set_cons_succ])
        repeat (first | (apply Text.sees (hw := by kernel_rfl); (focus (intro x hx K hK; have hc := CE.out x hx; go_simp; exact hK)); simp only [Act.put, List.getElem_toArray, List.getElem_cons_succ, List.getElem_cons_zero, List.setIfInBounds_toArray, List.set_cons_zero, List.set_cons_succ]) | (apply Text.idle; (focus (intro x hx K hK; go_simp; exact hK)); simp only [Act.put, List.getElem_toArray, List.getElem_cons_succ, List.getElem_cons_zero, List.setIfInBounds_toArray, List.set_cons_zero, List.set_cons_succ]))
        intro x hx
        have J4 := HST.out g _ W3 x hg HJ3.out (Near.of hx)
        have E4 := HE3.out.old hx
        have P4 := HP3.out.old hx
        clear CE cN HJ3 HE3 HP3
        go_wp2
        go_roundw
        case rel => exact ⟨r2, k2, k, rfl, HK2.out.1, by rw [HK2.out.2.1, List.map_append, ← List.append_assoc]; exact J4, P4, E4⟩
        case measure =>
          show stM L.length r2 < stM L.length (k : Int)
          exact HK2.out.2.2
      · clear hR hy
        gi_wp2_with fail
        go_wp2
        refine bodyPost_ret (results_none rfl _ _ _) rfl ?_
        exact ⟨⟨_, rfl⟩, .inr ⟨g, _, ⟨by simp, HPRE.out⟩, hJx3⟩⟩
end Go.Proofs.Ytdddhflppngloaa
