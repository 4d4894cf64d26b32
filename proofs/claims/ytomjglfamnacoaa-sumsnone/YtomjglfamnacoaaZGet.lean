/- Len and ends of package sums. Of, Boxes and Glues of package sums; slices.Clone of totals. -/
import Derived.Test.YtomjglfamnacoaaZNew
import Derived.Test.YtomjglfamnacoaaTAw
namespace Go.Proofs.Ytomjglfamnacoaa
open Go.RowKit
set_option maxRecDepth 20000
set_option linter.unusedVariables false
set_option linter.unusedSimpArgs false

/-- The sums of the list l; nil ones are those of a list without items. -/
def SumV (w : World) (v : Value) (l : List I7) : Prop := (v = .pointer none ∧ l = []) ∨ SumAt w v l
theorem SumV.carry {w w' : World} {v : Value} {l : List I7} (h : SumV w v l) (hb : Below w.heap.size w w') : SumV w' v l :=
  h.imp id fun h => h.carry hb
theorem slen_any (v : Value) (l : List I7) (w : World) (h : SumV w v l) (hl : l.length ≤ 1000000) :
    Calls Try.prog 16 #[v] w fun e w' => e = .returned (.int .i64 l.length) ∧ w' = w := by
  rcases h with ⟨rfl, rfl⟩ | ⟨p, ba, ga, gc, rfl, h2, _⟩
  · go_enter Try.func16, Try.ntmps16
    go_wp2
    go_ret
    exact ⟨rfl, rfl⟩
  · have hp := h2.lt
    have q0 := h2.cell 0
    simp only [List.getElem?_toArray, List.getElem?_cons_zero] at q0
    clear h2
    go_enter Try.func16, Try.ntmps16
    go_wp2
    go_ret
    exact ⟨by simp, rfl⟩
def fromE (l : List I7) (a b : Int) : S8 := if max a 0 < min b l.length then sumK l (max a 0).toNat else zero8
def toE (l : List I7) (a b : Int) : S8 := if max a 0 < min b l.length then sumK l (min b l.length).toNat else zero8
set_option maxHeartbeats 2000000 in
theorem ends_out (v : Value) (l : List I7) (a b : Int) (w : World) (h : SumV w v l) (hl : l.length ≤ 1000000) (hab : ¬ max a 0 < min b l.length) :
    Calls Try.prog 23 #[v, .int .i64 a, .int .i64 b] w fun e w' => e = .returned (.tuple #[sm8 zero8, sm8 zero8]) ∧ Below w.heap.size w w' := by
  have cl := fun x (hx : Below w.heap.size w x) => slen_any v l x (h.carry hx) hl
  clear h
  unfold sm8 zero8 zeroT
  dsimp only
  generalize l.length = n at *
  by_cases h1 : a < 0
  · by_cases h2 : b ≤ (n : Int)
    · have h3 : b ≤ 0 := by omega
      clear hab
      go_enter Try.func23, Try.ntmps23
      go_wp2_with fail
      refine (cl _ (tbel2 w _ _)).mono ?_
      rintro e w1 ⟨rfl, rfl⟩
      clear cl
      go_wp2
      refine bodyPost_ret (v := .tuple #[.agg #[.int .i64 0, .int .i64 0, .int .i64 0, .int .i64 0, .int .i64 0, .int .i64 0, .int .i64 0, .int .i64 0], .agg #[.int .i64 0, .int .i64 0, .int .i64 0, .int .i64 0, .int .i64 0, .int .i64 0, .int .i64 0, .int .i64 0]]) (by simp [results, Try.results23, go_sem, *]) rfl ⟨rfl, ?_⟩
      exact tbel2 w _ _
    · have h3 : (n : Int) ≤ 0 := by omega
      clear hab
      go_enter Try.func23, Try.ntmps23
      go_wp2_with fail
      refine (cl _ (tbel2 w _ _)).mono ?_
      rintro e w1 ⟨rfl, rfl⟩
      clear cl
      go_wp2
      refine bodyPost_ret (v := .tuple #[.agg #[.int .i64 0, .int .i64 0, .int .i64 0, .int .i64 0, .int .i64 0, .int .i64 0, .int .i64 0, .int .i64 0], .agg #[.int .i64 0, .int .i64 0, .int .i64 0, .int .i64 0, .int .i64 0, .int .i64 0, .int .i64 0, .int .i64 0]]) (by simp [results, Try.results23, go_sem, *]) rfl ⟨rfl, ?_⟩
      exact tbel2 w _ _
  · by_cases h2 : b ≤ (n : Int)
    · have h3 : b ≤ a := by omega
      clear hab
      go_enter Try.func23, Try.ntmps23
      go_wp2_with fail
      refine (cl _ (tbel2 w _ _)).mono ?_
      rintro e w1 ⟨rfl, rfl⟩
      clear cl
      go_wp2
      refine bodyPost_ret (v := .tuple #[.agg #[.int .i64 0, .int .i64 0, .int .i64 0, .int .i64 0, .int .i64 0, .int .i64 0, .int .i64 0, .int .i64 0], .agg #[.int .i64 0, .int .i64 0, .int .i64 0, .int .i64 0, .int .i64 0, .int .i64 0, .int .i64 0, .int .i64 0]]) (by simp [results, Try.results23, go_sem, *]) rfl ⟨rfl, ?_⟩
      exact tbel2 w _ _
    · have h3 : (n : Int) ≤ a := by omega
      clear hab
      go_enter Try.func23, Try.ntmps23
      go_wp2_with fail
      refine (cl _ (tbel2 w _ _)).mono ?_
      rintro e w1 ⟨rfl, rfl⟩
      clear cl
      go_wp2
      refine bodyPost_ret (v := .tuple #[.agg #[.int .i64 0, .int .i64 0, .int .i64 0, .int .i64 0, .int .i64 0, .int .i64 0, .int .i64 0, .int .i64 0], .agg #[.int .i64 0, .int .i64 0, .int .i64 0, .int .i64 0, .int .i64 0, .int .i64 0, .int .i64 0, .int .i64 0]]) (by simp [results, Try.results23, go_sem, *]) rfl ⟨rfl, ?_⟩
      exact tbel2 w _ _
def eight0 : Array Value := #[.int .i64 0, .int .i64 0, .int .i64 0, .int .i64 0, .int .i64 0, .int .i64 0, .int .i64 0, .int .i64 0]
set_option maxHeartbeats 4000000 in
theorem ends_in (v : Value) (l : List I7) (a b : Int) (s q : Nat) (w : World) (h : SumAt w v l) (hl : l.length ≤ 1000000) (hs : max a 0 = s) (hq : min b l.length = q) (hsq : s < q) :
    Calls Try.prog 23 #[v, .int .i64 a, .int .i64 b] w fun e w' => e = .returned (.tuple #[sm8 (sumK l s), sm8 (sumK l q)]) ∧ Below w.heap.size w w' := by
  have cl := fun x (hx : Below w.heap.size w x) => slen_any v l x (.inr (h.carry hx)) hl
  obtain ⟨p, ba, ga, gc, rfl, H, E, _, _⟩ := h
  obtain ⟨b0, off, rfl, hB, D⟩ := E.sum8 (k := s) (by omega)
  obtain ⟨_, _, e, _, D2⟩ := E.sum8 (k := q) (by omega)
  cases e
  obtain ⟨S, hS⟩ : ∃ S, S = sumK l s := ⟨_, rfl⟩
  obtain ⟨T, hT⟩ : ∃ T, T = sumK l q := ⟨_, rfl⟩
  rw [← hS] at D ⊢
  rw [← hT] at D2 ⊢
  obtain ⟨d0, d1, d2, d3, d4, d5, d6, d7⟩ := D
  obtain ⟨c0, c1, c2, c3, c4, c5, c6, c7⟩ := D2
  clear hS hT E
  have HH := Lib.hid H
  have hpl := H.lt
  clear H
  have CC := Lib.hid (And.intro d0 <| And.intro d1 <| And.intro d2 <| And.intro d3 <| And.intro d4 <| And.intro d5 <| And.intro d6 <| And.intro d7 <| And.intro c0 <| And.intro c1 <| And.intro c2 <| And.intro c3 <| And.intro c4 <| And.intro c5 <| And.intro c6 c7)
  clear d0 d1 d2 d3 d4 d5 d6 d7 c0 c1 c2 c3 c4 c5 c6 c7
  unfold sm8
  generalize l.length = n at *
  have x1 : (s : Int) < (n : Int) + 1 := by omega
  have x2 : (q : Int) < (n : Int) + 1 := by omega
  rcases (by omega : (a < 0 ∧ s = 0) ∨ (¬ a < 0 ∧ a = s)) with ⟨h1, rfl⟩ | ⟨h1, rfl⟩
  all_goals
    rcases (by omega : (b ≤ (n : Int) ∧ b = q) ∨ (¬ b ≤ (n : Int) ∧ q = n)) with ⟨h2, rfl⟩ | ⟨h2, rfl⟩
    all_goals
      clear hs hq
      try simp only [Nat.zero_mul, Nat.add_zero] at CC
      go_enter Try.func23, Try.ntmps23
      go_wp2_with fail
      refine (cl _ (tbel2 w _ _)).mono ?_
      rintro e w1 ⟨rfl, rfl⟩
      clear cl
      go_wp2_with fail
      have bU := tbel2 w (.cells eight0 57) (.cells eight0 57)
      have B6 := (blk_new w eight0 57).alloc (.cells eight0 57)
      have B7 := blk_two w (.cells eight0 57) eight0 57
      unfold eight0 at bU B6 B7
      generalize (w.alloc _).alloc _ = U at *
      have hUs := bU.size
      have q0 := (HH.out.old bU).cell 0
      simp only [List.getElem?_toArray, List.getElem?_cons_zero] at q0
      have g : ∀ i v, w.cell? ⟨b0, i, none⟩ = some v → U.cell? ⟨b0, i, none⟩ = some v := fun i v hv => (bU.cell (p := ⟨b0, i, none⟩) hB).trans hv
      obtain ⟨d0, d1, d2, d3, d4, d5, d6, d7, c0, c1, c2, c3, c4, c5, c6, c7⟩ := CC.out
      replace d0 := g _ _ d0
      replace d1 := g _ _ d1
      replace d2 := g _ _ d2
      replace d3 := g _ _ d3
      replace d4 := g _ _ d4
      replace d5 := g _ _ d5
      replace d6 := g _ _ d6
      replace d7 := g _ _ d7
      replace c0 := g _ _ c0
      replace c1 := g _ _ c1
      replace c2 := g _ _ c2
      replace c3 := g _ _ c3
      replace c4 := g _ _ c4
      replace c5 := g _ _ c5
      replace c6 := g _ _ c6
      replace c7 := g _ _ c7
      have f6 := B6.eight
      have g6 := B6.eight_free
      have f7 := B7.eight
      have g7 := B7.eight_free
      have hb := bU
      clear B6 B7 bU CC HH g
      go_region
      go_wp2
      refine bodyPost_ret (v := .tuple #[.agg #[.int .i64 S.t.n, .int .i64 S.t.s0, .int .i64 S.t.s1, .int .i64 S.t.s2, .int .i64 S.t.s3, .int .i64 S.t.h, .int .i64 S.b, .int .i64 S.g], .agg #[.int .i64 T.t.n, .int .i64 T.t.s0, .int .i64 T.t.s1, .int .i64 T.t.s2, .int .i64 T.t.s3, .int .i64 T.t.h, .int .i64 T.b, .int .i64 T.g]]) (by simp [results, Try.results23, go_sem, *]) rfl ⟨rfl, ?_⟩
      exact (below_set8 (below_set8 hb (Nat.le_refl _) _ _ _ _ _ _ _ _) (Nat.le_succ _) _ _ _ _ _ _ _ _).drew
theorem ends_any (v : Value) (l : List I7) (a b : Int) (w : World) (h : SumV w v l) (hl : l.length ≤ 1000000) :
    Calls Try.prog 23 #[v, .int .i64 a, .int .i64 b] w fun e w' => e = .returned (.tuple #[sm8 (fromE l a b), sm8 (toE l a b)]) ∧ Below w.heap.size w w' := by
  unfold fromE toE
  by_cases hab : max a 0 < min b l.length
  · rw [if_pos hab, if_pos hab]
    rcases h with ⟨_, rfl⟩ | h
    · exfalso
      simp at hab
      omega
    · exact ends_in v l a b _ _ w h hl (by omega) (by omega) (by omega)
  · rw [if_neg hab, if_neg hab]
    exact ends_out v l a b w h hl hab
end Go.Proofs.Ytomjglfamnacoaa
namespace Go.Proofs.Ytomjglfamnacoaa
open Go.RowKit
set_option maxRecDepth 20000
set_option linter.unusedVariables false
set_option linter.unusedSimpArgs false

theorem ends_T (l : List I7) (a b : Int) : lessT (toE l a b).t (fromE l a b).t = rngM l a b := by
  unfold toE fromE
  by_cases h : max a 0 < min b l.length
  · rw [if_pos h, if_pos h, rngM_some h]
    rfl
  · rw [if_neg h, if_neg h, rngM_none h]
    rfl
theorem ends_B (l : List I7) (a b : Int) : (toE l a b).b - (fromE l a b).b = rngS (boxK l) a b l.length := by
  unfold toE fromE rngS
  by_cases h : max a 0 < min b l.length
  · rw [if_pos h, if_pos h, if_pos h]
    rfl
  · rw [if_neg h, if_neg h, if_neg h]
    rfl
theorem sumK_bd {l : List I7} {k : Nat} (hk : k ≤ l.length) (hl : l.length ≤ 4096) (hf : fairTo l l.length = true) : inT (sumK l k).t ∧ 0 ≤ (sumK l k).b ∧ (sumK l k).b ≤ 17592186044416 := by
  have h0 := fairTo_less hf hk
  have b0 := (preM_bd h0).inT (by omega)
  have bb := preS_bd (f := boxK l) (M := 4294967296) (k := k) fun i hi => boxK_bd (fairTo_all.1 h0 i hi)
  refine ⟨b0, bb.1, ?_⟩
  show preS (boxK l) k ≤ _
  omega
theorem zero8_bd : inT zero8.t ∧ 0 ≤ zero8.b ∧ zero8.b ≤ 17592186044416 := by
  refine ⟨?_, by decide, by decide⟩
  unfold zero8 zeroT inT inR
  decide
theorem fromE_bd {l : List I7} (a b : Int) (hl : l.length ≤ 4096) (hf : fairTo l l.length = true) : inT (fromE l a b).t ∧ 0 ≤ (fromE l a b).b ∧ (fromE l a b).b ≤ 17592186044416 := by
  unfold fromE
  split
  · exact sumK_bd (by omega) hl hf
  · exact zero8_bd
theorem toE_bd {l : List I7} (a b : Int) (hl : l.length ≤ 4096) (hf : fairTo l l.length = true) : inT (toE l a b).t ∧ 0 ≤ (toE l a b).b ∧ (toE l a b).b ≤ 17592186044416 := by
  unfold toE
  split
  · exact sumK_bd (by omega) hl hf
  · exact zero8_bd
set_option maxHeartbeats 2000000 in
theorem sof_any (v : Value) (l : List I7) (a b : Int) (w : World) (h : SumV w v l) (hl : l.length ≤ 4096) (hf : fairTo l l.length = true) :
    Calls Try.prog 9 #[v, .int .i64 a, .int .i64 b] w fun e w' => e = .returned (tot (rngM l a b)) ∧ Below w.heap.size w w' := by
  have ce := fun x (hx : Below w.heap.size w x) => ends_any v l a b x (h.carry hx) (by omega)
  have hS := fromE_bd a b hl hf
  have hT := toE_bd a b hl hf
  have hr := ends_T l a b
  have hR := (rngM_bd (l := l) (a := a) (b := b) hf).inT (by omega)
  have cs := fun x => TSub_any (toE l a b).t (fromE l a b).t x hT.1 hS.1
  rw [sub_fits (by rw [hr]; exact hR), hr] at cs
  clear h hS hT hr hR
  generalize rngM l a b = r at *
  generalize fromE l a b = S at *
  generalize toE l a b = T at *
  obtain ⟨r0, r1, r2, r3, r4, r5⟩ := r
  unfold sm8 at ce
  unfold twoT tot at *
  dsimp only at *
  go_enter Try.func9, Try.ntmps9
  go_wp2_with fail
  refine (ce _ (tbel1 w _)).mono ?_
  rintro e w1 ⟨rfl, b1⟩
  have B0 := (blk_new w #[.int .i64 0, .int .i64 0, .int .i64 0, .int .i64 0, .int .i64 0, .int .i64 0] 31).old b1
  replace b1 := tstep (tbel1 w _) b1 (tbel1 w _).size
  have hs1 := b1.size
  clear ce
  go_wp2_with fail
  have b3 := tstep b1 (tbel2 w1 (.cells #[.int .i64 S.t.n, .int .i64 S.t.s0, .int .i64 S.t.s1, .int .i64 S.t.s2, .int .i64 S.t.s3, .int .i64 S.t.h, .int .i64 S.b, .int .i64 S.g] 57) (.cells #[.int .i64 T.t.n, .int .i64 T.t.s0, .int .i64 T.t.s1, .int .i64 T.t.s2, .int .i64 T.t.s3, .int .i64 T.t.h, .int .i64 T.b, .int .i64 T.g] 57)) b1.size
  refine (cs _).mono ?_
  rintro e w2 ⟨rfl, b2⟩
  have B2 := ((B0.alloc _).alloc _).old b2
  have f0 := B2.six
  have g0 := B2.six_free
  replace b3 := tstep b3 b2 b3.size
  have h3 := b3.size
  have hlt := B2.lt
  clear B0 B2 b2 cs b1
  go_wp2
  refine bodyPost_ret (v := .agg #[.int .i64 r0, .int .i64 r1, .int .i64 r2, .int .i64 r3, .int .i64 r4, .int .i64 r5]) (by simp [results, Try.results9, go_sem, *]) rfl ⟨rfl, ?_⟩
  exact (Below.new6 b3 (Nat.le_refl _) _ _ _ _ _ _).alloc (by simp; omega) _
theorem sboxes_any (v : Value) (l : List I7) (a b : Int) (w : World) (h : SumV w v l) (hl : l.length ≤ 4096) (hf : fairTo l l.length = true) :
    Calls Try.prog 14 #[v, .int .i64 a, .int .i64 b] w fun e w' => e = .returned (.int .i64 (rngS (boxK l) a b l.length)) ∧ Below w.heap.size w w' := by
  have ce := ends_any v l a b w h (by omega)
  obtain ⟨_, hS1, hS2⟩ := fromE_bd a b hl hf
  obtain ⟨_, hT1, hT2⟩ := toE_bd a b hl hf
  rw [← ends_B l a b]
  clear h
  generalize fromE l a b = S at *
  generalize toE l a b = T at *
  unfold sm8 at ce
  have u : IntKind.i64.wrap (T.b - S.b) = T.b - S.b := by rw [IntKind.wrap_i64]; omega
  go_enter Try.func14, Try.ntmps14
  go_wp2_with fail
  refine ce.mono ?_
  rintro e w1 ⟨rfl, b1⟩
  clear ce
  go_wp2
  go_ret
  exact ⟨rfl, (b1.alloc b1.size _).alloc (Nat.le_trans b1.size (by simp)) _⟩
theorem tnil_no (ad : Addr) (n c : Nat) : ∀ w, Sem.run Try.prog (binOp BinOp.eql 35 (.slice (some ad) n c) (.slice none 0 0)) w = .ok (.bool false) w := fun w => by kernel_rfl
theorem tnil_yes (n c : Nat) : ∀ w, Sem.run Try.prog (binOp BinOp.eql 35 (.slice none n c) (.slice none 0 0)) w = .ok (.bool true) w := fun w => by kernel_rfl
theorem town_new (w : World) (e : TypeId) (sz : Nat) : (w.alloc (.cells #[] e)).ownsRow w.heap.size e sz (.slice (some ⟨w.heap.size, 0, none⟩) 0 0) 0 [] :=
  ⟨by simp, .inr ⟨w.heap.size, 0, #[], rfl, Nat.le_refl _, blk_new w #[] e, Nat.le_refl _, by decide, by simp, by simp⟩⟩
/-- Totals that a call made lie where the slice v says. -/
def NewT (l : List T6) (v : Value) (w : World) : Prop := ∃ a cap, v = .slice a l.length cap ∧ l.length ≤ cap ∧ cap ≤ maxLen ∧ Els 6 encT w a l.length fun k => l.getD k zeroT
theorem NewT.carry {l : List T6} {v : Value} {w w' : World} (h : NewT l v w) (hb : Below w.heap.size w w') : NewT l v w' := by
  obtain ⟨a, cap, h1, h2, h3, h4⟩ := h
  exact ⟨a, cap, h1, h2, h3, h4.carry hb⟩
set_option maxHeartbeats 1000000 in
theorem tclone_any (a : Option Addr) (cap : Nat) (l : List T6) (w : World) (hn : l.length ≤ 1000000) (hr : Els 6 encT w a l.length fun k => l.getD k zeroT) :
    Calls Try.prog 25 #[.slice a l.length cap] w fun e w' => ∃ v, e = .returned v ∧ NewT l v w' ∧ Below w.heap.size w w' := by
  have hmx : 1000002 ≤ maxLen := by decide
  obtain ⟨i0, hi, hz0, hz1, hz2⟩ := info_parts info_tot
  cases a with
  | none =>
    have h0 := none_nil hr (by omega)
    rw [h0]
    clear hr
    have e := tnil_yes 0 cap
    go_enter Try.func25, Try.ntmps25
    go_wp2_with fail
    go_ret
    exact ⟨.slice none 0 0, rfl, ⟨none, 0, by rw [h0], by omega, by decide, fun k j hk => by omega⟩, Below.refl _ _⟩
  | some ad =>
    have HR := Lib.hid (hr.carry (tbel1 w (.cells #[] 31)))
    clear hr
    have e := tnil_no ad l.length cap
    go_enter Try.func25, Try.ntmps25
    go_wp2_with (at_builtin; refine wpList_els (l := []) (m := l) (d := zeroT) rfl _ _ rfl Try.underlying35 hi hz0 hz1 hz2 rfl (by decide) encT_len encT_one rfl (town_new w 31 6) rfl HR.out (by simp; omega) (by simp; omega) (tbel1 w _) (by simp) (fun h => by cases h) ?_; intro v' w1 hown hb1 hg1)
    go_ret
    rw [List.nil_append] at hown
    obtain ⟨a', c', h1, h2, h3, h4⟩ := own_of (d := zeroT) hown encT_len
    exact ⟨_, rfl, ⟨a', c', h1, h2, h3, h4.els⟩, hb1⟩
theorem tcut (b off n gc i j : Nat) (hij : i < j) (hj : j ≤ gc) (hg : gc ≤ maxLen) : ∀ x, Sem.run Try.prog (Instr.slice 35 (.slice (some ⟨b, off, none⟩) n gc) (some (.int .i64 (i : Int))) (some (.int .i64 (j : Int))) none) x = .ok (.slice (some ⟨b, off + i * 6, none⟩) (j - i) (gc - i)) x := by
  intro x
  rw [run_slice_lh _ 35 _ n gc Try.underlying35 .i64 .i64 i j (by omega) (by omega) (by omega)]
  have e : Sem.run Try.prog (sizeOf (Try.prog.elem 35)) x = .ok 6 x := by kernel_rfl
  rw [e]
  have e2 : ¬ gc = i := by omega
  simp [Result.andThen, sliced, e2, Go.WideShapes.add_plain]
/-- Elements from the i-th on. -/
theorem Els.from {α : Type} {enc : α → List Value} {w : World} {b off n : Nat} {F : Nat → α} (h : Els 6 enc w (some ⟨b, off, none⟩) n F) (i : Nat) {m : Nat} (hm : i + m ≤ n) {G : Nat → α} (hG : ∀ k, k < m → F (i + k) = G k) : Els 6 enc w (some ⟨b, off + i * 6, none⟩) m G := fun k j hk hj => by
  obtain ⟨b', off', e, hB, hc⟩ := h (i + k) j (by omega) hj
  cases e
  refine ⟨b, _, rfl, hB, ?_⟩
  rw [show off + i * 6 + (k * 6 + j) = off + ((i + k) * 6 + j) by omega, hc, hG k hk]
theorem gluR_same {l : List I7} {a b : Int} (h : (fromE l a b).g = (toE l a b).g) : gluR l a b = [] := by
  unfold fromE toE at h
  unfold gluR
  by_cases hab : max a 0 < min b l.length
  · rw [if_pos hab] at h ⊢
    rw [if_pos hab] at h
    have h' : (gluK l (max a 0).toNat).length = (gluK l (min b l.length).toNat).length := Int.ofNat.inj h
    rw [h']
    simp
  · rw [if_neg hab]
/-- What is cut out of the glues. -/
theorem gluR_part {l : List I7} {a b : Int} (h : ¬ (fromE l a b).g = (toE l a b).g) : ∃ i j : Nat, (fromE l a b).g = i ∧ (toE l a b).g = j ∧ i < j ∧ j ≤ (gluK l l.length).length ∧ (gluR l a b).length = j - i ∧ ∀ k, k < j - i → (gluK l l.length).getD (i + k) zeroT = (gluR l a b).getD k zeroT := by
  unfold fromE toE at *
  unfold gluR
  by_cases hab : max a 0 < min b l.length
  · rw [if_pos hab, if_pos hab] at h
    rw [if_pos hab, if_pos hab, if_pos hab]
    have h1 := gluK_mono (l := l) (j := (max a 0).toNat) (k := (min b l.length).toNat) (by omega)
    obtain ⟨r, hr⟩ := gluK_part (l := l) (j := (min b l.length).toNat) (k := l.length) (by omega)
    have h2 : (gluK l (min b l.length).toNat).length ≤ (gluK l l.length).length := by rw [hr]; simp
    have h3 : ¬ (gluK l (max a 0).toNat).length = (gluK l (min b l.length).toNat).length := fun e => h (congrArg (fun n : Nat => (n : Int)) e)
    refine ⟨_, _, rfl, rfl, by omega, h2, by simp, fun k hk => ?_⟩
    rw [hr]
    simp only [List.getD_eq_getElem?_getD]
    rw [List.getElem?_append_left (by omega), List.getElem?_drop]
  · rw [if_neg hab, if_neg hab] at h
    exact absurd rfl h
set_option maxHeartbeats 2000000 in
theorem sglues_any (v : Value) (l : List I7) (a b : Int) (w : World) (h : SumV w v l) (hl : l.length ≤ 4096) :
    Calls Try.prog 12 #[v, .int .i64 a, .int .i64 b] w fun e w' => ∃ u, e = .returned u ∧ NewT (gluR l a b) u w' ∧ Below w.heap.size w w' := by
  have ce := ends_any v l a b w h (by omega)
  by_cases hg : (fromE l a b).g = (toE l a b).g
  · rw [gluR_same hg]
    clear h
    generalize fromE l a b = S at *
    generalize toE l a b = T at *
    unfold sm8 at ce
    go_enter Try.func12, Try.ntmps12
    go_wp2_with fail
    refine ce.mono ?_
    rintro e w1 ⟨rfl, b1⟩
    clear ce
    go_wp2
    go_ret
    exact ⟨_, rfl, ⟨none, 0, rfl, Nat.le_refl _, by decide, fun k j hk => absurd hk (Nat.not_lt_zero k)⟩, (b1.alloc b1.size _).alloc (Nat.le_trans b1.size (by simp)) _⟩
  · obtain ⟨i, j, hi, hj, hij, hjn, hlen, hget⟩ := gluR_part hg
    rcases h with ⟨rfl, rfl⟩ | ⟨p, ba, ga, gc, rfl, H, _, hgc, E⟩
    · simp [gluK] at hjn
      omega
    obtain ⟨b0, off, rfl, hB, _⟩ := E.tot6 (k := 0) (by omega)
    have E2 := Els.from E i (m := j - i) (by omega) hget
    rw [← hlen] at E2
    have ct := tcut b0 off (gluK l l.length).length gc i j hij (by omega) (by omega)
    have gl := gluR_len l a b
    have HL := Lib.hid hlen
    have cc := fun (x : World) (hx : Below w.heap.size w x) => tclone_any (some ⟨b0, off + i * 6, none⟩) (gc - i) (gluR l a b) x (by omega) (E2.carry hx)
    rw [← hlen] at ct
    generalize gluR l a b = R at *
    generalize (gluK l l.length).length = n at *
    generalize fromE l a b = S at *
    generalize toE l a b = T at *
    obtain ⟨St, Sb, Sg⟩ := S
    obtain ⟨Tt, Tb, Tg⟩ := T
    dsimp only at hi hj
    subst hi
    subst hj
    unfold sm8 at ce
    dsimp only at ce hg
    clear E E2 hget hlen hgc
    have HH := Lib.hid H
    have hpl := H.lt
    clear H
    go_enter Try.func12, Try.ntmps12
    go_wp2_with fail
    refine ce.mono ?_
    rintro e w1 ⟨rfl, b1⟩
    clear ce
    go_wp2_with fail
    have b3 := tstep b1 (tbel2 w1 (.cells #[.int .i64 St.n, .int .i64 St.s0, .int .i64 St.s1, .int .i64 St.s2, .int .i64 St.s3, .int .i64 St.h, .int .i64 Sb, .int .i64 i] 57) (.cells #[.int .i64 Tt.n, .int .i64 Tt.s0, .int .i64 Tt.s1, .int .i64 Tt.s2, .int .i64 Tt.s3, .int .i64 Tt.h, .int .i64 Tb, .int .i64 j] 57)) b1.size
    have B7 := (blk_new w1 #[.int .i64 St.n, .int .i64 St.s0, .int .i64 St.s1, .int .i64 St.s2, .int .i64 St.s3, .int .i64 St.h, .int .i64 Sb, .int .i64 i] 57).alloc (.cells #[.int .i64 Tt.n, .int .i64 Tt.s0, .int .i64 Tt.s1, .int .i64 Tt.s2, .int .i64 Tt.s3, .int .i64 Tt.h, .int .i64 Tb, .int .i64 j] 57)
    have B8 := blk_two w1 (.cells #[.int .i64 St.n, .int .i64 St.s0, .int .i64 St.s1, .int .i64 St.s2, .int .i64 St.s3, .int .i64 St.h, .int .i64 Sb, .int .i64 i] 57) #[.int .i64 Tt.n, .int .i64 Tt.s0, .int .i64 Tt.s1, .int .i64 Tt.s2, .int .i64 Tt.s3, .int .i64 Tt.h, .int .i64 Tb, .int .i64 j] 57
    generalize (w1.alloc _).alloc _ = U at *
    have CE := Lib.hid fun x (hx : Old U x) => And.intro ct <| And.intro ((HH.out.old (tstep b3 hx b3.size)).cell 1) (And.intro ((B7.old hx).cell 7) ((B8.old hx).cell 7))
    have cc2 : ∀ x, Old U x → Calls Try.prog 25 #[.slice (some ⟨b0, off + i * 6, none⟩) R.length (gc - i)] x fun e y => ∃ v, e = .returned v ∧ NewT R v y ∧ Old x y := fun x hx => cc x (tstep b3 hx b3.size)
    clear B7 B8 HH cc ct b1 hg
    (refine wp_region_plan 10 [(0, true), (1, true), (2, true), (3, true), (4, true), (5, true), (6, true), (7, true), (8, true), (9, false)] (by kernel_rfl) (by kernel_rfl) ?_; simp only [pick, List.getElem?_cons_succ, List.getElem?_cons_zero, List.drop_succ_cons, List.drop_zero])
    repeat (first | (apply TextV.sees (hw := by kernel_rfl); (focus (intro x hx K hK; have hc := CE.out x hx; go_simp; exact hK)); simp only [Act.put, List.getElem_toArray, List.getElem_cons_succ, List.getElem_cons_zero, List.setIfInBounds_toArray, List.set_cons_zero, List.set_cons_succ]) | (apply TextV.idle; (focus (intro x hx K hK; go_simp; exact hK)); simp only [Act.put, List.getElem_toArray, List.getElem_cons_succ, List.getElem_cons_zero, List.setIfInBounds_toArray, List.set_cons_zero, List.set_cons_succ]))
    (refine TextV.loud (V := fun v y => NewT R v y) (fun x hx => cc2 x hx) (by kernel_rfl) (fun _ => by kernel_rfl) (fun v y hv hy => ?_); simp only [Act.put, List.getElem_toArray, List.getElem_cons_succ, List.getElem_cons_zero, List.setIfInBounds_toArray, List.set_cons_zero, List.set_cons_succ])
    intro x hx
    clear CE cc2
    go_wp2
    go_ret
    exact ⟨_, rfl, hv.carry hx, tstep (tstep b3 hy b3.size) hx (Nat.le_trans b3.size hy.size)⟩
end Go.Proofs.Ytomjglfamnacoaa
