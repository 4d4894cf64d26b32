/- The iterator that share.Each hands back, told of what comes at each round. -/
import Derived.Test.YtojphpncidjdiaaSEach
namespace Go.Proofs.Ytojphpncidjdiaa
open Go.RowKit Go.Shelf
set_option maxRecDepth 20000
set_option linter.unusedVariables false
attribute [local go_sem] Oper.semAt_some

/-- The state between two rounds. -/
structure ESA {α : Type} (com : Nat → α) (n₀ b1 : Nat) (whole : Int) (a : Option Addr) (l : List Int) (W0 : World) (J : List α → World → Prop) (k : Nat) (wr : World) : Prop where
  c1 : wr.cell? ⟨b1, 0, none⟩ = some (.int .i64 whole)
  row : IRow n₀ wr a l
  sz : W0.heap.size ≤ wr.heap.size
  got : J (uptoS com k) wr
theorem ESA.old {α : Type} {com : Nat → α} {n₀ b1 : Nat} {whole : Int} {a : Option Addr} {l : List Int} {W0 : World} {J : List α → World → Prop} {k : Nat} {wr w2 : World} (h : ESA com n₀ b1 whole a l W0 J k wr)
    (hb : Below wr.heap.size wr w2) (hJ : AbidesFrom W0.heap.size J) (hlt : b1 < W0.heap.size) (hn : n₀ ≤ W0.heap.size) : ESA com n₀ b1 whole a l W0 J k w2 :=
  ⟨(hb.cell (p := ⟨b1, 0, none⟩) (by have := h.sz; simp; omega)).trans h.c1, h.row.carry hb (by have := h.sz; omega), Nat.le_trans h.sz hb.size, hJ _ _ _ none h.got (grown_of hb) (fun _ e => by cases e)⟩
theorem ESA.next {α : Type} {com : Nat → α} {n₀ b1 x : Nat} {whole : Int} {a : Option Addr} {l : List Int} {W0 : World} {J : List α → World → Prop} {k : Nat} {wr w2 : World} (h : ESA com n₀ b1 whole a l W0 J k wr)
    (hk : SBut n₀ x wr w2) (h1 : b1 < n₀) (hx : b1 ≠ x) (ha : Off a l x) (hg : J (uptoS com k ++ [com k]) w2) : ESA com n₀ b1 whole a l W0 J (k + 1) w2 :=
  ⟨(World.cell?_of_block (a := ⟨b1, 0, none⟩) (hk.block b1 h1 hx)).trans h.c1, h.row.but hk (Nat.le_refl _) ha, Nat.le_trans h.sz hk.size, by rw [uptoS_succ]; exact hg⟩

set_option maxRecDepth 100000 in
set_option maxHeartbeats 2000000 in
theorem each1_yesA {α : Type} (com : Nat → α) (encs : α → Array Value) (m l0 n₀ b1 b2 bx : Nat) (whole : Int) (a : Option Addr) (cap : Nat) (l : List Int) (J Jx : List α → World → Prop) (W : World)
    (hcom : ∀ k, k < l.length → encs (com k) = #[.int .i64 (k : Int), .int .i64 (shareK whole l k)]) (hn : l.length ≤ 1000000) (hw : inR whole) (h : rightS whole l = true)
    (hY : ∀ pre x W, J pre W → pre.length < l.length → YieldAt Fence.wide (m - 1) Try.prog l0 (encs x) W fun e W' =>
      (e = .returned (.bool true) ∧ J (pre ++ [x]) W' ∧ SBut n₀ bx W W') ∨ (e = .returned (.bool false) ∧ Jx (pre ++ [x]) W'))
    (hJ : AbidesFrom W.heap.size J) (hb1 : W.cell? ⟨b1, 0, none⟩ = some (.int .i64 whole)) (hb2 : W.cell? ⟨b2, 0, none⟩ = some (.slice a l.length cap))
    (h1 : b1 < n₀) (h2 : b2 < n₀) (hx : b1 ≠ bx) (ha : Off a l bx) (hn₀ : n₀ ≤ W.heap.size) (hr : IRow n₀ W a l) (h0 : J [] W) :
    CallsIn Fence.wide m Try.prog 42 #[.func (.yield l0) #[] #[], .pointer (some ⟨b1, 0, none⟩), .pointer (some ⟨b2, 0, none⟩)] W fun e W' => (∃ v, e = .returned v) ∧
      ((∃ ys, ys = uptoS com l.length ∧ J ys W') ∨ (∃ pre, (∃ k, 1 ≤ k ∧ k ≤ l.length ∧ pre = uptoS com k) ∧ Jx pre W')) := by
  obtain ⟨g0, hnn, g1, g2, hb⟩ := rightS_facts h
  have cb := base_any whole a cap l W hn (hr.mono hn₀)
  rw [hb] at cb
  have es0 : ESA com n₀ b1 whole a l W J 0 W := ⟨hb1, hr, Nat.le_refl _, by simpa [uptoS] using h0⟩
  obtain ⟨s, hs⟩ : ∃ s, s = l.sum := ⟨_, rfl⟩
  rw [← hs] at cb
  have HS := Lib.hid hs
  have HW := Lib.hid hw
  have HH := Lib.hid h
  have HN := Lib.hid hnn
  have HG := Lib.hid (And.intro g0 (And.intro g1 g2))
  unfold Go.Proofs.Ytojphpncidjdiaa.two at cb
  clear hs hw h hnn g0 g1 g2 hb h0 hr
  refine callsIn_of_wp Try.func42 rfl trivial ?_ rfl
  simp only [Try.ntmps42, List.size_toArray, List.length_cons, List.length_nil, Nat.reduceAdd, Nat.reduceSub, Array.replicate_succ, Array.replicate_zero, List.push_toArray, List.append_toArray, List.nil_append, List.cons_append]
  gi_wp2_with (refine ⟨trivial, fun hd => (by cases hd), ?_⟩; refine (callsIn_wide.2 cb).mono ?_; rintro e w1 ⟨rfl, b1'⟩; have es1 := es0.old b1' hJ (by omega) hn₀; have hb2' := (b1'.cell (p := ⟨b2, 0, none⟩) (by simp; omega)).trans hb2; clear es0 b1' hb1 hb2)
  gi_loopw [6, 7, 22] (fun f b i wr => ∃ k : Nat, k ≤ l.length ∧ f = .int .i64 (l.take k).sum ∧ b = .int .i64 (cumS whole l k) ∧ i = .int .i64 k ∧ ESA com n₀ b1 whole a l W J k wr)
    (fun _ _ i _ => l.length - (intOf i).toNat)
  case atStart => exact ⟨0, Nat.zero_le _, by simp, by rw [cum_zero], rfl, es1⟩
  case round =>
    obtain ⟨k, hk, hf, hbf, rfl, es⟩ := hrel
    obtain ⟨fk, hfk⟩ : ∃ x, x = (l.take k).sum := ⟨_, rfl⟩
    obtain ⟨ck, hck⟩ : ∃ x, x = cumS whole l k := ⟨_, rfl⟩
    rw [← hfk] at hf
    rw [← hck] at hbf
    subst hf hbf
    by_cases hlt : k < l.length
    · obtain ⟨hyin, bb, off, rfl, hB, hcy⟩ := es.row k hlt
      have hc1 := es.c1
      have hsum := sum_snoc l k hlt
      have hlo := sum_nn HN.out (k + 1)
      have hhi := sum_le HN.out (k + 1)
      have hcb := share_bd HH.out k
      have e1 := rat_cum HH.out HW.out.2 (k + 1)
      obtain ⟨y, hy0⟩ : ∃ x, x = l.getD k 0 := ⟨_, rfl⟩
      obtain ⟨f1, hf1⟩ : ∃ x, x = (l.take (k + 1)).sum := ⟨_, rfl⟩
      obtain ⟨d1, hd1⟩ : ∃ x, x = cumS whole l (k + 1) := ⟨_, rfl⟩
      obtain ⟨z, hz⟩ : ∃ x, x = shareK whole l k := ⟨_, rfl⟩
      rw [← hy0] at hcy hyin hsum
      rw [← hf1] at hsum hlo hhi e1
      rw [← hfk] at hsum
      rw [← hd1] at e1
      rw [← HS.out] at e1 hhi
      rw [← hz] at hcb
      have hz' : z = d1 - ck := by rw [hz, hd1, hck]; rfl
      have cr := fun w' => ratio_any whole f1 s w' HW.out.2 (by have := HG.out.2.2; rw [← HS.out] at this; omega) (by rw [HS.out]; exact HG.out.2.2)
      rw [e1] at cr
      have hw1 : wrap64 (fk + y) = f1 := by
        rw [← hsum]; have := HG.out.2.2; rw [← HS.out] at this; unfold wrap64; omega
      have hw2 : wrap64 (d1 - ck) = z := by
        have := HW.out; unfold inR at this; rw [← hz']; unfold wrap64; omega
      have HZ := Lib.hid (And.intro hz (And.intro hf1 hd1))
      clear hsum hlo hhi e1 hcb hyin hy0 hf1 hd1 hz hz' hfk hck
      gi_wp2_with fail
      refine ⟨trivial, fun hd => (by cases hd), ?_⟩
      refine (callsIn_wide.2 (cr _)).mono ?_
      rintro e w2 ⟨rfl, b2'⟩
      have es2 := es.old b2' hJ (by omega) hn₀
      have hYk := hY _ (com k) w2 es2.got (by rw [uptoS_length]; exact hlt)
      rw [hcom k hlt, ← HZ.out.1] at hYk
      obtain ⟨fn, tmps, assign, body, hy, hR⟩ := hYk
      clear es b2' hc1 hcy cr
      gi_wp2
      refine ⟨fun hd => (by cases hd), ?_⟩
      refine hR.mono ?_
      rintro e W3 (⟨rfl, hJ3, hk3⟩ | ⟨rfl, hJx3⟩)
      · have es3 := es2.next hk3 h1 hx ha hJ3
        clear hR hy es2 hJ3 hk3
        gi_wp2
        go_roundw
        case rel => exact ⟨k + 1, by omega, by rw [← HZ.out.2.1], by rw [← HZ.out.2.2], by go_num, es3⟩
        case measure => simp [intOf]; omega
      · clear hR hy es2
        gi_wp2
        refine bodyPost_ret (results_none rfl _ _ _) rfl ?_
        refine ⟨⟨_, rfl⟩, .inr ⟨_, ⟨k + 1, by omega, by omega, rfl⟩, ?_⟩⟩
        rw [uptoS_succ]
        exact hJx3
    · obtain rfl : k = l.length := by omega
      gi_wp2
      go_end0
      exact ⟨⟨_, rfl⟩, .inl ⟨_, rfl, es.got⟩⟩

/-- What comes if all come. -/
def allA {α : Type} (com : Nat → α) (whole : Int) (l : List Int) : List α := if rightS whole l then uptoS com l.length else []
theorem each_stopsA {α : Type} (com : Nat → α) (encs : α → Array Value) (m n₀ b1 b2 bx : Nat) (whole : Int) (a : Option Addr) (cap : Nat) (l : List Int) (w : World)
    (hcom : ∀ k, k < l.length → encs (com k) = #[.int .i64 (k : Int), .int .i64 (shareK whole l k)]) (hn : l.length ≤ 1000000) (hw : inR whole) (hb1 : w.cell? ⟨b1, 0, none⟩ = some (.int .i64 whole)) (hb2 : w.cell? ⟨b2, 0, none⟩ = some (.slice a l.length cap))
    (h1 : b1 < n₀) (h2 : b2 < n₀) (hx : b1 ≠ bx) (ha : Off a l bx) (hn₀ : n₀ ≤ w.heap.size) (hr : IRow n₀ w a l) :
    SeqStopsK Fence.wide m Try.prog 42 #[.pointer (some ⟨b1, 0, none⟩), .pointer (some ⟨b2, 0, none⟩)] encs (SBut n₀ bx)
      (fun ys => ys = allA com whole l) (fun pre => rightS whole l = true ∧ ∃ k, 1 ≤ k ∧ k ≤ l.length ∧ pre = uptoS com k) l.length w := fun l0 J Jx W hW hJ _ hY h0 => by
  have c1 := (hW.cell (p := ⟨b1, 0, none⟩) (by simp; omega)).trans hb1
  have c2 := (hW.cell (p := ⟨b2, 0, none⟩) (by simp; omega)).trans hb2
  have hr' := hr.carry hW hn₀
  have hs := hW.size
  by_cases h : rightS whole l = true
  · refine (each1_yesA com encs m l0 n₀ b1 b2 bx whole a cap l J Jx W hcom hn hw h hY hJ c1 c2 h1 h2 hx ha (by omega) hr' h0).mono ?_
    rintro e W' ⟨hv, ⟨ys, rfl, hj⟩ | ⟨pre, hp, hj⟩⟩
    · exact ⟨hv, .inl ⟨_, by unfold allA; rw [if_pos h], hj⟩⟩
    · exact ⟨hv, .inr ⟨pre, ⟨h, hp⟩, hj⟩⟩
  · have h' : rightS whole l = false := by simpa using h
    have cb := base_any whole a cap l W hn (hr'.mono (by omega))
    have e2 : baseR whole l = ((baseR whole l).1, false) := by rw [← rightS_no h']
    rw [e2] at cb
    refine (each1_no m l0 b1 b2 whole _ a l.length cap W c1 c2 cb).mono ?_
    rintro e W' ⟨hv, hb⟩
    refine ⟨hv, .inl ⟨[], by unfold allA; rw [h']; rfl, ?_⟩⟩
    exact hJ _ _ _ none h0 (grown_of hb) (fun _ e => by cases e)
end Go.Proofs.Ytojphpncidjdiaa
