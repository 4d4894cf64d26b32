/- CodecReads: the walk. -/
import Derived.Test.YtbadkfocfgojlaaLAw
import Derived.Test.YtbadkfocfgojlaaXReadC
namespace Go.Proofs.Ytbadkfocfgojlaa
open Go.RowKit
set_option linter.unusedVariables false
set_option linter.unusedSimpArgs false

theorem Row.far {w w' : World} {a : Option Addr} {cap : Nat} {l : List Int} {B : Nat} (h : ∀ x, Below B w x → Row x a cap l) {x : World} (hx : Below B w x) : Row x a cap l := h x hx
/-- What a reading leaves, at either reader. -/
def Told (v : Value) (y : World) (B : Nat) (L : List Int) : Prop := ∃ a c, v = .slice a L.length c ∧ OwnK .i64 2 y B v L
set_option maxRecDepth 20000 in
set_option maxHeartbeats 10000000 in
theorem reads_in (a : Option Addr) (cap : Nat) (bs : List Int) (hB : Byt bs) (hb : bs.length ≤ 500) (a2 : Option Addr) (cap2 : Nat) (l : List OpD) (hwf : ∀ o ∈ l, o.wf) (hlen : l.length ≤ 9223372036854775807) (w : World) (hr : Row w a cap bs) (ho : Ops w a2 cap2 l) :
    Calls Try.prog 4 #[.slice a bs.length cap, .slice a2 l.length cap2] w fun e w' => e = .returned (.bool true) ∧ Below w.heap.size w w' := by
  have cl := large_any a2 cap2 l hwf hlen w ho
  have hd : decide ((500 : Int) < (bs.length : Int)) = false := by simp; omega
  have HRow := Lib.hid (fun (x : World) (hx : Below w.heap.size w x) => hr.carry hx)
  have HOps := Lib.hid (fun (x : World) (hx : Below w.heap.size w x) => ho.carry hx)
  clear hr ho
  go_enter Try.func4, Try.ntmps4
  go_wp2_with fail
  refine cl.mono ?_
  rintro e w' ⟨z, rfl, hz, rfl⟩
  clear cl hwf hlen
  rcases Bool.eq_false_or_eq_true z with rfl | rfl
  · go_wp2_with (go_at_call 8; refine (awake_any _).mono ?_; rintro e w4 ⟨rfl, b4⟩)
    go_ret
    exact ⟨rfl, b4⟩
  obtain ⟨hl, hok⟩ := hz rfl
  clear hz
  go_wp2_with fail
  refine (open_any a cap bs.length w).mono ?_
  rintro e w1 ⟨rfl, R1, b1⟩
  have X1 : RdAt (w1.alloc (.cells #[.slice a bs.length cap, .int .i64 0, .bool false] 32)) w1.heap.size a cap bs.length (0 : Nat) false := heap_alloc_new _ _
  have R2 := R1.old (bel1 w1 (.cells #[.slice a bs.length cap, .int .i64 0, .bool false] 32))
  have b2 := bstep b1 (bel1 w1 (.cells #[.slice a bs.length cap, .int .i64 0, .bool false] 32)) b1.size
  have hg1 : w.heap.size ≤ w.heap.size := Nat.le_refl _
  have hg2 := b1.size
  have hne : w.heap.size ≠ w1.heap.size := by have := R1.lt; omega
  obtain ⟨gr, hgr⟩ : ∃ gr, gr = w.heap.size := ⟨_, rfl⟩
  rw [← hgr] at R2 hne ⊢
  replace hgr : w.heap.size ≤ gr := by omega
  go_wp2_with fail
  generalize w1.alloc (.cells #[.slice a bs.length cap, .int .i64 0, .bool false] 32) = W at X1 R2 b2 ⊢
  generalize w1.heap.size = gx at *
  go_loopw [7] (fun i wr => ∃ (k p : Nat) (st : Bool), k ≤ l.length ∧ p ≤ bs.length ∧ i = .int .i64 k ∧ CdAt wr gr a cap bs.length p st ∧ RdAt wr gx a cap bs.length p st ∧ Below w.heap.size w wr) (fun i _ => l.length - (intOf i).toNat)
  case atStart => exact ⟨0, 0, false, Nat.zero_le _, Nat.zero_le _, rfl, R2, X1, b2⟩
  case round =>
    clear R1 b1 X1 R2 b2 hg1
    obtain ⟨k, p, st, hk, hp, rfl, R, X, bw⟩ := hrel
    by_cases hlt : k < l.length
    · obtain ⟨b, off, o, rfl, hBo, hoj, h0, h1, h2, h3, al, cl, h4, h5⟩ := (HOps.out wr bw).2 k hlt
      have hlow : b < w.heap.size := by
        obtain ⟨b', off', o2, e2, hB2, _⟩ := (HOps.out w (Below.refl _ _)).2 k hlt
        obtain ⟨rfl, rfl⟩ : b = b' ∧ off = off' := by simpa using e2
        exact hB2
      have hk1 := hok o (List.mem_of_getElem? hoj)
      have hsz := hk1.2.2.2.1
      have hq := readR_le bs p st o hp hB
      have hL := readR_len bs p st o hp (by omega) hB
      have cr := fun x hx hx' => read_any gr a cap bs p st o al cl (by omega) hp (by omega) hB x hx hx'
      have cd := fun x hx hx' => rread_any gx a cap bs p st o al cl (by omega) hp (by omega) hB x hx hx'
      obtain ⟨⟨L, q, t⟩, hres⟩ : ∃ r, r = readR bs p st o := ⟨_, rfl⟩
      rw [← hres] at hq hL cr cd
      simp only at hq hL cr cd
      clear hres hoj h5 hk1
      obtain ⟨ok, os, on, ob, ol⟩ := o
      unfold opV at cr cd
      simp only at h0 h1 h2 h3 h4 hsz cr cd
      have hgrl := R.lt
      have hgxl := X.lt
      have CE := Lib.hid (show ∀ x, Near (fun i => i = gr ∨ i = gx) wr x → x.cell? ⟨b, off + k * 5, none⟩ = some (.int .i64 ok) ∧ x.cell? ⟨b, off + k * 5 + 1, none⟩ = some (.string os) ∧ x.cell? ⟨b, off + k * 5 + 2, none⟩ = some (.int .i64 on) ∧ x.cell? ⟨b, off + k * 5 + 3, none⟩ = some (.bool ob) ∧ x.cell? ⟨b, off + k * 5 + 4, none⟩ = some (.slice al ol.length cl) from
        fun x hx => by
          have hnm : ¬ (b = gr ∨ b = gx) := by omega
          exact ⟨(hx.cell hBo hnm).trans h0, (hx.cell hBo hnm).trans h1, (hx.cell hBo hnm).trans h2, (hx.cell hBo hnm).trans h3, (hx.cell hBo hnm).trans h4⟩)
      have c1 : ∀ x, Old wr x → Calls Try.prog 14 #[.pointer (some ⟨gr, 0, none⟩), .agg #[.int .i64 ok, .string os, .int .i64 on, .bool ob, .slice al ol.length cl]] x fun e y => ∃ v, e = .returned v ∧ (OwnK .i64 2 y wr.heap.size v L ∧ CdAt y gr a cap bs.length q t ∧ But gr wr y) ∧ Near (fun i => i = gr ∨ i = gx) x y := fun x hx =>
        (cr x (R.old hx) (HRow.out x (bstep bw hx bw.size))).mono fun e y ⟨v, he, ho, hR, hb⟩ => ⟨v, he, ⟨ho.lower hx.size, hR, But.trans (But.of hx) hb⟩, ⟨hb.os, hb.tape, hb.output, hb.size, fun i hi hn => hb.block i hi (fun e => hn (.inl (by injection e)))⟩⟩
      have hki : (k : Int) < (l.length : Int) := by omega
      have hkl : ¬ l.length ≤ k := by omega
      clear h0 h1 h2 h3 h4 cr
      go_wp2_with fail
      (refine wp_region_planU 51 [(0, true), (1, true), (2, true), (3, true), (4, true), (6, true), (7, true), (8, true), (9, true), (10, true), (5, false), (11, false), (12, true), (13, true), (14, true), (15, true), (16, true), (17, true), (18, true), (19, true), (20, true), (21, true), (22, true), (23, true), (24, true), (25, true), (26, true), (27, true), (28, true), (29, true), (30, true), (31, true), (32, true), (33, true), (34, true), (35, true), (36, true), (37, true), (38, true), (39, true), (40, true), (41, true), (42, true), (43, true), (44, true), (45, true), (46, true), (47, true), (48, true), (49, true), (50, true)] (fun i => i = gr ∨ i = gx) (by kernel_rfl) (by kernel_rfl) ?_; simp only [pick, List.getElem?_cons_succ, List.getElem?_cons_zero, List.drop_succ_cons, List.drop_zero])
      repeat (first | (apply TextU.sees (hw := by kernel_rfl); (focus (intro x hx K hK; have hc := CE.out x hx; go_simp; exact hK)); simp only [Act.put, List.getElem_toArray, List.getElem_cons_succ, List.getElem_cons_zero, List.setIfInBounds_toArray, List.set_cons_zero, List.set_cons_succ]) | (apply TextU.idle; (focus (intro x hx K hK; go_simp; exact hK)); simp only [Act.put, List.getElem_toArray, List.getElem_cons_succ, List.getElem_cons_zero, List.setIfInBounds_toArray, List.set_cons_zero, List.set_cons_succ]))
      (refine TextU.loud (fun i => i = gr ∨ i = gx) (V := fun v y => OwnK .i64 2 y wr.heap.size v L ∧ CdAt y gr a cap bs.length q t ∧ But gr wr y) (fun _ h => h) (fun x hx => c1 x hx) (by kernel_rfl) (fun _ => by kernel_rfl) (fun v y hv _ => ?_); simp only [Act.put, List.getElem_toArray, List.getElem_cons_succ, List.getElem_cons_zero, List.setIfInBounds_toArray, List.set_cons_zero, List.set_cons_succ])
      obtain ⟨o1, R1, B1⟩ := hv
      obtain ⟨a1, k1, rfl, _⟩ := o1.row
      have X1 := X.but B1 (Ne.symm hne)
      have by1 := Below.trans bw (B1.below hgr bw.size)
      have c2 : ∀ x, Old y x → Calls Try.prog 15 #[.pointer (some ⟨gx, 0, none⟩), .agg #[.int .i64 ok, .string os, .int .i64 on, .bool ob, .slice al ol.length cl]] x fun e z => ∃ v, e = .returned v ∧ (OwnK .i64 2 z wr.heap.size v L ∧ RdAt z gx a cap bs.length q t ∧ But gx y z) ∧ Near (fun i => i = gr ∨ i = gx) x z := fun x hx =>
        (cd x (X1.old hx) (HRow.out x (bstep by1 hx by1.size))).mono fun e z ⟨v, he, ho, hR, hb⟩ => ⟨v, he, ⟨ho.lower (Nat.le_trans B1.size hx.size), hR, But.trans (But.of hx) hb⟩, ⟨hb.os, hb.tape, hb.output, hb.size, fun i hi hn => hb.block i hi (fun e => hn (.inr (by injection e)))⟩⟩
      (refine TextU.loud (fun _ => False) (V := fun v z => OwnK .i64 2 z wr.heap.size v L ∧ RdAt z gx a cap bs.length q t ∧ But gx y z) (fun _ h => h.elim) (fun x hx => c2 x hx) (by kernel_rfl) (fun _ => by kernel_rfl) (fun v z hv _ => ?_); simp only [Act.put, List.getElem_toArray, List.getElem_cons_succ, List.getElem_cons_zero, List.setIfInBounds_toArray, List.set_cons_zero, List.set_cons_succ])
      obtain ⟨o2, X2, B2⟩ := hv
      obtain ⟨a3, k3, rfl, r2⟩ := o2.row
      have R2 := R1.but B2 hne
      obtain ⟨_, _, e1, r1⟩ := (o1.but B2 hgxl).row
      obtain ⟨rfl, rfl⟩ : _ ∧ _ := by simpa using e1
      have bz := Below.trans by1 (B2.below hg2 by1.size)
      clear c1 c2 cd CE o1 o2 X1 R1 B1 B2 by1 bw R X e1
      have cn : ∀ x, Near (fun _ => False) z x → Calls Try.prog 13 #[.slice a1 L.length k1, .slice a3 L.length k3] x fun e y => e = .returned (.bool true) ∧ Below x.heap.size x y := fun x hx =>
        (nums_any a1 a3 k1 k3 L L x hL hL (r1.carry hx.old) (r2.carry hx.old)).mono fun e y ⟨he, hb⟩ => ⟨by rw [he, decide_eq_true rfl], hb⟩
      have cR : ∀ x, Near (fun _ => False) z x → Calls Try.prog 16 #[.pointer (some ⟨gr, 0, none⟩)] x fun e y => e = .returned (.bool (!t)) ∧ Below x.heap.size x y := fun x hx =>
        (right_any gr a cap bs.length q t x (R2.old hx.old)).mono fun e y ⟨he, hb⟩ => by subst hb; exact ⟨he, Below.refl _ _⟩
      have cA : ∀ x, Near (fun _ => False) z x → Calls Try.prog 17 #[.pointer (some ⟨gr, 0, none⟩)] x fun e y => e = .returned (.int .i64 q) ∧ Below x.heap.size x y := fun x hx =>
        (at_any gr a cap bs.length q t x (R2.old hx.old)).mono fun e y ⟨he, hb⟩ => by subst hb; exact ⟨he, Below.refl _ _⟩
      have cE : ∀ x, Near (fun _ => False) z x → Calls Try.prog 18 #[.pointer (some ⟨gr, 0, none⟩)] x fun e y => e = .returned (.int .i64 (endR t q bs.length)) ∧ Below x.heap.size x y := fun x hx =>
        end_any gr a cap bs.length q t hq.1 (by omega) x (R2.old hx.old)
      have CX := Lib.hid (show ∀ x, Near (fun _ => False) z x → x.cell? ⟨gx, 1, none⟩ = some (.int .i64 q) ∧ x.cell? ⟨gx, 2, none⟩ = some (.bool t) from fun x hx => ⟨(X2.old hx.old).c1, (X2.old hx.old).c2⟩)
      have HF := Lib.hid (show ∀ x, Old z x → ∃ (k' p : Nat) (st : Bool), k' ≤ l.length ∧ p ≤ bs.length ∧ (Value.int .i64 ((k : Int) + 1)) = .int .i64 k' ∧ CdAt x gr a cap bs.length p st ∧ RdAt x gx a cap bs.length p st ∧ Below w.heap.size w x from
        fun x hx => ⟨k + 1, q, t, by omega, hq.1, by simp, R2.old hx, X2.old hx, bstep bz hx bz.size⟩)
      clear R2 X2 bz r1 r2 hL
      cases t with
      | true =>
        rw [Bool.not_true] at cR
        rw [show endR true q bs.length = 2 from rfl] at cE
        (refine TextU.call (fun x hx => cn x hx) (by kernel_rfl) (fun _ => by kernel_rfl) ?_; simp only [Act.put, List.getElem_toArray, List.getElem_cons_succ, List.getElem_cons_zero, List.setIfInBounds_toArray, List.set_cons_zero, List.set_cons_succ])
        repeat (first | (apply TextU.sees (hw := by kernel_rfl); (focus (intro x hx K hK; have hc := CX.out x hx; go_simp; exact hK)); simp only [Act.put, List.getElem_toArray, List.getElem_cons_succ, List.getElem_cons_zero, List.setIfInBounds_toArray, List.set_cons_zero, List.set_cons_succ]) | (apply TextU.idle; (focus (intro x hx K hK; go_simp; exact hK)); simp only [Act.put, List.getElem_toArray, List.getElem_cons_succ, List.getElem_cons_zero, List.setIfInBounds_toArray, List.set_cons_zero, List.set_cons_succ]))
        (refine TextU.call (fun x hx => cR x hx) (by kernel_rfl) (fun _ => by kernel_rfl) ?_; simp only [Act.put, List.getElem_toArray, List.getElem_cons_succ, List.getElem_cons_zero, List.setIfInBounds_toArray, List.set_cons_zero, List.set_cons_succ])
        repeat (first | (apply TextU.sees (hw := by kernel_rfl); (focus (intro x hx K hK; have hc := CX.out x hx; go_simp; exact hK)); simp only [Act.put, List.getElem_toArray, List.getElem_cons_succ, List.getElem_cons_zero, List.setIfInBounds_toArray, List.set_cons_zero, List.set_cons_succ]) | (apply TextU.idle; (focus (intro x hx K hK; go_simp; exact hK)); simp only [Act.put, List.getElem_toArray, List.getElem_cons_succ, List.getElem_cons_zero, List.setIfInBounds_toArray, List.set_cons_zero, List.set_cons_succ]))
        (refine TextU.call (fun x hx => cA x hx) (by kernel_rfl) (fun _ => by kernel_rfl) ?_; simp only [Act.put, List.getElem_toArray, List.getElem_cons_succ, List.getElem_cons_zero, List.setIfInBounds_toArray, List.set_cons_zero, List.set_cons_succ])
        repeat (first | (apply TextU.sees (hw := by kernel_rfl); (focus (intro x hx K hK; have hc := CX.out x hx; go_simp; exact hK)); simp only [Act.put, List.getElem_toArray, List.getElem_cons_succ, List.getElem_cons_zero, List.setIfInBounds_toArray, List.set_cons_zero, List.set_cons_succ]) | (apply TextU.idle; (focus (intro x hx K hK; go_simp; exact hK)); simp only [Act.put, List.getElem_toArray, List.getElem_cons_succ, List.getElem_cons_zero, List.setIfInBounds_toArray, List.set_cons_zero, List.set_cons_succ]))
        (refine TextU.call (fun x hx => cE x hx) (by kernel_rfl) (fun _ => by kernel_rfl) ?_; simp only [Act.put, List.getElem_toArray, List.getElem_cons_succ, List.getElem_cons_zero, List.setIfInBounds_toArray, List.set_cons_zero, List.set_cons_succ])
        repeat (first | (apply TextU.sees (hw := by kernel_rfl); (focus (intro x hx K hK; have hc := CX.out x hx; go_simp; exact hK)); simp only [Act.put, List.getElem_toArray, List.getElem_cons_succ, List.getElem_cons_zero, List.setIfInBounds_toArray, List.set_cons_zero, List.set_cons_succ]) | (apply TextU.idle; (focus (intro x hx K hK; go_simp; exact hK)); simp only [Act.put, List.getElem_toArray, List.getElem_cons_succ, List.getElem_cons_zero, List.setIfInBounds_toArray, List.set_cons_zero, List.set_cons_succ]))
        apply TextU.done
        intro x hx
        go_wp2
        go_roundw
        case rel => exact HF.out x hx
        case measure => simp [intOf]; omega
      | false =>
        rw [Bool.not_false] at cR
        by_cases hqn : q = bs.length
        · rw [show endR false q bs.length = 0 from if_pos ⟨rfl, hqn⟩] at cE
          have hqe : ((q : Int) == (bs.length : Int)) = true := by simp [hqn]
          (refine TextU.call (fun x hx => cn x hx) (by kernel_rfl) (fun _ => by kernel_rfl) ?_; simp only [Act.put, List.getElem_toArray, List.getElem_cons_succ, List.getElem_cons_zero, List.setIfInBounds_toArray, List.set_cons_zero, List.set_cons_succ])
          repeat (first | (apply TextU.sees (hw := by kernel_rfl); (focus (intro x hx K hK; have hc := CX.out x hx; go_simp; exact hK)); simp only [Act.put, List.getElem_toArray, List.getElem_cons_succ, List.getElem_cons_zero, List.setIfInBounds_toArray, List.set_cons_zero, List.set_cons_succ]) | (apply TextU.idle; (focus (intro x hx K hK; go_simp; exact hK)); simp only [Act.put, List.getElem_toArray, List.getElem_cons_succ, List.getElem_cons_zero, List.setIfInBounds_toArray, List.set_cons_zero, List.set_cons_succ]))
          (refine TextU.call (fun x hx => cR x hx) (by kernel_rfl) (fun _ => by kernel_rfl) ?_; simp only [Act.put, List.getElem_toArray, List.getElem_cons_succ, List.getElem_cons_zero, List.setIfInBounds_toArray, List.set_cons_zero, List.set_cons_succ])
          repeat (first | (apply TextU.sees (hw := by kernel_rfl); (focus (intro x hx K hK; have hc := CX.out x hx; go_simp; exact hK)); simp only [Act.put, List.getElem_toArray, List.getElem_cons_succ, List.getElem_cons_zero, List.setIfInBounds_toArray, List.set_cons_zero, List.set_cons_succ]) | (apply TextU.idle; (focus (intro x hx K hK; go_simp; exact hK)); simp only [Act.put, List.getElem_toArray, List.getElem_cons_succ, List.getElem_cons_zero, List.setIfInBounds_toArray, List.set_cons_zero, List.set_cons_succ]))
          (refine TextU.call (fun x hx => cA x hx) (by kernel_rfl) (fun _ => by kernel_rfl) ?_; simp only [Act.put, List.getElem_toArray, List.getElem_cons_succ, List.getElem_cons_zero, List.setIfInBounds_toArray, List.set_cons_zero, List.set_cons_succ])
          repeat (first | (apply TextU.sees (hw := by kernel_rfl); (focus (intro x hx K hK; have hc := CX.out x hx; go_simp; exact hK)); simp only [Act.put, List.getElem_toArray, List.getElem_cons_succ, List.getElem_cons_zero, List.setIfInBounds_toArray, List.set_cons_zero, List.set_cons_succ]) | (apply TextU.idle; (focus (intro x hx K hK; go_simp; exact hK)); simp only [Act.put, List.getElem_toArray, List.getElem_cons_succ, List.getElem_cons_zero, List.setIfInBounds_toArray, List.set_cons_zero, List.set_cons_succ]))
          (refine TextU.call (fun x hx => cE x hx) (by kernel_rfl) (fun _ => by kernel_rfl) ?_; simp only [Act.put, List.getElem_toArray, List.getElem_cons_succ, List.getElem_cons_zero, List.setIfInBounds_toArray, List.set_cons_zero, List.set_cons_succ])
          repeat (first | (apply TextU.sees (hw := by kernel_rfl); (focus (intro x hx K hK; have hc := CX.out x hx; go_simp; exact hK)); simp only [Act.put, List.getElem_toArray, List.getElem_cons_succ, List.getElem_cons_zero, List.setIfInBounds_toArray, List.set_cons_zero, List.set_cons_succ]) | (apply TextU.idle; (focus (intro x hx K hK; go_simp; exact hK)); simp only [Act.put, List.getElem_toArray, List.getElem_cons_succ, List.getElem_cons_zero, List.setIfInBounds_toArray, List.set_cons_zero, List.set_cons_succ]))
          apply TextU.done
          intro x hx
          go_wp2
          go_roundw
          case rel => exact HF.out x hx
          case measure => simp [intOf]; omega
        · rw [show endR false q bs.length = 2 from if_neg (fun h => hqn h.2)] at cE
          have hqe : ((q : Int) == (bs.length : Int)) = false := by simp; omega
          (refine TextU.call (fun x hx => cn x hx) (by kernel_rfl) (fun _ => by kernel_rfl) ?_; simp only [Act.put, List.getElem_toArray, List.getElem_cons_succ, List.getElem_cons_zero, List.setIfInBounds_toArray, List.set_cons_zero, List.set_cons_succ])
          repeat (first | (apply TextU.sees (hw := by kernel_rfl); (focus (intro x hx K hK; have hc := CX.out x hx; go_simp; exact hK)); simp only [Act.put, List.getElem_toArray, List.getElem_cons_succ, List.getElem_cons_zero, List.setIfInBounds_toArray, List.set_cons_zero, List.set_cons_succ]) | (apply TextU.idle; (focus (intro x hx K hK; go_simp; exact hK)); simp only [Act.put, List.getElem_toArray, List.getElem_cons_succ, List.getElem_cons_zero, List.setIfInBounds_toArray, List.set_cons_zero, List.set_cons_succ]))
          (refine TextU.call (fun x hx => cR x hx) (by kernel_rfl) (fun _ => by kernel_rfl) ?_; simp only [Act.put, List.getElem_toArray, List.getElem_cons_succ, List.getElem_cons_zero, List.setIfInBounds_toArray, List.set_cons_zero, List.set_cons_succ])
          repeat (first | (apply TextU.sees (hw := by kernel_rfl); (focus (intro x hx K hK; have hc := CX.out x hx; go_simp; exact hK)); simp only [Act.put, List.getElem_toArray, List.getElem_cons_succ, List.getElem_cons_zero, List.setIfInBounds_toArray, List.set_cons_zero, List.set_cons_succ]) | (apply TextU.idle; (focus (intro x hx K hK; go_simp; exact hK)); simp only [Act.put, List.getElem_toArray, List.getElem_cons_succ, List.getElem_cons_zero, List.setIfInBounds_toArray, List.set_cons_zero, List.set_cons_succ]))
          (refine TextU.call (fun x hx => cA x hx) (by kernel_rfl) (fun _ => by kernel_rfl) ?_; simp only [Act.put, List.getElem_toArray, List.getElem_cons_succ, List.getElem_cons_zero, List.setIfInBounds_toArray, List.set_cons_zero, List.set_cons_succ])
          repeat (first | (apply TextU.sees (hw := by kernel_rfl); (focus (intro x hx K hK; have hc := CX.out x hx; go_simp; exact hK)); simp only [Act.put, List.getElem_toArray, List.getElem_cons_succ, List.getElem_cons_zero, List.setIfInBounds_toArray, List.set_cons_zero, List.set_cons_succ]) | (apply TextU.idle; (focus (intro x hx K hK; go_simp; exact hK)); simp only [Act.put, List.getElem_toArray, List.getElem_cons_succ, List.getElem_cons_zero, List.setIfInBounds_toArray, List.set_cons_zero, List.set_cons_succ]))
          (refine TextU.call (fun x hx => cE x hx) (by kernel_rfl) (fun _ => by kernel_rfl) ?_; simp only [Act.put, List.getElem_toArray, List.getElem_cons_succ, List.getElem_cons_zero, List.setIfInBounds_toArray, List.set_cons_zero, List.set_cons_succ])
          repeat (first | (apply TextU.sees (hw := by kernel_rfl); (focus (intro x hx K hK; have hc := CX.out x hx; go_simp; exact hK)); simp only [Act.put, List.getElem_toArray, List.getElem_cons_succ, List.getElem_cons_zero, List.setIfInBounds_toArray, List.set_cons_zero, List.set_cons_succ]) | (apply TextU.idle; (focus (intro x hx K hK; go_simp; exact hK)); simp only [Act.put, List.getElem_toArray, List.getElem_cons_succ, List.getElem_cons_zero, List.setIfInBounds_toArray, List.set_cons_zero, List.set_cons_succ]))
          apply TextU.done
          intro x hx
          go_wp2
          go_roundw
          case rel => exact HF.out x hx
          case measure => simp [intOf]; omega
    · go_wp2_with (go_at_call 8; refine (awake_any _).mono ?_; rintro e w4 ⟨rfl, b4⟩)
      go_ret
      exact ⟨rfl, bstep bw b4 bw.size⟩
theorem reads_long (a : Option Addr) (cap : Nat) (len : Nat) (hb : 500 < len) (hlen' : len ≤ 9223372036854775807) (a2 : Option Addr) (cap2 : Nat) (l : List OpD) (hwf : ∀ o ∈ l, o.wf) (hlen : l.length ≤ 9223372036854775807) (w : World) (ho : Ops w a2 cap2 l) :
    Calls Try.prog 4 #[.slice a len cap, .slice a2 l.length cap2] w fun e w' => e = .returned (.bool true) ∧ Below w.heap.size w w' := by
  have cl := large_any a2 cap2 l hwf hlen w ho
  have hd : decide ((500 : Int) < (len : Int)) = true := by simp; omega
  go_enter Try.func4, Try.ntmps4
  go_wp2_with fail
  refine cl.mono ?_
  rintro e w' ⟨z, rfl, hz, rfl⟩
  clear cl hwf hlen hz
  cases z with
  | true =>
    go_wp2_with (go_at_call 8; refine (awake_any _).mono ?_; rintro e w4 ⟨rfl, b4⟩)
    go_ret
    exact ⟨rfl, b4⟩
  | false =>
    go_wp2_with (go_at_call 8; refine (awake_any _).mono ?_; rintro e w4 ⟨rfl, b4⟩)
    go_ret
    exact ⟨rfl, b4⟩
theorem codecReads_walk (a : Option Addr) (len cap : Nat) (zs : List Int) (a2 : Option Addr) (len2 cap2 : Nat) (l : List OpD) (w : World) (h : IsRow .u8 w a len cap zs) (h2 : IsOps w a2 len2 cap2 l) :
    Calls Try.prog 4 #[.slice a len cap, .slice a2 len2 cap2] w fun e w' => e = .returned (.bool true) ∧ Below w.heap.size w w' := by
  have hm : len ≤ 9223372036854775807 := by
    rcases h with ⟨rfl, rfl, _⟩ | ⟨x, rfl, hl, hm, hz, hc, hwf⟩
    · exact Nat.zero_le _
    · unfold maxLen at *; omega
  obtain ⟨bs, rfl, hr, hB⟩ := h.row
  obtain ⟨rfl, ho, hw2, hlen2⟩ := h2
  by_cases hb : bs.length ≤ 500
  · exact reads_in a cap bs hB hb a2 cap2 l hw2 hlen2 w hr ho
  · exact reads_long a cap bs.length (by omega) hm a2 cap2 l hw2 hlen2 w ho
end Go.Proofs.Ytbadkfocfgojlaa
