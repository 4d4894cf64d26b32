/- Lists of totals: package total's Sum and the document's. -/
import Derived.Test.YtaeglilffbdlkaaTAw
import Derived.Test.YtaeglilffbdlkaaFLeaf
import Derived.LoopN
namespace Go.Proofs.Ytaeglilffbdlkaa
open Go.RowKit
set_option linter.unusedVariables false
set_option linter.unusedSimpArgs false

def stepT (r : T6 × Bool) (t : T6) : T6 × Bool := bif r.2 then addT r.1 t else (zeroT, false)
/-- All of a list, added from left to right. -/
def sumT (l : List T6) : T6 × Bool := l.foldl stepT (zeroT, true)
theorem sumT_snoc (l : List T6) (k : Nat) (h : k < l.length) : sumT (l.take (k + 1)) = stepT (sumT (l.take k)) (l.getD k zeroT) := by
  unfold sumT
  rw [List.take_add_one, List.foldl_append]
  simp [h]
theorem stepT_dead (l : List T6) : l.foldl stepT (zeroT, false) = (zeroT, false) := by
  induction l with
  | nil => rfl
  | cons t l ih => exact ih
theorem sumT_dead (l : List T6) (k : Nat) (h : sumT (l.take k) = (zeroT, false)) : sumT l = (zeroT, false) := by
  unfold sumT at *
  rw [← List.take_append_drop k l, List.foldl_append, h]
  exact stepT_dead _
theorem zeroT_in : inT zeroT := ⟨by decide, by decide, by decide, by decide, by decide, by decide⟩
theorem pairT_dead (f : Int → Int → Int × Bool) (a b : T6) (h : (pairT f a b).2 = false) : pairT f a b = (zeroT, false) := by
  unfold pairT at *
  cases h' : allT f a b
  · rfl
  · rw [h'] at h; cases h
theorem pairT_in (f : Int → Int → Int × Bool) (hf : ∀ x y, inR (f x y).1) (a b : T6) : inT (pairT f a b).1 := by
  unfold pairT
  cases h' : allT f a b
  · exact zeroT_in
  · exact ⟨hf _ _, hf _ _, hf _ _, hf _ _, hf _ _, hf _ _⟩
theorem addT_in (a b : T6) : inT (addT a b).1 := pairT_in _ (fun x y => fit_in _) a b
theorem subT_in (a b : T6) : inT (subT a b).1 := pairT_in _ (fun x y => fit_in _) a b
theorem stepT_in (r : T6 × Bool) (t : T6) : inT (stepT r t).1 := by
  unfold stepT
  cases r.2
  · exact zeroT_in
  · exact addT_in _ _
/-- The totals of a list lie where a slice says. -/
def TRow (w : World) (a : Option Addr) (l : List T6) : Prop := ∀ k, k < l.length → inT (l.getD k zeroT) ∧ ∃ b off, a = some ⟨b, off, none⟩ ∧ b < w.heap.size ∧ w.cell? ⟨b, off + k * 6, none⟩ = some (.int .i64 (l.getD k zeroT).n) ∧ w.cell? ⟨b, off + k * 6 + 1, none⟩ = some (.int .i64 (l.getD k zeroT).s0) ∧ w.cell? ⟨b, off + k * 6 + 2, none⟩ = some (.int .i64 (l.getD k zeroT).s1) ∧ w.cell? ⟨b, off + k * 6 + 3, none⟩ = some (.int .i64 (l.getD k zeroT).s2) ∧ w.cell? ⟨b, off + k * 6 + 4, none⟩ = some (.int .i64 (l.getD k zeroT).s3) ∧ w.cell? ⟨b, off + k * 6 + 5, none⟩ = some (.int .i64 (l.getD k zeroT).h)
theorem TRow.carry {w w' : World} {a : Option Addr} {l : List T6} (h : TRow w a l) (hb : Below w.heap.size w w') : TRow w' a l := fun k hk => by
  obtain ⟨hi, b, off, rfl, hB, h0, h1, h2, h3, h4, h5⟩ := h k hk
  have e : ∀ j, w'.cell? ⟨b, off + k * 6 + j, none⟩ = w.cell? ⟨b, off + k * 6 + j, none⟩ := fun j => hb.cell (p := ⟨b, off + k * 6 + j, none⟩) hB
  exact ⟨hi, b, off, rfl, Nat.lt_of_lt_of_le hB hb.size, (hb.cell (p := ⟨b, off + k * 6, none⟩) hB).trans h0, (e 1).trans h1, (e 2).trans h2, (e 3).trans h3, (e 4).trans h4, (e 5).trans h5⟩
set_option maxHeartbeats 2000000 in
theorem sum_walk (a : Option Addr) (cap : Nat) (l : List T6) (w : World) (hn : l.length ≤ 60) (hr : TRow w a l) :
    Calls Try.prog 19 #[.slice a l.length cap] w fun e w' => e = .returned (twoT (sumT l)) ∧ Below w.heap.size w w' := by
  have HR := Lib.hid hr
  clear hr
  go_enter Try.func19, Try.ntmps19
  go_wp2_with fail
  go_loopw [11] (fun i wr => ∃ (k : Nat) (x : T6), k ≤ l.length ∧ i = .int .i64 k ∧ Below w.heap.size w wr ∧ Blk wr w.heap.size #[.int .i64 0, .int .i64 0, .int .i64 0, .int .i64 0, .int .i64 0, .int .i64 0] 25 ∧ Blk wr (w.heap.size + 1) #[.int .i64 x.n, .int .i64 x.s0, .int .i64 x.s1, .int .i64 x.s2, .int .i64 x.s3, .int .i64 x.h] 25 ∧ sumT (l.take k) = (x, true) ∧ inT x) (fun i _ => l.length - (intOf i).toNat)
  case atStart =>
    exact ⟨0, zeroT, Nat.zero_le _, rfl, tbel2 _ _ _, (blk_new w #[.int .i64 0, .int .i64 0, .int .i64 0, .int .i64 0, .int .i64 0, .int .i64 0] 25).alloc _, blk_two w _ _ _, rfl, zeroT_in⟩
  case round =>
    obtain ⟨k, x, hk, rfl, hbl, hz, hs, hx, hi⟩ := hrel
    have HX := Lib.hid hx
    have s6 := hs.six
    have r6 := hz.six
    have f6 := hz.six_free
    have l1 := hs.lt
    clear hx
    by_cases hlt : k < l.length
    · obtain ⟨hiy, b, off, rfl, hB, h0, h1, h2, h3, h4, h5⟩ := HR.out.carry hbl k hlt
      have HY := Lib.hid (sumT_snoc l k hlt)
      generalize l.getD k zeroT = y at HY h0 h1 h2 h3 h4 h5 hiy
      go_wp2_with fail
      refine (TAdd_any x y _ hi hiy).mono ?_
      rintro e w1 ⟨rfl, u1⟩
      have hbl1 := tstep (hbl.alloc hbl.size _) u1 (Nat.le_trans hbl.size (by simp))
      have hz1 := (hz.alloc _).old u1
      have hs1 := (hs.alloc _).old u1
      have hq : inT (addT x y).1 := addT_in x y
      have HD := Lib.hid (pairT_dead addR x y)
      have HQ := Lib.hid (HY.out.trans (by rw [HX.out]; rfl : stepT (sumT (l.take k)) y = addT x y))
      change RowKit.Hid ((addT x y).2 = false → addT x y = (zeroT, false)) at HD
      clear u1 hbl hz hs s6 r6 f6 h0 h1 h2 h3 h4 h5 HY HX hiy hi hB
      generalize addT x y = q at hq HQ HD ⊢
      obtain ⟨q, f⟩ := q
      simp only at hq
      have s6 := (hs1.alloc (.cells #[.int .i64 q.n, .int .i64 q.s0, .int .i64 q.s1, .int .i64 q.s2, .int .i64 q.s3, .int .i64 q.h] 25)).six
      have s7 := (hs1.alloc (.cells #[.int .i64 q.n, .int .i64 q.s0, .int .i64 q.s1, .int .i64 q.s2, .int .i64 q.s3, .int .i64 q.h] 25)).six_free
      have r6 := (hz1.alloc (.cells #[.int .i64 q.n, .int .i64 q.s0, .int .i64 q.s1, .int .i64 q.s2, .int .i64 q.s3, .int .i64 q.h] 25)).six
      have f6 := (hz1.alloc (.cells #[.int .i64 q.n, .int .i64 q.s0, .int .i64 q.s1, .int .i64 q.s2, .int .i64 q.s3, .int .i64 q.h] 25)).six_free
      unfold twoT tot
      cases f
      · go_wp2
        refine bodyPost_ret (v := .tuple #[.agg #[.int .i64 0, .int .i64 0, .int .i64 0, .int .i64 0, .int .i64 0, .int .i64 0], .bool false]) (by simp [results, Try.results19, go_sem, *]) rfl ⟨?_, Below.new6 (hbl1.alloc hbl1.size _) (by omega) _ _ _ _ _ _⟩
        have e := HQ.out
        rw [HD.out (by simp)] at e
        rw [sumT_dead l _ e]
        rfl
      · go_wp2_with fail
        go_roundw
        case rel =>
          refine ⟨k + 1, q, by omega, by go_num, Below.new6 (hbl1.alloc hbl1.size _) (by omega) _ _ _ _ _ _, (hz1.alloc _).other6 (by omega) _ _ _ _ _ _, (hs1.alloc _).set6 _ _ _ _ _ _, HQ.out, hq⟩
        case measure => simp [intOf]; omega
    · go_wp2
      refine bodyPost_ret (v := .tuple #[.agg #[.int .i64 x.n, .int .i64 x.s0, .int .i64 x.s1, .int .i64 x.s2, .int .i64 x.s3, .int .i64 x.h], .bool true]) (by simp [results, Try.results19, go_sem, *]) rfl ⟨?_, Below.new6 hbl (by omega) _ _ _ _ _ _⟩
      have e := HX.out
      rw [List.take_of_length_le (by omega)] at e
      rw [e]; rfl
theorem Blk.other7 {w : World} {g b T : Nat} {cs : Array Value} (h : Blk w g cs T) (hb : g ≠ b) (v0 v1 v2 v3 v4 v5 v6 : Value) : Blk (((((((w.setCell ⟨b, 0, none⟩ v0).setCell ⟨b, 1, none⟩ v1).setCell ⟨b, 2, none⟩ v2).setCell ⟨b, 3, none⟩ v3).setCell ⟨b, 4, none⟩ v4).setCell ⟨b, 5, none⟩ v5).setCell ⟨b, 6, none⟩ v6) g cs T :=
  (h.other6 hb v0 v1 v2 v3 v4 v5).other hb 6 v6
theorem Blk.set7 {w : World} {g T : Nat} {u0 u1 u2 u3 u4 u5 u6 : Value} (h : Blk w g #[u0, u1, u2, u3, u4, u5, u6] T) (v0 v1 v2 v3 v4 v5 v6 : Value) : Blk (((((((w.setCell ⟨g, 0, none⟩ v0).setCell ⟨g, 1, none⟩ v1).setCell ⟨g, 2, none⟩ v2).setCell ⟨g, 3, none⟩ v3).setCell ⟨g, 4, none⟩ v4).setCell ⟨g, 5, none⟩ v5).setCell ⟨g, 6, none⟩ v6) g #[v0, v1, v2, v3, v4, v5, v6] T := by
  simpa using ((((((h.set 0 v0).set 1 v1).set 2 v2).set 3 v3).set 4 v4).set 5 v5).set 6 v6
set_option maxHeartbeats 2000000 in
theorem rsum_walk (a : Option Addr) (cap : Nat) (l : List T6) (w : World) (hn : l.length ≤ 60) (hr : TRow w a l) :
    Calls Try.prog 20 #[.slice a l.length cap] w fun e w' => e = .returned (res (sumT l)) ∧ Below w.heap.size w w' := by
  have HR := Lib.hid hr
  clear hr
  go_enter Try.func20, Try.ntmps20
  go_wp2_with fail
  go_loopw [4] (fun i wr => ∃ (k : Nat) (x : T6) (f : Bool), k ≤ l.length ∧ i = .int .i64 k ∧ Below w.heap.size w wr ∧ Blk wr w.heap.size #[.int .i64 0, .int .i64 0, .int .i64 0, .int .i64 0, .int .i64 0, .int .i64 0, .bool false] 34 ∧ Blk wr (w.heap.size + 1) #[.int .i64 x.n, .int .i64 x.s0, .int .i64 x.s1, .int .i64 x.s2, .int .i64 x.s3, .int .i64 x.h, .bool f] 34 ∧ sumT (l.take k) = (x, f) ∧ inT x ∧ (f = false → x = zeroT)) (fun i _ => l.length - (intOf i).toNat)
  case atStart =>
    exact ⟨0, zeroT, true, Nat.zero_le _, rfl, tbel2 _ _ _, (blk_new w #[.int .i64 0, .int .i64 0, .int .i64 0, .int .i64 0, .int .i64 0, .int .i64 0, .bool false] 34).alloc _, blk_two w _ _ _, rfl, zeroT_in, fun h => by cases h⟩
  case round =>
    obtain ⟨k, x, f, hk, rfl, hbl, hz, hs, hx, hi, hd⟩ := hrel
    have HX := Lib.hid hx
    have HD := Lib.hid hd
    have s6 := hs.seven
    have s7 := hs.seven_free
    have r6 := hz.seven
    have f6 := hz.seven_free
    have l1 := hs.lt
    clear hx hd
    by_cases hlt : k < l.length
    · cases f
      · go_wp2
        refine bodyPost_ret (v := .agg #[.int .i64 x.n, .int .i64 x.s0, .int .i64 x.s1, .int .i64 x.s2, .int .i64 x.s3, .int .i64 x.h, .bool false]) (by simp [results, Try.results20, go_sem, *]) rfl ⟨?_, Below.new7 hbl (by omega) _ _ _ _ _ _ _⟩
        have e := HX.out
        have e' := HD.out (by simp)
        subst e'
        rw [sumT_dead l _ e]
        rfl
      · obtain ⟨hiy, b, off, rfl, hB, h0, h1, h2, h3, h4, h5⟩ := HR.out.carry hbl k hlt
        have HY := Lib.hid (sumT_snoc l k hlt)
        generalize l.getD k zeroT = y at HY h0 h1 h2 h3 h4 h5 hiy
        go_wp2_with fail
        go_still_tail 6, (by kernel_rfl)
        change wpList _ _ _ _ _ wr.drew
        go_wp2_with fail
        refine (rAdd7_any x y _ hi hiy).mono ?_
        rintro e w1 ⟨rfl, u1⟩
        have u2 : Below wr.heap.size wr w1 := (Below.refl _ wr).drew.trans u1
        have hbl1 := tstep hbl u2 hbl.size
        have hz1 := hz.old u2
        have hs1 := hs.old u2
        have hq : inT (addT x y).1 := addT_in x y
        have HE := Lib.hid (pairT_dead addR x y)
        have HQ := Lib.hid (HY.out.trans (by rw [HX.out]; rfl : stepT (sumT (l.take k)) y = addT x y))
        change RowKit.Hid ((addT x y).2 = false → addT x y = (zeroT, false)) at HE
        clear u1 u2 hbl hz hs s6 s7 r6 f6 h0 h1 h2 h3 h4 h5 HY HX HD hiy hi hB
        generalize addT x y = q at hq HQ HE ⊢
        obtain ⟨q, f⟩ := q
        simp only at hq
        have s6 := hs1.seven
        have s7 := hs1.seven_free
        unfold res
        go_wp2_with fail
        go_roundw
        case rel =>
          refine ⟨k + 1, q, f, by omega, by go_num, Below.new7 hbl1 (by omega) _ _ _ _ _ _ _, hz1.other7 (by omega) _ _ _ _ _ _ _, hs1.set7 _ _ _ _ _ _ _, HQ.out, hq, fun h => ?_⟩
          have e := HE.out h
          simpa using congrArg Prod.fst e
        case measure => simp [intOf]; omega
    · go_wp2
      refine bodyPost_ret (v := .agg #[.int .i64 x.n, .int .i64 x.s0, .int .i64 x.s1, .int .i64 x.s2, .int .i64 x.s3, .int .i64 x.h, .bool f]) (by simp [results, Try.results20, go_sem, *]) rfl ⟨?_, Below.new7 hbl (by omega) _ _ _ _ _ _ _⟩
      have e := HX.out
      rw [List.take_of_length_le (by omega)] at e
      rw [e]; rfl
end Go.Proofs.Ytaeglilffbdlkaa
