/- The search of package vlist; Trim, First and Force. -/
import Derived.Test.YtnajjgohodnfhaaAMay
namespace Go.Proofs.Ytnajjgohodnfhaa
open Go.RowKit
set_option maxRecDepth 20000
set_option linter.unusedVariables false
set_option linter.unusedSimpArgs false

theorem vfind_any (v : Value) (l : List I7) (n F : Nat) (q : Int → Bool) (w : World) (h : VAt w v l) (hl : l.length ≤ 1000000) (hn : n ≤ 1000001)
    (hF : ∀ x w, Sem.run Try.prog (callFunc F #[v, x]) w = .ok (.enter F #[v, x]) w)
    (hC : ∀ (k : Nat) x, Below w.heap.size w x → Calls Try.prog F #[v, .int .i64 k] x fun e y => e = .returned (.bool (q k)) ∧ Below x.heap.size x y) :
    Calls Try.prog 17 #[v, .int .i64 n, .func (.func F) #[v] #[]] w fun e w' => e = .returned (.int .i64 (findQ q (l.length + 1 - n) n)) ∧ Below w.heap.size w w' := by
  have HL := Lib.hid fun w' (hb : Below w.heap.size w w') => vlen_any v l w' (h.carry hb)
  have HC := Lib.hid hC
  clear h hC
  generalize hr : findQ q (l.length + 1 - n) n = r
  have HR := Lib.hid hr
  clear hr
  go_enter Try.func17, Try.ntmps17
  go_wp2_with fail
  go_loopw [7] (fun i wr => ∃ k : Nat, k ≤ 1000002 ∧ i = .int .i64 k ∧ Below w.heap.size w wr ∧ Hid (findQ q (l.length + 1 - k) k = r)) (fun i _ => 1000002 - (intOf i).toNat)
  case atStart => exact ⟨n, by omega, rfl, Below.refl _ _, HR⟩
  case round =>
    obtain ⟨k, hk, rfl, hbl, HP⟩ := hrel
    by_cases hlt : k ≤ l.length
    · have cl := HL.out _ hbl
      have cc := HC.out k _ hbl
      have HY : Hid (q k = true → (k : Int) = r) := Lib.hid fun h => (findQ_yes hlt h).symm.trans HP.out
      have HS : Hid (q k = false → findQ q (l.length + 1 - (k + 1)) (k + 1) = r) := Lib.hid fun h => (findQ_no hlt h).symm.trans HP.out
      clear HP HC HL
      generalize q k = y at *
      go_wp2_with fail
      refine cl.mono ?_
      rintro e w1 ⟨rfl, rfl⟩
      clear cl
      go_wp2_with fail
      refine cc.mono ?_
      rintro e w1 ⟨rfl, b1⟩
      have hb1 := tstep hbl b1 hbl.size
      clear cc b1
      cases y
      · replace HS := Lib.hid (HS.out rfl)
        clear HY
        go_wp2
        go_roundw
        case rel => exact ⟨k + 1, by omega, by go_num, hb1, HS⟩
        case measure => simp [intOf]; omega
      · replace HY := Lib.hid (HY.out rfl)
        clear HS
        go_wp2
        go_ret
        exact ⟨by rw [HY.out]; rfl, hb1⟩
    · have cl := HL.out _ hbl
      have HE : Hid (r = -1) := Lib.hid (HP.out.symm.trans (findQ_end hlt))
      clear HP HC HL
      go_wp2_with fail
      refine cl.mono ?_
      rintro e w1 ⟨rfl, rfl⟩
      clear cl
      go_wp2
      go_ret
      exact ⟨by rw [HE.out]; rfl, hbl⟩
theorem vafter_any (v : Value) (l : List I7) (n : Int) (F : Nat) (q : Int → Bool) (w : World) (h : VAt w v l) (hl : l.length ≤ 1000000)
    (hF : ∀ x w, Sem.run Try.prog (callFunc F #[v, x]) w = .ok (.enter F #[v, x]) w)
    (hC : ∀ (k : Nat) x, Below w.heap.size w x → Calls Try.prog F #[v, .int .i64 k] x fun e y => e = .returned (.bool (q k)) ∧ Below x.heap.size x y) :
    Calls Try.prog 19 #[v, .int .i64 n, .func (.func F) #[v] #[]] w fun e w' => e = .returned (.int .i64 (afterV l q n)) ∧ Below w.heap.size w w' := by
  have cl := vlen_any v l w h
  unfold afterV
  by_cases h0 : (l.length : Int) ≤ n
  · rw [if_pos h0]
    clear h hC
    go_enter Try.func19, Try.ntmps19
    go_wp2_with fail
    refine cl.mono ?_
    rintro e w1 ⟨rfl, rfl⟩
    clear cl
    go_wp2
    go_ret
    exact ⟨rfl, Below.refl _ _⟩
  · rw [if_neg h0]
    have c := vfind_any v l (n.toNat + 1) F q w h hl (by omega) hF hC
    have e : (((n.toNat + 1 : Nat) : Int)) = max n 0 + 1 := by omega
    rw [e] at c
    clear h hC e
    generalize findQ q (l.length + 1 - (n.toNat + 1)) (n.toNat + 1) = r at *
    by_cases h1 : n < 0
    · have e1 : max n 0 = 0 := by omega
      rw [e1] at c
      go_enter Try.func19, Try.ntmps19
      go_wp2_with fail
      refine cl.mono ?_
      rintro e w1 ⟨rfl, rfl⟩
      clear cl
      go_wp2_with fail
      refine c.mono ?_
      rintro e w2 ⟨rfl, b2⟩
      clear c
      go_wp2
      go_ret
      exact ⟨rfl, b2⟩
    · have e1 : max n 0 = n := by omega
      rw [e1] at c
      go_enter Try.func19, Try.ntmps19
      go_wp2_with fail
      refine cl.mono ?_
      rintro e w1 ⟨rfl, rfl⟩
      clear cl
      go_wp2_with fail
      refine c.mono ?_
      rintro e w2 ⟨rfl, b2⟩
      clear c
      go_wp2
      go_ret
      exact ⟨rfl, b2⟩
theorem vfirst_any (v : Value) (l : List I7) (n : Int) (w : World) (h : VAt w v l) (hl : l.length ≤ 1000000) :
    Calls Try.prog 8 #[v, .int .i64 n] w fun e w' => e = .returned (.int .i64 (firstV l n)) ∧ Below w.heap.size w w' := by
  have c := vafter_any v l n 10 (mayV l) w h hl (fun x w => by kernel_rfl) fun k x hb => vmay_any v l k x (h.carry hb) hl
  unfold firstV
  clear h
  generalize afterV l (mayV l) n = r at *
  go_enter Try.func8, Try.ntmps8
  go_wp2_with fail
  refine c.mono ?_
  rintro e w1 ⟨rfl, b1⟩
  go_wp2
  go_ret
  exact ⟨rfl, b1⟩
theorem vforce_any (v : Value) (l : List I7) (n : Int) (w : World) (h : VAt w v l) (hl : l.length ≤ 1000000) :
    Calls Try.prog 9 #[v, .int .i64 n] w fun e w' => e = .returned (.int .i64 (forceV l n)) ∧ Below w.heap.size w w' := by
  have c := vafter_any v l n 20 (mustV l) w h hl (fun x w => by kernel_rfl) fun k x hb => vmust_any v l k x (h.carry hb) hl
  unfold forceV
  clear h
  generalize afterV l (mustV l) n = r at *
  go_enter Try.func9, Try.ntmps9
  go_wp2_with fail
  refine c.mono ?_
  rintro e w1 ⟨rfl, b1⟩
  go_wp2
  go_ret
  exact ⟨rfl, b1⟩
theorem vtrim_any (v : Value) (l : List I7) (n : Int) (w : World) (h : VAt w v l) (hl : l.length ≤ 1000000) :
    Calls Try.prog 7 #[v, .int .i64 n] w fun e w' => e = .returned (.int .i64 (trimV l n)) ∧ Below w.heap.size w w' := by
  have cl := vlen_any v l w h
  have c := vfind_any v l (startV l n) 18 (firmV l) w h hl (by unfold startV; omega) (fun x w => by kernel_rfl) fun k x hb => vfirm_any v l k x (h.carry hb) hl
  have e : ((startV l n : Nat) : Int) = min (max n 0) l.length := by unfold startV; omega
  rw [e] at c
  unfold trimV
  clear h e
  generalize findQ (firmV l) (l.length + 1 - startV l n) (startV l n) = r at *
  generalize l.length = L at *
  by_cases h1 : n < 0
  · have e1 : min (max n 0) (L : Int) = 0 := by omega
    rw [e1] at c
    go_enter Try.func7, Try.ntmps7
    go_wp2_with fail
    refine cl.mono ?_
    rintro e w1 ⟨rfl, rfl⟩
    clear cl
    go_wp2_with fail
    refine c.mono ?_
    rintro e w2 ⟨rfl, b2⟩
    clear c
    go_wp2
    go_ret
    exact ⟨rfl, b2⟩
  · by_cases h2 : n ≤ (L : Int)
    · have e1 : min (max n 0) (L : Int) = n := by omega
      rw [e1] at c
      go_enter Try.func7, Try.ntmps7
      go_wp2_with fail
      refine cl.mono ?_
      rintro e w1 ⟨rfl, rfl⟩
      clear cl
      go_wp2_with fail
      refine c.mono ?_
      rintro e w2 ⟨rfl, b2⟩
      clear c
      go_wp2
      go_ret
      exact ⟨rfl, b2⟩
    · have e1 : min (max n 0) (L : Int) = L := by omega
      rw [e1] at c
      go_enter Try.func7, Try.ntmps7
      go_wp2_with fail
      refine cl.mono ?_
      rintro e w1 ⟨rfl, rfl⟩
      clear cl
      go_wp2_with fail
      refine c.mono ?_
      rintro e w2 ⟨rfl, b2⟩
      clear c
      go_wp2
      go_ret
      exact ⟨rfl, b2⟩
end Go.Proofs.Ytnajjgohodnfhaa
