/- A note written: package encode. Lists written: items, notes, floats: package encode. -/
import Derived.Test.YtjfjekncmejfpaaQFlt
import Derived.Test.YtjfjekncmejfpaaJPut
namespace Go.Proofs.Ytjfjekncmejfpaa
open Go.RowKit
set_option maxRecDepth 20000
set_option linter.unusedVariables false
set_option linter.unusedSimpArgs false

/-- Block g holds n numbers, f. -/
def AZ (w : World) (g n : Nat) (f : Nat → Int) : Prop := Blk w g ((List.range n).map fun i => Value.int .i64 (f i)).toArray 2
theorem AZ.cell {w : World} {g n : Nat} {f : Nat → Int} (h : AZ w g n f) (i : Nat) (hi : i < n) : w.cell? ⟨g, i, none⟩ = some (.int .i64 (f i)) := by
  rw [Blk.cell h]
  simp [hi]
theorem AZ.free {w : World} {g n : Nat} {f : Nat → Int} (h : AZ w g n f) (i : Nat) : w.frozen? ⟨g, i, none⟩ = false := Blk.free h i
theorem AZ.congr {w : World} {g n : Nat} {f f' : Nat → Int} (h : AZ w g n f) (e : ∀ i, i < n → f i = f' i) : AZ w g n f' := by
  unfold AZ at *
  have : (List.range n).map (fun i => Value.int .i64 (f i)) = (List.range n).map (fun i => Value.int .i64 (f' i)) := List.map_congr_left fun i hi => by rw [e i (by simpa using hi)]
  rwa [this] at h
theorem AZ.set {w : World} {g n : Nat} {f : Nat → Int} (h : AZ w g n f) (k : Nat) (v : Int) : AZ (w.setCell ⟨g, k, none⟩ (.int .i64 v)) g n (fun i => if i = k then v else f i) := by
  have h1 := Blk.set h k (.int .i64 v)
  unfold AZ
  have e : ((List.range n).map fun i => Value.int .i64 (f i)).toArray.setIfInBounds k (.int .i64 v) = ((List.range n).map fun i => Value.int .i64 (if i = k then v else f i)).toArray := by
    apply Array.ext
    · simp
    · intro i h1 h2
      by_cases hk : i = k
      · subst hk; simp
      · have hk' : ¬ k = i := fun e => hk e.symm
        simp [List.getElem_set, hk, hk']
  rwa [e] at h1
theorem az_new (w : World) (n : Nat) : AZ (w.alloc (.cells (madeCells #[.int .i64 0] n) 2)) w.heap.size n (fun _ => 0) := by
  have e : madeCells #[.int .i64 0] n = ((List.range n).map fun i => Value.int .i64 0).toArray := by
    apply Array.ext
    · simp [madeCells]
    · intro i h1 h2
      simp [madeCells, Nat.mod_one]
  unfold AZ
  rw [← e]
  exact blk_new _ _ _
theorem AZ.rowK {w : World} {g : Nat} {l : List Int} (h : AZ w g l.length fun i => l.getD i 0) : RowK .i64 w (some ⟨g, 0, none⟩) l.length l := ⟨Nat.le_refl _, fun j hj => ⟨g, 0, rfl, Blk.lt h, by rw [Nat.zero_add]; exact h.cell j hj⟩⟩
theorem infoI64 : (Try.prog.info? 2).map (fun i => (i.zero, i.size, i.bytes)) = some (some (.int .i64 0), 1, 8) := by kernel_rfl
theorem mkZ (n : Nat) (hn : n ≤ 1000000) : ∀ x, Sem.run Try.prog (Instr.makeSlice 100 (.int .i64 (n : Int)) (.int .i64 (n : Int))) x = .ok (.slice (some ⟨x.heap.size, 0, none⟩) n n) (x.alloc (.cells (madeCells #[.int .i64 0] n) 2)) := by
  intro x
  obtain ⟨i, hi, hz, z1, z2⟩ := info_parts infoI64
  have := run_make (P := Try.prog) x 100 2 i _ Try.underlying100 hi hz .i64 .i64 (n : Int) (n : Int) (by omega) (by omega) (by rw [z2]; omega) (by omega)
  rw [z1] at this
  have e : (Value.int .i64 0).cells = #[.int .i64 0] := rfl
  simpa [e] using this
/-- Numbers as a writer takes them, in a slice of the call's own. -/
def WideOf (L : List Int) (B : Nat) (v : Value) (w : World) : Prop := ∃ g, v = .slice (some ⟨g, 0, none⟩) L.length L.length ∧ B ≤ g ∧ AZ w g L.length fun i => L.getD i 0
set_option maxHeartbeats 1000000 in
theorem wide_sp (a : Option Addr) (cap : Nat) (l : List Int) (w : World) (hn : l.length ≤ 1000000) (hr : IRow w.heap.size w a l) :
    Calls Try.prog 56 #[.slice a l.length cap] w fun e w' => ∃ v, e = .returned v ∧ WideOf l w.heap.size v w' ∧ Below w.heap.size w w' := by
  have HR := Lib.hid hr
  have mk := mkZ l.length hn
  clear hr
  go_enter Try.func56, Try.ntmps56
  go_wp2_with fail
  have A0 := az_new w l.length
  have b0 := tbel1 w (.cells (madeCells #[.int .i64 0] l.length) 2)
  go_loopw [11] (fun i wr => ∃ k : Nat, k ≤ l.length ∧ i = .int .i64 k ∧ Below w.heap.size w wr ∧ AZ wr w.heap.size l.length (fun j => if j < k then l.getD j 0 else 0)) (fun i _ => l.length - (intOf i).toNat)
  case atStart => exact ⟨0, Nat.zero_le _, rfl, b0, A0.congr fun j _ => by rw [if_neg (Nat.not_lt_zero j)]⟩
  case round =>
    obtain ⟨k, hk, rfl, hbl, A⟩ := hrel
    have HA := Lib.hid A
    clear A0 b0
    by_cases hlt : k < l.length
    · obtain ⟨hiy, b, off, rfl, hB, h0⟩ := HR.out.carry hbl (Nat.le_refl _) k hlt
      obtain ⟨y, hy⟩ : ∃ y, y = l.getD k 0 := ⟨_, rfl⟩
      rw [← hy] at h0
      have HY := Lib.hid hy
      clear hy hiy
      have hc := A.cell k hlt
      have hf := A.free k
      have HA2 := Lib.hid (A.set k y)
      have hb2 := hbl.setCell (p := ⟨w.heap.size, k, none⟩) (Nat.le_refl _) (.int .i64 y)
      clear HA A hbl
      go_wp2
      go_roundw
      case rel =>
        refine ⟨k + 1, by omega, by go_num, hb2, HA2.out.congr fun j hj => ?_⟩
        by_cases hj' : j = k
        · subst hj'
          rw [if_pos rfl, if_pos (by omega), HY.out]
        · rw [if_neg hj']
          by_cases hj2 : j < k
          · rw [if_pos hj2, if_pos (by omega)]
          · rw [if_neg hj2, if_neg (by omega)]
      case measure => simp [intOf]; omega
    · obtain rfl : k = l.length := by omega
      clear A
      go_wp2
      go_ret
      exact ⟨_, rfl, ⟨w.heap.size, rfl, Nat.le_refl _, HA.out.congr fun j hj => by rw [if_pos hj]⟩, hbl⟩
set_option maxHeartbeats 1000000 in
theorem wide_int (a : Option Addr) (cap : Nat) (l : List Int) (w : World) (hn : l.length ≤ 1000000) (hr : IRow w.heap.size w a l) :
    Calls Try.prog 57 #[.slice a l.length cap] w fun e w' => ∃ v, e = .returned v ∧ WideOf l w.heap.size v w' ∧ Below w.heap.size w w' := by
  have HR := Lib.hid hr
  have mk := mkZ l.length hn
  clear hr
  go_enter Try.func57, Try.ntmps57
  go_wp2_with fail
  have A0 := az_new w l.length
  have b0 := tbel1 w (.cells (madeCells #[.int .i64 0] l.length) 2)
  go_loopw [11] (fun i wr => ∃ k : Nat, k ≤ l.length ∧ i = .int .i64 k ∧ Below w.heap.size w wr ∧ AZ wr w.heap.size l.length (fun j => if j < k then l.getD j 0 else 0)) (fun i _ => l.length - (intOf i).toNat)
  case atStart => exact ⟨0, Nat.zero_le _, rfl, b0, A0.congr fun j _ => by rw [if_neg (Nat.not_lt_zero j)]⟩
  case round =>
    obtain ⟨k, hk, rfl, hbl, A⟩ := hrel
    have HA := Lib.hid A
    clear A0 b0
    by_cases hlt : k < l.length
    · obtain ⟨hiy, b, off, rfl, hB, h0⟩ := HR.out.carry hbl (Nat.le_refl _) k hlt
      obtain ⟨y, hy⟩ : ∃ y, y = l.getD k 0 := ⟨_, rfl⟩
      rw [← hy] at h0
      have HY := Lib.hid hy
      clear hy hiy
      have hc := A.cell k hlt
      have hf := A.free k
      have HA2 := Lib.hid (A.set k y)
      have hb2 := hbl.setCell (p := ⟨w.heap.size, k, none⟩) (Nat.le_refl _) (.int .i64 y)
      clear HA A hbl
      go_wp2
      go_roundw
      case rel =>
        refine ⟨k + 1, by omega, by go_num, hb2, HA2.out.congr fun j hj => ?_⟩
        by_cases hj' : j = k
        · subst hj'
          rw [if_pos rfl, if_pos (by omega), HY.out]
        · rw [if_neg hj']
          by_cases hj2 : j < k
          · rw [if_pos hj2, if_pos (by omega)]
          · rw [if_neg hj2, if_neg (by omega)]
      case measure => simp [intOf]; omega
    · obtain rfl : k = l.length := by omega
      clear A
      go_wp2
      go_ret
      exact ⟨_, rfl, ⟨w.heap.size, rfl, Nat.le_refl _, HA.out.congr fun j hj => by rw [if_pos hj]⟩, hbl⟩
theorem row_in {B : Nat} {w : World} {a : Option Addr} {l : List Int} (h : IRow B w a l) : ∀ x ∈ l, inR x := fun x hx => by
  obtain ⟨i, hi, rfl⟩ := List.getElem_of_mem hx
  have := (h i hi).1
  rwa [List.getD_eq_getElem?_getD, List.getElem?_eq_getElem hi] at this
theorem wnote_any (B g : Nat) (l : List Int) (h : H2) (n : N2) (w : World) (hl : n.l.length ≤ 9000) (hp : n.p.length ≤ 9000) (hsz : l.length ≤ 800000) (hN : ∀ y, Below B w y → NoteOk y h n) (hW : Wr w B g l) :
    Calls Try.prog 32 #[.pointer (some ⟨g, 0, none⟩), .agg #[.slice h.la h.ll h.lc, .slice h.pa h.pl h.pc]] w fun e w' => e = .returned (.tuple #[]) ∧ Wr w' B g (l ++ noteE n) ∧ Below B w w' ∧ Kp g w w' := by
  obtain ⟨e1, e2, _, _, r1, r2⟩ := hN w (Below.refl _ _)
  have R1 := Lib.hid fun y hy => (hN y hy).2.2.2.2.1
  have R2 := Lib.hid fun y hy => (hN y hy).2.2.2.2.2
  clear hN
  obtain ⟨la, ll, lc, pa, pl, pc⟩ := h
  obtain ⟨L, P⟩ := n
  dsimp only at *
  subst e1 e2
  have hBg := hW.lt
  have hB : B ≤ w.heap.size := by omega
  have hg : w.heap.size ≠ g := by omega
  have il := row_in r1
  have ip := row_in r2
  have sl : (intsL L).length ≤ 90010 := by have := ints_len L il (by omega); omega
  have HE : Hid (noteE ⟨L, P⟩ = intsL L ++ intsL P) := Lib.hid rfl
  have bx := tbel1 w (.cells #[.slice la L.length lc, .slice pa P.length pc] 76)
  have E1 := blk_new w #[.slice la L.length lc, .slice pa P.length pc] 76
  have W1 := hW.old bx
  have t1 := (Wt.refl B g w).old bx hB
  clear r1 r2 hW
  go_enter Try.func32, Try.ntmps32
  go_upto_region 1 with (fail)
  generalize w.alloc _ = U at *
  have CE := Lib.hid fun y (hy : Old U y) => (E1.old hy).two
  (refine wp_region_plan 6 [(0, true), (1, true), (2, true), (3, true), (4, true), (5, false)] (by kernel_rfl) (by kernel_rfl) ?_; simp only [pick, List.getElem?_cons_succ, List.getElem?_cons_zero, List.drop_succ_cons, List.drop_zero])
  repeat (first | (apply TextV.sees (hw := by kernel_rfl); (focus (intro x hx K hK; have hc := CE.out x hx; go_simp; exact hK)); simp only [Act.put, List.getElem_toArray, List.getElem_cons_succ, List.getElem_cons_zero, List.setIfInBounds_toArray, List.set_cons_zero, List.set_cons_succ]) | (apply TextV.idle; (focus (intro x hx K hK; go_simp; exact hK)); simp only [Act.put, List.getElem_toArray, List.getElem_cons_succ, List.getElem_cons_zero, List.setIfInBounds_toArray, List.set_cons_zero, List.set_cons_succ]))
  (refine TextV.loud (V := fun v y => WideOf L U.heap.size v y) (fun x hx => (wide_sp la lc L x (by omega) (R1.out x (t1.old hx hB).bel)).mono fun e y h => by obtain ⟨v, h1, ⟨g', h2, h3, h4⟩, h5⟩ := h; exact ⟨v, h1, ⟨g', h2, Nat.le_trans hx.size h3, h4⟩, h5⟩) (by kernel_rfl) (fun _ => by kernel_rfl) (fun v y hv hy => ?_); simp only [Act.put, List.getElem_toArray, List.getElem_cons_succ, List.getElem_cons_zero, List.setIfInBounds_toArray, List.set_cons_zero, List.set_cons_succ])
  obtain ⟨q, rfl, hq, A⟩ := hv
  apply TextV.done
  intro x hx
  have hUs := bx.size
  have W2 := (W1.old hy).old hx
  have t2 := (t1.old hy hB).old hx hB
  have E2 := (E1.old hy).old hx
  have hqg : q ≠ g := by omega
  have A2 : AZ x q L.length fun i => L.getD i 0 := Blk.old A hx
  have c := wints_any B g l (some ⟨q, 0, none⟩) L.length L il (by omega) (by omega) x W2 (fun z _ hk => AZ.rowK (hk _ _ _ hqg (by decide) A2))
  clear CE A W1 t1 E1 hy hx W2 hq
  go_wp2_with (refine c.mono ?_; rintro e w3 ⟨rfl, W3, b3, K3⟩)
  have t3 := t2.trans ⟨b3, K3⟩
  have E3 := Wt.blk ⟨b3, K3⟩ E2 hg (by decide)
  clear c A2 hqg t2 E2 b3 K3 bx hUs
  have CE := Lib.hid fun y (hy : Old w3 y) => (E3.old hy).two
  go_upto_region 2 with (fail)
  (refine wp_region_plan 6 [(0, true), (1, true), (2, true), (3, true), (4, true), (5, false)] (by kernel_rfl) (by kernel_rfl) ?_; simp only [pick, List.getElem?_cons_succ, List.getElem?_cons_zero, List.drop_succ_cons, List.drop_zero])
  repeat (first | (apply TextV.sees (hw := by kernel_rfl); (focus (intro x hx K hK; have hc := CE.out x hx; go_simp; exact hK)); simp only [Act.put, List.getElem_toArray, List.getElem_cons_succ, List.getElem_cons_zero, List.setIfInBounds_toArray, List.set_cons_zero, List.set_cons_succ]) | (apply TextV.idle; (focus (intro x hx K hK; go_simp; exact hK)); simp only [Act.put, List.getElem_toArray, List.getElem_cons_succ, List.getElem_cons_zero, List.setIfInBounds_toArray, List.set_cons_zero, List.set_cons_succ]))
  (refine TextV.loud (V := fun v y => WideOf P w3.heap.size v y) (fun x hx => (wide_int pa pc P x (by omega) (R2.out x (t3.old hx hB).bel)).mono fun e y h => by obtain ⟨v, h1, ⟨g', h2, h3, h4⟩, h5⟩ := h; exact ⟨v, h1, ⟨g', h2, Nat.le_trans hx.size h3, h4⟩, h5⟩) (by kernel_rfl) (fun _ => by kernel_rfl) (fun v y hv hy => ?_); simp only [Act.put, List.getElem_toArray, List.getElem_cons_succ, List.getElem_cons_zero, List.setIfInBounds_toArray, List.set_cons_zero, List.set_cons_succ])
  obtain ⟨q, rfl, hq, A⟩ := hv
  apply TextV.done
  intro x hx
  have hUs := t3.bel.size
  have W4 := (W3.old hy).old hx
  have t4 := (t3.old hy hB).old hx hB
  have hqg : q ≠ g := by omega
  have A4 : AZ x q P.length fun i => P.getD i 0 := Blk.old A hx
  have c := wints_any B g (l ++ intsL L) (some ⟨q, 0, none⟩) P.length P ip (by omega) (by rw [List.length_append]; omega) x W4 (fun z _ hk => AZ.rowK (hk _ _ _ hqg (by decide) A4))
  clear CE A W3 t3 E3 hy hx W4 hq
  go_wp2_with (refine c.mono ?_; rintro e w5 ⟨rfl, W5, b5, K5⟩)
  go_end0
  have t5 := t4.trans ⟨b5, K5⟩
  exact ⟨rfl, by rw [HE.out, ← List.append_assoc]; exact W5, t5.bel, t5.kp⟩
end Go.Proofs.Ytjfjekncmejfpaa
namespace Go.Proofs.Ytjfjekncmejfpaa
open Go.RowKit
set_option maxRecDepth 20000
set_option linter.unusedVariables false
set_option linter.unusedSimpArgs false

theorem flat_bound {α : Type} {f : α → List Int} {c : Nat} : ∀ {l : List α}, (∀ x ∈ l, (f x).length ≤ c) → (l.flatMap f).length ≤ c * l.length
  | [], _ => by simp
  | x :: l, h => by
    have h1 := h x (by simp)
    have h2 := flat_bound (l := l) fun y hy => h y (by simp [hy])
    rw [List.flatMap_cons, List.length_append, List.length_cons, Nat.mul_add]
    omega
theorem take_bound {α : Type} {f : α → List Int} {c : Nat} {l : List α} (h : ∀ x ∈ l, (f x).length ≤ c) (k : Nat) (hk : k ≤ l.length) : ((l.take k).flatMap f).length ≤ c * k := by
  have h1 := flat_bound (l := l.take k) fun x hx => h x (List.mem_of_mem_take hx)
  rwa [List.length_take, Nat.min_eq_left hk] at h1
theorem take_le {α : Type} (f : α → List Int) (l : List α) (k : Nat) : ((l.take k).flatMap f).length ≤ (l.flatMap f).length := by
  have h : (l.take k ++ l.drop k).flatMap f = l.flatMap f := by rw [List.take_append_drop]
  rw [← h, List.flatMap_append, List.length_append]
  omega
theorem take_step {α : Type} (f : α → List Int) (d : α) (l : List α) (k : Nat) (h : k < l.length) : (l.take (k + 1)).flatMap f = (l.take k).flatMap f ++ f (l.getD k d) := by
  rw [List.take_succ_eq_append_getElem h, List.flatMap_append]
  simp [h]
theorem itemE_len {x : I7} (hx : inI x) (h1 : 1 ≤ x.k) (h2 : x.k ≤ 7) : (itemE x).length ≤ 70 := by
  have a := chZ_ten hx.1
  have b := partQ_len (p := ownQ x.k) (valQ_in hx) 6
  rw [item_part x h1 h2, List.length_append]
  omega
theorem floatE_len {x : F3} (hx : inF x) : (floatE x).length ≤ 30 := by
  rw [floatE_nums]
  exact flatZ_len (numsF_in hx)
theorem listZ_len {l : List Int} (h : ∀ x ∈ l, inR x) (hl : l.length ≤ 100) : (listE chZ l).length ≤ 1010 := by
  have := ints_len l h (by omega)
  show (intsL l).length ≤ _
  omega
theorem noteE_len {n : N2} (h1 : ∀ x ∈ n.l, inR x) (h2 : ∀ x ∈ n.p, inR x) (l1 : n.l.length ≤ 100) (l2 : n.p.length ≤ 100) : (noteE n).length ≤ 2020 := by
  have a := listZ_len h1 l1
  have b := listZ_len h2 l2
  unfold noteE
  rw [List.length_append]
  omega
theorem noteE_le {n : N2} {m : Nat} (h1 : ∀ x ∈ n.l, inR x) (h2 : ∀ x ∈ n.p, inR x) (l1 : n.l.length ≤ m) (l2 : n.p.length ≤ m) (hm : m ≤ 1000000) : (noteE n).length ≤ 20 + 20 * m := by
  have a := ints_len n.l h1 (by omega)
  have b := ints_len n.p h2 (by omega)
  change (intsL n.l ++ intsL n.p).length ≤ _
  rw [List.length_append]
  omega
theorem all_in {α : Type} {P : α → Prop} {l : List α} {d : α} (h : ∀ k, P (l.getD k d)) : ∀ x ∈ l, P x := fun x hx => by
  obtain ⟨i, hi, rfl⟩ := List.getElem_of_mem hx
  have := h i
  rwa [List.getD_eq_getElem?_getD, List.getElem?_eq_getElem hi] at this
set_option maxHeartbeats 1000000 in
theorem each_items (B g : Nat) (l : List Int) (a : Option Addr) (cap : Nat) (L : List I7) (w : World) (hin : ∀ k, inI (L.getD k zeroI)) (hb : ∀ x ∈ L, 1 ≤ x.k ∧ x.k ≤ 7) (hL : L.length ≤ 1000000) (hsz : l.length + 10 + (L.flatMap itemE).length ≤ 800000) (hR : ∀ y, Below B w y → Els 7 encI y a L.length fun k => L.getD k zeroI) (hW : Wr w B g l) :
    Calls Try.prog 29 #[.pointer (some ⟨g, 0, none⟩), .slice a L.length cap, .func (.func 30) #[.pointer (some ⟨g, 0, none⟩)] #[]] w fun e w' => e = .returned (.tuple #[]) ∧ Wr w' B g (l ++ listE itemE L) ∧ Below B w w' ∧ Kp g w w' := by
  have hBg := hW.lt
  have hB : B ≤ w.heap.size := by omega
  have HR := Lib.hid hR
  have HB := Lib.hid (take_le itemE L)
  have HS := Lib.hid (take_step itemE zeroI L)
  have HX := Lib.hid fun k (hk : k < L.length) => And.intro (hin k) (hb _ (mem_getD (d := zeroI) hk))
  have HE : Hid (listE itemE L = chainL (foldZ (L.length : Int)) ++ L.flatMap itemE) := Lib.hid rfl
  have fl := fold_range (L.length : Int) (by omega) (by omega)
  have ll := chain_ten _ fl.1 fl.2
  have ci := wint_any B g l (L.length : Int) (by omega) (by omega) (by omega) w hW
  generalize chainL (foldZ (L.length : Int)) = C at *
  clear hR hin hb fl hW
  go_enter Try.func29, Try.ntmps29
  go_wp2_with (refine ci.mono ?_; rintro e w1 ⟨rfl, W1, b1, K1⟩)
  have t1 : Wt B g w w1 := ⟨b1, K1⟩
  clear ci b1 K1
  go_loopw [16] (fun i wr => ∃ k : Nat, k ≤ L.length ∧ i = .int .i64 k ∧ Wr wr B g (l ++ C ++ (L.take k).flatMap itemE) ∧ Wt B g w wr) (fun i _ => L.length - (intOf i).toNat)
  case atStart => exact ⟨0, Nat.zero_le _, rfl, by simpa using W1, t1⟩
  case round =>
    clear W1 t1
    obtain ⟨k, hk, rfl, W2, t2⟩ := hrel
    by_cases hlt : k < L.length
    · obtain ⟨b1, o1, e1, hB1, p0, p1, p2, p3, p4, p5, p6⟩ := els7 (HR.out wr t2.bel) hlt
      have hlen := HB.out k
      obtain ⟨hxi, hx1, hx2⟩ := HX.out k hlt
      have HN := Lib.hid (HS.out k hlt)
      generalize L.getD k zeroI = x at *
      subst e1
      have bx := tbel1 wr (.cells #[.int .i64 x.k, .int .i64 x.h, .int .i64 x.f, .int .i64 x.s, .int .i64 x.o, .int .i64 x.r, .int .i64 x.n] 49)
      have c := witem_any B g (l ++ C ++ (L.take k).flatMap itemE) x hxi hx1 hx2 (by simp only [List.length_append]; omega) _ (W2.old bx)
      have t3 := t2.old bx hB
      unfold itm at c
      generalize itemE x = E at *
      clear hlen hxi hx1 hx2 W2 t2 bx
      go_wp2_with (go_at_call 30; refine c.mono ?_; rintro e w4 ⟨rfl, W4, b4, K4⟩)
      go_roundw
      case rel => exact ⟨k + 1, by omega, by go_num, by rw [HN.out, ← List.append_assoc]; exact W4, t3.trans ⟨b4, K4⟩⟩
      case measure => simp [intOf]; omega
    · obtain rfl : k = L.length := by omega
      rw [List.take_length] at W2
      go_wp2_with fail
      go_end0
      exact ⟨rfl, by rw [HE.out, ← List.append_assoc]; exact W2, t2.bel, t2.kp⟩
set_option maxHeartbeats 1000000 in
theorem each_floats (B g : Nat) (l : List Int) (a : Option Addr) (cap : Nat) (L : List F3) (w : World) (hin : ∀ k, inF (L.getD k zeroF)) (hL : L.length ≤ 1000000) (hsz : l.length + 10 + (L.flatMap floatE).length ≤ 800000) (hR : ∀ y, Below B w y → Els 3 encF y a L.length fun k => L.getD k zeroF) (hW : Wr w B g l) :
    Calls Try.prog 33 #[.pointer (some ⟨g, 0, none⟩), .slice a L.length cap, .func (.func 34) #[.pointer (some ⟨g, 0, none⟩)] #[]] w fun e w' => e = .returned (.tuple #[]) ∧ Wr w' B g (l ++ listE floatE L) ∧ Below B w w' ∧ Kp g w w' := by
  have hBg := hW.lt
  have hB : B ≤ w.heap.size := by omega
  have HR := Lib.hid hR
  have HB := Lib.hid (take_le floatE L)
  have HS := Lib.hid (take_step floatE zeroF L)
  have HX := Lib.hid fun k (hk : k < L.length) => hin k
  have HE : Hid (listE floatE L = chainL (foldZ (L.length : Int)) ++ L.flatMap floatE) := Lib.hid rfl
  have fl := fold_range (L.length : Int) (by omega) (by omega)
  have ll := chain_ten _ fl.1 fl.2
  have ci := wint_any B g l (L.length : Int) (by omega) (by omega) (by omega) w hW
  generalize chainL (foldZ (L.length : Int)) = C at *
  clear hR hin fl hW
  go_enter Try.func33, Try.ntmps33
  go_wp2_with (refine ci.mono ?_; rintro e w1 ⟨rfl, W1, b1, K1⟩)
  have t1 : Wt B g w w1 := ⟨b1, K1⟩
  clear ci b1 K1
  go_loopw [16] (fun i wr => ∃ k : Nat, k ≤ L.length ∧ i = .int .i64 k ∧ Wr wr B g (l ++ C ++ (L.take k).flatMap floatE) ∧ Wt B g w wr) (fun i _ => L.length - (intOf i).toNat)
  case atStart => exact ⟨0, Nat.zero_le _, rfl, by simpa using W1, t1⟩
  case round =>
    clear W1 t1
    obtain ⟨k, hk, rfl, W2, t2⟩ := hrel
    by_cases hlt : k < L.length
    · obtain ⟨b1, o1, e1, hB1, p0, p1, p2⟩ := els3 (HR.out wr t2.bel) hlt
      have hlen := HB.out k
      have hxi := HX.out k hlt
      have HN := Lib.hid (HS.out k hlt)
      generalize L.getD k zeroF = x at *
      subst e1
      have bx := tbel1 wr (.cells #[.int .i64 x.c, .int .i64 x.h, .int .i64 x.p] 90)
      have c := wfloat_any B g (l ++ C ++ (L.take k).flatMap floatE) x hxi (by simp only [List.length_append]; omega) _ (W2.old bx)
      have t3 := t2.old bx hB
      unfold flt at c
      generalize floatE x = E at *
      clear hlen hxi W2 t2 bx
      go_wp2_with (go_at_call 34; refine c.mono ?_; rintro e w4 ⟨rfl, W4, b4, K4⟩)
      go_roundw
      case rel => exact ⟨k + 1, by omega, by go_num, by rw [HN.out, ← List.append_assoc]; exact W4, t3.trans ⟨b4, K4⟩⟩
      case measure => simp [intOf]; omega
    · obtain rfl : k = L.length := by omega
      rw [List.take_length] at W2
      go_wp2_with fail
      go_end0
      exact ⟨rfl, by rw [HE.out, ← List.append_assoc]; exact W2, t2.bel, t2.kp⟩
theorem notes_len {L : List N2} {hs : Nat → H2} {y : World} (hf : ∀ k, (L.getD k zeroN).l.length ≤ 100 ∧ (L.getD k zeroN).p.length ≤ 100) (hN : ∀ k, k < L.length → NoteOk y (hs k) (L.getD k zeroN)) : ∀ x ∈ L, (noteE x).length ≤ 2020 := fun x hx => by
  obtain ⟨i, hi, rfl⟩ := List.getElem_of_mem hx
  have h1 := hf i
  obtain ⟨_, _, _, _, r1, r2⟩ := hN i hi
  rw [List.getD_eq_getElem?_getD, List.getElem?_eq_getElem hi, Option.getD_some] at h1 r1 r2
  exact noteE_len (row_in r1) (row_in r2) h1.1 h1.2
set_option maxHeartbeats 1000000 in
theorem each_notes (B g : Nat) (l : List Int) (a : Option Addr) (cap : Nat) (L : List N2) (hs : Nat → H2) (w : World) (hfew : ∀ k, (L.getD k zeroN).l.length ≤ 9000 ∧ (L.getD k zeroN).p.length ≤ 9000) (hL : L.length ≤ 1000000) (hsz : l.length + 10 + (L.flatMap noteE).length ≤ 800000) (hR : ∀ y, Below B w y → Els 2 encH y a L.length hs ∧ ∀ k, k < L.length → NoteOk y (hs k) (L.getD k zeroN)) (hW : Wr w B g l) :
    Calls Try.prog 31 #[.pointer (some ⟨g, 0, none⟩), .slice a L.length cap, .func (.func 32) #[.pointer (some ⟨g, 0, none⟩)] #[]] w fun e w' => e = .returned (.tuple #[]) ∧ Wr w' B g (l ++ listE noteE L) ∧ Below B w w' ∧ Kp g w w' := by
  have hBg := hW.lt
  have hB : B ≤ w.heap.size := by omega
  have HR := Lib.hid hR
  have HB := Lib.hid (take_le noteE L)
  have HS := Lib.hid (take_step noteE zeroN L)
  have HX := Lib.hid hfew
  have HE : Hid (listE noteE L = chainL (foldZ (L.length : Int)) ++ L.flatMap noteE) := Lib.hid rfl
  have fl := fold_range (L.length : Int) (by omega) (by omega)
  have ll := chain_ten _ fl.1 fl.2
  have ci := wint_any B g l (L.length : Int) (by omega) (by omega) (by omega) w hW
  generalize chainL (foldZ (L.length : Int)) = C at *
  clear hR hfew fl hW
  go_enter Try.func31, Try.ntmps31
  go_wp2_with (refine ci.mono ?_; rintro e w1 ⟨rfl, W1, b1, K1⟩)
  have t1 : Wt B g w w1 := ⟨b1, K1⟩
  clear ci b1 K1
  go_loopw [16] (fun i wr => ∃ k : Nat, k ≤ L.length ∧ i = .int .i64 k ∧ Wr wr B g (l ++ C ++ (L.take k).flatMap noteE) ∧ Wt B g w wr) (fun i _ => L.length - (intOf i).toNat)
  case atStart => exact ⟨0, Nat.zero_le _, rfl, by simpa using W1, t1⟩
  case round =>
    clear W1 t1
    obtain ⟨k, hk, rfl, W2, t2⟩ := hrel
    by_cases hlt : k < L.length
    · obtain ⟨b1, o1, e1, hB1, p0, p1⟩ := els2 (HR.out wr t2.bel).1 hlt
      have hlen := HB.out k
      have hq := HX.out k
      have HK := Lib.hid fun y (hy : Below B w y) => (HR.out y hy).2 k hlt
      have HN := Lib.hid (HS.out k hlt)
      generalize L.getD k zeroN = x at *
      generalize hs k = h at *
      subst e1
      have bx := tbel1 wr (.cells #[.slice h.la h.ll h.lc, .slice h.pa h.pl h.pc] 76)
      have t3 := t2.old bx hB
      have c := wnote_any B g (l ++ C ++ (L.take k).flatMap noteE) h x _ hq.1 hq.2 (by simp only [List.length_append]; omega) (fun y hy => HK.out y (Below.trans t3.bel hy)) (W2.old bx)
      generalize noteE x = E at *
      clear hlen hq W2 t2 bx
      go_wp2_with (go_at_call 32; refine c.mono ?_; rintro e w4 ⟨rfl, W4, b4, K4⟩)
      go_roundw
      case rel => exact ⟨k + 1, by omega, by go_num, by rw [HN.out, ← List.append_assoc]; exact W4, t3.trans ⟨b4, K4⟩⟩
      case measure => simp [intOf]; omega
    · obtain rfl : k = L.length := by omega
      rw [List.take_length] at W2
      go_wp2_with fail
      go_end0
      exact ⟨rfl, by rw [HE.out, ← List.append_assoc]; exact W2, t2.bel, t2.kp⟩
end Go.Proofs.Ytjfjekncmejfpaa
