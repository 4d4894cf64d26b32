/- What is written or read: the plain part, where it lies; the document's Ints and Write. -/
import Derived.Test.YtbadkfocfgojlaaXSlc
import Derived.Laws.IdiomStrings
namespace Go.Proofs.Ytbadkfocfgojlaa
open Go.RowKit
set_option linter.unusedVariables false

structure OpD where
  k : Int
  s : ByteArray
  n : Int
  b : Bool
  l : List Int
def in64 (n : Int) : Prop := -9223372036854775808 ≤ n ∧ n ≤ 9223372036854775807
def OpD.ok (o : OpD) : Prop := in64 o.k ∧ in64 o.n ∧ (∀ x ∈ o.l, in64 x) ∧ o.s.size ≤ 100 ∧ o.l.length ≤ 100
/-- The bytes of a string. -/
def bytesOf (s : ByteArray) : List Int := s.data.toList.map fun b => (b.toNat : Int)
theorem bytesOf_len (s : ByteArray) : (bytesOf s).length = s.size := by simp [bytesOf]
theorem bytesOf_byt (s : ByteArray) : Byt (bytesOf s) := fun x hx => by
  obtain ⟨b, _, rfl⟩ := List.mem_map.1 hx
  have := b.toNat_lt
  omega
def intsL (l : List Int) : List Int := chainL (foldZ l.length) ++ l.flatMap fun n => chainL (foldZ n)
def writeD (o : OpD) : List Int :=
  if o.k = 0 then bytesOf o.s else if o.k = 1 then chainL (foldZ o.n) else if o.k = 2 then [if o.b then 1 else 0] else if o.k = 3 then intsL o.l else []
theorem chains_len (l : List Int) (h : ∀ x ∈ l, in64 x) : (l.flatMap fun n => chainL (foldZ n)).length ≤ 10 * l.length := by
  induction l with
  | nil => simp
  | cons x l ih =>
    have hx := h x (by simp)
    have hr := fold_range x hx.1 hx.2
    have := chain_ten _ hr.1 hr.2
    have := ih fun y hy => h y (by simp [hy])
    simp only [List.flatMap_cons, List.length_append, List.length_cons]
    omega
theorem chains_byt (l : List Int) (h : ∀ x ∈ l, in64 x) : Byt (l.flatMap fun n => chainL (foldZ n)) := fun y hy => by
  obtain ⟨x, hx, hy⟩ := List.mem_flatMap.1 hy
  have := h x hx
  exact chain_bytes _ (fold_range x this.1 this.2).1 y hy
theorem ints_len (l : List Int) (h : ∀ x ∈ l, in64 x) (hl : l.length ≤ 1000000) : (intsL l).length ≤ 10 + 10 * l.length := by
  have := chains_len l h
  have hr := fold_range (l.length : Int) (by omega) (by omega)
  have := chain_ten _ hr.1 hr.2
  unfold intsL
  rw [List.length_append]
  omega
theorem ints_byt (l : List Int) (h : ∀ x ∈ l, in64 x) (hl : l.length ≤ 1000000) : Byt (intsL l) :=
  Byt.app (chain_bytes _ (fold_range (l.length : Int) (by omega) (by omega)).1) (chains_byt l h)
theorem write_len (o : OpD) (h : o.ok) : (writeD o).length ≤ 1010 := by
  obtain ⟨h1, h2, h3, h4, h5⟩ := h
  unfold writeD
  split
  · rw [bytesOf_len]; omega
  · split
    · have hr := fold_range o.n h2.1 h2.2
      have := chain_ten _ hr.1 hr.2
      omega
    · split
      · simp
      · split
        · have := ints_len o.l h3 (by omega); omega
        · simp
theorem write_byt (o : OpD) (h : o.ok) : Byt (writeD o) := by
  obtain ⟨h1, h2, h3, h4, h5⟩ := h
  unfold writeD
  split
  · exact bytesOf_byt _
  · split
    · exact chain_bytes _ (fold_range o.n h2.1 h2.2).1
    · split
      · intro x hx
        simp at hx
        split at hx <;> omega
      · split
        · exact ints_byt _ h3 (by omega)
        · intro x hx; simp at hx
/-- One of them lies at an address. -/
def OpAt (w : World) (b off : Nat) (o : OpD) : Prop :=
  w.cell? ⟨b, off, none⟩ = some (.int .i64 o.k) ∧ w.cell? ⟨b, off + 1, none⟩ = some (.string o.s) ∧ w.cell? ⟨b, off + 2, none⟩ = some (.int .i64 o.n) ∧ w.cell? ⟨b, off + 3, none⟩ = some (.bool o.b) ∧
  ∃ a c, w.cell? ⟨b, off + 4, none⟩ = some (.slice a o.l.length c) ∧ RowK .i64 w a c o.l
theorem OpAt.carry {w w' : World} {b off : Nat} {o : OpD} (h : OpAt w b off o) (hB : b < w.heap.size) (hb : Below w.heap.size w w') : OpAt w' b off o := by
  obtain ⟨h0, h1, h2, h3, a, c, h4, h5⟩ := h
  exact ⟨(hb.cell (p := ⟨b, off, none⟩) hB).trans h0, (hb.cell (p := ⟨b, off + 1, none⟩) hB).trans h1, (hb.cell (p := ⟨b, off + 2, none⟩) hB).trans h2, (hb.cell (p := ⟨b, off + 3, none⟩) hB).trans h3,
    a, c, (hb.cell (p := ⟨b, off + 4, none⟩) hB).trans h4, h5.carry hb⟩
/-- A slice of them. -/
def Ops (w : World) (a : Option Addr) (cap : Nat) (l : List OpD) : Prop :=
  l.length ≤ cap ∧ ∀ j, j < l.length → ∃ b off o, a = some ⟨b, off, none⟩ ∧ b < w.heap.size ∧ l[j]? = some o ∧ OpAt w b (off + j * 5) o
theorem Ops.carry {w w' : World} {a : Option Addr} {cap : Nat} {l : List OpD} (h : Ops w a cap l) (hb : Below w.heap.size w w') : Ops w' a cap l := ⟨h.1, fun j hj => by
  obtain ⟨b, off, o, rfl, hB, ho, hc⟩ := h.2 j hj
  exact ⟨b, off, o, rfl, Nat.lt_of_lt_of_le hB hb.size, ho, hc.carry hB hb⟩⟩
theorem Own.carry {w w' : World} {B : Nat} {v : Value} {l : List Int} (h : Own w B v l) (hb : Below w.heap.size w w') : Own w' B v l :=
  World.ownsRow.kept (row := none) h ⟨hb.os, hb.tape, hb.output, hb.size, fun i hi _ => hb.block i hi⟩ (by cases v.ownBlock <;> simp)

theorem take_flat (l : List Int) (k : Nat) (h : k < l.length) (f : Int → List Int) : (l.take (k + 1)).flatMap f = (l.take k).flatMap f ++ f (l.getD k 0) := by
  rw [List.take_succ_eq_append_getElem h, List.flatMap_append]
  simp [h]
theorem rints_any (a : Option Addr) (c : Nat) (l : List Int) (hin : ∀ x ∈ l, in64 x) (hl : l.length ≤ 1000000) (w : World) (hr : RowK .i64 w a c l) :
    Calls Try.prog 31 #[.slice a l.length c] w fun e w' => ∃ v, e = .returned v ∧ Own w' w.heap.size v (intsL l) ∧ Below w.heap.size w w' := by
  have hfr := fold_range (l.length : Int) (by omega) (by omega)
  have hten := chain_ten _ hfr.1 hfr.2
  have ch := fun w => chain_any (l.length : Int) (by omega) (by omega) w
  go_enter Try.func31, Try.ntmps31
  go_wp2_with fail
  refine (ch _).mono ?_
  rintro e w1 ⟨v1, rfl, o1, b1⟩
  clear ch
  go_wp2_with fail
  go_loopw [3, 4] (fun v i wr => ∃ k : Nat, k ≤ l.length ∧ i = .int .i64 k ∧ Own wr w.heap.size v (chainL (foldZ l.length) ++ (l.take k).flatMap fun n => chainL (foldZ n)) ∧ Below w.heap.size w wr) (fun _ i _ => l.length - (intOf i).toNat)
  case atStart => exact ⟨0, Nat.zero_le _, rfl, by simpa [Own] using o1, b1⟩
  case round =>
    clear o1 b1
    obtain ⟨k, hk, rfl, hown, hbl⟩ := hrel
    by_cases hlt : k < l.length
    · obtain ⟨y, hy⟩ : ∃ y, y = l.getD k 0 := ⟨_, rfl⟩
      obtain ⟨b, off, rfl, hB, hck⟩ := (hr.carry hbl).2 k hlt
      have hyin : in64 y := by
        rw [hy, show l.getD k 0 = l[k] by simp [hlt]]
        exact hin _ (List.getElem_mem hlt)
      rw [← hy] at hck
      have hnext := take_flat l k hlt fun n => chainL (foldZ n)
      rw [← hy] at hnext
      have hlen := chains_len (l.take k) fun x hx => hin x (List.mem_of_mem_take hx)
      have hlk : (l.take k).length ≤ l.length := by simp; omega
      generalize (l.take k).flatMap (fun n => chainL (foldZ n)) = D at *
      have HN := Lib.hid hnext
      have fy := fold_range y hyin.1 hyin.2
      have ly := chain_ten _ fy.1 fy.2
      have cy := fun w => chain_any y hyin.1 hyin.2 w
      clear hy hnext hr
      generalize foldZ (l.length : Int) = U at *
      generalize foldZ y = Y at *
      obtain ⟨Z, hZ⟩ : ∃ Z, Z = chainL U ++ D := ⟨_, rfl⟩
      have hZl : Z.length ≤ 10000010 := by rw [hZ, List.length_append]; omega
      rw [← hZ] at hown
      have HZ := Lib.hid hZ
      clear hZ
      go_wp2_with fail
      refine (cy _).mono ?_
      rintro e w2 ⟨v2, rfl, o2, b2⟩
      obtain ⟨a2, k2, rfl, r2⟩ := own_row o2
      have hown2 := hown.carry b2
      have hb2 := bstep hbl b2 hbl.size
      clear o2 hown hbl b2 cy hck
      go_wp2_with (at_builtin; refine wpList_app rfl (.tmp 14) (.tmp 19) rfl rfl hown2 rfl r2 (by omega) hb2 hb2.size ?_; intro v3 w3 o3 b3)
      go_roundw
      case rel =>
        refine ⟨k + 1, by omega, by go_num, ?_, b3⟩
        rw [HN.out, ← List.append_assoc, ← HZ.out]
        exact o3
      case measure => simp [intOf]; omega
    · rw [List.take_of_length_le (by omega)] at hown
      go_wp2_with fail
      go_ret
      exact ⟨_, rfl, hown, hbl⟩
/-- '[]byte(s)' -/
theorem wpList_bytes {w : World} {ops : Array Oper} {rest : List Oper} {o : Oper} {a : Act} {Q : Exit → Act → World → Prop} (hgd : o.guard = none) (x : Operand)
    (ho : o.op = .convert 9 26 x) {s : ByteArray} (hx : a.eval x = .string s)
    (h : ∀ ad cap w', Row w' ad cap (bytesOf s) → Below w.heap.size w w' → wpList Try.prog ops Q rest (a.put o.dst (.slice ad (bytesOf s).length cap)) w') : wpList Try.prog ops Q (o :: rest) a w := by
  have hr := run_bytes_of_string (P := Try.prog) w 9 26 5 s Try.underlying9 Try.underlying26 Try.underlying5
  refine wpList_plain hgd fun _ hK => ?_
  unfold Oper.wp execOp
  simp only [ho, hx, Sem.run_bind, hr, Sem.run_pure, Result.andThen_ok]
  rw [← bytesOf_len s]
  refine hK _ _ (h _ _ _ ⟨?_, fun j hj => ⟨w.heap.size, 0, rfl, by simp, ?_⟩⟩ ?_)
  · rw [bytesOf_len]; exact grownCap_ge _ _ _ _
  · rw [Nat.zero_add]
    have hj' : j < s.size := by rw [← bytesOf_len]; exact hj
    refine (World.cell?_alloc_mark w.drew _ 5 _ j).trans ?_
    rw [bytesOf_len]
    have hj2 : j < s.data.size := hj'
    simp [bytesRow, bytesOf, Array.getElem?_append, hj']
  · exact ((Below.refl _ w).drew).alloc (Nat.le_refl _) _
theorem take_flatO (l : List OpD) (k : Nat) (o : OpD) (h : l[k]? = some o) : (l.take (k + 1)).flatMap writeD = (l.take k).flatMap writeD ++ writeD o := by
  rw [List.take_add_one, h, List.flatMap_append]
  simp
theorem writes_len (l : List OpD) (h : ∀ o ∈ l, o.ok) : (l.flatMap writeD).length ≤ 1010 * l.length := by
  induction l with
  | nil => simp
  | cons x l ih =>
    have := write_len x (h x (by simp))
    have := ih fun y hy => h y (by simp [hy])
    simp only [List.flatMap_cons, List.length_append, List.length_cons]
    omega
set_option maxHeartbeats 1000000 in
theorem rwrite_any (a : Option Addr) (c : Nat) (l : List OpD) (hok : ∀ o ∈ l, o.ok) (hl : l.length ≤ 1000) (w : World) (hr : Ops w a c l) :
    Calls Try.prog 11 #[.slice a l.length c] w fun e w' => ∃ v, e = .returned v ∧ Own w' w.heap.size v (l.flatMap writeD) ∧ Below w.heap.size w w' := by
  go_enter Try.func11, Try.ntmps11
  go_wp2_with fail
  go_loopw [3, 4] (fun v i wr => ∃ k : Nat, k ≤ l.length ∧ i = .int .i64 k ∧ Own wr w.heap.size v ((l.take k).flatMap writeD) ∧ Below w.heap.size w wr) (fun _ i _ => l.length - (intOf i).toNat)
  case atStart => exact ⟨0, Nat.zero_le _, rfl, World.ownsRow_nil _ _ _ _, Below.refl _ _⟩
  case round =>
    obtain ⟨k, hk, rfl, hown, hbl⟩ := hrel
    by_cases hlt : k < l.length
    · obtain ⟨b, off, o, rfl, hB, ho, hat⟩ := (hr.carry hbl).2 k hlt
      have hoo := hok o (List.mem_of_getElem? ho)
      have hnext := take_flatO l k o ho
      have hlen := writes_len (l.take k) fun x hx => hok x (List.mem_of_mem_take hx)
      have hlk : (l.take k).length ≤ l.length := by simp; omega
      generalize (l.take k).flatMap writeD = D at *
      have hDl : D.length ≤ 1010000 := by omega
      clear hlen hlk
      obtain ⟨ok, os, on, ob, ol⟩ := o
      obtain ⟨h0, h1, h2, h3, al, cl, h4, hrl⟩ := hat
      obtain ⟨i1, i2, i3, i4, i5⟩ := hoo
      simp only at h0 h1 h2 h3 h4 hrl i1 i2 i3 i4 i5
      have hsz := hbl.size
      by_cases e0 : ok = 0
      · subst e0
        have hw : writeD ⟨0, os, on, ob, ol⟩ = bytesOf os := rfl
        rw [hw] at hnext
        have HN := Lib.hid hnext
        have hbl' := bytesOf_len os
        clear hnext hw ho hr h2 h3 h4 hrl
        go_wp2_with (first
          | ((with_reducible show wpList _ _ _ _ _ _); refine wpList_bytes (o := ⟨some 25, _, _, _, _, _⟩) rfl (.tmp 24) rfl (by rfl) ?_; intro ad cp w2 r2 b2; have hown2 := hown.carry b2; have hb2 := bstep hbl b2 hbl.size)
          | (at_builtin; refine wpList_app rfl (.tmp 19) (.tmp 25) rfl rfl hown2 rfl r2 (by omega) hb2 hb2.size ?_; intro v3 w3 o3 b3))
        go_roundw
        case rel => exact ⟨k + 1, by omega, by go_num, by rw [HN.out]; exact o3, b3⟩
        case measure => simp [intOf]; omega
      · by_cases e1 : ok = 1
        · subst e1
          have hw : writeD ⟨1, os, on, ob, ol⟩ = chainL (foldZ on) := rfl
          rw [hw] at hnext
          have fy := fold_range on i2.1 i2.2
          have ly := chain_ten _ fy.1 fy.2
          have cy := fun w => chain_any on i2.1 i2.2 w
          generalize chainL (foldZ on) = C at *
          have HN := Lib.hid hnext
          clear hnext hw ho hr h1 h3 h4 hrl
          go_wp2_with (first
            | (go_at_call 30; refine (cy _).mono ?_; rintro e w2 ⟨v2, rfl, o2, b2⟩; obtain ⟨a2, k2, rfl, r2⟩ := own_row o2; have hown2 := hown.carry b2; have hb2 := bstep hbl b2 hbl.size)
            | (at_builtin; refine wpList_app rfl (.tmp 29) (.tmp 35) rfl rfl hown2 rfl r2 (by omega) hb2 hb2.size ?_; intro v3 w3 o3 b3))
          go_roundw
          case rel => exact ⟨k + 1, by omega, by go_num, by rw [HN.out]; exact o3, b3⟩
          case measure => simp [intOf]; omega
        · by_cases e2 : ok = 2
          · subst e2
            have hw : writeD ⟨2, os, on, ob, ol⟩ = [if ob then 1 else 0] := rfl
            rw [hw] at hnext
            cases ob with
            | true =>
              have hnext : (l.take (k + 1)).flatMap writeD = D ++ [1] := hnext
              have HN := Lib.hid hnext
              clear hnext hw ho hr h1 h2 h4 hrl
              go_wp2_with (at_builtin; refine wpList_app rfl (.tmp 44) (.tmp 46) rfl rfl (hown.alloc1 _) (m := [1]) rfl (row_new _ _ _ (by decide)) (by simp; omega) (hbl.alloc hbl.size _) (by simp; omega) ?_; intro v3 w3 o3 b3)
              go_roundw
              case rel => exact ⟨k + 1, by omega, by go_num, by rw [HN.out]; exact o3, b3⟩
              case measure => simp [intOf]; omega
            | false =>
              have hnext : (l.take (k + 1)).flatMap writeD = D ++ [0] := hnext
              have HN := Lib.hid hnext
              clear hnext hw ho hr h1 h2 h4 hrl
              go_wp2_with (at_builtin; refine wpList_app rfl (.tmp 44) (.tmp 46) rfl rfl (hown.alloc1 _) (m := [0]) rfl (row_new _ _ _ (by decide)) (by simp; omega) (hbl.alloc hbl.size _) (by simp; omega) ?_; intro v3 w3 o3 b3)
              go_roundw
              case rel => exact ⟨k + 1, by omega, by go_num, by rw [HN.out]; exact o3, b3⟩
              case measure => simp [intOf]; omega
          · by_cases e3 : ok = 3
            · subst e3
              have hw : writeD ⟨3, os, on, ob, ol⟩ = intsL ol := rfl
              rw [hw] at hnext
              have li := ints_len ol i3 (by omega)
              have cy := fun w h => rints_any al cl ol i3 (by omega) w h
              generalize intsL ol = C at *
              have HN := Lib.hid hnext
              clear hnext hw ho hr h1 h2 h3
              go_wp2_with (first
                | (go_at_call 31; refine (cy _ hrl).mono ?_; rintro e w2 ⟨v2, rfl, o2, b2⟩; obtain ⟨a2, k2, rfl, r2⟩ := own_row o2; have hown2 := hown.carry b2; have hb2 := bstep hbl b2 hbl.size)
                | (at_builtin; refine wpList_app rfl (.tmp 50) (.tmp 56) rfl rfl hown2 rfl r2 (by omega) hb2 hb2.size ?_; intro v3 w3 o3 b3))
              go_roundw
              case rel => exact ⟨k + 1, by omega, by go_num, by rw [HN.out]; exact o3, b3⟩
              case measure => simp [intOf]; omega
            · have hw : writeD ⟨ok, os, on, ob, ol⟩ = [] := by unfold writeD; simp only [if_neg e0, if_neg e1, if_neg e2, if_neg e3]
              rw [hw, List.append_nil] at hnext
              have HN := Lib.hid hnext
              have t0 : (ok == 0) = false := by simpa using e0
              have t1 : (ok == 1) = false := by simpa using e1
              have t2 : (ok == 2) = false := by simpa using e2
              have t3 : (ok == 3) = false := by simpa using e3
              clear hnext hw ho hr h1 h2 h3 h4 hrl e0 e1 e2 e3
              go_wp2_with fail
              go_roundw
              case rel => exact ⟨k + 1, by omega, by go_num, by rw [HN.out]; exact hown, hbl⟩
              case measure => simp [intOf]; omega
    · rw [List.take_of_length_le (by omega)] at hown
      go_wp2_with fail
      go_ret
      exact ⟨_, rfl, hown, hbl⟩
end Go.Proofs.Ytbadkfocfgojlaa
