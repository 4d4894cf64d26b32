/- The law's read: what one reading of codec tells. -/
import Derived.Test.YtbadkfocfgojlaaYBools
namespace Go.Proofs.Ytbadkfocfgojlaa
open Go.RowKit
set_option linter.unusedVariables false
set_option linter.unusedSimpArgs false

theorem OwnK.lower {k : IntKind} {e : TypeId} {w : World} {B B' : Nat} {v : Value} {l : List Int} (h : OwnK k e w B v l) (hB : B' ≤ B) : OwnK k e w B' v l := by
  refine ⟨h.1, ?_⟩
  rcases h.2 with h | ⟨g', cap, cur, h1, h2, h3⟩
  · exact .inl h
  · exact .inr ⟨g', cap, cur, h1, Nat.le_trans hB h2, h3⟩
set_option maxRecDepth 20000 in
set_option maxHeartbeats 10000000 in
theorem lread1 (g : Nat) (a : Option Addr) (c : Nat) (bs : List Int) (p : Nat) (st : Bool) (o : OpD) (al : Option Addr) (cl : Nat) (hp : p ≤ bs.length) (hl : bs.length ≤ 1000000) (hB : Byt bs) (w : World) (hR : CdAt w g a c bs.length p st) (hr : Row w a c bs) (hk : o.k = 1) : Calls Try.prog 14 #[.pointer (some ⟨g, 0, none⟩), opV o al cl] w fun e w' => ∃ v, e = .returned v ∧ OwnK .i64 2 w' w.heap.size v [(intR bs p st).1] ∧ CdAt w' g a c bs.length (intR bs p st).2.1 (intR bs p st).2.2 ∧ But g w w' := by
  have R1 := hR.old (bel1 w (opO o al cl))
  have B1 : But g w (w.alloc (opO o al cl)) := But.of (bel1 w (opO o al cl))
  have hr1 := hr.carry (bel1 w (opO o al cl))
  have ci := int_any g a c bs p st hp hl hB _ R1 hr1
  have hz : w.heap.size ≤ (w.alloc (opO o al cl)).heap.size := by simp
  obtain ⟨ok, os, on, ob, ol⟩ := o
  simp only at hk
  subst hk
  unfold opV
  simp only
  generalize (intR bs p st).1 = x at *
  generalize (intR bs p st).2.1 = q at *
  generalize (intR bs p st).2.2 = t at *
  go_enter Try.func14, Try.ntmps14
  go_upto_region 5 with (fail)
  generalize w.alloc (.cells #[.int .i64 1, .string os, .int .i64 on, .bool ob, .slice al ol.length cl] 37) = W at ci B1 hz ⊢
  go_wp2_with fail
  refine ci.mono ?_
  rintro e w1 ⟨rfl, R2, B2⟩
  have B3 := But.trans B1 B2
  have hs := B3.size
  clear ci R1 B1 hr1 B2 hz
  go_wp2
  go_ret
  exact ⟨_, rfl, own_one _ _ _ hs, R2.old (bel1 _ _), But.step B3 (bel1 _ _)⟩
set_option maxRecDepth 20000 in
set_option maxHeartbeats 10000000 in
theorem lread4 (g : Nat) (a : Option Addr) (c : Nat) (bs : List Int) (p : Nat) (st : Bool) (o : OpD) (al : Option Addr) (cl : Nat) (hp : p ≤ bs.length) (hl : bs.length ≤ 1000000) (hB : Byt bs) (w : World) (hR : CdAt w g a c bs.length p st) (hr : Row w a c bs) (hk : o.k = 4) : Calls Try.prog 14 #[.pointer (some ⟨g, 0, none⟩), opV o al cl] w fun e w' => ∃ v, e = .returned v ∧ OwnK .i64 2 w' w.heap.size v [(countR bs p st).1] ∧ CdAt w' g a c bs.length (countR bs p st).2.1 (countR bs p st).2.2 ∧ But g w w' := by
  have R1 := hR.old (bel1 w (opO o al cl))
  have B1 : But g w (w.alloc (opO o al cl)) := But.of (bel1 w (opO o al cl))
  have hr1 := hr.carry (bel1 w (opO o al cl))
  have ci := count_any g a c bs p st hp hl hB _ R1 hr1
  have hz : w.heap.size ≤ (w.alloc (opO o al cl)).heap.size := by simp
  obtain ⟨ok, os, on, ob, ol⟩ := o
  simp only at hk
  subst hk
  unfold opV
  simp only
  generalize (countR bs p st).1 = x at *
  generalize (countR bs p st).2.1 = q at *
  generalize (countR bs p st).2.2 = t at *
  go_enter Try.func14, Try.ntmps14
  go_upto_region 13 with (fail)
  generalize w.alloc (.cells #[.int .i64 4, .string os, .int .i64 on, .bool ob, .slice al ol.length cl] 37) = W at ci B1 hz ⊢
  go_wp2_with fail
  refine ci.mono ?_
  rintro e w1 ⟨rfl, R2, B2⟩
  have B3 := But.trans B1 B2
  have hs := B3.size
  clear ci R1 B1 hr1 B2 hz
  go_wp2
  go_ret
  exact ⟨_, rfl, own_one _ _ _ hs, R2.old (bel1 _ _), But.step B3 (bel1 _ _)⟩
set_option maxRecDepth 20000 in
set_option maxHeartbeats 10000000 in
theorem lread2 (g : Nat) (a : Option Addr) (c : Nat) (bs : List Int) (p : Nat) (st : Bool) (o : OpD) (al : Option Addr) (cl : Nat) (hp : p ≤ bs.length) (hl : bs.length ≤ 1000000) (hB : Byt bs) (w : World) (hR : CdAt w g a c bs.length p st) (hr : Row w a c bs) (hk : o.k = 2) : Calls Try.prog 14 #[.pointer (some ⟨g, 0, none⟩), opV o al cl] w fun e w' => ∃ v, e = .returned v ∧ OwnK .i64 2 w' w.heap.size v [(boolR bs p st).1] ∧ CdAt w' g a c bs.length (boolR bs p st).2.1 (boolR bs p st).2.2 ∧ But g w w' := by
  have h01 := boolR_01 bs p st hB
  have R1 := hR.old (bel1 w (opO o al cl))
  have B1 : But g w (w.alloc (opO o al cl)) := But.of (bel1 w (opO o al cl))
  have hr1 := hr.carry (bel1 w (opO o al cl))
  have ci := bool_any g a c bs p st hp hl hB _ R1 hr1
  have hz : w.heap.size ≤ (w.alloc (opO o al cl)).heap.size := by simp
  obtain ⟨ok, os, on, ob, ol⟩ := o
  simp only at hk
  subst hk
  unfold opV
  simp only
  generalize (boolR bs p st).1 = x at *
  generalize (boolR bs p st).2.1 = q at *
  generalize (boolR bs p st).2.2 = t at *
  go_enter Try.func14, Try.ntmps14
  go_upto_region 7 with (fail)
  generalize w.alloc (.cells #[.int .i64 2, .string os, .int .i64 on, .bool ob, .slice al ol.length cl] 37) = W at ci B1 hz ⊢
  rcases h01 with rfl | rfl
  · rw [show ((0 : Int) == 1) = false from rfl] at ci
    go_wp2_with fail
    refine ci.mono ?_
    rintro e w1 ⟨rfl, R2, B2⟩
    have B3 := But.trans B1 B2
    have hs := B3.size
    clear ci R1 B1 hr1 B2 hz
    go_wp2
    go_ret
    exact ⟨_, rfl, own_one _ _ _ hs, R2.old (bel1 _ _), But.step B3 (bel1 _ _)⟩
  · rw [show ((1 : Int) == 1) = true from rfl] at ci
    go_wp2_with fail
    refine ci.mono ?_
    rintro e w1 ⟨rfl, R2, B2⟩
    have B3 := But.trans B1 B2
    have hs := B3.size
    clear ci R1 B1 hr1 B2 hz
    go_wp2
    go_ret
    exact ⟨_, rfl, own_one _ _ _ hs, R2.old (bel1 _ _), But.step B3 (bel1 _ _)⟩
set_option maxRecDepth 20000 in
set_option maxHeartbeats 10000000 in
theorem lread3 (g : Nat) (a : Option Addr) (c : Nat) (bs : List Int) (p : Nat) (st : Bool) (o : OpD) (al : Option Addr) (cl : Nat) (hp : p ≤ bs.length) (hl : bs.length ≤ 1000000) (hB : Byt bs) (w : World) (hR : CdAt w g a c bs.length p st) (hr : Row w a c bs) (hk : o.k = 3) : Calls Try.prog 14 #[.pointer (some ⟨g, 0, none⟩), opV o al cl] w fun e w' => ∃ v, e = .returned v ∧ OwnK .i64 2 w' w.heap.size v (intsR bs p st).1 ∧ CdAt w' g a c bs.length (intsR bs p st).2.1 (intsR bs p st).2.2 ∧ But g w w' := by
  have R1 := hR.old (bel1 w (opO o al cl))
  have B1 : But g w (w.alloc (opO o al cl)) := But.of (bel1 w (opO o al cl))
  have hr1 := hr.carry (bel1 w (opO o al cl))
  have ci := ints_any g a c bs p st hp hl hB _ R1 hr1
  have hz : w.heap.size ≤ (w.alloc (opO o al cl)).heap.size := by simp
  obtain ⟨ok, os, on, ob, ol⟩ := o
  simp only at hk
  subst hk
  unfold opV
  simp only
  generalize (intsR bs p st).1 = x at *
  generalize (intsR bs p st).2.1 = q at *
  generalize (intsR bs p st).2.2 = t at *
  go_enter Try.func14, Try.ntmps14
  go_upto_region 11 with (fail)
  generalize w.alloc (.cells #[.int .i64 3, .string os, .int .i64 on, .bool ob, .slice al ol.length cl] 37) = W at ci B1 hz ⊢
  go_wp2_with fail
  refine ci.mono ?_
  rintro e w1 ⟨v, rfl, o2, R2, B2⟩
  have B3 := But.trans B1 B2
  have o3 := o2.lower hz
  clear ci R1 B1 hr1 B2 o2 hz
  go_wp2
  go_ret
  exact ⟨_, rfl, o3, R2, B3⟩
set_option maxRecDepth 20000 in
set_option maxHeartbeats 10000000 in
theorem lread0 (g : Nat) (a : Option Addr) (c : Nat) (bs : List Int) (p : Nat) (st : Bool) (o : OpD) (al : Option Addr) (cl : Nat) (hp : p ≤ bs.length) (hl : bs.length ≤ 1000000) (hB : Byt bs) (w : World) (hR : CdAt w g a c bs.length p st) (hr : Row w a c bs) (hk : o.k = 0) (hsz : o.s.size ≤ 1000000) : Calls Try.prog 14 #[.pointer (some ⟨g, 0, none⟩), opV o al cl] w fun e w' => ∃ v, e = .returned v ∧ OwnK .i64 2 w' w.heap.size v [] ∧ CdAt w' g a c bs.length (markR bs p st o.s).1 (markR bs p st o.s).2 ∧ But g w w' := by
  have R1 := hR.old (bel1 w (opO o al cl))
  have B1 : But g w (w.alloc (opO o al cl)) := But.of (bel1 w (opO o al cl))
  have hr1 := hr.carry (bel1 w (opO o al cl))
  have ci := mark_any g a c bs p st o.s hsz hp hl hB _ R1 hr1
  obtain ⟨ok, os, on, ob, ol⟩ := o
  simp only at hk ci ⊢
  subst hk
  unfold opV
  simp only
  generalize (markR bs p st os).1 = q at *
  generalize (markR bs p st os).2 = t at *
  have c1 : (w.alloc (opO ⟨0, os, on, ob, ol⟩ al cl)).cell? ⟨w.heap.size, 1, none⟩ = some (.string os) := by unfold opO; simp [World.cell?_alloc_at]
  go_enter Try.func14, Try.ntmps14
  go_upto_region 3 with (fail)
  generalize w.alloc (.cells #[.int .i64 0, .string os, .int .i64 on, .bool ob, .slice al ol.length cl] 37) = W at ci B1 c1 ⊢
  go_wp2_with fail
  refine ci.mono ?_
  rintro e w1 ⟨rfl, R2, B2⟩
  have B3 := But.trans B1 B2
  clear ci R1 B1 hr1 B2
  go_wp2
  go_ret
  exact ⟨_, rfl, OwnK.nil _ _ _ _, R2, B3⟩
set_option maxRecDepth 20000 in
set_option maxHeartbeats 10000000 in
theorem lread5 (g : Nat) (a : Option Addr) (c : Nat) (bs : List Int) (p : Nat) (st : Bool) (o : OpD) (al : Option Addr) (cl : Nat) (hp : p ≤ bs.length) (hl : bs.length ≤ 1000000) (hB : Byt bs) (w : World) (hR : CdAt w g a c bs.length p st) (hr : Row w a c bs) (hk : o.k = 5) : Calls Try.prog 14 #[.pointer (some ⟨g, 0, none⟩), opV o al cl] w fun e w' => ∃ v, e = .returned v ∧ OwnK .i64 2 w' w.heap.size v [] ∧ CdAt w' g a c bs.length p true ∧ But g w w' := by
  have R1 := hR.old (bel1 w (opO o al cl))
  have B1 : But g w (w.alloc (opO o al cl)) := But.of (bel1 w (opO o al cl))
  have hr1 := hr.carry (bel1 w (opO o al cl))
  have ci := stop_any g a c bs.length p st _ R1
  have hz : w.heap.size ≤ (w.alloc (opO o al cl)).heap.size := by simp
  obtain ⟨ok, os, on, ob, ol⟩ := o
  simp only at hk
  subst hk
  unfold opV
  simp only
  go_enter Try.func14, Try.ntmps14
  go_upto_region 15 with (fail)
  generalize w.alloc (.cells #[.int .i64 5, .string os, .int .i64 on, .bool ob, .slice al ol.length cl] 37) = W at ci B1 hz ⊢
  go_wp2_with fail
  refine ci.mono ?_
  rintro e w1 ⟨rfl, R2, B2⟩
  have B3 := But.trans B1 B2
  clear ci R1 B1 hr1 B2
  go_wp2
  go_ret
  exact ⟨_, rfl, OwnK.nil _ _ _ _, R2, B3⟩
set_option maxRecDepth 20000 in
set_option maxHeartbeats 10000000 in
theorem lread7 (g : Nat) (a : Option Addr) (c : Nat) (bs : List Int) (p : Nat) (st : Bool) (o : OpD) (al : Option Addr) (cl : Nat) (hp : p ≤ bs.length) (hl : bs.length ≤ 1000000) (hB : Byt bs) (w : World) (hR : CdAt w g a c bs.length p st) (hr : Row w a c bs) (hk : ¬ (0 ≤ o.k ∧ o.k ≤ 6)) : Calls Try.prog 14 #[.pointer (some ⟨g, 0, none⟩), opV o al cl] w fun e w' => ∃ v, e = .returned v ∧ OwnK .i64 2 w' w.heap.size v [] ∧ CdAt w' g a c bs.length p st ∧ But g w w' := by
  have R1 := hR.old (bel1 w (opO o al cl))
  have B1 : But g w (w.alloc (opO o al cl)) := But.of (bel1 w (opO o al cl))
  obtain ⟨ok, os, on, ob, ol⟩ := o
  simp only at hk
  have t0 : (ok == 0) = false := by simp; omega
  have t1 : (ok == 1) = false := by simp; omega
  have t2 : (ok == 2) = false := by simp; omega
  have t3 : (ok == 3) = false := by simp; omega
  have t4 : (ok == 4) = false := by simp; omega
  have t5 : (ok == 5) = false := by simp; omega
  have t6 : (ok == 6) = false := by simp; omega
  unfold opV
  simp only
  clear hk
  go_enter Try.func14, Try.ntmps14
  go_wp2
  go_ret
  exact ⟨_, rfl, OwnK.nil _ _ _ _, R1, B1⟩
set_option maxRecDepth 20000 in
set_option maxHeartbeats 10000000 in
theorem lread6 (g : Nat) (a : Option Addr) (c : Nat) (bs : List Int) (p : Nat) (st : Bool) (o : OpD) (al : Option Addr) (cl : Nat) (hp : p ≤ bs.length) (hl : bs.length ≤ 1000000) (hB : Byt bs) (w : World) (hR : CdAt w g a c bs.length p st) (hr : Row w a c bs) (hk : o.k = 6) : Calls Try.prog 14 #[.pointer (some ⟨g, 0, none⟩), opV o al cl] w fun e w' => ∃ v, e = .returned v ∧ OwnK .i64 2 w' w.heap.size v (eachR bs p st).1 ∧ CdAt w' g a c bs.length (eachR bs p st).2.1 (eachR bs p st).2.2 ∧ But g w w' := by
  have hgw := hR.lt
  have hlen : (eachR bs p st).1.length ≤ 1000000 := readR_len bs p st ⟨6, ByteArray.empty, 0, false, []⟩ hp hl hB
  have R1 := hR.old (bel1 w (opO o al cl))
  have B1 : But g w (w.alloc (opO o al cl)) := But.of (bel1 w (opO o al cl))
  have hr1 := hr.carry (bel1 w (opO o al cl))
  have ci := each_bools g a c bs p st hp hl hB _ R1 hr1
  have hz : w.heap.size ≤ (w.alloc (opO o al cl)).heap.size := by simp
  obtain ⟨ok, os, on, ob, ol⟩ := o
  simp only at hk
  subst hk
  unfold opV
  simp only
  generalize (eachR bs p st).1 = x at *
  generalize (eachR bs p st).2.1 = q at *
  generalize (eachR bs p st).2.2 = t at *
  go_enter Try.func14, Try.ntmps14
  go_upto_region 18 with (fail)
  generalize w.alloc (.cells #[.int .i64 6, .string os, .int .i64 on, .bool ob, .slice al ol.length cl] 37) = W at ci B1 hz ⊢
  go_wp2_with fail
  refine ci.mono ?_
  rintro e w1 ⟨v, z, rfl, o2, hx, R2, B2⟩
  have B3 := But.trans B1 B2
  obtain ⟨a1, c1, rfl, rb⟩ := o2.row
  have hs1 := B3.size
  have hzl : z.length ≤ 1000000 := by
    have := congrArg List.length hx
    simp at this
    omega
  clear ci R1 B1 hr1 B2 o2 hz hR hr hlen
  subst hx
  go_wp2_with fail
  go_loopw [5, 7] (fun v i wr => ∃ k : Nat, k ≤ z.length ∧ i = .int .i64 k ∧ OwnK .i64 2 wr w1.heap.size v ((z.take k).map b2i) ∧ Below w1.heap.size w1 wr) (fun _ i _ => z.length - (intOf i).toNat)
  case atStart => exact ⟨0, Nat.zero_le _, rfl, OwnK.nil _ _ _ _, Below.refl _ _⟩
  case round =>
    obtain ⟨k, hk, rfl, hown, hbl⟩ := hrel
    by_cases hlt : k < z.length
    · obtain ⟨b, off, rfl, hB4, hck⟩ := (rb.carry hbl).2 k hlt
      obtain ⟨y, hy⟩ : ∃ y, y = z.getD k false := ⟨_, rfl⟩
      rw [← hy] at hck
      have hnext : (z.take (k + 1)).map b2i = (z.take k).map b2i ++ [b2i y] := by
        rw [List.take_succ_eq_append_getElem hlt, List.map_append, hy]
        simp [hlt]
      have hlk : ((z.take k).map b2i).length ≤ z.length := by simp; omega
      have HN := Lib.hid hnext
      have hsz := hbl.size
      clear hnext hy
      generalize (z.take k).map b2i = D at *
      cases y with
      | true =>
        go_wp2_with (at_builtin; refine wpList_appK Try.underlying34 info2 (by decide) rfl (.tmp 57) (.tmp 59) rfl rfl (hown.alloc1 _) (m := [1]) rfl (rowK_new _ _ _ _ _ (by decide)) (by simp; omega) (by simp; omega) ?_; intro v5 w5 o5 g5)
        have b5 := (hown.alloc1 _).below (bstep hbl (bel1 _ _) hsz) g5 (by simp; omega)
        go_roundw
        case rel => exact ⟨k + 1, by omega, by go_num, by rw [HN.out]; exact o5, b5⟩
        case measure => simp [intOf]; omega
      | false =>
        go_wp2_with (at_builtin; refine wpList_appK Try.underlying34 info2 (by decide) rfl (.tmp 57) (.tmp 59) rfl rfl (hown.alloc1 _) (m := [0]) rfl (rowK_new _ _ _ _ _ (by decide)) (by simp; omega) (by simp; omega) ?_; intro v5 w5 o5 g5)
        have b5 := (hown.alloc1 _).below (bstep hbl (bel1 _ _) hsz) g5 (by simp; omega)
        go_roundw
        case rel => exact ⟨k + 1, by omega, by go_num, by rw [HN.out]; exact o5, b5⟩
        case measure => simp [intOf]; omega
    · rw [List.take_of_length_le (by omega)] at hown
      go_wp2_with fail
      go_ret
      exact ⟨_, rfl, hown.lower hs1, R2.old hbl, But.step B3 hbl⟩
theorem read_any (g : Nat) (a : Option Addr) (c : Nat) (bs : List Int) (p : Nat) (st : Bool) (o : OpD) (al : Option Addr) (cl : Nat) (hs : o.s.size ≤ 1000000) (hp : p ≤ bs.length) (hl : bs.length ≤ 1000000) (hB : Byt bs) (w : World) (hR : CdAt w g a c bs.length p st) (hr : Row w a c bs) :
    Calls Try.prog 14 #[.pointer (some ⟨g, 0, none⟩), opV o al cl] w fun e w' => ∃ v, e = .returned v ∧ OwnK .i64 2 w' w.heap.size v (readR bs p st o).1 ∧ CdAt w' g a c bs.length (readR bs p st o).2.1 (readR bs p st o).2.2 ∧ But g w w' := by
  unfold readR
  split
  · rename_i h; exact lread0 g a c bs p st o al cl hp hl hB w hR hr h hs
  · split
    · rename_i h; exact lread1 g a c bs p st o al cl hp hl hB w hR hr h
    · split
      · rename_i h; exact lread2 g a c bs p st o al cl hp hl hB w hR hr h
      · split
        · rename_i h; exact lread3 g a c bs p st o al cl hp hl hB w hR hr h
        · split
          · rename_i h; exact lread4 g a c bs p st o al cl hp hl hB w hR hr h
          · split
            · rename_i h; exact lread5 g a c bs p st o al cl hp hl hB w hR hr h
            · split
              · rename_i h; exact lread6 g a c bs p st o al cl hp hl hB w hR hr h
              · exact lread7 g a c bs p st o al cl hp hl hB w hR hr (by omega)
end Go.Proofs.Ytbadkfocfgojlaa
