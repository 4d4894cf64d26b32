/- Check of package note. -/
import Derived.Test.YtimpphkikihhaaaNMath
import Derived.Test.YtimpphkikihhaaaTRow
import Derived.Test.YtimpphkikihhaaaBlk
namespace Go.Proofs.Ytimpphkikihhaaa
open Go.RowKit
set_option maxRecDepth 20000
set_option linter.unusedVariables false
set_option linter.unusedSimpArgs false

/-- A note by value. -/
def nte (la : Option Addr) (ll lc : Nat) (pa : Option Addr) (pl pc : Nat) : Value := .agg #[.slice la ll lc, .slice pa pl pc]
theorem wrongH_any (x : Int) (w : World) : Calls Try.prog 24 #[.int .i64 x] w fun e w' => e = .returned (.bool (badH x)) ∧ w' = w := by
  unfold badH
  by_cases h1 : x < 1
  · go_enter Try.func24, Try.ntmps24
    go_wp2
    go_ret
    simp [h1]
  · by_cases h2 : 1073741823 < x
    all_goals
      go_enter Try.func24, Try.ntmps24
      go_wp2
      go_ret
      simp [h1, h2]
theorem wrongP_any (x : Int) (w : World) : Calls Try.prog 26 #[.int .i64 x] w fun e w' => e = .returned (.bool (badP x)) ∧ w' = w := by
  unfold badP
  by_cases h1 : x < 0
  · go_enter Try.func26, Try.ntmps26
    go_wp2
    go_ret
    simp [h1]
  · by_cases h2 : 10000 < x
    all_goals
      go_enter Try.func26, Try.ntmps26
      go_wp2
      go_ret
      simp [h1, h2]
theorem idxF_sp (a : Option Addr) (cap : Nat) (l : List Int) (w : World) (hn : l.length ≤ 1000000) (hr : IRow w.heap.size w a l) :
    Calls Try.prog 34 #[.slice a l.length cap, .func (.func 24) #[] #[]] w fun e w' => ∃ i : Int, e = .returned (.int .i64 i) ∧ decide (0 ≤ i) = l.any badH ∧ w' = w := by
  go_enter Try.func34, Try.ntmps34
  go_wp2_with fail
  go_loopw [8] (fun i wr => ∃ k : Nat, k ≤ l.length ∧ i = .int .i64 k ∧ wr = w ∧ Hid ((l.take k).any badH = false)) (fun i _ => l.length - (intOf i).toNat)
  case atStart => exact ⟨0, Nat.zero_le _, rfl, rfl, Lib.hid (by simp)⟩
  case round =>
    obtain ⟨k, hk, rfl, rfl, HN⟩ := hrel
    by_cases hlt : k < l.length
    · obtain ⟨hyin, b, off, rfl, hB, hck⟩ := hr k hlt
      have HR := Lib.hid hr
      clear hr
      obtain ⟨y, hy⟩ : ∃ y, y = l.getD k 0 := ⟨_, rfl⟩
      rw [← hy] at hck hyin
      have HY := Lib.hid hy
      clear hy
      have c := wrongH_any y
      go_wp2_with fail
      refine (c _).mono ?_
      rintro e w1 ⟨rfl, rfl⟩
      clear c
      cases he : badH y
      · have HE := Lib.hid he
        clear he
        go_wp2
        go_roundw
        case rel => exact ⟨k + 1, by omega, by go_num, trivial, Lib.hid (any_snoc hlt HN.out (by rw [← HY.out]; exact HE.out))⟩
        case measure => simp [intOf]; omega
      · have HE := Lib.hid he
        clear he
        go_wp2
        go_ret
        exact ⟨k, rfl, by rw [any_at hlt (by rw [← HY.out]; exact HE.out)]; simp, rfl⟩
    · have hh : l.any badH = false := by have := HN.out; rwa [List.take_of_length_le (by omega)] at this
      go_wp2
      go_ret
      exact ⟨-1, rfl, by rw [hh]; rfl, rfl⟩
theorem idxF_int (a : Option Addr) (cap : Nat) (l : List Int) (w : World) (hn : l.length ≤ 1000000) (hr : IRow w.heap.size w a l) :
    Calls Try.prog 35 #[.slice a l.length cap, .func (.func 26) #[] #[]] w fun e w' => ∃ i : Int, e = .returned (.int .i64 i) ∧ decide (0 ≤ i) = l.any badP ∧ w' = w := by
  go_enter Try.func35, Try.ntmps35
  go_wp2_with fail
  go_loopw [8] (fun i wr => ∃ k : Nat, k ≤ l.length ∧ i = .int .i64 k ∧ wr = w ∧ Hid ((l.take k).any badP = false)) (fun i _ => l.length - (intOf i).toNat)
  case atStart => exact ⟨0, Nat.zero_le _, rfl, rfl, Lib.hid (by simp)⟩
  case round =>
    obtain ⟨k, hk, rfl, rfl, HN⟩ := hrel
    by_cases hlt : k < l.length
    · obtain ⟨hyin, b, off, rfl, hB, hck⟩ := hr k hlt
      have HR := Lib.hid hr
      clear hr
      obtain ⟨y, hy⟩ : ∃ y, y = l.getD k 0 := ⟨_, rfl⟩
      rw [← hy] at hck hyin
      have HY := Lib.hid hy
      clear hy
      have c := wrongP_any y
      go_wp2_with fail
      refine (c _).mono ?_
      rintro e w1 ⟨rfl, rfl⟩
      clear c
      cases he : badP y
      · have HE := Lib.hid he
        clear he
        go_wp2
        go_roundw
        case rel => exact ⟨k + 1, by omega, by go_num, trivial, Lib.hid (any_snoc hlt HN.out (by rw [← HY.out]; exact HE.out))⟩
        case measure => simp [intOf]; omega
      · have HE := Lib.hid he
        clear he
        go_wp2
        go_ret
        exact ⟨k, rfl, by rw [any_at hlt (by rw [← HY.out]; exact HE.out)]; simp, rfl⟩
    · have hh : l.any badP = false := by have := HN.out; rwa [List.take_of_length_le (by omega)] at this
      go_wp2
      go_ret
      exact ⟨-1, rfl, by rw [hh]; rfl, rfl⟩
theorem hasF_sp (a : Option Addr) (cap : Nat) (l : List Int) (w : World) (hn : l.length ≤ 1000000) (hr : IRow w.heap.size w a l) :
    Calls Try.prog 23 #[.slice a l.length cap, .func (.func 24) #[] #[]] w fun e w' => e = .returned (.bool (l.any badH)) ∧ w' = w := by
  have c := idxF_sp a cap l w hn hr
  clear hr
  go_enter Try.func23, Try.ntmps23
  go_wp2_with fail
  refine c.mono ?_
  rintro e w1 ⟨i, rfl, hi, rfl⟩
  have HI := Lib.hid hi
  clear hi
  go_wp2
  go_ret
  exact ⟨by rw [← HI.out]; rfl, rfl⟩
theorem hasF_int (a : Option Addr) (cap : Nat) (l : List Int) (w : World) (hn : l.length ≤ 1000000) (hr : IRow w.heap.size w a l) :
    Calls Try.prog 25 #[.slice a l.length cap, .func (.func 26) #[] #[]] w fun e w' => e = .returned (.bool (l.any badP)) ∧ w' = w := by
  have c := idxF_int a cap l w hn hr
  clear hr
  go_enter Try.func25, Try.ntmps25
  go_wp2_with fail
  refine c.mono ?_
  rintro e w1 ⟨i, rfl, hi, rfl⟩
  have HI := Lib.hid hi
  clear hi
  go_wp2
  go_ret
  exact ⟨by rw [← HI.out]; rfl, rfl⟩
end Go.Proofs.Ytimpphkikihhaaa
