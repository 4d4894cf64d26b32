/- First of package note. -/
import Derived.Test.YtdddhflppngloaaNMay
namespace Go.Proofs.Ytdddhflppngloaa
open Go.RowKit
set_option maxRecDepth 20000
set_option linter.unusedVariables false
set_option linter.unusedSimpArgs false

theorem search_far (f : Int) (n : Nat) (v : Value) (w : World) (h : (n : Int) ≤ f) :
    Calls Try.prog 26 #[.int .i64 f, .int .i64 n, v] w fun e w' => e = .returned (.int .i64 (-1)) ∧ w' = w := by
  go_enter Try.func26, Try.ntmps26
  go_wp2
  go_ret
  exact ⟨rfl, rfl⟩
theorem search_near (L P : List Int) (u v : Value) (f : Int) (m : Nat) (w : World) (hl : L.length ≤ 1000000) (hf : -9223372036854775808 ≤ f) (h : f < L.length) (hm : (f + 1 < 0 ∧ m = 0) ∨ (¬ f + 1 < 0 ∧ f + 1 = m))
    (c : ∀ (k : Nat) x, Below w.heap.size w x → Calls Try.prog 27 #[.agg #[u, v], .int .i64 k] x fun e w' => e = .returned (.bool (mayN L P k)) ∧ Below x.heap.size x w') :
    Calls Try.prog 26 #[.int .i64 f, .int .i64 L.length, .func (.func 27) #[.agg #[u, v]] #[]] w fun e w' => e = .returned (.int .i64 (firstN L P f)) ∧ Below w.heap.size w w' := by
  have HZ : Hid (stopsUp L P f m = []) := Lib.hid (by rcases hm with ⟨_, rfl⟩ | ⟨_, h⟩; (· rfl); (· exact stopsUp_none L P f m (by omega)))
  have HM := Lib.hid (show f < (m : Int) by omega)
  have hml : m ≤ L.length + 1 := by omega
  have HC := Lib.hid c
  clear c
  rcases hm with ⟨g1, g2⟩ | ⟨g1, g2⟩
  all_goals
    go_enter Try.func26, Try.ntmps26
    go_wp2_with fail
    go_loopw [7] (fun i wr => ∃ k : Nat, m ≤ k ∧ k ≤ L.length + 1 ∧ i = .int .i64 k ∧ Below w.heap.size w wr ∧ Hid (stopsUp L P f k = [])) (fun i _ => L.length + 1 - (intOf i).toNat)
    case atStart => exact ⟨m, Nat.le_refl _, hml, by first | rfl | (rw [g2]; rfl) | (rw [g2]; done), Below.refl _ _, HZ⟩
    case round =>
      obtain ⟨k, hk0, hk, rfl, bw, HN⟩ := hrel
      by_cases hlt : k ≤ L.length
      · have cc := HC.out k _ bw
        cases hm : mayN L P k
        · rw [hm] at cc
          have HS := Lib.hid ((stopsUp_no (.inr hm)).trans HN.out)
          clear hm HN HC
          go_wp2_with fail
          refine cc.mono ?_
          rintro e w1 ⟨rfl, b1⟩
          replace b1 := tstep bw b1 bw.size
          clear cc
          go_wp2
          go_roundw
          case rel => exact ⟨k + 1, by omega, by omega, by go_num, b1, HS⟩
          case measure => simp [intOf]; omega
        · rw [hm] at cc
          have HS := Lib.hid (firstN_at hlt HN.out (by have := HM.out; omega) hm)
          clear hm HN HC
          go_wp2_with fail
          refine cc.mono ?_
          rintro e w1 ⟨rfl, b1⟩
          replace b1 := tstep bw b1 bw.size
          clear cc
          go_wp2
          go_ret
          exact ⟨by rw [HS.out]; rfl, b1⟩
      · have ek : k = L.length + 1 := by omega
        have HS := Lib.hid (firstN_none (L := L) (P := P) (f := f) (by unfold stopsN; rw [← ek]; exact HN.out))
        clear HN HC
        go_wp2
        go_ret
        exact ⟨by rw [HS.out]; rfl, bw⟩
theorem search_any (L P : List Int) (u v : Value) (f : Int) (w : World) (hl : L.length ≤ 1000000) (hf : inR f)
    (c : ∀ (k : Nat) x, Below w.heap.size w x → Calls Try.prog 27 #[.agg #[u, v], .int .i64 k] x fun e w' => e = .returned (.bool (mayN L P k)) ∧ Below x.heap.size x w') :
    Calls Try.prog 26 #[.int .i64 f, .int .i64 L.length, .func (.func 27) #[.agg #[u, v]] #[]] w fun e w' => e = .returned (.int .i64 (firstN L P f)) ∧ Below w.heap.size w w' := by
  by_cases h : (L.length : Int) ≤ f
  · rw [firstN_none (stopsUp_none L P f (L.length + 1) (by omega))]
    exact (search_far f L.length _ w h).mono fun e w' ⟨he, hw⟩ => ⟨he, by rw [hw]; exact Below.refl _ _⟩
  · exact search_near L P u v f (f + 1).toNat w hl hf.1 (by omega) (by omega) c
theorem nfirst_any (la : Option Addr) (lc : Nat) (L : List Int) (pa : Option Addr) (pc : Nat) (P : List Int) (f : Int) (w : World) (hl : L.length ≤ 1000000) (hp : P.length ≤ 1000000) (hf : inR f) (hP : IRow w.heap.size w pa P) :
    Calls Try.prog 25 #[nte la L.length lc pa P.length pc, .int .i64 f] w fun e w' => e = .returned (.int .i64 (firstN L P f)) ∧ Below w.heap.size w w' := by
  have c := fun x (hx : Below w.heap.size w x) => search_any L P (.slice la L.length lc) (.slice pa P.length pc) f x hl hf (fun k y hy => nends_any la lc L pa pc P k y hl hp ((hP.carry (tstep hx hy hx.size) (Nat.le_refl _)).mono (tstep hx hy hx.size).size))
  clear hP
  unfold nte
  generalize firstN L P f = r at *
  go_enter Try.func25, Try.ntmps25
  go_wp2_with (refine (c _ (tbel1 w _)).mono ?_; rintro e w1 ⟨rfl, b1⟩)
  go_ret
  exact ⟨rfl, tstep (tbel1 w _) b1 (tbel1 w _).size⟩
end Go.Proofs.Ytdddhflppngloaa
