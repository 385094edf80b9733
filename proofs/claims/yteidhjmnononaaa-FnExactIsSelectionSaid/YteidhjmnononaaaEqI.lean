/- slices.Equal of ints, at any address. -/
import Derived.Test.YteidhjmnononaaaInts
import Derived.WalkKit
namespace Go.Proofs.Yteidhjmnononaaa
set_option linter.unusedSimpArgs false
set_option linter.unusedVariables false
open Go.RowKit
set_option maxRecDepth 100000 in
set_option maxHeartbeats 4000000 in
theorem equalI_any (B C : Option Addr) (d b : Nat) (xs ys : List Int) (w : World) (hq : Row w B (ic xs)) (he : Row w C (ic ys)) (hx : xs.length ≤ 10000000) (hy : ys.length ≤ 10000000) :
    Calls Try.prog 30 #[.slice B xs.length d, .slice C ys.length b] w fun e w' => e = .returned (.bool (decide (xs = ys))) ∧ ∃ m, w' = w.drewN m := by
  by_cases hl : xs.length = ys.length
  · have hln : ((xs.length : Int) != (ys.length : Int)) = false := by rw [hl]; simp
    have HL := Lib.hid hl
    clear hl
    go_enter Try.func30, Try.ntmps30
    go_wp2
    go_loopw [13] (fun iv wr => ∃ k m : Nat, k ≤ xs.length ∧ iv = .int .i64 (k : Int) ∧ Hid (∀ i (h : i < xs.length) (h2 : i < ys.length), i < k → xs[i] = ys[i]) ∧ wr = w.drewN m) (fun iv _ => xs.length - (intOf iv).toNat)
    case atStart => exact ⟨0, 0, Nat.zero_le _, rfl, fun _ _ _ h => absurd h (by omega), rfl⟩
    case round =>
      obtain ⟨k, m, hk, rfl, HA, rfl⟩ := hrel
      by_cases hlt : k < xs.length
      · have hk0 : (0 : Int) ≤ k := by omega
        have hk1 : (k : Int) < xs.length := by omega
        have hlt2 : k < ys.length := by have := HL.out; omega
        have hk2 : (k : Int) < ys.length := by omega
        obtain ⟨bd, rfl, hcx⟩ := hq.int hlt
        obtain ⟨cd, rfl, hcy⟩ := he.int hlt2
        have HS : Hid (xs[k] = ys[k] → ∀ i (h : i < xs.length) (h2 : i < ys.length), i < k + 1 → xs[i] = ys[i]) := fun h0 i h h2 hi => by
          by_cases e : i = k
          · subst e; exact h0
          · exact HA.out i h h2 (by omega)
        have HN : Hid (xs[k] ≠ ys[k] → decide (xs = ys) = false) := fun h0 => decide_eq_false fun e => h0 (by subst e; rfl)
        generalize xs[k] = x at *
        generalize ys[k] = y at *
        by_cases hxy : x = y
        · have hne : (x != y) = false := by rw [hxy]; simp
          have HS2 := Lib.hid (HS.out hxy)
          clear HS HN hxy
          go_wp2
          go_quiet (fail)
          go_wp2
          go_roundw
          case rel => exact ⟨k + 1, _, by omega, by go_num, HS2.out, by first | rfl | exact World.drewN_drewN _ _ _⟩
          case measure => simp [intOf]; omega
        · have hne : (x != y) = true := by simpa using hxy
          have HN2 := Lib.hid (HN.out hxy)
          clear HS HN hxy
          go_wp2
          go_quiet (fail)
          go_wp2
          go_ret
          exact ⟨by rw [HN2.out]; rfl, _, by first | rfl | exact World.drewN_drewN _ _ _⟩
      · obtain rfl : k = xs.length := by omega
        have HF : Hid (decide (xs = ys) = true) := decide_eq_true (List.ext_getElem HL.out fun i h h2 => HA.out i h h2 h)
        go_wp2
        go_ret
        exact ⟨by rw [HF.out]; rfl, m, rfl⟩
  · have hln : ((xs.length : Int) != (ys.length : Int)) = true := by simp; omega
    have HF : Hid (decide (xs = ys) = false) := decide_eq_false fun e => hl (by rw [e])
    clear hl
    go_enter Try.func30, Try.ntmps30
    go_wp2
    go_ret
    exact ⟨by rw [HF.out]; rfl, 0, rfl⟩
end Go.Proofs.Yteidhjmnononaaa
