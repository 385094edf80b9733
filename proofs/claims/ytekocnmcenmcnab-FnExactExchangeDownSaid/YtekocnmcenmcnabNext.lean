/- The next exchange that gains: the model's and the program's. -/
import Derived.Test.YtekocnmcenmcnabGain
namespace Go.Proofs.Ytekocnmcenmcnab
open Go.RowKit
def nextN (ob : Int) (js : List J) (o : List Int) : Int := match nextV ob js o with
  | some k => (k : Int)
  | none => -1
theorem gain_bd {ob : Int} (ho : isObj ob = true) {js : List J} {o : List Int} (ht : twoB js o = true) {k : Nat} (hk : k + 1 < o.length) : -400000 ≤ gainI ob js o k ∧ gainI ob js o k ≤ 400000 := by
  have b1 := valI_bd ho ht
  have b2 := valI_bd ho (two_swap ht hk)
  unfold gainI; omega
theorem noGain_step {ob : Int} {js : List J} {o : List Int} {k : Nat} (h : ∀ i, i < k → gainI ob js o i ≤ 0) (hk : gainI ob js o k ≤ 0) : ∀ i, i < k + 1 → gainI ob js o i ≤ 0 := by
  intro i hi
  by_cases e : i = k
  · subst e; exact hk
  · exact h i (by omega)
set_option maxRecDepth 100000 in
theorem l2Next_any (A : Option Addr) (ad : Addr) (c d : Nat) (js : List J) (o : List Int) (ob : Int) (w : World) (hr : Row w A (jc js)) (hq : Row w (some ad) (ic o)) (ht : twoB js o = true) (ho : isObj ob = true) (hm : o.length ≤ 100000) :
    Calls Try.prog 51 #[.slice A js.length c, .slice (some ad) o.length d, .int .i64 ob] w fun e w' => e = .returned (.int .i64 (nextN ob js o)) ∧ Below w.heap.size w w' := by
  go_enter Try.func51, Try.ntmps51
  go_wp2
  go_loopw [7] (fun i wr => ∃ k : Nat, k ≤ o.length ∧ i = .int .i64 k ∧ Hid (∀ i, i < k → gainI ob js o i ≤ 0) ∧ Below w.heap.size w wr) (fun i _ => o.length - (intOf i).toNat)
  case atStart => exact ⟨0, Nat.zero_le _, rfl, fun _ h => absurd h (by omega), Below.refl _ _⟩
  case round =>
    obtain ⟨k, hk, rfl, hA, hb⟩ := hrel
    have HB := Lib.hid hb
    by_cases hlt : k + 1 < o.length
    · have hi1 : (k : Int) + 1 < o.length := by omega
      have hgb := gain_bd ho ht hlt
      have hcall := l2Gain_any A ad c d js o k ob wr (hr.below hb) (hq.below hb) ht ho hlt hm
      have HC := Lib.hid hcall
      clear hcall hb
      by_cases hg : 0 < gainI ob js o k
      · have HN : Hid (nextN ob js o = k) := by
          show _ = _
          unfold nextN; rw [next_some (by omega) hg hA.out]
        clear hA
        generalize gainI ob js o k = gg at *
        go_wp2_with fail
        refine HC.out.mono ?_
        rintro e w1 ⟨rfl, hb1⟩
        go_wp2
        go_ret
        exact ⟨by rw [HN.out]; rfl, HB.out.trans (hb1.mono HB.out.size)⟩
      · have HA := Lib.hid (noGain_step hA.out (by omega))
        clear hA
        generalize gainI ob js o k = gg at *
        go_wp2_with fail
        refine HC.out.mono ?_
        rintro e w1 ⟨rfl, hb1⟩
        go_wp2
        go_roundw
        case rel => exact ⟨k + 1, by omega, by go_num, HA.out, HB.out.trans (hb1.mono HB.out.size)⟩
        case measure => simp [intOf]; omega
    · have HN : Hid (nextN ob js o = -1) := by
        show _ = _
        unfold nextN; rw [next_none (fun i hi => hA.out i (by omega))]
      clear hA
      go_wp2
      go_ret
      exact ⟨by rw [HN.out]; rfl, HB.out⟩
/-- What the program hands back: the place and true, or 0 and false. -/
def nextP (ob : Int) (js : List J) (o : List Int) : Int × Bool := match nextV ob js o with
  | some k => ((k : Int), true)
  | none => (0, false)
set_option maxRecDepth 100000 in
set_option maxHeartbeats 1000000 in
theorem nextExchange_any {B : Nat} {w : World} {ob : Int} {fv : Value} (h : FnIs B w ob fv) (hB : B ≤ w.heap.size) (A : Option Addr) (ad : Addr) (c d : Nat) (js : List J) (o : List Int) (hr : Row w A (jc js)) (hq : Row w (some ad) (ic o)) (ht : twoB js o = true) (ho : isObj ob = true) (hm : o.length ≤ 100000) :
    Calls Try.prog 52 #[.agg #[fv, .bool (isTop ob)], .slice A js.length c, .slice (some ad) o.length d] w (RetNB w (nextP ob js o)) := by
  have HF := Lib.hid h
  obtain ⟨f, caps, rfl, _, _⟩ := cost_call h
  generalize htp : isTop ob = tp at *
  have HTP := Lib.hid htp
  clear h htp
  have hM0 := BlockIs.new w 70 #[.func (.func f) #[] caps, .bool tp]
  have hbm : Below w.heap.size w (w.alloc (.cells #[.func (.func f) #[] caps, .bool tp] 70)) := (Below.refl _ _).alloc (Nat.le_refl _) _
  go_enter Try.func52, Try.ntmps52
  go_wp2
  go_loopw [12] (fun i wr => ∃ k : Nat, k ≤ o.length ∧ i = .int .i64 k ∧ Hid (∀ i, i < k → gainI ob js o i ≤ 0) ∧ BlockIs wr w.heap.size 70 #[.func (.func f) #[] caps, .bool tp] ∧ Below w.heap.size w wr) (fun i _ => o.length - (intOf i).toNat)
  case atStart => exact ⟨0, Nat.zero_le _, rfl, fun _ h => absurd h (by omega), hM0, hbm⟩
  case round =>
    obtain ⟨k, hk, rfl, hA, hM, hb⟩ := hrel
    clear hM0 hbm
    have HB := Lib.hid hb
    by_cases hlt : k + 1 < o.length
    · have hi1 : (k : Int) < (o.length : Int) - 1 := by omega
      have hgb := gain_bd ho ht hlt
      have hcall := exchangeGain_any (w := wr) (HF.out.keep (fun b hb' => hb.block b (by omega))) (by have := hb.size; omega) A ad c d js o k (hr.below hb) (hq.below hb) ht ho hlt hm
      rw [HTP.out] at hcall
      have HC := Lib.hid hcall
      have hm1 := hM.cell 0
      have hm2 := hM.cell 1
      simp at hm1 hm2
      have HM := Lib.hid hM
      clear hcall hb hM
      by_cases hg : 0 < gainI ob js o k
      · have HN : Hid (nextP ob js o = ((k : Int), true)) := by
          show _ = _
          unfold nextP; rw [next_some (by omega) hg hA.out]
        clear hA
        generalize gainI ob js o k = gg at *
        go_wp2_with fail
        refine HC.out.mono ?_
        rintro e w1 ⟨rfl, hb1⟩
        go_wp2
        go_ret2
        exact ⟨by rw [HN.out]; rfl, HB.out.trans (hb1.mono HB.out.size)⟩
      · have HA := Lib.hid (noGain_step hA.out (by omega))
        clear hA
        generalize gainI ob js o k = gg at *
        go_wp2_with fail
        refine HC.out.mono ?_
        rintro e w1 ⟨rfl, hb1⟩
        have HM1 := Lib.hid (HM.out.below hb1)
        have HB1 := Lib.hid (HB.out.trans (hb1.mono HB.out.size))
        clear hb1 hm1 hm2
        go_wp2
        go_roundw
        case rel => exact ⟨k + 1, by omega, by go_num, HA.out, HM1.out, HB1.out⟩
        case measure => simp [intOf]; omega
    · have HN : Hid (nextP ob js o = (0, false)) := by
        show _ = _
        unfold nextP; rw [next_none (fun i hi => hA.out i (by omega))]
      have hi1 : ¬ (k : Int) < (o.length : Int) - 1 := by omega
      clear hA hM hb
      go_wp2
      go_ret2
      exact ⟨by rw [HN.out]; rfl, HB.out⟩
end Go.Proofs.Ytekocnmcenmcnab
