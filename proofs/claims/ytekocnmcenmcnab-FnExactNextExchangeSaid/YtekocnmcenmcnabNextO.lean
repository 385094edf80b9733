/- NextExchange: the model's and the program's. -/
import Derived.Test.YtekocnmcenmcnabNext
namespace Go.Proofs.Ytekocnmcenmcnab
open Go.RowKit
def nextR (js : List J) (o : List Int) (ob : Int) : Int × Bool := if twoB js o && isObj ob then nextP ob js o else (0, false)
section
variable (A : Option Addr) (ad : Addr) (c d : Nat) (js : List J) (o : List Int) (ob : Int) (w : World) (hr : Row w A (jc js)) (hq : Row w (some ad) (ic o)) (hn : js.length ≤ 10000000) (hm : o.length ≤ 10000000)
include hr hq hn hm
set_option maxRecDepth 100000 in
theorem spec_NextExchange : Calls Try.prog 24 #[.slice A js.length c, .slice (some ad) o.length d, .int .i64 ob] w (RetNB w (nextR js o ob)) := by
  have HR : Hid (nextR js o ob = if twoB js o && isObj ob then nextP ob js o else (0, false)) := rfl
  cases ht : twoB js o
  · rw [ht] at HR
    go_enter Try.func24, Try.ntmps24
    go_wp2_with fail
    refine (l2Two_any A (some ad) c d js o _ hr hq hn hm).mono ?_
    rintro e w1 ⟨rfl, hb1⟩
    rw [ht]
    go_wp2
    go_ret2
    exact ⟨by rw [HR.out]; rfl, hb1⟩
  · cases ho : isObj ob
    · rw [ht, ho] at HR
      go_enter Try.func24, Try.ntmps24
      go_wp2_with fail
      refine (l2Two_any A (some ad) c d js o _ hr hq hn hm).mono ?_
      rintro e w1 ⟨rfl, hb1⟩
      rw [ht]
      go_wp2_with fail
      refine (l2Objective_any ob _).mono ?_
      rintro e _ ⟨rfl, rfl⟩
      rw [ho]
      go_wp2
      go_ret2
      exact ⟨by rw [HR.out]; rfl, hb1⟩
    · rw [ht, ho] at HR
      have hol : o.length ≤ 8 := by
        obtain ⟨hg, p, rfl, hp', _⟩ := two_out ht
        have := (good_out hg).1
        have := hp'.length_eq
        simp at this ⊢; omega
      have HP : Hid (nextP ob js o = match nextV ob js o with | some k => ((k : Int), true) | none => (0, false)) := rfl
      have HN : Hid (nextN ob js o = match nextV ob js o with | some k => (k : Int) | none => -1) := rfl
      cases hv : nextV ob js o with
      | none =>
        rw [hv] at HP HN
        go_enter Try.func24, Try.ntmps24
        go_wp2_with fail
        refine (l2Two_any A (some ad) c d js o _ hr hq hn hm).mono ?_
        rintro e w1 ⟨rfl, hb1⟩
        rw [ht]
        go_wp2_with fail
        refine (l2Objective_any ob _).mono ?_
        rintro e _ ⟨rfl, rfl⟩
        rw [ho]
        go_wp2_with fail
        refine (l2Next_any A ad c d js o ob _ (hr.below hb1) (hq.below hb1) ht ho (by omega)).mono ?_
        rintro e w2 ⟨rfl, hb2⟩
        rw [HN.out]
        go_wp2
        go_ret2
        exact ⟨by rw [HR.out]; simp only [Bool.and_self, if_true]; rw [HP.out]; rfl, hb1.trans (hb2.mono hb1.size)⟩
      | some k =>
        rw [hv] at HP HN
        have hk0 : (0 : Int) ≤ k := by omega
        go_enter Try.func24, Try.ntmps24
        go_wp2_with fail
        refine (l2Two_any A (some ad) c d js o _ hr hq hn hm).mono ?_
        rintro e w1 ⟨rfl, hb1⟩
        rw [ht]
        go_wp2_with fail
        refine (l2Objective_any ob _).mono ?_
        rintro e _ ⟨rfl, rfl⟩
        rw [ho]
        go_wp2_with fail
        refine (l2Next_any A ad c d js o ob _ (hr.below hb1) (hq.below hb1) ht ho (by omega)).mono ?_
        rintro e w2 ⟨rfl, hb2⟩
        rw [HN.out]
        go_wp2
        go_ret2
        exact ⟨by rw [HR.out]; simp only [Bool.and_self, if_true]; rw [HP.out]; rfl, hb1.trans (hb2.mono hb1.size)⟩
set_option maxRecDepth 100000 in
set_option maxHeartbeats 1000000 in
theorem impl_NextExchange : Calls Try.prog 25 #[.slice A js.length c, .slice (some ad) o.length d, .int .i64 ob] w (RetNB w (nextR js o ob)) := by
  have HR : Hid (nextR js o ob = if twoB js o && isObj ob then nextP ob js o else (0, false)) := rfl
  go_enter Try.func25, Try.ntmps25
  go_wp2_with fail
  refine (measureOf_any ob w).mono ?_
  rintro e w1 ⟨hb1, ⟨ho, rfl⟩ | ⟨ho, fv, rfl, hF⟩⟩
  · rw [ho, Bool.and_false] at HR
    have hst := store_pair Try.prog w1 .nilFunc .nilFunc (.bool false) 70 rfl
    go_wp2
    go_ret2
    exact ⟨by rw [HR.out]; rfl, hb1.alloc hb1.size _⟩
  · have hF1 := hF
    obtain ⟨f, caps, rfl, _, _⟩ := cost_call hF
    have hst := store_pair Try.prog w1 (.func (.func f) #[] caps) .nilFunc (.bool false) 70 rfl
    have hM0 := BlockIs.new w1 70 #[.func (.func f) #[] caps, .bool (isTop ob)]
    have hb0 := hb1.alloc hb1.size (.cells #[.func (.func f) #[] caps, .bool (isTop ob)] 70)
    have hF0 := hF.keep (w' := w1.alloc (.cells #[.func (.func f) #[] caps, .bool (isTop ob)] 70)) (fun b hb => ((Below.refl w1.heap.size w1).alloc (Nat.le_refl _) _).block b hb)
    have HX := Lib.hid (And.intro hM0 (And.intro hb0 hF0))
    clear hM0 hb0 hF0 hF hF1
    go_wp2_with fail
    obtain ⟨hM0, hb0, hF0⟩ := HX.out
    refine (isScheduled_any A (some ad) c d js o _ (hr.below hb0) (hq.below hb0) hn hm).mono ?_
    rintro e w2 ⟨rfl, hb2⟩
    have HB2 := Lib.hid (hb0.trans (hb2.mono hb0.size))
    cases ht : twoB js o
    · rw [ht] at HR
      clear hM0 hb0 hF0 hst HX hb2
      go_wp2
      go_ret2
      exact ⟨by rw [HR.out]; rfl, HB2.out⟩
    · rw [ht, ho] at HR
      have hol : o.length ≤ 8 := by
        obtain ⟨hg, p, rfl, hp', _⟩ := two_out ht
        have := (good_out hg).1
        have := hp'.length_eq
        simp at this ⊢; omega
      have hMM := hM0.below hb2
      have hFF := hF0.keep (w' := w2) (fun b hb => hb2.block b (by simp; omega))
      have hlt1 : w1.heap.size ≤ w2.heap.size := Nat.le_trans (by simp) hb2.size
      have HFF := Lib.hid hFF
      have hm1 := hMM.cell 0
      have hm2 := hMM.cell 1
      simp at hm1 hm2
      clear hM0 hb0 hF0 hst HX hb2 hFF hMM
      go_wp2_with fail
      refine (nextExchange_any (w := w2) HFF.out hlt1 A ad c d js o (hr.below HB2.out) (hq.below HB2.out) ht ho (by omega)).mono ?_
      rintro e w3 ⟨rfl, hb3⟩
      go_wp2
      go_ret2
      exact ⟨by rw [HR.out]; rfl, HB2.out.trans (hb3.mono HB2.out.size)⟩
end
end Go.Proofs.Ytekocnmcenmcnab
