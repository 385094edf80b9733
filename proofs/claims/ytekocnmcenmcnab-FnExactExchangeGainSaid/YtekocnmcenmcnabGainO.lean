/- ExchangeGain: the model's and the program's. -/
import Derived.Test.YtekocnmcenmcnabGain
namespace Go.Proofs.Ytekocnmcenmcnab
open Go.RowKit
def placeB (o : List Int) (i : Int) : Bool := decide (0 ≤ i ∧ i + 1 < o.length)
def gainR (js : List J) (o : List Int) (i ob : Int) : Int × Bool := if (twoB js o && placeB o i) && isObj ob then (gainI ob js o i.toNat, true) else (0, false)
theorem place_out {o : List Int} {i : Int} (h : placeB o i = true) : ∃ k : Nat, i = (k : Int) ∧ k + 1 < o.length := by
  have := of_decide_eq_true (show decide _ = true from h)
  exact ⟨i.toNat, by omega, by omega⟩
theorem place_in (o : List Int) (i : Int) : placeB o i = inB i 0 ((o.length : Int) - 2) := by
  unfold placeB inB
  rw [decide_eq_decide]; omega
section
variable (A : Option Addr) (ad : Addr) (c d : Nat) (js : List J) (o : List Int) (i ob : Int) (w : World) (hr : Row w A (jc js)) (hq : Row w (some ad) (ic o)) (hn : js.length ≤ 10000000) (hm : o.length ≤ 10000000)
include hr hq hn hm
set_option maxRecDepth 100000 in
theorem spec_ExchangeGain : Calls Try.prog 22 #[.slice A js.length c, .slice (some ad) o.length d, .int .i64 i, .int .i64 ob] w (RetNB w (gainR js o i ob)) := by
  have HR : Hid (gainR js o i ob = if (twoB js o && placeB o i) && isObj ob then (gainI ob js o i.toNat, true) else (0, false)) := rfl
  have hp := place_in o i
  cases ht : twoB js o
  · rw [ht] at HR
    clear hp
    go_enter Try.func22, Try.ntmps22
    go_wp2_with fail
    refine (l2Two_any A (some ad) c d js o _ hr hq hn hm).mono ?_
    rintro e w1 ⟨rfl, hb1⟩
    rw [ht]
    go_wp2
    go_ret2
    exact ⟨by rw [HR.out]; rfl, hb1⟩
  · cases hpl : placeB o i
    · rw [ht, hpl] at HR
      rw [hpl] at hp
      have HP := Lib.hid hp
      clear hp
      go_enter Try.func22, Try.ntmps22
      go_wp2_with fail
      refine (l2Two_any A (some ad) c d js o _ hr hq hn hm).mono ?_
      rintro e w1 ⟨rfl, hb1⟩
      rw [ht]
      go_wp2_with fail
      refine (l1In_any _ _ _ _).mono ?_
      rintro e _ ⟨rfl, rfl⟩
      rw [← HP.out]
      go_wp2
      go_ret2
      exact ⟨by rw [HR.out]; rfl, hb1⟩
    · obtain ⟨k, rfl, hk⟩ := place_out hpl
      rw [hpl] at hp
      have HP := Lib.hid hp
      clear hp
      have h8 := (good_out (two_out ht).1).1
      have hol : o.length ≤ 100000 := by
        obtain ⟨_, p, rfl, hp', _⟩ := two_out ht
        have := hp'.length_eq
        simp at this ⊢; omega
      cases ho : isObj ob
      · rw [ht, hpl, ho] at HR
        go_enter Try.func22, Try.ntmps22
        go_wp2_with fail
        refine (l2Two_any A (some ad) c d js o _ hr hq hn hm).mono ?_
        rintro e w1 ⟨rfl, hb1⟩
        rw [ht]
        go_wp2_with fail
        refine (l1In_any _ _ _ _).mono ?_
        rintro e _ ⟨rfl, rfl⟩
        rw [← HP.out]
        go_wp2_with fail
        refine (l2Objective_any ob _).mono ?_
        rintro e _ ⟨rfl, rfl⟩
        rw [ho]
        go_wp2
        go_ret2
        exact ⟨by rw [HR.out]; rfl, hb1⟩
      · rw [ht, hpl, ho, Int.toNat_natCast] at HR
        go_enter Try.func22, Try.ntmps22
        go_wp2_with fail
        refine (l2Two_any A (some ad) c d js o _ hr hq hn hm).mono ?_
        rintro e w1 ⟨rfl, hb1⟩
        rw [ht]
        go_wp2_with fail
        refine (l1In_any _ _ _ _).mono ?_
        rintro e _ ⟨rfl, rfl⟩
        rw [← HP.out]
        go_wp2_with fail
        refine (l2Objective_any ob _).mono ?_
        rintro e _ ⟨rfl, rfl⟩
        rw [ho]
        go_wp2_with fail
        refine (l2Gain_any A ad c d js o k ob _ (hr.below hb1) (hq.below hb1) ht ho hk hol).mono ?_
        rintro e w2 ⟨rfl, hb2⟩
        go_wp2
        go_ret2
        exact ⟨by rw [HR.out]; rfl, hb1.trans (hb2.mono hb1.size)⟩
set_option maxRecDepth 100000 in
set_option maxHeartbeats 1000000 in
theorem impl_ExchangeGain : Calls Try.prog 23 #[.slice A js.length c, .slice (some ad) o.length d, .int .i64 i, .int .i64 ob] w (RetNB w (gainR js o i ob)) := by
  have HR : Hid (gainR js o i ob = if (twoB js o && placeB o i) && isObj ob then (gainI ob js o i.toNat, true) else (0, false)) := rfl
  go_enter Try.func23, Try.ntmps23
  go_wp2_with fail
  refine (measureOf_any ob w).mono ?_
  rintro e w1 ⟨hb1, ⟨ho, rfl⟩ | ⟨ho, fv, rfl, hF⟩⟩
  · rw [ho, Bool.and_false] at HR
    have hst := store_pair Try.prog w1 .nilFunc .nilFunc (.bool false) 70 rfl
    go_wp2
    go_ret2
    exact ⟨by rw [HR.out]; rfl, hb1.alloc hb1.size _⟩
  · have hF1 := hF
    obtain ⟨f, caps, rfl, _, _⟩ := cost_call hF
    have hst := store_pair Try.prog w1 (.func (.func f) #[] caps) .nilFunc (.bool false) 70 rfl
    have hM0 := BlockIs.new w1 70 #[.func (.func f) #[] caps, .bool (isTop ob)]
    have hb0 := hb1.alloc hb1.size (.cells #[.func (.func f) #[] caps, .bool (isTop ob)] 70)
    have hF0 := hF.keep (w' := w1.alloc (.cells #[.func (.func f) #[] caps, .bool (isTop ob)] 70)) (fun b hb => ((Below.refl w1.heap.size w1).alloc (Nat.le_refl _) _).block b hb)
    have HX := Lib.hid (And.intro hM0 (And.intro hb0 hF0))
    clear hM0 hb0 hF0 hF hF1
    go_wp2_with fail
    obtain ⟨hM0, hb0, hF0⟩ := HX.out
    refine (isScheduled_any A (some ad) c d js o _ (hr.below hb0) (hq.below hb0) hn hm).mono ?_
    rintro e w2 ⟨rfl, hb2⟩
    have HB2 := Lib.hid (hb0.trans (hb2.mono hb0.size))
    cases ht : twoB js o
    · rw [ht] at HR
      clear hM0 hb0 hF0 hst HX hb2
      go_wp2
      go_ret2
      exact ⟨by rw [HR.out]; rfl, HB2.out⟩
    · rw [ht, ho] at HR
      have h8 := (good_out (two_out ht).1).1
      have hol : o.length ≤ 100000 := by
        obtain ⟨_, p, rfl, hp', _⟩ := two_out ht
        have := hp'.length_eq
        simp at this ⊢; omega
      have hMM := hM0.below hb2
      have hFF := hF0.keep (w' := w2) (fun b hb => hb2.block b (by simp; omega))
      have hlt1 : w1.heap.size ≤ w2.heap.size := Nat.le_trans (by simp) hb2.size
      have HFF := Lib.hid hFF
      have hm1 := hMM.cell 0
      have hm2 := hMM.cell 1
      simp at hm1 hm2
      clear hM0 hb0 hF0 hst HX hb2 hFF hMM
      by_cases hneg : i < 0
      · have hpl : placeB o i = false := decide_eq_false (by omega)
        rw [hpl] at HR
        go_wp2
        go_ret2
        exact ⟨by rw [HR.out]; rfl, HB2.out⟩
      · by_cases hbig : (o.length : Int) - 1 ≤ i
        · have hpl : placeB o i = false := decide_eq_false (by omega)
          rw [hpl] at HR
          go_wp2
          go_ret2
          exact ⟨by rw [HR.out]; rfl, HB2.out⟩
        · have hpl : placeB o i = true := decide_eq_true (by omega)
          rw [hpl] at HR
          obtain ⟨k, rfl, hk⟩ := place_out hpl
          rw [Int.toNat_natCast] at HR
          clear hpl
          go_wp2_with fail
          refine (exchangeGain_any (w := w2) HFF.out hlt1 A ad c d js o k (hr.below HB2.out) (hq.below HB2.out) ht ho hk hol).mono ?_
          rintro e w3 ⟨rfl, hb3⟩
          go_wp2
          go_ret2
          exact ⟨by rw [HR.out]; rfl, HB2.out.trans (hb3.mono HB2.out.size)⟩
end
end Go.Proofs.Ytekocnmcenmcnab
