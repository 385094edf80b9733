/- ExchangeDown: the model's and the program's. -/
import Derived.Test.YtekocnmcenmcnabNext
import Derived.Deep.LoopGhost
namespace Go.Proofs.Ytekocnmcenmcnab
open Go.RowKit
def downO (js : List J) (o : List Int) (ob : Int) : List Int × Int × Bool := if twoB js o && isObj ob then ((downR ob js o).1, ((downR ob js o).2 : Int), true) else ([], 0, false)
theorem downGo_len (ob : Int) (js : List J) : ∀ (n : Nat) (o : List Int) (c : Nat), (downGo ob js n o c).1.length = o.length
  | 0, _, _ => rfl
  | n + 1, o, c => by
    unfold downGo
    cases nextV ob js o with
    | none => rfl
    | some i => simp only; rw [downGo_len ob js n, swI_len]
theorem two_len {js : List J} {o : List Int} (ht : twoB js o = true) : o.length ≤ 8 := by
  obtain ⟨hg, p, rfl, hp', _⟩ := two_out ht
  have := (good_out hg).1
  have := hp'.length_eq
  simp at this ⊢; omega
theorem downO_len (js : List J) (o : List Int) (ob : Int) : (downO js o ob).1.length ≤ 8 := by
  unfold downO
  cases h : twoB js o
  · simp
  · cases ho : isObj ob
    · simp
    · simp only [Bool.and_self, if_true]
      unfold downR
      rw [downGo_len]; exact two_len h
/-- What a function hands back: a list of ints, memory of its own, an int and a bool. -/
def RetINB (w : World) (r : List Int × Int × Bool) (e : Ending) (w' : World) : Prop :=
  ∃ A c, e = .returned (.tuple #[.slice A r.1.length c, .int .i64 r.2.1, .bool r.2.2]) ∧ Seg w' 3 1 w.heap.size w'.heap.size A r.1.length c (ic r.1) ∧ Below w.heap.size w w'
theorem ret_emptyN {w w1 : World} {r : List Int × Int × Bool} (hr : r = ([], 0, false)) (hb : Below w.heap.size w w1) (e : Ending) (he : e = .returned (.tuple #[.slice (some ⟨w1.heap.size, 0, none⟩) 0 0, .int .i64 0, .bool false])) : RetINB w r e (w1.alloc (.cells #[] 3)) := by
  subst hr he
  have h := BlockIs.new w1 3 (ic []).toArray
  exact ⟨_, 0, rfl, seg_of_block h hb.size (by simp), hb.alloc hb.size _⟩
theorem next_cases (ob : Int) (js : List J) (o : List Int) : (nextV ob js o = none ∧ nextN ob js o = -1 ∧ nextP ob js o = (0, false)) ∨ ∃ k : Nat, nextV ob js o = some k ∧ nextN ob js o = k ∧ nextP ob js o = ((k : Int), true) := by
  unfold nextN nextP
  cases nextV ob js o with
  | none => exact .inl ⟨rfl, rfl, rfl⟩
  | some k => exact .inr ⟨k, rfl, rfl, rfl⟩
section
variable (A : Option Addr) (ad : Addr) (c d : Nat) (js : List J) (o : List Int) (ob : Int) (w : World) (hr : Row w A (jc js)) (hq : Row w (some ad) (ic o)) (hn : js.length ≤ 10000000) (hm : o.length ≤ 10000000)
include hr hq hn hm
set_option maxRecDepth 100000 in
set_option maxHeartbeats 4000000 in
theorem spec_ExchangeDown : Calls Try.prog 26 #[.slice A js.length c, .slice (some ad) o.length d, .int .i64 ob] w (RetINB w (downO js o ob)) := by
  have HR : Hid (downO js o ob = if twoB js o && isObj ob then ((downR ob js o).1, ((downR ob js o).2 : Int), true) else ([], 0, false)) := rfl
  cases ht : twoB js o
  · rw [ht] at HR
    go_enter Try.func26, Try.ntmps26
    go_wp2_with fail
    refine (l2Two_any A (some ad) c d js o _ hr hq hn hm).mono ?_
    rintro e w1 ⟨rfl, hb1⟩
    rw [ht]
    go_wp2
    go_ret3
    exact ret_emptyN HR.out hb1 _ rfl
  · cases ho : isObj ob
    · rw [ht, ho] at HR
      go_enter Try.func26, Try.ntmps26
      go_wp2_with fail
      refine (l2Two_any A (some ad) c d js o _ hr hq hn hm).mono ?_
      rintro e w1 ⟨rfl, hb1⟩
      rw [ht]
      go_wp2_with fail
      refine (l2Objective_any ob _).mono ?_
      rintro e _ ⟨rfl, rfl⟩
      rw [ho]
      go_wp2
      go_ret3
      exact ret_emptyN HR.out hb1 _ rfl
    · rw [ht, ho] at HR
      have hol := two_len ht
      have hms : measI ob js o ≤ 360500 := by have := valI_bd ho ht; unfold measI; omega
      have HD : Hid (downGo ob js (measI ob js o + 1) o 0 = downR ob js o) := rfl
      go_enter Try.func26, Try.ntmps26
      go_wp2_with fail
      refine (l2Two_any A (some ad) c d js o _ hr hq hn hm).mono ?_
      rintro e w1 ⟨rfl, hb1⟩
      rw [ht]
      go_wp2_with fail
      refine (l2Objective_any ob _).mono ?_
      rintro e _ ⟨rfl, rfl⟩
      rw [ho]
      go_wp2_with fail
      refine (l1Own_some ad d o _ (hq.below hb1) (by omega)).mono ?_
      rintro e w2 ⟨ad2, c2, rfl, hown2, hb2⟩
      have hbb2 := hb1.trans (hb2.mono hb1.size)
      have hown2' : w2.ownsRow w.heap.size 3 1 (.slice (some ad2) o.length c2) o.length (ic o) := by
        refine ⟨hown2.1, ?_⟩
        rcases hown2.2 with h | ⟨g, cap, cur, h1, h2, h3⟩
        · exact .inl h
        · exact .inr ⟨g, cap, cur, h1, Nat.le_trans hb1.size h2, h3⟩
      have HO := Lib.hid (And.intro hown2' hbb2)
      clear hown2 hown2' hb1 hb2 hbb2
      go_wp2_with fail
      refine (l2Next_any A ad2 c c2 js o ob _ (hr.below HO.out.2) (Row.of_own HO.out.1) ht ho (by omega)).mono ?_
      rintro e w3 ⟨rfl, hb3⟩
      have HS : Hid (w3.ownsRow w.heap.size 3 1 (.slice (some ad2) o.length c2) o.length (ic o) ∧ Below w.heap.size w w3) := ⟨((Seg.of_own HO.out.1).below hb3).own, HO.out.2.trans (hb3.mono HO.out.2.size)⟩
      clear hb3 HO
      go_wp2
      go_loopg [9, 10, 11] (measI ob js o + 1) (fun gg v k i wr => ∃ (oc : List Int) (cc : Nat) (ad3 : Addr) (c3 : Nat), v = .slice (some ad3) o.length c3 ∧ k = .int .i64 (cc : Int) ∧ i = .int .i64 (nextN ob js oc) ∧ Hid (oc.length = o.length ∧ twoB js oc = true ∧ downGo ob js gg oc cc = downR ob js o ∧ measI ob js oc < gg) ∧ cc + gg ≤ 400000 ∧ Hid (wr.ownsRow w.heap.size 3 1 (.slice (some ad3) o.length c3) o.length (ic oc) ∧ Below w.heap.size w wr))
      case atStart => exact ⟨o, 0, ad2, c2, rfl, by go_num, rfl, ⟨rfl, ht, HD.out, by omega⟩, by omega, HS.out⟩
      case round =>
        obtain ⟨oc, cc, ad3, c3, rfl, rfl, rfl, HI, hcg, HW⟩ := hrel
        clear HS
        rcases next_cases ob js oc with ⟨hv, hN, hP⟩ | ⟨k, hv, hN, hP⟩
        · have HE : Hid (downR ob js o = (oc, cc)) := by
            show _ = _
            obtain ⟨_, _, hd, hlt⟩ := HI.out
            rw [← hd]
            obtain ⟨g', rfl⟩ : ∃ g', gk = g' + 1 := ⟨gk - 1, by omega⟩
            unfold downGo; rw [hv]
          rw [hN]
          clear hv hN hP
          go_wp2
          go_ret3
          refine ⟨some ad3, c3, ?_, ?_, HW.out.2⟩
          · rw [HR.out]; simp only [Bool.and_self, if_true]; rw [HE.out]; simp only; rw [HI.out.1]; rfl
          · rw [HR.out]; simp only [Bool.and_self, if_true]; rw [HE.out]; simp only; rw [HI.out.1]; exact Seg.of_own HW.out.1
        · obtain ⟨hocl, htc, hd, hlt⟩ := HI.out
          obtain ⟨hk1, _⟩ := next_out hv
          have hmd := meas_down ho htc hv
          obtain ⟨g', rfl⟩ : ∃ g', gk = g' + 1 := ⟨gk - 1, by omega⟩
          have HI2 : Hid ((swI oc k).length = o.length ∧ twoB js (swI oc k) = true ∧ downGo ob js g' (swI oc k) (cc + 1) = downR ob js o ∧ measI ob js (swI oc k) < g') := by
            refine ⟨by rw [swI_len]; exact hocl, two_swap htc hk1, ?_, by omega⟩
            rw [← hd]
            conv => rhs; unfold downGo
            rw [hv]
          have hk0 : (0 : Int) ≤ k := by omega
          have hpos : 0 < o.length := by omega
          have hsw := l2Swap_any ad3 c3 oc k wr (Row.of_own HW.out.1) (by omega) hk1
          rw [hocl] at hsw
          have HSW := Lib.hid hsw
          rw [hN]
          clear hv hN hP HI hd hlt hmd hsw hk1 htc hocl
          go_wp2_with fail
          refine HSW.out.mono ?_
          rintro e w4 ⟨v, rfl, hown4, hb4⟩
          have hown4' : w4.ownsRow w.heap.size 3 1 v o.length (ic (swI oc k)) := by
            refine ⟨hown4.1, ?_⟩
            rcases hown4.2 with h | ⟨g, cap, cur, h1, h2, h3⟩
            · exact .inl h
            · exact .inr ⟨g, cap, cur, h1, Nat.le_trans HW.out.2.size h2, h3⟩
          obtain ⟨A4, c4, rfl, _⟩ := own_whole hown4'
          obtain ⟨g4, _, rfl, _⟩ := own_block hown4' hpos
          have HW4 := Lib.hid (And.intro hown4' (HW.out.2.trans (hb4.mono HW.out.2.size)))
          clear hown4 hown4' hb4
          go_wp2_with fail
          have hnx := l2Next_any A ⟨g4, 0, none⟩ c c4 js (swI oc k) ob w4 (hr.below HW4.out.2) (Row.of_own HW4.out.1) HI2.out.2.1 ho (by rw [HI2.out.1]; omega)
          rw [HI2.out.1] at hnx
          refine hnx.mono ?_
          rintro e w5 ⟨rfl, hb5⟩
          have HW5 : Hid (w5.ownsRow w.heap.size 3 1 (.slice (some ⟨g4, 0, none⟩) o.length c4) o.length (ic (swI oc k)) ∧ Below w.heap.size w w5) := by
            refine ⟨?_, HW4.out.2.trans (hb5.mono HW4.out.2.size)⟩
            have := (Seg.of_own HW4.out.1).below hb5
            exact this.own
          clear hb5 hnx HW4
          go_wp2
          go_roundg g'
          case rel => exact ⟨swI oc k, cc + 1, ⟨g4, 0, none⟩, c4, rfl, by go_num, rfl, HI2.out, by omega, HW5.out⟩
          case measure => omega
set_option maxRecDepth 100000 in
set_option maxHeartbeats 4000000 in
theorem impl_ExchangeDown : Calls Try.prog 27 #[.slice A js.length c, .slice (some ad) o.length d, .int .i64 ob] w (RetINB w (downO js o ob)) := by
  have HR : Hid (downO js o ob = if twoB js o && isObj ob then ((downR ob js o).1, ((downR ob js o).2 : Int), true) else ([], 0, false)) := rfl
  go_enter Try.func27, Try.ntmps27
  go_wp2_with fail
  refine (measureOf_any ob w).mono ?_
  rintro e w1 ⟨hb1, ⟨ho, rfl⟩ | ⟨ho, fv, rfl, hF⟩⟩
  · rw [ho, Bool.and_false] at HR
    have hst := store_pair Try.prog w1 .nilFunc .nilFunc (.bool false) 70 rfl
    have hbx := hb1.alloc hb1.size (.cells #[.nilFunc, .bool false] 70)
    have HBX := Lib.hid hbx
    clear hbx
    go_wp2
    go_ret3
    exact ret_emptyN HR.out HBX.out _ (by simp)
  · obtain ⟨f, caps, rfl, _, _⟩ := cost_call hF
    have hst := store_pair Try.prog w1 (.func (.func f) #[] caps) .nilFunc (.bool false) 70 rfl
    have hM0 := BlockIs.new w1 70 #[.func (.func f) #[] caps, .bool (isTop ob)]
    have hb0 := hb1.alloc hb1.size (.cells #[.func (.func f) #[] caps, .bool (isTop ob)] 70)
    have hF0 := hF.keep (w' := w1.alloc (.cells #[.func (.func f) #[] caps, .bool (isTop ob)] 70)) (fun b hb => ((Below.refl w1.heap.size w1).alloc (Nat.le_refl _) _).block b hb)
    have HX := Lib.hid (And.intro hM0 (And.intro hb0 hF0))
    clear hM0 hb0 hF0 hF
    go_wp2_with fail
    obtain ⟨hM0, hb0, hF0⟩ := HX.out
    refine (isScheduled_any A (some ad) c d js o _ (hr.below hb0) (hq.below hb0) hn hm).mono ?_
    rintro e w2 ⟨rfl, hb2⟩
    have HB2 := Lib.hid (hb0.trans (hb2.mono hb0.size))
    cases ht : twoB js o
    · rw [ht] at HR
      clear hM0 hb0 hF0 hst HX hb2
      go_wp2
      go_ret3
      exact ret_emptyN HR.out HB2.out _ rfl
    · rw [ht, ho] at HR
      have hol := two_len ht
      have hms : measI ob js o ≤ 360500 := by have := valI_bd ho ht; unfold measI; omega
      have HD : Hid (downGo ob js (measI ob js o + 1) o 0 = downR ob js o) := rfl
      have hMM := hM0.below hb2
      have hFF := hF0.keep (w' := w2) (fun b hb => hb2.block b (by simp; omega))
      have hlt1 : w1.heap.size + 1 ≤ w2.heap.size := by have := hb2.size; simp at this; omega
      have hw1 : w.heap.size ≤ w1.heap.size := hb1.size
      have HFF := Lib.hid (And.intro hMM hFF)
      clear hM0 hb0 hF0 hst HX hb2 hFF hMM hb1
      go_wp2_with fail
      refine (clone_some ad d o _ (hq.below HB2.out) (by omega)).mono ?_
      rintro e w3 ⟨ad2, c2, rfl, hown2, hb3⟩
      have hown2' : w3.ownsRow w2.heap.size 3 1 (.slice (some ad2) o.length c2) o.length (ic o) := hown2
      have HS : Hid (w3.ownsRow w2.heap.size 3 1 (.slice (some ad2) o.length c2) o.length (ic o) ∧ Below w2.heap.size w2 w3) := ⟨hown2', hb3⟩
      clear hown2 hown2' hb3
      go_wp2
      go_loopg [11, 12] (measI ob js o + 1) (fun gg v k wr => ∃ (oc : List Int) (cc : Nat) (ad3 : Addr) (c3 : Nat), v = .slice (some ad3) o.length c3 ∧ k = .int .i64 (cc : Int) ∧ Hid (oc.length = o.length ∧ twoB js oc = true ∧ downGo ob js gg oc cc = downR ob js o ∧ measI ob js oc < gg) ∧ cc + gg ≤ 400000 ∧ Hid (wr.ownsRow w2.heap.size 3 1 (.slice (some ad3) o.length c3) o.length (ic oc) ∧ Below w2.heap.size w2 wr))
      case atStart => exact ⟨o, 0, ad2, c2, rfl, by go_num, ⟨rfl, ht, HD.out, by omega⟩, by omega, HS.out⟩
      case round =>
        obtain ⟨oc, cc, ad3, c3, rfl, rfl, HI, hcg, HW⟩ := hrel
        clear HS
        obtain ⟨hocl, htc, hd, hlt⟩ := HI.out
        have hMr := HFF.out.1.below HW.out.2
        have hm1 := hMr.cell 0
        have hm2 := hMr.cell 1
        simp at hm1 hm2
        have hne := nextExchange_any (w := wr) (HFF.out.2.keep (fun b hb => HW.out.2.block b (by omega))) (by have := HW.out.2.size; omega) A ad3 c c3 js oc (hr.below (HB2.out.trans (HW.out.2.mono HB2.out.size))) (Row.of_own HW.out.1) htc ho (by omega)
        rw [hocl] at hne
        have HNE := Lib.hid hne
        clear hne hMr
        rcases next_cases ob js oc with ⟨hv, hN, hP⟩ | ⟨k, hv, hN, hP⟩
        · have HE : Hid (downR ob js o = (oc, cc)) := by
            show _ = _
            rw [← hd]
            obtain ⟨g', rfl⟩ : ∃ g', gk = g' + 1 := ⟨gk - 1, by omega⟩
            unfold downGo; rw [hv]
          have HP := Lib.hid hP
          clear hv hN hP hd hlt htc hocl
          go_wp2_with fail
          refine HNE.out.mono ?_
          rintro e w4 ⟨rfl, hb4⟩
          rw [HP.out]
          have HS4 : Hid (w4.ownsRow w2.heap.size 3 1 (.slice (some ad3) o.length c3) o.length (ic oc) ∧ Below w2.heap.size w2 w4) := ⟨((Seg.of_own HW.out.1).below hb4).own, HW.out.2.trans (hb4.mono HW.out.2.size)⟩
          clear hb4 hm1 hm2
          go_wp2
          go_ret3
          have hown5 : w4.ownsRow w.heap.size 3 1 (.slice (some ad3) o.length c3) o.length (ic oc) := by
            refine ⟨HS4.out.1.1, ?_⟩
            rcases HS4.out.1.2 with h | ⟨g, cap, cur, h1, h2, h3⟩
            · exact .inl h
            · exact .inr ⟨g, cap, cur, h1, by have := HB2.out.size; omega, h3⟩
          refine ⟨some ad3, c3, ?_, ?_, HB2.out.trans (HS4.out.2.mono HB2.out.size)⟩
          · rw [HR.out]; simp only [Bool.and_self, if_true]; rw [HE.out]; simp only; rw [HI.out.1]; rfl
          · rw [HR.out]; simp only [Bool.and_self, if_true]; rw [HE.out]; simp only; rw [HI.out.1]; exact Seg.of_own hown5
        · obtain ⟨hk1, _⟩ := next_out hv
          have hmd := meas_down ho htc hv
          obtain ⟨g', rfl⟩ : ∃ g', gk = g' + 1 := ⟨gk - 1, by omega⟩
          have HI2 : Hid ((swI oc k).length = o.length ∧ twoB js (swI oc k) = true ∧ downGo ob js g' (swI oc k) (cc + 1) = downR ob js o ∧ measI ob js (swI oc k) < g') := by
            refine ⟨by rw [swI_len]; exact hocl, two_swap htc hk1, ?_, by omega⟩
            rw [← hd]
            conv => rhs; unfold downGo
            rw [hv]
          have hk0 : (0 : Int) ≤ k := by omega
          have hpos : 0 < o.length := by omega
          have HP := Lib.hid hP
          have HK := Lib.hid hk1
          have HO := Lib.hid hocl
          clear hv hN hP HI hd hlt hmd hk1 htc hocl
          go_wp2_with fail
          refine HNE.out.mono ?_
          rintro e w4 ⟨rfl, hb4⟩
          rw [HP.out]
          have HS4 : Hid (w4.ownsRow w2.heap.size 3 1 (.slice (some ad3) o.length c3) o.length (ic oc) ∧ Below w2.heap.size w2 w4) := ⟨((Seg.of_own HW.out.1).below hb4).own, HW.out.2.trans (hb4.mono HW.out.2.size)⟩
          have hsw := exchanged_any ad3 c3 oc k w4 (Row.of_own HS4.out.1) (by rw [HO.out]; omega) HK.out
          rw [HO.out] at hsw
          have HSW := Lib.hid hsw
          clear hb4 hm1 hm2 hsw HNE HW
          go_wp2_with fail
          refine HSW.out.mono ?_
          rintro e w5 ⟨v, rfl, hown4, hb5⟩
          have hown4' : w5.ownsRow w2.heap.size 3 1 v o.length (ic (swI oc k)) := by
            refine ⟨hown4.1, ?_⟩
            rcases hown4.2 with h | ⟨g, cap, cur, h1, h2, h3⟩
            · exact .inl h
            · exact .inr ⟨g, cap, cur, h1, Nat.le_trans HS4.out.2.size h2, h3⟩
          obtain ⟨A4, c4, rfl, _⟩ := own_whole hown4'
          obtain ⟨g4, _, rfl, _⟩ := own_block hown4' hpos
          have HW5 : Hid (w5.ownsRow w2.heap.size 3 1 (.slice (some ⟨g4, 0, none⟩) o.length c4) o.length (ic (swI oc k)) ∧ Below w2.heap.size w2 w5) := ⟨hown4', HS4.out.2.trans (hb5.mono HS4.out.2.size)⟩
          clear hown4 hown4' hb5 HS4
          go_wp2
          go_roundg g'
          case rel => exact ⟨swI oc k, cc + 1, ⟨g4, 0, none⟩, c4, rfl, by go_num, HI2.out, by omega, HW5.out⟩
          case measure => omega
end
end Go.Proofs.Ytekocnmcenmcnab
