/- DemandOf and SupplyOf: the program's. -/
import Derived.Test.YtpoibjmkbljblaaDoorDmV
import Derived.Test.YtpoibjmkbljblaaDoorKb1
namespace Go.Proofs.YtpoibjmkbljblaaDoor
open Go.RowKit
section
variable (A B : Option Addr) (c d : Nat) (js : List J) (s : List Int) (w : World) (hr : Row w A (jc js)) (hq : Row w B (ic s)) (hn : js.length ≤ 10000000) (hm : s.length ≤ 10000000) (hT : TzTab w)
include hr hq hn hm hT
set_option maxRecDepth 100000 in
theorem impl_DemandOf : Calls Tryd.prog 17 #[.slice A js.length c, .slice B s.length d] w (RetNB w (demR js s)) := by
  have HR : Hid (demR js s = if plainL js && risL js.length s then (demL js (memB (numS s)), true) else (0, false)) := rfl
  have HT := Lib.hid hT
  clear hT
  go_enter Tryd.func17, Tryd.ntmps17
  go_wp2_with fail
  refine (setFor_any A B c d js s w hr hq hn hm).mono ?_
  rintro e1 w1 ⟨hb1, ⟨hp, hs, rfl⟩ | ⟨hp, rfl⟩⟩
  · rw [hp, hs] at HR
    obtain ⟨h8, hok⟩ := good_out (plain_good hp)
    have hs8 := ris8 hs h8
    have hlt := numS_lt hs8
    have HI := Lib.hid (demand_any A c (numS s) js w1 hlt (hr.below hb1) hok (fun k hk => numS_in hs h8 hk) (HT.out.below hb1))
    clear hok hlt hs8 hs hp
    go_wp2_with fail
    refine HI.out.mono ?_
    rintro e1 w2 ⟨rfl, hb2⟩
    go_wp2
    go_ret2
    exact ⟨by rw [HR.out]; rfl, hb1.trans (hb2.mono hb1.size)⟩
  · rw [hp] at HR
    have HI := Lib.hid (demand_any none 0 0 [] w1 (by omega) (Row.nil _) (by simp) (fun k hk => by simp at hk) (HT.out.below hb1))
    have HZ : Hid (demL [] (memB 0) = 0) := by show _ = _; rw [memB_zero]; rfl
    rw [HZ.out] at HI
    go_wp2_with fail
    refine HI.out.mono ?_
    rintro e1 w2 ⟨rfl, hb2⟩
    go_wp2
    go_ret2
    exact ⟨by rw [HR.out]; rfl, hb1.trans (hb2.mono hb1.size)⟩
variable (C : Option Addr) (b : Nat) (en : List Int) (he : Row w C (ic en)) (hel : en.length ≤ 10000000)
include he hel
set_option maxRecDepth 100000 in
set_option maxHeartbeats 2000000 in
theorem impl_SupplyOf : Calls Tryd.prog 21 #[.slice A js.length c, .slice C en.length b, .slice B s.length d] w (RetNB w (supR js en s)) := by
  have HR : Hid (supR js en s = if (plainL js && vecB js.length en) && risL js.length s then (supL js en (memB (numS s)), true) else (0, false)) := rfl
  have HT := Lib.hid hT
  have HRJ := Lib.hid hr
  have HQ := Lib.hid hq
  have HE := Lib.hid he
  have HEV := Lib.hid (endVectorOf_any A C c b js en w hr he hn hel)
  clear hT hr hq he
  go_enter Tryd.func21, Tryd.ntmps21
  go_wp2_with fail
  refine HEV.out.mono ?_
  rintro e1 w1 ⟨hb1, ⟨hp, hv, rfl⟩ | ⟨hp, rfl⟩⟩
  · have hb2 := hb1.alloc hb1.size (.cells #[.slice A js.length c, .slice C en.length b] 70)
    have hB2 := BlockIs.new w1 70 #[.slice A js.length c, .slice C en.length b]
    have HB2 := Lib.hid (And.intro hb2 hB2)
    have HP := Lib.hid hp
    have HV := Lib.hid hv
    rw [hp, hv] at HR
    clear hB2 HEV
    cases hs : risL js.length s
    · rw [hs] at HR
      go_wp2_with fail
      refine (isSetOf_any B d js.length s _ (HQ.out.below HB2.out.1) hm).mono ?_
      rintro e1 _ ⟨rfl, rfl⟩
      rw [hs]
      go_wp2
      go_ret2
      exact ⟨by rw [HR.out]; rfl, HB2.out.1⟩
    · rw [hs] at HR
      obtain ⟨h8, hok⟩ := good_out (plain_good hp)
      have hs8 := ris8 hs h8
      have hlt := numS_lt hs8
      have HSO := Lib.hid (fun W (h : Below w.heap.size w W) => setOfList_any B d s W (HQ.out.below h) hm hs8)
      have HSU := Lib.hid (fun W (h : Below w.heap.size w W) => supply_any A c (numS s) js W hlt (HRJ.out.below h) hok (fun k hk => numS_in hs h8 hk) (HT.out.below h) C b en (HE.out.below h) hv)
      have q0 := HB2.out.2.drew.cell 0
      have q1 := HB2.out.2.drew.cell 1
      simp only [List.getElem?_toArray, List.getElem?_cons_zero, List.getElem?_cons_succ] at q0 q1
      have HD := Lib.hid HB2.out.1.drew
      clear hok hlt hs8 hp hv hb2
      go_wp2_with fail
      refine (isSetOf_any B d js.length s _ (HQ.out.below HB2.out.1) hm).mono ?_
      rintro e1 _ ⟨rfl, rfl⟩
      rw [hs]
      clear hs
      go_wp2
      go_region_with (first
        | (go_at_call 57; refine (HSO.out _ HD.out).mono ?_; rintro e _ ⟨rfl, rfl⟩)
        | (go_at_call 56; refine (HSU.out _ HD.out).mono ?_; rintro e w3 ⟨rfl, hb3⟩; have HB3 := Lib.hid (HD.out.trans (hb3.mono HD.out.size)); clear hb3))
      all_goals
        go_wp2
        go_ret2
        exact ⟨by rw [HR.out]; rfl, HB3.out⟩
  · rw [hp] at HR
    have HB2 := Lib.hid (hb1.alloc hb1.size (.cells #[.slice none 0 0, .slice none 0 0] 70))
    clear HEV
    go_wp2
    go_ret2
    exact ⟨by rw [HR.out]; rfl, HB2.out⟩
end
end Go.Proofs.YtpoibjmkbljblaaDoor
