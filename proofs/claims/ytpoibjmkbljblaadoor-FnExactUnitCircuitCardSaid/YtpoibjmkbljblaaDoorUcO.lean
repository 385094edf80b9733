/- UnitCircuit: the program's. -/
import Derived.Test.YtpoibjmkbljblaaDoorUcI
namespace Go.Proofs.YtpoibjmkbljblaaDoor
set_option linter.unusedSimpArgs false
set_option linter.unusedVariables false
set_option linter.unusedSectionVars false
open Go.RowKit
theorem add_same : ∀ s, s < 256 → ∀ j, j < 8 → s.testBit j = true → addB s j = s := by decide +kernel
section
variable (A : Option Addr) (bd : Addr) (c d : Nat) (js : List J) (s : List Int) (jb : Int) (w : World) (hr : Row w A (jc js)) (hq : Row w (some bd) (ic s)) (hn : js.length ≤ 10000000) (hm : s.length ≤ 10000000 ∧ s.length ≤ d) (hT : TzTab w)
include hr hq hn hm hT
set_option maxRecDepth 100000 in
set_option maxHeartbeats 4000000 in
theorem impl_UnitCircuit : Calls Tryd.prog 36 #[.slice A js.length c, .slice (some bd) s.length d, .int .i64 jb] w (RetIB w (cirW js s jb)) := by
  have HCO : Hid (cirOk js s jb = (freeB js s && (decide (0 ≤ jb ∧ jb ≤ (js.length : Int) - 1) && (!hasI s jb && !timB js (addB (numS s) jb.toNat))))) := rfl
  have HFB : Hid (freeB js s = (((unitB js && plainL js) && risL js.length s) && timB js (numS s))) := rfl
  have HUS := Lib.hid (unitSetFor_any A (some bd) c d js s w hr hq hn hm.1)
  have HT := Lib.hid hT
  have HRJ := Lib.hid hr
  clear hT hr hq
  go_enter Tryd.func36, Tryd.ntmps36
  go_wp2_with fail
  refine HUS.out.mono ?_
  rintro e1 w1 ⟨hb1, ⟨hu, hp, hs, rfl⟩ | ⟨hp, v1, v2, rfl⟩⟩
  · have HB1 := Lib.hid hb1
    obtain ⟨h8, hok⟩ := good_out (plain_good hp)
    have h0 := plain_zero hp
    have hs8 := ris8 hs h8
    have hsl := numS_lt hs8
    have hnm := numS_mem hs8
    have hbt : ∀ k, (numS s).testBit k = true → k < js.length := fun k hk => numS_in hs h8 hk
    have HTI := Lib.hid (fun (σ : Nat) (hσ : σ < 256) (hlt : ∀ k, σ.testBit k = true → k < js.length) (W : World) (hb : Below w.heap.size w W) =>
      (show Calls Tryd.prog 82 #[.slice A js.length c, .int .u64 (σ : Int)] W fun e w' => e = .returned (.bool (timB js σ)) ∧ Below W.heap.size W w' from isTimely_any A c js W (HRJ.out.below hb) hok h8 h0 σ hσ hlt (HT.out.below hb)))
    have HCI := Lib.hid (fun (σ : Nat) (hσ : σ < 256) (hlt : ∀ k, σ.testBit k = true → k < js.length) (W : World) (hb : Below w.heap.size w W) => circuit_any A c js W σ hσ (HRJ.out.below hb) hok h8 h0 hlt (HT.out.below hb))
    by_cases hj0 : jb < 0
    · have HR := Lib.hid (cirW_no (js := js) (s := s) (j := jb) (by rw [HCO.out, decide_eq_false (by omega : ¬ (0 ≤ jb ∧ jb ≤ (js.length : Int) - 1))]; simp))
      have hd0 : decide (jb < 0) = true := decide_eq_true hj0
      clear HTI HCI hbt hnm hs8 hok h0
      go_wp2
      go_ret2
      exact ret_empty HR.out hb1 _ rfl
    · by_cases hj1 : (js.length : Int) ≤ jb
      · have HR := Lib.hid (cirW_no (js := js) (s := s) (j := jb) (by rw [HCO.out, decide_eq_false (by omega : ¬ (0 ≤ jb ∧ jb ≤ (js.length : Int) - 1))]; simp))
        have hd0 : decide (jb < 0) = false := decide_eq_false hj0
        have hd1 : decide ((js.length : Int) ≤ jb) = true := decide_eq_true hj1
        clear HTI HCI hbt hnm hs8 hok h0
        go_wp2
        go_ret2
        exact ret_empty HR.out hb1 _ rfl
      · have hd0 : decide (jb < 0) = false := decide_eq_false hj0
        have hd1 : decide ((js.length : Int) ≤ jb) = false := decide_eq_false hj1
        obtain ⟨j, rfl⟩ : ∃ j : Nat, jb = (j : Int) := ⟨jb.toNat, by omega⟩
        have hj8 : j < js.length := by omega
        have hta := addB_lt8 (numS s) hsl j (by omega)
        have HWI := Lib.hid (fun W => with_any (numS s) j hsl (by omega) W)
        have HTS := Lib.hid (HTI.out (numS s) hsl hbt)
        have HTA := Lib.hid (HTI.out _ hta (add_bit hsl hj8 h8 hbt))
        have HCA := Lib.hid (HCI.out _ hta (add_bit hsl hj8 h8 hbt))
        have hcb : cirB js (addB (numS s) j) < 256 := (putW_ok _ 0 (by omega) (mem8 _)).1
        have HLI := Lib.hid (fun W (h : Below w.heap.size w W) => list_any (cirB js (addB (numS s) j)) W hcb (HT.out.below h))
        have hhb : hasI s (j : Int) = (numS s).testBit j := by
          rw [Bool.eq_iff_iff]
          constructor
          · intro h
            have h1 := hasI_out h
            rw [← hnm] at h1
            obtain ⟨y, hy, e⟩ := List.mem_map.1 h1
            have e2 : y = j := Int.ofNat.inj e
            subst e2
            exact (memB_mem hsl).1 hy
          · intro h
            exact hasI_yes (by rw [← hnm]; exact List.mem_map.2 ⟨j, (memB_mem hsl).2 h, rfl⟩)
        have hin : decide (0 ≤ (j : Int) ∧ (j : Int) ≤ (js.length : Int) - 1) = true := decide_eq_true (by omega)
        have HW : Hid ((timB js (numS s) && !timB js (addB (numS s) j)) = false → cirW js s (j : Int) = ([], false)) := fun h => cirW_no (by
          rw [HCO.out, HFB.out, hu, hp, hs]
          show (timB js (numS s) && _) = false
          rw [Bool.and_eq_false_iff] at h ⊢
          rcases h with h | h
          · exact .inl h
          · exact .inr (by show (decide _ && (!hasI s (j : Int) && !timB js (addB (numS s) j))) = false; rw [h, Bool.and_false, Bool.and_false]))
        have HY : Hid (timB js (numS s) = true → timB js (addB (numS s) j) = false → cirW js s (j : Int) = (natI (memB (cirB js (addB (numS s) j))), true)) := fun h1 h2 => by
          have hnb : (numS s).testBit j = false := by
            cases hb : (numS s).testBit j with
            | false => rfl
            | true => rw [add_same (numS s) hsl j (by omega) hb, h1] at h2; cases h2
          rw [← cir_eq hsl (by omega) hnb h1]
          unfold cirW
          rw [HCO.out, HFB.out, hu, hp, hs, h1, hin, hhb, hnb]
          show (if (!timB js (addB (numS s) j)) = true then _ else _) = _
          rw [h2]; rfl
        clear hj0 hj1 hcb hhb hin hnm hbt hs8 hok h0 HTI HCI hta hs hp hu hsl
        generalize cirB js (addB (numS s) j) = cb at *
        generalize addB (numS s) j = sa at *
        generalize numS s = sg at *
        go_wp2_with fail
        refine (HWI.out _).mono ?_
        rintro e _ ⟨rfl, rfl⟩
        have HC1 := Lib.hid (HTS.out w1 HB1.out)
        cases ht1 : timB js sg
        · have HR := Lib.hid (HW.out (by rw [ht1]; rfl))
          rw [ht1] at HC1
          clear HTS HTA HCA HLI HW HY ht1 hb1
          go_wp2_with fail
          refine HC1.out.mono ?_
          rintro e w2 ⟨rfl, hb2⟩
          have HB2 := Lib.hid (HB1.out.trans (hb2.mono HB1.out.size))
          clear hb2 HC1
          go_wp2
          go_ret2
          exact ret_empty HR.out HB2.out _ rfl
        · rw [ht1] at HC1
          clear HTS hb1
          go_wp2_with fail
          refine HC1.out.mono ?_
          rintro e w2 ⟨rfl, hb2⟩
          have HB2 := Lib.hid (HB1.out.trans (hb2.mono HB1.out.size))
          have HC2 := Lib.hid (HTA.out w2 HB2.out)
          clear hb2 HC1 HTA
          cases ht2 : timB js sa
          · have HR := Lib.hid (HY.out ht1 ht2)
            rw [ht2] at HC2
            clear HW HY ht1 ht2
            go_wp2_with fail
            refine HC2.out.mono ?_
            rintro e w3 ⟨rfl, hb3⟩
            have HB3 := Lib.hid (HB2.out.trans (hb3.mono HB2.out.size))
            have HC3 := Lib.hid (HCA.out w3 HB3.out)
            clear hb3 HC2 HCA
            go_wp2_with fail
            refine HC3.out.mono ?_
            rintro e w4 ⟨rfl, hb4⟩
            have HB4 := Lib.hid (HB3.out.trans (hb4.mono HB3.out.size))
            have HC4 := Lib.hid (HLI.out w4 HB4.out)
            clear hb4 HC3 HLI
            go_wp2_with fail
            refine HC4.out.mono ?_
            rintro e w5 ⟨v, rfl, hown, hb5⟩
            have HX := Lib.hid (And.intro (own_lower hown HB4.out.size) (HB4.out.trans (hb5.mono HB4.out.size)))
            clear hown hb5 HC4
            go_wp2
            go_ret2
            exact ret_ownC HR.out rfl HX.out.1 HX.out.2 _ rfl
          · have HR := Lib.hid (HW.out (by rw [ht1, ht2]; rfl))
            rw [ht2] at HC2
            clear HW HY ht1 ht2 HCA HLI
            go_wp2_with fail
            refine HC2.out.mono ?_
            rintro e w3 ⟨rfl, hb3⟩
            have HB3 := Lib.hid (HB2.out.trans (hb3.mono HB2.out.size))
            clear hb3 HC2
            go_wp2
            go_ret2
            exact ret_empty HR.out HB3.out _ rfl
  · have HR := Lib.hid (cirW_no (js := js) (s := s) (j := jb) (by rw [HCO.out, HFB.out, hp]; rfl))
    go_wp2
    go_ret2
    exact ret_empty HR.out hb1 _ rfl
end
end Go.Proofs.YtpoibjmkbljblaaDoor
