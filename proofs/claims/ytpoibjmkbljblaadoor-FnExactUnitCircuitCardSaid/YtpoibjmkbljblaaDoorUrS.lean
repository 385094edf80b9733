/- Unit jobs: the model's. -/
import Derived.Test.YtpoibjmkbljblaaDoorUrP
import Derived.Test.YtpoibjmkbljblaaDoorKb4
namespace Go.Proofs.YtpoibjmkbljblaaDoor
open Go.RowKit
theorem unit_step {js : List J} {k : Nat} (h : ∀ i (hi : i < js.length), i < k → js[i].t = 1) (hk : k < js.length) (h1 : js[k].t = 1) : ∀ i (hi : i < js.length), i < k + 1 → js[i].t = 1 := fun i hi hik => by
  by_cases e : i = k
  · subst e; exact h1
  · exact h i hi (by omega)
section
variable (A : Option Addr) (c : Nat) (js : List J) (w : World) (hr : Row w A (jc js)) (hn : js.length ≤ 100000000)
include hr hn
theorem l10Unit_any : Calls Tryd.prog 67 #[.slice A js.length c] w fun e w' => e = .returned (.bool (unitB js && plainL js)) ∧ Below w.heap.size w w' := by
  have HGO := Lib.hid (fun W (hb : Below w.heap.size w W) => l6Good_any A c js W (hr.below hb) hn)
  go_enter Tryd.func67, Tryd.ntmps67
  go_wp2
  go_loopw [3] (fun i wr => ∃ k : Nat, k ≤ js.length ∧ i = .int .i64 k ∧ Hid (∀ i (hi : i < js.length), i < k → js[i].t = 1) ∧ Below w.heap.size w wr) (fun i _ => js.length - (intOf i).toNat)
  case atStart => exact ⟨0, Nat.zero_le _, rfl, fun _ _ h => absurd h (by omega), Below.refl _ _⟩
  case round =>
    obtain ⟨k, hk, rfl, hA, hb⟩ := hrel
    by_cases hlt : k < js.length
    · obtain ⟨a, hA', _, hc0, hc1, hc2, hc3⟩ := (hr.below hb).job hlt
      subst hA'
      have HB := Lib.hid hb
      have hi : (0 : Int) ≤ k := by omega
      have hi' : (k : Int) < js.length := by omega
      by_cases ho : js[k].t = 1
      · have HA := Lib.hid (unit_step hA.out hlt ho)
        have ho' : (js[k].t == 1) = true := by rw [ho]; rfl
        have ho2 : (js[k].t != 1) = false := by rw [ho]; rfl
        clear hr hb hA
        generalize js[k] = j at *
        have HO := Lib.hid ho
        clear ho
        go_wp2
        go_roundw
        case rel => exact ⟨k + 1, by omega, by go_num, HA.out, HB.out⟩
        case measure => simp [intOf]; omega
      · have HG := Lib.hid (unit_bad (List.getElem_mem hlt) ho)
        have ho' : (js[k].t == 1) = false := by simpa using ho
        have ho2 : (js[k].t != 1) = true := by simpa using ho
        clear hr hb hA
        generalize js[k] = j at *
        go_wp2
        go_ret
        exact ⟨by rw [HG.out]; rfl, HB.out⟩
    · obtain rfl : k = js.length := by omega
      have HG := Lib.hid (unit_all hA.out)
      have HC := Lib.hid (HGO.out wr hb)
      have HB := Lib.hid hb
      clear hA hb HGO
      go_wp2_with fail
      refine HC.out.mono ?_
      rintro e w1 ⟨rfl, hb1⟩
      go_wp2
      go_ret
      exact ⟨by rw [HG.out, Bool.true_and]; rfl, HB.out.trans (hb1.mono HB.out.size)⟩
end
section
variable (A B : Option Addr) (c d : Nat) (js : List J) (l : List Nat) (w : World) (hr : Row w A (jc js)) (hq : Row w B (ic (natI l))) (hl : ∀ x ∈ l, x < js.length) (hn : l.length ≤ 8) (hok : ∀ j ∈ js, okJ j = true) (h8 : js.length ≤ 8) (h0 : ∀ j ∈ js, j.r = 0)
include hr hq hl hn hok h8 h0
set_option maxRecDepth 100000 in
set_option maxHeartbeats 4000000 in
theorem l10Rank_any : Calls Tryd.prog 68 #[.slice A js.length c, .slice B l.length d] w fun e w' => e = .returned (.int .i64 ((memB (tkL js l)).length : Int)) ∧ Below w.heap.size w w' := by
  have hb0 := (Below.refl w.heap.size w).alloc (Nat.le_refl _) (.cells #[] 3)
  have hown0 : (w.alloc (.cells #[] 3)).ownsRow w.heap.size 3 1 (.slice (some ⟨w.heap.size, 0, none⟩) 0 0) 0 [] := World.ownsRow_made w #[] 0 (Nat.le_refl _) (by unfold maxLen; omega) rfl
  have H0 := Lib.hid (And.intro hown0 hb0)
  have HTK := Lib.hid (fun k (hk : k ≤ l.length) => tkGo_ok (js := js) h8 hl k hk)
  have HTS := Lib.hid (fun k (hk : k < l.length) => tkGo_succ (js := js) hk)
  have HTL : Hid (tkL js l = tkGo js l l.length) := rfl
  have HLX := Lib.hid (fun k (hk : k < l.length) => hl _ (List.getElem_mem hk))
  have HTI := Lib.hid (fun (s : Nat) (hs : s < 256) (hlt : ∀ k, s.testBit k = true → k < js.length) (X : Option Addr) (cx : Nat) (W : World) (hb : Below w.heap.size w W) (hx : Row W X (ic (natI (memB s)))) => by
    have h := l6Timely_any A X c cx js (memB s) W (hr.below hb) hx (fun x hx => hlt x ((memB_mem hs).1 hx)) (memB_len s) (fun j hj => by have := okJ_out (hok j hj); omega)
    rw [timly_lat hok h0 (memB s) (fun x hx => hlt x ((memB_mem hs).1 hx))] at h
    exact (show Calls Tryd.prog 73 #[.slice A js.length c, .slice X (memB s).length cx] W fun e w' => e = .returned (.bool (timB js s)) ∧ Below W.heap.size W w' from h))
  have HQ := Lib.hid hq
  clear hr hq hok h0 hown0 hb0
  go_enter Tryd.func68, Tryd.ntmps68
  go_wp2
  go_loopw [5, 6] (fun v i wr => ∃ (k : Nat) (ad : Addr) (cc : Nat), k ≤ l.length ∧ v = .slice (some ad) (memB (tkGo js l k)).length cc ∧ i = .int .i64 (k : Int) ∧ Hid (wr.ownsRow w.heap.size 3 1 (.slice (some ad) (memB (tkGo js l k)).length cc) (memB (tkGo js l k)).length (ic (natI (memB (tkGo js l k))))) ∧ Hid (Below w.heap.size w wr)) (fun _ i _ => l.length - (intOf i).toNat)
  case atStart =>
    have hz : memB (tkGo js l 0) = [] := by rw [tkGo_zero, memB_zero]
    refine ⟨0, ⟨w.heap.size, 0, none⟩, 0, Nat.zero_le _, ?_, rfl, ?_, H0.out.2⟩
    · rw [hz]; rfl
    · rw [hz]; exact H0.out.1
  case round =>
    obtain ⟨k, ad, cc, hk, rfl, rfl, HO, HW⟩ := hrel
    clear H0
    by_cases hlt : k < l.length
    · have hk0 : (0 : Int) ≤ k := by omega
      have hk1 : (k : Int) < l.length := by omega
      obtain ⟨bd, rfl, hcx⟩ := (HQ.out.below HW.out).nat hlt
      obtain ⟨hs, hbt⟩ := HTK.out k hk
      have HS := Lib.hid (HTS.out k hlt)
      have hx := HLX.out k hlt
      generalize tkGo js l k = s at *
      generalize l[k] = x at *
      have hP := l1Put_any ad cc w.heap.size (memB s) x wr HO.out (memB_strict s) (by have := memB_len s; omega) HW.out.size
      rw [putN_memB s hs x (by omega)] at hP
      have HP := Lib.hid hP
      have ha := addB_lt8 s hs x (by omega)
      have HTA := Lib.hid (HTI.out (addB s x) ha (add_bit hs hx h8 hbt))
      have HSD : Hid (tkS js s x = if timB js (addB s x) then addB s x else s) := rfl
      clear hP HTI hs hbt
      generalize addB s x = sx at *
      go_wp2_with fail
      refine HP.out.mono ?_
      rintro e w1 ⟨ad1, c1, rfl, ho1, hb1⟩
      have HO1 := Lib.hid ho1
      have HW1 := Lib.hid (HW.out.trans (hb1.mono HW.out.size))
      have HOO := Lib.hid (own_blw HO.out hb1)
      have HC := Lib.hid (HTA.out (some ad1) c1 w1 HW1.out (Row.of_own ho1))
      clear ho1 hb1 HP HTA HO HW
      cases ht : timB js sx
      · rw [ht] at HC HSD
        go_wp2_with fail
        refine HC.out.mono ?_
        rintro e w2 ⟨rfl, hb2⟩
        have HF := Lib.hid (And.intro (own_blw HOO.out hb2) (HW1.out.trans (hb2.mono HW1.out.size)))
        have HS2 := Lib.hid (HS.out.trans HSD.out)
        clear hb2 HC
        go_wp2
        go_roundw
        case rel => exact ⟨k + 1, ad, cc, by omega, by rw [HS2.out]; rfl, by go_num, by rw [HS2.out]; exact HF.out.1, HF.out.2⟩
        case measure => simp [intOf]; omega
      · rw [ht] at HC HSD
        go_wp2_with fail
        refine HC.out.mono ?_
        rintro e w2 ⟨rfl, hb2⟩
        have HF := Lib.hid (And.intro (own_blw HO1.out hb2) (HW1.out.trans (hb2.mono HW1.out.size)))
        have HS2 := Lib.hid (HS.out.trans HSD.out)
        clear hb2 HC
        go_wp2
        go_roundw
        case rel => exact ⟨k + 1, ad1, c1, by omega, by rw [HS2.out]; rfl, by go_num, by rw [HS2.out]; exact HF.out.1, HF.out.2⟩
        case measure => simp [intOf]; omega
    · obtain rfl : k = l.length := by omega
      go_wp2
      go_ret
      exact ⟨by rw [HTL.out]; rfl, HW.out⟩
end
section
variable (A B : Option Addr) (c d : Nat) (js : List J) (s : List Int) (w : World) (hr : Row w A (jc js)) (hq : Row w B (ic s)) (hn : js.length ≤ 10000000) (hm : s.length ≤ 10000000)
include hr hq hn hm
set_option maxRecDepth 100000 in
theorem spec_UnitRank : Calls Tryd.prog 31 #[.slice A js.length c, .slice B s.length d] w (RetNB w (rankR js s)) := by
  have HR : Hid (rankR js s = if (unitB js && plainL js) && risL js.length s then (((memB (tkL js (memB (numS s)))).length : Int), true) else (0, false)) := rfl
  cases hp : unitB js && plainL js
  · rw [hp] at HR
    go_enter Tryd.func31, Tryd.ntmps31
    go_wp2_with fail
    refine (l10Unit_any A c js _ hr (by omega)).mono ?_
    rintro e1 w1 ⟨rfl, hb1⟩
    rw [hp]
    go_wp2
    go_ret2
    exact ⟨by rw [HR.out]; rfl, hb1⟩
  · rw [hp] at HR
    have hpl : plainL js = true := (Bool.and_eq_true_iff.1 hp).2
    cases hs : risL js.length s
    · rw [hs] at HR
      go_enter Tryd.func31, Tryd.ntmps31
      go_wp2_with fail
      refine (l10Unit_any A c js _ hr (by omega)).mono ?_
      rintro e1 w1 ⟨rfl, hb1⟩
      rw [hp]
      go_wp2_with fail
      refine (l6Set_any A B c d js s w1 (hq.below hb1) hn hm).mono ?_
      rintro e1 w2 ⟨rfl, m, rfl⟩
      rw [hs]
      have HB := Lib.hid (below_drewN hb1 m)
      clear hb1
      go_wp2
      go_ret2
      exact ⟨by rw [HR.out]; rfl, HB.out⟩
    · rw [hs] at HR
      obtain ⟨h8, hok⟩ := good_out (plain_good hpl)
      have hs8 := ris8 hs h8
      have hnm := numS_mem hs8
      have hlm : (memB (numS s)).length = s.length := by
        conv => rhs; rw [← hnm]
        unfold natI; rw [List.length_map]
      have hin : ∀ x ∈ memB (numS s), x < js.length := fun x hx => numS_in hs h8 ((memB_mem (numS_lt hs8)).1 hx)
      have HQ : Hid (∀ w' : World, Below w.heap.size w w' → Calls Tryd.prog 68 #[.slice A js.length c, .slice B s.length d] w' fun e1 w3 => e1 = .returned (.int .i64 ((memB (tkL js (memB (numS s)))).length : Int)) ∧ Below w'.heap.size w' w3) := fun w' hb => by
        have h := l10Rank_any A B c d js (memB (numS s)) w' (hr.below hb) (by rw [hnm]; exact hq.below hb) hin (memB_len _) hok h8 (plain_zero hpl)
        rw [hlm] at h
        exact h
      clear hnm hlm hin hs8 hok
      go_enter Tryd.func31, Tryd.ntmps31
      go_wp2_with fail
      refine (l10Unit_any A c js _ hr (by omega)).mono ?_
      rintro e1 w1 ⟨rfl, hb1⟩
      rw [hp]
      go_wp2_with fail
      refine (l6Set_any A B c d js s w1 (hq.below hb1) hn hm).mono ?_
      rintro e1 w2 ⟨rfl, m, rfl⟩
      rw [hs]
      have HB := Lib.hid (below_drewN hb1 m)
      clear hb1
      go_wp2_with fail
      refine (HQ.out _ HB.out).mono ?_
      rintro e1 w3 ⟨rfl, hb3⟩
      have HB3 := Lib.hid (HB.out.trans (hb3.mono HB.out.size))
      clear hb3
      go_wp2
      go_ret2
      exact ⟨by rw [HR.out]; rfl, HB3.out⟩
end
end Go.Proofs.YtpoibjmkbljblaaDoor
