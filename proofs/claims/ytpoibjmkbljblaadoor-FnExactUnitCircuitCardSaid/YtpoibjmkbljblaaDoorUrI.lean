/- Unit jobs: the program's areUnits, unitSetFor, taken; UnitRank. -/
import Derived.Test.YtpoibjmkbljblaaDoorUrP
import Derived.Test.YtpoibjmkbljblaaDoorKb2
namespace Go.Proofs.YtpoibjmkbljblaaDoor
open Go.RowKit
theorem onesI_len : ∀ s : Nat, s < 256 → onesI (s : Int) = ((memB s).length : Int) := by decide +kernel
set_option maxRecDepth 100000 in
theorem ones64_len (s : Nat) (hs : s < 256) (w : World) :
    Calls Tryd.prog 145 #[.int .u64 (s : Int)] w fun e w' => e = .returned (.int .i64 ((memB s).length : Int)) ∧ w = w' := by
  have HX := Lib.hid (onesI_len s hs)
  go_enter Tryd.func145, Tryd.ntmps145
  go_wp2
  go_ret
  exact ⟨by rw [← HX.out]; rfl, rfl⟩
theorem size_len (s : Nat) (hs : s < 256) (w : World) :
    Calls Tryd.prog 71 #[.int .u64 (s : Int)] w fun e w' => e = .returned (.int .i64 ((memB s).length : Int)) ∧ w = w' := by
  have H : Hid (Calls Tryd.prog 114 #[.int .u64 (s : Int)] w fun e w' => e = .returned (.int .i64 ((memB s).length : Int)) ∧ w = w') := by
    have H := Lib.hid (ones64_len s hs w)
    show Calls _ _ _ _ _
    go_enter Tryd.func114, Tryd.ntmps114
    go_wp2_with fail
    refine H.out.mono ?_
    rintro e _ ⟨rfl, rfl⟩
    go_wp2
    go_ret
    exact ⟨rfl, rfl⟩
  go_enter Tryd.func71, Tryd.ntmps71
  go_wp2_with fail
  refine H.out.mono ?_
  rintro e _ ⟨rfl, rfl⟩
  go_wp2
  go_ret
  exact ⟨rfl, rfl⟩
theorem unit1_any (j : J) (w : World) :
    Calls Tryd.prog 118 #[.agg #[.int .i64 j.t, .int .i64 j.w, .int .i64 j.r, .int .i64 j.d]] w fun e w' => e = .returned (.bool (!decide (j.t = 1))) ∧ Below w.heap.size w w' := by
  by_cases h : j.t = 1
  · have h1 : (j.t != 1) = false := by rw [h]; rfl
    rw [decide_eq_true h]
    clear h
    go_enter Tryd.func118, Tryd.ntmps118
    go_wp2
    go_ret
    exact ⟨rfl, (Below.refl _ _).alloc (Nat.le_refl _) _⟩
  · have h1 : (j.t != 1) = true := by simpa using h
    rw [decide_eq_false h]
    clear h
    go_enter Tryd.func118, Tryd.ntmps118
    go_wp2
    go_ret
    exact ⟨rfl, (Below.refl _ _).alloc (Nat.le_refl _) _⟩
theorem unit_step2 {js : List J} {k : Nat} (h : ∀ i (hi : i < js.length), i < k → js[i].t = 1) (hk : k < js.length) (h1 : js[k].t = 1) : ∀ i (hi : i < js.length), i < k + 1 → js[i].t = 1 := fun i hi hik => by
  by_cases e : i = k
  · subst e; exact h1
  · exact h i hi (by omega)
theorem indexU_any (A : Option Addr) (c : Nat) (js : List J) (w : World) (hr : Row w A (jc js)) (hn : js.length ≤ 100000000) :
    Calls Tryd.prog 150 #[.slice A js.length c, .func (.func 118) #[] #[]] w fun e w' => ∃ r : Int, e = .returned (.int .i64 r) ∧ (0 ≤ r ↔ unitB js = false) ∧ Below w.heap.size w w' := by
  go_enter Tryd.func150, Tryd.ntmps150
  go_wp2
  go_loopw [8] (fun i wr => ∃ k : Nat, k ≤ js.length ∧ i = .int .i64 k ∧ Hid (∀ i (hi : i < js.length), i < k → js[i].t = 1) ∧ Below w.heap.size w wr) (fun i _ => js.length - (intOf i).toNat)
  case atStart => exact ⟨0, Nat.zero_le _, rfl, fun _ _ h => absurd h (by omega), Below.refl _ _⟩
  case round =>
    obtain ⟨k, hk, rfl, hA, hb⟩ := hrel
    by_cases hlt : k < js.length
    · obtain ⟨a, hA', _, hc0, hc1, hc2, hc3⟩ := (hr.below hb).job hlt
      subst hA'
      have HB := Lib.hid hb
      have hi : (0 : Int) ≤ k := by omega
      have hi' : (k : Int) < js.length := by omega
      by_cases ho : js[k].t = 1
      · have HA := Lib.hid (unit_step2 hA.out hlt ho)
        have HO : Hid (decide (js[k].t = 1) = true) := decide_eq_true ho
        clear hr hb hA ho
        generalize js[k] = j at *
        go_wp2_with fail
        refine (unit1_any j _).mono ?_
        rintro e w1 ⟨rfl, hb1⟩
        rw [HO.out]
        go_wp2
        go_roundw
        case rel => exact ⟨k + 1, by omega, by go_num, HA.out, HB.out.trans (hb1.mono HB.out.size)⟩
        case measure => simp [intOf]; omega
      · have HG := Lib.hid (unit_bad (List.getElem_mem hlt) ho)
        have HO : Hid (decide (js[k].t = 1) = false) := decide_eq_false ho
        clear hr hb hA ho
        generalize js[k] = j at *
        go_wp2_with fail
        refine (unit1_any j _).mono ?_
        rintro e w1 ⟨rfl, hb1⟩
        rw [HO.out]
        go_wp2
        go_ret
        exact ⟨k, rfl, ⟨fun _ => HG.out, fun _ => by omega⟩, HB.out.trans (hb1.mono HB.out.size)⟩
    · obtain rfl : k = js.length := by omega
      have HG := Lib.hid (unit_all hA.out)
      clear hA
      go_wp2
      go_ret
      exact ⟨-1, rfl, ⟨fun h => by omega, fun h => by rw [HG.out] at h; cases h⟩, hb⟩
theorem areUnits_any (A : Option Addr) (c : Nat) (js : List J) (w : World) (hr : Row w A (jc js)) (hn : js.length ≤ 100000000) :
    Calls Tryd.prog 75 #[.slice A js.length c] w fun e w' => e = .returned (.bool (unitB js)) ∧ Below w.heap.size w w' := by
  have HC : Hid (Calls Tryd.prog 117 #[.slice A js.length c, .func (.func 118) #[] #[]] w fun e w' => e = .returned (.bool (!unitB js)) ∧ Below w.heap.size w w') := by
    show Calls _ _ _ _ _
    go_enter Tryd.func117, Tryd.ntmps117
    go_wp2_with fail
    refine (indexU_any A c js _ hr hn).mono ?_
    rintro e w1 ⟨r, rfl, hr1, hb1⟩
    by_cases h0 : 0 ≤ r
    · have H := Lib.hid (hr1.1 h0)
      have d0 : decide (0 ≤ r) = true := decide_eq_true h0
      clear hr1
      go_wp2
      go_ret
      exact ⟨by rw [H.out]; rfl, hb1⟩
    · have H : Hid (unitB js = true) := by
        show _ = _
        cases h : unitB js with
        | true => rfl
        | false => exact absurd (hr1.2 h) h0
      have d0 : decide (0 ≤ r) = false := decide_eq_false h0
      clear hr1
      go_wp2
      go_ret
      exact ⟨by rw [H.out]; rfl, hb1⟩
  cases hu : unitB js
  · rw [hu] at HC
    go_enter Tryd.func75, Tryd.ntmps75
    go_wp2_with fail
    refine HC.out.mono ?_
    rintro e w1 ⟨rfl, hb1⟩
    go_wp2
    go_ret
    exact ⟨rfl, hb1⟩
  · rw [hu] at HC
    go_enter Tryd.func75, Tryd.ntmps75
    go_wp2_with fail
    refine HC.out.mono ?_
    rintro e w1 ⟨rfl, hb1⟩
    go_wp2
    go_ret
    exact ⟨rfl, hb1⟩
/-- What unitSetFor hands back. -/
def UnitIs (A : Option Addr) (c : Nat) (js : List J) (s : List Int) (w : World) (e : Ending) (w' : World) : Prop := Below w.heap.size w w' ∧
  (unitB js = true ∧ plainL js = true ∧ risL js.length s = true ∧ e = .returned (.tuple #[.slice A js.length c, .int .u64 (numS s : Int), .bool true]) ∨
   ((unitB js && plainL js) && risL js.length s) = false ∧ ∃ v1 v2, e = .returned (.tuple #[v1, v2, .bool false]))
set_option maxRecDepth 100000 in
theorem unitSetFor_any (A B : Option Addr) (c d : Nat) (js : List J) (s : List Int) (w : World) (hr : Row w A (jc js)) (hq : Row w B (ic s)) (hn : js.length ≤ 10000000) (hm : s.length ≤ 10000000) :
    Calls Tryd.prog 69 #[.slice A js.length c, .slice B s.length d] w (UnitIs A c js s w) := by
  go_enter Tryd.func69, Tryd.ntmps69
  go_wp2_with fail
  refine (setFor_any A B c d js s w hr hq hn hm).mono ?_
  rintro e1 w1 ⟨hb1, ⟨hp, hs, rfl⟩ | ⟨hp, rfl⟩⟩
  · have HC := Lib.hid (areUnits_any A c js w1 (hr.below hb1) (by omega))
    have HP := Lib.hid (And.intro hp hs)
    have HB := Lib.hid hb1
    clear hp hs hb1
    cases hu : unitB js
    · rw [hu] at HC
      go_wp2_with fail
      refine HC.out.mono ?_
      rintro e w2 ⟨rfl, hb2⟩
      go_wp2
      go_ret3
      exact ⟨HB.out.trans (hb2.mono HB.out.size), .inr ⟨by rw [hu]; rfl, _, _, rfl⟩⟩
    · rw [hu] at HC
      go_wp2_with fail
      refine HC.out.mono ?_
      rintro e w2 ⟨rfl, hb2⟩
      go_wp2
      go_ret3
      exact ⟨HB.out.trans (hb2.mono HB.out.size), .inl ⟨hu, HP.out.1, HP.out.2, rfl⟩⟩
  · have HN : Hid (((unitB js && plainL js) && risL js.length s) = false) := by show _ = _; rw [Bool.and_assoc, hp, Bool.and_false]
    clear hp
    go_wp2
    go_ret3
    exact ⟨hb1, .inr ⟨HN.out, _, _, rfl⟩⟩
section
variable (A B : Option Addr) (c d : Nat) (js : List J) (l : List Nat) (w : World) (hr : Row w A (jc js)) (hq : Row w B (ic (natI l))) (hl : ∀ x ∈ l, x < js.length) (hn : l.length ≤ 8) (hok : ∀ j ∈ js, okJ j = true) (h8 : js.length ≤ 8) (h0 : ∀ j ∈ js, j.r = 0) (hT : TzTab w)
include hr hq hl hn hok h8 h0 hT
set_option maxRecDepth 100000 in
set_option maxHeartbeats 4000000 in
theorem taken_any : Calls Tryd.prog 70 #[.slice A js.length c, .slice B l.length d] w fun e w' => e = .returned (.int .u64 (tkL js l : Int)) ∧ Below w.heap.size w w' := by
  have HTK := Lib.hid (fun k (hk : k ≤ l.length) => tkGo_ok (js := js) h8 hl k hk)
  have HTS := Lib.hid (fun k (hk : k < l.length) => tkGo_succ (js := js) hk)
  have HTL : Hid (tkL js l = tkGo js l l.length) := rfl
  have HTZ : Hid (tkGo js l 0 = 0) := tkGo_zero js l
  have HLX := Lib.hid (fun k (hk : k < l.length) => hl _ (List.getElem_mem hk))
  have HTI := Lib.hid (fun (s : Nat) (hs : s < 256) (hlt : ∀ k, s.testBit k = true → k < js.length) (W : World) (hb : Below w.heap.size w W) =>
    (show Calls Tryd.prog 82 #[.slice A js.length c, .int .u64 (s : Int)] W fun e w' => e = .returned (.bool (timB js s)) ∧ Below W.heap.size W w' from isTimely_any A c js W (hr.below hb) hok h8 h0 s hs hlt (hT.below hb)))
  have HQ := Lib.hid hq
  clear hr hq hok h0 hT
  go_enter Tryd.func70, Tryd.ntmps70
  go_wp2
  go_loopw [5, 10] (fun v i wr => ∃ k : Nat, k ≤ l.length ∧ v = .int .u64 (tkGo js l k : Int) ∧ i = .int .i64 (k : Int) ∧ Hid (Below w.heap.size w wr)) (fun _ i _ => l.length - (intOf i).toNat)
  case atStart => exact ⟨0, Nat.zero_le _, by rw [HTZ.out]; rfl, rfl, Lib.hid (Below.refl _ _)⟩
  case round =>
    obtain ⟨k, hk, rfl, rfl, HW⟩ := hrel
    by_cases hlt : k < l.length
    · have hk0 : (0 : Int) ≤ k := by omega
      have hk1 : (k : Int) < l.length := by omega
      obtain ⟨bd, rfl, hcx⟩ := (HQ.out.below HW.out).nat hlt
      obtain ⟨hs, hbt⟩ := HTK.out k hk
      have HS := Lib.hid (HTS.out k hlt)
      have hx := HLX.out k hlt
      generalize tkGo js l k = s at *
      generalize l[k] = x at *
      have ha := addB_lt8 s hs x (by omega)
      have HC := Lib.hid (HTI.out (addB s x) ha (add_bit hs hx h8 hbt) wr HW.out)
      have HSD : Hid (tkS js s x = if timB js (addB s x) then addB s x else s) := rfl
      have HWI := Lib.hid (with_any s x hs (by omega))
      clear HTI hs hbt hx ha
      generalize addB s x = sx at *
      go_wp2_with fail
      refine (HWI.out _).mono ?_
      rintro e _ ⟨rfl, rfl⟩
      cases ht : timB js sx
      · rw [ht] at HC HSD
        go_wp2_with fail
        refine HC.out.mono ?_
        rintro e w2 ⟨rfl, hb2⟩
        have HF := Lib.hid (HW.out.trans (hb2.mono HW.out.size))
        have HS2 := Lib.hid (HS.out.trans HSD.out)
        clear hb2 HC HW
        go_wp2
        go_roundw
        case rel => exact ⟨k + 1, by omega, by rw [HS2.out]; rfl, by go_num, HF⟩
        case measure => simp [intOf]; omega
      · rw [ht] at HC HSD
        go_wp2_with fail
        refine HC.out.mono ?_
        rintro e w2 ⟨rfl, hb2⟩
        have HF := Lib.hid (HW.out.trans (hb2.mono HW.out.size))
        have HS2 := Lib.hid (HS.out.trans HSD.out)
        clear hb2 HC HW
        go_wp2_with fail
        refine (HWI.out _).mono ?_
        rintro e _ ⟨rfl, rfl⟩
        go_wp2
        go_roundw
        case rel => exact ⟨k + 1, by omega, by rw [HS2.out]; rfl, by go_num, HF⟩
        case measure => simp [intOf]; omega
    · obtain rfl : k = l.length := by omega
      go_wp2
      go_ret
      exact ⟨by rw [HTL.out]; rfl, HW.out⟩
end
set_option maxRecDepth 100000 in
theorem impl_UnitRank (A B : Option Addr) (c d : Nat) (js : List J) (s : List Int) (w : World) (hr : Row w A (jc js)) (hq : Row w B (ic s)) (hn : js.length ≤ 10000000) (hm : s.length ≤ 10000000) (hT : TzTab w) :
    Calls Tryd.prog 32 #[.slice A js.length c, .slice B s.length d] w (RetNB w (rankR js s)) := by
  have HR : Hid (rankR js s = if (unitB js && plainL js) && risL js.length s then (((memB (tkL js (memB (numS s)))).length : Int), true) else (0, false)) := rfl
  have HT := Lib.hid hT
  clear hT
  go_enter Tryd.func32, Tryd.ntmps32
  go_wp2_with fail
  refine (unitSetFor_any A B c d js s w hr hq hn hm).mono ?_
  rintro e1 w1 ⟨hb1, ⟨hu, hp, hs, rfl⟩ | ⟨hp, v1, v2, rfl⟩⟩
  · rw [hu, hp, hs] at HR
    obtain ⟨h8, hok⟩ := good_out (plain_good hp)
    have hs8 := ris8 hs h8
    have hnm := numS_mem hs8
    have hlm : (memB (numS s)).length = s.length := by
      conv => rhs; rw [← hnm]
      unfold natI; rw [List.length_map]
    have hin : ∀ x ∈ memB (numS s), x < js.length := fun x hx => numS_in hs h8 ((memB_mem (numS_lt hs8)).1 hx)
    have h := taken_any A B c d js (memB (numS s)) w1 (hr.below hb1) (by rw [hnm]; exact hq.below hb1) hin (memB_len _) hok h8 (plain_zero hp) (HT.out.below hb1)
    rw [hlm] at h
    have HI := Lib.hid h
    have ht := (tkGo_ok (js := js) h8 hin _ (Nat.le_refl _)).1
    have HSZ := Lib.hid (size_len (tkL js (memB (numS s))) ht)
    clear hok hin hs8 hs hp hnm hlm h hu
    generalize tkL js (memB (numS s)) = t at *
    go_wp2_with fail
    refine HI.out.mono ?_
    rintro e1 w2 ⟨rfl, hb2⟩
    go_wp2_with fail
    refine (HSZ.out _).mono ?_
    rintro e1 _ ⟨rfl, rfl⟩
    go_wp2
    go_ret2
    exact ⟨by rw [HR.out]; rfl, hb1.trans (hb2.mono hb1.size)⟩
  · rw [hp] at HR
    go_wp2
    go_ret2
    exact ⟨by rw [HR.out]; rfl, hb1⟩
end Go.Proofs.YtpoibjmkbljblaaDoor
