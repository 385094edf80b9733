/- End vectors: the program's. -/
import Derived.Test.YtpoibjmkbljblaaDoorDmJ
namespace Go.Proofs.YtpoibjmkbljblaaDoor
open Go.RowKit
def inV (x : Int) : Bool := decide (0 ≤ x ∧ x ≤ 2000)
theorem endV1_any (x : Int) (w : World) : Calls Tryd.prog 102 #[.int .i64 x] w fun e w' => e = .returned (.bool (!inV x)) ∧ w = w' := by
  have HX : Hid (inV x = decide (0 ≤ x ∧ x ≤ 2000)) := rfl
  by_cases h1 : x < 0
  · have HF : Hid (inV x = false) := by show _ = _; rw [HX.out]; exact decide_eq_false (by omega)
    have d1 : decide (x < 0) = true := decide_eq_true h1
    clear HX
    go_enter Tryd.func102, Tryd.ntmps102
    go_wp2
    go_ret
    exact ⟨by rw [HF.out]; rfl, rfl⟩
  · by_cases h2 : 2000 < x
    · have HF : Hid (inV x = false) := by show _ = _; rw [HX.out]; exact decide_eq_false (by omega)
      have d1 : decide (x < 0) = false := decide_eq_false h1
      have d2 : decide (2000 < x) = true := decide_eq_true h2
      clear HX
      go_enter Tryd.func102, Tryd.ntmps102
      go_wp2
      go_ret
      exact ⟨by rw [HF.out]; rfl, rfl⟩
    · have HF : Hid (inV x = true) := by show _ = _; rw [HX.out]; exact decide_eq_true (by omega)
      have d1 : decide (x < 0) = false := decide_eq_false h1
      have d2 : decide (2000 < x) = false := decide_eq_false h2
      clear HX
      go_enter Tryd.func102, Tryd.ntmps102
      go_wp2
      go_ret
      exact ⟨by rw [HF.out]; rfl, rfl⟩
theorem allV_bad {e : List Int} {x : Int} (hx : x ∈ e) (h : inV x = false) : e.all inV = false := List.all_eq_false.2 ⟨x, hx, by rw [h]; decide⟩
theorem allV_of {e : List Int} (h : ∀ i (hi : i < e.length), i < e.length → inV e[i] = true) : e.all inV = true := List.all_eq_true.2 fun x hx => by
  obtain ⟨i, hi, rfl⟩ := List.getElem_of_mem hx
  exact h i hi hi
theorem allV_step {e : List Int} {k : Nat} (h : ∀ i (hi : i < e.length), i < k → inV e[i] = true) (hk : k < e.length) (h1 : inV e[k] = true) : ∀ i (hi : i < e.length), i < k + 1 → inV e[i] = true := fun i hi hik => by
  by_cases e1 : i = k
  · subst e1; exact h1
  · exact h i hi (by omega)
theorem indexV_any (B : Option Addr) (d : Nat) (e : List Int) (w : World) (hr : Row w B (ic e)) (hn : e.length ≤ 100000000) :
    Calls Tryd.prog 141 #[.slice B e.length d, .func (.func 102) #[] #[]] w fun r w' => ∃ i : Int, r = .returned (.int .i64 i) ∧ (0 ≤ i ↔ e.all inV = false) ∧ Below w.heap.size w w' := by
  have hcf : ∀ (args : Array Value) (w1 : World), (callFunc 102 args).run Tryd.prog w1 = .ok (.enter 102 args) w1 := enters_of Tryd.func102 (by kernel_rfl) rfl
  go_enter Tryd.func141, Tryd.ntmps141
  go_wp2
  go_loopw [8] (fun i wr => ∃ k : Nat, k ≤ e.length ∧ i = .int .i64 k ∧ Hid (∀ i (hi : i < e.length), i < k → inV e[i] = true) ∧ Below w.heap.size w wr) (fun i _ => e.length - (intOf i).toNat)
  case atStart => exact ⟨0, Nat.zero_le _, rfl, fun _ _ h => absurd h (by omega), Below.refl _ _⟩
  case round =>
    obtain ⟨k, hk, rfl, hA, hb⟩ := hrel
    by_cases hlt : k < e.length
    · obtain ⟨a, hA', hc0⟩ := (hr.below hb).int hlt
      subst hA'
      have HB := Lib.hid hb
      have hi : (0 : Int) ≤ k := by omega
      have hi' : (k : Int) < e.length := by omega
      cases ho : inV e[k]
      · have HG := Lib.hid (allV_bad (List.getElem_mem hlt) ho)
        clear hr hb hA
        generalize e[k] = x at *
        go_wp2_with fail
        refine (endV1_any x _).mono ?_
        rintro r _ ⟨rfl, rfl⟩
        rw [ho]
        go_wp2
        go_ret
        exact ⟨k, rfl, ⟨fun _ => HG.out, fun _ => by omega⟩, HB.out⟩
      · have HA := Lib.hid (allV_step hA.out hlt ho)
        clear hr hb hA
        generalize e[k] = x at *
        go_wp2_with fail
        refine (endV1_any x _).mono ?_
        rintro r _ ⟨rfl, rfl⟩
        rw [ho]
        go_wp2
        go_roundw
        case rel => exact ⟨k + 1, by omega, by go_num, HA.out, HB.out⟩
        case measure => simp [intOf]; omega
    · obtain rfl : k = e.length := by omega
      have HG := Lib.hid (allV_of hA.out)
      clear hA
      go_wp2
      go_ret
      exact ⟨-1, rfl, ⟨fun h => by omega, fun h => by rw [HG.out] at h; cases h⟩, hb⟩
theorem containsV_any (B : Option Addr) (d : Nat) (e : List Int) (w : World) (hr : Row w B (ic e)) (hn : e.length ≤ 100000000) :
    Calls Tryd.prog 101 #[.slice B e.length d, .func (.func 102) #[] #[]] w fun r w' => r = .returned (.bool (!e.all inV)) ∧ Below w.heap.size w w' := by
  go_enter Tryd.func101, Tryd.ntmps101
  go_wp2_with fail
  refine (indexV_any B d e _ hr hn).mono ?_
  rintro r w1 ⟨i, rfl, hr1, hb1⟩
  by_cases h0 : 0 ≤ i
  · have H := Lib.hid (hr1.1 h0)
    have d0 : decide (0 ≤ i) = true := decide_eq_true h0
    clear hr1
    go_wp2
    go_ret
    exact ⟨by rw [H.out]; rfl, hb1⟩
  · have H : Hid (e.all inV = true) := by
      show _ = _
      cases h : e.all inV with
      | true => rfl
      | false => exact absurd (hr1.2 h) h0
    have d0 : decide (0 ≤ i) = false := decide_eq_false h0
    clear hr1
    go_wp2
    go_ret
    exact ⟨by rw [H.out]; rfl, hb1⟩
/-- What endVectorOf hands back. -/
def VecIs (A : Option Addr) (c : Nat) (C : Option Addr) (b : Nat) (js : List J) (en : List Int) (w : World) (e : Ending) (w' : World) : Prop := Below w.heap.size w w' ∧
  (plainL js = true ∧ vecB js.length en = true ∧ e = .returned (.tuple #[.agg #[.slice A js.length c, .slice C en.length b], .bool true]) ∨
   (plainL js && vecB js.length en) = false ∧ e = .returned (.tuple #[.agg #[.slice none 0 0, .slice none 0 0], .bool false]))
set_option maxRecDepth 100000 in
set_option maxHeartbeats 2000000 in
theorem endVectorOf_any (A C : Option Addr) (c b : Nat) (js : List J) (en : List Int) (w : World) (hr : Row w A (jc js)) (he : Row w C (ic en)) (hn : js.length ≤ 10000000) (_hm : en.length ≤ 10000000) :
    Calls Tryd.prog 54 #[.slice A js.length c, .slice C en.length b] w (VecIs A c C b js en w) := by
  have HV : Hid (vecB js.length en = (decide (en.length = js.length) && en.all inV)) := rfl
  have hb0 := (Below.refl w.heap.size w).alloc (Nat.le_refl _) (.cells #[.slice none 0 0, .slice none 0 0] 70)
  have HB0 := Lib.hid (And.intro hb0 (BlockIs.new w 70 #[.slice none 0 0, .slice none 0 0]))
  have HP := Lib.hid (plainListOf_any A c js _ (hr.below hb0) (by omega))
  have HE := Lib.hid he
  clear hr he hb0
  go_enter Tryd.func54, Tryd.ntmps54
  go_wp2_with fail
  refine HP.out.mono ?_
  rintro e1 w1 ⟨hb1, hcase⟩
  have HW := Lib.hid (And.intro (HB0.out.1.trans (hb1.mono HB0.out.1.size)) (HB0.out.2.below hb1))
  clear hb1 HP HB0
  have q0 := HW.out.2.cell 0
  have q1 := HW.out.2.cell 1
  simp only [List.getElem?_toArray, List.getElem?_cons_zero, List.getElem?_cons_succ] at q0 q1
  have fz0 := HW.out.2.frozen 0
  have fz1 := HW.out.2.frozen 1
  rcases hcase with ⟨hp, rfl⟩ | ⟨hp, rfl⟩
  · by_cases hel : en.length = js.length
    · have hne : ((en.length : Int) != (js.length : Int)) = false := by rw [hel]; simp
      have HC := Lib.hid (containsV_any C b en w1 (HE.out.below HW.out.1) (by omega))
      have HEL := Lib.hid hel
      cases hv : en.all inV
      · have HN : Hid ((plainL js && vecB js.length en) = false) := by show _ = _; rw [HV.out, hv, Bool.and_false, Bool.and_false]
        rw [hv] at HC
        clear hv hel
        go_wp2_with fail
        refine HC.out.mono ?_
        rintro r w2 ⟨rfl, hb2⟩
        have HW2 := Lib.hid (And.intro (HW.out.1.trans (hb2.mono HW.out.1.size)) (HW.out.2.below hb2))
        clear hb2 HC HW q0 q1 fz0 fz1
        have q0 := HW2.out.2.cell 0
        have q1 := HW2.out.2.cell 1
        simp only [List.getElem?_toArray, List.getElem?_cons_zero, List.getElem?_cons_succ] at q0 q1
        have fz0 := HW2.out.2.frozen 0
        have fz1 := HW2.out.2.frozen 1
        go_wp2
        have hq := (HW2.out.2.set 0 (.slice none 0 0)).set 1 (.slice none 0 0)
        have hbf := (HW2.out.1.setCell (p := ⟨w.heap.size, 0, none⟩) (Nat.le_refl _) (.slice none 0 0)).setCell (p := ⟨w.heap.size, 1, none⟩) (Nat.le_refl _) (.slice none 0 0)
        generalize (w2.setCell ⟨w.heap.size, 0, none⟩ (.slice none 0 0)).setCell ⟨w.heap.size, 1, none⟩ (.slice none 0 0) = W at *
        have r0 := hq.cell 0
        have r1 := hq.cell 1
        simp at r0 r1
        exact bodyPost_ret (v := .tuple #[.agg #[.slice none 0 0, .slice none 0 0], .bool false]) (by simp [results, Tryd.results54, r0, r1, go_sem]) rfl ⟨hbf, .inr ⟨HN.out, rfl⟩⟩
      · have HN : Hid (vecB js.length en = true) := by show _ = _; rw [HV.out, hv, decide_eq_true hel]; rfl
        rw [hv] at HC
        clear hv hel
        go_wp2_with fail
        refine HC.out.mono ?_
        rintro r w2 ⟨rfl, hb2⟩
        have HW2 := Lib.hid (And.intro (HW.out.1.trans (hb2.mono HW.out.1.size)) (HW.out.2.below hb2))
        clear hb2 HC HW q0 q1 fz0 fz1
        have q0 := HW2.out.2.cell 0
        have q1 := HW2.out.2.cell 1
        simp only [List.getElem?_toArray, List.getElem?_cons_zero, List.getElem?_cons_succ] at q0 q1
        have fz0 := HW2.out.2.frozen 0
        have fz1 := HW2.out.2.frozen 1
        go_wp2
        have hq := (HW2.out.2.set 0 (.slice A js.length c)).set 1 (.slice C en.length b)
        have hbf := (HW2.out.1.setCell (p := ⟨w.heap.size, 0, none⟩) (Nat.le_refl _) (.slice A js.length c)).setCell (p := ⟨w.heap.size, 1, none⟩) (Nat.le_refl _) (.slice C en.length b)
        generalize (w2.setCell ⟨w.heap.size, 0, none⟩ (.slice A js.length c)).setCell ⟨w.heap.size, 1, none⟩ (.slice C en.length b) = W at *
        have r0 := hq.cell 0
        have r1 := hq.cell 1
        simp at r0 r1
        exact bodyPost_ret (v := .tuple #[.agg #[.slice A js.length c, .slice C en.length b], .bool true]) (by simp [results, Tryd.results54, r0, r1, go_sem]) rfl ⟨hbf, .inl ⟨hp, HN.out, rfl⟩⟩
    · have hne : ((en.length : Int) != (js.length : Int)) = true := by simp; omega
      have HN : Hid ((plainL js && vecB js.length en) = false) := by show _ = _; rw [HV.out, decide_eq_false hel, Bool.false_and, Bool.and_false]
      clear hel
      go_wp2
      have hq := (HW.out.2.set 0 (.slice none 0 0)).set 1 (.slice none 0 0)
      have hbf := (HW.out.1.setCell (p := ⟨w.heap.size, 0, none⟩) (Nat.le_refl _) (.slice none 0 0)).setCell (p := ⟨w.heap.size, 1, none⟩) (Nat.le_refl _) (.slice none 0 0)
      generalize (w1.setCell ⟨w.heap.size, 0, none⟩ (.slice none 0 0)).setCell ⟨w.heap.size, 1, none⟩ (.slice none 0 0) = W at *
      have r0 := hq.cell 0
      have r1 := hq.cell 1
      simp at r0 r1
      exact bodyPost_ret (v := .tuple #[.agg #[.slice none 0 0, .slice none 0 0], .bool false]) (by simp [results, Tryd.results54, r0, r1, go_sem]) rfl ⟨hbf, .inr ⟨HN.out, rfl⟩⟩
  · have HN : Hid ((plainL js && vecB js.length en) = false) := by show _ = _; rw [hp, Bool.false_and]
    clear hp
    go_wp2
    have hq := (HW.out.2.set 0 (.slice none 0 0)).set 1 (.slice none 0 0)
    have hbf := (HW.out.1.setCell (p := ⟨w.heap.size, 0, none⟩) (Nat.le_refl _) (.slice none 0 0)).setCell (p := ⟨w.heap.size, 1, none⟩) (Nat.le_refl _) (.slice none 0 0)
    generalize (w1.setCell ⟨w.heap.size, 0, none⟩ (.slice none 0 0)).setCell ⟨w.heap.size, 1, none⟩ (.slice none 0 0) = W at *
    have r0 := hq.cell 0
    have r1 := hq.cell 1
    simp at r0 r1
    exact bodyPost_ret (v := .tuple #[.agg #[.slice none 0 0, .slice none 0 0], .bool false]) (by simp [results, Tryd.results54, r0, r1, go_sem]) rfl ⟨hbf, .inr ⟨HN.out, rfl⟩⟩
end Go.Proofs.YtpoibjmkbljblaaDoor
