/- End vectors and mixtures of them: in plain words; endVectorOf of both. -/
import Derived.Test.YtpoibjmkbljblaaPln
import Derived.Shelf.Abstract
import Derived.Test.YtpoibjmkbljblaaEndsO
import Derived.Test.YtpoibjmkbljblaaSegH
namespace Go.Proofs.Ytpoibjmkbljblaa
set_option linter.unusedSimpArgs false
set_option linter.unusedVariables false
set_option linter.unusedSectionVars false
open Go.RowKit
/-- An end vector. -/
def vecB (n : Nat) (e : List Int) : Bool := decide (e.length = n) && e.all fun x => decide (0 ≤ x ∧ x ≤ 2000)
theorem vec_out {n : Nat} {e : List Int} (h : vecB n e = true) : e.length = n ∧ ∀ x ∈ e, 0 ≤ x ∧ x ≤ 2000 := by
  unfold vecB at h
  rw [Bool.and_eq_true, decide_eq_true_eq, List.all_eq_true] at h
  exact ⟨h.1, fun x hx => of_decide_eq_true (h.2 x hx)⟩
theorem vec_at {n : Nat} {e : List Int} (h : vecB n e = true) (k : Nat) : 0 ≤ e.getD k 0 ∧ e.getD k 0 ≤ 2000 := by
  rcases Nat.lt_or_ge k e.length with hk | hk
  · rw [getD_at e 0 hk]; exact (vec_out h).2 _ (List.getElem_mem hk)
  · rw [List.getD_eq_getElem?_getD, List.getElem?_eq_none hk]; simp
theorem l10Vector_any (A B : Option Addr) (c d : Nat) (js : List J) (e : List Int) (w : World) (hq : Row w B (ic e)) (_hn : js.length ≤ 100000000) (hm : e.length ≤ 100000000) :
    Calls Try.prog 15 #[.slice A js.length c, .slice B e.length d] w fun r w' => r = .returned (.bool (vecB js.length e)) ∧ Below w.heap.size w w' := by
  have HV : Hid (vecB js.length e = (decide (e.length = js.length) && e.all fun x => decide (0 ≤ x ∧ x ≤ 2000))) := rfl
  have HQ := Lib.hid hq
  clear hq
  go_enter Try.func15, Try.ntmps15
  go_wp2
  go_loopw [5] (fun iv wr => ∃ k : Nat, k ≤ e.length ∧ iv = .int .i64 (k : Int) ∧ Hid (∀ i (h : i < e.length), i < k → 0 ≤ e[i] ∧ e[i] ≤ 2000) ∧ Hid (Below w.heap.size w wr)) (fun iv _ => e.length - (intOf iv).toNat)
  case atStart => exact ⟨0, Nat.zero_le _, rfl, fun _ _ h => absurd h (by omega), Lib.hid (Below.refl _ _)⟩
  case round =>
    obtain ⟨k, hk, rfl, HA, HB⟩ := hrel
    by_cases hlt : k < e.length
    · have hk0 : (0 : Int) ≤ k := by omega
      have hk1 : (k : Int) < e.length := by omega
      obtain ⟨bd, rfl, hcx⟩ := (HQ.out.below HB.out).int hlt
      have HG : Hid ((0 ≤ e[k] ∧ e[k] ≤ 2000) → ∀ i (h : i < e.length), i < k + 1 → 0 ≤ e[i] ∧ e[i] ≤ 2000) := fun h0 i h hi => by
        by_cases he : i = k
        · subst he; exact h0
        · exact HA.out i h (by omega)
      have HN : Hid (¬ (0 ≤ e[k] ∧ e[k] ≤ 2000) → vecB js.length e = false) := fun h0 => by
        rw [HV.out, Bool.and_eq_false_iff]
        exact .inr (List.all_eq_false.2 ⟨e[k], List.getElem_mem hlt, by simpa using h0⟩)
      generalize e[k] = x at *
      by_cases hx : 0 ≤ x ∧ x ≤ 2000
      · have HG2 := Lib.hid (HG.out hx)
        have hd : inB x 0 2000 = true := by unfold inB; exact decide_eq_true hx
        clear HG HN
        go_wp2_with fail
        refine (l1In_any x 0 2000 _).mono ?_
        rintro r _ ⟨rfl, rfl⟩
        rw [hd]
        go_wp2
        go_roundw
        case rel => exact ⟨k + 1, by omega, by go_num, HG2.out, HB⟩
        case measure => simp [intOf]; omega
      · have HN2 := Lib.hid (HN.out hx)
        have hd : inB x 0 2000 = false := by unfold inB; exact decide_eq_false hx
        clear HG HN
        go_wp2_with fail
        refine (l1In_any x 0 2000 _).mono ?_
        rintro r _ ⟨rfl, rfl⟩
        rw [hd]
        go_wp2
        go_ret
        exact ⟨by rw [HN2.out]; rfl, HB.out⟩
    · obtain rfl : k = e.length := by omega
      have HF : Hid (vecB js.length e = decide (e.length = js.length)) := by
        show _ = _
        rw [HV.out, List.all_eq_true.2 (fun x hx => by
          obtain ⟨i, h, rfl⟩ := List.getElem_of_mem hx
          exact decide_eq_true (HA.out i h h)), Bool.and_true]
      by_cases he : e.length = js.length
      · have hd : decide (e.length = js.length) = true := decide_eq_true he
        have hei : ((e.length : Int) == (js.length : Int)) = true := by rw [he]; simp
        rw [hd] at HF
        have HE := Lib.hid he
        clear he hd
        go_wp2
        go_ret
        exact ⟨by rw [HF.out]; rfl, HB.out⟩
      · have hd : decide (e.length = js.length) = false := decide_eq_false he
        have hei : ((e.length : Int) == (js.length : Int)) = false := by simp; omega
        rw [hd] at HF
        clear hd
        go_wp2
        go_ret
        exact ⟨by rw [HF.out]; rfl, HB.out⟩
def inV (x : Int) : Bool := decide (0 ≤ x ∧ x ≤ 2000)
theorem endV1_any (x : Int) (w : World) : Calls Try.prog 25 #[.int .i64 x] w fun e w' => e = .returned (.bool (!inV x)) ∧ w = w' := by
  have HX : Hid (inV x = decide (0 ≤ x ∧ x ≤ 2000)) := rfl
  by_cases h1 : x < 0
  · have HF : Hid (inV x = false) := by show _ = _; rw [HX.out]; exact decide_eq_false (by omega)
    have d1 : decide (x < 0) = true := decide_eq_true h1
    clear HX
    go_enter Try.func25, Try.ntmps25
    go_wp2
    go_ret
    exact ⟨by rw [HF.out]; rfl, rfl⟩
  · by_cases h2 : 2000 < x
    · have HF : Hid (inV x = false) := by show _ = _; rw [HX.out]; exact decide_eq_false (by omega)
      have d1 : decide (x < 0) = false := decide_eq_false h1
      have d2 : decide (2000 < x) = true := decide_eq_true h2
      clear HX
      go_enter Try.func25, Try.ntmps25
      go_wp2
      go_ret
      exact ⟨by rw [HF.out]; rfl, rfl⟩
    · have HF : Hid (inV x = true) := by show _ = _; rw [HX.out]; exact decide_eq_true (by omega)
      have d1 : decide (x < 0) = false := decide_eq_false h1
      have d2 : decide (2000 < x) = false := decide_eq_false h2
      clear HX
      go_enter Try.func25, Try.ntmps25
      go_wp2
      go_ret
      exact ⟨by rw [HF.out]; rfl, rfl⟩
theorem allV_bad {e : List Int} {x : Int} (hx : x ∈ e) (h : inV x = false) : e.all inV = false := List.all_eq_false.2 ⟨x, hx, by rw [h]; decide⟩
theorem allV_of {e : List Int} (h : ∀ i (hi : i < e.length), i < e.length → inV e[i] = true) : e.all inV = true := List.all_eq_true.2 fun x hx => by
  obtain ⟨i, hi, rfl⟩ := List.getElem_of_mem hx
  exact h i hi hi
theorem allV_step {e : List Int} {k : Nat} (h : ∀ i (hi : i < e.length), i < k → inV e[i] = true) (hk : k < e.length) (h1 : inV e[k] = true) : ∀ i (hi : i < e.length), i < k + 1 → inV e[i] = true := fun i hi hik => by
  by_cases e1 : i = k
  · subst e1; exact h1
  · exact h i hi (by omega)
theorem indexV_any (B : Option Addr) (d : Nat) (e : List Int) (w : World) (hr : Row w B (ic e)) (hn : e.length ≤ 100000000) :
    Calls Try.prog 28 #[.slice B e.length d, .func (.func 25) #[] #[]] w fun r w' => ∃ i : Int, r = .returned (.int .i64 i) ∧ (0 ≤ i ↔ e.all inV = false) ∧ Below w.heap.size w w' := by
  have hcf : ∀ (args : Array Value) (w1 : World), (callFunc 25 args).run Try.prog w1 = .ok (.enter 25 args) w1 := enters_of Try.func25 (by kernel_rfl) rfl
  go_enter Try.func28, Try.ntmps28
  go_wp2
  go_loopw [8] (fun i wr => ∃ k : Nat, k ≤ e.length ∧ i = .int .i64 k ∧ Hid (∀ i (hi : i < e.length), i < k → inV e[i] = true) ∧ Below w.heap.size w wr) (fun i _ => e.length - (intOf i).toNat)
  case atStart => exact ⟨0, Nat.zero_le _, rfl, fun _ _ h => absurd h (by omega), Below.refl _ _⟩
  case round =>
    obtain ⟨k, hk, rfl, hA, hb⟩ := hrel
    by_cases hlt : k < e.length
    · obtain ⟨a, hA', hc0⟩ := (hr.below hb).int hlt
      subst hA'
      have HB := Lib.hid hb
      have hi : (0 : Int) ≤ k := by omega
      have hi' : (k : Int) < e.length := by omega
      cases ho : inV e[k]
      · have HG := Lib.hid (allV_bad (List.getElem_mem hlt) ho)
        clear hr hb hA
        generalize e[k] = x at *
        go_wp2_with fail
        refine (endV1_any x _).mono ?_
        rintro r _ ⟨rfl, rfl⟩
        rw [ho]
        go_wp2
        go_ret
        exact ⟨k, rfl, ⟨fun _ => HG.out, fun _ => by omega⟩, HB.out⟩
      · have HA := Lib.hid (allV_step hA.out hlt ho)
        clear hr hb hA
        generalize e[k] = x at *
        go_wp2_with fail
        refine (endV1_any x _).mono ?_
        rintro r _ ⟨rfl, rfl⟩
        rw [ho]
        go_wp2
        go_roundw
        case rel => exact ⟨k + 1, by omega, by go_num, HA.out, HB.out⟩
        case measure => simp [intOf]; omega
    · obtain rfl : k = e.length := by omega
      have HG := Lib.hid (allV_of hA.out)
      clear hA
      go_wp2
      go_ret
      exact ⟨-1, rfl, ⟨fun h => by omega, fun h => by rw [HG.out] at h; cases h⟩, hb⟩
theorem containsV_any (B : Option Addr) (d : Nat) (e : List Int) (w : World) (hr : Row w B (ic e)) (hn : e.length ≤ 100000000) :
    Calls Try.prog 24 #[.slice B e.length d, .func (.func 25) #[] #[]] w fun r w' => r = .returned (.bool (!e.all inV)) ∧ Below w.heap.size w w' := by
  go_enter Try.func24, Try.ntmps24
  go_wp2_with fail
  refine (indexV_any B d e _ hr hn).mono ?_
  rintro r w1 ⟨i, rfl, hr1, hb1⟩
  by_cases h0 : 0 ≤ i
  · have H := Lib.hid (hr1.1 h0)
    have d0 : decide (0 ≤ i) = true := decide_eq_true h0
    clear hr1
    go_wp2
    go_ret
    exact ⟨by rw [H.out]; rfl, hb1⟩
  · have H : Hid (e.all inV = true) := by
      show _ = _
      cases h : e.all inV with
      | true => rfl
      | false => exact absurd (hr1.2 h) h0
    have d0 : decide (0 ≤ i) = false := decide_eq_false h0
    clear hr1
    go_wp2
    go_ret
    exact ⟨by rw [H.out]; rfl, hb1⟩
/-- What endVectorOf hands back. -/
def VecIs (A : Option Addr) (c : Nat) (C : Option Addr) (b : Nat) (js : List J) (en : List Int) (w : World) (e : Ending) (w' : World) : Prop := Below w.heap.size w w' ∧
  (plainL js = true ∧ vecB js.length en = true ∧ e = .returned (.tuple #[.agg #[.slice A js.length c, .slice C en.length b], .bool true]) ∨
   (plainL js && vecB js.length en) = false ∧ e = .returned (.tuple #[.agg #[.slice none 0 0, .slice none 0 0], .bool false]))
set_option maxRecDepth 100000 in
set_option maxHeartbeats 2000000 in
theorem endVectorOf_any (A C : Option Addr) (c b : Nat) (js : List J) (en : List Int) (w : World) (hr : Row w A (jc js)) (he : Row w C (ic en)) (hn : js.length ≤ 10000000) (_hm : en.length ≤ 10000000) :
    Calls Try.prog 18 #[.slice A js.length c, .slice C en.length b] w (VecIs A c C b js en w) := by
  have HV : Hid (vecB js.length en = (decide (en.length = js.length) && en.all inV)) := rfl
  have hb0 := (Below.refl w.heap.size w).alloc (Nat.le_refl _) (.cells #[.slice none 0 0, .slice none 0 0] 44)
  have HB0 := Lib.hid (And.intro hb0 (BlockIs.new w 44 #[.slice none 0 0, .slice none 0 0]))
  have HP := Lib.hid (plainListOf_any A c js _ (hr.below hb0) (by omega))
  have HE := Lib.hid he
  clear hr he hb0
  go_enter Try.func18, Try.ntmps18
  go_wp2_with fail
  refine HP.out.mono ?_
  rintro e1 w1 ⟨hb1, hcase⟩
  have HW := Lib.hid (And.intro (HB0.out.1.trans (hb1.mono HB0.out.1.size)) (HB0.out.2.below hb1))
  clear hb1 HP HB0
  have q0 := HW.out.2.cell 0
  have q1 := HW.out.2.cell 1
  simp only [List.getElem?_toArray, List.getElem?_cons_zero, List.getElem?_cons_succ] at q0 q1
  have fz0 := HW.out.2.frozen 0
  have fz1 := HW.out.2.frozen 1
  rcases hcase with ⟨hp, rfl⟩ | ⟨hp, rfl⟩
  · by_cases hel : en.length = js.length
    · have hne : ((en.length : Int) != (js.length : Int)) = false := by rw [hel]; simp
      have HC := Lib.hid (containsV_any C b en w1 (HE.out.below HW.out.1) (by omega))
      have HEL := Lib.hid hel
      cases hv : en.all inV
      · have HN : Hid ((plainL js && vecB js.length en) = false) := by show _ = _; rw [HV.out, hv, Bool.and_false, Bool.and_false]
        rw [hv] at HC
        clear hv hel
        go_wp2_with fail
        refine HC.out.mono ?_
        rintro r w2 ⟨rfl, hb2⟩
        have HW2 := Lib.hid (And.intro (HW.out.1.trans (hb2.mono HW.out.1.size)) (HW.out.2.below hb2))
        clear hb2 HC HW q0 q1 fz0 fz1
        have q0 := HW2.out.2.cell 0
        have q1 := HW2.out.2.cell 1
        simp only [List.getElem?_toArray, List.getElem?_cons_zero, List.getElem?_cons_succ] at q0 q1
        have fz0 := HW2.out.2.frozen 0
        have fz1 := HW2.out.2.frozen 1
        go_wp2
        have hq := (HW2.out.2.set 0 (.slice none 0 0)).set 1 (.slice none 0 0)
        have hbf := (HW2.out.1.setCell (p := ⟨w.heap.size, 0, none⟩) (Nat.le_refl _) (.slice none 0 0)).setCell (p := ⟨w.heap.size, 1, none⟩) (Nat.le_refl _) (.slice none 0 0)
        generalize (w2.setCell ⟨w.heap.size, 0, none⟩ (.slice none 0 0)).setCell ⟨w.heap.size, 1, none⟩ (.slice none 0 0) = W at *
        have r0 := hq.cell 0
        have r1 := hq.cell 1
        simp at r0 r1
        exact bodyPost_ret (v := .tuple #[.agg #[.slice none 0 0, .slice none 0 0], .bool false]) (by simp [results, Try.results18, r0, r1, go_sem]) rfl ⟨hbf, .inr ⟨HN.out, rfl⟩⟩
      · have HN : Hid (vecB js.length en = true) := by show _ = _; rw [HV.out, hv, decide_eq_true hel]; rfl
        rw [hv] at HC
        clear hv hel
        go_wp2_with fail
        refine HC.out.mono ?_
        rintro r w2 ⟨rfl, hb2⟩
        have HW2 := Lib.hid (And.intro (HW.out.1.trans (hb2.mono HW.out.1.size)) (HW.out.2.below hb2))
        clear hb2 HC HW q0 q1 fz0 fz1
        have q0 := HW2.out.2.cell 0
        have q1 := HW2.out.2.cell 1
        simp only [List.getElem?_toArray, List.getElem?_cons_zero, List.getElem?_cons_succ] at q0 q1
        have fz0 := HW2.out.2.frozen 0
        have fz1 := HW2.out.2.frozen 1
        go_wp2
        have hq := (HW2.out.2.set 0 (.slice A js.length c)).set 1 (.slice C en.length b)
        have hbf := (HW2.out.1.setCell (p := ⟨w.heap.size, 0, none⟩) (Nat.le_refl _) (.slice A js.length c)).setCell (p := ⟨w.heap.size, 1, none⟩) (Nat.le_refl _) (.slice C en.length b)
        generalize (w2.setCell ⟨w.heap.size, 0, none⟩ (.slice A js.length c)).setCell ⟨w.heap.size, 1, none⟩ (.slice C en.length b) = W at *
        have r0 := hq.cell 0
        have r1 := hq.cell 1
        simp at r0 r1
        exact bodyPost_ret (v := .tuple #[.agg #[.slice A js.length c, .slice C en.length b], .bool true]) (by simp [results, Try.results18, r0, r1, go_sem]) rfl ⟨hbf, .inl ⟨hp, HN.out, rfl⟩⟩
    · have hne : ((en.length : Int) != (js.length : Int)) = true := by simp; omega
      have HN : Hid ((plainL js && vecB js.length en) = false) := by show _ = _; rw [HV.out, decide_eq_false hel, Bool.false_and, Bool.and_false]
      clear hel
      go_wp2
      have hq := (HW.out.2.set 0 (.slice none 0 0)).set 1 (.slice none 0 0)
      have hbf := (HW.out.1.setCell (p := ⟨w.heap.size, 0, none⟩) (Nat.le_refl _) (.slice none 0 0)).setCell (p := ⟨w.heap.size, 1, none⟩) (Nat.le_refl _) (.slice none 0 0)
      generalize (w1.setCell ⟨w.heap.size, 0, none⟩ (.slice none 0 0)).setCell ⟨w.heap.size, 1, none⟩ (.slice none 0 0) = W at *
      have r0 := hq.cell 0
      have r1 := hq.cell 1
      simp at r0 r1
      exact bodyPost_ret (v := .tuple #[.agg #[.slice none 0 0, .slice none 0 0], .bool false]) (by simp [results, Try.results18, r0, r1, go_sem]) rfl ⟨hbf, .inr ⟨HN.out, rfl⟩⟩
  · have HN : Hid ((plainL js && vecB js.length en) = false) := by show _ = _; rw [hp, Bool.false_and]
    clear hp
    go_wp2
    have hq := (HW.out.2.set 0 (.slice none 0 0)).set 1 (.slice none 0 0)
    have hbf := (HW.out.1.setCell (p := ⟨w.heap.size, 0, none⟩) (Nat.le_refl _) (.slice none 0 0)).setCell (p := ⟨w.heap.size, 1, none⟩) (Nat.le_refl _) (.slice none 0 0)
    generalize (w1.setCell ⟨w.heap.size, 0, none⟩ (.slice none 0 0)).setCell ⟨w.heap.size, 1, none⟩ (.slice none 0 0) = W at *
    have r0 := hq.cell 0
    have r1 := hq.cell 1
    simp at r0 r1
    exact bodyPost_ret (v := .tuple #[.agg #[.slice none 0 0, .slice none 0 0], .bool false]) (by simp [results, Try.results18, r0, r1, go_sem]) rfl ⟨hbf, .inr ⟨HN.out, rfl⟩⟩
def facB (x y : Int) : Bool := (decide (0 ≤ x ∧ x ≤ 9) && decide (0 ≤ y ∧ y ≤ 9)) && !decide (x + y = 0)
def mxS (a b : List Int) (x y : Int) (i : Nat) : Int := x * a.getD i 0 + y * b.getD i 0
def mxOk (a b : List Int) (x y : Int) (i : Nat) : Bool := decide (mxS a b x y i % (x + y) = 0)
def mxTo (a b : List Int) (x y : Int) (k : Nat) : List Int := (List.range k).map fun i => mxS a b x y i / (x + y)
theorem mxTo_succ (a b : List Int) (x y : Int) (k : Nat) : mxTo a b x y (k + 1) = mxTo a b x y k ++ [mxS a b x y k / (x + y)] := by unfold mxTo; rw [List.range_succ, List.map_append]; rfl
theorem mxTo_len (a b : List Int) (x y : Int) (k : Nat) : (mxTo a b x y k).length = k := by unfold mxTo; simp
def mixL (n : Nat) (a b : List Int) (x y : Int) : List Int × Bool := if (List.range n).all (mxOk a b x y) then (mxTo a b x y n, true) else ([], false)
def mixR (js : List J) (a b : List Int) (x y : Int) : List Int × Bool := if ((plainL js && vecB js.length a) && vecB js.length b) && facB x y then mixL js.length a b x y else ([], false)
theorem mix_bad {n k : Nat} {a b : List Int} {x y : Int} (hk : k < n) (h : mxS a b x y k % (x + y) ≠ 0) : mixL n a b x y = ([], false) := by
  unfold mixL
  rw [if_neg]
  intro h1
  have := List.all_eq_true.1 h1 k (List.mem_range.2 hk)
  unfold mxOk at this
  exact h (of_decide_eq_true this)
theorem mix_all {n : Nat} {a b : List Int} {x y : Int} (h : ∀ k, k < n → mxS a b x y k % (x + y) = 0) : mixL n a b x y = (mxTo a b x y n, true) := by
  unfold mixL
  rw [if_pos]
  exact List.all_eq_true.2 fun k hk => by unfold mxOk; exact decide_eq_true (h k (List.mem_range.1 hk))
theorem fac_out {x y : Int} (h : facB x y = true) : 0 ≤ x ∧ x ≤ 9 ∧ 0 ≤ y ∧ y ≤ 9 ∧ x + y ≠ 0 := by
  unfold facB at h
  simp only [Bool.and_eq_true, decide_eq_true_eq, Bool.not_eq_true', decide_eq_false_iff_not] at h
  omega
theorem mxS_bd {n : Nat} {a b : List Int} {x y : Int} (ha : vecB n a = true) (hb : vecB n b = true) (hf : facB x y = true) (i : Nat) : (0 ≤ x * a.getD i 0 ∧ x * a.getD i 0 ≤ 18000) ∧ (0 ≤ y * b.getD i 0 ∧ y * b.getD i 0 ≤ 18000) := by
  obtain ⟨h1, h2, h3, h4, _⟩ := fac_out hf
  have a1 := vec_at ha i
  have b1 := vec_at hb i
  exact ⟨⟨Int.mul_nonneg h1 a1.1, Int.le_trans (Int.mul_le_mul h2 a1.2 a1.1 (by omega)) (by decide)⟩, ⟨Int.mul_nonneg h3 b1.1, Int.le_trans (Int.mul_le_mul h4 b1.2 b1.1 (by omega)) (by decide)⟩⟩
theorem mixR_len (js : List J) (a b : List Int) (x y : Int) : (mixR js a b x y).1.length ≤ 8 := by
  unfold mixR
  split
  · rename_i h
    have hp : plainL js = true := (Bool.and_eq_true_iff.1 (Bool.and_eq_true_iff.1 (Bool.and_eq_true_iff.1 h).1).1).1
    have h8 := (good_out (plain_good hp)).1
    unfold mixL
    split
    · show (mxTo a b x y js.length).length ≤ 8
      rw [mxTo_len]; exact h8
    · exact Nat.zero_le _
  · exact Nat.zero_le _
end Go.Proofs.Ytpoibjmkbljblaa
