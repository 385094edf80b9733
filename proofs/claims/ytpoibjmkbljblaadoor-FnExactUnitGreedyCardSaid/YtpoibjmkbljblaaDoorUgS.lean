/- UnitGreedy: the model's. -/
import Derived.Test.YtpoibjmkbljblaaDoorUgP
import Derived.Test.YtpoibjmkbljblaaDoorUrS
import Derived.Test.YtpoibjmkbljblaaDoorSegH
namespace Go.Proofs.YtpoibjmkbljblaaDoor
set_option linter.unusedSimpArgs false
set_option linter.unusedVariables false
set_option linter.unusedSectionVars false
open Go.RowKit
theorem ret_ownG {w w' : World} {r : List Int × Bool} {p : List Nat} {v : Value} {n : Nat} {b : Bool} (hr : r = (natI p, b)) (hn : p.length = n) (ho : w'.ownsRow w.heap.size 3 1 v n (ic (natI p))) (hb : Below w.heap.size w w') (e : Ending) (he : e = .returned (.tuple #[v, .bool b])) : RetIB w r e w' := by
  subst hr hn
  obtain ⟨A, c, rfl, hs⟩ := seg_out ho
  subst he
  refine ⟨A, c, by rw [List.length_map], ?_, hb⟩
  rw [List.length_map]
  exact hs
theorem tkL_fold (js : List J) (l : List Nat) : tkL js l = l.foldl (tkS js) 0 := by unfold tkL tkGo; rw [List.take_length]
theorem tkL_snoc (js : List J) (l : List Nat) (x : Nat) : tkL js (l ++ [x]) = tkS js (tkL js l) x := by rw [tkL_fold, tkL_fold, List.foldl_append]; rfl
theorem tkL_ok {js : List J} {l : List Nat} {n : Nat} (hn : n ≤ 8) (hl : ∀ x ∈ l, x < n) : tkL js l < 256 ∧ ∀ i, (tkL js l).testBit i = true → i < n := tkGo_ok hn hl _ (Nat.le_refl _)
/-- The jobs looked at, within a weight. -/
def wIn (rk : Nat → Int) (n k i : Nat) : List Nat := wGo rk n k ++ (List.range i).filter fun j => decide (rk j = 50 - (k : Int))
theorem wIn_zero (rk : Nat → Int) (n k : Nat) : wIn rk n k 0 = wGo rk n k := by unfold wIn; simp
theorem wIn_all (rk : Nat → Int) (n k : Nat) : wIn rk n k n = wGo rk n (k + 1) := rfl
theorem wIn_yes {rk : Nat → Int} {n k i : Nat} (h : rk i = 50 - (k : Int)) : wIn rk n k (i + 1) = wIn rk n k i ++ [i] := by
  unfold wIn; rw [List.range_succ, List.filter_append, List.append_assoc]; simp [h]
theorem wIn_no {rk : Nat → Int} {n k i : Nat} (h : rk i ≠ 50 - (k : Int)) : wIn rk n k (i + 1) = wIn rk n k i := by
  unfold wIn; rw [List.range_succ, List.filter_append]; simp [h]
theorem wIn_in {rk : Nat → Int} {n k i : Nat} (hi : i ≤ n) : ∀ x ∈ wIn rk n k i, x < n := fun x hx => by
  unfold wIn at hx
  rcases List.mem_append.1 hx with h | h
  · exact (wGo_mem.1 h).1
  · have := List.mem_range.1 (List.mem_filter.1 h).1; omega
theorem wtF_bd {js : List J} (hok : ∀ j ∈ js, okJ j = true) (i : Nat) : 0 ≤ wtF js i ∧ wtF js i ≤ 50 := by
  unfold wtF
  rcases Nat.lt_or_ge i js.length with h | h
  · rw [getD_at js j0 h]; have := okJ_out (hok _ (List.getElem_mem h)); omega
  · rw [List.getD_eq_getElem?_getD, List.getElem?_eq_none h]; decide
theorem greR_len (js : List J) : (greR js).1.length ≤ 8 := by
  unfold greR
  split
  · show (natI _).length ≤ 8
    unfold natI; rw [List.length_map]; exact memB_len _
  · exact Nat.zero_le _
section
variable (A : Option Addr) (c : Nat) (js : List J) (w : World) (hr : Row w A (jc js)) (hn : js.length ≤ 10000000)
include hr hn
set_option maxRecDepth 100000 in
set_option maxHeartbeats 4000000 in
theorem spec_UnitGreedy : Calls Tryd.prog 33 #[.slice A js.length c] w (RetIB w (greR js)) := by
  have hb0 := (Below.refl w.heap.size w).alloc (Nat.le_refl _) (.cells #[] 3)
  have hown0 : (w.alloc (.cells #[] 3)).ownsRow w.heap.size 3 1 (.slice (some ⟨w.heap.size, 0, none⟩) 0 0) 0 [] := World.ownsRow_made w #[] 0 (Nat.le_refl _) (by unfold maxLen; omega) rfl
  have H0 := Lib.hid (And.intro hown0 hb0)
  have HU := Lib.hid (l10Unit_any A c js (w.alloc (.cells #[] 3)) (hr.below hb0) (by omega))
  cases hp : unitB js && plainL js
  · have HR : Hid (greR js = (natI [], false)) := by show _ = _; unfold greR; rw [hp]; rfl
    rw [hp] at HU
    clear hown0 hb0 hr
    go_enter Tryd.func33, Tryd.ntmps33
    go_wp2_with fail
    refine HU.out.mono ?_
    rintro e w1 ⟨rfl, hb1⟩
    have HX := Lib.hid (And.intro (own_blw H0.out.1 hb1) (H0.out.2.trans (hb1.mono H0.out.2.size)))
    clear hb1 HU H0
    go_wp2
    go_ret2
    exact ret_ownG HR.out rfl HX.out.1 HX.out.2 _ rfl
  · have HR : Hid (greR js = (natI (memB (tkL js (joL (wtF js) (List.range js.length)))), true)) := by show _ = _; unfold greR; rw [hp]; rfl
    have hpl : plainL js = true := (Bool.and_eq_true_iff.1 hp).2
    obtain ⟨h8, hok⟩ := good_out (plain_good hpl)
    have h0 := plain_zero hpl
    have HWA := Lib.hid (wGo_all (rk := wtF js) (n := js.length) (fun i _ => wtF_bd hok i))
    have HTI := Lib.hid (fun (s : Nat) (hs : s < 256) (hlt : ∀ k, s.testBit k = true → k < js.length) (X : Option Addr) (cx : Nat) (W : World) (hb : Below w.heap.size w W) (hx : Row W X (ic (natI (memB s)))) => by
      have h := l6Timely_any A X c cx js (memB s) W (hr.below hb) hx (fun x hx => hlt x ((memB_mem hs).1 hx)) (memB_len s) (fun j hj => by have := okJ_out (hok j hj); omega)
      rw [timly_lat hok h0 (memB s) (fun x hx => hlt x ((memB_mem hs).1 hx))] at h
      exact (show Calls Tryd.prog 73 #[.slice A js.length c, .slice X (memB s).length cx] W fun e w' => e = .returned (.bool (timB js s)) ∧ Below W.heap.size W w' from h))
    have HBD := Lib.hid (fun i => wtF_bd hok i)
    have HWT : Hid (∀ i (h : i < js.length), js[i].w = wtF js i) := fun i h => by unfold wtF; rw [getD_at js j0 h]
    have HROW := Lib.hid hr
    rw [hp] at HU
    rw [← HWA.out] at HR
    clear hown0 hb0 hr hp hpl h0 hok HWA
    generalize wtF js = rk at *
    go_enter Tryd.func33, Tryd.ntmps33
    go_wp2_with fail
    refine HU.out.mono ?_
    rintro e w1 ⟨rfl, hb1⟩
    have H1 := Lib.hid (And.intro (own_blw H0.out.1 hb1) (H0.out.2.trans (hb1.mono H0.out.2.size)))
    clear hb1 HU H0
    go_wp2
    go_loopw [4, 5] (fun v wv wr => ∃ (k : Nat) (ad : Addr) (cc : Nat), k ≤ 51 ∧ v = .slice (some ad) (memB (tkL js (wGo rk js.length k))).length cc ∧ wv = .int .i64 (50 - (k : Int)) ∧ Hid (wr.ownsRow w.heap.size 3 1 (.slice (some ad) (memB (tkL js (wGo rk js.length k))).length cc) (memB (tkL js (wGo rk js.length k))).length (ic (natI (memB (tkL js (wGo rk js.length k))))) ∧ Below w.heap.size w wr)) (fun _ wv _ => (intOf wv + 1).toNat)
    case atStart =>
      have hz : memB (tkL js (wGo rk js.length 0)) = [] := memB_zero
      refine ⟨0, ⟨w.heap.size, 0, none⟩, 0, by omega, ?_, rfl, ?_⟩
      · rw [hz]; rfl
      · rw [hz]; exact H1
    case round =>
      obtain ⟨k, ad, cc, hk, rfl, rfl, HO⟩ := hrel
      clear H1
      by_cases hkl : k < 51
      · have hw0 : (0 : Int) ≤ 50 - (k : Int) := by omega
        have hd0 : decide ((0 : Int) ≤ 50 - (k : Int)) = true := decide_eq_true hw0
        have HZ := Lib.hid (wIn_zero rk js.length k)
        have HAL := Lib.hid (wIn_all rk js.length k)
        rw [← HZ.out] at HO
        rw [← HZ.out]
        obtain ⟨wt, hwt⟩ : ∃ wt : Int, wt = 50 - (k : Int) := ⟨_, rfl⟩
        rw [← hwt] at hw0 hd0 ⊢
        have HWV := Lib.hid hwt
        clear hwt HZ
        obtain ⟨wo, hwo⟩ : ∃ x, x = wr := ⟨wr, rfl⟩
        subst hwo
        go_wp2
        go_loopw [4, 6] (fun v iv wi => ∃ (i : Nat) (ad : Addr) (cc : Nat), i ≤ js.length ∧ v = .slice (some ad) (memB (tkL js (wIn rk js.length k i))).length cc ∧ iv = .int .i64 (i : Int) ∧ Hid (wi.ownsRow w.heap.size 3 1 (.slice (some ad) (memB (tkL js (wIn rk js.length k i))).length cc) (memB (tkL js (wIn rk js.length k i))).length (ic (natI (memB (tkL js (wIn rk js.length k i))))) ∧ Below w.heap.size w wi)) (fun _ iv _ => js.length - (intOf iv).toNat)
        case atStart => exact ⟨0, ad, cc, Nat.zero_le _, rfl, rfl, HO⟩
        case round =>
          obtain ⟨i, ad, cc, hi, rfl, rfl, HI⟩ := hrel
          clear HO
          by_cases hil : i < js.length
          · have hi0 : (0 : Int) ≤ i := by omega
            have hi1 : (i : Int) < js.length := by omega
            obtain ⟨aj, rfl, _, c0, c1, c2, c3⟩ := (HROW.out.below HI.out.2).job hil
            rw [HWT.out i hil] at c1
            have hrk := HBD.out i
            clear c0 c2 c3
            by_cases heq : rk i = wt
            · have HY := Lib.hid (wIn_yes (rk := rk) (n := js.length) (k := k) (i := i) (heq.trans HWV.out))
              have hne : (rk i != wt) = false := by rw [heq]; simp
              obtain ⟨hs, hbt⟩ := tkL_ok (js := js) h8 (wIn_in (rk := rk) (k := k) hi)
              have HTN := Lib.hid (tkL_snoc js (wIn rk js.length k i) i)
              rw [← HY.out] at HTN
              clear heq HY
              generalize tkL js (wIn rk js.length k i) = s at *
              generalize rk i = ri at *
              have hP := l1Put_any ad cc w.heap.size (memB s) i wr HI.out.1 (memB_strict s) (by have := memB_len s; omega) HI.out.2.size
              rw [putN_memB s hs i (by omega)] at hP
              have HP := Lib.hid hP
              have ha := addB_lt8 s hs i (by omega)
              have HTA := Lib.hid (HTI.out (addB s i) ha (add_bit hs hil h8 hbt))
              have HSD : Hid (tkS js s i = if timB js (addB s i) then addB s i else s) := rfl
              clear hP hs hbt ha
              generalize addB s i = sx at *
              go_wp2_with fail
              refine HP.out.mono ?_
              rintro e w2 ⟨ad1, c1', rfl, ho1, hb1⟩
              have HO1 := Lib.hid ho1
              have HW1 := Lib.hid (HI.out.2.trans (hb1.mono HI.out.2.size))
              have HOO := Lib.hid (own_blw HI.out.1 hb1)
              have HC := Lib.hid (HTA.out (some ad1) c1' w2 HW1.out (Row.of_own ho1))
              clear ho1 hb1 HP HTA HI
              cases ht : timB js sx
              · rw [ht] at HC HSD
                go_wp2_with fail
                refine HC.out.mono ?_
                rintro e w3 ⟨rfl, hb3⟩
                have HF := Lib.hid (And.intro (own_blw HOO.out hb3) (HW1.out.trans (hb3.mono HW1.out.size)))
                have HS2 := Lib.hid (HTN.out.trans HSD.out)
                clear hb3 HC
                go_wp2
                go_roundw
                case rel => exact ⟨i + 1, ad, cc, by omega, by rw [HS2.out]; rfl, by go_num, by rw [HS2.out]; exact HF⟩
                case measure => simp [intOf]; omega
              · rw [ht] at HC HSD
                go_wp2_with fail
                refine HC.out.mono ?_
                rintro e w3 ⟨rfl, hb3⟩
                have HF := Lib.hid (And.intro (own_blw HO1.out hb3) (HW1.out.trans (hb3.mono HW1.out.size)))
                have HS2 := Lib.hid (HTN.out.trans HSD.out)
                clear hb3 HC
                go_wp2
                go_roundw
                case rel => exact ⟨i + 1, ad1, c1', by omega, by rw [HS2.out]; rfl, by go_num, by rw [HS2.out]; exact HF⟩
                case measure => simp [intOf]; omega
            · have HN := Lib.hid (wIn_no (rk := rk) (n := js.length) (k := k) (i := i) (by rw [← HWV.out]; exact heq))
              have hne : (rk i != wt) = true := by simpa using heq
              clear heq
              generalize rk i = ri at *
              go_wp2
              go_roundw
              case rel => exact ⟨i + 1, ad, cc, by omega, by rw [HN.out], by go_num, by rw [HN.out]; exact HI⟩
              case measure => simp [intOf]; omega
          · obtain rfl : i = js.length := by omega
            rw [HAL.out] at HI ⊢
            have hsub : IntKind.i64.wrap (wt - 1) = 50 - ((k + 1 : Nat) : Int) := by rw [HWV.out]; rw [IntWalk.i64_in _ (by omega)]; omega
            have hmw : 0 ≤ wt ∧ wt ≤ 50 := by have := HWV.out; omega
            have HMW := Lib.hid (And.intro hmw HWV.out)
            clear hmw
            go_wp2
            go_roundw
            case rel => exact ⟨k + 1, ad, cc, by omega, rfl, by rw [show (50 - ((k + 1 : Nat) : Int)) = 50 - ((k : Int) + 1) by omega], HI⟩
            case measure => simp [intOf]; have := HMW.out; omega
      · obtain rfl : k = 51 := by omega
        have hd0 : decide ((0 : Int) ≤ 50 - ((51 : Nat) : Int)) = false := by decide
        go_wp2
        go_ret2
        exact ret_ownG HR.out rfl HO.out.1 HO.out.2 _ rfl
end
end Go.Proofs.YtpoibjmkbljblaaDoor
