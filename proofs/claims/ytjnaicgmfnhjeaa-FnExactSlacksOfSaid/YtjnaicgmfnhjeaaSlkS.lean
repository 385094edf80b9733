/- Slacks: the model's. -/
import Derived.Test.YtjnaicgmfnhjeaaSlkP
import Derived.Test.YtjnaicgmfnhjeaaEndsO
import Derived.Test.YtjnaicgmfnhjeaaPlain
import Derived.Test.YtjnaicgmfnhjeaaOrd
namespace Go.Proofs.Ytjnaicgmfnhjeaa
open Go.RowKit
def slackR (js : List J) (o : List Int) (l : Int) : List Int × Bool := if plainL js && (ordB (js.length : Int) o && inB l 0 500) then (slk (gsL l js (natsOf o)), true) else ([], false)
theorem slackR_len (js : List J) (o : List Int) (l : Int) : (slackR js o l).1.length ≤ 1000 := by
  unfold slackR
  cases h : (plainL js && (ordB (js.length : Int) o && inB l 0 500))
  · simp
  · rw [Bool.and_eq_true, Bool.and_eq_true] at h
    have h1 := (ord_out h.2.1).2.1
    have h2 := (ord_out h.2.1).2.2.1
    simp only [if_true]
    rw [slk_len, gsL_len]
    unfold natsOf
    rw [List.length_map]; omega
theorem l1Least_still (x y m : Int) (h : min x y = m) (w : World) :
    Calls Try.prog 124 #[.int .i64 x, .int .i64 y] w fun e w' => e = .returned (.int .i64 m) ∧ w' = w := by
  by_cases hlt : x < y
  · have hm : x = m := by omega
    subst hm
    clear h
    go_enter Try.func124, Try.ntmps124
    go_wp2
    go_ret
    exact ⟨rfl, rfl⟩
  · have hm : y = m := by omega
    subst hm
    clear h
    go_enter Try.func124, Try.ntmps124
    go_wp2
    go_ret
    exact ⟨rfl, rfl⟩
theorem BlockIs.otherQ {w : World} {g g' : Nat} {t : TypeId} {cs : Array Value} (h : BlockIs w g t cs) (hne : g ≠ g') (i : Nat) (v : Value) : BlockIs (w.setCell ⟨g', i, none⟩ v) g t cs := (Below.heap_setCell _ _ _ _ hne).trans h
section
variable (A B : Option Addr) (c d : Nat) (js : List J) (p : List Nat) (l : Int) (w : World) (hr : Row w A (jc js)) (hq : Row w B (ic (natI p))) (hpl : plainL js = true) (hp : p.Perm (List.range js.length)) (h0 : 0 ≤ l) (h1 : l ≤ 500)
include hr hq hpl hp h0 h1
set_option maxRecDepth 100000 in
set_option maxHeartbeats 2000000 in
theorem spec_SlkYes : Calls Try.prog 47 #[.slice A js.length c, .slice B p.length d, .int .i64 l] w (RetIB w (slk (gsL l js p), true)) := by
  have hg := plain_good hpl
  obtain ⟨h8, hok⟩ := good_out hg
  have hp8 : p.length ≤ 8 := by have hlen : p.length = js.length := by simpa using hp.length_eq
                                omega
  have HORD := Lib.hid (ord_of_perm hp h8)
  have HLO := Lib.hid (l2Order_any (js.length : Int) B d (natI p))
  rw [show (natI p).length = p.length from List.length_map ..] at HLO
  have hib : inB l 0 500 = true := decide_eq_true ⟨h0, h1⟩
  have hmk := run_make_row' (P := Try.prog) 23 3 (.int .i64 0) 8 Try.underlying23 infoI rfl .i64 .i64 p.length (by omega) (by omega)
  have HGB := Lib.hid (gsL_bd hg hp h0 h1)
  have hgl := gsL_len l js p
  have HGA : Hid (∀ k, k < p.length → (gsL l js p).getD k 0 = l + (js.getD p[k]! j0).d - (endsL js p).getD p[k]! 0) := fun k h => by
    rw [getD_at _ 0 (by rw [gsL_len]; exact h), gsL_at l js p k h, getElem!_pos p k h]
  have HEL := Lib.hid (endsL_len js p)
  have HEB := Lib.hid (endsL_bd hg hp)
  go_enter Try.func47, Try.ntmps47
  go_wp2_with fail
  refine (spec_IsPlain A c js _ hr (by omega)).mono ?_
  rintro e w1 ⟨rfl, hb1⟩
  rw [hpl]
  go_wp2_with fail
  refine (HLO.out w1 (hq.below hb1) (by omega)).mono ?_
  rintro e _ ⟨rfl, rfl⟩
  rw [show ordB (js.length : Int) (natI p) = true from HORD.out]
  go_wp2_with fail
  refine (l1In_any _ _ _ _).mono ?_
  rintro e _ ⟨rfl, rfl⟩
  rw [hib]
  have hba := hb1.alloc hb1.size (.cells (madeCells #[Value.int IntKind.i64 0] p.length) 3)
  have hBO := BlockIs.new w1 3 (madeCells #[Value.int IntKind.i64 0] p.length)
  have HEN := Lib.hid (l2Ends_any A B c d js p _ (hr.below hba) (hq.below hba) hg hp)
  obtain ⟨gO, hgO⟩ : ∃ gO, gO = w1.heap.size := ⟨_, rfl⟩
  have hgO2 : w.heap.size ≤ gO := by rw [hgO]; exact hb1.size
  have H1 := Lib.hid (And.intro hba hBO)
  clear hba hBO hb1 HLO
  go_wp2_with fail
  refine HEN.out.mono ?_
  rintro e w2 ⟨gE, rfl, hgE, hBE, hb2⟩
  have H2 : Hid (BlockIs w2 gO 3 (ic (slkTo (gsL l js p) p.length)).toArray ∧ BlockIs w2 gE 3 (ic (endsL js p)).toArray ∧ Below w.heap.size w w2) := by
    refine ⟨?_, hBE, H1.out.1.trans (hb2.mono H1.out.1.size)⟩
    have h := H1.out.2.below hb2
    rw [← hgO] at h
    rw [ic_made] at h
    rw [show slkTo (gsL l js p) p.length = List.replicate p.length 0 by rw [← hgl]; exact slkTo_all _]
    exact h
  have hne : gE ≠ gO := by
    have h := hgE
    simp at h
    omega
  clear hBE hb2 H1 HEN hgE
  generalize hgs : gsL l js p = gs at *
  generalize hes : endsL js p = es at *
  have hs := IntWalk.i64_in ((p.length : Int) - 1) (by omega)
  rw [← hgO]
  clear hgO hgs hes hmk
  go_wp2
  go_loopw [10] (fun iv wr => ∃ (k : Nat) (z : Int), k ≤ p.length ∧ iv = .int .i64 z ∧ z = (k : Int) - 1 ∧ Hid (BlockIs wr gO 3 (ic (slkTo gs k)).toArray ∧ BlockIs wr gE 3 (ic es).toArray ∧ Below w.heap.size w wr)) (fun iv _ => (intOf iv + 1).toNat)
  case atStart => exact ⟨p.length, _, Nat.le_refl _, rfl, rfl, H2⟩
  case round =>
    obtain ⟨k, z, hk, rfl, hz, HK⟩ := hrel
    clear H2 hs
    by_cases hk0 : 0 < k
    · obtain ⟨m, rfl⟩ : ∃ m, k = m + 1 := ⟨k - 1, by omega⟩
      obtain rfl : z = (m : Int) := by omega
      have hm : m < p.length := by omega
      obtain ⟨a, hA', hc⟩ := (hq.below HK.out.2.2).nat hm
      subst hA'
      have hj : p[m] < js.length := perm_lt hp (List.getElem_mem hm)
      obtain ⟨ad, hA, hbl, hc0, hc1, hc2, hc3⟩ := (hr.below HK.out.2.2).job hj
      subst hA
      have hel : p[m] < es.length := by rw [HEL.out]; exact hj
      have hce := HK.out.2.1.int hel
      have heb := HEB.out _ (List.getElem_mem hel)
      have hgm : m < gs.length := by omega
      obtain ⟨old, hck⟩ : ∃ old, wr.cell? ⟨gO, m, none⟩ = some (.int .i64 old) := ⟨_, HK.out.1.int (k := m) (by rw [slkTo_len gs (m + 1) (by omega)]; omega)⟩
      have hfz := HK.out.1.frozen m
      have hG := HGA.out m hm
      rw [getD_at gs 0 hgm, getElem!_pos p m hm, getD_at js j0 hj, getD_at es 0 hel] at hG
      obtain ⟨_, _, _, _, _, _, d0, d1⟩ := okJ_out (hok _ (List.getElem_mem hj))
      have hgb := HGB.out _ (List.getElem_mem hgm)
      rw [hG] at hgb
      have HB2 : Hid (BlockIs (wr.setCell ⟨gO, m, none⟩ (.int .i64 (l + js[p[m]].d - es[p[m]]))).drew gO 3 (ic ((slkTo gs (m + 1)).set m gs[m])).toArray ∧ BlockIs (wr.setCell ⟨gO, m, none⟩ (.int .i64 (l + js[p[m]].d - es[p[m]]))).drew gE 3 (ic es).toArray ∧ Below w.heap.size w (wr.setCell ⟨gO, m, none⟩ (.int .i64 (l + js[p[m]].d - es[p[m]]))).drew) := by
        refine ⟨?_, (HK.out.2.1.otherQ hne m (.int .i64 (l + js[p[m]].d - es[p[m]]))).drew, (HK.out.2.2.setCell (p := ⟨gO, m, none⟩) hgO2 _).drew⟩
        have h := (HK.out.1.set m (.int .i64 gs[m])).drew
        rw [ic_set] at h
        rw [← hG]; exact h
      have hpm0 : (0 : Int) ≤ p[m] := by omega
      have hpm1 : (p[m] : Int) < js.length := by omega
      have hm0 : (0 : Int) ≤ m := by omega
      have hm1 : (m : Int) < p.length := by omega
      clear hG HK hr hq hok HEL HEB HGB HGA hz
      generalize js[p[m]] = j at *
      generalize es[p[m]] = en at *
      clear hj hel
      generalize p[m] = pm at *
      go_wp2
      go_still_tail 21, (by kernel_rfl)
      change wpList _ _ _ _ _ wr.drew
      by_cases hlt : m + 1 < p.length
      · have hm2 : ((m : Int) + 1) < p.length := by omega
        have hwm := IntWalk.i64_in ((m : Int) + 1) (by omega)
        have hm3 : (0 : Int) ≤ (m : Int) + 1 := by omega
        have hm4 : ((m : Int) + 1).toNat = m + 1 := by omega
        have hdm : decide ((m + 1 : Nat) < p.length) = true := decide_eq_true hlt
        go_wp2
        generalize (wr.setCell ⟨gO, m, none⟩ (Value.int .i64 (l + j.d - en))).drew = w3 at *
        clear hc hc0 hc1 hc2 hc3 hck hfz hbl hce
        have HL : Hid ((slkTo gs (m + 1)).length = gs.length) := slkTo_len gs (m + 1) (by omega)
        have hck := HB2.out.1.int (k := m) (by rw [List.length_set, HL.out]; omega)
        have hcn := HB2.out.1.int (k := m + 1) (by rw [List.length_set, HL.out]; omega)
        have hfz := HB2.out.1.frozen m
        rw [List.getElem_set_self] at hck
        rw [List.getElem_set_ne (by omega)] at hcn
        have HS := slkTo_step gs m (by omega)
        obtain ⟨mn, hmn⟩ : ∃ mn, mn = min gs[m] ((slkTo gs (m + 1))[m + 1]'(by rw [HL.out]; omega)) := ⟨_, rfl⟩
        rw [← hmn] at HS
        have HB3 : Hid (BlockIs (w3.setCell ⟨gO, m, none⟩ (.int .i64 mn)).drew gO 3 (ic (slkTo gs m)).toArray ∧ BlockIs (w3.setCell ⟨gO, m, none⟩ (.int .i64 mn)).drew gE 3 (ic es).toArray ∧ Below w.heap.size w (w3.setCell ⟨gO, m, none⟩ (.int .i64 mn)).drew) := by
          refine ⟨?_, (HB2.out.2.1.otherQ hne m (.int .i64 mn)).drew, (HB2.out.2.2.setCell (p := ⟨gO, m, none⟩) hgO2 _).drew⟩
          have h := (HB2.out.1.set m (.int .i64 mn)).drew
          rw [ic_set, set_set', HS] at h
          exact h
        have HM := Lib.hid hmn.symm
        clear hmn HS HB2
        generalize gs[m] = x at *
        generalize (slkTo gs (m + 1))[m + 1]'(by rw [HL.out]; omega) = y at *
        clear HL
        go_wp2
        go_still_tail 13, (by kernel_rfl)
        still_call (l1Least_still _ _ _ HM.out _)
        repeat still_step
        refine wpStill_nil ?_
        change wpList _ _ _ _ _ w3.drew
        go_wp2
        go_roundw
        case rel => exact ⟨m, _, by omega, by go_num, by omega, HB3⟩
        case measure => simp [intOf]
      · have hdm : decide ((m + 1 : Nat) < p.length) = false := decide_eq_false hlt
        have hm2 : ¬ ((m : Int) + 1) < p.length := by omega
        have HS := slkTo_last gs m (by omega)
        rw [HS] at HB2
        go_wp2
        go_roundw
        case rel => exact ⟨m, _, by omega, by go_num, by omega, HB2⟩
        case measure => simp [intOf]
    · obtain rfl : k = 0 := by omega
      have hz0 : ¬ (0 ≤ z) := by omega
      have hB := HK.out.1
      rw [slkTo_zero] at hB
      have hsl : (slk gs).length = p.length := by rw [slk_len]; omega
      have HF := Lib.hid (And.intro hB HK.out.2.2)
      clear hB HK
      go_wp2
      go_ret2
      exact ret_block rfl hgO2 HF.out.1 (by omega) HF.out.2 _ (by rw [hsl]; rfl)
end
end Go.Proofs.Ytjnaicgmfnhjeaa
