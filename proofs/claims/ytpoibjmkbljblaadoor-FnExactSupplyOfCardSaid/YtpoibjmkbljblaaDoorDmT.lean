/- DemandOf and SupplyOf: the model's. -/
import Derived.Test.YtpoibjmkbljblaaDoorDmS
namespace Go.Proofs.YtpoibjmkbljblaaDoor
open Go.RowKit
section
variable (A B C : Option Addr) (c d b : Nat) (js : List J) (en : List Int) (l : List Nat) (w : World) (hr : Row w A (jc js)) (he : Row w C (ic en)) (hq : Row w B (ic (natI l))) (hl : ∀ x ∈ l, x < js.length) (hn : l.length ≤ 8) (hok : ∀ j ∈ js, okJ j = true) (hv : vecB js.length en = true)
include hr he hq hl hn hok hv
set_option maxRecDepth 100000 in
set_option maxHeartbeats 4000000 in
theorem l10Supply_any : Calls Tryd.prog 53 #[.slice A js.length c, .slice C en.length b, .slice B l.length d] w fun e w' => e = .returned (.int .i64 (supL js en l)) ∧ Below w.heap.size w w' := by
  have HBD : Hid (∀ k, k ≤ l.length → 0 ≤ sumF (spF js en) (l.take k) ∧ sumF (spF js en) (l.take k) ≤ 1000000) := fun k hk => by
    have h := sumF_bd (g := spF js en) (m := 100000) (l.take k) (fun x hx => spF_bd hok hv (hl x (List.mem_of_mem_take hx)))
    rw [List.length_take] at h
    omega
  have HST : Hid (∀ k (h : k < l.length), sumF (spF js en) (l.take (k + 1)) = sumF (spF js en) (l.take k) + tmF js l[k] * en.getD l[k] 0) := fun k h => by
    rw [List.take_succ_eq_append_getElem h, sumF_snoc]; rfl
  have HT : Hid (supL js en l = sumF (spF js en) (l.take l.length)) := by show _ = _; rw [List.take_length]; rfl
  have HTB : Hid (∀ k (h : k < l.length), ∃ hx : l[k] < js.length, tmF js l[k] = js[l[k]].t ∧ 0 ≤ tmF js l[k] * en.getD l[k] 0 ∧ tmF js l[k] * en.getD l[k] 0 ≤ 100000) := fun k h => by
    have hx := hl _ (List.getElem_mem h)
    have h2 := spF_bd hok hv hx
    exact ⟨hx, by unfold tmF; rw [getD_at js j0 hx], h2.1, h2.2⟩
  have HR := Lib.hid hr
  have HQ := Lib.hid hq
  have HE := Lib.hid he
  have HEL := Lib.hid (vec_out hv).1
  clear hr hq he hl hok hv
  go_enter Tryd.func53, Tryd.ntmps53
  go_wp2
  go_loopw [7, 8] (fun av iv wr => ∃ k : Nat, k ≤ l.length ∧ iv = .int .i64 (k : Int) ∧ av = .int .i64 (sumF (spF js en) (l.take k)) ∧ Hid (Below w.heap.size w wr)) (fun _ iv _ => l.length - (intOf iv).toNat)
  case atStart => exact ⟨0, Nat.zero_le _, rfl, rfl, Lib.hid (Below.refl _ _)⟩
  case round =>
    obtain ⟨k, hk, rfl, rfl, HB⟩ := hrel
    by_cases hlt : k < l.length
    · have hk0 : (0 : Int) ≤ k := by omega
      have hk1 : (k : Int) < l.length := by omega
      obtain ⟨hx, ht, hs1, hs2⟩ := HTB.out k hlt
      obtain ⟨bd, rfl, hcx⟩ := (HQ.out.below HB.out).nat hlt
      obtain ⟨ad, rfl, hadb, c0, c1, c2, c3⟩ := (HR.out.below HB.out).job hx
      obtain ⟨ed, rfl, hce⟩ := (HE.out.below HB.out).int (k := l[k]) (by rw [HEL.out]; exact hx)
      rw [← getD_at en 0] at hce
      have hbd := HBD.out k hk
      have HS := Lib.hid (HST.out k hlt)
      rw [← ht] at c0
      have hx0 : (0 : Int) ≤ l[k] := by omega
      have hx1 : (l[k] : Int) < js.length := by omega
      have hx2 : (l[k] : Int) < en.length := by rw [HEL.out]; exact hx1
      clear ht c1 c2 c3 HT HBD HST HTB HEL
      generalize en.getD l[k] 0 = ev at *
      generalize tmF js l[k] = t at *
      generalize sumF (spF js en) (l.take k) = s1 at *
      generalize l[k] = x at *
      obtain ⟨q, hq⟩ : ∃ q, q = t * ev := ⟨_, rfl⟩
      rw [← hq] at hs1 hs2 HS
      have hw2 : IntKind.i64.wrap (t * ev) = q := by rw [← hq]; exact IntWalk.i64_in q (by omega)
      have hw3 := IntWalk.i64_in (s1 + q) (by omega)
      clear hq
      go_wp2
      go_quiet (fail)
      go_wp2
      go_roundw
      case rel => exact ⟨k + 1, by omega, by go_num, by rw [HS.out], below_drewN HB.out _⟩
      case measure => simp [intOf]; omega
    · obtain rfl : k = l.length := by omega
      go_wp2
      go_ret
      exact ⟨by rw [HT.out]; rfl, HB.out⟩
end
section
variable (A B : Option Addr) (c d : Nat) (js : List J) (s : List Int) (w : World) (hr : Row w A (jc js)) (hq : Row w B (ic s)) (hn : js.length ≤ 10000000) (hm : s.length ≤ 10000000)
include hr hq hn hm
set_option maxRecDepth 100000 in
theorem spec_DemandOf : Calls Tryd.prog 14 #[.slice A js.length c, .slice B s.length d] w (RetNB w (demR js s)) := by
  have HR : Hid (demR js s = if plainL js && risL js.length s then (demL js (memB (numS s)), true) else (0, false)) := rfl
  cases hp : plainL js
  · rw [hp] at HR
    go_enter Tryd.func14, Tryd.ntmps14
    go_wp2_with fail
    refine (l6Good_any A c js _ hr (by omega)).mono ?_
    rintro e1 w1 ⟨rfl, hb1⟩
    rw [hp]
    go_wp2
    go_ret2
    exact ⟨by rw [HR.out]; rfl, hb1⟩
  · rw [hp] at HR
    cases hs : risL js.length s
    · rw [hs] at HR
      go_enter Tryd.func14, Tryd.ntmps14
      go_wp2_with fail
      refine (l6Good_any A c js _ hr (by omega)).mono ?_
      rintro e1 w1 ⟨rfl, hb1⟩
      rw [hp]
      go_wp2_with fail
      refine (l6Set_any A B c d js s w1 (hq.below hb1) hn hm).mono ?_
      rintro e1 w2 ⟨rfl, m, rfl⟩
      rw [hs]
      have HB := Lib.hid (below_drewN hb1 m)
      clear hb1
      go_wp2
      go_ret2
      exact ⟨by rw [HR.out]; rfl, HB.out⟩
    · rw [hs] at HR
      obtain ⟨h8, hok⟩ := good_out (plain_good hp)
      have hs8 := ris8 hs h8
      have hnm := numS_mem hs8
      have hlm : (memB (numS s)).length = s.length := by
        conv => rhs; rw [← hnm]
        unfold natI; rw [List.length_map]
      have hin : ∀ x ∈ memB (numS s), x < js.length := fun x hx => numS_in hs h8 ((memB_mem (numS_lt hs8)).1 hx)
      have HQ : Hid (∀ w' : World, Below w.heap.size w w' → Calls Tryd.prog 47 #[.slice A js.length c, .slice B s.length d] w' fun e1 w3 => e1 = .returned (.int .i64 (demL js (memB (numS s)))) ∧ Below w'.heap.size w' w3) := fun w' hb => by
        have h := l10Demand_any A B c d js (memB (numS s)) w' (hr.below hb) (by rw [hnm]; exact hq.below hb) hin (memB_len _) hok
        rw [hlm] at h
        exact h
      clear hnm hlm hin hs8 hok
      go_enter Tryd.func14, Tryd.ntmps14
      go_wp2_with fail
      refine (l6Good_any A c js _ hr (by omega)).mono ?_
      rintro e1 w1 ⟨rfl, hb1⟩
      rw [hp]
      go_wp2_with fail
      refine (l6Set_any A B c d js s w1 (hq.below hb1) hn hm).mono ?_
      rintro e1 w2 ⟨rfl, m, rfl⟩
      rw [hs]
      have HB := Lib.hid (below_drewN hb1 m)
      clear hb1
      go_wp2_with fail
      refine (HQ.out _ HB.out).mono ?_
      rintro e1 w3 ⟨rfl, hb3⟩
      have HB3 := Lib.hid (HB.out.trans (hb3.mono HB.out.size))
      clear hb3
      go_wp2
      go_ret2
      exact ⟨by rw [HR.out]; rfl, HB3.out⟩
variable (C : Option Addr) (b : Nat) (en : List Int) (he : Row w C (ic en)) (hel : en.length ≤ 10000000)
include he hel
set_option maxRecDepth 100000 in
theorem spec_SupplyOf : Calls Tryd.prog 20 #[.slice A js.length c, .slice C en.length b, .slice B s.length d] w (RetNB w (supR js en s)) := by
  have HR : Hid (supR js en s = if (plainL js && vecB js.length en) && risL js.length s then (supL js en (memB (numS s)), true) else (0, false)) := rfl
  cases hp : plainL js
  · rw [hp] at HR
    go_enter Tryd.func20, Tryd.ntmps20
    go_wp2_with fail
    refine (l6Good_any A c js _ hr (by omega)).mono ?_
    rintro e1 w1 ⟨rfl, hb1⟩
    rw [hp]
    go_wp2
    go_ret2
    exact ⟨by rw [HR.out]; rfl, hb1⟩
  · rw [hp] at HR
    cases hv : vecB js.length en
    · rw [hv] at HR
      go_enter Tryd.func20, Tryd.ntmps20
      go_wp2_with fail
      refine (l6Good_any A c js _ hr (by omega)).mono ?_
      rintro e1 w1 ⟨rfl, hb1⟩
      rw [hp]
      go_wp2_with fail
      refine (l10Vector_any A C c b js en w1 (he.below hb1) (by omega) (by omega)).mono ?_
      rintro e1 w2 ⟨rfl, hb2⟩
      rw [hv]
      have HB := Lib.hid (hb1.trans (hb2.mono hb1.size))
      clear hb1 hb2
      go_wp2
      go_ret2
      exact ⟨by rw [HR.out]; rfl, HB.out⟩
    · rw [hv] at HR
      cases hs : risL js.length s
      · rw [hs] at HR
        go_enter Tryd.func20, Tryd.ntmps20
        go_wp2_with fail
        refine (l6Good_any A c js _ hr (by omega)).mono ?_
        rintro e1 w1 ⟨rfl, hb1⟩
        rw [hp]
        go_wp2_with fail
        refine (l10Vector_any A C c b js en w1 (he.below hb1) (by omega) (by omega)).mono ?_
        rintro e1 w2 ⟨rfl, hb2⟩
        rw [hv]
        have HB := Lib.hid (hb1.trans (hb2.mono hb1.size))
        clear hb1 hb2
        go_wp2_with fail
        refine (l6Set_any A B c d js s w2 (hq.below HB.out) hn hm).mono ?_
        rintro e1 w3 ⟨rfl, m, rfl⟩
        rw [hs]
        have HB3 := Lib.hid (below_drewN HB.out m)
        clear HB
        go_wp2
        go_ret2
        exact ⟨by rw [HR.out]; rfl, HB3.out⟩
      · rw [hs] at HR
        obtain ⟨h8, hok⟩ := good_out (plain_good hp)
        have hs8 := ris8 hs h8
        have hnm := numS_mem hs8
        have hlm : (memB (numS s)).length = s.length := by
          conv => rhs; rw [← hnm]
          unfold natI; rw [List.length_map]
        have hin : ∀ x ∈ memB (numS s), x < js.length := fun x hx => numS_in hs h8 ((memB_mem (numS_lt hs8)).1 hx)
        have HQ : Hid (∀ w' : World, Below w.heap.size w w' → Calls Tryd.prog 53 #[.slice A js.length c, .slice C en.length b, .slice B s.length d] w' fun e1 w3 => e1 = .returned (.int .i64 (supL js en (memB (numS s)))) ∧ Below w'.heap.size w' w3) := fun w' hb => by
          have h := l10Supply_any A B C c d b js en (memB (numS s)) w' (hr.below hb) (he.below hb) (by rw [hnm]; exact hq.below hb) hin (memB_len _) hok hv
          rw [hlm] at h
          exact h
        clear hnm hlm hin hs8 hok
        go_enter Tryd.func20, Tryd.ntmps20
        go_wp2_with fail
        refine (l6Good_any A c js _ hr (by omega)).mono ?_
        rintro e1 w1 ⟨rfl, hb1⟩
        rw [hp]
        go_wp2_with fail
        refine (l10Vector_any A C c b js en w1 (he.below hb1) (by omega) (by omega)).mono ?_
        rintro e1 w2 ⟨rfl, hb2⟩
        rw [hv]
        have HB := Lib.hid (hb1.trans (hb2.mono hb1.size))
        clear hb1 hb2
        go_wp2_with fail
        refine (l6Set_any A B c d js s w2 (hq.below HB.out) hn hm).mono ?_
        rintro e1 w3 ⟨rfl, m, rfl⟩
        rw [hs]
        have HB3 := Lib.hid (below_drewN HB.out m)
        clear HB
        go_wp2_with fail
        refine (HQ.out _ HB3.out).mono ?_
        rintro e1 w4 ⟨rfl, hb4⟩
        have HB4 := Lib.hid (HB3.out.trans (hb4.mono HB3.out.size))
        clear hb4
        go_wp2
        go_ret2
        exact ⟨by rw [HR.out]; rfl, HB4.out⟩
end
end Go.Proofs.YtpoibjmkbljblaaDoor
