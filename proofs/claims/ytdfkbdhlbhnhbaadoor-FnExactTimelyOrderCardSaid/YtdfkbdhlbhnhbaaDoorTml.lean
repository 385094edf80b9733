/- A set is timely: the model's. -/
import Derived.Test.YtdfkbdhlbhnhbaaDoorTmp
import Derived.Test.YtdfkbdhlbhnhbaaDoorDud
namespace Go.Proofs.YtdfkbdhlbhnhbaaDoor
open Go.RowKit
theorem gonTo_bd {js : List J} {p : List Nat} (ht : ∀ j ∈ js, 0 ≤ j.t ∧ j.t ≤ 50) : ∀ k, 0 ≤ gonTo js p k ∧ gonTo js p k ≤ 50 * (k : Int)
  | 0 => by unfold gonTo; omega
  | k + 1 => by
    have h1 := gonTo_bd (p := p) ht k
    have h2 : 0 ≤ (js.getD (p.getD k 0) j0).t ∧ (js.getD (p.getD k 0) j0).t ≤ 50 := by
      by_cases hx : p.getD k 0 < js.length
      · rw [getD_at js j0 hx]; exact ht _ (List.getElem_mem hx)
      · rw [List.getD_eq_getElem?_getD, List.getElem?_eq_none (by omega)]; simp [j0]
    show 0 ≤ gonTo js p k + _ ∧ gonTo js p k + _ ≤ _
    omega
section
variable (A B : Option Addr) (c d : Nat) (js : List J) (l : List Nat) (w : World) (hr : Row w A (jc js)) (hq : Row w B (ic (natI l))) (hl : ∀ x ∈ l, x < js.length) (hn : l.length ≤ 8) (ht : ∀ j ∈ js, 0 ≤ j.t ∧ j.t ≤ 50)
include hr hq hl hn ht
set_option maxRecDepth 100000 in
set_option maxHeartbeats 4000000 in
theorem l6Timely_any : Calls Tryd.prog 16 #[.slice A js.length c, .slice B l.length d] w fun e w' => e = .returned (.bool (timlyB js (dueL js l))) ∧ Below w.heap.size w w' := by
  have hpm : ∀ x ∈ dueL js l, x < js.length := fun x hx => hl x ((dueL_perm js l).mem_iff.1 hx)
  have hpl : (dueL js l).length = l.length := dueL_len _ _
  have HC := Lib.hid (l6Due_any A B c d js l w hr hq hl hn)
  rw [← hpl] at HC
  have hp8 : (dueL js l).length ≤ 8 := by omega
  have hld : l.length = (dueL js l).length := hpl.symm
  have HR := Lib.hid hr
  clear hr hq hl hn hpl
  generalize dueL js l = p at *
  rw [hld]
  clear hld
  have HT : Hid (timlyB js p = decide (∀ k, k < p.length → gonTo js p (k + 1) ≤ (js.getD (p.getD k 0) j0).d)) := rfl
  go_enter Tryd.func16, Tryd.ntmps16
  go_wp2_with fail
  refine HC.out.mono ?_
  rintro e w2 ⟨v, rfl, hown, hb2⟩
  obtain ⟨B2, d2, rfl, _, hrow⟩ := own_slice hown
  have HB2 := Lib.hid hb2
  have HO2 := Lib.hid hrow
  clear hown hrow hb2 HC
  go_wp2
  go_loopw [6, 7] (fun nv iv wr => ∃ k : Nat, k ≤ p.length ∧ iv = .int .i64 (k : Int) ∧ nv = .int .i64 (gonTo js p k) ∧ (∀ i, i < k → gonTo js p (i + 1) ≤ (js.getD (p.getD i 0) j0).d) ∧ Hid (Below w2.heap.size w2 wr)) (fun _ iv _ => p.length - (intOf iv).toNat)
  case atStart => exact ⟨0, Nat.zero_le _, rfl, rfl, fun i hi => absurd hi (by omega), Lib.hid (Below.refl _ _)⟩
  case round =>
    obtain ⟨k, hk, rfl, rfl, hall, HB⟩ := hrel
    by_cases hlt : k < p.length
    · have hk0 : (0 : Int) ≤ k := by omega
      have hk1 : (k : Int) < p.length := by omega
      have hxl := hpm _ (List.getElem_mem hlt)
      obtain ⟨bd, hBe, hcx⟩ := (HO2.out.below HB.out).nat hlt
      subst hBe
      have hbw := HB2.out.trans (HB.out.mono HB2.out.size)
      obtain ⟨ad, hA, hadb, c0, c1, c2, c3⟩ := (HR.out.below hbw).job hxl
      subst hA
      have n1 := gonTo_bd (p := p) ht k
      have hjt := ht _ (List.getElem_mem hxl)
      have HN : Hid (gonTo js p (k + 1) = gonTo js p k + (js[p[k]]'hxl).t) := by
        show _ = _
        show gonTo js p k + _ = _
        rw [getD_at p 0 hlt, getD_at js j0 hxl]
      have HD : Hid ((js.getD (p.getD k 0) j0).d = (js[p[k]]'hxl).d) := by
        show _ = _
        rw [getD_at p 0 hlt, getD_at js j0 hxl]
      have hx0 : (0 : Int) ≤ p[k] := by omega
      have hx1 : (p[k] : Int) < js.length := by omega
      have HBW := Lib.hid hbw
      have HALL := Lib.hid hall
      clear hbw ht hall
      generalize hjx : js[p[k]] = j at *
      clear hjx
      generalize hpk : p[k] = x at *
      clear hpk
      have hin := IntWalk.i64_in (gonTo js p k + j.t) (by omega)
      by_cases hlate : j.d < gonTo js p k + j.t
      · go_wp2
        go_ret
        have hf : timlyB js p = false := by
          rw [HT.out]
          refine decide_eq_false fun h => ?_
          have := h k hlt
          rw [HN.out, HD.out] at this
          omega
        rw [hf]
        exact ⟨rfl, HBW.out⟩
      · go_wp2
        go_roundw
        case rel => exact ⟨k + 1, by omega, by go_num, by rw [HN.out], fun i hi => by
          by_cases hik : i = k
          · subst hik; rw [HN.out, HD.out]; omega
          · exact HALL.out i (by omega), HB⟩
        case measure => simp [intOf]; omega
    · obtain rfl : k = p.length := by omega
      have HBW := Lib.hid (HB2.out.trans (HB.out.mono HB2.out.size))
      go_wp2
      go_ret
      exact ⟨by rw [HT.out, decide_eq_true hall]; rfl, HBW.out⟩
end
end Go.Proofs.YtdfkbdhlbhnhbaaDoor
