/- Demands and supplies of sets: the model's. -/
import Derived.Test.YtpoibjmkbljblaaDoorDmP
namespace Go.Proofs.YtpoibjmkbljblaaDoor
open Go.RowKit
theorem natI_len (p : List Nat) : (natI p).length = p.length := by unfold natI; rw [List.length_map]
section
variable (A B : Option Addr) (c d : Nat) (js : List J) (l : List Nat) (w : World) (hr : Row w A (jc js)) (hq : Row w B (ic (natI l))) (hl : ∀ x ∈ l, x < js.length) (hn : l.length ≤ 8) (hok : ∀ j ∈ js, okJ j = true)
include hr hq hl hn hok
set_option maxRecDepth 100000 in
set_option maxHeartbeats 4000000 in
theorem l10Demand_any : Calls Tryd.prog 47 #[.slice A js.length c, .slice B l.length d] w fun e w' => e = .returned (.int .i64 (demL js l)) ∧ Below w.heap.size w w' := by
  have HBD : Hid (∀ k, k ≤ l.length → (0 ≤ sumF (tmF js) (l.take k) ∧ sumF (tmF js) (l.take k) ≤ 400) ∧ (0 ≤ sumF (sqF js) (l.take k) ∧ sumF (sqF js) (l.take k) ≤ 20000) ∧ (0 ≤ sumF (tmF js) (l.take k) * sumF (tmF js) (l.take k) ∧ sumF (tmF js) (l.take k) * sumF (tmF js) (l.take k) ≤ 160000)) := fun k hk =>
    dem_bd hok (l.take k) (fun x hx => hl x (List.mem_of_mem_take hx)) (by rw [List.length_take]; omega)
  have HST : Hid (∀ k (h : k < l.length), sumF (tmF js) (l.take (k + 1)) = sumF (tmF js) (l.take k) + tmF js l[k] ∧ sumF (sqF js) (l.take (k + 1)) = sumF (sqF js) (l.take k) + tmF js l[k] * tmF js l[k]) := fun k h => by
    rw [List.take_succ_eq_append_getElem h, sumF_snoc, sumF_snoc]; exact ⟨rfl, rfl⟩
  have HT : Hid (demL js l = (sumF (tmF js) (l.take l.length) * sumF (tmF js) (l.take l.length) + sumF (sqF js) (l.take l.length)) / 2) := by show _ = _; rw [List.take_length]; rfl
  have HR := Lib.hid hr
  have HQ := Lib.hid hq
  have HTB : Hid (∀ k (h : k < l.length), ∃ hx : l[k] < js.length, tmF js l[k] = js[l[k]].t ∧ 1 ≤ tmF js l[k] ∧ tmF js l[k] ≤ 50 ∧ 0 ≤ tmF js l[k] * tmF js l[k] ∧ tmF js l[k] * tmF js l[k] ≤ 2500) := fun k h => by
    have hx := hl _ (List.getElem_mem h)
    have h1 := tmF_bd hok hx
    have h2 := sqF_bd hok hx
    exact ⟨hx, by unfold tmF; rw [getD_at js j0 hx], h1.1, h1.2, h2.1, h2.2⟩
  clear hr hq hl hok
  go_enter Tryd.func47, Tryd.ntmps47
  go_wp2
  go_loopw [5, 6, 7] (fun av bv iv wr => ∃ k : Nat, k ≤ l.length ∧ iv = .int .i64 (k : Int) ∧ av = .int .i64 (sumF (tmF js) (l.take k)) ∧ bv = .int .i64 (sumF (sqF js) (l.take k)) ∧ Hid (Below w.heap.size w wr)) (fun _ _ iv _ => l.length - (intOf iv).toNat)
  case atStart => exact ⟨0, Nat.zero_le _, rfl, rfl, rfl, Lib.hid (Below.refl _ _)⟩
  case round =>
    obtain ⟨k, hk, rfl, rfl, rfl, HB⟩ := hrel
    by_cases hlt : k < l.length
    · have hk0 : (0 : Int) ≤ k := by omega
      have hk1 : (k : Int) < l.length := by omega
      obtain ⟨hx, ht, ht1, ht2, hs1, hs2⟩ := HTB.out k hlt
      obtain ⟨bd, rfl, hcx⟩ := (HQ.out.below HB.out).nat hlt
      obtain ⟨ad, rfl, hadb, c0, c1, c2, c3⟩ := (HR.out.below HB.out).job hx
      have hbd := HBD.out k hk
      have HS := Lib.hid (HST.out k hlt)
      rw [← ht] at c0
      have hx0 : (0 : Int) ≤ l[k] := by omega
      have hx1 : (l[k] : Int) < js.length := by omega
      clear ht c1 c2 c3 HT HBD HST HTB
      generalize tmF js l[k] = t at *
      generalize sumF (tmF js) (l.take k) = s1 at *
      generalize sumF (sqF js) (l.take k) = s2 at *
      generalize l[k] = x at *
      obtain ⟨q, hq⟩ : ∃ q, q = t * t := ⟨_, rfl⟩
      rw [← hq] at hs1 hs2 HS
      have hw1 := IntWalk.i64_in (s1 + t) (by omega)
      have hw2 : IntKind.i64.wrap (t * t) = q := by rw [← hq]; exact IntWalk.i64_in q (by omega)
      have hw3 := IntWalk.i64_in (s2 + q) (by omega)
      clear hq
      go_wp2
      go_quiet (fail)
      go_wp2
      go_roundw
      case rel => exact ⟨k + 1, by omega, by go_num, by rw [HS.out.1], by rw [HS.out.2], below_drewN HB.out _⟩
      case measure => simp [intOf]; omega
    · obtain rfl : k = l.length := by omega
      obtain ⟨h1, h2, h3⟩ := HBD.out l.length (Nat.le_refl _)
      clear HBD HST HTB
      generalize sumF (tmF js) (l.take l.length) = s1 at *
      generalize sumF (sqF js) (l.take l.length) = s2 at *
      obtain ⟨q, hq⟩ : ∃ q, q = s1 * s1 := ⟨_, rfl⟩
      rw [← hq] at h3 HT
      have hw1 : IntKind.i64.wrap (s1 * s1) = q := by rw [← hq]; exact IntWalk.i64_in q (by omega)
      have hw2 := IntWalk.i64_in (q + s2) (by omega)
      have hw3 : IntKind.i64.wrap ((q + s2).tdiv 2) = (q + s2) / 2 := by
        rw [Int.tdiv_eq_ediv_of_nonneg (by omega)]; exact IntWalk.i64_in _ (by omega)
      clear hq
      go_wp2
      go_ret
      exact ⟨by rw [HT.out]; rfl, HB.out⟩
end
theorem l10Vector_any (A B : Option Addr) (c d : Nat) (js : List J) (e : List Int) (w : World) (hq : Row w B (ic e)) (_hn : js.length ≤ 100000000) (hm : e.length ≤ 100000000) :
    Calls Tryd.prog 52 #[.slice A js.length c, .slice B e.length d] w fun r w' => r = .returned (.bool (vecB js.length e)) ∧ Below w.heap.size w w' := by
  have HV : Hid (vecB js.length e = (decide (e.length = js.length) && e.all fun x => decide (0 ≤ x ∧ x ≤ 2000))) := rfl
  have HQ := Lib.hid hq
  clear hq
  go_enter Tryd.func52, Tryd.ntmps52
  go_wp2
  go_loopw [5] (fun iv wr => ∃ k : Nat, k ≤ e.length ∧ iv = .int .i64 (k : Int) ∧ Hid (∀ i (h : i < e.length), i < k → 0 ≤ e[i] ∧ e[i] ≤ 2000) ∧ Hid (Below w.heap.size w wr)) (fun iv _ => e.length - (intOf iv).toNat)
  case atStart => exact ⟨0, Nat.zero_le _, rfl, fun _ _ h => absurd h (by omega), Lib.hid (Below.refl _ _)⟩
  case round =>
    obtain ⟨k, hk, rfl, HA, HB⟩ := hrel
    by_cases hlt : k < e.length
    · have hk0 : (0 : Int) ≤ k := by omega
      have hk1 : (k : Int) < e.length := by omega
      obtain ⟨bd, rfl, hcx⟩ := (HQ.out.below HB.out).int hlt
      have HG : Hid ((0 ≤ e[k] ∧ e[k] ≤ 2000) → ∀ i (h : i < e.length), i < k + 1 → 0 ≤ e[i] ∧ e[i] ≤ 2000) := fun h0 i h hi => by
        by_cases he : i = k
        · subst he; exact h0
        · exact HA.out i h (by omega)
      have HN : Hid (¬ (0 ≤ e[k] ∧ e[k] ≤ 2000) → vecB js.length e = false) := fun h0 => by
        rw [HV.out, Bool.and_eq_false_iff]
        exact .inr (List.all_eq_false.2 ⟨e[k], List.getElem_mem hlt, by simpa using h0⟩)
      generalize e[k] = x at *
      by_cases hx : 0 ≤ x ∧ x ≤ 2000
      · have HG2 := Lib.hid (HG.out hx)
        have hd : inB x 0 2000 = true := by unfold inB; exact decide_eq_true hx
        clear HG HN
        go_wp2_with fail
        refine (l1In_any x 0 2000 _).mono ?_
        rintro r _ ⟨rfl, rfl⟩
        rw [hd]
        go_wp2
        go_roundw
        case rel => exact ⟨k + 1, by omega, by go_num, HG2.out, HB⟩
        case measure => simp [intOf]; omega
      · have HN2 := Lib.hid (HN.out hx)
        have hd : inB x 0 2000 = false := by unfold inB; exact decide_eq_false hx
        clear HG HN
        go_wp2_with fail
        refine (l1In_any x 0 2000 _).mono ?_
        rintro r _ ⟨rfl, rfl⟩
        rw [hd]
        go_wp2
        go_ret
        exact ⟨by rw [HN2.out]; rfl, HB.out⟩
    · obtain rfl : k = e.length := by omega
      have HF : Hid (vecB js.length e = decide (e.length = js.length)) := by
        show _ = _
        rw [HV.out, List.all_eq_true.2 (fun x hx => by
          obtain ⟨i, h, rfl⟩ := List.getElem_of_mem hx
          exact decide_eq_true (HA.out i h h)), Bool.and_true]
      by_cases he : e.length = js.length
      · have hd : decide (e.length = js.length) = true := decide_eq_true he
        have hei : ((e.length : Int) == (js.length : Int)) = true := by rw [he]; simp
        rw [hd] at HF
        have HE := Lib.hid he
        clear he hd
        go_wp2
        go_ret
        exact ⟨by rw [HF.out]; rfl, HB.out⟩
      · have hd : decide (e.length = js.length) = false := decide_eq_false he
        have hei : ((e.length : Int) == (js.length : Int)) = false := by simp; omega
        rw [hd] at HF
        clear hd
        go_wp2
        go_ret
        exact ⟨by rw [HF.out]; rfl, HB.out⟩
end Go.Proofs.YtpoibjmkbljblaaDoor
