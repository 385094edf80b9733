/- AreScenarios: the program's. -/
import Derived.Test.YtjemjdlaoebffaaScA
namespace Go.Proofs.Ytjemjdlaoebffaa
set_option linter.unusedSimpArgs false
set_option linter.unusedVariables false
open Go.RowKit
theorem notIn_any (g : Nat) (A0 : Option Addr) (c0 : Nat) (xss : List (List J)) (B : Option Addr) (d : Nat) (xs : List J) (w : World) (hg : w.cell? ⟨g, 0, none⟩ = some (.slice A0 xss.length c0)) (hne : 0 < xss.length) (hr : RowX jc w A0 xss) (hx : Row w B (jc xs)) (hl : xs.length ≤ 10000000) (hl0 : (xss.getD 0 []).length ≤ 10000000) :
    Calls Try.prog 69 #[.slice B xs.length d, .pointer (some ⟨g, 0, none⟩)] w fun e w' => e = .returned (.bool (!scOk xss xs)) ∧ Below w.heap.size w w' := by
  obtain ⟨ad, B0, d0, rfl, _, hc, _, _⟩ := hr.at_ (k := 0) hne
  rw [show ad.add 0 = ad from rfl] at hc
  have hG0 : xss.getD 0 [] = xss[0] := by simp [List.getD, hne]
  have HSO : Hid ((!scOk xss xs) = !(goodL xs && decide (xs.length = xss[0].length))) := by show _ = _; unfold scOk; rw [hG0]
  rw [hG0] at hl0
  have hz1 : (0 : Int) < xss.length := by omega
  have hnil : ¬ xss = [] := fun h => by rw [h] at hne; simp at hne
  have HJ := Lib.hid (IsJobs_any B d xs w hx (by omega))
  clear hr hx hG0
  generalize xss[0].length = L0 at *
  by_cases he : xs.length = L0
  · have heI : ((xs.length : Int) != (L0 : Int)) = false := by rw [he]; simp
    rw [decide_eq_true he, Bool.and_true] at HSO
    clear he
    go_enter Try.func69, Try.ntmps69
    go_wp2_with fail
    refine HJ.out.mono ?_
    rintro e w1 ⟨rfl, hb1⟩
    have HB := Lib.hid hb1
    clear hb1
    cases hgd : goodL xs
    · rw [hgd] at HSO
      go_wp2
      go_ret
      exact ⟨by rw [HSO.out]; rfl, HB.out⟩
    · rw [hgd] at HSO
      go_wp2
      go_ret
      exact ⟨by rw [HSO.out]; rfl, HB.out⟩
  · have heI : ((xs.length : Int) != (L0 : Int)) = true := by simp; omega
    rw [decide_eq_false he, Bool.and_false] at HSO
    clear he HJ
    go_enter Try.func69, Try.ntmps69
    go_wp2
    go_ret
    exact ⟨by rw [HSO.out]; rfl, Below.refl _ _⟩
theorem js_none {α : Type} {l : List α} (p : α → Bool) (h : ∀ i (hi : i < l.length), p l[i] = true) : l.all p = true := by
  rw [List.all_eq_true]
  intro x hx
  obtain ⟨i, hi, rfl⟩ := List.mem_iff_getElem.1 hx
  exact h i hi
set_option maxRecDepth 100000 in
set_option maxHeartbeats 2000000 in
theorem indexJs_any (A : Option Addr) (c : Nat) (xss : List (List J)) (g : Nat) (w : World) (hr : RowX jc w A xss) (hn : xss.length ≤ 10000000 ∧ (lensX xss).sum ≤ 10000000) (hg : w.cell? ⟨g, 0, none⟩ = some (.slice A xss.length c)) (hgl : g < w.heap.size) :
    Calls Try.prog 99 #[.slice A xss.length c, .func (.func 69) #[] #[.pointer (some ⟨g, 0, none⟩)]] w fun e w' => (∃ r : Int, e = .returned (.int .i64 r) ∧ (0 ≤ r ↔ xss.all (scOk xss) = false)) ∧ Below w.heap.size w w' := by
  have HR := Lib.hid hr
  have HG := Lib.hid (And.intro hg hgl)
  have HLE := Lib.hid (fun k hk => @lens_leS xss hn.2 k hk)
  clear hr hg hgl
  go_enter Try.func99, Try.ntmps99
  go_wp2
  go_loopw [8] (fun i wr => ∃ k : Nat, k ≤ xss.length ∧ i = .int .i64 k ∧ Hid (∀ i, i < k → ∀ hi : i < xss.length, scOk xss xss[i] = true) ∧ Hid (Below w.heap.size w wr)) (fun i _ => xss.length - (intOf i).toNat)
  case atStart => exact ⟨0, Nat.zero_le _, rfl, fun _ h => absurd h (by omega), Below.refl _ _⟩
  case round =>
    obtain ⟨k, hk, rfl, hA, hb⟩ := hrel
    by_cases hlt : k < xss.length
    · obtain ⟨a, B, d, hA', _, hc, hrow, _⟩ := (HR.out.below hb.out).at_ hlt
      subst hA'
      have hi : (0 : Int) ≤ k := by omega
      have hi' : (k : Int) < xss.length := by omega
      have HST := Lib.hid (fun (h : scOk xss xss[k] = true) => upto_stepS (P := fun i => ∀ hi : i < xss.length, scOk xss xss[i] = true) hA.out (fun _ => h))
      have HAB : Hid (scOk xss xss[k] = false → xss.all (scOk xss) = false) := fun h => by
        rw [List.all_eq_false]
        exact ⟨_, List.getElem_mem hlt, by rw [h]; exact Bool.false_ne_true⟩
      have hl0 : (xss.getD 0 []).length ≤ 10000000 := by
        rw [show xss.getD 0 [] = xss[0] by simp [List.getD, show 0 < xss.length by omega]]
        exact HLE.out 0 (by omega)
      have hC := notIn_any g (some a) c xss B d xss[k] wr ((hb.out.cell (p := ⟨g, 0, none⟩) HG.out.2).trans HG.out.1) (by omega) (HR.out.below hb.out) hrow (HLE.out k hlt) hl0
      clear hA hl0 hrow HLE
      generalize hxs : xss[k] = s at *
      cases ho : scOk xss s
      · have HGo := Lib.hid (HAB.out ho)
        rw [ho] at hC
        have HC := Lib.hid hC
        clear ho hC hxs
        go_wp2_with fail
        refine HC.out.mono ?_
        rintro e w2 ⟨rfl, hb2⟩
        have HB2 := Lib.hid (hb.out.trans (hb2.mono hb.out.size))
        clear hb2
        go_wp2
        go_ret
        exact ⟨⟨k, rfl, fun _ => HGo.out, fun _ => by omega⟩, HB2.out⟩
      · have HA := Lib.hid (HST.out ho)
        rw [ho] at hC
        have HC := Lib.hid hC
        clear ho hC hxs
        go_wp2_with fail
        refine HC.out.mono ?_
        rintro e w2 ⟨rfl, hb2⟩
        have HB2 := Lib.hid (hb.out.trans (hb2.mono hb.out.size))
        clear hb2
        go_wp2
        go_roundw
        case rel => exact ⟨k + 1, by omega, by go_num, HA.out, HB2.out⟩
        case measure => simp [intOf]; omega
    · obtain rfl : k = xss.length := by omega
      have HGo := Lib.hid (js_none (scOk xss) (fun i hi => hA.out i hi hi))
      clear hA
      go_wp2
      go_ret
      exact ⟨⟨-1, rfl, fun h => by omega, fun h => by rw [HGo.out] at h; cases h⟩, hb.out⟩
theorem containsJs_any (A : Option Addr) (c : Nat) (xss : List (List J)) (g : Nat) (w : World) (hr : RowX jc w A xss) (hn : xss.length ≤ 10000000 ∧ (lensX xss).sum ≤ 10000000) (hg : w.cell? ⟨g, 0, none⟩ = some (.slice A xss.length c)) (hgl : g < w.heap.size) :
    Calls Try.prog 68 #[.slice A xss.length c, .func (.func 69) #[] #[.pointer (some ⟨g, 0, none⟩)]] w fun e w' => e = .returned (.bool (!xss.all (scOk xss))) ∧ Below w.heap.size w w' := by
  have HI := Lib.hid (indexJs_any A c xss g w hr hn hg hgl)
  clear hr hg
  go_enter Try.func68, Try.ntmps68
  go_wp2_with fail
  refine HI.out.mono ?_
  rintro e w1 ⟨⟨r, rfl, hr1⟩, hb⟩
  have H : Hid (decide (0 ≤ r) = !xss.all (scOk xss)) := by
    show _ = _
    by_cases h0 : 0 ≤ r
    · rw [decide_eq_true h0, hr1.1 h0]; rfl
    · rw [decide_eq_false h0]
      cases hc : xss.all (scOk xss) with
      | true => rfl
      | false => exact absurd (hr1.2 hc) h0
  have HB := Lib.hid hb
  clear hr1 hb
  go_wp2
  go_ret
  exact ⟨by rw [← H.out]; rfl, HB.out⟩
set_option maxRecDepth 100000 in
set_option maxHeartbeats 2000000 in
theorem impl_AreScenarios (A : Option Addr) (c : Nat) (xss : List (List J)) (w : World) (hr : RowX jc w A xss) (hn : xss.length ≤ 10000000 ∧ (lensX xss).sum ≤ 10000000) :
    Calls Try.prog 36 #[.slice A xss.length c] w fun e w' => e = .returned (.bool (scB xss)) ∧ Below w.heap.size w w' := by
  have hb0 := (Below.refl w.heap.size w).alloc (Nat.le_refl _) (.cells #[.slice A xss.length c] 59)
  have hx := BlockIs.new w 59 #[.slice A xss.length c]
  have d0 := hx.cell 0
  simp only [List.getElem?_toArray, List.getElem?_cons_zero] at d0
  have HC := Lib.hid (containsJs_any A c xss w.heap.size _ (hr.below hb0) hn d0 (by simp))
  have HS : Hid (scB xss = (decide (1 ≤ xss.length ∧ xss.length ≤ 4) && xss.all (scOk xss))) := rfl
  have HB := Lib.hid hb0
  clear hb0 hx hr
  by_cases h0 : xss.length = 0
  · have HV : Hid (scB xss = false) := by show _ = _; rw [HS.out, decide_eq_false (show ¬ (1 ≤ xss.length ∧ xss.length ≤ 4) by omega), Bool.false_and]
    have h0I : ((xss.length : Int) == 0) = true := by rw [h0]; rfl
    clear h0 HS HC
    go_enter Try.func36, Try.ntmps36
    go_wp2
    go_ret
    exact ⟨by rw [HV.out]; rfl, HB.out⟩
  · have h0I : ((xss.length : Int) == 0) = false := beq_eq_false_iff_ne.2 (by omega)
    have hnil : ¬ xss = [] := fun h => h0 (by rw [h]; rfl)
    by_cases h4 : (4 : Int) < xss.length
    · have HV : Hid (scB xss = false) := by show _ = _; rw [HS.out, decide_eq_false (show ¬ (1 ≤ xss.length ∧ xss.length ≤ 4) by omega), Bool.false_and]
      clear h0 HS HC
      go_enter Try.func36, Try.ntmps36
      go_wp2
      go_ret
      exact ⟨by rw [HV.out]; rfl, HB.out⟩
    · have HV : Hid (scB xss = xss.all (scOk xss)) := by show _ = _; rw [HS.out, decide_eq_true (show 1 ≤ xss.length ∧ xss.length ≤ 4 by omega), Bool.true_and]
      clear h0 HS
      go_enter Try.func36, Try.ntmps36
      go_wp2_with fail
      refine HC.out.mono ?_
      rintro e w1 ⟨rfl, hb1⟩
      have HBF := Lib.hid (HB.out.trans (hb1.mono HB.out.size))
      clear hb1
      generalize xss.all (scOk xss) = bb at *
      cases bb
      · go_wp2
        go_ret
        exact ⟨by rw [HV.out]; rfl, HBF.out⟩
      · go_wp2
        go_ret
        exact ⟨by rw [HV.out]; rfl, HBF.out⟩
end Go.Proofs.Ytjemjdlaoebffaa
