/- The model's search of best orders. -/
import Derived.Test.YtgiecjcgidgpfaaTryP
import Derived.Test.YtgiecjcgidgpfaaValI
namespace Go.Proofs.Ytgiecjcgidgpfaa
open Go.RowKit
section
variable {o : Int} (ho : isObj o = true) {js : List J} (hg : goodL js = true) (AJ : Option Addr) (cJ B : Nat)
def TryOut (B : Nat) (w : World) (r : Bst) (e : Ending) (w' : World) : Prop := ∃ s', e = .returned (bestV r s') ∧ BestIs B w' r s' ∧ Below w.heap.size w w'
include ho hg
set_option maxRecDepth 100000 in
set_option maxHeartbeats 4000000 in
theorem l2Try_leaf (b : List Nat) (t : Bst) (s : Value) (Ab : Addr) (cb : Nat) (w : World) (hB : B ≤ w.heap.size) (hl : b.length = js.length) (hp : b.Perm (List.range js.length)) (hr : Row w AJ (jc js)) (hq : Row w (some Ab) (ic (natI b))) (hs : BestIs B w t s) (hC : t.n ≤ 1000000000) :
    Calls Try.prog 158 #[.slice AJ js.length cJ, .slice (some Ab) b.length cb, .int .i64 o, bestV t s] w (TryOut B w (leafB b (partV o js b) t)) := by
  obtain ⟨A, c, rfl, _, _⟩ := own_slice hs
  obtain ⟨h8, _⟩ := good_out hg
  have hbl : (b.length : Int) = js.length := by omega
  have hM0 := BlockIs.new w 107 #[.slice A t.first.length c, .int .i64 t.v, .int .i64 (t.n : Int)]
  have hb0 := (Below.refl w.heap.size w).alloc (Nat.le_refl _) (.cells #[.slice A t.first.length c, .int .i64 t.v, .int .i64 (t.n : Int)] 107)
  generalize hw0 : w.alloc (.cells #[.slice A t.first.length c, .int .i64 t.v, .int .i64 (t.n : Int)] 107) = w0 at *
  have hz0 : w0.heap.size = w.heap.size + 1 := by rw [← hw0]; simp
  have hR0 := BlockIs.new w0 107 #[.slice none 0 0, .int .i64 0, .int .i64 0]
  have hM1 := hM0.below ((Below.refl w0.heap.size w0).alloc (Nat.le_refl _) (.cells #[.slice none 0 0, .int .i64 0, .int .i64 0] 107))
  have hb1 := hb0.alloc (by omega) (.cells #[.slice none 0 0, .int .i64 0, .int .i64 0] 107)
  have hcall := l2Value_any AJ (some Ab) cJ cb js (natI b) o _ (hr.below hb1) (hq.below hb1) (two_nat hg hp) ho
  rw [natI_len, partV_val hp, hl] at hcall
  have HC := Lib.hid hcall
  have HX := Lib.hid (And.intro hR0 (And.intro hM1 hb1))
  clear hcall hR0 hM1 hb1 hM0 hb0
  generalize partV o js b = pv at *
  go_enter Try.func158, Try.ntmps158
  unfold bestV
  go_wp2_with fail
  refine HC.out.mono ?_
  rintro e w1 ⟨rfl, hbx⟩
  obtain ⟨hR0, hM1, hb1⟩ := HX.out
  have hR2 := hR0.below hbx
  have hM2 := hM1.below hbx
  have hb2 := hb1.trans (hbx.mono hb1.size)
  have hs2 := hs.below hb2
  rw [hz0] at hR2
  have hm0 := hM2.cell 0
  have hm1 := hM2.cell 1
  have hm2 := hM2.cell 2
  simp at hm0 hm1 hm2
  have HM := Lib.hid (And.intro hM2 (And.intro hR2 (And.intro hb2 hs2)))
  have hz1 : w.heap.size + 2 ≤ w1.heap.size := by have := hbx.size; simp at this; omega
  clear HC HX hR0 hM1 hb1 hbx hR2 hM2 hb2 hs2
  by_cases hnew : t.n = 0 ∨ pv < t.v
  · have HL : Hid (leafB b pv t = ⟨pv, b, 1⟩) := by
      show _ = _
      unfold leafB; rw [if_pos hnew]
    have hown0 := l1Own_some Ab cb (natI b) w1 (hq.below HM.out.2.2.1) (by rw [natI_len]; omega)
    rw [natI_len, hl] at hown0
    have HO := Lib.hid hown0
    clear hown0
    by_cases h0 : (t.n : Int) = 0
    · go_wp2_with fail
      refine HO.out.mono ?_
      rintro e w2 ⟨ad', c', rfl, hown, hb3⟩
      obtain ⟨hM2, hR2, hb2, hs2⟩ := HM.out
      have hR3 := hR2.below hb3
      have hr0 := hR3.cell 0
      have hr1 := hR3.cell 1
      have hr2 := hR3.cell 2
      have hf0 := hR3.frozen 0
      have hf1 := hR3.frozen 1
      have hf2 := hR3.frozen 2
      simp at hr0 hr1 hr2
      have HE := Lib.hid (And.intro hown (hb2.trans (hb3.mono hb2.size)))
      clear hown hb3 hM2 hR2 hb2 hs2 hR3
      go_wp2
      (try simp only [Exit.inBlock, Exit.then])
      refine bodyPost_ret (v := .agg #[.slice (some ad') js.length c', .int .i64 pv, .int .i64 1]) (by simp [results, Try.results158, hr0, hr1, hr2, go_sem]) rfl ?_
      refine ⟨.slice (some ad') js.length c', ?_, ?_, ?_⟩
      · rw [HL.out]; unfold bestV; simp
      · rw [HL.out]; unfold BestIs; simp only
        rw [hl]
        exact own_lower (ownsRow_setCell_below (ownsRow_setCell_below (ownsRow_setCell_below HE.out.1 (by show w.heap.size + 1 < _; omega) _) (by show w.heap.size + 1 < _; omega) _) (by show w.heap.size + 1 < _; omega) _) (by omega)
      · exact ((HE.out.2.setCell (by simp) _).setCell (by simp) _).setCell (by simp) _
    · have h1 : pv < t.v := by omega
      go_wp2_with fail
      refine HO.out.mono ?_
      rintro e w2 ⟨ad', c', rfl, hown, hb3⟩
      obtain ⟨hM2, hR2, hb2, hs2⟩ := HM.out
      have hR3 := hR2.below hb3
      have hr0 := hR3.cell 0
      have hr1 := hR3.cell 1
      have hr2 := hR3.cell 2
      have hf0 := hR3.frozen 0
      have hf1 := hR3.frozen 1
      have hf2 := hR3.frozen 2
      simp at hr0 hr1 hr2
      have HE := Lib.hid (And.intro hown (hb2.trans (hb3.mono hb2.size)))
      clear hown hb3 hM2 hR2 hb2 hs2 hR3
      go_wp2
      (try simp only [Exit.inBlock, Exit.then])
      refine bodyPost_ret (v := .agg #[.slice (some ad') js.length c', .int .i64 pv, .int .i64 1]) (by simp [results, Try.results158, hr0, hr1, hr2, go_sem]) rfl ?_
      refine ⟨.slice (some ad') js.length c', ?_, ?_, ?_⟩
      · rw [HL.out]; unfold bestV; simp
      · rw [HL.out]; unfold BestIs; simp only
        rw [hl]
        exact own_lower (ownsRow_setCell_below (ownsRow_setCell_below (ownsRow_setCell_below HE.out.1 (by show w.heap.size + 1 < _; omega) _) (by show w.heap.size + 1 < _; omega) _) (by show w.heap.size + 1 < _; omega) _) (by omega)
      · exact ((HE.out.2.setCell (by simp) _).setCell (by simp) _).setCell (by simp) _
  · have h0 : ¬ (t.n : Int) = 0 := by omega
    have h1 : ¬ pv < t.v := by omega
    obtain ⟨hM2, hR2, hb2, hs2⟩ := HM.out
    have hr0 := hR2.cell 0
    have hr1 := hR2.cell 1
    have hr2 := hR2.cell 2
    have hf0 := hR2.frozen 0
    have hf1 := hR2.frozen 1
    have hf2 := hR2.frozen 2
    have hg2 := hM2.frozen 2
    simp at hr0 hr1 hr2
    by_cases h2 : pv = t.v
    · have HL : Hid (leafB b pv t = ⟨t.v, t.first, t.n + 1⟩) := by
        show _ = _
        unfold leafB; rw [if_neg hnew, if_pos h2]
      have HE := Lib.hid (And.intro hs2 hb2)
      clear hs2 hb2 hM2 hR2
      go_wp2
      (try simp only [Exit.inBlock, Exit.then])
      refine bodyPost_ret (v := .agg #[.slice A t.first.length c, .int .i64 t.v, .int .i64 ((t.n : Int) + 1)]) (by simp [results, Try.results158, hr0, hr1, hr2, go_sem]) rfl ?_
      have hbz := (((HE.out.2.setCell (p := ⟨w.heap.size, 2, none⟩) (by simp) (.int .i64 ((t.n : Int) + 1))).setCell (p := ⟨w.heap.size + 1, 0, none⟩) (by simp) (.slice A t.first.length c)).setCell (p := ⟨w.heap.size + 1, 1, none⟩) (by simp) (.int .i64 t.v)).setCell (p := ⟨w.heap.size + 1, 2, none⟩) (by simp) (.int .i64 ((t.n : Int) + 1))
      refine ⟨.slice A t.first.length c, ?_, ?_, hbz⟩
      · rw [HL.out]; unfold bestV; simp
      · rw [HL.out]; exact hs.below hbz
    · have HL : Hid (leafB b pv t = t) := by
        show _ = _
        unfold leafB; rw [if_neg hnew, if_neg h2]
      have HE := Lib.hid (And.intro hs2 hb2)
      clear hs2 hb2 hM2 hR2
      have d1 : (decide (pv < t.v)) = false := decide_eq_false h1
      have d2 : (pv == t.v) = false := beq_eq_false_iff_ne.2 h2
      have d0 : ((t.n : Int) == 0) = false := beq_eq_false_iff_ne.2 h0
      have hne : ¬ (t.n : Int) = 0 ∧ ¬ pv < t.v := ⟨h0, h1⟩
      go_wp2
      all_goals first | done | skip
      (try simp only [Exit.inBlock, Exit.then])
      refine bodyPost_ret (v := .agg #[.slice A t.first.length c, .int .i64 t.v, .int .i64 (t.n : Int)]) (by simp [results, Try.results158, hr0, hr1, hr2, go_sem]) rfl ?_
      have hbz := (((HE.out.2.setCell (p := ⟨w.heap.size + 1, 0, none⟩) (by simp) (.slice A t.first.length c)).setCell (p := ⟨w.heap.size + 1, 1, none⟩) (by simp) (.int .i64 t.v)).setCell (p := ⟨w.heap.size + 1, 2, none⟩) (by simp) (.int .i64 (t.n : Int)))
      refine ⟨.slice A t.first.length c, ?_, ?_, hbz⟩
      · rw [HL.out]; unfold bestV; simp
      · rw [HL.out]; exact hs.below hbz
end
end Go.Proofs.Ytgiecjcgidgpfaa
