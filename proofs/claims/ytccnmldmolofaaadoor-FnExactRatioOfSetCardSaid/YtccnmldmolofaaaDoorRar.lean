/- RatioOfSet of both. -/
import Derived.Test.YtccnmldmolofaaaDoorRas
import Derived.Test.YtccnmldmolofaaaDoorGood
import Derived.Test.YtccnmldmolofaaaDoorPrC
namespace Go.Proofs.YtccnmldmolofaaaDoor
set_option linter.unusedSimpArgs false
open Go.RowKit
def ratR (js : List J) (s : List Int) : Pr × Bool := if goodL js && (decide (0 < s.length) && risL js.length s) then ((sumW js (memB (numS s)), sumT js (memB (numS s))), true) else ((0, 0), false)
def RetAB (w : World) (r : Pr × Bool) (e : Ending) (w' : World) : Prop := e = .returned (.tuple #[.agg #[.int .i64 r.1.1, .int .i64 r.1.2], .bool r.2]) ∧ Below w.heap.size w w'
theorem num_len {s : List Int} (h : risL 8 s = true) : (memB (numS s)).length = s.length := by
  have := congrArg List.length (numS_mem h)
  simpa [natI] using this
section
variable (A D : Option Addr) (c d : Nat) (js : List J) (s : List Int) (w : World) (hr : Row w A (jc js)) (hq : Row w D (ic s)) (hn : js.length ≤ 10000000) (hm : s.length ≤ 10000000)
include hr hq hn hm
set_option maxRecDepth 100000 in
set_option maxHeartbeats 2000000 in
theorem spec_RatioOfSet : Calls Tryd.prog 26 #[.slice A js.length c, .slice D s.length d] w (RetAB w (ratR js s)) := by
  have HRR : Hid (ratR js s = if goodL js && (decide (0 < s.length) && risL js.length s) then ((sumW js (memB (numS s)), sumT js (memB (numS s))), true) else ((0, 0), false)) := rfl
  have b0 := (Below.refl w.heap.size w).alloc (Nat.le_refl _) (.cells #[.int .i64 0, .int .i64 0] 38)
  have z0 := BlockIs.new w 38 #[.int .i64 0, .int .i64 0]
  have HG := Lib.hid (l2Good_any A c js _ (hr.below b0) (by omega))
  have HZ := Lib.hid z0
  have HB0 := Lib.hid b0
  have HR := Lib.hid hr
  have HQ := Lib.hid hq
  clear hr hq b0 z0
  go_enter Tryd.func26, Tryd.ntmps26
  go_wp2_with fail
  refine HG.out.mono ?_
  rintro e w1 ⟨rfl, hb1⟩
  have HZ1 := Lib.hid (HZ.out.below hb1)
  have HBF := Lib.hid (HB0.out.trans (hb1.mono HB0.out.size))
  clear hb1 HZ HG HB0
  have r0 : w1.cell? ⟨w.heap.size, 0, none⟩ = some (.int .i64 0) := ((HZ1.out).cell 0).trans rfl
  have r1 : w1.cell? ⟨w.heap.size, 1, none⟩ = some (.int .i64 0) := ((HZ1.out).cell 1).trans rfl
  have f0 := (HZ1.out).frozen 0
  have f1 := (HZ1.out).frozen 1
  cases hg : goodL js
  · rw [hg] at HRR
    clear hg
    go_wp2
    have zf := ((HZ1.out).set 0 (.int .i64 (0))).set 1 (.int .i64 (0))
    have hbe : Below w.heap.size w ((w1.setCell ⟨w.heap.size, 0, none⟩ (.int .i64 (0))).setCell ⟨w.heap.size, 1, none⟩ (.int .i64 (0))) := ((HBF.out).setCell (p := ⟨w.heap.size, 0, none⟩) (Nat.le_refl _) _).setCell (p := ⟨w.heap.size, 1, none⟩) (Nat.le_refl _) _
    generalize ((w1.setCell ⟨w.heap.size, 0, none⟩ (.int .i64 (0))).setCell ⟨w.heap.size, 1, none⟩ (.int .i64 (0))) = V at zf hbe ⊢
    have e1 : V.cell? ⟨w.heap.size, 0, none⟩ = some (.int .i64 (0)) := (zf.cell 0).trans rfl
    have e2 : V.cell? ⟨w.heap.size, 1, none⟩ = some (.int .i64 (0)) := (zf.cell 1).trans rfl
    refine bodyPost_ret (v := .tuple #[.agg #[.int .i64 (0), .int .i64 (0)], .bool false]) (by simp [results, Tryd.f26, e1, e2, go_sem]) rfl ⟨by rw [HRR.out]; rfl, hbe⟩
  · obtain ⟨h8, hok⟩ := good_out hg
    rw [hg] at HRR
    clear hg
    by_cases hs0 : 0 < s.length
    · have hs1 : ((s.length : Int) == 0) = false := by rw [beq_eq_false_iff_ne]; omega
      have HC := Lib.hid (HQ.out.below HBF.out)
      have HI := Lib.hid (l1Rising_any D d js.length s w1 HC.out hm)
      have hw8 : IntKind.i64.wrap ((js.length : Int) - 1) = (js.length : Int) - 1 := IntWalk.i64_in _ (by omega)
      rw [decide_eq_true hs0, Bool.true_and, Bool.true_and] at HRR
      cases hri : risL js.length s
      · rw [hri] at HRR HI
        go_wp2_with fail
        refine HI.out.mono ?_
        rintro e _ ⟨rfl, m, rfl⟩
        have hbm := below_drewN (Below.refl w1.heap.size w1) m
        have HZ2 := Lib.hid (HZ1.out.below hbm)
        have HBG := Lib.hid (HBF.out.trans (hbm.mono HBF.out.size))
        clear hbm r0 r1 f0 f1
        clear hri
        generalize w1.drewN m = w2 at *
        have r0 : w2.cell? ⟨w.heap.size, 0, none⟩ = some (.int .i64 0) := ((HZ2.out).cell 0).trans rfl
        have r1 : w2.cell? ⟨w.heap.size, 1, none⟩ = some (.int .i64 0) := ((HZ2.out).cell 1).trans rfl
        have f0 := (HZ2.out).frozen 0
        have f1 := (HZ2.out).frozen 1
        go_wp2
        have zf := ((HZ2.out).set 0 (.int .i64 (0))).set 1 (.int .i64 (0))
        have hbe : Below w.heap.size w ((w2.setCell ⟨w.heap.size, 0, none⟩ (.int .i64 (0))).setCell ⟨w.heap.size, 1, none⟩ (.int .i64 (0))) := ((HBG.out).setCell (p := ⟨w.heap.size, 0, none⟩) (Nat.le_refl _) _).setCell (p := ⟨w.heap.size, 1, none⟩) (Nat.le_refl _) _
        generalize ((w2.setCell ⟨w.heap.size, 0, none⟩ (.int .i64 (0))).setCell ⟨w.heap.size, 1, none⟩ (.int .i64 (0))) = V at zf hbe ⊢
        have e1 : V.cell? ⟨w.heap.size, 0, none⟩ = some (.int .i64 (0)) := (zf.cell 0).trans rfl
        have e2 : V.cell? ⟨w.heap.size, 1, none⟩ = some (.int .i64 (0)) := (zf.cell 1).trans rfl
        refine bodyPost_ret (v := .tuple #[.agg #[.int .i64 (0), .int .i64 (0)], .bool false]) (by simp [results, Tryd.f26, e1, e2, go_sem]) rfl ⟨by rw [HRR.out]; rfl, hbe⟩
      · rw [hri] at HRR HI
        go_wp2_with fail
        refine HI.out.mono ?_
        rintro e _ ⟨rfl, m, rfl⟩
        have hbm := below_drewN (Below.refl w1.heap.size w1) m
        have HZ2 := Lib.hid (HZ1.out.below hbm)
        have HBG := Lib.hid (HBF.out.trans (hbm.mono HBF.out.size))
        clear hbm r0 r1 f0 f1
        have h88 := ris8 hri h8
        have hq2 := HQ.out.below HBG.out
        rw [← numS_mem h88] at hq2
        have HSL := Lib.hid (l4Sums_any A D c d js (memB (numS s)) _ (HR.out.below HBG.out) hq2 hok (fun x hx => numS_in hri h8 ((memB_mem (numS_lt h88)).1 hx)) (memB_len _))
        rw [num_len h88] at HSL
        clear hri hq2
        generalize w1.drewN m = w2 at *
        go_wp2_with fail
        refine HSL.out.mono ?_
        rintro e w3 ⟨rfl, hb3⟩
        have HZ3 := Lib.hid (HZ2.out.below hb3)
        have HBH := Lib.hid (HBG.out.trans (hb3.mono HBG.out.size))
        clear hb3
        generalize sumW js (memB (numS s)) = sw at *
        generalize sumT js (memB (numS s)) = st at *
        have r0 : w3.cell? ⟨w.heap.size, 0, none⟩ = some (.int .i64 0) := ((HZ3.out).cell 0).trans rfl
        have r1 : w3.cell? ⟨w.heap.size, 1, none⟩ = some (.int .i64 0) := ((HZ3.out).cell 1).trans rfl
        have f0 := (HZ3.out).frozen 0
        have f1 := (HZ3.out).frozen 1
        go_wp2
        have zf := ((HZ3.out).set 0 (.int .i64 (sw))).set 1 (.int .i64 (st))
        have hbe : Below w.heap.size w ((w3.setCell ⟨w.heap.size, 0, none⟩ (.int .i64 (sw))).setCell ⟨w.heap.size, 1, none⟩ (.int .i64 (st))) := ((HBH.out).setCell (p := ⟨w.heap.size, 0, none⟩) (Nat.le_refl _) _).setCell (p := ⟨w.heap.size, 1, none⟩) (Nat.le_refl _) _
        generalize ((w3.setCell ⟨w.heap.size, 0, none⟩ (.int .i64 (sw))).setCell ⟨w.heap.size, 1, none⟩ (.int .i64 (st))) = V at zf hbe ⊢
        have e1 : V.cell? ⟨w.heap.size, 0, none⟩ = some (.int .i64 (sw)) := (zf.cell 0).trans rfl
        have e2 : V.cell? ⟨w.heap.size, 1, none⟩ = some (.int .i64 (st)) := (zf.cell 1).trans rfl
        refine bodyPost_ret (v := .tuple #[.agg #[.int .i64 (sw), .int .i64 (st)], .bool true]) (by simp [results, Tryd.f26, e1, e2, go_sem]) rfl ⟨by rw [HRR.out]; rfl, hbe⟩
    · have hs1 : ((s.length : Int) == 0) = true := by rw [beq_iff_eq]; omega
      rw [decide_eq_false hs0, Bool.false_and, Bool.true_and] at HRR
      go_wp2
      have zf := ((HZ1.out).set 0 (.int .i64 (0))).set 1 (.int .i64 (0))
      have hbe : Below w.heap.size w ((w1.setCell ⟨w.heap.size, 0, none⟩ (.int .i64 (0))).setCell ⟨w.heap.size, 1, none⟩ (.int .i64 (0))) := ((HBF.out).setCell (p := ⟨w.heap.size, 0, none⟩) (Nat.le_refl _) _).setCell (p := ⟨w.heap.size, 1, none⟩) (Nat.le_refl _) _
      generalize ((w1.setCell ⟨w.heap.size, 0, none⟩ (.int .i64 (0))).setCell ⟨w.heap.size, 1, none⟩ (.int .i64 (0))) = V at zf hbe ⊢
      have e1 : V.cell? ⟨w.heap.size, 0, none⟩ = some (.int .i64 (0)) := (zf.cell 0).trans rfl
      have e2 : V.cell? ⟨w.heap.size, 1, none⟩ = some (.int .i64 (0)) := (zf.cell 1).trans rfl
      refine bodyPost_ret (v := .tuple #[.agg #[.int .i64 (0), .int .i64 (0)], .bool false]) (by simp [results, Tryd.f26, e1, e2, go_sem]) rfl ⟨by rw [HRR.out]; rfl, hbe⟩
set_option maxRecDepth 100000 in
set_option maxHeartbeats 2000000 in
theorem impl_RatioOfSet (hT : TzTab w) : Calls Tryd.prog 28 #[.slice A js.length c, .slice D s.length d] w (RetAB w (ratR js s)) := by
  have HRR : Hid (ratR js s = if goodL js && (decide (0 < s.length) && risL js.length s) then ((sumW js (memB (numS s)), sumT js (memB (numS s))), true) else ((0, 0), false)) := rfl
  have b0 := (Below.refl w.heap.size w).alloc (Nat.le_refl _) (.cells #[.int .i64 0, .int .i64 0] 38)
  have z0 := BlockIs.new w 38 #[.int .i64 0, .int .i64 0]
  have HG := Lib.hid (IsJobs_any A c js _ (hr.below b0) (by omega))
  have HZ := Lib.hid z0
  have HB0 := Lib.hid b0
  have HR := Lib.hid hr
  have HQ := Lib.hid hq
  clear hr hq b0 z0
  go_enter Tryd.func28, Tryd.ntmps28
  go_wp2_with fail
  refine HG.out.mono ?_
  rintro e w1 ⟨rfl, hb1⟩
  have HZ1 := Lib.hid (HZ.out.below hb1)
  have HBF := Lib.hid (HB0.out.trans (hb1.mono HB0.out.size))
  clear hb1 HZ HG HB0
  have r0 : w1.cell? ⟨w.heap.size, 0, none⟩ = some (.int .i64 0) := ((HZ1.out).cell 0).trans rfl
  have r1 : w1.cell? ⟨w.heap.size, 1, none⟩ = some (.int .i64 0) := ((HZ1.out).cell 1).trans rfl
  have f0 := (HZ1.out).frozen 0
  have f1 := (HZ1.out).frozen 1
  cases hg : goodL js
  · rw [hg] at HRR
    clear hg
    go_wp2
    have zf := ((HZ1.out).set 0 (.int .i64 (0))).set 1 (.int .i64 (0))
    have hbe : Below w.heap.size w ((w1.setCell ⟨w.heap.size, 0, none⟩ (.int .i64 (0))).setCell ⟨w.heap.size, 1, none⟩ (.int .i64 (0))) := ((HBF.out).setCell (p := ⟨w.heap.size, 0, none⟩) (Nat.le_refl _) _).setCell (p := ⟨w.heap.size, 1, none⟩) (Nat.le_refl _) _
    generalize ((w1.setCell ⟨w.heap.size, 0, none⟩ (.int .i64 (0))).setCell ⟨w.heap.size, 1, none⟩ (.int .i64 (0))) = V at zf hbe ⊢
    have e1 : V.cell? ⟨w.heap.size, 0, none⟩ = some (.int .i64 (0)) := (zf.cell 0).trans rfl
    have e2 : V.cell? ⟨w.heap.size, 1, none⟩ = some (.int .i64 (0)) := (zf.cell 1).trans rfl
    refine bodyPost_ret (v := .tuple #[.agg #[.int .i64 (0), .int .i64 (0)], .bool false]) (by simp [results, Tryd.f28, e1, e2, go_sem]) rfl ⟨by rw [HRR.out]; rfl, hbe⟩
  · obtain ⟨h8, hok⟩ := good_out hg
    rw [hg] at HRR
    clear hg
    by_cases hs0 : 0 < s.length
    · have hs1 : ((s.length : Int) == 0) = false := by rw [beq_eq_false_iff_ne]; omega
      have HC := Lib.hid (HQ.out.below HBF.out)
      have HI := Lib.hid (isSetOf_any D d js.length s w1 HC.out hm)
      rw [decide_eq_true hs0, Bool.true_and, Bool.true_and] at HRR
      cases hri : risL js.length s
      · rw [hri] at HRR HI
        go_wp2_with fail
        refine HI.out.mono ?_
        rintro e wn ⟨rfl, hwn⟩
        rw [hwn]
        clear hwn wn
        clear hri
        go_wp2
        have zf := ((HZ1.out).set 0 (.int .i64 (0))).set 1 (.int .i64 (0))
        have hbe : Below w.heap.size w ((w1.setCell ⟨w.heap.size, 0, none⟩ (.int .i64 (0))).setCell ⟨w.heap.size, 1, none⟩ (.int .i64 (0))) := ((HBF.out).setCell (p := ⟨w.heap.size, 0, none⟩) (Nat.le_refl _) _).setCell (p := ⟨w.heap.size, 1, none⟩) (Nat.le_refl _) _
        generalize ((w1.setCell ⟨w.heap.size, 0, none⟩ (.int .i64 (0))).setCell ⟨w.heap.size, 1, none⟩ (.int .i64 (0))) = V at zf hbe ⊢
        have e1 : V.cell? ⟨w.heap.size, 0, none⟩ = some (.int .i64 (0)) := (zf.cell 0).trans rfl
        have e2 : V.cell? ⟨w.heap.size, 1, none⟩ = some (.int .i64 (0)) := (zf.cell 1).trans rfl
        refine bodyPost_ret (v := .tuple #[.agg #[.int .i64 (0), .int .i64 (0)], .bool false]) (by simp [results, Tryd.f28, e1, e2, go_sem]) rfl ⟨by rw [HRR.out]; rfl, hbe⟩
      · rw [hri] at HRR HI
        go_wp2_with fail
        refine HI.out.mono ?_
        rintro e wn ⟨rfl, hwn⟩
        rw [hwn]
        clear hwn wn
        have h88 := ris8 hri h8
        have HSL := Lib.hid (setOfList_any D d s w1 HC.out hm h88)
        have HRO := Lib.hid (ratioOf_any A c (numS s) js w1 (numS_lt h88) (HR.out.below HBF.out) hok (fun k hk => numS_in hri h8 hk) (hT.below HBF.out))
        clear hri
        go_wp2_with fail
        refine HSL.out.mono ?_
        rintro e wn ⟨rfl, hwn⟩
        rw [hwn]
        clear hwn wn
        go_wp2_with fail
        refine HRO.out.mono ?_
        rintro e w2 ⟨rfl, hb2⟩
        have HZ2 := Lib.hid (HZ1.out.below hb2)
        have HBG := Lib.hid (HBF.out.trans (hb2.mono HBF.out.size))
        clear hb2 r0 r1 f0 f1
        generalize sumW js (memB (numS s)) = sw at *
        generalize sumT js (memB (numS s)) = st at *
        have hlz : w.heap.size < w2.heap.size := (Array.getElem?_eq_some_iff.1 HZ2.out).1
        have r0 : w2.cell? ⟨w.heap.size, 0, none⟩ = some (.int .i64 0) := ((HZ2.out).cell 0).trans rfl
        have r1 : w2.cell? ⟨w.heap.size, 1, none⟩ = some (.int .i64 0) := ((HZ2.out).cell 1).trans rfl
        have f0 := (HZ2.out).frozen 0
        have f1 := (HZ2.out).frozen 1
        go_wp2
        have zf0 := (HZ2.out.set 0 (.int .i64 (sw))).set 1 (.int .i64 (st))
        have hbe0 : Below w.heap.size w ((w2.setCell ⟨w.heap.size, 0, none⟩ (.int .i64 (sw))).setCell ⟨w.heap.size, 1, none⟩ (.int .i64 (st))) := (HBG.out.setCell (p := ⟨w.heap.size, 0, none⟩) (Nat.le_refl _) _).setCell (p := ⟨w.heap.size, 1, none⟩) (Nat.le_refl _) _
        have hbn := (Below.refl ((w2.setCell ⟨w.heap.size, 0, none⟩ (.int .i64 (sw))).setCell ⟨w.heap.size, 1, none⟩ (.int .i64 (st))).heap.size ((w2.setCell ⟨w.heap.size, 0, none⟩ (.int .i64 (sw))).setCell ⟨w.heap.size, 1, none⟩ (.int .i64 (st)))).alloc (Nat.le_refl _) (.cells #[.int .i64 sw, .int .i64 st] 57)
        have zf := zf0.below hbn
        have hbe := hbe0.trans (hbn.mono hbe0.size)
        clear zf0 hbe0 hbn
        generalize (((w2.setCell ⟨w.heap.size, 0, none⟩ (.int .i64 (sw))).setCell ⟨w.heap.size, 1, none⟩ (.int .i64 (st))).alloc (.cells #[.int .i64 sw, .int .i64 st] 57)) = V at zf hbe ⊢
        have e1 : V.cell? ⟨w.heap.size, 0, none⟩ = some (.int .i64 (sw)) := (zf.cell 0).trans rfl
        have e2 : V.cell? ⟨w.heap.size, 1, none⟩ = some (.int .i64 (st)) := (zf.cell 1).trans rfl
        refine bodyPost_ret (v := .tuple #[.agg #[.int .i64 (sw), .int .i64 (st)], .bool true]) (by simp [results, Tryd.f28, e1, e2, go_sem]) rfl ⟨by rw [HRR.out]; rfl, hbe⟩
    · have hs1 : ((s.length : Int) == 0) = true := by rw [beq_iff_eq]; omega
      rw [decide_eq_false hs0, Bool.false_and, Bool.true_and] at HRR
      go_wp2
      have zf := ((HZ1.out).set 0 (.int .i64 (0))).set 1 (.int .i64 (0))
      have hbe : Below w.heap.size w ((w1.setCell ⟨w.heap.size, 0, none⟩ (.int .i64 (0))).setCell ⟨w.heap.size, 1, none⟩ (.int .i64 (0))) := ((HBF.out).setCell (p := ⟨w.heap.size, 0, none⟩) (Nat.le_refl _) _).setCell (p := ⟨w.heap.size, 1, none⟩) (Nat.le_refl _) _
      generalize ((w1.setCell ⟨w.heap.size, 0, none⟩ (.int .i64 (0))).setCell ⟨w.heap.size, 1, none⟩ (.int .i64 (0))) = V at zf hbe ⊢
      have e1 : V.cell? ⟨w.heap.size, 0, none⟩ = some (.int .i64 (0)) := (zf.cell 0).trans rfl
      have e2 : V.cell? ⟨w.heap.size, 1, none⟩ = some (.int .i64 (0)) := (zf.cell 1).trans rfl
      refine bodyPost_ret (v := .tuple #[.agg #[.int .i64 (0), .int .i64 (0)], .bool false]) (by simp [results, Tryd.f28, e1, e2, go_sem]) rfl ⟨by rw [HRR.out]; rfl, hbe⟩
end
end Go.Proofs.YtccnmldmolofaaaDoor
