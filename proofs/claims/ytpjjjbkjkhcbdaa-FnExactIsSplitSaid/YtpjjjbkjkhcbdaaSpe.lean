/- Split schedules: IsSplit, CountBreaks and SplitEnds of both. -/
import Derived.Test.YtpjjjbkjkhcbdaaSpl
import Derived.Test.YtpjjjbkjkhcbdaaSpi
import Derived.Test.YtpjjjbkjkhcbdaaEndsO
namespace Go.Proofs.Ytpjjjbkjkhcbdaa
open Go.RowKit
def isSplitR (js : List J) (ss : List Sp) : Bool × Bool := (spBothB js ss, goodL js)
def breaksR (js : List J) (ss : List Sp) : Int × Bool := if spBothB js ss then ((ss.length : Int) - js.length, true) else (0, false)
def spEndsR (js : List J) (ss : List Sp) : List Int × Bool := if spBothB js ss then (spEndsL js ss, true) else ([], false)
theorem spEndsR_len (js : List J) (ss : List Sp) : (spEndsR js ss).1.length ≤ js.length := by
  unfold spEndsR
  split
  · exact Nat.le_of_eq (spEndsL_len js ss)
  · exact Nat.zero_le _
theorem spBoth_out {js : List J} {ss : List Sp} (h : spBothB js ss = true) : goodL js = true ∧ splitB js ss = true := by
  unfold spBothB at h; rwa [Bool.and_eq_true] at h
/-- Two answers that say whether. -/
def RetB2 (w : World) (r : Bool × Bool) (e : Ending) (w' : World) : Prop := e = .returned (.tuple #[.bool r.1, .bool r.2]) ∧ Below w.heap.size w w'
section
variable (A B : Option Addr) (c d : Nat) (js : List J) (ss : List Sp) (w : World) (hr : Row w A (jc js)) (hq : Row w B (spc ss))
include hr hq
omit hr in
set_option maxRecDepth 100000 in
set_option maxHeartbeats 1000000 in
theorem l5Ends_at (hg : goodL js = true) (hs : splitB js ss = true) :
    Calls Try.prog 70 #[.slice A js.length c, .slice B ss.length d] w fun e w' => e = .returned (.slice (some ⟨w.heap.size, 0, none⟩) js.length js.length) ∧ BlockIs w' w.heap.size 3 (ic (spEndsL js ss)).toArray ∧ Below w.heap.size w w' := by
  have h8 := (good_out hg).1
  have hm := split_short hs
  have HM := Lib.hid (split_mem hs)
  have hmk := run_make_row' (P := Try.prog) 35 3 (.int .i64 0) 8 Try.underlying35 infoI rfl .i64 .i64 js.length (by omega) (by omega)
  clear hs hg
  go_enter Try.func70, Try.ntmps70
  go_wp2
  go_loopw [6] (fun i wr => ∃ (k : Nat) (xs : List Int), k ≤ ss.length ∧ i = .int .i64 k ∧ Hid (xs.length = js.length) ∧ BlockIs wr w.heap.size 3 (ic xs).toArray ∧ Hid (spEnds js.length (ss.drop k) xs = spEndsL js ss) ∧ Below w.heap.size w wr) (fun i _ => ss.length - (intOf i).toNat)
  case atStart =>
    exact ⟨0, List.replicate js.length 0, Nat.zero_le _, rfl, List.length_replicate, by rw [← ic_made]; exact BlockIs.new _ _ _, rfl, (Below.refl _ _).alloc (Nat.le_refl _) _⟩
  case round =>
    obtain ⟨k, xs, hk, rfl, hxl, hB, hE, hb⟩ := hrel
    clear hmk
    by_cases hlt : k < ss.length
    · obtain ⟨ad, hA', hbl, hc0, hc1, hc2⟩ := (hq.below hb).span hlt
      subst hA'
      have hk0 : (0 : Int) ≤ k := by omega
      have hk1 : (k : Int) < ss.length := by omega
      obtain ⟨m0, m1, m2, m3, m4⟩ := HM.out ss[k] (List.getElem_mem hlt)
      have HE : Hid (spEnds js.length (ss.drop (k + 1)) (xs.set ss[k].j.toNat ss[k].t) = spEndsL js ss) := by
        show _ = _
        rw [← spEnds_drop js.length ss k xs hlt]; exact hE.out
      generalize ss[k] = s at *
      obtain ⟨x, f, t⟩ := s
      dsimp only at hc0 hc1 hc2 m0 m1 m2 m3 m4 HE
      obtain ⟨q, rfl⟩ : ∃ q : Nat, x = (q : Int) := ⟨x.toNat, by omega⟩
      rw [Int.toNat_natCast] at HE
      have hqx : q < xs.length := by rw [hxl.out]; omega
      have hck := hB.int hqx
      have hfz := hB.frozen q
      have HL := Lib.hid ((hB.set q (.int .i64 t)).drew)
      rw [ic_set] at HL
      have HB := Lib.hid ((hb.setCell (p := ⟨w.heap.size, q, none⟩) (Nat.le_refl _) (.int .i64 t)).drew)
      have HX : Hid ((xs.set q t).length = js.length) := by show _ = _; rw [List.length_set]; exact hxl.out
      clear hE hB hb hq hc1
      go_wp2
      go_still_tail 12, (by kernel_rfl)
      change wpList _ _ _ _ _ wr.drew
      go_wp2
      go_roundw
      case rel => exact ⟨k + 1, _, by omega, by go_num, HX, HL.out, HE, HB.out⟩
      case measure => simp [intOf]; omega
    · obtain rfl : k = ss.length := by omega
      have hE' := hE.out
      rw [List.drop_eq_nil_of_le (Nat.le_refl _)] at hE'
      have HL : Hid (BlockIs wr w.heap.size 3 (ic (spEndsL js ss)).toArray) := by rw [← hE']; exact hB
      clear hE hE' hB
      go_wp2
      go_ret
      exact ⟨rfl, HL.out, hb⟩
omit hr in
set_option maxRecDepth 100000 in
set_option maxHeartbeats 1000000 in
theorem endsOfSpans_at (hg : goodL js = true) (hs : splitB js ss = true) :
    Calls Try.prog 71 #[.slice A js.length c, .slice B ss.length d] w fun e w' => e = .returned (.slice (some ⟨w.heap.size, 0, none⟩) js.length js.length) ∧ BlockIs w' w.heap.size 3 (ic (spEndsL js ss)).toArray ∧ Below w.heap.size w w' := by
  have h8 := (good_out hg).1
  have hm := split_short hs
  have HM := Lib.hid (split_mem hs)
  have hmk := run_make_row' (P := Try.prog) 35 3 (.int .i64 0) 8 Try.underlying35 infoI rfl .i64 .i64 js.length (by omega) (by omega)
  clear hs hg
  go_enter Try.func71, Try.ntmps71
  go_wp2
  go_loopw [13] (fun i wr => ∃ (k : Nat) (xs : List Int), k ≤ ss.length ∧ i = .int .i64 k ∧ Hid (xs.length = js.length) ∧ BlockIs wr w.heap.size 3 (ic xs).toArray ∧ Hid (spEnds js.length (ss.drop k) xs = spEndsL js ss) ∧ Below w.heap.size w wr) (fun i _ => ss.length - (intOf i).toNat)
  case atStart =>
    exact ⟨0, List.replicate js.length 0, Nat.zero_le _, rfl, List.length_replicate, by rw [← ic_made]; exact BlockIs.new _ _ _, rfl, (Below.refl _ _).alloc (Nat.le_refl _) _⟩
  case round =>
    obtain ⟨k, xs, hk, rfl, hxl, hB, hE, hb⟩ := hrel
    clear hmk
    by_cases hlt : k < ss.length
    · obtain ⟨ad, hA', hbl, hc0, hc1, hc2⟩ := (hq.below hb).span hlt
      subst hA'
      have hk0 : (0 : Int) ≤ k := by omega
      have hk1 : (k : Int) < ss.length := by omega
      obtain ⟨m0, m1, m2, m3, m4⟩ := HM.out ss[k] (List.getElem_mem hlt)
      have HE : Hid (spEnds js.length (ss.drop (k + 1)) (xs.set ss[k].j.toNat ss[k].t) = spEndsL js ss) := by
        show _ = _
        rw [← spEnds_drop js.length ss k xs hlt]; exact hE.out
      generalize ss[k] = s at *
      obtain ⟨x, f, t⟩ := s
      dsimp only at hc0 hc1 hc2 m0 m1 m2 m3 m4 HE
      obtain ⟨q, rfl⟩ : ∃ q : Nat, x = (q : Int) := ⟨x.toNat, by omega⟩
      rw [Int.toNat_natCast] at HE
      have hqx : q < xs.length := by rw [hxl.out]; omega
      have hbW : Below wr.heap.size wr (wr.alloc (.cells #[.int .i64 (q : Int), .int .i64 f, .int .i64 t] 70)) := (Below.refl _ _).alloc (Nat.le_refl _) _
      have hBW := hB.below hbW
      have hck := hBW.int hqx
      have hfz := hBW.frozen q
      have HL := Lib.hid (hBW.set q (.int .i64 t))
      rw [ic_set] at HL
      have HB := Lib.hid ((below_and hb hbW).setCell (p := ⟨w.heap.size, q, none⟩) (Nat.le_refl _) (.int .i64 t))
      have HX : Hid ((xs.set q t).length = js.length) := by show _ = _; rw [List.length_set]; exact hxl.out
      clear hE hB hb hq hBW hbW
      go_wp2
      go_roundw
      case rel => exact ⟨k + 1, _, by omega, by go_num, HX, HL.out, HE, HB.out⟩
      case measure => simp [intOf]; omega
    · obtain rfl : k = ss.length := by omega
      have hE' := hE.out
      rw [List.drop_eq_nil_of_le (Nat.le_refl _)] at hE'
      have HL : Hid (BlockIs wr w.heap.size 3 (ic (spEndsL js ss)).toArray) := by rw [← hE']; exact hB
      clear hE hE' hB
      go_wp2
      go_ret
      exact ⟨rfl, HL.out, hb⟩
variable (hn : js.length ≤ 10000000) (hm : ss.length ≤ 10000000)
include hn hm
theorem l5Both_any : Calls Try.prog 69 #[.slice A js.length c, .slice B ss.length d] w fun e w' => e = .returned (.bool (spBothB js ss)) ∧ Below w.heap.size w w' := by
  have HT : Hid (spBothB js ss = (goodL js && splitB js ss)) := rfl
  cases hg : goodL js
  · go_enter Try.func69, Try.ntmps69
    go_wp2_with fail
    refine (l2Good_any A c js _ hr (by omega)).mono ?_
    rintro e w1 ⟨rfl, hb1⟩
    rw [hg]
    go_wp2
    go_ret
    exact ⟨by rw [HT.out, hg]; rfl, hb1⟩
  · go_enter Try.func69, Try.ntmps69
    go_wp2_with fail
    refine (l2Good_any A c js _ hr (by omega)).mono ?_
    rintro e w1 ⟨rfl, hb1⟩
    rw [hg]
    go_wp2_with fail
    refine (l5Split_any A B c d js ss _ (hr.below hb1) (hq.below hb1) hg hm).mono ?_
    rintro e w2 ⟨rfl, hb2⟩
    go_wp2
    go_ret
    exact ⟨by rw [HT.out, hg]; rfl, below_and hb1 hb2⟩
theorem spec_IsSplit : Calls Try.prog 19 #[.slice A js.length c, .slice B ss.length d] w (RetB2 w (isSplitR js ss)) := by
  have HT : Hid (isSplitR js ss = (goodL js && splitB js ss, goodL js)) := rfl
  cases hg : goodL js
  · go_enter Try.func19, Try.ntmps19
    go_wp2_with fail
    refine (l2Good_any A c js _ hr (by omega)).mono ?_
    rintro e w1 ⟨rfl, hb1⟩
    rw [hg]
    go_wp2
    go_ret2
    exact ⟨by rw [HT.out, hg]; rfl, hb1⟩
  · go_enter Try.func19, Try.ntmps19
    go_wp2_with fail
    refine (l2Good_any A c js _ hr (by omega)).mono ?_
    rintro e w1 ⟨rfl, hb1⟩
    rw [hg]
    go_wp2_with fail
    refine (l5Split_any A B c d js ss _ (hr.below hb1) (hq.below hb1) hg hm).mono ?_
    rintro e w2 ⟨rfl, hb2⟩
    go_wp2
    go_ret2
    exact ⟨by rw [HT.out, hg]; rfl, below_and hb1 hb2⟩
theorem impl_IsSplit : Calls Try.prog 22 #[.slice A js.length c, .slice B ss.length d] w (RetB2 w (isSplitR js ss)) := by
  have HT : Hid (isSplitR js ss = (spBothB js ss, goodL js)) := rfl
  go_enter Try.func22, Try.ntmps22
  go_wp2_with fail
  refine (isSplit_any A B c d js ss _ hr hq hn hm).mono ?_
  rintro e w1 ⟨rfl, hb1⟩
  go_wp2_with fail
  refine (IsJobs_any A c js _ (hr.below hb1) (by omega)).mono ?_
  rintro e w2 ⟨rfl, hb2⟩
  go_wp2
  go_ret2
  exact ⟨by rw [HT.out]; rfl, below_and hb1 hb2⟩
theorem spec_CountBreaks : Calls Try.prog 38 #[.slice A js.length c, .slice B ss.length d] w (RetNB w (breaksR js ss)) := by
  have HR : Hid (breaksR js ss = if spBothB js ss then ((ss.length : Int) - js.length, true) else (0, false)) := rfl
  cases ht : spBothB js ss
  · rw [ht] at HR
    go_enter Try.func38, Try.ntmps38
    go_wp2_with fail
    refine (l5Both_any A B c d js ss _ hr hq hn hm).mono ?_
    rintro e w1 ⟨rfl, hb1⟩
    rw [ht]
    go_wp2
    go_ret2
    exact ⟨by rw [HR.out]; rfl, hb1⟩
  · rw [ht] at HR
    go_enter Try.func38, Try.ntmps38
    go_wp2_with fail
    refine (l5Both_any A B c d js ss _ hr hq hn hm).mono ?_
    rintro e w1 ⟨rfl, hb1⟩
    rw [ht]
    go_wp2
    go_ret2
    exact ⟨by rw [HR.out]; rfl, hb1⟩
theorem impl_CountBreaks : Calls Try.prog 39 #[.slice A js.length c, .slice B ss.length d] w (RetNB w (breaksR js ss)) := by
  have HR : Hid (breaksR js ss = if spBothB js ss then ((ss.length : Int) - js.length, true) else (0, false)) := rfl
  cases ht : spBothB js ss
  · rw [ht] at HR
    go_enter Try.func39, Try.ntmps39
    go_wp2_with fail
    refine (isSplit_any A B c d js ss _ hr hq hn hm).mono ?_
    rintro e w1 ⟨rfl, hb1⟩
    rw [ht]
    go_wp2
    go_ret2
    exact ⟨by rw [HR.out]; rfl, hb1⟩
  · rw [ht] at HR
    go_enter Try.func39, Try.ntmps39
    go_wp2_with fail
    refine (isSplit_any A B c d js ss _ hr hq hn hm).mono ?_
    rintro e w1 ⟨rfl, hb1⟩
    rw [ht]
    go_wp2
    go_ret2
    exact ⟨by rw [HR.out]; rfl, hb1⟩
theorem spec_SplitEnds : Calls Try.prog 25 #[.slice A js.length c, .slice B ss.length d] w (RetIB w (spEndsR js ss)) := by
  have HR : Hid (spEndsR js ss = if spBothB js ss then (spEndsL js ss, true) else ([], false)) := rfl
  cases ht : spBothB js ss
  · rw [ht] at HR
    go_enter Try.func25, Try.ntmps25
    go_wp2_with fail
    refine (l5Both_any A B c d js ss _ hr hq hn hm).mono ?_
    rintro e w1 ⟨rfl, hb1⟩
    rw [ht]
    go_wp2
    go_ret2
    exact ret_empty HR.out hb1 _ rfl
  · rw [ht] at HR
    have HL := Lib.hid (spEndsL_len js ss)
    have h8 := (good_out (spBoth_out ht).1).1
    go_enter Try.func25, Try.ntmps25
    go_wp2_with fail
    refine (l5Both_any A B c d js ss _ hr hq hn hm).mono ?_
    rintro e w1 ⟨rfl, hb1⟩
    rw [ht]
    go_wp2_with fail
    refine (l5Ends_at A B c d js ss _ (hq.below hb1) (spBoth_out ht).1 (spBoth_out ht).2).mono ?_
    rintro e w2 ⟨rfl, hB2, hb2⟩
    go_wp2
    go_ret2
    exact ret_block HR.out hb1.size hB2 (by rw [HL.out]; omega) (below_and hb1 hb2) _ (by rw [HL.out]; rfl)
theorem impl_SplitEnds : Calls Try.prog 26 #[.slice A js.length c, .slice B ss.length d] w (RetIB w (spEndsR js ss)) := by
  have HR : Hid (spEndsR js ss = if spBothB js ss then (spEndsL js ss, true) else ([], false)) := rfl
  cases ht : spBothB js ss
  · rw [ht] at HR
    go_enter Try.func26, Try.ntmps26
    go_wp2_with fail
    refine (isSplit_any A B c d js ss _ hr hq hn hm).mono ?_
    rintro e w1 ⟨rfl, hb1⟩
    rw [ht]
    go_wp2
    go_ret2
    exact ret_empty HR.out hb1 _ rfl
  · rw [ht] at HR
    have HL := Lib.hid (spEndsL_len js ss)
    have h8 := (good_out (spBoth_out ht).1).1
    go_enter Try.func26, Try.ntmps26
    go_wp2_with fail
    refine (isSplit_any A B c d js ss _ hr hq hn hm).mono ?_
    rintro e w1 ⟨rfl, hb1⟩
    rw [ht]
    go_wp2_with fail
    refine (endsOfSpans_at A B c d js ss _ (hq.below hb1) (spBoth_out ht).1 (spBoth_out ht).2).mono ?_
    rintro e w2 ⟨rfl, hB2, hb2⟩
    go_wp2
    go_ret2
    exact ret_block HR.out hb1.size hB2 (by rw [HL.out]; omega) (below_and hb1 hb2) _ (by rw [HL.out]; rfl)
end
end Go.Proofs.Ytpjjjbkjkhcbdaa
