/- The late rule's answers: the steps, and how many are late; the program's. -/
import Derived.Test.YtjnaicgmfnhjeaaLateU
import Derived.Test.YtjnaicgmfnhjeaaLateQS
namespace Go.Proofs.Ytjnaicgmfnhjeaa
open Go.RowKit
theorem runR_all (js : List J) : runR js (js.length : Int) = plainL js := by
  unfold runR; rw [ruled4, decide_eq_true (by omega), Bool.and_true]
theorem ret_nilP {w w1 : World} {r : List Pr × Bool} (hr : r = ([], false)) (hb : Below w.heap.size w w1) (e : Ending) (he : e = .returned (.tuple #[.slice none 0 0, .bool false])) : RetPB w r e w1 := by
  subst hr he
  exact ⟨none, 0, rfl, Seg.of_own (World.ownsRow_nil _ _ _ _), hb⟩
theorem ret_nilI {w w1 : World} {r : List Int × Bool} (hr : r = ([], false)) (hb : Below w.heap.size w w1) (e : Ending) (he : e = .returned (.tuple #[.slice none 0 0, .bool false])) : RetIB w r e w1 := by
  subst hr he
  exact ⟨none, 0, rfl, Seg.of_own (World.ownsRow_nil _ _ _ _), hb⟩
theorem ret_ownR {w w' : World} {r : List Int × Bool} {p : List Nat} {v : Value} {n : Nat} (hr : r = (natI p, true)) (hn : p.length = n) (ho : w'.ownsRow w.heap.size 3 1 v n (ic (natI p))) (hb : Below w.heap.size w w') (e : Ending) (he : e = .returned (.tuple #[v, .bool true])) : RetIB w r e w' := by
  subst hr hn
  obtain ⟨A, c, rfl, hs⟩ := seg_out ho
  subst he
  refine ⟨A, c, by rw [List.length_map], ?_, hb⟩
  rw [List.length_map]
  exact hs
theorem ret_emptyZ {w w1 : World} {r : List Int × Bool} {z : Nat} (hr : r = ([], false)) (hb : Below w.heap.size w w1) (hz : w1.heap.size = z) (e : Ending) (he : e = .returned (.tuple #[.slice (some ⟨z, 0, none⟩) 0 0, .bool false])) : RetIB w r e (w1.alloc (.cells #[] 3)) := by
  subst hz
  exact ret_empty hr hb e he
/-- What a run is put into. -/
theorem run_box (w1 : World) (vt vs : Value) : ∃ W, W = w1.alloc (.cells #[vt, vs] 99) ∧ BlockIs W w1.heap.size 99 #[vt, vs] ∧ Below w1.heap.size w1 W :=
  ⟨_, rfl, BlockIs.new w1 99 #[vt, vs], (Below.refl w1.heap.size w1).alloc (Nat.le_refl _) _⟩
section
variable (A : Option Addr) (c : Nat) (js : List J) (w : World) (hr : Row w A (jc js)) (hn : js.length ≤ 10000000)
include hr hn
set_option maxRecDepth 100000 in
theorem impl_LateSteps : Calls Try.prog 37 #[.slice A js.length c] w (RetPB w (stepsR js)) := by
  have HR : Hid (stepsR js = if plainL js then ((lateGo js js.length).steps, true) else ([], false)) := rfl
  have HRA := Lib.hid (runR_all js)
  have HC := Lib.hid (lateRun_any A c js w hr hn (js.length : Int))
  go_enter Try.func37, Try.ntmps37
  go_wp2_with fail
  refine HC.out.mono ?_
  rintro e w1 ⟨hb1, ⟨hx, rfl⟩ | ⟨hx, vt, vs, rfl, ho1, ho2⟩⟩
  · rw [← HRA.out, hx] at HR
    obtain ⟨W, hW, hK, hbW⟩ := run_box w1 (.slice none 0 0) (.slice none 0 0)
    have hc0 := hK.cell 0
    have hc1 := hK.cell 1
    have HB := Lib.hid (hb1.trans (hbW.mono hb1.size))
    have HW := Lib.hid hW
    rw [hW] at hc0 hc1
    simp only [List.getElem?_toArray, List.getElem?_cons_zero, List.getElem?_cons_succ] at hc0 hc1
    clear hb1 HC hx HRA hW hK hbW
    go_wp2
    rw [← HW.out]
    go_ret2
    exact ret_nilP (by rw [HR.out]; rfl) HB.out _ rfl
  · rw [← HRA.out, hx] at HR
    rw [Int.toNat_natCast] at ho1 ho2
    obtain ⟨At, ct, rfl, _⟩ := own_slice ho1
    obtain ⟨As, cs, rfl, _⟩ := own_slice ho2
    generalize hst : (lateGo js js.length).steps = st at *
    generalize (lateGo js js.length).left.length = m at *
    obtain ⟨W, hW, hK, hbW⟩ := run_box w1 (.slice At m ct) (.slice As st.length cs)
    have hc0 := hK.cell 0
    have hc1 := hK.cell 1
    have HZ := Lib.hid (And.intro (own_blw ho2 hbW) (hb1.trans (hbW.mono hb1.size)))
    have HW := Lib.hid hW
    rw [hW] at hc0 hc1
    simp only [List.getElem?_toArray, List.getElem?_cons_zero, List.getElem?_cons_succ] at hc0 hc1
    clear hb1 ho1 ho2 HC hx HRA hW hK hbW hst
    go_wp2
    rw [← HW.out]
    go_ret2
    exact ret_ownP (by rw [HR.out]; rfl) HZ.out.1 HZ.out.2 _ rfl
set_option maxRecDepth 100000 in
theorem impl_FewestLate : Calls Try.prog 44 #[.slice A js.length c] w (RetNB w (fewR js)) := by
  have HR : Hid (fewR js = if plainL js then (((lateGo js js.length).drop.length : Int), true) else (0, false)) := rfl
  have HRA := Lib.hid (runR_all js)
  have HC := Lib.hid (lateRun_any A c js w hr hn (js.length : Int))
  have HLN := Lib.hid (late_lens js)
  go_enter Try.func44, Try.ntmps44
  go_wp2_with fail
  refine HC.out.mono ?_
  rintro e w1 ⟨hb1, ⟨hx, rfl⟩ | ⟨hx, vt, vs, rfl, ho1, ho2⟩⟩
  · rw [← HRA.out, hx] at HR
    obtain ⟨W, hW, hK, hbW⟩ := run_box w1 (.slice none 0 0) (.slice none 0 0)
    have hc0 := hK.cell 0
    have hc1 := hK.cell 1
    have HB := Lib.hid (hb1.trans (hbW.mono hb1.size))
    have HW := Lib.hid hW
    rw [hW] at hc0 hc1
    simp only [List.getElem?_toArray, List.getElem?_cons_zero, List.getElem?_cons_succ] at hc0 hc1
    clear hb1 HC hx HRA HLN hW hK hbW
    go_wp2
    rw [← HW.out]
    go_ret2
    exact ⟨by rw [HR.out]; rfl, HB.out⟩
  · rw [← HRA.out, hx] at HR
    rw [Int.toNat_natCast] at ho1 ho2
    obtain ⟨At, ct, rfl, _⟩ := own_slice ho1
    obtain ⟨As, cs, rfl, _⟩ := own_slice ho2
    obtain ⟨l1, l2⟩ := HLN.out
    clear HLN
    generalize hst : (lateGo js js.length).steps.length = st at *
    generalize hlf : (lateGo js js.length).left.length = m at *
    generalize hdr : (lateGo js js.length).drop.length = dd at *
    obtain ⟨W, hW, hK, hbW⟩ := run_box w1 (.slice At m ct) (.slice As st cs)
    have hc0 := hK.cell 0
    have hc1 := hK.cell 1
    have HB := Lib.hid (hb1.trans (hbW.mono hb1.size))
    have HW := Lib.hid hW
    rw [hW] at hc0 hc1
    simp only [List.getElem?_toArray, List.getElem?_cons_zero, List.getElem?_cons_succ] at hc0 hc1
    have hn1 := IntWalk.i64_in ((st : Int) - (m : Int)) (by omega)
    have HD : Hid (((st : Int) - (m : Int)) = (dd : Int)) := by show _ = _; omega
    clear l1 l2 hst hlf hdr hb1 ho1 ho2 HC hx HRA hW hK hbW
    go_wp2
    rw [← HW.out]
    go_ret2
    exact ⟨by rw [HR.out, HD.out]; rfl, HB.out⟩
end
end Go.Proofs.Ytjnaicgmfnhjeaa
