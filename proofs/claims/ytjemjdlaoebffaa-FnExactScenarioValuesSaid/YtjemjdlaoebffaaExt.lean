/- The value of some jobs and one more; the value for all ends. -/
import Derived.Test.YtjemjdlaoebffaaCost
import Derived.Test.YtjemjdlaoebffaaBestP
namespace Go.Proofs.Ytjemjdlaoebffaa
open Go.RowKit
set_option maxRecDepth 100000 in
set_option maxHeartbeats 1000000 in
theorem extended_any {B : Nat} {w : World} {o : Int} {fv : Value} (h : FnIs B w o fv) (hB : B ≤ w.heap.size) (ho : isObj o = true) (k : Nat) (hk : k ≤ 8) (v : Int) (hv0 : -500 ≤ v) (hv1 : v ≤ 50000 * k) (j : J) (hj : okJ j = true) (x : Int) (h0 : 0 ≤ x) (h1 : x ≤ 1000) :
    Calls Try.prog 128 #[.agg #[fv, .bool (isTop o)], .int .i64 (k : Int), .int .i64 v, .agg #[.int .i64 j.t, .int .i64 j.w, .int .i64 j.r, .int .i64 j.d], .int .i64 x] w fun e w' => e = .returned (.int .i64 (extOf o k v (costOf o j x))) ∧ Below w.heap.size w w' := by
  obtain ⟨f, caps, rfl, hcf, hcall⟩ := cost_call h
  obtain ⟨c0, c1, _⟩ := cost_bd ho hj h0 h1
  have hc := hcall (((w.alloc (.cells #[.func (.func f) #[] caps, .bool (isTop o)] 140))).alloc (.cells #[.int .i64 j.t, .int .i64 j.w, .int .i64 j.r, .int .i64 j.d] 95)) j x (fun b hb => by
    have b1 : Below w.heap.size w ((w.alloc (.cells #[.func (.func f) #[] caps, .bool (isTop o)] 140)).alloc (.cells #[.int .i64 j.t, .int .i64 j.w, .int .i64 j.r, .int .i64 j.d] 95)) := ((Below.refl _ _).alloc (Nat.le_refl _) _).alloc (by simp) _
    exact b1.block b (by omega)) hj h0 (by omega)
  have HC := Lib.hid hc
  have HE : Hid (extOf o k v (costOf o j x) = if k = 0 then costOf o j x else if isTop o then max v (costOf o j x) else v + costOf o j x) := rfl
  clear hcall hc h hj
  generalize hev : extOf o k v (costOf o j x) = ev at *
  clear hev
  generalize costOf o j x = c at *
  cases ht : isTop o
  · rw [ht] at HC HE
    by_cases hk0 : k = 0
    · subst hk0
      go_enter Try.func128, Try.ntmps128
      go_wp2_with fail
      refine HC.out.mono ?_
      rintro e w2 ⟨rfl, hb2⟩
      have hbw : Below w.heap.size w ((w.alloc (.cells #[.func (.func f) #[] caps, .bool false] 140)).alloc (.cells #[.int .i64 j.t, .int .i64 j.w, .int .i64 j.r, .int .i64 j.d] 95)) := ((Below.refl _ _).alloc (Nat.le_refl _) _).alloc (by simp) _
      have hbx := hbw.trans (hb2.mono (by simp; omega))
      have hM := (((BlockIs.new w 140 #[.func (.func f) #[] caps, .bool false]).below ((Below.refl _ _).alloc (Nat.le_refl _) (.cells #[.int .i64 j.t, .int .i64 j.w, .int .i64 j.r, .int .i64 j.d] 95))).below hb2).cell 1
      simp at hM
      have HX := Lib.hid hbx
      clear hbx hbw hb2 HC hcf
      go_wp2
      go_ret
      exact ⟨by rw [HE.out]; rfl, HX.out⟩
    · skip
      go_enter Try.func128, Try.ntmps128
      go_wp2_with fail
      refine HC.out.mono ?_
      rintro e w2 ⟨rfl, hb2⟩
      have hbw : Below w.heap.size w ((w.alloc (.cells #[.func (.func f) #[] caps, .bool false] 140)).alloc (.cells #[.int .i64 j.t, .int .i64 j.w, .int .i64 j.r, .int .i64 j.d] 95)) := ((Below.refl _ _).alloc (Nat.le_refl _) _).alloc (by simp) _
      have hbx := hbw.trans (hb2.mono (by simp; omega))
      have hM := (((BlockIs.new w 140 #[.func (.func f) #[] caps, .bool false]).below ((Below.refl _ _).alloc (Nat.le_refl _) (.cells #[.int .i64 j.t, .int .i64 j.w, .int .i64 j.r, .int .i64 j.d] 95))).below hb2).cell 1
      simp at hM
      have HX := Lib.hid hbx
      clear hbx hbw hb2 HC hcf
      have hk1 : ((k : Int) == 0) = false := by simp; omega
      have HE' : Hid (ev = v + c) := by show _ = _; rw [HE.out, if_neg hk0]; rfl
      go_wp2
      go_ret
      exact ⟨by rw [HE'.out]; rfl, HX.out⟩
  · rw [ht] at HC HE
    by_cases hk0 : k = 0
    · subst hk0
      go_enter Try.func128, Try.ntmps128
      go_wp2_with fail
      refine HC.out.mono ?_
      rintro e w2 ⟨rfl, hb2⟩
      have hbw : Below w.heap.size w ((w.alloc (.cells #[.func (.func f) #[] caps, .bool true] 140)).alloc (.cells #[.int .i64 j.t, .int .i64 j.w, .int .i64 j.r, .int .i64 j.d] 95)) := ((Below.refl _ _).alloc (Nat.le_refl _) _).alloc (by simp) _
      have hbx := hbw.trans (hb2.mono (by simp; omega))
      have hM := (((BlockIs.new w 140 #[.func (.func f) #[] caps, .bool true]).below ((Below.refl _ _).alloc (Nat.le_refl _) (.cells #[.int .i64 j.t, .int .i64 j.w, .int .i64 j.r, .int .i64 j.d] 95))).below hb2).cell 1
      simp at hM
      have HX := Lib.hid hbx
      clear hbx hbw hb2 HC hcf
      go_wp2
      go_ret
      exact ⟨by rw [HE.out]; rfl, HX.out⟩
    · by_cases hcmp : v < c
      · skip
        go_enter Try.func128, Try.ntmps128
        go_wp2_with fail
        refine HC.out.mono ?_
        rintro e w2 ⟨rfl, hb2⟩
        have hbw : Below w.heap.size w ((w.alloc (.cells #[.func (.func f) #[] caps, .bool true] 140)).alloc (.cells #[.int .i64 j.t, .int .i64 j.w, .int .i64 j.r, .int .i64 j.d] 95)) := ((Below.refl _ _).alloc (Nat.le_refl _) _).alloc (by simp) _
        have hbx := hbw.trans (hb2.mono (by simp; omega))
        have hM := (((BlockIs.new w 140 #[.func (.func f) #[] caps, .bool true]).below ((Below.refl _ _).alloc (Nat.le_refl _) (.cells #[.int .i64 j.t, .int .i64 j.w, .int .i64 j.r, .int .i64 j.d] 95))).below hb2).cell 1
        simp at hM
        have HX := Lib.hid hbx
        clear hbx hbw hb2 HC hcf
        have hk1 : ((k : Int) == 0) = false := by simp; omega
        have HE' : Hid (ev = max v c) := by show _ = _; rw [HE.out, if_neg hk0]; rfl
        have hmx : Hid (max v c = c) := by show _ = _; omega
        go_wp2
        go_ret
        exact ⟨by rw [HE'.out, hmx.out]; rfl, HX.out⟩
      · skip
        go_enter Try.func128, Try.ntmps128
        go_wp2_with fail
        refine HC.out.mono ?_
        rintro e w2 ⟨rfl, hb2⟩
        have hbw : Below w.heap.size w ((w.alloc (.cells #[.func (.func f) #[] caps, .bool true] 140)).alloc (.cells #[.int .i64 j.t, .int .i64 j.w, .int .i64 j.r, .int .i64 j.d] 95)) := ((Below.refl _ _).alloc (Nat.le_refl _) _).alloc (by simp) _
        have hbx := hbw.trans (hb2.mono (by simp; omega))
        have hM := (((BlockIs.new w 140 #[.func (.func f) #[] caps, .bool true]).below ((Below.refl _ _).alloc (Nat.le_refl _) (.cells #[.int .i64 j.t, .int .i64 j.w, .int .i64 j.r, .int .i64 j.d] 95))).below hb2).cell 1
        simp at hM
        have HX := Lib.hid hbx
        clear hbx hbw hb2 HC hcf
        have hk1 : ((k : Int) == 0) = false := by simp; omega
        have HE' : Hid (ev = max v c) := by show _ = _; rw [HE.out, if_neg hk0]; rfl
        have hmx : Hid (max v c = v) := by show _ = _; omega
        go_wp2
        go_ret
        exact ⟨by rw [HE'.out, hmx.out]; rfl, HX.out⟩
end Go.Proofs.Ytjemjdlaoebffaa
