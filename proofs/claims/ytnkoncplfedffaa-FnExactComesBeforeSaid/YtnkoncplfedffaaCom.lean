/- ComesBefore: the model's and the program's. -/
import Derived.Test.YtnkoncplfedffaaPln
import Derived.Test.YtnkoncplfedffaaRetBB
namespace Go.Proofs.Ytnkoncplfedffaa
open Go.RowKit
def inN (n : Nat) (i : Int) : Bool := inB i 0 ((n : Int) - 1)
theorem inN_out {n : Nat} {i : Int} (h : inN n i = true) : ∃ k : Nat, i = (k : Int) ∧ k < n := by
  have := inB_out h
  exact ⟨i.toNat, by omega, by omega⟩
theorem inN_not {n : Nat} {i : Int} (h : inN n i = false) : i < 0 ∨ (n : Int) ≤ i := by
  have := inB_not h
  omega
theorem ret_bb {a b c : Bool} (h : a = b) : Ending.returned (.tuple #[.bool a, .bool c]) = .returned (.tuple #[.bool b, .bool c]) := by rw [h]
def befJ (x y : J) : Bool := decide (x.t ≤ y.t ∧ x.d ≤ max y.d y.t)
theorem befJ_one {x y : J} (h : ¬ x.t ≤ y.t) : befJ x y = false := decide_eq_false (fun e => h e.1)
theorem befJ_two {x y : J} (h : x.t ≤ y.t) : befJ x y = decide (x.d ≤ max y.d y.t) := by unfold befJ; rw [decide_eq_decide]; exact ⟨fun e => e.2, fun e => ⟨h, e⟩⟩
def comesR (js : List J) (i k : Int) : Bool × Bool :=
  if plainL js && (inN js.length i && (inN js.length k && decide (i ≠ k))) then (befJ (js.getD i.toNat j0) (js.getD k.toNat j0), true) else (false, false)
theorem l1Most_any (a b : Int) (w : World) :
    Calls Try.prog 38 #[.int .i64 a, .int .i64 b] w fun e w' => e = .returned (.int .i64 (max a b)) ∧ w = w' := by
  by_cases h : b < a
  · have hm := Lib.hid (show max a b = a by omega)
    go_enter Try.func38, Try.ntmps38
    go_wp2
    go_ret
    exact ⟨by rw [hm.out]; rfl, rfl⟩
  · have hm := Lib.hid (show max a b = b by omega)
    go_enter Try.func38, Try.ntmps38
    go_wp2
    go_ret
    exact ⟨by rw [hm.out]; rfl, rfl⟩
section
variable (A : Option Addr) (c : Nat) (js : List J) (i k : Int) (w : World) (hr : Row w A (jc js)) (hn : js.length ≤ 100000000)
include hr hn
set_option maxRecDepth 100000 in
set_option maxHeartbeats 1000000 in
theorem spec_ComesBefore : Calls Try.prog 12 #[.slice A js.length c, .int .i64 i, .int .i64 k] w (RetBB w (comesR js i k)) := by
  have HR : Hid (comesR js i k = if plainL js && (inN js.length i && (inN js.length k && decide (i ≠ k))) then (befJ (js.getD i.toNat j0) (js.getD k.toNat j0), true) else (false, false)) := rfl
  have HI : Hid (inN js.length i = inB i 0 ((js.length : Int) - 1)) := rfl
  have HK : Hid (inN js.length k = inB k 0 ((js.length : Int) - 1)) := rfl
  cases hp : plainL js
  · rw [hp] at HR
    go_enter Try.func12, Try.ntmps12
    go_wp2_with fail
    refine (l6Good_any A c js _ hr hn).mono ?_
    rintro e w1 ⟨rfl, hb1⟩
    rw [hp]
    go_wp2
    go_ret2
    exact ⟨by rw [HR.out]; rfl, hb1⟩
  · rw [hp] at HR
    cases hi : inN js.length i
    · rw [hi] at HR HI
      go_enter Try.func12, Try.ntmps12
      go_wp2_with fail
      refine (l6Good_any A c js _ hr hn).mono ?_
      rintro e w1 ⟨rfl, hb1⟩
      rw [hp]
      go_wp2_with fail
      refine (l1In_any _ _ _ _).mono ?_
      rintro e _ ⟨rfl, rfl⟩
      rw [← HI.out]
      go_wp2
      go_ret2
      exact ⟨by rw [HR.out]; rfl, hb1⟩
    · rw [hi] at HR HI
      cases hk : inN js.length k
      · rw [hk] at HR HK
        go_enter Try.func12, Try.ntmps12
        go_wp2_with fail
        refine (l6Good_any A c js _ hr hn).mono ?_
        rintro e w1 ⟨rfl, hb1⟩
        rw [hp]
        go_wp2_with fail
        refine (l1In_any _ _ _ _).mono ?_
        rintro e _ ⟨rfl, rfl⟩
        rw [← HI.out]
        go_wp2_with fail
        refine (l1In_any k _ _ _).mono ?_
        rintro e _ ⟨rfl, rfl⟩
        rw [← HK.out]
        go_wp2
        go_ret2
        exact ⟨by rw [HR.out]; rfl, hb1⟩
      · rw [hk] at HR HK
        obtain ⟨i, rfl, hil⟩ := inN_out hi
        obtain ⟨k, rfl, hkl⟩ := inN_out hk
        clear hi hk
        by_cases hik : (i : Int) = k
        · have HR2 : Hid (comesR js i k = (false, false)) := by show _ = _; rw [HR.out, hik]; simp
          have e0 : ((i : Int) == (k : Int)) = true := by rw [hik]; simp
          have HIK := Lib.hid hik
          clear hik
          go_enter Try.func12, Try.ntmps12
          go_wp2_with fail
          refine (l6Good_any A c js _ hr hn).mono ?_
          rintro e w1 ⟨rfl, hb1⟩
          rw [hp]
          go_wp2_with fail
          refine (l1In_any _ _ _ _).mono ?_
          rintro e _ ⟨rfl, rfl⟩
          rw [← HI.out]
          go_wp2_with fail
          refine (l1In_any k _ _ _).mono ?_
          rintro e _ ⟨rfl, rfl⟩
          rw [← HK.out]
          go_wp2
          go_ret2
          exact ⟨by rw [HR2.out]; rfl, hb1⟩
        · have HR2 : Hid (comesR js i k = (befJ js[i] js[k], true)) := by
            show _ = _
            rw [HR.out, Int.toNat_natCast, Int.toNat_natCast, getD_at js j0 hil, getD_at js j0 hkl]
            simp [hik]
          have e0 : ((i : Int) == (k : Int)) = false := beq_eq_false_iff_ne.2 hik
          have hi0 : (0 : Int) ≤ i := by omega
          have hi1 : (i : Int) < js.length := by omega
          have hk0 : (0 : Int) ≤ k := by omega
          have hk1 : (k : Int) < js.length := by omega
          clear hik HR
          go_enter Try.func12, Try.ntmps12
          go_wp2_with fail
          refine (l6Good_any A c js _ hr hn).mono ?_
          rintro e w1 ⟨rfl, hb1⟩
          rw [hp]
          go_wp2_with fail
          refine (l1In_any _ _ _ _).mono ?_
          rintro e _ ⟨rfl, rfl⟩
          rw [← HI.out]
          go_wp2_with fail
          refine (l1In_any k _ _ _).mono ?_
          rintro e _ ⟨rfl, rfl⟩
          rw [← HK.out]
          obtain ⟨ad, rfl, hadb, a0, a1, a2, a3⟩ := (hr.below hb1).job hil
          obtain ⟨ad', hA', _, b0, b1, b2, b3⟩ := (hr.below hb1).job hkl
          injection hA' with hA'
          subst hA'
          have HB := Lib.hid hb1
          have HJ1 := Lib.hid (befJ_one (x := js[i]) (y := js[k]))
          have HJ2 := Lib.hid (befJ_two (x := js[i]) (y := js[k]))
          clear hr hb1
          generalize js[i] = x at *
          generalize js[k] = y at *
          by_cases h1 : x.t ≤ y.t
          · have d1 : decide (x.t ≤ y.t) = true := decide_eq_true h1
            have HJ := Lib.hid (HJ2.out h1)
            clear HJ1 HJ2
            go_wp2
            go_quiet ((go_at_call 38; (first | exact quiet_same (l1Most_any _ _ _) | exact Calls.quiet_of ((l1Most_any _ _ _).mono fun _ _ h => ⟨h.1, 0, h.2.symm⟩))))
            all_goals
              go_wp2
              go_ret2
              exact ⟨by rw [HR2.out, HJ.out]; rfl, below_drewN HB.out _⟩
          · have d1 : decide (x.t ≤ y.t) = false := decide_eq_false h1
            have HJ := Lib.hid (HJ1.out h1)
            clear HJ1 HJ2
            go_wp2
            go_quiet (fail)
            all_goals
              go_wp2
              go_ret2
              exact ⟨by rw [HR2.out, HJ.out]; rfl, below_drewN HB.out _⟩
end
section
variable (A : Option Addr) (c : Nat) (js : List J) (i k : Int) (w : World) (hr : Row w A (jc js)) (hn : js.length ≤ 100000000)
include hr hn
set_option maxRecDepth 100000 in
set_option maxHeartbeats 1000000 in
theorem impl_ComesBefore : Calls Try.prog 14 #[.slice A js.length c, .int .i64 i, .int .i64 k] w (RetBB w (comesR js i k)) := by
  have HR : Hid (comesR js i k = if plainL js && (inN js.length i && (inN js.length k && decide (i ≠ k))) then (befJ (js.getD i.toNat j0) (js.getD k.toNat j0), true) else (false, false)) := rfl
  go_enter Try.func14, Try.ntmps14
  go_wp2_with fail
  refine (plainListOf_any A c js w hr hn).mono ?_
  rintro e w1 ⟨hb1, ⟨hp, rfl⟩ | ⟨hp, rfl⟩⟩
  · rw [hp] at HR
    by_cases h0 : min i k < 0
    · have HR2 : Hid (comesR js i k = (false, false)) := by
        show _ = _
        rw [HR.out]
        cases h1 : inN js.length i
        · rfl
        · cases h2 : inN js.length k
          · rfl
          · obtain ⟨_, rfl, _⟩ := inN_out h1
            obtain ⟨_, rfl, _⟩ := inN_out h2
            omega
      go_wp2
      all_goals
        go_ret2
        exact ⟨by rw [HR2.out]; rfl, hb1⟩
    · by_cases h1 : (js.length : Int) ≤ max i k
      · have HR2 : Hid (comesR js i k = (false, false)) := by
          show _ = _
          rw [HR.out]
          cases h1 : inN js.length i
          · rfl
          · cases h2 : inN js.length k
            · rfl
            · obtain ⟨_, rfl, _⟩ := inN_out h1
              obtain ⟨_, rfl, _⟩ := inN_out h2
              omega
        go_wp2
        all_goals
          go_ret2
          exact ⟨by rw [HR2.out]; rfl, hb1⟩
      · obtain ⟨i, rfl⟩ : ∃ n : Nat, i = (n : Int) := ⟨i.toNat, by omega⟩
        obtain ⟨k, rfl⟩ : ∃ n : Nat, k = (n : Int) := ⟨k.toNat, by omega⟩
        have hil : i < js.length := by omega
        have hkl : k < js.length := by omega
        have hni : inN js.length (i : Int) = true := inB_yes (by omega) (by omega)
        have hnk : inN js.length (k : Int) = true := inB_yes (by omega) (by omega)
        rw [hni, hnk] at HR
        clear hni hnk
        by_cases hik : (i : Int) = k
        · have HR2 : Hid (comesR js i k = (false, false)) := by show _ = _; rw [HR.out, hik]; simp
          have e0 : ((i : Int) == (k : Int)) = true := by rw [hik]; simp
          have HIK := Lib.hid hik
          clear hik
          go_wp2
          all_goals
            go_ret2
            exact ⟨by rw [HR2.out]; rfl, hb1⟩
        · have HR2 : Hid (comesR js i k = (befJ js[i] js[k], true)) := by
            show _ = _
            rw [HR.out, Int.toNat_natCast, Int.toNat_natCast, getD_at js j0 hil, getD_at js j0 hkl]
            simp [hik]
          have e0 : ((i : Int) == (k : Int)) = false := beq_eq_false_iff_ne.2 hik
          have hi0 : (0 : Int) ≤ i := by omega
          have hi1 : (i : Int) < js.length := by omega
          have hk0 : (0 : Int) ≤ k := by omega
          have hk1 : (k : Int) < js.length := by omega
          obtain ⟨ad, rfl, hadb, a0, a1, a2, a3⟩ := (hr.below hb1).job hil
          obtain ⟨ad', hA', _, b0, b1, b2, b3⟩ := (hr.below hb1).job hkl
          injection hA' with hA'
          subst hA'
          have HB := Lib.hid hb1
          have HJ1 := Lib.hid (befJ_one (x := js[i]) (y := js[k]))
          have HJ2 := Lib.hid (befJ_two (x := js[i]) (y := js[k]))
          clear hik HR hr hb1
          generalize js[i] = x at *
          generalize js[k] = y at *
          by_cases h2 : x.t ≤ y.t
          · have d1 : decide (x.t ≤ y.t) = true := decide_eq_true h2
            have HJ := Lib.hid (HJ2.out h2)
            clear HJ1 HJ2
            go_wp2
            all_goals go_quiet (fail)
            all_goals
             go_wp2
             all_goals
              go_ret2
              exact ⟨by rw [HR2.out, HJ.out]; first | rfl | exact ret_bb (decide_eq_decide.2 (by omega)), below_drewN HB.out _⟩
          · have d1 : decide (x.t ≤ y.t) = false := decide_eq_false h2
            have HJ := Lib.hid (HJ1.out h2)
            clear HJ1 HJ2
            go_wp2
            all_goals go_quiet (fail)
            all_goals
             go_wp2
             all_goals
              go_ret2
              exact ⟨by rw [HR2.out, HJ.out]; first | rfl | exact ret_bb (decide_eq_decide.2 (by omega)), below_drewN HB.out _⟩
  · rw [hp] at HR
    go_wp2
    go_ret2
    exact ⟨by rw [HR.out]; rfl, hb1⟩
end
end Go.Proofs.Ytnkoncplfedffaa
