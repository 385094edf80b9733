/- The model's choice of a job. -/
import Derived.Test.YtnkoncplfedffaaChoP
import Derived.Test.YtnkoncplfedffaaGre
namespace Go.Proofs.Ytnkoncplfedffaa
open Go.RowKit
theorem chP_zero {js : List J} {R : List Int} {now : Int} {k : Nat} (hkR : k < R.length) (h : R[k] = 0) : chOk js R now k = false := by unfold chOk; rw [getD_at R 0 hkR, h]; simp
theorem chP_late {js : List J} {R : List Int} {now : Int} {k : Nat} (hk : k < js.length) (h : now < js[k].r) : chOk js R now k = false := by unfold chOk; rw [getD_at js j0 hk, decide_eq_false (p := js[k].r ≤ now) (by omega), Bool.and_false]
theorem chP_yes {js : List J} {R : List Int} {now : Int} {k : Nat} (hk : k < js.length) (hkR : k < R.length) (h : R[k] ≠ 0) (h2 : ¬ now < js[k].r) : chOk js R now k = true := by unfold chOk; rw [getD_at js j0 hk, getD_at R 0 hkR, decide_eq_true h, decide_eq_true (p := js[k].r ≤ now) (by omega)]; rfl
theorem chRk_two {js : List J} {R : List Int} {k : Nat} (hkR : k < R.length) : chRk js 2 R k = R[k] := by unfold chRk; rw [if_pos rfl, getD_at R 0 hkR]
theorem chRk_four {js : List J} {R : List Int} {k : Nat} (hk : k < js.length) : chRk js 4 R k = js[k].d := by unfold chRk; rw [if_neg (by decide), dueN_at hk]
section
variable (A B : Option Addr) (c d : Nat) (js : List J) (R : List Int) (now : Int) (w : World) (hr : Row w A (jc js)) (hq : Row w B (ic R)) (hlen : R.length = js.length) (hn : js.length ≤ 8)
include hr hq hlen hn
set_option maxRecDepth 100000 in
set_option maxHeartbeats 2000000 in
theorem l5Pick_2 : Calls Try.prog 71 #[.slice A js.length c, .slice B js.length d, .int .i64 now, .int .i64 2] w fun e w' => e = .returned (.int .i64 (chPick js 2 R now)) ∧ ∃ m, w' = w.drewN m := by
  have HL := Lib.hid hlen
  have HE : Hid (chPick js 2 R now = pickTo (chOk js R now) (chRk js 2 R) js.length) := rfl
  have HP0 : Hid (pickTo (chOk js R now) (chRk js 2 R) 0 = -1) := rfl
  clear hlen
  go_enter Try.func71, Try.ntmps71
  go_wp2
  go_loopw [9, 10] (fun b i wr => ∃ (k m : Nat) (P : Int), k ≤ js.length ∧ i = .int .i64 (k : Int) ∧ b = .int .i64 P ∧ Hid (pickTo (chOk js R now) (chRk js 2 R) k = P) ∧ wr = w.drewN m) (fun _ i _ => js.length - (intOf i).toNat)
  case atStart => exact ⟨0, 0, -1, Nat.zero_le _, rfl, rfl, HP0, rfl⟩
  case round =>
    obtain ⟨k, m, P, hk, rfl, rfl, hP, rfl⟩ := hrel
    clear HP0
    by_cases hlt : k < js.length
    · have hk0 : (0 : Int) ≤ k := by omega
      have hk1 : (k : Int) < js.length := by omega
      have hkR : k < R.length := by rw [HL.out]; exact hlt
      obtain ⟨ad, hA, hbl, e0, e1, e2, e3⟩ := hr.job hlt
      subst hA
      obtain ⟨rd, hB, o1⟩ := hq.int hkR
      subst hB
      by_cases hz : R[k] = 0
      · have HN : Hid (pickTo (chOk js R now) (chRk js 2 R) (k + 1) = P) := (pickTo_no (chP_zero hkR hz)).trans hP.out
        rw [hz] at o1
        clear hP hr hq hz
        generalize js[k] = j at *
        go_wp2
        go_roundw
        case rel => exact ⟨k + 1, _, P, by omega, by go_num, rfl, HN, rfl⟩
        case measure => simp [intOf]; omega
      · have b1 : (R[k] == 0) = false := by rw [beq_eq_false_iff_ne]; exact hz
        have b2 : decide (R[k] = 0) = false := decide_eq_false hz
        by_cases hl : now < js[k].r
        · have d1 : decide (now < js[k].r) = true := decide_eq_true hl
          have HN : Hid (pickTo (chOk js R now) (chRk js 2 R) (k + 1) = P) := (pickTo_no (chP_late hlt hl)).trans hP.out
          clear hP hr hq hz
          generalize js[k] = j at *
          generalize R[k] = x at *
          go_wp2
          go_roundw
          case rel => exact ⟨k + 1, _, P, by omega, by go_num, rfl, HN, rfl⟩
          case measure => simp [intOf]; omega
        · have d1 : decide (now < js[k].r) = false := decide_eq_false hl
          have hok := chP_yes hlt hkR hz hl
          rcases pickTo_spec (chOk js R now) (chRk js 2 R) k with ⟨hp, _⟩ | ⟨b, hp, hb, _, _⟩
          · have HN := Lib.hid (pickTo_first hok (by rw [hp]; omega) (rk := chRk js 2 R))
            rw [hP.out] at hp
            subst hp
            clear hP hr hq hok hz
            generalize js[k] = j at *
            generalize R[k] = x at *
            go_wp2
            go_quiet (fail)
            go_wp2
            go_roundw
            case rel => exact ⟨k + 1, _, (k : Int), by omega, by go_num, rfl, HN, rfl⟩
            case measure => simp [intOf]; omega
          · have hbl2 : b < js.length := by omega
            have hbR : b < R.length := by rw [HL.out]; exact hbl2
            obtain ⟨ad', hA', _, g0, g1, g2, g3⟩ := hr.job hbl2
            injection hA' with hA'
            subst hA'
            obtain ⟨rd', hB', o2⟩ := hq.int hbR
            injection hB' with hB'
            subst hB'
            have hb0 : (0 : Int) ≤ b := by omega
            have hb1 : (b : Int) < js.length := by omega
            have d3 : decide ((b : Int) < 0) = false := decide_eq_false (by omega)
            by_cases hd : R[k] < R[b]
            · have d2 : decide (R[k] < R[b]) = true := decide_eq_true hd
              have HN := Lib.hid (pickTo_less hok hp (by rw [chRk_two hkR, chRk_two hbR]; exact hd))
              rw [hP.out] at hp
              subst hp
              clear hP hr hq hok hz
              generalize js[k] = j at *
              generalize js[b] = jb at *
              generalize R[k] = x at *
              generalize R[b] = y at *
              go_wp2
              go_quiet (fail)
              go_wp2
              go_roundw
              case rel => exact ⟨k + 1, _, (k : Int), by omega, by go_num, rfl, HN, rfl⟩
              case measure => simp [intOf]; omega
            · have d2 : decide (R[k] < R[b]) = false := decide_eq_false hd
              have HN := Lib.hid (pickTo_keep hp (by rw [chRk_two hkR, chRk_two hbR]; exact hd))
              rw [hP.out] at hp
              subst hp
              clear hP hr hq hok hz
              generalize js[k] = j at *
              generalize js[b] = jb at *
              generalize R[k] = x at *
              generalize R[b] = y at *
              go_wp2
              go_quiet (fail)
              go_wp2
              go_roundw
              case rel => exact ⟨k + 1, _, (b : Int), by omega, by go_num, rfl, HN, rfl⟩
              case measure => simp [intOf]; omega
    · obtain rfl : k = js.length := by omega
      have HR : Hid (chPick js 2 R now = P) := HE.out.trans hP.out
      clear hP
      go_wp2
      go_ret
      exact ⟨by rw [HR.out]; rfl, _, rfl⟩
set_option maxRecDepth 100000 in
set_option maxHeartbeats 2000000 in
theorem l5Pick_4 : Calls Try.prog 71 #[.slice A js.length c, .slice B js.length d, .int .i64 now, .int .i64 4] w fun e w' => e = .returned (.int .i64 (chPick js 4 R now)) ∧ ∃ m, w' = w.drewN m := by
  have HL := Lib.hid hlen
  have HE : Hid (chPick js 4 R now = pickTo (chOk js R now) (chRk js 4 R) js.length) := rfl
  have HP0 : Hid (pickTo (chOk js R now) (chRk js 4 R) 0 = -1) := rfl
  clear hlen
  go_enter Try.func71, Try.ntmps71
  go_wp2
  go_loopw [9, 10] (fun b i wr => ∃ (k m : Nat) (P : Int), k ≤ js.length ∧ i = .int .i64 (k : Int) ∧ b = .int .i64 P ∧ Hid (pickTo (chOk js R now) (chRk js 4 R) k = P) ∧ wr = w.drewN m) (fun _ i _ => js.length - (intOf i).toNat)
  case atStart => exact ⟨0, 0, -1, Nat.zero_le _, rfl, rfl, HP0, rfl⟩
  case round =>
    obtain ⟨k, m, P, hk, rfl, rfl, hP, rfl⟩ := hrel
    clear HP0
    by_cases hlt : k < js.length
    · have hk0 : (0 : Int) ≤ k := by omega
      have hk1 : (k : Int) < js.length := by omega
      have hkR : k < R.length := by rw [HL.out]; exact hlt
      obtain ⟨ad, hA, hbl, e0, e1, e2, e3⟩ := hr.job hlt
      subst hA
      obtain ⟨rd, hB, o1⟩ := hq.int hkR
      subst hB
      by_cases hz : R[k] = 0
      · have HN : Hid (pickTo (chOk js R now) (chRk js 4 R) (k + 1) = P) := (pickTo_no (chP_zero hkR hz)).trans hP.out
        rw [hz] at o1
        clear hP hr hq hz
        generalize js[k] = j at *
        go_wp2
        go_roundw
        case rel => exact ⟨k + 1, _, P, by omega, by go_num, rfl, HN, rfl⟩
        case measure => simp [intOf]; omega
      · have b1 : (R[k] == 0) = false := by rw [beq_eq_false_iff_ne]; exact hz
        have b2 : decide (R[k] = 0) = false := decide_eq_false hz
        by_cases hl : now < js[k].r
        · have d1 : decide (now < js[k].r) = true := decide_eq_true hl
          have HN : Hid (pickTo (chOk js R now) (chRk js 4 R) (k + 1) = P) := (pickTo_no (chP_late hlt hl)).trans hP.out
          clear hP hr hq hz
          generalize js[k] = j at *
          generalize R[k] = x at *
          go_wp2
          go_roundw
          case rel => exact ⟨k + 1, _, P, by omega, by go_num, rfl, HN, rfl⟩
          case measure => simp [intOf]; omega
        · have d1 : decide (now < js[k].r) = false := decide_eq_false hl
          have hok := chP_yes hlt hkR hz hl
          rcases pickTo_spec (chOk js R now) (chRk js 4 R) k with ⟨hp, _⟩ | ⟨b, hp, hb, _, _⟩
          · have HN := Lib.hid (pickTo_first hok (by rw [hp]; omega) (rk := chRk js 4 R))
            rw [hP.out] at hp
            subst hp
            clear hP hr hq hok hz
            generalize js[k] = j at *
            generalize R[k] = x at *
            go_wp2
            go_quiet (fail)
            go_wp2
            go_roundw
            case rel => exact ⟨k + 1, _, (k : Int), by omega, by go_num, rfl, HN, rfl⟩
            case measure => simp [intOf]; omega
          · have hbl2 : b < js.length := by omega
            have hbR : b < R.length := by rw [HL.out]; exact hbl2
            obtain ⟨ad', hA', _, g0, g1, g2, g3⟩ := hr.job hbl2
            injection hA' with hA'
            subst hA'
            obtain ⟨rd', hB', o2⟩ := hq.int hbR
            injection hB' with hB'
            subst hB'
            have hb0 : (0 : Int) ≤ b := by omega
            have hb1 : (b : Int) < js.length := by omega
            have d3 : decide ((b : Int) < 0) = false := decide_eq_false (by omega)
            by_cases hd : js[k].d < js[b].d
            · have d2 : decide (js[k].d < js[b].d) = true := decide_eq_true hd
              have HN := Lib.hid (pickTo_less hok hp (by rw [chRk_four hlt, chRk_four hbl2]; exact hd))
              rw [hP.out] at hp
              subst hp
              clear hP hr hq hok hz
              generalize js[k] = j at *
              generalize js[b] = jb at *
              generalize R[k] = x at *
              generalize R[b] = y at *
              go_wp2
              go_quiet (fail)
              go_wp2
              go_roundw
              case rel => exact ⟨k + 1, _, (k : Int), by omega, by go_num, rfl, HN, rfl⟩
              case measure => simp [intOf]; omega
            · have d2 : decide (js[k].d < js[b].d) = false := decide_eq_false hd
              have HN := Lib.hid (pickTo_keep hp (by rw [chRk_four hlt, chRk_four hbl2]; exact hd))
              rw [hP.out] at hp
              subst hp
              clear hP hr hq hok hz
              generalize js[k] = j at *
              generalize js[b] = jb at *
              generalize R[k] = x at *
              generalize R[b] = y at *
              go_wp2
              go_quiet (fail)
              go_wp2
              go_roundw
              case rel => exact ⟨k + 1, _, (b : Int), by omega, by go_num, rfl, HN, rfl⟩
              case measure => simp [intOf]; omega
    · obtain rfl : k = js.length := by omega
      have HR : Hid (chPick js 4 R now = P) := HE.out.trans hP.out
      clear hP
      go_wp2
      go_ret
      exact ⟨by rw [HR.out]; rfl, _, rfl⟩
end
end Go.Proofs.Ytnkoncplfedffaa
