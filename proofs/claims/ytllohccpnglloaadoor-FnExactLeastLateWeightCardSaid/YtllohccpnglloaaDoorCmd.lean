/- Two jobs compared by due order: the program's. -/
import Derived.Test.YtllohccpnglloaaDoorTot
import Derived.Test.YtllohccpnglloaaDoorDueP
import Derived.StillTailTactics
namespace Go.Proofs.YtllohccpnglloaaDoor
open Go.RowKit
/-- The first number that is not 0. -/
def orL : List Int → Int
  | [] => 0
  | x :: l => if x ≠ 0 then x else orL l
theorem orL_hit : ∀ (l : List Int) (k : Nat) (h : k < l.length), (∀ i (hi : i < l.length), i < k → l[i] = 0) → l[k] ≠ 0 → orL l = l[k]
  | x :: l, 0, _, _, h0 => by simp only [List.getElem_cons_zero] at h0 ⊢; unfold orL; rw [if_pos h0]
  | x :: l, k + 1, h, ha, h0 => by
    have hx := ha 0 (by simp) (by omega)
    simp only [List.getElem_cons_zero] at hx
    unfold orL
    rw [if_neg (fun e => e hx)]
    simp only [List.getElem_cons_succ] at h0 ⊢
    exact orL_hit l k (by simpa using h) (fun i hi hik => by have := ha (i + 1) (by simpa using hi) (by omega); simpa using this) h0
theorem orL_none : ∀ (l : List Int), (∀ i (hi : i < l.length), l[i] = 0) → orL l = 0
  | [], _ => rfl
  | x :: l, ha => by
    have hx := ha 0 (by simp)
    simp only [List.getElem_cons_zero] at hx
    unfold orL
    rw [if_neg (fun e => e hx)]
    exact orL_none l (fun i hi => by have := ha (i + 1) (by simpa using hi); simpa using this)
theorem cmpOr_any (B : Option Addr) (d : Nat) (xs : List Int) (w : World) (hr : Row w B (ic xs)) (hn : xs.length ≤ 1000) :
    Calls Tryd.prog 62 #[.slice B xs.length d] w fun e w' => e = .returned (.int .i64 (orL xs)) ∧ w = w' := by
  go_enter Tryd.func62, Tryd.ntmps62
  go_wp2
  go_loop [8] (fun i => ∃ k : Nat, k ≤ xs.length ∧ i = .int .i64 k ∧ Hid (∀ i (hi : i < xs.length), i < k → xs[i] = 0)) (fun i => xs.length - (intOf i).toNat)
  case atStart => exact ⟨0, Nat.zero_le _, rfl, fun _ _ h => absurd h (by omega)⟩
  case round =>
    obtain ⟨k, hk, rfl, hA⟩ := hrel
    by_cases hlt : k < xs.length
    · obtain ⟨ad, hB, hc⟩ := hr.int hlt
      subst hB
      have hk0 : (0 : Int) ≤ k := by omega
      have hk1 : (k : Int) < xs.length := by omega
      by_cases h0 : xs[k] = 0
      · have HA : Hid (∀ i (hi : i < xs.length), i < k + 1 → xs[i] = 0) := fun i hi hik => by
          by_cases e : i = k
          · subst e; exact h0
          · exact hA.out i hi (by omega)
        have e0 : (xs[k] != 0) = false := by rw [h0]; rfl
        clear h0 hA hr
        generalize xs[k] = x at *
        go_wp2
        go_round
        case rel => exact ⟨k + 1, by omega, by go_num, HA.out⟩
        case measure => simp [intOf]; omega
      · have HO := Lib.hid (orL_hit xs k hlt hA.out h0)
        have e0 : (xs[k] != 0) = true := by simpa using h0
        clear h0 hA hr
        generalize xs[k] = x at *
        go_wp2
        go_ret
        exact ⟨by rw [HO.out]; rfl, rfl⟩
    · obtain rfl : k = xs.length := by omega
      have HO := Lib.hid (orL_none xs (fun i hi => hA.out i hi hi))
      clear hA
      go_wp2
      go_ret
      exact ⟨by rw [HO.out]; rfl, rfl⟩
section
variable (A : Option Addr) (c : Nat) (js : List J) (w : World) (hr : Row w A (jc js)) (hok : ∀ j ∈ js, okJ j = true) (h8 : js.length ≤ 8) (i k : Nat) (hi : i < js.length) (hk : k < js.length)
include hr hok h8 hi hk
set_option maxRecDepth 100000 in
set_option maxHeartbeats 4000000 in
theorem compareDue_any : Calls Tryd.prog 48 #[.slice A js.length c, .int .i64 (i : Int), .int .i64 (k : Int)] w fun e w' => e = .returned (.int .i64 (cmpD js i k)) ∧ Below w.heap.size w w' := by
  obtain ⟨ad, rfl, hadb, a0, a1, a2, a3⟩ := hr.job hi
  obtain ⟨ad', hA', _, b0, b1, b2, b3⟩ := hr.job hk
  injection hA' with hA'
  subst hA'
  have HS : Hid (cmpD js i k = orL [js[i].d - js[k].d, js[i].t - js[k].t, (i : Int) - k]) := by
    show _ = _
    unfold cmpD
    rw [getD_at js j0 hi, getD_at js j0 hk]
    unfold orL orL orL orL
    split
    · rfl
    · split
      · rfl
      · split
        · rfl
        · omega
  obtain ⟨x1, x2, x3, x4, x5, x6, x7, x8⟩ := okJ_out (hok _ (List.getElem_mem hi))
  obtain ⟨y1, y2, y3, y4, y5, y6, y7, y8⟩ := okJ_out (hok _ (List.getElem_mem hk))
  have hi0 : (0 : Int) ≤ i := by omega
  have hi1 : (i : Int) < js.length := by omega
  have hk0 : (0 : Int) ≤ k := by omega
  have hk1 : (k : Int) < js.length := by omega
  clear hr hok
  generalize js[i] = x at *
  generalize js[k] = y at *
  have hbA : Below w.heap.size w (w.alloc (.cells #[.int .i64 (x.d - y.d), .int .i64 (x.t - y.t), .int .i64 ((i : Int) - k)] 3)) := (Below.refl _ _).alloc (Nat.le_refl _) _
  have HR : Hid (Row (w.alloc (.cells #[.int .i64 (x.d - y.d), .int .i64 (x.t - y.t), .int .i64 ((i : Int) - k)] 3)).drew (some ⟨w.heap.size, 0, none⟩) (ic [x.d - y.d, x.t - y.t, (i : Int) - k])) := (Row.new w 3 #[.int .i64 (x.d - y.d), .int .i64 (x.t - y.t), .int .i64 ((i : Int) - k)]).drew
  have HBA := Lib.hid hbA.drew
  clear hbA
  have wr1 := IntWalk.i64_in (x.d - y.d) (by omega)
  have wr2 := IntWalk.i64_in (x.t - y.t) (by omega)
  have wr3 := IntWalk.i64_in ((i : Int) - k) (by omega)
  go_enter Tryd.func48, Tryd.ntmps48
  go_wp2
  go_still_tail 25, (by kernel_rfl)
  go_wp2_with fail
  refine (cmpOr_any _ 3 [x.d - y.d, x.t - y.t, (i : Int) - k] _ HR.out (by simp)).mono ?_
  rintro e _ ⟨rfl, rfl⟩
  go_wp2
  go_ret
  exact ⟨by rw [HS.out]; rfl, HBA.out⟩
end
end Go.Proofs.YtllohccpnglloaaDoor
