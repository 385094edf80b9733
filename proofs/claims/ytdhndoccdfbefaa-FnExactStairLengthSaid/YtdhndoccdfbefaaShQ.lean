/- Staircases: what they are, in the model and in the program. -/
import Derived.Test.YtdhndoccdfbefaaShS
namespace Go.Proofs.Ytdhndoccdfbefaa
open Go.RowKit

/-- Ascending numbers. -/
def upP (st : List Int) : Prop := ∀ i, i < st.length - 1 → st.getD i 0 ≤ st.getD (i + 1) 0
instance (st : List Int) : Decidable (upP st) := by unfold upP; infer_instance
def upB (st : List Int) : Bool := decide (upP st)
def stairP (xss : List (List Int)) (st : List Int) : Prop := st.length = mOf xss ∧ upP st ∧ 0 ≤ st.getD 0 0 ∧ st.getD (st.length - 1) 0 = (xss.length : Int) - 1
instance (xss : List (List Int)) (st : List Int) : Decidable (stairP xss st) := by unfold stairP; infer_instance
def stairB (xss : List (List Int)) (st : List Int) : Bool := decide (stairP xss st)
theorem up_mono {st : List Int} (h : upP st) : ∀ d i, i + d < st.length → st.getD i 0 ≤ st.getD (i + d) 0 := by
  intro d
  induction d with
  | zero => intro i _; exact Int.le_refl _
  | succ d ih =>
    intro i hi
    have h1 := ih i (by omega)
    have h2 := h (i + d) (by omega)
    rw [show i + (d + 1) = i + d + 1 by omega]
    omega
theorem stair_in {xss : List (List Int)} {st : List Int} (h : stairP xss st) {i : Nat} (hi : i < st.length) : 0 ≤ st.getD i 0 ∧ st.getD i 0 ≤ (xss.length : Int) - 1 := by
  obtain ⟨_, h2, h3, h4⟩ := h
  have a := up_mono h2 i 0 (by omega)
  have b := up_mono h2 (st.length - 1 - i) i (by omega)
  rw [Nat.zero_add] at a
  rw [show i + (st.length - 1 - i) = st.length - 1 by omega, h4] at b
  omega
theorem stair_yes {xss : List (List Int)} {st : List Int} (h : stairP xss st) : stairB xss st = true := decide_eq_true h
theorem stair_no {xss : List (List Int)} {st : List Int} (h : ¬ stairP xss st) : stairB xss st = false := decide_eq_false h
theorem int_at {w : World} {A : Option Addr} {xs : List Int} (hr : Row w A (ic xs)) {k : Nat} (hk : k < xs.length) : ∃ ad, A = some ad ∧ w.cell? (ad.add k) = some (.int .i64 (xs.getD k 0)) := by
  obtain ⟨ad, hA, hc⟩ := hr.at_ (k := k) (by rw [ic_len]; exact hk)
  rw [ic_get _ k hk] at hc
  refine ⟨ad, hA, ?_⟩
  rw [hc]
  simp [List.getD, hk]
set_option maxRecDepth 100000 in
set_option maxHeartbeats 4000000 in
theorem l8Stair_any (A : Option Addr) (c : Nat) (B : Option Addr) (d : Nat) (xss : List (List Int)) (st : List Int) (w : World) (hr : RowSS w A (xss.map ic)) (hq : Row w B (ic st)) (hs : Shop xss) (hn : xss.length ≤ 10000000 ∧ totL xss ≤ 10000000) (hm : st.length ≤ 10000000) :
    Calls Try.prog 58 #[.slice A xss.length c, .slice B st.length d] w fun e w' => e = .returned (.bool (stairB xss st)) ∧ ∃ q, w' = w.drewN q := by
  have HM := Lib.hid (fun n => l8Machines_any A c xss (w.drewN n) hr hn)
  have HROW := Lib.hid (fun k (hk : k < st.length) => int_at hq hk)
  have h8 := hs.n8
  have hM1 := hs.m1
  have hM3 := hs.m3
  have hwn := IntWalk.i64_in ((xss.length : Int) - 1) (by omega)
  clear hr hq hs
  go_enter Try.func58, Try.ntmps58
  go_wp2
  go_loopw [5] (fun i wr => ∃ k q : Nat, k ≤ st.length ∧ i = .int .i64 k ∧ Hid (∀ i, i < k → (0 ≤ st.getD i 0 ∧ st.getD i 0 ≤ (xss.length : Int) - 1) ∧ (0 < i → st.getD (i - 1) 0 ≤ st.getD i 0)) ∧ wr = w.drewN q) (fun i _ => st.length - (intOf i).toNat)
  case atStart => exact ⟨0, 0, Nat.zero_le _, rfl, fun _ h => absurd h (by omega), rfl⟩
  case round =>
    obtain ⟨k, q, hk, rfl, hA, rfl⟩ := hrel
    by_cases hlt : k < st.length
    · obtain ⟨ao, hB, hco⟩ := HROW.out k hlt
      subst hB
      have hi0 : (0 : Int) ≤ k := by omega
      have hi1 : (k : Int) < st.length := by omega
      by_cases hin : 0 ≤ st.getD k 0 ∧ st.getD k 0 ≤ (xss.length : Int) - 1
      · have HIN := Lib.hid (fun w => inB_yes hin.1 hin.2 ▸ l1In_any (st.getD k 0) 0 ((xss.length : Int) - 1) w)
        by_cases hk0 : k = 0
        · have HS : Hid (∀ i, i < k + 1 → (0 ≤ st.getD i 0 ∧ st.getD i 0 ≤ (xss.length : Int) - 1) ∧ (0 < i → st.getD (i - 1) 0 ≤ st.getD i 0)) := fun i hi => by
            obtain rfl : i = k := by omega
            exact ⟨hin, fun h => by omega⟩
          have hk2 : ¬ (0 : Int) < k := by omega
          have hk3 : decide (0 < k) = false := decide_eq_false (by omega)
          have hk4 : ¬ 0 < k := by omega
          clear hk0 hin hA
          generalize st.getD k 0 = s at *
          go_wp2
          go_quiet ((go_at_call 70; (first | exact quiet_same (HIN.out _) | exact Calls.quiet_of ((HIN.out _).mono fun _ _ h => ⟨h.1, 0, h.2.symm⟩))))
          go_wp2
          go_roundw
          case rel => exact ⟨k + 1, _, by omega, by go_num, HS.out, rfl⟩
          case measure => simp [intOf]; omega
        · obtain ⟨z, hz⟩ : ∃ z, k = z + 1 := ⟨k - 1, by omega⟩
          obtain ⟨ao', hB', hcp⟩ := HROW.out z (by omega)
          injection hB' with hB'
          subst hB'
          have hkz : (k : Int) - 1 = z := by omega
          have hwz := IntWalk.i64_in (z : Int) (by omega)
          have hk2 : (0 : Int) < k := by omega
          have hk3 : decide (0 < k) = true := decide_eq_true (by omega)
          have hk4 : 0 < k := by omega
          have hz0 : (0 : Int) ≤ z := by omega
          have hz1 : (z : Int) < st.length := by omega
          by_cases hle : st.getD z 0 ≤ st.getD k 0
          · have HS : Hid (∀ i, i < k + 1 → (0 ≤ st.getD i 0 ∧ st.getD i 0 ≤ (xss.length : Int) - 1) ∧ (0 < i → st.getD (i - 1) 0 ≤ st.getD i 0)) := fun i hi => by
              by_cases e : i = k
              · subst e
                exact ⟨hin, fun _ => by rw [show i - 1 = z by omega]; exact hle⟩
              · exact hA.out i (by omega)
            have hcmp : decide (st.getD k 0 < st.getD z 0) = false := decide_eq_false (by omega)
            clear hk0 hin hA hz hle
            generalize st.getD k 0 = s at *
            generalize st.getD z 0 = s1 at *
            go_wp2
            go_quiet ((go_at_call 70; (first | exact quiet_same (HIN.out _) | exact Calls.quiet_of ((HIN.out _).mono fun _ _ h => ⟨h.1, 0, h.2.symm⟩))))
            go_wp2
            go_roundw
            case rel => exact ⟨k + 1, _, by omega, by go_num, HS.out, rfl⟩
            case measure => simp [intOf]; omega
          · have HN : Hid (stairB xss st = false) := stair_no fun h => hle (by
              have := h.2.1 z (by omega)
              rw [hz]; exact this)
            have hcmp : decide (st.getD k 0 < st.getD z 0) = true := decide_eq_true (by omega)
            clear hk0 hin hA hz hle
            generalize st.getD k 0 = s at *
            generalize st.getD z 0 = s1 at *
            go_wp2
            go_quiet ((go_at_call 70; (first | exact quiet_same (HIN.out _) | exact Calls.quiet_of ((HIN.out _).mono fun _ _ h => ⟨h.1, 0, h.2.symm⟩))))
            go_wp2
            go_ret
            exact ⟨by rw [HN.out]; rfl, _, World.drewN_drewN _ _ _⟩
      · have HIN := Lib.hid (fun w => inB_no hin ▸ l1In_any (st.getD k 0) 0 ((xss.length : Int) - 1) w)
        have HN : Hid (stairB xss st = false) := stair_no fun h => hin (stair_in h hlt)
        clear hin hA
        generalize st.getD k 0 = s at *
        go_wp2
        go_quiet ((go_at_call 70; (first | exact quiet_same (HIN.out _) | exact Calls.quiet_of ((HIN.out _).mono fun _ _ h => ⟨h.1, 0, h.2.symm⟩))))
        go_wp2
        go_ret
        exact ⟨by rw [HN.out]; rfl, _, World.drewN_drewN _ _ _⟩
    · obtain rfl : k = st.length := by omega
      have hA' := hA.out
      clear hA
      by_cases hn0 : xss.length = 0
      · have HN : Hid (stairB xss st = false) := stair_no fun h => by
          have := stair_in h (i := 0) (by have := h.1; omega)
          omega
        have hp : ¬ (0 : Int) < xss.length := by omega
        have hp2 : decide ((0 : Int) < xss.length) = false := decide_eq_false hp
        clear hn0 hA'
        go_wp2
        go_ret
        exact ⟨by rw [HN.out]; rfl, _, rfl⟩
      · have hp : (0 : Int) < xss.length := by omega
        have hp2 : decide ((0 : Int) < xss.length) = true := decide_eq_true hp
        by_cases hl : st.length = mOf xss
        · have hlB : ((st.length : Int) == (mOf xss : Nat)) = true := by rw [hl]; simp
          have hlB2 : ((mOf xss : Nat) : Int) = st.length := by omega
          obtain ⟨x, hx⟩ : ∃ x, st.length = x + 1 := ⟨st.length - 1, by omega⟩
          obtain ⟨ao, hB, hco⟩ := HROW.out x (by omega)
          subst hB
          have hx1 : (st.length : Int) - 1 = x := by omega
          have hwx := IntWalk.i64_in (x : Int) (by omega)
          have hx2 : (0 : Int) ≤ x := by omega
          have hx3 : (x : Int) < st.length := by omega
          have HE : Hid (stairB xss st = ((st.getD x 0) == (xss.length : Int) - 1)) := by
            show _ = _
            rw [Bool.eq_iff_iff]
            unfold stairB
            rw [decide_eq_true_iff, beq_iff_eq]
            constructor
            · intro h; rw [← h.2.2.2, hx]; rfl
            · intro h
              refine ⟨hl, fun i hi => ?_, ?_, ?_⟩
              · have := (hA' (i + 1) (by omega)).2 (by omega)
                exact this
              · exact (hA' 0 (by omega)).1.1
              · rw [hx]; exact h
          rw [hlB2] at HM
          clear hn0 hA' hl hlB hlB2 hx
          generalize st.getD x 0 = s at *
          have hbb : ((st.length : Int) == st.length) = true := by simp
          go_wp2_with fail
          refine (HM.out _).mono ?_
          rintro e _ ⟨rfl, q1, rfl⟩
          go_wp2
          go_ret
          exact ⟨by rw [HE.out]; rfl, _, rfl⟩
        · have HN : Hid (stairB xss st = false) := stair_no fun h => hl h.1
          have hlB : ((st.length : Int) == (mOf xss : Nat)) = false := by rw [beq_eq_false_iff_ne]; omega
          generalize mOf xss = Q at *
          clear hn0 hA' hl
          go_wp2_with fail
          refine (HM.out _).mono ?_
          rintro e _ ⟨rfl, q1, rfl⟩
          go_wp2
          go_ret
          exact ⟨by rw [HN.out]; rfl, _, rfl⟩
theorem isNaN_any (x : Int) (w : World) : Calls Try.prog 96 #[.int .i64 x] w fun e w' => e = .returned (.bool false) ∧ w = w' := by
  go_enter Try.func96, Try.ntmps96
  go_wp2
  go_ret
  first | exact ⟨rfl, rfl⟩ | exact ⟨by simp [results, go_sem], rfl⟩
theorem less_any (x y : Int) (w : World) : Calls Try.prog 88 #[.int .i64 x, .int .i64 y] w fun e w' => e = .returned (.bool (decide (x < y))) ∧ w = w' := by
  go_enter Try.func88, Try.ntmps88
  go_wp2_with (go_at_call 96; refine (isNaN_any _ _).mono ?_; rintro e w' ⟨rfl, rfl⟩)
  go_ret
  exact ⟨rfl, rfl⟩
set_option maxRecDepth 100000 in
set_option maxHeartbeats 2000000 in
theorem isSorted_any (B : Option Addr) (d : Nat) (st : List Int) (w : World) (hq : Row w B (ic st)) (hm : st.length ≤ 10000000) :
    Calls Try.prog 76 #[.slice B st.length d] w fun e w' => e = .returned (.bool (upB st)) ∧ ∃ q, w' = w.drewN q := by
  have HROW := Lib.hid (fun k (hk : k < st.length) => int_at hq hk)
  have hwn := IntWalk.i64_in ((st.length : Int) - 1) (by omega)
  clear hq
  go_enter Try.func76, Try.ntmps76
  go_wp2
  go_loopw [3] (fun i wr => ∃ (z : Int) (q : Nat), i = .int .i64 z ∧ -1 ≤ z ∧ z ≤ (st.length : Int) - 1 ∧ Hid (∀ j : Nat, z ≤ j → j < st.length - 1 → st.getD j 0 ≤ st.getD (j + 1) 0) ∧ wr = w.drewN q) (fun i _ => (intOf i).toNat)
  case atStart => exact ⟨_, 0, rfl, by omega, Int.le_refl _, fun j h1 h2 => absurd h1 (by omega), rfl⟩
  case round =>
    obtain ⟨z, q, rfl, hz0, hz1, hA, rfl⟩ := hrel
    by_cases hp : 0 < z
    · obtain ⟨k, rfl⟩ : ∃ k : Nat, z = k := ⟨z.toNat, by omega⟩
      have hk : k < st.length := by omega
      obtain ⟨x, hx⟩ : ∃ x, k = x + 1 := ⟨k - 1, by omega⟩
      obtain ⟨ao, hB, hc1⟩ := HROW.out k hk
      subst hB
      obtain ⟨ao', hB', hc0⟩ := HROW.out x (by omega)
      injection hB' with hB'
      subst hB'
      have hkx : (k : Int) - 1 = x := by omega
      have hwx := IntWalk.i64_in (x : Int) (by omega)
      have hi0 : (0 : Int) ≤ k := by omega
      have hi1 : (k : Int) < st.length := by omega
      have hj0 : (0 : Int) ≤ x := by omega
      have hj1 : (x : Int) < st.length := by omega
      have hk0 : 0 < k := by omega
      by_cases hle : st.getD x 0 ≤ st.getD k 0
      · have HS : Hid (∀ j : Nat, (x : Int) ≤ j → j < st.length - 1 → st.getD j 0 ≤ st.getD (j + 1) 0) := fun j h1 h2 => by
          by_cases e : j = x
          · subst e; rw [← hx]; exact hle
          · exact hA.out j (by omega) h2
        have hcmp : decide (st.getD k 0 < st.getD x 0) = false := decide_eq_false (by omega)
        clear hA hx hle
        generalize st.getD k 0 = s at *
        generalize st.getD x 0 = s1 at *
        have HLS := Lib.hid (fun w => hcmp ▸ less_any s s1 w)
        clear hcmp
        go_wp2
        go_quiet ((go_at_call 88; (first | exact quiet_same (HLS.out _) | exact Calls.quiet_of ((HLS.out _).mono fun _ _ h => ⟨h.1, 0, h.2.symm⟩))))
        go_wp2
        go_roundw
        case rel => exact ⟨x, _, rfl, by omega, by omega, HS.out, rfl⟩
        case measure => simp [intOf]; omega
      · have HN : Hid (upB st = false) := decide_eq_false fun h => hle (by
          have := h x (by omega)
          rw [hx]; exact this)
        have hcmp : decide (st.getD k 0 < st.getD x 0) = true := decide_eq_true (by omega)
        clear hA hx hle
        generalize st.getD k 0 = s at *
        generalize st.getD x 0 = s1 at *
        have HLS := Lib.hid (fun w => hcmp ▸ less_any s s1 w)
        clear hcmp
        go_wp2
        go_quiet ((go_at_call 88; (first | exact quiet_same (HLS.out _) | exact Calls.quiet_of ((HLS.out _).mono fun _ _ h => ⟨h.1, 0, h.2.symm⟩))))
        go_wp2
        go_ret
        exact ⟨by rw [HN.out]; rfl, _, World.drewN_drewN _ _ _⟩
    · have HY : Hid (upB st = true) := decide_eq_true fun i hi => hA.out i (by omega) hi
      clear hA
      go_wp2
      go_ret
      exact ⟨by rw [HY.out]; rfl, _, rfl⟩
set_option maxRecDepth 100000 in
set_option maxHeartbeats 4000000 in
theorem isStaircase_any (A : Option Addr) (c : Nat) (B : Option Addr) (d : Nat) (xss : List (List Int)) (st : List Int) (w : World) (hr : RowSS w A (xss.map ic)) (hq : Row w B (ic st)) (hs : Shop xss) (hn : xss.length ≤ 10000000 ∧ totL xss ≤ 10000000) (hm : st.length ≤ 10000000) :
    Calls Try.prog 60 #[.slice A xss.length c, .slice B st.length d] w fun e w' => e = .returned (.bool (stairB xss st)) ∧ ∃ q, w' = w.drewN q := by
  have HM := Lib.hid (fun n => machines_any A c xss (w.drewN n) hr hn)
  have HJ := Lib.hid (machines_any A c xss w hr hn)
  have HSR := Lib.hid (fun n => isSorted_any B d st (w.drewN n) hq hm)
  have h8 := hs.n8
  have hM1 := hs.m1
  have hM3 := hs.m3
  have hwn := IntWalk.i64_in ((xss.length : Int) - 1) (by omega)
  by_cases hl : st.length = mOf xss
  · have hl2 : ((mOf xss : Nat) : Int) = st.length := by omega
    rw [hl2] at HJ
    have hbb : ((st.length : Int) == st.length) = true := by simp
    obtain ⟨x, hx⟩ : ∃ x, st.length = x + 1 := ⟨st.length - 1, by omega⟩
    obtain ⟨ao, hB, hcx⟩ := int_at hq (k := x) (by omega)
    subst hB
    obtain ⟨ao', hB', hc0⟩ := int_at hq (k := 0) (by omega)
    injection hB' with hB'
    subst hB'
    rw [show ao.add 0 = ao from rfl] at hc0
    have hx1 : (st.length : Int) - 1 = x := by omega
    have hwx := IntWalk.i64_in (x : Int) (by omega)
    have hx2 : (0 : Int) ≤ x := by omega
    have hx3 : (x : Int) < st.length := by omega
    have hx4 : (0 : Int) < st.length := by omega
    have HE : Hid (stairB xss st = (upB st && decide (0 ≤ st.getD 0 0) && (st.getD x 0 == (xss.length : Int) - 1))) := by
      show _ = _
      rw [Bool.eq_iff_iff]
      unfold stairB upB
      rw [Bool.and_eq_true, Bool.and_eq_true, decide_eq_true_iff, decide_eq_true_iff, decide_eq_true_iff, beq_iff_eq]
      unfold stairP
      rw [hx, show x + 1 - 1 = x by omega]
      constructor
      · intro h; exact ⟨⟨h.2.1, h.2.2.1⟩, h.2.2.2⟩
      · intro h; exact ⟨by omega, h.1.1, h.1.2, h.2⟩
    clear hr hq hs HM hl hl2 hx
    generalize st.getD x 0 = sx at *
    generalize st.getD 0 0 = s0 at *
    cases hup : upB st
    · rw [hup] at HSR HE
      clear hup
      go_enter Try.func60, Try.ntmps60
      go_wp2_with fail
      refine HJ.out.mono ?_
      rintro e _ ⟨rfl, q1, rfl⟩
      go_wp2_with fail
      refine (HSR.out _).mono ?_
      rintro e _ ⟨rfl, q2, rfl⟩
      go_wp2
      go_ret
      exact ⟨by rw [HE.out]; rfl, _, by first | rfl | exact World.drewN_drewN _ _ _⟩
    · rw [hup] at HSR HE
      clear hup
      by_cases hs0 : 0 ≤ s0
      · rw [decide_eq_true hs0] at HE
        go_enter Try.func60, Try.ntmps60
        go_wp2_with fail
        refine HJ.out.mono ?_
        rintro e _ ⟨rfl, q1, rfl⟩
        go_wp2_with fail
        refine (HSR.out _).mono ?_
        rintro e _ ⟨rfl, q2, rfl⟩
        go_wp2
        go_ret
        exact ⟨by rw [HE.out]; rfl, _, by first | rfl | exact World.drewN_drewN _ _ _⟩
      · rw [decide_eq_false hs0] at HE
        go_enter Try.func60, Try.ntmps60
        go_wp2_with fail
        refine HJ.out.mono ?_
        rintro e _ ⟨rfl, q1, rfl⟩
        go_wp2_with fail
        refine (HSR.out _).mono ?_
        rintro e _ ⟨rfl, q2, rfl⟩
        go_wp2
        go_ret
        exact ⟨by rw [HE.out]; rfl, _, by first | rfl | exact World.drewN_drewN _ _ _⟩
  · have HN : Hid (stairB xss st = false) := stair_no fun h => hl h.1
    have hlB : ((st.length : Int) == (mOf xss : Nat)) = false := by rw [beq_eq_false_iff_ne]; omega
    generalize mOf xss = Q at *
    clear hr hq hs hl
    go_enter Try.func60, Try.ntmps60
    go_wp2_with fail
    refine HJ.out.mono ?_
    rintro e _ ⟨rfl, q1, rfl⟩
    go_wp2
    go_ret
    exact ⟨by rw [HN.out]; rfl, _, rfl⟩
end Go.Proofs.Ytdhndoccdfbefaa
