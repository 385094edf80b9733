/- IsShop: the model's side and the program's. -/
import Derived.Test.YtdhndoccdfbefaaDoorShP
namespace Go.Proofs.YtdhndoccdfbefaaDoor
open Go.RowKit

theorem l8Machines_any (A : Option Addr) (c : Nat) (xss : List (List Int)) (w : World) (hr : RowSS w A (xss.map ic)) (hn : xss.length ≤ 10000000 ∧ totL xss ≤ 10000000) :
    Calls Tryd.prog 27 #[.slice A xss.length c] w fun e w' => e = .returned (.int .i64 (mOf xss : Nat)) ∧ ∃ q, w' = w.drewN q := by
  by_cases h : xss.length = 0
  · obtain rfl := List.eq_nil_of_length_eq_zero h
    clear h
    go_enter Tryd.func27, Tryd.ntmps27
    go_wp2
    go_ret
    exact ⟨rfl, 0, rfl⟩
  · obtain ⟨ad, B, d, rfl, hc, _⟩ := hr.at_ (k := 0) (by simp; omega)
    rw [List.getElem_map, ic_len, show ad.add 0 = ad from rfl] at hc
    have he : mOf xss = xss[0].length := by cases xss with
      | nil => simp at h
      | cons x l => rfl
    rw [he]
    clear he hr
    generalize xss[0].length = m at *
    go_enter Tryd.func27, Tryd.ntmps27
    go_wp2
    go_ret
    exact ⟨rfl, 0, rfl⟩
theorem machines_any (A : Option Addr) (c : Nat) (xss : List (List Int)) (w : World) (hr : RowSS w A (xss.map ic)) (hn : xss.length ≤ 10000000 ∧ totL xss ≤ 10000000) :
    Calls Tryd.prog 29 #[.slice A xss.length c] w fun e w' => e = .returned (.int .i64 (mOf xss : Nat)) ∧ ∃ q, w' = w.drewN q := by
  by_cases h : xss.length = 0
  · obtain rfl := List.eq_nil_of_length_eq_zero h
    clear h
    go_enter Tryd.func29, Tryd.ntmps29
    go_wp2
    go_ret
    exact ⟨rfl, 0, rfl⟩
  · obtain ⟨ad, B, d, rfl, hc, _⟩ := hr.at_ (k := 0) (by simp; omega)
    rw [List.getElem_map, ic_len, show ad.add 0 = ad from rfl] at hc
    have he : mOf xss = xss[0].length := by cases xss with
      | nil => simp at h
      | cons x l => rfl
    rw [he]
    clear he hr
    generalize xss[0].length = m at *
    go_enter Tryd.func29, Tryd.ntmps29
    go_wp2
    go_ret
    exact ⟨rfl, 0, rfl⟩
set_option maxHeartbeats 1000000 in
theorem l8Good_any (A : Option Addr) (c : Nat) (xss : List (List Int)) (w : World) (hr : RowSS w A (xss.map ic)) (hn : xss.length ≤ 10000000 ∧ totL xss ≤ 10000000) :
    Calls Tryd.prog 20 #[.slice A xss.length c] w fun e w' => e = .returned (.bool (shopB xss)) ∧ ∃ q, w' = w.drewN q := by
  have hmb := mOf_le xss
  have HM := Lib.hid (l8Machines_any A c xss w hr hn)
  have HL : Hid (∀ k (hk : k < xss.length), xss[k].length ≤ 10000000) := fun k hk => by have := totL_le hk; omega
  generalize hM : mOf xss = M at *
  have HMM := Lib.hid hM
  clear hM
  go_enter Tryd.func20, Tryd.ntmps20
  go_wp2_with fail
  refine HM.out.mono ?_
  rintro e _ ⟨rfl, q0, rfl⟩
  go_wp2
  go_loopw [4] (fun i wr => ∃ k q : Nat, k ≤ xss.length ∧ i = .int .i64 k ∧ Hid (∀ i (hi : i < xss.length), i < k → timesB M xss[i] = true) ∧ wr = w.drewN q) (fun i _ => xss.length - (intOf i).toNat)
  case atStart => exact ⟨0, _, Nat.zero_le _, rfl, fun _ _ h => absurd h (by omega), rfl⟩
  case round =>
    obtain ⟨k, q, hk, rfl, hA, rfl⟩ := hrel
    by_cases hlt : k < xss.length
    · obtain ⟨ad, B, d, hA', hc0, hrow⟩ := hr.at_ (k := k) (by simpa using hlt)
      subst hA'
      rw [List.getElem_map] at hc0 hrow
      rw [ic_len] at hc0
      have hxl := HL.out k hlt
      have HS := Lib.hid (fun h => rowsTo_step hA.out hlt h)
      have HG := Lib.hid (fun h => shopB_bad (List.getElem_mem hlt) (HMM.out ▸ h))
      clear hA hr
      generalize xss[k] = xs at *
      have hi0 : (0 : Int) ≤ k := by omega
      have hi1 : (k : Int) < xss.length := by omega
      have hc0' : (w.drewN q).cell? (ad.add k) = some (.slice B xs.length d) := hc0
      by_cases he : xs.length = M
      · have HE := Lib.hid he
        have he' : (xs.length : Int) = M := by omega
        have hxl2 : M ≤ 10000000 := by omega
        have HE' := Lib.hid he'
        clear he'
        rw [he] at hc0 hc0'
        clear he
        go_wp2
        go_loopw [5] (fun i wr => ∃ k' q' : Nat, k' ≤ M ∧ i = .int .i64 k' ∧ Hid (∀ i (hi : i < xs.length), i < k' → inB xs[i] 0 30 = true) ∧ wr = w.drewN q') (fun i _ => M - (intOf i).toNat)
        case atStart => exact ⟨0, _, Nat.zero_le _, rfl, fun _ _ h => absurd h (by omega), rfl⟩
        case round =>
          obtain ⟨k2, q2, hk2, rfl, hA2, rfl⟩ := hrel
          by_cases hlt2 : k2 < M
          · have hlt3 : k2 < xs.length := by rw [HE.out]; exact hlt2
            obtain ⟨ad2, hB, hc1⟩ := hrow.at_ (k := k2) (by rw [ic_len]; exact hlt3)
            subst hB
            rw [ic_get xs k2 hlt3] at hc1
            have hc1' : (w.drewN q2).cell? (ad2.add k2) = some (.int .i64 xs[k2]) := hc1
            have hc2' : (w.drewN q2).cell? (ad.add k) = some (.slice (some ad2) M d) := hc0
            have hj0 : (0 : Int) ≤ k2 := by omega
            have hj1 : (k2 : Int) < M := by omega
            cases ho : inB xs[k2] 0 30
            · have HG2 := Lib.hid (HG.out (timesB_bad (List.getElem_mem hlt3) ho))
              have HI := Lib.hid (fun w => ho ▸ l1In_any xs[k2] 0 30 w)
              generalize xs[k2] = x at *
              clear ho hA2
              go_wp2_with fail
              refine (HI.out _).mono ?_
              rintro e _ ⟨rfl, rfl⟩
              go_wp2
              go_ret
              exact ⟨by rw [HG2.out]; rfl, _, rfl⟩
            · have HA2 := Lib.hid (numsTo_step hA2.out hlt3 ho)
              have HI := Lib.hid (fun w => ho ▸ l1In_any xs[k2] 0 30 w)
              generalize xs[k2] = x at *
              clear ho hA2
              go_wp2_with fail
              refine (HI.out _).mono ?_
              rintro e _ ⟨rfl, rfl⟩
              go_wp2
              go_roundw
              case rel => exact ⟨k2 + 1, _, by omega, by go_num, HA2.out, rfl⟩
              case measure => simp [intOf]; omega
          · obtain rfl : k2 = M := by omega
            have ho := timesB_mk HE.out (fun i hi => hA2.out i hi (by rw [← HE.out]; exact hi))
            have HA3 := Lib.hid (HS.out ho)
            clear ho hA2
            go_wp2
            go_roundw
            case rel => exact ⟨k + 1, _, by omega, by go_num, HA3.out, rfl⟩
            case measure => simp [intOf]; omega
      · have HG2 := Lib.hid (HG.out (timesB_len he))
        have he' : ¬ (xs.length : Int) = M := by omega
        clear he
        go_wp2
        go_ret
        exact ⟨by rw [HG2.out]; rfl, _, rfl⟩
    · obtain rfl : k = xss.length := by omega
      have hall := shopB_all (by rw [HMM.out]; exact hA.out)
      rw [HMM.out] at hall
      have HALL := Lib.hid hall
      clear hall hA
      by_cases h8 : xss.length ≤ 8
      · by_cases hm : 1 ≤ M ∧ M ≤ 3
        · have HI := Lib.hid (inB_yes (x := M) (a := 1) (b := 3) (by omega) (by omega))
          rw [decide_eq_true h8, decide_eq_true hm] at HALL
          clear hm
          have HI2 := Lib.hid (fun w => HI.out ▸ l1In_any (M : Int) 1 3 w)
          go_wp2_with fail
          refine (HI2.out _).mono ?_
          rintro e _ ⟨rfl, rfl⟩
          go_wp2
          go_ret
          exact ⟨by rw [HALL.out]; rfl, _, rfl⟩
        · have HI := Lib.hid (inB_no (x := M) (a := 1) (b := 3) (by omega))
          rw [decide_eq_true h8, decide_eq_false hm] at HALL
          clear hm
          have HI2 := Lib.hid (fun w => HI.out ▸ l1In_any (M : Int) 1 3 w)
          go_wp2_with fail
          refine (HI2.out _).mono ?_
          rintro e _ ⟨rfl, rfl⟩
          go_wp2
          go_ret
          exact ⟨by rw [HALL.out]; rfl, _, rfl⟩
      · rw [decide_eq_false h8] at HALL
        go_wp2
        go_ret
        exact ⟨by rw [HALL.out]; rfl, _, rfl⟩
def tOk (x : Int) : Bool := inB x 0 30
theorem badT_eq (x : Int) : (!tOk x) = (decide (x < 0) || decide (30 < x)) := by
  unfold tOk inB
  rw [Bool.eq_iff_iff]
  simp
theorem badTime_any (x : Int) (w : World) :
    Calls Tryd.prog 36 #[.int .i64 x] w fun e w' => e = .returned (.bool (!tOk x)) ∧ w = w' := by
  by_cases h : x < 0
  · have H : Hid ((!tOk x) = true) := by show _ = _; rw [badT_eq, decide_eq_true h]; rfl
    go_enter Tryd.func36, Tryd.ntmps36
    go_wp2
    go_ret
    exact ⟨by rw [H.out]; rfl, rfl⟩
  · have H : Hid ((!tOk x) = decide (30 < x)) := by show _ = _; rw [badT_eq, decide_eq_false h]; rfl
    go_enter Tryd.func36, Tryd.ntmps36
    go_wp2
    go_ret
    exact ⟨by rw [H.out]; first | rfl | simp [results, go_sem, h], rfl⟩
/-- An index, or -1 where there is none. -/
def IdxT (xs : List Int) (w : World) (e : Ending) (w' : World) : Prop := ∃ r : Int, e = .returned (.int .i64 r) ∧ (0 ≤ r ↔ xs.all tOk = false) ∧ ∃ q, w' = w.drewN q
theorem indexT_any (A : Option Addr) (c : Nat) (xs : List Int) (w : World) (hr : Row w A (ic xs)) (hn : xs.length ≤ 100000000) :
    Calls Tryd.prog 43 #[.slice A xs.length c, .func (.func 36) #[] #[]] w (IdxT xs w) := by
  go_enter Tryd.func43, Tryd.ntmps43
  go_wp2
  go_loopw [8] (fun i wr => ∃ k q : Nat, k ≤ xs.length ∧ i = .int .i64 k ∧ Hid (∀ i (hi : i < xs.length), i < k → tOk xs[i] = true) ∧ wr = w.drewN q) (fun i _ => xs.length - (intOf i).toNat)
  case atStart => exact ⟨0, 0, Nat.zero_le _, rfl, fun _ _ h => absurd h (by omega), rfl⟩
  case round =>
    obtain ⟨k, q, hk, rfl, hA, rfl⟩ := hrel
    by_cases hlt : k < xs.length
    · obtain ⟨a, hA', hc0⟩ := hr.at_ (k := k) (by rw [ic_len]; exact hlt)
      subst hA'
      rw [ic_get xs k hlt] at hc0
      have hc0' : (w.drewN q).cell? (a.add k) = some (.int .i64 xs[k]) := hc0
      have hi : (0 : Int) ≤ k := by omega
      have hi' : (k : Int) < xs.length := by omega
      have HST := Lib.hid (fun h => lt_step tOk hA.out hlt h)
      have HAB := Lib.hid (fun h => la_bad tOk (List.getElem_mem hlt) h)
      clear hr hA
      generalize xs[k] = x at *
      cases ho : tOk x
      · have HG := Lib.hid (HAB.out ho)
        go_wp2_with fail
        refine (badTime_any x _).mono ?_
        rintro e _ ⟨rfl, rfl⟩
        rw [ho]
        go_wp2
        go_ret
        exact ⟨k, rfl, ⟨fun _ => HG.out, fun _ => by omega⟩, _, rfl⟩
      · have HA := Lib.hid (HST.out ho)
        go_wp2_with fail
        refine (badTime_any x _).mono ?_
        rintro e _ ⟨rfl, rfl⟩
        rw [ho]
        go_wp2
        go_roundw
        case rel => exact ⟨k + 1, _, by omega, by go_num, HA.out, rfl⟩
        case measure => simp [intOf]; omega
    · obtain rfl : k = xs.length := by omega
      have HG := Lib.hid (la_good tOk (fun i hi => hA.out i hi hi))
      clear hA
      go_wp2
      go_ret
      exact ⟨-1, rfl, ⟨fun h => by omega, fun h => by rw [HG.out] at h; cases h⟩, _, rfl⟩
theorem containsT_any (A : Option Addr) (c : Nat) (xs : List Int) (w : World) (hr : Row w A (ic xs)) (hn : xs.length ≤ 100000000) :
    Calls Tryd.prog 35 #[.slice A xs.length c, .func (.func 36) #[] #[]] w fun e w' => e = .returned (.bool (!xs.all tOk)) ∧ ∃ q, w' = w.drewN q := by
  go_enter Tryd.func35, Tryd.ntmps35
  go_wp2_with fail
  refine (indexT_any A c xs _ hr hn).mono ?_
  rintro e _ ⟨r, rfl, hr1, q, rfl⟩
  have H : Hid (decide (0 ≤ r) = !xs.all tOk) := by
    show _ = _
    by_cases h0 : 0 ≤ r
    · rw [decide_eq_true h0, hr1.1 h0]; rfl
    · rw [decide_eq_false h0]
      cases hc : xs.all tOk with
      | true => rfl
      | false => exact absurd (hr1.2 hc) h0
  clear hr1
  go_wp2
  go_ret
  exact ⟨by rw [← H.out]; rfl, q, rfl⟩
theorem areFlowTimes_any (A : Option Addr) (c : Nat) (xs : List Int) (w : World) (hr : Row w A (ic xs)) (hn : xs.length ≤ 100000000) :
    Calls Tryd.prog 30 #[.slice A xs.length c] w fun e w' => e = .returned (.bool (xs.all tOk)) ∧ ∃ q, w' = w.drewN q := by
  have HC := Lib.hid (containsT_any A c xs w hr hn)
  clear hr
  go_enter Tryd.func30, Tryd.ntmps30
  go_wp2_with fail
  refine HC.out.mono ?_
  rintro e _ ⟨rfl, q, rfl⟩
  go_wp2
  go_ret
  exact ⟨rfl, q, rfl⟩
set_option maxHeartbeats 1000000 in
theorem isShop_any (A : Option Addr) (c : Nat) (xss : List (List Int)) (w : World) (hr : RowSS w A (xss.map ic)) (hn : xss.length ≤ 10000000 ∧ totL xss ≤ 10000000) :
    Calls Tryd.prog 22 #[.slice A xss.length c] w fun e w' => e = .returned (.bool (shopB xss)) ∧ ∃ q, w' = w.drewN q := by
  have hmb := mOf_le xss
  have HM := Lib.hid (machines_any A c xss w hr hn)
  have HL : Hid (∀ k (hk : k < xss.length), xss[k].length ≤ 10000000) := fun k hk => by have := totL_le hk; omega
  by_cases h8 : xss.length ≤ 8
  · by_cases hm1 : 1 ≤ mOf xss
    · by_cases hm3 : mOf xss ≤ 3
      · have HD : Hid ((decide (xss.length ≤ 8) && decide (1 ≤ mOf xss ∧ mOf xss ≤ 3)) = true) := by
          show _ = _
          rw [decide_eq_true h8, decide_eq_true ⟨hm1, hm3⟩]; rfl
        generalize hM : mOf xss = M at *
        have HMM := Lib.hid hM
        clear hM
        go_enter Tryd.func22, Tryd.ntmps22
        go_wp2_with fail
        refine HM.out.mono ?_
        rintro e _ ⟨rfl, q0, rfl⟩
        go_wp2
        go_loopw [21] (fun i wr => ∃ k q : Nat, k ≤ xss.length ∧ i = .int .i64 k ∧ Hid (∀ i (hi : i < xss.length), i < k → timesB M xss[i] = true) ∧ wr = w.drewN q) (fun i _ => xss.length - (intOf i).toNat)
        case atStart => exact ⟨0, _, Nat.zero_le _, rfl, fun _ _ h => absurd h (by omega), rfl⟩
        case round =>
          obtain ⟨k, q, hk, rfl, hA, rfl⟩ := hrel
          by_cases hlt : k < xss.length
          · obtain ⟨ad, B, d, hA', hc0, hrow⟩ := hr.at_ (k := k) (by simpa using hlt)
            subst hA'
            rw [List.getElem_map] at hc0 hrow
            rw [ic_len] at hc0
            have hxl := HL.out k hlt
            have HS := Lib.hid (fun h => rowsTo_step hA.out hlt h)
            have HG := Lib.hid (fun h => shopB_bad (List.getElem_mem hlt) (HMM.out ▸ h))
            clear hA hr
            generalize xss[k] = xs at *
            have hi0 : (0 : Int) ≤ k := by omega
            have hi1 : (k : Int) < xss.length := by omega
            have hc0' : (w.drewN q).cell? (ad.add k) = some (.slice B xs.length d) := hc0
            by_cases he : xs.length = M
            · have hne : ¬ ((xs.length : Int) ≠ M) := by omega
              have hEB : ((xs.length : Int) == M) = true := by simp [he]
              have HT := Lib.hid (timesB_eq M xs he)
              have hHE := Lib.hid he
              clear he
              have HF := Lib.hid (fun w h => areFlowTimes_any B d xs w h (by omega))
              have HR := Lib.hid hrow
              cases ho : xs.all tOk
              · have HG2 := Lib.hid (HG.out (HT.out.trans ho))
                go_wp2_with fail
                refine (HF.out (w.drewN q) HR.out).mono ?_
                rintro e _ ⟨rfl, q1, rfl⟩
                rw [ho]
                go_wp2
                go_ret
                exact ⟨by rw [HG2.out]; rfl, _, rfl⟩
              · have HS2 := Lib.hid (HS.out (HT.out.trans ho))
                go_wp2_with fail
                refine (HF.out (w.drewN q) HR.out).mono ?_
                rintro e _ ⟨rfl, q1, rfl⟩
                rw [ho]
                go_wp2
                go_roundw
                case rel => exact ⟨k + 1, _, by omega, by go_num, HS2.out, rfl⟩
                case measure => simp [intOf]; omega
            · have HG2 := Lib.hid (HG.out (timesB_len he))
              have hne : ¬ (xs.length : Int) = M := by omega
              clear he
              go_wp2
              go_ret
              exact ⟨by rw [HG2.out]; rfl, _, rfl⟩
          · obtain rfl : k = xss.length := by omega
            have hall := shopB_all (by rw [HMM.out]; exact hA.out)
            rw [HMM.out, HD.out] at hall
            have HALL := Lib.hid hall
            clear hall hA
            go_wp2
            go_ret
            exact ⟨by rw [HALL.out]; rfl, _, rfl⟩
      · have HG := Lib.hid (shopB_m (xss := xss) (by omega))
        generalize mOf xss = M at *
        clear hr
        go_enter Tryd.func22, Tryd.ntmps22
        go_wp2_with fail
        refine HM.out.mono ?_
        rintro e _ ⟨rfl, q0, rfl⟩
        go_wp2
        go_ret
        exact ⟨by rw [HG.out]; rfl, _, rfl⟩
    · have HG := Lib.hid (shopB_m (xss := xss) (by omega))
      generalize mOf xss = M at *
      clear hr
      go_enter Tryd.func22, Tryd.ntmps22
      go_wp2_with fail
      refine HM.out.mono ?_
      rintro e _ ⟨rfl, q0, rfl⟩
      go_wp2
      go_ret
      exact ⟨by rw [HG.out]; rfl, _, rfl⟩
  · have HG := Lib.hid (shopB_len h8)
    generalize mOf xss = M at *
    clear hr
    go_enter Tryd.func22, Tryd.ntmps22
    go_wp2_with fail
    refine HM.out.mono ?_
    rintro e _ ⟨rfl, q0, rfl⟩
    go_wp2
    go_ret
    exact ⟨by rw [HG.out]; rfl, _, rfl⟩
theorem impl_IsShop (A : Option Addr) (c : Nat) (xss : List (List Int)) (w : World) (hr : RowSS w A (xss.map ic)) (hn : xss.length ≤ 10000000 ∧ totL xss ≤ 10000000) :
    Calls Tryd.prog 22 #[.slice A xss.length c] w fun e w' => e = .returned (.bool (shopB xss)) ∧ Below w.heap.size w w' :=
  (isShop_any A c xss w hr hn).mono fun _ _ ⟨he, _, hw⟩ => ⟨he, hw ▸ below_drewN (Below.refl _ _) _⟩
end Go.Proofs.YtdhndoccdfbefaaDoor
