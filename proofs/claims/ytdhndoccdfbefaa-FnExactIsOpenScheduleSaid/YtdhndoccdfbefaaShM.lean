/- MiddleIsShort: the model's side and the program's; pairs of machines. -/
import Derived.Test.YtdhndoccdfbefaaShG
import Derived.Test.YtdhndoccdfbefaaRetBB
namespace Go.Proofs.Ytdhndoccdfbefaa
open Go.RowKit

def underB (xss : List (List Int)) (a b : Nat) : Bool := xss.all fun xs => xss.all fun ys => decide (xs.getD a 0 ≤ ys.getD b 0)
/-- A shop that has m machines, or no jobs. -/
def onB (xss : List (List Int)) (m : Nat) : Bool := shopB xss && (decide (xss.length = 0) || decide (mOf xss = m))
def midR (xss : List (List Int)) : Bool × Bool := (onB xss 3 && (underB xss 1 0 || underB xss 1 2), onB xss 3)
theorem onB_out {xss : List (List Int)} {m : Nat} (h : onB xss m = true) : Shop xss ∧ (xss.length = 0 ∨ mOf xss = m) := by
  unfold onB at h
  simp only [Bool.and_eq_true, Bool.or_eq_true, decide_eq_true_iff] at h
  exact ⟨shopB_out h.1, h.2⟩
theorem on_shop {xss : List (List Int)} {m : Nat} (h : shopB xss = true) (hm : xss.length = 0 ∨ mOf xss = m) : onB xss m = true := by
  unfold onB
  simp only [Bool.and_eq_true, Bool.or_eq_true, decide_eq_true_iff]
  exact ⟨h, hm⟩
theorem on_no {xss : List (List Int)} {m : Nat} (h : shopB xss = false) : onB xss m = false := by
  unfold onB; rw [h]; rfl
theorem on_not {xss : List (List Int)} {m : Nat} (h0 : xss.length ≠ 0) (hm : mOf xss ≠ m) : onB xss m = false := by
  unfold onB; rw [decide_eq_false h0, decide_eq_false hm, Bool.or_false, Bool.and_false]
/-- The first row of a shop with jobs. -/
theorem row0 {w : World} {A : Option Addr} {xss : List (List Int)} (hr : RowSS w A (xss.map ic)) (h : xss.length ≠ 0) : ∃ ad B d, A = some ad ∧ w.cell? ad = some (.slice B (mOf xss) d) := by
  obtain ⟨ad, B, d, rfl, hc, _⟩ := hr.at_ (k := 0) (by simp; omega)
  rw [List.getElem_map, ic_len, show ad.add 0 = ad from rfl] at hc
  have he : mOf xss = xss[0].length := by cases xss with
    | nil => simp at h
    | cons x l => rfl
  rw [he]
  exact ⟨ad, B, d, rfl, hc⟩
set_option maxHeartbeats 1000000 in
theorem l8Under_any (A : Option Addr) (c : Nat) (xss : List (List Int)) (a b : Nat) (w : World) (hr : RowSS w A (xss.map ic)) (hn : xss.length ≤ 10000000) (hw : ∀ i (hi : i < xss.length), xss[i].length ≤ 10000000) (ha : ∀ i (hi : i < xss.length), a < xss[i].length) (hb : ∀ i (hi : i < xss.length), b < xss[i].length) (ha9 : a ≤ 1000) (hb9 : b ≤ 1000) :
    Calls Try.prog 42 #[.slice A xss.length c, .int .i64 a, .int .i64 b] w fun e w' => e = .returned (.bool (underB xss a b)) ∧ ∃ q, w' = w.drewN q := by
  have HA := Lib.hid ha
  have HB := Lib.hid hb
  have HW := Lib.hid hw
  clear ha hb hw
  go_enter Try.func42, Try.ntmps42
  go_wp2
  go_loopw [7] (fun i wr => ∃ k q : Nat, k ≤ xss.length ∧ i = .int .i64 k ∧ Hid (∀ i (hi : i < xss.length), i < k → (fun xs : List Int => xss.all fun ys => decide (xs.getD a 0 ≤ ys.getD b 0)) xss[i] = true) ∧ wr = w.drewN q) (fun i _ => xss.length - (intOf i).toNat)
  case atStart => exact ⟨0, 0, Nat.zero_le _, rfl, fun _ _ h => absurd h (by omega), rfl⟩
  case round =>
    obtain ⟨k, q, hk, rfl, hA, rfl⟩ := hrel
    by_cases hlt : k < xss.length
    · obtain ⟨ad, B, d, hA', hc0, hrow⟩ := hr.at_ (k := k) (by simpa using hlt)
      subst hA'
      rw [List.getElem_map] at hc0 hrow
      rw [ic_len] at hc0
      have hxl := HW.out k hlt
      have hal := HA.out k hlt
      have HS := Lib.hid (fun h => lt_step (fun xs : List Int => xss.all fun ys => decide (xs.getD a 0 ≤ ys.getD b 0)) hA.out hlt h)
      have HG : Hid ((xss.all fun ys => decide (xss[k].getD a 0 ≤ ys.getD b 0)) = false → underB xss a b = false) := fun h => la_bad (fun xs : List Int => xss.all fun ys => decide (xs.getD a 0 ≤ ys.getD b 0)) (List.getElem_mem hlt) h
      obtain ⟨ax, hX, hcx⟩ := hrow.at_ (k := a) (by rw [ic_len]; exact hal)
      subst hX
      rw [ic_get _ a hal] at hcx
      have hgx : xss[k].getD a 0 = xss[k][a] := by simp [List.getD, hal]
      rw [hgx] at HG
      have HS2 : Hid ((xss.all fun ys => decide (xss[k][a] ≤ ys.getD b 0)) = true → ∀ i (hi : i < xss.length), i < k + 1 → (fun xs : List Int => xss.all fun ys => decide (xs.getD a 0 ≤ ys.getD b 0)) xss[i] = true) := fun h => HS.out (by show (xss.all fun ys => decide (xss[k].getD a 0 ≤ ys.getD b 0)) = true; rw [hgx]; exact h)
      have hi0 : (0 : Int) ≤ k := by omega
      have hi1 : (k : Int) < xss.length := by omega
      have hc0' : (w.drewN q).cell? (ad.add k) = some (.slice (some ax) xss[k].length d) := hc0
      clear hgx HS hrow
      generalize xss[k][a] = x at *
      generalize hxn : xss[k].length = xn at *
      clear hxn
      have ha0 : (0 : Int) ≤ a := by omega
      have ha1 : (a : Int) < xn := by omega
      clear hA
      go_wp2
      go_loopw [8] (fun i wr => ∃ k2 q2 : Nat, k2 ≤ xss.length ∧ i = .int .i64 k2 ∧ Hid (∀ i (hi : i < xss.length), i < k2 → (fun ys : List Int => decide (x ≤ ys.getD b 0)) xss[i] = true) ∧ wr = w.drewN q2) (fun i _ => xss.length - (intOf i).toNat)
      case atStart => exact ⟨0, _, Nat.zero_le _, rfl, fun _ _ h => absurd h (by omega), rfl⟩
      case round =>
        obtain ⟨k2, q2, hk2, rfl, hA2, rfl⟩ := hrel
        by_cases hlt2 : k2 < xss.length
        · obtain ⟨ad2, B2, d2, hA2', hd0, hrow2⟩ := hr.at_ (k := k2) (by simpa using hlt2)
          injection hA2' with hA2'
          subst hA2'
          rw [List.getElem_map] at hd0 hrow2
          rw [ic_len] at hd0
          have hyl := HW.out k2 hlt2
          have hbl := HB.out k2 hlt2
          have HS3 := Lib.hid (fun h => lt_step (fun ys : List Int => decide (x ≤ ys.getD b 0)) hA2.out hlt2 h)
          have HG3 := Lib.hid (fun h => la_bad (fun ys : List Int => decide (x ≤ ys.getD b 0)) (List.getElem_mem hlt2) h)
          obtain ⟨ay, hY, hcy⟩ := hrow2.at_ (k := b) (by rw [ic_len]; exact hbl)
          subst hY
          rw [ic_get _ b hbl] at hcy
          have hgy : xss[k2].getD b 0 = xss[k2][b] := by simp [List.getD, hbl]
          rw [hgy] at HS3 HG3
          have hd0' : (w.drewN q2).cell? (ad.add k2) = some (.slice (some ay) xss[k2].length d2) := hd0
          have hc0'' : (w.drewN q2).cell? (ad.add k) = some (.slice (some ax) xn d) := hc0
          have hcy' : (w.drewN q2).cell? (ay.add b) = some (.int .i64 xss[k2][b]) := hcy
          have hcx' : (w.drewN q2).cell? (ax.add a) = some (.int .i64 x) := hcx
          have hj0 : (0 : Int) ≤ k2 := by omega
          have hj1 : (k2 : Int) < xss.length := by omega
          clear hgy hrow2 hA2
          generalize xss[k2][b] = y at *
          generalize hyn : xss[k2].length = yn at *
          clear hyn
          have hb0 : (0 : Int) ≤ b := by omega
          have hb1 : (b : Int) < yn := by omega
          by_cases hxy : x ≤ y
          · have HS4 := Lib.hid (HS3.out (decide_eq_true hxy))
            have hcmp : decide (y < x) = false := decide_eq_false (by omega)
            go_wp2
            go_quiet (fail)
            go_wp2
            go_roundw
            case rel => exact ⟨k2 + 1, _, by omega, by go_num, HS4.out, rfl⟩
            case measure => simp [intOf]; omega
          · have HG4 := Lib.hid (HG.out (HG3.out (decide_eq_false hxy)))
            have hcmp : decide (y < x) = true := decide_eq_true (by omega)
            go_wp2
            go_quiet (fail)
            go_wp2
            go_ret
            exact ⟨by rw [HG4.out]; rfl, _, World.drewN_drewN _ _ _⟩
        · obtain rfl : k2 = xss.length := by omega
          have HS5 := Lib.hid (HS2.out (la_good (fun ys : List Int => decide (x ≤ ys.getD b 0)) (fun i hi => hA2.out i hi hi)))
          clear hA2
          go_wp2
          go_roundw
          case rel => exact ⟨k + 1, _, by omega, by go_num, HS5.out, rfl⟩
          case measure => simp [intOf]; omega
    · obtain rfl : k = xss.length := by omega
      have HG : Hid (underB xss a b = true) := la_good (fun xs : List Int => xss.all fun ys => decide (xs.getD a 0 ≤ ys.getD b 0)) (fun i hi => hA.out i hi hi)
      clear hA
      go_wp2
      go_ret
      exact ⟨by rw [HG.out]; rfl, _, rfl⟩
set_option maxHeartbeats 1000000 in
theorem isShorter_any (A : Option Addr) (c : Nat) (xss : List (List Int)) (a b : Nat) (w : World) (hr : RowSS w A (xss.map ic)) (hn : xss.length ≤ 10000000) (hw : ∀ i (hi : i < xss.length), xss[i].length ≤ 10000000) (ha : ∀ i (hi : i < xss.length), a < xss[i].length) (hb : ∀ i (hi : i < xss.length), b < xss[i].length) (ha9 : a ≤ 1000) (hb9 : b ≤ 1000) :
    Calls Try.prog 44 #[.slice A xss.length c, .int .i64 a, .int .i64 b] w fun e w' => e = .returned (.bool (underB xss a b)) ∧ ∃ q, w' = w.drewN q := by
  have HA := Lib.hid ha
  have HB := Lib.hid hb
  have HW := Lib.hid hw
  clear ha hb hw
  go_enter Try.func44, Try.ntmps44
  go_wp2
  go_loopw [13] (fun i wr => ∃ k q : Nat, k ≤ xss.length ∧ i = .int .i64 k ∧ Hid (∀ i (hi : i < xss.length), i < k → (fun xs : List Int => xss.all fun ys => decide (xs.getD a 0 ≤ ys.getD b 0)) xss[i] = true) ∧ wr = w.drewN q) (fun i _ => xss.length - (intOf i).toNat)
  case atStart => exact ⟨0, 0, Nat.zero_le _, rfl, fun _ _ h => absurd h (by omega), rfl⟩
  case round =>
    obtain ⟨k, q, hk, rfl, hA, rfl⟩ := hrel
    by_cases hlt : k < xss.length
    · obtain ⟨ad, B, d, hA', hc0, hrow⟩ := hr.at_ (k := k) (by simpa using hlt)
      subst hA'
      rw [List.getElem_map] at hc0 hrow
      rw [ic_len] at hc0
      have hxl := HW.out k hlt
      have hal := HA.out k hlt
      have HS := Lib.hid (fun h => lt_step (fun xs : List Int => xss.all fun ys => decide (xs.getD a 0 ≤ ys.getD b 0)) hA.out hlt h)
      have HG : Hid ((xss.all fun ys => decide (xss[k].getD a 0 ≤ ys.getD b 0)) = false → underB xss a b = false) := fun h => la_bad (fun xs : List Int => xss.all fun ys => decide (xs.getD a 0 ≤ ys.getD b 0)) (List.getElem_mem hlt) h
      obtain ⟨ax, hX, hcx⟩ := hrow.at_ (k := a) (by rw [ic_len]; exact hal)
      subst hX
      rw [ic_get _ a hal] at hcx
      have hgx : xss[k].getD a 0 = xss[k][a] := by simp [List.getD, hal]
      rw [hgx] at HG
      have HS2 : Hid ((xss.all fun ys => decide (xss[k][a] ≤ ys.getD b 0)) = true → ∀ i (hi : i < xss.length), i < k + 1 → (fun xs : List Int => xss.all fun ys => decide (xs.getD a 0 ≤ ys.getD b 0)) xss[i] = true) := fun h => HS.out (by show (xss.all fun ys => decide (xss[k].getD a 0 ≤ ys.getD b 0)) = true; rw [hgx]; exact h)
      have hi0 : (0 : Int) ≤ k := by omega
      have hi1 : (k : Int) < xss.length := by omega
      have hc0' : (w.drewN q).cell? (ad.add k) = some (.slice (some ax) xss[k].length d) := hc0
      clear hgx HS hrow
      generalize xss[k][a] = x at *
      generalize hxn : xss[k].length = xn at *
      clear hxn
      have ha0 : (0 : Int) ≤ a := by omega
      have ha1 : (a : Int) < xn := by omega
      clear hA
      go_wp2
      go_loopw [19] (fun i wr => ∃ k2 q2 : Nat, k2 ≤ xss.length ∧ i = .int .i64 k2 ∧ Hid (∀ i (hi : i < xss.length), i < k2 → (fun ys : List Int => decide (x ≤ ys.getD b 0)) xss[i] = true) ∧ wr = w.drewN q2) (fun i _ => xss.length - (intOf i).toNat)
      case atStart => exact ⟨0, _, Nat.zero_le _, rfl, fun _ _ h => absurd h (by omega), rfl⟩
      case round =>
        obtain ⟨k2, q2, hk2, rfl, hA2, rfl⟩ := hrel
        by_cases hlt2 : k2 < xss.length
        · obtain ⟨ad2, B2, d2, hA2', hd0, hrow2⟩ := hr.at_ (k := k2) (by simpa using hlt2)
          injection hA2' with hA2'
          subst hA2'
          rw [List.getElem_map] at hd0 hrow2
          rw [ic_len] at hd0
          have hyl := HW.out k2 hlt2
          have hbl := HB.out k2 hlt2
          have HS3 := Lib.hid (fun h => lt_step (fun ys : List Int => decide (x ≤ ys.getD b 0)) hA2.out hlt2 h)
          have HG3 := Lib.hid (fun h => la_bad (fun ys : List Int => decide (x ≤ ys.getD b 0)) (List.getElem_mem hlt2) h)
          obtain ⟨ay, hY, hcy⟩ := hrow2.at_ (k := b) (by rw [ic_len]; exact hbl)
          subst hY
          rw [ic_get _ b hbl] at hcy
          have hgy : xss[k2].getD b 0 = xss[k2][b] := by simp [List.getD, hbl]
          rw [hgy] at HS3 HG3
          have hd0' : (w.drewN q2).cell? (ad.add k2) = some (.slice (some ay) xss[k2].length d2) := hd0
          have hc0'' : (w.drewN q2).cell? (ad.add k) = some (.slice (some ax) xn d) := hc0
          have hcy' : (w.drewN q2).cell? (ay.add b) = some (.int .i64 xss[k2][b]) := hcy
          have hcx' : (w.drewN q2).cell? (ax.add a) = some (.int .i64 x) := hcx
          have hj0 : (0 : Int) ≤ k2 := by omega
          have hj1 : (k2 : Int) < xss.length := by omega
          clear hgy hrow2 hA2
          generalize xss[k2][b] = y at *
          generalize hyn : xss[k2].length = yn at *
          clear hyn
          have hb0 : (0 : Int) ≤ b := by omega
          have hb1 : (b : Int) < yn := by omega
          by_cases hxy : x ≤ y
          · have HS4 := Lib.hid (HS3.out (decide_eq_true hxy))
            have hcmp : decide (y < x) = false := decide_eq_false (by omega)
            go_wp2
            go_quiet (fail)
            go_wp2
            go_roundw
            case rel => exact ⟨k2 + 1, _, by omega, by go_num, HS4.out, rfl⟩
            case measure => simp [intOf]; omega
          · have HG4 := Lib.hid (HG.out (HG3.out (decide_eq_false hxy)))
            have hcmp : decide (y < x) = true := decide_eq_true (by omega)
            go_wp2
            go_quiet (fail)
            go_wp2
            go_ret
            exact ⟨by rw [HG4.out]; rfl, _, World.drewN_drewN _ _ _⟩
        · obtain rfl : k2 = xss.length := by omega
          have HS5 := Lib.hid (HS2.out (la_good (fun ys : List Int => decide (x ≤ ys.getD b 0)) (fun i hi => hA2.out i hi hi)))
          clear hA2
          go_wp2
          go_roundw
          case rel => exact ⟨k + 1, _, by omega, by go_num, HS5.out, rfl⟩
          case measure => simp [intOf]; omega
    · obtain rfl : k = xss.length := by omega
      have HG : Hid (underB xss a b = true) := la_good (fun xs : List Int => xss.all fun ys => decide (xs.getD a 0 ≤ ys.getD b 0)) (fun i hi => hA.out i hi hi)
      clear hA
      go_wp2
      go_ret
      exact ⟨by rw [HG.out]; rfl, _, rfl⟩
set_option maxHeartbeats 1000000 in
theorem shopOn_any (A : Option Addr) (c : Nat) (xss : List (List Int)) (m : Nat) (w : World) (hr : RowSS w A (xss.map ic)) (hn : xss.length ≤ 10000000 ∧ totL xss ≤ 10000000) :
    Calls Try.prog 43 #[.slice A xss.length c, .int .i64 m] w fun e w' => e = .returned (.tuple #[.slice A xss.length c, .bool (onB xss m)]) ∧ ∃ q, w' = w.drewN q := by
  have HI := Lib.hid (fun n => isShop_any A c xss (w.drewN n) hr hn)
  have hMb := mOf_le xss
  cases hs : shopB xss
  · have HO := Lib.hid (on_no (m := m) hs)
    rw [hs] at HI
    clear hr hs
    go_enter Try.func43, Try.ntmps43
    go_wp2
    go_quiet ((go_at_call 15; first | exact Calls.quiet_of (HI.out _) | exact quiet_in (HI.out _)))
    go_wp2
    go_ret2
    exact ⟨by rw [HO.out]; rfl, _, rfl⟩
  · rw [hs] at HI
    by_cases h0 : xss.length = 0
    · have HO := Lib.hid (on_shop (m := m) hs (.inl h0))
      have hb0 : ((xss.length : Int) == 0) = true := by rw [h0]; rfl
      clear hr hs h0
      go_enter Try.func43, Try.ntmps43
      go_wp2
      go_quiet ((go_at_call 15; first | exact Calls.quiet_of (HI.out _) | exact quiet_in (HI.out _)))
      go_wp2
      go_ret2
      exact ⟨by rw [HO.out]; rfl, _, rfl⟩
    · obtain ⟨ad, B, d, rfl, hc⟩ := row0 hr h0
      have hb0 : ((xss.length : Int) == 0) = false := by rw [beq_eq_false_iff_ne]; omega
      have hp : (0 : Int) < xss.length := by omega
      by_cases he : mOf xss = m
      · have HO := Lib.hid (on_shop (m := m) hs (.inr he))
        have hb1 : ((m : Int) == m) = true := by simp
        rw [he] at hc
        clear he
        clear hr hs h0
        go_enter Try.func43, Try.ntmps43
        go_wp2
        go_quiet ((go_at_call 15; first | exact Calls.quiet_of (HI.out _) | exact quiet_in (HI.out _)))
        go_wp2
        go_ret2
        exact ⟨by rw [HO.out]; rfl, _, rfl⟩
      · have HO := Lib.hid (on_not (m := m) h0 he)
        generalize mOf xss = M at *
        have hb1 : ((M : Int) == m) = false := by rw [beq_eq_false_iff_ne]; omega
        clear hr hs h0 he
        go_enter Try.func43, Try.ntmps43
        go_wp2
        go_quiet ((go_at_call 15; first | exact Calls.quiet_of (HI.out _) | exact quiet_in (HI.out _)))
        go_wp2
        go_ret2
        exact ⟨by rw [HO.out]; rfl, _, rfl⟩
theorem mid_no {xss : List (List Int)} (h : onB xss 3 = false) : midR xss = (false, false) := by unfold midR; rw [h]; rfl
theorem mid_yes {xss : List (List Int)} (h : onB xss 3 = true) : midR xss = (underB xss 1 0 || underB xss 1 2, true) := by unfold midR; rw [h]; rfl
theorem shop_lens {xss : List (List Int)} {m : Nat} (h : Shop xss) (hm : xss.length = 0 ∨ mOf xss = m) : ∀ i (hi : i < xss.length), xss[i].length = m := fun i hi => by
  rcases hm with e | e
  · omega
  · rw [h.len i hi, e]
set_option maxHeartbeats 2000000 in
theorem spec_MiddleIsShort (A : Option Addr) (c : Nat) (xss : List (List Int)) (w : World) (hr : RowSS w A (xss.map ic)) (hn : xss.length ≤ 10000000 ∧ totL xss ≤ 10000000) :
    Calls Try.prog 17 #[.slice A xss.length c] w (RetBB w (midR xss)) := by
  have HI := Lib.hid (l8Good_any A c xss w hr hn)
  have hMb := mOf_le xss
  cases hs : shopB xss
  · have HO := Lib.hid (mid_no (on_no (m := 3) hs))
    rw [hs] at HI
    clear hr hs
    go_enter Try.func17, Try.ntmps17
    go_wp2_with fail
    refine HI.out.mono ?_
    rintro e _ ⟨rfl, q, rfl⟩
    go_wp2
    go_ret2
    exact ⟨by rw [HO.out]; rfl, below_drewN (Below.refl _ _) _⟩
  · rw [hs] at HI
    by_cases hm : xss.length = 0 ∨ mOf xss = 3
    · have hsh := shopB_out hs
      have hl := shop_lens hsh hm
      have HO := Lib.hid (mid_yes (on_shop hs hm))
      have H1 := Lib.hid (fun n => l8Under_any A c xss 1 0 (w.drewN n) hr hn.1 (fun i hi => by rw [hl i hi]; omega) (fun i hi => by rw [hl i hi]; omega) (fun i hi => by rw [hl i hi]; omega) (by omega) (by omega))
      have H2 := Lib.hid (fun n => l8Under_any A c xss 1 2 (w.drewN n) hr hn.1 (fun i hi => by rw [hl i hi]; omega) (fun i hi => by rw [hl i hi]; omega) (fun i hi => by rw [hl i hi]; omega) (by omega) (by omega))
      have key : ∀ q, (¬ (0 : Int) < xss.length ∨ ∃ ad B d, A = some ad ∧ (w.drewN q).cell? ad = some (.slice B 3 d) ∧ (0 : Int) < xss.length) := fun q => by
        by_cases h0 : xss.length = 0
        · exact .inl (by omega)
        · obtain ⟨ad, B, d, hA, hc⟩ := row0 hr h0
          rcases hm with e | e
          · exact absurd e h0
          · rw [e] at hc
            exact .inr ⟨ad, B, d, hA, hc, by omega⟩
      have KEY := Lib.hid key
      clear hr hs hm hsh hl key hMb
      go_enter Try.func17, Try.ntmps17
      go_wp2_with fail
      refine HI.out.mono ?_
      rintro e _ ⟨rfl, q, rfl⟩
      rcases KEY.out q with h0 | ⟨ad, B, d, rfl, hc, hp⟩
      all_goals
        have Q0 := 0
        cases hu1 : underB xss 1 0
        · rw [hu1] at HO H1
          go_wp2_with fail
          refine (H1.out _).mono ?_
          rintro e _ ⟨rfl, q1, rfl⟩
          go_wp2_with fail
          refine (H2.out _).mono ?_
          rintro e _ ⟨rfl, q2, rfl⟩
          go_wp2
          go_ret2
          exact ⟨by rw [HO.out]; rfl, below_drewN (Below.refl _ _) _⟩
        · rw [hu1] at HO H1
          go_wp2_with fail
          refine (H1.out _).mono ?_
          rintro e _ ⟨rfl, q1, rfl⟩
          go_wp2
          go_ret2
          exact ⟨by rw [HO.out]; rfl, below_drewN (Below.refl _ _) _⟩
    · have h0 : xss.length ≠ 0 := fun e => hm (.inl e)
      have h3 : mOf xss ≠ 3 := fun e => hm (.inr e)
      have HO := Lib.hid (mid_no (on_not h0 h3))
      obtain ⟨ad, B, d, rfl, hc⟩ := row0 hr h0
      generalize mOf xss = M at *
      have hp : (0 : Int) < xss.length := by omega
      have h3' : ¬ (M : Int) = 3 := by omega
      clear hr hs hm h0 h3
      go_enter Try.func17, Try.ntmps17
      go_wp2_with fail
      refine HI.out.mono ?_
      rintro e _ ⟨rfl, q, rfl⟩
      have hc' : (w.drewN q).cell? ad = some (.slice B M d) := hc
      go_wp2
      go_ret2
      exact ⟨by rw [HO.out]; rfl, below_drewN (Below.refl _ _) _⟩
set_option maxHeartbeats 2000000 in
theorem impl_MiddleIsShort (A : Option Addr) (c : Nat) (xss : List (List Int)) (w : World) (hr : RowSS w A (xss.map ic)) (hn : xss.length ≤ 10000000 ∧ totL xss ≤ 10000000) :
    Calls Try.prog 18 #[.slice A xss.length c] w (RetBB w (midR xss)) := by
  have HI := Lib.hid (shopOn_any A c xss 3 w hr hn)
  cases ho : onB xss 3
  · have HO := Lib.hid (mid_no ho)
    rw [ho] at HI
    clear hr ho
    go_enter Try.func18, Try.ntmps18
    go_wp2_with fail
    refine HI.out.mono ?_
    rintro e _ ⟨rfl, q, rfl⟩
    go_wp2
    go_ret2
    exact ⟨by rw [HO.out]; rfl, below_drewN (Below.refl _ _) _⟩
  · have HO := Lib.hid (mid_yes ho)
    obtain ⟨hsh, hm⟩ := onB_out ho
    rw [ho] at HI
    have hl := shop_lens hsh hm
    have H1 := Lib.hid (fun n => isShorter_any A c xss 1 0 (w.drewN n) hr hn.1 (fun i hi => by rw [hl i hi]; omega) (fun i hi => by rw [hl i hi]; omega) (fun i hi => by rw [hl i hi]; omega) (by omega) (by omega))
    have H2 := Lib.hid (fun n => isShorter_any A c xss 1 2 (w.drewN n) hr hn.1 (fun i hi => by rw [hl i hi]; omega) (fun i hi => by rw [hl i hi]; omega) (fun i hi => by rw [hl i hi]; omega) (by omega) (by omega))
    clear hr hm hsh hl ho
    go_enter Try.func18, Try.ntmps18
    go_wp2_with fail
    refine HI.out.mono ?_
    rintro e _ ⟨rfl, q, rfl⟩
    cases hu1 : underB xss 1 0
    · rw [hu1] at HO H1
      go_wp2_with fail
      refine (H1.out _).mono ?_
      rintro e _ ⟨rfl, q1, rfl⟩
      go_wp2_with fail
      refine (H2.out _).mono ?_
      rintro e _ ⟨rfl, q2, rfl⟩
      go_wp2
      go_ret2
      exact ⟨by rw [HO.out]; rfl, below_drewN (Below.refl _ _) _⟩
    · rw [hu1] at HO H1
      go_wp2_with fail
      refine (H1.out _).mono ?_
      rintro e _ ⟨rfl, q1, rfl⟩
      go_wp2
      go_ret2
      exact ⟨by rw [HO.out]; rfl, below_drewN (Below.refl _ _) _⟩
end Go.Proofs.Ytdhndoccdfbefaa
