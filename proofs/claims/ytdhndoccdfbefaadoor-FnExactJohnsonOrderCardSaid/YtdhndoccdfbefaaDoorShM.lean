/- MiddleIsShort: the model's side and the program's; pairs of machines. -/
import Derived.Test.YtdhndoccdfbefaaDoorShG
import Derived.Test.YtdhndoccdfbefaaDoorRetBB
namespace Go.Proofs.YtdhndoccdfbefaaDoor
open Go.RowKit

def underB (xss : List (List Int)) (a b : Nat) : Bool := xss.all fun xs => xss.all fun ys => decide (xs.getD a 0 ≤ ys.getD b 0)
/-- A shop that has m machines, or no jobs. -/
def onB (xss : List (List Int)) (m : Nat) : Bool := shopB xss && (decide (xss.length = 0) || decide (mOf xss = m))
def midR (xss : List (List Int)) : Bool × Bool := (onB xss 3 && (underB xss 1 0 || underB xss 1 2), onB xss 3)
theorem onB_out {xss : List (List Int)} {m : Nat} (h : onB xss m = true) : Shop xss ∧ (xss.length = 0 ∨ mOf xss = m) := by
  unfold onB at h
  simp only [Bool.and_eq_true, Bool.or_eq_true, decide_eq_true_iff] at h
  exact ⟨shopB_out h.1, h.2⟩
theorem on_shop {xss : List (List Int)} {m : Nat} (h : shopB xss = true) (hm : xss.length = 0 ∨ mOf xss = m) : onB xss m = true := by
  unfold onB
  simp only [Bool.and_eq_true, Bool.or_eq_true, decide_eq_true_iff]
  exact ⟨h, hm⟩
theorem on_no {xss : List (List Int)} {m : Nat} (h : shopB xss = false) : onB xss m = false := by
  unfold onB; rw [h]; rfl
theorem on_not {xss : List (List Int)} {m : Nat} (h0 : xss.length ≠ 0) (hm : mOf xss ≠ m) : onB xss m = false := by
  unfold onB; rw [decide_eq_false h0, decide_eq_false hm, Bool.or_false, Bool.and_false]
/-- The first row of a shop with jobs. -/
theorem row0 {w : World} {A : Option Addr} {xss : List (List Int)} (hr : RowSS w A (xss.map ic)) (h : xss.length ≠ 0) : ∃ ad B d, A = some ad ∧ w.cell? ad = some (.slice B (mOf xss) d) := by
  obtain ⟨ad, B, d, rfl, hc, _⟩ := hr.at_ (k := 0) (by simp; omega)
  rw [List.getElem_map, ic_len, show ad.add 0 = ad from rfl] at hc
  have he : mOf xss = xss[0].length := by cases xss with
    | nil => simp at h
    | cons x l => rfl
  rw [he]
  exact ⟨ad, B, d, rfl, hc⟩
set_option maxHeartbeats 1000000 in
theorem shopOn_any (A : Option Addr) (c : Nat) (xss : List (List Int)) (m : Nat) (w : World) (hr : RowSS w A (xss.map ic)) (hn : xss.length ≤ 10000000 ∧ totL xss ≤ 10000000) :
    Calls Tryd.prog 17 #[.slice A xss.length c, .int .i64 m] w fun e w' => e = .returned (.tuple #[.slice A xss.length c, .bool (onB xss m)]) ∧ ∃ q, w' = w.drewN q := by
  have HI := Lib.hid (fun n => isShop_any A c xss (w.drewN n) hr hn)
  have hMb := mOf_le xss
  cases hs : shopB xss
  · have HO := Lib.hid (on_no (m := m) hs)
    rw [hs] at HI
    clear hr hs
    go_enter Tryd.func17, Tryd.ntmps17
    go_wp2
    go_quiet ((go_at_call 22; first | exact Calls.quiet_of (HI.out _) | exact quiet_in (HI.out _)))
    go_wp2
    go_ret2
    exact ⟨by rw [HO.out]; rfl, _, rfl⟩
  · rw [hs] at HI
    by_cases h0 : xss.length = 0
    · have HO := Lib.hid (on_shop (m := m) hs (.inl h0))
      have hb0 : ((xss.length : Int) == 0) = true := by rw [h0]; rfl
      clear hr hs h0
      go_enter Tryd.func17, Tryd.ntmps17
      go_wp2
      go_quiet ((go_at_call 22; first | exact Calls.quiet_of (HI.out _) | exact quiet_in (HI.out _)))
      go_wp2
      go_ret2
      exact ⟨by rw [HO.out]; rfl, _, rfl⟩
    · obtain ⟨ad, B, d, rfl, hc⟩ := row0 hr h0
      have hb0 : ((xss.length : Int) == 0) = false := by rw [beq_eq_false_iff_ne]; omega
      have hp : (0 : Int) < xss.length := by omega
      by_cases he : mOf xss = m
      · have HO := Lib.hid (on_shop (m := m) hs (.inr he))
        have hb1 : ((m : Int) == m) = true := by simp
        rw [he] at hc
        clear he
        clear hr hs h0
        go_enter Tryd.func17, Tryd.ntmps17
        go_wp2
        go_quiet ((go_at_call 22; first | exact Calls.quiet_of (HI.out _) | exact quiet_in (HI.out _)))
        go_wp2
        go_ret2
        exact ⟨by rw [HO.out]; rfl, _, rfl⟩
      · have HO := Lib.hid (on_not (m := m) h0 he)
        generalize mOf xss = M at *
        have hb1 : ((M : Int) == m) = false := by rw [beq_eq_false_iff_ne]; omega
        clear hr hs h0 he
        go_enter Tryd.func17, Tryd.ntmps17
        go_wp2
        go_quiet ((go_at_call 22; first | exact Calls.quiet_of (HI.out _) | exact quiet_in (HI.out _)))
        go_wp2
        go_ret2
        exact ⟨by rw [HO.out]; rfl, _, rfl⟩
theorem mid_no {xss : List (List Int)} (h : onB xss 3 = false) : midR xss = (false, false) := by unfold midR; rw [h]; rfl
theorem mid_yes {xss : List (List Int)} (h : onB xss 3 = true) : midR xss = (underB xss 1 0 || underB xss 1 2, true) := by unfold midR; rw [h]; rfl
theorem shop_lens {xss : List (List Int)} {m : Nat} (h : Shop xss) (hm : xss.length = 0 ∨ mOf xss = m) : ∀ i (hi : i < xss.length), xss[i].length = m := fun i hi => by
  rcases hm with e | e
  · omega
  · rw [h.len i hi, e]
end Go.Proofs.YtdhndoccdfbefaaDoor
