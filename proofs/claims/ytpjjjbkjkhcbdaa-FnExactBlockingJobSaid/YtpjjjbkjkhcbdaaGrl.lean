/- GreedyOrder of both. -/
import Derived.Test.YtpjjjbkjkhcbdaaGri
import Derived.Test.YtpjjjbkjkhcbdaaCriP
import Derived.Test.YtpjjjbkjkhcbdaaEndsO
namespace Go.Proofs.Ytpjjjbkjkhcbdaa
open Go.RowKit
theorem greedyR_len (js : List J) : (greedyR js).1.length ≤ 8 := by
  unfold greedyR
  cases hg : goodL js
  · simp
  · simp only [if_true, List.length_map, greedy_len hg]; exact (good_out hg).1
theorem ret_ownG {w w' : World} {r : List Int × Bool} {p : List Nat} {v : Value} {n : Nat} (hr : r = (natI p, true)) (hn : p.length = n) (ho : w'.ownsRow w.heap.size 3 1 v n (ic (natI p))) (hb : Below w.heap.size w w') (e : Ending) (he : e = .returned (.tuple #[v, .bool true])) : RetIB w r e w' := by
  subst hr hn
  obtain ⟨A, c, rfl, hs⟩ := seg_out ho
  subst he
  refine ⟨A, c, by rw [List.length_map], ?_, hb⟩
  rw [List.length_map]
  exact hs
theorem own_up {w' : World} {B B' : Nat} {e : TypeId} {size n : Nat} {v : Value} {xs : List Value} (h : w'.ownsRow B' e size v n xs) (hB : B ≤ B') : w'.ownsRow B e size v n xs := by
  refine ⟨h.1, ?_⟩
  rcases h.2 with h0 | ⟨g, cap, cur, rfl, hb, hg, hr⟩
  · exact .inl h0
  · exact .inr ⟨g, cap, cur, rfl, Nat.le_trans hB hb, hg, hr⟩
section
variable (A : Option Addr) (c : Nat) (js : List J) (w : World) (hr : Row w A (jc js)) (hn : js.length ≤ 10000000)
include hr hn
theorem spec_GreedyOrder : Calls Try.prog 48 #[.slice A js.length c] w (RetIB w (greedyR js)) := by
  have HR : Hid (greedyR js = if goodL js then (natI (greedyL js), true) else ([], false)) := rfl
  cases hg : goodL js
  · rw [hg] at HR
    go_enter Try.func48, Try.ntmps48
    go_wp2_with fail
    refine (l2Good_any A c js _ hr (by omega)).mono ?_
    rintro e w1 ⟨rfl, hb1⟩
    rw [hg]
    go_wp2
    go_ret2
    exact ret_empty HR.out hb1 _ rfl
  · rw [hg] at HR
    go_enter Try.func48, Try.ntmps48
    go_wp2_with fail
    refine (l2Good_any A c js _ hr (by omega)).mono ?_
    rintro e w1 ⟨rfl, hb1⟩
    rw [hg]
    go_wp2_with fail
    refine (l5Greedy_any A c js _ (hr.below hb1) hg).mono ?_
    rintro e w2 ⟨v, rfl, ho, hb2⟩
    go_wp2
    go_ret2
    exact ret_ownG HR.out (greedy_len hg) (own_up ho hb1.size) (below_and hb1 hb2) _ rfl
theorem impl_GreedyOrder : Calls Try.prog 49 #[.slice A js.length c] w (RetIB w (greedyR js)) := by
  have HR : Hid (greedyR js = if goodL js then (natI (greedyL js), true) else ([], false)) := rfl
  cases hg : goodL js
  · rw [hg] at HR
    go_enter Try.func49, Try.ntmps49
    go_wp2_with fail
    refine (IsJobs_any A c js _ hr (by omega)).mono ?_
    rintro e w1 ⟨rfl, hb1⟩
    rw [hg]
    go_wp2
    go_ret2
    exact ret_empty HR.out hb1 _ rfl
  · rw [hg] at HR
    go_enter Try.func49, Try.ntmps49
    go_wp2_with fail
    refine (IsJobs_any A c js _ hr (by omega)).mono ?_
    rintro e w1 ⟨rfl, hb1⟩
    rw [hg]
    go_wp2_with fail
    refine (greedyOrder_any A c js _ (hr.below hb1) hg).mono ?_
    rintro e w2 ⟨v, rfl, ho, hb2⟩
    go_wp2
    go_ret2
    exact ret_ownG HR.out (greedy_len hg) (own_up ho hb1.size) (below_and hb1 hb2) _ rfl
end
end Go.Proofs.Ytpjjjbkjkhcbdaa
