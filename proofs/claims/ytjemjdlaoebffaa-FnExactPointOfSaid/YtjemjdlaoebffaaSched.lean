/- Schedules: whether there is one, the model's and the program's. -/
import Derived.Test.YtjemjdlaoebffaaSchedE
namespace Go.Proofs.Ytjemjdlaoebffaa
open Go.RowKit
theorem l2Two_any (A B : Option Addr) (c d : Nat) (js : List J) (o : List Int) (w : World) (hr : Row w A (jc js)) (hq : Row w B (ic o)) (hn : js.length ≤ 10000000) (hm : o.length ≤ 10000000) :
    Calls Try.prog 58 #[.slice A js.length c, .slice B o.length d] w fun e w' => e = .returned (.bool (twoB js o)) ∧ Below w.heap.size w w' := by
  have HT : Hid (twoB js o = (goodL js && ordB js.length o)) := rfl
  cases hg : goodL js
  · go_enter Try.func58, Try.ntmps58
    go_wp2_with fail
    refine (l2Good_any A c js _ hr (by omega)).mono ?_
    rintro e w1 ⟨rfl, hb1⟩
    rw [hg]
    go_wp2
    go_ret
    exact ⟨by rw [HT.out, hg]; rfl, hb1⟩
  · go_enter Try.func58, Try.ntmps58
    go_wp2_with fail
    refine (l2Good_any A c js _ hr (by omega)).mono ?_
    rintro e w1 ⟨rfl, hb1⟩
    rw [hg]
    go_wp2_with fail
    refine (l2Order_any _ B d o _ (hq.below hb1) (by omega)).mono ?_
    rintro e w2 ⟨rfl, rfl⟩
    go_wp2
    go_ret
    exact ⟨by rw [HT.out, hg]; rfl, hb1⟩
end Go.Proofs.Ytjemjdlaoebffaa
