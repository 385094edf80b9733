/- Schedules: the end of one more job. -/
import Derived.Test.YtjemjdlaoebffaaSegH
import Derived.Test.YtjemjdlaoebffaaOrd
import Derived.Test.YtjemjdlaoebffaaIdleP
import Derived.StillTailTactics
namespace Go.Proofs.Ytjemjdlaoebffaa
open Go.RowKit

def twoB (js : List J) (o : List Int) : Bool := goodL js && ordB js.length o
theorem l1Most_any (x y : Int) (w : World) :
    Calls Try.prog 141 #[.int .i64 x, .int .i64 y] w fun e w' => e = .returned (.int .i64 (max x y)) ∧ w' = w := by
  by_cases h : y < x
  · go_enter Try.func141, Try.ntmps141
    go_wp2
    go_ret
    exact ⟨by rw [show max x y = x by omega]; rfl, rfl⟩
  · go_enter Try.func141, Try.ntmps141
    go_wp2
    go_ret
    exact ⟨by rw [show max x y = y by omega]; rfl, rfl⟩
theorem endAfter_any (x : Int) (j : J) (w : World) (hj : okJ j = true) (h0 : 0 ≤ x) (h1 : x ≤ 10000) :
    Calls Try.prog 127 #[.int .i64 x, .agg #[.int .i64 j.t, .int .i64 j.w, .int .i64 j.r, .int .i64 j.d]] w fun e w' => e = .returned (.int .i64 (max x j.r + j.t)) ∧ Below w.heap.size w w' := by
  obtain ⟨t0, t1, _, _, r0, r1, _, _⟩ := okJ_out hj
  clear hj
  by_cases h : x < j.r
  · have hm : max x j.r = j.r := by omega
    go_enter Try.func127, Try.ntmps127
    go_wp2
    go_ret
    exact ⟨by first | rfl | (rw [hm]; rfl), (Below.refl _ _).alloc (Nat.le_refl _) _⟩
  · have hm : max x j.r = x := by omega
    go_enter Try.func127, Try.ntmps127
    go_wp2
    go_ret
    exact ⟨by first | rfl | (rw [hm]; rfl), (Below.refl _ _).alloc (Nat.le_refl _) _⟩
end Go.Proofs.Ytjemjdlaoebffaa
