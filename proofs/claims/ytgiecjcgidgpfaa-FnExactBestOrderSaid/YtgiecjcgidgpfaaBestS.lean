/- The model's functions of best orders. Made by tools/mk_bests.py. -/
import Derived.Test.YtgiecjcgidgpfaaTryT
import Derived.Test.YtgiecjcgidgpfaaValS
namespace Go.Proofs.Ytgiecjcgidgpfaa
open Go.RowKit
section
variable {o : Int} (ho : isObj o = true) {js : List J} (hg : goodL js = true) (AJ : Option Addr) (cJ : Nat)
include ho hg
set_option maxRecDepth 100000 in
set_option maxHeartbeats 1000000 in
theorem l2Best_any (w : World) (hr : Row w AJ (jc js)) : Calls Try.prog 110 #[.slice AJ js.length cJ, .int .i64 o] w fun e w' => ∃ A c, e = .returned (.tuple #[.slice A (bestL o js).first.length c, .int .i64 (bestL o js).v]) ∧ BestIs w.heap.size w' (bestL o js) (.slice A (bestL o js).first.length c) ∧ Below w.heap.size w w' := by
  go_enter Try.func110, Try.ntmps110
  go_wp2_with fail
  refine (l2All_any ho hg AJ cJ w hr).mono ?_
  rintro e w1 ⟨s', rfl, hbs, hb1⟩
  obtain ⟨A, c, rfl, _, _⟩ := own_slice hbs
  generalize hv : bestL o js = tt at *
  have HT : Hid (bestL o js = tt) := hv
  clear hv
  unfold bestV
  have hR1 := BlockIs.new w1 107 #[.slice none 0 0, .int .i64 0, .int .i64 0]
  have hr0 := hR1.cell 0
  have hr1 := hR1.cell 1
  have hr2 := hR1.cell 2
  have hf0 := hR1.frozen 0
  have hf1 := hR1.frozen 1
  have hf2 := hR1.frozen 2
  simp at hr0 hr1 hr2
  have hN := BlockIs.new w1 107 #[.slice A tt.first.length c, .int .i64 tt.v, .int .i64 (tt.n : Int)]
  have hc0 := hN.cell 0
  have hc1 := hN.cell 1
  simp at hc0 hc1
  have HZ := Lib.hid (And.intro (hbs.below ((Below.refl w1.heap.size w1).alloc (Nat.le_refl _) (.cells #[.slice A tt.first.length c, .int .i64 tt.v, .int .i64 (tt.n : Int)] 107))) (hb1.alloc hb1.size (.cells #[.slice A tt.first.length c, .int .i64 tt.v, .int .i64 (tt.n : Int)] 107)))
  clear hR1 hbs hb1 hN
  go_wp2
  go_region
  all_goals
    go_wp2
    go_ret2
    exact ⟨A, c, by rw [HT.out]; rfl, by rw [HT.out]; exact HZ.out.1, by first | exact HZ.out.2 | exact HZ.out.2.drew | exact HZ.out.2.drew.drew⟩
end
end Go.Proofs.Ytgiecjcgidgpfaa
