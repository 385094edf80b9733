/- Supplies: the program. -/
import Derived.Test.YtpoibjmkbljblaaDoorDmI
namespace Go.Proofs.YtpoibjmkbljblaaDoor
open Go.RowKit
section
variable (A : Option Addr) (c s : Nat) (js : List J) (w : World) (hs : s < 256) (hr : Row w A (jc js)) (hok : ∀ j ∈ js, okJ j = true) (hlt : ∀ k, s.testBit k = true → k < js.length) (hT : TzTab w)
variable (C : Option Addr) (b : Nat) (en : List Int) (he : Row w C (ic en)) (hv : vecB js.length en = true)
include hs hr hok hlt hT he hv
set_option maxRecDepth 100000 in
set_option maxHeartbeats 2000000 in
theorem supply_any : Calls Tryd.prog 56 #[.agg #[.slice A js.length c, .slice C en.length b], .int .u64 (s : Int)] w fun e w' => e = .returned (.int .i64 (supL js en (memB s))) ∧ Below w.heap.size w w' := by
  have HD : Hid (supL js en (memB s) = sumF (spF js en) (memB s)) := rfl
  have hb1 := (Below.refl w.heap.size w).alloc (Nat.le_refl _) (.cells #[.slice A js.length c, .slice C en.length b] 70)
  have hB1 := BlockIs.new w 70 #[.slice A js.length c, .slice C en.length b]
  have hz1 : (w.alloc (.cells #[.slice A js.length c, .slice C en.length b] 70)).heap.size = w.heap.size + 1 := by simp
  have hbA := (Below.refl _ (w.alloc (.cells #[.slice A js.length c, .slice C en.length b] 70))).alloc (Nat.le_refl _) (.cells #[.int .u64 (s : Int)] 63)
  have hB2 := hB1.below hbA
  have hbw2 := hb1.trans (hbA.mono hb1.size)
  have HS := Lib.hid (sumOf_any 103 w.heap.size (w.alloc (.cells #[.slice A js.length c, .slice C en.length b] 70)).heap.size s (spF js en) ((w.alloc (.cells #[.slice A js.length c, .slice C en.length b] 70)).alloc (.cells #[.int .u64 (s : Int)] 63)) hs (Boxed.new _ _ _) (hT.below hbw2) (enters_of Tryd.func103 (by kernel_rfl) rfl)
      (fun x hx W2 hb2 => supply1_any A C c b w.heap.size x js en W2 (hr.below (hbw2.trans (hb2.mono hbw2.size))) (he.below (hbw2.trans (hb2.mono hbw2.size))) (hB2.below hb2) (hlt x hx) hok hv)
      (fun x hx => by have := spF_bd hok hv (hlt x hx); omega))
  rw [hz1] at HS
  have H1 := Lib.hid hb1
  clear hs hr hok hlt hT hB1 hb1 hz1 he hv hbA hB2 hbw2
  go_enter Tryd.func56, Tryd.ntmps56
  go_wp2_with fail
  refine (members_any _ _).mono ?_
  rintro e _ ⟨rfl, rfl⟩
  go_wp2_with fail
  refine HS.out.mono ?_
  rintro e w3 ⟨rfl, hb3⟩
  have HB2 := Lib.hid (H1.out.alloc H1.out.size (.cells #[.int .u64 (s : Int)] 63))
  have HB3 := Lib.hid (HB2.out.trans (hb3.mono HB2.out.size))
  clear hb3 HS
  go_wp2
  go_ret
  exact ⟨by rw [HD.out]; rfl, HB3.out⟩
end
end Go.Proofs.YtpoibjmkbljblaaDoor
