/- Slices of pairs of ints, all of one's own: equality, marks. -/
import Derived.Test.YtccnmldmolofaaaDoorPrC
import Derived.Deep.RegionWith
namespace Go.Proofs.YtccnmldmolofaaaDoor
open Go.RowKit
theorem eqIntA2_same (x : Pr) (w : World) :
    Calls Tryd.prog 29 #[.agg #[.int .i64 x.1, .int .i64 x.2], .agg #[.int .i64 x.1, .int .i64 x.2]] w fun e w' => e = .returned (.bool true) ∧ Below w.heap.size w w' := by
  have b1 := (Below.refl w.heap.size w).alloc (Nat.le_refl _) (.cells #[.int .i64 x.1, .int .i64 x.2] 38)
  have b2 := b1.alloc b1.size (.cells #[.int .i64 x.1, .int .i64 x.2] 38)
  have h1 := (BlockIs.new w 38 #[.int .i64 x.1, .int .i64 x.2]).below ((Below.refl _ _).alloc (Nat.le_refl _) (.cells #[.int .i64 x.1, .int .i64 x.2] 38))
  have h2 := BlockIs.new (w.alloc (.cells #[.int .i64 x.1, .int .i64 x.2] 38)) 38 #[.int .i64 x.1, .int .i64 x.2]
  have hs : (w.alloc (.cells #[.int .i64 x.1, .int .i64 x.2] 38)).heap.size = w.heap.size + 1 := by simp
  rw [hs] at h2
  have c0 := h1.cell 0
  have c1 := h1.cell 1
  have d0 := h2.cell 0
  have d1 := h2.cell 1
  simp only [List.getElem?_toArray, List.getElem?_cons_zero, List.getElem?_cons_succ] at c0 c1 d0 d1
  have HB := Lib.hid b2
  have HC := Lib.hid (And.intro c0 (And.intro c1 (And.intro d0 d1)))
  clear b1 b2 h1 h2 hs c0 c1 d0 d1
  go_enter Tryd.func29, Tryd.ntmps29
  go_wp2
  go_loopw [5] (fun i wr => ∃ k n : Nat, k ≤ 2 ∧ i = .int .i64 (k : Int) ∧ wr = ((w.alloc (.cells #[.int .i64 x.1, .int .i64 x.2] 38)).alloc (.cells #[.int .i64 x.1, .int .i64 x.2] 38)).drewN n) (fun i _ => 2 - (intOf i).toNat)
  case atStart => exact ⟨0, 0, by omega, rfl, rfl⟩
  case round =>
    obtain ⟨k, n, hk, rfl, rfl⟩ := hrel
    generalize ((w.alloc (.cells #[.int .i64 x.1, .int .i64 x.2] 38)).alloc (.cells #[.int .i64 x.1, .int .i64 x.2] 38)) = W at *
    have e0 : (W.drewN n).cell? ⟨w.heap.size, 0, none⟩ = some (.int .i64 x.1) := HC.out.1
    have e1 : (W.drewN n).cell? ⟨w.heap.size, 1, none⟩ = some (.int .i64 x.2) := HC.out.2.1
    have e2 : (W.drewN n).cell? ⟨w.heap.size + 1, 0, none⟩ = some (.int .i64 x.1) := HC.out.2.2.1
    have e3 : (W.drewN n).cell? ⟨w.heap.size + 1, 1, none⟩ = some (.int .i64 x.2) := HC.out.2.2.2
    obtain ⟨c0, c1, d0, d1⟩ := HC.out
    rcases (by omega : k = 0 ∨ k = 1 ∨ k = 2) with rfl | rfl | rfl
    · go_wp2
      go_quiet (fail)
      go_wp2
      go_roundw
      case rel => exact ⟨1, _, by omega, by go_num, rfl⟩
      case measure => simp [intOf]
    · go_wp2
      go_quiet (fail)
      go_wp2
      go_roundw
      case rel => exact ⟨2, _, by omega, by go_num, rfl⟩
      case measure => simp [intOf]
    · go_wp2
      go_ret
      exact ⟨rfl, below_drewN HB.out _⟩
/-- What a function hands back: a list of pairs, memory of its own, and a bool. -/
def RetPB (w : World) (r : List Pr × Bool) (e : Ending) (w' : World) : Prop :=
  ∃ A c, e = .returned (.tuple #[.slice A r.1.length c, .bool r.2]) ∧ Seg w' 38 2 w.heap.size w'.heap.size A r.1.length c (pc r.1) ∧ Below w.heap.size w w'
theorem ret_emptyP {w w1 : World} {r : List Pr × Bool} (hr : r = ([], false)) (hb : Below w.heap.size w w1) (e : Ending) (he : e = .returned (.tuple #[.slice (some ⟨w1.heap.size, 0, none⟩) 0 0, .bool false])) : RetPB w r e (w1.alloc (.cells #[] 38)) := by
  subst hr he
  have h : (w1.alloc (.cells #[] 38)).ownsRow w.heap.size 38 2 (.slice (some ⟨w1.heap.size, 0, none⟩) 0 0) 0 (pc []) := World.ownsRow_made w1 #[] 0 hb.size (by unfold maxLen; omega) rfl
  exact ⟨_, 0, rfl, Seg.of_own h, hb.alloc hb.size _⟩
end Go.Proofs.YtccnmldmolofaaaDoor
