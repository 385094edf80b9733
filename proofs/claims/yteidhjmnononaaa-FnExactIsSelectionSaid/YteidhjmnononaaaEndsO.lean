/- Starts and ends of a list that is an order: what the program and the model make of it. -/
import Derived.Test.YteidhjmnononaaaEnds
namespace Go.Proofs.Yteidhjmnononaaa
open Go.RowKit

def natsOf (o : List Int) : List Nat := o.map Int.toNat
theorem natsOf_natI (p : List Nat) : natsOf (natI p) = p := by
  unfold natsOf natI
  rw [List.map_map, show (Int.toNat ∘ Int.ofNat) = id from rfl, List.map_id]
theorem two_out {js : List J} {o : List Int} (h : twoB js o = true) : goodL js = true ∧ ∃ p : List Nat, o = natI p ∧ p.Perm (List.range js.length) ∧ natsOf o = p := by
  unfold twoB at h
  rw [Bool.and_eq_true] at h
  obtain ⟨p, rfl, hp, _, _⟩ := ord_nat h.2
  exact ⟨h.1, p, rfl, hp, natsOf_natI p⟩
/-- What a function hands back: an int and a bool. -/
def RetNB (w : World) (r : Int × Bool) (e : Ending) (w' : World) : Prop := e = .returned (.tuple #[.int .i64 r.1, .bool r.2]) ∧ Below w.heap.size w w'
theorem ret_empty {w w1 : World} {r : List Int × Bool} (hr : r = ([], false)) (hb : Below w.heap.size w w1) (e : Ending) (he : e = .returned (.tuple #[.slice (some ⟨w1.heap.size, 0, none⟩) 0 0, .bool false])) : RetIB w r e (w1.alloc (.cells #[] 3)) := by
  subst hr he
  have h := BlockIs.new w1 3 (ic []).toArray
  exact ⟨_, 0, rfl, seg_of_block h hb.size (by simp), hb.alloc hb.size _⟩
theorem ret_block {w w' : World} {r : List Int × Bool} {xs : List Int} {g : Nat} (hr : r = (xs, true)) (hg : w.heap.size ≤ g) (hB : BlockIs w' g 3 (ic xs).toArray) (hm : xs.length ≤ 100000000) (hb : Below w.heap.size w w') (e : Ending) (he : e = .returned (.tuple #[.slice (some ⟨g, 0, none⟩) xs.length xs.length, .bool true])) : RetIB w r e w' := by
  subst hr he
  exact ⟨_, xs.length, rfl, seg_of_block hB hg (by unfold maxLen; simp; omega), hb⟩

section
variable (A B : Option Addr) (c d : Nat) (js : List J) (o : List Int) (w : World) (hr : Row w A (jc js)) (hq : Row w B (ic o)) (hn : js.length ≤ 10000000) (hm : o.length ≤ 10000000)
include hr hq hn hm
end
end Go.Proofs.Yteidhjmnononaaa
