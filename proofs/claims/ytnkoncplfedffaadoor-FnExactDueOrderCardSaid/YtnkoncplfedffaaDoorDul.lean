/- DueOrder: the model's and the program's. -/
import Derived.Test.YtnkoncplfedffaaDoorSrf
import Derived.Test.YtnkoncplfedffaaDoorDud
import Derived.Test.YtnkoncplfedffaaDoorSegH
namespace Go.Proofs.YtnkoncplfedffaaDoor
open Go.RowKit
theorem ret_ownD {w w' : World} {r : List Int × Bool} {p : List Nat} {v : Value} {n : Nat} {b : Bool} (hr : r = (natI p, b)) (hn : p.length = n) (ho : w'.ownsRow w.heap.size 3 1 v n (ic (natI p))) (hb : Below w.heap.size w w') (e : Ending) (he : e = .returned (.tuple #[v, .bool b])) : RetIB w r e w' := by
  subst hr hn
  obtain ⟨A, c, rfl, hs⟩ := seg_out ho
  subst he
  refine ⟨A, c, by rw [List.length_map], ?_, hb⟩
  rw [List.length_map]
  exact hs
def dueR (js : List J) : List Int × Bool := if plainL js then (natI (dueL js (List.range js.length)), true) else ([], false)
theorem dueR_len (js : List J) : (dueR js).1.length ≤ 8 := by
  unfold dueR
  split
  · rename_i h
    have h8 := (good_out (plain_good h)).1
    show (natI _).length ≤ 8
    unfold natI
    rw [List.length_map, dueL_len, List.length_range]; exact h8
  · exact Nat.zero_le _
section
variable (A : Option Addr) (c : Nat) (js : List J) (w : World) (hr : Row w A (jc js)) (hn : js.length ≤ 10000000)
include hr hn
set_option maxRecDepth 100000 in
theorem spec_DueOrder : Calls Tryd.prog 14 #[.slice A js.length c] w (RetIB w (dueR js)) := by
  cases hp : plainL js
  · have HR : Hid (dueR js = ([], false)) := by show _ = _; unfold dueR; rw [hp]; rfl
    go_enter Tryd.func14, Tryd.ntmps14
    go_wp2_with fail
    refine (l6Good_any A c js _ hr (by omega)).mono ?_
    rintro e w1 ⟨rfl, hb1⟩
    rw [hp]
    go_wp2
    go_ret2
    exact ret_empty HR.out hb1 _ rfl
  · have HR : Hid (dueR js = (natI (dueL js (List.range js.length)), true)) := by show _ = _; unfold dueR; rw [hp]; rfl
    have h8 := (good_out (plain_good hp)).1
    have HQ : Hid (∀ (B : Option Addr) (d : Nat) (w' : World), Below w.heap.size w w' → Row w' B (ic (natI (List.range js.length))) → Calls Tryd.prog 39 #[.slice A js.length c, .slice B js.length d] w' fun e w'' => ∃ v, e = .returned v ∧ w''.ownsRow w'.heap.size 3 1 v js.length (ic (natI (dueL js (List.range js.length)))) ∧ Below w'.heap.size w' w'') := fun B d w' hb hrw => by
      have h := l6Due_any A B c d js (List.range js.length) w' (hr.below hb) hrw (fun x hx => List.mem_range.1 hx) (by rw [List.length_range]; exact h8)
      rw [List.length_range] at h
      exact h
    go_enter Tryd.func14, Tryd.ntmps14
    go_wp2_with fail
    refine (l6Good_any A c js _ hr (by omega)).mono ?_
    rintro e w1 ⟨rfl, hb1⟩
    rw [hp]
    go_wp2_with fail
    refine (l6All_any A js.length c h8 _).mono ?_
    rintro e w2 ⟨v, rfl, hown, hb2⟩
    obtain ⟨B, d, rfl, _, hrow⟩ := own_slice hown
    have hb12 : Below w.heap.size w w2 := hb1.trans (hb2.mono hb1.size)
    have HC := Lib.hid (HQ.out B d w2 hb12 hrow)
    have HB := Lib.hid hb12
    clear hown hrow hb1 hb2 hb12 HQ
    go_wp2_with fail
    refine HC.out.mono ?_
    rintro e w3 ⟨v, rfl, hown, hb3⟩
    have HX := Lib.hid (And.intro (own_lower hown HB.out.size) (HB.out.trans (hb3.mono HB.out.size)))
    clear hown hb3
    go_wp2
    go_ret2
    exact ret_ownD HR.out (by rw [dueL_len, List.length_range]) HX.out.1 HX.out.2 _ rfl
set_option maxRecDepth 100000 in
theorem impl_DueOrder (hT : TzTab w) : Calls Tryd.prog 15 #[.slice A js.length c] w (RetIB w (dueR js)) := by
  have HT := Lib.hid hT
  clear hT
  go_enter Tryd.func15, Tryd.ntmps15
  go_wp2_with fail
  refine (plainListOf_any A c js w hr (by omega)).mono ?_
  rintro e w1 ⟨hb1, ⟨hp, rfl⟩ | ⟨hp, rfl⟩⟩
  · have HR : Hid (dueR js = (natI (dueL js (List.range js.length)), true)) := by show _ = _; unfold dueR; rw [hp]; rfl
    obtain ⟨h8, hok⟩ := good_out (plain_good hp)
    have hpw := pow_lt js.length (by omega)
    have HC := Lib.hid (dueOrder_any A c js w1 (hr.below hb1) hok h8 (2 ^ js.length - 1) hpw (fun k hk => all_bit (by omega) hk) (HT.out.below hb1))
    rw [memB_all js.length (by omega), List.length_range] at HC
    have HB := Lib.hid hb1
    clear hok hpw hb1 hp
    go_wp2_with fail
    refine (all_any A js.length c h8 _).mono ?_
    rintro e _ ⟨rfl, rfl⟩
    generalize 2 ^ js.length - 1 = sx at *
    go_wp2_with fail
    refine HC.out.mono ?_
    rintro e w2 ⟨v, rfl, hown, hb2⟩
    have HX := Lib.hid (And.intro (own_lower hown HB.out.size) (HB.out.trans (hb2.mono HB.out.size)))
    clear hown hb2
    go_wp2
    go_ret2
    exact ret_ownD HR.out (by rw [dueL_len, List.length_range]) HX.out.1 HX.out.2 _ rfl
  · have HR : Hid (dueR js = (natI (dueL [] (List.range 0)), false)) := by show _ = _; unfold dueR; rw [hp]; rfl
    have HC := Lib.hid (dueOrder_any none 0 [] w1 (Row.nil _) (by simp) (by simp) (2 ^ 0 - 1) (by omega) (fun k hk => by simp at hk) (HT.out.below hb1))
    rw [memB_all 0 (by omega), List.length_range] at HC
    have HB := Lib.hid hb1
    clear hb1 hp
    go_wp2_with fail
    refine (all_any none 0 0 (by omega) _).mono ?_
    rintro e _ ⟨rfl, rfl⟩
    go_wp2_with fail
    refine HC.out.mono ?_
    rintro e w2 ⟨v, rfl, hown, hb2⟩
    have HX := Lib.hid (And.intro (own_lower hown HB.out.size) (HB.out.trans (hb2.mono HB.out.size)))
    clear hown hb2
    go_wp2
    go_ret2
    exact ret_ownD HR.out rfl HX.out.1 HX.out.2 _ rfl
end
end Go.Proofs.YtnkoncplfedffaaDoor
