/- A set without another one: the model's. -/
import Derived.Test.YtpoibjmkbljblaaDoorOrd
import Derived.Test.YtpoibjmkbljblaaDoorKb2
import Derived.Test.YtpoibjmkbljblaaDoorKb1
import Derived.Test.YtpoibjmkbljblaaDoorEndsO
namespace Go.Proofs.YtpoibjmkbljblaaDoor
open Go.RowKit
def noneOf (xs ys : List Int) : List Int := xs.filter fun x => !hasI ys x
theorem noneOf_take {xs ys : List Int} {k : Nat} (hk : k < xs.length) : noneOf (xs.take (k + 1)) ys = if hasI ys xs[k] = true then noneOf (xs.take k) ys else noneOf (xs.take k) ys ++ [xs[k]] := by
  unfold noneOf
  rw [List.take_succ_eq_append_getElem hk, List.filter_append]
  cases h : hasI ys xs[k] <;> simp [h]
theorem noneOf_len (xs ys : List Int) : (noneOf xs ys).length ≤ xs.length := List.length_filter_le _ _
section
variable (A B : Option Addr) (c d : Nat) (xs ys : List Int) (w : World) (hr : Row w A (ic xs)) (hq : Row w B (ic ys)) (hx : xs.length ≤ 10000000) (hy : ys.length ≤ 10000000)
include hr hq hx hy
set_option maxRecDepth 100000 in
set_option maxHeartbeats 1000000 in
theorem l4Rest_any : Calls Tryd.prog 80 #[.slice A xs.length c, .slice B ys.length d] w fun e w' => ∃ v, e = .returned v ∧ w'.ownsRow w.heap.size 3 1 v (noneOf xs ys).length (ic (noneOf xs ys)) ∧ Below w.heap.size w w' := by
  obtain ⟨i0, hi, hz0, hz1, hz2⟩ := info_parts infoI
  have hb0 := (Below.refl w.heap.size w).alloc (Nat.le_refl _) (.cells #[] 3)
  have hown0 : (w.alloc (.cells #[] 3)).ownsRow w.heap.size 3 1 (.slice (some ⟨w.heap.size, 0, none⟩) 0 0) 0 [] := World.ownsRow_made w #[] 0 (Nat.le_refl _) (by unfold maxLen; omega) rfl
  have H0 := Lib.hid (And.intro hown0 hb0)
  clear hown0 hb0
  go_enter Tryd.func80, Tryd.ntmps80
  go_wp2
  go_loopw [5, 6] (fun v i wr => ∃ (k : Nat) (v' : Value), k ≤ xs.length ∧ i = .int .i64 (k : Int) ∧ v = v' ∧ Hid (wr.ownsRow w.heap.size 3 1 v' (noneOf (xs.take k) ys).length (ic (noneOf (xs.take k) ys)) ∧ Below w.heap.size w wr)) (fun _ i _ => xs.length - (intOf i).toNat)
  case atStart => exact ⟨0, _, Nat.zero_le _, rfl, rfl, Lib.hid H0.out⟩
  case round =>
    obtain ⟨k, v, hk, rfl, rfl, HK⟩ := hrel
    clear H0
    by_cases hlt : k < xs.length
    · have hk0 : (0 : Int) ≤ k := by omega
      have hk1 : (k : Int) < xs.length := by omega
      obtain ⟨ad, hA, hc⟩ := (hr.below HK.out.2).int hlt
      subst hA
      have HT := Lib.hid (noneOf_take (ys := ys) hlt)
      have HH := Lib.hid (l1Has_any B d ys xs[k] wr (hq.below HK.out.2) (by omega))
      have hln := noneOf_len (xs.take k) ys
      rw [List.length_take, Nat.min_eq_left (by omega)] at hln
      generalize xs[k] = x at *
      cases hh : hasI ys x
      · rw [hh] at HH HT
        have HS : Hid (noneOf (xs.take (k + 1)) ys = noneOf (xs.take k) ys ++ [x]) := HT.out
        clear HT
        have HO := Lib.hid (HK.out.1.alloc (.cells #[.int .i64 x] 3))
        have HSR := Lib.hid (row_src (Row.new wr 3 #[.int .i64 x]))
        have hbs := HK.out.2.size
        go_wp2_with fail
        refine HH.out.mono ?_
        rintro e _ ⟨rfl, rfl⟩
        go_wp2_with (at_builtin; refine wpList_append_own _ rfl _ _ 23 rfl w.heap.size 3 i0 (.int .i64 0) 1 8 Tryd.underlying23 hi hz0 hz1 hz2 rfl (by decide) _ _ _ rfl HO.out ⟨wr.heap.size, 0, none⟩ 1 1 [.int .i64 x] rfl rfl HSR.out (by intro u hu; rw [List.mem_singleton.1 hu]; rfl) (by unfold maxLen; omega) (by omega) (by simp; omega) ?_; intro v' w4 hown' hgrow hnil)
        have HK2 : Hid (w4.ownsRow w.heap.size 3 1 v' (noneOf (xs.take (k + 1)) ys).length (ic (noneOf (xs.take (k + 1)) ys)) ∧ Below w.heap.size w w4) := by
          show _ ∧ _
          rw [HS.out]
          refine ⟨?_, (HK.out.2.alloc hbs _).grown hgrow (by simp; omega) (fun j hj => (HO.out.lt j hj).1)⟩
          have e1 : ic (noneOf (xs.take k) ys) ++ [.int .i64 x] = ic (noneOf (xs.take k) ys ++ [x]) := by unfold ic; simp
          rw [← e1, List.length_append]
          exact hown'
        clear hown' hgrow hnil HO HSR HK HS
        go_wp2
        go_roundw
        case rel => exact ⟨k + 1, v', by omega, by go_num, rfl, HK2⟩
        case measure => simp [intOf]; omega
      · rw [hh] at HH HT
        have HS : Hid (noneOf (xs.take (k + 1)) ys = noneOf (xs.take k) ys) := HT.out
        clear HT
        go_wp2_with fail
        refine HH.out.mono ?_
        rintro e _ ⟨rfl, rfl⟩
        go_wp2
        go_roundw
        case rel => exact ⟨k + 1, _, by omega, by go_num, rfl, by rw [HS.out]; exact HK⟩
        case measure => simp [intOf]; omega
    · obtain rfl : k = xs.length := by omega
      have HF := HK.out
      rw [List.take_length] at HF
      have HF2 := Lib.hid HF
      clear HK HF
      go_wp2
      go_ret
      exact ⟨_, rfl, HF2.out.1, HF2.out.2⟩
end
end Go.Proofs.YtpoibjmkbljblaaDoor
