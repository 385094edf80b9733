/- A set without another one, as a slice that is there: the model's. -/
import Derived.Test.YtpoibjmkbljblaaDoorRsf
namespace Go.Proofs.YtpoibjmkbljblaaDoor
set_option linter.unusedSimpArgs false
set_option linter.unusedVariables false
set_option linter.unusedSectionVars false
open Go.RowKit
section
variable (A B : Option Addr) (c d : Nat) (xs ys : List Int) (w : World) (hr : Row w A (ic xs)) (hq : Row w B (ic ys)) (hx : xs.length ≤ 10000000) (hy : ys.length ≤ 10000000)
include hr hq hx hy
set_option maxRecDepth 100000 in
set_option maxHeartbeats 1000000 in
theorem l4Rest_some : Calls Tryd.prog 80 #[.slice A xs.length c, .slice B ys.length d] w fun e w' => ∃ ad cc, e = .returned (.slice (some ad) (noneOf xs ys).length cc) ∧ w'.ownsRow w.heap.size 3 1 (.slice (some ad) (noneOf xs ys).length cc) (noneOf xs ys).length (ic (noneOf xs ys)) ∧ Below w.heap.size w w' := by
  obtain ⟨i0, hi, hz0, hz1, hz2⟩ := info_parts infoI
  have hb0 := (Below.refl w.heap.size w).alloc (Nat.le_refl _) (.cells #[] 3)
  have hown0 : (w.alloc (.cells #[] 3)).ownsRow w.heap.size 3 1 (.slice (some ⟨w.heap.size, 0, none⟩) 0 0) 0 [] := World.ownsRow_made w #[] 0 (Nat.le_refl _) (by unfold maxLen; omega) rfl
  have H0 := Lib.hid (And.intro hown0 hb0)
  clear hown0 hb0
  go_enter Tryd.func80, Tryd.ntmps80
  go_wp2
  go_loopw [5, 6] (fun v i wr => ∃ (k : Nat) (ad : Addr) (cc : Nat), k ≤ xs.length ∧ i = .int .i64 (k : Int) ∧ v = .slice (some ad) (noneOf (xs.take k) ys).length cc ∧ Hid (wr.ownsRow w.heap.size 3 1 (.slice (some ad) (noneOf (xs.take k) ys).length cc) (noneOf (xs.take k) ys).length (ic (noneOf (xs.take k) ys)) ∧ Below w.heap.size w wr)) (fun _ i _ => xs.length - (intOf i).toNat)
  case atStart => exact ⟨0, ⟨w.heap.size, 0, none⟩, 0, Nat.zero_le _, rfl, rfl, Lib.hid H0.out⟩
  case round =>
    obtain ⟨k, av, cv, hk, rfl, rfl, HK⟩ := hrel
    clear H0
    by_cases hlt : k < xs.length
    · have hk0 : (0 : Int) ≤ k := by omega
      have hk1 : (k : Int) < xs.length := by omega
      obtain ⟨ad, hA, hc⟩ := (hr.below HK.out.2).int hlt
      subst hA
      have HT := Lib.hid (noneOf_take (ys := ys) hlt)
      have HH := Lib.hid (l1Has_any B d ys xs[k] wr (hq.below HK.out.2) (by omega))
      have hln := noneOf_len (xs.take k) ys
      rw [List.length_take, Nat.min_eq_left (by omega)] at hln
      generalize xs[k] = x at *
      cases hh : hasI ys x
      · rw [hh] at HH HT
        have HS : Hid (noneOf (xs.take (k + 1)) ys = noneOf (xs.take k) ys ++ [x]) := HT.out
        clear HT
        have HO := Lib.hid (HK.out.1.alloc (.cells #[.int .i64 x] 3))
        have HSR := Lib.hid (row_src (Row.new wr 3 #[.int .i64 x]))
        have hbs := HK.out.2.size
        go_wp2_with fail
        refine HH.out.mono ?_
        rintro e _ ⟨rfl, rfl⟩
        go_wp2_with (at_builtin; refine wpList_append_own _ rfl _ _ 23 rfl w.heap.size 3 i0 (.int .i64 0) 1 8 Tryd.underlying23 hi hz0 hz1 hz2 rfl (by decide) _ _ _ rfl HO.out ⟨wr.heap.size, 0, none⟩ 1 1 [.int .i64 x] rfl rfl HSR.out (by intro u hu; rw [List.mem_singleton.1 hu]; rfl) (by unfold maxLen; omega) (by omega) (by simp; omega) ?_; intro v' w4 hown' hgrow hnil)
        have HK2 : Hid (w4.ownsRow w.heap.size 3 1 v' (noneOf (xs.take (k + 1)) ys).length (ic (noneOf (xs.take (k + 1)) ys)) ∧ Below w.heap.size w w4) := by
          show _ ∧ _
          rw [HS.out]
          refine ⟨?_, (HK.out.2.alloc hbs _).grown hgrow (by simp; omega) (fun j hj => (HO.out.lt j hj).1)⟩
          have e1 : ic (noneOf (xs.take k) ys) ++ [.int .i64 x] = ic (noneOf (xs.take k) ys ++ [x]) := by unfold ic; simp
          rw [← e1, List.length_append]
          exact hown'
        obtain ⟨A4, c4, rfl, _, _⟩ := own_slice hown'
        obtain ⟨g4, _, hA4, _⟩ := own_block hown' (by simp)
        subst hA4
        have HLS : Hid ((noneOf (xs.take (k + 1)) ys).length = (noneOf (xs.take k) ys).length + 1) := by show _ = _; rw [HS.out]; simp
        clear hown' hgrow hnil HO HSR HK HS
        go_wp2
        go_roundw
        case rel => exact ⟨k + 1, ⟨g4, 0, none⟩, c4, by omega, by go_num, by rw [HLS.out], by rw [HLS.out] at HK2 ⊢; exact HK2⟩
        case measure => simp [intOf]; omega
      · rw [hh] at HH HT
        have HS : Hid (noneOf (xs.take (k + 1)) ys = noneOf (xs.take k) ys) := HT.out
        clear HT
        go_wp2_with fail
        refine HH.out.mono ?_
        rintro e _ ⟨rfl, rfl⟩
        go_wp2
        go_roundw
        case rel => exact ⟨k + 1, av, cv, by omega, by go_num, by rw [HS.out], by rw [HS.out]; exact HK⟩
        case measure => simp [intOf]; omega
    · obtain rfl : k = xs.length := by omega
      have HF := HK.out
      have hxt : xs.take xs.length = xs := List.take_length
      rw [hxt] at HF
      have HF2 := Lib.hid HF
      clear HK HF
      go_wp2
      go_ret
      exact ⟨av, cv, by rw [hxt]; rfl, HF2.out.1, HF2.out.2⟩
end
end Go.Proofs.YtpoibjmkbljblaaDoor
