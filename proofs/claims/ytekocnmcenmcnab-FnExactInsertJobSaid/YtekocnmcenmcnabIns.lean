/- InsertJob of the program and of the model. -/
import Derived.Test.YtekocnmcenmcnabInsL
import Derived.Test.YtekocnmcenmcnabOrd
import Derived.Test.YtekocnmcenmcnabRegInvG
namespace Go.Proofs.Ytekocnmcenmcnab
open Go.RowKit
theorem insR_no {o : List Int} {f t : Int} (h : insB o f t = false) : insR o f t = ([], false) := by unfold insR; rw [h]; rfl
section
variable (A : Option Addr) (c : Nat) (o : List Int) (f t : Int) (w : World) (hr : Row w A (ic o)) (hm : o.length ≤ 10000000)
include hr hm
set_option maxRecDepth 100000 in
set_option maxHeartbeats 4000000 in
theorem impl_InsertJob : Calls Try.prog 32 #[.slice A o.length c, .int .i64 f, .int .i64 t] w (RetIB w (insR o f t)) := by
  have stop : insB o f t = false → Hid (insR o f t = ([], false)) := fun h => insR_no h
  cases hg : ordB o.length o
  · have HR := stop (by unfold insB; rw [hg]; rfl)
    clear stop
    go_enter Try.func32, Try.ntmps32
    go_wp2_with fail
    refine (IsOrder_any _ A c o _ hr (by omega)).mono ?_
    rintro e w1 ⟨rfl, hb1⟩
    rw [hg]
    go_wp2
    go_ret2
    exact ret_empty HR.out hb1 _ rfl
  · by_cases f0 : f < 0
    · have HR := stop (by unfold insB; rw [inB_no (x := f) (by omega)]; simp)
      clear stop
      go_enter Try.func32, Try.ntmps32
      go_wp2_with fail
      refine (IsOrder_any _ A c o _ hr (by omega)).mono ?_
      rintro e w1 ⟨rfl, hb1⟩
      rw [hg]
      go_wp2
      go_ret2
      exact ret_empty HR.out hb1 _ rfl
    · by_cases f1 : f ≥ (o.length : Int)
      · have HR := stop (by unfold insB; rw [inB_no (x := f) (by omega)]; simp)
        clear stop
        go_enter Try.func32, Try.ntmps32
        go_wp2_with fail
        refine (IsOrder_any _ A c o _ hr (by omega)).mono ?_
        rintro e w1 ⟨rfl, hb1⟩
        rw [hg]
        go_wp2
        go_ret2
        exact ret_empty HR.out hb1 _ rfl
      · by_cases t0 : t < 0
        · have HR := stop (by unfold insB; rw [inB_no (x := t) (by omega)]; simp)
          clear stop
          go_enter Try.func32, Try.ntmps32
          go_wp2_with fail
          refine (IsOrder_any _ A c o _ hr (by omega)).mono ?_
          rintro e w1 ⟨rfl, hb1⟩
          rw [hg]
          go_wp2
          go_ret2
          exact ret_empty HR.out hb1 _ rfl
        · by_cases t1 : t ≥ (o.length : Int)
          · have HR := stop (by unfold insB; rw [inB_no (x := t) (by omega)]; simp)
            clear stop
            go_enter Try.func32, Try.ntmps32
            go_wp2_with fail
            refine (IsOrder_any _ A c o _ hr (by omega)).mono ?_
            rintro e w1 ⟨rfl, hb1⟩
            rw [hg]
            go_wp2
            go_ret2
            exact ret_empty HR.out hb1 _ rfl
          · obtain ⟨f', rfl⟩ : ∃ k : Nat, f = (k : Int) := ⟨f.toNat, by omega⟩
            obtain ⟨t', rfl⟩ : ∃ k : Nat, t = (k : Int) := ⟨t.toNat, by omega⟩
            have hfl : f' < o.length := by omega
            have htl : t' < o.length := by omega
            have h8 := (ord_out hg).2.1
            have HR : Hid (insR o f' t' = (movedI o f' t', true)) := by
              show _ = _
              unfold insR insB
              rw [hg, inB_yes (by omega) (by omega), inB_yes (by omega) (by omega)]; rfl
            have HRL := Lib.hid (restI_len hfl)
            have HML := Lib.hid (movedI_len hfl htl)
            clear stop
            obtain ⟨ad, rfl, _⟩ := hr.int hfl
            go_enter Try.func32, Try.ntmps32
            go_wp2_with fail
            refine (IsOrder_any _ (some ad) c o _ hr (by omega)).mono ?_
            rintro e w1 ⟨rfl, hb1⟩
            rw [hg]
            go_wp2_with fail
            refine (clone_some ad c o _ (hr.below hb1) (by omega)).mono ?_
            rintro e w2 ⟨ad2, c2, rfl, hown, hb2⟩
            obtain ⟨g, cur, hA, hgB, hB, hnc, hcm, hcs, htk⟩ := own_block hown (by omega)
            injection hA with hA
            subst hA
            rw [Nat.mul_one] at hcs htk
            have HB2 := Lib.hid (hb1.trans (hb2.mono hb1.size))
            have hg1 := hb1.size
            go_wp2_with fail
            refine (delete_one hB hcs hnc hcm htk hfl).mono ?_
            rintro e w3 ⟨rfl, cur3, hB3, hs3, hR3, hbel⟩
            have hb3 := hbel w.heap.size (by omega) HB2.out.size
            have HB3 := Lib.hid (HB2.out.trans hb3)
            obtain ⟨a', hA', hl⟩ := (hr.below HB3.out).int hfl
            injection hA' with hA'
            subst hA'
            have hf0 : (0 : Int) ≤ f' := by omega
            have hf1 : (f' : Int) < o.length := by omega
            have hV := BlockIs.new w3 3 #[.int .i64 o[f']]
            have hB4 := hB3.below ((Below.refl w3.heap.size w3).alloc (Nat.le_refl _) (.cells #[.int .i64 o[f']] 3))
            have hne : w3.heap.size ≠ g := by have := hB3.lt; omega
            have hcall := insert_one (x := o[f']) (t := t') hB4 hV hne hs3 (by have := HRL.out; omega) hcm hR3 (by have := HRL.out; omega)
            have HC := Lib.hid hcall
            clear hcall hV hB4 hne hB3 hR3 hbel hb3 hB hown htk hb1 hb2 HB2
            go_wp2_with fail
            refine HC.out.mono ?_
            rintro e w4 ⟨rfl, cur4, hB4, hs4, ht4, hbel4⟩
            have hb4 := hbel4 w.heap.size (by omega) (by have := HB3.out.size; simp; omega)
            have HB4 := Lib.hid ((HB3.out.alloc HB3.out.size (.cells #[.int .i64 o[f']] 3)).trans hb4)
            have hown4 := hB4.own (base := w.heap.size) (n := o.length) (c := c2) (size := 1) (by omega) (by omega) hnc hcm (by omega)
            have HO := Lib.hid (And.intro hown4 ht4)
            clear hown4 ht4 hb4 hbel4 HC hB4 hl
            go_wp2
            go_ret2
            refine ⟨some ⟨g, 0, none⟩, c2, ?_, ?_, HB4.out⟩
            · rw [HR.out]; simp only; rw [HML.out, HRL.out]; rfl
            · rw [HR.out]; simp only; rw [HML.out]
              have h := HO.out.1
              rw [Nat.mul_one, ← HRL.out, HO.out.2, HRL.out] at h
              have hmv : movedI o f' t' = (restI o f').take t' ++ o[f'] :: (restI o f').drop t' := by unfold movedI; rw [getD_at o 0 hfl]
              rw [hmv]
              exact Seg.of_own h
end
end Go.Proofs.Ytekocnmcenmcnab
