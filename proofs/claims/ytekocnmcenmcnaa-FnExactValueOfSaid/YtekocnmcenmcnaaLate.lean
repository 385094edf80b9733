/- LateJobs: the model's and the program's. -/
import Derived.Test.YtekocnmcenmcnaaRets3
import Derived.Test.YtekocnmcenmcnaaAppW
namespace Go.Proofs.Ytekocnmcenmcnaa
open Go.RowKit
def lateR (js : List J) (o : List Int) : List Int × Bool := if twoB js o then (natI (lateTo js (endsL js (natsOf o)) js.length), true) else ([], false)
theorem lateR_len (js : List J) (o : List Int) : (lateR js o).1.length ≤ 8 := by
  unfold lateR
  cases h : twoB js o
  · simp
  · have := lateTo_len js (endsL js (natsOf o)) js.length
    have := (good_out (two_out h).1).1
    simp only [if_true, List.length_map]; omega
theorem late_hit {js : List J} {es : List Int} {k : Nat} (hk : k < js.length) (hl : k < es.length) (h : js[k].d < es[k]) : lateTo js es (k + 1) = lateTo js es k ++ [k] := by
  rw [lateTo_succ, getD_at js j0 hk, getD_at es 0 hl, if_pos h]
theorem late_skip {js : List J} {es : List Int} {k : Nat} (hk : k < js.length) (hl : k < es.length) (h : ¬ js[k].d < es[k]) : lateTo js es (k + 1) = lateTo js es k := by
  rw [lateTo_succ, getD_at js j0 hk, getD_at es 0 hl, if_neg h]
theorem ic_nat_snoc (p : List Nat) (k : Nat) : ic (natI p) ++ [.int .i64 ((k : Nat) : Int)] = ic (natI (p ++ [k])) := by unfold ic; simp
theorem ret_own {w w' : World} {r : List Int × Bool} {p : List Nat} {v : Value} (hr : r = (natI p, true)) (ho : w'.ownsRow w.heap.size 3 1 v p.length (ic (natI p))) (hb : Below w.heap.size w w') (e : Ending) (he : e = .returned (.tuple #[v, .bool true])) : RetIB w r e w' := by
  subst hr
  obtain ⟨A, c, rfl, hs⟩ := seg_out ho
  subst he
  refine ⟨A, c, by rw [List.length_map], ?_, hb⟩
  rw [List.length_map]
  exact hs
section
variable (A B : Option Addr) (c d : Nat) (js : List J) (o : List Int) (w : World) (hr : Row w A (jc js)) (hq : Row w B (ic o)) (hn : js.length ≤ 10000000) (hm : o.length ≤ 10000000)
include hr hq hn hm
set_option maxRecDepth 100000 in
set_option maxHeartbeats 1000000 in
theorem impl_LateJobs : Calls Try.prog 28 #[.slice A js.length c, .slice B o.length d] w (RetIB w (lateR js o)) := by
  have HR : Hid (lateR js o = if twoB js o then (natI (lateTo js (endsL js (natsOf o)) js.length), true) else ([], false)) := rfl
  cases ht : twoB js o
  · rw [ht] at HR
    go_enter Try.func28, Try.ntmps28
    go_wp2_with fail
    refine (isScheduled_any A B c d js o _ hr hq hn hm).mono ?_
    rintro e w1 ⟨rfl, hb1⟩
    rw [ht]
    go_wp2
    go_ret2
    exact ret_empty HR.out hb1 _ rfl
  · rw [ht] at HR
    obtain ⟨i0, hi, hz0, hz1, hz2⟩ := info_parts infoI
    have HE := Lib.hid (endsL_len js (natsOf o))
    have h8 := (good_out (two_out ht).1).1
    obtain ⟨es, hes⟩ : ∃ es, es = endsL js (natsOf o) := ⟨_, rfl⟩
    rw [← hes] at HR HE
    have HES := Lib.hid hes
    have HT := Lib.hid ht
    clear hes ht
    go_enter Try.func28, Try.ntmps28
    go_wp2_with fail
    refine (isScheduled_any A B c d js o _ hr hq hn hm).mono ?_
    rintro e w1 ⟨rfl, hb1⟩
    rw [HT.out]
    go_wp2_with fail
    have hb1' := hb1.alloc hb1.size (.cells #[] 3)
    refine (endsIn_o A B c d js o _ (hr.below hb1') (hq.below hb1') HT.out).mono ?_
    rintro e w2 ⟨g, rfl, hg2, hB2, hb2⟩
    rw [← HES.out] at hB2
    have hown0 : (w1.alloc (.cells #[] 3)).ownsRow w.heap.size 3 1 (.slice (some ⟨w1.heap.size, 0, none⟩) 0 0) 0 [] := World.ownsRow_made w1 #[] 0 hb1.size (by unfold maxLen; omega) rfl
    have hown2 := (Seg.of_own hown0).below hb2 |>.own
    have hb2' := hb1'.trans (hb2.mono hb1'.size)
    have hgw : w.heap.size ≤ g := Nat.le_trans hb1'.size hg2
    have hne0 : (Value.slice (some ⟨w1.heap.size, 0, none⟩) 0 0).ownBlock ≠ some g := by
      intro e; injection e with e; simp at hg2 e; omega
    clear hown0 hb1 hb1' hb2 hg2
    go_wp2
    go_loopw [6, 19] (fun v i wr => ∃ (k : Nat), k ≤ js.length ∧ i = .int .i64 k ∧ wr.ownsRow w.heap.size 3 1 v (lateTo js es k).length (ic (natI (lateTo js es k))) ∧ v.ownBlock ≠ some g ∧ BlockIs wr g 3 (ic es).toArray ∧ Below w.heap.size w wr) (fun _ i _ => js.length - (intOf i).toNat)
    case atStart => exact ⟨0, Nat.zero_le _, rfl, hown2, hne0, hB2, hb2'⟩
    case round =>
      obtain ⟨k, hk, rfl, hown, hne, hB, hb⟩ := hrel
      clear hown2 hne0 hB2 hb2'
      have hsz := hb.size
      have hgl := hB.lt
      by_cases hlt : k < js.length
      · obtain ⟨ad, hA, hbl, hc0, hc1, hc2, hc3⟩ := (hr.below hb).job hlt
        subst hA
        have hke : k < es.length := by rw [HE.out]; exact hlt
        have hck := hB.int hke
        have hll := lateTo_len js es k
        have hk0 : (0 : Int) ≤ k := by omega
        have hk1 : (k : Int) < js.length := by omega
        have hk2 : (k : Int) < es.length := by omega
        by_cases hl : js[k].d < es[k]
        · have HL := Lib.hid (late_hit hlt hke hl)
          have HR1 := Lib.hid hr
          have HB := Lib.hid hB
          clear hr hB
          generalize js[k] = j at *
          generalize es[k] = x at *
          go_wp2_with (at_builtin; refine wpList_append_at _ rfl _ _ 25 rfl w.heap.size 3 i0 (.int .i64 0) 1 8 Try.underlying25 hi hz0 hz1 hz2 rfl (by decide) _ _ _ rfl (hown.alloc _) ⟨wr.heap.size, 0, none⟩ 1 1 [.int .i64 (k : Int)] rfl rfl (cell_one_new _ _ _) (by intro u hu; simp at hu; subst hu; rfl) (by omega) (by unfold maxLen; omega) (by omega) (by simp; omega) ?_; intro v' w3 hown' hgrow hat)
          have hb3 := app_grown hb hsz hown hgrow
          have hB3 := app_block HB.out hgrow hne
          have hne3 := app_ne hgl hne hat
          rw [ic_nat_snoc, ← HL.out, show (lateTo js es k).length + 1 = (lateTo js es (k + 1)).length by rw [HL.out]; simp] at hown'
          go_roundw
          case rel => exact ⟨k + 1, by omega, by go_num, hown', hne3, hB3, hb3⟩
          case measure => simp [intOf]; omega
        · have HL := Lib.hid (late_skip hlt hke hl)
          rw [← HL.out] at hown
          clear hr
          generalize js[k] = j at *
          generalize es[k] = x at *
          go_wp2
          go_roundw
          case rel => exact ⟨k + 1, by omega, by go_num, hown, hne, hB, hb⟩
          case measure => simp [intOf]; omega
      · obtain rfl : k = js.length := by omega
        go_wp2
        go_ret2
        exact ret_own HR.out hown hb _ rfl
set_option maxRecDepth 100000 in
set_option maxHeartbeats 1000000 in
theorem spec_LateJobs : Calls Try.prog 29 #[.slice A js.length c, .slice B o.length d] w (RetIB w (lateR js o)) := by
  have HR : Hid (lateR js o = if twoB js o then (natI (lateTo js (endsL js (natsOf o)) js.length), true) else ([], false)) := rfl
  have hown0 : (w.alloc (.cells #[] 3)).ownsRow w.heap.size 3 1 (.slice (some ⟨w.heap.size, 0, none⟩) 0 0) 0 [] := World.ownsRow_made w #[] 0 (Nat.le_refl _) (by unfold maxLen; omega) rfl
  have hb0 := (Below.refl w.heap.size w).alloc (Nat.le_refl _) (.cells #[] 3)
  cases ht : twoB js o
  · rw [ht] at HR
    go_enter Try.func29, Try.ntmps29
    go_wp2_with fail
    refine (l2Two_any A B c d js o _ (hr.below hb0) (hq.below hb0) hn hm).mono ?_
    rintro e w1 ⟨rfl, hb1⟩
    rw [ht]
    go_wp2
    go_ret2
    have hs := (Seg.of_own hown0).below hb1
    exact ⟨some ⟨w.heap.size, 0, none⟩, 0, by rw [HR.out]; rfl, by rw [HR.out]; exact Seg.of_own hs.own, hb0.trans (hb1.mono hb0.size)⟩
  · rw [ht] at HR
    obtain ⟨i0, hi, hz0, hz1, hz2⟩ := info_parts infoI
    have HE := Lib.hid (endsL_len js (natsOf o))
    have h8 := (good_out (two_out ht).1).1
    obtain ⟨es, hes⟩ : ∃ es, es = endsL js (natsOf o) := ⟨_, rfl⟩
    rw [← hes] at HR HE
    have HES := Lib.hid hes
    have HT := Lib.hid ht
    clear hes ht
    go_enter Try.func29, Try.ntmps29
    go_wp2_with fail
    refine (l2Two_any A B c d js o _ (hr.below hb0) (hq.below hb0) hn hm).mono ?_
    rintro e w1 ⟨rfl, hb1⟩
    rw [HT.out]
    go_wp2_with fail
    have hb1' := hb0.trans (hb1.mono hb0.size)
    refine (l2Ends_o A B c d js o _ (hr.below hb1') (hq.below hb1') HT.out).mono ?_
    rintro e w2 ⟨g, rfl, hg2, hB2, hb2⟩
    rw [← HES.out] at hB2
    have hown2 := ((Seg.of_own hown0).below hb1 |>.below hb2).own
    have hb2' := hb1'.trans (hb2.mono hb1'.size)
    have hgw : w.heap.size ≤ g := Nat.le_trans hb1'.size hg2
    have hne0 : (Value.slice (some ⟨w.heap.size, 0, none⟩) 0 0).ownBlock ≠ some g := by
      have := hb1.size
      intro e; injection e with e; simp at this e; omega
    clear hown0 hb0 hb1 hb1' hb2 hg2
    go_wp2
    go_loopw [6, 8] (fun v i wr => ∃ (k : Nat), k ≤ js.length ∧ i = .int .i64 k ∧ wr.ownsRow w.heap.size 3 1 v (lateTo js es k).length (ic (natI (lateTo js es k))) ∧ v.ownBlock ≠ some g ∧ BlockIs wr g 3 (ic es).toArray ∧ Below w.heap.size w wr) (fun _ i _ => js.length - (intOf i).toNat)
    case atStart => exact ⟨0, Nat.zero_le _, rfl, hown2, hne0, hB2, hb2'⟩
    case round =>
      obtain ⟨k, hk, rfl, hown, hne, hB, hb⟩ := hrel
      clear hown2 hne0 hB2 hb2'
      by_cases hlt : k < js.length
      · obtain ⟨ad, hA, hbl, hc0, hc1, hc2, hc3⟩ := (hr.below hb).job hlt
        subst hA
        have hke : k < es.length := by rw [HE.out]; exact hlt
        have hck := hB.int hke
        have hll := lateTo_len js es k
        have hk0 : (0 : Int) ≤ k := by omega
        have hk1 : (k : Int) < js.length := by omega
        have hk2 : (k : Int) < es.length := by omega
        by_cases hl : js[k].d < es[k]
        · have HL := Lib.hid (late_hit hlt hke hl)
          have HR1 := Lib.hid hr
          have HB := Lib.hid hB
          have HO := Lib.hid hown
          have Hb := Lib.hid hb
          clear hr hB hown hb
          generalize js[k] = j at *
          generalize es[k] = x at *
          go_wp2
          go_quiet (fail)
          rename_i nq
          have hown : (wr.drewN nq).ownsRow w.heap.size 3 1 _ _ _ := HO.out
          have hb := below_drewN Hb.out nq
          have hB := HB.out.drewN nq
          have hsz := hb.size
          have hgl := hB.lt
          clear hc0 hc1 hc2 hc3 hck
          generalize wr.drewN nq = wq at *
          go_wp2_with (at_builtin; refine wpList_append_at _ rfl _ _ 25 rfl w.heap.size 3 i0 (.int .i64 0) 1 8 Try.underlying25 hi hz0 hz1 hz2 rfl (by decide) _ _ _ rfl (hown.alloc _) ⟨wq.heap.size, 0, none⟩ 1 1 [.int .i64 (k : Int)] rfl rfl (cell_one_new _ _ _) (by intro u hu; simp at hu; subst hu; rfl) (by omega) (by unfold maxLen; omega) (by omega) (by simp; omega) ?_; intro v' w3 hown' hgrow hat)
          have hb3 := app_grown hb hsz hown hgrow
          have hB3 := app_block hB hgrow hne
          have hne3 := app_ne hgl hne hat
          rw [ic_nat_snoc, ← HL.out, show (lateTo js es k).length + 1 = (lateTo js es (k + 1)).length by rw [HL.out]; simp] at hown'
          go_roundw
          case rel => exact ⟨k + 1, by omega, by go_num, hown', hne3, hB3, hb3⟩
          case measure => simp [intOf]; omega
        · have HL := Lib.hid (late_skip hlt hke hl)
          rw [← HL.out] at hown
          have HB := Lib.hid hB
          have HO := Lib.hid hown
          have Hb := Lib.hid hb
          clear hr hB hown hb
          generalize js[k] = j at *
          generalize es[k] = x at *
          go_wp2
          go_quiet (fail)
          go_wp2
          go_roundw
          case rel => exact ⟨k + 1, by omega, by go_num, HO.out, hne, HB.out.drewN _, below_drewN Hb.out _⟩
          case measure => simp [intOf]; omega
      · obtain rfl : k = js.length := by omega
        go_wp2
        go_ret2
        exact ret_own HR.out hown hb _ rfl
end
end Go.Proofs.Ytekocnmcenmcnaa
