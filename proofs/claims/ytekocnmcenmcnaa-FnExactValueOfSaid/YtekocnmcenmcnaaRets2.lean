/- StartsOf of the program; IdleTime. -/
import Derived.Test.YtekocnmcenmcnaaRets1
namespace Go.Proofs.Ytekocnmcenmcnaa
open Go.RowKit
theorem startsR_len (js : List J) (o : List Int) : (startsR js o).1.length ≤ 8 := by
  unfold startsR
  cases h : twoB js o
  · simp
  · simp only [if_true]; rw [startsL_len]; exact (good_out (two_out h).1).1
theorem endsR_len (js : List J) (o : List Int) : (endsR js o).1.length ≤ 8 := by
  unfold endsR
  cases h : twoB js o
  · simp
  · simp only [if_true]; rw [endsL_len]; exact (good_out (two_out h).1).1
section
variable (A B : Option Addr) (c d : Nat) (js : List J) (o : List Int) (w : World) (hr : Row w A (jc js)) (hq : Row w B (ic o)) (hn : js.length ≤ 10000000) (hm : o.length ≤ 10000000)
include hr hq hn hm
set_option maxRecDepth 100000 in
set_option maxHeartbeats 1000000 in
theorem impl_StartsOf : Calls Try.prog 16 #[.slice A js.length c, .slice B o.length d] w (RetIB w (startsR js o)) := by
  have HR : Hid (startsR js o = if twoB js o then (startsL js (natsOf o), true) else ([], false)) := rfl
  cases ht : twoB js o
  · rw [ht] at HR
    go_enter Try.func16, Try.ntmps16
    go_wp2_with fail
    refine (isScheduled_any A B c d js o _ hr hq hn hm).mono ?_
    rintro e w1 ⟨rfl, hb1⟩
    rw [ht]
    go_wp2
    go_ret2
    exact ret_empty HR.out hb1 _ rfl
  · rw [ht] at HR
    have hel := endsL_len js (natsOf o)
    have hsl := startsL_len js (natsOf o)
    have HS := Lib.hid hsl
    obtain ⟨hg, p0, hpo, hp, hpn⟩ := two_out ht
    obtain ⟨h8, hok⟩ := good_out hg
    rw [← hpn] at hp
    have HP := Lib.hid hp
    have HG := Lib.hid hg
    clear hpo hpn hp hg
    go_enter Try.func16, Try.ntmps16
    go_wp2_with fail
    refine (isScheduled_any A B c d js o _ hr hq hn hm).mono ?_
    rintro e w1 ⟨rfl, hb1⟩
    rw [ht]
    go_wp2_with fail
    refine (endsIn_o A B c d js o _ (hr.below hb1) (hq.below hb1) ht).mono ?_
    rintro e w2 ⟨g, rfl, hg2, hB2, hb2⟩
    have hb2' := hb1.trans (hb2.mono hb1.size)
    have hgw := Nat.le_trans hb1.size hg2
    clear hb1 hb2 hg2
    go_wp2
    go_loopw [19] (fun i wr => ∃ (k : Nat), k ≤ js.length ∧ i = .int .i64 k ∧ BlockIs wr g 3 (ic ((startsL js (natsOf o)).take k ++ (endsL js (natsOf o)).drop k)).toArray ∧ Below w.heap.size w wr) (fun i _ => js.length - (intOf i).toNat)
    case atStart => exact ⟨0, Nat.zero_le _, rfl, by simpa using hB2, hb2'⟩
    case round =>
      obtain ⟨k, hk, rfl, hB, hb⟩ := hrel
      clear hB2 hb2'
      by_cases hlt : k < js.length
      · obtain ⟨ad, hA, hbl, hc0, hc1, hc2, hc3⟩ := (hr.below hb).job hlt
        subst hA
        have hck := hB.int (k := k) (by rw [mix_len _ _ _ (by omega) (by omega)]; omega)
        rw [mix_at _ _ _ (by omega) (by omega)] at hck
        have hk0 : (0 : Int) ≤ k := by omega
        have hk1 : (k : Int) < js.length := by omega
        go_wp2
        have hB3 := hB.below ((Below.refl wr.heap.size wr).alloc (Nat.le_refl _) (.cells #[.int .i64 js[k].t, .int .i64 js[k].w, .int .i64 js[k].r, .int .i64 js[k].d] 40))
        have hJ3 := BlockIs.new wr 40 #[.int .i64 js[k].t, .int .i64 js[k].w, .int .i64 js[k].r, .int .i64 js[k].d]
        have hb3 := hb.alloc hb.size (.cells #[.int .i64 js[k].t, .int .i64 js[k].w, .int .i64 js[k].r, .int .i64 js[k].d] 40)
        generalize wr.alloc (.cells #[.int .i64 js[k].t, .int .i64 js[k].w, .int .i64 js[k].r, .int .i64 js[k].d] 40) = w3 at *
        clear hc0 hc1 hc2 hc3 hck
        have hck := hB3.int (k := k) (by rw [mix_len _ _ _ (by omega) (by omega)]; omega)
        rw [mix_at _ _ _ (by omega) (by omega)] at hck
        have hcj := hJ3.cell 0
        simp at hcj
        have hfz := hB3.frozen k
        have he := ends_starts_at HP.out hlt (by omega) (by omega)
        have hbd := endsL_bd HG.out HP.out _ (List.getElem_mem (l := endsL js (natsOf o)) (n := k) (by omega))
        obtain ⟨t0, t1, _, _, _, _, _, _⟩ := okJ_out (hok _ (List.getElem_mem hlt))
        have HB := Lib.hid (hB3.set k (.int .i64 ((startsL js (natsOf o))[k]'(by omega))))
        rw [ic_set, mix_step _ _ k _ (by omega) (by omega) rfl] at HB
        have hes : (startsL js (natsOf o))[k]'(by omega) = (endsL js (natsOf o))[k]'(by omega) - js[k].t := by omega
        rw [hes] at HB
        have Hb := Lib.hid hb3
        generalize (endsL js (natsOf o))[k]'(by omega) = s at *
        generalize js[k] = j at *
        clear he hes hB hB3 hJ3 hb hb3 hr hq hel hsl
        go_still_tail 8, (by kernel_rfl)
        change wpList _ _ _ _ _ w3.drew
        go_wp2
        go_roundw
        case rel => exact ⟨k + 1, by omega, by go_num, HB.out.drew, (Hb.out.setCell (by exact hgw) _).drew⟩
        case measure => simp [intOf]; omega
      · obtain rfl : k = js.length := by omega
        rw [List.take_of_length_le (by omega), List.drop_eq_nil_of_le (by omega), List.append_nil] at hB
        have HB := Lib.hid hB
        clear hB
        go_wp2
        go_ret2
        exact ret_block HR.out hgw HB.out (by rw [HS.out]; omega) hb _ (by rw [HS.out]; rfl)
end
end Go.Proofs.Ytekocnmcenmcnaa
