/- OpsOf and OpsOn of the model and of the program. -/
import Derived.Test.YteidhjmnononaaaJwA
import Derived.Test.YteidhjmnononaaaPairs
namespace Go.Proofs.Yteidhjmnononaaa
set_option linter.unusedSimpArgs false
set_option linter.unusedVariables false
set_option linter.unusedSectionVars false
open Go.RowKit
theorem opsR_len (m : Int) (xss : List (List Pr)) : (opsR m xss).1.length ≤ 12 := by
  unfold opsR
  split
  · rename_i h
    rw [show (prO (opsJ xss), true).1 = prO (opsJ xss) from rfl, prO_len, opsJ_len]
    exact (jsh_out h).2.2.2
  · simp
theorem onR_len (m : Int) (xss : List (List Pr)) (q : Int) : (onR m xss q).1.length ≤ 12 := by
  unfold onR
  split
  · rename_i h
    have := onL_len (opsJ xss) q (opsJ xss).length
    rw [opsJ_len] at this
    have h2 := (jsh_out (Bool.and_eq_true_iff.1 h).1).2.2.2
    simp only [List.length_map]
    rw [opsJ_len]; omega
  · simp
theorem ops_lt {xss : List (List Pr)} (h : (lensX xss).sum ≤ 12) {i k : Nat} (hi : i < xss.length) (hk : k ≤ xss[i].length) : (opsTo xss i).length + k ≤ 12 := by
  have h1 := opsTo_len xss i (by omega)
  have h2 := sum_take_succ (lensX xss) i (by rw [lensX_len]; exact hi)
  rw [lensX_get xss i hi] at h2
  have h3 := sum_take_le (lensX xss) (i + 1)
  omega
section
variable (m : Int) (A : Option Addr) (c : Nat) (xss : List (List Pr)) (w : World) (hr : RowX pc w A xss) (hs : (lensX xss).sum ≤ 12) (h4 : xss.length ≤ 4)
include hr hs h4
set_option maxRecDepth 100000 in
set_option maxHeartbeats 4000000 in
theorem ops_any : Calls Try.prog 43 #[.agg #[.int .i64 m, .slice A xss.length c]] w fun e w' => ∃ v, e = .returned v ∧ w'.ownsRow w.heap.size 76 4 v (opsJ xss).length (jc (opsJ xss)) ∧ Below w.heap.size w w' := by
  have hb0 := (Below.refl w.heap.size w).alloc (Nat.le_refl _) (.cells #[.int .i64 m, .slice A xss.length c] 32)
  have hx := BlockIs.new w 32 #[.int .i64 m, .slice A xss.length c]
  have hr0 := hr.below hb0
  have hz1 : (w.alloc (.cells #[.int .i64 m, .slice A xss.length c] 32)).heap.size = w.heap.size + 1 := by simp
  have hown0 : ((w.alloc (.cells #[.int .i64 m, .slice A xss.length c] 32)).alloc (.cells #[] 76)).ownsRow (w.alloc (.cells #[.int .i64 m, .slice A xss.length c] 32)).heap.size 76 4 (.slice (some ⟨(w.alloc (.cells #[.int .i64 m, .slice A xss.length c] 32)).heap.size, 0, none⟩) 0 0) 0 [] := World.ownsRow_made _ #[] 0 (Nat.le_refl _) (by unfold maxLen; omega) rfl
  have hbo := (Below.refl (w.alloc (.cells #[.int .i64 m, .slice A xss.length c] 32)).heap.size (w.alloc (.cells #[.int .i64 m, .slice A xss.length c] 32))).alloc (Nat.le_refl _) (.cells #[] 76)
  obtain ⟨i0, hi, hzz0, hzz1, hzz2⟩ := info_partsW infoW4
  generalize hW1 : w.alloc (.cells #[.int .i64 m, .slice A xss.length c] 32) = W1 at *
  have H0 := Lib.hid (And.intro hx (And.intro hb0 (And.intro hown0 hbo)))
  have HR := Lib.hid hr0
  have HZ1 := Lib.hid hz1
  have HINF := Lib.hid (And.intro hi (And.intro hzz0 (And.intro hzz1 hzz2)))
  clear hb0 hx hr0 hown0 hbo hr hi hzz0 hzz1 hzz2 hz1
  have HLT := Lib.hid (fun i k hi hk => @ops_lt xss hs i k hi hk)
  have HSU := Lib.hid (fun i hi => opsTo_succ xss i hi)
  have HRS := Lib.hid rowO_succ
  have HEN : Hid ((opsJ xss).length = (opsTo xss xss.length).length) := by show _ = _; rfl
  have HEJ : Hid (opsJ xss = opsTo xss xss.length) := rfl
  have d0 := (H0.out.1.below H0.out.2.2.2).cell 0
  have d1 := (H0.out.1.below H0.out.2.2.2).cell 1
  simp only [List.getElem?_toArray, List.getElem?_cons_zero, List.getElem?_cons_succ] at d0 d1
  go_enter Try.func43, Try.ntmps43
  go_wp2
  clear hW1 d0 d1
  go_loopw [3, 12] (fun ov iv wr => ∃ (i n : Nat), i ≤ xss.length ∧ iv = .int .i64 (i : Int) ∧ Hid (n = (opsTo xss i).length) ∧ Hid (wr.ownsRow W1.heap.size 76 4 ov n (jc (opsTo xss i)) ∧ Below W1.heap.size W1 wr)) (fun _ iv _ => xss.length - (intOf iv).toNat)
  case atStart => exact ⟨0, 0, Nat.zero_le _, rfl, rfl, H0.out.2.2⟩
  case round =>
    obtain ⟨i, n, hik, rfl, HN, HK⟩ := hrel
    by_cases hlt : i < xss.length
    · have hk0 : (0 : Int) ≤ i := by omega
      have hk1 : (i : Int) < xss.length := by omega
      obtain ⟨ad, B, dd, hA, _, hc0, hrow, _⟩ := HR.out.at_ hlt
      subst hA
      have hc := (HK.out.2.cell (p := ad.add i) (lt_of_cell hc0)).trans hc0
      have HROW := Lib.hid hrow
      clear hc0 hrow
      have HLi := Lib.hid (fun k hk => HLT.out i k hlt hk)
      have HSi := Lib.hid (HSU.out i hlt)
      obtain ⟨wo, hwo⟩ : ∃ x, x = wr := ⟨wr, rfl⟩
      subst hwo
      go_wp2
      go_loopw [3, 19] (fun ov kv wr => ∃ (k n : Nat), k ≤ xss[i].length ∧ kv = .int .i64 (k : Int) ∧ Hid (n = (opsTo xss i).length + k) ∧ Hid (wr.ownsRow W1.heap.size 76 4 ov n (jc (opsTo xss i ++ rowO i xss[i] k)) ∧ Below W1.heap.size W1 wr)) (fun _ kv _ => xss[i].length - (intOf kv).toNat)
      case atStart => exact ⟨0, n, Nat.zero_le _, rfl, HN.out, by rw [rowO_zero, List.append_nil]; exact HK.out⟩
      case round =>
        obtain ⟨k, n2, hk, rfl, HN2, HK2⟩ := hrel
        clear HK HN
        have h12 := HLi.out k hk
        have hnn := HN2.out
        by_cases hkl : k < xss[i].length
        · have hj0 : (0 : Int) ≤ k := by omega
          have hj1 : (k : Int) < xss[i].length := by omega
          obtain ⟨pa, hB, hpb, hp0, hp1⟩ := (HROW.out.below HK2.out.2).pair hkl
          subst hB
          have HRk := Lib.hid (HRS.out i xss[i] k hkl)
          have hsz2 := HK2.out.2.size
          have hbx := (Below.refl wr.heap.size wr).alloc (Nat.le_refl _) (.cells #[.int .i64 xss[i][k].1, .int .i64 xss[i][k].2] 65)
          have hbs := hbx.size
          have hwz : (wr.alloc (.cells #[.int .i64 xss[i][k].1, .int .i64 xss[i][k].2] 65)).heap.size = wr.heap.size + 1 := by simp
          obtain ⟨v', w', hrun, ho', hkp, _⟩ := app_1 (g := wr.heap.size + 1) Try.underlying73 HINF.out.1 HINF.out.2.1 HINF.out.2.2.1 HINF.out.2.2.2 rfl (by decide) #[.int .i64 xss[i][k].1, .int .i64 xss[i][k].2, .int .i64 (i : Int), .int .i64 (k : Int)] (own_blw HK2.out.1 hbx) hwz.symm rfl (by intro u hu; simp at hu; rcases hu with rfl | rfl | rfl | rfl <;> rfl) (by omega) (by omega) (by omega)
          have hcs : jc (opsTo xss i ++ rowO i xss[i] k) ++ (#[Value.int .i64 xss[i][k].1, .int .i64 xss[i][k].2, .int .i64 (i : Int), .int .i64 (k : Int)] : Array Value).toList = jc (opsTo xss i ++ rowO i xss[i] (k + 1)) := by
            rw [HRk.out, ← List.append_assoc, ← jc_appW (opsTo xss i ++ rowO i xss[i] k)]
            rfl
          rw [hcs] at ho'
          have HO' := Lib.hid (And.intro ho' (hkp W1 W1.heap.size (Nat.le_refl _) (HK2.out.2.trans (hbx.mono hsz2))))
          have HRUN := Lib.hid hrun
          have HNN : Hid (n2 + 1 = (opsTo xss i).length + (k + 1)) := by show _ = _; omega
          clear ho' hkp hrun hcs HK2 HN2 hnn HRk HROW hwz hbx hbs hpb
          generalize xss[i][k] = xe at *
          obtain ⟨x1, x2⟩ := xe
          dsimp only at hp0 hp1
          generalize xss[i].length = L at *
          go_wp2_with (at_builtin; refine wpList_appW rfl _ _ _ rfl _ _ _ rfl rfl HRUN.out ?_; clear HRUN)
          go_roundw
          case rel => exact ⟨k + 1, n2 + 1, by omega, by go_num, HNN.out, HO'.out⟩
          case measure => simp [intOf]; omega
        · obtain rfl : k = xss[i].length := by omega
          have HKE := HK2
          rw [← HSi.out] at HKE
          have HNE : Hid (n2 = (opsTo xss (i + 1)).length) := by show _ = _; rw [HSi.out, List.length_append, rowO_len]; exact hnn
          clear HK2 HN2 hnn h12
          go_wp2
          go_roundw
          case rel => exact ⟨i + 1, n2, by omega, by go_num, HNE.out, HKE.out⟩
          case measure => simp [intOf]; omega
    · obtain rfl : i = xss.length := by omega
      have HF := Lib.hid HK.out
      rw [HN.out] at HF
      rw [← HEN.out, ← HEJ.out] at HF
      clear HK HN
      go_wp2
      go_ret
      exact ⟨_, rfl, own_low HF.out.1 H0.out.2.1.size, H0.out.2.1.trans (HF.out.2.mono H0.out.2.1.size)⟩
set_option maxRecDepth 100000 in
set_option maxHeartbeats 4000000 in
theorem l9All_any : Calls Try.prog 35 #[.agg #[.int .i64 m, .slice A xss.length c]] w fun e w' => ∃ v, e = .returned v ∧ w'.ownsRow w.heap.size 65 2 v (opsJ xss).length (pc (opO (opsJ xss))) ∧ Below w.heap.size w w' := by
  have hb0 := (Below.refl w.heap.size w).alloc (Nat.le_refl _) (.cells #[.int .i64 m, .slice A xss.length c] 32)
  have hx := BlockIs.new w 32 #[.int .i64 m, .slice A xss.length c]
  have hr0 := hr.below hb0
  have hz1 : (w.alloc (.cells #[.int .i64 m, .slice A xss.length c] 32)).heap.size = w.heap.size + 1 := by simp
  have hown0 : ((w.alloc (.cells #[.int .i64 m, .slice A xss.length c] 32)).alloc (.cells #[] 65)).ownsRow (w.alloc (.cells #[.int .i64 m, .slice A xss.length c] 32)).heap.size 65 2 (.slice (some ⟨(w.alloc (.cells #[.int .i64 m, .slice A xss.length c] 32)).heap.size, 0, none⟩) 0 0) 0 [] := World.ownsRow_made _ #[] 0 (Nat.le_refl _) (by unfold maxLen; omega) rfl
  have hbo := (Below.refl (w.alloc (.cells #[.int .i64 m, .slice A xss.length c] 32)).heap.size (w.alloc (.cells #[.int .i64 m, .slice A xss.length c] 32))).alloc (Nat.le_refl _) (.cells #[] 65)
  obtain ⟨i0, hi, hzz0, hzz1, hzz2⟩ := info_partsW infoW3
  generalize hW1 : w.alloc (.cells #[.int .i64 m, .slice A xss.length c] 32) = W1 at *
  have H0 := Lib.hid (And.intro hx (And.intro hb0 (And.intro hown0 hbo)))
  have HR := Lib.hid hr0
  have HZ1 := Lib.hid hz1
  have HINF := Lib.hid (And.intro hi (And.intro hzz0 (And.intro hzz1 hzz2)))
  clear hb0 hx hr0 hown0 hbo hr hi hzz0 hzz1 hzz2 hz1
  have HLT := Lib.hid (fun i k hi hk => @ops_lt xss hs i k hi hk)
  have HSU := Lib.hid (fun i hi => opsTo_succ xss i hi)
  have HEN : Hid ((opsJ xss).length = (opsTo xss xss.length).length) := by show _ = _; rfl
  have HEJ : Hid (opsJ xss = opsTo xss xss.length) := rfl
  go_enter Try.func35, Try.ntmps35
  go_wp2
  clear hW1
  go_loopw [3, 4] (fun ov iv wr => ∃ (i n : Nat), i ≤ xss.length ∧ iv = .int .i64 (i : Int) ∧ Hid (n = (opsTo xss i).length) ∧ Hid (wr.ownsRow W1.heap.size 65 2 ov n (pc (opO (opsTo xss i))) ∧ Below W1.heap.size W1 wr)) (fun _ iv _ => xss.length - (intOf iv).toNat)
  case atStart => exact ⟨0, 0, Nat.zero_le _, rfl, rfl, H0.out.2.2⟩
  case round =>
    obtain ⟨i, n, hik, rfl, HN, HK⟩ := hrel
    have d0 := (H0.out.1.below (HK.out.2)).cell 0
    have d1 := (H0.out.1.below (HK.out.2)).cell 1
    simp only [List.getElem?_toArray, List.getElem?_cons_zero, List.getElem?_cons_succ] at d0 d1
    by_cases hlt : i < xss.length
    · have hk0 : (0 : Int) ≤ i := by omega
      have hk1 : (i : Int) < xss.length := by omega
      obtain ⟨ad, B, dd, hA, _, hc0, hrow, _⟩ := HR.out.at_ hlt
      subst hA
      have hc := (HK.out.2.cell (p := ad.add i) (lt_of_cell hc0)).trans hc0
      have h12 := HLT.out i xss[i].length hlt (Nat.le_refl _)
      have hnn := HN.out
      have hsz2 := HK.out.2.size
      have HSi := Lib.hid (HSU.out i hlt)
      obtain ⟨v', w', hrun, ho', hkp, _⟩ := app_gen Try.underlying52 HINF.out.1 HINF.out.2.1 HINF.out.2.2.1 HINF.out.2.2.2 rfl (by decide) (m := xss[i].length) B dd HK.out.1 (hrow.below HK.out.2) (by rw [pc_len]; omega) (fun u hu => pc_oneW hu) (by omega) (by omega) hsz2
      have hcs : pc (opO (opsTo xss i)) ++ pc xss[i] = pc (opO (opsTo xss (i + 1))) := by rw [HSi.out, opO_app, opO_row, pc_appW]
      rw [hcs] at ho'
      have HO' := Lib.hid (And.intro ho' (hkp W1 W1.heap.size (Nat.le_refl _) HK.out.2))
      have HRUN := Lib.hid hrun
      have HNN : Hid (n + xss[i].length = (opsTo xss (i + 1)).length) := by show _ = _; rw [HSi.out, List.length_append, rowO_len]; omega
      clear ho' hkp hrun hcs HK HN hnn HSi hrow hc0 h12
      generalize xss[i].length = L at *
      go_wp2_with (at_builtin; refine wpList_appW rfl _ _ _ rfl _ _ _ rfl rfl HRUN.out ?_; clear HRUN)
      go_roundw
      case rel => exact ⟨i + 1, n + L, by omega, by go_num, HNN.out, HO'.out⟩
      case measure => simp [intOf]; omega
    · obtain rfl : i = xss.length := by omega
      have HF := Lib.hid HK.out
      rw [HN.out] at HF
      rw [← HEN.out, ← HEJ.out] at HF
      clear HK HN
      go_wp2
      go_ret
      exact ⟨_, rfl, own_low HF.out.1 H0.out.2.1.size, H0.out.2.1.trans (HF.out.2.mono H0.out.2.1.size)⟩
end
end Go.Proofs.Yteidhjmnononaaa
