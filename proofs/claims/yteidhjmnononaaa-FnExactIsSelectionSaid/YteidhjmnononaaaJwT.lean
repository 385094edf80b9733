/- OpsOn: both sides. -/
import Derived.Test.YteidhjmnononaaaJwR
namespace Go.Proofs.Yteidhjmnononaaa
set_option linter.unusedSimpArgs false
set_option linter.unusedVariables false
set_option linter.unusedSectionVars false
open Go.RowKit
theorem natI_snoc (l : List Nat) (k : Nat) : natI (l ++ [k]) = natI l ++ [(k : Int)] := by simp
section
variable (m : Int) (A : Option Addr) (c : Nat) (xss : List (List Pr)) (q : Int) (w : World) (hr : RowX pc w A xss) (hs : (lensX xss).sum ≤ 12) (h4 : xss.length ≤ 4)
include hr hs h4
set_option maxRecDepth 100000 in
set_option maxHeartbeats 4000000 in
theorem l9On_any : Calls Try.prog 26 #[.agg #[.int .i64 m, .slice A xss.length c], .int .i64 q] w fun e w' => ∃ v n, e = .returned v ∧ n = (onL (opsJ xss) q (opsJ xss).length).length ∧ w'.ownsRow w.heap.size 3 1 v n (ic (natI (onL (opsJ xss) q (opsJ xss).length))) ∧ Below w.heap.size w w' := by
  have hb0 := (Below.refl w.heap.size w).alloc (Nat.le_refl _) (.cells #[.int .i64 m, .slice A xss.length c] 32)
  have hx := BlockIs.new w 32 #[.int .i64 m, .slice A xss.length c]
  have hr0 := hr.below hb0
  have hb2 := (Below.refl (w.alloc (.cells #[.int .i64 m, .slice A xss.length c] 32)).heap.size (w.alloc (.cells #[.int .i64 m, .slice A xss.length c] 32))).alloc (Nat.le_refl _) (.cells #[] 3)
  have HLJ : Hid ((opsJ xss).length ≤ 12) := by show _ ≤ _; rw [opsJ_len]; exact hs
  obtain ⟨i0, hi, hzz0, hzz1, hzz2⟩ := info_partsW infoW1
  have HINF := Lib.hid (And.intro hi (And.intro hzz0 (And.intro hzz1 hzz2)))
  have hzz : (w.alloc (.cells #[.int .i64 m, .slice A xss.length c] 32)).heap.size = w.heap.size + 1 := by simp
  have hown0 := World.ownsRow_made (e := 3) (size := 1) (w.alloc (.cells #[.int .i64 m, .slice A xss.length c] 32)) #[] 0 hb0.size (by unfold maxLen; omega) rfl
  rw [hzz] at hown0
  have HOW := Lib.hid (And.intro hown0 (hb0.trans (hb2.mono hb0.size)))
  clear hown0 hzz
  have HO := Lib.hid (l9All_any m A c xss ((w.alloc (.cells #[.int .i64 m, .slice A xss.length c] 32)).alloc (.cells #[] 3)) (hr0.below hb2) hs h4)
  have d0 := (hx.below hb2).cell 0
  have d1 := (hx.below hb2).cell 1
  simp only [List.getElem?_toArray, List.getElem?_cons_zero, List.getElem?_cons_succ] at d0 d1
  have HYES : Hid (∀ k (hk : k < (opsJ xss).length), (opsJ xss)[k].t = q → onL (opsJ xss) q (k + 1) = onL (opsJ xss) q k ++ [k]) := fun k hk h => onL_yes hk h
  have HNO : Hid (∀ k (hk : k < (opsJ xss).length), (opsJ xss)[k].t ≠ q → onL (opsJ xss) q (k + 1) = onL (opsJ xss) q k) := fun k hk h => onL_no hk h
  have HLN := Lib.hid (onL_len (opsJ xss) q)
  have HGT := Lib.hid (fun k h => @opO_get (opsJ xss) k h)
  have HOL := Lib.hid (opO_len (opsJ xss))
  clear hb2 hb0 hx hr0 hr hi hzz0 hzz1 hzz2
  generalize opsJ xss = l at *
  go_enter Try.func26, Try.ntmps26
  go_wp2_with fail
  refine HO.out.mono ?_
  rintro e w3 ⟨v, rfl, ho, hb3⟩
  have HL := Lib.hid (And.intro (own_blw HOW.out.1 hb3) (HOW.out.2.trans (hb3.mono HOW.out.2.size)))
  have HOP := Lib.hid ho
  obtain ⟨A2, c2, rfl, _, _⟩ := own_slice ho
  clear ho hb3 HO d0 d1 HOW
  go_wp2
  go_loopw [5, 7] (fun ov iv wr => ∃ k n : Nat, k ≤ l.length ∧ iv = .int .i64 (k : Int) ∧ Hid (n = (onL l q k).length) ∧ Hid (wr.ownsRow w.heap.size 3 1 ov n (ic (natI (onL l q k))) ∧ Below w.heap.size w wr) ∧ Hid (∀ g cs, BlockIs w3 g 65 cs → BlockIs wr g 65 cs)) (fun _ iv _ => l.length - (intOf iv).toNat)
  case atStart => exact ⟨0, 0, Nat.zero_le _, rfl, rfl, HL.out, fun _ _ h => h⟩
  case round =>
    obtain ⟨k, n, hk, rfl, HN, HK, HKB⟩ := hrel
    by_cases hlt : k < l.length
    · have hk0 : (0 : Int) ≤ k := by omega
      have hk1 : (k : Int) < l.length := by omega
      obtain ⟨ad, hA, _, hc0, hc1⟩ := (Row.of_own (own_kept HOP.out HKB.out)).pair (k := k) (by rw [HOL.out]; exact hlt)
      subst hA
      rw [HGT.out k hlt] at hc0 hc1
      dsimp only at hc0 hc1
      have hsz2 := HK.out.2.size
      have h12 := HLJ.out
      have hnn := HN.out
      have hll := HLN.out k
      have hkb0 : (k : Int) ≤ 12 := by omega
      by_cases hq : l[k].t = q
      · have HY := Lib.hid (HYES.out k hlt hq)
        have hqq : (l[k].t == q) = true := by simpa using hq
        obtain ⟨v', w', hrun, ho', hkp, hkb⟩ := app_1 (g := wr.heap.size) Try.underlying40 HINF.out.1 HINF.out.2.1 HINF.out.2.2.1 HINF.out.2.2.2 rfl (by decide) #[.int .i64 (k : Int)] HK.out.1 rfl rfl (by intro u hu; simp at hu; subst hu; rfl) (by omega) (by omega) (by omega)
        have hcs : ic (natI (onL l q k)) ++ (#[Value.int .i64 (k : Int)] : Array Value).toList = ic (natI (onL l q (k + 1))) := by
          rw [HY.out, natI_snoc, ← ic_appW]
          rfl
        rw [hcs] at ho'
        have HO' := Lib.hid (And.intro ho' (hkp w w.heap.size (Nat.le_refl _) HK.out.2))
        have HKB' : Hid (∀ g cs, BlockIs w3 g 65 cs → BlockIs w' g 65 cs) := fun g cs h => hkb g _ cs (by decide) (HKB.out g cs h)
        have HNN : Hid (n + 1 = (onL l q (k + 1)).length) := by show _ = _; rw [HY.out, List.length_append, ← hnn]; rfl
        have HRUN := Lib.hid hrun
        clear ho' hkp hkb hrun hcs HK HKB hsz2 h12 hnn hll HN HYES HNO hq HGT HY
        generalize l[k].t = j1 at *
        generalize l[k].w = j2 at *
        go_wp2_with (at_builtin; refine wpList_appW rfl _ _ _ rfl _ _ _ rfl rfl HRUN.out ?_; clear HRUN)
        go_roundw
        case rel => exact ⟨k + 1, n + 1, by omega, by go_num, HNN.out, HO'.out, HKB'.out⟩
        case measure => simp [intOf]; omega
      · have HY := Lib.hid (HNO.out k hlt hq)
        have hqq : (l[k].t == q) = false := by simpa using hq
        have HNN : Hid (n = (onL l q (k + 1)).length) := by show _ = _; rw [HY.out]; exact hnn
        rw [← HY.out] at HK
        clear hsz2 h12 hnn hll HN HYES HNO hq HGT HY
        generalize l[k].t = j1 at *
        generalize l[k].w = j2 at *
        go_wp2
        go_roundw
        case rel => exact ⟨k + 1, n, by omega, by go_num, HNN.out, HK.out, HKB.out⟩
        case measure => simp [intOf]; omega
    · obtain rfl : k = l.length := by omega
      clear HYES HNO HGT HKB
      have HNF := HN
      clear HN
      go_wp2
      go_ret
      exact ⟨_, n, rfl, HNF.out, HK.out.1, HK.out.2⟩
set_option maxRecDepth 100000 in
set_option maxHeartbeats 4000000 in
theorem opsOn_any : Calls Try.prog 33 #[.agg #[.int .i64 m, .slice A xss.length c], .int .i64 q] w fun e w' => ∃ v n, e = .returned v ∧ n = (onL (opsJ xss) q (opsJ xss).length).length ∧ w'.ownsRow w.heap.size 3 1 v n (ic (natI (onL (opsJ xss) q (opsJ xss).length))) ∧ Below w.heap.size w w' := by
  have hb0 := (Below.refl w.heap.size w).alloc (Nat.le_refl _) (.cells #[.int .i64 m, .slice A xss.length c] 32)
  have hx := BlockIs.new w 32 #[.int .i64 m, .slice A xss.length c]
  have hr0 := hr.below hb0
  have hb2 := (Below.refl (w.alloc (.cells #[.int .i64 m, .slice A xss.length c] 32)).heap.size (w.alloc (.cells #[.int .i64 m, .slice A xss.length c] 32))).alloc (Nat.le_refl _) (.cells #[] 3)
  have HLJ : Hid ((opsJ xss).length ≤ 12) := by show _ ≤ _; rw [opsJ_len]; exact hs
  obtain ⟨i0, hi, hzz0, hzz1, hzz2⟩ := info_partsW infoW1
  have HINF := Lib.hid (And.intro hi (And.intro hzz0 (And.intro hzz1 hzz2)))
  have hzz : (w.alloc (.cells #[.int .i64 m, .slice A xss.length c] 32)).heap.size = w.heap.size + 1 := by simp
  have hown0 := World.ownsRow_made (e := 3) (size := 1) (w.alloc (.cells #[.int .i64 m, .slice A xss.length c] 32)) #[] 0 hb0.size (by unfold maxLen; omega) rfl
  rw [hzz] at hown0
  have HOW := Lib.hid (And.intro hown0 (hb0.trans (hb2.mono hb0.size)))
  clear hown0 hzz
  have HO := Lib.hid (ops_any m A c xss ((w.alloc (.cells #[.int .i64 m, .slice A xss.length c] 32)).alloc (.cells #[] 3)) (hr0.below hb2) hs h4)
  have d0 := (hx.below hb2).cell 0
  have d1 := (hx.below hb2).cell 1
  simp only [List.getElem?_toArray, List.getElem?_cons_zero, List.getElem?_cons_succ] at d0 d1
  have HYES : Hid (∀ k (hk : k < (opsJ xss).length), (opsJ xss)[k].t = q → onL (opsJ xss) q (k + 1) = onL (opsJ xss) q k ++ [k]) := fun k hk h => onL_yes hk h
  have HNO : Hid (∀ k (hk : k < (opsJ xss).length), (opsJ xss)[k].t ≠ q → onL (opsJ xss) q (k + 1) = onL (opsJ xss) q k) := fun k hk h => onL_no hk h
  have HLN := Lib.hid (onL_len (opsJ xss) q)
  clear hb2 hb0 hx hr0 hr hi hzz0 hzz1 hzz2
  generalize opsJ xss = l at *
  go_enter Try.func33, Try.ntmps33
  go_wp2_with fail
  refine HO.out.mono ?_
  rintro e w3 ⟨v, rfl, ho, hb3⟩
  have HL := Lib.hid (And.intro (own_blw HOW.out.1 hb3) (HOW.out.2.trans (hb3.mono HOW.out.2.size)))
  have HOP := Lib.hid ho
  obtain ⟨A2, c2, rfl, _, _⟩ := own_slice ho
  clear ho hb3 HO d0 d1 HOW
  go_wp2
  go_loopw [5, 12] (fun ov iv wr => ∃ k n : Nat, k ≤ l.length ∧ iv = .int .i64 (k : Int) ∧ Hid (n = (onL l q k).length) ∧ Hid (wr.ownsRow w.heap.size 3 1 ov n (ic (natI (onL l q k))) ∧ Below w.heap.size w wr) ∧ Hid (∀ g cs, BlockIs w3 g 76 cs → BlockIs wr g 76 cs)) (fun _ iv _ => l.length - (intOf iv).toNat)
  case atStart => exact ⟨0, 0, Nat.zero_le _, rfl, rfl, HL.out, fun _ _ h => h⟩
  case round =>
    obtain ⟨k, n, hk, rfl, HN, HK, HKB⟩ := hrel
    by_cases hlt : k < l.length
    · have hk0 : (0 : Int) ≤ k := by omega
      have hk1 : (k : Int) < l.length := by omega
      obtain ⟨ad, hA, _, hc0, hc1, hc2, hc3⟩ := (Row.of_own (own_kept HOP.out HKB.out)).job hlt
      subst hA
      have hsz2 := HK.out.2.size
      have h12 := HLJ.out
      have hnn := HN.out
      have hll := HLN.out k
      have hkb0 : (k : Int) ≤ 12 := by omega
      have hbx := (Below.refl wr.heap.size wr).alloc (Nat.le_refl _) (.cells #[.int .i64 l[k].t, .int .i64 l[k].w, .int .i64 l[k].r, .int .i64 l[k].d] 76)
      have hwz : (wr.alloc (.cells #[.int .i64 l[k].t, .int .i64 l[k].w, .int .i64 l[k].r, .int .i64 l[k].d] 76)).heap.size = wr.heap.size + 1 := by simp
      have HK1 := Lib.hid (And.intro (own_blw HK.out.1 hbx) (HK.out.2.trans (hbx.mono hsz2)))
      have HKB1 : Hid (∀ g cs, BlockIs w3 g 76 cs → BlockIs (wr.alloc (.cells #[.int .i64 l[k].t, .int .i64 l[k].w, .int .i64 l[k].r, .int .i64 l[k].d] 76)) g 76 cs) := fun g cs h => (HKB.out g cs h).below hbx
      by_cases hq : l[k].t = q
      · have HY := Lib.hid (HYES.out k hlt hq)
        have hqq : (l[k].t == q) = true := by simpa using hq
        obtain ⟨v', w', hrun, ho', hkp, hkb⟩ := app_1 (g := wr.heap.size + 1) Try.underlying40 HINF.out.1 HINF.out.2.1 HINF.out.2.2.1 HINF.out.2.2.2 rfl (by decide) #[.int .i64 (k : Int)] HK1.out.1 hwz.symm rfl (by intro u hu; simp at hu; subst hu; rfl) (by omega) (by omega) (by omega)
        have hcs : ic (natI (onL l q k)) ++ (#[Value.int .i64 (k : Int)] : Array Value).toList = ic (natI (onL l q (k + 1))) := by
          rw [HY.out, natI_snoc, ← ic_appW]
          rfl
        rw [hcs] at ho'
        have HO' := Lib.hid (And.intro ho' (hkp w w.heap.size (Nat.le_refl _) HK1.out.2))
        have HKB' : Hid (∀ g cs, BlockIs w3 g 76 cs → BlockIs w' g 76 cs) := fun g cs h => hkb g _ cs (by decide) (HKB1.out g cs h)
        have HNN : Hid (n + 1 = (onL l q (k + 1)).length) := by show _ = _; rw [HY.out, List.length_append, ← hnn]; rfl
        have HRUN := Lib.hid hrun
        clear ho' hkp hkb hrun hcs HK HKB HK1 HKB1 hbx hwz hsz2 h12 hnn hll HN HYES HNO hq HY
        generalize l[k] = je at *
        obtain ⟨j1, j2, j3, j4⟩ := je
        dsimp only at hc0 hc1 hc2 hc3 hqq
        go_wp2_with (at_builtin; refine wpList_appW rfl _ _ _ rfl _ _ _ rfl rfl HRUN.out ?_; clear HRUN)
        go_roundw
        case rel => exact ⟨k + 1, n + 1, by omega, by go_num, HNN.out, HO'.out, HKB'.out⟩
        case measure => simp [intOf]; omega
      · have HY := Lib.hid (HNO.out k hlt hq)
        have hqq : (l[k].t == q) = false := by simpa using hq
        have HNN : Hid (n = (onL l q (k + 1)).length) := by show _ = _; rw [HY.out]; exact hnn
        rw [← HY.out] at HK1
        clear hsz2 h12 hnn hll HN HYES HNO hq HY HK HKB hbx hwz
        generalize l[k] = je at *
        obtain ⟨j1, j2, j3, j4⟩ := je
        dsimp only at hc0 hc1 hc2 hc3 hqq
        go_wp2
        go_roundw
        case rel => exact ⟨k + 1, n, by omega, by go_num, HNN.out, HK1.out, HKB1.out⟩
        case measure => simp [intOf]; omega
    · obtain rfl : k = l.length := by omega
      clear HYES HNO HKB
      have HNF := HN
      clear HN
      go_wp2
      go_ret
      exact ⟨_, n, rfl, HNF.out, HK.out.1, HK.out.2⟩
end
section
variable (A : Option Addr) (c : Nat) (m : Int) (xss : List (List Pr)) (q : Int) (w : World) (hr : RowX pc w A xss) (hn : xss.length ≤ 10000000 ∧ (lensX xss).sum ≤ 10000000)
include hr hn
omit hr hn in
theorem on_no1 {m q : Int} {xss : List (List Pr)} (h : jshB m xss = false) : onR m xss q = ([], false) := by unfold onR; rw [h]; rfl
omit hr hn in
theorem on_no2 {m q : Int} {xss : List (List Pr)} (h : inB q 0 (m - 1) = false) : onR m xss q = ([], false) := by unfold onR; rw [h]; simp
omit hr hn in
theorem on_yes {m q : Int} {xss : List (List Pr)} (h : jshB m xss = true) (h2 : inB q 0 (m - 1) = true) : onR m xss q = (natI (onL (opsJ xss) q (opsJ xss).length), true) := by unfold onR; rw [h, h2]; rfl
end
end Go.Proofs.Yteidhjmnononaaa
