/- OpsOf and OpsOn: both sides. -/
import Derived.Test.YtjemjdlaoebffaaJwO
import Derived.Test.YtjemjdlaoebffaaEndsO
namespace Go.Proofs.Ytjemjdlaoebffaa
set_option linter.unusedSimpArgs false
set_option linter.unusedVariables false
set_option linter.unusedSectionVars false
open Go.RowKit
theorem ret_ownPW {w w' : World} {r : List Pr × Bool} {p : List Pr} {n : Nat} {v : Value} {b : Bool} (hr : r = (p, b)) (hn : p.length = n) (ho : w'.ownsRow w.heap.size 47 2 v n (pc p)) (hb : Below w.heap.size w w') (e : Ending) (he : e = .returned (.tuple #[v, .bool b])) : RetPB w r e w' := by
  subst hr hn
  obtain ⟨A, c, rfl, hs⟩ := seg_out ho
  subst he
  exact ⟨A, c, rfl, hs, hb⟩
theorem ret_ownIW {w w' : World} {r : List Int × Bool} {p : List Int} {n : Nat} {v : Value} {b : Bool} (hr : r = (p, b)) (hn : p.length = n) (ho : w'.ownsRow w.heap.size 3 1 v n (ic p)) (hb : Below w.heap.size w w') (e : Ending) (he : e = .returned (.tuple #[v, .bool b])) : RetIB w r e w' := by
  subst hr hn
  obtain ⟨A, c, rfl, hs⟩ := seg_out ho
  subst he
  exact ⟨A, c, rfl, hs, hb⟩
section
variable (A : Option Addr) (c : Nat) (m : Int) (xss : List (List Pr)) (w : World) (hr : RowX pc w A xss) (hn : xss.length ≤ 10000000 ∧ (lensX xss).sum ≤ 10000000)
include hr hn
set_option maxRecDepth 100000 in
set_option maxHeartbeats 4000000 in
theorem spec_OpsOf : Calls Try.prog 15 #[.agg #[.int .i64 m, .slice A xss.length c]] w (RetPB w (opsR m xss)) := by
  have hb0 := (Below.refl w.heap.size w).alloc (Nat.le_refl _) (.cells #[.int .i64 m, .slice A xss.length c] 29)
  have hx := BlockIs.new w 29 #[.int .i64 m, .slice A xss.length c]
  have hr0 := hr.below hb0
  have HG := Lib.hid (l9Good_any m A c xss.length xss _ rfl hr0 hn)
  have HR : Hid (opsR m xss = if jshB m xss then (prO (opsJ xss), true) else ([], false)) := rfl
  have H0 := Lib.hid (And.intro hx (And.intro hb0 hr0))
  clear hb0 hx hr0 hr
  cases hj : jshB m xss
  · rw [hj] at HG HR
    go_enter Try.func15, Try.ntmps15
    go_wp2_with fail
    refine HG.out.mono ?_
    rintro e w1 ⟨rfl, hb1⟩
    have HB := Lib.hid (H0.out.2.1.trans (hb1.mono H0.out.2.1.size))
    clear hb1
    go_wp2
    go_ret2
    exact ret_emptyP (by rw [HR.out]; rfl) HB.out _ rfl
  · rw [hj] at HG HR
    obtain ⟨_, h4, _, h12⟩ := jsh_out hj
    go_enter Try.func15, Try.ntmps15
    go_wp2_with fail
    refine HG.out.mono ?_
    rintro e w1 ⟨rfl, hb1⟩
    have HB := Lib.hid (H0.out.2.1.trans (hb1.mono H0.out.2.1.size))
    have HO := Lib.hid (l9Ops_any m A c xss w1 (H0.out.2.2.below hb1) h12 h4)
    have d0 := (H0.out.1.below hb1).cell 0
    have d1 := (H0.out.1.below hb1).cell 1
    simp only [List.getElem?_toArray, List.getElem?_cons_zero, List.getElem?_cons_succ] at d0 d1
    clear hb1 HG
    go_wp2_with fail
    refine HO.out.mono ?_
    rintro e w2 ⟨v, rfl, ho, hb2⟩
    have HF := Lib.hid (And.intro (own_low ho HB.out.size) (HB.out.trans (hb2.mono HB.out.size)))
    clear ho hb2 HO d0 d1
    go_wp2
    go_ret2
    exact ret_ownPW (by rw [HR.out]; rfl) rfl HF.out.1 HF.out.2 _ rfl
set_option maxRecDepth 100000 in
set_option maxHeartbeats 4000000 in
theorem impl_OpsOf : Calls Try.prog 16 #[.agg #[.int .i64 m, .slice A xss.length c]] w (RetPB w (opsR m xss)) := by
  have hb0 := (Below.refl w.heap.size w).alloc (Nat.le_refl _) (.cells #[.int .i64 m, .slice A xss.length c] 29)
  have hx := BlockIs.new w 29 #[.int .i64 m, .slice A xss.length c]
  have hr0 := hr.below hb0
  have HG := Lib.hid (impl_IsJobShop A c m xss _ hr0 hn)
  have HR : Hid (opsR m xss = if jshB m xss then (prO (opsJ xss), true) else ([], false)) := rfl
  have H0 := Lib.hid (And.intro hx (And.intro hb0 hr0))
  clear hb0 hx hr0 hr
  cases hj : jshB m xss
  · rw [hj] at HG HR
    have HRR := Lib.hid HR.out
    clear hj
    go_enter Try.func16, Try.ntmps16
    go_wp2_with fail
    refine HG.out.mono ?_
    rintro e w1 ⟨rfl, hb1⟩
    have HB := Lib.hid (H0.out.2.1.trans (hb1.mono H0.out.2.1.size))
    clear hb1
    go_wp2
    go_ret2
    exact ret_emptyP (by rw [HR.out]; rfl) HB.out _ rfl
  · rw [hj] at HG HR
    obtain ⟨_, h4, _, h12⟩ := jsh_out hj
    have HLJ : Hid ((opsJ xss).length ≤ 12) := by show _ ≤ _; rw [opsJ_len]; exact h12
    obtain ⟨i0, hi, hzz0, hzz1, hzz2⟩ := info_partsW infoW2
    have HINF := Lib.hid (And.intro hi (And.intro hzz0 (And.intro hzz1 hzz2)))
    clear hi hzz0 hzz1 hzz2
    go_enter Try.func16, Try.ntmps16
    go_wp2_with fail
    refine HG.out.mono ?_
    rintro e w1 ⟨rfl, hb1⟩
    have hB := H0.out.2.1.trans (hb1.mono H0.out.2.1.size)
    have hb2 := (Below.refl w1.heap.size w1).alloc (Nat.le_refl _) (.cells #[] 47)
    have HOW := Lib.hid (And.intro (World.ownsRow_made (e := 47) (size := 2) w1 #[] 0 hB.size (by unfold maxLen; omega) rfl) (hB.trans (hb2.mono hB.size)))
    have HO := Lib.hid (ops_any m A c xss (w1.alloc (.cells #[] 47)) ((H0.out.2.2.below hb1).below hb2) h12 h4)
    have d0 := ((H0.out.1.below hb1).below hb2).cell 0
    have d1 := ((H0.out.1.below hb1).below hb2).cell 1
    simp only [List.getElem?_toArray, List.getElem?_cons_zero, List.getElem?_cons_succ] at d0 d1
    clear hb1 hb2 hB HG h12 h4
    go_wp2_with fail
    refine HO.out.mono ?_
    rintro e w3 ⟨v, rfl, ho, hb3⟩
    have HL := Lib.hid (And.intro (own_blw HOW.out.1 hb3) (HOW.out.2.trans (hb3.mono HOW.out.2.size)))
    have HOP := Lib.hid ho
    obtain ⟨A2, c2, rfl, _, _⟩ := own_slice ho
    clear ho hb3 HO d0 d1 HOW hj H0
    generalize opsJ xss = l at *
    go_wp2
    go_loopw [4, 15] (fun ov iv wr => ∃ k : Nat, k ≤ l.length ∧ iv = .int .i64 (k : Int) ∧ Hid (wr.ownsRow w.heap.size 47 2 ov k (pc (prO (l.take k))) ∧ Below w.heap.size w wr) ∧ Hid (∀ g cs, BlockIs w3 g 85 cs → BlockIs wr g 85 cs)) (fun _ iv _ => l.length - (intOf iv).toNat)
    case atStart => exact ⟨0, Nat.zero_le _, rfl, HL.out, fun _ _ h => h⟩
    case round =>
      obtain ⟨k, hk, rfl, HK, HKB⟩ := hrel
      by_cases hlt : k < l.length
      · have hk0 : (0 : Int) ≤ k := by omega
        have hk1 : (k : Int) < l.length := by omega
        obtain ⟨ad, hA, _, hc0, hc1, hc2, hc3⟩ := (Row.of_own (own_kept HOP.out HKB.out)).job hlt
        subst hA
        have hbx := (Below.refl wr.heap.size wr).alloc (Nat.le_refl _) (.cells #[.int .i64 l[k].t, .int .i64 l[k].w, .int .i64 l[k].r, .int .i64 l[k].d] 85)
        have hwz : (wr.alloc (.cells #[.int .i64 l[k].t, .int .i64 l[k].w, .int .i64 l[k].r, .int .i64 l[k].d] 85)).heap.size = wr.heap.size + 1 := by simp
        have hsz2 := HK.out.2.size
        have h12 := HLJ.out
        have hkb0 : (k : Int) ≤ 12 := by omega
        obtain ⟨v', w', hrun, ho', hkp, hkb⟩ := app_1 (g := wr.heap.size + 1) Try.underlying33 HINF.out.1 HINF.out.2.1 HINF.out.2.2.1 HINF.out.2.2.2 rfl (by decide) #[.int .i64 l[k].r, .int .i64 l[k].d] (own_blw HK.out.1 hbx) hwz.symm rfl (by intro u hu; simp at hu; rcases hu with rfl | rfl <;> rfl) (by omega) (by omega) (by omega)
        have hcs : pc (prO (l.take k)) ++ (#[Value.int .i64 l[k].r, .int .i64 l[k].d] : Array Value).toList = pc (prO (l.take (k + 1))) := by
          rw [List.take_succ_eq_append_getElem hlt, prO_app, ← pc_appW]
          rfl
        rw [hcs] at ho'
        have HO' := Lib.hid (And.intro ho' (hkp w w.heap.size (Nat.le_refl _) (HK.out.2.trans (hbx.mono hsz2))))
        have HKB' : Hid (∀ g cs, BlockIs w3 g 85 cs → BlockIs w' g 85 cs) := fun g cs h => hkb g _ cs (by decide) ((HKB.out g cs h).below hbx)
        have HRUN := Lib.hid hrun
        clear ho' hkp hkb hrun hcs HK HKB hwz hbx hsz2 h12
        generalize l[k] = je at *
        obtain ⟨j1, j2, j3, j4⟩ := je
        dsimp only at hc0 hc1 hc2 hc3
        go_wp2_with (at_builtin; refine wpList_appW rfl _ _ _ rfl _ _ _ rfl rfl HRUN.out ?_; clear HRUN)
        go_roundw
        case rel => exact ⟨k + 1, by omega, by go_num, HO'.out, HKB'.out⟩
        case measure => simp [intOf]; omega
      · obtain rfl : k = l.length := by omega
        have HF := HK
        rw [List.take_of_length_le (Nat.le_refl _)] at HF
        clear HK
        go_wp2
        go_ret2
        exact ret_ownPW (by rw [HR.out]; rfl) (prO_len l) HF.out.1 HF.out.2 _ rfl
end
end Go.Proofs.Ytjemjdlaoebffaa
