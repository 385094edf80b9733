/- ScenarioValues: the program's. -/
import Derived.Test.YtjemjdlaoebffaaScV
import Derived.Test.YtjemjdlaoebffaaScI
import Derived.Test.YtjemjdlaoebffaaCtC
namespace Go.Proofs.Ytjemjdlaoebffaa
set_option linter.unusedSimpArgs false
set_option linter.unusedVariables false
set_option linter.unusedSectionVars false
open Go.RowKit
theorem infoG3 : (Try.prog.info? 144).map (fun i => (i.zero, i.size, i.bytes)) = some (some (.agg #[.slice none 0 0, .nilFunc, .bool false]), 3, 40) := by kernel_rfl
/-- Criteria of scenarios: each with where its jobs lie. -/
def crS (vs : List (Option Addr × Nat)) (xss : List (List J)) (ob : Int) (fv : Value) : List Cr := List.zipWith (fun v js => ⟨v.1, v.2, js, ob, fv⟩) vs xss
theorem crS_len {vs : List (Option Addr × Nat)} {xss : List (List J)} {ob : Int} {fv : Value} (h : vs.length = xss.length) : (crS vs xss ob fv).length = xss.length := by unfold crS; simp [h]
theorem crS_get {vs : List (Option Addr × Nat)} {xss : List (List J)} {ob : Int} {fv : Value} (h : vs.length = xss.length) {i : Nat} (hi : i < xss.length) : (crS vs xss ob fv)[i]'(by rw [crS_len h]; exact hi) = ⟨(vs[i]'(by omega)).1, (vs[i]'(by omega)).2, xss[i], ob, fv⟩ := by unfold crS; simp
theorem crc_snoc (ks : List Cr) (k : Cr) : crc (ks ++ [k]) = crc ks ++ crC k := by unfold crc; simp
def ocS (xss : List (List J)) (ob : Int) : Bool := isObj ob && scB xss
/-- What scenarioCriteria hands back. -/
def ScPost (w : World) (xss : List (List J)) (ob : Int) (e : Ending) (w' : World) : Prop := Below w.heap.size w w' ∧
  ((ocS xss ob = false ∧ e = .returned (.tuple #[.slice none 0 0, .bool false])) ∨
   (ocS xss ob = true ∧ ∃ gc cc ks, e = .returned (.tuple #[.slice (some ⟨gc, 0, none⟩) xss.length cc, .bool true]) ∧ ks.length = xss.length ∧ CritIs w'.heap.size w' (some ⟨gc, 0, none⟩) (xss.getD 0 []).length ks ∧ ∀ i (h : i < ks.length) (h' : i < xss.length), ks[i].js = xss[i] ∧ ks[i].o = ob))
section
variable (A : Option Addr) (c : Nat) (xss : List (List J)) (ob : Int) (w : World) (hr : RowX jc w A xss) (hn : xss.length ≤ 10000000 ∧ (lensX xss).sum ≤ 10000000)
include hr hn
set_option maxRecDepth 100000 in
set_option maxHeartbeats 8000000 in
theorem scenarioCriteria_any : Calls Try.prog 104 #[.slice A xss.length c, .int .i64 ob] w (ScPost w xss ob) := by
  obtain ⟨i0, hi, hzz0, hzz1, hzz2⟩ := info_partsG infoG3
  have HINF := Lib.hid (And.intro hi (And.intro hzz0 (And.intro hzz1 hzz2)))
  have HR := Lib.hid hr
  clear hr hi hzz0 hzz1 hzz2
  go_enter Try.func104, Try.ntmps104
  go_wp2_with fail
  refine (measureOf_any ob w).mono ?_
  rintro e w1 ⟨hb1, ⟨hf, rfl⟩ | ⟨hf, fv, rfl, hfn⟩⟩
  · have HOK : Hid (ocS xss ob = false) := by show _ = _; unfold ocS; rw [hf]; rfl
    have hst0 := store_pair Try.prog w1 .nilFunc .nilFunc (.bool false) 140 rfl
    have HB := Lib.hid (hb1.alloc hb1.size (.cells #[.nilFunc, .bool false] 140))
    clear hb1 hf
    go_wp2
    go_ret2
    exact ⟨HB.out, .inl ⟨HOK.out, rfl⟩⟩
  · obtain ⟨ff, caps, rfl, _, _⟩ := cost_call hfn
    have hst1 := store_pair Try.prog w1 (.func (.func ff) #[] caps) .nilFunc (.bool false) 140 rfl
    have hbA := (Below.refl w1.heap.size w1).alloc (Nat.le_refl _) (.cells #[.func (.func ff) #[] caps, .bool (isTop ob)] 140)
    have HA := Lib.hid (And.intro (BlockIs.new w1 140 #[.func (.func ff) #[] caps, .bool (isTop ob)]) (And.intro (hb1.trans (hbA.mono hb1.size)) (hfn.go (Nat.le_refl _) hbA (Nat.le_refl _))))
    have hsA := hbA.size
    have HAS := Lib.hid (impl_AreScenarios A c xss _ (HR.out.below HA.out.2.1) hn)
    clear hbA hfn hb1
    go_wp2_with fail
    refine HAS.out.mono ?_
    rintro e w2 ⟨rfl, hb2⟩
    have HB2 := Lib.hid (HA.out.2.1.trans (hb2.mono HA.out.2.1.size))
    cases hs : scB xss
    · have HOK : Hid (ocS xss ob = false) := by show _ = _; unfold ocS; rw [hs, Bool.and_false]
      clear hb2 hs hf
      go_wp2
      go_ret2
      exact ⟨HB2.out, .inl ⟨HOK.out, rfl⟩⟩
    · have HOK : Hid (ocS xss ob = true) := by show _ = _; unfold ocS; rw [hs, hf]; rfl
      obtain ⟨hx4, hall⟩ := sc_out hs
      have hxI : (1 : Int) ≤ xss.length ∧ (xss.length : Int) ≤ 4 := by omega
      have HALL := Lib.hid hall
      have HF2 := Lib.hid (HA.out.2.2.go hsA hb2 (Nat.le_refl _))
      have hs2 := hb2.size
      have hk2 := HA.out.1.below hb2
      have HB1 := Lib.hid hf
      obtain ⟨vs, hvl, hrow0, hrows⟩ := HR.out
      have HVS := Lib.hid (And.intro hrow0 hrows)
      have hbE := (Below.refl w2.heap.size w2).alloc (Nat.le_refl _) (.cells #[] 144)
      have H0 := Lib.hid (And.intro (hk2.below hbE) (And.intro (World.ownsRow_made (e := 144) (size := 3) w2 #[] 0 HB2.out.size (by unfold maxLen; omega) rfl) (And.intro (HB2.out.trans (hbE.mono HB2.out.size)) hbE)))
      clear hs hall hf hb2 hk2 hrow0 hrows hbE HA hst1
      go_wp2
      go_loopw [8, 26] (fun ov iv wr => ∃ k : Nat, k ≤ xss.length ∧ iv = .int .i64 (k : Int) ∧ Hid (BlockIs wr w1.heap.size 140 #[.func (.func ff) #[] caps, .bool (isTop ob)] ∧ wr.ownsRow w2.heap.size 144 3 ov k (crc ((crS vs xss ob (.func (.func ff) #[] caps)).take k)) ∧ Below w.heap.size w wr ∧ Below w2.heap.size w2 wr)) (fun _ iv _ => xss.length - (intOf iv).toNat)
      case atStart => exact ⟨0, Nat.zero_le _, rfl, H0.out.1, World.ownsRow_made (e := 144) (size := 3) w2 #[] 0 (Nat.le_refl _) (by unfold maxLen; omega) rfl, H0.out.2.2⟩
      case round =>
        obtain ⟨k, hk, rfl, HK⟩ := hrel
        clear H0
        by_cases hlt : k < xss.length
        · have hk0 : (0 : Int) ≤ k := by omega
          have hk1 : (k : Int) < xss.length := by omega
          have hk4 : (k : Int) ≤ 4 := by omega
          have hvk : k < vs.length := by omega
          obtain ⟨ad, hA', hc⟩ := (HVS.out.1.below HK.out.2.2.1).at_ (k := k) (by rw [slN_len (by rw [lensX_len]; exact hvl), lensX_len]; exact hlt)
          subst hA'
          rw [slN_get (by rw [lensX_len]; exact hvl) (by rw [lensX_len]; exact hlt), lensX_get xss k hlt] at hc
          have c0 := HK.out.1.cell 0
          have c1 := HK.out.1.cell 1
          simp only [List.getElem?_toArray, List.getElem?_cons_zero, List.getElem?_cons_succ] at c0 c1
          have hsz2 := HK.out.2.2.2.size
          obtain ⟨v', w', hrun, ho', hkp, hkb⟩ := app_1G (g := wr.heap.size) Try.underlying99 HINF.out.1 HINF.out.2.1 HINF.out.2.2.1 HINF.out.2.2.2 rfl (by decide) #[.slice vs[k].1 xss[k].length vs[k].2, .func (.func ff) #[] caps, .bool (isTop ob)] HK.out.2.1 rfl rfl (by intro u hu; simp at hu; rcases hu with rfl | rfl | rfl <;> rfl) (by omega) (by omega) hsz2
          have hcs : crc ((crS vs xss ob (.func (.func ff) #[] caps)).take k) ++ (#[Value.slice vs[k].1 xss[k].length vs[k].2, .func (.func ff) #[] caps, .bool (isTop ob)] : Array Value).toList = crc ((crS vs xss ob (.func (.func ff) #[] caps)).take (k + 1)) := by
            rw [List.take_succ_eq_append_getElem (by rw [crS_len hvl]; exact hlt), crc_snoc, crS_get hvl hlt]
            rfl
          rw [hcs] at ho'
          have HO' := Lib.hid (And.intro (hkb w1.heap.size 140 _ (by decide) HK.out.1) (And.intro ho' (And.intro (hkp w w.heap.size (Nat.le_trans HB2.out.size (Nat.le_refl _)) HK.out.2.2.1) (hkp w2 w2.heap.size (Nat.le_refl _) HK.out.2.2.2))))
          have HRUN := Lib.hid hrun
          clear ho' hkp hkb hrun hcs HK hsz2
          generalize xss[k].length = L at *
          generalize vs[k] = vk at *
          obtain ⟨va, vc⟩ := vk
          go_wp2_with (at_builtin; refine wpList_appG9 rfl _ _ _ rfl _ _ _ rfl rfl HRUN.out ?_; clear HRUN)
          go_roundw
          case rel => exact ⟨k + 1, by omega, by go_num, HO'.out⟩
          case measure => simp [intOf]; omega
        · obtain rfl : k = xss.length := by omega
          have hkl := HK.out
          rw [List.take_of_length_le (by rw [crS_len hvl]; exact Nat.le_refl _)] at hkl
          obtain ⟨A2, c2, hv2, _, _⟩ := own_slice hkl.2.1
          subst hv2
          obtain ⟨gc, cur, hA2, _, _⟩ := own_block hkl.2.1 (by omega)
          subst hA2
          have hs22 := hkl.2.2.2.size
          have HX := Lib.hid (And.intro hkl.2.1 (And.intro hkl.2.2.1 (HF2.out.go (by omega) hkl.2.2.2 (show w1.heap.size ≤ wr.heap.size by omega))))
          clear hkl HK hs22
          go_wp2
          go_ret2
          refine ⟨HX.out.2.1, .inr ⟨HOK.out, gc, c2, crS vs xss ob (.func (.func ff) #[] caps), rfl, crS_len hvl, ⟨Row.of_own HX.out.1, Nat.le_refl _, fun i hi => ?_⟩, fun i h h' => by rw [crS_get hvl h']; exact ⟨rfl, rfl⟩⟩⟩
          have hi' : i < xss.length := by rw [crS_len hvl] at hi; exact hi
          rw [crS_get hvl hi']
          exact ⟨(HVS.out.2 i hi' (by omega)).1.below HX.out.2.1, HX.out.2.2, HB1.out, (HALL.out i hi').1, (HALL.out i hi').2⟩
set_option maxRecDepth 100000 in
set_option maxHeartbeats 4000000 in
omit hr hn in
theorem jobsC_any (gc cc m : Nat) (ks : List Cr) (B : Nat) (W : World) (hC : CritIs B W (some ⟨gc, 0, none⟩) m ks) (h0 : 0 < ks.length) (hm8 : m ≤ 8) : Calls Try.prog 105 #[.slice (some ⟨gc, 0, none⟩) ks.length cc] W fun e w' => e = .returned (.int .i64 (m : Int)) ∧ W = w' := by
  obtain ⟨ad, hA', _, hc0, hc1, hc2⟩ := hC.1.crit h0
  injection hA' with hA'
  subst hA'
  have hlen := (hC.2.2 0 h0).2.2.2.2
  rw [hlen] at hc0
  have hz1 : (0 : Int) < ks.length := by omega
  have hnil : ¬ ks = [] := fun h => by rw [h] at h0; simp at h0
  have d0 : W.cell? ⟨gc, 0, none⟩ = some (.slice ks[0].A m ks[0].c) := hc0
  clear hc0 hc1 hc2 hlen hC
  generalize ks[0].A = kA at *
  generalize ks[0].c = kc at *
  go_enter Try.func105, Try.ntmps105
  go_wp2
  go_ret
  exact ⟨rfl, rfl⟩
end
section
variable (A C : Option Addr) (c d : Nat) (xss : List (List J)) (o : List Int) (ob : Int) (w : World) (hr : RowX jc w A xss) (hq : Row w C (ic o)) (hn : xss.length ≤ 10000000 ∧ (lensX xss).sum ≤ 10000000) (hm : o.length ≤ 10000000)
include hr hq hn hm
/-- What scenariosFor hands back. -/
def SfPost (w : World) (xss : List (List J)) (o : List Int) (ob : Int) (e : Ending) (w' : World) : Prop := Below w.heap.size w w' ∧
  ((fitB xss o ob = false ∧ ∃ v, e = .returned (.tuple #[v, .bool false])) ∨
   (fitB xss o ob = true ∧ ∃ gc cc ks, e = .returned (.tuple #[.slice (some ⟨gc, 0, none⟩) xss.length cc, .bool true]) ∧ ks.length = xss.length ∧ CritIs w'.heap.size w' (some ⟨gc, 0, none⟩) (xss.getD 0 []).length ks ∧ ∀ i (h : i < ks.length) (h' : i < xss.length), ks[i].js = xss[i] ∧ ks[i].o = ob))
set_option maxRecDepth 100000 in
set_option maxHeartbeats 4000000 in
theorem scenariosFor_any : Calls Try.prog 73 #[.slice A xss.length c, .slice C o.length d, .int .i64 ob] w (SfPost w xss o ob) := by
  have HS := Lib.hid (scenarioCriteria_any A c xss ob w hr hn)
  have HFB : Hid (fitB xss o ob = (scB xss && (ordB ((xss.getD 0 []).length : Int) o && isObj ob))) := rfl
  have HOC : Hid (ocS xss ob = (isObj ob && scB xss)) := rfl
  have HQ := Lib.hid hq
  clear hr hq
  go_enter Try.func73, Try.ntmps73
  go_wp2_with fail
  refine HS.out.mono ?_
  rintro e w1 ⟨hb1, ⟨hok, rfl⟩ | ⟨hok, gc, cc, ks, rfl, hkl, hC, hks⟩⟩
  · have HF : Hid (fitB xss o ob = false) := by
      show _ = _
      rw [HFB.out]
      rw [HOC.out] at hok
      revert hok
      cases scB xss <;> cases isObj ob <;> simp
    have HB := Lib.hid hb1
    clear hb1 hok HS
    go_wp2
    go_ret2
    exact ⟨HB.out, .inl ⟨HF.out, _, rfl⟩⟩
  · rw [HOC.out] at hok
    obtain ⟨hob, hsc⟩ := Bool.and_eq_true_iff.1 hok
    obtain ⟨hx4, hall⟩ := sc_out hsc
    rw [hsc, hob, Bool.true_and, Bool.and_true] at HFB
    have h8 : (xss.getD 0 []).length ≤ 8 := by
      rw [show xss.getD 0 [] = xss[0] by simp [List.getD, show 0 < xss.length by omega]]
      exact (good_out (hall 0 (by omega)).1).1
    have HB := Lib.hid hb1
    have HC := Lib.hid hC
    have HKS := Lib.hid hks
    have HJ := jobsC_any gc cc _ ks _ w1 hC (by omega) h8
    rw [hkl] at HJ
    have HJ2 := Lib.hid HJ
    have HO := Lib.hid (IsOrder_any ((xss.getD 0 []).length : Int) C d o w1 (HQ.out.below hb1) (by omega))
    clear hb1 hC hks HJ HS hok hall hob hsc
    obtain ⟨m, hmm⟩ : ∃ m, m = (xss.getD 0 []).length := ⟨_, rfl⟩
    rw [← hmm] at HFB HC HJ2 HO
    have HMM := Lib.hid hmm
    clear hmm h8
    go_wp2_with fail
    refine HJ2.out.mono ?_
    rintro e _ ⟨rfl, rfl⟩
    go_wp2_with fail
    refine HO.out.mono ?_
    rintro e w2 ⟨rfl, hb2⟩
    have HB2 := Lib.hid (HB.out.trans (hb2.mono HB.out.size))
    have HC2 := Lib.hid (HC.out.below hb2)
    have hs2 := hb2.size
    clear hb2
    cases ho : ordB (m : Int) o
    · rw [ho] at HFB
      go_wp2
      go_ret2
      exact ⟨HB2.out, .inl ⟨HFB.out, _, rfl⟩⟩
    · rw [ho] at HFB
      have hCC : CritIs w2.heap.size w2 (some ⟨gc, 0, none⟩) m ks := ⟨HC2.out.1, Nat.le_refl _, fun i hi => ⟨(HC2.out.2.2 i hi).1, (HC2.out.2.2 i hi).2.1.up hs2, (HC2.out.2.2 i hi).2.2⟩⟩
      have HCC := Lib.hid hCC
      have HKL := Lib.hid hkl
      clear hCC hkl hs2
      go_wp2
      go_ret2
      exact ⟨HB2.out, .inr ⟨HFB.out, gc, cc, ks, rfl, HKL.out, by rw [← HMM.out]; exact HCC.out, HKS.out⟩⟩
set_option maxRecDepth 100000 in
set_option maxHeartbeats 4000000 in
theorem impl_ScenarioValues : Calls Try.prog 39 #[.slice A xss.length c, .slice C o.length d, .int .i64 ob] w (RetIT w (svR xss o ob)) := by
  have HS := Lib.hid (scenariosFor_any A C c d xss o ob w hr hq hn hm)
  have HQ := Lib.hid hq
  have HNO := Lib.hid (fun h => @sv_no xss o ob h)
  have HYES := Lib.hid (fun h => @sv_yes xss o ob h)
  clear hr hq
  go_enter Try.func39, Try.ntmps39
  go_wp2_with fail
  refine HS.out.mono ?_
  rintro e w1 ⟨hb1, ⟨hok, v, rfl⟩ | ⟨hok, gc, cc, ks, rfl, hkl, hC, hks⟩⟩
  · have HV := Lib.hid (HNO.out hok)
    have HB := Lib.hid hb1
    clear hb1 hok HS
    go_wp2
    go_ret2
    exact ret_emptyT HV.out HB.out _ rfl
  · have HV := Lib.hid (HYES.out hok)
    obtain ⟨hsc, hor, hob, htw⟩ := fit_out hok
    obtain ⟨hx4, hall⟩ := sc_out hsc
    obtain ⟨hg0, p, hop, hp, hpn⟩ := two_out (htw 0 (by omega))
    have h00 : xss.getD 0 [] = xss[0] := by simp [List.getD, show 0 < xss.length by omega]
    rw [h00] at hC
    have h8 := (good_out hg0).1
    have hlen : o.length = p.length := by rw [hop]; simp
    have hqr : Row w1 C (ic (natI p)) := by rw [← hop]; exact HQ.out.below hb1
    have hVO := valuesOf_any w1.heap.size (some ⟨gc, 0, none⟩) cc ks xss[0].length p C d w1 hC (by omega) hp h8 hqr
    rw [hkl, ← hlen] at hVO
    have hvals : (scA (valC ks p)).toList.take xss.length = ic (svL xss o ob xss.length) := by
      apply List.ext_getElem
      · simp [scA, ic_len, svL_len xss o ob (Nat.le_refl _)]; omega
      · intro i h1 h2
        rw [ic_len, svL_len xss o ob (Nat.le_refl _)] at h2
        have hik : i < ks.length := by omega
        obtain ⟨e1, e2⟩ := hks i hik h2
        have hv : valC ks p i = partV ob xss[i] (natsOf o) := by rw [valC_in hik, show ks.getD i cr0 = ks[i] by simp [List.getD, hik], e1, e2, hpn]
        have hsv : (svL xss o ob xss.length)[i]'(by rw [svL_len xss o ob (Nat.le_refl _)]; exact h2) = partV ob xss[i] (natsOf o) := by unfold svL; simp
        rw [List.getElem_take, ic_get _ _ (by rw [svL_len xss o ob (Nat.le_refl _)]; exact h2), hsv, ← hv]
        rcases (by omega : i = 0 ∨ i = 1 ∨ i = 2 ∨ i = 3) with rfl | rfl | rfl | rfl <;> rfl
    have HVL := Lib.hid (svL_len xss o ob (Nat.le_refl xss.length))
    have HVA := Lib.hid hvals
    have HVO := Lib.hid hVO
    have HB := Lib.hid hb1
    have hxI : (xss.length : Int) ≤ 4 := by omega
    clear hb1 hok HS hvals hVO hqr hlen hop hp hpn h00 hC hks hall hor htw hsc hob h8 hg0
    generalize valC ks p = VV at *
    unfold scA at HVO HVA
    go_wp2_with fail
    refine HVO.out.mono ?_
    rintro e w2 ⟨rfl, hb2⟩
    have hB2 := HB.out.trans (hb2.mono HB.out.size)
    have hbz := (Below.refl w2.heap.size w2).alloc (Nat.le_refl _) (.cells #[.int .i64 (VV 0), .int .i64 (VV 1), .int .i64 (VV 2), .int .i64 (VV 3)] 105)
    have HX := Lib.hid (And.intro (BlockIs.new w2 105 #[.int .i64 (VV 0), .int .i64 (VV 1), .int .i64 (VV 2), .int .i64 (VV 3)]) (hB2.trans (hbz.mono hB2.size)))
    have HSZ := Lib.hid hB2.size
    clear hb2 hB2 hbz HVO HB
    go_wp2
    go_ret2
    rw [HV.out]
    refine ⟨some ⟨w2.heap.size, 0, none⟩, 4, ?_, ⟨_, w2.heap.size, 0, _, rfl, HSZ.out, HX.out.1.lt, Nat.le_refl _, HX.out.1, ?_, ?_⟩, HX.out.2⟩
    · rw [HVL.out]
      rfl
    · rw [HVL.out, List.drop_zero]
      exact HVA.out
    · rw [ic_len]
end
end Go.Proofs.Ytjemjdlaoebffaa
