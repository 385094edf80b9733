/- ScenarioValues: the model's. -/
import Derived.Test.YtjemjdlaoebffaaScA
import Derived.Test.YtjemjdlaoebffaaApG
import Derived.Test.YtjemjdlaoebffaaSgt
import Derived.Test.YtjemjdlaoebffaaCtS
import Derived.Test.YtjemjdlaoebffaaValS
import Derived.Test.YtjemjdlaoebffaaOrd
namespace Go.Proofs.Ytjemjdlaoebffaa
set_option linter.unusedSimpArgs false
set_option linter.unusedVariables false
set_option linter.unusedSectionVars false
open Go.RowKit
def fitB (xss : List (List J)) (o : List Int) (ob : Int) : Bool := scB xss && (ordB ((xss.getD 0 []).length : Int) o && isObj ob)
def svL (xss : List (List J)) (o : List Int) (ob : Int) (k : Nat) : List Int := (xss.take k).map fun js => partV ob js (natsOf o)
def svR (xss : List (List J)) (o : List Int) (ob : Int) : List Int × Bool := if fitB xss o ob then (svL xss o ob xss.length, true) else ([], false)
theorem svL_len (xss : List (List J)) (o : List Int) (ob : Int) {k : Nat} (hk : k ≤ xss.length) : (svL xss o ob k).length = k := by unfold svL; simp; omega
theorem svL_succ (xss : List (List J)) (o : List Int) (ob : Int) {k : Nat} (hk : k < xss.length) : svL xss o ob (k + 1) = svL xss o ob k ++ [partV ob xss[k] (natsOf o)] := by
  unfold svL
  rw [List.take_succ_eq_append_getElem hk, List.map_append]
  rfl
theorem sv_no {xss : List (List J)} {o : List Int} {ob : Int} (h : fitB xss o ob = false) : svR xss o ob = ([], false) := by unfold svR; rw [h]; rfl
theorem sv_yes {xss : List (List J)} {o : List Int} {ob : Int} (h : fitB xss o ob = true) : svR xss o ob = (svL xss o ob xss.length, true) := by unfold svR; rw [h]; rfl
theorem svR_len (xss : List (List J)) (o : List Int) (ob : Int) : (svR xss o ob).1.length ≤ 4 := by
  cases h : fitB xss o ob
  · rw [sv_no h]; simp
  · rw [sv_yes h]
    have h1 := (sc_out (Bool.and_eq_true_iff.1 h).1).1
    show (svL xss o ob xss.length).length ≤ 4
    rw [svL_len xss o ob (Nat.le_refl _)]; omega
theorem fit_out {xss : List (List J)} {o : List Int} {ob : Int} (h : fitB xss o ob = true) : scB xss = true ∧ ordB ((xss.getD 0 []).length : Int) o = true ∧ isObj ob = true ∧ ∀ k (hk : k < xss.length), twoB xss[k] o = true := by
  obtain ⟨h1, h2⟩ := Bool.and_eq_true_iff.1 h
  obtain ⟨h3, h4⟩ := Bool.and_eq_true_iff.1 h2
  refine ⟨h1, h3, h4, fun k hk => ?_⟩
  obtain ⟨hg, hl⟩ := (sc_out h1).2 k hk
  unfold twoB
  rw [hg, hl, h3]; rfl
theorem l2ValueS_any (A B : Option Addr) (c d : Nat) (js : List J) (o : List Int) (ob : Int) (w : World) (hr : Row w A (jc js)) (hq : Row w B (ic o)) (ht : twoB js o = true) (ho : isObj ob = true) : Calls Try.prog 103 #[.slice A js.length c, .slice B o.length d, .int .i64 ob] w fun e w' => e = .returned (.int .i64 (partV ob js (natsOf o))) ∧ Below w.heap.size w w' := by
  have hl := endsL_len js (natsOf o)
  have hg := (two_out ht).1
  have h8 := (good_out hg).1
  have hbd : ∀ x ∈ endsL js (natsOf o), 0 ≤ x ∧ x ≤ 1000 := by
    obtain ⟨hg', p, hop, hp, hpn⟩ := two_out ht
    rw [hpn]; exact endsL_bd hg' hp
  have HV : Hid (valOf ob js (endsL js (natsOf o)) = partV ob js (natsOf o)) := by
    show _ = _
    obtain ⟨_, p, hop, hp, hpn⟩ := two_out ht
    rw [hpn]; exact partV_full ob js hp
  have HG := Lib.hid (And.intro hg (And.intro hl hbd))
  clear hl hg hbd
  go_enter Try.func103, Try.ntmps103
  go_wp2_with fail
  refine (l2Ends_o A B c d js o _ hr hq ht).mono ?_
  rintro e w2 ⟨g, rfl, hg2, hB2, hb2⟩
  have HQ := Lib.hid (seg_of_block hB2 (Nat.zero_le _) (by rw [HG.out.2.1]; unfold maxLen; omega)).row
  have HB := Lib.hid hb2
  clear hB2 hb2
  go_wp2_with fail
  refine (l2Of_any A (some ⟨g, 0, none⟩) c js.length js (endsL js (natsOf o)) ob _ (hr.below HB.out) HQ.out HG.out.1 HG.out.2.1 HG.out.2.2 ho).mono ?_
  rintro e w3 ⟨rfl, hb3⟩
  have HX := Lib.hid (HB.out.trans (hb3.mono HB.out.size))
  clear hb3
  go_wp2
  go_ret
  exact ⟨by rw [HV.out]; rfl, HX.out⟩
section
variable (A C : Option Addr) (c d : Nat) (xss : List (List J)) (o : List Int) (ob : Int) (w : World) (hr : RowX jc w A xss) (hq : Row w C (ic o)) (hn : xss.length ≤ 10000000 ∧ (lensX xss).sum ≤ 10000000) (hm : o.length ≤ 10000000)
include hr hq hn hm
set_option maxRecDepth 100000 in
set_option maxHeartbeats 4000000 in
theorem l11Fits_any : Calls Try.prog 71 #[.slice A xss.length c, .slice C o.length d, .int .i64 ob] w fun e w' => e = .returned (.bool (fitB xss o ob)) ∧ Below w.heap.size w w' := by
  have HL := Lib.hid (l11Lists_any A c xss.length xss w rfl hr hn)
  have HF : Hid (fitB xss o ob = (scB xss && (ordB ((xss.getD 0 []).length : Int) o && isObj ob))) := rfl
  have HR := Lib.hid hr
  have HQ := Lib.hid hq
  clear hr hq
  cases hs : scB xss
  · rw [hs] at HL HF
    go_enter Try.func71, Try.ntmps71
    go_wp2_with fail
    refine HL.out.mono ?_
    rintro e w1 ⟨rfl, hb1⟩
    have HB := Lib.hid hb1
    clear hb1
    go_wp2
    go_ret
    exact ⟨by rw [HF.out]; rfl, HB.out⟩
  · have hx := (sc_out hs).1
    rw [hs] at HL HF
    have hz1 : (0 : Int) < xss.length := by omega
    have hnil : ¬ xss = [] := fun h => by rw [h] at hx; simp at hx
    go_enter Try.func71, Try.ntmps71
    go_wp2_with fail
    refine HL.out.mono ?_
    rintro e w1 ⟨rfl, hb1⟩
    obtain ⟨ad, B0, d0, rfl, _, hc, _, _⟩ := (HR.out.below hb1).at_ (k := 0) (by omega)
    rw [show ad.add 0 = ad from rfl] at hc
    have hg0 : xss.getD 0 [] = xss[0] := by simp [List.getD, show 0 < xss.length by omega]
    rw [hg0] at HF
    have HO := Lib.hid (l2Order_any (xss[0].length : Int) C d o w1 (HQ.out.below hb1) (by omega))
    have HOB := Lib.hid (fun W => l2Objective_any ob W)
    have HB := Lib.hid hb1
    clear hb1 HL hg0
    generalize xss[0].length = L0 at *
    cases ho : ordB (L0 : Int) o
    · rw [ho] at HO HF
      clear ho
      go_wp2_with fail
      refine HO.out.mono ?_
      rintro e _ ⟨rfl, rfl⟩
      go_wp2
      go_ret
      exact ⟨by rw [HF.out]; rfl, HB.out⟩
    · rw [ho] at HO HF
      clear ho
      go_wp2_with fail
      refine HO.out.mono ?_
      rintro e _ ⟨rfl, rfl⟩
      go_wp2_with fail
      refine (HOB.out _).mono ?_
      rintro e _ ⟨rfl, rfl⟩
      go_wp2
      go_ret
      exact ⟨by rw [HF.out]; rfl, HB.out⟩
set_option maxRecDepth 100000 in
set_option maxHeartbeats 4000000 in
theorem l11Values_any (ht : fitB xss o ob = true) : Calls Try.prog 72 #[.slice A xss.length c, .slice C o.length d, .int .i64 ob] w fun e w' => ∃ v, e = .returned v ∧ w'.ownsRow w.heap.size 3 1 v xss.length (ic (svL xss o ob xss.length)) ∧ Below w.heap.size w w' := by
  obtain ⟨hs, hor, hob, htw⟩ := fit_out ht
  have hx := (sc_out hs).1
  have HTW := Lib.hid htw
  have HSU := Lib.hid (fun k hk => @svL_succ xss o ob k hk)
  obtain ⟨i0, hi, hzz0, hzz1, hzz2⟩ := info_partsG infoG1
  have HINF := Lib.hid (And.intro hi (And.intro hzz0 (And.intro hzz1 hzz2)))
  have hb0 := (Below.refl w.heap.size w).alloc (Nat.le_refl _) (.cells #[] 3)
  have H0 := Lib.hid (And.intro (World.ownsRow_made (e := 3) (size := 1) w #[] 0 (Nat.le_refl _) (by unfold maxLen; omega) rfl) hb0)
  have HR := Lib.hid hr
  have HQ := Lib.hid hq
  clear hr hq hi hzz0 hzz1 hzz2 hb0 hs hor htw ht
  go_enter Try.func72, Try.ntmps72
  go_wp2
  go_loopw [7, 8] (fun ov iv wr => ∃ k : Nat, k ≤ xss.length ∧ iv = .int .i64 (k : Int) ∧ Hid (wr.ownsRow w.heap.size 3 1 ov k (ic (svL xss o ob k)) ∧ Below w.heap.size w wr)) (fun _ iv _ => xss.length - (intOf iv).toNat)
  case atStart => exact ⟨0, Nat.zero_le _, rfl, H0.out⟩
  case round =>
    obtain ⟨k, hk, rfl, HK⟩ := hrel
    clear H0
    by_cases hlt : k < xss.length
    · have hk0 : (0 : Int) ≤ k := by omega
      have hk1 : (k : Int) < xss.length := by omega
      have hk4 : (k : Int) ≤ 4 := by omega
      obtain ⟨ad, B, dd, rfl, _, hc, hrow, _⟩ := (HR.out.below HK.out.2).at_ hlt
      have HC := Lib.hid (l2ValueS_any B C dd d xss[k] o ob wr hrow (HQ.out.below HK.out.2) (HTW.out k hlt) hob)
      have HS := Lib.hid (HSU.out k hlt)
      clear hrow
      generalize xss[k].length = L at *
      generalize partV ob xss[k] (natsOf o) = pv at *
      go_wp2_with fail
      refine HC.out.mono ?_
      rintro e w2 ⟨rfl, hb2⟩
      have HK2 := Lib.hid (And.intro (own_blw HK.out.1 hb2) (HK.out.2.trans (hb2.mono HK.out.2.size)))
      have hsz2 := HK2.out.2.size
      obtain ⟨v', w', hrun, ho', hkp, _⟩ := app_1G (g := w2.heap.size) Try.underlying39 HINF.out.1 HINF.out.2.1 HINF.out.2.2.1 HINF.out.2.2.2 rfl (by decide) #[.int .i64 pv] HK2.out.1 rfl rfl (by intro u hu; simp at hu; subst hu; rfl) (by omega) (by omega) (by omega)
      have hcs : ic (svL xss o ob k) ++ (#[Value.int .i64 pv] : Array Value).toList = ic (svL xss o ob (k + 1)) := by
        rw [HS.out, ← ic_appG]
        rfl
      rw [hcs] at ho'
      have HO' := Lib.hid (And.intro ho' (hkp w w.heap.size (Nat.le_refl _) HK2.out.2))
      have HRUN := Lib.hid hrun
      clear ho' hkp hrun hcs HK HK2 hb2 hsz2 HS HC
      go_wp2_with (at_builtin; refine wpList_appG9 rfl _ _ _ rfl _ _ _ rfl rfl HRUN.out ?_; clear HRUN)
      go_roundw
      case rel => exact ⟨k + 1, by omega, by go_num, HO'.out⟩
      case measure => simp [intOf]; omega
    · obtain rfl : k = xss.length := by omega
      go_wp2
      go_ret
      exact ⟨_, rfl, HK.out.1, HK.out.2⟩
omit hr hq hn hm in
theorem ret_svT {w w' : World} {r : List Int × Bool} {p : List Int} {n : Nat} {v : Value} (hr : r = (p, true)) (hn : p.length = n) (h0 : 0 < n) (ho : w'.ownsRow w.heap.size 3 1 v n (ic p)) (hb : Below w.heap.size w w') (e : Ending) (he : e = .returned (.tuple #[v, .bool true])) : RetIT w r e w' := by
  subst hr hn
  obtain ⟨A, c, rfl, hle, _⟩ := own_slice ho
  subst he
  exact ⟨A, c, rfl, seg_t ho h0, hb⟩
set_option maxRecDepth 100000 in
set_option maxHeartbeats 4000000 in
theorem spec_ScenarioValues : Calls Try.prog 38 #[.slice A xss.length c, .slice C o.length d, .int .i64 ob] w (RetIT w (svR xss o ob)) := by
  have HF := Lib.hid (l11Fits_any A C c d xss o ob w hr hq hn hm)
  have HR := Lib.hid hr
  have HQ := Lib.hid hq
  clear hr hq
  cases hf : fitB xss o ob
  · rw [hf] at HF
    have HV := Lib.hid (sv_no hf)
    clear hf
    go_enter Try.func38, Try.ntmps38
    go_wp2_with fail
    refine HF.out.mono ?_
    rintro e w1 ⟨rfl, hb1⟩
    have HB := Lib.hid hb1
    clear hb1
    go_wp2
    go_ret2
    exact ret_emptyT HV.out HB.out _ rfl
  · rw [hf] at HF
    have HV := Lib.hid (sv_yes hf)
    have hx := (sc_out (fit_out hf).1).1
    have HLN := Lib.hid (svL_len xss o ob (Nat.le_refl xss.length))
    have HVA := Lib.hid (fun W (hb : Below w.heap.size w W) => l11Values_any A C c d xss o ob W (HR.out.below hb) (HQ.out.below hb) hn hm hf)
    clear hf
    go_enter Try.func38, Try.ntmps38
    go_wp2_with fail
    refine HF.out.mono ?_
    rintro e w1 ⟨rfl, hb1⟩
    have HB := Lib.hid hb1
    have HV1 := Lib.hid (HVA.out w1 hb1)
    clear hb1 HVA
    go_wp2_with fail
    refine HV1.out.mono ?_
    rintro e w2 ⟨v, rfl, ho, hb2⟩
    have HX := Lib.hid (And.intro (own_low ho HB.out.size) (HB.out.trans (hb2.mono HB.out.size)))
    clear ho hb2 HV1
    go_wp2
    go_ret2
    exact ret_svT HV.out HLN.out (by omega) HX.out.1 HX.out.2 _ rfl
end
end Go.Proofs.Ytjemjdlaoebffaa
