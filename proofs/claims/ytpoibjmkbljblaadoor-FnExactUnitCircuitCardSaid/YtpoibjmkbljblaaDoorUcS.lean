/- UnitCircuit: the model's. -/
import Derived.Test.YtpoibjmkbljblaaDoorUgP
import Derived.Test.YtpoibjmkbljblaaDoorUrS
import Derived.Test.YtpoibjmkbljblaaDoorPtr
import Derived.Test.YtpoibjmkbljblaaDoorRss
import Derived.Test.YtpoibjmkbljblaaDoorSegH
namespace Go.Proofs.YtpoibjmkbljblaaDoor
set_option linter.unusedSimpArgs false
set_option linter.unusedVariables false
set_option linter.unusedSectionVars false
open Go.RowKit
theorem ret_ownC {w w' : World} {r : List Int × Bool} {p : List Nat} {v : Value} {n : Nat} {b : Bool} (hr : r = (natI p, b)) (hn : p.length = n) (ho : w'.ownsRow w.heap.size 3 1 v n (ic (natI p))) (hb : Below w.heap.size w w') (e : Ending) (he : e = .returned (.tuple #[v, .bool b])) : RetIB w r e w' := by
  subst hr hn
  obtain ⟨A, c, rfl, hs⟩ := seg_out ho
  subst he
  refine ⟨A, c, by rw [List.length_map], ?_, hb⟩
  rw [List.length_map]
  exact hs
theorem row_subC {w : World} {ad : Addr} {xs : List Int} {l n : Nat} (hr : Row w (some ad) (ic xs)) (hn : l + n ≤ xs.length) : Row w (some (ad.add l)) (ic ((xs.drop l).take n)) := by
  intro h0
  rw [ic_len, List.length_take, List.length_drop] at h0
  obtain ⟨a', h1, h2, h3⟩ := hr (by rw [ic_len]; omega)
  obtain rfl := Option.some.inj h1
  refine ⟨_, rfl, by rw [add_block]; exact h2, fun j u hu => ?_⟩
  rw [Addr.add_add]
  refine h3 (l + j) u ?_
  have hj : j < ((xs.drop l).take n).length := by have := (List.getElem?_eq_some_iff.1 hu).1; rwa [ic_len] at this
  rw [List.length_take] at hj
  unfold ic at hu ⊢
  rw [List.getElem?_map, List.getElem?_take, if_pos (by omega), List.getElem?_drop] at hu
  rw [List.getElem?_map]; exact hu
/-- A set of unit jobs is independent. -/
def freeB (js : List J) (s : List Int) : Bool := ((unitB js && plainL js) && risL js.length s) && timB js (numS s)
def cirOk (js : List J) (s : List Int) (j : Int) : Bool := freeB js s && (decide (0 ≤ j ∧ j ≤ (js.length : Int) - 1) && (!hasI s j && !timB js (addB (numS s) j.toNat)))
def cirW (js : List J) (s : List Int) (j : Int) : List Int × Bool := if cirOk js s j then (natI (memB (cirM js (numS s) j.toNat)), true) else ([], false)
theorem cirW_len (js : List J) (s : List Int) (j : Int) : (cirW js s j).1.length ≤ 8 := by
  unfold cirW
  split
  · show (natI _).length ≤ 8
    unfold natI; rw [List.length_map]; exact memB_len _
  · exact Nat.zero_le _
theorem cirW_no {js : List J} {s : List Int} {j : Int} (h : cirOk js s j = false) : cirW js s j = ([], false) := by unfold cirW; rw [h]; rfl
theorem none_one : ∀ s, s < 256 → ∀ x, x < 8 → (memB s).filter (fun y => !decide (y = x)) = memB (subB s x) := by decide +kernel
theorem noneOf_one {s x : Nat} (hs : s < 256) (hx : x < 8) : noneOf (natI (memB s)) [(x : Int)] = natI (memB (subB s x)) := by
  rw [← none_one s hs x hx]
  unfold noneOf natI
  rw [List.filter_map]
  congr 1
  apply List.filter_congr
  intro y _
  show (!hasI [(x : Int)] (y : Int)) = _
  unfold hasI
  by_cases h : y = x
  · subst h; simp
  · have : ¬ (y : Int) = x := by omega
    simp [h, this]
theorem memB_one : ∀ j, j < 8 → memB (addB 0 j) = [j] := by decide +kernel
theorem putW_take (P : Nat → Bool) (c : Nat) {l : List Nat} {k : Nat} (hk : k < l.length) : putW P c (l.take (k + 1)) = if P l[k] then addB (putW P c (l.take k)) l[k] else putW P c (l.take k) := by
  rw [List.take_succ_eq_append_getElem hk, putW_snoc]
section
variable (A B : Option Addr) (c d : Nat) (js : List J) (s : List Int) (w : World) (hr : Row w A (jc js)) (hq : Row w B (ic s)) (hn : js.length ≤ 10000000) (hm : s.length ≤ 10000000)
include hr hq hn hm
set_option maxRecDepth 100000 in
theorem l10Free_any : Calls Tryd.prog 77 #[.slice A js.length c, .slice B s.length d] w fun e w' => e = .returned (.bool (freeB js s)) ∧ Below w.heap.size w w' := by
  have HR : Hid (freeB js s = (((unitB js && plainL js) && risL js.length s) && timB js (numS s))) := rfl
  cases hp : unitB js && plainL js
  · rw [hp] at HR
    go_enter Tryd.func77, Tryd.ntmps77
    go_wp2_with fail
    refine (l10Unit_any A c js _ hr (by omega)).mono ?_
    rintro e1 w1 ⟨rfl, hb1⟩
    rw [hp]
    go_wp2
    go_ret
    exact ⟨by rw [HR.out]; rfl, hb1⟩
  · rw [hp] at HR
    have hpl : plainL js = true := (Bool.and_eq_true_iff.1 hp).2
    cases hs : risL js.length s
    · rw [hs] at HR
      go_enter Tryd.func77, Tryd.ntmps77
      go_wp2_with fail
      refine (l10Unit_any A c js _ hr (by omega)).mono ?_
      rintro e1 w1 ⟨rfl, hb1⟩
      rw [hp]
      go_wp2_with fail
      refine (l6Set_any A B c d js s w1 (hq.below hb1) hn hm).mono ?_
      rintro e1 w2 ⟨rfl, m, rfl⟩
      rw [hs]
      have HB := Lib.hid (below_drewN hb1 m)
      clear hb1
      go_wp2
      go_ret
      exact ⟨by rw [HR.out]; rfl, HB.out⟩
    · rw [hs] at HR
      obtain ⟨h8, hok⟩ := good_out (plain_good hpl)
      have h0 := plain_zero hpl
      have hs8 := ris8 hs h8
      have hnm := numS_mem hs8
      have hlm : (memB (numS s)).length = s.length := by
        conv => rhs; rw [← hnm]
        unfold natI; rw [List.length_map]
      have hin : ∀ x ∈ memB (numS s), x < js.length := fun x hx => numS_in hs h8 ((memB_mem (numS_lt hs8)).1 hx)
      have HQ : Hid (∀ w' : World, Below w.heap.size w w' → Calls Tryd.prog 73 #[.slice A js.length c, .slice B s.length d] w' fun e1 w3 => e1 = .returned (.bool (timB js (numS s))) ∧ Below w'.heap.size w' w3) := fun w' hb => by
        have h := l6Timely_any A B c d js (memB (numS s)) w' (hr.below hb) (by rw [hnm]; exact hq.below hb) hin (memB_len _) (fun j hj => by have := okJ_out (hok j hj); omega)
        rw [timly_lat hok h0 (memB (numS s)) hin, hlm] at h
        exact h
      clear hnm hlm hin hs8 hok h0
      go_enter Tryd.func77, Tryd.ntmps77
      go_wp2_with fail
      refine (l10Unit_any A c js _ hr (by omega)).mono ?_
      rintro e1 w1 ⟨rfl, hb1⟩
      rw [hp]
      go_wp2_with fail
      refine (l6Set_any A B c d js s w1 (hq.below hb1) hn hm).mono ?_
      rintro e1 w2 ⟨rfl, m, rfl⟩
      rw [hs]
      have HB := Lib.hid (below_drewN hb1 m)
      clear hb1
      go_wp2_with fail
      refine (HQ.out _ HB.out).mono ?_
      rintro e1 w3 ⟨rfl, hb3⟩
      have HB3 := Lib.hid (HB.out.trans (hb3.mono HB.out.size))
      clear hb3
      go_wp2
      go_ret
      exact ⟨by rw [HR.out]; rfl, HB3.out⟩
end
section
variable (A : Option Addr) (bd : Addr) (c d : Nat) (js : List J) (s : List Int) (jb : Int) (w : World) (hr : Row w A (jc js)) (hq : Row w (some bd) (ic s)) (hn : js.length ≤ 10000000) (hm : s.length ≤ 10000000 ∧ s.length ≤ d)
include hr hq hn hm
set_option maxRecDepth 100000 in
set_option maxHeartbeats 4000000 in
theorem spec_UnitCircuit : Calls Tryd.prog 35 #[.slice A js.length c, .slice (some bd) s.length d, .int .i64 jb] w (RetIB w (cirW js s jb)) := by
  have HFR := Lib.hid (l10Free_any A (some bd) c d js s w hr hq hn hm.1)
  have HCO : Hid (cirOk js s jb = (freeB js s && (decide (0 ≤ jb ∧ jb ≤ (js.length : Int) - 1) && (!hasI s jb && !timB js (addB (numS s) jb.toNat))))) := rfl
  have hin9 : IntKind.i64.wrap ((js.length : Int) - 1) = (js.length : Int) - 1 := IntWalk.i64_in _ (by omega)
  cases hf : freeB js s
  · have HR := Lib.hid (cirW_no (js := js) (s := s) (j := jb) (by rw [HCO.out, hf]; rfl))
    rw [hf] at HFR
    go_enter Tryd.func35, Tryd.ntmps35
    go_wp2_with fail
    refine HFR.out.mono ?_
    rintro e w1 ⟨rfl, hb1⟩
    go_wp2
    go_ret2
    exact ret_empty HR.out hb1 _ rfl
  · rw [hf] at HFR
    have hff := hf
    unfold freeB at hff
    obtain ⟨h123, htm⟩ := Bool.and_eq_true_iff.1 hff
    obtain ⟨h12, hs⟩ := Bool.and_eq_true_iff.1 h123
    have hpl : plainL js = true := (Bool.and_eq_true_iff.1 h12).2
    obtain ⟨h8, hok⟩ := good_out (plain_good hpl)
    have h0 := plain_zero hpl
    cases hj : decide (0 ≤ jb ∧ jb ≤ (js.length : Int) - 1)
    · have HR := Lib.hid (cirW_no (js := js) (s := s) (j := jb) (by rw [HCO.out, hf, hj]; rfl))
      have hji : inB jb 0 ((js.length : Int) - 1) = false := hj
      go_enter Tryd.func35, Tryd.ntmps35
      go_wp2_with fail
      refine HFR.out.mono ?_
      rintro e w1 ⟨rfl, hb1⟩
      clear h0 hok hff h123 h12
      go_wp2_with fail
      refine (l1In_any jb 0 _ _).mono ?_
      rintro e _ ⟨rfl, rfl⟩
      rw [hji]
      go_wp2
      go_ret2
      exact ret_empty HR.out hb1 _ rfl
    · have hji : inB jb 0 ((js.length : Int) - 1) = true := hj
      obtain ⟨hj0, hj1⟩ := of_decide_eq_true hj
      cases hh : hasI s jb
      · obtain ⟨j, rfl⟩ : ∃ j : Nat, jb = (j : Int) := ⟨jb.toNat, by omega⟩
        have hj8 : j < js.length := by omega
        have hs8 := ris8 hs h8
        have hsl := numS_lt hs8
        have hnm := numS_mem hs8
        have hlm : (memB (numS s)).length = s.length := by
          conv => rhs; rw [← hnm]
          unfold natI; rw [List.length_map]
        have hbt : ∀ k, (numS s).testBit k = true → k < js.length := fun k hk => numS_in hs h8 hk
        have hnj : j ∉ memB (numS s) := fun h => by
          have : hasI s (j : Int) = true := hasI_yes (by rw [← hnm]; exact List.mem_map.2 ⟨j, h, rfl⟩)
          rw [hh] at this; cases this
        have HTI := Lib.hid (fun (σ : Nat) (hs : σ < 256) (hlt : ∀ k, σ.testBit k = true → k < js.length) (X : Option Addr) (cx : Nat) (W : World) (hb : Below w.heap.size w W) (hx : Row W X (ic (natI (memB σ)))) => by
          have h := l6Timely_any A X c cx js (memB σ) W (hr.below hb) hx (fun x hx => hlt x ((memB_mem hs).1 hx)) (memB_len σ) (fun j hj => by have := okJ_out (hok j hj); omega)
          rw [timly_lat hok h0 (memB σ) (fun x hx => hlt x ((memB_mem hs).1 hx))] at h
          exact (show Calls Tryd.prog 73 #[.slice A js.length c, .slice X (memB σ).length cx] W fun e w' => e = .returned (.bool (timB js σ)) ∧ Below W.heap.size W w' from h))
        have HPUT : Hid (∀ W, Below w.heap.size w W → Calls Tryd.prog 72 #[.slice (some bd) s.length d, .int .i64 (j : Int)] W fun e w' => ∃ ad' c', e = .returned (.slice (some ad') (memB (addB (numS s) j)).length c') ∧ w'.ownsRow W.heap.size 3 1 (.slice (some ad') (memB (addB (numS s) j)).length c') (memB (addB (numS s) j)).length (ic (natI (memB (addB (numS s) j)))) ∧ Below W.heap.size W w') := fun W hb => by
          have h := l1Put_row bd d (memB (numS s)) j W (by rw [hnm]; exact hq.below hb) (by rw [hlm]; exact hm.2) hnj (memB_strict _) (by have := memB_len (numS s); omega)
          rw [putN_memB (numS s) hsl j (by omega), hlm] at h
          exact h
        have HQ := Lib.hid hq
        have hta := addB_lt8 (numS s) hsl j (by omega)
        have HTJ := Lib.hid (HTI.out (addB (numS s) j) hta (add_bit hsl hj8 h8 hbt))
        cases ht : timB js (addB (numS s) j)
        · have HR : Hid (cirW js s (j : Int) = (natI (memB (cirM js (numS s) j)), true)) := by
            show _ = _
            unfold cirW
            rw [HCO.out, hf, hj, hh]
            show (if (!timB js (addB (numS s) j)) = true then _ else _) = _
            rw [ht]; rfl
          rw [ht] at HTJ
          have HLM := Lib.hid hlm
          have hls8 : s.length ≤ 8 := by have := memB_len (numS s); omega
          have HXS : Hid (∀ k (hk : k < s.length), ∃ hk2 : k < (memB (numS s)).length, s[k] = (((memB (numS s))[k] : Nat) : Int) ∧ (memB (numS s))[k] < js.length ∧ List.take 1 (List.drop k (natI (memB (numS s)))) = [(((memB (numS s))[k] : Nat) : Int)]) := fun k hk => by
            have hk2 : k < (memB (numS s)).length := by omega
            refine ⟨hk2, ?_, hbt _ ((memB_mem hsl).1 (List.getElem_mem hk2)), ?_⟩
            · have e : s[k] = (natI (memB (numS s)))[k]'(by unfold natI; rw [List.length_map]; exact hk2) := by
                congr 1; exact hnm.symm
              rw [e]; unfold natI; rw [List.getElem_map]; rfl
            · have hk3 : k < (natI (memB (numS s))).length := by unfold natI; rw [List.length_map]; exact hk2
              rw [List.drop_eq_getElem_cons hk3]
              simp [natI]
          have HSUB : Hid (∀ x, x < js.length → subB (numS s) x < 256 ∧ ∀ k, (subB (numS s) x).testBit k = true → k < js.length) := fun x hx => by
            have h1 := sub_lt8 (numS s) hsl x (by omega)
            refine ⟨h1, fun k hk => ?_⟩
            have hk8 := bit8 h1 hk
            rw [sub_bit _ hsl x (by omega) k hk8, Bool.and_eq_true] at hk
            exact hbt k hk.1
          have HPO := Lib.hid (fun k => putW_ok (P := fun i => timB js (addB (subB (numS s) i) j)) ((memB (numS s)).take k) (addB 0 j) (addB_lt8 0 (by omega) j (by omega)) (fun x hx => mem8 _ x (List.mem_of_mem_take hx)))
          have HPT := Lib.hid (fun k (hk : k < (memB (numS s)).length) => putW_take (fun i => timB js (addB (subB (numS s) i) j)) (addB 0 j) hk)
          have HNO := Lib.hid (fun x (hx : x < 8) => noneOf_one (s := numS s) hsl hx)
          rw [hnm] at HNO
          have HCM : Hid (cirM js (numS s) j = putW (fun i => timB js (addB (subB (numS s) i) j)) (addB 0 j) ((memB (numS s)).take s.length)) := by show _ = _; rw [← hlm, List.take_length]; rfl
          have HP0 : Hid (memB (putW (fun i => timB js (addB (subB (numS s) i) j)) (addB 0 j) ((memB (numS s)).take 0)) = [j]) := memB_one j (by omega)
          have HRS := Lib.hid hnm
          have hdm := hm.2
          clear hff h123 h12 hok h0 htm hbt hnj hs8 hsl hta hpl hs hf hj HCO ht hlm hnm
          generalize hPW : (fun i => timB js (addB (subB (numS s) i) j)) = PW at *
          have HPW : Hid (∀ i, PW i = timB js (addB (subB (numS s) i) j)) := fun i => by rw [← hPW]
          clear hPW
          generalize memB (numS s) = l at *
          go_enter Tryd.func35, Tryd.ntmps35
          go_wp2_with fail
          refine HFR.out.mono ?_
          rintro e w1 ⟨rfl, hb1⟩
          have HB1 := Lib.hid hb1
          have HHS := Lib.hid (l1Has_any (some bd) d s (j : Int) w1 (hq.below hb1) (by omega))
          have HC1 := Lib.hid (HPUT.out w1 hb1)
          rw [hh] at HHS
          clear hb1 HPUT HFR hh
          go_wp2_with fail
          refine (l1In_any (j : Int) 0 _ _).mono ?_
          rintro e _ ⟨rfl, rfl⟩
          rw [hji]
          go_wp2_with fail
          refine HHS.out.mono ?_
          rintro e _ ⟨rfl, rfl⟩
          go_wp2_with fail
          refine HC1.out.mono ?_
          rintro e w2 ⟨ad', c', rfl, ho2, hb2⟩
          have hbb := HB1.out.trans (hb2.mono HB1.out.size)
          have HC2 := Lib.hid (HTJ.out (some ad') c' w2 hbb (Row.of_own ho2))
          have HB2 := Lib.hid hbb
          clear ho2 hb2 hbb HC1 HTJ HHS
          go_wp2_with fail
          refine HC2.out.mono ?_
          rintro e w3 ⟨rfl, hb3⟩
          have hb3w := HB2.out.trans (hb3.mono HB2.out.size)
          have H3 := Lib.hid (And.intro ((BlockIs.new w3 3 #[.int .i64 (j : Int)]).own (base := w.heap.size) (n := 1) (c := 1) (size := 1) hb3w.size rfl (Nat.le_refl _) (by unfold maxLen; omega) (Nat.le_refl _)) (hb3w.alloc hb3w.size (.cells #[.int .i64 (j : Int)] 3)))
          clear hb3 hb3w HC2 HB1 HB2
          go_wp2
          go_loopw [8, 9] (fun v iv wr => ∃ (k : Nat) (ad : Addr) (cc : Nat), k ≤ s.length ∧ v = .slice (some ad) (memB (putW PW (addB 0 j) (l.take k))).length cc ∧ iv = .int .i64 (k : Int) ∧ Hid (wr.ownsRow w.heap.size 3 1 (.slice (some ad) (memB (putW PW (addB 0 j) (l.take k))).length cc) (memB (putW PW (addB 0 j) (l.take k))).length (ic (natI (memB (putW PW (addB 0 j) (l.take k))))) ∧ Below w.heap.size w wr)) (fun _ iv _ => s.length - (intOf iv).toNat)
          case atStart =>
            refine ⟨0, ⟨w3.heap.size, 0, none⟩, 1, Nat.zero_le _, ?_, rfl, ?_⟩
            · rw [HP0.out]; rfl
            · rw [HP0.out]; exact Lib.hid ⟨H3.out.1, H3.out.2⟩
          case round =>
            obtain ⟨k, ad, cc, hk, rfl, rfl, HI⟩ := hrel
            clear H3
            by_cases hlt : k < s.length
            · obtain ⟨hk2, hsx, hxn, htk⟩ := HXS.out k hlt
              have htk : ((natI l).drop k).take 1 = [((l[k] : Nat) : Int)] := htk
              have hk0 : (0 : Int) ≤ k := by omega
              have hk1 : (k : Int) < s.length := by omega
              have hkd : k + 1 ≤ d := by omega
              have hkd2 : (k : Int) + 1 ≤ (d : Int) := by omega
              have hdk : ¬ d = k := by omega
              have hx8 : l[k] < 8 := by omega
              have hrs : Row wr (some bd) (ic s) := HQ.out.below HI.out.2
              obtain ⟨bd', hbd, hcx⟩ := hrs.int hlt
              obtain rfl := Option.some.inj hbd
              have hrx : Row wr (some (bd.add k)) (ic [((l[k] : Nat) : Int)]) := by
                have h := row_subC (xs := natI l) (l := k) (n := 1) (by rw [HRS.out]; exact hrs) (by rw [show (natI l).length = l.length by unfold natI; rw [List.length_map]]; omega)
                rw [htk] at h
                exact h
              rw [hsx] at hcx
              have HRE := Lib.hid (l4Rest_some (some bd) (some (bd.add k)) d (d - k) s [((l[k] : Nat) : Int)] wr hrs hrx (by omega) (by simp))
              rw [HNO.out _ hx8] at HRE
              obtain ⟨hsb, hsbt⟩ := HSUB.out _ hxn
              have HT3 := Lib.hid (HTI.out (addB (subB (numS s) l[k]) j) (addB_lt8 _ hsb j (by omega)) (add_bit hsb hj8 h8 hsbt))
              have HPWK := Lib.hid (HPW.out l[k])
              have HPTK := Lib.hid (HPT.out k hk2)
              have hpo := (HPO.out k).1
              clear HXS HNO HSUB HTI HPW HPT HPO htk hrs hrx hsx
              rw [← HPWK.out] at HT3 HPTK
              generalize PW l[k] = pw at *
              generalize putW PW (addB 0 j) (l.take k) = o at *
              generalize l[k] = x at *
              have hls1 : ([((x : Nat) : Int)] : List Int).length = 1 := rfl
              rw [hls1] at HRE
              clear hls1
              rw [show (natI (memB (subB (numS s) x))).length = (memB (subB (numS s) x)).length from natI_len _] at HRE
              obtain ⟨sb, hsbe⟩ : ∃ sb, subB (numS s) x = sb := ⟨_, rfl⟩
              rw [hsbe] at HRE HT3 hsb
              clear hsbe hsbt
              have HCB := Lib.hid hcx
              go_wp2_with fail
              refine HRE.out.mono ?_
              rintro e w4 ⟨a4, c4, rfl, ho4, hb4⟩
              have hP := l1Put_any a4 c4 wr.heap.size (memB sb) j w4 ho4 (memB_strict sb) (by have := memB_len sb; omega) hb4.size
              rw [putN_memB sb hsb j (by omega)] at hP
              have HP := Lib.hid hP
              have H4 := Lib.hid (And.intro (own_blw HI.out.1 hb4) (HI.out.2.trans (hb4.mono HI.out.2.size)))
              have HW4 := Lib.hid hb4
              obtain ⟨sj, hsj⟩ : ∃ sj, addB sb j = sj := ⟨_, rfl⟩
              rw [hsj] at HP HT3
              clear hP ho4 hb4 HRE hsj hcx HI
              go_wp2_with fail
              refine HP.out.mono ?_
              rintro e w5 ⟨a5, c5, rfl, ho5, hb5⟩
              have H5 := Lib.hid (And.intro (own_blw H4.out.1 hb5) (H4.out.2.trans (hb5.mono H4.out.2.size)))
              have HW5 := Lib.hid (HW4.out.trans (hb5.mono HW4.out.size))
              have HC5 := Lib.hid (HT3.out (some a5) c5 w5 H5.out.2 (Row.of_own ho5))
              clear ho5 hb5 HP HT3 H4 HW4
              cases pw
              · have HPN : Hid (putW PW (addB 0 j) (l.take (k + 1)) = o) := HPTK.out
                go_wp2_with fail
                refine HC5.out.mono ?_
                rintro e w6 ⟨rfl, hb6⟩
                have H6 := Lib.hid (And.intro (own_blw H5.out.1 hb6) (H5.out.2.trans (hb6.mono H5.out.2.size)))
                clear hb6 HC5 H5 HW5
                go_wp2
                go_roundw
                case rel => exact ⟨k + 1, ad, cc, by omega, by rw [HPN.out], by go_num, by rw [HPN.out]; exact H6⟩
                case measure => simp [intOf]; omega
              · have HPN : Hid (putW PW (addB 0 j) (l.take (k + 1)) = addB o x) := HPTK.out
                go_wp2_with fail
                refine HC5.out.mono ?_
                rintro e w6 ⟨rfl, hb6⟩
                have H6 := Lib.hid (And.intro (own_blw H5.out.1 hb6) (H5.out.2.trans (hb6.mono H5.out.2.size)))
                have hw6 := HW5.out.trans (hb6.mono HW5.out.size)
                have hcx : w6.cell? (bd.add k) = some (.int .i64 (x : Int)) := (hw6.cell (p := bd.add k) (lt_of_cell HCB.out)).trans HCB.out
                have hP := l1Put_any ad cc w.heap.size (memB o) x w6 H6.out.1 (memB_strict o) (by have := memB_len o; omega) H6.out.2.size
                rw [putN_memB o hpo x hx8, ← HPN.out] at hP
                have HP := Lib.hid hP
                clear hb6 HC5 H5 HW5 hw6 hP
                go_wp2_with fail
                refine HP.out.mono ?_
                rintro e w7 ⟨a7, c7, rfl, ho7, hb7⟩
                have H7 := Lib.hid (And.intro ho7 (H6.out.2.trans (hb7.mono H6.out.2.size)))
                clear ho7 hb7 HP H6
                go_wp2
                go_roundw
                case rel => exact ⟨k + 1, a7, c7, by omega, rfl, by go_num, H7⟩
                case measure => simp [intOf]; omega
            · obtain rfl : k = s.length := by omega
              have HR2 := Lib.hid (HR.out.trans (by rw [HCM.out]))
              clear HR
              go_wp2
              go_ret2
              exact ret_ownC HR2.out rfl HI.out.1 HI.out.2 _ rfl
        · have HR := Lib.hid (cirW_no (js := js) (s := s) (j := (j : Int)) (by rw [HCO.out, hf, hj, hh]; show (!timB js (addB (numS s) j)) = false; rw [ht]; rfl))
          rw [ht] at HTJ
          clear hff h123 h12 hok h0 htm hbt hnj hs8 hnm hsl hta HTI hpl hs hf hj HCO ht
          go_enter Tryd.func35, Tryd.ntmps35
          go_wp2_with fail
          refine HFR.out.mono ?_
          rintro e w1 ⟨rfl, hb1⟩
          have HB1 := Lib.hid hb1
          have HHS := Lib.hid (l1Has_any (some bd) d s (j : Int) w1 (hq.below hb1) (by omega))
          have HC1 := Lib.hid (HPUT.out w1 hb1)
          rw [hh] at HHS
          clear hb1 HPUT HFR hh
          go_wp2_with fail
          refine (l1In_any (j : Int) 0 _ _).mono ?_
          rintro e _ ⟨rfl, rfl⟩
          rw [hji]
          go_wp2_with fail
          refine HHS.out.mono ?_
          rintro e _ ⟨rfl, rfl⟩
          go_wp2_with fail
          refine HC1.out.mono ?_
          rintro e w2 ⟨ad', c', rfl, ho2, hb2⟩
          have hbb := HB1.out.trans (hb2.mono HB1.out.size)
          have HC2 := Lib.hid (HTJ.out (some ad') c' w2 hbb (Row.of_own ho2))
          have HB2 := Lib.hid hbb
          clear ho2 hb2 hbb HC1 HTJ
          go_wp2_with fail
          refine HC2.out.mono ?_
          rintro e w3 ⟨rfl, hb3⟩
          have HB3 := Lib.hid (HB2.out.trans (hb3.mono HB2.out.size))
          clear hb3 HC2
          go_wp2
          go_ret2
          exact ret_empty HR.out HB3.out _ rfl
      · have HR := Lib.hid (cirW_no (js := js) (s := s) (j := jb) (by rw [HCO.out, hf, hj, hh]; rfl))
        go_enter Tryd.func35, Tryd.ntmps35
        go_wp2_with fail
        refine HFR.out.mono ?_
        rintro e w1 ⟨rfl, hb1⟩
        have HHS := Lib.hid (l1Has_any (some bd) d s jb w1 (hq.below hb1) (by omega))
        rw [hh] at HHS
        clear h0 hok hff h123 h12 hh
        go_wp2_with fail
        refine (l1In_any jb 0 _ _).mono ?_
        rintro e _ ⟨rfl, rfl⟩
        rw [hji]
        go_wp2_with fail
        refine HHS.out.mono ?_
        rintro e _ ⟨rfl, rfl⟩
        go_wp2
        go_ret2
        exact ret_empty HR.out hb1 _ rfl
end
end Go.Proofs.YtpoibjmkbljblaaDoor
