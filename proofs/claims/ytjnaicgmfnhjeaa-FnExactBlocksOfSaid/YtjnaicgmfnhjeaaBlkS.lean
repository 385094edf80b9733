/- Blocks: the model's. -/
import Derived.Test.YtjnaicgmfnhjeaaBlkO
import Derived.Deep.QuietTactic
import Derived.BigQuiet
namespace Go.Proofs.Ytjnaicgmfnhjeaa
open Go.RowKit
/-- What lies in memory between two rounds. -/
def BlkInv (w w3 : World) (gS gE : Nat) (js : List J) (p : List Nat) (vs : List (Option Addr × Nat)) (v : Value) (css : List (List Value)) (wr : World) : Prop :=
  OwnV vs w.heap.size w3.heap.size wr v css ∧ Below w.heap.size w wr ∧ w.heap.size ≤ w3.heap.size ∧ w3.heap.size ≤ wr.heap.size ∧ (gS < w3.heap.size ∧ gE < w3.heap.size) ∧ BlockIs wr gS 3 (ic (startsL js p)).toArray ∧ BlockIs wr gE 3 (ic (endsL js p)).toArray
theorem BlkInv.below {w w3 wr wr' : World} {gS gE : Nat} {js : List J} {p : List Nat} {vs : List (Option Addr × Nat)} {v : Value} {css : List (List Value)} (h : BlkInv w w3 gS gE js p vs v css wr) (hb : Below wr.heap.size wr wr') : BlkInv w w3 gS gE js p vs v css wr' := by
  obtain ⟨h1, h2, h3, h4, h5, h6, h7⟩ := h
  exact ⟨h1.below hb, h2.trans (hb.mono h2.size), h3, Nat.le_trans h4 hb.size, h5, h6.below hb, h7.below hb⟩
section
variable (A B : Option Addr) (c d : Nat) (js : List J) (p : List Nat) (w : World) (hr : Row w A (jc js)) (hq : Row w B (ic (natI p))) (hg : goodL js = true) (hp : p.Perm (List.range js.length))
include hr hq hg hp
set_option maxRecDepth 100000 in
set_option maxHeartbeats 4000000 in
theorem spec_BlkYes (ht : twoB js (natI p) = true) (R : List (List Int) × Bool) (hR : R = ((blksL js p).map fun g => g.map Int.ofNat, true)) : Calls Try.prog 18 #[.slice A js.length c, .slice B p.length d] w (RetSSB w R) := by
  obtain ⟨h8, hok⟩ := good_out hg
  have hpl : p.length = js.length := by simpa using hp.length_eq
  have hp8 : p.length ≤ 8 := by omega
  clear hpl
  have HR := Lib.hid hR
  have hba := (Below.refl w.heap.size w).alloc (Nat.le_refl _) (.cells #[] 23)
  have HO0 : Hid ((w.alloc (.cells #[] 23)).ownsRow w.heap.size 23 1 (.slice (some ⟨w.heap.size, 0, none⟩) 0 0) 0 [] ∧ Below w.heap.size w (w.alloc (.cells #[] 23))) := ⟨World.ownsRow_made w #[] 0 (Nat.le_refl _) (by unfold maxLen; omega) rfl, hba⟩
  have HTW := Lib.hid (l2Two_any A B c d js (natI p) _ (hr.below hba) (hq.below hba) (by omega) (by rw [List.length_map]; omega))
  rw [show (natI p).length = p.length from List.length_map .., ht] at HTW
  clear hR hba
  go_enter Try.func18, Try.ntmps18
  go_wp2_with fail
  refine HTW.out.mono ?_
  rintro e w1 ⟨rfl, hb1⟩
  have hb1' := HO0.out.2.trans (hb1.mono HO0.out.2.size)
  have HO1 := Lib.hid (And.intro (own_blw HO0.out.1 hb1) hb1')
  have HST := Lib.hid (l2Starts_any A B c d js p w1 (hr.below hb1') (hq.below hb1') hg hp)
  clear HO0 hb1 hb1' HTW
  go_wp2_with fail
  refine HST.out.mono ?_
  rintro e w2 ⟨gS, rfl, hgS, hBS, hb2⟩
  have hb2' := HO1.out.2.trans (hb2.mono HO1.out.2.size)
  have HO2 := Lib.hid (And.intro (own_blw HO1.out.1 hb2) (And.intro hBS hb2'))
  have HEN := Lib.hid (l2Ends_any A B c d js p w2 (hr.below hb2') (hq.below hb2') hg hp)
  clear HO1 hb2 hb2' HST hBS hgS
  go_wp2_with fail
  refine HEN.out.mono ?_
  rintro e w3 ⟨gE, rfl, hgE, hBE, hb3⟩
  have hb3' := HO2.out.2.2.trans (hb3.mono HO2.out.2.2.size)
  have hBS := HO2.out.2.1.below hb3
  have H0 : Hid (BlkInv w w3 gS gE js p [] (.slice (some ⟨w.heap.size, 0, none⟩) 0 0) (csS []) w3) :=
    ⟨OwnV.nil (own_blw HO2.out.1 hb3), hb3', hb3'.size, Nat.le_refl _, ⟨hBS.lt, hBE.lt⟩, hBS, hBE⟩
  clear HO2 hb3 hb3' HEN hBE hBS hgE
  go_wp2
  go_loopw [6, 9] (fun v i wr => ∃ (k : Nat) (vs : List (Option Addr × Nat)) (go cap : Nat), k ≤ p.length ∧ i = .int .i64 (k : Int) ∧ v = .slice (some ⟨go, 0, none⟩) (csS (blksTo js p k)).length cap ∧ Hid (BlkInv w w3 gS gE js p vs (.slice (some ⟨go, 0, none⟩) (csS (blksTo js p k)).length cap) (csS (blksTo js p k)) wr)) (fun _ i _ => p.length - (intOf i).toNat)
  case atStart => exact ⟨0, [], w.heap.size, 0, Nat.zero_le _, rfl, rfl, H0⟩
  case round =>
    obtain ⟨k, vs, go, cap, hk, rfl, rfl, HV⟩ := hrel
    clear H0
    by_cases hlt : k < p.length
    · obtain ⟨a, hA', hc⟩ := (hq.below HV.out.2.1).nat hlt
      subst hA'
      have hj : p[k] < js.length := perm_lt hp (List.getElem_mem hlt)
      have hk0 : (0 : Int) ≤ k := by omega
      have hk1 : (k : Int) < p.length := by omega
      have hp0 : (0 : Int) ≤ p[k] := by omega
      have hp1 : (p[k] : Int) < js.length := by omega
      have hlen := blksTo_len js p k
      have hak : (a.add k).block < wr.heap.size := by
        obtain ⟨a', e1, e2, _⟩ := (hq.below HV.out.2.1) (by rw [ic_len]; simp; omega)
        injection e1 with e1; subst e1
        rw [add_block]; exact e2
      obtain ⟨n, hn⟩ : ∃ n, n = (csS (blksTo js p k)).length := ⟨_, rfl⟩
      have hcsl : (csS (blksTo js p k)).length = n := hn.symm
      have hn8 : n ≤ 8 := by rw [hn, csS_len]; omega
      rw [hcsl] at HV
      rw [hcsl]
      clear hn
      by_cases hkz : k = 0
      · have HCS : Hid (csS (blksTo js p (k + 1)) = csS (blksTo js p k) ++ [ic [(p[k] : Int)]]) := by
          show _ = _
          rw [blksTo_new hlt (.inl hkz), csS_snoc]; rfl
        have hk2 : ¬ (0 : Int) < k := by omega
        have hk3 : ¬ 0 < k := by omega
        clear hj hkz
        generalize p[k] = x at *
        go_wp2
        go_quiet (fail)
        have HVd : Hid (BlkInv w w3 gS gE js p vs (.slice (some ⟨go, 0, none⟩) n cap) (csS (blksTo js p k)) (wr.drewN nq)) := HV.out.below (below_drewN (Below.refl _ wr) nq)
        have hcd : (wr.drewN nq).cell? (a.add k) = some (.int .i64 (x : Int)) := ((below_drewN (Below.refl wr.heap.size wr) nq).cell hak).trans hc
        clear hc HV hak
        generalize wr.drewN nq = wd at *
        have HP : Hid (∃ v' wq vs', (Builtin.append_ #[25, 25] 25 #[.slice (some ⟨go, 0, none⟩) n cap, .slice (some ⟨wd.heap.size + 1, 0, none⟩) 1 1]).run Try.prog ((wd.alloc (.cells #[.int .i64 (x : Int)] 3)).alloc (.cells #[.slice (some ⟨wd.heap.size, 0, none⟩) 1 1] 23)) = .ok v' wq ∧ (∃ g c, v' = .slice (some ⟨g, 0, none⟩) (n + 1) c) ∧ BlkInv w w3 gS gE js p vs' v' (csS (blksTo js p (k + 1))) wq) := by
          obtain ⟨h1, h2, h3, h4, h5, h6, h7⟩ := HVd.out
          have h := push_at h1 h3 h4 h2 [(x : Int)] (by simp) (by omega)
          rw [hcsl, ← HCS.out] at h
          obtain ⟨v', wq, vs', e1, e2, e3, e4, e5, e6⟩ := h
          exact ⟨v', wq, vs', e1, e3, e2, e4, h3, Nat.le_trans h4 e6, h5, e5 _ _ h5.1 h6, e5 _ _ h5.2 h7⟩
        obtain ⟨_, wq, vsq, hrun, ⟨gq, capq, rfl⟩, hVq⟩ := HP.out
        have HRUN := Lib.hid hrun
        have HL : Hid ((csS (blksTo js p (k + 1))).length = n + 1) := by show _ = _; rw [HCS.out, List.length_append, hcsl]; rfl
        rw [← HL.out] at hVq
        have HVq := Lib.hid hVq
        clear HP hrun hVq HVd
        go_wp2_with (at_builtin; refine wpList_app rfl _ _ _ rfl _ _ _ rfl rfl HRUN.out ?_)
        go_roundw
        case rel => exact ⟨k + 1, vsq, gq, capq, by omega, by go_num, by rw [HL.out], HVq⟩
        case measure => simp [intOf]; omega
      · obtain ⟨m, hmk⟩ : ∃ m, k = m + 1 := ⟨k - 1, by omega⟩
        have hm : m < p.length := by omega
        obtain ⟨a2, hA2, hcm⟩ := (hq.below HV.out.2.1).nat hm
        injection hA2 with hA2
        subst hA2
        have hjm : p[m] < js.length := perm_lt hp (List.getElem_mem hm)
        have hpm0 : (0 : Int) ≤ p[m] := by omega
        have hpm1 : (p[m] : Int) < js.length := by omega
        have hm0 : (0 : Int) ≤ m := by omega
        have hm1 : (m : Int) < p.length := by omega
        have hk2 : (0 : Int) < k := by omega
        have hk3 : 0 < k := by omega
        have hkm : (k : Int) - 1 = m := by omega
        have hwm := IntWalk.i64_in (m : Int) (by omega)
        have hcS := HV.out.2.2.2.2.2.1.int (k := p[k]) (by rw [startsL_len]; exact hj)
        have hcE := HV.out.2.2.2.2.2.2.int (k := p[m]) (by rw [endsL_len]; exact hjm)
        have hbt := blk_test hp hlt (by omega)
        rw [getD_at p 0 hlt, show k - 1 = m by omega, getD_at p 0 hm, getD_at _ 0 (by rw [startsL_len]; exact hj), getD_at _ 0 (by rw [endsL_len]; exact hjm)] at hbt
        clear hmk
        by_cases hs : lastGo js (p.take k) 0 < (js.getD p[k] j0).r
        · have HCS : Hid (csS (blksTo js p (k + 1)) = csS (blksTo js p k) ++ [ic [(p[k] : Int)]]) := by
            show _ = _
            rw [blksTo_new hlt (.inr hs), csS_snoc]; rfl
          have hne : ¬ (startsL js p)[p[k]]'(by rw [startsL_len]; exact hj) = (endsL js p)[p[m]]'(by rw [endsL_len]; exact hjm) := fun e => (hbt.1 e) hs
          clear hs hbt
          generalize (startsL js p)[p[k]]'(by rw [startsL_len]; exact hj) = S at *
          generalize (endsL js p)[p[m]]'(by rw [endsL_len]; exact hjm) = E at *
          have hne2 : (S == E) = false := by simpa using hne
          clear hj hjm
          generalize p[k] = x at *
          generalize p[m] = y at *
          go_wp2
          go_quiet (fail)
          have HVd : Hid (BlkInv w w3 gS gE js p vs (.slice (some ⟨go, 0, none⟩) n cap) (csS (blksTo js p k)) (wr.drewN nq)) := HV.out.below (below_drewN (Below.refl _ wr) nq)
          have hcd : (wr.drewN nq).cell? (a.add k) = some (.int .i64 (x : Int)) := ((below_drewN (Below.refl wr.heap.size wr) nq).cell hak).trans hc
          clear hc HV hak
          generalize wr.drewN nq = wd at *
          have HP : Hid (∃ v' wq vs', (Builtin.append_ #[25, 25] 25 #[.slice (some ⟨go, 0, none⟩) n cap, .slice (some ⟨wd.heap.size + 1, 0, none⟩) 1 1]).run Try.prog ((wd.alloc (.cells #[.int .i64 (x : Int)] 3)).alloc (.cells #[.slice (some ⟨wd.heap.size, 0, none⟩) 1 1] 23)) = .ok v' wq ∧ (∃ g c, v' = .slice (some ⟨g, 0, none⟩) (n + 1) c) ∧ BlkInv w w3 gS gE js p vs' v' (csS (blksTo js p (k + 1))) wq) := by
            obtain ⟨h1, h2, h3, h4, h5, h6, h7⟩ := HVd.out
            have h := push_at h1 h3 h4 h2 [(x : Int)] (by simp) (by omega)
            rw [hcsl, ← HCS.out] at h
            obtain ⟨v', wq, vs', e1, e2, e3, e4, e5, e6⟩ := h
            exact ⟨v', wq, vs', e1, e3, e2, e4, h3, Nat.le_trans h4 e6, h5, e5 _ _ h5.1 h6, e5 _ _ h5.2 h7⟩
          obtain ⟨_, wq, vsq, hrun, ⟨gq, capq, rfl⟩, hVq⟩ := HP.out
          have HRUN := Lib.hid hrun
          have HL : Hid ((csS (blksTo js p (k + 1))).length = n + 1) := by show _ = _; rw [HCS.out, List.length_append, hcsl]; rfl
          rw [← HL.out] at hVq
          have HVq := Lib.hid hVq
          clear HP hrun hVq HVd
          go_wp2_with (at_builtin; refine wpList_app rfl _ _ _ rfl _ _ _ rfl rfl HRUN.out ?_)
          go_roundw
          case rel => exact ⟨k + 1, vsq, gq, capq, by omega, by go_num, by rw [HL.out], HVq⟩
          case measure => simp [intOf]; omega
        · obtain ⟨bs, b, hbs, hbk, hbs2⟩ := blksTo_more hlt (fun h => h.elim hkz hs)
          have HCS : Hid (csS (blksTo js p (k + 1)) = csS bs ++ [ic (b.map Int.ofNat) ++ [.int .i64 (p[k] : Int)]]) := by
            show _ = _
            rw [hbs2, csS_snoc, ic_snocN]
          have hSE := hbt.2 hs
          obtain ⟨n, rfl⟩ : ∃ z, n = z + 1 := ⟨bs.length, by rw [← hcsl, csS_len, hbs]; simp⟩
          have hbl0 : (csS bs).length = n := by rw [hbs, csS_len] at hcsl; simp at hcsl; rw [csS_len]; omega
          have HCL : Hid ((csS bs).length = n) := hbl0
          rw [hbs, csS_snoc] at HV
          rw [hSE] at hcS
          have hwn := IntWalk.i64_in (n : Int) (by omega)
          have hnn0 : (0 : Int) ≤ n := by omega
          have hnn1 : (n : Int) < (n : Int) + 1 := by omega
          clear hs hbt hbs hbs2 hcsl hlen
          generalize (endsL js p)[p[m]]'(by rw [endsL_len]; exact hjm) = E at *
          clear hSE hj hjm
          generalize p[k] = x at *
          generalize p[m] = y at *
          go_wp2
          go_quiet (fail)
          have HVd : Hid (BlkInv w w3 gS gE js p vs (.slice (some ⟨go, 0, none⟩) (n + 1) cap) (csS bs ++ [ic (b.map Int.ofNat)]) (wr.drewN nq)) := HV.out.below (below_drewN (Below.refl _ wr) nq)
          have hcd : (wr.drewN nq).cell? (a.add k) = some (.int .i64 (x : Int)) := ((below_drewN (Below.refl wr.heap.size wr) nq).cell hak).trans hc
          have hak2 : (a.add k).block < (wr.drewN nq).heap.size := Nat.lt_of_lt_of_le hak (below_drewN (Below.refl wr.heap.size wr) nq).size
          clear hc HV hak hcS hcE hcm
          generalize wr.drewN nq = wd at *
          obtain ⟨h1, h2, h3, h4, h5, h6, h7⟩ := HVd.out.below ((Below.refl wd.heap.size wd).drew)
          obtain ⟨AL, cL, hcL, hgL, v5, w5, vs5, hrun, hV5, ⟨old, hold⟩, hfz, ⟨A5, n5, c5, rfl⟩, hb5, hk5, hz5⟩ := ext_last h1 h3 h4 hbl0 h2 (x : Int) (by rw [ic_len, List.length_map]; omega)
          have HRUN := Lib.hid hrun
          have hcL' : wd.cell? ⟨go, n, none⟩ = some (.slice AL (ic (b.map Int.ofNat)).length cL) := hcL
          have hgL' : go < wd.heap.size := hgL
          have HL : Hid ((csS (blksTo js p (k + 1))).length = n + 1) := by show _ = _; rw [HCS.out, List.length_append, HCL.out]; rfl
          have HV5 : Hid (BlkInv w w3 gS gE js p vs5 (.slice (some ⟨go, 0, none⟩) (csS (blksTo js p (k + 1))).length cap) (csS (blksTo js p (k + 1))) (w5.setCell ⟨go, n, none⟩ (.slice A5 n5 c5))) := by
            rw [HL.out, HCS.out]
            exact ⟨hV5, hb5, h3, Nat.le_trans h4 (by simpa [World.setCell] using hz5), h5, hk5 _ _ h5.1 h6, hk5 _ _ h5.2 h7⟩
          clear hcL hgL hrun hV5 hb5 hk5 hz5 h1 h2 h3 h4 h5 h6 h7 HVd hbl0
          go_wp2
          go_region_law (refine step_app rfl _ _ _ rfl _ _ _ rfl rfl HRUN.out ?_)
          all_goals
            go_wp2
            go_roundw
            case rel => exact ⟨k + 1, vs5, go, cap, by omega, by go_num, by rw [HL.out], HV5⟩
            case measure => simp [intOf]; omega
    · obtain rfl : k = p.length := by omega
      have hRR := HR.out
      have HF := Lib.hid HV.out
      clear HV HR
      go_wp2
      go_ret2
      exact ret_ownSS hRR HF.out.2.2.1 HF.out.1 HF.out.2.1 _ rfl
end
end Go.Proofs.Ytjnaicgmfnhjeaa
