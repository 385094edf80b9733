/- The model's ends of all jobs. -/
import Derived.Test.YtdhndoccdfbefaaShL
import Derived.Test.YtdhndoccdfbefaaSchedE
namespace Go.Proofs.Ytdhndoccdfbefaa
open Go.RowKit
theorem new_two (w : World) (c1 c2 : Array Value) (t1 t2 : TypeId) : BlockIs ((w.alloc (.cells c1 t1)).alloc (.cells c2 t2)) w.heap.size t1 c1 ∧ BlockIs ((w.alloc (.cells c1 t1)).alloc (.cells c2 t2)) (w.heap.size + 1) t2 c2 := by
  have e0 : (w.alloc (.cells c1 t1)).heap.size = w.heap.size + 1 := by simp
  have h0 := (BlockIs.new w t1 c1).below ((Below.refl _ _).alloc (Nat.le_refl _) (.cells c2 t2))
  have h1 := BlockIs.new (w.alloc (.cells c1 t1)) t2 c2
  rw [e0] at h1
  exact ⟨h0, h1⟩
set_option maxRecDepth 100000 in
set_option maxHeartbeats 4000000 in
theorem l8Ends_any (A B : Option Addr) (c d : Nat) (xss : List (List Int)) (p : List Nat) (w : World) (hr : RowSS w A (xss.map ic)) (hq : Row w B (ic (p.map Int.ofNat))) (hn : xss.length ≤ 10000000 ∧ totL xss ≤ 10000000) (hs : Shop xss) (hp : p.Perm (List.range xss.length)) :
    Calls Try.prog 54 #[.slice A xss.length c, .slice B p.length d] w fun e w' => ∃ g, e = .returned (.slice (some ⟨g, 0, none⟩) xss.length xss.length) ∧ w.heap.size ≤ g ∧ (∃ vs, OwnV vs w.heap.size w.heap.size w' (.slice (some ⟨g, 0, none⟩) xss.length xss.length) ((endsF xss p).map ic)) ∧ Below w.heap.size w w' := by
  have hpl : p.length = xss.length := by rw [hp.length_eq]; simp
  have HROW := Lib.hid (fun i (hi : i < xss.length) => hs.row hr hi)
  have HORD := Lib.hid (fun k (hk : k < p.length) => ord_at hq hk)
  have HLT := Lib.hid (fun k (hk : k < p.length) => permD_lt hp hk)
  have HS := Lib.hid hs
  have HP := Lib.hid hp
  have h8 := hs.n8
  have hM3 := hs.m3
  have hM1 := hs.m1
  have hpl8 : p.length ≤ 8 := by omega
  have HPL := Lib.hid hpl
  have hmk := run_make_row' (P := Try.prog) 22 29 (.slice none 0 0) 24 Try.underlying22 infoSl rfl .i64 .i64 xss.length (by omega) (by omega)
  have hmk2 := run_make_row' (P := Try.prog) 29 3 (.int .i64 0) 8 Try.underlying29 infoI rfl .i64 .i64 (mOf xss) (by omega) (by omega)
  have HM := Lib.hid (fun W (hb : Below w.heap.size w W) => l8Machines_any A c xss W (hr.below hb) hn)
  have hb0 : Below w.heap.size w w.drew := (Below.refl _ _).drew
  have hb1 := hb0.alloc (Nat.le_refl _) (.cells (madeCells (Value.slice none 0 0).cells xss.length) 29)
  have HMA := Lib.hid (HM.out _ hb0)
  have HMB := Lib.hid (HM.out _ hb1)
  generalize hMM : mOf xss = M at *
  have HMM := Lib.hid hMM
  clear hb0 hb1 hr hq hs hp hpl HM hMM
  have HNEW := Lib.hid (fun (c1 c2 : Array Value) (t1 t2 : TypeId) => new_two w c1 c2 t1 t2)
  go_enter Try.func54, Try.ntmps54
  go_wp2
  go_region_with (go_at_call 64; (first | refine HMA.out.mono ?_ | refine HMB.out.mono ?_); rintro e _ ⟨rfl, q, rfl⟩)
  all_goals
    clear hmk hmk2
    go_wp2
  · skip
    go_loopw [7] (fun i wr => ∃ (k : Nat) (vs : List (Option Addr × Nat)), k ≤ p.length ∧ i = .int .i64 (k : Int) ∧ Hid (OwnV vs w.heap.size w.heap.size wr (.slice (some ⟨w.heap.size, 0, none⟩) xss.length xss.length) (tabV xss.length (doneR xss p k)) ∧ BlockIs wr (w.heap.size + 1) 3 (freeA (eAt xss p k) M) ∧ Below w.heap.size w wr ∧ ∀ i (hi : i < vs.length) a, vs[i].1 = some a → a.block ≠ w.heap.size + 1)) (fun i _ => p.length - (intOf i).toNat)
    case atStart =>
      refine ⟨0, _, Nat.zero_le _, rfl, OwnV.new (fun i _ => by unfold doneR; rw [if_neg (by omega)]) ?_ (by omega) (by unfold maxLen; omega), ?_, ?_, fun i hi a ha => by simp at ha⟩
      · first | exact (HNEW.out _ _ _ _).1 | exact (HNEW.out _ _ _ _).2
      · rw [← freeA_zero M (eAt xss p 0) (fun _ => rfl)]; first | exact (HNEW.out _ _ _ _).2 | exact (HNEW.out _ _ _ _).1
      · first | exact (below_drewN ((Below.refl _ _).alloc (Nat.le_refl _) _) _).alloc (by simp) _ | exact ((below_drewN (Below.refl _ _) _).alloc (Nat.le_refl _) _).alloc (by simp) _
    case round =>
      obtain ⟨k, vs, hk, rfl, HV⟩ := hrel
      obtain ⟨wo, hwo⟩ : ∃ x, x = wr := ⟨wr, rfl⟩
      subst hwo
      by_cases hlt : k < p.length
      · obtain ⟨ao, hB, hco⟩ := HORD.out k hlt
        subst hB
        have hx := HLT.out k hlt
        obtain ⟨ad, bx, dx, hA', hcx, hfx⟩ := HROW.out _ hx
        subst hA'
        have hla : ao.block < w.heap.size := by have := lt_of_cell hco; rwa [add_block] at this
        have hld : ad.block < w.heap.size := by have := lt_of_cell hcx; rwa [add_block] at this
        have hlb : bx.block < w.heap.size := by have := lt_of_cell (hfx 0 (by omega)); rwa [add_block] at this
        have HFX := Lib.hid hfx
        have HCX := Lib.hid hcx
        have HCO := Lib.hid hco
        have hgo := (own_type (g := w.heap.size) HV.out.1.2.1 rfl).1
        have hgf := HV.out.2.1.lt
        have hsz := HV.out.2.2.1.size
        have hi0 : (0 : Int) ≤ k := by omega
        have hi1 : (k : Int) < p.length := by omega
        have HSTEPR := Lib.hid (doneR_step HP.out hlt)
        have HROWC := Lib.hid (HMM.out ▸ rowC_all xss p k)
        have HFREE := Lib.hid (HMM.out ▸ freeA_all xss p k)
        have HEB := Lib.hid (fun j => eAt_bd HS.out p k j)
        have HTB := Lib.hid (fun j => HS.out.tm (p.getD k 0) j)
        have HNB : Hid (∀ j, j ≤ M → 0 ≤ nowE (eAt xss p k) (tm xss (p.getD k 0)) j ∧ nowE (eAt xss p k) (tm xss (p.getD k 0)) j ≤ 200000) := fun j hj => by
          have := nowE_bd (B := 720) (m := M) (f := eAt xss p k) (by omega) (fun j _ => by have := HEB.out j; omega) HTB.out j hj
          omega
        have hx0' : (0 : Int) ≤ (p.getD k 0 : Nat) := by omega
        have hx1' : ((p.getD k 0 : Nat) : Int) < xss.length := by omega
        generalize hE : eAt xss p k = e at *
        generalize hT : tm xss (p.getD k 0) = t at *
        generalize hJ : p.getD k 0 = j at *
        have HE := Lib.hid hE
        clear hE hT hJ hco hcx hfx
        go_wp2
        go_loopw [8, 9, 10] (fun r0 z i W => ∃ (k2 : Nat) (r : Value), r = r0 ∧ k2 ≤ M ∧ i = .int .i64 (k2 : Int) ∧ z = .int .i64 (nowE e t k2) ∧ Hid (W.ownsRow wo.heap.size 3 1 r k2 (rowC e t k2) ∧ BlockIs W (w.heap.size + 1) 3 (freeA (mixE e t k2) M) ∧ Touch (w.heap.size + 1) (w.heap.size + 1 + 1) wo W)) (fun _ _ i _ => M - (intOf i).toNat)
        case atStart =>
          have hb0 := (Below.refl wo.heap.size wo).alloc (Nat.le_refl _) (.cells #[] 3)
          refine ⟨0, _, rfl, Nat.zero_le _, rfl, rfl, ?_, HV.out.2.1.below hb0, Touch.of_below _ _ hb0⟩
          exact (BlockIs.new wo 3 #[]).own (base := wo.heap.size) (n := 0) (c := 0) (size := 1) (Nat.le_refl _) rfl (Nat.le_refl _) (Nat.zero_le _) (Nat.le_refl _)
        case round =>
          obtain ⟨k2, r, rfl, hk2, rfl, rfl, HI⟩ := hrel
          obtain ⟨W, hW⟩ : ∃ x, x = wr := ⟨wr, rfl⟩
          subst hW
          have hbW : Below w.heap.size w W := HV.out.2.2.1.trans (HI.out.2.2.below (by omega) hsz)
          have hsW := HI.out.2.2.size
          have hcoW := (hbW.cell (p := ao.add k) (by rw [add_block]; exact hla)).trans HCO.out
          have HBW := Lib.hid hbW
          clear hbW
          by_cases hlt2 : k2 < M
          · have hcxW := (HBW.out.cell (p := ad.add j) (by rw [add_block]; exact hld)).trans HCX.out
            have hfxW := (HBW.out.cell (p := bx.add k2) (by rw [add_block]; exact hlb)).trans (HFX.out k2 hlt2)
            have hcf := HI.out.2.1.cell k2
            rw [freeA_get _ _ _ hlt2, show mixE e t k2 k2 = e k2 by unfold mixE; rw [if_neg (by omega)]] at hcf
            have hff := HI.out.2.1.frozen k2
            have hn0 := HNB.out k2 hk2
            have hn1 := HNB.out (k2 + 1) (by omega)
            have hek := HEB.out k2
            have htk := HTB.out k2
            have hst : Hid (nowE e t (k2 + 1) = max (nowE e t k2) (e k2) + t k2) := rfl
            have HAPP : Hid (∀ nq, ∃ v' W', (Builtin.append_ #[29, 29] 29 #[r, .slice (some ⟨W.heap.size, 0, none⟩) 1 1]).run Try.prog (((W.drewN nq).setCell ⟨w.heap.size + 1, k2, none⟩ (.int .i64 (nowE e t (k2 + 1)))).alloc (.cells #[.int .i64 (nowE e t (k2 + 1))] 3)) = .ok v' W' ∧ W'.ownsRow wo.heap.size 3 1 v' (k2 + 1) (rowC e t (k2 + 1)) ∧ BlockIs W' (w.heap.size + 1) 3 (freeA (mixE e t (k2 + 1)) M) ∧ Touch (w.heap.size + 1) (w.heap.size + 1 + 1) wo W') := fun nq => by
              obtain ⟨h1, h2, h3⟩ := HI.out
              have hown : ((W.drewN nq).setCell ⟨w.heap.size + 1, k2, none⟩ (.int .i64 (nowE e t (k2 + 1)))).ownsRow wo.heap.size 3 1 r k2 (rowC e t k2) := own_to (w := W.drewN nq) h1 fun g _ hB _ => Below.heap_setCell _ _ _ _ (show g ≠ w.heap.size + 1 from by omega)
              have hblk := h2.drewN nq |>.set k2 (.int .i64 (nowE e t (k2 + 1)))
              rw [freeA_mix _ _ _ _ hlt2] at hblk
              have esz : ((W.drewN nq).setCell ⟨w.heap.size + 1, k2, none⟩ (.int .i64 (nowE e t (k2 + 1)))).heap.size = W.heap.size := by simp
              have hT2 : Touch (w.heap.size + 1) (w.heap.size + 1 + 1) wo ((W.drewN nq).setCell ⟨w.heap.size + 1, k2, none⟩ (.int .i64 (nowE e t (k2 + 1)))) := ⟨h3.os, h3.tape, h3.output, by rw [esz]; exact h3.size, fun g hg hne => (Below.heap_setCell _ _ _ _ (show g ≠ w.heap.size + 1 from by omega)).trans (h3.block g hg hne)⟩
              obtain ⟨v', W', hr, ho, hbb⟩ := app_one hown (by rw [esz]; exact h3.size) (nowE e t (k2 + 1)) (by omega)
              rw [esz] at hr
              rw [← rowC_step] at ho
              refine ⟨v', W', hr, ho, (hbb.block _ hgf).trans hblk, hbb.os.trans hT2.os, hbb.tape.trans hT2.tape, hbb.output.trans hT2.output, Nat.le_trans hT2.size hbb.size, fun g hg hne => (hbb.block g hg).trans (hT2.block g hg hne)⟩
            have hj0 : (0 : Int) ≤ k2 := by omega
            have hj1 : (k2 : Int) < M := by omega
            generalize hnn : nowE e t (k2 + 1) = nn at *
            generalize hn : nowE e t k2 = n at *
            generalize e k2 = ek at *
            generalize t k2 = tk at *
            have HNN := Lib.hid hnn
            clear hnn hn HI
            obtain rfl := hst.out
            clear hst
            go_wp2
            go_quiet ((go_at_call 66; (first | exact Calls.quiet_of_same (l1Most_any _ _ _) | exact quiet_same ((l1Most_any _ _ _).mono fun _ _ h => ⟨h.1, h.2.symm⟩))))
            obtain ⟨v', W', hrun, hrest⟩ := HAPP.out nq
            have HRUN := Lib.hid hrun
            have HREST := Lib.hid hrest
            clear hrun hrest HAPP
            go_wp2_with (at_builtin; refine wpList_app rfl _ _ _ rfl _ _ _ rfl rfl HRUN.out ?_; clear HRUN)
            go_roundw
            case rel => exact ⟨k2 + 1, _, rfl, by omega, by go_num, by rw [HNN.out], HREST.out⟩
            case measure => simp [intOf]; omega
          · obtain rfl : k2 = M := by omega
            obtain ⟨h1, h2, h3⟩ := HI.out
            rw [HROWC.out] at h1
            rw [HFREE.out] at h2
            obtain ⟨A', c', rfl, hseg⟩ := seg_out h1
            have hA : ∀ a, A' = some a → wo.heap.size ≤ a.block := fun a ha => (own_type (g := a.block) h1 (by rw [ha]; rfl)).2.1
            have hV2 := HV.out.1.touch h3 HV.out.2.1 HV.out.2.2.2
            obtain ⟨p1, ⟨u, p2⟩, p3, p4, p5⟩ := HV.out.1.put2 hV2 (by rw [tabV_len]) (m := j) (by rw [tabV_len]; exact hx) (c' := c') (n' := k2) (cs := ic (rowE xss p k)) (by rw [ic_len]; simp [rowE, HMM.out]) (own_low h1 hsz) hA
            rw [tabV_set, HSTEPR.out] at p1
            have hne : w.heap.size ≠ w.heap.size + 1 := by omega
            have HN : Hid (OwnV (vs.set j (A', c')) w.heap.size w.heap.size (W.setCell ⟨w.heap.size, j, none⟩ (.slice A' k2 c')) (.slice (some ⟨w.heap.size, 0, none⟩) xss.length xss.length) (tabV xss.length (doneR xss p (k + 1))) ∧ BlockIs (W.setCell ⟨w.heap.size, j, none⟩ (.slice A' k2 c')) (w.heap.size + 1) 3 (freeA (eAt xss p (k + 1)) k2) ∧ Below w.heap.size w (W.setCell ⟨w.heap.size, j, none⟩ (.slice A' k2 c')) ∧ ∀ i (hi : i < (vs.set j (A', c')).length) a, (vs.set j (A', c'))[i].1 = some a → a.block ≠ w.heap.size + 1) := by
              refine ⟨p1, (Below.heap_setCell _ _ _ _ (show w.heap.size + 1 ≠ w.heap.size from by omega)).trans h2, HBW.out.setCell p4 _, fun i hi a ha => ?_⟩
              by_cases e' : j = i
              · subst e'
                rw [List.getElem_set_self] at ha
                have := hA a ha
                omega
              · rw [List.getElem_set_ne e'] at ha
                exact HV.out.2.2.2 i (by simpa using hi) a ha
            clear HI h1 h2 h3 hseg hA hV2 p1 hne
            go_wp2
            go_roundw
            case rel => exact ⟨k + 1, _, by omega, by go_num, HN.out⟩
            case measure => simp [intOf]; omega
      · obtain rfl : k = p.length := by omega
        obtain ⟨h1, h2, h3, h4⟩ := HV.out
        rw [doneR_all HP.out] at h1
        have HF := Lib.hid (And.intro h1 h3)
        clear h1 h2 h3 h4 HV
        go_wp2
        go_ret
        exact ⟨_, rfl, by omega, ⟨_, HF.out.1⟩, HF.out.2⟩
  · skip
    go_loopw [7] (fun i wr => ∃ (k : Nat) (vs : List (Option Addr × Nat)), k ≤ p.length ∧ i = .int .i64 (k : Int) ∧ Hid (OwnV vs w.heap.size w.heap.size wr (.slice (some ⟨w.heap.size, 0, none⟩) xss.length xss.length) (tabV xss.length (doneR xss p k)) ∧ BlockIs wr (w.heap.size + 1) 3 (freeA (eAt xss p k) M) ∧ Below w.heap.size w wr ∧ ∀ i (hi : i < vs.length) a, vs[i].1 = some a → a.block ≠ w.heap.size + 1)) (fun i _ => p.length - (intOf i).toNat)
    case atStart =>
      refine ⟨0, _, Nat.zero_le _, rfl, OwnV.new (fun i _ => by unfold doneR; rw [if_neg (by omega)]) ?_ (by omega) (by unfold maxLen; omega), ?_, ?_, fun i hi a ha => by simp at ha⟩
      · first | exact (HNEW.out _ _ _ _).1 | exact (HNEW.out _ _ _ _).2
      · rw [← freeA_zero M (eAt xss p 0) (fun _ => rfl)]; first | exact (HNEW.out _ _ _ _).2 | exact (HNEW.out _ _ _ _).1
      · first | exact (below_drewN ((Below.refl _ _).alloc (Nat.le_refl _) _) _).alloc (by simp) _ | exact ((below_drewN (Below.refl _ _) _).alloc (Nat.le_refl _) _).alloc (by simp) _
    case round =>
      obtain ⟨k, vs, hk, rfl, HV⟩ := hrel
      obtain ⟨wo, hwo⟩ : ∃ x, x = wr := ⟨wr, rfl⟩
      subst hwo
      by_cases hlt : k < p.length
      · obtain ⟨ao, hB, hco⟩ := HORD.out k hlt
        subst hB
        have hx := HLT.out k hlt
        obtain ⟨ad, bx, dx, hA', hcx, hfx⟩ := HROW.out _ hx
        subst hA'
        have hla : ao.block < w.heap.size := by have := lt_of_cell hco; rwa [add_block] at this
        have hld : ad.block < w.heap.size := by have := lt_of_cell hcx; rwa [add_block] at this
        have hlb : bx.block < w.heap.size := by have := lt_of_cell (hfx 0 (by omega)); rwa [add_block] at this
        have HFX := Lib.hid hfx
        have HCX := Lib.hid hcx
        have HCO := Lib.hid hco
        have hgo := (own_type (g := w.heap.size) HV.out.1.2.1 rfl).1
        have hgf := HV.out.2.1.lt
        have hsz := HV.out.2.2.1.size
        have hi0 : (0 : Int) ≤ k := by omega
        have hi1 : (k : Int) < p.length := by omega
        have HSTEPR := Lib.hid (doneR_step HP.out hlt)
        have HROWC := Lib.hid (HMM.out ▸ rowC_all xss p k)
        have HFREE := Lib.hid (HMM.out ▸ freeA_all xss p k)
        have HEB := Lib.hid (fun j => eAt_bd HS.out p k j)
        have HTB := Lib.hid (fun j => HS.out.tm (p.getD k 0) j)
        have HNB : Hid (∀ j, j ≤ M → 0 ≤ nowE (eAt xss p k) (tm xss (p.getD k 0)) j ∧ nowE (eAt xss p k) (tm xss (p.getD k 0)) j ≤ 200000) := fun j hj => by
          have := nowE_bd (B := 720) (m := M) (f := eAt xss p k) (by omega) (fun j _ => by have := HEB.out j; omega) HTB.out j hj
          omega
        have hx0' : (0 : Int) ≤ (p.getD k 0 : Nat) := by omega
        have hx1' : ((p.getD k 0 : Nat) : Int) < xss.length := by omega
        generalize hE : eAt xss p k = e at *
        generalize hT : tm xss (p.getD k 0) = t at *
        generalize hJ : p.getD k 0 = j at *
        have HE := Lib.hid hE
        clear hE hT hJ hco hcx hfx
        go_wp2
        go_loopw [8, 9, 10] (fun r0 z i W => ∃ (k2 : Nat) (r : Value), r = r0 ∧ k2 ≤ M ∧ i = .int .i64 (k2 : Int) ∧ z = .int .i64 (nowE e t k2) ∧ Hid (W.ownsRow wo.heap.size 3 1 r k2 (rowC e t k2) ∧ BlockIs W (w.heap.size + 1) 3 (freeA (mixE e t k2) M) ∧ Touch (w.heap.size + 1) (w.heap.size + 1 + 1) wo W)) (fun _ _ i _ => M - (intOf i).toNat)
        case atStart =>
          have hb0 := (Below.refl wo.heap.size wo).alloc (Nat.le_refl _) (.cells #[] 3)
          refine ⟨0, _, rfl, Nat.zero_le _, rfl, rfl, ?_, HV.out.2.1.below hb0, Touch.of_below _ _ hb0⟩
          exact (BlockIs.new wo 3 #[]).own (base := wo.heap.size) (n := 0) (c := 0) (size := 1) (Nat.le_refl _) rfl (Nat.le_refl _) (Nat.zero_le _) (Nat.le_refl _)
        case round =>
          obtain ⟨k2, r, rfl, hk2, rfl, rfl, HI⟩ := hrel
          obtain ⟨W, hW⟩ : ∃ x, x = wr := ⟨wr, rfl⟩
          subst hW
          have hbW : Below w.heap.size w W := HV.out.2.2.1.trans (HI.out.2.2.below (by omega) hsz)
          have hsW := HI.out.2.2.size
          have hcoW := (hbW.cell (p := ao.add k) (by rw [add_block]; exact hla)).trans HCO.out
          have HBW := Lib.hid hbW
          clear hbW
          by_cases hlt2 : k2 < M
          · have hcxW := (HBW.out.cell (p := ad.add j) (by rw [add_block]; exact hld)).trans HCX.out
            have hfxW := (HBW.out.cell (p := bx.add k2) (by rw [add_block]; exact hlb)).trans (HFX.out k2 hlt2)
            have hcf := HI.out.2.1.cell k2
            rw [freeA_get _ _ _ hlt2, show mixE e t k2 k2 = e k2 by unfold mixE; rw [if_neg (by omega)]] at hcf
            have hff := HI.out.2.1.frozen k2
            have hn0 := HNB.out k2 hk2
            have hn1 := HNB.out (k2 + 1) (by omega)
            have hek := HEB.out k2
            have htk := HTB.out k2
            have hst : Hid (nowE e t (k2 + 1) = max (nowE e t k2) (e k2) + t k2) := rfl
            have HAPP : Hid (∀ nq, ∃ v' W', (Builtin.append_ #[29, 29] 29 #[r, .slice (some ⟨W.heap.size, 0, none⟩) 1 1]).run Try.prog (((W.drewN nq).setCell ⟨w.heap.size + 1, k2, none⟩ (.int .i64 (nowE e t (k2 + 1)))).alloc (.cells #[.int .i64 (nowE e t (k2 + 1))] 3)) = .ok v' W' ∧ W'.ownsRow wo.heap.size 3 1 v' (k2 + 1) (rowC e t (k2 + 1)) ∧ BlockIs W' (w.heap.size + 1) 3 (freeA (mixE e t (k2 + 1)) M) ∧ Touch (w.heap.size + 1) (w.heap.size + 1 + 1) wo W') := fun nq => by
              obtain ⟨h1, h2, h3⟩ := HI.out
              have hown : ((W.drewN nq).setCell ⟨w.heap.size + 1, k2, none⟩ (.int .i64 (nowE e t (k2 + 1)))).ownsRow wo.heap.size 3 1 r k2 (rowC e t k2) := own_to (w := W.drewN nq) h1 fun g _ hB _ => Below.heap_setCell _ _ _ _ (show g ≠ w.heap.size + 1 from by omega)
              have hblk := h2.drewN nq |>.set k2 (.int .i64 (nowE e t (k2 + 1)))
              rw [freeA_mix _ _ _ _ hlt2] at hblk
              have esz : ((W.drewN nq).setCell ⟨w.heap.size + 1, k2, none⟩ (.int .i64 (nowE e t (k2 + 1)))).heap.size = W.heap.size := by simp
              have hT2 : Touch (w.heap.size + 1) (w.heap.size + 1 + 1) wo ((W.drewN nq).setCell ⟨w.heap.size + 1, k2, none⟩ (.int .i64 (nowE e t (k2 + 1)))) := ⟨h3.os, h3.tape, h3.output, by rw [esz]; exact h3.size, fun g hg hne => (Below.heap_setCell _ _ _ _ (show g ≠ w.heap.size + 1 from by omega)).trans (h3.block g hg hne)⟩
              obtain ⟨v', W', hr, ho, hbb⟩ := app_one hown (by rw [esz]; exact h3.size) (nowE e t (k2 + 1)) (by omega)
              rw [esz] at hr
              rw [← rowC_step] at ho
              refine ⟨v', W', hr, ho, (hbb.block _ hgf).trans hblk, hbb.os.trans hT2.os, hbb.tape.trans hT2.tape, hbb.output.trans hT2.output, Nat.le_trans hT2.size hbb.size, fun g hg hne => (hbb.block g hg).trans (hT2.block g hg hne)⟩
            have hj0 : (0 : Int) ≤ k2 := by omega
            have hj1 : (k2 : Int) < M := by omega
            generalize hnn : nowE e t (k2 + 1) = nn at *
            generalize hn : nowE e t k2 = n at *
            generalize e k2 = ek at *
            generalize t k2 = tk at *
            have HNN := Lib.hid hnn
            clear hnn hn HI
            obtain rfl := hst.out
            clear hst
            go_wp2
            go_quiet ((go_at_call 66; (first | exact Calls.quiet_of_same (l1Most_any _ _ _) | exact quiet_same ((l1Most_any _ _ _).mono fun _ _ h => ⟨h.1, h.2.symm⟩))))
            obtain ⟨v', W', hrun, hrest⟩ := HAPP.out nq
            have HRUN := Lib.hid hrun
            have HREST := Lib.hid hrest
            clear hrun hrest HAPP
            go_wp2_with (at_builtin; refine wpList_app rfl _ _ _ rfl _ _ _ rfl rfl HRUN.out ?_; clear HRUN)
            go_roundw
            case rel => exact ⟨k2 + 1, _, rfl, by omega, by go_num, by rw [HNN.out], HREST.out⟩
            case measure => simp [intOf]; omega
          · obtain rfl : k2 = M := by omega
            obtain ⟨h1, h2, h3⟩ := HI.out
            rw [HROWC.out] at h1
            rw [HFREE.out] at h2
            obtain ⟨A', c', rfl, hseg⟩ := seg_out h1
            have hA : ∀ a, A' = some a → wo.heap.size ≤ a.block := fun a ha => (own_type (g := a.block) h1 (by rw [ha]; rfl)).2.1
            have hV2 := HV.out.1.touch h3 HV.out.2.1 HV.out.2.2.2
            obtain ⟨p1, ⟨u, p2⟩, p3, p4, p5⟩ := HV.out.1.put2 hV2 (by rw [tabV_len]) (m := j) (by rw [tabV_len]; exact hx) (c' := c') (n' := k2) (cs := ic (rowE xss p k)) (by rw [ic_len]; simp [rowE, HMM.out]) (own_low h1 hsz) hA
            rw [tabV_set, HSTEPR.out] at p1
            have hne : w.heap.size ≠ w.heap.size + 1 := by omega
            have HN : Hid (OwnV (vs.set j (A', c')) w.heap.size w.heap.size (W.setCell ⟨w.heap.size, j, none⟩ (.slice A' k2 c')) (.slice (some ⟨w.heap.size, 0, none⟩) xss.length xss.length) (tabV xss.length (doneR xss p (k + 1))) ∧ BlockIs (W.setCell ⟨w.heap.size, j, none⟩ (.slice A' k2 c')) (w.heap.size + 1) 3 (freeA (eAt xss p (k + 1)) k2) ∧ Below w.heap.size w (W.setCell ⟨w.heap.size, j, none⟩ (.slice A' k2 c')) ∧ ∀ i (hi : i < (vs.set j (A', c')).length) a, (vs.set j (A', c'))[i].1 = some a → a.block ≠ w.heap.size + 1) := by
              refine ⟨p1, (Below.heap_setCell _ _ _ _ (show w.heap.size + 1 ≠ w.heap.size from by omega)).trans h2, HBW.out.setCell p4 _, fun i hi a ha => ?_⟩
              by_cases e' : j = i
              · subst e'
                rw [List.getElem_set_self] at ha
                have := hA a ha
                omega
              · rw [List.getElem_set_ne e'] at ha
                exact HV.out.2.2.2 i (by simpa using hi) a ha
            clear HI h1 h2 h3 hseg hA hV2 p1 hne
            go_wp2
            go_roundw
            case rel => exact ⟨k + 1, _, by omega, by go_num, HN.out⟩
            case measure => simp [intOf]; omega
      · obtain rfl : k = p.length := by omega
        obtain ⟨h1, h2, h3, h4⟩ := HV.out
        rw [doneR_all HP.out] at h1
        have HF := Lib.hid (And.intro h1 h3)
        clear h1 h2 h3 h4 HV
        go_wp2
        go_ret
        exact ⟨_, rfl, by omega, ⟨_, HF.out.1⟩, HF.out.2⟩
  · skip
    go_loopw [7] (fun i wr => ∃ (k : Nat) (vs : List (Option Addr × Nat)), k ≤ p.length ∧ i = .int .i64 (k : Int) ∧ Hid (OwnV vs w.heap.size w.heap.size wr (.slice (some ⟨w.heap.size + 1, 0, none⟩) xss.length xss.length) (tabV xss.length (doneR xss p k)) ∧ BlockIs wr (w.heap.size) 3 (freeA (eAt xss p k) M) ∧ Below w.heap.size w wr ∧ ∀ i (hi : i < vs.length) a, vs[i].1 = some a → a.block ≠ w.heap.size)) (fun i _ => p.length - (intOf i).toNat)
    case atStart =>
      refine ⟨0, _, Nat.zero_le _, rfl, OwnV.new (fun i _ => by unfold doneR; rw [if_neg (by omega)]) ?_ (by omega) (by unfold maxLen; omega), ?_, ?_, fun i hi a ha => by simp at ha⟩
      · first | exact (HNEW.out _ _ _ _).1 | exact (HNEW.out _ _ _ _).2
      · rw [← freeA_zero M (eAt xss p 0) (fun _ => rfl)]; first | exact (HNEW.out _ _ _ _).2 | exact (HNEW.out _ _ _ _).1
      · first | exact (below_drewN ((Below.refl _ _).alloc (Nat.le_refl _) _) _).alloc (by simp) _ | exact ((below_drewN (Below.refl _ _) _).alloc (Nat.le_refl _) _).alloc (by simp) _
    case round =>
      obtain ⟨k, vs, hk, rfl, HV⟩ := hrel
      obtain ⟨wo, hwo⟩ : ∃ x, x = wr := ⟨wr, rfl⟩
      subst hwo
      by_cases hlt : k < p.length
      · obtain ⟨ao, hB, hco⟩ := HORD.out k hlt
        subst hB
        have hx := HLT.out k hlt
        obtain ⟨ad, bx, dx, hA', hcx, hfx⟩ := HROW.out _ hx
        subst hA'
        have hla : ao.block < w.heap.size := by have := lt_of_cell hco; rwa [add_block] at this
        have hld : ad.block < w.heap.size := by have := lt_of_cell hcx; rwa [add_block] at this
        have hlb : bx.block < w.heap.size := by have := lt_of_cell (hfx 0 (by omega)); rwa [add_block] at this
        have HFX := Lib.hid hfx
        have HCX := Lib.hid hcx
        have HCO := Lib.hid hco
        have hgo := (own_type (g := w.heap.size + 1) HV.out.1.2.1 rfl).1
        have hgf := HV.out.2.1.lt
        have hsz := HV.out.2.2.1.size
        have hi0 : (0 : Int) ≤ k := by omega
        have hi1 : (k : Int) < p.length := by omega
        have HSTEPR := Lib.hid (doneR_step HP.out hlt)
        have HROWC := Lib.hid (HMM.out ▸ rowC_all xss p k)
        have HFREE := Lib.hid (HMM.out ▸ freeA_all xss p k)
        have HEB := Lib.hid (fun j => eAt_bd HS.out p k j)
        have HTB := Lib.hid (fun j => HS.out.tm (p.getD k 0) j)
        have HNB : Hid (∀ j, j ≤ M → 0 ≤ nowE (eAt xss p k) (tm xss (p.getD k 0)) j ∧ nowE (eAt xss p k) (tm xss (p.getD k 0)) j ≤ 200000) := fun j hj => by
          have := nowE_bd (B := 720) (m := M) (f := eAt xss p k) (by omega) (fun j _ => by have := HEB.out j; omega) HTB.out j hj
          omega
        have hx0' : (0 : Int) ≤ (p.getD k 0 : Nat) := by omega
        have hx1' : ((p.getD k 0 : Nat) : Int) < xss.length := by omega
        generalize hE : eAt xss p k = e at *
        generalize hT : tm xss (p.getD k 0) = t at *
        generalize hJ : p.getD k 0 = j at *
        have HE := Lib.hid hE
        clear hE hT hJ hco hcx hfx
        go_wp2
        go_loopw [8, 9, 10] (fun r0 z i W => ∃ (k2 : Nat) (r : Value), r = r0 ∧ k2 ≤ M ∧ i = .int .i64 (k2 : Int) ∧ z = .int .i64 (nowE e t k2) ∧ Hid (W.ownsRow wo.heap.size 3 1 r k2 (rowC e t k2) ∧ BlockIs W (w.heap.size) 3 (freeA (mixE e t k2) M) ∧ Touch (w.heap.size) (w.heap.size + 1) wo W)) (fun _ _ i _ => M - (intOf i).toNat)
        case atStart =>
          have hb0 := (Below.refl wo.heap.size wo).alloc (Nat.le_refl _) (.cells #[] 3)
          refine ⟨0, _, rfl, Nat.zero_le _, rfl, rfl, ?_, HV.out.2.1.below hb0, Touch.of_below _ _ hb0⟩
          exact (BlockIs.new wo 3 #[]).own (base := wo.heap.size) (n := 0) (c := 0) (size := 1) (Nat.le_refl _) rfl (Nat.le_refl _) (Nat.zero_le _) (Nat.le_refl _)
        case round =>
          obtain ⟨k2, r, rfl, hk2, rfl, rfl, HI⟩ := hrel
          obtain ⟨W, hW⟩ : ∃ x, x = wr := ⟨wr, rfl⟩
          subst hW
          have hbW : Below w.heap.size w W := HV.out.2.2.1.trans (HI.out.2.2.below (by omega) hsz)
          have hsW := HI.out.2.2.size
          have hcoW := (hbW.cell (p := ao.add k) (by rw [add_block]; exact hla)).trans HCO.out
          have HBW := Lib.hid hbW
          clear hbW
          by_cases hlt2 : k2 < M
          · have hcxW := (HBW.out.cell (p := ad.add j) (by rw [add_block]; exact hld)).trans HCX.out
            have hfxW := (HBW.out.cell (p := bx.add k2) (by rw [add_block]; exact hlb)).trans (HFX.out k2 hlt2)
            have hcf := HI.out.2.1.cell k2
            rw [freeA_get _ _ _ hlt2, show mixE e t k2 k2 = e k2 by unfold mixE; rw [if_neg (by omega)]] at hcf
            have hff := HI.out.2.1.frozen k2
            have hn0 := HNB.out k2 hk2
            have hn1 := HNB.out (k2 + 1) (by omega)
            have hek := HEB.out k2
            have htk := HTB.out k2
            have hst : Hid (nowE e t (k2 + 1) = max (nowE e t k2) (e k2) + t k2) := rfl
            have HAPP : Hid (∀ nq, ∃ v' W', (Builtin.append_ #[29, 29] 29 #[r, .slice (some ⟨W.heap.size, 0, none⟩) 1 1]).run Try.prog (((W.drewN nq).setCell ⟨w.heap.size, k2, none⟩ (.int .i64 (nowE e t (k2 + 1)))).alloc (.cells #[.int .i64 (nowE e t (k2 + 1))] 3)) = .ok v' W' ∧ W'.ownsRow wo.heap.size 3 1 v' (k2 + 1) (rowC e t (k2 + 1)) ∧ BlockIs W' (w.heap.size) 3 (freeA (mixE e t (k2 + 1)) M) ∧ Touch (w.heap.size) (w.heap.size + 1) wo W') := fun nq => by
              obtain ⟨h1, h2, h3⟩ := HI.out
              have hown : ((W.drewN nq).setCell ⟨w.heap.size, k2, none⟩ (.int .i64 (nowE e t (k2 + 1)))).ownsRow wo.heap.size 3 1 r k2 (rowC e t k2) := own_to (w := W.drewN nq) h1 fun g _ hB _ => Below.heap_setCell _ _ _ _ (show g ≠ w.heap.size from by omega)
              have hblk := h2.drewN nq |>.set k2 (.int .i64 (nowE e t (k2 + 1)))
              rw [freeA_mix _ _ _ _ hlt2] at hblk
              have esz : ((W.drewN nq).setCell ⟨w.heap.size, k2, none⟩ (.int .i64 (nowE e t (k2 + 1)))).heap.size = W.heap.size := by simp
              have hT2 : Touch (w.heap.size) (w.heap.size + 1) wo ((W.drewN nq).setCell ⟨w.heap.size, k2, none⟩ (.int .i64 (nowE e t (k2 + 1)))) := ⟨h3.os, h3.tape, h3.output, by rw [esz]; exact h3.size, fun g hg hne => (Below.heap_setCell _ _ _ _ (show g ≠ w.heap.size from by omega)).trans (h3.block g hg hne)⟩
              obtain ⟨v', W', hr, ho, hbb⟩ := app_one hown (by rw [esz]; exact h3.size) (nowE e t (k2 + 1)) (by omega)
              rw [esz] at hr
              rw [← rowC_step] at ho
              refine ⟨v', W', hr, ho, (hbb.block _ hgf).trans hblk, hbb.os.trans hT2.os, hbb.tape.trans hT2.tape, hbb.output.trans hT2.output, Nat.le_trans hT2.size hbb.size, fun g hg hne => (hbb.block g hg).trans (hT2.block g hg hne)⟩
            have hj0 : (0 : Int) ≤ k2 := by omega
            have hj1 : (k2 : Int) < M := by omega
            generalize hnn : nowE e t (k2 + 1) = nn at *
            generalize hn : nowE e t k2 = n at *
            generalize e k2 = ek at *
            generalize t k2 = tk at *
            have HNN := Lib.hid hnn
            clear hnn hn HI
            obtain rfl := hst.out
            clear hst
            go_wp2
            go_quiet ((go_at_call 66; (first | exact Calls.quiet_of_same (l1Most_any _ _ _) | exact quiet_same ((l1Most_any _ _ _).mono fun _ _ h => ⟨h.1, h.2.symm⟩))))
            obtain ⟨v', W', hrun, hrest⟩ := HAPP.out nq
            have HRUN := Lib.hid hrun
            have HREST := Lib.hid hrest
            clear hrun hrest HAPP
            go_wp2_with (at_builtin; refine wpList_app rfl _ _ _ rfl _ _ _ rfl rfl HRUN.out ?_; clear HRUN)
            go_roundw
            case rel => exact ⟨k2 + 1, _, rfl, by omega, by go_num, by rw [HNN.out], HREST.out⟩
            case measure => simp [intOf]; omega
          · obtain rfl : k2 = M := by omega
            obtain ⟨h1, h2, h3⟩ := HI.out
            rw [HROWC.out] at h1
            rw [HFREE.out] at h2
            obtain ⟨A', c', rfl, hseg⟩ := seg_out h1
            have hA : ∀ a, A' = some a → wo.heap.size ≤ a.block := fun a ha => (own_type (g := a.block) h1 (by rw [ha]; rfl)).2.1
            have hV2 := HV.out.1.touch h3 HV.out.2.1 HV.out.2.2.2
            obtain ⟨p1, ⟨u, p2⟩, p3, p4, p5⟩ := HV.out.1.put2 hV2 (by rw [tabV_len]) (m := j) (by rw [tabV_len]; exact hx) (c' := c') (n' := k2) (cs := ic (rowE xss p k)) (by rw [ic_len]; simp [rowE, HMM.out]) (own_low h1 hsz) hA
            rw [tabV_set, HSTEPR.out] at p1
            have hne : w.heap.size + 1 ≠ w.heap.size := by omega
            have HN : Hid (OwnV (vs.set j (A', c')) w.heap.size w.heap.size (W.setCell ⟨w.heap.size + 1, j, none⟩ (.slice A' k2 c')) (.slice (some ⟨w.heap.size + 1, 0, none⟩) xss.length xss.length) (tabV xss.length (doneR xss p (k + 1))) ∧ BlockIs (W.setCell ⟨w.heap.size + 1, j, none⟩ (.slice A' k2 c')) (w.heap.size) 3 (freeA (eAt xss p (k + 1)) k2) ∧ Below w.heap.size w (W.setCell ⟨w.heap.size + 1, j, none⟩ (.slice A' k2 c')) ∧ ∀ i (hi : i < (vs.set j (A', c')).length) a, (vs.set j (A', c'))[i].1 = some a → a.block ≠ w.heap.size) := by
              refine ⟨p1, (Below.heap_setCell _ _ _ _ (show w.heap.size ≠ w.heap.size + 1 from by omega)).trans h2, HBW.out.setCell p4 _, fun i hi a ha => ?_⟩
              by_cases e' : j = i
              · subst e'
                rw [List.getElem_set_self] at ha
                have := hA a ha
                omega
              · rw [List.getElem_set_ne e'] at ha
                exact HV.out.2.2.2 i (by simpa using hi) a ha
            clear HI h1 h2 h3 hseg hA hV2 p1 hne
            go_wp2
            go_roundw
            case rel => exact ⟨k + 1, _, by omega, by go_num, HN.out⟩
            case measure => simp [intOf]; omega
      · obtain rfl : k = p.length := by omega
        obtain ⟨h1, h2, h3, h4⟩ := HV.out
        rw [doneR_all HP.out] at h1
        have HF := Lib.hid (And.intro h1 h3)
        clear h1 h2 h3 h4 HV
        go_wp2
        go_ret
        exact ⟨_, rfl, by omega, ⟨_, HF.out.1⟩, HF.out.2⟩
end Go.Proofs.Ytdhndoccdfbefaa
