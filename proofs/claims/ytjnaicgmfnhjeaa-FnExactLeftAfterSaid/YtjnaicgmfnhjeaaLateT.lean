/- The late rule: the model's walk. -/
import Derived.Test.YtjnaicgmfnhjeaaLateS
import Derived.Deep.RegionLaw
import Derived.Deep.RegionWith
import Derived.Deep.Cut
namespace Go.Proofs.Ytjnaicgmfnhjeaa
open Go.RowKit
theorem one_src {W : World} {g : Nat} {t : TypeId} {cs : Array Value} (h : BlockIs W g t cs) : ∀ j u, cs.toList[j]? = some u → W.cell? ((⟨g, 0, none⟩ : Addr).add j) = some u := fun j u hu => by
  rw [Addr.add_lit, Nat.zero_add, h.cell, ← Array.getElem?_toList]; exact hu
section
variable (A : Option Addr) (c : Nat) (js : List J) (w : World) (hr : Row w A (jc js)) (hg : goodL js = true)
include hr hg
set_option maxRecDepth 100000 in
set_option maxHeartbeats 4000000 in
theorem l3Rule_any : Calls Try.prog 108 #[.slice A js.length c] w fun e w' => ∃ vt vd vs, e = .returned (.agg #[vt, vd, vs]) ∧ w'.ownsRow w.heap.size 3 1 vt (lateGo js js.length).left.length (ic (natI (lateGo js js.length).left)) ∧ w'.ownsRow w.heap.size 3 1 vd (lateGo js js.length).drop.length (ic (natI (lateGo js js.length).drop)) ∧ w'.ownsRow w.heap.size 103 2 vs (lateGo js js.length).steps.length (pc (lateGo js js.length).steps) ∧ Apart vt vd ∧ Below w.heap.size w w' := by
  obtain ⟨h8, hok⟩ := good_out hg
  have H0 := Lib.hid (late_start w)
  have HRL := Lib.hid (ruledL_len 4 js)
  have HOK := Lib.hid hok
  have HLO := Lib.hid (fun (W : World) (hb : Below w.heap.size w W) => l3Order_any A c js 4 W (hr.below hb) hg rfl)
  clear hok
  go_enter Try.func108, Try.ntmps108
  go_wp2_with fail
  refine (HLO.out _ H0.out.bl).mono ?_
  rintro e w2 ⟨vo, rfl, hown2, hb2⟩
  have hlo2 := H0.out.below hb2
  have HS2 : Hid (LateSt w (w.heap.size + 1 + 1 + 1 + 1) vo js.length (ic (natI (ruledL 4 js))) [] [] [] (.slice (some ⟨w.heap.size + 1, 0, none⟩) 0 0) (.slice (some ⟨w.heap.size + 1 + 1, 0, none⟩) 0 0) (.slice (some ⟨w.heap.size + 1 + 1 + 1, 0, none⟩) 0 0) w2) :=
    ⟨hlo2.blk, hlo2.ot, hlo2.od, hlo2.ow, own_low hown2 H0.out.bl.size, hlo2.td, Apart.symm (apart_new H0.out.ot hown2 (Nat.le_refl _)), Apart.symm (apart_new H0.out.od hown2 (Nat.le_refl _)), hlo2.bl, hlo2.lo, hlo2.res⟩
  obtain ⟨Ao, co, rfl, _⟩ := own_slice hown2
  clear hown2 hb2 hlo2 H0 HLO
  go_wp2
  go_loopw [5] (fun iv wr => ∃ (k : Nat) (vt vd vs : Value), k ≤ js.length ∧ iv = .int .i64 (k : Int) ∧ Hid (LateSt w (w.heap.size + 1 + 1 + 1 + 1) (.slice Ao js.length co) js.length (ic (natI (ruledL 4 js))) (lateGo js k).left (lateGo js k).drop (lateGo js k).steps vt vd vs wr)) (fun iv _ => js.length - (intOf iv).toNat)
  case atStart => exact ⟨0, _, _, _, Nat.zero_le _, rfl, HS2.out⟩
  case round =>
    obtain ⟨k, vt, vd, vs, hk, rfl, HS⟩ := hrel
    clear HS2
    by_cases hlt : k < js.length
    · have hk0 : (0 : Int) ≤ k := by omega
      have hk1 : (k : Int) < js.length := by omega
      have hro : k < (ruledL 4 js).length := by rw [HRL.out]; exact hlt
      have HSUC := Lib.hid (lateGo_succ js k hro)
      have hlen := lateGo_steps js k (by omega)
      have HLT : Hid (∀ x ∈ (lateGo js k).left, x < js.length) := fun x hx => lateGo_lt js (by omega) hx
      obtain ⟨ao, hAo, hco⟩ := (Row.of_own HS.out.oo).nat hro
      subst hAo
      have hxl : (ruledL 4 js)[k] < js.length := ruledTo_lt 4 js (List.getElem_mem hro)
      have HPOS : Hid (∀ W, LateSt w (w.heap.size + 1 + 1 + 1 + 1) (.slice (some ao) js.length co) js.length (ic (natI (ruledL 4 js))) (lateGo js k).left (lateGo js k).drop (lateGo js k).steps vt vd vs W → W.cell? (ao.add k) = some (.int .i64 ((ruledL 4 js)[k] : Int))) := fun W h => by
        obtain ⟨a', h1, h2⟩ := (Row.of_own h.oo).nat hro
        injection h1 with h1; subst h1; exact h2
      have HOS : Hid (∀ (W : World) (l d : List Nat) (st : List Pr) (vt vd vs : Value), LateSt w (w.heap.size + 1 + 1 + 1 + 1) (.slice (some ao) js.length co) js.length (ic (natI (ruledL 4 js))) l d st vt vd vs W → W.cell? (ao.add k) = some (.int .i64 ((ruledL 4 js)[k] : Int))) := fun W l d st vt vd vs h => by
        obtain ⟨a', h1, h2⟩ := (Row.of_own h.oo).nat hro
        injection h1 with h1; subst h1; exact h2
      clear HPOS
      obtain ⟨s, hs⟩ : ∃ s, s = lateGo js k := ⟨_, rfl⟩
      rw [← hs] at HS HSUC hlen HLT
      generalize (ruledL 4 js)[k] = x at *
      have hl8 : s.left.length ≤ 8 := by omega
      have hd8 : s.drop.length ≤ 8 := by omega
      have hst8 : s.steps.length ≤ 8 := by omega
      clear hs hlen hro
      -- one more job is taken
      have hB1 := (Below.refl wr.heap.size wr).alloc (Nat.le_refl _) (.cells #[.int .i64 (x : Int)] 3)
      obtain ⟨vt', w6, hrun, hcc, hcf, hst⟩ := (HS.out.below (show Below wr.heap.size wr (wr.alloc (.cells #[.int .i64 (x : Int)] 3)).drew from hB1.drew)).appT x ⟨wr.heap.size, 0, none⟩ (one_src (BlockIs.new wr 3 #[.int .i64 (x : Int)]).drew) (by omega)
      have hct := HS.out.cells.1.1
      have hgl := HS.out.blk.lt
      have hal : (ao.add k).block < wr.heap.size := by
        rw [add_block]; exact (own_type (g := ao.block) HS.out.oo rfl).1
      obtain ⟨g6, c6, rfl⟩ := own_succ (n := s.left.length) (by have := hst.ot; rw [List.length_append] at this; exact this)
      have HRUN := Lib.hid hrun
      have HST := Lib.hid hst
      clear hB1 hrun hst HS
      go_wp2
      go_region_law (refine step_append_at (by rfl) _ _ _ (by rfl) _ _ _ (by rfl) (by rfl) HRUN.out ?_)
      all_goals
        obtain ⟨W7, hW7⟩ : ∃ W7, W7 = w6.setCell ⟨w.heap.size + 1 + 1 + 1 + 1, 0, none⟩ (.slice (some ⟨g6, 0, none⟩) (s.left.length + 1) c6) := ⟨_, rfl⟩
        rw [← hW7] at HST ⊢
        clear hW7 hcc hcf hct hgl hal hco HRUN
        have HL : Hid ((s.left ++ [x]).length = s.left.length + 1) := by show _ = _; simp
        have HLx : Hid (∀ y ∈ s.left ++ [x], y < js.length) := fun y hy => by
          rcases List.mem_append.1 hy with h | h
          · exact HLT.out y h
          · rw [List.mem_singleton.1 h]; exact hxl
        have HTT : Hid (∀ W, Row W A (jc js) → Row W (some ⟨g6, 0, none⟩) (ic (natI (s.left ++ [x]))) → Calls Try.prog 165 #[.slice A js.length c, .slice (some ⟨g6, 0, none⟩) (s.left.length + 1) c6] W fun e w' => e = .returned (.int .i64 (timesOf js (s.left ++ [x]))) ∧ ∃ m, w' = W.drewN m) := fun W h1 h2 => by
          have h := l3Total_any A (some ⟨g6, 0, none⟩) c c6 js (s.left ++ [x]) W h1 h2 HOK.out HLx.out (by rw [HL.out]; omega)
          rw [HL.out] at h
          exact h.mono fun _ _ ⟨he, hw⟩ => ⟨he, 0, hw.symm⟩
        have HQ7 := Lib.hid (hr.below HST.out.bl)
        have HT7 := Lib.hid (row_own HST.out.ot)
        obtain ⟨aj, hAj, hbj, j0', j1', j2', j3'⟩ := HQ7.out.job hxl
        have hct := HST.out.cells.1.1
        have hgl := HST.out.blk.lt
        have hco := HOS.out _ _ _ _ _ _ _ HST.out
        have hx0 : (0 : Int) ≤ x := by omega
        have hx1 : (x : Int) < js.length := by omega
        have HD : Hid (overB js (s.left ++ [x]) x = decide (js[x].d < timesOf js (s.left ++ [x]))) := by show _ = _; unfold overB; rw [getD_at js j0 hxl]
        subst hAj
        generalize js[x] = jx at *
        by_cases hov : jx.d < timesOf js (s.left ++ [x])
        case' pos =>
          rw [decide_eq_true hov] at HD
          have HN := Lib.hid (HSUC.out.trans (lateStep_yes HD.out))
          have HLO2 : Hid (∀ W, Row W (some aj) (jc js) → Row W (some ⟨g6, 0, none⟩) (ic (natI (s.left ++ [x]))) → Calls Try.prog 166 #[.slice (some aj) js.length c, .slice (some ⟨g6, 0, none⟩) (s.left.length + 1) c6] W fun e w' => e = .returned (.int .i64 (longL js (s.left ++ [x]) : Int)) ∧ ∃ m, w' = W.drewN m) := fun W h1 h2 => by
            have h := l3Longest_any (some aj) (some ⟨g6, 0, none⟩) c c6 js (s.left ++ [x]) W h1 h2 HLx.out (by rw [HL.out]; omega) (by rw [HL.out]; omega)
            rwa [HL.out] at h
          have hll := longL_lt js (l := s.left ++ [x]) (by rw [HL.out]; omega)
          generalize longL js (s.left ++ [x]) = q at *
          have hq1 : q < s.left.length + 1 := by have := HL.out; omega
          have hq2 : (0 : Int) ≤ q := by omega
          have hq3 : (q : Int) < (s.left.length : Int) + 1 := by omega
          have HG : Hid ((s.left ++ [x]).getD q 0 = (s.left ++ [x])[q]) := getD_at _ 0 hll
          go_wp2
          go_quiet ((go_at_call 165; (first | exact Calls.quiet_of (HTT.out _ HQ7.out HT7.out) | exact quiet_in (HTT.out _ HQ7.out HT7.out))))
          have HST8 := Lib.hid (HST.out.below (below_drewN (Below.refl W7.heap.size W7) nq))
          clear HST hct hgl hco hbj j0' j1' j2' j3' HTT HQ7 HT7 hov
          generalize W7.drewN nq = W8 at *
          have hct := HST8.out.cells.1.1
          go_wp2_with fail
          refine (HLO2.out W8 (hr.below HST8.out.bl) (row_own HST8.out.ot)).mono ?_
          rintro e w9 ⟨rfl, m9, rfl⟩
          have HST9 := Lib.hid (HST8.out.below (below_drewN (Below.refl W8.heap.size W8) m9))
          clear HST8 HLO2 hct
          generalize W8.drewN m9 = W9 at *
          have hct := HST9.out.cells.1.1
          have hcq := (row_own HST9.out.ot).cell0 (k := q) (by rw [ic_len, List.length_map]; exact hll)
          rw [ic_get _ q (by rw [List.length_map]; exact hll), List.getElem_map] at hcq
          have HWO := Lib.hid (l3Without_any ⟨g6, 0, none⟩ c6 (natI (s.left ++ [x])) q W9 (row_own HST9.out.ot) (by rw [List.length_map, HL.out]; omega) (by have h1 := HST9.out.ot; have h2 := (slice_some h1).2; rw [List.length_map]; exact h2) (by rw [List.length_map]; exact hll))
          rw [List.length_map, HL.out, natI_erase, Nat.add_sub_cancel] at HWO
          have HGQ : Hid ((((s.left ++ [x])[q] : Nat) : Int) = ((s.left ++ [x])[q] : Nat)) := rfl
          generalize (s.left ++ [x])[q] = gq at *
          go_wp2_with fail
          refine HWO.out.mono ?_
          rintro e w10 ⟨v10, rfl, hown10, hb10⟩
          have hel : ((s.left ++ [x]).eraseIdx q).length = s.left.length := by rw [List.length_eraseIdx_of_lt hll, HL.out, Nat.add_sub_cancel]
          rw [← hel] at hown10
          obtain ⟨A10, c10, rfl, _⟩ := own_slice hown10
          have hs10 := HST9.out.below hb10
          have HST10 := Lib.hid (hs10.setT (l' := (s.left ++ [x]).eraseIdx q) (own_low hown10 HST9.out.bl.size) (Apart.symm (apart_new HST9.out.od hown10 (Nat.le_refl _))) (apart_new HST9.out.oo hown10 (Nat.le_refl _)))
          have hcc := hs10.blk.cell 0
          simp only [List.getElem?_toArray, List.getElem?_cons_zero] at hcc
          have hcf := hs10.blk.frozen 0
          clear HST9 hown10 hb10 hs10 HWO hct hcq
          go_upto_region 12 with (fail)
          generalize (s.left ++ [x]).eraseIdx q = L' at *
          obtain ⟨W11, hW11⟩ : ∃ W11, W11 = w10.setCell ⟨w.heap.size + 1 + 1 + 1 + 1, 0, none⟩ (.slice A10 s.left.length c10) := ⟨_, rfl⟩
          have HELN := Lib.hid hel
          rw [hel] at HST10
          rw [← hW11] at HST10 ⊢
          clear hW11 hcc hcf hel
          have hB2 := (Below.refl W11.heap.size W11).alloc (Nat.le_refl _) (.cells #[.int .i64 (gq : Int)] 3)
          obtain ⟨vd', w12, hrun, hcc, hcf, hst⟩ := (HST10.out.below hB2).appD gq ⟨W11.heap.size, 0, none⟩ (one_src (BlockIs.new W11 3 #[.int .i64 (gq : Int)])) (by omega)
          obtain ⟨gd, cd, rfl⟩ := own_succ (n := s.drop.length) (by have := hst.od; rw [List.length_append] at this; exact this)
          have hct := HST10.out.cells.1.2.1
          have HRUN := Lib.hid hrun
          have HST12 := Lib.hid hst
          clear hB2 hrun hst HST10
          go_upto_region 13 with (at_builtin; refine wpList_app_run rfl _ _ _ rfl _ _ _ rfl rfl HRUN.out ?_)
          obtain ⟨W13, hW13⟩ : ∃ W13, W13 = w12.setCell ⟨w.heap.size + 1 + 1 + 1 + 1, 1, none⟩ (.slice (some ⟨gd, 0, none⟩) (s.drop.length + 1) cd) := ⟨_, rfl⟩
          rw [← hW13] at HST12 ⊢
          clear hW13 hcc hcf hct HRUN
          rw [HG.out] at HN
          have hB3 := (Below.refl W13.heap.size W13).alloc (Nat.le_refl _) (.cells #[.int .i64 (x : Int), .int .i64 (gq : Int)] 103)
          obtain ⟨vs', w14, hrun, hcc, hcf, hst⟩ := (HST12.out.below (show Below W13.heap.size W13 (W13.alloc (.cells #[.int .i64 (x : Int), .int .i64 (gq : Int)] 103)).drew from hB3.drew)).appS x (gq : Int) ⟨W13.heap.size, 0, none⟩ (one_src (BlockIs.new W13 103 #[.int .i64 (x : Int), .int .i64 (gq : Int)]).drew) (by omega)
          obtain ⟨gs, cs, rfl⟩ := own_succ (n := s.steps.length) (by have := hst.ow; rw [List.length_append] at this; exact this)
          have hct := HST12.out.cells.1.2.2
          have hgl := HST12.out.blk.lt
          have hal : (ao.add k).block < W13.heap.size := by rw [add_block]; exact (own_type (g := ao.block) HST12.out.oo rfl).1
          have hco := HOS.out _ _ _ _ _ _ _ HST12.out
          have HRUN := Lib.hid hrun
          have HSTz := Lib.hid hst
          clear hB3 hrun hst HST12
          go_wp2
          go_region_law (refine step_append_at (by rfl) _ _ _ (by rfl) _ _ _ (by rfl) (by rfl) HRUN.out ?_)
          all_goals
            go_wp2
            go_roundw
            case rel => exact ⟨k + 1, _, _, _, by omega, by go_num, by rw [HN.out]; exact HSTz.out⟩
            case measure => simp [intOf]; omega
        case' neg =>
          rw [decide_eq_false hov] at HD
          have hdf : decide (jx.d < timesOf js (s.left ++ [x])) = false := decide_eq_false hov
          have HN := Lib.hid (HSUC.out.trans (lateStep_no HD.out))
          go_wp2
          go_quiet ((go_at_call 165; (first | exact Calls.quiet_of (HTT.out _ HQ7.out HT7.out) | exact quiet_in (HTT.out _ HQ7.out HT7.out))))
          have HST8 := Lib.hid (HST.out.below (below_drewN (Below.refl W7.heap.size W7) nq))
          clear HST hct hgl hco hbj j0' j1' j2' j3' HTT HQ7 HT7 hov
          generalize W7.drewN nq = W8 at *
          go_upto_region 13 with (fail)
          have hB3 := (Below.refl W8.heap.size W8).alloc (Nat.le_refl _) (.cells #[.int .i64 (x : Int), .int .i64 (-1)] 103)
          obtain ⟨vs', w14, hrun, hcc, hcf, hst⟩ := (HST8.out.below (show Below W8.heap.size W8 (W8.alloc (.cells #[.int .i64 (x : Int), .int .i64 (-1)] 103)).drew from hB3.drew)).appS x (-1) ⟨W8.heap.size, 0, none⟩ (one_src (BlockIs.new W8 103 #[.int .i64 (x : Int), .int .i64 (-1)]).drew) (by omega)
          obtain ⟨gs, cs, rfl⟩ := own_succ (n := s.steps.length) (by have := hst.ow; rw [List.length_append] at this; exact this)
          have hct := HST8.out.cells.1.2.2
          have hgl := HST8.out.blk.lt
          have hal : (ao.add k).block < W8.heap.size := by rw [add_block]; exact (own_type (g := ao.block) HST8.out.oo rfl).1
          have hco := HOS.out _ _ _ _ _ _ _ HST8.out
          have HRUN := Lib.hid hrun
          have HSTz := Lib.hid hst
          clear hB3 hrun hst HST8
          go_wp2
          go_region_law (refine step_append_at (by rfl) _ _ _ (by rfl) _ _ _ (by rfl) (by rfl) HRUN.out ?_)
          all_goals
            go_wp2
            go_roundw
            case rel => exact ⟨k + 1, _, _, _, by omega, by go_num, by rw [HN.out]; exact HSTz.out⟩
            case measure => simp [intOf]; omega
    · obtain rfl : k = js.length := by omega
      obtain ⟨At, ct, rfl, _⟩ := own_slice HS.out.ot
      obtain ⟨Ad, cd, rfl, _⟩ := own_slice HS.out.od
      obtain ⟨As, cs, rfl, _⟩ := own_slice HS.out.ow
      obtain ⟨⟨hc0, hc1, hc2⟩, _⟩ := HS.out.cells
      have hr0 := HS.out.res.cell 0
      have hr1 := HS.out.res.cell 1
      have hr2 := HS.out.res.cell 2
      have hf0 := HS.out.res.frozen 0
      have hf1 := HS.out.res.frozen 1
      have hf2 := HS.out.res.frozen 2
      simp only [List.getElem?_toArray, List.getElem?_cons_zero, List.getElem?_cons_succ] at hr0 hr1 hr2
      obtain ⟨W', hW'', ⟨e0, e1, e2⟩, hfin⟩ := late_fin HS.out
      have HFIN := Lib.hid hfin
      have HW := Lib.hid hW''
      clear hfin HS hW''
      go_wp2
      rw [← HW.out]
      refine bodyPost_ret (v := .agg #[.slice At (lateGo js js.length).left.length ct, .slice Ad (lateGo js js.length).drop.length cd, .slice As (lateGo js js.length).steps.length cs]) (by simp [results, Try.results108, e0, e1, e2, go_sem]) rfl ?_
      exact ⟨_, _, _, rfl, HFIN.out⟩
end
end Go.Proofs.Ytjnaicgmfnhjeaa
