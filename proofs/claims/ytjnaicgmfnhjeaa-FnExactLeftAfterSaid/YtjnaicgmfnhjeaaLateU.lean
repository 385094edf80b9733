/- The late rule: the program's. -/
import Derived.Test.YtjnaicgmfnhjeaaLateR
import Derived.Test.YtjnaicgmfnhjeaaLateD
import Derived.Deep.Cut
namespace Go.Proofs.Ytjnaicgmfnhjeaa
open Go.RowKit
theorem wpList_slice_hh {ops : Array Oper} {rest : List Oper} {o : Oper} {a : Act} {w : World} {Q : Exit → Act → World → Prop} (hgd : o.guard = none) (x hi : Operand)
    (ho : o.op = .slice 23 x none (some hi) none) (ad : Addr) (n c l : Nat) (hx : a.eval x = .slice (some ad) n c) (hlo : a.eval hi = .int .i64 (l : Int)) (hl : l ≤ c)
    (h : wpList Try.prog ops Q rest (a.put o.dst (.slice (some ad) l c)) w) : wpList Try.prog ops Q (o :: rest) a w := by
  refine wpList_plain hgd fun K hK => ?_
  have hr := slice_h ad n c l w hl
  rw [← hx, ← hlo] at hr
  have he := exec_slice (P := Try.prog) (o := o) (ev := a.eval) (x := x) (lo := none) (hi := some hi) (mx := none) (t := 23) (w := w) ho hr
  unfold Oper.wp
  rw [he]
  exact hK _ _ h
/-- The world in which the program's rounds begin. -/
theorem run_start {w w1 w2 : World} {vo : Value} {n : Nat} {cs : List Value} (hb1 : Below (w.alloc (.cells #[.slice none 0 0, .slice none 0 0] 99)).heap.size (w.alloc (.cells #[.slice none 0 0, .slice none 0 0] 99)) w1)
    (ho : w2.ownsRow (w1.alloc (.cells #[.slice none 0 0, .slice none 0 0] 99)).heap.size 3 1 vo n cs) (hb2 : Below (w1.alloc (.cells #[.slice none 0 0, .slice none 0 0] 99)).heap.size (w1.alloc (.cells #[.slice none 0 0, .slice none 0 0] 99)) w2) :
    RunSt w w1.heap.size vo n cs [] [] (.slice none 0 0) (.slice none 0 0) w2 := by
  have b0 := (Below.refl w.heap.size w).alloc (Nat.le_refl _) (.cells #[.slice none 0 0, .slice none 0 0] 99)
  have r0 := BlockIs.new w 99 #[.slice none 0 0, .slice none 0 0]
  have z0 : (w.alloc (.cells #[.slice none 0 0, .slice none 0 0] 99)).heap.size = w.heap.size + 1 := by simp
  have k1 := BlockIs.new w1 99 #[.slice none 0 0, .slice none 0 0]
  have ba := (Below.refl w1.heap.size w1).alloc (Nat.le_refl _) (.cells #[.slice none 0 0, .slice none 0 0] 99)
  have hs1 := hb1.size
  have B1 := b0.trans (hb1.mono b0.size)
  have B2 := B1.trans (ba.mono B1.size)
  have B3 := B2.trans (hb2.mono B2.size)
  exact ⟨k1.below hb2, World.ownsRow_nil _ _ _ _, World.ownsRow_nil _ _ _ _, own_low ho B2.size, (fun g _ h => by cases h), B3, by omega, ((r0.below hb1).below ba).below hb2⟩
def runR (js : List J) (k : Int) : Bool := ruledB js 4 && decide (0 ≤ k ∧ k ≤ js.length)
/-- What lateRunOf hands back. -/
def RunOut (w : World) (js : List J) (k : Int) (e : Ending) (w' : World) : Prop := Below w.heap.size w w' ∧ ((runR js k = false ∧ e = .returned (.tuple #[.agg #[.slice none 0 0, .slice none 0 0], .bool false])) ∨
  (runR js k = true ∧ ∃ vt vs, e = .returned (.tuple #[.agg #[vt, vs], .bool true]) ∧ w'.ownsRow w.heap.size 3 1 vt (lateGo js k.toNat).left.length (ic (natI (lateGo js k.toNat).left)) ∧ w'.ownsRow w.heap.size 103 2 vs (lateGo js k.toNat).steps.length (pc (lateGo js k.toNat).steps)))
theorem times_steps {js : List J} (hok : ∀ j ∈ js, okJ j = true) {l : List Nat} (h : ∀ j ∈ l, j < js.length) (h8 : l.length ≤ 8) : 0 ≤ timesOf js l ∧ timesOf js l ≤ 400 := by have := times_bd hok l h; omega
section
variable (A : Option Addr) (c : Nat) (js : List J) (w : World) (hr : Row w A (jc js)) (hn : js.length ≤ 10000000)
include hr hn
set_option maxRecDepth 100000 in
set_option maxHeartbeats 4000000 in
theorem lateRun_yes (m : Nat) (hu : ruledB js 4 = true) (hm : m ≤ js.length) : Calls Try.prog 111 #[.slice A js.length c, .int .i64 (m : Int)] w fun e w' => Below w.heap.size w w' ∧ ∃ vt vs, e = .returned (.tuple #[.agg #[vt, vs], .bool true]) ∧ w'.ownsRow w.heap.size 3 1 vt (lateGo js m).left.length (ic (natI (lateGo js m).left)) ∧ w'.ownsRow w.heap.size 103 2 vs (lateGo js m).steps.length (pc (lateGo js m).steps) := by
  have hg := ruled_good hu
  obtain ⟨h8, hok⟩ := good_out hg
  have HRL := Lib.hid (ruledL_len 4 js)
  have HOK := Lib.hid hok
  have HU := Lib.hid hu
  have b0 := (Below.refl w.heap.size w).alloc (Nat.le_refl _) (.cells #[.slice none 0 0, .slice none 0 0] 99)
  have HRO := Lib.hid (ruleOf_any A c js 4 _ (hr.below b0) hn)
  have HB0 := Lib.hid b0
  have hm0 : (0 : Int) ≤ m := by omega
  have hm1 : (m : Int) ≤ js.length := by omega
  have hm2 : ¬ (m : Int) < 0 := by omega
  have hm3 : ¬ (js.length : Int) < m := by omega
  have hm4 : decide ((m : Int) < 0) = false := decide_eq_false hm2
  have hm5 : decide ((js.length : Int) < (m : Int)) = false := decide_eq_false hm3
  have hm6 : decide (js.length < m) = false := decide_eq_false (by omega)
  clear hok hu b0
  go_enter Try.func111, Try.ntmps111
  go_wp2_with fail
  refine HRO.out.mono ?_
  rintro e w1 ⟨hb1, ⟨hbx, _⟩ | ⟨_, b, rfl, hB, hbs⟩⟩
  · rw [HU.out] at hbx; cases hbx
  have bA := (Below.refl w1.heap.size w1).alloc (Nat.le_refl _) (.cells #[.slice none 0 0, .slice none 0 0] 99)
  have HB1 := Lib.hid (HB0.out.trans (hb1.mono HB0.out.size))
  have HRD := Lib.hid (ruledOrder_any (ob := 4) rfl hg (w1.alloc (.cells #[.slice none 0 0, .slice none 0 0] 99)) (hB.below bA) ((hr.below HB1.out).below bA))
  have HB1R := Lib.hid hb1
  clear hB hbs hb1 bA HRO
  generalize fRule 4 b = fr at *
  go_wp2_with fail
  refine HRD.out.mono ?_
  rintro e w2 ⟨go, rfl, hown2, hb2⟩
  have HS2 := Lib.hid (run_start HB1R.out hown2 hb2)
  rw [HRL.out] at HS2
  have hlen : (ruledL 4 js).length = js.length := HRL.out
  rw [hlen]
  clear hown2 hb2 HRD HB1R hlen
  generalize w1.heap.size = bS at *
  go_wp2_with (refine wpList_slice_hh rfl _ _ rfl _ _ _ m rfl rfl (by omega) ?_)
  go_loopw [9, 40] (fun tv iv wr => ∃ (k : Nat) (vt vs : Value), k ≤ m ∧ iv = .int .i64 (k : Int) ∧ tv = .int .i64 (timesOf js (lateGo js k).left) ∧ Hid (RunSt w bS (.slice (some ⟨go, 0, none⟩) js.length js.length) js.length (ic (natI (ruledL 4 js))) (lateGo js k).left (lateGo js k).steps vt vs wr)) (fun _ iv _ => m - (intOf iv).toNat)
  case atStart => exact ⟨0, _, _, Nat.zero_le _, rfl, rfl, HS2.out⟩
  case round =>
    obtain ⟨k, vt, vs, hk, rfl, rfl, HS⟩ := hrel
    clear HS2
    by_cases hlt : k < m
    · have hk0 : (0 : Int) ≤ k := by omega
      have hk1 : (k : Int) < m := by omega
      have hro : k < (ruledL 4 js).length := by rw [HRL.out]; omega
      have HSUC := Lib.hid (lateGo_succ js k hro)
      have hlen := lateGo_steps js k (by omega)
      have HLT : Hid (∀ x ∈ (lateGo js k).left, x < js.length) := fun x hx => lateGo_lt js (by omega) hx
      have hxl : (ruledL 4 js)[k] < js.length := ruledTo_lt 4 js (List.getElem_mem hro)
      have hco : wr.cell? ⟨go, k, none⟩ = some (.int .i64 ((ruledL 4 js)[k] : Int)) := by
        have h := (row_own HS.out.oo).cell0 (k := k) (by rw [ic_len, List.length_map]; exact hro)
        rw [ic_get _ k (by rw [List.length_map]; exact hro), List.getElem_map] at h
        exact h
      obtain ⟨s, hs⟩ : ∃ s, s = lateGo js k := ⟨_, rfl⟩
      rw [← hs] at HS HSUC hlen HLT
      generalize (ruledL 4 js)[k] = x at *
      have hl8 : s.left.length ≤ 8 := by omega
      have hst8 : s.steps.length ≤ 8 := by omega
      rw [← hs]
      clear hs hlen hro
      obtain ⟨t0, t1⟩ := times_steps HOK.out HLT.out hl8
      have HL : Hid ((s.left ++ [x]).length = s.left.length + 1) := by show _ = _; simp
      have HLx : Hid (∀ y ∈ s.left ++ [x], y < js.length) := fun y hy => by
        rcases List.mem_append.1 hy with h | h
        · exact HLT.out y h
        · rw [List.mem_singleton.1 h]; exact hxl
      have HTS : Hid (timesOf js (s.left ++ [x]) = timesOf js s.left + js[x].t) := by show _ = _; rw [times_snoc]; unfold timeN; rw [getD_at js j0 hxl]
      -- one more job
      have hB1 := (Below.refl wr.heap.size wr).alloc (Nat.le_refl _) (.cells #[.int .i64 (x : Int)] 3)
      obtain ⟨vt', w6, hrun, hcc, hcf, hst⟩ := (HS.out.below hB1).appT x ⟨wr.heap.size, 0, none⟩ (one_srcR (BlockIs.new wr 3 #[.int .i64 (x : Int)])) (by omega)
      have hct := HS.out.cells.1
      have hgl := HS.out.blk.lt
      obtain ⟨g6, c6, rfl⟩ := own_succ (n := s.left.length) (by have := hst.ot; rw [List.length_append] at this; exact this)
      have HRUN := Lib.hid hrun
      have HST := Lib.hid hst
      clear hB1 hrun hst HS
      go_upto_region 9 with (at_builtin; refine wpList_app_run rfl _ _ _ rfl _ _ _ rfl rfl HRUN.out ?_)
      obtain ⟨W7, hW7⟩ : ∃ W7, W7 = w6.setCell ⟨bS, 0, none⟩ (.slice (some ⟨g6, 0, none⟩) (s.left.length + 1) c6) := ⟨_, rfl⟩
      rw [← hW7] at HST ⊢
      clear hW7 hcc hcf hct hgl hco HRUN
      obtain ⟨aj, hAj, hbj, j0', j1', j2', j3'⟩ := (hr.below HST.out.bl).job hxl
      have hx0 : (0 : Int) ≤ x := by omega
      have hx1 : (x : Int) < js.length := by omega
      have hokx := okJ_out (HOK.out _ (List.getElem_mem hxl))
      have HD : Hid (overB js (s.left ++ [x]) x = decide (js[x].d < timesOf js s.left + js[x].t)) := by show _ = _; unfold overB; rw [getD_at js j0 hxl, HTS.out]
      subst hAj
      generalize js[x] = jx at *
      by_cases hov : jx.d < timesOf js s.left + jx.t
      · rw [decide_eq_true hov] at HD
        have HN := Lib.hid (HSUC.out.trans (lateStep_yesR HD.out))
        have HLO2 := Lib.hid (longestPlace_any (some aj) (some ⟨g6, 0, none⟩) c c6 js (s.left ++ [x]) W7 (hr.below HST.out.bl) (row_own HST.out.ot) HLx.out (by rw [HL.out]; omega) (by rw [HL.out]; omega))
        rw [HL.out] at HLO2
        have hll := longL_lt js (l := s.left ++ [x]) (by rw [HL.out]; omega)
        generalize longL js (s.left ++ [x]) = q at *
        have hq1 : q < s.left.length + 1 := by have := HL.out; omega
        have hq2 : (0 : Int) ≤ q := by omega
        have hq3 : (q : Int) < (s.left.length : Int) + 1 := by omega
        have HG : Hid ((s.left ++ [x]).getD q 0 = (s.left ++ [x])[q]) := getD_at _ 0 hll
        have hct := HST.out.cells.1
        have HTOT : Hid (timesOf js s.left + jx.t = timesOf js (s.left ++ [x])) := HTS.out.symm
        have hgt0 : (s.left ++ [x])[q] < js.length := HLx.out _ (List.getElem_mem hll)
        have HTE : Hid (timesOf js ((s.left ++ [x]).eraseIdx q) = timesOf js s.left + jx.t - js[(s.left ++ [x])[q]].t) := by
          show _ = _
          rw [times_erase js hll, HG.out, HTOT.out]; unfold timeN; rw [getD_at js j0 hgt0]
        go_wp2_with fail
        refine HLO2.out.mono ?_
        rintro e w9 ⟨rfl, m9, rfl⟩
        have HST9 := Lib.hid (HST.out.below (below_drewN (Below.refl W7.heap.size W7) m9))
        clear HST HLO2 hct hbj j0' j1' j2' j3'
        generalize W7.drewN m9 = W9 at *
        have hct := HST9.out.cells.1
        have hcq := (row_own HST9.out.ot).cell0 (k := q) (by rw [ic_len, List.length_map]; exact hll)
        rw [ic_get _ q (by rw [List.length_map]; exact hll), List.getElem_map] at hcq
        have hot9 := HST9.out.ot
        have HDEL : Hid (Calls Try.prog 168 #[.slice (some ⟨g6, 0, none⟩) (s.left.length + 1) c6, .int .i64 (q : Int), .int .i64 ((q : Int) + 1)] W9 fun e w' => e = .returned (.slice (some ⟨g6, 0, none⟩) s.left.length c6) ∧ w'.ownsRow w.heap.size 3 1 (.slice (some ⟨g6, 0, none⟩) s.left.length c6) s.left.length (ic (natI ((s.left ++ [x]).eraseIdx q))) ∧ W9.grownBy w' (some g6)) := by
          rw [← HL.out] at hot9
          have h := del_own hot9 hll
          rw [HL.out, Nat.add_sub_cancel] at h
          exact h
        clear hot9
        generalize (s.left ++ [x])[q] = gq at *
        have hgq0 : (0 : Int) ≤ gq := by omega
        have hgq1 : (gq : Int) < js.length := by omega
        go_wp2_with fail
        refine HDEL.out.mono ?_
        rintro e w10 ⟨rfl, hown10, hgr10⟩
        have hel : ((s.left ++ [x]).eraseIdx q).length = s.left.length := by rw [List.length_eraseIdx_of_lt hll, HL.out, Nat.add_sub_cancel]
        have hturn := HST9.out.turn (W' := w10) (l' := (s.left ++ [x]).eraseIdx q) (v' := .slice (some ⟨g6, 0, none⟩) s.left.length c6) hgr10 (by rw [hel]; exact hown10) (fun g h1 h2 => HST9.out.ovt g h1 h2)
        obtain ⟨hcc, hcf, hst10⟩ := hturn
        have HST10 := Lib.hid hst10
        clear HST9 hown10 hgr10 hst10 HDEL hct hcq
        go_upto_region 15 with (fail)
        obtain ⟨W11, hW11⟩ : ∃ W11, W11 = w10.setCell ⟨bS, 0, none⟩ (.slice (some ⟨g6, 0, none⟩) s.left.length c6) := ⟨_, rfl⟩
        rw [← hW11] at HST10 ⊢
        clear hW11 hcc hcf hel
        obtain ⟨aj', hAj', hbj, j0', j1', j2', j3'⟩ := (hr.below HST10.out.bl).job hgt0
        injection hAj' with hAj'
        subst hAj'
        have hokg := okJ_out (HOK.out _ (List.getElem_mem hgt0))
        rw [HG.out] at HN
        generalize js[gq] = jg at *
        have hte0 : timesOf js s.left + jx.t - jg.t = timesOf js ((s.left ++ [x]).eraseIdx q) := HTE.out.symm
        have HTE0 := Lib.hid hte0
        clear hte0
        generalize (s.left ++ [x]).eraseIdx q = L' at *
        go_upto_region 16 with (fail)
        clear hbj j0' j1' j2' j3' hokg hokx hov
        have hB3 := (Below.refl W11.heap.size W11).alloc (Nat.le_refl _) (.cells #[.int .i64 (x : Int), .int .i64 (gq : Int)] 103)
        obtain ⟨vs', w14, hrun, hcc, hcf, hst⟩ := (HST10.out.below hB3).appS x (gq : Int) ⟨W11.heap.size, 0, none⟩ (one_srcR (BlockIs.new W11 103 #[.int .i64 (x : Int), .int .i64 (gq : Int)])) (by omega)
        obtain ⟨gs, cs, rfl⟩ := own_succ (n := s.steps.length) (by have := hst.ow; rw [List.length_append] at this; exact this)
        have hct := HST10.out.cells.2.1
        have hgl := HST10.out.blk.lt
        have HRUN := Lib.hid hrun
        have HSTz := Lib.hid hst
        clear hB3 hrun hst HST10
        go_wp2_with (at_builtin; refine wpList_app_run rfl _ _ _ rfl _ _ _ rfl rfl HRUN.out ?_)
        go_roundw
        case rel => exact ⟨k + 1, _, _, by omega, by go_num, by rw [HN.out, HTE0.out], by rw [HN.out]; exact HSTz.out⟩
        case measure => simp [intOf]; omega
      · rw [decide_eq_false hov] at HD
        have hdf : decide (jx.d < timesOf js s.left + jx.t) = false := decide_eq_false hov
        have HN := Lib.hid (HSUC.out.trans (lateStep_noR HD.out))
        go_upto_region 16 with (fail)
        clear hbj j0' j1' j2' j3' hokx hov hdf
        have hB3 := (Below.refl W7.heap.size W7).alloc (Nat.le_refl _) (.cells #[.int .i64 (x : Int), .int .i64 (-1)] 103)
        obtain ⟨vs', w14, hrun, hcc, hcf, hst⟩ := (HST.out.below hB3).appS x (-1) ⟨W7.heap.size, 0, none⟩ (one_srcR (BlockIs.new W7 103 #[.int .i64 (x : Int), .int .i64 (-1)])) (by omega)
        obtain ⟨gs, cs, rfl⟩ := own_succ (n := s.steps.length) (by have := hst.ow; rw [List.length_append] at this; exact this)
        have hct := HST.out.cells.2.1
        have hgl := HST.out.blk.lt
        have HRUN := Lib.hid hrun
        have HSTz := Lib.hid hst
        clear hB3 hrun hst HST
        go_wp2_with (at_builtin; refine wpList_app_run rfl _ _ _ rfl _ _ _ rfl rfl HRUN.out ?_)
        go_roundw
        case rel => exact ⟨k + 1, _, _, by omega, by go_num, by rw [HN.out]; show _ = Value.int _ (timesOf js (s.left ++ [x])); rw [HTS.out], by rw [HN.out]; exact HSTz.out⟩
        case measure => simp [intOf]; omega
    · obtain rfl : k = m := by omega
      obtain ⟨At, ct, rfl, _⟩ := own_slice HS.out.ot
      obtain ⟨As, cs, rfl, _⟩ := own_slice HS.out.ow
      obtain ⟨hc0, hc1, _⟩ := HS.out.cells
      have hr0 := HS.out.res.cell 0
      have hr1 := HS.out.res.cell 1
      have hf0 := HS.out.res.frozen 0
      have hf1 := HS.out.res.frozen 1
      simp only [List.getElem?_toArray, List.getElem?_cons_zero, List.getElem?_cons_succ] at hr0 hr1
      obtain ⟨W', hW'', ⟨e0, e1⟩, ho1, ho2, hbb⟩ := run_fin HS.out
      have HFIN := Lib.hid (And.intro ho1 (And.intro ho2 hbb))
      have HW := Lib.hid hW''
      clear ho1 ho2 hbb HS hW''
      go_wp2
      rw [← HW.out]
      refine bodyPost_ret (v := .tuple #[.agg #[.slice At (lateGo js k).left.length ct, .slice As (lateGo js k).steps.length cs], .bool true]) (by simp [results, Try.results111, e0, e1, go_sem]) rfl ?_
      exact ⟨HFIN.out.2.2, _, _, rfl, HFIN.out.1, HFIN.out.2.1⟩
end
section
variable (A : Option Addr) (c : Nat) (js : List J) (w : World) (hr : Row w A (jc js)) (hn : js.length ≤ 10000000)
include hr hn
set_option maxRecDepth 100000 in
set_option maxHeartbeats 1000000 in
theorem lateRun_any (k : Int) : Calls Try.prog 111 #[.slice A js.length c, .int .i64 k] w (RunOut w js k) := by
  cases hu : ruledB js 4
  · have HR : Hid (runR js k = false) := by show _ = _; unfold runR; rw [hu]; rfl
    have b0 := (Below.refl w.heap.size w).alloc (Nat.le_refl _) (.cells #[.slice none 0 0, .slice none 0 0] 99)
    have HRO := Lib.hid (ruleOf_any A c js 4 _ (hr.below b0) hn)
    have HB0 := Lib.hid (And.intro b0 (BlockIs.new w 99 #[.slice none 0 0, .slice none 0 0]))
    have HU := Lib.hid hu
    clear b0 hu
    go_enter Try.func111, Try.ntmps111
    go_wp2_with fail
    refine HRO.out.mono ?_
    rintro e w1 ⟨hb1, ⟨_, rfl⟩ | ⟨hbx, _⟩⟩
    · have HB1 := Lib.hid (HB0.out.1.trans (hb1.mono HB0.out.1.size))
      have hK := HB0.out.2.below hb1
      have e0 := hK.cell 0
      have e1 := hK.cell 1
      have f0 := hK.frozen 0
      have f1 := hK.frozen 1
      simp only [List.getElem?_toArray, List.getElem?_cons_zero, List.getElem?_cons_succ] at e0 e1
      obtain ⟨W', hW'⟩ : ∃ W', W' = (w1.setCell ⟨w.heap.size, 0, none⟩ (.slice none 0 0)).setCell ⟨w.heap.size, 1, none⟩ (.slice none 0 0) := ⟨_, rfl⟩
      have k2 := (hK.set 0 (.slice none 0 0)).set 1 (.slice none 0 0)
      have hb2 := (HB1.out.setCell (p := ⟨w.heap.size, 0, none⟩) (Nat.le_refl _) (.slice none 0 0)).setCell (p := ⟨w.heap.size, 1, none⟩) (Nat.le_refl _) (.slice none 0 0)
      have d0 := k2.cell 0
      have d1 := k2.cell 1
      rw [← hW'] at d0 d1 hb2
      have HB2 := Lib.hid hb2
      have HW := Lib.hid hW'
      have HD := Lib.hid (And.intro d0 d1)
      clear hK k2 hb1 hb2 d0 d1 hW' HB1 HB0 HRO
      go_wp2
      rw [← HW.out]
      obtain ⟨d0, d1⟩ := HD.out
      refine bodyPost_ret (v := .tuple #[.agg #[.slice none 0 0, .slice none 0 0], .bool false]) (by simp [results, Try.results111, d0, d1, go_sem]) rfl ?_
      exact ⟨HB2.out, .inl ⟨HR.out, rfl⟩⟩
    · rw [HU.out] at hbx; cases hbx
  · by_cases hk : 0 ≤ k ∧ k ≤ js.length
    · obtain ⟨m, rfl⟩ : ∃ m : Nat, k = (m : Int) := ⟨k.toNat, by omega⟩
      have HR : runR js (m : Int) = true := by unfold runR; rw [hu, Bool.true_and]; exact decide_eq_true hk
      refine (lateRun_yes A c js w hr hn m hu (by omega)).mono ?_
      rintro e w' ⟨hb, vt, vs, he, h1, h2⟩
      exact ⟨hb, .inr ⟨HR, vt, vs, he, h1, h2⟩⟩
    · have HR : Hid (runR js k = false) := by show _ = _; unfold runR; rw [decide_eq_false hk, Bool.and_false]
      have b0 := (Below.refl w.heap.size w).alloc (Nat.le_refl _) (.cells #[.slice none 0 0, .slice none 0 0] 99)
      have HRO := Lib.hid (ruleOf_any A c js 4 _ (hr.below b0) hn)
      have HB0 := Lib.hid (And.intro b0 (BlockIs.new w 99 #[.slice none 0 0, .slice none 0 0]))
      have HU := Lib.hid hu
      clear b0 hu
      have tail : Hid (∀ w1 : World, Below (w.alloc (.cells #[.slice none 0 0, .slice none 0 0] 99)).heap.size (w.alloc (.cells #[.slice none 0 0, .slice none 0 0] 99)) w1 →
          (w1.cell? ⟨w.heap.size, 0, none⟩ = some (.slice none 0 0) ∧ w1.cell? ⟨w.heap.size, 1, none⟩ = some (.slice none 0 0) ∧ w1.frozen? ⟨w.heap.size, 0, none⟩ = false ∧ w1.frozen? ⟨w.heap.size, 1, none⟩ = false) ∧
          ∃ W', W' = (w1.setCell ⟨w.heap.size, 0, none⟩ (.slice none 0 0)).setCell ⟨w.heap.size, 1, none⟩ (.slice none 0 0) ∧ W'.cell? ⟨w.heap.size, 0, none⟩ = some (.slice none 0 0) ∧ W'.cell? ⟨w.heap.size, 1, none⟩ = some (.slice none 0 0) ∧ Below w.heap.size w W') := fun w1 hb1 => by
        have HB1 := HB0.out.1.trans (hb1.mono HB0.out.1.size)
        have hK := HB0.out.2.below hb1
        have k2 := (hK.set 0 (.slice none 0 0)).set 1 (.slice none 0 0)
        exact ⟨⟨hK.cell 0, hK.cell 1, hK.frozen 0, hK.frozen 1⟩, _, rfl, k2.cell 0, k2.cell 1, (HB1.setCell (p := ⟨w.heap.size, 0, none⟩) (Nat.le_refl _) (.slice none 0 0)).setCell (p := ⟨w.heap.size, 1, none⟩) (Nat.le_refl _) (.slice none 0 0)⟩
      by_cases hk0 : k < 0
      · have hd0 : decide (k < 0) = true := decide_eq_true hk0
        go_enter Try.func111, Try.ntmps111
        go_wp2_with fail
        refine HRO.out.mono ?_
        rintro e w1 ⟨hb1, ⟨hbx, _⟩ | ⟨_, b, rfl, _, _⟩⟩
        · rw [HU.out] at hbx; cases hbx
        · obtain ⟨⟨e0, e1, f0, f1⟩, W', hW', d0, d1, hb2⟩ := tail.out w1 hb1
          have HW := Lib.hid hW'
          have HD := Lib.hid (And.intro d0 (And.intro d1 hb2))
          clear hb1 hb2 d0 d1 hW' HB0 HRO tail
          generalize fRule 4 b = fr at *
          go_wp2
          rw [← HW.out]
          obtain ⟨d0, d1, hb2⟩ := HD.out
          refine bodyPost_ret (v := .tuple #[.agg #[.slice none 0 0, .slice none 0 0], .bool false]) (by simp [results, Try.results111, d0, d1, go_sem]) rfl ?_
          exact ⟨hb2, .inl ⟨HR.out, rfl⟩⟩
      · have hd0 : decide (k < 0) = false := decide_eq_false hk0
        have hk2 : (js.length : Int) < k := by omega
        have hd1 : decide ((js.length : Int) < k) = true := decide_eq_true hk2
        go_enter Try.func111, Try.ntmps111
        go_wp2_with fail
        refine HRO.out.mono ?_
        rintro e w1 ⟨hb1, ⟨hbx, _⟩ | ⟨_, b, rfl, _, _⟩⟩
        · rw [HU.out] at hbx; cases hbx
        · obtain ⟨⟨e0, e1, f0, f1⟩, W', hW', d0, d1, hb2⟩ := tail.out w1 hb1
          have HW := Lib.hid hW'
          have HD := Lib.hid (And.intro d0 (And.intro d1 hb2))
          clear hb1 hb2 d0 d1 hW' HB0 HRO tail
          generalize fRule 4 b = fr at *
          go_wp2
          rw [← HW.out]
          obtain ⟨d0, d1, hb2⟩ := HD.out
          refine bodyPost_ret (v := .tuple #[.agg #[.slice none 0 0, .slice none 0 0], .bool false]) (by simp [results, Try.results111, d0, d1, go_sem]) rfl ?_
          exact ⟨hb2, .inl ⟨HR.out, rfl⟩⟩
end
end Go.Proofs.Ytjnaicgmfnhjeaa
