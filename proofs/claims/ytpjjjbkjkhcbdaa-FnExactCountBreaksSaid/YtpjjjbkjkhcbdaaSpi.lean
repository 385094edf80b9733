/- Split schedules: whether there is one, the program's. -/
import Derived.Test.YtpjjjbkjkhcbdaaSpn
import Derived.Test.YtpjjjbkjkhcbdaaGood
import Derived.Test.YtpjjjbkjkhcbdaaSched
import Derived.Test.YtpjjjbkjkhcbdaaRst
namespace Go.Proofs.Ytpjjjbkjkhcbdaa
open Go.RowKit
/-- A span may stand in a split schedule, whatever is ahead of it. -/
def spIn (js : List J) (s : Sp) : Bool := decide (0 ≤ s.j ∧ s.j < js.length ∧ (js.getD s.j.toNat j0).r ≤ s.f ∧ s.f < s.t ∧ s.t ≤ 1000)
theorem spIn_out {js : List J} {s : Sp} (h : spIn js s = true) : 0 ≤ s.j ∧ s.j < js.length ∧ (js.getD s.j.toNat j0).r ≤ s.f ∧ s.f < s.t ∧ s.t ≤ 1000 := of_decide_eq_true h
theorem spOk_of {js : List J} {s : Sp} {now last : Int} (h : spIn js s = true) (h1 : ¬ s.f < now) (h2 : ¬ (s.f = now ∧ s.j = last)) : spOk js s now last = true := by
  obtain ⟨a1, a2, a3, a4, a5⟩ := spIn_out h
  exact decide_eq_true ⟨a1, a2, by omega, a3, a4, fun h => h2 ⟨h.2, h.1⟩, a5⟩
theorem spOk_no1 {js : List J} {s : Sp} {now last : Int} (h : spIn js s = false) : spOk js s now last = false :=
  decide_eq_false fun ⟨a1, a2, _, a4, a5, _, a7⟩ => of_decide_eq_false h ⟨a1, a2, a4, a5, a7⟩
theorem spOk_no2 {js : List J} {s : Sp} {now last : Int} (h : s.f < now) : spOk js s now last = false :=
  decide_eq_false fun ⟨_, _, a3, _, _, _, _⟩ => by omega
theorem spOk_no3 {js : List J} {s : Sp} {now last : Int} (h : s.f = now ∧ s.j = last) : spOk js s now last = false :=
  decide_eq_false fun ⟨_, _, _, _, _, a6, _⟩ => a6 ⟨h.2, h.1⟩
set_option maxRecDepth 100000 in
set_option maxHeartbeats 4000000 in
theorem isSpan_any (A : Option Addr) (c : Nat) (js : List J) (x f t : Int) (w : World) (hr : Row w A (jc js)) :
    Calls Try.prog 104 #[.slice A js.length c, .agg #[.int .i64 x, .int .i64 f, .int .i64 t]] w fun e w' => e = .returned (.bool (spIn js ⟨x, f, t⟩)) ∧ Below w.heap.size w w' := by
  obtain ⟨W, hW⟩ : ∃ W, W = w.alloc (.cells #[.int .i64 x, .int .i64 f, .int .i64 t] 70) := ⟨_, rfl⟩
  have hP : BlockIs W w.heap.size 70 #[.int .i64 x, .int .i64 f, .int .i64 t] := by rw [hW]; exact BlockIs.new _ _ _
  have hbW : Below w.heap.size w W := by rw [hW]; exact (Below.refl _ _).alloc (Nat.le_refl _) _
  have hp0 := hP.cell 0
  have hp1 := hP.cell 1
  have hp2 := hP.cell 2
  simp only [List.getElem?_toArray, List.getElem?_cons_zero, List.getElem?_cons_succ] at hp0 hp1 hp2
  have HW := Lib.hid hW
  have HB := Lib.hid hbW
  have HR := Lib.hid (hr.below hbW)
  have HI : Hid (spIn js ⟨x, f, t⟩ = decide (0 ≤ x ∧ x < js.length ∧ (js.getD x.toNat j0).r ≤ f ∧ f < t ∧ t ≤ 1000)) := rfl
  clear hW hP hbW hr
  go_enter Try.func104, Try.ntmps104
  go_wp2_with fail
  rw [← HW.out]
  by_cases c1 : 0 ≤ x
  · by_cases c2 : x < js.length
    · obtain ⟨q, rfl⟩ : ∃ q : Nat, x = (q : Int) := ⟨x.toNat, by omega⟩
      have hq : q < js.length := by omega
      obtain ⟨aj, hAj, _, e0, e1, e2, e3⟩ := HR.out.job hq
      subst hAj
      have hrq : (js.getD (q : Int).toNat j0).r = js[q].r := by rw [Int.toNat_natCast, getD_at js j0 hq]
      clear e0 e1 e3
      generalize js[q].r = r at *
      have d1 : decide ((0 : Int) ≤ q) = true := decide_eq_true (by omega)
      have d2 : decide ((q : Int) < js.length) = true := decide_eq_true (by omega)
      by_cases c3 : r ≤ f
      · by_cases c4 : f < t
        · by_cases c5 : t ≤ 1000
          · skip
            have HF : Hid (spIn js ⟨(q : Int), f, t⟩ = true) := HI.out.trans (decide_eq_true (⟨c1, c2, by rw [hrq]; exact c3, c4, c5⟩))
            have d3 : decide (r ≤ f) = true := decide_eq_true (by omega)
            have d4 : decide (f < t) = true := decide_eq_true (by omega)
            have d5 : decide (t ≤ 1000) = true := decide_eq_true (by omega)
            clear HI HR
            go_quiet (fail)
            go_wp2
            go_ret
            exact ⟨by rw [HF.out]; rfl, below_drewN HB.out _⟩
          · skip
            have HF : Hid (spIn js ⟨(q : Int), f, t⟩ = false) := HI.out.trans (decide_eq_false (fun ⟨_, _, _, _, a⟩ => c5 a))
            have d3 : decide (r ≤ f) = true := decide_eq_true (by omega)
            have d4 : decide (f < t) = true := decide_eq_true (by omega)
            have d5 : decide (t ≤ 1000) = false := decide_eq_false (by omega)
            clear HI HR
            go_quiet (fail)
            go_wp2
            go_ret
            exact ⟨by rw [HF.out]; rfl, below_drewN HB.out _⟩
        · skip
          have HF : Hid (spIn js ⟨(q : Int), f, t⟩ = false) := HI.out.trans (decide_eq_false (fun ⟨_, _, _, a, _⟩ => c4 a))
          have d3 : decide (r ≤ f) = true := decide_eq_true (by omega)
          have d4 : decide (f < t) = false := decide_eq_false (by omega)
          clear HI HR
          go_quiet (fail)
          go_wp2
          go_ret
          exact ⟨by rw [HF.out]; rfl, below_drewN HB.out _⟩
      · skip
        have HF : Hid (spIn js ⟨(q : Int), f, t⟩ = false) := HI.out.trans (decide_eq_false (fun ⟨_, _, a, _, _⟩ => c3 (by rw [hrq] at a; exact a)))
        have d3 : decide (r ≤ f) = false := decide_eq_false (by omega)
        clear HI HR
        go_quiet (fail)
        go_wp2
        go_ret
        exact ⟨by rw [HF.out]; rfl, below_drewN HB.out _⟩
    · skip
      have HF : Hid (spIn js ⟨x, f, t⟩ = false) := HI.out.trans (decide_eq_false (fun ⟨_, a, _, _, _⟩ => c2 a))
      have d1 : decide ((0 : Int) ≤ x) = true := decide_eq_true (by omega)
      have d2 : decide (x < js.length) = false := decide_eq_false (by omega)
      clear HI HR
      go_quiet (fail)
      go_wp2
      go_ret
      exact ⟨by rw [HF.out]; rfl, below_drewN HB.out _⟩
  · skip
    have HF : Hid (spIn js ⟨x, f, t⟩ = false) := HI.out.trans (decide_eq_false (fun ⟨a, _, _, _, _⟩ => c1 a))
    have d1 : decide ((0 : Int) ≤ x) = false := decide_eq_false (by omega)
    clear HI HR
    go_quiet (fail)
    go_wp2
    go_ret
    exact ⟨by rw [HF.out]; rfl, below_drewN HB.out _⟩
theorem restOf_start (js : List J) : restOf js (List.replicate js.length 0) = timesR js := rfl
set_option maxRecDepth 100000 in
set_option maxHeartbeats 4000000 in
theorem isSplit_any (A B : Option Addr) (c d : Nat) (js : List J) (ss : List Sp) (w : World) (hr : Row w A (jc js)) (hq : Row w B (spc ss)) (hn : js.length ≤ 10000000) (hm : ss.length ≤ 10000000) :
    Calls Try.prog 65 #[.slice A js.length c, .slice B ss.length d] w fun e w' => e = .returned (.bool (spBothB js ss)) ∧ Below w.heap.size w w' := by
  have HBo : Hid (spBothB js ss = (goodL js && splitB js ss)) := rfl
  cases hg : goodL js
  · rw [hg] at HBo
    go_enter Try.func65, Try.ntmps65
    go_wp2_with fail
    refine (IsJobs_any A c js _ hr (by omega)).mono ?_
    rintro e w1 ⟨rfl, hb1⟩
    rw [hg]
    go_wp2
    go_ret
    exact ⟨by rw [HBo.out]; rfl, hb1⟩
  · rw [hg, Bool.true_and] at HBo
    obtain ⟨h8, hok⟩ := good_out hg
    go_enter Try.func65, Try.ntmps65
    go_wp2_with fail
    refine (IsJobs_any A c js _ hr (by omega)).mono ?_
    rintro e w1 ⟨rfl, hb1⟩
    rw [hg]
    go_wp2_with fail
    refine (restsOf_any A c js _ (hr.below hb1) h8).mono ?_
    rintro e w2 ⟨rfl, hb2⟩
    obtain ⟨a, b, c', d', e, f, g, i, hR⟩ := list8 (restOf_len js (List.replicate js.length 0))
    rw [← restOf_start, hR]
    rw [show agg8 [a, b, c', d', e, f, g, i] = .agg #[.int .i64 a, .int .i64 b, .int .i64 c', .int .i64 d', .int .i64 e, .int .i64 f, .int .i64 g, .int .i64 i] from rfl]
    have HB2 := Lib.hid (below_and hb1 hb2)
    have HRR := Lib.hid hR
    have hA0 : BlockIs ((w2.alloc (.cells #[.int .i64 a, .int .i64 b, .int .i64 c', .int .i64 d', .int .i64 e, .int .i64 f, .int .i64 g, .int .i64 i] 111)).alloc (.cells #[.int .i64 (-1), .int .i64 0, .int .i64 0] 70)) w2.heap.size 111 (ic (restOf js (List.replicate js.length 0))).toArray := by
      rw [hR]
      exact (BlockIs.new w2 111 _).below ((Below.refl _ _).alloc (Nat.le_refl _) _)
    have hA1 : BlockIs ((w2.alloc (.cells #[.int .i64 a, .int .i64 b, .int .i64 c', .int .i64 d', .int .i64 e, .int .i64 f, .int .i64 g, .int .i64 i] 111)).alloc (.cells #[.int .i64 (-1), .int .i64 0, .int .i64 0] 70)) (w2.heap.size + 1) 70 #[.int .i64 (-1), .int .i64 0, .int .i64 0] := by
      have := BlockIs.new (w2.alloc (.cells #[.int .i64 a, .int .i64 b, .int .i64 c', .int .i64 d', .int .i64 e, .int .i64 f, .int .i64 g, .int .i64 i] 111)) 70 #[.int .i64 (-1), .int .i64 0, .int .i64 0]
      rwa [show (w2.alloc (.cells #[.int .i64 a, .int .i64 b, .int .i64 c', .int .i64 d', .int .i64 e, .int .i64 f, .int .i64 g, .int .i64 i] 111)).heap.size = w2.heap.size + 1 by simp] at this
    have hA2 : Below w.heap.size w ((w2.alloc (.cells #[.int .i64 a, .int .i64 b, .int .i64 c', .int .i64 d', .int .i64 e, .int .i64 f, .int .i64 g, .int .i64 i] 111)).alloc (.cells #[.int .i64 (-1), .int .i64 0, .int .i64 0] 70)) :=
      (HB2.out.alloc HB2.out.size _).alloc (by have := HB2.out.size; simp; omega) _
    have HA := Lib.hid (And.intro hA0 (And.intro hA1 hA2))
    have HSZ := Lib.hid HB2.out.size
    have HOK := Lib.hid hok
    clear hb1 hb2 hok hR hA0 hA1 hA2
    go_wp2
    go_loopw [17] (fun i wr => ∃ (k : Nat) (now last : Int) (ds : List Int) (f0 : Value), k ≤ ss.length ∧ i = .int .i64 k ∧ 0 ≤ now ∧ now ≤ 1000 ∧ Hid (ds.length = js.length ∧ DoneIn ds now) ∧ BlockIs wr w2.heap.size 111 (ic (restOf js ds)).toArray ∧ BlockIs wr (w2.heap.size + 1) 70 #[.int .i64 last, f0, .int .i64 now] ∧ Hid (spGo js (ss.drop k) ds now last = splitB js ss) ∧ Below w.heap.size w wr) (fun i _ => ss.length - (intOf i).toNat)
    case atStart => exact ⟨0, 0, -1, List.replicate js.length 0, _, Nat.zero_le _, rfl, by omega, by omega, ⟨List.length_replicate, doneIn_zero _⟩, HA.out.1, HA.out.2.1, rfl, HA.out.2.2⟩
    case round =>
      obtain ⟨k, now, last, ds, f0, hk, rfl, hn0, hn1, hD, hR, hP, hE, hb⟩ := hrel
      clear HA HB2
      by_cases hlt : k < ss.length
      · obtain ⟨ad, hA', hbl, hc0, hc1, hc2⟩ := (hq.below hb).span hlt
        subst hA'
        have hk0 : (0 : Int) ≤ k := by omega
        have hk1 : (k : Int) < ss.length := by omega
        obtain ⟨W, hW⟩ : ∃ W, W = wr.alloc (.cells #[.int .i64 ss[k].j, .int .i64 ss[k].f, .int .i64 ss[k].t] 70) := ⟨_, rfl⟩
        have hS : BlockIs W wr.heap.size 70 #[.int .i64 ss[k].j, .int .i64 ss[k].f, .int .i64 ss[k].t] := by rw [hW]; exact BlockIs.new _ _ _
        have hbW : Below wr.heap.size wr W := by rw [hW]; exact (Below.refl _ _).alloc (Nat.le_refl _) _
        have hgs : w2.heap.size + 1 < wr.heap.size := hP.lt
        have HW := Lib.hid hW
        have HBW := Lib.hid (below_and hb hbW)
        have HR := Lib.hid (hR.below hbW)
        have HP := Lib.hid (hP.below hbW)
        have HJ := Lib.hid (hr.below (below_and hb hbW))
        have HX := Lib.hid (And.intro (fun h => spGo_bad hlt hE.out h) (fun h => spGo_step hlt hE.out h))
        have HS := Lib.hid hS
        clear hb hR hP hr hE hq
        have hp0 := hS.cell 0
        have hp1 := hS.cell 1
        have hp2 := hS.cell 2
        simp only [List.getElem?_toArray, List.getElem?_cons_zero, List.getElem?_cons_succ] at hp0 hp1 hp2
        rw [hW] at hp0 hp1 hp2
        clear hS hW hbW
        generalize ss[k] = s at *
        obtain ⟨x, fr, t⟩ := s
        dsimp only at hc0 hc1 hc2 hp0 hp1 hp2
        go_wp2_with fail
        rw [← HW.out]
        clear hc0 hc1 hc2 hp0 hp1 hp2
        refine (isSpan_any A c js x fr t W HJ.out).mono ?_
        rintro e w5 ⟨rfl, hb5⟩
        have HB5 := Lib.hid (below_and HBW.out hb5)
        have hS5 := HS.out.below hb5
        have hP5 := HP.out.below hb5
        have hR5 := HR.out.below hb5
        have hp0 := hS5.cell 0
        have hp1 := hS5.cell 1
        have hp2 := hS5.cell 2
        have ha0 := hP5.cell 0
        have ha1 := hP5.cell 1
        have ha2 := hP5.cell 2
        simp only [List.getElem?_toArray, List.getElem?_cons_zero, List.getElem?_cons_succ] at hp0 hp1 hp2 ha0 ha1 ha2
        have H5 := Lib.hid (And.intro hS5 (And.intro hP5 hR5))
        clear hS5 hP5 hR5 HBW HR HP HS hb5 HW HJ
        cases hin : spIn js ⟨x, fr, t⟩
        · have HF : Hid (splitB js ss = false) := HX.out.1 (spOk_no1 hin)
          clear HX
          go_wp2
          go_ret
          exact ⟨by rw [HBo.out, HF.out]; rfl, HB5.out⟩
        · by_cases c2 : fr < now
          · have HF : Hid (splitB js ss = false) := HX.out.1 (spOk_no2 c2)
            have d2 : decide (fr < now) = true := decide_eq_true c2
            clear HX
            go_wp2
            go_ret
            exact ⟨by rw [HBo.out, HF.out]; rfl, HB5.out⟩
          · have d2 : decide (fr < now) = false := decide_eq_false c2
            obtain ⟨x0, x1, x2, x3, x4⟩ := spIn_out hin
            dsimp only at x0 x1 x2 x3 x4
            obtain ⟨q, rfl⟩ : ∃ q : Nat, x = (q : Int) := ⟨x.toNat, by omega⟩
            have hqn : q < js.length := by omega
            have hq0 : (0 : Int) ≤ q := by omega
            have hq1 : (q : Int) < 8 := by omega
            obtain ⟨hdl, hdi⟩ := hD.out
            have hql : q < ds.length := by omega
            have hdq := hdi q
            have hrt := restOf_at js ds q (by omega)
            have hjt : (js.map J.t).getD q 0 = js[q].t := by rw [getD_at _ 0 (by simpa using hqn)]; simp
            have hok5 := okJ_out (HOK.out js[q] (List.getElem_mem hqn))
            have HA : Hid ((restOf js ds).set q ((restOf js ds).getD q 0 - (t - fr)) = restOf js (addD ds ⟨(q : Int), fr, t⟩)) := by
              show _ = _
              unfold addD
              dsimp only
              rw [Int.toNat_natCast, ← restOf_set js ds q _ hql (by omega), hrt]
              congr 1
              omega
            rw [hjt] at hrt
            have hv0 : -1000 ≤ (restOf js ds).getD q 0 ∧ (restOf js ds).getD q 0 ≤ 50 := by rw [hrt]; omega
            have hck := H5.out.2.2.int (k := q) (by rw [restOf_len]; omega)
            rw [← getD_at (restOf js ds) 0 (by rw [restOf_len]; omega)] at hck
            have hfz := H5.out.2.2.frozen q
            clear hrt hjt hok5 hdq
            generalize hvq : (restOf js ds).getD q 0 = vq at *
            have hne1 : wr.heap.size ≠ w2.heap.size := by omega
            have hne2 : w2.heap.size + 1 ≠ w2.heap.size := by omega
            have hS6 := H5.out.1.other (a := ⟨w2.heap.size, q, none⟩) hne1 (.int .i64 (vq - (t - fr)))
            have hP6 := H5.out.2.1.other (a := ⟨w2.heap.size, q, none⟩) hne2 (.int .i64 (vq - (t - fr)))
            have hR6 := H5.out.2.2.set q (.int .i64 (vq - (t - fr)))
            rw [ic_set, HA.out] at hR6
            have s0 := hS6.cell 0
            have s1 := hS6.cell 1
            have s2 := hS6.cell 2
            have p0 := hP6.cell 0
            have p1 := hP6.cell 1
            have p2 := hP6.cell 2
            have f0' := hP6.frozen 0
            have f1' := hP6.frozen 1
            have f2' := hP6.frozen 2
            simp only [List.getElem?_toArray, List.getElem?_cons_zero, List.getElem?_cons_succ] at s0 s1 s2 p0 p1 p2
            have HP7 := Lib.hid (((hP6.drew.set 0 (.int .i64 (q : Int))).set 1 (.int .i64 fr)).set 2 (.int .i64 t))
            have HR7 := Lib.hid (((hR6.drew.other (a := ⟨w2.heap.size + 1, 0, none⟩) (by simp) (.int .i64 (q : Int))).other (a := ⟨w2.heap.size + 1, 1, none⟩) (by simp) (.int .i64 fr)).other (a := ⟨w2.heap.size + 1, 2, none⟩) (by simp) (.int .i64 t))
            have HB7 := Lib.hid ((((((HB5.out.setCell (p := ⟨w2.heap.size, q, none⟩) (by have := HSZ.out; simp; omega) (.int .i64 (vq - (t - fr)))).drew).setCell (p := ⟨w2.heap.size + 1, 0, none⟩) (by have := HSZ.out; simp; omega) (.int .i64 (q : Int))).setCell (p := ⟨w2.heap.size + 1, 1, none⟩) (by have := HSZ.out; simp; omega) (.int .i64 fr)).setCell (p := ⟨w2.heap.size + 1, 2, none⟩) (by have := HSZ.out; simp; omega) (.int .i64 t)))
            have hd' : ds.length = js.length ∧ DoneIn ds now := ⟨hdl, hdi⟩
            have HD := Lib.hid hd'
            clear hS6 hP6 hR6 H5 hvq HA hD hdl hdi hd'
            by_cases c3 : fr = now
            · subst c3
              by_cases c4 : (q : Int) = last
              · subst c4
                have HF : Hid (splitB js ss = false) := HX.out.1 (spOk_no3 ⟨rfl, rfl⟩)
                clear HX
                go_wp2
                go_ret
                exact ⟨by rw [HBo.out, HF.out]; rfl, HB5.out⟩
              · have HO : Hid (spOk js ⟨(q : Int), fr, t⟩ fr last = true) := spOk_of hin c2 (fun h => c4 h.2)
                have b4 : ((q : Int) == last) = false := by rw [beq_eq_false_iff_ne]; exact c4
                have d4 : decide ((q : Int) = last) = false := decide_eq_false c4
                clear hin
                go_wp2
                go_still_tail 11, (by kernel_rfl)
                go_wp2
                go_roundw
                case rel => exact ⟨k + 1, t, (q : Int), addD ds ⟨(q : Int), fr, t⟩, _, by omega, by go_num, by omega, by omega, ⟨by rw [addD_len]; exact HD.out.1, doneIn_step HD.out.2 HO.out⟩, HR7.out, HP7.out, HX.out.2 HO.out, HB7.out⟩
                case measure => simp [intOf]; omega
            · have HO : Hid (spOk js ⟨(q : Int), fr, t⟩ now last = true) := spOk_of hin c2 (fun h => c3 h.1)
              have b3 : (fr == now) = false := by rw [beq_eq_false_iff_ne]; exact c3
              have d3 : decide (fr = now) = false := decide_eq_false c3
              clear hin
              go_wp2
              go_still_tail 11, (by kernel_rfl)
              go_wp2
              go_roundw
              case rel => exact ⟨k + 1, t, (q : Int), addD ds ⟨(q : Int), fr, t⟩, _, by omega, by go_num, by omega, by omega, ⟨by rw [addD_len]; exact HD.out.1, doneIn_step HD.out.2 HO.out⟩, HR7.out, HP7.out, HX.out.2 HO.out, HB7.out⟩
              case measure => simp [intOf]; omega
      · obtain rfl : k = ss.length := by omega
        obtain ⟨hdl, _⟩ := hD.out
        have HF : Hid (splitB js ss = decide (restOf js ds = List.replicate 8 0)) := by
          show _ = _
          rw [spGo_end (Nat.le_refl _) hE.out, decide_eq_decide]
          exact (restOf_done js ds hdl h8).symm
        obtain ⟨a, b, c', d', e, f, g, i, hRl⟩ := list8 (restOf_len js ds)
        rw [hRl] at hR HF
        have hc0 := hR.cell 0
        have hc1 := hR.cell 1
        have hc2 := hR.cell 2
        have hc3 := hR.cell 3
        have hc4 := hR.cell 4
        have hc5 := hR.cell 5
        have hc6 := hR.cell 6
        have hc7 := hR.cell 7
        simp only [ic, List.map_cons, List.map_nil, List.getElem?_toArray, List.getElem?_cons_zero, List.getElem?_cons_succ] at hc0 hc1 hc2 hc3 hc4 hc5 hc6 hc7
        have Hb := Lib.hid hb
        clear hr hq hb hR hP hE hD hRl hdl
        go_wp2_with fail
        refine (areDone_any [a, b, c', d', e, f, g, i] rfl _).mono ?_
        rintro e6 w6 ⟨rfl, hb6⟩
        rw [← HF.out]
        go_wp2
        go_ret
        exact ⟨by rw [HBo.out]; rfl, below_and Hb.out hb6⟩
end Go.Proofs.Ytpjjjbkjkhcbdaa

