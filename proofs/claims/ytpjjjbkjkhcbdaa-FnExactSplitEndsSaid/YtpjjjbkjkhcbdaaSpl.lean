/- Split schedules: whether there is one, the model's. -/
import Derived.Test.YtpjjjbkjkhcbdaaSpn
import Derived.Test.YtpjjjbkjkhcbdaaGood
import Derived.Test.YtpjjjbkjkhcbdaaEndsO
import Derived.Test.YtpjjjbkjkhcbdaaRst
namespace Go.Proofs.Ytpjjjbkjkhcbdaa
open Go.RowKit
theorem l3JobB_any (A : Option Addr) (c n : Nat) (i : Int) (w : World) (hn : n ≤ 10000000) : Calls Try.prog 102 #[.slice A n c, .int .i64 i] w fun e w' => e = .returned (.bool (inB i 0 ((n : Int) - 1))) ∧ w = w' := by
  go_enter Try.func102, Try.ntmps102
  go_wp2_with fail
  refine (l1In_any _ _ _ _).mono ?_
  rintro e _ ⟨rfl, rfl⟩
  go_wp2
  go_ret
  exact ⟨rfl, rfl⟩
set_option maxRecDepth 100000 in
set_option maxHeartbeats 4000000 in
theorem l5Split_any (A B : Option Addr) (c d : Nat) (js : List J) (ss : List Sp) (w : World) (hr : Row w A (jc js)) (hq : Row w B (spc ss)) (hg : goodL js = true) (hm : ss.length ≤ 10000000) :
    Calls Try.prog 62 #[.slice A js.length c, .slice B ss.length d] w fun e w' => e = .returned (.bool (splitB js ss)) ∧ Below w.heap.size w w' := by
  obtain ⟨h8, hok⟩ := good_out hg
  have hmk := run_make_row' (P := Try.prog) 35 3 (.int .i64 0) 8 Try.underlying35 infoI rfl .i64 .i64 js.length (by omega) (by omega)
  go_enter Try.func62, Try.ntmps62
  go_wp2
  go_loopw [6, 7, 8] (fun v l i wr => ∃ (k : Nat) (now last : Int) (ds : List Int), k ≤ ss.length ∧ i = .int .i64 k ∧ v = .int .i64 now ∧ l = .int .i64 last ∧ 0 ≤ now ∧ now ≤ 1000 ∧ Hid (ds.length = js.length ∧ DoneIn ds now) ∧ BlockIs wr w.heap.size 3 (ic ds).toArray ∧ Hid (spGo js (ss.drop k) ds now last = splitB js ss) ∧ Below w.heap.size w wr) (fun _ _ i _ => ss.length - (intOf i).toNat)
  case atStart =>
    exact ⟨0, 0, -1, List.replicate js.length 0, Nat.zero_le _, rfl, rfl, rfl, by omega, by omega, ⟨List.length_replicate, doneIn_zero _⟩, by rw [← ic_made]; exact BlockIs.new _ _ _, rfl, (Below.refl _ _).alloc (Nat.le_refl _) _⟩
  case round =>
    obtain ⟨k, now, last, ds, hk, rfl, rfl, rfl, hn0, hn1, hD, hB, hE, hb⟩ := hrel
    clear hmk
    by_cases hlt : k < ss.length
    · obtain ⟨ad, hA', hbl, hc0, hc1, hc2⟩ := (hq.below hb).span hlt
      subst hA'
      have hk0 : (0 : Int) ≤ k := by omega
      have hk1 : (k : Int) < ss.length := by omega
      obtain ⟨W, hW⟩ : ∃ W, W = wr.alloc (.cells #[.int .i64 ss[k].j, .int .i64 ss[k].f, .int .i64 ss[k].t] 70) := ⟨_, rfl⟩
      have hP : BlockIs W wr.heap.size 70 #[.int .i64 ss[k].j, .int .i64 ss[k].f, .int .i64 ss[k].t] := by rw [hW]; exact BlockIs.new _ _ _
      have hbW : Below wr.heap.size wr W := by rw [hW]; exact (Below.refl _ _).alloc (Nat.le_refl _) _
      have HW := Lib.hid hW
      have HR := Lib.hid hr
      have HOK := Lib.hid hok
      have HBW := Lib.hid (hb.trans (hbW.mono hb.size))
      have HBl := Lib.hid (hB.below hbW)
      have hB0 := hB
      clear hb hB hr hok
      go_wp2
      rw [← HW.out]
      clear hc0 hc1 hc2 hq
      have hp0 := hP.cell 0
      have hp1 := hP.cell 1
      have hp2 := hP.cell 2
      simp only [List.getElem?_toArray, List.getElem?_cons_zero, List.getElem?_cons_succ] at hp0 hp1 hp2
      have HS := Lib.hid (And.intro (fun h => spGo_bad hlt hE.out h) (fun h => spGo_step hlt hE.out h))
      have HP := Lib.hid hP
      have HNEQ : Hid (wr.heap.size ≠ w.heap.size) := by show _ ≠ _; have := hB0.lt; omega
      have hWs : wr.heap.size ≤ W.heap.size := hbW.size
      clear hE hP hW hbW hB0
      generalize ss[k] = s at *
      obtain ⟨x, f, t⟩ := s
      dsimp only at hp0 hp1 hp2
      by_cases c1 : 0 ≤ x ∧ x < js.length
      · obtain ⟨q, rfl⟩ : ∃ q : Nat, x = (q : Int) := ⟨x.toNat, by omega⟩
        have hq : q < js.length := by omega
        have hin : inB (q : Int) 0 ((js.length : Int) - 1) = true := inB_yes (by omega) (by omega)
        obtain ⟨aj, hAj, _, e0, e1, e2, e3⟩ := (HR.out.below HBW.out).job hq
        subst hAj
        have hrq : (js.getD (q : Int).toNat j0).r = js[q].r := by rw [Int.toNat_natCast, getD_at js j0 hq]
        clear e0 e1 e3
        generalize js[q].r = r at *
        have hq0 : (0 : Int) ≤ q := by omega
        have hq1 : (q : Int) < js.length := by omega
        by_cases c2 : f < now
        · skip
          have HF : Hid (splitB js ss = false) := HS.out.1 (decide_eq_false (by rintro ⟨a1, a2, a3, a4, a5, a6, a7⟩; dsimp only at a1 a2 a3 a4 a5 a6 a7; omega))
          have d2 : decide (f < now) = true := decide_eq_true (by omega)
          clear HS HP HR HBl
          go_quiet ((go_at_call 102; (first | exact Calls.quiet_of ((l3JobB_any _ _ _ _ _ (by omega)).mono fun _ _ ⟨he, hw⟩ => ⟨by rw [he, hin], 0, hw.symm⟩) | exact quiet_same ((l3JobB_any _ _ _ _ _ (by omega)).mono fun _ _ ⟨he, hw⟩ => ⟨by rw [he, hin], hw⟩))))
          go_wp2
          go_ret
          exact ⟨by rw [HF.out]; rfl, below_drewN HBW.out _⟩
        by_cases c3 : f < r
        · skip
          have HF : Hid (splitB js ss = false) := HS.out.1 (decide_eq_false (by rintro ⟨a1, a2, a3, a4, a5, a6, a7⟩; dsimp only at a1 a2 a3 a4 a5 a6 a7; rw [hrq] at a4; omega))
          have d2 : decide (f < now) = false := decide_eq_false (by omega)
          have d3 : decide (f < r) = true := decide_eq_true (by omega)
          clear HS HP HR HBl
          go_quiet ((go_at_call 102; (first | exact Calls.quiet_of ((l3JobB_any _ _ _ _ _ (by omega)).mono fun _ _ ⟨he, hw⟩ => ⟨by rw [he, hin], 0, hw.symm⟩) | exact quiet_same ((l3JobB_any _ _ _ _ _ (by omega)).mono fun _ _ ⟨he, hw⟩ => ⟨by rw [he, hin], hw⟩))))
          go_wp2
          go_ret
          exact ⟨by rw [HF.out]; rfl, below_drewN HBW.out _⟩
        by_cases c4 : t ≤ f
        · skip
          have HF : Hid (splitB js ss = false) := HS.out.1 (decide_eq_false (by rintro ⟨a1, a2, a3, a4, a5, a6, a7⟩; dsimp only at a1 a2 a3 a4 a5 a6 a7; omega))
          have d2 : decide (f < now) = false := decide_eq_false (by omega)
          have d3 : decide (f < r) = false := decide_eq_false (by omega)
          have d4 : decide (t ≤ f) = true := decide_eq_true (by omega)
          clear HS HP HR HBl
          go_quiet ((go_at_call 102; (first | exact Calls.quiet_of ((l3JobB_any _ _ _ _ _ (by omega)).mono fun _ _ ⟨he, hw⟩ => ⟨by rw [he, hin], 0, hw.symm⟩) | exact quiet_same ((l3JobB_any _ _ _ _ _ (by omega)).mono fun _ _ ⟨he, hw⟩ => ⟨by rw [he, hin], hw⟩))))
          go_wp2
          go_ret
          exact ⟨by rw [HF.out]; rfl, below_drewN HBW.out _⟩
        by_cases c5 : (q : Int) = last
        · subst c5
          by_cases c6 : f = now
          · subst c6
            have HF : Hid (splitB js ss = false) := HS.out.1 (decide_eq_false (by rintro ⟨a1, a2, a3, a4, a5, a6, a7⟩; dsimp only at a1 a2 a3 a4 a5 a6 a7; omega))
            have d2 : decide (f < f) = false := decide_eq_false (by omega)
            have d3 : decide (f < r) = false := decide_eq_false (by omega)
            have d4 : decide (t ≤ f) = false := decide_eq_false (by omega)
            clear HS HP HR HBl
            go_quiet ((go_at_call 102; (first | exact Calls.quiet_of ((l3JobB_any _ _ _ _ _ (by omega)).mono fun _ _ ⟨he, hw⟩ => ⟨by rw [he, hin], 0, hw.symm⟩) | exact quiet_same ((l3JobB_any _ _ _ _ _ (by omega)).mono fun _ _ ⟨he, hw⟩ => ⟨by rw [he, hin], hw⟩))))
            go_wp2
            go_ret
            exact ⟨by rw [HF.out]; rfl, below_drewN HBW.out _⟩
          have b6 : (f == now) = false := by rw [beq_eq_false_iff_ne]; exact c6
          by_cases c7 : 1000 < t
          · skip
            have HF : Hid (splitB js ss = false) := HS.out.1 (decide_eq_false (by rintro ⟨a1, a2, a3, a4, a5, a6, a7⟩; dsimp only at a1 a2 a3 a4 a5 a6 a7; omega))
            have d2 : decide (f < now) = false := decide_eq_false (by omega)
            have d3 : decide (f < r) = false := decide_eq_false (by omega)
            have d4 : decide (t ≤ f) = false := decide_eq_false (by omega)
            have d6 : decide (f = now) = false := decide_eq_false (by omega)
            have d7 : decide (1000 < t) = true := decide_eq_true (by omega)
            clear HS HP HR HBl
            go_quiet ((go_at_call 102; (first | exact Calls.quiet_of ((l3JobB_any _ _ _ _ _ (by omega)).mono fun _ _ ⟨he, hw⟩ => ⟨by rw [he, hin], 0, hw.symm⟩) | exact quiet_same ((l3JobB_any _ _ _ _ _ (by omega)).mono fun _ _ ⟨he, hw⟩ => ⟨by rw [he, hin], hw⟩))))
            go_wp2
            go_ret
            exact ⟨by rw [HF.out]; rfl, below_drewN HBW.out _⟩
          have HO : Hid (spOk js ⟨(q : Int), f, t⟩ now (q : Int) = true) := decide_eq_true ⟨hq0, hq1, by dsimp only; omega, by dsimp only; rw [hrq]; omega, by dsimp only; omega, by rintro ⟨h1, h2⟩; dsimp only at h1 h2; omega, by dsimp only; omega⟩
          have d2 : decide (f < now) = false := decide_eq_false (by omega)
          have d3 : decide (f < r) = false := decide_eq_false (by omega)
          have d4 : decide (t ≤ f) = false := decide_eq_false (by omega)
          have d6 : decide (f = now) = false := decide_eq_false (by omega)
          have d7 : decide (1000 < t) = false := decide_eq_false (by omega)
          obtain ⟨hdl, hdi⟩ := hD.out
          have hql : q < ds.length := by omega
          have hdq := hdi q
          rw [getD_at ds 0 hql] at hdq
          have hck := HBl.out.int hql
          have hfz := HBl.out.frozen q
          generalize hdv : ds[q] = dv at *
          go_quiet ((go_at_call 102; (first | exact Calls.quiet_of ((l3JobB_any _ _ _ _ _ (by omega)).mono fun _ _ ⟨he, hw⟩ => ⟨by rw [he, hin], 0, hw.symm⟩) | exact quiet_same ((l3JobB_any _ _ _ _ _ (by omega)).mono fun _ _ ⟨he, hw⟩ => ⟨by rw [he, hin], hw⟩))))
          go_wp2
          generalize hW1 : W.drewN nq = W1
          have hp0 : W1.cell? ⟨wr.heap.size, 0, none⟩ = some (.int .i64 (q : Int)) := by rw [← hW1]; exact hp0
          have hp1 : W1.cell? ⟨wr.heap.size, 1, none⟩ = some (.int .i64 f) := by rw [← hW1]; exact hp1
          have hp2 : W1.cell? ⟨wr.heap.size, 2, none⟩ = some (.int .i64 t) := by rw [← hW1]; exact hp2
          have hck : W1.cell? ⟨w.heap.size, q, none⟩ = some (.int .i64 dv) := by rw [← hW1]; exact hck
          have hfz : W1.frozen? ⟨w.heap.size, q, none⟩ = false := by rw [← hW1]; exact hfz
          have HB1 : Hid (Below w.heap.size w W1) := by rw [← hW1]; exact below_drewN HBW.out _
          have HL1 : Hid (BlockIs W1 w.heap.size 3 (ic ds).toArray) := by rw [← hW1]; exact HBl.out.drewN _
          have HP1 : Hid (BlockIs W1 wr.heap.size 70 #[.int .i64 (q : Int), .int .i64 f, .int .i64 t]) := by rw [← hW1]; exact HP.out.drewN _
          clear hW1 HBW HBl HP
          have hne : wr.heap.size ≠ w.heap.size := by exact HNEQ.out
          have hq2 := ((HP1.out.other (a := ⟨w.heap.size, q, none⟩) hne (.int .i64 (dv + t - f)))).cell 2
          have hq0 := ((HP1.out.other (a := ⟨w.heap.size, q, none⟩) hne (.int .i64 (dv + t - f)))).cell 0
          simp only [List.getElem?_toArray, List.getElem?_cons_zero, List.getElem?_cons_succ] at hq0 hq2
          have HL2 := Lib.hid ((HL1.out.set q (.int .i64 (dv + t - f))).drew)
          rw [ic_set] at HL2
          have HB2 := Lib.hid ((HB1.out.setCell (p := ⟨w.heap.size, q, none⟩) (Nat.le_refl _) (.int .i64 (dv + t - f))).drew)
          have HA : Hid (ds.set q (dv + t - f) = addD ds ⟨(q : Int), f, t⟩) := by show _ = _; unfold addD; dsimp only; rw [Int.toNat_natCast, getD_at ds 0 hql, hdv]
          clear HL1 HB1 HP1 hdv
          go_still_tail 15, (by kernel_rfl)
          go_wp2
          go_roundw
          case rel => exact ⟨k + 1, t, (q : Int), addD ds ⟨(q : Int), f, t⟩, by omega, by go_num, rfl, rfl, by omega, by omega, ⟨by rw [addD_len]; exact hdl, doneIn_step hdi HO.out⟩, by rw [← HA.out]; exact HL2.out, HS.out.2 HO.out, HB2.out⟩
          case measure => simp [intOf]; omega
        have b5 : ((q : Int) == last) = false := by rw [beq_eq_false_iff_ne]; exact c5
        by_cases c7 : 1000 < t
        · skip
          have HF : Hid (splitB js ss = false) := HS.out.1 (decide_eq_false (by rintro ⟨a1, a2, a3, a4, a5, a6, a7⟩; dsimp only at a1 a2 a3 a4 a5 a6 a7; omega))
          have d2 : decide (f < now) = false := decide_eq_false (by omega)
          have d3 : decide (f < r) = false := decide_eq_false (by omega)
          have d4 : decide (t ≤ f) = false := decide_eq_false (by omega)
          have d5 : decide ((q : Int) = last) = false := decide_eq_false (by omega)
          have d7 : decide (1000 < t) = true := decide_eq_true (by omega)
          clear HS HP HR HBl
          go_quiet ((go_at_call 102; (first | exact Calls.quiet_of ((l3JobB_any _ _ _ _ _ (by omega)).mono fun _ _ ⟨he, hw⟩ => ⟨by rw [he, hin], 0, hw.symm⟩) | exact quiet_same ((l3JobB_any _ _ _ _ _ (by omega)).mono fun _ _ ⟨he, hw⟩ => ⟨by rw [he, hin], hw⟩))))
          go_wp2
          go_ret
          exact ⟨by rw [HF.out]; rfl, below_drewN HBW.out _⟩
        have HO : Hid (spOk js ⟨(q : Int), f, t⟩ now last = true) := decide_eq_true ⟨hq0, hq1, by dsimp only; omega, by dsimp only; rw [hrq]; omega, by dsimp only; omega, by rintro ⟨h1, h2⟩; dsimp only at h1 h2; omega, by dsimp only; omega⟩
        have d2 : decide (f < now) = false := decide_eq_false (by omega)
        have d3 : decide (f < r) = false := decide_eq_false (by omega)
        have d4 : decide (t ≤ f) = false := decide_eq_false (by omega)
        have d5 : decide ((q : Int) = last) = false := decide_eq_false (by omega)
        have d7 : decide (1000 < t) = false := decide_eq_false (by omega)
        obtain ⟨hdl, hdi⟩ := hD.out
        have hql : q < ds.length := by omega
        have hdq := hdi q
        rw [getD_at ds 0 hql] at hdq
        have hck := HBl.out.int hql
        have hfz := HBl.out.frozen q
        generalize hdv : ds[q] = dv at *
        go_quiet ((go_at_call 102; (first | exact Calls.quiet_of ((l3JobB_any _ _ _ _ _ (by omega)).mono fun _ _ ⟨he, hw⟩ => ⟨by rw [he, hin], 0, hw.symm⟩) | exact quiet_same ((l3JobB_any _ _ _ _ _ (by omega)).mono fun _ _ ⟨he, hw⟩ => ⟨by rw [he, hin], hw⟩))))
        go_wp2
        generalize hW1 : W.drewN nq = W1
        have hp0 : W1.cell? ⟨wr.heap.size, 0, none⟩ = some (.int .i64 (q : Int)) := by rw [← hW1]; exact hp0
        have hp1 : W1.cell? ⟨wr.heap.size, 1, none⟩ = some (.int .i64 f) := by rw [← hW1]; exact hp1
        have hp2 : W1.cell? ⟨wr.heap.size, 2, none⟩ = some (.int .i64 t) := by rw [← hW1]; exact hp2
        have hck : W1.cell? ⟨w.heap.size, q, none⟩ = some (.int .i64 dv) := by rw [← hW1]; exact hck
        have hfz : W1.frozen? ⟨w.heap.size, q, none⟩ = false := by rw [← hW1]; exact hfz
        have HB1 : Hid (Below w.heap.size w W1) := by rw [← hW1]; exact below_drewN HBW.out _
        have HL1 : Hid (BlockIs W1 w.heap.size 3 (ic ds).toArray) := by rw [← hW1]; exact HBl.out.drewN _
        have HP1 : Hid (BlockIs W1 wr.heap.size 70 #[.int .i64 (q : Int), .int .i64 f, .int .i64 t]) := by rw [← hW1]; exact HP.out.drewN _
        clear hW1 HBW HBl HP
        have hne : wr.heap.size ≠ w.heap.size := by exact HNEQ.out
        have hq2 := ((HP1.out.other (a := ⟨w.heap.size, q, none⟩) hne (.int .i64 (dv + t - f)))).cell 2
        have hq0 := ((HP1.out.other (a := ⟨w.heap.size, q, none⟩) hne (.int .i64 (dv + t - f)))).cell 0
        simp only [List.getElem?_toArray, List.getElem?_cons_zero, List.getElem?_cons_succ] at hq0 hq2
        have HL2 := Lib.hid ((HL1.out.set q (.int .i64 (dv + t - f))).drew)
        rw [ic_set] at HL2
        have HB2 := Lib.hid ((HB1.out.setCell (p := ⟨w.heap.size, q, none⟩) (Nat.le_refl _) (.int .i64 (dv + t - f))).drew)
        have HA : Hid (ds.set q (dv + t - f) = addD ds ⟨(q : Int), f, t⟩) := by show _ = _; unfold addD; dsimp only; rw [Int.toNat_natCast, getD_at ds 0 hql, hdv]
        clear HL1 HB1 HP1 hdv
        go_still_tail 15, (by kernel_rfl)
        go_wp2
        go_roundw
        case rel => exact ⟨k + 1, t, (q : Int), addD ds ⟨(q : Int), f, t⟩, by omega, by go_num, rfl, rfl, by omega, by omega, ⟨by rw [addD_len]; exact hdl, doneIn_step hdi HO.out⟩, by rw [← HA.out]; exact HL2.out, HS.out.2 HO.out, HB2.out⟩
        case measure => simp [intOf]; omega
      · have hin : inB x 0 ((js.length : Int) - 1) = false := inB_no (by omega)
        have HF : Hid (splitB js ss = false) := HS.out.1 (decide_eq_false (by rintro ⟨a1, a2, a3, a4, a5, a6, a7⟩; dsimp only at a1 a2 a3 a4 a5 a6 a7; omega))
        clear HS HP HR HBl
        go_quiet ((go_at_call 102; (first | exact Calls.quiet_of ((l3JobB_any _ _ _ _ _ (by omega)).mono fun _ _ ⟨he, hw⟩ => ⟨by rw [he, hin], 0, hw.symm⟩) | exact quiet_same ((l3JobB_any _ _ _ _ _ (by omega)).mono fun _ _ ⟨he, hw⟩ => ⟨by rw [he, hin], hw⟩))))
        go_wp2
        go_ret
        exact ⟨by rw [HF.out]; rfl, below_drewN HBW.out _⟩
    · obtain rfl : k = ss.length := by omega
      have hfin := spGo_end (Nat.le_refl _) hE.out
      obtain ⟨hdl, hdi⟩ := hD.out
      have HF := Lib.hid hfin
      have hr0 := hr
      clear hE hD hq hfin hr
      go_wp2
      go_loopw [10] (fun i wq => ∃ (m : Nat), m ≤ js.length ∧ i = .int .i64 m ∧ BlockIs wq w.heap.size 3 (ic ds).toArray ∧ Hid (∀ i, i < m → ds.getD i 0 = (js.map J.t).getD i 0) ∧ Below w.heap.size w wq) (fun i _ => js.length - (intOf i).toNat)
      case atStart => exact ⟨0, Nat.zero_le _, rfl, hB, fun _ h => absurd h (by omega), hb⟩
      case round =>
        obtain ⟨m, hm', rfl, hBq, hC, hbq⟩ := hrel
        clear hB hb
        by_cases hlt2 : m < js.length
        · have hm0 : (0 : Int) ≤ m := by omega
          have hm1 : (m : Int) < js.length := by omega
          obtain ⟨aj, hAj, _, e0, e1, e2, e3⟩ := (hr0.below hbq).job hlt2
          subst hAj
          have hck := hBq.int (k := m) (by omega)
          have hd1 := getD_at ds 0 (show m < ds.length by omega)
          have hj1 : (js.map J.t).getD m 0 = js[m].t := by rw [getD_at _ 0 (by simpa using hlt2)]; simp
          have HX := Lib.hid (And.intro hBq hbq)
          have HJ := Lib.hid (And.intro hd1 hj1)
          clear hBq hbq hr0 e1 e2 e3 hd1 hj1
          by_cases he : ds[m]'(by omega) = js[m].t
          · have HC : Hid (∀ i, i < m + 1 → ds.getD i 0 = (js.map J.t).getD i 0) := fun i hi => by
              rcases Nat.lt_or_ge i m with h | h
              · exact hC.out i h
              · rw [show i = m by omega, HJ.out.1, HJ.out.2]; exact he
            clear hC HJ
            rw [he] at hck
            generalize js[m].t = z at *
            clear he
            have hz : (z != z) = false := by simp
            go_wp2
            go_quiet (fail)
            go_wp2
            go_roundw
            case rel => exact ⟨m + 1, by omega, by go_num, HX.out.1.drewN _, HC.out, below_drewN HX.out.2 _⟩
            case measure => simp [intOf]; omega
          · have HN : Hid (splitB js ss = false) := by
              show _ = _
              rw [HF.out]
              refine decide_eq_false fun h => he ?_
              have : ds.getD m 0 = (js.map J.t).getD m 0 := by rw [h]
              rw [HJ.out.1, HJ.out.2] at this
              exact this
            clear HJ hC HF
            generalize js[m].t = z at *
            generalize ds[m]'(by omega) = y at *
            have hz : (y != z) = true := by simpa using he
            go_wp2
            go_quiet (fail)
            go_wp2
            go_ret
            exact ⟨by rw [HN.out]; rfl, below_drewN HX.out.2 _⟩
        · obtain rfl : m = js.length := by omega
          have HY : Hid (splitB js ss = true) := by
            show _ = _
            rw [HF.out]
            refine decide_eq_true ?_
            apply List.ext_getElem (by simpa using hdl)
            intro i h1 h2
            have := hC.out i (by omega)
            rw [getD_at _ _ h1, getD_at _ _ h2] at this
            exact this
          clear HF hC
          go_wp2
          go_ret
          exact ⟨by rw [HY.out]; rfl, hbq⟩
end Go.Proofs.Ytpjjjbkjkhcbdaa
