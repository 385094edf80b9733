/- The program's search: one job more. -/
import Derived.Test.YtgiecjcgidgpfaaBfM
namespace Go.Proofs.Ytgiecjcgidgpfaa
open Go.RowKit
section
variable {k : Bl} {AJ : Option Addr} {cJ : Nat} {js : List J} {o : Int} {fv : Value} {w0 : World} (hw0 : w0.heap.size = k.base) (hr0 : Row w0 AJ (jc js)) (hF0 : FnIs k.base w0 o fv) (hord : k.base ≤ k.order) (husd : k.base ≤ k.used) (harr : k.base ≤ k.arr) (ho : isObj o = true) (hg : goodL js = true)
include hw0 hr0 hF0 hord husd harr ho hg
set_option maxRecDepth 100000 in
set_option maxHeartbeats 4000000 in
theorem bf_step (m : Nat) (IH : ∀ (b : List Nat) (t : Bst) (A : Option Addr) (c : Nat) (w : World), Below k.base w0 w → b.length + m = js.length → b.Nodup → (∀ j ∈ b, j < js.length) → EnvB k AJ cJ js o fv w b t A c → t.n + 8 ^ m ≤ 1000000000 →
      Calls Try.prog 172 (bfArgs k (lastGo js b 0) (partV o js b)) w (BfOut k AJ cJ js o fv w b (progTry o js m b t)))
    (b : List Nat) (t : Bst) (A : Option Addr) (c : Nat) (w : World) (hbw : Below k.base w0 w) (hl : b.length + (m + 1) = js.length) (hd : b.Nodup) (hb : ∀ j ∈ b, j < js.length) (h : EnvB k AJ cJ js o fv w b t A c) (hC : t.n + 8 ^ (m + 1) ≤ 1000000000) (hcut : ¬ (0 < t.n ∧ t.v < partV o js b)) :
    Calls Try.prog 172 (bfArgs k (lastGo js b 0) (partV o js b)) w (BfOut k AJ cJ js o fv w b (progTry o js (m + 1) b t)) := by
  obtain ⟨h8, hok⟩ := good_out hg
  obtain ⟨ad, rfl, hadb, -⟩ := hr0.job (show 0 < js.length by omega)
  obtain ⟨f, caps, rfl, -, -⟩ := cost_call hF0
  have HST := Lib.hid (prog_step (m := m) hcut)
  have hbl : ((b.length : Int) == js.length) = false := beq_eq_false_iff_ne.2 (by omega)
  have hbl' : ¬ (b.length : Int) = js.length := by omega
  have h0 := h.best.cell 0
  have h2 := h.best.cell 2
  have q0 := h.order.cell 0
  have j0' := h.jobs.cell 0
  simp at h0 h2 q0 j0'
  have hpb := partV_bd ho hg b.length b rfl (by omega) hb
  have he0 := lastGo_nonneg hok hb
  have he1 := lastGo_bd hok b 0 0 hb (by omega) (by omega)
  have HE : Hid (EnvB k (some ad) cJ js o (.func (.func f) #[] caps) w b (progTo o js m b t 0) A c) := h
  clear h
  have hrow : Hid (∀ w', Below k.base w0 w' → Row w' (some ad) (jc js)) := fun w' hb' => hr0.below (by rw [hw0]; exact hb')
  have HW0 := Lib.hid hw0
  have hbs : k.base ≤ w.heap.size := by have := hbw.size; omega
  have hcases : (¬ (0 : Int) < t.n) ∨ ((0 : Int) < t.n ∧ ¬ t.v < partV o js b) := by omega
  clear hw0 hr0 hadb
  rcases hcases with d0 | ⟨d0, d3⟩
  all_goals
    unfold bfArgs ptr
    go_enter Try.func172, Try.ntmps172
    go_wp2
    go_loopw [47] (fun i wr => ∃ (j : Nat) (A' : Option Addr) (c' : Nat), j ≤ js.length ∧ i = .int .i64 (j : Int) ∧ Hid (EnvB k (some ad) cJ js o (.func (.func f) #[] caps) wr b (progTo o js m b t j) A' c') ∧ Hid (Below k.base w wr)) (fun i _ => js.length - (intOf i).toNat)
    case atStart => exact ⟨0, A, c, Nat.zero_le _, rfl, HE, Below.refl _ _⟩
    case round =>
      obtain ⟨j, A', c', hj, rfl, HEj, HB⟩ := hrel
      clear HE h0 h2 q0 j0'
      by_cases hlt : j < js.length
      · have hj0 : (0 : Int) ≤ j := by omega
        have hj1 : (j : Int) < js.length := by omega
        have hj2 : (j : Int) < 8 := by omega
        obtain ⟨ad', hA', _, c0, c1, c2, c3⟩ := (hrow.out wr (hbw.trans HB.out)).job hlt
        injection hA' with hA'
        subst hA'
        have hul := HEj.out.used.lt
        have hu := HEj.out.used.cell j
        rw [usedA_get b j (by omega)] at hu
        by_cases hin : j ∈ b
        · rw [decide_eq_true hin] at hu
          have HP := Lib.hid (progTo_in (o := o) (js := js) (m := m) (t := t) hin)
          have hbn := (Below.refl wr.heap.size wr).alloc (Nat.le_refl _) (.cells #[.int .i64 js[j].t, .int .i64 js[j].w, .int .i64 js[j].r, .int .i64 js[j].d] 40)
          have HN := Lib.hid (And.intro (HEj.out.below hbn) (HB.out.trans (hbn.mono (by have := hbw.size; have := HB.out.size; have := HW0.out; omega))))
          clear HEj hbn
          go_wp2
          go_roundw
          case rel => exact ⟨j + 1, A', c', by omega, by go_num, by rw [HP.out]; exact HN.out.1, HN.out.2⟩
          case measure => simp [intOf]; omega
        · rw [decide_eq_false hin] at hu
          have hokj := hok _ (List.getElem_mem hlt)
          have HL : Hid (max (lastGo js b 0) js[j].r + js[j].t = lastGo js (b ++ [j]) 0) := by show _ = _; rw [last_snoc, getD_at js j0 hlt]
          have HV : Hid (extOf o b.length (partV o js b) (costOf o js[j] (lastGo js (b ++ [j]) 0)) = partV o js (b ++ [j])) := by show _ = _; rw [partV_snoc, last_snoc, getD_at js j0 hlt]
          have hnx := step_bd hokj he0 (m := b.length) (by omega)
          rw [HL.out] at hnx
          have hbn := (Below.refl wr.heap.size wr).alloc (Nat.le_refl _) (.cells #[.int .i64 js[j].t, .int .i64 js[j].w, .int .i64 js[j].r, .int .i64 js[j].d] 40)
          have hnew := BlockIs.new wr 40 #[.int .i64 js[j].t, .int .i64 js[j].w, .int .i64 js[j].r, .int .i64 js[j].d]
          have hsz0 : k.base ≤ wr.heap.size := by have := hbw.size; have := HB.out.size; have := HW0.out; omega
          have HN := Lib.hid (And.intro (HEj.out.below hbn) (And.intro (HB.out.trans (hbn.mono hsz0)) hnew))
          have HOUT := Lib.hid (progTo_out (o := o) (js := js) (m := m) (t := t) hin)
          have HCAP := Lib.hid (progTo_cap (o := o) h8 (m := m) (b := b) (t := t) hlt hC)
          have HND := Lib.hid (show (b ++ [j]).Nodup from List.nodup_append.2 ⟨hd, by simp, by intro x hx y hy; simp at hy; subst hy; exact fun e => hin (e ▸ hx)⟩)
          have HLT := Lib.hid (show ∀ i ∈ b ++ [j], i < js.length from fun i hi => by
            rcases List.mem_append.1 hi with h | h
            · exact hb i h
            · rw [List.mem_singleton.1 h]; exact hlt)
          have HIN := Lib.hid hin
          clear hbn hnew HEj hin
          generalize js[j] = x at *
          go_wp2_with fail
          refine (endAfter_any _ x _ hokj he0 (by omega)).mono ?_
          rintro e w1 ⟨rfl, hb1⟩
          rw [HL.out]
          have HN1 := Lib.hid (And.intro (HN.out.1.below hb1) (And.intro (HN.out.2.1.trans (hb1.mono (Nat.le_trans hbs HN.out.2.1.size))) (HN.out.2.2.below hb1)))
          clear HN hb1 hu hul c0 c1 c2 c3
          have m0 := HN1.out.1.meas.cell 0
          have m1 := HN1.out.1.meas.cell 1
          have q0 := HN1.out.1.order.cell 0
          have x0 := HN1.out.2.2.cell 0
          have x1 := HN1.out.2.2.cell 1
          have x2 := HN1.out.2.2.cell 2
          have x3 := HN1.out.2.2.cell 3
          simp at m0 m1 q0 x0 x1 x2 x3
          have HX := Lib.hid (extended_any (hF0.keep (w' := w1) fun b hb' => (hbw.trans HN1.out.2.1).block b hb') (by have := HN1.out.2.1.size; have := hbw.size; have := HW0.out; omega) ho b.length (by omega) (partV o js b) hpb.1 hpb.2 x hokj (lastGo js (b ++ [j]) 0) hnx.1 (by omega))
          generalize he1v : lastGo js (b ++ [j]) 0 = e1 at *
          have HE1 := Lib.hid he1v
          clear he1v
          go_wp2_with fail
          refine HX.out.mono ?_
          rintro e w2 ⟨rfl, hb2⟩
          rw [HV.out]
          have HN2 := Lib.hid (And.intro (HN1.out.1.below hb2) (HN1.out.2.1.trans (hb2.mono (Nat.le_trans hbs HN1.out.2.1.size))))
          clear HN1 hb2 HX m0 m1 q0 x0 x1 x2 x3
          obtain ⟨w3, hrun, hsz3, hb3, hE3, harr3⟩ := HN2.out.1.push_run harr j (by omega)
          have HRUN := Lib.hid hrun
          have q0 := HN2.out.1.order.cell 0
          have r0 := hE3.order.cell 0
          have rf := hE3.order.frozen 0
          have s0 := hE3.used.cell j
          have sf := hE3.used.frozen j
          rw [usedA_get b j (by omega)] at s0
          have e0 := hE3.ext.cell 0
          simp at q0 r0 e0
          have n1 : ¬ k.used = k.order := ne_type hE3.used hE3.order (by decide)
          have n2 : ¬ k.ext = k.used := ne_type hE3.ext hE3.used (by decide)
          have n3 : ¬ k.ext = k.order := ne_type hE3.ext hE3.order (by decide)
          have HN3 := Lib.hid (And.intro hE3 (And.intro (HN2.out.2.trans hb3) harr3))
          clear hrun hb3 hE3 harr3 hsz3
          go_wp2_with (at_builtin; refine wpList_append_run rfl _ _ _ rfl _ _ _ rfl rfl HRUN.out ?_)
          have hE4 := HN3.out.1.swap (b' := b ++ [j]) j (.bool true) (usedA_push b j (by omega)) HN3.out.2.2
          have hlen1 : (b ++ [j]).length = b.length + 1 := by simp
          rw [hlen1] at hE4
          have hb4 := (HN3.out.2.1.setCell (p := ⟨k.order, 0, none⟩) hord (.slice (some ⟨k.arr, 0, none⟩) (b.length + 1) js.length)).setCell (p := ⟨k.used, j, none⟩) husd (.bool true)
          have hih := IH (b ++ [j]) (progTo o js m b t j) A' c' _ (hbw.trans hb4) (by rw [hlen1]; omega) HND.out HLT.out hE4 HCAP.out
          rw [HE1.out] at hih
          have HIH := Lib.hid hih
          have HB4 := Lib.hid hb4
          clear hih hE4 hb4 hlen1 HN3 q0 r0 rf s0 sf e0
          refine HIH.out.mono ?_
          rintro e w5 ⟨rfl, ⟨A5, c5, hE5⟩, hb5⟩
          rw [← HOUT.out] at hE5
          have HN5 := Lib.hid (And.intro hE5 (HB4.out.trans hb5))
          have r0 := hE5.order.cell 0
          have rf := hE5.order.frozen 0
          have s0 := hE5.used.cell j
          have sf := hE5.used.frozen j
          rw [usedA_get _ j (by omega)] at s0
          simp at r0
          clear hE5 hb5 HIH HB4
          go_wp2
          go_roundw
          case rel => exact ⟨j + 1, A5, c5, by omega, by go_num, HN5.out.1.swap (b' := b) j (.bool false) (usedA_pop b j (by omega) HIN.out) HN5.out.1.arr_pop, (HN5.out.2.setCell (p := ⟨k.order, 0, none⟩) hord _).setCell (p := ⟨k.used, j, none⟩) husd _⟩
          case measure => simp [intOf]; omega
      · obtain rfl : j = js.length := by omega
        go_wp2
        (try simp only [Exit.inBlock, Exit.then])
        refine bodyPost_ret (results_none rfl _ _ _) rfl ?_
        exact ⟨rfl, ⟨A', c', by rw [HST.out]; exact HEj.out⟩, HB.out⟩
variable (hbest : k.base ≤ k.best)
include hbest
theorem bf_any : ∀ (m : Nat) (b : List Nat) (t : Bst) (A : Option Addr) (c : Nat) (w : World), Below k.base w0 w → b.length + m = js.length → b.Nodup → (∀ j ∈ b, j < js.length) → EnvB k AJ cJ js o fv w b t A c → t.n + 8 ^ m ≤ 1000000000 →
      Calls Try.prog 172 (bfArgs k (lastGo js b 0) (partV o js b)) w (BfOut k AJ cJ js o fv w b (progTry o js m b t)) := by
  intro m
  induction m with
  | zero =>
    intro b t A c w hbw hl hd hb h hC
    by_cases hcut : 0 < t.n ∧ t.v < partV o js b
    · refine (bf_cut h _ _ hcut.1 hcut.2).mono ?_
      rintro e w' ⟨rfl, rfl⟩
      rw [prog_cut hcut]
      exact ⟨rfl, ⟨A, c, h⟩, Below.refl _ _⟩
    · rw [prog_leaf hcut]
      exact bf_leaf h hbest (by have := hbw.size; omega) (good_out hg).1 (by omega) _ _ hcut (by simp at hC; omega)
  | succ m ih =>
    intro b t A c w hbw hl hd hb h hC
    by_cases hcut : 0 < t.n ∧ t.v < partV o js b
    · refine (bf_cut h _ _ hcut.1 hcut.2).mono ?_
      rintro e w' ⟨rfl, rfl⟩
      rw [prog_cut hcut]
      exact ⟨rfl, ⟨A, c, h⟩, Below.refl _ _⟩
    · exact bf_step hw0 hr0 hF0 hord husd harr ho hg m ih b t A c w hbw hl hd hb h hC hcut
end
end Go.Proofs.Ytgiecjcgidgpfaa
