/- PairLoss of both. -/
import Derived.Test.YtgiecjcgidgpfabInv
namespace Go.Proofs.Ytgiecjcgidgpfab
open Go.RowKit
theorem Row.prN {w : World} {A : Option Addr} {xs : List (Nat × Nat)} (h : Row w A (pc (prN xs))) {k : Nat} (hk : k < xs.length) : ∃ ad, A = some ad ∧ ad.block < w.heap.size ∧
    w.cell? (ad.add (k * 2)) = some (.int .i64 (xs[k].1 : Int)) ∧ w.cell? ⟨(ad.add (k * 2)).block, (ad.add (k * 2)).off + 1, none⟩ = some (.int .i64 (xs[k].2 : Int)) ∧ w.cell? ((ad.add (k * 2)).add 1) = some (.int .i64 (xs[k].2 : Int)) := by
  obtain ⟨ad, hA, hb, h0, h1⟩ := Row.pair (k := k) h (by rw [prN_len]; exact hk)
  have e : (Proofs.Ytgiecjcgidgpfab.prN xs)[k]'(by rw [prN_len]; exact hk) = ((xs[k].1 : Int), (xs[k].2 : Int)) := by simp [Proofs.Ytgiecjcgidgpfab.prN]
  rw [e] at h0 h1
  exact ⟨ad, hA, hb, h0, h1, (congrArg w.cell? rfl).trans h1⟩
def lossR (js : List J) (o : List Int) : Int × Bool := if bothB js o 3 then (lossL js (natsOf o), true) else (0, false)
/-- What is known of the inversions of an order of a list that is ruled. -/
def LossOk (js : List J) (l : List (Nat × Nat)) : Prop := l.length ≤ 72 ∧ (∀ x ∈ l, x.1 < js.length ∧ x.2 < js.length) ∧ (∀ k, k ≤ l.length → -(2500 * k : Int) ≤ lossTo js l k ∧ lossTo js l k ≤ 2500 * k)
theorem loss_ok {js : List J} {p : List Nat} (hok : ∀ j ∈ js, okJ j = true) (hp : ∀ j ∈ p, j < js.length) (hm : p.length ≤ 8) : LossOk js (invL 3 js p) := by
  have hx : ∀ x ∈ invL 3 js p, x.1 < js.length ∧ x.2 < js.length := fun x hx => ⟨hp _ (invTo_mem 3 js hx (Nat.le_refl _)).1, hp _ (invTo_mem 3 js hx (Nat.le_refl _)).2⟩
  exact ⟨invL_len 3 js p hm, hx, lossTo_bd hok hx⟩
section
variable (A B : Option Addr) (c d n : Nat) (js : List J) (o : List Int) (w : World) (hno : n = o.length) (hr : Row w A (jc js)) (hq : Row w B (ic o)) (hn : js.length ≤ 10000000) (hm : o.length ≤ 10000000 ∧ o.length ≤ d)
include hno hr hq hn hm
set_option maxRecDepth 100000 in
set_option maxHeartbeats 4000000 in
theorem spec_PairLoss' : Calls Try.prog 43 #[.slice A js.length c, .slice B n d] w (RetNB w (lossR js o)) := by
  have HNO := Lib.hid hno
  clear hno
  have HR : Hid (lossR js o = if bothB js o 3 then (lossL js (natsOf o), true) else (0, false)) := rfl
  cases hbo : bothB js o 3
  · rw [hbo] at HR
    go_enter Try.func43, Try.ntmps43
    go_wp2_with fail
    refine (l3Both_any A B c d n js o 3 _ HNO.out hr hq hn hm.1).mono ?_
    rintro e w1 ⟨rfl, hb1⟩
    rw [hbo]
    go_wp2
    go_ret2
    exact ⟨by rw [HR.out]; rfl, hb1⟩
  · rw [hbo] at HR
    have hbo' := hbo
    obtain ⟨hu, p, rfl, _, hpl, h8, hlt⟩ := both_out hbo'
    have hpl' : p.length ≤ js.length := by omega
    clear hpl
    obtain rfl : n = p.length := by rw [HNO.out]; simp
    have HOK := Lib.hid (good_out (ruled_good hu)).2
    have HL3 := Lib.hid (l3Both_any A B c d p.length js (natI p) 3 _ HNO.out hr hq hn hm.1)
    have HO := Lib.hid (loss_ok HOK.out hlt (by omega))
    clear hbo' hu
    rw [natsOf_natI] at HR
    unfold lossL at HR
    go_enter Try.func43, Try.ntmps43
    go_wp2_with fail
    refine HL3.out.mono ?_
    rintro e w1 ⟨rfl, hb1⟩
    rw [hbo]
    go_wp2_with fail
    refine (l3Inversions_any A B c d js p 3 w1 (hr.below hb1) (hq.below hb1) HOK.out rfl hlt (by omega)).mono ?_
    rintro e w2 ⟨v, rfl, hown, hb2⟩
    obtain ⟨A9, c9, rfl, hs9⟩ := seg_out hown
    have HZ := Lib.hid (And.intro hs9.row (hb1.trans (hb2.mono hb1.size)))
    have HJ := Lib.hid (hr.below HZ.out.2)
    clear hown hb1 hb2 hs9 HL3
    generalize invL 3 js p = l at *
    have h72 := HO.out.1
    go_wp2
    go_loopw [6, 8] (fun s iv wr => ∃ k : Nat, k ≤ l.length ∧ s = .int .i64 (lossTo js l k) ∧ iv = .int .i64 (k : Int) ∧ Hid (Below w2.heap.size w2 wr)) (fun _ iv _ => l.length - (intOf iv).toNat)
    case atStart => exact ⟨0, Nat.zero_le _, by simp [lossTo], rfl, Below.refl _ _⟩
    case round =>
      obtain ⟨k, hk, rfl, rfl, HW⟩ := hrel
      by_cases hlt' : k < l.length
      · have hk0 : (0 : Int) ≤ k := by omega
        have hk1 : (k : Int) < l.length := by omega
        obtain ⟨ad, rfl, hadb, c0, c1, c2⟩ := (HZ.out.1.below HW.out).prN hlt'
        have hx := HO.out.2.1 _ (List.getElem_mem hlt')
        have HN := Lib.hid (lossTo_succ js l k hlt')
        have hbd := HO.out.2.2 (k + 1) (by omega)
        rw [HN.out] at hbd
        have HC := Lib.hid (l3Gap_any A c js 3 wr.drew (HJ.out.below HW.out).drew HOK.out l[k].1 l[k].2 hx.1 hx.2 rfl)
        clear hx
        generalize l[k].1 = x at *
        generalize l[k].2 = y at *
        generalize gapN 3 js x y = gg at *
        generalize lossTo js l k = s at *
        have hs := IntWalk.i64_in (s + gg) (by omega)
        clear hbd
        go_wp2
        go_region_with (go_at_call 63; refine HC.out.mono ?_; rintro e w5 ⟨rfl, hb5⟩)
        all_goals
          have hb5' : Below wr.heap.size wr w5 := ⟨hb5.os, hb5.tape, hb5.output, hb5.size, hb5.block⟩
          have HF := Lib.hid (HW.out.trans (hb5'.mono HW.out.size))
          clear hb5 hb5' HC
          go_wp2
          go_roundw
          case rel => exact ⟨k + 1, by omega, by rw [HN.out], by go_num, HF⟩
          case measure => simp [intOf]; omega
      · obtain rfl : k = l.length := by omega
        go_wp2
        go_ret2
        exact ⟨by rw [HR.out]; rfl, HZ.out.2.trans (HW.out.mono HZ.out.2.size)⟩
set_option maxRecDepth 100000 in
set_option maxHeartbeats 4000000 in
theorem impl_PairLoss' : Calls Try.prog 44 #[.slice A js.length c, .slice B n d] w (RetNB w (lossR js o)) := by
  have HNO := Lib.hid hno
  clear hno
  have HR : Hid (lossR js o = if bothB js o 3 then (lossL js (natsOf o), true) else (0, false)) := rfl
  cases hbx : bothB js o 3
  · rw [hbx] at HR
    go_enter Try.func44, Try.ntmps44
    go_wp2_with fail
    refine (ruleFor_any A B c d n js o 3 w HNO.out hr hq hn hm.1).mono ?_
    rintro e w1 ⟨hb1, ⟨_, v, rfl⟩ | ⟨hbo, _⟩⟩
    · go_wp2
      go_ret2
      exact ⟨by rw [HR.out]; rfl, hb1⟩
    · rw [hbx] at hbo; cases hbo
  · rw [hbx] at HR
    have hbo' := hbx
    obtain ⟨hu, p, rfl, _, hpl, h8, hlt⟩ := both_out hbo'
    have hpl' : p.length ≤ js.length := by omega
    clear hpl
    obtain rfl : n = p.length := by rw [HNO.out]; simp
    have HRF := Lib.hid (ruleFor_any A B c d p.length js (natI p) 3 w HNO.out hr hq hn hm.1)
    have HU := Lib.hid hu
    have HD : Hid (p.length ≤ d) := by show _ ≤ _; have := hm.2; simpa using this
    have HO := Lib.hid (loss_ok (good_out (ruled_good hu)).2 hlt (by omega))
    obtain ⟨f, hf, hcf, hcall⟩ : ∃ f : Nat, fRuleN 3 = f ∧ (∀ (args : Array Value) (w1 : World), (callFunc f args).run Try.prog w1 = .ok (.enter f args) w1) ∧ Hid (∀ (b : Nat) (w : World) (i k : Nat), BlockIs w b 25 #[.slice A js.length c] → Row w A (jc js) → i < js.length → k < js.length →
        Calls Try.prog f #[.int .i64 (i : Int), .int .i64 (k : Int), .pointer (some ⟨b, 0, none⟩)] w fun e w' => e = .returned (.int .i64 (gapN 3 js i k)) ∧ ∃ m, w' = w.drewN m) := by
      refine ⟨_, rfl, ?_, ?_⟩
      · intro args w1
        obtain ⟨f, hf, h1, _⟩ := rule_call (b := 0) (A := A) (c := c) (js := js) (ob := 3) rfl (ruled_good hu)
        unfold fRule at hf
        injection hf with hf
        injection hf with hf
        rw [hf]; exact h1 args w1
      · intro b
        obtain ⟨f, hf, _, h2⟩ := rule_call (b := b) (A := A) (c := c) (js := js) (ob := 3) rfl (ruled_good hu)
        unfold fRule at hf
        injection hf with hf
        injection hf with hf
        rw [hf]; exact h2
    clear hbo' hu
    rw [natsOf_natI] at HR
    unfold lossL at HR
    go_enter Try.func44, Try.ntmps44
    go_wp2_with fail
    refine HRF.out.mono ?_
    rintro e w1 ⟨hb1, ⟨hbo, v, rfl⟩ | ⟨hbo, b, rfl, hB, hbs⟩⟩
    · rw [hbx] at hbo; cases hbo
    have HC := Lib.hid (inversions_any (isRule_of HU.out) (ruled_good HU.out) w1 hB (hr.below hb1) B d p (hq.below hb1) hlt (by omega) HD.out)
    clear hbo
    have HB1 := Lib.hid (And.intro hb1 (And.intro hB (hr.below hb1)))
    clear hb1 hB
    unfold fRule at *
    rw [hf] at *
    go_wp2_with fail
    refine HC.out.mono ?_
    rintro e w2 ⟨v, rfl, hown, hb2⟩
    obtain ⟨A9, c9, rfl, hs9⟩ := seg_out hown
    have HZ := Lib.hid (And.intro hs9.row (HB1.out.1.trans (hb2.mono HB1.out.1.size)))
    have HI : Hid (∀ (w' : World) (x y : Nat), Below w2.heap.size w2 w' → x < js.length → y < js.length → Calls Try.prog f #[.int .i64 (x : Int), .int .i64 (y : Int), .pointer (some ⟨b, 0, none⟩)] w' fun e w'' => e = .returned (.int .i64 (gapN 3 js x y)) ∧ Below w'.heap.size w' w'') := fun w' x y hb hx hy => (hcall.out b w' x y ((HB1.out.2.1.below hb2).below hb) ((HB1.out.2.2.below hb2).below hb) hx hy).mono fun _ _ ⟨he, m, hm⟩ => ⟨he, hm ▸ below_drewN (Below.refl _ _) m⟩
    clear hown hb2 hs9 HC hcall HB1 HRF
    generalize invL 3 js p = l at *
    have h72 := HO.out.1
    go_wp2
    go_loopw [8, 23] (fun s iv wr => ∃ k : Nat, k ≤ l.length ∧ s = .int .i64 (lossTo js l k) ∧ iv = .int .i64 (k : Int) ∧ Hid (Below w2.heap.size w2 wr)) (fun _ iv _ => l.length - (intOf iv).toNat)
    case atStart => exact ⟨0, Nat.zero_le _, by simp [lossTo], rfl, Below.refl _ _⟩
    case round =>
      obtain ⟨k, hk, rfl, rfl, HW⟩ := hrel
      by_cases hlt' : k < l.length
      · have hk0 : (0 : Int) ≤ k := by omega
        have hk1 : (k : Int) < l.length := by omega
        obtain ⟨ad, rfl, hadb, c0, c1, c2⟩ := (HZ.out.1.below HW.out).prN hlt'
        have hx := HO.out.2.1 _ (List.getElem_mem hlt')
        have HN := Lib.hid (lossTo_succ js l k hlt')
        have hbd := HO.out.2.2 (k + 1) (by omega)
        rw [HN.out] at hbd
        have HX := Lib.hid hx
        clear hx
        have HBa := Lib.hid ((Below.refl wr.heap.size wr).alloc (Nat.le_refl _) (.cells #[.int .i64 (l[k].1 : Int), .int .i64 (l[k].2 : Int)] 86))
        generalize l[k].1 = x at *
        generalize l[k].2 = y at *
        generalize hg : gapN 3 js x y = gg at *
        generalize lossTo js l k = s at *
        have hs := IntWalk.i64_in (s + gg) (by omega)
        have HC := Lib.hid (HI.out (wr.alloc (.cells #[.int .i64 (x : Int), .int .i64 (y : Int)] 86)) x y (HW.out.trans (HBa.out.mono HW.out.size)) HX.out.1 HX.out.2)
        rw [hg] at HC
        clear hbd hg
        have hcf' := hcf #[.int .i64 (x : Int), .int .i64 (y : Int), .pointer (some ⟨b, 0, none⟩)]
        go_wp2_with fail
        refine HC.out.mono ?_
        rintro e w5 ⟨rfl, hb5⟩
        have HF := Lib.hid (HW.out.trans ((HBa.out.trans (hb5.mono HBa.out.size)).mono HW.out.size))
        clear hb5 HC HBa
        go_wp2
        go_roundw
        case rel => exact ⟨k + 1, by omega, by rw [HN.out], by go_num, HF⟩
        case measure => simp [intOf]; omega
      · obtain rfl : k = l.length := by omega
        go_wp2
        go_ret2
        exact ⟨by rw [HR.out]; rfl, HZ.out.2.trans (HW.out.mono HZ.out.2.size)⟩
end
section
variable (A B : Option Addr) (c d : Nat) (js : List J) (o : List Int) (w : World) (hr : Row w A (jc js)) (hq : Row w B (ic o)) (hn : js.length ≤ 10000000) (hm : o.length ≤ 10000000 ∧ o.length ≤ d)
include hr hq hn hm
theorem spec_PairLoss : Calls Try.prog 43 #[.slice A js.length c, .slice B o.length d] w (RetNB w (lossR js o)) := spec_PairLoss' A B c d _ js o w rfl hr hq hn hm
theorem impl_PairLoss : Calls Try.prog 44 #[.slice A js.length c, .slice B o.length d] w (RetNB w (lossR js o)) := impl_PairLoss' A B c d _ js o w rfl hr hq hn hm
end
end Go.Proofs.Ytgiecjcgidgpfab
