/- Inversions: the program's, and InversionsOf of both. -/
import Derived.Test.YtgiecjcgidgpfabInvS
import Derived.Test.YtgiecjcgidgpfabAppW
namespace Go.Proofs.Ytgiecjcgidgpfab
open Go.RowKit
theorem wpList_slice_l {ops : Array Oper} {rest : List Oper} {o : Oper} {a : Act} {w : World} {Q : Exit → Act → World → Prop} (hgd : o.guard = none) (x lo : Operand)
    (ho : o.op = .slice 32 x (some lo) none none) (ad : Addr) (n c l : Nat) (z : Int) (hx : a.eval x = .slice (some ad) n c) (hlo : a.eval lo = .int .i64 z) (hz : z = (l : Int)) (hl : l ≤ n)
    (h : wpList Try.prog ops Q rest (a.put o.dst (.slice (some (tailAd ad l c)) (n - l) (c - l))) w) : wpList Try.prog ops Q (o :: rest) a w := by
  subst hz
  refine wpList_plain hgd fun K hK => ?_
  have hr := slice_l ad n c l w hl
  rw [← hx, ← hlo] at hr
  have he := exec_slice (P := Try.prog) (o := o) (ev := a.eval) (x := x) (lo := some lo) (hi := none) (mx := none) (t := 32) (w := w) ho hr
  unfold Oper.wp
  rw [he]
  exact hK _ _ h
def invR (js : List J) (o : List Int) (ob : Int) : List Pr × Bool := if bothB js o ob then (prN (invL ob js (natsOf o)), true) else ([], false)
theorem invL_len (ob : Int) (js : List J) (p : List Nat) (h : p.length ≤ 8) : (invL ob js p).length ≤ 72 := by
  have h1 := invTo_len ob js p p.length
  have h3 : p.length * p.length ≤ 8 * 8 := Nat.mul_le_mul h h
  unfold invL; omega
theorem invR_len (js : List J) (o : List Int) (ob : Int) : (invR js o ob).1.length ≤ 1000 := by
  unfold invR
  by_cases h : bothB js o ob = true
  · obtain ⟨_, p, rfl, _, hpl, h8, _⟩ := both_out h
    rw [if_pos h, natsOf_natI]
    show (prN _).length ≤ _
    rw [prN_len]
    have := invL_len ob js p (by omega)
    omega
  · rw [if_neg h]; simp
section
variable {A : Option Addr} {b c : Nat} {js : List J} {ob : Int} (ho : isRule ob = true) (hg : goodL js = true)
include ho hg
set_option maxRecDepth 100000 in
set_option maxHeartbeats 4000000 in
theorem inversions_any (w : World) (hB : BlockIs w b 25 #[.slice A js.length c]) (hr : Row w A (jc js)) (B : Option Addr) (d : Nat) (p : List Nat) (hq : Row w B (ic (natI p))) (hp : ∀ j ∈ p, j < js.length) (hm : p.length ≤ 8) (hd : p.length ≤ d) :
    Calls Try.prog 74 #[fRule ob b, .slice B p.length d] w fun e w' => ∃ v, e = .returned v ∧ w'.ownsRow w.heap.size 86 2 v (invL ob js p).length (pc (prN (invL ob js p))) ∧ Below w.heap.size w w' := by
  obtain ⟨i0, hi, hz0, hz1, hz2⟩ := info_parts infoP
  have HI : Hid (∀ (w' : World) (x y : Nat), Below w.heap.size w w' → x < js.length → y < js.length → Calls Try.prog 99 #[fRule ob b, .int .i64 (x : Int), .int .i64 (y : Int)] w' fun e w'' => e = .returned (.bool (decide (0 < gapN ob js x y))) ∧ Below w'.heap.size w' w'') := fun w' x y hb hx hy => (inverts_any ho hg w' (hB.below hb) (hr.below hb) x y hx hy).mono fun _ _ ⟨he, m, hm⟩ => ⟨he, hm ▸ below_drewN (Below.refl _ _) m⟩
  clear hB hr
  unfold fRule at *
  generalize fRuleN ob = f at *
  have hb0 := (Below.refl w.heap.size w).alloc (Nat.le_refl _) (.cells #[] 86)
  have hown0 : (w.alloc (.cells #[] 86)).ownsRow w.heap.size 86 2 (.slice (some ⟨w.heap.size, 0, none⟩) 0 0) 0 [] := World.ownsRow_made w #[] 0 (Nat.le_refl _) (by unfold maxLen; omega) rfl
  have H0 := Lib.hid (And.intro hown0 hb0)
  clear hown0 hb0
  go_enter Try.func74, Try.ntmps74
  go_wp2
  go_loopw [5, 13] (fun v iv wr => ∃ i : Nat, i ≤ p.length ∧ iv = .int .i64 (i : Int) ∧ Hid (wr.ownsRow w.heap.size 86 2 v (invTo ob js p i).length (pc (prN (invTo ob js p i)))) ∧ Hid (Below w.heap.size w wr)) (fun _ iv _ => p.length - (intOf iv).toNat)
  case atStart => exact ⟨0, Nat.zero_le _, rfl, H0.out.1, H0.out.2⟩
  case round =>
    obtain ⟨i, hil, rfl, HO, HW⟩ := hrel
    clear H0
    by_cases hlt : i < p.length
    · have hi0 : (0 : Int) ≤ i := by omega
      have hi1 : (i : Int) < p.length := by omega
      have hs := IntWalk.i64_in ((i : Int) + 1) (by omega)
      obtain ⟨ad, hB', hc0⟩ := (hq.below HW.out).nat hlt
      subst hB'
      obtain ⟨m, hmd⟩ : ∃ m, m = p.length - (i + 1) := ⟨_, rfl⟩
      have HT : Hid (∀ (w' : World) (k : Nat) (h : i + 1 + k < p.length), Below w.heap.size w w' → w'.cell? ((tailAd ad (i + 1) d).add k) = some (.int .i64 (p[i + 1 + k] : Int))) := fun w' k h hb => by
        refine tail_src (xs := natI p) (hq.below hb) (by simpa using hd) k _ ?_
        simp [ic, natI, h]
      have HMD := Lib.hid hmd
      have HM8 : m ≤ 8 := by omega
      clear hmd
      have HO1 : Hid (wr.ownsRow w.heap.size 86 2 u5 (invMid ob js p i (i + 1 + 0)).length (pc (prN (invMid ob js p i (i + 1 + 0))))) := by
        show World.ownsRow _ _ _ _ _ _ _
        rw [Nat.add_zero, invMid_start]; exact HO.out
      have HX := hp _ (List.getElem_mem hlt)
      have HE := Lib.hid (getD_at p 0 hlt)
      have HL := Lib.hid hlt
      clear HO
      generalize hx : p[i] = x at *
      obtain ⟨wo, rfl⟩ : ∃ wo : World, wo = wr := ⟨_, rfl⟩
      go_wp2_with (refine wpList_slice_l rfl _ _ rfl ad _ _ (i + 1) _ rfl rfl (by omega) (by omega) ?_)
      rw [← HMD.out]
      go_wp2
      go_loopw [5, 23] (fun v kv wi => ∃ k : Nat, k ≤ m ∧ kv = .int .i64 (k : Int) ∧ Hid (wi.ownsRow w.heap.size 86 2 v (invMid ob js p i (i + 1 + k)).length (pc (prN (invMid ob js p i (i + 1 + k))))) ∧ Hid (Below w.heap.size w wi)) (fun _ kv _ => m - (intOf kv).toNat)
      case atStart => exact ⟨0, Nat.zero_le _, rfl, HO1, HW⟩
      case round =>
        obtain ⟨k, hkm, rfl, HOk, HWk⟩ := hrel
        clear HO1 hc0
        by_cases hlk : k < m
        · have hk0 : (0 : Int) ≤ k := by omega
          have hk1 : (k : Int) < m := by omega
          have hpk : i + 1 + k < p.length := by have := HMD.out; omega
          have hc1 := HT.out wr k hpk HWk.out
          have e1 := getD_at p 0 hpk
          have l1 := hp _ (List.getElem_mem hpk)
          have hlen := invMid_len ob js p i (i + 1 + k) (by omega) (by omega) hm
          have HC := Lib.hid (HI.out wr x p[i + 1 + k] HWk.out HX l1)
          have hik : i < i + 1 + k := by omega
          by_cases hg' : 0 < gapN ob js x p[i + 1 + k]
          · have HN := Lib.hid (invMid_yes (ob := ob) (js := js) (p := p) hik (by rw [HE.out, e1]; exact hg'))
            rw [HE.out, e1] at HN
            rw [decide_eq_true hg'] at HC
            clear e1 l1 hg' hik
            generalize p[i + 1 + k] = y at *
            clear hpk
            go_wp2_with fail
            refine HC.out.mono ?_
            rintro e w5 ⟨rfl, hb5⟩
            have ho5 := own_blw HOk.out hb5
            have hw5 := HWk.out.trans (hb5.mono HWk.out.size)
            have ho6 := ho5.alloc (.cells #[.int .i64 (x : Int), .int .i64 (y : Int)] 86)
            have hsrc := row_src (Row.new w5 86 #[.int .i64 (x : Int), .int .i64 (y : Int)])
            have hsz5 : w.heap.size ≤ w5.heap.size := hw5.size
            have H5 := Lib.hid (And.intro hw5 (And.intro ho5 hsz5))
            clear hw5 ho5 hsz5 hb5 HC HOk
            go_wp2_with (at_builtin; refine wpList_append_at _ rfl _ _ 49 rfl w.heap.size 86 i0 (.agg #[.int .i64 0, .int .i64 0]) 2 16 Try.underlying49 hi hz0 hz1 hz2 rfl (by decide) _ _ _ rfl ho6 ⟨w5.heap.size, 0, none⟩ 1 1 [.int .i64 (x : Int), .int .i64 (y : Int)] rfl rfl hsrc (by intro u hu; simp at hu; rcases hu with rfl | rfl <;> rfl) (by omega) (by unfold maxLen; omega) (by omega) (by have := H5.out.2.2; simp; omega) ?_; intro v6 w6 hown6 hgr6 hob6)
            rw [← prN_snoc, ← HN.out] at hown6
            have hb6 : Below w.heap.size w w6 := (H5.out.1.alloc H5.out.2.2 (.cells #[.int .i64 (x : Int), .int .i64 (y : Int)] 86)).grown hgr6 (by have := H5.out.2.2; simp; omega) (fun j hj => (H5.out.2.1.lt j hj).1)
            have hln : (invMid ob js p i (i + 1 + (k + 1))).length = (invMid ob js p i (i + 1 + k)).length + 1 := by rw [show i + 1 + (k + 1) = i + 1 + k + 1 by omega, HN.out]; simp
            have HF : Hid (w6.ownsRow w.heap.size 86 2 v6 (invMid ob js p i (i + 1 + (k + 1))).length (pc (prN (invMid ob js p i (i + 1 + (k + 1)))))) := by
              show World.ownsRow _ _ _ _ _ _ _
              rw [hln]; exact hown6
            have HF2 := Lib.hid hb6
            clear hown6 hgr6 hob6 hb6 hln H5 ho6 hsrc hc1
            go_wp2
            go_roundw
            case rel => exact ⟨k + 1, by omega, by go_num, HF, HF2⟩
            case measure => simp [intOf]; omega
          · have HN := Lib.hid (invMid_no (ob := ob) (js := js) (p := p) hik (by rw [HE.out, e1]; exact hg'))
            rw [decide_eq_false hg'] at HC
            clear e1 l1 hg' hik
            generalize p[i + 1 + k] = y at *
            clear hpk
            go_wp2_with fail
            refine HC.out.mono ?_
            rintro e w5 ⟨rfl, hb5⟩
            have HF : Hid (w5.ownsRow w.heap.size 86 2 u5 (invMid ob js p i (i + 1 + (k + 1))).length (pc (prN (invMid ob js p i (i + 1 + (k + 1)))))) := by
              show World.ownsRow _ _ _ _ _ _ _
              rw [show i + 1 + (k + 1) = i + 1 + k + 1 by omega, HN.out]; exact own_blw HOk.out hb5
            have HF2 := Lib.hid (HWk.out.trans (hb5.mono HWk.out.size))
            clear hb5 HC HOk hc1
            go_wp2
            go_roundw
            case rel => exact ⟨k + 1, by omega, by go_num, HF, HF2⟩
            case measure => simp [intOf]; omega
        · obtain rfl : k = m := by omega
          have HF : Hid (wr.ownsRow w.heap.size 86 2 u5 (invTo ob js p (i + 1)).length (pc (prN (invTo ob js p (i + 1))))) := by
            show World.ownsRow _ _ _ _ _ _ _
            rw [← invMid_end, show p.length = i + 1 + k by have := HMD.out; have := HL.out; omega]; exact HOk.out
          go_wp2
          go_roundw
          case rel => exact ⟨i + 1, by have := HL.out; omega, by go_num, HF, HWk⟩
          case measure => have := HL.out; simp [intOf]; omega
    · obtain rfl : i = p.length := by omega
      go_wp2
      go_ret
      exact ⟨_, rfl, HO.out, HW.out⟩
end
section
variable (A B : Option Addr) (c d n : Nat) (js : List J) (o : List Int) (ob : Int) (w : World) (hno : n = o.length) (hr : Row w A (jc js)) (hq : Row w B (ic o)) (hn : js.length ≤ 10000000) (hm : o.length ≤ 10000000 ∧ o.length ≤ d)
include hno hr hq hn hm
theorem spec_InversionsOf' : Calls Try.prog 38 #[.slice A js.length c, .slice B n d, .int .i64 ob] w (RetPB w (invR js o ob)) := by
  have HNO := Lib.hid hno
  clear hno
  have HR : Hid (invR js o ob = if bothB js o ob then (prN (invL ob js (natsOf o)), true) else ([], false)) := rfl
  cases hbo : bothB js o ob
  · rw [hbo] at HR
    go_enter Try.func38, Try.ntmps38
    go_wp2_with fail
    refine (l3Both_any A B c d n js o ob _ HNO.out hr hq hn hm.1).mono ?_
    rintro e w1 ⟨rfl, hb1⟩
    rw [hbo]
    go_wp2
    go_ret2
    exact ret_emptyP (by rw [HR.out]; rfl) hb1 _ rfl
  · rw [hbo] at HR
    have hbo' := hbo
    obtain ⟨hu, p, rfl, _, hpl, h8, hlt⟩ := both_out hbo'
    have hpl' : p.length ≤ js.length := by omega
    clear hpl
    obtain rfl : n = p.length := by rw [HNO.out]; simp
    have HU := Lib.hid hu
    have HL3 := Lib.hid (l3Both_any A B c d p.length js (natI p) ob _ HNO.out hr hq hn hm.1)
    clear hbo' hu
    rw [natsOf_natI] at HR
    go_enter Try.func38, Try.ntmps38
    go_wp2_with fail
    refine HL3.out.mono ?_
    rintro e w1 ⟨rfl, hb1⟩
    rw [hbo]
    go_wp2_with fail
    refine (l3Inversions_any A B c d js p ob w1 (hr.below hb1) (hq.below hb1) (good_out (ruled_good HU.out)).2 (isRule_of HU.out) hlt (by omega)).mono ?_
    rintro e w2 ⟨v, rfl, hown, hb2⟩
    obtain ⟨A9, c9, rfl, hs9⟩ := seg_out (own_low hown hb1.size)
    have HZ := Lib.hid (And.intro hs9 (hb1.trans (hb2.mono hb1.size)))
    clear hown hb1 hb2 hs9
    go_wp2
    go_ret2
    rw [HR.out]
    refine ⟨A9, c9, ?_, ?_, HZ.out.2⟩
    · simp only [if_true, prN_len]; rfl
    · simp only [if_true, prN_len]; exact HZ.out.1
theorem impl_InversionsOf' : Calls Try.prog 39 #[.slice A js.length c, .slice B n d, .int .i64 ob] w (RetPB w (invR js o ob)) := by
  have HNO := Lib.hid hno
  clear hno
  have HR : Hid (invR js o ob = if bothB js o ob then (prN (invL ob js (natsOf o)), true) else ([], false)) := rfl
  cases hbx : bothB js o ob
  · rw [hbx] at HR
    go_enter Try.func39, Try.ntmps39
    go_wp2_with fail
    refine (ruleFor_any A B c d n js o ob w HNO.out hr hq hn hm.1).mono ?_
    rintro e w1 ⟨hb1, ⟨_, v, rfl⟩ | ⟨hbo, _⟩⟩
    · go_wp2
      go_ret2
      exact ret_emptyP (by rw [HR.out]; rfl) hb1 _ rfl
    · rw [hbx] at hbo; cases hbo
  · rw [hbx] at HR
    have hbo' := hbx
    obtain ⟨hu, p, rfl, _, hpl, h8, hlt⟩ := both_out hbo'
    have hpl' : p.length ≤ js.length := by omega
    clear hpl
    obtain rfl : n = p.length := by rw [HNO.out]; simp
    have HRF := Lib.hid (ruleFor_any A B c d p.length js (natI p) ob w HNO.out hr hq hn hm.1)
    have HU := Lib.hid hu
    have HD : Hid (p.length ≤ d) := by show _ ≤ _; have := hm.2; simpa using this
    clear hbo' hu
    rw [natsOf_natI] at HR
    go_enter Try.func39, Try.ntmps39
    go_wp2_with fail
    refine HRF.out.mono ?_
    rintro e w1 ⟨hb1, ⟨hbo, v, rfl⟩ | ⟨hbo, b, rfl, hB, hbs⟩⟩
    · rw [hbx] at hbo; cases hbo
    have HC := Lib.hid (inversions_any (isRule_of HU.out) (ruled_good HU.out) w1 hB (hr.below hb1) B d p (hq.below hb1) hlt (by omega) HD.out)
    clear hbo hB
    generalize fRule ob b = fr at *
    go_wp2_with fail
    refine HC.out.mono ?_
    rintro e w2 ⟨v, rfl, hown, hb2⟩
    obtain ⟨A9, c9, rfl, hs9⟩ := seg_out (own_low hown hb1.size)
    have HZ := Lib.hid (And.intro hs9 (hb1.trans (hb2.mono hb1.size)))
    clear hown hb1 hb2 hs9 HC
    go_wp2
    go_ret2
    rw [HR.out]
    refine ⟨A9, c9, ?_, ?_, HZ.out.2⟩
    · simp only [if_true, prN_len]; rfl
    · simp only [if_true, prN_len]; exact HZ.out.1
end
section
variable (A B : Option Addr) (c d : Nat) (js : List J) (o : List Int) (ob : Int) (w : World) (hr : Row w A (jc js)) (hq : Row w B (ic o)) (hn : js.length ≤ 10000000) (hm : o.length ≤ 10000000 ∧ o.length ≤ d)
include hr hq hn hm
theorem spec_InversionsOf : Calls Try.prog 38 #[.slice A js.length c, .slice B o.length d, .int .i64 ob] w (RetPB w (invR js o ob)) := spec_InversionsOf' A B c d _ js o ob w rfl hr hq hn hm
theorem impl_InversionsOf : Calls Try.prog 39 #[.slice A js.length c, .slice B o.length d, .int .i64 ob] w (RetPB w (invR js o ob)) := impl_InversionsOf' A B c d _ js o ob w rfl hr hq hn hm
end
end Go.Proofs.Ytgiecjcgidgpfab
