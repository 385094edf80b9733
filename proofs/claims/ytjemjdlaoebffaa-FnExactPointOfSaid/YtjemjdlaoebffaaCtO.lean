/- PointOf: both sides. -/
import Derived.Test.YtjemjdlaoebffaaCtC
import Derived.Test.YtjemjdlaoebffaaSched
import Derived.Test.YtjemjdlaoebffaaEndsO
import Derived.Test.YtjemjdlaoebffaaValS
namespace Go.Proofs.Ytjemjdlaoebffaa
set_option linter.unusedSimpArgs false
set_option linter.unusedVariables false
set_option linter.unusedSectionVars false
open Go.RowKit
def ptR (js : List J) (o : List Int) (f g : Int) : (Int × Int) × Bool := if twoB js o && (isObj f && isObj g) then ((partV f js (natsOf o), partV g js (natsOf o)), true) else ((0, 0), false)
/-- What a function hands back: an array of two ints and a bool. -/
def RetAP (w : World) (r : (Int × Int) × Bool) (e : Ending) (w' : World) : Prop := e = .returned (.tuple #[.agg #[.int .i64 r.1.1, .int .i64 r.1.2], .bool r.2]) ∧ Below w.heap.size w w'
theorem pt_no {js : List J} {o : List Int} {f g : Int} (h : (twoB js o && (isObj f && isObj g)) = false) : ptR js o f g = ((0, 0), false) := by unfold ptR; rw [h]; rfl
theorem pt_yes {js : List J} {o : List Int} {f g : Int} (h : twoB js o = true) (h1 : isObj f = true) (h2 : isObj g = true) : ptR js o f g = ((partV f js (natsOf o), partV g js (natsOf o)), true) := by unfold ptR; rw [h, h1, h2]; rfl
theorem l11Two_any (f g : Int) (w : World) : Calls Try.prog 59 #[.int .i64 f, .int .i64 g] w fun e w' => e = .returned (.bool (isObj f && isObj g)) ∧ w = w' := by
  have HF := Lib.hid (fun W => l2Objective_any f W)
  have HG := Lib.hid (fun W => l2Objective_any g W)
  cases hf : isObj f
  · rw [hf] at HF
    go_enter Try.func59, Try.ntmps59
    go_wp2_with fail
    refine (HF.out _).mono ?_
    rintro e _ ⟨rfl, rfl⟩
    go_wp2
    go_ret
    exact ⟨rfl, rfl⟩
  · rw [hf] at HF
    go_enter Try.func59, Try.ntmps59
    go_wp2_with fail
    refine (HF.out _).mono ?_
    rintro e _ ⟨rfl, rfl⟩
    go_wp2_with fail
    refine (HG.out _).mono ?_
    rintro e _ ⟨rfl, rfl⟩
    go_wp2
    go_ret
    exact ⟨rfl, rfl⟩
set_option maxRecDepth 100000 in
set_option maxHeartbeats 4000000 in
theorem l11Point_any (A C : Option Addr) (c d : Nat) (js : List J) (o : List Int) (f g : Int) (w : World) (hr : Row w A (jc js)) (hq : Row w C (ic o)) (ht : twoB js o = true) (hf : isObj f = true) (hg : isObj g = true) :
    Calls Try.prog 60 #[.slice A js.length c, .slice C o.length d, .int .i64 f, .int .i64 g] w fun e w' => e = .returned (.agg #[.int .i64 (partV f js (natsOf o)), .int .i64 (partV g js (natsOf o))]) ∧ Below w.heap.size w w' := by
  obtain ⟨hgd, p, hop, hp, hpn⟩ := two_out ht
  have hb0 := (Below.refl w.heap.size w).alloc (Nat.le_refl _) (.cells #[.int .i64 0, .int .i64 0] 47)
  have H0 := Lib.hid (And.intro (BlockIs.new w 47 #[.int .i64 0, .int .i64 0]) hb0)
  have HE := Lib.hid (l2Ends_o A C c d js o _ (hr.below hb0) (hq.below hb0) ht)
  have hlen : (endsL js (natsOf o)).length = js.length := endsL_len js _
  have hbd : ∀ x ∈ endsL js (natsOf o), 0 ≤ x ∧ x ≤ 1000 := by rw [hpn]; exact endsL_bd hgd hp
  have HV : ∀ q, valOf q js (endsL js (natsOf o)) = partV q js (natsOf o) := fun q => by rw [hpn]; exact partV_full q js hp
  have HO : Hid (∀ q, isObj q = true → ∀ gb W, Below w.heap.size w W → BlockIs W gb 3 (ic (endsL js (natsOf o))).toArray → Calls Try.prog 96 #[.slice A js.length c, .slice (some ⟨gb, 0, none⟩) js.length js.length, .int .i64 q] W fun e w' => e = .returned (.int .i64 (partV q js (natsOf o))) ∧ Below W.heap.size W w') := fun q hq gb W hb hB => by
    have hrow : Row W (some ⟨gb, 0, none⟩) (ic (endsL js (natsOf o))) := fun _ => ⟨_, rfl, hB.lt, fun j u hu => by
      have h2 := hB.cell j
      unfold Addr.add
      by_cases hj : j = 0
      · subst hj; rw [if_pos rfl, h2, ← Array.getElem?_toList]; exact hu
      · rw [if_neg hj]; simp only [Nat.zero_add]; rw [h2, ← Array.getElem?_toList]; exact hu⟩
    have h := l2Of_any A (some ⟨gb, 0, none⟩) c js.length js _ q W (hr.below hb) hrow hgd hlen hbd hq
    rw [HV q] at h
    exact h
  clear hr hq hb0 hop hp hpn hgd hlen hbd HV
  go_enter Try.func60, Try.ntmps60
  go_wp2_with fail
  refine HE.out.mono ?_
  rintro e w1 ⟨gb, rfl, _, hB, hb1⟩
  have hx1 := H0.out.2.trans (hb1.mono H0.out.2.size)
  have HO1 := Lib.hid (HO.out f hf gb w1 hx1 hB)
  go_wp2_with fail
  refine HO1.out.mono ?_
  rintro e w2 ⟨rfl, hb2⟩
  have hx2 := hx1.trans (hb2.mono hx1.size)
  have HO2 := Lib.hid (HO.out g hg gb w2 hx2 (hB.below hb2))
  go_wp2_with fail
  refine HO2.out.mono ?_
  rintro e w3 ⟨rfl, hb3⟩
  have hx3 := hx2.trans (hb3.mono hx2.size)
  have k0 := ((H0.out.1.below hb1).below hb2).below hb3
  have d0 := k0.cell 0
  have d1 := k0.cell 1
  have e0 := k0.frozen 0
  have e1 := k0.frozen 1
  simp only [List.getElem?_toArray, List.getElem?_cons_zero, List.getElem?_cons_succ] at d0 d1
  obtain ⟨pf, hpf⟩ : ∃ x, x = partV f js (natsOf o) := ⟨_, rfl⟩
  obtain ⟨pg, hpg⟩ : ∃ x, x = partV g js (natsOf o) := ⟨_, rfl⟩
  rw [← hpf, ← hpg]
  have HPF := Lib.hid (And.intro hpf hpg)
  clear hpf hpg
  have hF := (k0.set 0 (.int .i64 pf)).set 1 (.int .i64 pg)
  have hBE := (hx3.setCell (p := ⟨w.heap.size, 0, none⟩) (Nat.le_refl _) (.int .i64 pf)).setCell (p := ⟨w.heap.size, 1, none⟩) (Nat.le_refl _) (.int .i64 pg)
  have HX := Lib.hid (And.intro hF hBE)
  clear hF hBE k0 hx3 hx2 hx1 hb1 hb2 hb3 hB HO HO1 HO2 HE H0
  go_wp2
  have z0 := HX.out.1.cell 0
  have z1 := HX.out.1.cell 1
  simp at z0 z1
  exact bodyPost_ret (v := .agg #[.int .i64 pf, .int .i64 pg]) (by simp [results, Try.f60, z0, z1, go_sem]) rfl ⟨by rw [HPF.out.1, HPF.out.2], HX.out.2⟩
section
variable (A C : Option Addr) (c d : Nat) (js : List J) (o : List Int) (f g : Int) (w : World) (hr : Row w A (jc js)) (hq : Row w C (ic o)) (hn : js.length ≤ 10000000) (hm : o.length ≤ 10000000)
include hr hq hn hm
set_option maxRecDepth 100000 in
set_option maxHeartbeats 4000000 in
theorem spec_PointOf : Calls Try.prog 27 #[.slice A js.length c, .slice C o.length d, .int .i64 f, .int .i64 g] w (RetAP w (ptR js o f g)) := by
  have hb0 := (Below.refl w.heap.size w).alloc (Nat.le_refl _) (.cells #[.int .i64 0, .int .i64 0] 47)
  have H0 := Lib.hid (And.intro (BlockIs.new w 47 #[.int .i64 0, .int .i64 0]) hb0)
  have HT := Lib.hid (l2Two_any A C c d js o _ (hr.below hb0) (hq.below hb0) hn hm)
  have HP := Lib.hid (fun (ht : twoB js o = true) (hf : isObj f = true) (hg : isObj g = true) W (hb : Below w.heap.size w W) => l11Point_any A C c d js o f g W (hr.below hb) (hq.below hb) ht hf hg)
  have HNO := Lib.hid (fun h => @pt_no js o f g h)
  have HYES := Lib.hid (fun h h1 h2 => @pt_yes js o f g h h1 h2)
  have H2 := Lib.hid (fun W => l11Two_any f g W)
  clear hr hq hb0
  go_enter Try.func27, Try.ntmps27
  go_wp2_with fail
  refine HT.out.mono ?_
  rintro e w1 ⟨rfl, hb1⟩
  have k0 := H0.out.1.below hb1
  have hx := H0.out.2.trans (hb1.mono H0.out.2.size)
  have d0 := k0.cell 0
  have d1 := k0.cell 1
  have e0 := k0.frozen 0
  have e1 := k0.frozen 1
  simp only [List.getElem?_toArray, List.getElem?_cons_zero, List.getElem?_cons_succ] at d0 d1
  have HX := Lib.hid (And.intro ((k0.set 0 (.int .i64 0)).set 1 (.int .i64 0)) ((hx.setCell (p := ⟨w.heap.size, 0, none⟩) (Nat.le_refl _) (.int .i64 0)).setCell (p := ⟨w.heap.size, 1, none⟩) (Nat.le_refl _) (.int .i64 0)))
  have HK := Lib.hid (And.intro k0 hx)
  clear k0 hx hb1 HT H0
  cases ht : twoB js o
  · have HR := Lib.hid (HNO.out (by rw [ht]; rfl))
    clear ht
    go_wp2
    have z0 := HX.out.1.cell 0
    have z1 := HX.out.1.cell 1
    simp at z0 z1
    exact bodyPost_ret (v := .tuple #[.agg #[.int .i64 0, .int .i64 0], .bool false]) (by simp [results, Try.f27, z0, z1, go_sem]) rfl ⟨by rw [HR.out], HX.out.2⟩
  · cases h2 : (isObj f && isObj g)
    · have HR := Lib.hid (HNO.out (by rw [ht, h2]; rfl))
      have HQ2 := H2.out w1
      rw [h2] at HQ2
      have HQ3 := Lib.hid HQ2
      clear ht h2 HQ2
      go_wp2_with fail
      refine HQ3.out.mono ?_
      rintro e _ ⟨rfl, rfl⟩
      go_wp2
      have z0 := HX.out.1.cell 0
      have z1 := HX.out.1.cell 1
      simp at z0 z1
      exact bodyPost_ret (v := .tuple #[.agg #[.int .i64 0, .int .i64 0], .bool false]) (by simp [results, Try.f27, z0, z1, go_sem]) rfl ⟨by rw [HR.out], HX.out.2⟩
    · obtain ⟨hf, hg⟩ := Bool.and_eq_true_iff.1 h2
      have HR := Lib.hid (HYES.out ht hf hg)
      have HQ2 := H2.out w1
      rw [h2] at HQ2
      have HQ3 := Lib.hid HQ2
      have HP1 := Lib.hid (HP.out ht hf hg w1 HK.out.2)
      clear ht h2 HQ2 hf hg HP
      go_wp2_with fail
      refine HQ3.out.mono ?_
      rintro e _ ⟨rfl, rfl⟩
      go_wp2_with fail
      refine HP1.out.mono ?_
      rintro e w2 ⟨rfl, hb2⟩
      have k0 := HK.out.1.below hb2
      have hx := HK.out.2.trans (hb2.mono HK.out.2.size)
      clear d0 d1 e0 e1 HX HP1
      have d0 := k0.cell 0
      have d1 := k0.cell 1
      have e0 := k0.frozen 0
      have e1 := k0.frozen 1
      simp only [List.getElem?_toArray, List.getElem?_cons_zero, List.getElem?_cons_succ] at d0 d1
      generalize partV f js (natsOf o) = pf at *
      generalize partV g js (natsOf o) = pg at *
      have HX := Lib.hid (And.intro ((k0.set 0 (.int .i64 pf)).set 1 (.int .i64 pg)) ((hx.setCell (p := ⟨w.heap.size, 0, none⟩) (Nat.le_refl _) (.int .i64 pf)).setCell (p := ⟨w.heap.size, 1, none⟩) (Nat.le_refl _) (.int .i64 pg)))
      clear k0 hx hb2
      go_wp2
      have z0 := HX.out.1.cell 0
      have z1 := HX.out.1.cell 1
      simp at z0 z1
      exact bodyPost_ret (v := .tuple #[.agg #[.int .i64 pf, .int .i64 pg], .bool true]) (by simp [results, Try.f27, z0, z1, go_sem]) rfl ⟨by rw [HR.out], HX.out.2⟩
omit hr hq hn hm in
theorem pointOf_any (V : Nat → Int) (w : World) : Calls Try.prog 64 #[.agg (scA V)] w fun e w' => e = .returned (.agg #[.int .i64 (V 0), .int .i64 (V 1)]) ∧ Below w.heap.size w w' := by
  have hb1 := (Below.refl w.heap.size w).alloc (Nat.le_refl _) (.cells (scA V) 105)
  have hb2 := hb1.alloc hb1.size (.cells #[.int .i64 (V 0), .int .i64 (V 1)] 47)
  have hz : (w.alloc (.cells (scA V) 105)).heap.size = w.heap.size + 1 := by simp
  have k1 := BlockIs.new (w.alloc (.cells (scA V) 105)) 47 #[.int .i64 (V 0), .int .i64 (V 1)]
  rw [hz] at k1
  have HX := Lib.hid (And.intro k1 hb2)
  clear hb1 hb2 hz k1
  unfold scA at HX ⊢
  go_enter Try.func64, Try.ntmps64
  go_wp2
  have z0 := HX.out.1.cell 0
  have z1 := HX.out.1.cell 1
  simp at z0 z1
  exact bodyPost_ret (v := .agg #[.int .i64 (V 0), .int .i64 (V 1)]) (by simp [results, Try.f64, z0, z1, go_sem]) rfl ⟨rfl, HX.out.2⟩
set_option maxRecDepth 100000 in
set_option maxHeartbeats 4000000 in
theorem impl_PointOf : Calls Try.prog 30 #[.slice A js.length c, .slice C o.length d, .int .i64 f, .int .i64 g] w (RetAP w (ptR js o f g)) := by
  have hb0 := (Below.refl w.heap.size w).alloc (Nat.le_refl _) (.cells #[.int .i64 0, .int .i64 0] 47)
  have H0 := Lib.hid (And.intro (BlockIs.new w 47 #[.int .i64 0, .int .i64 0]) hb0)
  have HT := Lib.hid (pointCriteria_any A c js f g _ (hr.below hb0) hn)
  have HI := Lib.hid (fun W (hb : Below w.heap.size w W) => IsOrder_any (js.length : Int) C d o W (hq.below hb) (by omega))
  have HQ := Lib.hid hq
  have HTW : Hid (twoB js o = (goodL js && ordB js.length o)) := rfl
  have HOK : Hid (okC js f g = ((isObj f && isObj g) && goodL js)) := rfl
  have HNO := Lib.hid (fun h => @pt_no js o f g h)
  have HYES := Lib.hid (fun h h1 h2 => @pt_yes js o f g h h1 h2)
  clear hr hq hb0
  go_enter Try.func30, Try.ntmps30
  go_wp2_with fail
  refine HT.out.mono ?_
  rintro e w1 ⟨hb1, ⟨hok, rfl⟩ | ⟨hok, gc, fv1, fv2, rfl, hC⟩⟩
  · have hno : (twoB js o && (isObj f && isObj g)) = false := by
      rw [HTW.out]
      rw [HOK.out] at hok
      revert hok
      cases goodL js <;> cases (isObj f && isObj g) <;> simp
    have HR := Lib.hid (HNO.out hno)
    have k0 := H0.out.1.below hb1
    have hx := H0.out.2.trans (hb1.mono H0.out.2.size)
    have d0 := k0.cell 0
    have d1 := k0.cell 1
    have e0 := k0.frozen 0
    have e1 := k0.frozen 1
    simp only [List.getElem?_toArray, List.getElem?_cons_zero, List.getElem?_cons_succ] at d0 d1
    have HX := Lib.hid (And.intro ((k0.set 0 (.int .i64 0)).set 1 (.int .i64 0)) ((hx.setCell (p := ⟨w.heap.size, 0, none⟩) (Nat.le_refl _) (.int .i64 0)).setCell (p := ⟨w.heap.size, 1, none⟩) (Nat.le_refl _) (.int .i64 0)))
    clear k0 hx hb1 HT H0 hok hno
    go_wp2
    have z0 := HX.out.1.cell 0
    have z1 := HX.out.1.cell 1
    simp at z0 z1
    exact bodyPost_ret (v := .tuple #[.agg #[.int .i64 0, .int .i64 0], .bool false]) (by simp [results, Try.f30, z0, z1, go_sem]) rfl ⟨by rw [HR.out], HX.out.2⟩
  · rw [HOK.out] at hok
    obtain ⟨hfg, hgd⟩ := Bool.and_eq_true_iff.1 hok
    obtain ⟨hf, hg⟩ := Bool.and_eq_true_iff.1 hfg
    have h8 := (good_out hgd).1
    rw [hgd, Bool.true_and] at HTW
    have hx1 := H0.out.2.trans (hb1.mono H0.out.2.size)
    have HI1 := Lib.hid (HI.out w1 hx1)
    have HC := Lib.hid hC
    have HK1 := Lib.hid (And.intro (H0.out.1.below hb1) hx1)
    clear hb1 HT H0 hok hfg hx1 hC
    go_wp2_with fail
    refine HI1.out.mono ?_
    rintro e w2 ⟨rfl, hb2⟩
    have k0 := HK1.out.1.below hb2
    have hx := HK1.out.2.trans (hb2.mono HK1.out.2.size)
    have HC2 := Lib.hid (HC.out.below hb2)
    cases ho : ordB js.length o
    · have HR := Lib.hid (HNO.out (by rw [HTW.out, ho]; rfl))
      have d0 := k0.cell 0
      have d1 := k0.cell 1
      have e0 := k0.frozen 0
      have e1 := k0.frozen 1
      simp only [List.getElem?_toArray, List.getElem?_cons_zero, List.getElem?_cons_succ] at d0 d1
      have HX := Lib.hid (And.intro ((k0.set 0 (.int .i64 0)).set 1 (.int .i64 0)) ((hx.setCell (p := ⟨w.heap.size, 0, none⟩) (Nat.le_refl _) (.int .i64 0)).setCell (p := ⟨w.heap.size, 1, none⟩) (Nat.le_refl _) (.int .i64 0)))
      clear k0 hx hb2 ho hf hg
      go_wp2
      have z0 := HX.out.1.cell 0
      have z1 := HX.out.1.cell 1
      simp at z0 z1
      exact bodyPost_ret (v := .tuple #[.agg #[.int .i64 0, .int .i64 0], .bool false]) (by simp [results, Try.f30, z0, z1, go_sem]) rfl ⟨by rw [HR.out], HX.out.2⟩
    · have htw : twoB js o = true := by rw [HTW.out, ho]
      have HR := Lib.hid (HYES.out htw hf hg)
      obtain ⟨_, p, hop, hp, hpn⟩ := two_out htw
      have hlen : o.length = p.length := by rw [hop]; simp
      have hqr : Row w2 C (ic (natI p)) := by rw [← hop]; exact HQ.out.below hx
      have HV := valuesOf_any w1.heap.size (some ⟨gc, 0, none⟩) 2 _ js.length p C d w2 HC2.out (by simp) hp h8 hqr
      have hv0 : valC [⟨A, c, js, f, fv1⟩, ⟨A, c, js, g, fv2⟩] p 0 = partV f js (natsOf o) := by rw [hpn]; exact valC_in (by simp) p
      have hv1 : valC [⟨A, c, js, f, fv1⟩, ⟨A, c, js, g, fv2⟩] p 1 = partV g js (natsOf o) := by rw [hpn]; exact valC_in (by simp) p
      rw [← hlen] at HV
      have HV0 := Lib.hid hv0
      have HV1 := Lib.hid hv1
      have HVV := Lib.hid HV
      have HK2 := Lib.hid (And.intro k0 hx)
      clear k0 hx hb2 ho hf hg htw hop hp hpn hlen hqr HV hv0 hv1 HC HC2 HI HI1 HK1
      generalize valC [⟨A, c, js, f, fv1⟩, ⟨A, c, js, g, fv2⟩] p = VV at *
      go_wp2_with fail
      refine HVV.out.mono ?_
      rintro e w3 ⟨rfl, hb3⟩
      have HP := Lib.hid (pointOf_any VV w3)
      have HK3 := Lib.hid (And.intro (HK2.out.1.below hb3) (HK2.out.2.trans (hb3.mono HK2.out.2.size)))
      clear hb3 HK2 HVV
      go_wp2_with fail
      refine HP.out.mono ?_
      rintro e w4 ⟨rfl, hb4⟩
      rw [HV0.out, HV1.out]
      have k0 := HK3.out.1.below hb4
      have hx := HK3.out.2.trans (hb4.mono HK3.out.2.size)
      have d0 := k0.cell 0
      have d1 := k0.cell 1
      have e0 := k0.frozen 0
      have e1 := k0.frozen 1
      simp only [List.getElem?_toArray, List.getElem?_cons_zero, List.getElem?_cons_succ] at d0 d1
      generalize partV f js (natsOf o) = pf at *
      generalize partV g js (natsOf o) = pg at *
      have HX := Lib.hid (And.intro ((k0.set 0 (.int .i64 pf)).set 1 (.int .i64 pg)) ((hx.setCell (p := ⟨w.heap.size, 0, none⟩) (Nat.le_refl _) (.int .i64 pf)).setCell (p := ⟨w.heap.size, 1, none⟩) (Nat.le_refl _) (.int .i64 pg)))
      clear k0 hx hb4 HP HK3
      go_wp2
      have z0 := HX.out.1.cell 0
      have z1 := HX.out.1.cell 1
      simp at z0 z1
      exact bodyPost_ret (v := .tuple #[.agg #[.int .i64 pf, .int .i64 pg], .bool true]) (by simp [results, Try.f30, z0, z1, go_sem]) rfl ⟨by rw [HR.out], HX.out.2⟩
end
end Go.Proofs.Ytjemjdlaoebffaa
