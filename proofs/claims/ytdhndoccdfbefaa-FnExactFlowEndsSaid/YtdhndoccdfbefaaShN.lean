/- FlowEnds: both sides. -/
import Derived.Test.YtdhndoccdfbefaaShS
import Derived.Test.YtdhndoccdfbefaaSwap
namespace Go.Proofs.Ytdhndoccdfbefaa
open Go.RowKit

def endsR (xss : List (List Int)) (o : List Int) : List (List Int) × Bool := if span2 xss o then (endsF xss (natsP o), true) else ([], false)
theorem endsR_no {xss : List (List Int)} {o : List Int} (h : span2 xss o = false) : endsR xss o = ([], false) := by unfold endsR; rw [h]; rfl
theorem endsR_yes {xss : List (List Int)} {p : List Nat} (h : span2 xss (p.map Int.ofNat) = true) : endsR xss (p.map Int.ofNat) = (endsF xss p, true) := by unfold endsR; rw [h, natsP_of]; rfl
theorem endsR_bd (xss : List (List Int)) (o : List Int) : ((endsR xss o).1.map ic).length ≤ 100 ∧ totC ((endsR xss o).1.map ic) ≤ 1000 := by
  cases h : span2 xss o
  · rw [endsR_no h]; exact ⟨by simp, by simp [totC]⟩
  · obtain ⟨hs, p, rfl, hp, hl⟩ := sp2_out h
    rw [endsR_yes h, totC_ic]
    have h8 := hs.n8
    have h3 := hs.m3
    refine ⟨by simp [endsF]; omega, ?_⟩
    have key : ∀ l : List Nat, totL (l.map fun j => rowE xss p (p.idxOf j)) = l.length * mOf xss := fun l => by
      induction l with
      | nil => simp [totL]
      | cons x l ih =>
        unfold totL at *
        simp only [List.map_cons, List.sum_cons, List.length_cons]
        rw [ih, show (rowE xss p (p.idxOf x)).length = mOf xss by simp [rowE], Nat.add_mul]
        omega
    show totL (endsF xss p) ≤ 1000
    unfold endsF
    rw [key]
    have : (List.range xss.length).length * mOf xss ≤ 8 * 3 := Nat.mul_le_mul (by simpa using h8) h3
    omega
theorem endsR_bds (xss : List (List Int)) (o : List Int) : (endsR xss o).1.length ≤ 1000 ∧ ((endsR xss o).1.map ic).length ≤ 1000 ∧ totC ((endsR xss o).1.map ic) ≤ 1000 ∧ (((endsR xss o).1.map ic).map List.length).length ≤ 1000 ∧ (((endsR xss o).1.map ic).map List.length).sum ≤ 1000 := by
  have h := endsR_bd xss o
  have e : ((endsR xss o).1.map ic).length = (endsR xss o).1.length := by simp
  refine ⟨by omega, by omega, h.2, by rw [List.length_map]; omega, h.2⟩
theorem ret_nilSS {w w1 : World} {r : List (List Int) × Bool} (hr : r = ([], false)) (hb : Below w.heap.size w w1) (e : Ending) (he : e = .returned (.tuple #[.slice (some ⟨w1.heap.size, 0, none⟩) 0 0, .bool false])) : RetSSB w r e (w1.alloc (.cells #[] 29)) := by
  subst hr
  have ho : (w1.alloc (.cells #[] 29)).ownsRow w.heap.size 29 1 (.slice (some ⟨w1.heap.size, 0, none⟩) 0 0) 0 [] := (BlockIs.new w1 29 #[]).own (n := 0) (c := 0) (size := 1) hb.size rfl (Nat.le_refl _) (Nat.zero_le _) (Nat.le_refl _)
  obtain ⟨A, c, he2, hs⟩ := (OwnV.nil (C := w.heap.size) ho).seg (Nat.le_refl _)
  exact ⟨A, c, by rw [he, he2]; rfl, hs, hb.alloc hb.size _⟩
set_option maxHeartbeats 1000000 in
theorem spec_FlowEnds (A : Option Addr) (c : Nat) (B : Option Addr) (d : Nat) (xss : List (List Int)) (o : List Int) (w : World) (hr : RowSS w A (xss.map ic)) (hq : Row w B (ic o)) (hn : xss.length ≤ 10000000 ∧ totL xss ≤ 10000000) (hm : o.length ≤ 10000000) : Calls Try.prog 25 #[.slice A xss.length c, .slice B o.length d] w (RetSSB w (endsR xss o)) := by
  have HI := Lib.hid (l8Two_any A c B d xss o w hr hq hn hm)
  cases h2 : span2 xss o
  · have HO := Lib.hid (endsR_no h2)
    rw [h2] at HI
    clear hr hq h2
    go_enter Try.func25, Try.ntmps25
    go_wp2_with fail
    refine HI.out.mono ?_
    rintro e _ ⟨rfl, q, rfl⟩
    go_wp2
    go_ret2
    exact ret_nilSS HO.out (below_drewN (Below.refl _ _) q) _ rfl
  · rw [h2] at HI
    obtain ⟨hs, p, rfl, hp, hpl0⟩ := sp2_out h2
    clear hpl0
    rw [endsR_yes h2]
    rw [List.length_map] at HI ⊢
    have HC := Lib.hid (fun n => l8Ends_any A B c d xss p (w.drewN n) hr hq hn hs hp)
    clear hr hq h2 hp hs hm
    go_enter Try.func25, Try.ntmps25
    go_wp2_with fail
    refine HI.out.mono ?_
    rintro e _ ⟨rfl, q, rfl⟩
    go_wp2_with fail
    refine (HC.out _).mono ?_
    rintro e w1 ⟨g, rfl, hg, ⟨vs, hV⟩, hb⟩
    have HV := Lib.hid hV
    have HB := Lib.hid hb
    clear hV hb
    go_wp2
    go_ret2
    obtain ⟨A', c', he, hs⟩ := HV.out.seg (Nat.le_refl _)
    have el : ((endsF xss p).map ic).length = (endsF xss p).length := by simp
    rw [el] at he hs
    exact ⟨A', c', by rw [← he]; rfl, hs, (below_drewN (Below.refl _ _) q).trans HB.out⟩
/-- A list of lists stays where a block of another kind is written. -/
theorem OwnV.setT {vs : List (Option Addr × Nat)} {B C g : Nat} {w : World} {v : Value} {css : List (List Value)} {t : TypeId} {cs : Array Value} (h : OwnV vs B C w v css) (hg : BlockIs w g t cs) (h1 : 29 ≠ t) (h2 : 3 ≠ t) (i : Nat) (u : Value) : OwnV vs B C (w.setCell ⟨g, i, none⟩ u) v css := by
  obtain ⟨a1, a2, a3, a4⟩ := h
  refine ⟨a1, own_to a2 fun q hq _ _ => ?_, fun i a b => own_to (a3 i a b) fun q hq _ _ => ?_, a4⟩
  · obtain ⟨_, _, c1, t1⟩ := own_type a2 hq
    exact Below.heap_setCell _ _ _ _ (type_ne t1 hg h1)
  · obtain ⟨_, _, c1, t1⟩ := own_type (a3 i a b) hq
    exact Below.heap_setCell _ _ _ _ (type_ne t1 hg h2)
theorem arr3_take (f : Nat → Int) (m : Nat) (h : m ≤ 3) : (arr3 f).toList.take (m * 1) = ic ((List.range m).map f) := by
  rcases (by omega : m = 0 ∨ m = 1 ∨ m = 2 ∨ m = 3) with rfl | rfl | rfl | rfl <;> rfl
set_option maxRecDepth 100000 in
set_option maxHeartbeats 4000000 in
theorem impl_endsIn (A B : Option Addr) (c d : Nat) (xss : List (List Int)) (p : List Nat) (w : World) (hr : RowSS w A (xss.map ic)) (hq : Row w B (ic (p.map Int.ofNat))) (hn : xss.length ≤ 10000000 ∧ totL xss ≤ 10000000) (hs : Shop xss) (hp : p.Perm (List.range xss.length)) (h2 : span2 xss (p.map Int.ofNat) = true) :
    Calls Try.prog 26 #[.slice A xss.length c, .slice B p.length d] w (RetSSB w (endsF xss p, true)) := by
  have HI := Lib.hid (h2 ▸ shopFor_any A c B d xss (p.map Int.ofNat) w hr hq hn (by rw [List.length_map, hp.length_eq]; simp; omega))
  rw [List.length_map] at HI
  have hpl : p.length = xss.length := by rw [hp.length_eq]; simp
  have HROW := Lib.hid (fun i (hi : i < xss.length) => hs.row hr hi)
  have HORD := Lib.hid (fun k (hk : k < p.length) => ord_at hq hk)
  have HLT := Lib.hid (fun k (hk : k < p.length) => permD_lt hp hk)
  have HS := Lib.hid hs
  have HP := Lib.hid hp
  have h8 := hs.n8
  have hM3 := hs.m3
  have hM1 := hs.m1
  have hpl8 : p.length ≤ 8 := by omega
  have hmk := run_make_row' (P := Try.prog) 22 29 (.slice none 0 0) 24 Try.underlying22 infoSl rfl .i64 .i64 xss.length (by omega) (by omega)
  have HM := Lib.hid (fun W (hb : Below w.heap.size w W) => machines_any A c xss W (hr.below hb) hn)
  have HWW := Lib.hid (Below.refl w.heap.size w)
  clear hr hq hs hp hpl h2
  go_enter Try.func26, Try.ntmps26
  go_wp2_with fail
  refine HI.out.mono ?_
  rintro e w0 ⟨rfl, hb0⟩
  have hsz0 := hb0.size
  have HB0 := Lib.hid hb0
  clear hb0
  have HNEW := Lib.hid (new_two w0 (madeCells #[.slice none 0 0] xss.length) #[.int .i64 0, .int .i64 0, .int .i64 0] 29 57)
  have HNB := Lib.hid (((Below.refl w0.heap.size w0).alloc (Nat.le_refl _) (.cells (madeCells #[.slice none 0 0] xss.length) 29)).alloc (by simp) (.cells #[.int .i64 0, .int .i64 0, .int .i64 0] 57))
  go_wp2
  clear hmk
  go_loopw [27] (fun i wr => ∃ (k : Nat) (vs : List (Option Addr × Nat)), k ≤ p.length ∧ i = .int .i64 (k : Int) ∧ Hid (OwnV vs w0.heap.size w0.heap.size wr (.slice (some ⟨w0.heap.size, 0, none⟩) xss.length xss.length) (tabV xss.length (doneR xss p k)) ∧ BlockIs wr (w0.heap.size + 1) 57 (arr3 (eAt xss p k)) ∧ Below w0.heap.size w0 wr)) (fun i _ => p.length - (intOf i).toNat)
  case atStart =>
    exact ⟨0, _, Nat.zero_le _, rfl, OwnV.new (fun i _ => by unfold doneR; rw [if_neg (by omega)]) HNEW.out.1 (Nat.le_refl _) (by unfold maxLen; omega), HNEW.out.2, HNB.out⟩
  case round =>
    obtain ⟨k, vs, hk, rfl, HV⟩ := hrel
    obtain ⟨wo, hwo⟩ : ∃ x, x = wr := ⟨wr, rfl⟩
    subst hwo
    by_cases hlt : k < p.length
    · obtain ⟨ao, hB, hco0⟩ := HORD.out k hlt
      subst hB
      have hx := HLT.out k hlt
      obtain ⟨ad, bx, dx, hA', hcx0, hfx0⟩ := HROW.out _ hx
      subst hA'
      have hbw : Below w.heap.size w wo := HB0.out.trans (HV.out.2.2.mono hsz0)
      have hla : ao.block < w.heap.size := by have := lt_of_cell hco0; rwa [add_block] at this
      have hld : ad.block < w.heap.size := by have := lt_of_cell hcx0; rwa [add_block] at this
      have hlb : bx.block < w.heap.size := by have := lt_of_cell (hfx0 0 (by omega)); rwa [add_block] at this
      have hco := (hbw.cell (p := ao.add k) (by rw [add_block]; exact hla)).trans hco0
      have hcx := (hbw.cell (p := ad.add (p.getD k 0)) (by rw [add_block]; exact hld)).trans hcx0
      have hfx := fun z (hz : z < mOf xss) => (hbw.cell (p := bx.add z) (by rw [add_block]; exact hlb)).trans (hfx0 z hz)
      have hi0 : (0 : Int) ≤ k := by omega
      have hi1 : (k : Int) < p.length := by omega
      have hx0' : (0 : Int) ≤ (p.getD k 0 : Nat) := by omega
      have hx1' : ((p.getD k 0 : Nat) : Int) < xss.length := by omega
      have hbb : bx.block < wo.heap.size := by have := hbw.size; omega
      have HC := Lib.hid (behind_any (eAt xss p k) (tm xss (p.getD k 0)) bx (mOf xss) dx wo.drew hfx hbb hM3 (fun j => by have := eAt_bd HS.out p k j; omega) (fun j => HS.out.tm _ j))
      rw [eAt_step] at HC
      have h0 := HV.out.2.1
      have hgl := h0.lt
      have c0 := h0.cell 0
      have c1 := h0.cell 1
      have c2 := h0.cell 2
      rw [arr3_get _ 0 (by omega)] at c0
      rw [arr3_get _ 1 (by omega)] at c1
      rw [arr3_get _ 2 (by omega)] at c2
      have G0 := Lib.hid (arr3_get (eAt xss p k) 0 (by omega))
      have G1 := Lib.hid (arr3_get (eAt xss p k) 1 (by omega))
      have G2 := Lib.hid (arr3_get (eAt xss p k) 2 (by omega))
      have HH := Lib.hid h0
      have HBW := Lib.hid hbw
      have HSET : Hid (((((arr3 (eAt xss p k)).setIfInBounds 0 (.int .i64 (eAt xss p (k + 1) 0))).setIfInBounds 1 (.int .i64 (eAt xss p (k + 1) 1))).setIfInBounds 2 (.int .i64 (eAt xss p (k + 1) 2))) = arr3 (eAt xss p (k + 1))) := rfl
      have HCA : Hid (∀ f, arr3 f = #[.int .i64 (f 0), .int .i64 (f 1), .int .i64 (f 2)]) := fun _ => rfl
      rw [HCA.out (eAt xss p k), HCA.out (eAt xss p (k + 1))] at HC
      have HSTEPR := Lib.hid (doneR_step HP.out hlt)
      generalize eAt xss p (k + 1) 0 = y0 at *
      generalize eAt xss p (k + 1) 1 = y1 at *
      generalize eAt xss p (k + 1) 2 = y2 at *
      generalize eAt xss p k 0 = x0 at *
      generalize eAt xss p k 1 = x1 at *
      generalize eAt xss p k 2 = x2 at *
      generalize hj : p.getD k 0 = j at hco hx hcx hx0' hx1' HSTEPR
      have HAF : Hid (∀ w1, Below wo.heap.size wo w1 → BlockIs w1 (w0.heap.size + 1) 57 (arr3 (eAt xss p k)) → OwnV vs w0.heap.size w0.heap.size (((w1.setCell ⟨w0.heap.size + 1, 0, none⟩ (.int .i64 y0)).setCell ⟨w0.heap.size + 1, 1, none⟩ (.int .i64 y1)).setCell ⟨w0.heap.size + 1, 2, none⟩ (.int .i64 y2)) (.slice (some ⟨w0.heap.size, 0, none⟩) xss.length xss.length) (tabV xss.length (doneR xss p k)) ∧ BlockIs (((w1.setCell ⟨w0.heap.size + 1, 0, none⟩ (.int .i64 y0)).setCell ⟨w0.heap.size + 1, 1, none⟩ (.int .i64 y1)).setCell ⟨w0.heap.size + 1, 2, none⟩ (.int .i64 y2)) (w0.heap.size + 1) 57 (arr3 (eAt xss p (k + 1))) ∧ Below w0.heap.size w0 (((w1.setCell ⟨w0.heap.size + 1, 0, none⟩ (.int .i64 y0)).setCell ⟨w0.heap.size + 1, 1, none⟩ (.int .i64 y1)).setCell ⟨w0.heap.size + 1, 2, none⟩ (.int .i64 y2))) := fun w1 hb1 hh => by
        have v0 := HV.out.1.below hb1
        have b1 := hh.set 0 (.int .i64 y0)
        have b2 := b1.set 1 (.int .i64 y1)
        have b3 := b2.set 2 (.int .i64 y2)
        rw [HSET.out] at b3
        have bl := HV.out.2.2.trans (hb1.mono HV.out.2.2.size)
        exact ⟨((v0.setT hh (by decide) (by decide) 0 _).setT b1 (by decide) (by decide) 1 _).setT b2 (by decide) (by decide) 2 _, b3, ((bl.setCell (p := ⟨w0.heap.size + 1, 0, none⟩) (by simp) _).setCell (p := ⟨w0.heap.size + 1, 1, none⟩) (by simp) _).setCell (p := ⟨w0.heap.size + 1, 2, none⟩) (by simp) _⟩
      clear h0 hbw hfx hj hco0 hcx0 hfx0
      go_wp2
      go_region_with (go_at_call 55; refine HC.out.mono ?_; rintro e w1 ⟨rfl, hb1⟩; have hh := HH.out.drew.below hb1; have hb2 := ((Below.refl wo.heap.size wo).drew).trans hb1; have f0 := hh.frozen 0; have f1 := hh.frozen 1; have f2 := hh.frozen 2; have d0 := (hh.cell 0).trans G0.out; have d1 := (hh.cell 1).trans G1.out; have d2 := (hh.cell 2).trans G2.out; have HX := Lib.hid (And.intro hh hb2); clear hh hb1 hb2)
      all_goals
        have HY := Lib.hid (HAF.out _ HX.out.2 HX.out.1)
        clear f0 f1 f2 d0 d1 d2 HX
        generalize hW : (((w1.setCell ⟨w0.heap.size + 1, 0, none⟩ (.int .i64 y0)).setCell ⟨w0.heap.size + 1, 1, none⟩ (.int .i64 y1)).setCell ⟨w0.heap.size + 1, 2, none⟩ (.int .i64 y2)) = W at *
        clear hW
        have hrow : Row W (some ⟨w0.heap.size + 1, 0, none⟩) (ic (rowE xss p k)) := by
          have := Row.of_own (HY.out.2.1.own (base := 0) (n := mOf xss) (c := 3) (size := 1) (Nat.zero_le _) rfl hM3 (by unfold maxLen; omega) (by show mOf xss * 1 ≤ 3; omega))
          rw [arr3_take _ _ hM3] at this
          exact this
        have elr : (rowE xss p k).length = mOf xss := by simp [rowE]
        have HCL := Lib.hid (fun q => clone_some ⟨w0.heap.size + 1, 0, none⟩ 3 (rowE xss p k) (W.drewN q) hrow (by omega))
        rw [elr] at HCL
        have HMW := Lib.hid (HM.out W (HB0.out.trans (HY.out.2.2.mono hsz0)))
        clear hrow
        have hMi : ((mOf xss : Nat) : Int) ≤ 3 := by omega
        have hMj : (0 : Int) ≤ ((mOf xss : Nat) : Int) := by omega
        go_wp2_with (first | (go_at_call 40; refine HMW.out.mono ?_; rintro e _ ⟨rfl, q, rfl⟩) | (go_at_call 56; refine (HCL.out q).mono ?_; rintro e w3 ⟨ad', c', rfl, hown, hb3⟩; have HPUT := Lib.hid (HY.out.1.put (by rw [tabV_len]) (m := j) (by rw [tabV_len]; exact hx) ((below_drewN (Below.refl _ W) q).trans hb3) (cs := ic (rowE xss p k)) (n' := mOf xss) (by rw [ic_len, elr]) (own_low hown (Nat.le_trans HY.out.2.2.size (Nat.le_refl _))) (fun a ha => by injection ha with ha; subst ha; exact (own_type hown rfl).2.1)); obtain ⟨u, hcc⟩ := HPUT.out.2.1; have hff := HPUT.out.2.2.1; have HB3 := Lib.hid ((below_drewN (Below.refl W.heap.size W) q).trans hb3); clear hown hb3))
        go_roundw
        case rel => exact ⟨k + 1, _, by omega, by go_num, (by have h := HPUT.out.1; rw [tabV_set, HSTEPR.out] at h; exact h), (HY.out.2.1.below HB3.out).away (g' := w0.heap.size) (by omega) _ _, (HY.out.2.2.trans (HB3.out.mono HY.out.2.2.size)).setCell (p := ⟨w0.heap.size, j, none⟩) (Nat.le_refl _) _⟩
        case measure => simp [intOf]; omega
    · obtain rfl : k = p.length := by omega
      obtain ⟨h1, h2, h3⟩ := HV.out
      rw [doneR_all HP.out] at h1
      obtain ⟨a1, a2, a3, a4⟩ := h1
      have hv : OwnV vs w.heap.size w.heap.size wo (.slice (some ⟨w0.heap.size, 0, none⟩) xss.length xss.length) ((endsF xss p).map ic) := ⟨a1, own_low a2 hsz0, fun i a b => own_low (a3 i a b) hsz0, a4⟩
      obtain ⟨A', c', he, hsg⟩ := hv.seg (Nat.le_refl _)
      have el : ((endsF xss p).map ic).length = (endsF xss p).length := by simp
      rw [el] at he hsg
      have HF := Lib.hid (And.intro he (And.intro hsg (HB0.out.trans (h3.mono hsz0))))
      clear HV h2 h3 a1 a2 a3 a4 hv he hsg el
      go_wp2
      go_ret2
      exact ⟨A', c', by rw [← HF.out.1]; rfl, HF.out.2.1, HF.out.2.2⟩
theorem impl_FlowEnds (A : Option Addr) (c : Nat) (B : Option Addr) (d : Nat) (xss : List (List Int)) (o : List Int) (w : World) (hr : RowSS w A (xss.map ic)) (hq : Row w B (ic o)) (hn : xss.length ≤ 10000000 ∧ totL xss ≤ 10000000) (hm : o.length ≤ 10000000) : Calls Try.prog 26 #[.slice A xss.length c, .slice B o.length d] w (RetSSB w (endsR xss o)) := by
  cases h2 : span2 xss o
  · have HI := Lib.hid (shopFor_any A c B d xss o w hr hq hn hm)
    have HO := Lib.hid (endsR_no h2)
    rw [h2] at HI
    clear hr hq h2
    go_enter Try.func26, Try.ntmps26
    go_wp2_with fail
    refine HI.out.mono ?_
    rintro e w0 ⟨rfl, hb0⟩
    go_wp2
    go_ret2
    exact ret_nilSS HO.out hb0 _ rfl
  · obtain ⟨hs, p, rfl, hp, _⟩ := sp2_out h2
    rw [endsR_yes h2, List.length_map]
    exact impl_endsIn A B c d xss p w hr hq hn hs hp h2
end Go.Proofs.Ytdhndoccdfbefaa
