/- FlowSpan: both sides. -/
import Derived.Test.YtdhndoccdfbefaaShK
import Derived.Test.YtdhndoccdfbefaaLas
namespace Go.Proofs.Ytdhndoccdfbefaa
open Go.RowKit

/-- What a function with a number and a bool returns. -/
def RetNb (w : World) (r : Int × Bool) (e : Ending) (w' : World) : Prop := e = .returned (.tuple #[.int .i64 r.1, .bool r.2]) ∧ Below w.heap.size w w'
theorem sp2_no {xss : List (List Int)} {o : List Int} (h : shopB xss = false) : span2 xss o = false := by unfold span2; rw [h]; rfl
theorem sp2_ord {xss : List (List Int)} {o : List Int} (h : ordB xss.length o = false) : span2 xss o = false := by unfold span2; rw [h, Bool.and_false]
theorem sp2_yes {xss : List (List Int)} {o : List Int} (h : shopB xss = true) (h' : ordB xss.length o = true) : span2 xss o = true := by unfold span2; rw [h, h']; rfl
theorem sp2_out {xss : List (List Int)} {o : List Int} (h : span2 xss o = true) : Shop xss ∧ ∃ p : List Nat, o = p.map Int.ofNat ∧ p.Perm (List.range xss.length) ∧ p.length = xss.length := by
  unfold span2 at h
  rw [Bool.and_eq_true] at h
  obtain ⟨p, rfl, hp, hl, _⟩ := ord_nat h.2
  exact ⟨shopB_out h.1, p, rfl, hp, hl⟩
set_option maxHeartbeats 1000000 in
theorem l8Two_any (A : Option Addr) (c : Nat) (B : Option Addr) (d : Nat) (xss : List (List Int)) (o : List Int) (w : World) (hr : RowSS w A (xss.map ic)) (hq : Row w B (ic o)) (hn : xss.length ≤ 10000000 ∧ totL xss ≤ 10000000) (hm : o.length ≤ 10000000) :
    Calls Try.prog 50 #[.slice A xss.length c, .slice B o.length d] w fun e w' => e = .returned (.bool (span2 xss o)) ∧ ∃ q, w' = w.drewN q := by
  have HI := Lib.hid (l8Good_any A c xss w hr hn)
  cases hs : shopB xss
  · have HO := Lib.hid (sp2_no (o := o) hs)
    rw [hs] at HI
    clear hr hq hs
    go_enter Try.func50, Try.ntmps50
    go_wp2_with fail
    refine HI.out.mono ?_
    rintro e _ ⟨rfl, q, rfl⟩
    go_wp2
    go_ret
    exact ⟨by rw [HO.out]; rfl, _, rfl⟩
  · have HO : Hid (span2 xss o = ordB xss.length o) := by show _ = _; unfold span2; rw [hs]; rfl
    have HQ := Lib.hid (fun n => l2Order_any xss.length B d o (w.drewN n) hq (by omega))
    rw [hs] at HI
    clear hr hq hs
    go_enter Try.func50, Try.ntmps50
    go_wp2_with fail
    refine HI.out.mono ?_
    rintro e _ ⟨rfl, q, rfl⟩
    go_wp2_with fail
    refine (HQ.out _).mono ?_
    rintro e _ ⟨rfl, rfl⟩
    go_wp2
    go_ret
    exact ⟨by rw [HO.out]; rfl, _, rfl⟩
set_option maxHeartbeats 1000000 in
theorem shopFor_any (A : Option Addr) (c : Nat) (B : Option Addr) (d : Nat) (xss : List (List Int)) (o : List Int) (w : World) (hr : RowSS w A (xss.map ic)) (hq : Row w B (ic o)) (hn : xss.length ≤ 10000000 ∧ totL xss ≤ 10000000) (hm : o.length ≤ 10000000) :
    Calls Try.prog 52 #[.slice A xss.length c, .slice B o.length d] w fun e w' => e = .returned (.tuple #[.slice A xss.length c, .bool (span2 xss o)]) ∧ Below w.heap.size w w' := by
  have HI := Lib.hid (isShop_any A c xss w hr hn)
  cases hs : shopB xss
  · have HO := Lib.hid (sp2_no (o := o) hs)
    rw [hs] at HI
    clear hr hq hs
    go_enter Try.func52, Try.ntmps52
    go_wp2_with fail
    refine HI.out.mono ?_
    rintro e _ ⟨rfl, q, rfl⟩
    go_wp2
    go_ret2
    exact ⟨by rw [HO.out]; rfl, below_drewN (Below.refl _ _) _⟩
  · have HO : Hid (span2 xss o = ordB xss.length o) := by show _ = _; unfold span2; rw [hs]; rfl
    have HQ := Lib.hid (fun n => IsOrder_any xss.length B d o (w.drewN n) hq (by omega))
    rw [hs] at HI
    clear hr hq hs
    go_enter Try.func52, Try.ntmps52
    go_wp2_with fail
    refine HI.out.mono ?_
    rintro e _ ⟨rfl, q, rfl⟩
    go_wp2_with fail
    refine (HQ.out _).mono ?_
    rintro e w1 ⟨rfl, hb⟩
    go_wp2
    go_ret2
    exact ⟨by rw [HO.out]; rfl, (below_drewN (Below.refl _ _) q).trans hb⟩
theorem spanR_no {xss : List (List Int)} {o : List Int} (h : span2 xss o = false) : spanR xss o = (0, false) := by unfold spanR; rw [h]; rfl
theorem spanR_yes {xss : List (List Int)} {p : List Nat} (h : span2 xss (p.map Int.ofNat) = true) : spanR xss (p.map Int.ofNat) = (spanE xss p, true) := by unfold spanR; rw [h, natsP_of]; rfl
theorem most_row {xss : List (List Int)} (h : Shop xss) (p : List Nat) (x : Nat) : mostGo (rowE xss p x) 0 = eAt xss p (x + 1) (mOf xss - 1) := by
  unfold rowE
  have h1 := h.m1
  have h3 := h.m3
  have b0 := (eAt_bd h p (x + 1) 0).1
  have b1 := (eAt_bd h p (x + 1) 1).1
  rcases (by omega : mOf xss = 1 ∨ mOf xss = 2 ∨ mOf xss = 3) with e | e | e
  · rw [e]
    show max 0 (eAt xss p (x + 1) 0) = eAt xss p (x + 1) 0
    omega
  · have u : eAt xss p (x + 1) 0 ≤ eAt xss p (x + 1) 1 := eAt_up h p (x + 1) 0 (by omega)
    rw [e]
    show max (max 0 (eAt xss p (x + 1) 0)) (eAt xss p (x + 1) 1) = eAt xss p (x + 1) 1
    omega
  · have u : eAt xss p (x + 1) 0 ≤ eAt xss p (x + 1) 1 := eAt_up h p (x + 1) 0 (by omega)
    have u1 : eAt xss p (x + 1) 1 ≤ eAt xss p (x + 1) 2 := eAt_up h p (x + 1) 1 (by omega)
    rw [e]
    show max (max (max 0 (eAt xss p (x + 1) 0)) (eAt xss p (x + 1) 1)) (eAt xss p (x + 1) 2) = eAt xss p (x + 1) 2
    omega
set_option maxRecDepth 100000 in
set_option maxHeartbeats 4000000 in
theorem l8Span_any (A B : Option Addr) (c d : Nat) (xss : List (List Int)) (p : List Nat) (w : World) (hr : RowSS w A (xss.map ic)) (hq : Row w B (ic (p.map Int.ofNat))) (hn : xss.length ≤ 10000000 ∧ totL xss ≤ 10000000) (hs : Shop xss) (hp : p.Perm (List.range xss.length)) :
    Calls Try.prog 51 #[.slice A xss.length c, .slice B p.length d] w fun e w' => e = .returned (.int .i64 (spanE xss p)) ∧ Below w.heap.size w w' := by
  have hpl : p.length = xss.length := by rw [hp.length_eq]; simp
  by_cases h0 : p.length = 0
  · have HO : Hid (spanE xss p = 0) := by show eAt xss p p.length _ = 0; rw [h0]; rfl
    have hz : ((p.length : Int) == 0) = true := by rw [h0]; rfl
    clear hr hq hp hpl h0
    go_enter Try.func51, Try.ntmps51
    go_wp2
    go_ret
    exact ⟨by rw [HO.out]; rfl, Below.refl _ _⟩
  · obtain ⟨x, hx⟩ : ∃ x, p.length = x + 1 := ⟨p.length - 1, by omega⟩
    have hlx : x < p.length := by omega
    obtain ⟨ao, hB, hco⟩ := ord_at hq hlx
    subst hB
    have hj := permD_lt hp hlx
    have hao : ao.block < w.heap.size := by have := lt_of_cell hco; rwa [add_block] at this
    have HC := Lib.hid (l8Ends_any A (some ao) c d xss p w.drew hr hq hn hs hp)
    have hx1 : (p.length : Int) - 1 = x := by omega
    have h8 := hs.n8
    have hwm := IntWalk.i64_in (x : Int) (by omega)
    have hz : ((p.length : Int) == 0) = false := by rw [beq_eq_false_iff_ne]; omega
    have hi0 : (0 : Int) ≤ x := by omega
    have hi1 : (x : Int) < p.length := by omega
    have hij0 : (0 : Int) ≤ (p.getD x 0 : Nat) := by omega
    have hij1 : ((p.getD x 0 : Nat) : Int) < xss.length := by omega
    have HL : Hid (∀ w1 g vs, OwnV vs w.drew.heap.size w.drew.heap.size w1 (.slice (some ⟨g, 0, none⟩) xss.length xss.length) ((endsF xss p).map ic) → ∃ A' c', w1.cell? ⟨g, p.getD x 0, none⟩ = some (.slice A' (mOf xss) c') ∧ Calls Try.prog 74 #[.slice A' (mOf xss) c'] w1 fun e w' => e = .returned (.int .i64 (spanE xss p)) ∧ w1 = w') := fun w1 g vs hV => by
      have el : ((endsF xss p).map ic).length = xss.length := by simp [endsF]
      obtain ⟨hV1, hV2, hV3, _⟩ := hV
      have hlt : p.getD x 0 < vs.length := by omega
      have hrow := hV3 (p.getD x 0) (by omega) hlt
      have eg : ((endsF xss p).map ic)[p.getD x 0]'(by omega) = ic (rowE xss p x) := by
        simp only [endsF, List.getElem_map, List.getElem_range]
        rw [idx_at (hp.nodup_iff.2 List.nodup_range) hlx]
      rw [eg, ic_len] at hrow
      have elr : (rowE xss p x).length = mOf xss := by simp [rowE]
      have hcell : w1.cell? ⟨g, p.getD x 0, none⟩ = some (.slice (vs[p.getD x 0]'hlt).1 (mOf xss) (vs[p.getD x 0]'hlt).2) := by
        have hR : Row w1 (some ⟨g, 0, none⟩) (slC vs ((endsF xss p).map ic)) := by
          have := hV2
          rw [el] at this
          exact Row.of_own this
        have := hR.cell0 (k := p.getD x 0) (by rw [slC_len hV1]; omega)
        rw [slC_get hV1 (by omega)] at this
        rw [this]
        rw [eg, ic_len, elr]
      refine ⟨_, _, hcell, ?_⟩
      have := l2Last_any (vs[p.getD x 0]'hlt).1 (vs[p.getD x 0]'hlt).2 (rowE xss p x) w1 (Row.of_own hrow) (by rw [elr]; have := hs.m3; omega)
      rw [elr, most_row hs, ← hx] at this
      exact this
    clear hr hq hp hpl hs hlx hx h0
    generalize hJ : p.getD x 0 = j at *
    clear hJ
    generalize spanE xss p = S at *
    go_enter Try.func51, Try.ntmps51
    go_wp2
    go_region_with (first
      | (go_at_call 54; refine HC.out.mono ?_; rintro e w1 ⟨g, rfl, hg, ⟨vs, hV⟩, hb⟩; obtain ⟨A', c', hcell, hcall⟩ := HL.out w1 g vs hV; have HCALL := Lib.hid hcall; have hco1 := (hb.cell (p := ao.add x) (by rw [add_block]; exact hao)).trans hco; have HB1 := Lib.hid (((Below.refl w.heap.size w).drew).trans hb); clear hV hcall hb)
      | (go_at_call 74; refine HCALL.out.mono ?_; rintro e _ ⟨rfl, rfl⟩))
    all_goals
      go_wp2
      go_ret
      exact ⟨rfl, HB1.out⟩
set_option maxHeartbeats 1000000 in
theorem spec_FlowSpan (A : Option Addr) (c : Nat) (B : Option Addr) (d : Nat) (xss : List (List Int)) (o : List Int) (w : World) (hr : RowSS w A (xss.map ic)) (hq : Row w B (ic o)) (hn : xss.length ≤ 10000000 ∧ totL xss ≤ 10000000) (hm : o.length ≤ 10000000) : Calls Try.prog 23 #[.slice A xss.length c, .slice B o.length d] w (RetNb w (spanR xss o)) := by
  have HI := Lib.hid (l8Two_any A c B d xss o w hr hq hn hm)
  cases h2 : span2 xss o
  · have HO := Lib.hid (spanR_no h2)
    rw [h2] at HI
    clear hr hq h2
    go_enter Try.func23, Try.ntmps23
    go_wp2_with fail
    refine HI.out.mono ?_
    rintro e _ ⟨rfl, q, rfl⟩
    go_wp2
    go_ret2
    exact ⟨by rw [HO.out]; rfl, below_drewN (Below.refl _ _) _⟩
  · rw [h2] at HI
    obtain ⟨hs, p, rfl, hp, hpl0⟩ := sp2_out h2
    clear hpl0
    rw [spanR_yes h2]
    rw [List.length_map] at HI ⊢
    have HC := Lib.hid (fun n => l8Span_any A B c d xss p (w.drewN n) hr hq hn hs hp)
    clear hr hq h2 hp hs hm
    go_enter Try.func23, Try.ntmps23
    go_wp2_with fail
    refine HI.out.mono ?_
    rintro e _ ⟨rfl, q, rfl⟩
    go_wp2_with fail
    refine (HC.out _).mono ?_
    rintro e w1 ⟨rfl, hb⟩
    go_wp2
    go_ret2
    exact ⟨rfl, (below_drewN (Below.refl _ _) q).trans hb⟩
set_option maxHeartbeats 1000000 in
theorem impl_FlowSpan (A : Option Addr) (c : Nat) (B : Option Addr) (d : Nat) (xss : List (List Int)) (o : List Int) (w : World) (hr : RowSS w A (xss.map ic)) (hq : Row w B (ic o)) (hn : xss.length ≤ 10000000 ∧ totL xss ≤ 10000000) (hm : o.length ≤ 10000000) : Calls Try.prog 24 #[.slice A xss.length c, .slice B o.length d] w (RetNb w (spanR xss o)) := by
  have HI := Lib.hid (shopFor_any A c B d xss o w hr hq hn hm)
  cases h2 : span2 xss o
  · have HO := Lib.hid (spanR_no h2)
    rw [h2] at HI
    clear hr hq h2
    go_enter Try.func24, Try.ntmps24
    go_wp2_with fail
    refine HI.out.mono ?_
    rintro e w1 ⟨rfl, hb⟩
    go_wp2
    go_ret2
    exact ⟨by rw [HO.out]; rfl, hb⟩
  · rw [h2] at HI
    obtain ⟨hs, p, rfl, hp, hpl0⟩ := sp2_out h2
    clear hpl0
    rw [spanR_yes h2]
    rw [List.length_map] at HI ⊢
    have HC := Lib.hid (fun w1 (hb : Below w.heap.size w w1) => span_any A B c d xss p w1 (hr.below hb) (hq.below hb) hs hp)
    clear hr hq h2 hp hs hm
    go_enter Try.func24, Try.ntmps24
    go_wp2_with fail
    refine HI.out.mono ?_
    rintro e w1 ⟨rfl, hb⟩
    have HB := Lib.hid hb
    clear hb
    go_wp2_with fail
    refine (HC.out _ HB.out).mono ?_
    rintro e w2 ⟨rfl, hb2⟩
    go_wp2
    go_ret2
    exact ⟨rfl, HB.out.trans (hb2.mono HB.out.size)⟩
end Go.Proofs.Ytdhndoccdfbefaa
