/- The span: the program's. -/
import Derived.Test.YtdhndoccdfbefaaShB
namespace Go.Proofs.Ytdhndoccdfbefaa
open Go.RowKit

theorem eAt_step (xss : List (List Int)) (p : List Nat) (k : Nat) : arr3 (mixE (eAt xss p k) (tm xss (p.getD k 0)) (mOf xss)) = arr3 (eAt xss p (k + 1)) := by
  apply arr3_ext
  intro j _
  unfold mixE
  show _ = if j < mOf xss then nowE (eAt xss p k) (tm xss (p.getD k 0)) (j + 1) else 0
  by_cases h : j < mOf xss
  · rw [if_pos h, if_pos h]
  · rw [if_neg h, if_neg h, eAt_out p k j (by omega)]
theorem fL3 (f : Int → Int → Int) (a b c : Int) : fL f [a, b, c] 3 = f (f a b) c := rfl
theorem maxF_eq (a b : Int) : maxF a b = max a b := by unfold maxF; split <;> omega
set_option maxRecDepth 100000 in
set_option maxHeartbeats 2000000 in
theorem span_any (A B : Option Addr) (c d : Nat) (xss : List (List Int)) (p : List Nat) (w : World) (hr : RowSS w A (xss.map ic)) (hq : Row w B (ic (p.map Int.ofNat))) (hs : Shop xss) (hp : p.Perm (List.range xss.length)) :
    Calls Try.prog 53 #[.slice A xss.length c, .slice B p.length d] w fun e w' => e = .returned (.int .i64 (spanE xss p)) ∧ Below w.heap.size w w' := by
  have hpl : p.length = xss.length := by rw [hp.length_eq]; simp
  have HROW := Lib.hid (fun wr (hb : Below w.heap.size w wr) i (hi : i < xss.length) => hs.row (hr.below hb) hi)
  have HORD := Lib.hid (fun wr (hb : Below w.heap.size w wr) k (hk : k < p.length) => ord_at (hq.below hb) hk)
  have HLT := Lib.hid (fun k (hk : k < p.length) => permD_lt hp hk)
  have HS := Lib.hid hs
  have h8 := hs.n8
  have hM3 := hs.m3
  have hM1 := hs.m1
  have HPL := Lib.hid hpl
  have hpl8 : p.length ≤ 8 := by omega
  clear hr hq hs hp hpl
  have b0 := (Below.refl w.heap.size w).alloc (Nat.le_refl _) (.cells #[.int .i64 0, .int .i64 0, .int .i64 0] 57)
  have h0 := BlockIs.new w 57 #[.int .i64 0, .int .i64 0, .int .i64 0]
  have H := Lib.hid (And.intro h0 b0)
  clear b0 h0
  go_enter Try.func53, Try.ntmps53
  go_wp2
  go_loopw [11] (fun i wr => ∃ k : Nat, k ≤ p.length ∧ i = .int .i64 (k : Int) ∧ BlockIs wr w.heap.size 57 (arr3 (eAt xss p k)) ∧ Below w.heap.size w wr) (fun i _ => p.length - (intOf i).toNat)
  case atStart => exact ⟨0, Nat.zero_le _, rfl, H.out⟩
  case round =>
    obtain ⟨k, hk, rfl, h0, hb⟩ := hrel
    clear H
    by_cases hlt : k < p.length
    · obtain ⟨ao, hB, hco⟩ := HORD.out wr hb k hlt
      subst hB
      have hx := HLT.out k hlt
      obtain ⟨ad, bx, dx, hA', hcx, hfx⟩ := HROW.out wr hb _ hx
      subst hA'
      have hi0 : (0 : Int) ≤ k := by omega
      have hi1 : (k : Int) < p.length := by omega
      have hx0' : (0 : Int) ≤ (p.getD k 0 : Nat) := by omega
      have hx1' : ((p.getD k 0 : Nat) : Int) < xss.length := by omega
      have hbb : bx.block < wr.heap.size := by have := lt_of_cell (hfx 0 (by omega)); rwa [add_block] at this
      have HC := Lib.hid (behind_any (eAt xss p k) (tm xss (p.getD k 0)) bx (mOf xss) dx wr.drew hfx hbb hM3 (fun j => by have := eAt_bd HS.out p k j; omega) (fun j => HS.out.tm _ j))
      rw [eAt_step] at HC
      have c0 := h0.cell 0
      have c1 := h0.cell 1
      have c2 := h0.cell 2
      rw [arr3_get _ 0 (by omega)] at c0
      rw [arr3_get _ 1 (by omega)] at c1
      rw [arr3_get _ 2 (by omega)] at c2
      have G0 := Lib.hid (arr3_get (eAt xss p k) 0 (by omega))
      have G1 := Lib.hid (arr3_get (eAt xss p k) 1 (by omega))
      have G2 := Lib.hid (arr3_get (eAt xss p k) 2 (by omega))
      have HH := Lib.hid h0
      have HB := Lib.hid hb
      have HSET : Hid (((((arr3 (eAt xss p k)).setIfInBounds 0 (.int .i64 (eAt xss p (k + 1) 0))).setIfInBounds 1 (.int .i64 (eAt xss p (k + 1) 1))).setIfInBounds 2 (.int .i64 (eAt xss p (k + 1) 2))) = arr3 (eAt xss p (k + 1))) := rfl
      have HCA : Hid (∀ f, arr3 f = #[.int .i64 (f 0), .int .i64 (f 1), .int .i64 (f 2)]) := fun _ => rfl
      rw [HCA.out (eAt xss p k), HCA.out (eAt xss p (k + 1))] at HC
      generalize eAt xss p (k + 1) 0 = y0 at *
      generalize eAt xss p (k + 1) 1 = y1 at *
      generalize eAt xss p (k + 1) 2 = y2 at *
      generalize eAt xss p k 0 = x0 at *
      generalize eAt xss p k 1 = x1 at *
      generalize eAt xss p k 2 = x2 at *
      generalize hj : p.getD k 0 = j at hco hx hcx hx0' hx1'
      clear h0 hb hfx hj
      go_wp2
      go_region_with (go_at_call 55; refine HC.out.mono ?_; rintro e w1 ⟨rfl, hb1⟩; have hh := HH.out.drew.below hb1; have hb2 := ((Below.refl wr.heap.size wr).drew).trans hb1; have f0 := hh.frozen 0; have f1 := hh.frozen 1; have f2 := hh.frozen 2; have d0 := (hh.cell 0).trans G0.out; have d1 := (hh.cell 1).trans G1.out; have d2 := (hh.cell 2).trans G2.out; have HX := Lib.hid (And.intro hh hb2); clear hh hb1 hb2)
      all_goals
        go_wp2
        go_roundw
        case rel => exact ⟨k + 1, by omega, by go_num, by rw [← HSET.out]; exact ((HX.out.1.set 0 _).set 1 _).set 2 _, (((HB.out.trans (HX.out.2.mono HB.out.size)).setCell (p := ⟨w.heap.size, 0, none⟩) (Nat.le_refl _) _).setCell (p := ⟨w.heap.size, 1, none⟩) (Nat.le_refl _) _).setCell (p := ⟨w.heap.size, 2, none⟩) (Nat.le_refl _) _⟩
        case measure => simp [intOf]; omega
    · obtain rfl : k = p.length := by omega
      have hrow : Row wr (some ⟨w.heap.size, 0, none⟩) (ic [eAt xss p p.length 0, eAt xss p p.length 1, eAt xss p p.length 2]) :=
        Row.of_own (h0.own (base := 0) (n := 3) (c := 3) (size := 1) (Nat.zero_le _) rfl (by omega) (by unfold maxLen; omega) (Nat.le_refl 3))
      have HMX := Lib.hid (max_any (some ⟨w.heap.size, 0, none⟩) 3 [eAt xss p p.length 0, eAt xss p p.length 1, eAt xss p p.length 2] wr hrow (by simp) (by simp))
      have HSP : Hid (fL maxF [eAt xss p p.length 0, eAt xss p p.length 1, eAt xss p p.length 2] [eAt xss p p.length 0, eAt xss p p.length 1, eAt xss p p.length 2].length = spanE xss p) := by
        show fL maxF _ 3 = _
        rw [fL3, maxF_eq, maxF_eq, span_max HS.out p]
      rw [HSP.out] at HMX
      have HB := Lib.hid hb
      clear h0 hb hrow HSP
      go_wp2_with fail
      refine HMX.out.mono ?_
      rintro e _ ⟨rfl, q, rfl⟩
      go_wp2
      go_ret
      exact ⟨rfl, below_drewN HB.out q⟩
end Go.Proofs.Ytdhndoccdfbefaa
