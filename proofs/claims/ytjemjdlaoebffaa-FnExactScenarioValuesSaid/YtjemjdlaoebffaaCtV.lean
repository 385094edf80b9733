/- The values of an order by criteria: the program's. -/
import Derived.Test.YtjemjdlaoebffaaCtB
import Derived.Test.YtjemjdlaoebffaaCtS
namespace Go.Proofs.Ytjemjdlaoebffaa
set_option linter.unusedSimpArgs false
set_option linter.unusedVariables false
open Go.RowKit
theorem stA_put (z : Array Value) (hz : z.size = 9) (n : Nat) (FE FV : Nat → Int) : (((((((((z.setIfInBounds 0 (.int .i64 ((n : Int)))).setIfInBounds 1 (.int .i64 (FE 0))).setIfInBounds 2 (.int .i64 (FE 1))).setIfInBounds 3 (.int .i64 (FE 2))).setIfInBounds 4 (.int .i64 (FE 3))).setIfInBounds 5 (.int .i64 (FV 0))).setIfInBounds 6 (.int .i64 (FV 1))).setIfInBounds 7 (.int .i64 (FV 2))).setIfInBounds 8 (.int .i64 (FV 3))) = stA n FE FV := by
  apply Array.ext
  · simp [hz, stA]
  · intro i h1 h2
    have : i < 9 := h2
    rcases (by omega : i = 0 ∨ i = 1 ∨ i = 2 ∨ i = 3 ∨ i = 4 ∨ i = 5 ∨ i = 6 ∨ i = 7 ∨ i = 8) with rfl | rfl | rfl | rfl | rfl | rfl | rfl | rfl | rfl <;> simp [stA, hz]
theorem scA_put (z : Array Value) (hz : z.size = 4) (V : Nat → Int) : ((((z.setIfInBounds 0 (.int .i64 (V 0))).setIfInBounds 1 (.int .i64 (V 1))).setIfInBounds 2 (.int .i64 (V 2))).setIfInBounds 3 (.int .i64 (V 3))) = scA V := by
  apply Array.ext
  · simp [hz, scA]
  · intro i h1 h2
    have : i < 4 := h2
    rcases (by omega : i = 0 ∨ i = 1 ∨ i = 2 ∨ i = 3) with rfl | rfl | rfl | rfl <;> simp [scA, hz]
set_option maxRecDepth 100000 in
set_option maxHeartbeats 8000000 in
theorem valuesOf_any (B : Nat) (A : Option Addr) (cap : Nat) (ks : List Cr) (m : Nat) (p : List Nat) (Q : Option Addr) (d : Nat) (w : World) (hC : CritIs B w A m ks) (hl : ks.length ≤ 4) (hp : p.Perm (List.range m)) (hm : m ≤ 8) (hq : Row w Q (ic (natI p))) :
    Calls Try.prog 65 #[.slice A ks.length cap, .slice Q p.length d] w fun e w' => e = .returned (.agg (scA (valC ks p))) ∧ Below w.heap.size w w' := by
  have hb1 := (Below.refl w.heap.size w).alloc (Nat.le_refl _) (.cells #[.int .i64 0, .int .i64 0, .int .i64 0, .int .i64 0] 105)
  have hb2 := hb1.alloc hb1.size (.cells #[.int .i64 0, .int .i64 0, .int .i64 0, .int .i64 0, .int .i64 0, .int .i64 0, .int .i64 0, .int .i64 0, .int .i64 0] 147)
  have hx := (BlockIs.new w 105 #[.int .i64 0, .int .i64 0, .int .i64 0, .int .i64 0]).below ((Below.refl _ _).alloc (Nat.le_refl _) (.cells #[.int .i64 0, .int .i64 0, .int .i64 0, .int .i64 0, .int .i64 0, .int .i64 0, .int .i64 0, .int .i64 0, .int .i64 0] 147))
  have hy := BlockIs.new (w.alloc (.cells #[.int .i64 0, .int .i64 0, .int .i64 0, .int .i64 0] 105)) 147 #[.int .i64 0, .int .i64 0, .int .i64 0, .int .i64 0, .int .i64 0, .int .i64 0, .int .i64 0, .int .i64 0, .int .i64 0]
  have hz : (w.alloc (.cells #[.int .i64 0, .int .i64 0, .int .i64 0, .int .i64 0] 105)).heap.size = w.heap.size + 1 := by simp
  rw [hz] at hy
  have hpl : p.length = m := by simpa using hp.length_eq
  have HLT : Hid (∀ j ∈ p, j < m) := fun j hj => List.mem_range.1 (hp.mem_iff.1 hj)
  have HC := Lib.hid hC
  have HQ := Lib.hid hq
  have H0 := Lib.hid (And.intro hx (And.intro hy hb2))
  have hp8 : p.length ≤ 8 := by omega
  clear hb1 hb2 hx hy hz hC hq hp hpl
  go_enter Try.func65, Try.ntmps65
  go_wp2
  generalize hw0 : (w.alloc (.cells #[.int .i64 0, .int .i64 0, .int .i64 0, .int .i64 0] 105)).alloc (.cells #[.int .i64 0, .int .i64 0, .int .i64 0, .int .i64 0, .int .i64 0, .int .i64 0, .int .i64 0, .int .i64 0, .int .i64 0] 147) = w0 at *
  clear hw0
  go_loopw [11] (fun iv wr => ∃ k : Nat, k ≤ p.length ∧ iv = .int .i64 (k : Int) ∧ Hid (BlockIs wr w.heap.size 105 #[.int .i64 0, .int .i64 0, .int .i64 0, .int .i64 0] ∧ BlockIs wr (w.heap.size + 1) 147 (stA k (endC ks (p.take k)) (valC ks (p.take k))) ∧ Below w.heap.size w wr)) (fun iv _ => p.length - (intOf iv).toNat)
  case atStart => exact ⟨0, Nat.zero_le _, rfl, by rw [List.take_zero, endC_nil, valC_nil]; exact H0.out⟩
  case round =>
    obtain ⟨k, hk, rfl, HI⟩ := hrel
    clear H0
    have hwn := Nat.succ_ne_self w.heap.size
    by_cases hlt : k < p.length
    · have hi0 : (0 : Int) ≤ k := by omega
      have hi1 : (k : Int) < p.length := by omega
      have hkI : (k : Int) ≤ 8 := by omega
      obtain ⟨aq, rfl, hcq⟩ := (HQ.out.below HI.out.2.2).nat hlt
      have htl : (p.take k).length = k := by rw [List.length_take]; omega
      have hcr := HC.out.below HI.out.2.2
      have hbj : ∀ j ∈ p.take k, j < m := fun j hj => HLT.out j (List.mem_of_mem_take hj)
      have hE := endC_bd hcr hbj (by omega)
      have hV := valC_bd hcr hbj (by omega)
      rw [htl] at hE hV
      have hjm := HLT.out p[k] (List.getElem_mem hlt)
      have hB := behind_any B A cap ks m k (endC ks (p.take k)) (valC ks (p.take k)) p[k] wr hcr hl (by omega) hjm (fun i hi => ⟨(hE i hi).1, by have := (hE i hi).2; omega⟩) hV
      have hs1 := endC_step ks (p.take k) p[k]
      have hs2 := valC_step ks (p.take k) p[k]
      rw [htl, ← List.take_succ_eq_append_getElem hlt] at hs2
      rw [← List.take_succ_eq_append_getElem hlt] at hs1
      rw [hs1, hs2] at hB
      have k0 := HI.out.1
      have k1 := HI.out.2.1
      unfold stA at hB k1
      have c0 := k1.cell 0
      have c1 := k1.cell 1
      have c2 := k1.cell 2
      have c3 := k1.cell 3
      have c4 := k1.cell 4
      have c5 := k1.cell 5
      have c6 := k1.cell 6
      have c7 := k1.cell 7
      have c8 := k1.cell 8
      simp only [List.getElem?_toArray, List.getElem?_cons_zero, List.getElem?_cons_succ] at c0 c1 c2 c3 c4 c5 c6 c7 c8
      have HB := Lib.hid hB
      have HW := Lib.hid HI.out.2.2
      have HK0 := Lib.hid k0
      have HK1 := Lib.hid k1
      clear htl hcr hbj hE hV hjm hB hs1 hs2 k0 k1 HI
      generalize p[k] = job at *
      generalize endC ks (p.take k) = GE at *
      generalize valC ks (p.take k) = GV at *
      obtain ⟨FE, hFE⟩ : ∃ f, f = endC ks (p.take (k + 1)) := ⟨_, rfl⟩
      obtain ⟨FV, hFV⟩ : ∃ f, f = valC ks (p.take (k + 1)) := ⟨_, rfl⟩
      rw [← hFE, ← hFV] at HB
      have HFE := Lib.hid hFE
      have HFV := Lib.hid hFV
      clear hFE hFV
      go_wp2_with fail
      refine HB.out.mono ?_
      rintro e w3 ⟨rfl, hb3⟩
      have k0 := HK0.out.below hb3
      have k1 := HK1.out.below hb3
      have hbw := HW.out.trans (hb3.mono HW.out.size)
      clear c0 c1 c2 c3 c4 c5 c6 c7 c8
      have c0 := k1.cell 0
      have c1 := k1.cell 1
      have c2 := k1.cell 2
      have c3 := k1.cell 3
      have c4 := k1.cell 4
      have c5 := k1.cell 5
      have c6 := k1.cell 6
      have c7 := k1.cell 7
      have c8 := k1.cell 8
      have f0 := k1.frozen 0
      have f1 := k1.frozen 1
      have f2 := k1.frozen 2
      have f3 := k1.frozen 3
      have f4 := k1.frozen 4
      have f5 := k1.frozen 5
      have f6 := k1.frozen 6
      have f7 := k1.frozen 7
      have f8 := k1.frozen 8
      simp only [List.getElem?_toArray, List.getElem?_cons_zero, List.getElem?_cons_succ] at c0 c1 c2 c3 c4 c5 c6 c7 c8
      have hK1 := (((((((((k1.set 0 (.int .i64 (((k + 1 : Nat) : Int)))).set 1 (.int .i64 (FE 0))).set 2 (.int .i64 (FE 1))).set 3 (.int .i64 (FE 2))).set 4 (.int .i64 (FE 3))).set 5 (.int .i64 (FV 0))).set 6 (.int .i64 (FV 1))).set 7 (.int .i64 (FV 2))).set 8 (.int .i64 (FV 3)))
      have hK0 := (away_cell (away_cell (away_cell (away_cell (away_cell (away_cell (away_cell (away_cell (away_cell k0 hwn.symm 0 (.int .i64 (((k + 1 : Nat) : Int)))) hwn.symm 1 (.int .i64 (FE 0))) hwn.symm 2 (.int .i64 (FE 1))) hwn.symm 3 (.int .i64 (FE 2))) hwn.symm 4 (.int .i64 (FE 3))) hwn.symm 5 (.int .i64 (FV 0))) hwn.symm 6 (.int .i64 (FV 1))) hwn.symm 7 (.int .i64 (FV 2))) hwn.symm 8 (.int .i64 (FV 3)))
      have hBE := (((((((((hbw.setCell (p := ⟨w.heap.size + 1, 0, none⟩) (Nat.le_succ _) (.int .i64 (((k + 1 : Nat) : Int)))).setCell (p := ⟨w.heap.size + 1, 1, none⟩) (Nat.le_succ _) (.int .i64 (FE 0))).setCell (p := ⟨w.heap.size + 1, 2, none⟩) (Nat.le_succ _) (.int .i64 (FE 1))).setCell (p := ⟨w.heap.size + 1, 3, none⟩) (Nat.le_succ _) (.int .i64 (FE 2))).setCell (p := ⟨w.heap.size + 1, 4, none⟩) (Nat.le_succ _) (.int .i64 (FE 3))).setCell (p := ⟨w.heap.size + 1, 5, none⟩) (Nat.le_succ _) (.int .i64 (FV 0))).setCell (p := ⟨w.heap.size + 1, 6, none⟩) (Nat.le_succ _) (.int .i64 (FV 1))).setCell (p := ⟨w.heap.size + 1, 7, none⟩) (Nat.le_succ _) (.int .i64 (FV 2))).setCell (p := ⟨w.heap.size + 1, 8, none⟩) (Nat.le_succ _) (.int .i64 (FV 3)))
      rw [stA_put _ rfl] at hK1
      have HX := Lib.hid (And.intro hK0 (And.intro hK1 hBE))
      clear hb3 k0 k1 hbw hK1 hK0 hBE HB HK0 HK1 HW
      go_wp2
      go_roundw
      case rel => exact ⟨k + 1, by omega, by go_num, by rw [← HFE.out, ← HFV.out]; exact HX.out⟩
      case measure => simp [intOf]; omega
    · obtain rfl : k = p.length := by omega
      have k0 := HI.out.1
      have k1 := HI.out.2.1
      have hbw := HI.out.2.2
      rw [List.take_of_length_le (Nat.le_refl _)] at k1
      unfold stA at k1
      generalize endC ks p = FE at *
      obtain ⟨FV, hFV⟩ : ∃ f, f = valC ks p := ⟨_, rfl⟩
      rw [← hFV] at k1
      have HFV := Lib.hid hFV
      clear hFV
      have c5 := k1.cell 5
      have c6 := k1.cell 6
      have c7 := k1.cell 7
      have c8 := k1.cell 8
      have d0 := k0.cell 0
      have d1 := k0.cell 1
      have d2 := k0.cell 2
      have d3 := k0.cell 3
      have e0 := k0.frozen 0
      have e1 := k0.frozen 1
      have e2 := k0.frozen 2
      have e3 := k0.frozen 3
      simp only [List.getElem?_toArray, List.getElem?_cons_zero, List.getElem?_cons_succ] at c5 c6 c7 c8 d0 d1 d2 d3
      have hF := ((((k0.set 0 (.int .i64 (FV 0))).set 1 (.int .i64 (FV 1))).set 2 (.int .i64 (FV 2))).set 3 (.int .i64 (FV 3)))
      have hBE := ((((hbw.setCell (p := ⟨w.heap.size, 0, none⟩) (Nat.le_refl _) (.int .i64 (FV 0))).setCell (p := ⟨w.heap.size, 1, none⟩) (Nat.le_refl _) (.int .i64 (FV 1))).setCell (p := ⟨w.heap.size, 2, none⟩) (Nat.le_refl _) (.int .i64 (FV 2))).setCell (p := ⟨w.heap.size, 3, none⟩) (Nat.le_refl _) (.int .i64 (FV 3)))
      rw [scA_put _ rfl] at hF
      have HX := Lib.hid (And.intro hF hBE)
      clear k0 k1 hbw hF hBE HI
      go_wp2
      exact bodyPost_ret (v := .agg (scA FV)) (results_cell_row (p := 4) (ty := 105) rfl _ _ w.heap.size 105 _ (0, 0) _ rfl HX.out.1 Try.underlying105 rfl (by kernel_rfl)) rfl ⟨by rw [HFV.out], HX.out.2⟩
end Go.Proofs.Ytjemjdlaoebffaa
