/- Machines and jobs as lines: their visits. -/
import Derived.Test.YtdhndoccdfbefaaShL
import Derived.Handy
namespace Go.Proofs.Ytdhndoccdfbefaa
open Go.RowKit

theorem infoVi : (Try.prog.info? 83).map (fun i => (i.zero, i.size, i.bytes)) = some (some (.agg #[.int .i64 0, .int .i64 0]), 2, 16) := by kernel_rfl
/-- The cells of visits, of which x are there. -/
def visF (J K : Nat → Nat) (x : Nat) : Nat → Int := fun i => if i / 2 < x then (if i % 2 = 0 then (J (i / 2) : Nat) else (K (i / 2) : Nat)) else 0
theorem vis_zero (J K : Nat → Nat) (n : Nat) : madeCells (Value.agg #[.int .i64 0, .int .i64 0]).cells n = freeA (visF J K 0) n := by
  apply Array.ext_getElem?
  intro i
  by_cases hi : i < n
  · rw [freeA_get _ _ _ hi]
    unfold madeCells visF
    rw [if_neg (by omega)]
    simp only [Array.getElem?_map, Array.getElem?_range, hi, if_true, Option.map_some]
    rcases (by omega : i % 2 = 0 ∨ i % 2 = 1) with e | e
    · show some (#[Value.int .i64 0, Value.int .i64 0][i % 2]!) = _; rw [e]; rfl
    · show some (#[Value.int .i64 0, Value.int .i64 0][i % 2]!) = _; rw [e]; rfl
  · rw [Array.getElem?_eq_none (by rw [size_madeCells]; omega), Array.getElem?_eq_none (by rw [freeA_size]; omega)]
theorem vis_step (J K : Nat → Nat) (n k : Nat) (h : k * 2 + 1 < n) : ((freeA (visF J K k) n).setIfInBounds (k * 2) (.int .i64 (J k : Nat))).setIfInBounds (k * 2 + 1) (.int .i64 (K k : Nat)) = freeA (visF J K (k + 1)) n := by
  rw [freeA_set _ _ _ _ (by omega), freeA_set _ _ _ _ h]
  apply freeA_ext
  intro i _
  unfold visF
  by_cases e1 : i = k * 2 + 1
  · subst e1
    rw [if_pos rfl, if_pos (by omega), if_neg (by omega), show (k * 2 + 1) / 2 = k by omega]
  · rw [if_neg e1]
    by_cases e0 : i = k * 2
    · subst e0
      rw [if_pos rfl, if_pos (by omega), if_pos (by omega), show k * 2 / 2 = k by omega]
    · rw [if_neg e0]
      by_cases h2 : i / 2 < k
      · have h3 : i / 2 < k + 1 := by omega
        rw [if_pos h2, if_pos h3]
      · have h3 : ¬ i / 2 < k + 1 := by omega
        rw [if_neg h2, if_neg h3]
theorem vis_get0 (J K : Nat → Nat) {x k : Nat} (h : k < x) : visF J K x (k * 2) = (J k : Nat) := by
  unfold visF
  rw [if_pos (by omega), if_pos (by omega), show k * 2 / 2 = k by omega]
theorem vis_get1 (J K : Nat → Nat) {x k : Nat} (h : k < x) : visF J K x (k * 2 + 1) = (K k : Nat) := by
  unfold visF
  rw [if_pos (by omega), if_neg (by omega), show (k * 2 + 1) / 2 = k by omega]
set_option maxRecDepth 100000 in
set_option maxHeartbeats 2000000 in
theorem mVisits_any (A : Option Addr) (c : Nat) (xss : List (List Int)) (v : Nat) (w : World) (_hr : RowSS w A (xss.map ic)) (hs : Shop xss) (hn : xss.length ≤ 10000000 ∧ totL xss ≤ 10000000) :
    Calls Try.prog 113 #[.int .i64 v, .slice A xss.length c] w fun e w' => ∃ g, e = .returned (.slice (some ⟨g, 0, none⟩) xss.length xss.length) ∧ w.heap.size ≤ g ∧ BlockIs w' g 83 (freeA (visF (fun i => i) (fun _ => v) xss.length) (xss.length * 2)) ∧ Below w.heap.size w w' := by
  have h8 := hs.n8
  have hM1 := hs.m1
  have hM3 := hs.m3
  have hmk := run_make_rows (P := Try.prog) 80 83 (.agg #[.int .i64 0, .int .i64 0]) 2 16 Try.underlying80 infoVi .i64 .i64 xss.length (by omega) (by omega)
  clear hs
  go_enter Try.func113, Try.ntmps113
  go_wp2
  go_loopw [12] (fun i wr => ∃ k : Nat, k ≤ xss.length ∧ i = .int .i64 (k : Int) ∧ BlockIs wr w.heap.size 83 (freeA (visF (fun i => i) (fun _ => v) k) (xss.length * 2)) ∧ Hid (Below w.heap.size w wr)) (fun i _ => xss.length - (intOf i).toNat)
  case atStart => exact ⟨0, Nat.zero_le _, rfl, by rw [← vis_zero (fun i => i) (fun _ => v) (xss.length * 2)]; exact BlockIs.new _ _ _, by first | exact (Below.refl _ _).alloc (Nat.le_refl _) _ | exact (below_drewN (Below.refl _ _) _).alloc (Nat.le_refl _) _⟩
  case round =>
    obtain ⟨k, hk, rfl, h0, hb⟩ := hrel
    clear hmk
    by_cases hlt : k < xss.length
    · have c0 := h0.cell (k * 2)
      have c1 := h0.cell (k * 2 + 1)
      rw [freeA_get _ _ _ (by omega)] at c0 c1
      have f0 := h0.frozen (k * 2)
      have f1 := h0.frozen (k * 2 + 1)
      have HS := Lib.hid ((h0.set (k * 2) (.int .i64 ((fun i => i) k : Nat))).set (k * 2 + 1) (.int .i64 ((fun _ => v) k : Nat)))
      rw [vis_step (fun i => i) (fun _ => v) (xss.length * 2) k (by omega)] at HS
      have hi0 : (0 : Int) ≤ k := by omega
      have hi1 : (k : Int) < (xss.length : Nat) := by omega
      clear h0
      go_wp2
      go_roundw
      case rel => exact ⟨k + 1, by omega, by go_num, HS.out, (hb.out.setCell (p := ⟨w.heap.size, k * 2, none⟩) (Nat.le_refl _) _).setCell (p := ⟨w.heap.size, k * 2 + 1, none⟩) (Nat.le_refl _) _⟩
      case measure => simp [intOf]; omega
    · obtain rfl : k = xss.length := by omega
      go_wp2
      go_ret
      exact ⟨_, rfl, Nat.le_refl _, h0, hb.out⟩
set_option maxRecDepth 100000 in
set_option maxHeartbeats 2000000 in
theorem jVisits_any (A : Option Addr) (c : Nat) (xss : List (List Int)) (v : Nat) (w : World) (hr : RowSS w A (xss.map ic)) (hs : Shop xss) (hn : xss.length ≤ 10000000 ∧ totL xss ≤ 10000000) :
    Calls Try.prog 114 #[.int .i64 v, .slice A xss.length c] w fun e w' => ∃ g, e = .returned (.slice (some ⟨g, 0, none⟩) (mOf xss) (mOf xss)) ∧ w.heap.size ≤ g ∧ BlockIs w' g 83 (freeA (visF (fun _ => v) (fun i => i) (mOf xss)) ((mOf xss) * 2)) ∧ Below w.heap.size w w' := by
  have h8 := hs.n8
  have hM1 := hs.m1
  have hM3 := hs.m3
  have HM := Lib.hid (machines_any A c xss w hr hn)
  have hmk := run_make_rows (P := Try.prog) 80 83 (.agg #[.int .i64 0, .int .i64 0]) 2 16 Try.underlying80 infoVi .i64 .i64 (mOf xss) (by omega) (by omega)
  clear hr hs
  go_enter Try.func114, Try.ntmps114
  go_wp2_with fail
  refine HM.out.mono ?_
  rintro e _ ⟨rfl, q, rfl⟩
  go_wp2
  go_loopw [12] (fun i wr => ∃ k : Nat, k ≤ (mOf xss) ∧ i = .int .i64 (k : Int) ∧ BlockIs wr w.heap.size 83 (freeA (visF (fun _ => v) (fun i => i) k) ((mOf xss) * 2)) ∧ Hid (Below w.heap.size w wr)) (fun i _ => (mOf xss) - (intOf i).toNat)
  case atStart => exact ⟨0, Nat.zero_le _, rfl, by rw [← vis_zero (fun _ => v) (fun i => i) ((mOf xss) * 2)]; exact BlockIs.new _ _ _, by first | exact (Below.refl _ _).alloc (Nat.le_refl _) _ | exact (below_drewN (Below.refl _ _) _).alloc (Nat.le_refl _) _⟩
  case round =>
    obtain ⟨k, hk, rfl, h0, hb⟩ := hrel
    clear hmk
    by_cases hlt : k < (mOf xss)
    · have c0 := h0.cell (k * 2)
      have c1 := h0.cell (k * 2 + 1)
      rw [freeA_get _ _ _ (by omega)] at c0 c1
      have f0 := h0.frozen (k * 2)
      have f1 := h0.frozen (k * 2 + 1)
      have HS := Lib.hid ((h0.set (k * 2) (.int .i64 ((fun _ => v) k : Nat))).set (k * 2 + 1) (.int .i64 ((fun i => i) k : Nat)))
      rw [vis_step (fun _ => v) (fun i => i) ((mOf xss) * 2) k (by omega)] at HS
      have hi0 : (0 : Int) ≤ k := by omega
      have hi1 : (k : Int) < ((mOf xss) : Nat) := by omega
      clear h0
      go_wp2
      go_roundw
      case rel => exact ⟨k + 1, by omega, by go_num, HS.out, (hb.out.setCell (p := ⟨w.heap.size, k * 2, none⟩) (Nat.le_refl _) _).setCell (p := ⟨w.heap.size, k * 2 + 1, none⟩) (Nat.le_refl _) _⟩
      case measure => simp [intOf]; omega
    · obtain rfl : k = (mOf xss) := by omega
      go_wp2
      go_ret
      exact ⟨_, rfl, Nat.le_refl _, h0, hb.out⟩
set_option maxRecDepth 100000 in
set_option maxHeartbeats 2000000 in
theorem at_any (A : Option Addr) (c : Nat) (xss : List (List Int)) (j k : Nat) (w : World) (hr : RowSS w A (xss.map ic)) (hs : Shop xss) (hj : j < xss.length) (hk : k < mOf xss) :
    Calls Try.prog 89 #[.slice A xss.length c, .agg #[.int .i64 (j : Int), .int .i64 (k : Int)]] w fun e w' => e = .returned (.int .i64 (tm xss j k)) ∧ Below w.heap.size w w' := by
  have hb := (Below.refl w.heap.size w).alloc (Nat.le_refl _) (.cells #[.int .i64 (j : Int), .int .i64 (k : Int)] 83)
  have h0 := BlockIs.new w 83 #[.int .i64 (j : Int), .int .i64 (k : Int)]
  have d0 := h0.cell 0
  have d1 := h0.cell 1
  simp only [List.getElem?_toArray, List.getElem?_cons_zero, List.getElem?_cons_succ] at d0 d1
  obtain ⟨ad, b, d, rfl, hc, hf⟩ := hs.row (hr.below hb) hj
  have hcf := hf k hk
  have h8 := hs.n8
  have hM3 := hs.m3
  have hj0 : (0 : Int) ≤ j := by omega
  have hj1 : (j : Int) < xss.length := by omega
  have hk0 : (0 : Int) ≤ k := by omega
  have hk1 : (k : Int) < (mOf xss : Nat) := by omega
  have HB := Lib.hid hb
  generalize tm xss j k = t at *
  clear hr hs hf hb h0
  go_enter Try.func89, Try.ntmps89
  go_wp2
  go_quiet (fail)
  go_wp2
  go_ret
  exact ⟨rfl, below_drewN HB.out _⟩
end Go.Proofs.Ytdhndoccdfbefaa
