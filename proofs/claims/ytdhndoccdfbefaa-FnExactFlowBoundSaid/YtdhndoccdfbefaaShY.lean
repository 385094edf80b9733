/- FlowBound: what a machine tells, the program's side. -/
import Derived.Test.YtdhndoccdfbefaaShX
import Derived.Test.YtdhndoccdfbefaaBlo
namespace Go.Proofs.Ytdhndoccdfbefaa
open Go.RowKit

/-- The times of a job ahead of a machine, and behind it. -/
def hdS (xss : List (List Int)) (v i : Nat) : Int := sumN (tm xss i) v
def tlS (xss : List (List Int)) (v i : Nat) : Int := sumN (fun y => tm xss i (v + 1 + y)) (mOf xss - (v + 1))
/-- The least of the first k numbers; -1 of none. -/
def hF (f : Nat → Int) : Nat → Int
  | 0 => -1
  | k + 1 => if hF f k < 0 then f k else if f k < hF f k then f k else hF f k
theorem hF_bd {f : Nat → Int} (h : ∀ i, 0 ≤ f i ∧ f i ≤ 90) : ∀ k, -1 ≤ hF f k ∧ hF f k ≤ 90 ∧ (0 < k → 0 ≤ hF f k)
  | 0 => by unfold hF; omega
  | k + 1 => by
    have a := hF_bd h k
    have b := h k
    unfold hF
    split
    · omega
    · split <;> omega
def boundAt (xss : List (List Int)) (v : Nat) : Int := colS xss v + hF (hdS xss v) xss.length + hF (tlS xss v) xss.length
theorem fL_hF {f : Nat → Int} (h : ∀ i, 0 ≤ f i ∧ f i ≤ 90) (n : Nat) : ∀ k, k + 1 ≤ n → fL minF ((List.range n).map f) (k + 1) = hF f (k + 1)
  | 0, hk => by
    rw [fL_one minF (by simp; omega)]
    simp [hF]
  | k + 1, hk => by
    rw [fL_step minF (by simp; omega) (by omega), fL_hF h n k (by omega)]
    have h2 := (hF_bd h (k + 1)).2.2 (by omega)
    have e : ((List.range n).map f)[k + 1]'(by simp; omega) = f (k + 1) := by simp
    rw [e]
    show minF (hF f (k + 1)) (f (k + 1)) = if hF f (k + 1) < 0 then _ else if _ then _ else _
    rw [if_neg (by omega)]
    rfl
def befF (xss : List (List Int)) (v k z : Nat) : Nat → Int := fun i => if i < k then hdS xss v i else if i = k then sumN (tm xss k) (min z v) else 0
def behF (xss : List (List Int)) (v k z : Nat) : Nat → Int := fun i => if i < k then tlS xss v i else if i = k then sumN (fun y => tm xss k (v + 1 + y)) (z - (v + 1)) else 0
theorem bef_zero (xss : List (List Int)) (v k : Nat) : befF xss v 0 0 k = 0 := by
  unfold befF
  rw [if_neg (by omega)]
  split
  · rw [show min 0 v = 0 by omega]; rfl
  · rfl
theorem beh_zero (xss : List (List Int)) (v k : Nat) : behF xss v 0 0 k = 0 := by
  unfold behF
  rw [if_neg (by omega)]
  split
  · rw [show 0 - (v + 1) = 0 by omega]; rfl
  · rfl
theorem bef_at (xss : List (List Int)) (v : Nat) {k z : Nat} (h : z < v) : befF xss v k z k = sumN (tm xss k) z := by
  unfold befF
  rw [if_neg (by omega), if_pos rfl, show min z v = z by omega]
theorem beh_at (xss : List (List Int)) (v : Nat) {k z : Nat} (_h : v < z) : behF xss v k z k = sumN (fun y => tm xss k (v + 1 + y)) (z - (v + 1)) := by
  unfold behF
  rw [if_neg (by omega), if_pos rfl]
theorem bef_step (xss : List (List Int)) (v : Nat) {k z : Nat} (h : z < v) (i : Nat) : (if i = k then sumN (tm xss k) z + tm xss k z else befF xss v k z i) = befF xss v k (z + 1) i := by
  unfold befF
  by_cases e : i = k
  · subst e
    rw [if_pos rfl, if_neg (by omega), if_pos rfl, show min (z + 1) v = z + 1 by omega]; rfl
  · rw [if_neg e, if_neg e, if_neg e]
theorem bef_same (xss : List (List Int)) (v : Nat) {k z : Nat} (h : v ≤ z) (i : Nat) : befF xss v k z i = befF xss v k (z + 1) i := by
  unfold befF
  rw [show min (z + 1) v = min z v by omega]
theorem beh_same (xss : List (List Int)) (v : Nat) {k z : Nat} (h : z < v + 1) (i : Nat) : behF xss v k z i = behF xss v k (z + 1) i := by
  unfold behF
  rw [show z + 1 - (v + 1) = z - (v + 1) by omega]
theorem beh_step (xss : List (List Int)) (v : Nat) {k z : Nat} (h : v < z) (i : Nat) : (if i = k then sumN (fun y => tm xss k (v + 1 + y)) (z - (v + 1)) + tm xss k z else behF xss v k z i) = behF xss v k (z + 1) i := by
  unfold behF
  by_cases e : i = k
  · subst e
    rw [if_pos rfl, if_neg (by omega), if_pos rfl, show z + 1 - (v + 1) = z - (v + 1) + 1 by omega]
    show _ = _ + tm xss i (v + 1 + (z - (v + 1)))
    rw [show v + 1 + (z - (v + 1)) = z by omega]
  · rw [if_neg e, if_neg e, if_neg e]
theorem bef_next (xss : List (List Int)) (v : Nat) (hv : v < mOf xss) (k i : Nat) : befF xss v k (mOf xss) i = befF xss v (k + 1) 0 i := by
  unfold befF
  by_cases h : i < k
  · have h' : i < k + 1 := by omega
    rw [if_pos h, if_pos h']
  · rw [if_neg h]
    by_cases e : i = k
    · subst e
      rw [if_pos rfl, if_pos (by omega), show min (mOf xss) v = v by omega]; rfl
    · rw [if_neg e, if_neg (by omega)]
      split
      · rw [show min 0 v = 0 by omega]; rfl
      · rfl
theorem beh_next (xss : List (List Int)) (v : Nat) (k i : Nat) : behF xss v k (mOf xss) i = behF xss v (k + 1) 0 i := by
  unfold behF
  by_cases h : i < k
  · have h' : i < k + 1 := by omega
    rw [if_pos h, if_pos h']
  · rw [if_neg h]
    by_cases e : i = k
    · subst e
      rw [if_pos rfl, if_pos (by omega)]; rfl
    · rw [if_neg e, if_neg (by omega)]
      split
      · rw [show 0 - (v + 1) = 0 by omega]; rfl
      · rfl
theorem freeA_row (f : Nat → Int) (n : Nat) : (freeA f n).toList.take (n * 1) = ic ((List.range n).map f) := by
  unfold freeA ic
  rw [List.take_of_length_le (by simp), List.map_map]
  rfl
theorem max_len_min (c n : Nat) (f : Nat → Int) (a : Addr) (w : World) (hr : Row w (some a) (ic ((List.range n).map f))) (hn : 0 < n) (hm : n ≤ 10000000) (hf : ∀ i, 0 ≤ f i ∧ f i ≤ 90) :
    Calls Try.prog 90 #[.slice (some a) n c] w fun e w' => e = .returned (.int .i64 (hF f n)) ∧ ∃ q, w' = w.drewN q := by
  have h := min_any (some a) c ((List.range n).map f) w hr (by simp; omega) (by simp; omega)
  obtain ⟨k, rfl⟩ : ∃ k, n = k + 1 := ⟨n - 1, by omega⟩
  rw [show ((List.range (k + 1)).map f).length = k + 1 by simp, fL_hF hf (k + 1) k (Nat.le_refl _)] at h
  exact h
set_option maxRecDepth 100000 in
set_option maxHeartbeats 4000000 in
theorem flowBoundAt_any (A : Option Addr) (c : Nat) (xss : List (List Int)) (w : World) (hr : RowSS w A (xss.map ic)) (hs : Shop xss) (hn : xss.length ≤ 10000000 ∧ totL xss ≤ 10000000) (v : Nat) (hvm : v < mOf xss) (hn0 : 0 < xss.length) :
    Calls Try.prog 80 #[.slice A xss.length c, .int .i64 (v : Int)] w fun e w' => e = .returned (.int .i64 (boundAt xss v)) ∧ Below w.heap.size w w' := by
  have h8 := hs.n8
  have hM3 := hs.m3
  have hM1 := hs.m1
  have HROW := Lib.hid (fun i (hi : i < xss.length) => hs.row hr hi)
  have HTM1 := Lib.hid (fun W (hb : Below w.heap.size w W) => timeOf_m A c xss v W (hr.below hb) hs hn hvm)
  have HTM := Lib.hid (fun i k => hs.tm i k)
  have HSB := Lib.hid (fun i k => sumN_bd (f := tm xss i) (fun y => hs.tm i y) k)
  have HSB2 := Lib.hid (fun i a k => sumN_bd (f := fun y => tm xss i (a + y)) (fun y => hs.tm i _) k)
  have hHB : ∀ i, 0 ≤ hdS xss v i ∧ hdS xss v i ≤ 90 := fun i => by have := HSB.out i v; unfold hdS; omega
  have hTB : ∀ i, 0 ≤ tlS xss v i ∧ tlS xss v i ≤ 90 := fun i => by have := HSB2.out i (v + 1) (mOf xss - (v + 1)); unfold tlS; omega
  have HBD1 := Lib.hid (fun k => hF_bd hHB k)
  have HBD2 := Lib.hid (fun k => hF_bd hTB k)
  have HBD3 : Hid (0 ≤ colS xss v ∧ colS xss v ≤ 240) := by
    have := sumN_bd (f := fun k => tm xss k v) (fun k => hs.tm k v) xss.length
    show 0 ≤ colS xss v ∧ colS xss v ≤ 240
    unfold colS; omega
  have HHB := Lib.hid hHB
  have HTB := Lib.hid hTB
  have hmk := run_make_row' (P := Try.prog) 29 3 (.int .i64 0) 8 Try.underlying29 infoI rfl .i64 .i64 xss.length (by omega) (by omega)
  have HNEW := Lib.hid (fun (c1 c2 : Array Value) (t1 t2 : TypeId) => new_two w c1 c2 t1 t2)
  clear hr hs hHB hTB
  go_enter Try.func80, Try.ntmps80
  go_wp2
  go_region
  all_goals
    clear hmk
    go_wp2
  · skip
    go_loopw [19] (fun i wr => ∃ k : Nat, k ≤ xss.length ∧ i = .int .i64 (k : Int) ∧ Hid (BlockIs wr w.heap.size 3 (freeA (befF xss v k 0) xss.length) ∧ BlockIs wr (w.heap.size + 1) 3 (freeA (behF xss v k 0) xss.length) ∧ Below w.heap.size w wr)) (fun i _ => xss.length - (intOf i).toNat)
    case atStart =>
      refine ⟨0, Nat.zero_le _, rfl, ?_, ?_, ?_⟩
      · rw [freeA_ext (g := fun _ => 0) (fun k _ => bef_zero xss v k), ← freeA_zero xss.length (fun _ => 0) (fun _ => rfl)]; first | exact (HNEW.out _ _ _ _).1 | exact (HNEW.out _ _ _ _).2
      · rw [freeA_ext (g := fun _ => 0) (fun k _ => beh_zero xss v k), ← freeA_zero xss.length (fun _ => 0) (fun _ => rfl)]; first | exact (HNEW.out _ _ _ _).1 | exact (HNEW.out _ _ _ _).2
      · first | exact ((Below.refl _ _).drew.alloc (Nat.le_refl _) _).alloc (by simp) _ | exact ((Below.refl _ _).alloc (Nat.le_refl _) _).alloc (by simp) _ | exact ((below_drewN (Below.refl _ _) _).alloc (Nat.le_refl _) _).alloc (by simp) _
    case round =>
      obtain ⟨k, hk, rfl, HV⟩ := hrel
      obtain ⟨wo, hwo⟩ : ∃ x, x = wr := ⟨wr, rfl⟩
      subst hwo
      by_cases hlt : k < xss.length
      · obtain ⟨ad, b, d, hA, hcx0, hfx0⟩ := HROW.out k hlt
        subst hA
        have hld : ad.block < w.heap.size := by have := lt_of_cell hcx0; rwa [add_block] at this
        have hlb : b.block < w.heap.size := by have := lt_of_cell (hfx0 0 (by omega)); rwa [add_block] at this
        have hcx := (HV.out.2.2.cell (p := ad.add k) (by rw [add_block]; exact hld)).trans hcx0
        have hi0 : (0 : Int) ≤ k := by omega
        have hi1 : (k : Int) < xss.length := by omega
        have HFX := Lib.hid hfx0
        clear hfx0 hcx0
        go_wp2
        go_loopw [26] (fun i W => ∃ z : Nat, z ≤ mOf xss ∧ i = .int .i64 (z : Int) ∧ Hid (BlockIs W w.heap.size 3 (freeA (befF xss v k z) xss.length) ∧ BlockIs W (w.heap.size + 1) 3 (freeA (behF xss v k z) xss.length) ∧ Below w.heap.size w W)) (fun i _ => mOf xss - (intOf i).toNat)
        case atStart => exact ⟨0, Nat.zero_le _, rfl, HV.out⟩
        case round =>
          obtain ⟨z, hz, rfl, HI⟩ := hrel
          obtain ⟨W, hW⟩ : ∃ x, x = wr := ⟨wr, rfl⟩
          subst hW
          by_cases hlt2 : z < mOf xss
          · have hcz := (HI.out.2.2.cell (p := b.add z) (by rw [add_block]; exact hlb)).trans (HFX.out z hlt2)
            have hz0 : (0 : Int) ≤ z := by omega
            have hz1 : (z : Int) < (mOf xss : Nat) := by omega
            have hsb := HSB.out k z
            have htb := HTM.out k z
            obtain ⟨g1, g2, g3⟩ := HI.out
            have c1 := g1.cell k
            have c2 := g2.cell k
            rw [freeA_get _ _ _ hlt] at c1 c2
            have fz1 := g1.frozen k
            have fz2 := g2.frozen k
            rcases Nat.lt_trichotomy z v with hzv | hzv | hzv
            · rw [bef_at xss v hzv] at c1
              have HN : Hid (BlockIs (W.setCell ⟨w.heap.size, k, none⟩ (.int .i64 (sumN (tm xss k) z + tm xss k z))) w.heap.size 3 (freeA (befF xss v k (z + 1)) xss.length) ∧ BlockIs (W.setCell ⟨w.heap.size, k, none⟩ (.int .i64 (sumN (tm xss k) z + tm xss k z))) (w.heap.size + 1) 3 (freeA (behF xss v k (z + 1)) xss.length) ∧ Below w.heap.size w (W.setCell ⟨w.heap.size, k, none⟩ (.int .i64 (sumN (tm xss k) z + tm xss k z)))) := by
                refine ⟨?_, ?_, g3.setCell (by show w.heap.size ≤ w.heap.size; omega) _⟩
                · have := g1.set k (.int .i64 (sumN (tm xss k) z + tm xss k z))
                  rw [freeA_set _ _ _ _ hlt, freeA_ext (fun i _ => bef_step xss v hzv i)] at this
                  exact this
                · rw [freeA_ext (fun i _ => (beh_same xss v (show z < v + 1 by omega) i).symm)]
                  exact g2.away (g' := w.heap.size) (by omega) _ _
              have hq : (z : Int) < v := by omega
              clear g1 g2 g3 HI
              generalize sumN (tm xss k) z = s0 at *
              generalize tm xss k z = t at *
              go_wp2
              go_roundw
              case rel => exact ⟨z + 1, by omega, by go_num, HN.out⟩
              case measure => simp [intOf]; omega
            · subst hzv
              have HN : Hid (BlockIs W w.heap.size 3 (freeA (befF xss z k (z + 1)) xss.length) ∧ BlockIs W (w.heap.size + 1) 3 (freeA (behF xss z k (z + 1)) xss.length) ∧ Below w.heap.size w W) := by
                refine ⟨?_, ?_, g3⟩
                · rw [freeA_ext (fun i _ => (bef_same xss z (Nat.le_refl z) i).symm)]
                  exact g1
                · rw [freeA_ext (fun i _ => (beh_same xss z (show z < z + 1 by omega) i).symm)]
                  exact g2
              have hq1 : ¬ (z : Int) < z := by omega
              clear g1 g2 g3 HI
              generalize sumN (tm xss k) z = s0 at *
              generalize tm xss k z = t at *
              go_wp2
              go_roundw
              case rel => exact ⟨z + 1, by omega, by go_num, HN.out⟩
              case measure => simp [intOf]; omega
            · rw [beh_at xss v hzv] at c2
              have hsb2 := HSB2.out k (v + 1) (z - (v + 1))
              have HN : Hid (BlockIs (W.setCell ⟨w.heap.size + 1, k, none⟩ (.int .i64 (sumN (fun y => tm xss k (v + 1 + y)) (z - (v + 1)) + tm xss k z))) w.heap.size 3 (freeA (befF xss v k (z + 1)) xss.length) ∧ BlockIs (W.setCell ⟨w.heap.size + 1, k, none⟩ (.int .i64 (sumN (fun y => tm xss k (v + 1 + y)) (z - (v + 1)) + tm xss k z))) (w.heap.size + 1) 3 (freeA (behF xss v k (z + 1)) xss.length) ∧ Below w.heap.size w (W.setCell ⟨w.heap.size + 1, k, none⟩ (.int .i64 (sumN (fun y => tm xss k (v + 1 + y)) (z - (v + 1)) + tm xss k z)))) := by
                refine ⟨?_, ?_, g3.setCell (by show w.heap.size ≤ w.heap.size + 1; omega) _⟩
                · rw [freeA_ext (fun i _ => (bef_same xss v (show v ≤ z by omega) i).symm)]
                  exact g1.away (g' := w.heap.size + 1) (by omega) _ _
                · have := g2.set k (.int .i64 (sumN (fun y => tm xss k (v + 1 + y)) (z - (v + 1)) + tm xss k z))
                  rw [freeA_set _ _ _ _ hlt, freeA_ext (fun i _ => beh_step xss v hzv i)] at this
                  exact this
              have hq : (v : Int) < z := by omega
              have hq2 : ¬ (z : Int) < v := by omega
              clear g1 g2 g3 HI
              generalize sumN (fun y => tm xss k (v + 1 + y)) (z - (v + 1)) = s0 at *
              generalize tm xss k z = t at *
              go_wp2
              go_roundw
              case rel => exact ⟨z + 1, by omega, by go_num, HN.out⟩
              case measure => simp [intOf]; omega
          · obtain rfl : z = mOf xss := by omega
            have HN : Hid (BlockIs W w.heap.size 3 (freeA (befF xss v (k + 1) 0) xss.length) ∧ BlockIs W (w.heap.size + 1) 3 (freeA (behF xss v (k + 1) 0) xss.length) ∧ Below w.heap.size w W) := by
              obtain ⟨g1, g2, g3⟩ := HI.out
              refine ⟨?_, ?_, g3⟩
              · rw [freeA_ext (fun i _ => (bef_next xss v hvm k i).symm)]; exact g1
              · rw [freeA_ext (fun i _ => (beh_next xss v k i).symm)]; exact g2
            clear HI
            go_wp2
            go_roundw
            case rel => exact ⟨k + 1, by omega, by go_num, HN.out⟩
            case measure => simp [intOf]; omega
      · obtain rfl : k = xss.length := by omega
        obtain ⟨g1, g2, g3⟩ := HV.out
        have hb1 : ∀ W, Below wo.heap.size wo W → Row W (some ⟨w.heap.size, 0, none⟩) (ic ((List.range xss.length).map (hdS xss v))) ∧ Row W (some ⟨w.heap.size + 1, 0, none⟩) (ic ((List.range xss.length).map (tlS xss v))) := fun W hb => by
          have r1 := Row.of_own ((g1.below hb).own (base := 0) (n := xss.length) (c := xss.length) (size := 1) (Nat.zero_le _) (by rw [freeA_size]; omega) (Nat.le_refl _) (by unfold maxLen; omega) (by rw [freeA_size]; omega))
          have r2 := Row.of_own ((g2.below hb).own (base := 0) (n := xss.length) (c := xss.length) (size := 1) (Nat.zero_le _) (by rw [freeA_size]; omega) (Nat.le_refl _) (by unfold maxLen; omega) (by rw [freeA_size]; omega))
          rw [freeA_row] at r1 r2
          rw [show (List.range xss.length).map (befF xss v xss.length 0) = (List.range xss.length).map (hdS xss v) from List.map_congr_left fun i hi => by unfold befF; rw [if_pos (List.mem_range.1 hi)]] at r1
          rw [show (List.range xss.length).map (behF xss v xss.length 0) = (List.range xss.length).map (tlS xss v) from List.map_congr_left fun i hi => by unfold behF; rw [if_pos (List.mem_range.1 hi)]] at r2
          exact ⟨r1, r2⟩
        have HMIN := Lib.hid (fun W hb q => max_len_min xss.length xss.length (hdS xss v) ⟨w.heap.size, 0, none⟩ (W.drewN q) (hb1 W hb).1 hn0 hn.1 HHB.out)
        have HMIN2 := Lib.hid (fun W hb q => max_len_min xss.length xss.length (tlS xss v) ⟨w.heap.size + 1, 0, none⟩ (W.drewN q) (hb1 W hb).2 hn0 hn.1 HTB.out)
        have HT := Lib.hid (HTM1.out wo g3)
        rw [show sumN (fun i => tm xss i v) xss.length = colS xss v from rfl] at HT
        have HG3 := Lib.hid g3
        clear g1 g2 g3 hb1 HV
        go_wp2_with fail
        refine HT.out.mono ?_
        rintro e w2 ⟨rfl, hb2⟩
        have HB2 := Lib.hid hb2
        clear hb2
        go_wp2_with fail
        refine (HMIN.out w2 HB2.out 0).mono ?_
        rintro e _ ⟨rfl, q1, rfl⟩
        go_wp2_with fail
        refine (HMIN2.out w2 HB2.out _).mono ?_
        rintro e _ ⟨rfl, q2, rfl⟩
        obtain ⟨p1, p2, _⟩ := HBD1.out xss.length
        obtain ⟨p3, p4, _⟩ := HBD2.out xss.length
        obtain ⟨p5, p6⟩ := HBD3.out
        have HV : Hid (boundAt xss v = colS xss v + hF (hdS xss v) xss.length + hF (tlS xss v) xss.length) := rfl
        generalize hF (hdS xss v) xss.length = x1 at *
        generalize hF (tlS xss v) xss.length = x2 at *
        generalize colS xss v = x0 at *
        have q1' := IntWalk.wrap64_in (x0 + x1) (by omega)
        have q2' := IntWalk.wrap64_in (x0 + x1 + x2) (by omega)
        go_wp2
        go_ret
        exact ⟨by rw [HV.out]; rfl, by first | exact below_drewN (HG3.out.trans (HB2.out.mono HG3.out.size)) _ | exact below_drewN (below_drewN (HG3.out.trans (HB2.out.mono HG3.out.size)) _) _⟩
  · skip
    go_loopw [19] (fun i wr => ∃ k : Nat, k ≤ xss.length ∧ i = .int .i64 (k : Int) ∧ Hid (BlockIs wr (w.heap.size + 1) 3 (freeA (befF xss v k 0) xss.length) ∧ BlockIs wr w.heap.size 3 (freeA (behF xss v k 0) xss.length) ∧ Below w.heap.size w wr)) (fun i _ => xss.length - (intOf i).toNat)
    case atStart =>
      refine ⟨0, Nat.zero_le _, rfl, ?_, ?_, ?_⟩
      · rw [freeA_ext (g := fun _ => 0) (fun k _ => bef_zero xss v k), ← freeA_zero xss.length (fun _ => 0) (fun _ => rfl)]; first | exact (HNEW.out _ _ _ _).1 | exact (HNEW.out _ _ _ _).2
      · rw [freeA_ext (g := fun _ => 0) (fun k _ => beh_zero xss v k), ← freeA_zero xss.length (fun _ => 0) (fun _ => rfl)]; first | exact (HNEW.out _ _ _ _).1 | exact (HNEW.out _ _ _ _).2
      · first | exact ((Below.refl _ _).drew.alloc (Nat.le_refl _) _).alloc (by simp) _ | exact ((Below.refl _ _).alloc (Nat.le_refl _) _).alloc (by simp) _ | exact ((below_drewN (Below.refl _ _) _).alloc (Nat.le_refl _) _).alloc (by simp) _
    case round =>
      obtain ⟨k, hk, rfl, HV⟩ := hrel
      obtain ⟨wo, hwo⟩ : ∃ x, x = wr := ⟨wr, rfl⟩
      subst hwo
      by_cases hlt : k < xss.length
      · obtain ⟨ad, b, d, hA, hcx0, hfx0⟩ := HROW.out k hlt
        subst hA
        have hld : ad.block < w.heap.size := by have := lt_of_cell hcx0; rwa [add_block] at this
        have hlb : b.block < w.heap.size := by have := lt_of_cell (hfx0 0 (by omega)); rwa [add_block] at this
        have hcx := (HV.out.2.2.cell (p := ad.add k) (by rw [add_block]; exact hld)).trans hcx0
        have hi0 : (0 : Int) ≤ k := by omega
        have hi1 : (k : Int) < xss.length := by omega
        have HFX := Lib.hid hfx0
        clear hfx0 hcx0
        go_wp2
        go_loopw [26] (fun i W => ∃ z : Nat, z ≤ mOf xss ∧ i = .int .i64 (z : Int) ∧ Hid (BlockIs W (w.heap.size + 1) 3 (freeA (befF xss v k z) xss.length) ∧ BlockIs W w.heap.size 3 (freeA (behF xss v k z) xss.length) ∧ Below w.heap.size w W)) (fun i _ => mOf xss - (intOf i).toNat)
        case atStart => exact ⟨0, Nat.zero_le _, rfl, HV.out⟩
        case round =>
          obtain ⟨z, hz, rfl, HI⟩ := hrel
          obtain ⟨W, hW⟩ : ∃ x, x = wr := ⟨wr, rfl⟩
          subst hW
          by_cases hlt2 : z < mOf xss
          · have hcz := (HI.out.2.2.cell (p := b.add z) (by rw [add_block]; exact hlb)).trans (HFX.out z hlt2)
            have hz0 : (0 : Int) ≤ z := by omega
            have hz1 : (z : Int) < (mOf xss : Nat) := by omega
            have hsb := HSB.out k z
            have htb := HTM.out k z
            obtain ⟨g1, g2, g3⟩ := HI.out
            have c1 := g1.cell k
            have c2 := g2.cell k
            rw [freeA_get _ _ _ hlt] at c1 c2
            have fz1 := g1.frozen k
            have fz2 := g2.frozen k
            rcases Nat.lt_trichotomy z v with hzv | hzv | hzv
            · rw [bef_at xss v hzv] at c1
              have HN : Hid (BlockIs (W.setCell ⟨w.heap.size + 1, k, none⟩ (.int .i64 (sumN (tm xss k) z + tm xss k z))) (w.heap.size + 1) 3 (freeA (befF xss v k (z + 1)) xss.length) ∧ BlockIs (W.setCell ⟨w.heap.size + 1, k, none⟩ (.int .i64 (sumN (tm xss k) z + tm xss k z))) w.heap.size 3 (freeA (behF xss v k (z + 1)) xss.length) ∧ Below w.heap.size w (W.setCell ⟨w.heap.size + 1, k, none⟩ (.int .i64 (sumN (tm xss k) z + tm xss k z)))) := by
                refine ⟨?_, ?_, g3.setCell (by show w.heap.size ≤ w.heap.size + 1; omega) _⟩
                · have := g1.set k (.int .i64 (sumN (tm xss k) z + tm xss k z))
                  rw [freeA_set _ _ _ _ hlt, freeA_ext (fun i _ => bef_step xss v hzv i)] at this
                  exact this
                · rw [freeA_ext (fun i _ => (beh_same xss v (show z < v + 1 by omega) i).symm)]
                  exact g2.away (g' := w.heap.size + 1) (by omega) _ _
              have hq : (z : Int) < v := by omega
              clear g1 g2 g3 HI
              generalize sumN (tm xss k) z = s0 at *
              generalize tm xss k z = t at *
              go_wp2
              go_roundw
              case rel => exact ⟨z + 1, by omega, by go_num, HN.out⟩
              case measure => simp [intOf]; omega
            · subst hzv
              have HN : Hid (BlockIs W (w.heap.size + 1) 3 (freeA (befF xss z k (z + 1)) xss.length) ∧ BlockIs W w.heap.size 3 (freeA (behF xss z k (z + 1)) xss.length) ∧ Below w.heap.size w W) := by
                refine ⟨?_, ?_, g3⟩
                · rw [freeA_ext (fun i _ => (bef_same xss z (Nat.le_refl z) i).symm)]
                  exact g1
                · rw [freeA_ext (fun i _ => (beh_same xss z (show z < z + 1 by omega) i).symm)]
                  exact g2
              have hq1 : ¬ (z : Int) < z := by omega
              clear g1 g2 g3 HI
              generalize sumN (tm xss k) z = s0 at *
              generalize tm xss k z = t at *
              go_wp2
              go_roundw
              case rel => exact ⟨z + 1, by omega, by go_num, HN.out⟩
              case measure => simp [intOf]; omega
            · rw [beh_at xss v hzv] at c2
              have hsb2 := HSB2.out k (v + 1) (z - (v + 1))
              have HN : Hid (BlockIs (W.setCell ⟨w.heap.size, k, none⟩ (.int .i64 (sumN (fun y => tm xss k (v + 1 + y)) (z - (v + 1)) + tm xss k z))) (w.heap.size + 1) 3 (freeA (befF xss v k (z + 1)) xss.length) ∧ BlockIs (W.setCell ⟨w.heap.size, k, none⟩ (.int .i64 (sumN (fun y => tm xss k (v + 1 + y)) (z - (v + 1)) + tm xss k z))) w.heap.size 3 (freeA (behF xss v k (z + 1)) xss.length) ∧ Below w.heap.size w (W.setCell ⟨w.heap.size, k, none⟩ (.int .i64 (sumN (fun y => tm xss k (v + 1 + y)) (z - (v + 1)) + tm xss k z)))) := by
                refine ⟨?_, ?_, g3.setCell (by show w.heap.size ≤ w.heap.size; omega) _⟩
                · rw [freeA_ext (fun i _ => (bef_same xss v (show v ≤ z by omega) i).symm)]
                  exact g1.away (g' := w.heap.size) (by omega) _ _
                · have := g2.set k (.int .i64 (sumN (fun y => tm xss k (v + 1 + y)) (z - (v + 1)) + tm xss k z))
                  rw [freeA_set _ _ _ _ hlt, freeA_ext (fun i _ => beh_step xss v hzv i)] at this
                  exact this
              have hq : (v : Int) < z := by omega
              have hq2 : ¬ (z : Int) < v := by omega
              clear g1 g2 g3 HI
              generalize sumN (fun y => tm xss k (v + 1 + y)) (z - (v + 1)) = s0 at *
              generalize tm xss k z = t at *
              go_wp2
              go_roundw
              case rel => exact ⟨z + 1, by omega, by go_num, HN.out⟩
              case measure => simp [intOf]; omega
          · obtain rfl : z = mOf xss := by omega
            have HN : Hid (BlockIs W (w.heap.size + 1) 3 (freeA (befF xss v (k + 1) 0) xss.length) ∧ BlockIs W w.heap.size 3 (freeA (behF xss v (k + 1) 0) xss.length) ∧ Below w.heap.size w W) := by
              obtain ⟨g1, g2, g3⟩ := HI.out
              refine ⟨?_, ?_, g3⟩
              · rw [freeA_ext (fun i _ => (bef_next xss v hvm k i).symm)]; exact g1
              · rw [freeA_ext (fun i _ => (beh_next xss v k i).symm)]; exact g2
            clear HI
            go_wp2
            go_roundw
            case rel => exact ⟨k + 1, by omega, by go_num, HN.out⟩
            case measure => simp [intOf]; omega
      · obtain rfl : k = xss.length := by omega
        obtain ⟨g1, g2, g3⟩ := HV.out
        have hb1 : ∀ W, Below wo.heap.size wo W → Row W (some ⟨w.heap.size + 1, 0, none⟩) (ic ((List.range xss.length).map (hdS xss v))) ∧ Row W (some ⟨w.heap.size, 0, none⟩) (ic ((List.range xss.length).map (tlS xss v))) := fun W hb => by
          have r1 := Row.of_own ((g1.below hb).own (base := 0) (n := xss.length) (c := xss.length) (size := 1) (Nat.zero_le _) (by rw [freeA_size]; omega) (Nat.le_refl _) (by unfold maxLen; omega) (by rw [freeA_size]; omega))
          have r2 := Row.of_own ((g2.below hb).own (base := 0) (n := xss.length) (c := xss.length) (size := 1) (Nat.zero_le _) (by rw [freeA_size]; omega) (Nat.le_refl _) (by unfold maxLen; omega) (by rw [freeA_size]; omega))
          rw [freeA_row] at r1 r2
          rw [show (List.range xss.length).map (befF xss v xss.length 0) = (List.range xss.length).map (hdS xss v) from List.map_congr_left fun i hi => by unfold befF; rw [if_pos (List.mem_range.1 hi)]] at r1
          rw [show (List.range xss.length).map (behF xss v xss.length 0) = (List.range xss.length).map (tlS xss v) from List.map_congr_left fun i hi => by unfold behF; rw [if_pos (List.mem_range.1 hi)]] at r2
          exact ⟨r1, r2⟩
        have HMIN := Lib.hid (fun W hb q => max_len_min xss.length xss.length (hdS xss v) ⟨w.heap.size + 1, 0, none⟩ (W.drewN q) (hb1 W hb).1 hn0 hn.1 HHB.out)
        have HMIN2 := Lib.hid (fun W hb q => max_len_min xss.length xss.length (tlS xss v) ⟨w.heap.size, 0, none⟩ (W.drewN q) (hb1 W hb).2 hn0 hn.1 HTB.out)
        have HT := Lib.hid (HTM1.out wo g3)
        rw [show sumN (fun i => tm xss i v) xss.length = colS xss v from rfl] at HT
        have HG3 := Lib.hid g3
        clear g1 g2 g3 hb1 HV
        go_wp2_with fail
        refine HT.out.mono ?_
        rintro e w2 ⟨rfl, hb2⟩
        have HB2 := Lib.hid hb2
        clear hb2
        go_wp2_with fail
        refine (HMIN.out w2 HB2.out 0).mono ?_
        rintro e _ ⟨rfl, q1, rfl⟩
        go_wp2_with fail
        refine (HMIN2.out w2 HB2.out _).mono ?_
        rintro e _ ⟨rfl, q2, rfl⟩
        obtain ⟨p1, p2, _⟩ := HBD1.out xss.length
        obtain ⟨p3, p4, _⟩ := HBD2.out xss.length
        obtain ⟨p5, p6⟩ := HBD3.out
        have HV : Hid (boundAt xss v = colS xss v + hF (hdS xss v) xss.length + hF (tlS xss v) xss.length) := rfl
        generalize hF (hdS xss v) xss.length = x1 at *
        generalize hF (tlS xss v) xss.length = x2 at *
        generalize colS xss v = x0 at *
        have q1' := IntWalk.wrap64_in (x0 + x1) (by omega)
        have q2' := IntWalk.wrap64_in (x0 + x1 + x2) (by omega)
        go_wp2
        go_ret
        exact ⟨by rw [HV.out]; rfl, by first | exact below_drewN (HG3.out.trans (HB2.out.mono HG3.out.size)) _ | exact below_drewN (below_drewN (HG3.out.trans (HB2.out.mono HG3.out.size)) _) _⟩
def boundV (xss : List (List Int)) : Int := if xss.length = 0 then 0 else mxF 0 (boundAt xss) (mOf xss)
theorem hd_bd {xss : List (List Int)} (hs : Shop xss) {v : Nat} (hv : v < mOf xss) (i : Nat) : 0 ≤ hdS xss v i ∧ hdS xss v i ≤ 90 := by
  have := sumN_bd (f := tm xss i) (fun y => hs.tm i y) v
  have := hs.m3
  unfold hdS; omega
theorem tl_bd {xss : List (List Int)} (hs : Shop xss) {v : Nat} (_hv : v < mOf xss) (i : Nat) : 0 ≤ tlS xss v i ∧ tlS xss v i ≤ 90 := by
  have := sumN_bd (f := fun y => tm xss i (v + 1 + y)) (fun y => hs.tm i _) (mOf xss - (v + 1))
  have := hs.m3
  unfold tlS; omega
theorem boundAt_bd {xss : List (List Int)} (hs : Shop xss) (h0 : 0 < xss.length) {v : Nat} (hv : v < mOf xss) : 0 ≤ boundAt xss v ∧ boundAt xss v ≤ 420 := by
  have h8 := hs.n8
  have a := hF_bd (hd_bd hs hv) xss.length
  have b := hF_bd (tl_bd hs hv) xss.length
  have c := sumN_bd (f := fun k => tm xss k v) (fun k => hs.tm k v) xss.length
  have a3 := a.2.2 h0
  have b3 := b.2.2 h0
  unfold boundAt colS
  omega
theorem bound_bd {xss : List (List Int)} (hs : Shop xss) (h0 : 0 < xss.length) : ∀ k, k ≤ mOf xss → 0 ≤ mxF 0 (boundAt xss) k ∧ mxF 0 (boundAt xss) k ≤ 420
  | 0, _ => by show (0 : Int) ≤ 0 ∧ (0 : Int) ≤ 420; omega
  | k + 1, hk => by
    have a := bound_bd hs h0 k (by omega)
    have b := boundAt_bd hs h0 (show k < mOf xss by omega)
    show 0 ≤ max _ _ ∧ max _ _ ≤ 420
    omega
set_option maxRecDepth 100000 in
set_option maxHeartbeats 2000000 in
theorem flowBound_any (A : Option Addr) (c : Nat) (xss : List (List Int)) (w : World) (hr : RowSS w A (xss.map ic)) (hs : Shop xss) (hn : xss.length ≤ 10000000 ∧ totL xss ≤ 10000000) :
    Calls Try.prog 67 #[.slice A xss.length c] w fun e w' => e = .returned (.int .i64 (boundV xss)) ∧ Below w.heap.size w w' := by
  have h8 := hs.n8
  have hM3 := hs.m3
  by_cases h0 : xss.length = 0
  · have HO : Hid (boundV xss = 0) := by show _ = _; unfold boundV; rw [if_pos h0]
    have hz : ((xss.length : Int) == 0) = true := by rw [h0]; rfl
    clear hr hs h0
    go_enter Try.func67, Try.ntmps67
    go_wp2
    go_ret
    exact ⟨by rw [HO.out]; rfl, Below.refl _ _⟩
  · have hp : 0 < xss.length := by omega
    have HV : Hid (boundV xss = mxF 0 (boundAt xss) (mOf xss)) := by show _ = _; unfold boundV; rw [if_neg h0]
    have hz : ((xss.length : Int) == 0) = false := by rw [beq_eq_false_iff_ne]; omega
    have HM := Lib.hid (machines_any A c xss w hr hn)
    have HB := Lib.hid (fun W (hb : Below w.heap.size w W) v (hv : v < mOf xss) => flowBoundAt_any A c xss W (hr.below hb) hs hn v hv hp)
    have HX := Lib.hid (bound_bd hs hp)
    have HA := Lib.hid (fun v (hv : v < mOf xss) => boundAt_bd hs hp hv)
    clear hr hs h0
    go_enter Try.func67, Try.ntmps67
    go_wp2_with fail
    refine HM.out.mono ?_
    rintro e _ ⟨rfl, q, rfl⟩
    go_wp2
    go_loopw [3, 10] (fun z i wr => ∃ k : Nat, k ≤ mOf xss ∧ i = .int .i64 (k : Int) ∧ z = .int .i64 (mxF 0 (boundAt xss) k) ∧ Hid (Below w.heap.size w wr)) (fun _ i _ => mOf xss - (intOf i).toNat)
    case atStart => exact ⟨0, Nat.zero_le _, rfl, rfl, below_drewN (Below.refl _ _) _⟩
    case round =>
      obtain ⟨k, hk, rfl, rfl, HI⟩ := hrel
      by_cases hlt : k < mOf xss
      · have hi0 : (0 : Int) ≤ k := by omega
        have hi1 : (k : Int) < (mOf xss : Nat) := by omega
        have HC := Lib.hid (HB.out wr HI.out k hlt)
        have hx := HX.out k hk
        have hy := HA.out k hlt
        have HZ1 : Hid (mxF 0 (boundAt xss) (k + 1) = (if mxF 0 (boundAt xss) k < boundAt xss k then boundAt xss k else mxF 0 (boundAt xss) k)) := by
          show max _ _ = _
          split <;> omega
        generalize mxF 0 (boundAt xss) k = z0 at *
        generalize boundAt xss k = t at *
        go_wp2_with fail
        refine HC.out.mono ?_
        rintro e w2 ⟨rfl, hb2⟩
        have HN := Lib.hid (HI.out.trans (hb2.mono HI.out.size))
        clear hb2
        go_wp2
        go_roundw
        case rel => exact ⟨k + 1, by omega, by go_num, by rw [HZ1.out], HN.out⟩
        case measure => simp [intOf]; omega
      · obtain rfl : k = mOf xss := by omega
        go_wp2
        go_ret
        exact ⟨by rw [HV.out]; rfl, HI.out⟩
end Go.Proofs.Ytdhndoccdfbefaa
