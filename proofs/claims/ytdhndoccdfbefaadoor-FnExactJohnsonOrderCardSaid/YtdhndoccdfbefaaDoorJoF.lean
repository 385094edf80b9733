/- Johnson's order: the model's. -/
import Derived.Test.YtdhndoccdfbefaaDoorJoS
namespace Go.Proofs.YtdhndoccdfbefaaDoor
open Go.RowKit

theorem getD_out {α : Type} (l : List α) (d : α) {k : Nat} (h : l.length ≤ k) : l.getD k d = d := by simp [List.getD, List.getElem?_eq_none h]
/-- The time of a job on a machine. -/
def tm (xss : List (List Int)) (i k : Nat) : Int := (xss.getD i []).getD k 0
theorem tm_get {xss : List (List Int)} {i k : Nat} (hi : i < xss.length) (hk : k < xss[i].length) : xss[i][k] = tm xss i k := by
  unfold tm; simp [List.getD, hi, hk]
theorem Shop.tm {xss : List (List Int)} (h : Shop xss) (i k : Nat) : 0 ≤ tm xss i k ∧ tm xss i k ≤ 30 := by
  by_cases hi : i < xss.length
  · by_cases hk : k < xss[i].length
    · rw [← tm_get hi hk]; exact ⟨h.low i hi k hk, h.high i hi k hk⟩
    · unfold Proofs.YtdhndoccdfbefaaDoor.tm
      rw [show xss.getD i [] = xss[i] by simp [List.getD, hi], getD_out _ _ (by omega)]
      exact ⟨Int.le_refl _, by decide⟩
  · unfold Proofs.YtdhndoccdfbefaaDoor.tm
    rw [getD_out xss [] (by omega), getD_out [] 0 (by simp)]
    exact ⟨Int.le_refl _, by decide⟩
/-- A row of a shop. -/
theorem Shop.row {xss : List (List Int)} (h : Shop xss) {w : World} {A : Option Addr} (hr : RowSS w A (xss.map ic)) {i : Nat} (hi : i < xss.length) : ∃ ad b d, A = some ad ∧ w.cell? (ad.add i) = some (.slice (some b) (mOf xss) d) ∧ ∀ k, k < mOf xss → w.cell? (b.add k) = some (.int .i64 (Proofs.YtdhndoccdfbefaaDoor.tm xss i k)) := by
  obtain ⟨ad, B, d, rfl, hc, hrow⟩ := hr.at_ (k := i) (by simpa using hi)
  rw [List.getElem_map] at hc hrow
  rw [ic_len, h.len i hi] at hc
  have hm := h.m1
  obtain ⟨b, rfl, _⟩ := hrow.at_ (k := 0) (by rw [ic_len, h.len i hi]; omega)
  refine ⟨ad, b, d, rfl, hc, fun k hk => ?_⟩
  obtain ⟨b', hb, hc2⟩ := hrow.at_ (k := k) (by rw [ic_len, h.len i hi]; exact hk)
  injection hb with hb
  subst hb
  rw [ic_get _ k (by rw [h.len i hi]; exact hk), tm_get hi] at hc2
  exact hc2
/-- The rank of a job in Johnson's order. -/
def rankJ (a b : Int) : Int := if a ≤ b then 60 - a else b
def rkJ (xss : List (List Int)) (i : Nat) : Int := rankJ (tm xss i 0) (tm xss i 1)
theorem rkJ_bd {xss : List (List Int)} (hs : Shop xss) (i : Nat) : 0 ≤ rkJ xss i ∧ rkJ xss i ≤ 1000 := by
  have h0 := hs.tm i 0
  have h1 := hs.tm i 1
  unfold rkJ rankJ
  split <;> omega
theorem first_eq {a b c d : Int} (ha : 0 ≤ a ∧ a ≤ 30) (hb : 0 ≤ b ∧ b ≤ 30) (hc : 0 ≤ c ∧ c ≤ 30) (hd : 0 ≤ d ∧ d ≤ 30) (i k : Nat) : decide ((if rankJ c d - rankJ a b ≠ 0 then rankJ c d - rankJ a b else (i : Int) - k) < 0) =
    (if decide (a ≤ b) != decide (c ≤ d) then decide (a ≤ b) else if a ≤ b then (decide (a < c) || (decide (a = c) && decide (i < k))) else (decide (d < b) || (decide (d = b) && decide (i < k)))) := by
  unfold rankJ
  by_cases h1 : a ≤ b
  · by_cases h2 : c ≤ d
    · rw [Bool.eq_iff_iff]
      simp [h1, h2]
      split <;> omega
    · rw [Bool.eq_iff_iff]
      simp [h1, h2]
      split <;> omega
  · by_cases h2 : c ≤ d
    · rw [Bool.eq_iff_iff]
      simp [h1, h2]
      split <;> omega
    · rw [Bool.eq_iff_iff]
      simp [h1, h2]
      split <;> omega
set_option maxRecDepth 100000 in
set_option maxHeartbeats 4000000 in
theorem l8First_any (A : Option Addr) (c : Nat) (xss : List (List Int)) (i k : Nat) (w : World) (hr : RowSS w A (xss.map ic)) (hs : Shop xss) (hm : mOf xss = 2) (hi : i < xss.length) (hk : k < xss.length) :
    Calls Tryd.prog 21 #[.slice A xss.length c, .int .i64 (i : Int), .int .i64 (k : Int)] w fun e w' => e = .returned (.bool (fB (rkJ xss) i k)) ∧ ∃ q, w' = w.drewN q := by
  have HF : Hid (fB (rkJ xss) i k = _) := first_eq (hs.tm i 0) (hs.tm i 1) (hs.tm k 0) (hs.tm k 1) i k
  obtain ⟨ad, bx, dx, hA, hcx, hfx⟩ := hs.row hr hi
  subst hA
  obtain ⟨ad2, ay, dy, hA2, hcy, hfy⟩ := hs.row hr hk
  injection hA2 with hA2
  subst hA2
  rw [hm] at hcx hcy
  have hx0 := hfx 0 (by omega)
  have hx1 := hfx 1 (by omega)
  have hy0 := hfy 0 (by omega)
  have hy1 := hfy 1 (by omega)
  rw [show bx.add 0 = bx from rfl] at hx0
  rw [show bx.add 1 = (⟨bx.block, bx.off + 1, none⟩ : Addr) from rfl] at hx1
  rw [show ay.add 0 = ay from rfl] at hy0
  rw [show ay.add 1 = (⟨ay.block, ay.off + 1, none⟩ : Addr) from rfl] at hy1
  have hi0 : (0 : Int) ≤ i := by omega
  have hi1 : (i : Int) < xss.length := by omega
  have hk0 : (0 : Int) ≤ k := by omega
  have hk1 : (k : Int) < xss.length := by omega
  clear hfx hfy hr hs hm
  generalize fB (rkJ xss) i k = res at *
  generalize tm xss i 0 = p at *
  generalize tm xss i 1 = q at *
  generalize tm xss k 0 = r at *
  generalize tm xss k 1 = s at *
  by_cases g1 : p ≤ q
  · have h1 : decide (p ≤ q) = true := decide_eq_true g1
    by_cases g2 : r ≤ s
    · have h2 : decide (r ≤ s) = true := decide_eq_true g2
      by_cases c1 : p < r
      · have e1 : decide (p < r) = true := decide_eq_true c1
        have HR : Hid (res = true) := by show _ = _; rw [HF.out]; rw [Bool.eq_iff_iff]; first | (simp [g1, g2]; done) | (simp [g1, g2]; omega)
        clear HF
        try clear c2
        go_enter Tryd.func21, Tryd.ntmps21
        go_wp2
        go_quiet (fail)
        go_wp2
        go_quiet (fail)
        go_wp2
        go_ret
        exact ⟨by rw [HR.out]; rfl, _, by first | rfl | exact World.drewN_drewN _ _ _ | (rw [World.drewN_drewN, World.drewN_drewN]) | (rw [World.drewN_drewN])⟩
      · have e1 : decide (p < r) = false := decide_eq_false c1
        by_cases c2 : p = r
        · have e2' : (p == r) = true := by simp [c2]
          by_cases c3 : i < k
          · have e3' : decide (i < k) = true := decide_eq_true c3
            have c3i : (i : Int) < k := by omega
            have HR : Hid (res = true) := by show _ = _; rw [HF.out]; rw [Bool.eq_iff_iff]; first | (simp [g1, g2]; done) | (simp [g1, g2]; omega)
            clear HF
            try clear c2
            go_enter Tryd.func21, Tryd.ntmps21
            go_wp2
            go_quiet (fail)
            go_wp2
            go_quiet (fail)
            go_wp2
            go_ret
            exact ⟨by rw [HR.out]; rfl, _, by first | rfl | exact World.drewN_drewN _ _ _ | (rw [World.drewN_drewN, World.drewN_drewN]) | (rw [World.drewN_drewN])⟩
          · have e3' : decide (i < k) = false := decide_eq_false c3
            have c3i : ¬ (i : Int) < k := by omega
            have HR : Hid (res = false) := by show _ = _; rw [HF.out]; rw [Bool.eq_iff_iff]; first | (simp [g1, g2]; done) | (simp [g1, g2]; omega)
            clear HF
            try clear c2
            go_enter Tryd.func21, Tryd.ntmps21
            go_wp2
            go_quiet (fail)
            go_wp2
            go_quiet (fail)
            go_wp2
            go_ret
            exact ⟨by rw [HR.out]; rfl, _, by first | rfl | exact World.drewN_drewN _ _ _ | (rw [World.drewN_drewN, World.drewN_drewN]) | (rw [World.drewN_drewN])⟩
        · have e2' : (p == r) = false := by rw [beq_eq_false_iff_ne]; exact c2
          have HR : Hid (res = false) := by show _ = _; rw [HF.out]; rw [Bool.eq_iff_iff]; first | (simp [g1, g2]; done) | (simp [g1, g2]; omega)
          clear HF
          try clear c2
          go_enter Tryd.func21, Tryd.ntmps21
          go_wp2
          go_quiet (fail)
          go_wp2
          go_quiet (fail)
          go_wp2
          go_ret
          exact ⟨by rw [HR.out]; rfl, _, by first | rfl | exact World.drewN_drewN _ _ _ | (rw [World.drewN_drewN, World.drewN_drewN]) | (rw [World.drewN_drewN])⟩
    · have h2 : decide (r ≤ s) = false := decide_eq_false g2
      have HR : Hid (res = true) := by show _ = _; rw [HF.out]; simp [g1, g2]
      clear HF
      go_enter Tryd.func21, Tryd.ntmps21
      go_wp2
      go_quiet (fail)
      go_wp2
      go_ret
      exact ⟨by rw [HR.out]; rfl, _, by first | rfl | exact World.drewN_drewN _ _ _ | (rw [World.drewN_drewN, World.drewN_drewN]) | (rw [World.drewN_drewN])⟩
  · have h1 : decide (p ≤ q) = false := decide_eq_false g1
    by_cases g2 : r ≤ s
    · have h2 : decide (r ≤ s) = true := decide_eq_true g2
      have HR : Hid (res = false) := by show _ = _; rw [HF.out]; simp [g1, g2]
      clear HF
      go_enter Tryd.func21, Tryd.ntmps21
      go_wp2
      go_quiet (fail)
      go_wp2
      go_ret
      exact ⟨by rw [HR.out]; rfl, _, by first | rfl | exact World.drewN_drewN _ _ _ | (rw [World.drewN_drewN, World.drewN_drewN]) | (rw [World.drewN_drewN])⟩
    · have h2 : decide (r ≤ s) = false := decide_eq_false g2
      by_cases c1 : s < q
      · have e1 : decide (s < q) = true := decide_eq_true c1
        have HR : Hid (res = true) := by show _ = _; rw [HF.out]; rw [Bool.eq_iff_iff]; first | (simp [g1, g2]; done) | (simp [g1, g2]; omega)
        clear HF
        try clear c2
        go_enter Tryd.func21, Tryd.ntmps21
        go_wp2
        go_quiet (fail)
        go_wp2
        go_quiet (fail)
        go_wp2
        go_quiet (fail)
        go_wp2
        go_ret
        exact ⟨by rw [HR.out]; rfl, _, by first | rfl | exact World.drewN_drewN _ _ _ | (rw [World.drewN_drewN, World.drewN_drewN]) | (rw [World.drewN_drewN])⟩
      · have e1 : decide (s < q) = false := decide_eq_false c1
        by_cases c2 : s = q
        · have e2' : (s == q) = true := by simp [c2]
          by_cases c3 : i < k
          · have e3' : decide (i < k) = true := decide_eq_true c3
            have c3i : (i : Int) < k := by omega
            have HR : Hid (res = true) := by show _ = _; rw [HF.out]; rw [Bool.eq_iff_iff]; first | (simp [g1, g2]; done) | (simp [g1, g2]; omega)
            clear HF
            try clear c2
            go_enter Tryd.func21, Tryd.ntmps21
            go_wp2
            go_quiet (fail)
            go_wp2
            go_quiet (fail)
            go_wp2
            go_quiet (fail)
            go_wp2
            go_ret
            exact ⟨by rw [HR.out]; rfl, _, by first | rfl | exact World.drewN_drewN _ _ _ | (rw [World.drewN_drewN, World.drewN_drewN]) | (rw [World.drewN_drewN])⟩
          · have e3' : decide (i < k) = false := decide_eq_false c3
            have c3i : ¬ (i : Int) < k := by omega
            have HR : Hid (res = false) := by show _ = _; rw [HF.out]; rw [Bool.eq_iff_iff]; first | (simp [g1, g2]; done) | (simp [g1, g2]; omega)
            clear HF
            try clear c2
            go_enter Tryd.func21, Tryd.ntmps21
            go_wp2
            go_quiet (fail)
            go_wp2
            go_quiet (fail)
            go_wp2
            go_quiet (fail)
            go_wp2
            go_ret
            exact ⟨by rw [HR.out]; rfl, _, by first | rfl | exact World.drewN_drewN _ _ _ | (rw [World.drewN_drewN, World.drewN_drewN]) | (rw [World.drewN_drewN])⟩
        · have e2' : (s == q) = false := by rw [beq_eq_false_iff_ne]; exact c2
          have HR : Hid (res = false) := by show _ = _; rw [HF.out]; rw [Bool.eq_iff_iff]; first | (simp [g1, g2]; done) | (simp [g1, g2]; omega)
          clear HF
          try clear c2
          go_enter Tryd.func21, Tryd.ntmps21
          go_wp2
          go_quiet (fail)
          go_wp2
          go_quiet (fail)
          go_wp2
          go_quiet (fail)
          go_wp2
          go_ret
          exact ⟨by rw [HR.out]; rfl, _, by first | rfl | exact World.drewN_drewN _ _ _ | (rw [World.drewN_drewN, World.drewN_drewN]) | (rw [World.drewN_drewN])⟩
end Go.Proofs.YtdhndoccdfbefaaDoor
