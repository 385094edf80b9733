/- IsOpenSchedule: both sides. -/
import Derived.Test.YtdhndoccdfbefaaShH
import Derived.Test.YtdhndoccdfbefaaShC
namespace Go.Proofs.Ytdhndoccdfbefaa
open Go.RowKit

def lineB (xss yss : List (List Int)) (k : Nat) : Bool := if k < mOf xss then decide (apartP (fun i => tm yss i k) (fun i => tm xss i k) xss.length) else decide (apartP (fun i => tm yss (k - mOf xss) i) (fun i => tm xss (k - mOf xss) i) (mOf xss))
def lnV (m k : Nat) : Value := if k < m then .iface 78 (.int .i64 (k : Int)) else .iface 79 (.int .i64 ((k - m : Nat) : Int))
theorem open_lines {xss yss : List (List Int)} : openP xss yss ↔ ∀ k, k < mOf xss + xss.length → lineB xss yss k = true := by
  constructor
  · intro h k hk
    unfold lineB
    by_cases hm : k < mOf xss
    · rw [if_pos hm, decide_eq_true_iff]
      intro x hx y hy
      exact (h x hx k hm).2 y hy
    · rw [if_neg hm, decide_eq_true_iff]
      intro x hx y hy
      exact (h (k - mOf xss) (by omega) x hx).1 y hy
  · intro h i hi k hk
    refine ⟨fun z hz => ?_, fun j hj => ?_⟩
    · have := h (mOf xss + i) (by omega)
      unfold lineB at this
      rw [if_neg (by omega), decide_eq_true_iff, show mOf xss + i - mOf xss = i by omega] at this
      exact this k hk z hz
    · have := h k (by omega)
      unfold lineB at this
      rw [if_pos hk, decide_eq_true_iff] at this
      exact this i hi j hj
set_option maxRecDepth 100000 in
set_option maxHeartbeats 2000000 in
theorem lineClosure_any (A : Option Addr) (c : Nat) (B : Option Addr) (d : Nat) (xss yss : List (List Int)) (w : World) (hr : RowSS w A (xss.map ic)) (hr2 : RowSS w B (yss.map ic)) (hs : Shop xss) (hS : Starts xss yss) (hx : xss.length ≤ 10000000 ∧ totL xss ≤ 10000000) (g1 g2 : Nat) (h1 : BlockIs w g1 43 #[.slice A xss.length c]) (h2 : BlockIs w g2 22 #[.slice B yss.length d]) (k : Nat) (hk : k < mOf xss + xss.length) :
    Calls Try.prog 85 #[lnV (mOf xss) k, .pointer (some ⟨g1, 0, none⟩), .pointer (some ⟨g2, 0, none⟩)] w fun e w' => e = .returned (.bool (!lineB xss yss k)) ∧ Below w.heap.size w w' := by
  have d0 := h1.cell 0
  have d1 := h2.cell 0
  simp only [List.getElem?_toArray, List.getElem?_cons_zero] at d0 d1
  by_cases hm : k < mOf xss
  · have HC := Lib.hid (apart_m A c B d xss yss k w hr hr2 hs hS hx hm (fun i => tm yss i k) (fun i => tm xss i k) (fun _ => rfl) (fun _ => rfl))
    have HV : Hid (lineB xss yss k = decide (apartP (fun i => tm yss i k) (fun i => tm xss i k) xss.length)) := by show _ = _; unfold lineB; rw [if_pos hm]
    rw [← HV.out] at HC
    rw [show lnV (mOf xss) k = .iface 78 (.int .i64 (k : Int)) by unfold lnV; rw [if_pos hm]]
    clear hr hr2 hs hS hm HV h1 h2
    generalize lineB xss yss k = b at *
    go_enter Try.func85, Try.ntmps85
    go_wp2_with fail
    refine HC.out.mono ?_
    rintro e w2 ⟨rfl, hb⟩
    have HB := Lib.hid hb
    clear hb
    go_wp2
    go_ret
    exact ⟨rfl, HB.out⟩
  · have HC := Lib.hid (apart_j A c B d xss yss (k - mOf xss) w hr hr2 hs hS hx (by omega) (fun i => tm yss (k - mOf xss) i) (fun i => tm xss (k - mOf xss) i) (fun _ => rfl) (fun _ => rfl))
    have HV : Hid (lineB xss yss k = decide (apartP (fun i => tm yss (k - mOf xss) i) (fun i => tm xss (k - mOf xss) i) (mOf xss))) := by show _ = _; unfold lineB; rw [if_neg hm]
    rw [← HV.out] at HC
    rw [show lnV (mOf xss) k = .iface 79 (.int .i64 ((k - mOf xss : Nat) : Int)) by unfold lnV; rw [if_neg hm]]
    clear hr hr2 hs hS hm HV h1 h2
    generalize lineB xss yss k = b at *
    generalize k - mOf xss = j at *
    go_enter Try.func85, Try.ntmps85
    go_wp2_with fail
    refine HC.out.mono ?_
    rintro e w2 ⟨rfl, hb⟩
    have HB := Lib.hid hb
    clear hb
    go_wp2
    go_ret
    exact ⟨rfl, HB.out⟩
set_option maxRecDepth 100000 in
set_option maxHeartbeats 2000000 in
theorem indexLn_any (A : Option Addr) (c : Nat) (B : Option Addr) (d : Nat) (xss yss : List (List Int)) (w : World) (hr : RowSS w A (xss.map ic)) (hr2 : RowSS w B (yss.map ic)) (hs : Shop xss) (hS : Starts xss yss) (hx : xss.length ≤ 10000000 ∧ totL xss ≤ 10000000) (g1 g2 : Nat) (h1 : BlockIs w g1 43 #[.slice A xss.length c]) (h2 : BlockIs w g2 22 #[.slice B yss.length d]) (L : Nat) (hL : L = mOf xss + xss.length) (C : Option Addr) (cc : Nat) (hrow : Row w C (lnM (mOf xss) ++ lnJ xss.length)) :
    Calls Try.prog 92 #[.slice C L cc, .func (.func 85) #[] #[.pointer (some ⟨g1, 0, none⟩), .pointer (some ⟨g2, 0, none⟩)]] w fun e w' => (∃ r : Int, e = .returned (.int .i64 r) ∧ (r < 0 ↔ openP xss yss)) ∧ Below w.heap.size w w' := by
  have h8 := hs.n8
  have hM3 := hs.m3
  have HC := Lib.hid (fun W (hb : Below w.heap.size w W) k (hk : k < L) => lineClosure_any A c B d xss yss W (hr.below hb) (hr2.below hb) hs hS hx g1 g2 (h1.below hb) (h2.below hb) k (by omega))
  have HROW := Lib.hid hrow
  have HOP : Hid (openP xss yss ↔ ∀ k, k < L → lineB xss yss k = true) := by
    show _ ↔ _
    rw [hL]
    exact open_lines
  have HLN : Hid (∀ k, k < L → ∀ (hk' : k < (lnM (mOf xss) ++ lnJ xss.length).length), (lnM (mOf xss) ++ lnJ xss.length)[k] = lnV (mOf xss) k) := fun k hk hk' => by
    have h := ln_get (mOf xss) xss.length k (by omega)
    rw [List.getElem?_eq_getElem hk'] at h
    exact Option.some.inj h
  have hlen : (lnM (mOf xss) ++ lnJ xss.length).length = L := by rw [hL]; simp [lnM, lnJ]
  have HLEN := Lib.hid hlen
  have hL11 : L ≤ 11 := by omega
  clear hr hr2 hs hS h1 h2 hrow hL hlen
  go_enter Try.func92, Try.ntmps92
  go_wp2
  go_loopw [8] (fun i wr => ∃ k : Nat, k ≤ L ∧ i = .int .i64 k ∧ Hid (∀ x, x < k → lineB xss yss x = true) ∧ Hid (Below w.heap.size w wr)) (fun i _ => L - (intOf i).toNat)
  case atStart => exact ⟨0, Nat.zero_le _, rfl, fun _ h => absurd h (by omega), Below.refl _ _⟩
  case round =>
    obtain ⟨k, hk, rfl, hA, hb⟩ := hrel
    by_cases hlt : k < L
    · obtain ⟨a, hA', hc0⟩ := (HROW.out.below hb.out).at_ (k := k) (by rw [HLEN.out]; exact hlt)
      subst hA'
      rw [HLN.out k hlt] at hc0
      have hi : (0 : Int) ≤ k := by omega
      have hi' : (k : Int) < L := by omega
      have HST : Hid (lineB xss yss k = true → ∀ x, x < k + 1 → lineB xss yss x = true) := fun h x hx => by
        by_cases e : x = k
        · subst e; exact h
        · exact hA.out x (by omega)
      have HNO : Hid (lineB xss yss k = false → ¬ openP xss yss) := fun h hp => by
        have := HOP.out.1 hp k hlt
        rw [h] at this
        cases this
      have HCK := Lib.hid (HC.out wr hb.out k hlt)
      clear hA
      generalize lnV (mOf xss) k = lv at *
      cases ho : lineB xss yss k
      · have HN := Lib.hid (HNO.out ho)
        rw [ho] at HCK
        clear ho
        go_wp2_with fail
        refine HCK.out.mono ?_
        rintro e w2 ⟨rfl, hb2⟩
        have HB2 := Lib.hid (hb.out.trans (hb2.mono hb.out.size))
        clear hb2
        go_wp2
        go_ret
        exact ⟨⟨k, rfl, fun h => by omega, fun h => absurd h HN.out⟩, HB2.out⟩
      · have HA := Lib.hid (HST.out ho)
        rw [ho] at HCK
        clear ho
        go_wp2_with fail
        refine HCK.out.mono ?_
        rintro e w2 ⟨rfl, hb2⟩
        have HB2 := Lib.hid (hb.out.trans (hb2.mono hb.out.size))
        clear hb2
        go_wp2
        go_roundw
        case rel => exact ⟨k + 1, by omega, by go_num, HA.out, HB2.out⟩
        case measure => simp [intOf]; omega
    · obtain rfl : k = L := by omega
      have HY := Lib.hid (HOP.out.2 hA.out)
      clear hA
      go_wp2
      go_ret
      exact ⟨⟨-1, rfl, fun _ => HY.out, fun _ => by omega⟩, hb.out⟩
theorem containsLn_any (A : Option Addr) (c : Nat) (B : Option Addr) (d : Nat) (xss yss : List (List Int)) (w : World) (hr : RowSS w A (xss.map ic)) (hr2 : RowSS w B (yss.map ic)) (hs : Shop xss) (hS : Starts xss yss) (hx : xss.length ≤ 10000000 ∧ totL xss ≤ 10000000) (g1 g2 : Nat) (h1 : BlockIs w g1 43 #[.slice A xss.length c]) (h2 : BlockIs w g2 22 #[.slice B yss.length d]) (L : Nat) (hL : L = mOf xss + xss.length) (C : Option Addr) (cc : Nat) (hrow : Row w C (lnM (mOf xss) ++ lnJ xss.length)) :
    Calls Try.prog 84 #[.slice C L cc, .func (.func 85) #[] #[.pointer (some ⟨g1, 0, none⟩), .pointer (some ⟨g2, 0, none⟩)]] w fun e w' => e = .returned (.bool (!decide (openP xss yss))) ∧ Below w.heap.size w w' := by
  have HI := Lib.hid (indexLn_any A c B d xss yss w hr hr2 hs hS hx g1 g2 h1 h2 L hL C cc hrow)
  clear hr hr2 hs hS h1 h2 hrow hL
  go_enter Try.func84, Try.ntmps84
  go_wp2_with fail
  refine HI.out.mono ?_
  rintro e w1 ⟨⟨r, rfl, hr1⟩, hb⟩
  have H : Hid (decide (0 ≤ r) = !decide (openP xss yss)) := by
    show _ = _
    by_cases h0 : 0 ≤ r
    · rw [decide_eq_true h0, decide_eq_false (fun h => by have := hr1.2 h; omega)]; rfl
    · rw [decide_eq_false h0, decide_eq_true (hr1.1 (by omega))]; rfl
  have HB := Lib.hid hb
  clear hr1 hb
  go_wp2
  go_ret
  exact ⟨by rw [← H.out]; rfl, HB.out⟩
set_option maxRecDepth 100000 in
set_option maxHeartbeats 4000000 in
theorem isOpen_any (A : Option Addr) (c : Nat) (B : Option Addr) (d : Nat) (xss yss : List (List Int)) (w : World) (hr : RowSS w A (xss.map ic)) (hr2 : RowSS w B (yss.map ic)) (hs : Shop xss) (hx : xss.length ≤ 10000000 ∧ totL xss ≤ 10000000) (hn : yss.length ≤ 10000000 ∧ totL yss ≤ 10000000) :
    Calls Try.prog 69 #[.slice A xss.length c, .slice B yss.length d] w fun e w' => e = .returned (.bool (openB xss yss)) ∧ Below w.heap.size w w' := by
  have hb1 := (Below.refl w.heap.size w).alloc (Nat.le_refl _) (.cells #[.slice A xss.length c] 43)
  have hb2 := hb1.alloc (by simp) (.cells #[.slice B yss.length d] 22)
  have hnw := new_two w #[.slice A xss.length c] #[.slice B yss.length d] 43 22
  have d0 := hnw.1.cell 0
  have d1 := hnw.2.cell 0
  simp only [List.getElem?_toArray, List.getElem?_cons_zero] at d0 d1
  have HB2 := Lib.hid hb2
  have HNW := Lib.hid hnw
  have HST := Lib.hid (areStarts_any A c B d xss yss ((w.alloc (.cells #[.slice A xss.length c] 43)).alloc (.cells #[.slice B yss.length d] 22)) (hr.below hb2) (hr2.below hb2) hx hn)
  cases hst : startsB xss yss
  · have HN := Lib.hid (openB_no hst)
    rw [hst] at HST
    clear hr hr2 hs hst hb1 hb2 hnw
    go_enter Try.func69, Try.ntmps69
    go_wp2_with fail
    refine HST.out.mono ?_
    rintro e _ ⟨rfl, q, rfl⟩
    go_wp2
    go_ret
    exact ⟨by rw [HN.out]; rfl, below_drewN HB2.out _⟩
  · have hS := starts_out hst
    have HV : Hid (openB xss yss = decide (openP xss yss)) := by show _ = _; unfold openB; rw [hst]; rfl
    rw [hst] at HST
    have HLN := Lib.hid (fun q => lines_any A c xss (((w.alloc (.cells #[.slice A xss.length c] 43)).alloc (.cells #[.slice B yss.length d] 22)).drewN q) (hr.below (below_drewN hb2 q)) hs hx)
    have HCT := Lib.hid (fun W (hb : Below ((w.alloc (.cells #[.slice A xss.length c] 43)).alloc (.cells #[.slice B yss.length d] 22)).heap.size ((w.alloc (.cells #[.slice A xss.length c] 43)).alloc (.cells #[.slice B yss.length d] 22)) W) L hL C cc hrow => containsLn_any A c B d xss yss W ((hr.below hb2).below hb) ((hr2.below hb2).below hb) hs hS hx w.heap.size (w.heap.size + 1) (hnw.1.below hb) (hnw.2.below hb) L hL C cc hrow)
    clear hr hr2 hs hS hst hb1 hb2 hnw
    go_enter Try.func69, Try.ntmps69
    go_wp2_with fail
    refine HST.out.mono ?_
    rintro e _ ⟨rfl, q, rfl⟩
    go_wp2_with fail
    refine (HLN.out _).mono ?_
    rintro e w3 ⟨vv, rfl, hown, hb3⟩
    obtain ⟨C, cc, rfl, _⟩ := own_slice hown
    have hb30 := (below_drewN (Below.refl ((w.alloc (.cells #[.slice A xss.length c] 43)).alloc (.cells #[.slice B yss.length d] 22)).heap.size ((w.alloc (.cells #[.slice A xss.length c] 43)).alloc (.cells #[.slice B yss.length d] 22))) q).trans hb3
    have HB30 := Lib.hid hb30
    have HC := Lib.hid (HCT.out w3 hb30 _ rfl C cc (Row.of_own hown))
    generalize mOf xss + xss.length = L at *
    clear hown hb3 hb30
    go_wp2_with fail
    refine HC.out.mono ?_
    rintro e w4 ⟨rfl, hb4⟩
    have HB4 := Lib.hid (HB2.out.trans ((HB30.out.trans (hb4.mono HB30.out.size)).mono HB2.out.size))
    clear hb4
    go_wp2
    go_ret
    exact ⟨by rw [HV.out]; first | rfl | simp [results, go_sem], HB4.out⟩
set_option maxHeartbeats 1000000 in
theorem spec_IsOpenSchedule (A : Option Addr) (c : Nat) (B : Option Addr) (d : Nat) (xss yss : List (List Int)) (w : World) (hr : RowSS w A (xss.map ic)) (hr2 : RowSS w B (yss.map ic)) (hx : xss.length ≤ 10000000 ∧ totL xss ≤ 10000000) (hn : yss.length ≤ 10000000 ∧ totL yss ≤ 10000000) : Calls Try.prog 36 #[.slice A xss.length c, .slice B yss.length d] w (RetBB w (openR xss yss)) := by
  have HI := Lib.hid (l8Good_any A c xss w hr hx)
  cases hs : shopB xss
  · have HO := Lib.hid (openR_no (yss := yss) hs)
    rw [hs] at HI
    clear hr hr2 hs
    go_enter Try.func36, Try.ntmps36
    go_wp2_with fail
    refine HI.out.mono ?_
    rintro e _ ⟨rfl, q, rfl⟩
    go_wp2
    go_ret2
    exact ⟨by rw [HO.out]; rfl, below_drewN (Below.refl _ _) _⟩
  · rw [openR_yes hs]
    rw [hs] at HI
    have HC := Lib.hid (fun q => l8Open_any A c B d xss yss (w.drewN q) hr hr2 (shopB_out hs) hx hn)
    clear hr hr2 hs
    generalize openB xss yss = b at *
    go_enter Try.func36, Try.ntmps36
    go_wp2_with fail
    refine HI.out.mono ?_
    rintro e _ ⟨rfl, q, rfl⟩
    go_wp2_with fail
    refine (HC.out _).mono ?_
    rintro e w2 ⟨rfl, hb⟩
    have HB : Hid (Below w.heap.size w w2) := by first | exact (below_drewN (Below.refl _ _) q).trans hb | (obtain ⟨q2, rfl⟩ := hb; exact below_drewN (below_drewN (Below.refl _ _) _) _)
    clear hb
    go_wp2
    go_ret2
    exact ⟨rfl, HB.out⟩
set_option maxHeartbeats 1000000 in
theorem impl_IsOpenSchedule (A : Option Addr) (c : Nat) (B : Option Addr) (d : Nat) (xss yss : List (List Int)) (w : World) (hr : RowSS w A (xss.map ic)) (hr2 : RowSS w B (yss.map ic)) (hx : xss.length ≤ 10000000 ∧ totL xss ≤ 10000000) (hn : yss.length ≤ 10000000 ∧ totL yss ≤ 10000000) : Calls Try.prog 37 #[.slice A xss.length c, .slice B yss.length d] w (RetBB w (openR xss yss)) := by
  have HI := Lib.hid (isShop_any A c xss w hr hx)
  cases hs : shopB xss
  · have HO := Lib.hid (openR_no (yss := yss) hs)
    rw [hs] at HI
    clear hr hr2 hs
    go_enter Try.func37, Try.ntmps37
    go_wp2_with fail
    refine HI.out.mono ?_
    rintro e _ ⟨rfl, q, rfl⟩
    go_wp2
    go_ret2
    exact ⟨by rw [HO.out]; rfl, below_drewN (Below.refl _ _) _⟩
  · rw [openR_yes hs]
    rw [hs] at HI
    have HC := Lib.hid (fun q => isOpen_any A c B d xss yss (w.drewN q) hr hr2 (shopB_out hs) hx hn)
    clear hr hr2 hs
    generalize openB xss yss = b at *
    go_enter Try.func37, Try.ntmps37
    go_wp2_with fail
    refine HI.out.mono ?_
    rintro e _ ⟨rfl, q, rfl⟩
    go_wp2_with fail
    refine (HC.out _).mono ?_
    rintro e w2 ⟨rfl, hb⟩
    have HB : Hid (Below w.heap.size w w2) := by first | exact (below_drewN (Below.refl _ _) q).trans hb | (obtain ⟨q2, rfl⟩ := hb; exact below_drewN (below_drewN (Below.refl _ _) _) _)
    clear hb
    go_wp2
    go_ret2
    exact ⟨rfl, HB.out⟩
end Go.Proofs.Ytdhndoccdfbefaa
