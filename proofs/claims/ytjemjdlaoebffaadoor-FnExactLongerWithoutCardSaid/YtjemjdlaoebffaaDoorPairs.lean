/- Slices of pairs of ints, all of one's own: equality, marks. -/
import Derived.Test.YtjemjdlaoebffaaDoorPrC
import Derived.Deep.RegionWith
namespace Go.Proofs.YtjemjdlaoebffaaDoor
open Go.RowKit
theorem eqIntA2_same (x : Pr) (w : World) :
    Calls Tryd.prog 23 #[.agg #[.int .i64 x.1, .int .i64 x.2], .agg #[.int .i64 x.1, .int .i64 x.2]] w fun e w' => e = .returned (.bool true) ∧ Below w.heap.size w w' := by
  have b1 := (Below.refl w.heap.size w).alloc (Nat.le_refl _) (.cells #[.int .i64 x.1, .int .i64 x.2] 37)
  have b2 := b1.alloc b1.size (.cells #[.int .i64 x.1, .int .i64 x.2] 37)
  have h1 := (BlockIs.new w 37 #[.int .i64 x.1, .int .i64 x.2]).below ((Below.refl _ _).alloc (Nat.le_refl _) (.cells #[.int .i64 x.1, .int .i64 x.2] 37))
  have h2 := BlockIs.new (w.alloc (.cells #[.int .i64 x.1, .int .i64 x.2] 37)) 37 #[.int .i64 x.1, .int .i64 x.2]
  have hs : (w.alloc (.cells #[.int .i64 x.1, .int .i64 x.2] 37)).heap.size = w.heap.size + 1 := by simp
  rw [hs] at h2
  have c0 := h1.cell 0
  have c1 := h1.cell 1
  have d0 := h2.cell 0
  have d1 := h2.cell 1
  simp only [List.getElem?_toArray, List.getElem?_cons_zero, List.getElem?_cons_succ] at c0 c1 d0 d1
  have HB := Lib.hid b2
  have HC := Lib.hid (And.intro c0 (And.intro c1 (And.intro d0 d1)))
  clear b1 b2 h1 h2 hs c0 c1 d0 d1
  go_enter Tryd.func23, Tryd.ntmps23
  go_wp2
  go_loopw [5] (fun i wr => ∃ k n : Nat, k ≤ 2 ∧ i = .int .i64 (k : Int) ∧ wr = ((w.alloc (.cells #[.int .i64 x.1, .int .i64 x.2] 37)).alloc (.cells #[.int .i64 x.1, .int .i64 x.2] 37)).drewN n) (fun i _ => 2 - (intOf i).toNat)
  case atStart => exact ⟨0, 0, by omega, rfl, rfl⟩
  case round =>
    obtain ⟨k, n, hk, rfl, rfl⟩ := hrel
    generalize ((w.alloc (.cells #[.int .i64 x.1, .int .i64 x.2] 37)).alloc (.cells #[.int .i64 x.1, .int .i64 x.2] 37)) = W at *
    have e0 : (W.drewN n).cell? ⟨w.heap.size, 0, none⟩ = some (.int .i64 x.1) := HC.out.1
    have e1 : (W.drewN n).cell? ⟨w.heap.size, 1, none⟩ = some (.int .i64 x.2) := HC.out.2.1
    have e2 : (W.drewN n).cell? ⟨w.heap.size + 1, 0, none⟩ = some (.int .i64 x.1) := HC.out.2.2.1
    have e3 : (W.drewN n).cell? ⟨w.heap.size + 1, 1, none⟩ = some (.int .i64 x.2) := HC.out.2.2.2
    obtain ⟨c0, c1, d0, d1⟩ := HC.out
    rcases (by omega : k = 0 ∨ k = 1 ∨ k = 2) with rfl | rfl | rfl
    · go_wp2
      go_quiet (fail)
      go_wp2
      go_roundw
      case rel => exact ⟨1, _, by omega, by go_num, rfl⟩
      case measure => simp [intOf]
    · go_wp2
      go_quiet (fail)
      go_wp2
      go_roundw
      case rel => exact ⟨2, _, by omega, by go_num, rfl⟩
      case measure => simp [intOf]
    · go_wp2
      go_ret
      exact ⟨rfl, below_drewN HB.out _⟩
theorem eqIntA2S_seg (A B : Option Addr) (c d : Nat) (xs : List Pr) (w : World) (hr : Row w A (pc xs)) (hq : Row w B (pc xs)) (hn : xs.length ≤ 10000000) :
    Calls Tryd.prog 24 #[.slice A xs.length c, .slice B xs.length d] w fun e w' => e = .returned (.bool true) ∧ Below w.heap.size w w' := by
  go_enter Tryd.func24, Tryd.ntmps24
  go_wp2
  go_loopw [5] (fun i wr => ∃ k : Nat, k ≤ xs.length ∧ i = .int .i64 k ∧ Below w.heap.size w wr) (fun i _ => xs.length - (intOf i).toNat)
  case atStart => exact ⟨0, Nat.zero_le _, rfl, Below.refl _ _⟩
  case round =>
    obtain ⟨k, hk, rfl, hb⟩ := hrel
    by_cases hlt : k < xs.length
    · obtain ⟨a, hA, _, hc0, hc1⟩ := (hr.below hb).pair hlt
      obtain ⟨b, hB, _, hd0, hd1⟩ := (hq.below hb).pair hlt
      subst hA hB
      have HB := Lib.hid hb
      clear hr hq hb
      generalize xs[k] = j at *
      have hi : (0 : Int) ≤ k := by omega
      have hi' : (k : Int) < xs.length := by omega
      go_wp2
      go_region_with (go_at_call 23; refine (eqIntA2_same j _).mono ?_; rintro e w1 ⟨rfl, hb1⟩)
      all_goals
        go_wp2
        go_roundw
        case rel => exact ⟨k + 1, by omega, by go_num, HB.out.trans ((⟨hb1.os, hb1.tape, hb1.output, hb1.size, hb1.block⟩ : Below wr.heap.size wr w1).mono HB.out.size)⟩
        case measure => simp [intOf]; omega
    · go_wp2
      go_ret
      exact ⟨rfl, hb⟩
theorem markIntA2S_none (A : Option Addr) (c : Nat) (k : Int) (w : World) :
    Calls Tryd.prog 28 #[.slice A 0 c, .int .i64 k] w fun e w' => e = .returned (.int .i64 k) ∧ w = w' := by
  go_enter Tryd.func28, Tryd.ntmps28
  go_wp2
  refine wp_loop_rounds 1 ?_
  rw [rounds_succ]
  go_wp2
  go_ret
  exact ⟨rfl, rfl⟩
theorem markIntA2S_some (g c n k0 : Nat) (cs0 : Array Value) (w : World) (h : BlockIs w g 37 cs0) (hn : cs0.size = c * 2) (hnc : n ≤ c) (hn1 : n ≤ 10000000) (hk1 : k0 ≤ 1000000000) :
    Calls Tryd.prog 28 #[.slice (some ⟨g, 0, none⟩) n c, .int .i64 (k0 : Int)] w fun e w' => e = .returned (.int .i64 ((k0 + 2 * n : Nat) : Int)) ∧ (∃ cs, cs.size = cs0.size ∧ BlockIs w' g 37 cs ∧ cs.toList.take (n * 2) = marksI k0 (n * 2)) ∧ w.grownBy w' (some g) ∧ w'.heap.size = w.heap.size := by
  go_enter Tryd.func28, Tryd.ntmps28
  go_wp2
  go_loopw [1, 5] (fun k i wr => ∃ (m : Nat) (cs : Array Value), m ≤ n ∧ i = .int .i64 (m : Int) ∧ k = .int .i64 ((k0 + 2 * m : Nat) : Int) ∧ Hid (cs.size = cs0.size) ∧ Hid (BlockIs wr g 37 cs) ∧ Hid (PreC (marksI k0 (n * 2)) (m * 2) cs) ∧ Hid (w.grownBy wr (some g)) ∧ Hid (wr.heap.size = w.heap.size)) (fun _ i _ => n - (intOf i).toNat)
  case atStart => exact ⟨0, cs0, Nat.zero_le _, rfl, by go_num, rfl, h, ⟨by rw [marksI_len]; omega, by omega⟩, ⟨rfl, rfl, rfl, Nat.le_refl _, fun _ _ _ => rfl⟩, rfl⟩
  case round =>
    obtain ⟨m, cs, hm, rfl, rfl, hz, hB, hP, hG, hsz⟩ := hrel
    clear h
    by_cases hlt : m < n
    · have hi : (0 : Int) ≤ m := by omega
      have hi' : (m : Int) < n := by omega
      obtain ⟨wo, rfl⟩ : ∃ wo : World, wo = wr := ⟨_, rfl⟩
      go_wp2
      go_loopw [1, 6] (fun k jv wi => ∃ (j : Nat) (cs' : Array Value), j ≤ 2 ∧ jv = .int .i64 (j : Int) ∧ k = .int .i64 ((k0 + 2 * m + j : Nat) : Int) ∧ Hid (cs'.size = cs0.size) ∧ Hid (BlockIs wi g 37 cs') ∧ Hid (PreC (marksI k0 (n * 2)) (m * 2 + j) cs') ∧ Hid (w.grownBy wi (some g)) ∧ Hid (wi.heap.size = w.heap.size)) (fun _ jv _ => 2 - (intOf jv).toNat)
      case atStart => exact ⟨0, cs, by omega, rfl, by go_num, hz, hB, hP, hG, hsz⟩
      case round =>
        obtain ⟨j, cs', hj, rfl, rfl, hz', hB', hP', hG', hsz'⟩ := hrel
        clear hz hB hP hG hsz
        by_cases hj2 : j < 2
        · have hj0 : (0 : Int) ≤ j := by omega
          have hj1 : (j : Int) < 2 := by omega
          obtain ⟨v0, hv0⟩ : ∃ v, cs'[m * 2 + j]? = some v := ⟨_, Array.getElem?_eq_getElem (by have := hz'.out; omega)⟩
          have hck : wr.cell? ⟨g, m * 2 + j, none⟩ = some v0 := by rw [hB'.out.cell, hv0]
          have hfz := hB'.out.frozen (m * 2 + j)
          have hst := hP'.out.step (by rw [marksI_len]; omega)
          rw [marksI_get k0 (n * 2) (m * 2 + j) (by omega)] at hst
          have HS := Lib.hid hst
          have HB2 := Lib.hid (hB'.out.set (m * 2 + j) (.int .i64 ((k0 + (m * 2 + j) : Nat) : Int)))
          have HG2 := Lib.hid (grown_setCell hG'.out (m * 2 + j) (.int .i64 ((k0 + (m * 2 + j) : Nat) : Int)))
          have hcast : ((k0 + (m * 2 + j) : Nat) : Int) = (k0 : Int) + 2 * m + j := by omega
          rw [hcast] at HB2 HG2 HS
          have HZ2 : Hid ((wr.setCell ⟨g, m * 2 + j, none⟩ (.int .i64 ((k0 : Int) + 2 * m + j))).heap.size = w.heap.size) := by show _ = _; rw [← hsz'.out]; simp [World.setCell]
          have HZ3 := hz'
          clear hv0 hst hB' hP' hG' hsz' hz' hcast
          go_wp2
          go_roundw
          case rel => exact ⟨j + 1, _, by omega, by go_num, by go_num, by show _ = _; rw [Array.size_setIfInBounds]; exact HZ3.out, HB2.out, HS.out, HG2.out, HZ2.out⟩
          case measure => simp [intOf]; omega
        · obtain rfl : j = 2 := by omega
          go_wp2
          go_roundw
          case rel => exact ⟨m + 1, cs', by omega, by go_num, by go_num, hz', hB', by rw [show (m + 1) * 2 = m * 2 + 2 by omega]; exact hP', hG', hsz'⟩
          case measure => simp [intOf]; omega
    · obtain rfl : m = n := by omega
      go_wp2
      go_ret
      refine ⟨rfl, ⟨cs, hz.out, hB.out, ?_⟩, hG.out, hsz.out⟩
      have hl := marksI_len k0 (m * 2)
      have hP' : PreC (marksI k0 (m * 2)) (marksI k0 (m * 2)).length cs := by rw [hl]; exact hP.out
      have := hP'.all
      rwa [hl] at this
theorem markIntA2S_seg (A : Option Addr) (c n lo hi : Nat) (k : Int) (cs : List Value) (w : World) (h : Seg w 37 2 lo hi A n c cs) (h0 : 0 ≤ k) (h1 : k ≤ 1000000000) (hn : n ≤ 10000000) :
    Calls Tryd.prog 28 #[.slice A n c, .int .i64 k] w fun e w' => e = .returned (.int .i64 (k + 2 * n)) ∧ Seg w' 37 2 lo hi A n c (marksI k.toNat (n * 2)) ∧ Touch lo hi w w' := by
  have hk : k = (k.toNat : Int) := by omega
  by_cases hz : n = 0
  · subst hz
    refine (markIntA2S_none A c k w).mono ?_
    rintro e w' ⟨rfl, rfl⟩
    have hcs := h.slice_nil
    subst hcs
    exact ⟨by simp, h, Touch.refl _ _ _⟩
  · obtain ⟨g, cur, rfl, hlo, hhi, hB, h2, h3, h4, h5⟩ := h.block (by omega)
    have H := markIntA2S_some g c n k.toNat cur w hB h4 h2 hn (by omega)
    rw [← hk] at H
    refine H.mono ?_
    rintro e w' ⟨rfl, ⟨cs', hz', hB', hm⟩, hG, hs⟩
    refine ⟨by rw [show ((k.toNat + 2 * n : Nat) : Int) = k + 2 * n by omega], ⟨?_, h.top, by rw [hs]; exact h.fit⟩, Touch.of_grown hG hlo hhi⟩
    have := hB'.own (base := lo) (n := n) (c := c) (size := 2) hlo (by omega) h2 h3 (by omega)
    rwa [hm] at this
/-- What a function hands back: a list of pairs, memory of its own, and a bool. -/
def RetPB (w : World) (r : List Pr × Bool) (e : Ending) (w' : World) : Prop :=
  ∃ A c, e = .returned (.tuple #[.slice A r.1.length c, .bool r.2]) ∧ Seg w' 37 2 w.heap.size w'.heap.size A r.1.length c (pc r.1) ∧ Below w.heap.size w w'
theorem ret_emptyP {w w1 : World} {r : List Pr × Bool} (hr : r = ([], false)) (hb : Below w.heap.size w w1) (e : Ending) (he : e = .returned (.tuple #[.slice (some ⟨w1.heap.size, 0, none⟩) 0 0, .bool false])) : RetPB w r e (w1.alloc (.cells #[] 37)) := by
  subst hr he
  have h : (w1.alloc (.cells #[] 37)).ownsRow w.heap.size 37 2 (.slice (some ⟨w1.heap.size, 0, none⟩) 0 0) 0 (pc []) := World.ownsRow_made w1 #[] 0 hb.size (by unfold maxLen; omega) rfl
  exact ⟨_, 0, rfl, Seg.of_own h, hb.alloc hb.size _⟩
end Go.Proofs.YtjemjdlaoebffaaDoor
