/- Texts joined: Prx Pairs Pap ClS ClI TlP MapW Ord SchedE Ends EndsO TlS RegZ TlI TlO Tot Las Leb ArgP PrT. -/
import Derived.Test.YtapbgmmkkngdoaaDoorPrs
import Derived.Test.YtapbgmmkkngdoaaDoorPra
import Derived.Test.YtapbgmmkkngdoaaDoorPrC
import Derived.Deep.RegionWith
import Derived.Test.YtapbgmmkkngdoaaDoorTbl
import Derived.Test.YtapbgmmkkngdoaaDoorGroP
import Derived.Test.YtapbgmmkkngdoaaDoorValP
import Derived.Test.YtapbgmmkkngdoaaDoorMem
import Derived.MapKept
import Derived.Test.YtapbgmmkkngdoaaDoorGood
import Derived.Test.YtapbgmmkkngdoaaDoorSegH
import Derived.Test.YtapbgmmkkngdoaaDoorIdleP
import Derived.StillTailTactics
import Derived.Deep.QuietTactic
import Derived.BigQuiet
import Derived.Test.YtapbgmmkkngdoaaDoorPln
import Derived.Test.YtapbgmmkkngdoaaDoorRegX
import Derived.RangeFuncCalls
import Derived.Test.YtapbgmmkkngdoaaDoorWlo
import Derived.Shelf.RegionOpen
import Derived.Test.YtapbgmmkkngdoaaDoorMbr
import Derived.Test.YtapbgmmkkngdoaaDoorArgJ
import Derived.OpenShut
import Derived.Test.YtapbgmmkkngdoaaDoorBlo
namespace Go.Proofs.YtapbgmmkkngdoaaDoor
open Go.RowKit
set_option maxRecDepth 100000 in
set_option maxHeartbeats 1000000 in
theorem l4Good_any (A : Option Addr) (c : Nat) (n : Int) (E : List Pr) (w : World) (hr : Row w A (pc E)) (hl : E.length ≤ 10000000) :
    Calls Tryd.prog 43 #[.int .i64 n, .slice A E.length c] w fun e w' => e = .returned (.bool (precB n E)) ∧ Below w.heap.size w w' := by
  have H := Lib.hid (l4Pairs_any A c n E w hr hl)
  have HR := Lib.hid hr
  clear hr
  go_enter Tryd.func43, Tryd.ntmps43
  go_wp2_with fail
  refine H.out.mono ?_
  rintro e w1 ⟨b, rfl, ht, hf, hb⟩
  have HB := Lib.hid hb
  cases b
  · have HP := Lib.hid (hf rfl)
    clear ht hf hb
    go_wp2
    go_ret
    exact ⟨by rw [HP.out]; rfl, HB.out⟩
  · have hp := ht rfl
    obtain ⟨h0, h8, h28, hpt⟩ := pairs_out hp
    obtain ⟨m, rfl⟩ : ∃ m : Nat, n = (m : Int) := ⟨n.toNat, by omega⟩
    have HP := Lib.hid (precB_good hp)
    have hm : m ≤ 8 := by omega
    have HT := Lib.hid (l4Table_any A c m E w1 (HR.out.below hb) hl hm (edsIn_of (n := m) (by exact_mod_cast hpt)))
    clear ht hf hb hp h0 h8 h28 hpt
    go_wp2_with fail
    refine HT.out.mono ?_
    rintro e w2 ⟨gs, v, rfl, hTb, hgl, hb2⟩
    have HB2 := Lib.hid (HB.out.trans (hb2.mono HB.out.size))
    have HTb := Lib.hid hTb
    have HGL := Lib.hid hgl
    clear hTb hgl hb2
    go_wp2
    go_loop [6] (fun i => ∃ k : Nat, k ≤ m ∧ i = .int .i64 (k : Int) ∧ Hid (irrB m E k = true)) (fun i => m - (intOf i).toNat)
    case atStart => exact ⟨0, Nat.zero_le _, rfl, rfl⟩
    case round =>
      obtain ⟨k, hk, rfl, HI⟩ := hrel
      by_cases hlt : k < m
      · obtain ⟨g, cc, q, hV, hq, hcell, hBq, hqB, hgq, hrow⟩ := HTb.out.at_ (i := k) (by rw [HGL.out]; exact hlt)
        subst hV
        have hck := hrow k hlt
        have hk0 : (0 : Int) ≤ k := by omega
        have hk1 : (k : Int) < gs.length := by rw [HGL.out]; omega
        have hk2 : (k : Int) < m := by omega
        clear hrow hBq hq hgq
        cases htk : tabB m E k k
        · have HI2 : Hid (irrB m E (k + 1) = true) := by show _ = _; rw [irrB_succ, HI.out, htk]; rfl
          rw [htk] at hck
          clear htk
          go_wp2
          go_round
          case rel => exact ⟨k + 1, by omega, by go_num, HI2.out⟩
          case measure => simp [intOf]; omega
        · have HI2 : Hid (irrB m E m = false) := irrB_bad hlt htk
          rw [htk] at hck
          clear htk
          go_wp2
          go_ret
          exact ⟨by rw [HP.out, HI2.out]; rfl, HB2.out⟩
      · obtain rfl : k = m := by omega
        go_wp2
        go_ret
        exact ⟨by rw [HP.out, HI.out]; rfl, HB2.out⟩
theorem spec_IsPrecedence (A : Option Addr) (c : Nat) (n : Int) (E : List Pr) (w : World) (hr : Row w A (pc E)) (hl : E.length ≤ 10000000) :
    Calls Tryd.prog 12 #[.int .i64 n, .slice A E.length c] w fun e w' => e = .returned (.bool (precB n E)) ∧ Below w.heap.size w w' := by
  have H := Lib.hid (l4Good_any A c n E w hr hl)
  go_enter Tryd.func12, Tryd.ntmps12
  go_wp2_with fail
  refine H.out.mono ?_
  rintro e w1 ⟨rfl, hb⟩
  go_wp2
  go_ret
  exact ⟨rfl, hb⟩
end Go.Proofs.YtapbgmmkkngdoaaDoor

namespace Go.Proofs.YtapbgmmkkngdoaaDoor
open Go.RowKit
theorem eqIntA2_same (x : Pr) (w : World) :
    Calls Tryd.prog 46 #[.agg #[.int .i64 x.1, .int .i64 x.2], .agg #[.int .i64 x.1, .int .i64 x.2]] w fun e w' => e = .returned (.bool true) ∧ Below w.heap.size w w' := by
  have b1 := (Below.refl w.heap.size w).alloc (Nat.le_refl _) (.cells #[.int .i64 x.1, .int .i64 x.2] 56)
  have b2 := b1.alloc b1.size (.cells #[.int .i64 x.1, .int .i64 x.2] 56)
  have h1 := (BlockIs.new w 56 #[.int .i64 x.1, .int .i64 x.2]).below ((Below.refl _ _).alloc (Nat.le_refl _) (.cells #[.int .i64 x.1, .int .i64 x.2] 56))
  have h2 := BlockIs.new (w.alloc (.cells #[.int .i64 x.1, .int .i64 x.2] 56)) 56 #[.int .i64 x.1, .int .i64 x.2]
  have hs : (w.alloc (.cells #[.int .i64 x.1, .int .i64 x.2] 56)).heap.size = w.heap.size + 1 := by simp
  rw [hs] at h2
  have c0 := h1.cell 0
  have c1 := h1.cell 1
  have d0 := h2.cell 0
  have d1 := h2.cell 1
  simp only [List.getElem?_toArray, List.getElem?_cons_zero, List.getElem?_cons_succ] at c0 c1 d0 d1
  have HB := Lib.hid b2
  have HC := Lib.hid (And.intro c0 (And.intro c1 (And.intro d0 d1)))
  clear b1 b2 h1 h2 hs c0 c1 d0 d1
  go_enter Tryd.func46, Tryd.ntmps46
  go_wp2
  go_loopw [5] (fun i wr => ∃ k n : Nat, k ≤ 2 ∧ i = .int .i64 (k : Int) ∧ wr = ((w.alloc (.cells #[.int .i64 x.1, .int .i64 x.2] 56)).alloc (.cells #[.int .i64 x.1, .int .i64 x.2] 56)).drewN n) (fun i _ => 2 - (intOf i).toNat)
  case atStart => exact ⟨0, 0, by omega, rfl, rfl⟩
  case round =>
    obtain ⟨k, n, hk, rfl, rfl⟩ := hrel
    generalize ((w.alloc (.cells #[.int .i64 x.1, .int .i64 x.2] 56)).alloc (.cells #[.int .i64 x.1, .int .i64 x.2] 56)) = W at *
    have e0 : (W.drewN n).cell? ⟨w.heap.size, 0, none⟩ = some (.int .i64 x.1) := HC.out.1
    have e1 : (W.drewN n).cell? ⟨w.heap.size, 1, none⟩ = some (.int .i64 x.2) := HC.out.2.1
    have e2 : (W.drewN n).cell? ⟨w.heap.size + 1, 0, none⟩ = some (.int .i64 x.1) := HC.out.2.2.1
    have e3 : (W.drewN n).cell? ⟨w.heap.size + 1, 1, none⟩ = some (.int .i64 x.2) := HC.out.2.2.2
    obtain ⟨c0, c1, d0, d1⟩ := HC.out
    rcases (by omega : k = 0 ∨ k = 1 ∨ k = 2) with rfl | rfl | rfl
    · go_wp2
      go_quiet (fail)
      go_wp2
      go_roundw
      case rel => exact ⟨1, _, by omega, by go_num, rfl⟩
      case measure => simp [intOf]
    · go_wp2
      go_quiet (fail)
      go_wp2
      go_roundw
      case rel => exact ⟨2, _, by omega, by go_num, rfl⟩
      case measure => simp [intOf]
    · go_wp2
      go_ret
      exact ⟨rfl, below_drewN HB.out _⟩
theorem eqIntA2S_seg (A B : Option Addr) (c d : Nat) (xs : List Pr) (w : World) (hr : Row w A (pc xs)) (hq : Row w B (pc xs)) (hn : xs.length ≤ 10000000) :
    Calls Tryd.prog 15 #[.slice A xs.length c, .slice B xs.length d] w fun e w' => e = .returned (.bool true) ∧ Below w.heap.size w w' := by
  go_enter Tryd.func15, Tryd.ntmps15
  go_wp2
  go_loopw [5] (fun i wr => ∃ k : Nat, k ≤ xs.length ∧ i = .int .i64 k ∧ Below w.heap.size w wr) (fun i _ => xs.length - (intOf i).toNat)
  case atStart => exact ⟨0, Nat.zero_le _, rfl, Below.refl _ _⟩
  case round =>
    obtain ⟨k, hk, rfl, hb⟩ := hrel
    by_cases hlt : k < xs.length
    · obtain ⟨a, hA, _, hc0, hc1⟩ := (hr.below hb).pair hlt
      obtain ⟨b, hB, _, hd0, hd1⟩ := (hq.below hb).pair hlt
      subst hA hB
      have HB := Lib.hid hb
      clear hr hq hb
      generalize xs[k] = j at *
      have hi : (0 : Int) ≤ k := by omega
      have hi' : (k : Int) < xs.length := by omega
      go_wp2
      go_region_with (go_at_call 46; refine (eqIntA2_same j _).mono ?_; rintro e w1 ⟨rfl, hb1⟩)
      all_goals
        go_wp2
        go_roundw
        case rel => exact ⟨k + 1, by omega, by go_num, HB.out.trans ((⟨hb1.os, hb1.tape, hb1.output, hb1.size, hb1.block⟩ : Below wr.heap.size wr w1).mono HB.out.size)⟩
        case measure => simp [intOf]; omega
    · go_wp2
      go_ret
      exact ⟨rfl, hb⟩
theorem markIntA2S_none (A : Option Addr) (c : Nat) (k : Int) (w : World) :
    Calls Tryd.prog 18 #[.slice A 0 c, .int .i64 k] w fun e w' => e = .returned (.int .i64 k) ∧ w = w' := by
  go_enter Tryd.func18, Tryd.ntmps18
  go_wp2
  refine wp_loop_rounds 1 ?_
  rw [rounds_succ]
  go_wp2
  go_ret
  exact ⟨rfl, rfl⟩
theorem markIntA2S_some (g c n k0 : Nat) (cs0 : Array Value) (w : World) (h : BlockIs w g 56 cs0) (hn : cs0.size = c * 2) (hnc : n ≤ c) (hn1 : n ≤ 10000000) (hk1 : k0 ≤ 1000000000) :
    Calls Tryd.prog 18 #[.slice (some ⟨g, 0, none⟩) n c, .int .i64 (k0 : Int)] w fun e w' => e = .returned (.int .i64 ((k0 + 2 * n : Nat) : Int)) ∧ (∃ cs, cs.size = cs0.size ∧ BlockIs w' g 56 cs ∧ cs.toList.take (n * 2) = marksI k0 (n * 2)) ∧ w.grownBy w' (some g) ∧ w'.heap.size = w.heap.size := by
  go_enter Tryd.func18, Tryd.ntmps18
  go_wp2
  go_loopw [1, 5] (fun k i wr => ∃ (m : Nat) (cs : Array Value), m ≤ n ∧ i = .int .i64 (m : Int) ∧ k = .int .i64 ((k0 + 2 * m : Nat) : Int) ∧ Hid (cs.size = cs0.size) ∧ Hid (BlockIs wr g 56 cs) ∧ Hid (PreC (marksI k0 (n * 2)) (m * 2) cs) ∧ Hid (w.grownBy wr (some g)) ∧ Hid (wr.heap.size = w.heap.size)) (fun _ i _ => n - (intOf i).toNat)
  case atStart => exact ⟨0, cs0, Nat.zero_le _, rfl, by go_num, rfl, h, ⟨by rw [marksI_len]; omega, by omega⟩, ⟨rfl, rfl, rfl, Nat.le_refl _, fun _ _ _ => rfl⟩, rfl⟩
  case round =>
    obtain ⟨m, cs, hm, rfl, rfl, hz, hB, hP, hG, hsz⟩ := hrel
    clear h
    by_cases hlt : m < n
    · have hi : (0 : Int) ≤ m := by omega
      have hi' : (m : Int) < n := by omega
      obtain ⟨wo, rfl⟩ : ∃ wo : World, wo = wr := ⟨_, rfl⟩
      go_wp2
      go_loopw [1, 6] (fun k jv wi => ∃ (j : Nat) (cs' : Array Value), j ≤ 2 ∧ jv = .int .i64 (j : Int) ∧ k = .int .i64 ((k0 + 2 * m + j : Nat) : Int) ∧ Hid (cs'.size = cs0.size) ∧ Hid (BlockIs wi g 56 cs') ∧ Hid (PreC (marksI k0 (n * 2)) (m * 2 + j) cs') ∧ Hid (w.grownBy wi (some g)) ∧ Hid (wi.heap.size = w.heap.size)) (fun _ jv _ => 2 - (intOf jv).toNat)
      case atStart => exact ⟨0, cs, by omega, rfl, by go_num, hz, hB, hP, hG, hsz⟩
      case round =>
        obtain ⟨j, cs', hj, rfl, rfl, hz', hB', hP', hG', hsz'⟩ := hrel
        clear hz hB hP hG hsz
        by_cases hj2 : j < 2
        · have hj0 : (0 : Int) ≤ j := by omega
          have hj1 : (j : Int) < 2 := by omega
          obtain ⟨v0, hv0⟩ : ∃ v, cs'[m * 2 + j]? = some v := ⟨_, Array.getElem?_eq_getElem (by have := hz'.out; omega)⟩
          have hck : wr.cell? ⟨g, m * 2 + j, none⟩ = some v0 := by rw [hB'.out.cell, hv0]
          have hfz := hB'.out.frozen (m * 2 + j)
          have hst := hP'.out.step (by rw [marksI_len]; omega)
          rw [marksI_get k0 (n * 2) (m * 2 + j) (by omega)] at hst
          have HS := Lib.hid hst
          have HB2 := Lib.hid (hB'.out.set (m * 2 + j) (.int .i64 ((k0 + (m * 2 + j) : Nat) : Int)))
          have HG2 := Lib.hid (grown_setCell hG'.out (m * 2 + j) (.int .i64 ((k0 + (m * 2 + j) : Nat) : Int)))
          have hcast : ((k0 + (m * 2 + j) : Nat) : Int) = (k0 : Int) + 2 * m + j := by omega
          rw [hcast] at HB2 HG2 HS
          have HZ2 : Hid ((wr.setCell ⟨g, m * 2 + j, none⟩ (.int .i64 ((k0 : Int) + 2 * m + j))).heap.size = w.heap.size) := by show _ = _; rw [← hsz'.out]; simp [World.setCell]
          have HZ3 := hz'
          clear hv0 hst hB' hP' hG' hsz' hz' hcast
          go_wp2
          go_roundw
          case rel => exact ⟨j + 1, _, by omega, by go_num, by go_num, by show _ = _; rw [Array.size_setIfInBounds]; exact HZ3.out, HB2.out, HS.out, HG2.out, HZ2.out⟩
          case measure => simp [intOf]; omega
        · obtain rfl : j = 2 := by omega
          go_wp2
          go_roundw
          case rel => exact ⟨m + 1, cs', by omega, by go_num, by go_num, hz', hB', by rw [show (m + 1) * 2 = m * 2 + 2 by omega]; exact hP', hG', hsz'⟩
          case measure => simp [intOf]; omega
    · obtain rfl : m = n := by omega
      go_wp2
      go_ret
      refine ⟨rfl, ⟨cs, hz.out, hB.out, ?_⟩, hG.out, hsz.out⟩
      have hl := marksI_len k0 (m * 2)
      have hP' : PreC (marksI k0 (m * 2)) (marksI k0 (m * 2)).length cs := by rw [hl]; exact hP.out
      have := hP'.all
      rwa [hl] at this
theorem markIntA2S_seg (A : Option Addr) (c n lo hi : Nat) (k : Int) (cs : List Value) (w : World) (h : Seg w 56 2 lo hi A n c cs) (h0 : 0 ≤ k) (h1 : k ≤ 1000000000) (hn : n ≤ 10000000) :
    Calls Tryd.prog 18 #[.slice A n c, .int .i64 k] w fun e w' => e = .returned (.int .i64 (k + 2 * n)) ∧ Seg w' 56 2 lo hi A n c (marksI k.toNat (n * 2)) ∧ Touch lo hi w w' := by
  have hk : k = (k.toNat : Int) := by omega
  by_cases hz : n = 0
  · subst hz
    refine (markIntA2S_none A c k w).mono ?_
    rintro e w' ⟨rfl, rfl⟩
    have hcs := h.slice_nil
    subst hcs
    exact ⟨by simp, h, Touch.refl _ _ _⟩
  · obtain ⟨g, cur, rfl, hlo, hhi, hB, h2, h3, h4, h5⟩ := h.block (by omega)
    have H := markIntA2S_some g c n k.toNat cur w hB h4 h2 hn (by omega)
    rw [← hk] at H
    refine H.mono ?_
    rintro e w' ⟨rfl, ⟨cs', hz', hB', hm⟩, hG, hs⟩
    refine ⟨by rw [show ((k.toNat + 2 * n : Nat) : Int) = k + 2 * n by omega], ⟨?_, h.top, by rw [hs]; exact h.fit⟩, Touch.of_grown hG hlo hhi⟩
    have := hB'.own (base := lo) (n := n) (c := c) (size := 2) hlo (by omega) h2 h3 (by omega)
    rwa [hm] at this
theorem heldIntA2S_seg (A : Option Addr) (c n : Nat) (k : Int) (w : World) (hr : Row w A (marksI k.toNat (n * 2))) (h0 : 0 ≤ k) (h1 : k ≤ 1000000000) (hn : n ≤ 10000000) :
    Calls Tryd.prog 19 #[.slice A n c, .int .i64 k] w fun e w' => e = .returned (.int .i64 (k + 2 * n)) ∧ w = w' := by
  have hk : k = (k.toNat : Int) := by omega
  generalize k.toNat = k0 at *
  subst hk
  go_enter Tryd.func19, Tryd.ntmps19
  go_wp2
  go_loop [1, 5] (fun k i => ∃ m : Nat, m ≤ n ∧ i = .int .i64 (m : Int) ∧ k = .int .i64 ((k0 : Int) + 2 * m)) (fun _ i => n - (intOf i).toNat)
  case atStart => exact ⟨0, Nat.zero_le _, rfl, by go_num⟩
  case round =>
    obtain ⟨m, hm, rfl, rfl⟩ := hrel
    by_cases hlt : m < n
    · have hi0 : (0 : Int) ≤ m := by omega
      have hi1 : (m : Int) < n := by omega
      go_wp2
      go_loop [1, 6] (fun k jv => ∃ j : Nat, j ≤ 2 ∧ jv = .int .i64 (j : Int) ∧ k = .int .i64 ((k0 : Int) + 2 * m + j)) (fun _ jv => 2 - (intOf jv).toNat)
      case atStart => exact ⟨0, by omega, rfl, by go_num⟩
      case round =>
        obtain ⟨j, hj, rfl, rfl⟩ := hrel
        by_cases hj2 : j < 2
        · have hj0 : (0 : Int) ≤ j := by omega
          have hj1 : (j : Int) < 2 := by omega
          obtain ⟨ad, hA, hc⟩ := hr.at_ (k := m * 2 + j) (by rw [marksI_len]; omega)
          rw [marksI_get k0 (n * 2) (m * 2 + j) (by omega), show ((k0 + (m * 2 + j) : Nat) : Int) = (k0 : Int) + 2 * m + j by omega] at hc
          subst hA
          have hc' : w.cell? ((ad.add (m * 2)).add j) = some (.int .i64 ((k0 : Int) + 2 * m + j)) := by rw [add_add]; exact hc
          clear hr
          go_wp2
          go_round
          case rel => exact ⟨j + 1, by omega, by go_num, by go_num⟩
          case measure => simp [intOf]; omega
        · obtain rfl : j = 2 := by omega
          go_wp2
          go_round
          case rel => exact ⟨m + 1, by omega, by go_num, by go_num⟩
          case measure => simp [intOf]; omega
    · obtain rfl : m = n := by omega
      go_wp2
      go_ret
      exact ⟨rfl, rfl⟩
/-- What a function hands back: a list of pairs, memory of its own, and a bool. -/
def RetPB (w : World) (r : List Pr × Bool) (e : Ending) (w' : World) : Prop :=
  ∃ A c, e = .returned (.tuple #[.slice A r.1.length c, .bool r.2]) ∧ Seg w' 56 2 w.heap.size w'.heap.size A r.1.length c (pc r.1) ∧ Below w.heap.size w w'
theorem ret_emptyP {w w1 : World} {r : List Pr × Bool} (hr : r = ([], false)) (hb : Below w.heap.size w w1) (e : Ending) (he : e = .returned (.tuple #[.slice (some ⟨w1.heap.size, 0, none⟩) 0 0, .bool false])) : RetPB w r e (w1.alloc (.cells #[] 56)) := by
  subst hr he
  have h : (w1.alloc (.cells #[] 56)).ownsRow w.heap.size 56 2 (.slice (some ⟨w1.heap.size, 0, none⟩) 0 0) 0 (pc []) := World.ownsRow_made w1 #[] 0 hb.size (by unfold maxLen; omega) rfl
  exact ⟨_, 0, rfl, Seg.of_own h, hb.alloc hb.size _⟩
end Go.Proofs.YtapbgmmkkngdoaaDoor

namespace Go.Proofs.YtapbgmmkkngdoaaDoor
open Go.RowKit
theorem infoPp : (Tryd.prog.info? 56).map (fun i => (i.zero, i.size, i.bytes)) = some (some (.agg #[.int .i64 0, .int .i64 0]), 2, 16) := by kernel_rfl
/-- Blocks that hold no pairs are as they were. -/
def KeepP (w w' : World) : Prop := ∀ q t cs, t ≠ 56 → BlockIs w q t cs → BlockIs w' q t cs
theorem KeepP.refl (w : World) : KeepP w w := fun _ _ _ _ h => h
theorem KeepP.trans {a b c : World} (h : KeepP a b) (k : KeepP b c) : KeepP a c := fun q t cs ht hB => k q t cs ht (h q t cs ht hB)
theorem KeepP.of_below {w w' : World} (h : Below w.heap.size w w') : KeepP w w' := fun _ _ _ _ hB => hB.below h
theorem TabR.keepP {B n : Nat} {T : Nat → Nat → Bool} {gs : List Nat} {v : Value} {w w' : World} (h : TabR B n T gs v w) (hk : KeepP w w') : TabR B n T gs v w' := by
  refine ⟨own_to h.1 fun q hq _ _ => ?_, fun i hi => ⟨hk _ _ _ (by decide) (h.2.1 i hi).1, (h.2.1 i hi).2⟩, h.2.2⟩
  obtain ⟨_, _, c1, t1⟩ := own_type h.1 hq
  exact (hk _ _ _ (by decide) t1).trans t1.symm
theorem pc_one (x : Pr) : pc [x] = [.int .i64 x.1, .int .i64 x.2] := rfl
theorem pushP {w0 w : World} {v : Value} {xs : List Pr} (h : w.ownsRow w0.heap.size 56 2 v xs.length (pc xs)) (hb : Below w0.heap.size w0 w) (x : Pr) (hl : xs.length ≤ 1000) :
    ∃ v' w3, (Builtin.append_ #[22, 22] 22 #[v, .slice (some ⟨w.heap.size, 0, none⟩) 1 1]).run Tryd.prog (w.alloc (.cells #[.int .i64 x.1, .int .i64 x.2] 56)) = .ok v' w3 ∧
      w3.ownsRow w0.heap.size 56 2 v' (xs ++ [x]).length (pc (xs ++ [x])) ∧ Below w0.heap.size w0 w3 ∧ KeepP w w3 := by
  obtain ⟨i1, hj, hy0, hy1, hy2⟩ := info_parts infoPp
  have hb1 := hb.alloc hb.size (.cells #[.int .i64 x.1, .int .i64 x.2] 56)
  have hbw : Below w.heap.size w (w.alloc (.cells #[.int .i64 x.1, .int .i64 x.2] 56)) := (Below.refl _ w).alloc (Nat.le_refl _) _
  have h2 := own_blw h hbw
  have hsrc := row_srcS (Row.new w 56 #[.int .i64 x.1, .int .i64 x.2])
  obtain ⟨v', w3, hrun, ho3, hgr, _⟩ := append_at (P := Tryd.prog) (w.alloc (.cells #[.int .i64 x.1, .int .i64 x.2] 56)) w0.heap.size 22 22 56 i1 (.agg #[.int .i64 0, .int .i64 0]) 2 16 Tryd.underlying22 hj hy0 hy1 hy2 rfl (by decide) _ _ _ h2 ⟨w.heap.size, 0, none⟩ 1 1 [.int .i64 x.1, .int .i64 x.2] rfl hsrc (by intro u hu; simp at hu; rcases hu with rfl | rfl <;> rfl) (by omega) (by unfold maxLen; omega) (by omega) hb1.size
  refine ⟨v', w3, hrun, ?_, hb1.grown hgr hb1.size (fun j hj => (h2.lt j hj).1), fun q t cs ht hB => ?_⟩
  · rw [pc_snoc]; simpa [cellsP] using ho3
  · have hB1 := hB.below hbw
    refine (hgr.block q hB1.lt fun e => ?_).trans hB1
    obtain ⟨_, _, c1, t1⟩ := own_type h2 e.symm
    exact type_ne hB1 t1 ht rfl
end Go.Proofs.YtapbgmmkkngdoaaDoor

namespace Go.Proofs.YtapbgmmkkngdoaaDoor
open Go.RowKit
def closR (n : Int) (E : List Pr) : List Pr × Bool := if precB n E then (closL n.toNat E, true) else ([], false)
def reduR (n : Int) (E : List Pr) : List Pr × Bool := if precB n E then (reduL n.toNat E, true) else ([], false)
theorem closR_len (n : Int) (E : List Pr) : (closR n E).1.length ≤ 64 := by
  unfold closR
  split
  · rename_i h
    unfold precB at h
    rw [Bool.and_eq_true] at h
    obtain ⟨h0, h8, _, _⟩ := pairs_out h.1
    have h1 := clsTo_len n.toNat (tabB n.toNat E) n.toNat
    have h3 : n.toNat * n.toNat ≤ 8 * 8 := Nat.mul_le_mul (by omega) (by omega)
    show (clsTo _ _ _).length ≤ _
    omega
  · simp
theorem reduR_len (n : Int) (E : List Pr) : (reduR n E).1.length ≤ 64 := by
  unfold reduR
  split
  · rename_i h
    unfold precB at h
    rw [Bool.and_eq_true] at h
    obtain ⟨h0, h8, _, _⟩ := pairs_out h.1
    have h1 := clsTo_len n.toNat (directB n.toNat E) n.toNat
    have h3 : n.toNat * n.toNat ≤ 8 * 8 := Nat.mul_le_mul (by omega) (by omega)
    show (clsTo _ _ _).length ≤ _
    omega
  · simp
theorem ret_ownPr {w w' : World} {r : List Pr × Bool} {p : List Pr} {v : Value} (hr : r = (p, true)) (ho : w'.ownsRow w.heap.size 56 2 v p.length (pc p)) (hb : Below w.heap.size w w') (e : Ending) (he : e = .returned (.tuple #[v, .bool true])) : RetPB w r e w' := by
  obtain ⟨A, c, rfl, hs⟩ := seg_out ho
  subst hr he
  exact ⟨A, c, rfl, hs, hb⟩
theorem cls_bd (n : Nat) (T : Nat → Nat → Bool) (i j : Nat) (hi : i < n) (hj : j < n) (hn : n ≤ 8) : (clsTo n T i ++ rowTo T i j).length ≤ 1000 := by
  have h1 := clsTo_len n T i
  have h2 := rowTo_len T i j
  have h3 : i * n ≤ 8 * 8 := Nat.mul_le_mul (by omega) hn
  rw [List.length_append]
  omega
theorem prec_nat {n : Int} {E : List Pr} (h : precB n E = true) : ∃ m : Nat, n = (m : Int) ∧ m ≤ 8 ∧ EdsIn m E := by
  unfold precB at h
  rw [Bool.and_eq_true] at h
  obtain ⟨h0, h8, _, hp⟩ := pairs_out h.1
  exact ⟨n.toNat, by omega, by omega, edsIn_of (by rw [Int.toNat_of_nonneg h0]; exact hp)⟩
set_option maxRecDepth 100000 in
set_option maxHeartbeats 1000000 in
theorem l4Through_any {B n : Nat} {E : List Pr} {gs : List Nat} {g cc : Nat} {w : World} (h : TabR B n (tabB n E) gs (.slice (some ⟨g, 0, none⟩) gs.length cc) w) (hgl : gs.length = n) (i j : Nat) (hi : i < n) (hj : j < n) (hn : n ≤ 8) :
    Calls Tryd.prog 49 #[.slice (some ⟨g, 0, none⟩) gs.length cc, .int .i64 (i : Int), .int .i64 (j : Int)] w fun e w' => e = .returned (.bool ((List.range n).any fun k => tabB n E i k && tabB n E k j)) ∧ w = w' := by
  have HTb := Lib.hid h
  have HGL := Lib.hid hgl
  have hgn : gs.length ≤ 8 := by omega
  have HAny : Hid (∀ k, ((List.range (k + 1)).any fun k => tabB n E i k && tabB n E k j) = (((List.range k).any fun k => tabB n E i k && tabB n E k j) || (tabB n E i k && tabB n E k j))) := fun k => by rw [List.range_succ, List.any_append]; simp
  clear h
  go_enter Tryd.func49, Tryd.ntmps49
  go_wp2
  go_loop [7] (fun v => ∃ k : Nat, k ≤ n ∧ v = .int .i64 (k : Int) ∧ Hid (((List.range k).any fun k => tabB n E i k && tabB n E k j) = false)) (fun v => n - (intOf v).toNat)
  case atStart => exact ⟨0, Nat.zero_le _, rfl, rfl⟩
  case round =>
    obtain ⟨k, hk, rfl, HI⟩ := hrel
    by_cases hlt : k < n
    · obtain ⟨g1, c1, q, hV, hq, hcell, _, _, _, hrow⟩ := HTb.out.at_ (i := i) (by rw [HGL.out]; exact hi)
      obtain ⟨g2, c2, q2, hV2, hq2, hcell2, _, _, _, hrow2⟩ := HTb.out.at_ (i := k) (by rw [HGL.out]; exact hlt)
      obtain ⟨rfl, rfl⟩ : g = g1 ∧ cc = c1 := by
        injection hV with e1 _ e3
        injection e1 with e1
        injection e1 with e1 _ _
        exact ⟨e1, e3⟩
      obtain rfl : g = g2 := by
        injection hV2 with e1 _ e3
        injection e1 with e1
        injection e1 with e1 _ _
      have hik := hrow k hlt
      have hkj := hrow2 j hj
      have hkl : (k : Int) < gs.length := by rw [HGL.out]; omega
      have hil : (i : Int) < gs.length := by rw [HGL.out]; omega
      have hi0 : (0 : Int) ≤ i := by omega
      have hj0 : (0 : Int) ≤ j := by omega
      have hk0 : (0 : Int) ≤ k := by omega
      have hjn : (j : Int) < n := by omega
      have hkn : (k : Int) < n := by omega
      have HS : Hid (((List.range (k + 1)).any fun k => tabB n E i k && tabB n E k j) = (tabB n E i k && tabB n E k j)) := by show _ = _; rw [HAny.out, HI.out, Bool.false_or]
      have hkg : k < gs.length := by omega
      clear hrow hrow2 hV hV2 hq hq2 hgl
      cases h1 : tabB n E i k
      · rw [h1] at hik HS
        clear h1
        go_wp2
        go_round
        case rel => exact ⟨k + 1, by omega, by go_num, by rw [HS.out]; rfl⟩
        case measure => simp [intOf]; omega
      · cases h2 : tabB n E k j
        · rw [h1] at hik HS
          rw [h2] at hkj HS
          clear h1 h2
          go_wp2
          go_round
          case rel => exact ⟨k + 1, by omega, by go_num, by rw [HS.out]; rfl⟩
          case measure => simp [intOf]; omega
        · have HT : Hid (((List.range n).any fun k => tabB n E i k && tabB n E k j) = true) := by
            show _ = _
            rw [List.any_eq_true]
            exact ⟨k, List.mem_range.2 hlt, by rw [h1, h2]; rfl⟩
          rw [h1] at hik
          rw [h2] at hkj
          clear h1 h2 HS
          go_wp2
          go_ret
          exact ⟨by rw [HT.out]; rfl, rfl⟩
    · obtain rfl : k = n := by omega
      have HGL2 : ¬ (k : Int) < gs.length := by rw [HGL.out]; omega
      clear hgl
      go_wp2
      go_ret
      exact ⟨by rw [HI.out]; rfl, rfl⟩
set_option maxRecDepth 100000 in
set_option maxHeartbeats 4000000 in
theorem spec_PrecedenceClosure (A : Option Addr) (c : Nat) (n : Int) (E : List Pr) (w : World) (hr : Row w A (pc E)) (hl : E.length ≤ 10000000) :
    Calls Tryd.prog 16 #[.int .i64 n, .slice A E.length c] w (RetPB w (closR n E)) := by
  have HRR : Hid (closR n E = if precB n E then (closL n.toNat E, true) else ([], false)) := rfl
  have hb0 := (Below.refl w.heap.size w).alloc (Nat.le_refl _) (.cells #[] 56)
  have h0 : (w.alloc (.cells #[] 56)).ownsRow w.heap.size 56 2 (.slice (some ⟨w.heap.size, 0, none⟩) 0 0) 0 (pc []) := World.ownsRow_made w #[] 0 (Nat.le_refl _) (by unfold maxLen; omega) rfl
  have H0 := Lib.hid (And.intro hb0 h0)
  have HG := Lib.hid (l4Good_any A c n E _ (hr.below hb0) hl)
  have HR := Lib.hid hr
  clear hb0 h0 hr
  go_enter Tryd.func16, Tryd.ntmps16
  go_wp2_with fail
  refine HG.out.mono ?_
  rintro e w1 ⟨rfl, hb1⟩
  cases hp : precB n E
  · rw [hp] at HRR
    have HB := Lib.hid (H0.out.1.trans (hb1.mono H0.out.1.size))
    have HO := Lib.hid (own_blw H0.out.2 hb1)
    clear hp hb1 H0 HG
    go_wp2
    go_ret2
    obtain ⟨A', c', hA, hs⟩ := seg_out HO.out
    injection hA with e1 _ e3
    subst e1 e3
    rw [show closR n E = ([], false) from HRR.out]
    exact ⟨_, _, rfl, hs, HB.out⟩
  · rw [hp] at HRR
    obtain ⟨m, rfl, hm, hE⟩ := prec_nat hp
    rw [Int.toNat_natCast] at HRR
    have HB1 := Lib.hid (H0.out.1.trans (hb1.mono H0.out.1.size))
    have HO := Lib.hid (own_blw H0.out.2 hb1)
    have HTB := Lib.hid (l4Table_any A c m E w1 (HR.out.below HB1.out) hl hm hE)
    clear hp hb1 H0 HG hE
    go_wp2_with fail
    refine HTB.out.mono ?_
    rintro e w2 ⟨gs, v, rfl, hTb, hgl, hb2⟩
    have HB2 := Lib.hid (HB1.out.trans (hb2.mono HB1.out.size))
    have HO2 := Lib.hid (own_blw HO.out hb2)
    have HTb := Lib.hid (show TabR w1.heap.size m (tabB m E) gs v w2 from hTb)
    have HGL := Lib.hid hgl
    clear hTb hgl hb2 HB1 HO HTB
    go_wp2
    go_loopw [6, 8] (fun u i wr => ∃ (k : Nat) (U : Value), k ≤ m ∧ i = .int .i64 (k : Int) ∧ U = u ∧ Hid (wr.ownsRow w.heap.size 56 2 U (clsTo m (tabB m E) k).length (pc (clsTo m (tabB m E) k))) ∧ Hid (TabR w1.heap.size m (tabB m E) gs v wr) ∧ Hid (Below w.heap.size w wr)) (fun _ i _ => m - (intOf i).toNat)
    case atStart => exact ⟨0, _, Nat.zero_le _, rfl, rfl, HO2.out, HTb.out, HB2.out⟩
    case round =>
      obtain ⟨i, U, hi, rfl, rfl, hO, hTb, hb⟩ := hrel
      clear HO2 HTb HB2
      by_cases hlti : i < m
      · go_wp2
        obtain ⟨wo, rfl⟩ : ∃ wo : World, wo = wr := ⟨_, rfl⟩
        go_loopw [6, 9] (fun u jv wr => ∃ (j : Nat) (U2 : Value), j ≤ m ∧ jv = .int .i64 (j : Int) ∧ U2 = u ∧ Hid (wr.ownsRow w.heap.size 56 2 U2 (clsTo m (tabB m E) i ++ rowTo (tabB m E) i j).length (pc (clsTo m (tabB m E) i ++ rowTo (tabB m E) i j))) ∧ Hid (TabR w1.heap.size m (tabB m E) gs v wr) ∧ Hid (Below w.heap.size w wr)) (fun _ jv _ => m - (intOf jv).toNat)
        case atStart => exact ⟨0, _, Nat.zero_le _, rfl, rfl, by rw [show rowTo (tabB m E) i 0 = [] from rfl, List.append_nil]; exact hO, hTb, hb⟩
        case round =>
          clear hO hTb hb
          obtain ⟨j, U2, hj, rfl, rfl, hO, hTb, hb⟩ := hrel
          by_cases hltj : j < m
          · obtain ⟨g, cc, q, hV, hq, hcell, hBq, hqB, hgq, hrow⟩ := hTb.out.at_ (i := i) (by rw [HGL.out]; exact hlti)
            subst hV
            have hij := hrow j hltj
            have hi0 : (0 : Int) ≤ i := by omega
            have hi1 : (i : Int) < gs.length := by rw [HGL.out]; omega
            have hj0 : (0 : Int) ≤ j := by omega
            have hj1 : (j : Int) < m := by omega
            obtain ⟨v', w3, hrun, hO3, hb3, hk3⟩ := pushP (w0 := w) hO.out hb.out ((i : Int), (j : Int)) (cls_bd m (tabB m E) i j hlti hltj hm)
            have HRUN := Lib.hid hrun
            have HYES := Lib.hid (And.intro hO3 (And.intro (hTb.out.keepP hk3) hb3))
            have HRW := Lib.hid (rowTo_succ (tabB m E) i j)
            rw [List.append_assoc] at HYES
            clear hrun hO3 hb3 hk3 hrow hBq hq hgq
            cases hc : tabB m E i j
            · rw [hc] at hij HRW
              rw [if_neg (by decide)] at HRW
              clear hc HYES HRUN
              go_wp2
              go_roundw
              case rel => exact ⟨j + 1, _, by omega, by go_num, rfl, by rw [HRW.out]; exact hO, hTb, hb⟩
              case measure => simp [intOf]; omega
            · rw [hc] at hij HRW
              rw [if_pos rfl] at HRW
              clear hc hO hTb hb
              go_wp2_with (at_builtin; refine wpList_app rfl _ _ _ rfl _ _ _ rfl rfl HRUN.out ?_; clear HRUN)
              go_roundw
              case rel => exact ⟨j + 1, _, by omega, by go_num, rfl, by rw [HRW.out]; exact HYES.out.1, HYES.out.2.1, HYES.out.2.2⟩
              case measure => simp [intOf]; omega
          · obtain rfl : j = m := by omega
            go_wp2
            go_roundw
            case rel => exact ⟨i + 1, _, by omega, by go_num, rfl, by rw [clsTo_succ]; exact hO, hTb, hb⟩
            case measure => simp [intOf]; omega
      · obtain rfl : i = m := by omega
        go_wp2
        go_ret2
        exact ret_ownPr (p := closL i E) HRR.out hO.out hb.out _ rfl
set_option maxRecDepth 100000 in
set_option maxHeartbeats 4000000 in
theorem spec_PrecedenceReduction (A : Option Addr) (c : Nat) (n : Int) (E : List Pr) (w : World) (hr : Row w A (pc E)) (hl : E.length ≤ 10000000) :
    Calls Tryd.prog 20 #[.int .i64 n, .slice A E.length c] w (RetPB w (reduR n E)) := by
  have HRR : Hid (reduR n E = if precB n E then (reduL n.toNat E, true) else ([], false)) := rfl
  have hb0 := (Below.refl w.heap.size w).alloc (Nat.le_refl _) (.cells #[] 56)
  have h0 : (w.alloc (.cells #[] 56)).ownsRow w.heap.size 56 2 (.slice (some ⟨w.heap.size, 0, none⟩) 0 0) 0 (pc []) := World.ownsRow_made w #[] 0 (Nat.le_refl _) (by unfold maxLen; omega) rfl
  have H0 := Lib.hid (And.intro hb0 h0)
  have HG := Lib.hid (l4Good_any A c n E _ (hr.below hb0) hl)
  have HR := Lib.hid hr
  clear hb0 h0 hr
  go_enter Tryd.func20, Tryd.ntmps20
  go_wp2_with fail
  refine HG.out.mono ?_
  rintro e w1 ⟨rfl, hb1⟩
  cases hp : precB n E
  · rw [hp] at HRR
    have HB := Lib.hid (H0.out.1.trans (hb1.mono H0.out.1.size))
    have HO := Lib.hid (own_blw H0.out.2 hb1)
    clear hp hb1 H0 HG
    go_wp2
    go_ret2
    obtain ⟨A', c', hA, hs⟩ := seg_out HO.out
    injection hA with e1 _ e3
    subst e1 e3
    rw [show reduR n E = ([], false) from HRR.out]
    exact ⟨_, _, rfl, hs, HB.out⟩
  · rw [hp] at HRR
    obtain ⟨m, rfl, hm, hE⟩ := prec_nat hp
    rw [Int.toNat_natCast] at HRR
    have HB1 := Lib.hid (H0.out.1.trans (hb1.mono H0.out.1.size))
    have HO := Lib.hid (own_blw H0.out.2 hb1)
    have HTB := Lib.hid (l4Table_any A c m E w1 (HR.out.below HB1.out) hl hm hE)
    clear hp hb1 H0 HG hE
    go_wp2_with fail
    refine HTB.out.mono ?_
    rintro e w2 ⟨gs, v, rfl, hTb, hgl, hb2⟩
    have HB2 := Lib.hid (HB1.out.trans (hb2.mono HB1.out.size))
    have HO2 := Lib.hid (own_blw HO.out hb2)
    have HTb := Lib.hid (show TabR w1.heap.size m (tabB m E) gs v w2 from hTb)
    have HGL := Lib.hid hgl
    clear hTb hgl hb2 HB1 HO HTB
    go_wp2
    go_loopw [6, 8] (fun u i wr => ∃ (k : Nat) (U : Value), k ≤ m ∧ i = .int .i64 (k : Int) ∧ U = u ∧ Hid (wr.ownsRow w.heap.size 56 2 U (clsTo m (directB m E) k).length (pc (clsTo m (directB m E) k))) ∧ Hid (TabR w1.heap.size m (tabB m E) gs v wr) ∧ Hid (Below w.heap.size w wr)) (fun _ i _ => m - (intOf i).toNat)
    case atStart => exact ⟨0, _, Nat.zero_le _, rfl, rfl, HO2.out, HTb.out, HB2.out⟩
    case round =>
      obtain ⟨i, U, hi, rfl, rfl, hO, hTb, hb⟩ := hrel
      clear HO2 HTb HB2
      by_cases hlti : i < m
      · go_wp2
        obtain ⟨wo, rfl⟩ : ∃ wo : World, wo = wr := ⟨_, rfl⟩
        go_loopw [6, 9] (fun u jv wr => ∃ (j : Nat) (U2 : Value), j ≤ m ∧ jv = .int .i64 (j : Int) ∧ U2 = u ∧ Hid (wr.ownsRow w.heap.size 56 2 U2 (clsTo m (directB m E) i ++ rowTo (directB m E) i j).length (pc (clsTo m (directB m E) i ++ rowTo (directB m E) i j))) ∧ Hid (TabR w1.heap.size m (tabB m E) gs v wr) ∧ Hid (Below w.heap.size w wr)) (fun _ jv _ => m - (intOf jv).toNat)
        case atStart => exact ⟨0, _, Nat.zero_le _, rfl, rfl, by rw [show rowTo (directB m E) i 0 = [] from rfl, List.append_nil]; exact hO, hTb, hb⟩
        case round =>
          clear hO hTb hb
          obtain ⟨j, U2, hj, rfl, rfl, hO, hTb, hb⟩ := hrel
          by_cases hltj : j < m
          · obtain ⟨g, cc, q, hV, hq, hcell, hBq, hqB, hgq, hrow⟩ := hTb.out.at_ (i := i) (by rw [HGL.out]; exact hlti)
            subst hV
            have hij := hrow j hltj
            have hi0 : (0 : Int) ≤ i := by omega
            have hi1 : (i : Int) < gs.length := by rw [HGL.out]; omega
            have hj0 : (0 : Int) ≤ j := by omega
            have hj1 : (j : Int) < m := by omega
            obtain ⟨v', w3, hrun, hO3, hb3, hk3⟩ := pushP (w0 := w) hO.out hb.out ((i : Int), (j : Int)) (cls_bd m (directB m E) i j hlti hltj hm)
            have HRUN := Lib.hid hrun
            have HYES := Lib.hid (And.intro hO3 (And.intro (hTb.out.keepP hk3) hb3))
            have HRW := Lib.hid (rowTo_succ (directB m E) i j)
            rw [List.append_assoc] at HYES
            have HTH := Lib.hid (l4Through_any hTb.out HGL.out i j hlti hltj hm)
            have HD : Hid (directB m E i j = (tabB m E i j && !((List.range m).any fun k => tabB m E i k && tabB m E k j))) := rfl
            clear hrun hO3 hb3 hk3 hrow hBq hq hgq
            cases hc : tabB m E i j
            · rw [hc] at hij HD
              rw [show directB m E i j = false from HD.out, if_neg (by decide)] at HRW
              clear hc HYES HRUN HD HTH
              go_wp2
              go_roundw
              case rel => exact ⟨j + 1, _, by omega, by go_num, rfl, by rw [HRW.out]; exact hO, hTb, hb⟩
              case measure => simp [intOf]; omega
            · rw [hc] at hij HD
              generalize ((List.range m).any fun k => tabB m E i k && tabB m E k j) = th at *
              cases th
              · rw [show directB m E i j = true from HD.out, if_pos rfl] at HRW
                clear hc hO hTb hb HD
                go_wp2_with (first | (at_builtin; refine wpList_app rfl _ _ _ rfl _ _ _ rfl rfl HRUN.out ?_; clear HRUN) | (go_at_call 49; refine HTH.out.mono ?_; rintro e _ ⟨rfl, rfl⟩))
                go_roundw
                case rel => exact ⟨j + 1, _, by omega, by go_num, rfl, by rw [HRW.out]; exact HYES.out.1, HYES.out.2.1, HYES.out.2.2⟩
                case measure => simp [intOf]; omega
              · rw [show directB m E i j = false from HD.out, if_neg (by decide)] at HRW
                clear hc HYES HRUN HD
                go_wp2_with fail
                refine HTH.out.mono ?_
                rintro e _ ⟨rfl, rfl⟩
                go_wp2
                go_roundw
                case rel => exact ⟨j + 1, _, by omega, by go_num, rfl, by rw [HRW.out]; exact hO, hTb, hb⟩
                case measure => simp [intOf]; omega
          · obtain rfl : j = m := by omega
            go_wp2
            go_roundw
            case rel => exact ⟨i + 1, _, by omega, by go_num, rfl, by rw [clsTo_succ]; exact hO, hTb, hb⟩
            case measure => simp [intOf]; omega
      · obtain rfl : i = m := by omega
        go_wp2
        go_ret2
        exact ret_ownPr (p := reduL i E) HRR.out hO.out hb.out _ rfl
end Go.Proofs.YtapbgmmkkngdoaaDoor

namespace Go.Proofs.YtapbgmmkkngdoaaDoor
open Go.RowKit
set_option maxRecDepth 100000 in
set_option maxHeartbeats 1000000 in
theorem comesBefore_any (n : Int) (B : Nat → Nat) (hB8 : ∀ j, j < 8 → B j < 256) (i j : Nat) (hi : i < 8) (hj : j < 8) (w : World) :
    Calls Tryd.prog 77 #[.agg (precC n B), .int .i64 (i : Int), .int .i64 (j : Int)] w fun e w' => e = .returned (.bool ((B j).testBit i)) ∧ Below w.heap.size w w' := by
  have hb := (Below.refl w.heap.size w).alloc (Nat.le_refl _) (.cells (precC n B) 62)
  have hc := ((BlockIs.new w 62 (precC n B)).cell (1 + j)).trans (precC_at n B hj)
  have HH := Lib.hid (has_any (B j) i (hB8 j hj) hi)
  have HB := Lib.hid hb
  have hj0 : (0 : Int) ≤ j := by omega
  have hj1 : (j : Int) < 8 := by omega
  clear hb
  go_enter Tryd.func77, Tryd.ntmps77
  go_wp2_with fail
  refine (HH.out _).mono ?_
  rintro e _ ⟨rfl, rfl⟩
  go_wp2
  go_ret
  exact ⟨rfl, HB.out⟩
def bitT (B : Nat → Nat) (i j : Nat) : Bool := (B j).testBit i
theorem clsTo_congr {n : Nat} {T U : Nat → Nat → Bool} (h : ∀ i j, i < n → j < n → T i j = U i j) : ∀ k, k ≤ n → clsTo n T k = clsTo n U k
  | 0, _ => rfl
  | k + 1, hk => by
    rw [clsTo_succ, clsTo_succ, clsTo_congr h k (by omega)]
    congr 1
    have : ∀ m, m ≤ n → rowTo T k m = rowTo U k m := by
      intro m
      induction m with
      | zero => intro _; rfl
      | succ m ih =>
        intro hm
        rw [rowTo_succ, rowTo_succ, ih (by omega), h k m (by omega) (by omega)]
    exact this n (Nat.le_refl _)
theorem bitT_tab (m : Nat) (E : List Ed) : clsTo m (bitT (befN m (tabB m E))) m = closL m E :=
  clsTo_congr (fun i j hi _ => by unfold bitT; rw [bef_bit, decide_eq_true hi, Bool.true_and]) m (Nat.le_refl _)
set_option maxRecDepth 100000 in
set_option maxHeartbeats 4000000 in
theorem pairs_any (m : Nat) (hm : m ≤ 8) (B : Nat → Nat) (hB8 : ∀ j, j < 8 → B j < 256) (w : World) :
    Calls Tryd.prog 48 #[.agg (precC (m : Int) B)] w fun e w' => ∃ v, e = .returned v ∧ w'.ownsRow w.heap.size 56 2 v (clsTo m (bitT B) m).length (pc (clsTo m (bitT B) m)) ∧ Below w.heap.size w w' := by
  have hb1 := (Below.refl w.heap.size w).alloc (Nat.le_refl _) (.cells (precC (m : Int) B) 62)
  have hB1 := BlockIs.new w 62 (precC (m : Int) B)
  have hb2 := hb1.alloc hb1.size (.cells #[] 56)
  have hB2 := hB1.below ((Below.refl _ _).alloc (Nat.le_refl _) (.cells #[] 56))
  have h0 : ((w.alloc (.cells (precC (m : Int) B) 62)).alloc (.cells #[] 56)).ownsRow w.heap.size 56 2 (.slice (some ⟨(w.alloc (.cells (precC (m : Int) B) 62)).heap.size, 0, none⟩) 0 0) 0 (pc []) := World.ownsRow_made _ #[] 0 hb1.size (by unfold maxLen; omega) rfl
  rw [World.size_alloc] at h0
  have H0 := Lib.hid (And.intro h0 (And.intro hB2 hb2))
  have hc0 := hB1.cell 0
  clear hb1 hB1 hb2 hB2 h0 hc0
  have ep : (precC (m : Int) B) = #[.int .i64 m, .int .u64 (B 0 : Int), .int .u64 (B 1 : Int), .int .u64 (B 2 : Int), .int .u64 (B 3 : Int), .int .u64 (B 4 : Int), .int .u64 (B 5 : Int), .int .u64 (B 6 : Int), .int .u64 (B 7 : Int)] := rfl
  rw [ep]
  clear ep
  go_enter Tryd.func48, Tryd.ntmps48
  go_wp2
  go_loopw [3, 9] (fun u i wr => ∃ (k : Nat) (U : Value), k ≤ m ∧ i = .int .i64 (k : Int) ∧ U = u ∧ Hid (wr.ownsRow w.heap.size 56 2 U (clsTo m (bitT B) k).length (pc (clsTo m (bitT B) k)) ∧ BlockIs wr w.heap.size 62 (precC (m : Int) B) ∧ Below w.heap.size w wr)) (fun _ i _ => m - (intOf i).toNat)
  case atStart => exact ⟨0, _, Nat.zero_le _, rfl, rfl, H0.out⟩
  case round =>
    obtain ⟨i, U, hi, rfl, rfl, HO⟩ := hrel
    clear H0
    by_cases hlti : i < m
    · have hc0 := (HO.out.2.1.cell 0).trans (precC_0 (m : Int) B)
      go_wp2
      clear hc0
      obtain ⟨wo, rfl⟩ : ∃ wo : World, wo = wr := ⟨_, rfl⟩
      go_loopw [3, 14] (fun u jv wr => ∃ (j : Nat) (U2 : Value), j ≤ m ∧ jv = .int .i64 (j : Int) ∧ U2 = u ∧ Hid (wr.ownsRow w.heap.size 56 2 U2 (clsTo m (bitT B) i ++ rowTo (bitT B) i j).length (pc (clsTo m (bitT B) i ++ rowTo (bitT B) i j)) ∧ BlockIs wr w.heap.size 62 (precC (m : Int) B) ∧ Below w.heap.size w wr)) (fun _ jv _ => m - (intOf jv).toNat)
      case atStart => exact ⟨0, _, Nat.zero_le _, rfl, rfl, by rw [show rowTo (bitT B) i 0 = [] from rfl, List.append_nil]; exact HO.out⟩
      case round =>
        clear HO
        obtain ⟨j, U2, hj, rfl, rfl, HO⟩ := hrel
        by_cases hltj : j < m
        · have hBk := HO.out.2.1
          have c0 := hBk.cell 0
          have c1 := hBk.cell 1
          have c2 := hBk.cell 2
          have c3 := hBk.cell 3
          have c4 := hBk.cell 4
          have c5 := hBk.cell 5
          have c6 := hBk.cell 6
          have c7 := hBk.cell 7
          have c8 := hBk.cell 8
          simp only [precC, List.getElem?_toArray, List.getElem?_cons_zero, List.getElem?_cons_succ] at c0 c1 c2 c3 c4 c5 c6 c7 c8
          have HCB := Lib.hid (comesBefore_any (m : Int) B hB8 i j (by omega) (by omega) wr)
          have HRW := Lib.hid (rowTo_succ (bitT B) i j)
          have HBT : Hid (bitT B i j = (B j).testBit i) := rfl
          clear hBk
          go_wp2_with fail
          refine HCB.out.mono ?_
          rintro e w5 ⟨rfl, hb5⟩
          clear c0 c1 c2 c3 c4 c5 c6 c7 c8 HCB
          have HO5 := Lib.hid (And.intro (own_blw HO.out.1 hb5) (And.intro (HO.out.2.1.below hb5) (HO.out.2.2.trans (hb5.mono HO.out.2.2.size))))
          clear HO hb5
          cases hc : (B j).testBit i
          · rw [show bitT B i j = false from HBT.out.trans hc, if_neg (by decide)] at HRW
            clear hc
            go_wp2
            go_roundw
            case rel => exact ⟨j + 1, _, by omega, by go_num, rfl, by rw [HRW.out]; exact HO5.out⟩
            case measure => simp [intOf]; omega
          · rw [show bitT B i j = true from HBT.out.trans hc, if_pos rfl] at HRW
            obtain ⟨v', w3, hrun, hO3, hb3, hk3⟩ := pushP (w0 := w) HO5.out.1 HO5.out.2.2 ((i : Int), (j : Int)) (cls_bd m (bitT B) i j hlti hltj hm)
            have HRUN := Lib.hid hrun
            have HYES := Lib.hid (And.intro hO3 (And.intro (hk3 _ _ _ (by decide) HO5.out.2.1) hb3))
            rw [List.append_assoc] at HYES
            clear hc hrun hO3 hb3 hk3 HO5
            go_wp2_with (at_builtin; refine wpList_app rfl _ _ _ rfl _ _ _ rfl rfl HRUN.out ?_; clear HRUN)
            go_roundw
            case rel => exact ⟨j + 1, _, by omega, by go_num, rfl, by rw [HRW.out]; exact HYES.out⟩
            case measure => simp [intOf]; omega
        · obtain rfl : j = m := by omega
          go_wp2
          go_roundw
          case rel => exact ⟨i + 1, _, by omega, by go_num, rfl, by rw [clsTo_succ]; exact HO.out⟩
          case measure => simp [intOf]; omega
    · obtain rfl : i = m := by omega
      go_wp2
      go_ret
      exact ⟨U, rfl, HO.out.1, HO.out.2.2⟩
set_option maxRecDepth 100000 in
set_option maxHeartbeats 1000000 in
theorem impl_PrecedenceClosure (A : Option Addr) (c : Nat) (n : Int) (E : List Pr) (w : World) (hr : Row w A (pc E)) (hl : E.length ≤ 10000000) (hT : TzTab w) :
    Calls Tryd.prog 17 #[.int .i64 n, .slice A E.length c] w (RetPB w (closR n E)) := by
  have HRR : Hid (closR n E = if precB n E then (closL n.toNat E, true) else ([], false)) := rfl
  have H := Lib.hid (precedenceOf_any A c n E w hr hl hT)
  go_enter Tryd.func17, Tryd.ntmps17
  go_wp2_with fail
  refine H.out.mono ?_
  rintro e w1 ⟨hb, ⟨hp, m, rfl, hm, _, _, rfl⟩ | ⟨hp, rfl⟩⟩
  · rw [hp, Int.toNat_natCast] at HRR
    have HP := Lib.hid (pairs_any m hm (befN m (tabB m E)) (fun j _ => bef_lt hm _ j) (w1.alloc (.cells (precC (m : Int) (befN m (tabB m E))) 62)))
    rw [bitT_tab] at HP
    have HB := Lib.hid (hb.alloc hb.size (.cells (precC (m : Int) (befN m (tabB m E))) 62))
    clear hp hb
    unfold precC
    unfold precC at HP HB
    go_wp2_with fail
    refine HP.out.mono ?_
    rintro e w2 ⟨v, rfl, ho, hb2⟩
    have HO := Lib.hid (And.intro (own_low ho HB.out.size) (HB.out.trans (hb2.mono HB.out.size)))
    clear ho hb2 HB HP
    go_wp2
    go_ret2
    exact ret_ownPr (p := closL m E) HRR.out HO.out.1 HO.out.2 _ rfl
  · rw [hp] at HRR
    have HB := Lib.hid hb
    clear hp hb
    unfold precZ
    go_wp2
    go_ret2
    refine ret_emptyP HRR.out (HB.out.alloc HB.out.size _) _ ?_
    rw [World.size_alloc]
    rfl
end Go.Proofs.YtapbgmmkkngdoaaDoor

namespace Go.Proofs.YtapbgmmkkngdoaaDoor
/-- The greatest of some, 0 at least. -/
def mostTo (g : Nat → Int) (p : Nat → Bool) (k : Nat) : Int := (List.range k).foldl (fun a i => if p i then max a (g i) else a) 0
theorem mostTo_succ (g : Nat → Int) (p : Nat → Bool) (k : Nat) : mostTo g p (k + 1) = if p k then max (mostTo g p k) (g k) else mostTo g p k := by
  unfold mostTo; rw [List.range_succ, List.foldl_append]; rfl
def mostL (g : Nat → Int) (l : List Nat) : Int := l.foldl (fun a i => max a (g i)) 0
theorem mostL_snoc (g : Nat → Int) (l : List Nat) (k : Nat) : mostL g (l ++ [k]) = max (mostL g l) (g k) := by unfold mostL; simp
theorem mostL_filter (g : Nat → Int) (p : Nat → Bool) : ∀ k, mostL g ((List.range k).filter p) = mostTo g p k
  | 0 => rfl
  | k + 1 => by
    rw [mostTo_succ, List.range_succ, List.filter_append, ← mostL_filter g p k]
    cases h : p k
    · rw [List.filter_cons_of_neg (by simp [h])]; simp
    · rw [List.filter_cons_of_pos (by simp [h]), if_pos rfl]
      exact mostL_snoc g _ k
theorem most_bd {g : Nat → Int} {p : Nat → Bool} {m : Int} (hm : 0 ≤ m) : ∀ k, (∀ i, i < k → p i = true → g i ≤ m) → 0 ≤ mostTo g p k ∧ mostTo g p k ≤ m
  | 0, _ => ⟨Int.le_refl _, hm⟩
  | k + 1, h => by
    have ih := most_bd hm k fun i hi => h i (by omega)
    rw [mostTo_succ]
    split
    · rename_i hp
      have := h k (by omega) hp
      omega
    · exact ih
theorem mostL_bd {g : Nat → Int} {m : Int} (hm : 0 ≤ m) : ∀ l : List Nat, (∀ i ∈ l, g i ≤ m) → 0 ≤ mostL g l ∧ mostL g l ≤ m := by
  intro l h
  have key : ∀ (l : List Nat) (a : Int), 0 ≤ a → a ≤ m → (∀ i ∈ l, g i ≤ m) → 0 ≤ l.foldl (fun a i => max a (g i)) a ∧ l.foldl (fun a i => max a (g i)) a ≤ m := by
    intro l
    induction l with
    | nil => intro a h0 h1 _; exact ⟨h0, h1⟩
    | cons x l ih =>
      intro a h0 h1 hl
      have := hl x List.mem_cons_self
      exact ih (max a (g x)) (by omega) (by omega) fun i hi => hl i (List.mem_cons_of_mem _ hi)
  exact key l 0 (Int.le_refl _) hm h
/-- The tail of a job, f jobs deep. -/
def tailF (js : List J) (T : Nat → Nat → Bool) (n : Nat) : Nat → Nat → Int
  | 0, _ => 0
  | f + 1, j => (js.getD j j0).t + mostTo (fun i => tailF js T n f i) (T j) n
theorem tailF_bd {js : List J} (hok : ∀ j ∈ js, okJ j = true) (T : Nat → Nat → Bool) : ∀ (f j : Nat), j < js.length → 0 ≤ tailF js T js.length f j ∧ tailF js T js.length f j ≤ 50 * (f : Int)
  | 0, _, _ => by simp [tailF]
  | f + 1, j, hj => by
    have h1 := most_bd (g := fun i => tailF js T js.length f i) (p := T j) (m := 50 * (f : Int)) (by omega) js.length (fun i hi _ => (tailF_bd hok T f i hi).2)
    have h2 := okJ_out (hok _ (List.getElem_mem hj))
    show 0 ≤ (js.getD j j0).t + mostTo (fun i => tailF js T js.length f i) (T j) js.length ∧ (js.getD j j0).t + mostTo (fun i => tailF js T js.length f i) (T j) js.length ≤ _
    rw [getD_at js j0 hj]
    omega
/-- How many jobs are behind one. -/
def cntS (n : Nat) (T : Nat → Nat → Bool) (j : Nat) : Nat := (List.range n).countP fun i => T j i
theorem cntS_le (n : Nat) (T : Nat → Nat → Bool) (j : Nat) : cntS n T j ≤ n := by
  have := List.countP_le_length (p := fun i => T j i) (l := List.range n)
  rwa [List.length_range] at this
theorem cntS_lt {n : Nat} {E : List Ed} (hirr : irrB n E n = true) {j i : Nat} (hi : i < n) (h : tabB n E j i = true) : cntS n (tabB n E) i < cntS n (tabB n E) j := by
  refine countP_lt' (fun x hx => tabTo_trans E n j i x hi h hx) (i := i) ?_ h (List.range n) (List.mem_range.2 hi)
  unfold irrB at hirr
  have := List.all_eq_true.1 hirr i (List.mem_range.2 hi)
  show tabB n E i i = false
  simpa using this
theorem range_lt : ∀ n, n < 9 → (List.range 8).filter (fun i => decide (i < n)) = List.range n := by decide
theorem memB_bits {n : Nat} (hn : n ≤ 8) (p : Nat → Bool) : memB (bitsN n p) = (List.range n).filter p := by
  unfold memB
  rw [← range_lt n (by omega), List.filter_filter]
  refine List.filter_congr fun i _ => ?_
  rw [bits_bit, Bool.and_comm]
def tailsL (js : List J) (E : List Ed) : List Int := (List.range js.length).map fun j => tailF js (tabB js.length E) js.length 9 j
theorem tailsL_len (js : List J) (E : List Ed) : (tailsL js E).length = js.length := by unfold tailsL; simp
end Go.Proofs.YtapbgmmkkngdoaaDoor

namespace Go.Proofs.YtapbgmmkkngdoaaDoor
open Go.RowKit

/-- A block is a map that holds just these keys with these values, in the order in which they came. -/
def MapOf (w : World) (g : Nat) (kvs : List (Int × Value)) : Prop :=
  ∃ es clock, w.heap[g]? = some (.map es clock) ∧ es.toList.map (fun e => (e.key, e.val)) = kvs.map fun p => (Value.int .i64 p.1, p.2)
def getM : List (Int × Value) → Int → Option Value
  | [], _ => none
  | p :: kvs, x => if p.1 = x then some p.2 else getM kvs x
theorem find_getM (x : Int) : ∀ (es : List MapEntry) (kvs : List (Int × Value)) (i : Nat), es.map (fun e => (e.key, e.val)) = kvs.map (fun p => (Value.int .i64 p.1, p.2)) → ∃ r, Instr.findNow (.int .i64) (.int .i64 x) es i = some r ∧ r.map (·.2) = getM kvs x
  | [], [], _, _ => ⟨none, rfl, rfl⟩
  | [], _ :: _, _, h => by cases h
  | _ :: _, [], _, h => by cases h
  | e :: es, p :: kvs, i, h => by
    simp only [List.map_cons, List.cons.injEq, Prod.mk.injEq] at h
    obtain ⟨⟨hk, hv⟩, ht⟩ := h
    by_cases hx : p.1 = x
    · refine ⟨some (i, e.val), ?_, ?_⟩
      · simp [Instr.findNow, Instr.sameNow, hk, hx]
      · simp [getM, hx, hv]
    · obtain ⟨r, h1, h2⟩ := find_getM x es kvs (i + 1) ht
      refine ⟨r, ?_, ?_⟩
      · have hne : (x == p.1) = false := by simp; exact fun e => hx e.symm
        simp [Instr.findNow, Instr.sameNow, hk, h1, hne]
      · simp [getM, hx, h2]
section
variable {P : Program} {w w' : World} {g : Nat} {kvs : List (Int × Value)} {t k e : TypeId}
theorem MapOf.lt (h : MapOf w g kvs) : g < w.heap.size := by
  obtain ⟨es, clock, hb, _⟩ := h
  exact (Array.getElem?_eq_some_iff.1 hb).1
theorem MapOf.new (w : World) : MapOf (w.alloc (.map #[] 0)) w.heap.size [] := ⟨#[], 0, heap_alloc_new w _, rfl⟩
theorem MapOf.below (h : MapOf w g kvs) (hb : Below w.heap.size w w') : MapOf w' g kvs := by
  have hlt := h.lt
  obtain ⟨es, clock, h1, h2⟩ := h
  exact ⟨es, clock, (hb.block g hlt).trans h1, h2⟩
theorem MapOf.drew (h : MapOf w g kvs) : MapOf w.drew g kvs := h
theorem MapOf.grown {r : Option Nat} (h : MapOf w g kvs) (hg : w.grownBy w' r) (hne : some g ≠ r) : MapOf w' g kvs := by
  have hlt := h.lt
  obtain ⟨es, clock, h1, h2⟩ := h
  exact ⟨es, clock, (hg.block g hlt hne).trans h1, h2⟩
theorem MapOf.look (h : MapOf w g kvs) (ht : P.underlying t = some (.map k e)) (hk : P.underlying k = some (.int .i64)) (x : Int) {z : Value} (hz : (zeroValue e).run P w = .ok z w) :
    (Instr.lookup t (.map (some g)) (.int .i64 x) false).run P w = .ok ((getM kvs x).getD z) w := by
  obtain ⟨es, clock, hb, he⟩ := h
  obtain ⟨r, h1, h2⟩ := find_getM x es.toList kvs 0 he
  have h3 := MapKept.run_findKey (P := P) (w := w) hk h1
  have h4 := MapKept.run_checkKey (P := P) (w := w) (kt := k) (k := .int .i64 x) hk (by simp [MapKept.IsKey]) es.isEmpty 9999
  rw [← h2]
  cases r with
  | none => simp [Instr.lookup, run_underlying ht, MapKept.run_getObj_map hb, h4, h3, hz, Result.andThen]
  | some r => simp [Instr.lookup, run_underlying ht, MapKept.run_getObj_map hb, h4, h3, Result.andThen]
theorem MapOf.look_ok (h : MapOf w g kvs) (ht : P.underlying t = some (.map k e)) (hk : P.underlying k = some (.int .i64)) (x : Int) {z : Value} (hz : (zeroValue e).run P w = .ok z w) :
    (Instr.lookup t (.map (some g)) (.int .i64 x) true).run P w = .ok (.tuple #[(getM kvs x).getD z, .bool (getM kvs x).isSome]) w := by
  obtain ⟨es, clock, hb, he⟩ := h
  obtain ⟨r, h1, h2⟩ := find_getM x es.toList kvs 0 he
  have h3 := MapKept.run_findKey (P := P) (w := w) hk h1
  have h4 := MapKept.run_checkKey (P := P) (w := w) (kt := k) (k := .int .i64 x) hk (by simp [MapKept.IsKey]) es.isEmpty 9999
  rw [← h2]
  cases r with
  | none => simp [Instr.lookup, run_underlying ht, MapKept.run_getObj_map hb, h4, h3, hz, Result.andThen]
  | some r => simp [Instr.lookup, run_underlying ht, MapKept.run_getObj_map hb, h4, h3, Result.andThen]
theorem MapOf.put (h : MapOf w g kvs) (ht : P.underlying t = some (.map k e)) (hk : P.underlying k = some (.int .i64)) (x : Int) (v : Value) (hx : getM kvs x = none) :
    ∃ w', (Instr.mapUpdate t (.map (some g)) (.int .i64 x) v).run P w = .ok () w' ∧ MapOf w' g (kvs ++ [(x, v)]) ∧ w.grownBy w' (some g) ∧ w'.heap.size = w.heap.size := by
  obtain ⟨es, clock, hb, he⟩ := h
  obtain ⟨r, h1, h2⟩ := find_getM x es.toList kvs 0 he
  have h3 := MapKept.run_findKey (P := P) (w := w) hk h1
  have h4 := MapKept.run_checkKey (P := P) (w := w) (kt := k) (k := .int .i64 x) hk (by simp [MapKept.IsKey]) false 9999
  cases r with
  | some r => rw [hx] at h2; cases h2
  | none =>
    refine ⟨{ w with heap := w.heap.setIfInBounds g (.map (es.push { key := .int .i64 x, val := v, born := clock }) (clock + 1)) }, by simp [Instr.mapUpdate, run_underlying ht, MapKept.run_getObj_map hb, h4, h3, MapKept.run_setObj_map _ hb, Result.andThen], ⟨_, _, (MapKept.heap_set hb).1, ?_⟩, ⟨rfl, rfl, rfl, by simp, fun i _ hi => (MapKept.heap_set hb).2 i (fun e => hi (by rw [e]))⟩, by simp⟩
    simp [he]
theorem run_makeMap_hint (ht : P.underlying t = some (.map k e)) (q : IntKind) (n : Int) (w : World) : (Instr.makeMap t (some (.int q n))).run P w = .ok (.map (some w.heap.size)) (w.alloc (.map #[] 0)) := by
  simp [Instr.makeMap, run_underlying ht, asInt, asIntOf, Result.andThen]
end
end Go.Proofs.YtapbgmmkkngdoaaDoor

namespace Go.Proofs.YtapbgmmkkngdoaaDoor
open Go.RowKit

def hasI (xs : List Int) (x : Int) : Bool := decide (x ∈ xs)
theorem hasI_yes {xs : List Int} {x : Int} (h : x ∈ xs) : hasI xs x = true := decide_eq_true h
theorem hasI_no {xs : List Int} {x : Int} (h : x ∉ xs) : hasI xs x = false := decide_eq_false h
theorem hasI_out {xs : List Int} {x : Int} (h : hasI xs x = true) : x ∈ xs := of_decide_eq_true h
theorem hasI_not {xs : List Int} {x : Int} (h : hasI xs x = false) : x ∉ xs := of_decide_eq_false h
theorem notTo_step {xs : List Int} {x : Int} {k : Nat} (h : ∀ i (hi : i < xs.length), i < k → xs[i] ≠ x) (hk : k < xs.length) (ho : xs[k] ≠ x) : ∀ i (hi : i < xs.length), i < k + 1 → xs[i] ≠ x := by
  intro i hi hik
  by_cases e : i = k
  · subst e; exact ho
  · exact h i hi (by omega)
theorem notTo_all {xs : List Int} {x : Int} (h : ∀ i (hi : i < xs.length), i < xs.length → xs[i] ≠ x) : x ∉ xs := by
  intro hx
  obtain ⟨i, hi, rfl⟩ := List.mem_iff_getElem.1 hx
  exact h i hi hi rfl
theorem l1Has_any (A : Option Addr) (c : Nat) (xs : List Int) (x : Int) (w : World) (hr : Row w A (ic xs)) (hn : xs.length ≤ 100000000) :
    Calls Tryd.prog 81 #[.slice A xs.length c, .int .i64 x] w fun e w' => e = .returned (.bool (hasI xs x)) ∧ w = w' := by
  go_enter Tryd.func81, Tryd.ntmps81
  go_wp2
  go_loop [5] (fun i => ∃ k : Nat, k ≤ xs.length ∧ i = .int .i64 k ∧ Hid (∀ i (hi : i < xs.length), i < k → xs[i] ≠ x)) (fun i => xs.length - (intOf i).toNat)
  case atStart => exact ⟨0, Nat.zero_le _, rfl, fun _ _ h => absurd h (by omega)⟩
  case round =>
    obtain ⟨k, hk, rfl, hA⟩ := hrel
    by_cases hlt : k < xs.length
    · obtain ⟨a, hA', hc⟩ := hr.int hlt
      subst hA'
      have hi : (0 : Int) ≤ k := by omega
      have hi' : (k : Int) < xs.length := by omega
      by_cases hx : xs[k] = x
      · have HG := Lib.hid (hasI_yes (hx ▸ List.getElem_mem hlt))
        rw [hx] at hc
        clear hr hA hx
        go_wp2
        go_ret
        exact ⟨by rw [HG.out]; rfl, rfl⟩
      · have HA := Lib.hid (notTo_step hA.out hlt hx)
        have hne : ((xs[k] : Int) == x) = false := by simpa using hx
        clear hr hA
        generalize xs[k] = y at *
        go_wp2
        go_round
        case rel => exact ⟨k + 1, by omega, by go_num, HA.out⟩
        case measure => simp [intOf]; omega
    · obtain rfl : k = xs.length := by omega
      have HG := Lib.hid (hasI_no (notTo_all hA.out))
      clear hA
      go_wp2
      go_ret
      exact ⟨by rw [HG.out]; rfl, rfl⟩

theorem inAll_step {o : List Int} {k : Nat} (h : ∀ i : Nat, i < k → (i : Int) ∈ o) (hk : (k : Int) ∈ o) : ∀ i : Nat, i < k + 1 → (i : Int) ∈ o := by
  intro i hi
  by_cases e : i = k
  · subst e; exact hk
  · exact h i (by omega)
theorem l2Order_any (n : Int) (A : Option Addr) (c : Nat) (o : List Int) (w : World) (hr : Row w A (ic o)) (hn : o.length ≤ 100000000) :
    Calls Tryd.prog 54 #[.int .i64 n, .slice A o.length c] w fun e w' => e = .returned (.bool (ordB n o)) ∧ w = w' := by
  by_cases h8 : 0 ≤ n ∧ n ≤ 8
  · have hin := inB_yes h8.1 h8.2
    obtain ⟨m, rfl⟩ : ∃ m : Nat, n = (m : Int) := ⟨n.toNat, by omega⟩
    have hm : m ≤ 8 := by omega
    by_cases hl : o.length = m
    · go_enter Tryd.func54, Tryd.ntmps54
      go_wp2_with fail
      refine (l1In_any _ _ _ _).mono ?_
      rintro e w1 ⟨rfl, rfl⟩
      rw [hin]
      subst hl
      go_wp2_with fail
      go_loop [5] (fun i => ∃ k : Nat, k ≤ o.length ∧ i = .int .i64 k ∧ Hid (∀ i : Nat, i < k → (i : Int) ∈ o)) (fun i => o.length - (intOf i).toNat)
      case atStart => exact ⟨0, Nat.zero_le _, rfl, fun _ h => absurd h (by omega)⟩
      case round =>
        obtain ⟨k, hk, rfl, hA⟩ := hrel
        have HR := Lib.hid hr
        clear hr
        by_cases hlt : k < o.length
        · have hi' : (k : Int) < o.length := by omega
          cases hx : hasI o k
          · have HG := Lib.hid (ord_not (n := (o.length : Int)) (o := o) (fun h => hasI_not hx (h.2.2.2 k (by simpa using hlt))))
            clear hA hin
            go_wp2_with fail
            refine (l1Has_any _ _ o _ _ HR.out hn).mono ?_
            rintro e w1 ⟨rfl, rfl⟩
            rw [hx]
            go_wp2
            go_ret
            exact ⟨by rw [HG.out]; rfl, rfl⟩
          · have HA := Lib.hid (inAll_step hA.out (hasI_out hx))
            clear hA hin
            go_wp2_with fail
            refine (l1Has_any _ _ o _ _ HR.out hn).mono ?_
            rintro e w1 ⟨rfl, rfl⟩
            rw [hx]
            go_wp2
            go_round
            case rel => exact ⟨k + 1, by omega, by go_num, HA.out⟩
            case measure => simp [intOf]; omega
        · obtain rfl : k = o.length := by omega
          have HG := Lib.hid (ord_mk (n := (o.length : Int)) (o := o) ⟨by omega, by omega, rfl, fun i hi => hA.out i (by simpa using hi)⟩)
          clear hA hin
          go_wp2
          go_ret
          exact ⟨by rw [HG.out]; rfl, rfl⟩
    · have HG := Lib.hid (ord_not (n := (m : Int)) (o := o) (fun h => hl (by omega)))
      have hne : (((o.length : Nat) : Int) != (m : Int)) = true := by simp; omega
      go_enter Tryd.func54, Tryd.ntmps54
      go_wp2_with fail
      refine (l1In_any _ _ _ _).mono ?_
      rintro e w1 ⟨rfl, rfl⟩
      rw [hin]
      go_wp2
      go_ret
      exact ⟨by rw [HG.out]; rfl, rfl⟩
  · have hin := inB_no (x := n) (a := 0) (b := 8) h8
    have HG := Lib.hid (ord_not (n := n) (o := o) (fun h => h8 ⟨h.1, h.2.1⟩))
    go_enter Tryd.func54, Tryd.ntmps54
    go_wp2_with fail
    refine (l1In_any _ _ _ _).mono ?_
    rintro e w1 ⟨rfl, rfl⟩
    rw [hin]
    go_wp2
    go_ret
    exact ⟨by rw [HG.out]; rfl, rfl⟩

/-- What the program has seen: the numbers so far. -/
def seenM (xs : List Int) : List (Int × Value) := xs.map fun x => (x, .bool true)
theorem seen_in : ∀ {xs : List Int} {x : Int}, x ∈ xs → getM (seenM xs) x = some (.bool true)
  | y :: xs, x, h => by
    show (if y = x then _ else _) = _
    by_cases e : y = x
    · rw [if_pos e]
    · rw [if_neg e]
      rcases List.mem_cons.1 h with h | h
      · exact absurd h.symm e
      · exact seen_in h
theorem seen_out : ∀ {xs : List Int} {x : Int}, x ∉ xs → getM (seenM xs) x = none
  | [], _, _ => rfl
  | y :: xs, x, h => by
    show (if y = x then _ else _) = _
    rw [if_neg (fun e => h (by rw [e]; exact List.mem_cons_self))]
    exact seen_out (fun e => h (List.mem_cons_of_mem _ e))
theorem zeroB (w : World) : (zeroValue 4).run Tryd.prog w = .ok (.bool false) w := by kernel_rfl
def goodTo (o : List Int) (k : Nat) : Prop := (∀ x ∈ o.take k, 0 ≤ x ∧ x < o.length) ∧ (o.take k).Nodup
theorem goodTo_step {o : List Int} {k : Nat} (h : goodTo o k) (hk : k < o.length) (h0 : 0 ≤ o[k]) (h1 : o[k] < o.length) (hn : o[k] ∉ o.take k) : goodTo o (k + 1) := by
  unfold goodTo
  rw [List.take_succ_eq_append_getElem hk]
  refine ⟨fun x hx => ?_, ?_⟩
  · rcases List.mem_append.1 hx with h' | h'
    · exact h.1 x h'
    · rw [List.mem_singleton.1 h']; exact ⟨h0, h1⟩
  · rw [List.nodup_append]
    refine ⟨h.2, by simp, ?_⟩
    intro a ha b hb e
    rw [List.mem_singleton.1 hb] at e
    exact hn (e ▸ ha)
theorem seen_snoc {o : List Int} {k : Nat} (hk : k < o.length) : seenM (o.take k) ++ [(o[k], .bool true)] = seenM (o.take (k + 1)) := by
  unfold seenM; rw [List.take_succ_eq_append_getElem hk, List.map_append]; rfl
theorem ord_dup {o : List Int} {k : Nat} (hk : k < o.length) (hx : o[k] ∈ o.take k) : ordB (o.length : Int) o = false := by
  cases h : ordB (o.length : Int) o
  · rfl
  · obtain ⟨_, hn⟩ := ord_range h
    rw [← List.take_append_drop k o, List.nodup_append] at hn
    exact absurd rfl (hn.2.2 _ hx _ (List.mem_drop_iff_getElem.2 ⟨0, by simpa using hk, by simp⟩))
theorem ord_out_of {o : List Int} {k : Nat} (hk : k < o.length) (hx : ¬ (0 ≤ o[k] ∧ o[k] < o.length)) : ordB (o.length : Int) o = false := by
  cases h : ordB (o.length : Int) o
  · rfl
  · exact absurd ((ord_range h).1 _ (List.getElem_mem hk)) hx
set_option maxRecDepth 100000 in
set_option maxHeartbeats 1000000 in
theorem IsOrder_any (n : Int) (A : Option Addr) (c : Nat) (o : List Int) (w : World) (hr : Row w A (ic o)) (hn : o.length ≤ 100000000) :
    Calls Tryd.prog 56 #[.int .i64 n, .slice A o.length c] w fun e w' => e = .returned (.bool (ordB n o)) ∧ Below w.heap.size w w' := by
  by_cases h8 : 0 ≤ n ∧ n ≤ 8
  · obtain ⟨h0, h8⟩ := h8
    obtain ⟨m, rfl⟩ : ∃ m : Nat, n = (m : Int) := ⟨n.toNat, by omega⟩
    have hm : m ≤ 8 := by omega
    by_cases hl : o.length = m
    · subst hl
      have hmm := run_makeMap_hint (P := Tryd.prog) Tryd.underlying112 .i64 (o.length : Int)
      go_enter Tryd.func56, Tryd.ntmps56
      go_wp2
      go_loopw [24] (fun i wr => ∃ k : Nat, k ≤ o.length ∧ i = .int .i64 k ∧ MapOf wr w.heap.size (seenM (o.take k)) ∧ Hid (goodTo o k) ∧ Below w.heap.size w wr) (fun i _ => o.length - (intOf i).toNat)
      case atStart => exact ⟨0, Nat.zero_le _, rfl, MapOf.new _, ⟨by simp, by simp⟩, (Below.refl _ _).alloc (Nat.le_refl _) _⟩
      case round =>
        obtain ⟨k, hk, rfl, hM, hG, hb⟩ := hrel
        clear hmm
        by_cases hlt : k < o.length
        · obtain ⟨a, hA', hc⟩ := (hr.below hb).int hlt
          subst hA'
          have hi : (0 : Int) ≤ k := by omega
          have hi' : (k : Int) < o.length := by omega
          by_cases hrg : 0 ≤ o[k] ∧ o[k] < o.length
          · obtain ⟨hr0, hr1⟩ := hrg
            by_cases hx : o[k] ∈ o.take k
            · have HG := Lib.hid (ord_dup hlt hx)
              have hlook := hM.look (P := Tryd.prog) Tryd.underlying112 Tryd.underlying3 o[k] (zeroB wr)
              rw [seen_in hx] at hlook
              simp only [Option.getD_some] at hlook
              clear hr hG hM hx
              generalize o[k] = y at *
              go_wp2
              go_ret
              exact ⟨by rw [HG.out]; rfl, hb⟩
            · have HG := Lib.hid (goodTo_step hG.out hlt hr0 hr1 hx)
              have hlook := hM.look (P := Tryd.prog) Tryd.underlying112 Tryd.underlying3 o[k] (zeroB wr)
              rw [seen_out hx] at hlook
              simp only [Option.getD_none] at hlook
              obtain ⟨w1, hput, hM1, hg1, hs1⟩ := hM.put (P := Tryd.prog) Tryd.underlying112 Tryd.underlying3 o[k] (.bool true) (seen_out hx)
              rw [seen_snoc hlt] at hM1
              have HM := Lib.hid hM1
              have HB := Lib.hid (hb.trans (⟨hg1.os, hg1.tape, hg1.output, hg1.size, fun j hj => hg1.block j (Nat.lt_of_lt_of_le hj hb.size) (fun e => by injection e; omega)⟩ : Below w.heap.size wr w1))
              clear hr hG hM hx hM1 hg1 hs1 hb
              generalize o[k] = y at *
              go_wp2
              go_roundw
              case rel => exact ⟨k + 1, by omega, by go_num, HM.out, HG.out, HB.out⟩
              case measure => simp [intOf]; omega
          · have HG := Lib.hid (ord_out_of hlt hrg)
            clear hr hG hM
            by_cases hr0 : 0 ≤ o[k]
            · have hr1 : ¬ o[k] < o.length := fun h => hrg ⟨hr0, h⟩
              clear hrg
              generalize o[k] = y at *
              go_wp2
              go_ret
              exact ⟨by rw [HG.out]; rfl, hb⟩
            · clear hrg
              generalize o[k] = y at *
              go_wp2
              go_ret
              exact ⟨by rw [HG.out]; rfl, hb⟩
        · obtain rfl : k = o.length := by omega
          have HG := Lib.hid (ord_prefix (n := o.length) (o := o) rfl hm (by simpa using hG.out.1) (by simpa using hG.out.2))
          clear hG hM
          go_wp2
          go_ret
          exact ⟨by rw [HG.out]; rfl, hb⟩
    · have HG := Lib.hid (ord_not (n := (m : Int)) (o := o) (fun h => hl (by omega)))
      have hne : (((o.length : Nat) : Int) != (m : Int)) = true := by simp; omega
      go_enter Tryd.func56, Tryd.ntmps56
      go_wp2
      go_ret
      exact ⟨by rw [HG.out]; rfl, Below.refl _ _⟩
  · have HG := Lib.hid (ord_not (n := n) (o := o) (fun h => h8 ⟨h.1, h.2.1⟩))
    by_cases h0 : 0 ≤ n
    · have h1 : ¬ n ≤ 8 := fun h => h8 ⟨h0, h⟩
      clear h8
      go_enter Tryd.func56, Tryd.ntmps56
      go_wp2
      go_ret
      exact ⟨by rw [HG.out]; rfl, Below.refl _ _⟩
    · clear h8
      go_enter Tryd.func56, Tryd.ntmps56
      go_wp2
      go_ret
      exact ⟨by rw [HG.out]; rfl, Below.refl _ _⟩
end Go.Proofs.YtapbgmmkkngdoaaDoor

namespace Go.Proofs.YtapbgmmkkngdoaaDoor
open Go.RowKit

def twoB (js : List J) (o : List Int) : Bool := goodL js && ordB js.length o
theorem l1Most_any (x y : Int) (w : World) :
    Calls Tryd.prog 89 #[.int .i64 x, .int .i64 y] w fun e w' => e = .returned (.int .i64 (max x y)) ∧ w' = w := by
  by_cases h : y < x
  · go_enter Tryd.func89, Tryd.ntmps89
    go_wp2
    go_ret
    exact ⟨by rw [show max x y = x by omega]; rfl, rfl⟩
  · go_enter Tryd.func89, Tryd.ntmps89
    go_wp2
    go_ret
    exact ⟨by rw [show max x y = y by omega]; rfl, rfl⟩
end Go.Proofs.YtapbgmmkkngdoaaDoor

namespace Go.Proofs.YtapbgmmkkngdoaaDoor
open Go.RowKit

abbrev natI (p : List Nat) : List Int := p.map Int.ofNat
theorem Row.nat {w : World} {A : Option Addr} {p : List Nat} (h : Row w A (ic (natI p))) {k : Nat} (hk : k < p.length) : ∃ ad, A = some ad ∧ w.cell? (ad.add k) = some (.int .i64 ((p[k] : Nat) : Int)) := by
  obtain ⟨ad, hA, hc⟩ := h.int (k := k) (by simpa using hk)
  exact ⟨ad, hA, by rw [hc]; simp⟩
theorem ic_set (xs : List Int) (j : Nat) (x : Int) : (ic xs).toArray.setIfInBounds j (.int .i64 x) = (ic (xs.set j x)).toArray := by
  unfold ic; simp [List.map_set]
theorem ic_made (n : Nat) : madeCells #[.int .i64 0] n = (ic (List.replicate n 0)).toArray := by
  apply Array.ext'
  apply List.ext_getElem?
  intro i
  by_cases h : i < n
  · simp [madeCells, ic, h, Nat.mod_one]
  · simp [madeCells, ic, h]
theorem BlockIs.int {w : World} {g : Nat} {t : TypeId} {xs : List Int} (h : BlockIs w g t (ic xs).toArray) {k : Nat} (hk : k < xs.length) : w.cell? ⟨g, k, none⟩ = some (.int .i64 xs[k]) := by
  rw [h.cell]; unfold ic; simp [hk]
theorem endsGo_drop (js : List J) (p : List Nat) (k : Nat) (now : Int) (xs : List Int) (h : k < p.length) :
    endsGo js (p.drop k) now xs = endsGo js (p.drop (k + 1)) (max now (js.getD p[k] j0).r + (js.getD p[k] j0).t) (xs.set p[k] (max now (js.getD p[k] j0).r + (js.getD p[k] j0).t)) := by
  rw [List.drop_eq_getElem_cons h]; rfl
theorem startsGo_drop (js : List J) (p : List Nat) (k : Nat) (now : Int) (xs : List Int) (h : k < p.length) :
    startsGo js (p.drop k) now xs = startsGo js (p.drop (k + 1)) (max now (js.getD p[k] j0).r + (js.getD p[k] j0).t) (xs.set p[k] (max now (js.getD p[k] j0).r)) := by
  rw [List.drop_eq_getElem_cons h]; rfl
theorem mix_step {α : Type} (es ss : List α) (k : Nat) (x : α) (h : es.length = ss.length) (hk : k < es.length) (hx : es[k] = x) : (es.take k ++ ss.drop k).set k x = es.take (k + 1) ++ ss.drop (k + 1) := by
  subst hx
  apply List.ext_getElem?
  intro i
  rcases Nat.lt_trichotomy i k with hi | hi | hi
  · rw [List.getElem?_set_ne (by omega), List.getElem?_append_left (by simp; omega), List.getElem?_append_left (by simp; omega), List.getElem?_take, List.getElem?_take, if_pos hi, if_pos (by omega)]
  · subst hi
    rw [List.getElem?_set_self (by simp; omega), List.getElem?_append_left (by simp; omega), List.getElem?_take, if_pos (by omega), List.getElem?_eq_getElem hk]
  · rw [List.getElem?_set_ne (by omega), List.getElem?_append_right (by simp; omega), List.getElem?_append_right (by simp; omega), List.getElem?_drop, List.getElem?_drop]
    simp only [List.length_take]
    congr 1; omega
theorem mix_len {α : Type} (es ss : List α) (k : Nat) (h : es.length = ss.length) (hk : k ≤ es.length) : (es.take k ++ ss.drop k).length = ss.length := by simp; omega
theorem mix_at {α : Type} (es ss : List α) (k : Nat) (h : es.length = ss.length) (hk : k < es.length) : (es.take k ++ ss.drop k)[k]'(by simp; omega) = ss[k] := by
  rw [List.getElem_append_right (by simp; omega)]
  simp [Nat.min_eq_left (Nat.le_of_lt hk)]

theorem seg_of_block {w : World} {g base : Nat} {t : TypeId} {xs : List Int} (h : BlockIs w g t (ic xs).toArray) (hb : base ≤ g) (hm : xs.length ≤ maxLen) : Seg w t 1 base w.heap.size (some ⟨g, 0, none⟩) xs.length xs.length (ic xs) := by
  have := h.own (base := base) (n := xs.length) (c := xs.length) (size := 1) hb (by simp [ic_len]) (Nat.le_refl _) hm (by simp [ic_len])
  rw [List.take_of_length_le (by simp [ic_len])] at this
  exact Seg.of_own this
theorem l1Most_still (x y m : Int) (h : max x y = m) (w : World) :
    Calls Tryd.prog 89 #[.int .i64 x, .int .i64 y] w fun e w' => e = .returned (.int .i64 m) ∧ w' = w := by
  subst h; exact l1Most_any x y w
theorem max_bd {x y b : Int} (hx : 0 ≤ x) (hx' : x ≤ b) (hy : y ≤ b) : 0 ≤ max x y ∧ max x y ≤ b := by omega
theorem ends_starts_at {js : List J} {p : List Nat} (hp : p.Perm (List.range js.length)) {k : Nat} (hk : k < js.length) (h1 : k < (endsL js p).length) (h2 : k < (startsL js p).length) : (endsL js p)[k] = (startsL js p)[k] + js[k].t := by
  have := end_startL js p hp k hk
  rwa [getD_at _ _ h1, getD_at _ _ h2, getD_at js j0 hk] at this
end Go.Proofs.YtapbgmmkkngdoaaDoor

namespace Go.Proofs.YtapbgmmkkngdoaaDoor
open Go.RowKit

def natsOf (o : List Int) : List Nat := o.map Int.toNat
theorem natsOf_natI (p : List Nat) : natsOf (natI p) = p := by
  unfold natsOf natI
  rw [List.map_map, show (Int.toNat ∘ Int.ofNat) = id from rfl, List.map_id]
theorem two_out {js : List J} {o : List Int} (h : twoB js o = true) : goodL js = true ∧ ∃ p : List Nat, o = natI p ∧ p.Perm (List.range js.length) ∧ natsOf o = p := by
  unfold twoB at h
  rw [Bool.and_eq_true] at h
  obtain ⟨p, rfl, hp, _, _⟩ := ord_nat h.2
  exact ⟨h.1, p, rfl, hp, natsOf_natI p⟩
/-- What a function hands back: an int and a bool. -/
def RetNB (w : World) (r : Int × Bool) (e : Ending) (w' : World) : Prop := e = .returned (.tuple #[.int .i64 r.1, .bool r.2]) ∧ Below w.heap.size w w'
theorem ret_empty {w w1 : World} {r : List Int × Bool} (hr : r = ([], false)) (hb : Below w.heap.size w w1) (e : Ending) (he : e = .returned (.tuple #[.slice (some ⟨w1.heap.size, 0, none⟩) 0 0, .bool false])) : RetIB w r e (w1.alloc (.cells #[] 3)) := by
  subst hr he
  have h := BlockIs.new w1 3 (ic []).toArray
  exact ⟨_, 0, rfl, seg_of_block h hb.size (by simp), hb.alloc hb.size _⟩
theorem ret_block {w w' : World} {r : List Int × Bool} {xs : List Int} {g : Nat} (hr : r = (xs, true)) (hg : w.heap.size ≤ g) (hB : BlockIs w' g 3 (ic xs).toArray) (hm : xs.length ≤ 100000000) (hb : Below w.heap.size w w') (e : Ending) (he : e = .returned (.tuple #[.slice (some ⟨g, 0, none⟩) xs.length xs.length, .bool true])) : RetIB w r e w' := by
  subst hr he
  exact ⟨_, xs.length, rfl, seg_of_block hB hg (by unfold maxLen; simp; omega), hb⟩

section
variable (A B : Option Addr) (c d : Nat) (js : List J) (o : List Int) (w : World) (hr : Row w A (jc js)) (hq : Row w B (ic o)) (hn : js.length ≤ 10000000) (hm : o.length ≤ 10000000)
include hr hq hn hm
end
end Go.Proofs.YtapbgmmkkngdoaaDoor

namespace Go.Proofs.YtapbgmmkkngdoaaDoor
open Go.RowKit
def goodB (js : List J) (m : Int) (E : List Pr) : Bool := goodL js && (plain0 js && (inB m 1 4 && precB js.length E))
set_option maxRecDepth 100000 in
set_option maxHeartbeats 1000000 in
theorem l7Good_any (A C : Option Addr) (c d : Nat) (js : List J) (m : Int) (E : List Pr) (w : World) (hr : Row w A (jc js)) (hq : Row w C (pc E)) (hn : js.length ≤ 10000000) (hl : E.length ≤ 10000000) :
    Calls Tryd.prog 58 #[.slice A js.length c, .int .i64 m, .slice C E.length d] w fun e w' => e = .returned (.bool (goodB js m E)) ∧ Below w.heap.size w w' := by
  have HD : Hid (goodB js m E = (goodL js && (plain0 js && (inB m 1 4 && precB js.length E)))) := rfl
  have H1 := Lib.hid (l2Good_any A c js w hr (by omega))
  have H2 := Lib.hid (fun W (hb : Below w.heap.size w W) => l3Plain_any A c js W (hr.below hb) (by omega))
  have H4 := Lib.hid (fun W (hb : Below w.heap.size w W) => l4Good_any C d (js.length : Int) E W (hq.below hb) hl)
  clear hr hq
  go_enter Tryd.func58, Tryd.ntmps58
  go_wp2_with fail
  refine H1.out.mono ?_
  rintro e w1 ⟨rfl, hb1⟩
  cases hg : goodL js
  · rw [hg] at HD
    clear hg
    go_wp2
    go_ret
    exact ⟨by rw [HD.out]; rfl, hb1⟩
  · rw [hg] at HD
    clear hg
    have HB1 := Lib.hid hb1
    clear hb1
    go_wp2_with fail
    refine (H2.out w1 HB1.out).mono ?_
    rintro e w2 ⟨rfl, hb2⟩
    have HB2 := Lib.hid (HB1.out.trans (hb2.mono HB1.out.size))
    clear hb2
    cases hp : plain0 js
    · rw [hp] at HD
      clear hp
      go_wp2
      go_ret
      exact ⟨by rw [HD.out]; rfl, HB2.out⟩
    · rw [hp] at HD
      clear hp
      go_wp2_with fail
      refine (l1In_any m 1 4 _).mono ?_
      rintro e _ ⟨rfl, rfl⟩
      cases hm : inB m 1 4
      · rw [hm] at HD
        clear hm
        go_wp2
        go_ret
        exact ⟨by rw [HD.out]; rfl, HB2.out⟩
      · rw [hm] at HD
        clear hm
        go_wp2_with fail
        refine (H4.out w2 HB2.out).mono ?_
        rintro e w3 ⟨rfl, hb3⟩
        have HB3 := Lib.hid (HB2.out.trans (hb3.mono HB2.out.size))
        clear hb3
        cases hq : precB js.length E
        · rw [hq] at HD
          clear hq
          go_wp2
          go_ret
          exact ⟨by rw [HD.out]; rfl, HB3.out⟩
        · rw [hq] at HD
          clear hq
          go_wp2
          go_ret
          exact ⟨by rw [HD.out]; rfl, HB3.out⟩
section
variable {Bs : Nat} {A : Option Addr} {c : Nat} {js : List J} {E : List Pr} {gs : List Nat} {g cc : Nat} {w : World}
set_option maxRecDepth 100000 in
set_option maxHeartbeats 2000000 in
theorem l7Tail_any (hr : Row w A (jc js)) (hok : ∀ j ∈ js, okJ j = true) (h8 : js.length ≤ 8) (hirr : irrB js.length E js.length = true) (hTb : TabR Bs js.length (tabB js.length E) gs (.slice (some ⟨g, 0, none⟩) gs.length cc) w) (hgl : gs.length = js.length) : ∀ (f j : Nat), f ≤ 9 → j < js.length → cntS js.length (tabB js.length E) j < f →
    Calls Tryd.prog 85 #[.slice A js.length c, .slice (some ⟨g, 0, none⟩) gs.length cc, .int .i64 (j : Int)] w fun e w' => e = .returned (.int .i64 (tailF js (tabB js.length E) js.length f j)) ∧ w = w' := by
  intro f
  induction f with
  | zero => intro j _ _ h; omega
  | succ f ih =>
    intro j hf9 hj hcj
    have HIH := Lib.hid (fun i (hi : i < js.length) (ht : tabB js.length E j i = true) => ih i (by omega) hi (by have := cntS_lt hirr hi ht; omega))
    have HTB := Lib.hid hTb
    have HGL := Lib.hid hgl
    have HRES : Hid (tailF js (tabB js.length E) js.length (f + 1) j = (js.getD j j0).t + mostTo (fun i => tailF js (tabB js.length E) js.length f i) (tabB js.length E j) js.length) := rfl
    have HBD : Hid (∀ k, k ≤ js.length → 0 ≤ mostTo (fun i => tailF js (tabB js.length E) js.length f i) (tabB js.length E j) k ∧ mostTo (fun i => tailF js (tabB js.length E) js.length f i) (tabB js.length E j) k ≤ 50 * (f : Int)) := fun k hk => most_bd (by omega) k fun i hi _ => (tailF_bd hok _ f i (by omega)).2
    have HMS := Lib.hid (mostTo_succ (fun i => tailF js (tabB js.length E) js.length f i) (tabB js.length E j))
    obtain ⟨ad, hA, _, hc0, hc1, hc2, hc3⟩ := hr.job hj
    subst hA
    have hjt := okJ_out (hok _ (List.getElem_mem hj))
    have hgj := getD_at js j0 hj
    rw [hgj] at HRES
    have hj0 : (0 : Int) ≤ j := by omega
    have hj1 : (j : Int) < js.length := by omega
    have hj2 : (j : Int) < gs.length := by rw [hgl]; omega
    generalize js[j] = jb at *
    clear ih hTb hgl hgj hr hcj
    go_enter Tryd.func85, Tryd.ntmps85
    go_wp2
    go_loop [7, 8] (fun mv iv => ∃ k : Nat, k ≤ js.length ∧ iv = .int .i64 (k : Int) ∧ mv = .int .i64 (mostTo (fun i => tailF js (tabB js.length E) js.length f i) (tabB js.length E j) k)) (fun _ iv => js.length - (intOf iv).toNat)
    case atStart => exact ⟨0, Nat.zero_le _, rfl, rfl⟩
    case round =>
      obtain ⟨k, hk, rfl, rfl⟩ := hrel
      by_cases hlt : k < js.length
      · obtain ⟨g1, c1, q, hV, hq, hcell, _, _, _, hrow⟩ := HTB.out.at_ (i := j) (by rw [HGL.out]; exact hj)
        obtain ⟨rfl, rfl⟩ : g = g1 ∧ cc = c1 := by
          injection hV with e1 _ e3
          injection e1 with e1
          injection e1 with e1 _ _
          exact ⟨e1, e3⟩
        have hck := hrow k hlt
        have hk0 : (0 : Int) ≤ k := by omega
        have hk1 : (k : Int) < js.length := by omega
        have HS := Lib.hid (HMS.out k)
        clear hrow hV hq
        cases ht : tabB js.length E j k
        · rw [ht] at hck HS
          clear ht
          generalize mostTo (fun i => tailF js (tabB js.length E) js.length f i) (tabB js.length E j) k = mk at *
          go_wp2
          go_round
          case rel => exact ⟨k + 1, by omega, by go_num, by rw [HS.out]; rfl⟩
          case measure => simp [intOf]; omega
        · have HC := Lib.hid (HIH.out k hlt ht)
          rw [ht] at hck HS
          clear ht
          generalize mostTo (fun i => tailF js (tabB js.length E) js.length f i) (tabB js.length E j) k = mk at *
          go_wp2_with fail
          refine HC.out.mono ?_
          rintro e _ ⟨rfl, rfl⟩
          go_wp2_with fail
          refine (l1Most_any _ _ _).mono ?_
          rintro e _ ⟨rfl, rfl⟩
          go_wp2
          go_round
          case rel => exact ⟨k + 1, by omega, by go_num, by rw [HS.out]; rfl⟩
          case measure => simp [intOf]; omega
      · obtain rfl : k = js.length := by omega
        have hbd := HBD.out _ (Nat.le_refl _)
        generalize mostTo (fun i => tailF js (tabB js.length E) js.length f i) (tabB js.length E j) js.length = mk at *
        go_wp2
        go_ret
        exact ⟨by rw [HRES.out]; rfl, rfl⟩
end
theorem infoIp : (Tryd.prog.info? 3).map (fun i => (i.zero, i.size, i.bytes)) = some (some (.int .i64 0), 1, 8) := by kernel_rfl
/-- Blocks that hold no ints are as they were. -/
def KeepI (w w' : World) : Prop := ∀ q t cs, t ≠ 3 → BlockIs w q t cs → BlockIs w' q t cs
theorem TabR.keepI {B n : Nat} {T : Nat → Nat → Bool} {gs : List Nat} {v : Value} {w w' : World} (h : TabR B n T gs v w) (hk : KeepI w w') : TabR B n T gs v w' := by
  refine ⟨own_to h.1 fun q hq _ _ => ?_, fun i hi => ⟨hk _ _ _ (by decide) (h.2.1 i hi).1, (h.2.1 i hi).2⟩, h.2.2⟩
  obtain ⟨_, _, c1, t1⟩ := own_type h.1 hq
  exact (hk _ _ _ (by decide) t1).trans t1.symm
theorem pushI {w0 w : World} {v : Value} {xs : List Int} (h : w.ownsRow w0.heap.size 3 1 v xs.length (ic xs)) (hb : Below w0.heap.size w0 w) (x : Int) (hl : xs.length ≤ 1000) :
    ∃ v' w3, (Builtin.append_ #[29, 29] 29 #[v, .slice (some ⟨w.heap.size, 0, none⟩) 1 1]).run Tryd.prog (w.alloc (.cells #[.int .i64 x] 3)) = .ok v' w3 ∧
      w3.ownsRow w0.heap.size 3 1 v' (xs ++ [x]).length (ic (xs ++ [x])) ∧ Below w0.heap.size w0 w3 ∧ KeepI w w3 := by
  obtain ⟨i1, hj, hy0, hy1, hy2⟩ := info_parts infoIp
  have hb1 := hb.alloc hb.size (.cells #[.int .i64 x] 3)
  have hbw : Below w.heap.size w (w.alloc (.cells #[.int .i64 x] 3)) := (Below.refl _ w).alloc (Nat.le_refl _) _
  have h2 := own_blw h hbw
  have hsrc := row_srcS (Row.new w 3 #[.int .i64 x])
  obtain ⟨v', w3, hrun, ho3, hgr, _⟩ := append_at (P := Tryd.prog) (w.alloc (.cells #[.int .i64 x] 3)) w0.heap.size 29 29 3 i1 (.int .i64 0) 1 8 Tryd.underlying29 hj hy0 hy1 hy2 rfl (by decide) _ _ _ h2 ⟨w.heap.size, 0, none⟩ 1 1 [.int .i64 x] rfl hsrc (by intro u hu; simp at hu; subst hu; rfl) (by omega) (by unfold maxLen; omega) (by omega) hb1.size
  refine ⟨v', w3, hrun, ?_, hb1.grown hgr hb1.size (fun j hj => (h2.lt j hj).1), fun q t cs ht hB => ?_⟩
  · unfold ic at ho3 ⊢
    simpa using ho3
  · have hB1 := hB.below hbw
    refine (hgr.block q hB1.lt fun e => ?_).trans hB1
    obtain ⟨_, _, c1, t1⟩ := own_type h2 e.symm
    exact type_ne hB1 t1 ht rfl
def tailsTo (js : List J) (E : List Ed) (k : Nat) : List Int := (List.range k).map fun j => tailF js (tabB js.length E) js.length 9 j
theorem tailsTo_succ (js : List J) (E : List Ed) (k : Nat) : tailsTo js E (k + 1) = tailsTo js E k ++ [tailF js (tabB js.length E) js.length 9 k] := by unfold tailsTo; rw [List.range_succ, List.map_append]; rfl
theorem tailsTo_len (js : List J) (E : List Ed) (k : Nat) : (tailsTo js E k).length = k := by unfold tailsTo; simp
set_option maxRecDepth 100000 in
set_option maxHeartbeats 2000000 in
theorem l7Tails_any (A C : Option Addr) (c d : Nat) (js : List J) (E : List Pr) (w : World) (hr : Row w A (jc js)) (hq : Row w C (pc E)) (hl : E.length ≤ 10000000) (hok : ∀ j ∈ js, okJ j = true) (h8 : js.length ≤ 8) (hirr : irrB js.length E js.length = true) (hE : EdsIn js.length E) :
    Calls Tryd.prog 59 #[.slice A js.length c, .slice C E.length d] w fun e w' => ∃ v, e = .returned v ∧ w'.ownsRow w.heap.size 3 1 v (tailsL js E).length (ic (tailsL js E)) ∧ Below w.heap.size w w' := by
  have hb0 := (Below.refl w.heap.size w).alloc (Nat.le_refl _) (.cells #[] 3)
  have h0 : (w.alloc (.cells #[] 3)).ownsRow w.heap.size 3 1 (.slice (some ⟨w.heap.size, 0, none⟩) 0 0) 0 (ic []) := World.ownsRow_made w #[] 0 (Nat.le_refl _) (by unfold maxLen; omega) rfl
  have H0 := Lib.hid (And.intro hb0 h0)
  have HTB := Lib.hid (l4Table_any C d js.length E _ (hq.below hb0) hl h8 hE)
  have HR := Lib.hid hr
  have HLL : Hid (tailsTo js E js.length = tailsL js E) := rfl
  clear hb0 h0 hr hq hE
  go_enter Tryd.func59, Tryd.ntmps59
  go_wp2_with fail
  refine HTB.out.mono ?_
  rintro e w2 ⟨gs, v, rfl, hTb, hgl, hb2⟩
  have HB2 := Lib.hid (H0.out.1.trans (hb2.mono H0.out.1.size))
  have HO2 := Lib.hid (own_blw H0.out.2 hb2)
  have hsz := H0.out.1.size
  obtain ⟨Bs, hBs⟩ : ∃ Bs, Bs = (w.alloc (.cells #[] 3)).heap.size := ⟨_, rfl⟩
  rw [← hBs] at hTb
  have HTb := Lib.hid hTb
  have HGL := Lib.hid hgl
  clear hTb hgl hb2 HTB H0 hBs
  go_wp2
  go_loopw [5, 7] (fun u i wr => ∃ (k : Nat) (U : Value), k ≤ js.length ∧ i = .int .i64 (k : Int) ∧ U = u ∧ Hid (wr.ownsRow w.heap.size 3 1 U (tailsTo js E k).length (ic (tailsTo js E k))) ∧ Hid (TabR Bs js.length (tabB js.length E) gs v wr) ∧ Hid (Below w.heap.size w wr)) (fun _ i _ => js.length - (intOf i).toNat)
  case atStart => exact ⟨0, _, Nat.zero_le _, rfl, rfl, HO2.out, HTb.out, HB2.out⟩
  case round =>
    obtain ⟨k, U, hk, rfl, rfl, hO, hTb, hb⟩ := hrel
    clear HO2 HTb HB2
    by_cases hlt : k < js.length
    · obtain ⟨g, cc, q, hV, _, _, _, _, _, _⟩ := hTb.out.at_ (i := k) (by rw [HGL.out]; exact hlt)
      subst hV
      have HC := Lib.hid (l7Tail_any (c := c) (HR.out.below hb.out) hok h8 hirr hTb.out HGL.out 9 k (by omega) hlt (by have := cntS_le js.length (tabB js.length E) k; omega))
      obtain ⟨v', w3, hrun, hO3, hb3, hk3⟩ := pushI (w0 := w) hO.out hb.out (tailF js (tabB js.length E) js.length 9 k) (by rw [tailsTo_len]; omega)
      have HRUN := Lib.hid hrun
      have HY := Lib.hid (And.intro hO3 (And.intro (hTb.out.keepI hk3) hb3))
      rw [← tailsTo_succ] at HY
      clear hrun hO3 hb3 hk3 hO hTb hb
      generalize tailF js (tabB js.length E) js.length 9 k = tk at *
      go_wp2_with (first | (at_builtin; refine wpList_app rfl _ _ _ rfl _ _ _ rfl rfl HRUN.out ?_; clear HRUN) | (go_at_call 85; refine HC.out.mono ?_; rintro e _ ⟨rfl, rfl⟩))
      go_roundw
      case rel => exact ⟨k + 1, _, by omega, by go_num, rfl, HY.out.1, HY.out.2.1, HY.out.2.2⟩
      case measure => simp [intOf]; omega
    · obtain rfl : k = js.length := by omega
      go_wp2
      go_ret
      exact ⟨U, rfl, by rw [← HLL.out]; exact hO.out, hb.out⟩
def tailsR (js : List J) (E : List Pr) : List Int × Bool := if goodB js 1 E then (tailsL js E, true) else ([], false)
theorem tailsR_len (js : List J) (E : List Pr) : (tailsR js E).1.length ≤ 8 := by
  unfold tailsR
  split
  · rename_i h
    unfold goodB at h
    rw [Bool.and_eq_true] at h
    obtain ⟨h8, _⟩ := good_out h.1
    rw [tailsL_len]; exact h8
  · simp
theorem good_parts {js : List J} {m : Int} {E : List Pr} (h : goodB js m E = true) : (∀ j ∈ js, okJ j = true) ∧ js.length ≤ 8 ∧ irrB js.length E js.length = true ∧ EdsIn js.length E ∧ plainL js = true ∧ precB js.length E = true ∧ inB m 1 4 = true := by
  unfold goodB at h
  simp only [Bool.and_eq_true] at h
  obtain ⟨h8, hok⟩ := good_out h.1
  obtain ⟨n, hn, _, hE⟩ := prec_nat h.2.2.2
  have hn' : js.length = n := by omega
  subst hn'
  refine ⟨hok, h8, ?_, hE, by unfold plainL; rw [h.1, h.2.1]; rfl, h.2.2.2, h.2.2.1⟩
  have hp := h.2.2.2
  rw [← precB_good (by unfold precB at hp; rw [Bool.and_eq_true] at hp; exact hp.1), hp]
theorem ret_ownIr {w w' : World} {r : List Int × Bool} {p : List Int} {v : Value} (hr : r = (p, true)) (ho : w'.ownsRow w.heap.size 3 1 v p.length (ic p)) (hb : Below w.heap.size w w') (e : Ending) (he : e = .returned (.tuple #[v, .bool true])) : RetIB w r e w' := by
  obtain ⟨A, c, rfl, hs⟩ := seg_out ho
  subst hr he
  exact ⟨A, c, rfl, hs, hb⟩
set_option maxRecDepth 100000 in
set_option maxHeartbeats 1000000 in
theorem spec_TailsOf (A C : Option Addr) (c d : Nat) (js : List J) (E : List Pr) (w : World) (hr : Row w A (jc js)) (hq : Row w C (pc E)) (hn : js.length ≤ 10000000) (hl : E.length ≤ 10000000) :
    Calls Tryd.prog 27 #[.slice A js.length c, .slice C E.length d] w (RetIB w (tailsR js E)) := by
  have HRR : Hid (tailsR js E = if goodB js 1 E then (tailsL js E, true) else ([], false)) := rfl
  have HG := Lib.hid (l7Good_any A C c d js 1 E w hr hq hn hl)
  have HR := Lib.hid hr
  have HQ := Lib.hid hq
  clear hr hq
  go_enter Tryd.func27, Tryd.ntmps27
  go_wp2_with fail
  refine HG.out.mono ?_
  rintro e w1 ⟨rfl, hb1⟩
  cases hg : goodB js 1 E
  · rw [hg] at HRR
    have HB := Lib.hid hb1
    clear hg hb1
    go_wp2
    go_ret2
    exact ret_empty HRR.out HB.out _ rfl
  · rw [hg] at HRR
    obtain ⟨hok, h8, hirr, hE, _, _, _⟩ := good_parts hg
    have HT := Lib.hid (l7Tails_any A C c d js E w1 (HR.out.below hb1) (HQ.out.below hb1) hl hok h8 hirr hE)
    have HB := Lib.hid hb1
    clear hg hb1 hok h8 hirr hE
    go_wp2_with fail
    refine HT.out.mono ?_
    rintro e w2 ⟨v, rfl, ho, hb2⟩
    have HO := Lib.hid (And.intro (own_low ho HB.out.size) (HB.out.trans (hb2.mono HB.out.size)))
    clear ho hb2
    go_wp2
    go_ret2
    exact ret_ownIr (p := tailsL js E) HRR.out HO.out.1 HO.out.2 _ rfl
end Go.Proofs.YtapbgmmkkngdoaaDoor

namespace Go.Proofs.YtapbgmmkkngdoaaDoor
section
variable {F : Fence} {n : Nat} {P : Program} {ops : Array Oper} {Q : Exit → Act → World → Prop}
theorem wpOpIn_enterZ (hF : ∀ f, F.fn f) (hdp : F.depth = none) (hCI : ∀ f args w R, Calls P f args w R → CallsIn F (n - 1) P f args w R) (hc : calmB ops = true) {i : Nat} {o : Oper} {a : Act} {w w' : World} {f : FuncId} {args : Array Value} {K : Act → World → Prop} (ho : ops[i]? = some o) (hg : Region.wanted o (yielded ops a.tmps) = true) (hr : (execOp a.eval o).run P w = .ok (.enter f args) w') (hK : Calls P f args w' fun e w'' => ∃ v, e = .returned v ∧ K (a.put o.dst v) w'') : wpOpIn F n P ops Q i K a w := by
  refine wpOpIn_step ho fun K' hKK => ?_
  rw [if_pos hg]
  refine ⟨fun f _ => hF f, ?_⟩
  rw [semAt_calm hc ho, hr]
  refine ⟨fun h => ?_, (hCI _ _ _ _ hK).mono ?_⟩
  · rw [hdp] at h; cases h
  · rintro e w'' ⟨v, rfl, h⟩
    exact hKK _ _ h
/-- As wp_region_detY, within a round. -/
theorem wpIn_region_detZ (hF : ∀ f, F.fn f) (hdp : F.depth = none) (hCI : ∀ f args w R, Calls P f args w R → CallsIn F (n - 1) P f args w R) (hcalm : calmB ops = true) {id : Nat} {tm0 : Array Value} {df : List Deferred} {w : World} (hm : P.follows .mixedOrders = true) (S : Array Bool → World → Prop) (val : Nat → Value) (hback : backBB ops = true) (hown : ownDst ops tm0.size = true)
    (h0 : S (Array.replicate ops.size false) w.drew)
    (hdone : ∀ (L : Array Bool) (tm : Array Value) (w : World), (∀ i, i < ops.size → L.getD i true = true) → S L w → tm.size = tm0.size → (∀ t, ((List.range ops.size).all fun j => !((ops[j]?).bind (·.dst) == some t)) = true → tm.getD t undef = tm0.getD t undef) → (∀ j o d, ops[j]? = some o → o.dst = some d → tm.getD d undef = val j) → Q .normal ⟨tm, df⟩ w)
    (hstep : ∀ (L : Array Bool) (a : Act) (w : World) (i : Nat) (o : Oper), L.size = ops.size → ops[i]? = some o → L.getD i true = false → (∀ j, edgeB ops i j = true → L.getD j true = true) → (∀ j, edgeB ops j i = true → L.getD j true = false) → S L w → (∀ t, ((List.range ops.size).all fun j => !((ops[j]?).bind (·.dst) == some t)) = true → a.tmps.getD t undef = tm0.getD t undef) →
      (∀ j oj d, edgeB ops i j = true → ops[j]? = some oj → oj.dst = some d → a.tmps.getD d undef = val j) →
      (∀ j oj d, edgeB ops j i = true → ops[j]? = some oj → oj.dst = some d → a.tmps.getD d undef = tm0.getD d undef) → Region.wanted o (yielded ops a.tmps) = true ∧ StepY P (S (L.setIfInBounds i true)) o a w (val i)) :
    (Code.region id ops true).wpIn F n P Q ⟨tm0, df⟩ w := by
  refine wpIn_region_invB hm (fun L a w => S L w ∧ a.defers = df ∧ a.tmps.size = tm0.size ∧ (∀ t, ((List.range ops.size).all fun j => !((ops[j]?).bind (·.dst) == some t)) = true → a.tmps.getD t undef = tm0.getD t undef) ∧ (∀ j o d, ops[j]? = some o → o.dst = some d → L.getD j true = true → a.tmps.getD d undef = val j) ∧ (∀ j o d, ops[j]? = some o → o.dst = some d → L.getD j true = false → a.tmps.getD d undef = tm0.getD d undef)) (back_ofB hback) ?_ ?_ ?_
  · refine ⟨h0, rfl, rfl, fun _ _ => rfl, fun j o d ho _ hl => ?_, fun _ _ _ _ _ _ => rfl⟩
    have hj : j < ops.size := (Array.getElem?_eq_some_iff.1 ho).1
    simp [Array.getD_eq_getD_getElem?, hj] at hl
  · intro L a w ⟨hS, hdf, hsz, hlow, hval, _⟩ hall
    obtain ⟨tm, df'⟩ := a
    simp only at hdf hsz
    subst hdf
    exact hdone L tm w hall hS hsz hlow (fun j o d ho hd => hval j o d ho hd (hall j (Array.getElem?_eq_some_iff.1 ho).1))
  · intro L a w i o hC ⟨hS, hdf, hsz, hlow, hval, hold⟩ ho hl hd
    obtain ⟨hg, hst⟩ := hstep L a w i o hC.1 ho hl (fun j he => dep_of ho hd he) (fun j he => hC.no he hl) hS hlow (fun j oj d he hoj hdj => hval j oj d hoj hdj (dep_of ho hd he)) (fun j oj d he hoj hdj => hold j oj d hoj hdj (hC.no he hl))
    have next : ∀ w', S (L.setIfInBounds i true) w' → S (L.setIfInBounds i true) w' ∧ (a.put o.dst (val i)).defers = df ∧ (a.put o.dst (val i)).tmps.size = tm0.size ∧ (∀ t, ((List.range ops.size).all fun j => !((ops[j]?).bind (·.dst) == some t)) = true → (a.put o.dst (val i)).tmps.getD t undef = tm0.getD t undef) ∧ (∀ j o' d, ops[j]? = some o' → o'.dst = some d → (L.setIfInBounds i true).getD j true = true → (a.put o.dst (val i)).tmps.getD d undef = val j) ∧ (∀ j o' d, ops[j]? = some o' → o'.dst = some d → (L.setIfInBounds i true).getD j true = false → (a.put o.dst (val i)).tmps.getD d undef = tm0.getD d undef) := by
      intro w' hS'
      cases hod : o.dst with
      | none =>
        refine ⟨hS', hdf, hsz, hlow, fun j o' d ho' hd' hl' => ?_, fun j o' d ho' hd' hl' => ?_⟩
        · have hne : i ≠ j := fun e => by subst e; rw [ho] at ho'; injection ho' with ho'; subst ho'; rw [hod] at hd'; cases hd'
          rw [getD_set_true, if_neg (fun h => hne h.1)] at hl'
          exact hval j o' d ho' hd' hl'
        · have hne : i ≠ j := fun e => by subst e; rw [ho] at ho'; injection ho' with ho'; subst ho'; rw [hod] at hd'; cases hd'
          rw [getD_set_true, if_neg (fun h => hne h.1)] at hl'
          exact hold j o' d ho' hd' hl'
      | some d0 =>
        have hput : ∀ t, (a.put (some d0) (val i)).tmps.getD t undef = if d0 = t ∧ t < a.tmps.size then val i else a.tmps.getD t undef := by
          intro t
          unfold Act.put
          simp only [Array.getD_eq_getD_getElem?, Array.getElem?_setIfInBounds]
          by_cases e : d0 = t
          · subst e
            by_cases h : d0 < a.tmps.size
            · simp [h]
            · simp [h]
          · simp [e]
        refine ⟨hS', hdf, by simp [Act.put, hsz], fun t ht => ?_, fun j o' d ho' hd' hl' => ?_, fun j o' d ho' hd' hl' => ?_⟩
        · rw [hput, if_neg (fun h => ?_)]
          · exact hlow t ht
          · have := List.all_eq_true.1 ht i (List.mem_range.2 (Array.getElem?_eq_some_iff.1 ho).1)
            rw [ho] at this
            simp [hod, h.1] at this
        · rw [hput]
          by_cases e : d0 = d
          · subst e
            have hij := ownDst_inj hown ho hod ho' hd'
            subst hij
            rw [if_pos ⟨rfl, by rw [hsz]; exact ownDst_lt hown ho hod⟩]
          · rw [if_neg (fun h => e h.1)]
            have hne : i ≠ j := fun e' => by subst e'; rw [ho] at ho'; injection ho' with ho'; subst ho'; rw [hod] at hd'; injection hd' with hd'; exact e hd'
            rw [getD_set_true, if_neg (fun h => hne h.1)] at hl'
            exact hval j o' d ho' hd' hl'
        · have hli : i ≠ j := fun e => by
            subst e
            have hC1 : i < L.size := by rw [hC.1]; exact (Array.getElem?_eq_some_iff.1 ho).1
            rw [getD_set_true, if_pos ⟨rfl, hC1⟩] at hl'; cases hl'
          rw [getD_set_true, if_neg (fun h => hli h.1)] at hl'
          have hdd : d0 ≠ d := fun e => by subst e; exact hli (ownDst_inj hown ho' hd' ho hod)
          rw [hput, if_neg (fun h => hdd h.1)]
          exact hold j o' d ho' hd' hl'
    rcases hst with (⟨w', hr, hS'⟩ | ⟨f, args, hr, hc⟩) | ⟨w', hnd, hr, hS'⟩
    · exact wpOpIn_valueX hF hcalm ho hg hr (next w' hS')
    · refine wpOpIn_enterZ hF hdp hCI hcalm ho hg hr (hc.mono ?_)
      rintro e w' ⟨rfl, hS'⟩
      exact ⟨_, rfl, next w' hS'⟩
    · refine wpOpIn_skipX hF hcalm ho hg hr ?_
      have h := next w' hS'
      rw [hnd] at h ⊢
      exact h
end
end Go.Proofs.YtapbgmmkkngdoaaDoor

namespace Go.Proofs.YtapbgmmkkngdoaaDoor
open Go.RowKit Go.Shelf
attribute [local go_sem] Oper.semAt_some
set_option maxRecDepth 100000 in
set_option maxHeartbeats 2000000 in
theorem behind_any (m : Nat) (hm : m ≤ 8) (B : Nat → Nat) (hB8 : ∀ j, j < 8 → B j < 256) (i : Nat) (hi : i < 8) (w : World) :
    Calls Tryd.prog 106 #[.agg (precC (m : Int) B), .int .i64 (i : Int)] w fun e w' => e = .returned (.int .u64 (bitsN m (bitT B i) : Nat)) ∧ Below w.heap.size w w' := by
  have H0 := Lib.hid (And.intro ((Below.refl w.heap.size w).alloc (Nat.le_refl _) (.cells (precC (m : Int) B) 62)) (BlockIs.new w 62 (precC (m : Int) B)))
  have HBT : Hid (∀ k, bitT B i k = (B k).testBit i) := fun k => rfl
  have HBS := Lib.hid (bits_succ · (bitT B i))
  have HBL : Hid (∀ k, k ≤ 8 → bitsN k (bitT B i) < 256) := fun k hk => bits_lt hk _
  have ep : (precC (m : Int) B) = #[.int .i64 m, .int .u64 (B 0 : Int), .int .u64 (B 1 : Int), .int .u64 (B 2 : Int), .int .u64 (B 3 : Int), .int .u64 (B 4 : Int), .int .u64 (B 5 : Int), .int .u64 (B 6 : Int), .int .u64 (B 7 : Int)] := rfl
  rw [ep]
  clear ep
  go_enter Tryd.func106, Tryd.ntmps106
  go_wp2
  go_loopw [5, 9] (fun sv kv wr => ∃ k : Nat, k ≤ m ∧ kv = .int .i64 (k : Int) ∧ sv = .int .u64 (bitsN k (bitT B i) : Nat) ∧ Hid (Below w.heap.size w wr ∧ BlockIs wr w.heap.size 62 (precC (m : Int) B))) (fun _ kv _ => m - (intOf kv).toNat)
  case atStart => exact ⟨0, Nat.zero_le _, rfl, rfl, H0.out⟩
  case round =>
    obtain ⟨k, hk, rfl, rfl, HW⟩ := hrel
    clear H0
    by_cases hlt : k < m
    · have hBk := HW.out.2
      have c0 := hBk.cell 0
      have c1 := hBk.cell 1
      have c2 := hBk.cell 2
      have c3 := hBk.cell 3
      have c4 := hBk.cell 4
      have c5 := hBk.cell 5
      have c6 := hBk.cell 6
      have c7 := hBk.cell 7
      have c8 := hBk.cell 8
      simp only [precC, List.getElem?_toArray, List.getElem?_cons_zero, List.getElem?_cons_succ] at c0 c1 c2 c3 c4 c5 c6 c7 c8
      have HC := Lib.hid (comesBefore_any (m : Int) B hB8 i k (by omega) (by omega) wr)
      have HS := Lib.hid (HBS.out k)
      rw [HBT.out] at HS
      have hsl := HBL.out k (by omega)
      clear hBk
      generalize bitsN k (bitT B i) = sk at *
      go_wp2_with fail
      refine HC.out.mono ?_
      rintro e w5 ⟨rfl, hb5⟩
      have HW5 := Lib.hid (And.intro (HW.out.1.trans (hb5.mono HW.out.1.size)) (HW.out.2.below hb5))
      clear HW hb5 HC c0 c1 c2 c3 c4 c5 c6 c7 c8
      cases hc : (B k).testBit i
      · rw [hc] at HS
        clear hc
        go_wp2
        go_roundw
        case rel => exact ⟨k + 1, by omega, by go_num, by rw [HS.out]; rfl, HW5.out⟩
        case measure => simp [intOf]; omega
      · rw [hc] at HS
        clear hc
        go_wp2_with fail
        refine (with_any sk k hsl (by omega) _).mono ?_
        rintro e _ ⟨rfl, rfl⟩
        go_wp2
        go_roundw
        case rel => exact ⟨k + 1, by omega, by go_num, by rw [HS.out]; rfl, HW5.out⟩
        case measure => simp [intOf]; omega
    · obtain rfl : k = m := by omega
      go_wp2
      go_ret
      exact ⟨rfl, HW.out.1⟩
theorem exec_load10 {o : Oper} {ev : Operand → Value} {x : Operand} {g : Nat} {cs : Array Value} {w : World} (ho : o.op = .load 86 x) (hx : ev x = .pointer (some ⟨g, 0, none⟩)) (h : BlockIs w g 86 cs) (hs : cs.size = 10) :
    (execOp ev o).run Tryd.prog w = .ok (.value (.agg cs)) w := by
  unfold execOp
  simp only [ho, hx, Instr.loadAt, Instr.sureAddr, Sem.run_bind, Sem.run_pure, Result.andThen_ok, load10 h hs]
theorem keepsO_below {W W' : World} (h : Below W.heap.size W W') : KeepsOthers W W' :=
  ⟨h.size, fun k _ hk _ => (h.block k (Array.getElem?_eq_some_iff.1 hk).1).trans hk⟩
-- TAIL
section
variable {A : Option Addr} {c : Nat} {js : List J} {E : List Pr}
set_option maxRecDepth 100000 in
set_option maxHeartbeats 4000000 in
theorem tail_any (hok : ∀ j ∈ js, okJ j = true) (h8 : js.length ≤ 8) (hirr : irrB js.length E js.length = true) : ∀ (f j : Nat) (w : World), f ≤ 9 → j < js.length → cntS js.length (tabB js.length E) j < f → Row w A (jc js) → TzTab w →
    Calls Tryd.prog 88 #[.agg (wlC (.slice A js.length c) (js.length : Int) (befN js.length (tabB js.length E))), .int .i64 (j : Int)] w fun e w' => e = .returned (.int .i64 (tailF js (tabB js.length E) js.length f j)) ∧ Below w.heap.size w w' := by
  intro f
  induction f with
  | zero => intro j w _ _ h; omega
  | succ f ih =>
    intro j w hf9 hj hcj hr hT
    have HIH := Lib.hid (fun i (hi : i < js.length) (ht : tabB js.length E j i = true) W => ih i W (by omega) hi (by have := cntS_lt hirr hi ht; omega))
    have HR := Lib.hid hr
    have HT := Lib.hid hT
    have HRES : Hid (tailF js (tabB js.length E) js.length (f + 1) j = js[j].t + mostL (fun i => tailF js (tabB js.length E) js.length f i) (memB (bitsN js.length (tabB js.length E j)))) := by
      show _ = _
      rw [memB_bits h8, mostL_filter, ← getD_at js j0 hj]
      rfl
    have HBT : Hid (bitsN js.length (bitT (befN js.length (tabB js.length E)) j) = bitsN js.length (tabB js.length E j)) := by
      show _ = _
      have : ∀ k, bitT (befN js.length (tabB js.length E)) j k = tabB js.length E j k := fun k => by unfold bitT; rw [bef_bit, decide_eq_true hj, Bool.true_and]
      congr 1
      funext k
      exact this k
    have HMEM : Hid (∀ x, (bitsN js.length (tabB js.length E j)).testBit x = true → x < js.length ∧ tabB js.length E j x = true) := fun x hx => by
      rw [bits_bit, Bool.and_eq_true, decide_eq_true_eq] at hx
      exact hx
    have hs : bitsN js.length (tabB js.length E j) < 256 := bits_lt h8 _
    have HGB : Hid (∀ x, x < js.length → 0 ≤ tailF js (tabB js.length E) js.length f x ∧ tailF js (tabB js.length E) js.length f x ≤ 50 * (f : Int)) := fun x hx => tailF_bd hok _ f x hx
    have HBE := Lib.hid (fun W => behind_any js.length h8 (befN js.length (tabB js.length E)) (fun k _ => bef_lt h8 _ k) j (by omega) W)
    rw [HBT.out] at HBE
    have hjt := okJ_out (hok _ (List.getElem_mem hj))
    clear ih hr hT hcj hirr HBT
    rw [HRES.out]
    clear HRES
    generalize befN js.length (tabB js.length E) = B at *
    generalize bitsN js.length (tabB js.length E j) = s at *
    generalize tailF js (tabB js.length E) js.length f = tf at *
    have hb1 := (Below.refl w.heap.size w).alloc (Nat.le_refl _) (.cells (wlC (.slice A js.length c) (js.length : Int) B) 86)
    have hB1 := BlockIs.new w 86 (wlC (.slice A js.length c) (js.length : Int) B)
    have hb2 := hb1.alloc hb1.size (.cells #[.int .i64 0] 3)
    have hB2 := hB1.below ((Below.refl _ _).alloc (Nat.le_refl _) (.cells #[.int .i64 0] 3))
    have hx2 := Boxed.new (w.alloc (.cells (wlC (.slice A js.length c) (js.length : Int) B) 86)) 3 (.int .i64 0)
    rw [World.size_alloc] at hx2
    have H2 := Lib.hid (And.intro hb2 (And.intro hB2 hx2))
    have c0 := hB2.cell 0
    have c1 := hB2.cell 1
    have c2 := hB2.cell 2
    have c3 := hB2.cell 3
    have c4 := hB2.cell 4
    have c5 := hB2.cell 5
    have c6 := hB2.cell 6
    have c7 := hB2.cell 7
    have c8 := hB2.cell 8
    have c9 := hB2.cell 9
    simp only [wlC, List.getElem?_toArray, List.getElem?_cons_zero, List.getElem?_cons_succ] at c0 c1 c2 c3 c4 c5 c6 c7 c8 c9
    clear hb1 hB1 hb2 hB2 hx2
    have ew : wlC (.slice A js.length c) (js.length : Int) B = #[.slice A js.length c, .int .i64 (js.length : Int), .int .u64 (B 0 : Int), .int .u64 (B 1 : Int), .int .u64 (B 2 : Int), .int .u64 (B 3 : Int), .int .u64 (B 4 : Int), .int .u64 (B 5 : Int), .int .u64 (B 6 : Int), .int .u64 (B 7 : Int)] := rfl
    rw [ew]
    refine (callsIn_wide (n := 6)).1 ?_
    refine callsIn_of_wp_marks Tryd.func88 rfl trivial ?_ rfl
    simp only [Tryd.ntmps88, List.size_toArray, List.length_cons, List.length_nil, Nat.reduceAdd, Nat.reduceSub, Array.replicate_succ, Array.replicate_zero, List.push_toArray, List.append_toArray, List.nil_append, List.cons_append]
    gi_wp2_with (first
      | (refine ⟨trivial, ?_⟩; gi_at_call 106; refine (callsIn_wide.2 (HBE.out _)).mono ?_; rintro e W1 ⟨rfl, hbW1⟩)
      | (refine ⟨trivial, ?_⟩; gi_at_call 78; refine (members_in 5 _ _).mono ?_; rintro e w' ⟨rfl, rfl⟩))
    clear c0 c1 c2 c3 c4 c5 c6 c7 c8 c9 HBE
    have H3 := Lib.hid (And.intro (H2.out.1.trans (hbW1.mono H2.out.1.size)) (And.intro (H2.out.2.1.below hbW1) ((show BlockIs _ (w.heap.size + 1) 3 #[.int .i64 0] from H2.out.2.2).below hbW1)))
    have hz1 : w.heap.size + 1 < W1.heap.size := by have := H3.out.2.2.lt; exact this
    clear H2 hbW1
    have b2 := Boxed.new W1 59 (.int .u64 (s : Int))
    have hbA : Below W1.heap.size W1 (W1.alloc (.cells #[.int .u64 (s : Int)] 59)) := (Below.refl _ _).alloc (Nat.le_refl _) _
    have H4 := Lib.hid (And.intro (H3.out.1.alloc H3.out.1.size (.cells #[.int .u64 (s : Int)] 59)) (And.intro (H3.out.2.1.below hbA) (And.intro (show Boxed _ (w.heap.size + 1) 3 (.int .i64 0) from H3.out.2.2.below hbA) b2)))
    have hz4 : (W1.alloc (.cells #[.int .u64 (s : Int)] 59)).heap.size = W1.heap.size + 1 := by simp
    clear H3 b2 hbA
    obtain ⟨gS, hgS⟩ : ∃ gS, gS = W1.heap.size := ⟨_, rfl⟩
    rw [← hgS] at H4 hz4 hz1 ⊢
    clear hgS
    generalize W1.alloc (.cells #[.int .u64 (s : Int)] 59) = w3 at *
    obtain ⟨hb3, hB3, hx3, b2⟩ := H4.out
    refine wpIn_rangeFunc_ownG (F := Fence.wide) rfl (by omega) (gf := 100) (lb := #[.pointer (some ⟨gS, 0, none⟩)]) rfl trivial (enters_of Tryd.func100 (by kernel_rfl) rfl)
      (members_stops 5 (by omega) gS s hs w3 (by omega) b2 (HT.out.below hb3))
      (fun h k t => k (h t)) (fun W l' o o' hl ho hc _ => KeepsTz.put ho hc) (Below.refl _ _) (fun _ => rfl)
      (fun (pre : List (Mb s)) W => (BlockIs W w.heap.size 86 (wlC (.slice A js.length c) (js.length : Int) B) ∧ Boxed W (w.heap.size + 1) 3 (.int .i64 (mostL tf (vals pre)))) ∧ Below w.heap.size w W)
      (fun _ _ _ => False)
      (OwnFrom.and (OwnFrom.and (Own.from (block_ownF _ _ _) _) (Own.from (boxed_own _ _ _) _)) (ownFrom_below (Nat.le_refl _) (by omega)))
      (fun _ _ _ _ _ h _ _ => h)
      ⟨⟨hB3, hx3⟩, hb3⟩
      (fun x => { tmps := #[.agg #[.slice A js.length c, .int .i64 (js.length : Int), .int .u64 (B 0 : Int), .int .u64 (B 1 : Int), .int .u64 (B 2 : Int), .int .u64 (B 3 : Int), .int .u64 (B 4 : Int), .int .u64 (B 5 : Int), .int .u64 (B 6 : Int), .int .u64 (B 7 : Int)], .int .i64 (j : Int), .pointer (some ⟨w.heap.size, 0, none⟩), undef, .int .i64 0, .pointer (some ⟨w.heap.size + 1, 0, none⟩), .int .i64 (x.1 : Int), .pointer (some ⟨w.heap.size, 1, none⟩), .agg #[.int .i64 (js.length : Int), .int .u64 (B 0 : Int), .int .u64 (B 1 : Int), .int .u64 (B 2 : Int), .int .u64 (B 3 : Int), .int .u64 (B 4 : Int), .int .u64 (B 5 : Int), .int .u64 (B 6 : Int), .int .u64 (B 7 : Int)], .int .i64 (j : Int), .int .u64 (s : Int), .func (.func 100) #[] #[.pointer (some ⟨gS, 0, none⟩)], .int .i64 (x.1 : Int), undef, undef, undef, undef, undef, undef, undef, undef, undef, undef, undef, undef, undef], defers := [] }) ?assign ?body ?done ?stop
    case assign =>
      intro l' x W K hK
      unfold encM
      gi_wp2
      exact hK
    case body =>
      rintro l' pre ⟨x, hx⟩ W ⟨⟨y0, y1⟩, hb⟩ hl
      obtain ⟨hxl, htx⟩ := HMEM.out x hx
      have hmo : Tryd.prog.follows .mixedOrders = true := by kernel_rfl
      have HSN : Hid (mostL tf (vals (pre ++ [(⟨x, hx⟩ : Mb s)])) = max (mostL tf (vals pre)) (tf x)) := by show _ = _; rw [vals_snoc, mostL_snoc]
      have hgx := HGB.out x hxl
      have hx0 : (0 : Int) ≤ x := by omega
      have HCX := Lib.hid (HIH.out x hxl htx)
      have hrW := HR.out
      generalize mostL tf (vals pre) = sm at *
      generalize tf x = tx at *
      dsimp only
      gi_wp2
      have hKO : KeepsOthers W W.drew := KeepsOthers.drew W
      have hmx : (if sm < tx then tx else sm) = max sm tx := by split <;> omega
      have kb : ∀ {X Y : World}, (KeepsOthers W X ∧ Below w.heap.size w X ∧ BlockIs X w.heap.size 86 (wlC (.slice A js.length c) (js.length : Int) B)) → Below X.heap.size X Y → (KeepsOthers W Y ∧ Below w.heap.size w Y ∧ BlockIs Y w.heap.size 86 (wlC (.slice A js.length c) (js.length : Int) B)) := fun h hb => ⟨h.1.trans (keepsO_below hb), h.2.1.trans (hb.mono h.2.1.size), h.2.2.below hb⟩
      have ob : ∀ {X Y : World}, (BlockIs X (w.heap.size + 1) 3 #[.int .i64 sm]) → Below X.heap.size X Y → (BlockIs Y (w.heap.size + 1) 3 #[.int .i64 sm]) := fun h hb => h.below hb
      have nb : ∀ {X Y : World}, (BlockIs X (w.heap.size + 1) 3 #[.int .i64 (max sm tx)]) → Below X.heap.size X Y → (BlockIs Y (w.heap.size + 1) 3 #[.int .i64 (max sm tx)]) := fun h hb => h.below hb
      refine wpIn_region_detZ (fun _ => trivial) rfl (fun _ _ _ _ h => (callsIn_wide.2 h).inRound l') (by kernel_rfl) hmo (fun L w' => (KeepsOthers W w' ∧ Below w.heap.size w w' ∧ BlockIs w' w.heap.size 86 (wlC (.slice A js.length c) (js.length : Int) B)) ∧ (L.getD 5 true = false → BlockIs w' (w.heap.size + 1) 3 #[.int .i64 sm]) ∧ (L.getD 5 true = true → BlockIs w' (w.heap.size + 1) 3 #[.int .i64 (max sm tx)])) (fun kk => (#[.int .i64 sm, .agg #[.slice A js.length c, .int .i64 (js.length : Int), .int .u64 (B 0 : Int), .int .u64 (B 1 : Int), .int .u64 (B 2 : Int), .int .u64 (B 3 : Int), .int .u64 (B 4 : Int), .int .u64 (B 5 : Int), .int .u64 (B 6 : Int), .int .u64 (B 7 : Int)], .int .i64 (x : Int), .int .i64 tx, .int .i64 (max sm tx), undef] : Array Value).getD kk undef) (by kernel_rfl) (by kernel_rfl) ⟨⟨hKO, hb.drew, y0⟩, fun _ => y1, fun h => by cases h⟩ ?_ ?_
      · intro L tm w' hall hS hsz hlow hval
        have ht : tm = #[.agg #[.slice A js.length c, .int .i64 (js.length : Int), .int .u64 (B 0 : Int), .int .u64 (B 1 : Int), .int .u64 (B 2 : Int), .int .u64 (B 3 : Int), .int .u64 (B 4 : Int), .int .u64 (B 5 : Int), .int .u64 (B 6 : Int), .int .u64 (B 7 : Int)], .int .i64 (j : Int), .pointer (some ⟨w.heap.size, 0, none⟩), undef, .int .i64 0, .pointer (some ⟨w.heap.size + 1, 0, none⟩), .int .i64 (x : Int), .pointer (some ⟨w.heap.size, 1, none⟩), .agg #[.int .i64 (js.length : Int), .int .u64 (B 0 : Int), .int .u64 (B 1 : Int), .int .u64 (B 2 : Int), .int .u64 (B 3 : Int), .int .u64 (B 4 : Int), .int .u64 (B 5 : Int), .int .u64 (B 6 : Int), .int .u64 (B 7 : Int)], .int .i64 (j : Int), .int .u64 (s : Int), .func (.func 100) #[] #[.pointer (some ⟨gS, 0, none⟩)], .int .i64 (x : Int), .int .i64 sm, .agg #[.slice A js.length c, .int .i64 (js.length : Int), .int .u64 (B 0 : Int), .int .u64 (B 1 : Int), .int .u64 (B 2 : Int), .int .u64 (B 3 : Int), .int .u64 (B 4 : Int), .int .u64 (B 5 : Int), .int .u64 (B 6 : Int), .int .u64 (B 7 : Int)], .int .i64 (x : Int), .int .i64 tx, .int .i64 (max sm tx), undef, undef, undef, undef, undef, undef, undef, undef] := by
          refine arr_of _ _ hsz fun t ht => ?_
          have ht' : t < 26 := ht
          rcases (by omega : t = 0 ∨ t = 1 ∨ t = 2 ∨ t = 3 ∨ t = 4 ∨ t = 5 ∨ t = 6 ∨ t = 7 ∨ t = 8 ∨ t = 9 ∨ t = 10 ∨ t = 11 ∨ t = 12 ∨ t = 13 ∨ t = 14 ∨ t = 15 ∨ t = 16 ∨ t = 17 ∨ t = 18 ∨ t = 19 ∨ t = 20 ∨ t = 21 ∨ t = 22 ∨ t = 23 ∨ t = 24 ∨ t = 25) with rfl | rfl | rfl | rfl | rfl | rfl | rfl | rfl | rfl | rfl | rfl | rfl | rfl | rfl | rfl | rfl | rfl | rfl | rfl | rfl | rfl | rfl | rfl | rfl | rfl | rfl
          · exact hlow 0 (by kernel_rfl)
          · exact hlow 1 (by kernel_rfl)
          · exact hlow 2 (by kernel_rfl)
          · exact hlow 3 (by kernel_rfl)
          · exact hlow 4 (by kernel_rfl)
          · exact hlow 5 (by kernel_rfl)
          · exact hlow 6 (by kernel_rfl)
          · exact hlow 7 (by kernel_rfl)
          · exact hlow 8 (by kernel_rfl)
          · exact hlow 9 (by kernel_rfl)
          · exact hlow 10 (by kernel_rfl)
          · exact hlow 11 (by kernel_rfl)
          · exact hlow 12 (by kernel_rfl)
          · exact hval 0 _ 13 rfl rfl
          · exact hval 1 _ 14 rfl rfl
          · exact hval 2 _ 15 rfl rfl
          · exact hval 3 _ 16 rfl rfl
          · exact hval 4 _ 17 rfl rfl
          · exact hlow 18 (by kernel_rfl)
          · exact hlow 19 (by kernel_rfl)
          · exact hlow 20 (by kernel_rfl)
          · exact hlow 21 (by kernel_rfl)
          · exact hlow 22 (by kernel_rfl)
          · exact hlow 23 (by kernel_rfl)
          · exact hlow 24 (by kernel_rfl)
          · exact hlow 25 (by kernel_rfl)
        subst ht
        have HF := Lib.hid (And.intro hS.1 (hS.2.2 (hall 5 (by decide))))
        clear hlow hval hsz hall hS
        gi_wp2
        exact ⟨HF.out.1.1.from _, fun _ => HT.out.below HF.out.1.2.1, ⟨HF.out.1.2.2, by rw [HSN.out]; exact HF.out.2⟩, HF.out.1.2.1⟩
      · intro L ac w' q op hLs hop hLi hLd hLn ⟨hS0, hS1, hS2⟩ hlow hdep _
        have hq : q < 6 := (Array.getElem?_eq_some_iff.1 hop).1
        have K : ∀ {WK : World} {q : Nat}, q ≠ 5 → (KeepsOthers W WK ∧ Below w.heap.size w WK ∧ BlockIs WK w.heap.size 86 (wlC (.slice A js.length c) (js.length : Int) B)) → (L.getD 5 true = false → BlockIs WK (w.heap.size + 1) 3 #[.int .i64 sm]) → (L.getD 5 true = true → BlockIs WK (w.heap.size + 1) 3 #[.int .i64 (max sm tx)]) → (KeepsOthers W WK ∧ Below w.heap.size w WK ∧ BlockIs WK w.heap.size 86 (wlC (.slice A js.length c) (js.length : Int) B)) ∧ ((L.setIfInBounds q true).getD 5 true = false → BlockIs WK (w.heap.size + 1) 3 #[.int .i64 sm]) ∧ ((L.setIfInBounds q true).getD 5 true = true → BlockIs WK (w.heap.size + 1) 3 #[.int .i64 (max sm tx)]) := by
          intro WK q h9 ka kb2 kc
          rw [getD_set_true, if_neg (fun h => h9 h.1)]
          exact ⟨ka, kb2, kc⟩
        rcases (by omega : q = 0 ∨ q = 1 ∨ q = 2 ∨ q = 3 ∨ q = 4 ∨ q = 5) with rfl | rfl | rfl | rfl | rfl | rfl
        · obtain rfl := Option.some.inj hop
          have e5 : ac.tmps[5]?.getD undef = .pointer (some ⟨w.heap.size + 1, 0, none⟩) := (Array.getD_eq_getD_getElem? ..).symm.trans (hlow 5 (by kernel_rfl))
          have hc := (hS1 (hLn 5 (by kernel_rfl))).cell 0
          simp only [List.getElem?_toArray, List.getElem?_cons_zero] at hc
          exact ⟨wanted_free rfl, .inl (.inl ⟨w', by simp [execOp, Act.eval, e5, hc, go_sem], K (by decide) hS0 hS1 hS2⟩)⟩
        · obtain rfl := Option.some.inj hop
          have e2 : ac.tmps[2]?.getD undef = .pointer (some ⟨w.heap.size, 0, none⟩) := (Array.getD_eq_getD_getElem? ..).symm.trans (hlow 2 (by kernel_rfl))
          exact ⟨wanted_free rfl, .inl (.inl ⟨w', exec_load10 (x := .tmp 2) rfl (hlow 2 (by kernel_rfl)) hS0.2.2 rfl, K (by decide) hS0 hS1 hS2⟩)⟩
        · obtain rfl := Option.some.inj hop
          have e6 : ac.tmps[6]?.getD undef = .int .i64 (x : Int) := (Array.getD_eq_getD_getElem? ..).symm.trans (hlow 6 (by kernel_rfl))
          exact ⟨wanted_free rfl, .inl (.inl ⟨w', by simp [execOp, Act.eval, e6, go_sem], K (by decide) hS0 hS1 hS2⟩)⟩
        · obtain rfl := Option.some.inj hop
          have e14 : ac.tmps[14]?.getD undef = .agg #[.slice A js.length c, .int .i64 (js.length : Int), .int .u64 (B 0 : Int), .int .u64 (B 1 : Int), .int .u64 (B 2 : Int), .int .u64 (B 3 : Int), .int .u64 (B 4 : Int), .int .u64 (B 5 : Int), .int .u64 (B 6 : Int), .int .u64 (B 7 : Int)] := (Array.getD_eq_getD_getElem? ..).symm.trans (hdep 1 _ 14 (by kernel_rfl) rfl rfl)
          have e15 : ac.tmps[15]?.getD undef = .int .i64 (x : Int) := (Array.getD_eq_getD_getElem? ..).symm.trans (hdep 2 _ 15 (by kernel_rfl) rfl rfl)
          refine ⟨wanted_free rfl, .inl (.inr ⟨88, #[.agg #[.slice A js.length c, .int .i64 (js.length : Int), .int .u64 (B 0 : Int), .int .u64 (B 1 : Int), .int .u64 (B 2 : Int), .int .u64 (B 3 : Int), .int .u64 (B 4 : Int), .int .u64 (B 5 : Int), .int .u64 (B 6 : Int), .int .u64 (B 7 : Int)], .int .i64 (x : Int)], by simp [execOp, Act.eval, e14, e15, go_sem], (HCX.out w' (HR.out.below hS0.2.1) (HT.out.below hS0.2.1)).mono ?_⟩)⟩
          rintro e w2 ⟨rfl, hb⟩
          exact ⟨rfl, K (by decide) (kb hS0 hb) (fun h => ob (hS1 h) hb) (fun h => nb (hS2 h) hb)⟩
        · obtain rfl := Option.some.inj hop
          have e13 : ac.tmps[13]?.getD undef = .int .i64 sm := (Array.getD_eq_getD_getElem? ..).symm.trans (hdep 0 _ 13 (by kernel_rfl) rfl rfl)
          have e16 : ac.tmps[16]?.getD undef = .int .i64 tx := (Array.getD_eq_getD_getElem? ..).symm.trans (hdep 3 _ 16 (by kernel_rfl) rfl rfl)
          exact ⟨wanted_free rfl, .inl (.inl ⟨w', by simp [execOp, Act.eval, e13, e16, hmx, go_sem], K (by decide) hS0 hS1 hS2⟩)⟩
        · obtain rfl := Option.some.inj hop
          have e5 : ac.tmps[5]?.getD undef = .pointer (some ⟨w.heap.size + 1, 0, none⟩) := (Array.getD_eq_getD_getElem? ..).symm.trans (hlow 5 (by kernel_rfl))
          have e17 : ac.tmps[17]?.getD undef = .int .i64 (max sm tx) := (Array.getD_eq_getD_getElem? ..).symm.trans (hdep 4 _ 17 (by kernel_rfl) rfl rfl)
          have hO := hS1 hLi
          have hc := hO.cell 0
          simp only [List.getElem?_toArray, List.getElem?_cons_zero] at hc
          have fz := hO.frozen 0
          refine ⟨wanted_free rfl, .inr ⟨w'.setCell ⟨w.heap.size + 1, 0, none⟩ (.int .i64 (max sm tx)), rfl, by simp [execOp, Act.eval, e5, e17, hc, fz, go_sem], ?_⟩⟩
          refine ⟨⟨hS0.1.trans (KeepsOthers.setCell _ _ _), hS0.2.1.setCell (p := ⟨w.heap.size + 1, 0, none⟩) (by show _ ≤ w.heap.size + 1; omega) _, hS0.2.2.away (g' := w.heap.size + 1) (by omega) _ _⟩, fun h => ?_, fun _ => hO.set 0 _⟩
          rw [getD_set_true, if_pos ⟨rfl, by rw [hLs]; decide⟩] at h
          cases h
    case done =>
      rintro D ys W hD hys ⟨⟨y0, y1⟩, hb⟩ hK
      have hmo : Tryd.prog.follows .mixedOrders = true := by kernel_rfl
      rw [hys] at y1
      have hml := mostL_bd (g := tf) (m := 50 * (f : Int)) (by omega) (memB s) (fun i hi => (HGB.out i (HMEM.out i ((memB_mem hs).1 hi)).1).2)
      obtain ⟨ad, rfl, _, hc0, hc1, hc2, hc3⟩ := HR.out.job hj
      have HJ := Lib.hid (fun W' (h : Below w.heap.size w W') => (HR.out.below h).job hj)
      have hj1 : (j : Int) < js.length := by omega
      have hj0 : (0 : Int) ≤ j := by omega
      obtain ⟨mm, hmm⟩ : ∃ mm, mostL tf (memB s) = mm := ⟨_, rfl⟩
      rw [hmm] at y1 hml
      have HMM := Lib.hid hmm
      clear hmm
      have hwr := IntWalk.i64_in (js[j].t + mm) (by omega)
      clear hc0 hc1 hc2 hc3
      have HJT : Hid (∀ W', Below w.heap.size w W' → W'.cell? (ad.add (j * 4)) = some (.int .i64 js[j].t)) := fun W' h => by
        obtain ⟨ad', e, _, hc, _⟩ := HJ.out W' h
        obtain rfl := Option.some.inj e
        exact hc
      clear HJ
      obtain ⟨tj, htj⟩ : ∃ tj, js[j].t = tj := ⟨_, rfl⟩
      rw [htj] at HJT hwr
      have HTJ := Lib.hid htj
      clear htj hjt
      gi_wp2
      refine wpIn_region_detZ (fun _ => trivial) rfl (fun _ _ _ _ h => callsIn_wide.2 h) (by kernel_rfl) hmo (fun L w' => w' = W.drew) (fun kk => (#[.pointer (some ⟨w.heap.size, 0, none⟩), .slice (some ad) js.length c, .int .i64 (j : Int), .pointer (some (ad.add (j * 4))), .pointer (some (ad.add (j * 4))), .int .i64 tj, .int .i64 mm, .int .i64 (tj + mm), .int .i64 (tj + mm)] : Array Value).getD kk undef) (by kernel_rfl) (by kernel_rfl) rfl ?_ ?_
      · intro L tm w' hall hS hsz hlow hval
        have ht : tm = #[.agg #[.slice (some ad) js.length c, .int .i64 (js.length : Int), .int .u64 (B 0 : Int), .int .u64 (B 1 : Int), .int .u64 (B 2 : Int), .int .u64 (B 3 : Int), .int .u64 (B 4 : Int), .int .u64 (B 5 : Int), .int .u64 (B 6 : Int), .int .u64 (B 7 : Int)], .int .i64 (j : Int), .pointer (some ⟨w.heap.size, 0, none⟩), undef, .int .i64 (tj + mm), .pointer (some ⟨w.heap.size + 1, 0, none⟩), undef, .pointer (some ⟨w.heap.size, 1, none⟩), .agg #[.int .i64 (js.length : Int), .int .u64 (B 0 : Int), .int .u64 (B 1 : Int), .int .u64 (B 2 : Int), .int .u64 (B 3 : Int), .int .u64 (B 4 : Int), .int .u64 (B 5 : Int), .int .u64 (B 6 : Int), .int .u64 (B 7 : Int)], .int .i64 (j : Int), .int .u64 (s : Int), .func (.func 100) #[] #[.pointer (some ⟨gS, 0, none⟩)], undef, undef, undef, undef, undef, undef, .pointer (some ⟨w.heap.size, 0, none⟩), .slice (some ad) js.length c, .int .i64 (j : Int), .pointer (some (ad.add (j * 4))), .pointer (some (ad.add (j * 4))), .int .i64 tj, .int .i64 mm, .int .i64 (tj + mm)] := by
          refine arr_of _ _ hsz fun t ht => ?_
          have ht' : t < 26 := ht
          rcases (by omega : t = 0 ∨ t = 1 ∨ t = 2 ∨ t = 3 ∨ t = 4 ∨ t = 5 ∨ t = 6 ∨ t = 7 ∨ t = 8 ∨ t = 9 ∨ t = 10 ∨ t = 11 ∨ t = 12 ∨ t = 13 ∨ t = 14 ∨ t = 15 ∨ t = 16 ∨ t = 17 ∨ t = 18 ∨ t = 19 ∨ t = 20 ∨ t = 21 ∨ t = 22 ∨ t = 23 ∨ t = 24 ∨ t = 25) with rfl | rfl | rfl | rfl | rfl | rfl | rfl | rfl | rfl | rfl | rfl | rfl | rfl | rfl | rfl | rfl | rfl | rfl | rfl | rfl | rfl | rfl | rfl | rfl | rfl | rfl
          · exact hlow 0 (by kernel_rfl)
          · exact hlow 1 (by kernel_rfl)
          · exact hlow 2 (by kernel_rfl)
          · exact hlow 3 (by kernel_rfl)
          · exact hval 8 _ 4 rfl rfl
          · exact hlow 5 (by kernel_rfl)
          · exact hlow 6 (by kernel_rfl)
          · exact hlow 7 (by kernel_rfl)
          · exact hlow 8 (by kernel_rfl)
          · exact hlow 9 (by kernel_rfl)
          · exact hlow 10 (by kernel_rfl)
          · exact hlow 11 (by kernel_rfl)
          · exact hlow 12 (by kernel_rfl)
          · exact hlow 13 (by kernel_rfl)
          · exact hlow 14 (by kernel_rfl)
          · exact hlow 15 (by kernel_rfl)
          · exact hlow 16 (by kernel_rfl)
          · exact hlow 17 (by kernel_rfl)
          · exact hval 0 _ 18 rfl rfl
          · exact hval 1 _ 19 rfl rfl
          · exact hval 2 _ 20 rfl rfl
          · exact hval 3 _ 21 rfl rfl
          · exact hval 4 _ 22 rfl rfl
          · exact hval 5 _ 23 rfl rfl
          · exact hval 6 _ 24 rfl rfl
          · exact hval 7 _ 25 rfl rfl
        subst ht
        have HF := Lib.hid hS
        clear hlow hval hsz hall hS
        obtain rfl : w' = W.drew := HF.out
        gi_wp2
        refine ⟨by simp, .inl ⟨_, _, rfl, run_takeDeferred hK, ?_⟩⟩
        exact ⟨_, results_tmp rfl _ _ _, by rw [HTJ.out, show mostL (fun i => tf i) (memB s) = mm from HMM.out]; rfl, hb.drew.trans (belowK_b (w := w3) (by omega) W.drew D _ _ (by omega) hK rfl rfl)⟩
      · intro L ac w' q op hLs hop hLi hLd hLn hS0 hlow hdep _
        have hq : q < 9 := (Array.getElem?_eq_some_iff.1 hop).1
        rcases (by omega : q = 0 ∨ q = 1 ∨ q = 2 ∨ q = 3 ∨ q = 4 ∨ q = 5 ∨ q = 6 ∨ q = 7 ∨ q = 8) with rfl | rfl | rfl | rfl | rfl | rfl | rfl | rfl | rfl
        · obtain rfl := Option.some.inj hop
          have e2 : ac.tmps[2]?.getD undef = .pointer (some ⟨w.heap.size, 0, none⟩) := (Array.getD_eq_getD_getElem? ..).symm.trans (hlow 2 (by kernel_rfl))
          exact ⟨wanted_free rfl, .inl (.inl ⟨w', by simp [execOp, Act.eval, e2, go_sem], hS0⟩)⟩
        · obtain rfl := Option.some.inj hop
          have e18 : ac.tmps[18]?.getD undef = .pointer (some ⟨w.heap.size, 0, none⟩) := (Array.getD_eq_getD_getElem? ..).symm.trans (hdep 0 _ 18 (by kernel_rfl) rfl rfl)
          have hc : w'.cell? ⟨w.heap.size, 0, none⟩ = some (.slice (some ad) js.length c) := by rw [hS0]; exact y0.cell 0
          exact ⟨wanted_free rfl, .inl (.inl ⟨w', by simp [execOp, Act.eval, e18, hc, go_sem], hS0⟩)⟩
        · obtain rfl := Option.some.inj hop
          have e1 : ac.tmps[1]?.getD undef = .int .i64 (j : Int) := (Array.getD_eq_getD_getElem? ..).symm.trans (hlow 1 (by kernel_rfl))
          exact ⟨wanted_free rfl, .inl (.inl ⟨w', by simp [execOp, Act.eval, e1, go_sem], hS0⟩)⟩
        · obtain rfl := Option.some.inj hop
          have e19 : ac.tmps[19]?.getD undef = .slice (some ad) js.length c := (Array.getD_eq_getD_getElem? ..).symm.trans (hdep 1 _ 19 (by kernel_rfl) rfl rfl)
          have e20 : ac.tmps[20]?.getD undef = .int .i64 (j : Int) := (Array.getD_eq_getD_getElem? ..).symm.trans (hdep 2 _ 20 (by kernel_rfl) rfl rfl)
          exact ⟨wanted_free rfl, .inl (.inl ⟨w', by simp [execOp, Act.eval, e19, e20, hj0, hj1, go_sem], hS0⟩)⟩
        · obtain rfl := Option.some.inj hop
          have e21 : ac.tmps[21]?.getD undef = .pointer (some (ad.add (j * 4))) := (Array.getD_eq_getD_getElem? ..).symm.trans (hdep 3 _ 21 (by kernel_rfl) rfl rfl)
          exact ⟨wanted_free rfl, .inl (.inl ⟨w', by simp [execOp, Act.eval, e21, go_sem], hS0⟩)⟩
        · obtain rfl := Option.some.inj hop
          have e22 : ac.tmps[22]?.getD undef = .pointer (some (ad.add (j * 4))) := (Array.getD_eq_getD_getElem? ..).symm.trans (hdep 4 _ 22 (by kernel_rfl) rfl rfl)
          have hc : w'.cell? (ad.add (j * 4)) = some (.int .i64 tj) := by rw [hS0]; exact HJT.out W.drew hb.drew
          exact ⟨wanted_free rfl, .inl (.inl ⟨w', by simp [execOp, Act.eval, e22, hc, go_sem], hS0⟩)⟩
        · obtain rfl := Option.some.inj hop
          have e5 : ac.tmps[5]?.getD undef = .pointer (some ⟨w.heap.size + 1, 0, none⟩) := (Array.getD_eq_getD_getElem? ..).symm.trans (hlow 5 (by kernel_rfl))
          have hc : w'.cell? ⟨w.heap.size + 1, 0, none⟩ = some (.int .i64 mm) := by rw [hS0]; exact y1.cell
          exact ⟨wanted_free rfl, .inl (.inl ⟨w', by simp [execOp, Act.eval, e5, hc, go_sem], hS0⟩)⟩
        · obtain rfl := Option.some.inj hop
          have e23 : ac.tmps[23]?.getD undef = .int .i64 tj := (Array.getD_eq_getD_getElem? ..).symm.trans (hdep 5 _ 23 (by kernel_rfl) rfl rfl)
          have e24 : ac.tmps[24]?.getD undef = .int .i64 mm := (Array.getD_eq_getD_getElem? ..).symm.trans (hdep 6 _ 24 (by kernel_rfl) rfl rfl)
          exact ⟨wanted_free rfl, .inl (.inl ⟨w', by simp [execOp, Act.eval, e23, e24, hwr, go_sem], hS0⟩)⟩
        · obtain rfl := Option.some.inj hop
          have e25 : ac.tmps[25]?.getD undef = .int .i64 (tj + mm) := (Array.getD_eq_getD_getElem? ..).symm.trans (hdep 7 _ 25 (by kernel_rfl) rfl rfl)
          exact ⟨wanted_free rfl, .inl (.inl ⟨w', by simp [execOp, Act.eval, e25, go_sem], hS0⟩)⟩
    case stop =>
      rintro D cd pre W _ _ h _
      exact h.elim
end
end Go.Proofs.YtapbgmmkkngdoaaDoor

namespace Go.Proofs.YtapbgmmkkngdoaaDoor
open Go.RowKit
theorem BlockIs.cast {w : World} {g : Nat} {t : TypeId} {cs ds : Array Value} (h : BlockIs w g t cs) (e : cs = ds) : BlockIs w g t ds := by subst e; exact h
theorem tailsL_at (js : List J) (E : List Ed) {k : Nat} (hk : k < js.length) : (tailsL js E)[k]'(by rw [tailsL_len]; exact hk) = tailF js (tabB js.length E) js.length 9 k := by unfold tailsL; simp
set_option maxRecDepth 100000 in
set_option maxHeartbeats 2000000 in
theorem tails_any (A : Option Addr) (c : Nat) (js : List J) (E : List Pr) (w : World) (hr : Row w A (jc js)) (hok : ∀ j ∈ js, okJ j = true) (h8 : js.length ≤ 8) (hirr : irrB js.length E js.length = true) (hT : TzTab w) :
    Calls Tryd.prog 62 #[.agg (wlC (.slice A js.length c) (js.length : Int) (befN js.length (tabB js.length E)))] w fun e w' => ∃ g, e = .returned (.slice (some ⟨g, 0, none⟩) js.length js.length) ∧ w.heap.size ≤ g ∧ BlockIs w' g 3 (ic (tailsL js E)).toArray ∧ Below w.heap.size w w' := by
  have hmk := run_make_row' (P := Tryd.prog) 29 3 (.int .i64 0) 8 Tryd.underlying29 infoI rfl .i64 .i64 js.length (by omega) (by omega)
  have HTL := Lib.hid (fun W k (hb : Below w.heap.size w W) (hk : k < js.length) => tail_any (c := c) hok h8 hirr 9 k W (by omega) hk (by have := cntS_le js.length (tabB js.length E) k; omega) (hr.below hb) (hT.below hb))
  obtain ⟨B, hB⟩ : ∃ B, befN js.length (tabB js.length E) = B := ⟨_, rfl⟩
  rw [hB] at HTL ⊢
  clear hB
  have hb1 := (Below.refl w.heap.size w).alloc (Nat.le_refl _) (.cells (wlC (.slice A js.length c) (js.length : Int) B) 86)
  have hB1 := BlockIs.new w 86 (wlC (.slice A js.length c) (js.length : Int) B)
  have c0 := hB1.cell 0
  have c1 := hB1.cell 1
  have c2 := hB1.cell 2
  have c3 := hB1.cell 3
  have c4 := hB1.cell 4
  have c5 := hB1.cell 5
  have c6 := hB1.cell 6
  have c7 := hB1.cell 7
  have c8 := hB1.cell 8
  have c9 := hB1.cell 9
  simp only [wlC, List.getElem?_toArray, List.getElem?_cons_zero, List.getElem?_cons_succ] at c0 c1 c2 c3 c4 c5 c6 c7 c8 c9
  have hb2 := hb1.alloc hb1.size (.cells (madeCells #[.int .i64 0] js.length) 3)
  have hB2 := hB1.below ((Below.refl _ _).alloc (Nat.le_refl _) (.cells (madeCells #[.int .i64 0] js.length) 3))
  have hG2 := BlockIs.new (w.alloc (.cells (wlC (.slice A js.length c) (js.length : Int) B) 86)) 3 (madeCells #[.int .i64 0] js.length)
  rw [World.size_alloc] at hG2
  have hG3 := hG2.cast (ic_made js.length)
  have H0 := Lib.hid (And.intro hb2 (And.intro hB2 hG3))
  have hTL : (tailsL js E).length = js.length := tailsL_len js E
  have HAT : Hid (∀ k (hk : k < js.length), (tailsL js E)[k]'(by rw [tailsL_len]; exact hk) = tailF js (tabB js.length E) js.length 9 k) := fun k hk => tailsL_at js E hk
  have HLEN := Lib.hid hTL
  clear hb1 hB1 hb2 hB2 hG2 hG3 hr hT hTL
  unfold wlC
  go_enter Tryd.func62, Tryd.ntmps62
  go_wp2
  clear hmk c0 c1 c2 c3 c4 c5 c6 c7 c8 c9
  go_loopw [11] (fun i wr => ∃ k : Nat, k ≤ js.length ∧ i = .int .i64 (k : Int) ∧ Hid (Below w.heap.size w wr ∧ BlockIs wr w.heap.size 86 (wlC (.slice A js.length c) (js.length : Int) B) ∧ BlockIs wr (w.heap.size + 1) 3 (ic ((tailsL js E).take k ++ (List.replicate js.length 0).drop k)).toArray)) (fun i _ => js.length - (intOf i).toNat)
  case atStart => exact ⟨0, Nat.zero_le _, rfl, by rw [List.take_zero, List.nil_append, List.drop_zero]; exact H0.out⟩
  case round =>
    obtain ⟨k, hk, rfl, HW⟩ := hrel
    clear H0
    by_cases hlt : k < js.length
    · have hBk := HW.out.2.1
      have c0 := hBk.cell 0
      have c1 := hBk.cell 1
      have c2 := hBk.cell 2
      have c3 := hBk.cell 3
      have c4 := hBk.cell 4
      have c5 := hBk.cell 5
      have c6 := hBk.cell 6
      have c7 := hBk.cell 7
      have c8 := hBk.cell 8
      have c9 := hBk.cell 9
      simp only [wlC, List.getElem?_toArray, List.getElem?_cons_zero, List.getElem?_cons_succ] at c0 c1 c2 c3 c4 c5 c6 c7 c8 c9
      have HC := Lib.hid (HTL.out wr k HW.out.1 hlt)
      have hk0 : (0 : Int) ≤ k := by omega
      have hk1 : (k : Int) < js.length := by omega
      have hrl : (List.replicate js.length (0 : Int)).length = js.length := by simp
      have HTK := Lib.hid (HAT.out k hlt)
      have HL := HLEN.out
      clear hBk
      obtain ⟨tk, htk⟩ : ∃ tk, tailF js (tabB js.length E) js.length 9 k = tk := ⟨_, rfl⟩
      rw [htk] at HC HTK
      clear htk
      unfold wlC at HC
      have HL2 := Lib.hid HL
      have HRL := Lib.hid hrl
      clear HL hrl
      go_wp2_with fail
      refine HC.out.mono ?_
      rintro e w5 ⟨rfl, hb5⟩
      have hG5 := HW.out.2.2.below hb5
      have hck := hG5.int (k := k) (by rw [mix_len _ _ _ (by have := HL2.out; have := HRL.out; omega) (by have := HL2.out; omega)]; have := HRL.out; omega)
      have hfz := hG5.frozen k
      have HG := Lib.hid (hG5.set k (.int .i64 tk))
      rw [ic_set, mix_step _ _ k tk (by have := HL2.out; have := HRL.out; omega) (by have := HL2.out; omega) HTK.out] at HG
      have HF := Lib.hid (And.intro ((HW.out.1.trans (hb5.mono HW.out.1.size)).setCell (p := ⟨w.heap.size + 1, k, none⟩) (by show _ ≤ w.heap.size + 1; omega) (.int .i64 tk)) ((HW.out.2.1.below hb5).away (g' := w.heap.size + 1) (by omega) k (.int .i64 tk)))
      clear hG5 hb5 HC HW c0 c1 c2 c3 c4 c5 c6 c7 c8 c9
      generalize ((tailsL js E).take k ++ (List.replicate js.length (0 : Int)).drop k)[k]'_ = old at *
      go_wp2
      go_roundw
      case rel => exact ⟨k + 1, by omega, by go_num, HF.out.1, HF.out.2, HG.out⟩
      case measure => simp [intOf]; omega
    · obtain rfl : k = js.length := by omega
      have hG := HW.out.2.2
      rw [List.take_of_length_le (by have := HLEN.out; omega), List.drop_eq_nil_of_le (by simp), List.append_nil] at hG
      have HG := Lib.hid hG
      clear hG
      go_wp2
      go_ret
      exact ⟨w.heap.size + 1, rfl, by omega, HG.out, HW.out.1⟩
theorem wl_good {js : List J} {E : List Pr} (m : Int) (hm : inB m 1 4 = true) : goodB js m E = wlB js E := by
  unfold goodB wlB plainL
  rw [hm, Bool.true_and, Bool.and_assoc]
theorem wl_parts {js : List J} {E : List Pr} (h : wlB js E = true) : (∀ j ∈ js, okJ j = true) ∧ js.length ≤ 8 ∧ irrB js.length E js.length = true := by
  rw [← wl_good 1 rfl] at h
  obtain ⟨a, b, c, _⟩ := good_parts h
  exact ⟨a, b, c⟩
set_option maxRecDepth 100000 in
set_option maxHeartbeats 2000000 in
/-- The tails of no jobs. -/
theorem tailsZ_any (w : World) : Calls Tryd.prog 62 #[.agg wlZ] w fun e w' => ∃ g, e = .returned (.slice (some ⟨g, 0, none⟩) 0 0) ∧ w.heap.size ≤ g ∧ BlockIs w' g 3 (ic []).toArray ∧ Below w.heap.size w w' := by
  have hmk : ∀ w : World, (Instr.makeSlice 29 (.int .i64 0) (.int .i64 0)).run Tryd.prog w = .ok (.slice (some ⟨w.heap.size, 0, none⟩) 0 0) (w.alloc (.cells (madeCells #[.int .i64 0] 0) 3)) := fun w => run_make_row' (P := Tryd.prog) 29 3 (.int .i64 0) 8 Tryd.underlying29 infoI rfl .i64 .i64 0 (by omega) (by omega) w
  have hb1 := (Below.refl w.heap.size w).alloc (Nat.le_refl _) (.cells wlZ 86)
  have hb2 := hb1.alloc hb1.size (.cells (madeCells #[.int .i64 0] 0) 3)
  have hG2 := BlockIs.new (w.alloc (.cells wlZ 86)) 3 (madeCells #[.int .i64 0] 0)
  rw [World.size_alloc] at hG2
  have hG3 := hG2.cast (ic_made 0)
  have H0 := Lib.hid (And.intro hb2 hG3)
  clear hb1 hb2 hG2 hG3
  unfold wlZ
  unfold wlZ at H0
  go_enter Tryd.func62, Tryd.ntmps62
  go_wp2
  refine wp_loop_rounds 1 ?_
  rw [rounds_succ]
  go_wp2
  go_ret
  exact ⟨w.heap.size + 1, rfl, by omega, H0.out.2, H0.out.1⟩
set_option maxRecDepth 100000 in
set_option maxHeartbeats 1000000 in
theorem impl_TailsOf (A C : Option Addr) (c d : Nat) (js : List J) (E : List Pr) (w : World) (hr : Row w A (jc js)) (hq : Row w C (pc E)) (hn : js.length ≤ 10000000) (hl : E.length ≤ 10000000) (hT : TzTab w) :
    Calls Tryd.prog 29 #[.slice A js.length c, .slice C E.length d] w (RetIB w (tailsR js E)) := by
  have HRR : Hid (tailsR js E = if goodB js 1 E then (tailsL js E, true) else ([], false)) := rfl
  rw [wl_good 1 rfl] at HRR
  have H := Lib.hid (workloadOf_any A C c d js E w hr hq hn hl hT)
  have HR := Lib.hid hr
  have HT := Lib.hid hT
  clear hr hq hT
  go_enter Tryd.func29, Tryd.ntmps29
  go_wp2_with fail
  refine H.out.mono ?_
  rintro e w1 ⟨hb, ⟨hw, h8, rfl⟩ | ⟨hw, rfl⟩⟩
  · rw [hw, if_pos rfl] at HRR
    obtain ⟨hok, _, hirr⟩ := wl_parts hw
    have hbA := hb.alloc hb.size (.cells (wlC (.slice A js.length c) (js.length : Int) (befN js.length (tabB js.length E))) 86)
    have HC := Lib.hid (tails_any A c js E _ (HR.out.below hbA) hok h8 hirr (HT.out.below hbA))
    have HB := Lib.hid hbA
    clear hw hb hbA hok hirr H
    unfold wlC
    unfold wlC at HC HB
    go_wp2_with fail
    refine HC.out.mono ?_
    rintro e w2 ⟨g, rfl, hg, hG, hb2⟩
    have HF := Lib.hid (And.intro hG (And.intro (HB.out.trans (hb2.mono HB.out.size)) (Nat.le_trans HB.out.size hg)))
    have hTL := tailsL_len js E
    clear hG hb2 hg HC HB
    go_wp2
    go_ret2
    rw [← hTL]
    exact ret_block HRR.out HF.out.2.2 HF.out.1 (by rw [hTL]; omega) HF.out.2.1 _ rfl
  · rw [hw, if_neg (by decide)] at HRR
    have hbA := hb.alloc hb.size (.cells wlZ 86)
    have HC := Lib.hid (tailsZ_any (w1.alloc (.cells wlZ 86)))
    have HB := Lib.hid hbA
    clear hw hb hbA H
    unfold wlZ
    unfold wlZ at HC HB
    go_wp2_with fail
    refine HC.out.mono ?_
    rintro e w2 ⟨g, rfl, hg, hG, hb2⟩
    have HF := Lib.hid (And.intro hG (And.intro (HB.out.trans (hb2.mono HB.out.size)) (Nat.le_trans HB.out.size hg)))
    clear hG hb2 hg HC HB
    go_wp2
    go_ret2
    rw [HRR.out]
    exact ⟨_, 0, rfl, seg_of_block HF.out.1 HF.out.2.2 (by unfold maxLen; simp), HF.out.2.1⟩
end Go.Proofs.YtapbgmmkkngdoaaDoor

namespace Go.Proofs.YtapbgmmkkngdoaaDoor
open Go.RowKit Go.Shelf
attribute [local go_sem] Oper.semAt_some
def sumT (js : List J) (l : List Nat) : Int := (l.map fun k => (js.getD k j0).t).sum
theorem sumT_snoc (js : List J) (l : List Nat) (k : Nat) : sumT js (l ++ [k]) = sumT js l + (js.getD k j0).t := by unfold sumT; simp
theorem sumT_bd {js : List J} (hok : ∀ j ∈ js, okJ j = true) : ∀ l : List Nat, (∀ k ∈ l, k < js.length) → 0 ≤ sumT js l ∧ sumT js l ≤ 50 * (l.length : Int)
  | [], _ => by simp [sumT]
  | k :: l, h => by
    have h1 := sumT_bd hok l (fun x hx => h x (List.mem_cons_of_mem _ hx))
    have hk := h k List.mem_cons_self
    have h2 := okJ_out (hok _ (List.getElem_mem hk))
    have e : sumT js (k :: l) = js[k].t + sumT js l := by unfold sumT; simp [List.getD, hk]
    rw [e, List.length_cons]
    omega
def timeB (js : List J) (s : Nat) : Int := sumT js (memB s)
section
variable (A : Option Addr) (c s : Nat) (js : List J) (w : World) (hs : s < 256) (hr : Row w A (jc js)) (hok : ∀ j ∈ js, okJ j = true) (hlt : ∀ k, s.testBit k = true → k < js.length) (hT : TzTab w)
include hs hr hok hlt hT
set_option maxRecDepth 100000 in
set_option maxHeartbeats 4000000 in
theorem timeOf_any : Calls Tryd.prog 92 #[.slice A js.length c, .int .u64 (s : Int)] w fun e w' => e = .returned (.int .i64 (timeB js s)) ∧ Below w.heap.size w w' := by
  have b0 : Boxed (((w.alloc (.cells #[.slice A js.length c] 84)).alloc (.cells #[.int .i64 0] 3)).alloc (.cells #[.int .u64 (s : Int)] 59)) w.heap.size 84 (.slice A js.length c) := ((Boxed.new w 84 (.slice A js.length c)).alloc _).alloc _
  have b1 : Boxed (((w.alloc (.cells #[.slice A js.length c] 84)).alloc (.cells #[.int .i64 0] 3)).alloc (.cells #[.int .u64 (s : Int)] 59)) (w.heap.size + 1) 3 (.int .i64 0) := by
    have h := (Boxed.new (w.alloc (.cells #[.slice A js.length c] 84)) 3 (.int .i64 0)).alloc (.cells #[.int .u64 (s : Int)] 59)
    rwa [World.size_alloc] at h
  have b2 : Boxed (((w.alloc (.cells #[.slice A js.length c] 84)).alloc (.cells #[.int .i64 0] 3)).alloc (.cells #[.int .u64 (s : Int)] 59)) (w.heap.size + 1 + 1) 59 (.int .u64 (s : Int)) := by
    have h := Boxed.new ((w.alloc (.cells #[.slice A js.length c] 84)).alloc (.cells #[.int .i64 0] 3)) 59 (.int .u64 (s : Int))
    rwa [World.size_alloc, World.size_alloc] at h
  have hb3 : Below w.heap.size w (((w.alloc (.cells #[.slice A js.length c] 84)).alloc (.cells #[.int .i64 0] 3)).alloc (.cells #[.int .u64 (s : Int)] 59)) := (((Below.refl _ w).alloc (Nat.le_refl _) _).alloc (by simp) _).alloc (by simp; omega) _
  have hz3 : (((w.alloc (.cells #[.slice A js.length c] 84)).alloc (.cells #[.int .i64 0] 3)).alloc (.cells #[.int .u64 (s : Int)] 59)).heap.size = w.heap.size + 1 + 1 + 1 := by simp
  have H3 := Lib.hid (And.intro b0 (And.intro b1 (And.intro b2 hb3)))
  have HR := Lib.hid hr
  have HT := Lib.hid hT
  clear b0 b1 b2 hb3 hr hT
  refine (callsIn_wide (n := 6)).1 ?_
  refine callsIn_of_wp_marks Tryd.func92 rfl trivial ?_ rfl
  simp only [Tryd.ntmps92, List.size_toArray, List.length_cons, List.length_nil, Nat.reduceAdd, Nat.reduceSub, Array.replicate_succ, Array.replicate_zero, List.push_toArray, List.append_toArray, List.nil_append, List.cons_append]
  gi_wp2_with (refine ⟨trivial, ?_⟩; gi_at_call 78; refine (members_in 5 _ _).mono ?_; rintro e w' ⟨rfl, rfl⟩)
  generalize ((w.alloc (.cells #[.slice A js.length c] 84)).alloc (.cells #[.int .i64 0] 3)).alloc (.cells #[.int .u64 (s : Int)] 59) = w3 at *
  -- RANGE
  obtain ⟨b0, b1, b2, hb3⟩ := H3.out
  refine wpIn_rangeFunc_ownG (F := Fence.wide) rfl (by omega) (gf := 100) (lb := #[.pointer (some ⟨w.heap.size + 1 + 1, 0, none⟩)]) rfl trivial (enters_of Tryd.func100 (by kernel_rfl) rfl)
    (members_stops 5 (by omega) (w.heap.size + 1 + 1) s hs w3 (by omega) b2 (HT.out.below hb3))
    (fun h k t => k (h t)) (fun W l' o o' hl ho hc _ => KeepsTz.put ho hc) (Below.refl _ _) (fun _ => rfl)
    (fun (pre : List (Mb s)) W => (Boxed W w.heap.size 84 (.slice A js.length c) ∧ Boxed W (w.heap.size + 1) 3 (.int .i64 (sumT js (vals pre)))) ∧ Below w.heap.size w W)
    (fun _ _ _ => False)
    (OwnFrom.and (OwnFrom.and (Own.from (boxed_own _ _ _) _) (Own.from (boxed_own _ _ _) _)) (ownFrom_below (Nat.le_refl _) (by omega)))
    (fun _ _ _ _ _ h _ _ => h)
    ⟨⟨b0, b1⟩, hb3⟩
    (fun x => { tmps := #[.slice A js.length c, .int .u64 (s : Int), .pointer (some ⟨w.heap.size, 0, none⟩), undef, .int .i64 0, .pointer (some ⟨w.heap.size + 1, 0, none⟩), .int .i64 (x.1 : Int), .int .u64 (s : Int), .func (.func 100) #[] #[.pointer (some ⟨w.heap.size + 1 + 1, 0, none⟩)], .int .i64 (x.1 : Int), undef, undef, undef, undef, undef, undef, undef, undef], defers := [] }) ?assign ?body ?done ?stop
  case assign =>
    intro l' x W K hK
    unfold encM
    gi_wp2
    exact hK
  case body =>
    rintro l' pre ⟨x, hx⟩ W ⟨⟨y0, y1⟩, hb⟩ hl
    have hxl := hlt x hx
    have hmo : Tryd.prog.follows .mixedOrders = true := by kernel_rfl
    obtain ⟨ad, rfl, hadb, cj0, cj1, cj2, cj3⟩ := (HR.out.below hb).job hxl
    have HSN : Hid (sumT js (vals (pre ++ [(⟨x, hx⟩ : Mb s)])) = sumT js (vals pre) + js[x].t) := by show _ = _; rw [vals_snoc, sumT_snoc, getD_at js j0 hxl]
    have hpl : (vals pre).length ≤ 8 := by have h1 := memB_len s; rw [vals_len]; omega
    have hbd := sumT_bd hok (vals pre) (fun k hk => by obtain ⟨z, _, rfl⟩ := List.mem_map.1 hk; exact hlt _ z.2)
    have hjt := okJ_out (hok _ (List.getElem_mem hxl))
    obtain ⟨W1, hW1⟩ : ∃ W1, W1 = W.drew := ⟨_, rfl⟩
    have q0 : W1.cell? ⟨w.heap.size, 0, none⟩ = some (.slice (some ad) js.length c) := by rw [hW1]; exact y0.cell
    have q1 : W1.cell? ⟨w.heap.size + 1, 0, none⟩ = some (.int .i64 (sumT js (vals pre))) := by rw [hW1]; exact y1.cell
    have f1 : W1.frozen? ⟨w.heap.size + 1, 0, none⟩ = false := by rw [hW1]; exact y1.frozen
    have qj : W1.cell? (ad.add (x * 4)) = some (.int .i64 js[x].t) := by rw [hW1]; exact cj0
    have hx0 : (0 : Int) ≤ x := by omega
    have hx1 : (x : Int) < js.length := by omega
    generalize js[x] = j at *
    generalize sumT js (vals pre) = sm at *
    have hwr := IntWalk.i64_in (sm + j.t) (by omega)
    dsimp only
    gi_wp2
    refine wpIn_region_detX (fun _ => trivial) (by kernel_rfl) hmo (fun (_ : Unit) (L : Array Bool) w' => (L.getD 7 true = false → w' = W1) ∧ (L.getD 7 true = true → w' = W1.setCell ⟨w.heap.size + 1, 0, none⟩ (.int .i64 (sm + j.t)))) (fun _ k => (#[.int .i64 sm, .slice (some ad) js.length c, .int .i64 (x : Int), .pointer (some (ad.add (x * 4))), .pointer (some (ad.add (x * 4))), .int .i64 j.t, .int .i64 (sm + j.t), undef] : Array Value).getD k undef) () (by kernel_rfl) (by kernel_rfl) ⟨fun _ => hW1.symm, fun h => by cases h⟩ ?_ ?_
    · intro _ L tm w' hall hS hsz hlow hval
      obtain rfl := hS.2 (hall 7 (by decide))
      have ht : tm = #[.slice (some ad) js.length c, .int .u64 (s : Int), .pointer (some ⟨w.heap.size, 0, none⟩), undef, .int .i64 0, .pointer (some ⟨w.heap.size + 1, 0, none⟩), .int .i64 (x : Int), .int .u64 (s : Int), .func (.func 100) #[] #[.pointer (some ⟨w.heap.size + 1 + 1, 0, none⟩)], .int .i64 (x : Int), .int .i64 sm, .slice (some ad) js.length c, .int .i64 (x : Int), .pointer (some (ad.add (x * 4))), .pointer (some (ad.add (x * 4))), .int .i64 j.t, .int .i64 (sm + j.t), undef] := by
        refine arr_of _ _ hsz fun t ht => ?_
        have ht' : t < 18 := ht
        rcases (by omega : t = 0 ∨ t = 1 ∨ t = 2 ∨ t = 3 ∨ t = 4 ∨ t = 5 ∨ t = 6 ∨ t = 7 ∨ t = 8 ∨ t = 9 ∨ t = 10 ∨ t = 11 ∨ t = 12 ∨ t = 13 ∨ t = 14 ∨ t = 15 ∨ t = 16 ∨ t = 17) with rfl | rfl | rfl | rfl | rfl | rfl | rfl | rfl | rfl | rfl | rfl | rfl | rfl | rfl | rfl | rfl | rfl | rfl
        · exact hlow 0 (by kernel_rfl)
        · exact hlow 1 (by kernel_rfl)
        · exact hlow 2 (by kernel_rfl)
        · exact hlow 3 (by kernel_rfl)
        · exact hlow 4 (by kernel_rfl)
        · exact hlow 5 (by kernel_rfl)
        · exact hlow 6 (by kernel_rfl)
        · exact hlow 7 (by kernel_rfl)
        · exact hlow 8 (by kernel_rfl)
        · exact hlow 9 (by kernel_rfl)
        · exact hval 0 _ 10 rfl rfl
        · exact hval 1 _ 11 rfl rfl
        · exact hval 2 _ 12 rfl rfl
        · exact hval 3 _ 13 rfl rfl
        · exact hval 4 _ 14 rfl rfl
        · exact hval 5 _ 15 rfl rfl
        · exact hval 6 _ 16 rfl rfl
        · exact hlow 17 (by kernel_rfl)
      subst ht
      clear hlow hval hsz hall hS
      have HW1 := Lib.hid hW1
      clear hW1
      gi_wp2
      have hbw : Below w.heap.size w (W1.setCell ⟨w.heap.size + 1, 0, none⟩ (.int .i64 (sm + j.t))) := (show Below w.heap.size w W1 by rw [HW1.out]; exact hb.drew).setCell (p := ⟨w.heap.size + 1, 0, none⟩) (by simp) _
      have z0 : Boxed W1 w.heap.size 84 (.slice (some ad) js.length c) := by rw [HW1.out]; exact y0
      have z1 : Boxed W1 (w.heap.size + 1) 3 (.int .i64 sm) := by rw [HW1.out]; exact y1
      exact ⟨((KeepsOthers.drew W).trans (by rw [← HW1.out]; exact KeepsOthers.setCell _ _ _)).from _, fun _ => HT.out.below hbw, ⟨z0.other (by omega) _, by rw [HSN.out]; exact z1.set _⟩, hbw⟩
    · intro _ L a' w' i op hLs ho hLi hLd hLn hS hlow hdep _
      have hi : i < 8 := (Array.getElem?_eq_some_iff.1 ho).1
      rcases (by omega : i = 0 ∨ i = 1 ∨ i = 2 ∨ i = 3 ∨ i = 4 ∨ i = 5 ∨ i = 6 ∨ i = 7) with rfl | rfl | rfl | rfl | rfl | rfl | rfl | rfl
      · obtain rfl := Option.some.inj ho
        have e5 : a'.tmps[5]?.getD undef = .pointer (some ⟨w.heap.size + 1, 0, none⟩) := (Array.getD_eq_getD_getElem? ..).symm.trans (hlow 5 (by kernel_rfl))
        have hK : ((L.setIfInBounds 0 true).getD 7 true = false → w' = W1) ∧ ((L.setIfInBounds 0 true).getD 7 true = true → w' = W1.setCell ⟨w.heap.size + 1, 0, none⟩ (.int .i64 (sm + j.t))) := by rw [getD_set_true, if_neg (fun h => by cases h.1)]; exact hS
        obtain rfl : W1 = w' := (hS.1 (hLn 7 (by kernel_rfl))).symm
        exact .inl ⟨wanted_free rfl, .inl ⟨(), _, fun _ _ => rfl, by simp [execOp, Act.eval, e5, q1, go_sem], hK⟩⟩
      · obtain rfl := Option.some.inj ho
        have e2 : a'.tmps[2]?.getD undef = .pointer (some ⟨w.heap.size, 0, none⟩) := (Array.getD_eq_getD_getElem? ..).symm.trans (hlow 2 (by kernel_rfl))
        have hK : ((L.setIfInBounds 1 true).getD 7 true = false → w' = W1) ∧ ((L.setIfInBounds 1 true).getD 7 true = true → w' = W1.setCell ⟨w.heap.size + 1, 0, none⟩ (.int .i64 (sm + j.t))) := by rw [getD_set_true, if_neg (fun h => by cases h.1)]; exact hS
        obtain rfl : W1 = w' := (hS.1 (hLn 7 (by kernel_rfl))).symm
        exact .inl ⟨wanted_free rfl, .inl ⟨(), _, fun _ _ => rfl, by simp [execOp, Act.eval, e2, q0, go_sem], hK⟩⟩
      · obtain rfl := Option.some.inj ho
        have e6 : a'.tmps[6]?.getD undef = .int .i64 (x : Int) := (Array.getD_eq_getD_getElem? ..).symm.trans (hlow 6 (by kernel_rfl))
        have hK : ((L.setIfInBounds 2 true).getD 7 true = false → w' = W1) ∧ ((L.setIfInBounds 2 true).getD 7 true = true → w' = W1.setCell ⟨w.heap.size + 1, 0, none⟩ (.int .i64 (sm + j.t))) := by rw [getD_set_true, if_neg (fun h => by cases h.1)]; exact hS
        exact .inl ⟨wanted_free rfl, .inl ⟨(), _, fun _ _ => rfl, by simp [execOp, Act.eval, e6, go_sem], hK⟩⟩
      · obtain rfl := Option.some.inj ho
        have e11 : a'.tmps[11]?.getD undef = .slice (some ad) js.length c := (Array.getD_eq_getD_getElem? ..).symm.trans (hdep 1 _ 11 (by kernel_rfl) rfl rfl)
        have e12 : a'.tmps[12]?.getD undef = .int .i64 (x : Int) := (Array.getD_eq_getD_getElem? ..).symm.trans (hdep 2 _ 12 (by kernel_rfl) rfl rfl)
        have hK : ((L.setIfInBounds 3 true).getD 7 true = false → w' = W1) ∧ ((L.setIfInBounds 3 true).getD 7 true = true → w' = W1.setCell ⟨w.heap.size + 1, 0, none⟩ (.int .i64 (sm + j.t))) := by rw [getD_set_true, if_neg (fun h => by cases h.1)]; exact hS
        exact .inl ⟨wanted_free rfl, .inl ⟨(), _, fun _ _ => rfl, by simp [execOp, Act.eval, e11, e12, hx0, hx1, go_sem], hK⟩⟩
      · obtain rfl := Option.some.inj ho
        have e13 : a'.tmps[13]?.getD undef = .pointer (some (ad.add (x * 4))) := (Array.getD_eq_getD_getElem? ..).symm.trans (hdep 3 _ 13 (by kernel_rfl) rfl rfl)
        have hK : ((L.setIfInBounds 4 true).getD 7 true = false → w' = W1) ∧ ((L.setIfInBounds 4 true).getD 7 true = true → w' = W1.setCell ⟨w.heap.size + 1, 0, none⟩ (.int .i64 (sm + j.t))) := by rw [getD_set_true, if_neg (fun h => by cases h.1)]; exact hS
        exact .inl ⟨wanted_free rfl, .inl ⟨(), _, fun _ _ => rfl, by simp [execOp, Act.eval, e13, go_sem], hK⟩⟩
      · obtain rfl := Option.some.inj ho
        have e14 : a'.tmps[14]?.getD undef = .pointer (some (ad.add (x * 4))) := (Array.getD_eq_getD_getElem? ..).symm.trans (hdep 4 _ 14 (by kernel_rfl) rfl rfl)
        have hK : ((L.setIfInBounds 5 true).getD 7 true = false → w' = W1) ∧ ((L.setIfInBounds 5 true).getD 7 true = true → w' = W1.setCell ⟨w.heap.size + 1, 0, none⟩ (.int .i64 (sm + j.t))) := by rw [getD_set_true, if_neg (fun h => by cases h.1)]; exact hS
        obtain rfl : W1 = w' := (hS.1 (hLn 7 (by kernel_rfl))).symm
        exact .inl ⟨wanted_free rfl, .inl ⟨(), _, fun _ _ => rfl, by simp [execOp, Act.eval, e14, qj, go_sem], hK⟩⟩
      · obtain rfl := Option.some.inj ho
        have e10 : a'.tmps[10]?.getD undef = .int .i64 sm := (Array.getD_eq_getD_getElem? ..).symm.trans (hdep 0 _ 10 (by kernel_rfl) rfl rfl)
        have e15 : a'.tmps[15]?.getD undef = .int .i64 j.t := (Array.getD_eq_getD_getElem? ..).symm.trans (hdep 5 _ 15 (by kernel_rfl) rfl rfl)
        have hK : ((L.setIfInBounds 6 true).getD 7 true = false → w' = W1) ∧ ((L.setIfInBounds 6 true).getD 7 true = true → w' = W1.setCell ⟨w.heap.size + 1, 0, none⟩ (.int .i64 (sm + j.t))) := by rw [getD_set_true, if_neg (fun h => by cases h.1)]; exact hS
        exact .inl ⟨wanted_free rfl, .inl ⟨(), _, fun _ _ => rfl, by simp [execOp, Act.eval, e10, e15, hwr, go_sem], hK⟩⟩
      · obtain rfl := Option.some.inj ho
        have e5 : a'.tmps[5]?.getD undef = .pointer (some ⟨w.heap.size + 1, 0, none⟩) := (Array.getD_eq_getD_getElem? ..).symm.trans (hlow 5 (by kernel_rfl))
        have e16 : a'.tmps[16]?.getD undef = .int .i64 (sm + j.t) := (Array.getD_eq_getD_getElem? ..).symm.trans (hdep 6 _ 16 (by kernel_rfl) rfl rfl)
        obtain rfl : W1 = w' := (hS.1 hLi).symm
        have hK : ((L.setIfInBounds 7 true).getD 7 true = false → W1.setCell ⟨w.heap.size + 1, 0, none⟩ (.int .i64 (sm + j.t)) = W1) ∧ ((L.setIfInBounds 7 true).getD 7 true = true → W1.setCell ⟨w.heap.size + 1, 0, none⟩ (.int .i64 (sm + j.t)) = W1.setCell ⟨w.heap.size + 1, 0, none⟩ (.int .i64 (sm + j.t))) := ⟨fun h => (by rw [getD_set_true, if_pos ⟨rfl, by rw [hLs]; decide⟩] at h; cases h), fun _ => rfl⟩
        exact .inl ⟨wanted_free rfl, .inr ⟨(), W1.setCell ⟨w.heap.size + 1, 0, none⟩ (.int .i64 (sm + j.t)), fun _ _ => rfl, rfl, by simp [execOp, Act.eval, e5, e16, q1, f1, go_sem], hK⟩⟩
  case done =>
    rintro D ys W hD hys ⟨⟨y0, y1⟩, hb⟩ hK
    have hc := y1.cell
    gi_wp2
    refine ⟨by simp, .inl ⟨_, _, rfl, run_takeDeferred hK, ?_⟩⟩
    exact ⟨_, results_tmp rfl _ _ _, rfl, hb.trans (belowK_b (w := w3) (by omega) W D _ _ (by omega) hK rfl rfl)⟩
  case stop =>
    rintro D cd pre W _ _ h _
    exact h.elim
end
theorem memB_all : ∀ n, n < 9 → memB (2 ^ n - 1) = List.range n := by decide +kernel
theorem pow_lt : ∀ n, n < 9 → 2 ^ n - 1 < 256 := by decide
theorem all_bit {n : Nat} (hn : n < 9) {k : Nat} (h : (2 ^ n - 1).testBit k = true) : k < n := by
  have h1 := (memB_mem (pow_lt n hn)).2 h
  rw [memB_all n hn] at h1
  exact List.mem_range.1 h1
def totL (js : List J) : Int := sumT js (List.range js.length)
def totalR (js : List J) : Int × Bool := if plainL js then (totL js, true) else (0, false)
def totTo (js : List J) (k : Nat) : Int := sumT js (List.range k)
theorem totTo_succ (js : List J) (k : Nat) (hk : k < js.length) : totTo js (k + 1) = totTo js k + js[k].t := by
  unfold totTo; rw [List.range_succ, sumT_snoc, getD_at js j0 hk]
section
variable (A : Option Addr) (c : Nat) (js : List J) (w : World) (hr : Row w A (jc js))
include hr
theorem l2Sum_any (hg : goodL js = true) : Calls Tryd.prog 91 #[.slice A js.length c] w fun e w' => e = .returned (.int .i64 (totL js)) ∧ Below w.heap.size w w' := by
  obtain ⟨h8, hok⟩ := good_out hg
  go_enter Tryd.func91, Tryd.ntmps91
  go_wp2
  go_loopw [3, 4] (fun sv i wr => ∃ k : Nat, k ≤ js.length ∧ i = .int .i64 k ∧ sv = .int .i64 (totTo js k) ∧ Below w.heap.size w wr) (fun _ i _ => js.length - (intOf i).toNat)
  case atStart => exact ⟨0, Nat.zero_le _, rfl, rfl, Below.refl _ _⟩
  case round =>
    obtain ⟨k, hk, rfl, rfl, hb⟩ := hrel
    by_cases hlt : k < js.length
    · obtain ⟨a, hA', _, hc0, hc1, hc2, hc3⟩ := (hr.below hb).job hlt
      subst hA'
      have hi : (0 : Int) ≤ k := by omega
      have hi' : (k : Int) < js.length := by omega
      have hbd := sumT_bd hok (List.range k) (fun x hx => by have := List.mem_range.1 hx; omega)
      rw [List.length_range] at hbd
      have hjt := okJ_out (hok _ (List.getElem_mem hlt))
      have HS := Lib.hid (totTo_succ js k hlt)
      have hbd1 : 0 ≤ totTo js k := hbd.1
      have hbd2 : totTo js k ≤ 50 * (k : Int) := hbd.2
      clear hbd hr hok hg
      generalize totTo js k = t1 at *
      generalize js[k] = j at *
      go_wp2
      go_roundw
      case rel => exact ⟨k + 1, by omega, by go_num, by rw [HS.out], hb⟩
      case measure => simp [intOf]; omega
    · obtain rfl : k = js.length := by omega
      have HG : Hid (totTo js js.length = totL js) := rfl
      go_wp2
      go_ret
      exact ⟨by rw [← HG.out]; rfl, hb⟩
end
end Go.Proofs.YtapbgmmkkngdoaaDoor

namespace Go.Proofs.YtapbgmmkkngdoaaDoor
open Go.RowKit
theorem l2Last_any (A : Option Addr) (c : Nat) (xs : List Int) (w : World) (hr : Row w A (ic xs)) (hn : xs.length ≤ 100000) :
    Calls Tryd.prog 90 #[.slice A xs.length c] w fun e w' => e = .returned (.int .i64 (mostGo xs 0)) ∧ w = w' := by
  go_enter Tryd.func90, Tryd.ntmps90
  go_wp2
  go_loop [3, 4] (fun s i => ∃ (k : Nat) (t : Int), k ≤ xs.length ∧ i = .int .i64 k ∧ s = .int .i64 t ∧ Hid (mostGo (xs.drop k) t = mostGo xs 0)) (fun _ i => xs.length - (intOf i).toNat)
  case atStart => exact ⟨0, 0, Nat.zero_le _, rfl, rfl, rfl⟩
  case round =>
    obtain ⟨k, t, hk, rfl, rfl, hT⟩ := hrel
    by_cases hlt : k < xs.length
    · obtain ⟨ad, hA, hc⟩ := hr.int hlt
      subst hA
      have HT : Hid (mostGo (xs.drop (k + 1)) (max t xs[k]) = mostGo xs 0) := by show _ = _; rw [← mostGo_drop xs k t hlt, hT.out]
      have hk0 : (0 : Int) ≤ k := by omega
      have hk1 : (k : Int) < xs.length := by omega
      clear hT hr
      generalize xs[k] = x at *
      go_wp2_with fail
      refine (l1Most_any t x _).mono ?_
      rintro e w1 ⟨rfl, rfl⟩
      go_wp2
      go_round
      case rel => exact ⟨k + 1, max t x, by omega, by go_num, by go_num, HT⟩
      case measure => simp [intOf]; omega
    · obtain rfl : k = xs.length := by omega
      have hT' := hT.out
      rw [List.drop_eq_nil_of_le (by omega)] at hT'
      have HT : Hid (t = mostGo xs 0) := hT'
      clear hT hT'
      go_wp2
      go_ret
      exact ⟨by rw [← HT.out]; rfl, rfl⟩
theorem most_from (xs : List Int) : ∀ t : Int, 0 ≤ t → mostGo xs t = max t (mostGo xs 0) := by
  induction xs with
  | nil => intro t h; show t = max t 0; omega
  | cons x xs ih =>
    intro t h
    show mostGo xs (max t x) = max t (mostGo xs (max 0 x))
    rw [ih (max t x) (by omega), ih (max 0 x) (by omega)]
    omega
end Go.Proofs.YtapbgmmkkngdoaaDoor

namespace Go.Proofs.YtapbgmmkkngdoaaDoor
open Go.RowKit
def quoV (js : List J) (m : Int) : Int := IntKind.i64.wrap ((totL js + m - 1).tdiv m)
theorem quoV_bd {js : List J} (hok : ∀ j ∈ js, okJ j = true) (h8 : js.length ≤ 8) {m : Int} (hm : 1 ≤ m ∧ m ≤ 4) : 0 ≤ totL js ∧ totL js ≤ 400 ∧ 0 ≤ quoV js m ∧ quoV js m ≤ 1000 := by
  have h := sumT_bd hok (List.range js.length) (fun x hx => List.mem_range.1 hx)
  rw [List.length_range] at h
  have h1 : 0 ≤ totL js := h.1
  have h2 : totL js ≤ 50 * (js.length : Int) := h.2
  have h3 : (0 : Int) ≤ totL js + m - 1 := by omega
  have e : (totL js + m - 1).tdiv m = (totL js + m - 1) / m := Int.tdiv_eq_ediv_of_nonneg h3
  have h4 : 0 ≤ (totL js + m - 1) / m := Int.ediv_nonneg h3 (by omega)
  have h5 : (totL js + m - 1) / m ≤ totL js + m - 1 := Int.ediv_le_self _ h3
  have e2 : quoV js m = (totL js + m - 1) / m := by unfold quoV; rw [e]; exact IntWalk.i64_in _ (by omega)
  refine ⟨h1, by omega, by omega, by omega⟩
def boundV (js : List J) (m : Int) (E : List Pr) : Int := max (mostGo (tailsL js E) 0) (quoV js m)
def lenBR (js : List J) (m : Int) (E : List Pr) : Int × Bool := if goodB js m E then (boundV js m E, true) else (0, false)
set_option maxRecDepth 100000 in
set_option maxHeartbeats 1000000 in
theorem l7Bound_any (A C : Option Addr) (c d : Nat) (js : List J) (m : Int) (E : List Pr) (w : World) (hr : Row w A (jc js)) (hq : Row w C (pc E)) (hl : E.length ≤ 10000000) (hg : goodB js m E = true) :
    Calls Tryd.prog 64 #[.slice A js.length c, .int .i64 m, .slice C E.length d] w fun e w' => e = .returned (.int .i64 (boundV js m E)) ∧ Below w.heap.size w w' := by
  obtain ⟨hok, h8, hirr, hE, hpl, _, hm⟩ := good_parts hg
  obtain ⟨hm1, hm4⟩ := inB_out hm
  obtain ⟨t0, t1, q0, q1⟩ := quoV_bd hok h8 ⟨hm1, hm4⟩
  have HQ : Hid (quoV js m = IntKind.i64.wrap ((totL js + m - 1).tdiv m)) := rfl
  have HV : Hid (boundV js m E = max (mostGo (tailsL js E) 0) (quoV js m)) := rfl
  have HT := Lib.hid (l7Tails_any A C c d js E w hr hq hl hok h8 hirr hE)
  have HS := Lib.hid (fun W (hb : Below w.heap.size w W) => l2Sum_any A c js W (hr.below hb) (plain_good hpl))
  have hm0 : ¬ m = 0 := by omega
  have hmb : (m == 0) = false := by simp; omega
  have hTL := tailsL_len js E
  clear hr hq hok hirr hE hpl hm hg
  generalize totL js = tot at *
  go_enter Tryd.func64, Tryd.ntmps64
  go_wp2_with fail
  refine HT.out.mono ?_
  rintro e w1 ⟨v, rfl, ho, hb1⟩
  obtain ⟨Av, cv, rfl, _, hrow⟩ := own_slice ho
  have HLA := Lib.hid (l2Last_any Av cv (tailsL js E) w1 hrow (by omega))
  have HB1 := Lib.hid hb1
  clear ho hrow hb1 HT hTL
  go_wp2_with fail
  refine HLA.out.mono ?_
  rintro e _ ⟨rfl, rfl⟩
  generalize mostGo (tailsL js E) 0 = mg at *
  go_wp2_with fail
  refine (HS.out w1 HB1.out).mono ?_
  rintro e w2 ⟨rfl, hb2⟩
  have HB2 := Lib.hid (HB1.out.trans (hb2.mono HB1.out.size))
  clear hb2 HB1 HS HLA
  rw [HQ.out] at q0 q1
  generalize hqq : IntKind.i64.wrap ((tot + m - 1).tdiv m) = q at *
  have HQQ := Lib.hid hqq
  go_wp2_with fail
  refine (l1Most_any _ _ _).mono ?_
  rintro e _ ⟨rfl, rfl⟩
  clear hqq
  go_wp2
  go_ret
  exact ⟨by rw [HV.out, HQ.out]; rfl, HB2.out⟩
set_option maxRecDepth 100000 in
set_option maxHeartbeats 1000000 in
theorem spec_LengthBound (A C : Option Addr) (c d : Nat) (js : List J) (m : Int) (E : List Pr) (w : World) (hr : Row w A (jc js)) (hq : Row w C (pc E)) (hn : js.length ≤ 10000000) (hl : E.length ≤ 10000000) :
    Calls Tryd.prog 34 #[.slice A js.length c, .int .i64 m, .slice C E.length d] w (RetNB w (lenBR js m E)) := by
  have HRR : Hid (lenBR js m E = if goodB js m E then (boundV js m E, true) else (0, false)) := rfl
  have HG := Lib.hid (l7Good_any A C c d js m E w hr hq hn hl)
  have HR := Lib.hid hr
  have HQ := Lib.hid hq
  clear hr hq
  go_enter Tryd.func34, Tryd.ntmps34
  go_wp2_with fail
  refine HG.out.mono ?_
  rintro e w1 ⟨rfl, hb1⟩
  cases hg : goodB js m E
  · rw [hg] at HRR
    have HB := Lib.hid hb1
    clear hg hb1
    go_wp2
    go_ret2
    exact ⟨by rw [HRR.out]; rfl, HB.out⟩
  · rw [hg] at HRR
    have HT := Lib.hid (l7Bound_any A C c d js m E w1 (HR.out.below hb1) (HQ.out.below hb1) hl hg)
    have HB := Lib.hid hb1
    clear hg hb1
    go_wp2_with fail
    refine HT.out.mono ?_
    rintro e w2 ⟨rfl, hb2⟩
    have HF := Lib.hid (HB.out.trans (hb2.mono HB.out.size))
    clear hb2
    go_wp2
    go_ret2
    exact ⟨by rw [HRR.out]; rfl, HF.out⟩
set_option maxRecDepth 100000 in
set_option maxHeartbeats 4000000 in
theorem lengthBound_any (A : Option Addr) (c : Nat) (js : List J) (m : Int) (E : List Pr) (w : World) (hr : Row w A (jc js)) (hok : ∀ j ∈ js, okJ j = true) (h8 : js.length ≤ 8) (hirr : irrB js.length E js.length = true) (hm : 1 ≤ m ∧ m ≤ 4) (hT : TzTab w) :
    Calls Tryd.prog 66 #[.agg (wlC (.slice A js.length c) (js.length : Int) (befN js.length (tabB js.length E))), .int .i64 m] w fun e w' => e = .returned (.int .i64 (boundV js m E)) ∧ Below w.heap.size w w' := by
  obtain ⟨t0, t1, q0, q1⟩ := quoV_bd hok h8 hm
  have HQ : Hid (quoV js m = IntKind.i64.wrap ((totL js + m - 1).tdiv m)) := rfl
  have HV : Hid (boundV js m E = mostGo (tailsL js E) (quoV js m)) := by
    show _ = _
    rw [most_from _ _ q0]
    unfold boundV
    omega
  have HTM : Hid (timeB js (2 ^ js.length - 1) = totL js) := by show _ = _; unfold timeB totL; rw [memB_all js.length (by omega)]
  have hpw := pow_lt js.length (by omega)
  have HTI := Lib.hid (fun W (hb : Below w.heap.size w W) => timeOf_any A c (2 ^ js.length - 1) js W hpw (hr.below hb) hok (fun k hk => all_bit (by omega) hk) (hT.below hb))
  rw [HTM.out] at HTI
  have HAL := Lib.hid (fun W => all_any A js.length c h8 W)
  have HTA := Lib.hid (fun W (hb : Below w.heap.size w W) => tails_any A c js E W (hr.below hb) hok h8 hirr (hT.below hb))
  have hm0 : ¬ m = 0 := by omega
  have HTL := Lib.hid (tailsL_len js E)
  have HTB : Hid (∀ x ∈ tailsL js E, 0 ≤ x ∧ x ≤ 450) := fun x hx => by
    unfold tailsL at hx
    obtain ⟨k, hk, rfl⟩ := List.mem_map.1 hx
    have := tailF_bd hok (tabB js.length E) 9 k (List.mem_range.1 hk)
    omega
  clear HTM hok hirr hr hT
  obtain ⟨B, hB⟩ : ∃ B, befN js.length (tabB js.length E) = B := ⟨_, rfl⟩
  rw [hB] at HTA ⊢
  clear hB
  rw [HQ.out] at q0 q1 HV
  clear HQ
  generalize totL js = tot at *
  generalize 2 ^ js.length - 1 = sx at *
  obtain ⟨qv, hqv⟩ : ∃ qv, IntKind.i64.wrap ((tot + m - 1).tdiv m) = qv := ⟨_, rfl⟩
  rw [hqv] at q0 q1 HV
  have H0 := Lib.hid (And.intro ((Below.refl w.heap.size w).alloc (Nat.le_refl _) (.cells (wlC (.slice A js.length c) (js.length : Int) B) 86)) (BlockIs.new w 86 (wlC (.slice A js.length c) (js.length : Int) B)))
  obtain ⟨W0, hW0⟩ : ∃ W0, W0 = w.alloc (.cells (wlC (.slice A js.length c) (js.length : Int) B) 86) := ⟨_, rfl⟩
  rw [← hW0] at H0
  have hw1 : IntKind.i64.wrap (tot + m) = tot + m := IntWalk.i64_in _ (by omega)
  have hw2 : IntKind.i64.wrap (tot + m - 1) = tot + m - 1 := IntWalk.i64_in _ (by omega)
  unfold wlC at hW0
  unfold wlC
  go_enter Tryd.func66, Tryd.ntmps66
  go_wp2
  rw [← hW0]
  clear hW0
  have kb : ∀ {X Y : World}, (Below w.heap.size w X ∧ BlockIs X w.heap.size 86 (wlC (.slice A js.length c) (js.length : Int) B)) → Below X.heap.size X Y → (Below w.heap.size w Y ∧ BlockIs Y w.heap.size 86 (wlC (.slice A js.length c) (js.length : Int) B)) := fun h hb => ⟨h.1.trans (hb.mono h.1.size), h.2.below hb⟩
  obtain ⟨hX1, hX2⟩ := H0.out
  refine wp_region_detY (by kernel_rfl) (fun L w' => Below w.heap.size w w' ∧ BlockIs w' w.heap.size 86 (wlC (.slice A js.length c) (js.length : Int) B)) (fun kk => (#[.pointer (some ⟨w.heap.size, 0, none⟩), .slice A js.length c, .pointer (some ⟨w.heap.size, 0, none⟩), .slice A js.length c, .int .u64 (sx : Int), .int .i64 tot, .int .i64 m, .int .i64 (tot + m), .int .i64 (tot + m - 1), .int .i64 m, .int .i64 qv, .int .i64 qv] : Array Value).getD kk undef) (by kernel_rfl) (by kernel_rfl) ⟨hX1.drew, hX2⟩ ?_ ?_
  · intro L tm w' hall hS hsz hlow hval
    have ht : tm = #[.agg #[.slice A js.length c, .int .i64 (js.length : Int), .int .u64 (B 0 : Int), .int .u64 (B 1 : Int), .int .u64 (B 2 : Int), .int .u64 (B 3 : Int), .int .u64 (B 4 : Int), .int .u64 (B 5 : Int), .int .u64 (B 6 : Int), .int .u64 (B 7 : Int)], .int .i64 m, .pointer (some ⟨w.heap.size, 0, none⟩), undef, .int .i64 0, .int .i64 qv, undef, undef, .pointer (some ⟨w.heap.size, 0, none⟩), .slice A js.length c, .pointer (some ⟨w.heap.size, 0, none⟩), .slice A js.length c, .int .u64 (sx : Int), .int .i64 tot, .int .i64 m, .int .i64 (tot + m), .int .i64 (tot + m - 1), .int .i64 m, .int .i64 qv, undef, undef, undef, undef, undef, undef, undef, undef, undef, undef, undef, undef] := by
      refine arr_of _ _ hsz fun t ht => ?_
      have ht' : t < 31 := ht
      rcases (by omega : t = 0 ∨ t = 1 ∨ t = 2 ∨ t = 3 ∨ t = 4 ∨ t = 5 ∨ t = 6 ∨ t = 7 ∨ t = 8 ∨ t = 9 ∨ t = 10 ∨ t = 11 ∨ t = 12 ∨ t = 13 ∨ t = 14 ∨ t = 15 ∨ t = 16 ∨ t = 17 ∨ t = 18 ∨ t = 19 ∨ t = 20 ∨ t = 21 ∨ t = 22 ∨ t = 23 ∨ t = 24 ∨ t = 25 ∨ t = 26 ∨ t = 27 ∨ t = 28 ∨ t = 29 ∨ t = 30) with rfl | rfl | rfl | rfl | rfl | rfl | rfl | rfl | rfl | rfl | rfl | rfl | rfl | rfl | rfl | rfl | rfl | rfl | rfl | rfl | rfl | rfl | rfl | rfl | rfl | rfl | rfl | rfl | rfl | rfl | rfl
      · exact hlow 0 (by kernel_rfl)
      · exact hlow 1 (by kernel_rfl)
      · exact hlow 2 (by kernel_rfl)
      · exact hlow 3 (by kernel_rfl)
      · exact hlow 4 (by kernel_rfl)
      · exact hval 11 _ 5 rfl rfl
      · exact hlow 6 (by kernel_rfl)
      · exact hlow 7 (by kernel_rfl)
      · exact hval 0 _ 8 rfl rfl
      · exact hval 1 _ 9 rfl rfl
      · exact hval 2 _ 10 rfl rfl
      · exact hval 3 _ 11 rfl rfl
      · exact hval 4 _ 12 rfl rfl
      · exact hval 5 _ 13 rfl rfl
      · exact hval 6 _ 14 rfl rfl
      · exact hval 7 _ 15 rfl rfl
      · exact hval 8 _ 16 rfl rfl
      · exact hval 9 _ 17 rfl rfl
      · exact hval 10 _ 18 rfl rfl
      · exact hlow 19 (by kernel_rfl)
      · exact hlow 20 (by kernel_rfl)
      · exact hlow 21 (by kernel_rfl)
      · exact hlow 22 (by kernel_rfl)
      · exact hlow 23 (by kernel_rfl)
      · exact hlow 24 (by kernel_rfl)
      · exact hlow 25 (by kernel_rfl)
      · exact hlow 26 (by kernel_rfl)
      · exact hlow 27 (by kernel_rfl)
      · exact hlow 28 (by kernel_rfl)
      · exact hlow 29 (by kernel_rfl)
      · exact hlow 30 (by kernel_rfl)
    subst ht
    have HF := Lib.hid hS
    clear hlow hval hsz hall hS
    have hBk := HF.out.2
    have c0 := hBk.cell 0
    have c1 := hBk.cell 1
    have c2 := hBk.cell 2
    have c3 := hBk.cell 3
    have c4 := hBk.cell 4
    have c5 := hBk.cell 5
    have c6 := hBk.cell 6
    have c7 := hBk.cell 7
    have c8 := hBk.cell 8
    have c9 := hBk.cell 9
    simp only [wlC, List.getElem?_toArray, List.getElem?_cons_zero, List.getElem?_cons_succ] at c0 c1 c2 c3 c4 c5 c6 c7 c8 c9
    have HTA2 := Lib.hid (HTA.out w' HF.out.1)
    unfold wlC at HTA2
    clear hBk hqv HTI HAL
    go_wp2_with fail
    refine HTA2.out.mono ?_
    rintro e w2 ⟨g, rfl, hg, hG, hb2⟩
    have HG := Lib.hid hG
    have HB2 := Lib.hid (HF.out.1.trans (hb2.mono HF.out.1.size))
    clear hG hb2 HTA2 c0 c1 c2 c3 c4 c5 c6 c7 c8 c9
    have hTL := HTL.out
    go_wp2
    clear hTL
    go_loop [5, 22] (fun tv iv => ∃ (k : Nat) (t : Int), k ≤ js.length ∧ iv = .int .i64 (k : Int) ∧ tv = .int .i64 t ∧ Hid (mostGo ((tailsL js E).drop k) t = mostGo (tailsL js E) qv)) (fun _ iv => js.length - (intOf iv).toNat)
    case atStart => exact ⟨0, qv, Nat.zero_le _, rfl, rfl, rfl⟩
    case round =>
      obtain ⟨k, t, hk, rfl, rfl, hT⟩ := hrel
      by_cases hlt : k < js.length
      · have hkt : k < (tailsL js E).length := by rw [HTL.out]; exact hlt
        have hck := HG.out.int hkt
        have HT2 := Lib.hid ((mostGo_drop (tailsL js E) k t hkt).symm.trans hT.out)
        have hk0 : (0 : Int) ≤ k := by omega
        have hk1 : (k : Int) < js.length := by omega
        have hmx : ∀ y : Int, (if t < y then y else t) = max t y := fun y => by split <;> omega
        generalize (tailsL js E)[k]'hkt = x at *
        have hmx2 := hmx x
        clear hT hkt hmx
        go_wp2
        all_goals
          go_round
          case rel => exact ⟨k + 1, max t x, by omega, by go_num, by first | rfl | (congr 1; omega), HT2⟩
          case measure => simp [intOf]; omega
      · obtain rfl : k = js.length := by omega
        have hT' := hT.out
        rw [List.drop_eq_nil_of_le (by rw [HTL.out]; omega)] at hT'
        have HT2 : Hid (t = mostGo (tailsL js E) qv) := hT'
        clear hT hT'
        go_wp2
        go_ret
        exact ⟨by rw [HV.out, ← HT2.out]; rfl, HB2.out⟩
  · intro L ac w' q op hLs hop hLi hLd hLn hS0 hlow hdep _
    have hq : q < 12 := (Array.getElem?_eq_some_iff.1 hop).1
    rcases (by omega : q = 0 ∨ q = 1 ∨ q = 2 ∨ q = 3 ∨ q = 4 ∨ q = 5 ∨ q = 6 ∨ q = 7 ∨ q = 8 ∨ q = 9 ∨ q = 10 ∨ q = 11) with rfl | rfl | rfl | rfl | rfl | rfl | rfl | rfl | rfl | rfl | rfl | rfl
    · obtain rfl := Option.some.inj hop
      have e2 : ac.tmps[2]?.getD undef = .pointer (some ⟨w.heap.size, 0, none⟩) := (Array.getD_eq_getD_getElem? ..).symm.trans (hlow 2 (by kernel_rfl))
      exact ⟨wanted_free rfl, .inl (.inl ⟨w', by simp [execOp, Act.eval, e2, go_sem], hS0⟩)⟩
    · obtain rfl := Option.some.inj hop
      have e8 : ac.tmps[8]?.getD undef = .pointer (some ⟨w.heap.size, 0, none⟩) := (Array.getD_eq_getD_getElem? ..).symm.trans (hdep 0 _ 8 (by kernel_rfl) rfl rfl)
      have hc := hS0.2.cell 0
      simp only [wlC, List.getElem?_toArray, List.getElem?_cons_zero] at hc
      exact ⟨wanted_free rfl, .inl (.inl ⟨w', by simp [execOp, Act.eval, e8, hc, go_sem], hS0⟩)⟩
    · obtain rfl := Option.some.inj hop
      have e2 : ac.tmps[2]?.getD undef = .pointer (some ⟨w.heap.size, 0, none⟩) := (Array.getD_eq_getD_getElem? ..).symm.trans (hlow 2 (by kernel_rfl))
      exact ⟨wanted_free rfl, .inl (.inl ⟨w', by simp [execOp, Act.eval, e2, go_sem], hS0⟩)⟩
    · obtain rfl := Option.some.inj hop
      have e10 : ac.tmps[10]?.getD undef = .pointer (some ⟨w.heap.size, 0, none⟩) := (Array.getD_eq_getD_getElem? ..).symm.trans (hdep 2 _ 10 (by kernel_rfl) rfl rfl)
      have hc := hS0.2.cell 0
      simp only [wlC, List.getElem?_toArray, List.getElem?_cons_zero] at hc
      exact ⟨wanted_free rfl, .inl (.inl ⟨w', by simp [execOp, Act.eval, e10, hc, go_sem], hS0⟩)⟩
    · obtain rfl := Option.some.inj hop
      have e11 : ac.tmps[11]?.getD undef = .slice A js.length c := (Array.getD_eq_getD_getElem? ..).symm.trans (hdep 3 _ 11 (by kernel_rfl) rfl rfl)
      refine ⟨wanted_free rfl, .inl (.inr ⟨93, #[.slice A js.length c], by simp [execOp, Act.eval, e11, go_sem], (call_still (HAL.out w')).mono ?_⟩)⟩
      rintro e w2 ⟨rfl, hb⟩
      exact ⟨rfl, kb hS0 hb⟩
    · obtain rfl := Option.some.inj hop
      have e9 : ac.tmps[9]?.getD undef = .slice A js.length c := (Array.getD_eq_getD_getElem? ..).symm.trans (hdep 1 _ 9 (by kernel_rfl) rfl rfl)
      have e12 : ac.tmps[12]?.getD undef = .int .u64 (sx : Int) := (Array.getD_eq_getD_getElem? ..).symm.trans (hdep 4 _ 12 (by kernel_rfl) rfl rfl)
      refine ⟨wanted_free rfl, .inl (.inr ⟨92, #[.slice A js.length c, .int .u64 (sx : Int)], by simp [execOp, Act.eval, e9, e12, go_sem], (HTI.out w' hS0.1).mono ?_⟩)⟩
      rintro e w2 ⟨rfl, hb⟩
      exact ⟨rfl, kb hS0 hb⟩
    · obtain rfl := Option.some.inj hop
      have e1 : ac.tmps[1]?.getD undef = .int .i64 m := (Array.getD_eq_getD_getElem? ..).symm.trans (hlow 1 (by kernel_rfl))
      exact ⟨wanted_free rfl, .inl (.inl ⟨w', by simp [execOp, Act.eval, e1, go_sem], hS0⟩)⟩
    · obtain rfl := Option.some.inj hop
      have e13 : ac.tmps[13]?.getD undef = .int .i64 tot := (Array.getD_eq_getD_getElem? ..).symm.trans (hdep 5 _ 13 (by kernel_rfl) rfl rfl)
      have e14 : ac.tmps[14]?.getD undef = .int .i64 m := (Array.getD_eq_getD_getElem? ..).symm.trans (hdep 6 _ 14 (by kernel_rfl) rfl rfl)
      exact ⟨wanted_free rfl, .inl (.inl ⟨w', by simp [execOp, Act.eval, e13, e14, hw1, go_sem], hS0⟩)⟩
    · obtain rfl := Option.some.inj hop
      have e15 : ac.tmps[15]?.getD undef = .int .i64 (tot + m) := (Array.getD_eq_getD_getElem? ..).symm.trans (hdep 7 _ 15 (by kernel_rfl) rfl rfl)
      exact ⟨wanted_free rfl, .inl (.inl ⟨w', by simp [execOp, Act.eval, e15, hw2, go_sem], hS0⟩)⟩
    · obtain rfl := Option.some.inj hop
      have e1 : ac.tmps[1]?.getD undef = .int .i64 m := (Array.getD_eq_getD_getElem? ..).symm.trans (hlow 1 (by kernel_rfl))
      exact ⟨wanted_free rfl, .inl (.inl ⟨w', by simp [execOp, Act.eval, e1, go_sem], hS0⟩)⟩
    · obtain rfl := Option.some.inj hop
      have e16 : ac.tmps[16]?.getD undef = .int .i64 (tot + m - 1) := (Array.getD_eq_getD_getElem? ..).symm.trans (hdep 8 _ 16 (by kernel_rfl) rfl rfl)
      have e17 : ac.tmps[17]?.getD undef = .int .i64 m := (Array.getD_eq_getD_getElem? ..).symm.trans (hdep 9 _ 17 (by kernel_rfl) rfl rfl)
      exact ⟨wanted_free rfl, .inl (.inl ⟨w', by simp [execOp, Act.eval, e16, e17, hm0, hqv, go_sem], hS0⟩)⟩
    · obtain rfl := Option.some.inj hop
      have e18 : ac.tmps[18]?.getD undef = .int .i64 qv := (Array.getD_eq_getD_getElem? ..).symm.trans (hdep 10 _ 18 (by kernel_rfl) rfl rfl)
      exact ⟨wanted_free rfl, .inl (.inl ⟨w', by simp [execOp, Act.eval, e18, go_sem], hS0⟩)⟩
set_option maxRecDepth 100000 in
set_option maxHeartbeats 1000000 in
theorem impl_LengthBound (A C : Option Addr) (c d : Nat) (js : List J) (m : Int) (E : List Pr) (w : World) (hr : Row w A (jc js)) (hq : Row w C (pc E)) (hn : js.length ≤ 10000000) (hl : E.length ≤ 10000000) (hT : TzTab w) :
    Calls Tryd.prog 35 #[.slice A js.length c, .int .i64 m, .slice C E.length d] w (RetNB w (lenBR js m E)) := by
  have HRR : Hid (lenBR js m E = if goodB js m E then (boundV js m E, true) else (0, false)) := rfl
  have HON : Hid (goodB js m E = onB js m E) := by
    show _ = _
    unfold onB
    cases hm : inB m 1 4
    · unfold goodB; rw [hm]; simp
    · rw [wl_good m hm]; rfl
  rw [HON.out] at HRR
  have H := Lib.hid (workloadOn_any A C c d js m E w hr hq hn hl hT)
  have HR := Lib.hid hr
  have HT := Lib.hid hT
  clear hr hq hT HON
  go_enter Tryd.func35, Tryd.ntmps35
  go_wp2_with fail
  refine H.out.mono ?_
  rintro e w1 ⟨hb, ⟨hw, h8, rfl⟩ | ⟨hw, rfl⟩⟩
  · rw [hw, if_pos rfl] at HRR
    unfold onB at hw
    rw [Bool.and_eq_true] at hw
    obtain ⟨hok, _, hirr⟩ := wl_parts hw.2
    have hbA := hb.alloc hb.size (.cells (wlC (.slice A js.length c) (js.length : Int) (befN js.length (tabB js.length E))) 86)
    have HC := Lib.hid (lengthBound_any A c js m E _ (HR.out.below hbA) hok h8 hirr (inB_out hw.1) (HT.out.below hbA))
    have HB := Lib.hid hbA
    clear hw hb hbA hok hirr H
    unfold wlC
    unfold wlC at HC HB
    go_wp2_with fail
    refine HC.out.mono ?_
    rintro e w2 ⟨rfl, hb2⟩
    have HF := Lib.hid (HB.out.trans (hb2.mono HB.out.size))
    clear hb2 HC HB
    go_wp2
    go_ret2
    exact ⟨by rw [HRR.out]; rfl, HF.out⟩
  · rw [hw, if_neg (by decide)] at HRR
    have HB := Lib.hid (hb.alloc hb.size (.cells wlZ 86))
    clear hw hb H
    unfold wlZ
    unfold wlZ at HB
    go_wp2
    go_ret2
    exact ⟨by rw [HRR.out]; rfl, HB.out⟩
end Go.Proofs.YtapbgmmkkngdoaaDoor

namespace Go.Proofs.YtapbgmmkkngdoaaDoor
open Go.RowKit Go.ChangeShapes Go.WideShapes Go.Deep

section
variable {H : Type} {enc : TypeId × Value → H} {P : Program} {w : World} {base : Nat} {spare : Nat → Bool} {held : Bool}
theorem open_slice_array2 {t e k : TypeId} {fuel : Nat} {cs : List Value} {x : DataW H × List MemPlace} (ht : P.underlying t = some (.slice e)) (he : P.underlying e = some (.array 2 k))
    (hC : P.cellsOf e = 2) (hk : P.cellsOf k = 1) (h : DataW.trod enc P w base spare held fuel t cs = some x) :
    (cs = [.slice none 0 0]) ∨
    ∃ (a : Addr) (len cap m : Nat), cs = [.slice (some a) len cap] ∧ len ≤ cap ∧ cap ≤ maxLen ∧ len ≤ m ∧
      ∀ i, i < m → ∃ n : Nat, ∀ (j : Nat), j < 2 → ∃ (v : Value) (y : DataW H × List MemPlace), w.cell? (a.add (i * 2 + j)) = some v ∧ DataW.trod enc P w base spare held n k [v] = some y := by
  rcases open_slice ht h with ⟨h0, _⟩ | ⟨a, len, cap, m, n, D, Pl, hcs, hb, hl, hm, hmm, hx, hi⟩
  · exact .inl h0
  · refine .inr ⟨a, len, cap, m, hcs, hl, hm, by rw [hmm]; split <;> omega, fun i him => ?_⟩
    obtain ⟨cs', hc, ht'⟩ := hi i him
    rw [hC] at hc
    obtain ⟨ys, n', hn', hy, hlen, hyl, hf⟩ := DataW.trod_array he ht'
    obtain ⟨_, hcl, hat⟩ := World.cells?_some hc
    refine ⟨n', fun j hj => ?_⟩
    have hcell := hat j hj
    have hv : cs'[j]? = some (cs'[j]'(by omega)) := List.getElem?_eq_getElem (by omega)
    have h1 := hf j hj
    rw [hk, Nat.mul_one] at h1
    have hone' : (cs'.drop j).take 1 = [cs'[j]'(by omega)] := by
      rw [List.drop_eq_getElem_cons (by omega)]
      rfl
    rw [hone'] at h1
    have hys : ys[j]? = some (ys[j]'(by omega)) := List.getElem?_eq_getElem (by omega)
    refine ⟨_, _, ?_, h1.trans hys⟩
    rw [← Go.Deep.add_add, hcell, hv]
def wfPr (x : Pr) : Prop := (Lit.int .i64 x.1).wf = true ∧ (Lit.int .i64 x.2).wf = true
/-- A slice of pairs that came in. -/
def IsPairsA (w : World) (A : Option Addr) (len cap : Nat) (xs : List Pr) : Prop := xs.length = len ∧ len ≤ cap ∧ cap ≤ maxLen ∧ Row w A (pc xs) ∧ ∀ x ∈ xs, wfPr x
theorem pc_range (f : Nat → Pr) (n : Nat) (u : Value) (i : Nat) (h : (pc ((List.range n).map f))[i]? = some u) : i < n * 2 ∧ (cellsP (f (i / 2)))[i % 2]? = some u := by
  have hi : i < 2 * n := by
    have := (List.getElem?_eq_some_iff.1 h).1
    rw [pc_len] at this; simpa using this
  have hk : i / 2 < ((List.range n).map f).length := by simp; omega
  have := pc_get ((List.range n).map f) (i / 2) (i % 2) hk (by omega)
  rw [show i / 2 * 2 + i % 2 = i by omega, h] at this
  refine ⟨by omega, ?_⟩
  rw [this]
  simp
theorem open_pairs {t e k : TypeId} {fuel : Nat} {cs : List Value} {x : DataW H × List MemPlace} (ht : P.underlying t = some (.slice e)) (he : P.underlying e = some (.array 2 k))
    (hC : P.cellsOf e = 2) (hk : P.cellsOf k = 1) (i0 : P.underlying k = some (.int .i64))
    (h : DataW.trod enc P w base spare held fuel t cs = some x) : ∃ A len cap js, cs = [.slice A len cap] ∧ IsPairsA w A len cap js := by
  rcases open_slice_array2 ht he hC hk h with rfl | ⟨a, len, cap, m, rfl, hl, hm, hlm, hi⟩
  · exact ⟨none, 0, 0, [], rfl, rfl, Nat.le_refl _, Nat.zero_le _, Row.nil _, by simp⟩
  · have key : ∀ i : Nat, ∃ j : Pr, i < m → (w.cell? (a.add (i * 2 + 0)) = some (.int .i64 j.1) ∧ w.cell? (a.add (i * 2 + 1)) = some (.int .i64 j.2)) ∧ wfPr j := by
      intro i
      by_cases him : i < m
      · obtain ⟨n, hf⟩ := hi i him
        obtain ⟨v0, y0, c0, t0⟩ := hf 0 (by omega)
        obtain ⟨v1, y1, c1, t1⟩ := hf 1 (by omega)
        obtain ⟨n0, e0, _, w0⟩ := DataW.trod_int i0 t0
        obtain ⟨n1, e1, _, w1⟩ := DataW.trod_int i0 t1
        injection e0 with e0 _
        injection e1 with e1 _
        subst e0 e1
        exact ⟨(n0, n1), fun _ => ⟨⟨c0, c1⟩, w0, w1⟩⟩
      · exact ⟨(0, 0), fun h => absurd h him⟩
    obtain ⟨f, hf⟩ := Classical.axiomOfChoice key
    refine ⟨some a, len, cap, (List.range len).map f, rfl, by simp, hl, hm, fun hn => ?_, ?_⟩
    · rw [pc_len] at hn
      have h0 : 0 < len := by simpa using hn
      have hc0 := (hf 0 (by omega)).1.1
      have hb := lt_of_cell hc0
      rw [add_block] at hb
      refine ⟨a, rfl, hb, fun j u hu => ?_⟩
      obtain ⟨hj, hu'⟩ := pc_range f len u j hu
      obtain ⟨⟨c0, c1⟩, _⟩ := hf (j / 2) (by omega)
      have ej : a.add j = a.add (j / 2 * 2 + j % 2) := by rw [show j / 2 * 2 + j % 2 = j by omega]
      rw [ej]
      have h4 : j % 2 = 0 ∨ j % 2 = 1 := by omega
      rcases h4 with h4 | h4 <;> rw [h4] at hu' ⊢ <;> simp [cellsP] at hu' <;> subst hu' <;> assumption
    · intro j hj
      obtain ⟨i, hi, rfl⟩ := List.mem_map.1 hj
      exact (hf i (by have := List.mem_range.1 hi; omega)).2
end
theorem szIntA2S_any (A : Option Addr) (n c : Nat) (left : Int) (w : World) (hn : n ≤ maxLen) (h0 : 0 ≤ left) (h1 : left ≤ 1048576) :
    Calls Tryd.prog 11 #[.slice A n c, .int .i64 left] w fun e w' => ((e = .returned (.int .i64 (left - n)) ∧ (n : Int) ≤ left) ∨ (e = .returned (.int .i64 (-1)) ∧ left < n)) ∧ w = w' := by
  unfold maxLen at hn
  by_cases h : (n : Int) ≤ left
  · go_enter Tryd.func11, Tryd.ntmps11
    go_wp2
    go_ret
    first | exact ⟨.inl ⟨rfl, h⟩, rfl⟩ | exact ⟨.inl rfl, rfl⟩
  · go_enter Tryd.func11, Tryd.ntmps11
    go_wp2
    go_ret
    first | exact ⟨.inr ⟨rfl, by omega⟩, rfl⟩ | exact ⟨.inr rfl, rfl⟩
theorem argP_kinds : Tryd.prog.underlying 22 = some (.slice 56) ∧ Tryd.prog.underlying 56 = some (.array 2 3) ∧ Tryd.prog.cellsOf 56 = 2 ∧ Tryd.prog.cellsOf 3 = 1 :=
  ⟨Tryd.underlying22, Tryd.underlying56, by kernel_rfl, by kernel_rfl⟩
end Go.Proofs.YtapbgmmkkngdoaaDoor

namespace Go.Proofs.YtapbgmmkkngdoaaDoor
open Go.RowKit
theorem infoP2 : (Tryd.prog.info? 56).map (fun i => (i.zero, i.size, i.bytes)) = some (some (.agg #[.int .i64 0, .int .i64 0]), 2, 16) := by kernel_rfl
set_option maxRecDepth 100000 in
set_option maxHeartbeats 1000000 in
theorem toIntA2_any (x : Pr) (w : World) :
    Calls Tryd.prog 44 #[.agg #[.int .i64 x.1, .int .i64 x.2]] w fun e w' => e = .returned (.agg #[.int .i64 x.1, .int .i64 x.2]) ∧ Below w.heap.size w w' := by
  have b0 := (Below.refl w.heap.size w).alloc (Nat.le_refl _) (.cells #[.int .i64 x.1, .int .i64 x.2] 56)
  have b1 := b0.alloc b0.size (.cells #[.int .i64 0, .int .i64 0] 56)
  have b2 := b1.alloc b1.size (.cells #[.int .i64 0, .int .i64 0] 56)
  have e0 : (w.alloc (.cells #[.int .i64 x.1, .int .i64 x.2] 56)).heap.size = w.heap.size + 1 := by simp
  have e1 : ((w.alloc (.cells #[.int .i64 x.1, .int .i64 x.2] 56)).alloc (.cells #[.int .i64 0, .int .i64 0] 56)).heap.size = w.heap.size + 1 + 1 := by simp
  have h0 := ((BlockIs.new w 56 #[.int .i64 x.1, .int .i64 x.2]).below ((Below.refl _ _).alloc (Nat.le_refl _) (.cells #[.int .i64 0, .int .i64 0] 56))).below ((Below.refl _ _).alloc (Nat.le_refl _) (.cells #[.int .i64 0, .int .i64 0] 56))
  have h1 := (BlockIs.new (w.alloc (.cells #[.int .i64 x.1, .int .i64 x.2] 56)) 56 #[.int .i64 0, .int .i64 0]).below ((Below.refl _ _).alloc (Nat.le_refl _) (.cells #[.int .i64 0, .int .i64 0] 56))
  have h2 := BlockIs.new ((w.alloc (.cells #[.int .i64 x.1, .int .i64 x.2] 56)).alloc (.cells #[.int .i64 0, .int .i64 0] 56)) 56 #[.int .i64 0, .int .i64 0]
  rw [e0] at h1
  rw [e1] at h2
  have H := Lib.hid (And.intro h0 (And.intro h1 (And.intro h2 b2)))
  clear b0 b1 b2 e0 e1 h0 h1 h2
  go_enter Tryd.func44, Tryd.ntmps44
  go_wp2
  go_loopw [4] (fun i wr => ∃ (k : Nat) (u v : Int), k ≤ 2 ∧ i = .int .i64 (k : Int) ∧ Hid (1 ≤ k → u = x.1) ∧ Hid (2 ≤ k → v = x.2) ∧ BlockIs wr w.heap.size 56 #[.int .i64 x.1, .int .i64 x.2] ∧ BlockIs wr (w.heap.size + 1) 56 #[.int .i64 0, .int .i64 0] ∧ BlockIs wr (w.heap.size + 1 + 1) 56 #[.int .i64 u, .int .i64 v] ∧ Below w.heap.size w wr) (fun i _ => 2 - (intOf i).toNat)
  case atStart => exact ⟨0, 0, 0, by omega, rfl, fun h => by omega, fun h => by omega, H.out⟩
  case round =>
    obtain ⟨k, u, v, hk, rfl, hu, hv, h0, h1, h2, hb⟩ := hrel
    clear H
    have a0 := h0.cell 0
    have a1 := h0.cell 1
    have c0 := h2.cell 0
    have c1 := h2.cell 1
    have f0 := h2.frozen 0
    have f1 := h2.frozen 1
    have r0 := h1.cell 0
    have r1 := h1.cell 1
    have g0 := h1.frozen 0
    have g1 := h1.frozen 1
    simp only [List.getElem?_toArray, List.getElem?_cons_zero, List.getElem?_cons_succ] at a0 a1 c0 c1 r0 r1
    rcases (by omega : k = 0 ∨ k = 1 ∨ k = 2) with rfl | rfl | rfl
    · have H2 := Lib.hid (And.intro (h0.away (g' := w.heap.size + 1 + 1) (by omega) 0 (.int .i64 x.1)) (And.intro (h1.away (g' := w.heap.size + 1 + 1) (by omega) 0 (.int .i64 x.1)) (And.intro (h2.set 0 (.int .i64 x.1)) (hb.setCell (p := ⟨w.heap.size + 1 + 1, 0, none⟩) (by simp; omega) (.int .i64 x.1)))))
      clear h0 h1 h2 hb
      go_wp2
      go_roundw
      case rel => exact ⟨1, x.1, v, by omega, by go_num, fun _ => rfl, fun h => by omega, H2.out⟩
      case measure => simp [intOf]
    · have H2 := Lib.hid (And.intro (h0.away (g' := w.heap.size + 1 + 1) (by omega) 1 (.int .i64 x.2)) (And.intro (h1.away (g' := w.heap.size + 1 + 1) (by omega) 1 (.int .i64 x.2)) (And.intro (h2.set 1 (.int .i64 x.2)) (hb.setCell (p := ⟨w.heap.size + 1 + 1, 1, none⟩) (by simp; omega) (.int .i64 x.2)))))
      clear h0 h1 h2 hb
      go_wp2
      go_roundw
      case rel => exact ⟨2, u, x.2, by omega, by go_num, fun _ => hu.out (by omega), fun _ => rfl, H2.out⟩
      case measure => simp [intOf]
    · obtain rfl := hu.out (by omega)
      obtain rfl := hv.out (by omega)
      have H2 := Lib.hid (And.intro ((h1.set 0 (.int .i64 x.1)).set 1 (.int .i64 x.2)) ((hb.setCell (p := ⟨w.heap.size + 1, 0, none⟩) (by simp) (.int .i64 x.1)).setCell (p := ⟨w.heap.size + 1, 1, none⟩) (by simp) (.int .i64 x.2)))
      clear h0 h1 h2 hb
      go_wp2
      have hZ := H2.out.1
      generalize World.setCell _ _ _ = W at *
      have q0 := hZ.cell 0
      have q1 := hZ.cell 1
      simp at q0 q1
      exact bodyPost_ret (v := .agg #[.int .i64 x.1, .int .i64 x.2]) (by simp [results, Tryd.results44, q0, q1, go_sem]) rfl ⟨rfl, H2.out.2⟩
def set2 (cs : Array Value) (p : Nat) (x : Pr) : Array Value := (cs.setIfInBounds p (.int .i64 x.1)).setIfInBounds (p + 1) (.int .i64 x.2)
theorem set2_size (cs : Array Value) (p : Nat) (x : Pr) : (set2 cs p x).size = cs.size := by unfold set2; simp
theorem Upto.step2 {xs : List Pr} {k : Nat} {cs : Array Value} (h : Upto (pc xs) (k * 2) cs) (hk : k < xs.length) : Upto (pc xs) ((k + 1) * 2) (set2 cs (k * 2) xs[k]) := by
  have hl := pc_len xs
  have g0 : (pc xs)[k * 2]'(by omega) = .int .i64 xs[k].1 := by
    have := pc_get xs k 0 hk (by omega); rw [List.getElem?_eq_getElem (by omega)] at this; exact Option.some.inj this
  have g1 : (pc xs)[k * 2 + 1]'(by omega) = .int .i64 xs[k].2 := by
    have := pc_get xs k 1 hk (by omega); rw [List.getElem?_eq_getElem (by omega)] at this; exact Option.some.inj this
  have h1 := h.step (by omega)
  rw [g0] at h1
  have h2 := h1.step (by omega)
  rw [g1] at h2
  rw [show (k + 1) * 2 = k * 2 + 1 + 1 by omega]
  exact h2
theorem BlockIs.set2 {w : World} {g : Nat} {t : TypeId} {cs : Array Value} (h : BlockIs w g t cs) (p : Nat) (x : Pr) :
    BlockIs ((w.setCell ⟨g, p, none⟩ (.int .i64 x.1)).setCell ⟨g, p + 1, none⟩ (.int .i64 x.2)) g t (set2 cs p x) := (h.set p _).set (p + 1) _
theorem toIntA2S_any (A : Option Addr) (c : Nat) (xs : List Pr) (w : World) (hr : Row w A (pc xs)) (hn : xs.length ≤ 10000000) :
    Calls Tryd.prog 13 #[.slice A xs.length c] w fun e w' => ∃ g, e = .returned (.slice (some ⟨g, 0, none⟩) xs.length xs.length) ∧ w.heap.size ≤ g ∧ w'.ownsRow w.heap.size 56 2 (.slice (some ⟨g, 0, none⟩) xs.length xs.length) xs.length (pc xs) ∧ Below w.heap.size w w' := by
  have hmk := run_make_rows (P := Tryd.prog) 22 56 (.agg #[.int .i64 0, .int .i64 0]) 2 16 Tryd.underlying22 infoP2 .i64 .i64 xs.length (by omega) (by omega)
  go_enter Tryd.func13, Tryd.ntmps13
  go_wp2
  go_loopw [4] (fun i wr => ∃ (k : Nat) (cs : Array Value), k ≤ xs.length ∧ i = .int .i64 k ∧ BlockIs wr w.heap.size 56 cs ∧ Hid (Upto (pc xs) (k * 2) cs) ∧ Below w.heap.size w wr) (fun i _ => xs.length - (intOf i).toNat)
  case atStart =>
    exact ⟨0, _, Nat.zero_le _, rfl, BlockIs.new _ _ _, ⟨by rw [size_madeCells, pc_len]; omega, by omega⟩, (Below.refl _ _).alloc (Nat.le_refl _) _⟩
  case round =>
    obtain ⟨k, cs, hk, rfl, hB, hC, hb⟩ := hrel
    clear hmk
    by_cases hlt : k < xs.length
    · obtain ⟨ad, hA, hbl, hc0, hc1⟩ := (hr.below hb).pair hlt
      subst hA
      go_wp2_with fail
      refine (toIntA2_any xs[k] _).mono ?_
      rintro e w1 ⟨rfl, hb1⟩
      have hz : cs.size = 2 * xs.length := by rw [hC.out.1, pc_len]
      have hB1 := hB.below hb1
      obtain ⟨v0, hk0⟩ := hB1.has (i := k * 2) (by omega)
      obtain ⟨v1, hk1⟩ := hB1.has (i := k * 2 + 1) (by omega)
      have hf0 := hB1.frozen (k * 2)
      have hf1 := hB1.frozen (k * 2 + 1)
      have HC := Lib.hid (hC.out.step2 hlt)
      have HB := Lib.hid (hB1.set2 (k * 2) xs[k])
      have Hb := Lib.hid (hb.trans (hb1.mono hb.size))
      clear hz hB1 hB hC hb hb1 hr hc0 hc1
      generalize xs[k] = j at *
      go_wp2
      go_roundw
      case rel => exact ⟨k + 1, _, by omega, by go_num, HB.out, HC.out, (Hb.out.setCell (Nat.le_refl _) _).setCell (Nat.le_refl _) _⟩
      case measure => simp [intOf]; omega
    · go_wp2
      go_ret
      obtain rfl : k = xs.length := by omega
      refine ⟨_, rfl, Nat.le_refl _, ?_, hb⟩
      have hC' := hC.out
      rw [show xs.length * 2 = (pc xs).length by rw [pc_len]; omega] at hC'
      have hsz : cs.size = xs.length * 2 := by rw [hC'.1, pc_len]; omega
      have := hB.own (base := w.heap.size) (n := xs.length) (c := xs.length) (size := 2) (Nat.le_refl _) (by omega) (Nat.le_refl _) (by unfold maxLen; omega) (by omega)
      rwa [List.take_of_length_le (by simp [hsz]), hC'.all] at this
theorem toIntA2S_seg (A : Option Addr) (c : Nat) (xs : List Pr) (w : World) (hr : Row w A (pc xs)) (hn : xs.length ≤ 10000000) :
    Calls Tryd.prog 13 #[.slice A xs.length c] w fun e w' => ∃ g, e = .returned (.slice (some ⟨g, 0, none⟩) xs.length xs.length) ∧ Seg w' 56 2 w.heap.size w'.heap.size (some ⟨g, 0, none⟩) xs.length xs.length (pc xs) ∧ Below w.heap.size w w' :=
  (toIntA2S_any A c xs w hr hn).mono fun _ _ ⟨g, he, _, ho, hb⟩ => ⟨g, he, Seg.of_own ho, hb⟩
end Go.Proofs.YtapbgmmkkngdoaaDoor
