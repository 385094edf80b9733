/- Texts joined: Pairs Pap ClS ClI Exp MapW Ord RetBB SchedE Ends EndsO Ise ArgP PrT. -/
import Derived.Test.YtapbgmmkkngdoaaDoorPrC
import Derived.Deep.RegionWith
import Derived.Test.YtapbgmmkkngdoaaDoorTbl
import Derived.Test.YtapbgmmkkngdoaaDoorPrx
import Derived.Test.YtapbgmmkkngdoaaDoorGroP
import Derived.WalkKit
import Derived.Test.YtapbgmmkkngdoaaDoorMem
import Derived.MapKept
import Derived.Test.YtapbgmmkkngdoaaDoorGood
import Derived.Test.YtapbgmmkkngdoaaDoorSegH
import Derived.Test.YtapbgmmkkngdoaaDoorIdleP
import Derived.StillTailTactics
import Derived.Deep.QuietTactic
import Derived.BigQuiet
import Derived.Test.YtapbgmmkkngdoaaDoorArgJ
import Derived.OpenShut
import Derived.Test.YtapbgmmkkngdoaaDoorBlo
namespace Go.Proofs.YtapbgmmkkngdoaaDoor
open Go.RowKit
theorem eqIntA2_same (x : Pr) (w : World) :
    Calls Tryd.prog 46 #[.agg #[.int .i64 x.1, .int .i64 x.2], .agg #[.int .i64 x.1, .int .i64 x.2]] w fun e w' => e = .returned (.bool true) ∧ Below w.heap.size w w' := by
  have b1 := (Below.refl w.heap.size w).alloc (Nat.le_refl _) (.cells #[.int .i64 x.1, .int .i64 x.2] 56)
  have b2 := b1.alloc b1.size (.cells #[.int .i64 x.1, .int .i64 x.2] 56)
  have h1 := (BlockIs.new w 56 #[.int .i64 x.1, .int .i64 x.2]).below ((Below.refl _ _).alloc (Nat.le_refl _) (.cells #[.int .i64 x.1, .int .i64 x.2] 56))
  have h2 := BlockIs.new (w.alloc (.cells #[.int .i64 x.1, .int .i64 x.2] 56)) 56 #[.int .i64 x.1, .int .i64 x.2]
  have hs : (w.alloc (.cells #[.int .i64 x.1, .int .i64 x.2] 56)).heap.size = w.heap.size + 1 := by simp
  rw [hs] at h2
  have c0 := h1.cell 0
  have c1 := h1.cell 1
  have d0 := h2.cell 0
  have d1 := h2.cell 1
  simp only [List.getElem?_toArray, List.getElem?_cons_zero, List.getElem?_cons_succ] at c0 c1 d0 d1
  have HB := Lib.hid b2
  have HC := Lib.hid (And.intro c0 (And.intro c1 (And.intro d0 d1)))
  clear b1 b2 h1 h2 hs c0 c1 d0 d1
  go_enter Tryd.func46, Tryd.ntmps46
  go_wp2
  go_loopw [5] (fun i wr => ∃ k n : Nat, k ≤ 2 ∧ i = .int .i64 (k : Int) ∧ wr = ((w.alloc (.cells #[.int .i64 x.1, .int .i64 x.2] 56)).alloc (.cells #[.int .i64 x.1, .int .i64 x.2] 56)).drewN n) (fun i _ => 2 - (intOf i).toNat)
  case atStart => exact ⟨0, 0, by omega, rfl, rfl⟩
  case round =>
    obtain ⟨k, n, hk, rfl, rfl⟩ := hrel
    generalize ((w.alloc (.cells #[.int .i64 x.1, .int .i64 x.2] 56)).alloc (.cells #[.int .i64 x.1, .int .i64 x.2] 56)) = W at *
    have e0 : (W.drewN n).cell? ⟨w.heap.size, 0, none⟩ = some (.int .i64 x.1) := HC.out.1
    have e1 : (W.drewN n).cell? ⟨w.heap.size, 1, none⟩ = some (.int .i64 x.2) := HC.out.2.1
    have e2 : (W.drewN n).cell? ⟨w.heap.size + 1, 0, none⟩ = some (.int .i64 x.1) := HC.out.2.2.1
    have e3 : (W.drewN n).cell? ⟨w.heap.size + 1, 1, none⟩ = some (.int .i64 x.2) := HC.out.2.2.2
    obtain ⟨c0, c1, d0, d1⟩ := HC.out
    rcases (by omega : k = 0 ∨ k = 1 ∨ k = 2) with rfl | rfl | rfl
    · go_wp2
      go_quiet (fail)
      go_wp2
      go_roundw
      case rel => exact ⟨1, _, by omega, by go_num, rfl⟩
      case measure => simp [intOf]
    · go_wp2
      go_quiet (fail)
      go_wp2
      go_roundw
      case rel => exact ⟨2, _, by omega, by go_num, rfl⟩
      case measure => simp [intOf]
    · go_wp2
      go_ret
      exact ⟨rfl, below_drewN HB.out _⟩
theorem eqIntA2S_seg (A B : Option Addr) (c d : Nat) (xs : List Pr) (w : World) (hr : Row w A (pc xs)) (hq : Row w B (pc xs)) (hn : xs.length ≤ 10000000) :
    Calls Tryd.prog 15 #[.slice A xs.length c, .slice B xs.length d] w fun e w' => e = .returned (.bool true) ∧ Below w.heap.size w w' := by
  go_enter Tryd.func15, Tryd.ntmps15
  go_wp2
  go_loopw [5] (fun i wr => ∃ k : Nat, k ≤ xs.length ∧ i = .int .i64 k ∧ Below w.heap.size w wr) (fun i _ => xs.length - (intOf i).toNat)
  case atStart => exact ⟨0, Nat.zero_le _, rfl, Below.refl _ _⟩
  case round =>
    obtain ⟨k, hk, rfl, hb⟩ := hrel
    by_cases hlt : k < xs.length
    · obtain ⟨a, hA, _, hc0, hc1⟩ := (hr.below hb).pair hlt
      obtain ⟨b, hB, _, hd0, hd1⟩ := (hq.below hb).pair hlt
      subst hA hB
      have HB := Lib.hid hb
      clear hr hq hb
      generalize xs[k] = j at *
      have hi : (0 : Int) ≤ k := by omega
      have hi' : (k : Int) < xs.length := by omega
      go_wp2
      go_region_with (go_at_call 46; refine (eqIntA2_same j _).mono ?_; rintro e w1 ⟨rfl, hb1⟩)
      all_goals
        go_wp2
        go_roundw
        case rel => exact ⟨k + 1, by omega, by go_num, HB.out.trans ((⟨hb1.os, hb1.tape, hb1.output, hb1.size, hb1.block⟩ : Below wr.heap.size wr w1).mono HB.out.size)⟩
        case measure => simp [intOf]; omega
    · go_wp2
      go_ret
      exact ⟨rfl, hb⟩
theorem markIntA2S_none (A : Option Addr) (c : Nat) (k : Int) (w : World) :
    Calls Tryd.prog 18 #[.slice A 0 c, .int .i64 k] w fun e w' => e = .returned (.int .i64 k) ∧ w = w' := by
  go_enter Tryd.func18, Tryd.ntmps18
  go_wp2
  refine wp_loop_rounds 1 ?_
  rw [rounds_succ]
  go_wp2
  go_ret
  exact ⟨rfl, rfl⟩
theorem markIntA2S_some (g c n k0 : Nat) (cs0 : Array Value) (w : World) (h : BlockIs w g 56 cs0) (hn : cs0.size = c * 2) (hnc : n ≤ c) (hn1 : n ≤ 10000000) (hk1 : k0 ≤ 1000000000) :
    Calls Tryd.prog 18 #[.slice (some ⟨g, 0, none⟩) n c, .int .i64 (k0 : Int)] w fun e w' => e = .returned (.int .i64 ((k0 + 2 * n : Nat) : Int)) ∧ (∃ cs, cs.size = cs0.size ∧ BlockIs w' g 56 cs ∧ cs.toList.take (n * 2) = marksI k0 (n * 2)) ∧ w.grownBy w' (some g) ∧ w'.heap.size = w.heap.size := by
  go_enter Tryd.func18, Tryd.ntmps18
  go_wp2
  go_loopw [1, 5] (fun k i wr => ∃ (m : Nat) (cs : Array Value), m ≤ n ∧ i = .int .i64 (m : Int) ∧ k = .int .i64 ((k0 + 2 * m : Nat) : Int) ∧ Hid (cs.size = cs0.size) ∧ Hid (BlockIs wr g 56 cs) ∧ Hid (PreC (marksI k0 (n * 2)) (m * 2) cs) ∧ Hid (w.grownBy wr (some g)) ∧ Hid (wr.heap.size = w.heap.size)) (fun _ i _ => n - (intOf i).toNat)
  case atStart => exact ⟨0, cs0, Nat.zero_le _, rfl, by go_num, rfl, h, ⟨by rw [marksI_len]; omega, by omega⟩, ⟨rfl, rfl, rfl, Nat.le_refl _, fun _ _ _ => rfl⟩, rfl⟩
  case round =>
    obtain ⟨m, cs, hm, rfl, rfl, hz, hB, hP, hG, hsz⟩ := hrel
    clear h
    by_cases hlt : m < n
    · have hi : (0 : Int) ≤ m := by omega
      have hi' : (m : Int) < n := by omega
      obtain ⟨wo, rfl⟩ : ∃ wo : World, wo = wr := ⟨_, rfl⟩
      go_wp2
      go_loopw [1, 6] (fun k jv wi => ∃ (j : Nat) (cs' : Array Value), j ≤ 2 ∧ jv = .int .i64 (j : Int) ∧ k = .int .i64 ((k0 + 2 * m + j : Nat) : Int) ∧ Hid (cs'.size = cs0.size) ∧ Hid (BlockIs wi g 56 cs') ∧ Hid (PreC (marksI k0 (n * 2)) (m * 2 + j) cs') ∧ Hid (w.grownBy wi (some g)) ∧ Hid (wi.heap.size = w.heap.size)) (fun _ jv _ => 2 - (intOf jv).toNat)
      case atStart => exact ⟨0, cs, by omega, rfl, by go_num, hz, hB, hP, hG, hsz⟩
      case round =>
        obtain ⟨j, cs', hj, rfl, rfl, hz', hB', hP', hG', hsz'⟩ := hrel
        clear hz hB hP hG hsz
        by_cases hj2 : j < 2
        · have hj0 : (0 : Int) ≤ j := by omega
          have hj1 : (j : Int) < 2 := by omega
          obtain ⟨v0, hv0⟩ : ∃ v, cs'[m * 2 + j]? = some v := ⟨_, Array.getElem?_eq_getElem (by have := hz'.out; omega)⟩
          have hck : wr.cell? ⟨g, m * 2 + j, none⟩ = some v0 := by rw [hB'.out.cell, hv0]
          have hfz := hB'.out.frozen (m * 2 + j)
          have hst := hP'.out.step (by rw [marksI_len]; omega)
          rw [marksI_get k0 (n * 2) (m * 2 + j) (by omega)] at hst
          have HS := Lib.hid hst
          have HB2 := Lib.hid (hB'.out.set (m * 2 + j) (.int .i64 ((k0 + (m * 2 + j) : Nat) : Int)))
          have HG2 := Lib.hid (grown_setCell hG'.out (m * 2 + j) (.int .i64 ((k0 + (m * 2 + j) : Nat) : Int)))
          have hcast : ((k0 + (m * 2 + j) : Nat) : Int) = (k0 : Int) + 2 * m + j := by omega
          rw [hcast] at HB2 HG2 HS
          have HZ2 : Hid ((wr.setCell ⟨g, m * 2 + j, none⟩ (.int .i64 ((k0 : Int) + 2 * m + j))).heap.size = w.heap.size) := by show _ = _; rw [← hsz'.out]; simp [World.setCell]
          have HZ3 := hz'
          clear hv0 hst hB' hP' hG' hsz' hz' hcast
          go_wp2
          go_roundw
          case rel => exact ⟨j + 1, _, by omega, by go_num, by go_num, by show _ = _; rw [Array.size_setIfInBounds]; exact HZ3.out, HB2.out, HS.out, HG2.out, HZ2.out⟩
          case measure => simp [intOf]; omega
        · obtain rfl : j = 2 := by omega
          go_wp2
          go_roundw
          case rel => exact ⟨m + 1, cs', by omega, by go_num, by go_num, hz', hB', by rw [show (m + 1) * 2 = m * 2 + 2 by omega]; exact hP', hG', hsz'⟩
          case measure => simp [intOf]; omega
    · obtain rfl : m = n := by omega
      go_wp2
      go_ret
      refine ⟨rfl, ⟨cs, hz.out, hB.out, ?_⟩, hG.out, hsz.out⟩
      have hl := marksI_len k0 (m * 2)
      have hP' : PreC (marksI k0 (m * 2)) (marksI k0 (m * 2)).length cs := by rw [hl]; exact hP.out
      have := hP'.all
      rwa [hl] at this
theorem markIntA2S_seg (A : Option Addr) (c n lo hi : Nat) (k : Int) (cs : List Value) (w : World) (h : Seg w 56 2 lo hi A n c cs) (h0 : 0 ≤ k) (h1 : k ≤ 1000000000) (hn : n ≤ 10000000) :
    Calls Tryd.prog 18 #[.slice A n c, .int .i64 k] w fun e w' => e = .returned (.int .i64 (k + 2 * n)) ∧ Seg w' 56 2 lo hi A n c (marksI k.toNat (n * 2)) ∧ Touch lo hi w w' := by
  have hk : k = (k.toNat : Int) := by omega
  by_cases hz : n = 0
  · subst hz
    refine (markIntA2S_none A c k w).mono ?_
    rintro e w' ⟨rfl, rfl⟩
    have hcs := h.slice_nil
    subst hcs
    exact ⟨by simp, h, Touch.refl _ _ _⟩
  · obtain ⟨g, cur, rfl, hlo, hhi, hB, h2, h3, h4, h5⟩ := h.block (by omega)
    have H := markIntA2S_some g c n k.toNat cur w hB h4 h2 hn (by omega)
    rw [← hk] at H
    refine H.mono ?_
    rintro e w' ⟨rfl, ⟨cs', hz', hB', hm⟩, hG, hs⟩
    refine ⟨by rw [show ((k.toNat + 2 * n : Nat) : Int) = k + 2 * n by omega], ⟨?_, h.top, by rw [hs]; exact h.fit⟩, Touch.of_grown hG hlo hhi⟩
    have := hB'.own (base := lo) (n := n) (c := c) (size := 2) hlo (by omega) h2 h3 (by omega)
    rwa [hm] at this
theorem heldIntA2S_seg (A : Option Addr) (c n : Nat) (k : Int) (w : World) (hr : Row w A (marksI k.toNat (n * 2))) (h0 : 0 ≤ k) (h1 : k ≤ 1000000000) (hn : n ≤ 10000000) :
    Calls Tryd.prog 19 #[.slice A n c, .int .i64 k] w fun e w' => e = .returned (.int .i64 (k + 2 * n)) ∧ w = w' := by
  have hk : k = (k.toNat : Int) := by omega
  generalize k.toNat = k0 at *
  subst hk
  go_enter Tryd.func19, Tryd.ntmps19
  go_wp2
  go_loop [1, 5] (fun k i => ∃ m : Nat, m ≤ n ∧ i = .int .i64 (m : Int) ∧ k = .int .i64 ((k0 : Int) + 2 * m)) (fun _ i => n - (intOf i).toNat)
  case atStart => exact ⟨0, Nat.zero_le _, rfl, by go_num⟩
  case round =>
    obtain ⟨m, hm, rfl, rfl⟩ := hrel
    by_cases hlt : m < n
    · have hi0 : (0 : Int) ≤ m := by omega
      have hi1 : (m : Int) < n := by omega
      go_wp2
      go_loop [1, 6] (fun k jv => ∃ j : Nat, j ≤ 2 ∧ jv = .int .i64 (j : Int) ∧ k = .int .i64 ((k0 : Int) + 2 * m + j)) (fun _ jv => 2 - (intOf jv).toNat)
      case atStart => exact ⟨0, by omega, rfl, by go_num⟩
      case round =>
        obtain ⟨j, hj, rfl, rfl⟩ := hrel
        by_cases hj2 : j < 2
        · have hj0 : (0 : Int) ≤ j := by omega
          have hj1 : (j : Int) < 2 := by omega
          obtain ⟨ad, hA, hc⟩ := hr.at_ (k := m * 2 + j) (by rw [marksI_len]; omega)
          rw [marksI_get k0 (n * 2) (m * 2 + j) (by omega), show ((k0 + (m * 2 + j) : Nat) : Int) = (k0 : Int) + 2 * m + j by omega] at hc
          subst hA
          have hc' : w.cell? ((ad.add (m * 2)).add j) = some (.int .i64 ((k0 : Int) + 2 * m + j)) := by rw [add_add]; exact hc
          clear hr
          go_wp2
          go_round
          case rel => exact ⟨j + 1, by omega, by go_num, by go_num⟩
          case measure => simp [intOf]; omega
        · obtain rfl : j = 2 := by omega
          go_wp2
          go_round
          case rel => exact ⟨m + 1, by omega, by go_num, by go_num⟩
          case measure => simp [intOf]; omega
    · obtain rfl : m = n := by omega
      go_wp2
      go_ret
      exact ⟨rfl, rfl⟩
/-- What a function hands back: a list of pairs, memory of its own, and a bool. -/
def RetPB (w : World) (r : List Pr × Bool) (e : Ending) (w' : World) : Prop :=
  ∃ A c, e = .returned (.tuple #[.slice A r.1.length c, .bool r.2]) ∧ Seg w' 56 2 w.heap.size w'.heap.size A r.1.length c (pc r.1) ∧ Below w.heap.size w w'
theorem ret_emptyP {w w1 : World} {r : List Pr × Bool} (hr : r = ([], false)) (hb : Below w.heap.size w w1) (e : Ending) (he : e = .returned (.tuple #[.slice (some ⟨w1.heap.size, 0, none⟩) 0 0, .bool false])) : RetPB w r e (w1.alloc (.cells #[] 56)) := by
  subst hr he
  have h : (w1.alloc (.cells #[] 56)).ownsRow w.heap.size 56 2 (.slice (some ⟨w1.heap.size, 0, none⟩) 0 0) 0 (pc []) := World.ownsRow_made w1 #[] 0 hb.size (by unfold maxLen; omega) rfl
  exact ⟨_, 0, rfl, Seg.of_own h, hb.alloc hb.size _⟩
end Go.Proofs.YtapbgmmkkngdoaaDoor

namespace Go.Proofs.YtapbgmmkkngdoaaDoor
open Go.RowKit
theorem infoPp : (Tryd.prog.info? 56).map (fun i => (i.zero, i.size, i.bytes)) = some (some (.agg #[.int .i64 0, .int .i64 0]), 2, 16) := by kernel_rfl
/-- Blocks that hold no pairs are as they were. -/
def KeepP (w w' : World) : Prop := ∀ q t cs, t ≠ 56 → BlockIs w q t cs → BlockIs w' q t cs
theorem KeepP.refl (w : World) : KeepP w w := fun _ _ _ _ h => h
theorem KeepP.trans {a b c : World} (h : KeepP a b) (k : KeepP b c) : KeepP a c := fun q t cs ht hB => k q t cs ht (h q t cs ht hB)
theorem KeepP.of_below {w w' : World} (h : Below w.heap.size w w') : KeepP w w' := fun _ _ _ _ hB => hB.below h
theorem TabR.keepP {B n : Nat} {T : Nat → Nat → Bool} {gs : List Nat} {v : Value} {w w' : World} (h : TabR B n T gs v w) (hk : KeepP w w') : TabR B n T gs v w' := by
  refine ⟨own_to h.1 fun q hq _ _ => ?_, fun i hi => ⟨hk _ _ _ (by decide) (h.2.1 i hi).1, (h.2.1 i hi).2⟩, h.2.2⟩
  obtain ⟨_, _, c1, t1⟩ := own_type h.1 hq
  exact (hk _ _ _ (by decide) t1).trans t1.symm
theorem pc_one (x : Pr) : pc [x] = [.int .i64 x.1, .int .i64 x.2] := rfl
theorem pushP {w0 w : World} {v : Value} {xs : List Pr} (h : w.ownsRow w0.heap.size 56 2 v xs.length (pc xs)) (hb : Below w0.heap.size w0 w) (x : Pr) (hl : xs.length ≤ 1000) :
    ∃ v' w3, (Builtin.append_ #[22, 22] 22 #[v, .slice (some ⟨w.heap.size, 0, none⟩) 1 1]).run Tryd.prog (w.alloc (.cells #[.int .i64 x.1, .int .i64 x.2] 56)) = .ok v' w3 ∧
      w3.ownsRow w0.heap.size 56 2 v' (xs ++ [x]).length (pc (xs ++ [x])) ∧ Below w0.heap.size w0 w3 ∧ KeepP w w3 := by
  obtain ⟨i1, hj, hy0, hy1, hy2⟩ := info_parts infoPp
  have hb1 := hb.alloc hb.size (.cells #[.int .i64 x.1, .int .i64 x.2] 56)
  have hbw : Below w.heap.size w (w.alloc (.cells #[.int .i64 x.1, .int .i64 x.2] 56)) := (Below.refl _ w).alloc (Nat.le_refl _) _
  have h2 := own_blw h hbw
  have hsrc := row_srcS (Row.new w 56 #[.int .i64 x.1, .int .i64 x.2])
  obtain ⟨v', w3, hrun, ho3, hgr, _⟩ := append_at (P := Tryd.prog) (w.alloc (.cells #[.int .i64 x.1, .int .i64 x.2] 56)) w0.heap.size 22 22 56 i1 (.agg #[.int .i64 0, .int .i64 0]) 2 16 Tryd.underlying22 hj hy0 hy1 hy2 rfl (by decide) _ _ _ h2 ⟨w.heap.size, 0, none⟩ 1 1 [.int .i64 x.1, .int .i64 x.2] rfl hsrc (by intro u hu; simp at hu; rcases hu with rfl | rfl <;> rfl) (by omega) (by unfold maxLen; omega) (by omega) hb1.size
  refine ⟨v', w3, hrun, ?_, hb1.grown hgr hb1.size (fun j hj => (h2.lt j hj).1), fun q t cs ht hB => ?_⟩
  · rw [pc_snoc]; simpa [cellsP] using ho3
  · have hB1 := hB.below hbw
    refine (hgr.block q hB1.lt fun e => ?_).trans hB1
    obtain ⟨_, _, c1, t1⟩ := own_type h2 e.symm
    exact type_ne hB1 t1 ht rfl
end Go.Proofs.YtapbgmmkkngdoaaDoor

namespace Go.Proofs.YtapbgmmkkngdoaaDoor
open Go.RowKit
def closR (n : Int) (E : List Pr) : List Pr × Bool := if precB n E then (closL n.toNat E, true) else ([], false)
def reduR (n : Int) (E : List Pr) : List Pr × Bool := if precB n E then (reduL n.toNat E, true) else ([], false)
theorem closR_len (n : Int) (E : List Pr) : (closR n E).1.length ≤ 64 := by
  unfold closR
  split
  · rename_i h
    unfold precB at h
    rw [Bool.and_eq_true] at h
    obtain ⟨h0, h8, _, _⟩ := pairs_out h.1
    have h1 := clsTo_len n.toNat (tabB n.toNat E) n.toNat
    have h3 : n.toNat * n.toNat ≤ 8 * 8 := Nat.mul_le_mul (by omega) (by omega)
    show (clsTo _ _ _).length ≤ _
    omega
  · simp
theorem reduR_len (n : Int) (E : List Pr) : (reduR n E).1.length ≤ 64 := by
  unfold reduR
  split
  · rename_i h
    unfold precB at h
    rw [Bool.and_eq_true] at h
    obtain ⟨h0, h8, _, _⟩ := pairs_out h.1
    have h1 := clsTo_len n.toNat (directB n.toNat E) n.toNat
    have h3 : n.toNat * n.toNat ≤ 8 * 8 := Nat.mul_le_mul (by omega) (by omega)
    show (clsTo _ _ _).length ≤ _
    omega
  · simp
theorem ret_ownPr {w w' : World} {r : List Pr × Bool} {p : List Pr} {v : Value} (hr : r = (p, true)) (ho : w'.ownsRow w.heap.size 56 2 v p.length (pc p)) (hb : Below w.heap.size w w') (e : Ending) (he : e = .returned (.tuple #[v, .bool true])) : RetPB w r e w' := by
  obtain ⟨A, c, rfl, hs⟩ := seg_out ho
  subst hr he
  exact ⟨A, c, rfl, hs, hb⟩
theorem cls_bd (n : Nat) (T : Nat → Nat → Bool) (i j : Nat) (hi : i < n) (hj : j < n) (hn : n ≤ 8) : (clsTo n T i ++ rowTo T i j).length ≤ 1000 := by
  have h1 := clsTo_len n T i
  have h2 := rowTo_len T i j
  have h3 : i * n ≤ 8 * 8 := Nat.mul_le_mul (by omega) hn
  rw [List.length_append]
  omega
theorem prec_nat {n : Int} {E : List Pr} (h : precB n E = true) : ∃ m : Nat, n = (m : Int) ∧ m ≤ 8 ∧ EdsIn m E := by
  unfold precB at h
  rw [Bool.and_eq_true] at h
  obtain ⟨h0, h8, _, hp⟩ := pairs_out h.1
  exact ⟨n.toNat, by omega, by omega, edsIn_of (by rw [Int.toNat_of_nonneg h0]; exact hp)⟩
set_option maxRecDepth 100000 in
set_option maxHeartbeats 1000000 in
theorem l4Through_any {B n : Nat} {E : List Pr} {gs : List Nat} {g cc : Nat} {w : World} (h : TabR B n (tabB n E) gs (.slice (some ⟨g, 0, none⟩) gs.length cc) w) (hgl : gs.length = n) (i j : Nat) (hi : i < n) (hj : j < n) (hn : n ≤ 8) :
    Calls Tryd.prog 49 #[.slice (some ⟨g, 0, none⟩) gs.length cc, .int .i64 (i : Int), .int .i64 (j : Int)] w fun e w' => e = .returned (.bool ((List.range n).any fun k => tabB n E i k && tabB n E k j)) ∧ w = w' := by
  have HTb := Lib.hid h
  have HGL := Lib.hid hgl
  have hgn : gs.length ≤ 8 := by omega
  have HAny : Hid (∀ k, ((List.range (k + 1)).any fun k => tabB n E i k && tabB n E k j) = (((List.range k).any fun k => tabB n E i k && tabB n E k j) || (tabB n E i k && tabB n E k j))) := fun k => by rw [List.range_succ, List.any_append]; simp
  clear h
  go_enter Tryd.func49, Tryd.ntmps49
  go_wp2
  go_loop [7] (fun v => ∃ k : Nat, k ≤ n ∧ v = .int .i64 (k : Int) ∧ Hid (((List.range k).any fun k => tabB n E i k && tabB n E k j) = false)) (fun v => n - (intOf v).toNat)
  case atStart => exact ⟨0, Nat.zero_le _, rfl, rfl⟩
  case round =>
    obtain ⟨k, hk, rfl, HI⟩ := hrel
    by_cases hlt : k < n
    · obtain ⟨g1, c1, q, hV, hq, hcell, _, _, _, hrow⟩ := HTb.out.at_ (i := i) (by rw [HGL.out]; exact hi)
      obtain ⟨g2, c2, q2, hV2, hq2, hcell2, _, _, _, hrow2⟩ := HTb.out.at_ (i := k) (by rw [HGL.out]; exact hlt)
      obtain ⟨rfl, rfl⟩ : g = g1 ∧ cc = c1 := by
        injection hV with e1 _ e3
        injection e1 with e1
        injection e1 with e1 _ _
        exact ⟨e1, e3⟩
      obtain rfl : g = g2 := by
        injection hV2 with e1 _ e3
        injection e1 with e1
        injection e1 with e1 _ _
      have hik := hrow k hlt
      have hkj := hrow2 j hj
      have hkl : (k : Int) < gs.length := by rw [HGL.out]; omega
      have hil : (i : Int) < gs.length := by rw [HGL.out]; omega
      have hi0 : (0 : Int) ≤ i := by omega
      have hj0 : (0 : Int) ≤ j := by omega
      have hk0 : (0 : Int) ≤ k := by omega
      have hjn : (j : Int) < n := by omega
      have hkn : (k : Int) < n := by omega
      have HS : Hid (((List.range (k + 1)).any fun k => tabB n E i k && tabB n E k j) = (tabB n E i k && tabB n E k j)) := by show _ = _; rw [HAny.out, HI.out, Bool.false_or]
      have hkg : k < gs.length := by omega
      clear hrow hrow2 hV hV2 hq hq2 hgl
      cases h1 : tabB n E i k
      · rw [h1] at hik HS
        clear h1
        go_wp2
        go_round
        case rel => exact ⟨k + 1, by omega, by go_num, by rw [HS.out]; rfl⟩
        case measure => simp [intOf]; omega
      · cases h2 : tabB n E k j
        · rw [h1] at hik HS
          rw [h2] at hkj HS
          clear h1 h2
          go_wp2
          go_round
          case rel => exact ⟨k + 1, by omega, by go_num, by rw [HS.out]; rfl⟩
          case measure => simp [intOf]; omega
        · have HT : Hid (((List.range n).any fun k => tabB n E i k && tabB n E k j) = true) := by
            show _ = _
            rw [List.any_eq_true]
            exact ⟨k, List.mem_range.2 hlt, by rw [h1, h2]; rfl⟩
          rw [h1] at hik
          rw [h2] at hkj
          clear h1 h2 HS
          go_wp2
          go_ret
          exact ⟨by rw [HT.out]; rfl, rfl⟩
    · obtain rfl : k = n := by omega
      have HGL2 : ¬ (k : Int) < gs.length := by rw [HGL.out]; omega
      clear hgl
      go_wp2
      go_ret
      exact ⟨by rw [HI.out]; rfl, rfl⟩
set_option maxRecDepth 100000 in
set_option maxHeartbeats 4000000 in
theorem spec_PrecedenceClosure (A : Option Addr) (c : Nat) (n : Int) (E : List Pr) (w : World) (hr : Row w A (pc E)) (hl : E.length ≤ 10000000) :
    Calls Tryd.prog 16 #[.int .i64 n, .slice A E.length c] w (RetPB w (closR n E)) := by
  have HRR : Hid (closR n E = if precB n E then (closL n.toNat E, true) else ([], false)) := rfl
  have hb0 := (Below.refl w.heap.size w).alloc (Nat.le_refl _) (.cells #[] 56)
  have h0 : (w.alloc (.cells #[] 56)).ownsRow w.heap.size 56 2 (.slice (some ⟨w.heap.size, 0, none⟩) 0 0) 0 (pc []) := World.ownsRow_made w #[] 0 (Nat.le_refl _) (by unfold maxLen; omega) rfl
  have H0 := Lib.hid (And.intro hb0 h0)
  have HG := Lib.hid (l4Good_any A c n E _ (hr.below hb0) hl)
  have HR := Lib.hid hr
  clear hb0 h0 hr
  go_enter Tryd.func16, Tryd.ntmps16
  go_wp2_with fail
  refine HG.out.mono ?_
  rintro e w1 ⟨rfl, hb1⟩
  cases hp : precB n E
  · rw [hp] at HRR
    have HB := Lib.hid (H0.out.1.trans (hb1.mono H0.out.1.size))
    have HO := Lib.hid (own_blw H0.out.2 hb1)
    clear hp hb1 H0 HG
    go_wp2
    go_ret2
    obtain ⟨A', c', hA, hs⟩ := seg_out HO.out
    injection hA with e1 _ e3
    subst e1 e3
    rw [show closR n E = ([], false) from HRR.out]
    exact ⟨_, _, rfl, hs, HB.out⟩
  · rw [hp] at HRR
    obtain ⟨m, rfl, hm, hE⟩ := prec_nat hp
    rw [Int.toNat_natCast] at HRR
    have HB1 := Lib.hid (H0.out.1.trans (hb1.mono H0.out.1.size))
    have HO := Lib.hid (own_blw H0.out.2 hb1)
    have HTB := Lib.hid (l4Table_any A c m E w1 (HR.out.below HB1.out) hl hm hE)
    clear hp hb1 H0 HG hE
    go_wp2_with fail
    refine HTB.out.mono ?_
    rintro e w2 ⟨gs, v, rfl, hTb, hgl, hb2⟩
    have HB2 := Lib.hid (HB1.out.trans (hb2.mono HB1.out.size))
    have HO2 := Lib.hid (own_blw HO.out hb2)
    have HTb := Lib.hid (show TabR w1.heap.size m (tabB m E) gs v w2 from hTb)
    have HGL := Lib.hid hgl
    clear hTb hgl hb2 HB1 HO HTB
    go_wp2
    go_loopw [6, 8] (fun u i wr => ∃ (k : Nat) (U : Value), k ≤ m ∧ i = .int .i64 (k : Int) ∧ U = u ∧ Hid (wr.ownsRow w.heap.size 56 2 U (clsTo m (tabB m E) k).length (pc (clsTo m (tabB m E) k))) ∧ Hid (TabR w1.heap.size m (tabB m E) gs v wr) ∧ Hid (Below w.heap.size w wr)) (fun _ i _ => m - (intOf i).toNat)
    case atStart => exact ⟨0, _, Nat.zero_le _, rfl, rfl, HO2.out, HTb.out, HB2.out⟩
    case round =>
      obtain ⟨i, U, hi, rfl, rfl, hO, hTb, hb⟩ := hrel
      clear HO2 HTb HB2
      by_cases hlti : i < m
      · go_wp2
        obtain ⟨wo, rfl⟩ : ∃ wo : World, wo = wr := ⟨_, rfl⟩
        go_loopw [6, 9] (fun u jv wr => ∃ (j : Nat) (U2 : Value), j ≤ m ∧ jv = .int .i64 (j : Int) ∧ U2 = u ∧ Hid (wr.ownsRow w.heap.size 56 2 U2 (clsTo m (tabB m E) i ++ rowTo (tabB m E) i j).length (pc (clsTo m (tabB m E) i ++ rowTo (tabB m E) i j))) ∧ Hid (TabR w1.heap.size m (tabB m E) gs v wr) ∧ Hid (Below w.heap.size w wr)) (fun _ jv _ => m - (intOf jv).toNat)
        case atStart => exact ⟨0, _, Nat.zero_le _, rfl, rfl, by rw [show rowTo (tabB m E) i 0 = [] from rfl, List.append_nil]; exact hO, hTb, hb⟩
        case round =>
          clear hO hTb hb
          obtain ⟨j, U2, hj, rfl, rfl, hO, hTb, hb⟩ := hrel
          by_cases hltj : j < m
          · obtain ⟨g, cc, q, hV, hq, hcell, hBq, hqB, hgq, hrow⟩ := hTb.out.at_ (i := i) (by rw [HGL.out]; exact hlti)
            subst hV
            have hij := hrow j hltj
            have hi0 : (0 : Int) ≤ i := by omega
            have hi1 : (i : Int) < gs.length := by rw [HGL.out]; omega
            have hj0 : (0 : Int) ≤ j := by omega
            have hj1 : (j : Int) < m := by omega
            obtain ⟨v', w3, hrun, hO3, hb3, hk3⟩ := pushP (w0 := w) hO.out hb.out ((i : Int), (j : Int)) (cls_bd m (tabB m E) i j hlti hltj hm)
            have HRUN := Lib.hid hrun
            have HYES := Lib.hid (And.intro hO3 (And.intro (hTb.out.keepP hk3) hb3))
            have HRW := Lib.hid (rowTo_succ (tabB m E) i j)
            rw [List.append_assoc] at HYES
            clear hrun hO3 hb3 hk3 hrow hBq hq hgq
            cases hc : tabB m E i j
            · rw [hc] at hij HRW
              rw [if_neg (by decide)] at HRW
              clear hc HYES HRUN
              go_wp2
              go_roundw
              case rel => exact ⟨j + 1, _, by omega, by go_num, rfl, by rw [HRW.out]; exact hO, hTb, hb⟩
              case measure => simp [intOf]; omega
            · rw [hc] at hij HRW
              rw [if_pos rfl] at HRW
              clear hc hO hTb hb
              go_wp2_with (at_builtin; refine wpList_app rfl _ _ _ rfl _ _ _ rfl rfl HRUN.out ?_; clear HRUN)
              go_roundw
              case rel => exact ⟨j + 1, _, by omega, by go_num, rfl, by rw [HRW.out]; exact HYES.out.1, HYES.out.2.1, HYES.out.2.2⟩
              case measure => simp [intOf]; omega
          · obtain rfl : j = m := by omega
            go_wp2
            go_roundw
            case rel => exact ⟨i + 1, _, by omega, by go_num, rfl, by rw [clsTo_succ]; exact hO, hTb, hb⟩
            case measure => simp [intOf]; omega
      · obtain rfl : i = m := by omega
        go_wp2
        go_ret2
        exact ret_ownPr (p := closL i E) HRR.out hO.out hb.out _ rfl
set_option maxRecDepth 100000 in
set_option maxHeartbeats 4000000 in
theorem spec_PrecedenceReduction (A : Option Addr) (c : Nat) (n : Int) (E : List Pr) (w : World) (hr : Row w A (pc E)) (hl : E.length ≤ 10000000) :
    Calls Tryd.prog 20 #[.int .i64 n, .slice A E.length c] w (RetPB w (reduR n E)) := by
  have HRR : Hid (reduR n E = if precB n E then (reduL n.toNat E, true) else ([], false)) := rfl
  have hb0 := (Below.refl w.heap.size w).alloc (Nat.le_refl _) (.cells #[] 56)
  have h0 : (w.alloc (.cells #[] 56)).ownsRow w.heap.size 56 2 (.slice (some ⟨w.heap.size, 0, none⟩) 0 0) 0 (pc []) := World.ownsRow_made w #[] 0 (Nat.le_refl _) (by unfold maxLen; omega) rfl
  have H0 := Lib.hid (And.intro hb0 h0)
  have HG := Lib.hid (l4Good_any A c n E _ (hr.below hb0) hl)
  have HR := Lib.hid hr
  clear hb0 h0 hr
  go_enter Tryd.func20, Tryd.ntmps20
  go_wp2_with fail
  refine HG.out.mono ?_
  rintro e w1 ⟨rfl, hb1⟩
  cases hp : precB n E
  · rw [hp] at HRR
    have HB := Lib.hid (H0.out.1.trans (hb1.mono H0.out.1.size))
    have HO := Lib.hid (own_blw H0.out.2 hb1)
    clear hp hb1 H0 HG
    go_wp2
    go_ret2
    obtain ⟨A', c', hA, hs⟩ := seg_out HO.out
    injection hA with e1 _ e3
    subst e1 e3
    rw [show reduR n E = ([], false) from HRR.out]
    exact ⟨_, _, rfl, hs, HB.out⟩
  · rw [hp] at HRR
    obtain ⟨m, rfl, hm, hE⟩ := prec_nat hp
    rw [Int.toNat_natCast] at HRR
    have HB1 := Lib.hid (H0.out.1.trans (hb1.mono H0.out.1.size))
    have HO := Lib.hid (own_blw H0.out.2 hb1)
    have HTB := Lib.hid (l4Table_any A c m E w1 (HR.out.below HB1.out) hl hm hE)
    clear hp hb1 H0 HG hE
    go_wp2_with fail
    refine HTB.out.mono ?_
    rintro e w2 ⟨gs, v, rfl, hTb, hgl, hb2⟩
    have HB2 := Lib.hid (HB1.out.trans (hb2.mono HB1.out.size))
    have HO2 := Lib.hid (own_blw HO.out hb2)
    have HTb := Lib.hid (show TabR w1.heap.size m (tabB m E) gs v w2 from hTb)
    have HGL := Lib.hid hgl
    clear hTb hgl hb2 HB1 HO HTB
    go_wp2
    go_loopw [6, 8] (fun u i wr => ∃ (k : Nat) (U : Value), k ≤ m ∧ i = .int .i64 (k : Int) ∧ U = u ∧ Hid (wr.ownsRow w.heap.size 56 2 U (clsTo m (directB m E) k).length (pc (clsTo m (directB m E) k))) ∧ Hid (TabR w1.heap.size m (tabB m E) gs v wr) ∧ Hid (Below w.heap.size w wr)) (fun _ i _ => m - (intOf i).toNat)
    case atStart => exact ⟨0, _, Nat.zero_le _, rfl, rfl, HO2.out, HTb.out, HB2.out⟩
    case round =>
      obtain ⟨i, U, hi, rfl, rfl, hO, hTb, hb⟩ := hrel
      clear HO2 HTb HB2
      by_cases hlti : i < m
      · go_wp2
        obtain ⟨wo, rfl⟩ : ∃ wo : World, wo = wr := ⟨_, rfl⟩
        go_loopw [6, 9] (fun u jv wr => ∃ (j : Nat) (U2 : Value), j ≤ m ∧ jv = .int .i64 (j : Int) ∧ U2 = u ∧ Hid (wr.ownsRow w.heap.size 56 2 U2 (clsTo m (directB m E) i ++ rowTo (directB m E) i j).length (pc (clsTo m (directB m E) i ++ rowTo (directB m E) i j))) ∧ Hid (TabR w1.heap.size m (tabB m E) gs v wr) ∧ Hid (Below w.heap.size w wr)) (fun _ jv _ => m - (intOf jv).toNat)
        case atStart => exact ⟨0, _, Nat.zero_le _, rfl, rfl, by rw [show rowTo (directB m E) i 0 = [] from rfl, List.append_nil]; exact hO, hTb, hb⟩
        case round =>
          clear hO hTb hb
          obtain ⟨j, U2, hj, rfl, rfl, hO, hTb, hb⟩ := hrel
          by_cases hltj : j < m
          · obtain ⟨g, cc, q, hV, hq, hcell, hBq, hqB, hgq, hrow⟩ := hTb.out.at_ (i := i) (by rw [HGL.out]; exact hlti)
            subst hV
            have hij := hrow j hltj
            have hi0 : (0 : Int) ≤ i := by omega
            have hi1 : (i : Int) < gs.length := by rw [HGL.out]; omega
            have hj0 : (0 : Int) ≤ j := by omega
            have hj1 : (j : Int) < m := by omega
            obtain ⟨v', w3, hrun, hO3, hb3, hk3⟩ := pushP (w0 := w) hO.out hb.out ((i : Int), (j : Int)) (cls_bd m (directB m E) i j hlti hltj hm)
            have HRUN := Lib.hid hrun
            have HYES := Lib.hid (And.intro hO3 (And.intro (hTb.out.keepP hk3) hb3))
            have HRW := Lib.hid (rowTo_succ (directB m E) i j)
            rw [List.append_assoc] at HYES
            have HTH := Lib.hid (l4Through_any hTb.out HGL.out i j hlti hltj hm)
            have HD : Hid (directB m E i j = (tabB m E i j && !((List.range m).any fun k => tabB m E i k && tabB m E k j))) := rfl
            clear hrun hO3 hb3 hk3 hrow hBq hq hgq
            cases hc : tabB m E i j
            · rw [hc] at hij HD
              rw [show directB m E i j = false from HD.out, if_neg (by decide)] at HRW
              clear hc HYES HRUN HD HTH
              go_wp2
              go_roundw
              case rel => exact ⟨j + 1, _, by omega, by go_num, rfl, by rw [HRW.out]; exact hO, hTb, hb⟩
              case measure => simp [intOf]; omega
            · rw [hc] at hij HD
              generalize ((List.range m).any fun k => tabB m E i k && tabB m E k j) = th at *
              cases th
              · rw [show directB m E i j = true from HD.out, if_pos rfl] at HRW
                clear hc hO hTb hb HD
                go_wp2_with (first | (at_builtin; refine wpList_app rfl _ _ _ rfl _ _ _ rfl rfl HRUN.out ?_; clear HRUN) | (go_at_call 49; refine HTH.out.mono ?_; rintro e _ ⟨rfl, rfl⟩))
                go_roundw
                case rel => exact ⟨j + 1, _, by omega, by go_num, rfl, by rw [HRW.out]; exact HYES.out.1, HYES.out.2.1, HYES.out.2.2⟩
                case measure => simp [intOf]; omega
              · rw [show directB m E i j = false from HD.out, if_neg (by decide)] at HRW
                clear hc HYES HRUN HD
                go_wp2_with fail
                refine HTH.out.mono ?_
                rintro e _ ⟨rfl, rfl⟩
                go_wp2
                go_roundw
                case rel => exact ⟨j + 1, _, by omega, by go_num, rfl, by rw [HRW.out]; exact hO, hTb, hb⟩
                case measure => simp [intOf]; omega
          · obtain rfl : j = m := by omega
            go_wp2
            go_roundw
            case rel => exact ⟨i + 1, _, by omega, by go_num, rfl, by rw [clsTo_succ]; exact hO, hTb, hb⟩
            case measure => simp [intOf]; omega
      · obtain rfl : i = m := by omega
        go_wp2
        go_ret2
        exact ret_ownPr (p := reduL i E) HRR.out hO.out hb.out _ rfl
end Go.Proofs.YtapbgmmkkngdoaaDoor

namespace Go.Proofs.YtapbgmmkkngdoaaDoor
open Go.RowKit
set_option maxRecDepth 100000 in
set_option maxHeartbeats 1000000 in
theorem comesBefore_any (n : Int) (B : Nat → Nat) (hB8 : ∀ j, j < 8 → B j < 256) (i j : Nat) (hi : i < 8) (hj : j < 8) (w : World) :
    Calls Tryd.prog 77 #[.agg (precC n B), .int .i64 (i : Int), .int .i64 (j : Int)] w fun e w' => e = .returned (.bool ((B j).testBit i)) ∧ Below w.heap.size w w' := by
  have hb := (Below.refl w.heap.size w).alloc (Nat.le_refl _) (.cells (precC n B) 62)
  have hc := ((BlockIs.new w 62 (precC n B)).cell (1 + j)).trans (precC_at n B hj)
  have HH := Lib.hid (has_any (B j) i (hB8 j hj) hi)
  have HB := Lib.hid hb
  have hj0 : (0 : Int) ≤ j := by omega
  have hj1 : (j : Int) < 8 := by omega
  clear hb
  go_enter Tryd.func77, Tryd.ntmps77
  go_wp2_with fail
  refine (HH.out _).mono ?_
  rintro e _ ⟨rfl, rfl⟩
  go_wp2
  go_ret
  exact ⟨rfl, HB.out⟩
def bitT (B : Nat → Nat) (i j : Nat) : Bool := (B j).testBit i
theorem clsTo_congr {n : Nat} {T U : Nat → Nat → Bool} (h : ∀ i j, i < n → j < n → T i j = U i j) : ∀ k, k ≤ n → clsTo n T k = clsTo n U k
  | 0, _ => rfl
  | k + 1, hk => by
    rw [clsTo_succ, clsTo_succ, clsTo_congr h k (by omega)]
    congr 1
    have : ∀ m, m ≤ n → rowTo T k m = rowTo U k m := by
      intro m
      induction m with
      | zero => intro _; rfl
      | succ m ih =>
        intro hm
        rw [rowTo_succ, rowTo_succ, ih (by omega), h k m (by omega) (by omega)]
    exact this n (Nat.le_refl _)
theorem bitT_tab (m : Nat) (E : List Ed) : clsTo m (bitT (befN m (tabB m E))) m = closL m E :=
  clsTo_congr (fun i j hi _ => by unfold bitT; rw [bef_bit, decide_eq_true hi, Bool.true_and]) m (Nat.le_refl _)
set_option maxRecDepth 100000 in
set_option maxHeartbeats 4000000 in
theorem pairs_any (m : Nat) (hm : m ≤ 8) (B : Nat → Nat) (hB8 : ∀ j, j < 8 → B j < 256) (w : World) :
    Calls Tryd.prog 48 #[.agg (precC (m : Int) B)] w fun e w' => ∃ v, e = .returned v ∧ w'.ownsRow w.heap.size 56 2 v (clsTo m (bitT B) m).length (pc (clsTo m (bitT B) m)) ∧ Below w.heap.size w w' := by
  have hb1 := (Below.refl w.heap.size w).alloc (Nat.le_refl _) (.cells (precC (m : Int) B) 62)
  have hB1 := BlockIs.new w 62 (precC (m : Int) B)
  have hb2 := hb1.alloc hb1.size (.cells #[] 56)
  have hB2 := hB1.below ((Below.refl _ _).alloc (Nat.le_refl _) (.cells #[] 56))
  have h0 : ((w.alloc (.cells (precC (m : Int) B) 62)).alloc (.cells #[] 56)).ownsRow w.heap.size 56 2 (.slice (some ⟨(w.alloc (.cells (precC (m : Int) B) 62)).heap.size, 0, none⟩) 0 0) 0 (pc []) := World.ownsRow_made _ #[] 0 hb1.size (by unfold maxLen; omega) rfl
  rw [World.size_alloc] at h0
  have H0 := Lib.hid (And.intro h0 (And.intro hB2 hb2))
  have hc0 := hB1.cell 0
  clear hb1 hB1 hb2 hB2 h0 hc0
  have ep : (precC (m : Int) B) = #[.int .i64 m, .int .u64 (B 0 : Int), .int .u64 (B 1 : Int), .int .u64 (B 2 : Int), .int .u64 (B 3 : Int), .int .u64 (B 4 : Int), .int .u64 (B 5 : Int), .int .u64 (B 6 : Int), .int .u64 (B 7 : Int)] := rfl
  rw [ep]
  clear ep
  go_enter Tryd.func48, Tryd.ntmps48
  go_wp2
  go_loopw [3, 9] (fun u i wr => ∃ (k : Nat) (U : Value), k ≤ m ∧ i = .int .i64 (k : Int) ∧ U = u ∧ Hid (wr.ownsRow w.heap.size 56 2 U (clsTo m (bitT B) k).length (pc (clsTo m (bitT B) k)) ∧ BlockIs wr w.heap.size 62 (precC (m : Int) B) ∧ Below w.heap.size w wr)) (fun _ i _ => m - (intOf i).toNat)
  case atStart => exact ⟨0, _, Nat.zero_le _, rfl, rfl, H0.out⟩
  case round =>
    obtain ⟨i, U, hi, rfl, rfl, HO⟩ := hrel
    clear H0
    by_cases hlti : i < m
    · have hc0 := (HO.out.2.1.cell 0).trans (precC_0 (m : Int) B)
      go_wp2
      clear hc0
      obtain ⟨wo, rfl⟩ : ∃ wo : World, wo = wr := ⟨_, rfl⟩
      go_loopw [3, 14] (fun u jv wr => ∃ (j : Nat) (U2 : Value), j ≤ m ∧ jv = .int .i64 (j : Int) ∧ U2 = u ∧ Hid (wr.ownsRow w.heap.size 56 2 U2 (clsTo m (bitT B) i ++ rowTo (bitT B) i j).length (pc (clsTo m (bitT B) i ++ rowTo (bitT B) i j)) ∧ BlockIs wr w.heap.size 62 (precC (m : Int) B) ∧ Below w.heap.size w wr)) (fun _ jv _ => m - (intOf jv).toNat)
      case atStart => exact ⟨0, _, Nat.zero_le _, rfl, rfl, by rw [show rowTo (bitT B) i 0 = [] from rfl, List.append_nil]; exact HO.out⟩
      case round =>
        clear HO
        obtain ⟨j, U2, hj, rfl, rfl, HO⟩ := hrel
        by_cases hltj : j < m
        · have hBk := HO.out.2.1
          have c0 := hBk.cell 0
          have c1 := hBk.cell 1
          have c2 := hBk.cell 2
          have c3 := hBk.cell 3
          have c4 := hBk.cell 4
          have c5 := hBk.cell 5
          have c6 := hBk.cell 6
          have c7 := hBk.cell 7
          have c8 := hBk.cell 8
          simp only [precC, List.getElem?_toArray, List.getElem?_cons_zero, List.getElem?_cons_succ] at c0 c1 c2 c3 c4 c5 c6 c7 c8
          have HCB := Lib.hid (comesBefore_any (m : Int) B hB8 i j (by omega) (by omega) wr)
          have HRW := Lib.hid (rowTo_succ (bitT B) i j)
          have HBT : Hid (bitT B i j = (B j).testBit i) := rfl
          clear hBk
          go_wp2_with fail
          refine HCB.out.mono ?_
          rintro e w5 ⟨rfl, hb5⟩
          clear c0 c1 c2 c3 c4 c5 c6 c7 c8 HCB
          have HO5 := Lib.hid (And.intro (own_blw HO.out.1 hb5) (And.intro (HO.out.2.1.below hb5) (HO.out.2.2.trans (hb5.mono HO.out.2.2.size))))
          clear HO hb5
          cases hc : (B j).testBit i
          · rw [show bitT B i j = false from HBT.out.trans hc, if_neg (by decide)] at HRW
            clear hc
            go_wp2
            go_roundw
            case rel => exact ⟨j + 1, _, by omega, by go_num, rfl, by rw [HRW.out]; exact HO5.out⟩
            case measure => simp [intOf]; omega
          · rw [show bitT B i j = true from HBT.out.trans hc, if_pos rfl] at HRW
            obtain ⟨v', w3, hrun, hO3, hb3, hk3⟩ := pushP (w0 := w) HO5.out.1 HO5.out.2.2 ((i : Int), (j : Int)) (cls_bd m (bitT B) i j hlti hltj hm)
            have HRUN := Lib.hid hrun
            have HYES := Lib.hid (And.intro hO3 (And.intro (hk3 _ _ _ (by decide) HO5.out.2.1) hb3))
            rw [List.append_assoc] at HYES
            clear hc hrun hO3 hb3 hk3 HO5
            go_wp2_with (at_builtin; refine wpList_app rfl _ _ _ rfl _ _ _ rfl rfl HRUN.out ?_; clear HRUN)
            go_roundw
            case rel => exact ⟨j + 1, _, by omega, by go_num, rfl, by rw [HRW.out]; exact HYES.out⟩
            case measure => simp [intOf]; omega
        · obtain rfl : j = m := by omega
          go_wp2
          go_roundw
          case rel => exact ⟨i + 1, _, by omega, by go_num, rfl, by rw [clsTo_succ]; exact HO.out⟩
          case measure => simp [intOf]; omega
    · obtain rfl : i = m := by omega
      go_wp2
      go_ret
      exact ⟨U, rfl, HO.out.1, HO.out.2.2⟩
set_option maxRecDepth 100000 in
set_option maxHeartbeats 1000000 in
theorem impl_PrecedenceClosure (A : Option Addr) (c : Nat) (n : Int) (E : List Pr) (w : World) (hr : Row w A (pc E)) (hl : E.length ≤ 10000000) (hT : TzTab w) :
    Calls Tryd.prog 17 #[.int .i64 n, .slice A E.length c] w (RetPB w (closR n E)) := by
  have HRR : Hid (closR n E = if precB n E then (closL n.toNat E, true) else ([], false)) := rfl
  have H := Lib.hid (precedenceOf_any A c n E w hr hl hT)
  go_enter Tryd.func17, Tryd.ntmps17
  go_wp2_with fail
  refine H.out.mono ?_
  rintro e w1 ⟨hb, ⟨hp, m, rfl, hm, _, _, rfl⟩ | ⟨hp, rfl⟩⟩
  · rw [hp, Int.toNat_natCast] at HRR
    have HP := Lib.hid (pairs_any m hm (befN m (tabB m E)) (fun j _ => bef_lt hm _ j) (w1.alloc (.cells (precC (m : Int) (befN m (tabB m E))) 62)))
    rw [bitT_tab] at HP
    have HB := Lib.hid (hb.alloc hb.size (.cells (precC (m : Int) (befN m (tabB m E))) 62))
    clear hp hb
    unfold precC
    unfold precC at HP HB
    go_wp2_with fail
    refine HP.out.mono ?_
    rintro e w2 ⟨v, rfl, ho, hb2⟩
    have HO := Lib.hid (And.intro (own_low ho HB.out.size) (HB.out.trans (hb2.mono HB.out.size)))
    clear ho hb2 HB HP
    go_wp2
    go_ret2
    exact ret_ownPr (p := closL m E) HRR.out HO.out.1 HO.out.2 _ rfl
  · rw [hp] at HRR
    have HB := Lib.hid hb
    clear hp hb
    unfold precZ
    go_wp2
    go_ret2
    refine ret_emptyP HRR.out (HB.out.alloc HB.out.size _) _ ?_
    rw [World.size_alloc]
    rfl
end Go.Proofs.YtapbgmmkkngdoaaDoor

namespace Go.Proofs.YtapbgmmkkngdoaaDoor
open Go.RowKit
/-- Where a job stands among the first k. -/
def posGo (p : List Nat) (a : Nat) : Nat → Nat
  | 0 => 0
  | k + 1 => if p.getD k 0 = a then k else posGo p a k
theorem posGo_le (p : List Nat) (a : Nat) : ∀ k, posGo p a k ≤ k
  | 0 => Nat.le_refl _
  | k + 1 => by
    show (if _ then _ else _) ≤ _
    split
    · omega
    · have := posGo_le p a k; omega
theorem posGo_at {p : List Nat} (hd : p.Nodup) {i : Nat} (hi : i < p.length) : ∀ k, i < k → k ≤ p.length → posGo p p[i] k = i
  | 0, h, _ => by omega
  | k + 1, h, hk => by
    show (if _ then _ else _) = _
    rw [getD_at p 0 (by omega : k < p.length)]
    by_cases e : i = k
    · subst e; rw [if_pos rfl]
    · rw [if_neg (fun h' => e ((List.getElem_inj hd (h₀ := hi) (h₁ := by omega)).1 h'.symm)), posGo_at hd hi k (by omega) (by omega)]
def extE (E : List Ed) (p : List Nat) (k : Nat) : Bool := (List.range k).all fun x => decide (posGo p (E.getD x (0, 0)).1.toNat p.length ≤ posGo p (E.getD x (0, 0)).2.toNat p.length)
theorem extE_succ (E : List Ed) (p : List Nat) (k : Nat) : extE E p (k + 1) = (extE E p k && decide (posGo p (E.getD k (0, 0)).1.toNat p.length ≤ posGo p (E.getD k (0, 0)).2.toNat p.length)) := by
  unfold extE; rw [List.range_succ, List.all_append]; simp
theorem extE_bad {E : List Ed} {p : List Nat} {k m : Nat} (h : k < m) (hk : ¬ posGo p (E.getD k (0, 0)).1.toNat p.length ≤ posGo p (E.getD k (0, 0)).2.toNat p.length) : extE E p m = false := by
  unfold extE; rw [List.all_eq_false]; exact ⟨k, List.mem_range.2 h, by rw [decide_eq_true_eq]; exact hk⟩
theorem ext_same {n : Nat} {E : List Ed} (hin : InE n E) (hirr : irrB n E n = true) {p : List Nat} (hp : p.Perm (List.range n)) (hE : ∀ k (h : k < E.length), ∃ a b : Nat, E[k] = ((a : Int), (b : Int)) ∧ a < n ∧ b < n) : extE E p E.length = extB n E p := by
  have hd := perm_nodup hp
  have hl : p.length = n := by simpa using hp.length_eq
  rw [Bool.eq_iff_iff, ext_edges hin hp]
  constructor
  · intro h a b he i j hi hj hia hjb
    obtain ⟨k, hk, e⟩ := List.mem_iff_getElem.1 (edB_iff.1 he)
    unfold extE at h
    have h1 := List.all_eq_true.1 h k (List.mem_range.2 hk)
    rw [decide_eq_true_eq, getD_at E (0, 0) hk, e] at h1
    simp only [Int.toNat_natCast] at h1
    rw [← hia, ← hjb, posGo_at hd hi _ hi (Nat.le_refl _), posGo_at hd hj _ hj (Nat.le_refl _)] at h1
    have hab : a ≠ b := fun e' => by
      subst e'
      have := irrB_bad (k := a) (m := n) (hin a a he).1 (tabTo_le E (Nat.zero_le n) he)
      rw [this] at hirr
      cases hirr
    have : i ≠ j := fun e' => by subst e'; exact hab (hia.symm.trans hjb)
    omega
  · intro h
    unfold extE
    refine List.all_eq_true.2 fun k hk => ?_
    have hk' := List.mem_range.1 hk
    obtain ⟨a, b, e, ha, hb⟩ := hE k hk'
    rw [decide_eq_true_eq, getD_at E (0, 0) hk', e]
    simp only [Int.toNat_natCast]
    obtain ⟨i, hi, hia⟩ := List.getElem_of_mem (perm_mem hp ha)
    obtain ⟨j, hj, hjb⟩ := List.getElem_of_mem (perm_mem hp hb)
    have := h a b (edB_iff.2 (by rw [← e]; exact List.getElem_mem hk')) i j hi hj hia hjb
    rw [← hia, ← hjb, posGo_at hd hi _ hi (Nat.le_refl _), posGo_at hd hj _ hj (Nat.le_refl _)]
    omega
/-- The set of the first k jobs of an order. -/
def setTo2 (p : List Nat) (k : Nat) : Nat := (p.take k).foldl addB 0
theorem setTo2_succ {p : List Nat} {k : Nat} (h : k < p.length) : setTo2 p (k + 1) = addB (setTo2 p k) p[k] := by
  unfold setTo2; rw [List.take_succ_eq_append_getElem h, List.foldl_append]; rfl
theorem foldl_add_bit : ∀ (l : List Nat) (s i : Nat), (l.foldl addB s).testBit i = (s.testBit i || l.contains i)
  | [], s, i => by simp
  | x :: l, s, i => by
    rw [List.foldl_cons, foldl_add_bit l, bit_add, List.contains_cons, Bool.or_assoc]
    congr 1
theorem foldl_add_lt : ∀ (l : List Nat) (s : Nat), s < 256 → (∀ x ∈ l, x < 8) → l.foldl addB s < 256
  | [], _, h, _ => h
  | x :: l, _, h, hl => foldl_add_lt l _ (add_lt h (hl x List.mem_cons_self)) fun y hy => hl y (List.mem_cons_of_mem _ hy)
def withinB (s t : Nat) : Bool := decide (minusB s t = 0)
theorem within_iff {s t : Nat} (hs : s < 256) : withinB s t = true ↔ ∀ i, s.testBit i = true → t.testBit i = true := by
  unfold withinB
  rw [decide_eq_true_iff]
  constructor
  · intro h i hi
    have := bit_minus hs t i
    rw [h, Nat.zero_testBit, hi, Bool.true_and] at this
    simpa using this.symm
  · intro h
    refine set_ext (minus_lt hs t) (by decide) fun i _ => ?_
    rw [bit_minus hs, Nat.zero_testBit]
    cases hi : s.testBit i
    · rfl
    · rw [h i hi]; rfl
theorem keeps_within {n : Nat} (hn : n ≤ 8) (E : List Ed) {p : List Nat} {k : Nat} (hk : k < p.length) : withinB (befN n (tabB n E) p[k]) (setTo2 p k) = keepsB n E p k := by
  rw [Bool.eq_iff_iff, within_iff (bef_lt hn _ _)]
  unfold keepsB
  rw [List.all_eq_true, getD_at p 0 hk]
  have hb : ∀ i, (setTo2 p k).testBit i = (p.take k).contains i := fun i => by unfold setTo2; rw [foldl_add_bit, Nat.zero_testBit, Bool.false_or]
  constructor
  · intro h i hi
    cases ht : tabB n E i p[k]
    · rfl
    · have := h i (by rw [bef_bit, decide_eq_true (List.mem_range.1 hi), ht]; rfl)
      rw [hb] at this
      rw [this]; rfl
  · intro h i hi
    rw [bef_bit, Bool.and_eq_true, decide_eq_true_eq] at hi
    have := h i (List.mem_range.2 hi.1)
    rw [hi.2] at this
    rw [hb]
    simpa using this
def extK (n : Nat) (E : List Ed) (p : List Nat) (k : Nat) : Bool := (List.range k).all (keepsB n E p)
theorem extK_succ (n : Nat) (E : List Ed) (p : List Nat) (k : Nat) : extK n E p (k + 1) = (extK n E p k && keepsB n E p k) := by unfold extK; rw [List.range_succ, List.all_append]; simp
theorem extK_bad {n : Nat} {E : List Ed} {p : List Nat} {k m : Nat} (h : k < m) (hk : keepsB n E p k = false) : extK n E p m = false := by
  unfold extK; rw [List.all_eq_false]; exact ⟨k, List.mem_range.2 h, by rw [hk]; simp⟩
theorem andNot_u64 {s t : Nat} (hs : s < 256) : bits BinOp.andNot IntKind.u64 (s : Int) (t : Int) = ((minusB s t : Nat) : Int) := by
  have h : (BitVec.ofInt 64 (s : Int) &&& ~~~ BitVec.ofInt 64 (t : Int)).toNat = minusB s t := by
    apply Nat.eq_of_testBit_eq
    intro i
    rw [bit_minus hs, BitVec.testBit_toNat, BitVec.getLsbD_and, BitVec.getLsbD_not, BitVec.ofInt_natCast, BitVec.ofInt_natCast, BitVec.getLsbD_ofNat, BitVec.getLsbD_ofNat]
    by_cases hi : i < 64
    · simp [hi]
    · have : s.testBit i = false := by
        cases hh : s.testBit i
        · rfl
        · have := lt_bit hs hh; omega
      simp [hi, this]
  show IntKind.u64.wrap ((BitVec.ofInt 64 (s : Int) &&& ~~~ BitVec.ofInt 64 (t : Int)).toNat : Int) = _
  rw [h, IntKind.wrap_u64]
  have := minus_lt hs t
  omega
end Go.Proofs.YtapbgmmkkngdoaaDoor

namespace Go.Proofs.YtapbgmmkkngdoaaDoor
open Go.RowKit

/-- A block is a map that holds just these keys with these values, in the order in which they came. -/
def MapOf (w : World) (g : Nat) (kvs : List (Int × Value)) : Prop :=
  ∃ es clock, w.heap[g]? = some (.map es clock) ∧ es.toList.map (fun e => (e.key, e.val)) = kvs.map fun p => (Value.int .i64 p.1, p.2)
def getM : List (Int × Value) → Int → Option Value
  | [], _ => none
  | p :: kvs, x => if p.1 = x then some p.2 else getM kvs x
theorem find_getM (x : Int) : ∀ (es : List MapEntry) (kvs : List (Int × Value)) (i : Nat), es.map (fun e => (e.key, e.val)) = kvs.map (fun p => (Value.int .i64 p.1, p.2)) → ∃ r, Instr.findNow (.int .i64) (.int .i64 x) es i = some r ∧ r.map (·.2) = getM kvs x
  | [], [], _, _ => ⟨none, rfl, rfl⟩
  | [], _ :: _, _, h => by cases h
  | _ :: _, [], _, h => by cases h
  | e :: es, p :: kvs, i, h => by
    simp only [List.map_cons, List.cons.injEq, Prod.mk.injEq] at h
    obtain ⟨⟨hk, hv⟩, ht⟩ := h
    by_cases hx : p.1 = x
    · refine ⟨some (i, e.val), ?_, ?_⟩
      · simp [Instr.findNow, Instr.sameNow, hk, hx]
      · simp [getM, hx, hv]
    · obtain ⟨r, h1, h2⟩ := find_getM x es kvs (i + 1) ht
      refine ⟨r, ?_, ?_⟩
      · have hne : (x == p.1) = false := by simp; exact fun e => hx e.symm
        simp [Instr.findNow, Instr.sameNow, hk, h1, hne]
      · simp [getM, hx, h2]
section
variable {P : Program} {w w' : World} {g : Nat} {kvs : List (Int × Value)} {t k e : TypeId}
theorem MapOf.lt (h : MapOf w g kvs) : g < w.heap.size := by
  obtain ⟨es, clock, hb, _⟩ := h
  exact (Array.getElem?_eq_some_iff.1 hb).1
theorem MapOf.new (w : World) : MapOf (w.alloc (.map #[] 0)) w.heap.size [] := ⟨#[], 0, heap_alloc_new w _, rfl⟩
theorem MapOf.below (h : MapOf w g kvs) (hb : Below w.heap.size w w') : MapOf w' g kvs := by
  have hlt := h.lt
  obtain ⟨es, clock, h1, h2⟩ := h
  exact ⟨es, clock, (hb.block g hlt).trans h1, h2⟩
theorem MapOf.drew (h : MapOf w g kvs) : MapOf w.drew g kvs := h
theorem MapOf.grown {r : Option Nat} (h : MapOf w g kvs) (hg : w.grownBy w' r) (hne : some g ≠ r) : MapOf w' g kvs := by
  have hlt := h.lt
  obtain ⟨es, clock, h1, h2⟩ := h
  exact ⟨es, clock, (hg.block g hlt hne).trans h1, h2⟩
theorem MapOf.look (h : MapOf w g kvs) (ht : P.underlying t = some (.map k e)) (hk : P.underlying k = some (.int .i64)) (x : Int) {z : Value} (hz : (zeroValue e).run P w = .ok z w) :
    (Instr.lookup t (.map (some g)) (.int .i64 x) false).run P w = .ok ((getM kvs x).getD z) w := by
  obtain ⟨es, clock, hb, he⟩ := h
  obtain ⟨r, h1, h2⟩ := find_getM x es.toList kvs 0 he
  have h3 := MapKept.run_findKey (P := P) (w := w) hk h1
  have h4 := MapKept.run_checkKey (P := P) (w := w) (kt := k) (k := .int .i64 x) hk (by simp [MapKept.IsKey]) es.isEmpty 9999
  rw [← h2]
  cases r with
  | none => simp [Instr.lookup, run_underlying ht, MapKept.run_getObj_map hb, h4, h3, hz, Result.andThen]
  | some r => simp [Instr.lookup, run_underlying ht, MapKept.run_getObj_map hb, h4, h3, Result.andThen]
theorem MapOf.look_ok (h : MapOf w g kvs) (ht : P.underlying t = some (.map k e)) (hk : P.underlying k = some (.int .i64)) (x : Int) {z : Value} (hz : (zeroValue e).run P w = .ok z w) :
    (Instr.lookup t (.map (some g)) (.int .i64 x) true).run P w = .ok (.tuple #[(getM kvs x).getD z, .bool (getM kvs x).isSome]) w := by
  obtain ⟨es, clock, hb, he⟩ := h
  obtain ⟨r, h1, h2⟩ := find_getM x es.toList kvs 0 he
  have h3 := MapKept.run_findKey (P := P) (w := w) hk h1
  have h4 := MapKept.run_checkKey (P := P) (w := w) (kt := k) (k := .int .i64 x) hk (by simp [MapKept.IsKey]) es.isEmpty 9999
  rw [← h2]
  cases r with
  | none => simp [Instr.lookup, run_underlying ht, MapKept.run_getObj_map hb, h4, h3, hz, Result.andThen]
  | some r => simp [Instr.lookup, run_underlying ht, MapKept.run_getObj_map hb, h4, h3, Result.andThen]
theorem MapOf.put (h : MapOf w g kvs) (ht : P.underlying t = some (.map k e)) (hk : P.underlying k = some (.int .i64)) (x : Int) (v : Value) (hx : getM kvs x = none) :
    ∃ w', (Instr.mapUpdate t (.map (some g)) (.int .i64 x) v).run P w = .ok () w' ∧ MapOf w' g (kvs ++ [(x, v)]) ∧ w.grownBy w' (some g) ∧ w'.heap.size = w.heap.size := by
  obtain ⟨es, clock, hb, he⟩ := h
  obtain ⟨r, h1, h2⟩ := find_getM x es.toList kvs 0 he
  have h3 := MapKept.run_findKey (P := P) (w := w) hk h1
  have h4 := MapKept.run_checkKey (P := P) (w := w) (kt := k) (k := .int .i64 x) hk (by simp [MapKept.IsKey]) false 9999
  cases r with
  | some r => rw [hx] at h2; cases h2
  | none =>
    refine ⟨{ w with heap := w.heap.setIfInBounds g (.map (es.push { key := .int .i64 x, val := v, born := clock }) (clock + 1)) }, by simp [Instr.mapUpdate, run_underlying ht, MapKept.run_getObj_map hb, h4, h3, MapKept.run_setObj_map _ hb, Result.andThen], ⟨_, _, (MapKept.heap_set hb).1, ?_⟩, ⟨rfl, rfl, rfl, by simp, fun i _ hi => (MapKept.heap_set hb).2 i (fun e => hi (by rw [e]))⟩, by simp⟩
    simp [he]
theorem run_makeMap_hint (ht : P.underlying t = some (.map k e)) (q : IntKind) (n : Int) (w : World) : (Instr.makeMap t (some (.int q n))).run P w = .ok (.map (some w.heap.size)) (w.alloc (.map #[] 0)) := by
  simp [Instr.makeMap, run_underlying ht, asInt, asIntOf, Result.andThen]
end
end Go.Proofs.YtapbgmmkkngdoaaDoor

namespace Go.Proofs.YtapbgmmkkngdoaaDoor
open Go.RowKit

def hasI (xs : List Int) (x : Int) : Bool := decide (x ∈ xs)
theorem hasI_yes {xs : List Int} {x : Int} (h : x ∈ xs) : hasI xs x = true := decide_eq_true h
theorem hasI_no {xs : List Int} {x : Int} (h : x ∉ xs) : hasI xs x = false := decide_eq_false h
theorem hasI_out {xs : List Int} {x : Int} (h : hasI xs x = true) : x ∈ xs := of_decide_eq_true h
theorem hasI_not {xs : List Int} {x : Int} (h : hasI xs x = false) : x ∉ xs := of_decide_eq_false h
theorem notTo_step {xs : List Int} {x : Int} {k : Nat} (h : ∀ i (hi : i < xs.length), i < k → xs[i] ≠ x) (hk : k < xs.length) (ho : xs[k] ≠ x) : ∀ i (hi : i < xs.length), i < k + 1 → xs[i] ≠ x := by
  intro i hi hik
  by_cases e : i = k
  · subst e; exact ho
  · exact h i hi (by omega)
theorem notTo_all {xs : List Int} {x : Int} (h : ∀ i (hi : i < xs.length), i < xs.length → xs[i] ≠ x) : x ∉ xs := by
  intro hx
  obtain ⟨i, hi, rfl⟩ := List.mem_iff_getElem.1 hx
  exact h i hi hi rfl
theorem l1Has_any (A : Option Addr) (c : Nat) (xs : List Int) (x : Int) (w : World) (hr : Row w A (ic xs)) (hn : xs.length ≤ 100000000) :
    Calls Tryd.prog 81 #[.slice A xs.length c, .int .i64 x] w fun e w' => e = .returned (.bool (hasI xs x)) ∧ w = w' := by
  go_enter Tryd.func81, Tryd.ntmps81
  go_wp2
  go_loop [5] (fun i => ∃ k : Nat, k ≤ xs.length ∧ i = .int .i64 k ∧ Hid (∀ i (hi : i < xs.length), i < k → xs[i] ≠ x)) (fun i => xs.length - (intOf i).toNat)
  case atStart => exact ⟨0, Nat.zero_le _, rfl, fun _ _ h => absurd h (by omega)⟩
  case round =>
    obtain ⟨k, hk, rfl, hA⟩ := hrel
    by_cases hlt : k < xs.length
    · obtain ⟨a, hA', hc⟩ := hr.int hlt
      subst hA'
      have hi : (0 : Int) ≤ k := by omega
      have hi' : (k : Int) < xs.length := by omega
      by_cases hx : xs[k] = x
      · have HG := Lib.hid (hasI_yes (hx ▸ List.getElem_mem hlt))
        rw [hx] at hc
        clear hr hA hx
        go_wp2
        go_ret
        exact ⟨by rw [HG.out]; rfl, rfl⟩
      · have HA := Lib.hid (notTo_step hA.out hlt hx)
        have hne : ((xs[k] : Int) == x) = false := by simpa using hx
        clear hr hA
        generalize xs[k] = y at *
        go_wp2
        go_round
        case rel => exact ⟨k + 1, by omega, by go_num, HA.out⟩
        case measure => simp [intOf]; omega
    · obtain rfl : k = xs.length := by omega
      have HG := Lib.hid (hasI_no (notTo_all hA.out))
      clear hA
      go_wp2
      go_ret
      exact ⟨by rw [HG.out]; rfl, rfl⟩

theorem inAll_step {o : List Int} {k : Nat} (h : ∀ i : Nat, i < k → (i : Int) ∈ o) (hk : (k : Int) ∈ o) : ∀ i : Nat, i < k + 1 → (i : Int) ∈ o := by
  intro i hi
  by_cases e : i = k
  · subst e; exact hk
  · exact h i (by omega)
theorem l2Order_any (n : Int) (A : Option Addr) (c : Nat) (o : List Int) (w : World) (hr : Row w A (ic o)) (hn : o.length ≤ 100000000) :
    Calls Tryd.prog 54 #[.int .i64 n, .slice A o.length c] w fun e w' => e = .returned (.bool (ordB n o)) ∧ w = w' := by
  by_cases h8 : 0 ≤ n ∧ n ≤ 8
  · have hin := inB_yes h8.1 h8.2
    obtain ⟨m, rfl⟩ : ∃ m : Nat, n = (m : Int) := ⟨n.toNat, by omega⟩
    have hm : m ≤ 8 := by omega
    by_cases hl : o.length = m
    · go_enter Tryd.func54, Tryd.ntmps54
      go_wp2_with fail
      refine (l1In_any _ _ _ _).mono ?_
      rintro e w1 ⟨rfl, rfl⟩
      rw [hin]
      subst hl
      go_wp2_with fail
      go_loop [5] (fun i => ∃ k : Nat, k ≤ o.length ∧ i = .int .i64 k ∧ Hid (∀ i : Nat, i < k → (i : Int) ∈ o)) (fun i => o.length - (intOf i).toNat)
      case atStart => exact ⟨0, Nat.zero_le _, rfl, fun _ h => absurd h (by omega)⟩
      case round =>
        obtain ⟨k, hk, rfl, hA⟩ := hrel
        have HR := Lib.hid hr
        clear hr
        by_cases hlt : k < o.length
        · have hi' : (k : Int) < o.length := by omega
          cases hx : hasI o k
          · have HG := Lib.hid (ord_not (n := (o.length : Int)) (o := o) (fun h => hasI_not hx (h.2.2.2 k (by simpa using hlt))))
            clear hA hin
            go_wp2_with fail
            refine (l1Has_any _ _ o _ _ HR.out hn).mono ?_
            rintro e w1 ⟨rfl, rfl⟩
            rw [hx]
            go_wp2
            go_ret
            exact ⟨by rw [HG.out]; rfl, rfl⟩
          · have HA := Lib.hid (inAll_step hA.out (hasI_out hx))
            clear hA hin
            go_wp2_with fail
            refine (l1Has_any _ _ o _ _ HR.out hn).mono ?_
            rintro e w1 ⟨rfl, rfl⟩
            rw [hx]
            go_wp2
            go_round
            case rel => exact ⟨k + 1, by omega, by go_num, HA.out⟩
            case measure => simp [intOf]; omega
        · obtain rfl : k = o.length := by omega
          have HG := Lib.hid (ord_mk (n := (o.length : Int)) (o := o) ⟨by omega, by omega, rfl, fun i hi => hA.out i (by simpa using hi)⟩)
          clear hA hin
          go_wp2
          go_ret
          exact ⟨by rw [HG.out]; rfl, rfl⟩
    · have HG := Lib.hid (ord_not (n := (m : Int)) (o := o) (fun h => hl (by omega)))
      have hne : (((o.length : Nat) : Int) != (m : Int)) = true := by simp; omega
      go_enter Tryd.func54, Tryd.ntmps54
      go_wp2_with fail
      refine (l1In_any _ _ _ _).mono ?_
      rintro e w1 ⟨rfl, rfl⟩
      rw [hin]
      go_wp2
      go_ret
      exact ⟨by rw [HG.out]; rfl, rfl⟩
  · have hin := inB_no (x := n) (a := 0) (b := 8) h8
    have HG := Lib.hid (ord_not (n := n) (o := o) (fun h => h8 ⟨h.1, h.2.1⟩))
    go_enter Tryd.func54, Tryd.ntmps54
    go_wp2_with fail
    refine (l1In_any _ _ _ _).mono ?_
    rintro e w1 ⟨rfl, rfl⟩
    rw [hin]
    go_wp2
    go_ret
    exact ⟨by rw [HG.out]; rfl, rfl⟩

/-- What the program has seen: the numbers so far. -/
def seenM (xs : List Int) : List (Int × Value) := xs.map fun x => (x, .bool true)
theorem seen_in : ∀ {xs : List Int} {x : Int}, x ∈ xs → getM (seenM xs) x = some (.bool true)
  | y :: xs, x, h => by
    show (if y = x then _ else _) = _
    by_cases e : y = x
    · rw [if_pos e]
    · rw [if_neg e]
      rcases List.mem_cons.1 h with h | h
      · exact absurd h.symm e
      · exact seen_in h
theorem seen_out : ∀ {xs : List Int} {x : Int}, x ∉ xs → getM (seenM xs) x = none
  | [], _, _ => rfl
  | y :: xs, x, h => by
    show (if y = x then _ else _) = _
    rw [if_neg (fun e => h (by rw [e]; exact List.mem_cons_self))]
    exact seen_out (fun e => h (List.mem_cons_of_mem _ e))
theorem zeroB (w : World) : (zeroValue 4).run Tryd.prog w = .ok (.bool false) w := by kernel_rfl
def goodTo (o : List Int) (k : Nat) : Prop := (∀ x ∈ o.take k, 0 ≤ x ∧ x < o.length) ∧ (o.take k).Nodup
theorem goodTo_step {o : List Int} {k : Nat} (h : goodTo o k) (hk : k < o.length) (h0 : 0 ≤ o[k]) (h1 : o[k] < o.length) (hn : o[k] ∉ o.take k) : goodTo o (k + 1) := by
  unfold goodTo
  rw [List.take_succ_eq_append_getElem hk]
  refine ⟨fun x hx => ?_, ?_⟩
  · rcases List.mem_append.1 hx with h' | h'
    · exact h.1 x h'
    · rw [List.mem_singleton.1 h']; exact ⟨h0, h1⟩
  · rw [List.nodup_append]
    refine ⟨h.2, by simp, ?_⟩
    intro a ha b hb e
    rw [List.mem_singleton.1 hb] at e
    exact hn (e ▸ ha)
theorem seen_snoc {o : List Int} {k : Nat} (hk : k < o.length) : seenM (o.take k) ++ [(o[k], .bool true)] = seenM (o.take (k + 1)) := by
  unfold seenM; rw [List.take_succ_eq_append_getElem hk, List.map_append]; rfl
theorem ord_dup {o : List Int} {k : Nat} (hk : k < o.length) (hx : o[k] ∈ o.take k) : ordB (o.length : Int) o = false := by
  cases h : ordB (o.length : Int) o
  · rfl
  · obtain ⟨_, hn⟩ := ord_range h
    rw [← List.take_append_drop k o, List.nodup_append] at hn
    exact absurd rfl (hn.2.2 _ hx _ (List.mem_drop_iff_getElem.2 ⟨0, by simpa using hk, by simp⟩))
theorem ord_out_of {o : List Int} {k : Nat} (hk : k < o.length) (hx : ¬ (0 ≤ o[k] ∧ o[k] < o.length)) : ordB (o.length : Int) o = false := by
  cases h : ordB (o.length : Int) o
  · rfl
  · exact absurd ((ord_range h).1 _ (List.getElem_mem hk)) hx
set_option maxRecDepth 100000 in
set_option maxHeartbeats 1000000 in
theorem IsOrder_any (n : Int) (A : Option Addr) (c : Nat) (o : List Int) (w : World) (hr : Row w A (ic o)) (hn : o.length ≤ 100000000) :
    Calls Tryd.prog 56 #[.int .i64 n, .slice A o.length c] w fun e w' => e = .returned (.bool (ordB n o)) ∧ Below w.heap.size w w' := by
  by_cases h8 : 0 ≤ n ∧ n ≤ 8
  · obtain ⟨h0, h8⟩ := h8
    obtain ⟨m, rfl⟩ : ∃ m : Nat, n = (m : Int) := ⟨n.toNat, by omega⟩
    have hm : m ≤ 8 := by omega
    by_cases hl : o.length = m
    · subst hl
      have hmm := run_makeMap_hint (P := Tryd.prog) Tryd.underlying112 .i64 (o.length : Int)
      go_enter Tryd.func56, Tryd.ntmps56
      go_wp2
      go_loopw [24] (fun i wr => ∃ k : Nat, k ≤ o.length ∧ i = .int .i64 k ∧ MapOf wr w.heap.size (seenM (o.take k)) ∧ Hid (goodTo o k) ∧ Below w.heap.size w wr) (fun i _ => o.length - (intOf i).toNat)
      case atStart => exact ⟨0, Nat.zero_le _, rfl, MapOf.new _, ⟨by simp, by simp⟩, (Below.refl _ _).alloc (Nat.le_refl _) _⟩
      case round =>
        obtain ⟨k, hk, rfl, hM, hG, hb⟩ := hrel
        clear hmm
        by_cases hlt : k < o.length
        · obtain ⟨a, hA', hc⟩ := (hr.below hb).int hlt
          subst hA'
          have hi : (0 : Int) ≤ k := by omega
          have hi' : (k : Int) < o.length := by omega
          by_cases hrg : 0 ≤ o[k] ∧ o[k] < o.length
          · obtain ⟨hr0, hr1⟩ := hrg
            by_cases hx : o[k] ∈ o.take k
            · have HG := Lib.hid (ord_dup hlt hx)
              have hlook := hM.look (P := Tryd.prog) Tryd.underlying112 Tryd.underlying3 o[k] (zeroB wr)
              rw [seen_in hx] at hlook
              simp only [Option.getD_some] at hlook
              clear hr hG hM hx
              generalize o[k] = y at *
              go_wp2
              go_ret
              exact ⟨by rw [HG.out]; rfl, hb⟩
            · have HG := Lib.hid (goodTo_step hG.out hlt hr0 hr1 hx)
              have hlook := hM.look (P := Tryd.prog) Tryd.underlying112 Tryd.underlying3 o[k] (zeroB wr)
              rw [seen_out hx] at hlook
              simp only [Option.getD_none] at hlook
              obtain ⟨w1, hput, hM1, hg1, hs1⟩ := hM.put (P := Tryd.prog) Tryd.underlying112 Tryd.underlying3 o[k] (.bool true) (seen_out hx)
              rw [seen_snoc hlt] at hM1
              have HM := Lib.hid hM1
              have HB := Lib.hid (hb.trans (⟨hg1.os, hg1.tape, hg1.output, hg1.size, fun j hj => hg1.block j (Nat.lt_of_lt_of_le hj hb.size) (fun e => by injection e; omega)⟩ : Below w.heap.size wr w1))
              clear hr hG hM hx hM1 hg1 hs1 hb
              generalize o[k] = y at *
              go_wp2
              go_roundw
              case rel => exact ⟨k + 1, by omega, by go_num, HM.out, HG.out, HB.out⟩
              case measure => simp [intOf]; omega
          · have HG := Lib.hid (ord_out_of hlt hrg)
            clear hr hG hM
            by_cases hr0 : 0 ≤ o[k]
            · have hr1 : ¬ o[k] < o.length := fun h => hrg ⟨hr0, h⟩
              clear hrg
              generalize o[k] = y at *
              go_wp2
              go_ret
              exact ⟨by rw [HG.out]; rfl, hb⟩
            · clear hrg
              generalize o[k] = y at *
              go_wp2
              go_ret
              exact ⟨by rw [HG.out]; rfl, hb⟩
        · obtain rfl : k = o.length := by omega
          have HG := Lib.hid (ord_prefix (n := o.length) (o := o) rfl hm (by simpa using hG.out.1) (by simpa using hG.out.2))
          clear hG hM
          go_wp2
          go_ret
          exact ⟨by rw [HG.out]; rfl, hb⟩
    · have HG := Lib.hid (ord_not (n := (m : Int)) (o := o) (fun h => hl (by omega)))
      have hne : (((o.length : Nat) : Int) != (m : Int)) = true := by simp; omega
      go_enter Tryd.func56, Tryd.ntmps56
      go_wp2
      go_ret
      exact ⟨by rw [HG.out]; rfl, Below.refl _ _⟩
  · have HG := Lib.hid (ord_not (n := n) (o := o) (fun h => h8 ⟨h.1, h.2.1⟩))
    by_cases h0 : 0 ≤ n
    · have h1 : ¬ n ≤ 8 := fun h => h8 ⟨h0, h⟩
      clear h8
      go_enter Tryd.func56, Tryd.ntmps56
      go_wp2
      go_ret
      exact ⟨by rw [HG.out]; rfl, Below.refl _ _⟩
    · clear h8
      go_enter Tryd.func56, Tryd.ntmps56
      go_wp2
      go_ret
      exact ⟨by rw [HG.out]; rfl, Below.refl _ _⟩
end Go.Proofs.YtapbgmmkkngdoaaDoor

namespace Go.Proofs.YtapbgmmkkngdoaaDoor
open Go.RowKit
def RetBB (w : World) (r : Bool × Bool) (e : Ending) (w' : World) : Prop := e = .returned (.tuple #[.bool r.1, .bool r.2]) ∧ Below w.heap.size w w'
end Go.Proofs.YtapbgmmkkngdoaaDoor

namespace Go.Proofs.YtapbgmmkkngdoaaDoor
open Go.RowKit

def twoB (js : List J) (o : List Int) : Bool := goodL js && ordB js.length o
theorem l1Most_any (x y : Int) (w : World) :
    Calls Tryd.prog 89 #[.int .i64 x, .int .i64 y] w fun e w' => e = .returned (.int .i64 (max x y)) ∧ w' = w := by
  by_cases h : y < x
  · go_enter Tryd.func89, Tryd.ntmps89
    go_wp2
    go_ret
    exact ⟨by rw [show max x y = x by omega]; rfl, rfl⟩
  · go_enter Tryd.func89, Tryd.ntmps89
    go_wp2
    go_ret
    exact ⟨by rw [show max x y = y by omega]; rfl, rfl⟩
end Go.Proofs.YtapbgmmkkngdoaaDoor

namespace Go.Proofs.YtapbgmmkkngdoaaDoor
open Go.RowKit

abbrev natI (p : List Nat) : List Int := p.map Int.ofNat
theorem Row.nat {w : World} {A : Option Addr} {p : List Nat} (h : Row w A (ic (natI p))) {k : Nat} (hk : k < p.length) : ∃ ad, A = some ad ∧ w.cell? (ad.add k) = some (.int .i64 ((p[k] : Nat) : Int)) := by
  obtain ⟨ad, hA, hc⟩ := h.int (k := k) (by simpa using hk)
  exact ⟨ad, hA, by rw [hc]; simp⟩
theorem ic_set (xs : List Int) (j : Nat) (x : Int) : (ic xs).toArray.setIfInBounds j (.int .i64 x) = (ic (xs.set j x)).toArray := by
  unfold ic; simp [List.map_set]
theorem ic_made (n : Nat) : madeCells #[.int .i64 0] n = (ic (List.replicate n 0)).toArray := by
  apply Array.ext'
  apply List.ext_getElem?
  intro i
  by_cases h : i < n
  · simp [madeCells, ic, h, Nat.mod_one]
  · simp [madeCells, ic, h]
theorem BlockIs.int {w : World} {g : Nat} {t : TypeId} {xs : List Int} (h : BlockIs w g t (ic xs).toArray) {k : Nat} (hk : k < xs.length) : w.cell? ⟨g, k, none⟩ = some (.int .i64 xs[k]) := by
  rw [h.cell]; unfold ic; simp [hk]
theorem endsGo_drop (js : List J) (p : List Nat) (k : Nat) (now : Int) (xs : List Int) (h : k < p.length) :
    endsGo js (p.drop k) now xs = endsGo js (p.drop (k + 1)) (max now (js.getD p[k] j0).r + (js.getD p[k] j0).t) (xs.set p[k] (max now (js.getD p[k] j0).r + (js.getD p[k] j0).t)) := by
  rw [List.drop_eq_getElem_cons h]; rfl
theorem startsGo_drop (js : List J) (p : List Nat) (k : Nat) (now : Int) (xs : List Int) (h : k < p.length) :
    startsGo js (p.drop k) now xs = startsGo js (p.drop (k + 1)) (max now (js.getD p[k] j0).r + (js.getD p[k] j0).t) (xs.set p[k] (max now (js.getD p[k] j0).r)) := by
  rw [List.drop_eq_getElem_cons h]; rfl
theorem mix_step {α : Type} (es ss : List α) (k : Nat) (x : α) (h : es.length = ss.length) (hk : k < es.length) (hx : es[k] = x) : (es.take k ++ ss.drop k).set k x = es.take (k + 1) ++ ss.drop (k + 1) := by
  subst hx
  apply List.ext_getElem?
  intro i
  rcases Nat.lt_trichotomy i k with hi | hi | hi
  · rw [List.getElem?_set_ne (by omega), List.getElem?_append_left (by simp; omega), List.getElem?_append_left (by simp; omega), List.getElem?_take, List.getElem?_take, if_pos hi, if_pos (by omega)]
  · subst hi
    rw [List.getElem?_set_self (by simp; omega), List.getElem?_append_left (by simp; omega), List.getElem?_take, if_pos (by omega), List.getElem?_eq_getElem hk]
  · rw [List.getElem?_set_ne (by omega), List.getElem?_append_right (by simp; omega), List.getElem?_append_right (by simp; omega), List.getElem?_drop, List.getElem?_drop]
    simp only [List.length_take]
    congr 1; omega
theorem mix_len {α : Type} (es ss : List α) (k : Nat) (h : es.length = ss.length) (hk : k ≤ es.length) : (es.take k ++ ss.drop k).length = ss.length := by simp; omega
theorem mix_at {α : Type} (es ss : List α) (k : Nat) (h : es.length = ss.length) (hk : k < es.length) : (es.take k ++ ss.drop k)[k]'(by simp; omega) = ss[k] := by
  rw [List.getElem_append_right (by simp; omega)]
  simp [Nat.min_eq_left (Nat.le_of_lt hk)]

theorem seg_of_block {w : World} {g base : Nat} {t : TypeId} {xs : List Int} (h : BlockIs w g t (ic xs).toArray) (hb : base ≤ g) (hm : xs.length ≤ maxLen) : Seg w t 1 base w.heap.size (some ⟨g, 0, none⟩) xs.length xs.length (ic xs) := by
  have := h.own (base := base) (n := xs.length) (c := xs.length) (size := 1) hb (by simp [ic_len]) (Nat.le_refl _) hm (by simp [ic_len])
  rw [List.take_of_length_le (by simp [ic_len])] at this
  exact Seg.of_own this
theorem l1Most_still (x y m : Int) (h : max x y = m) (w : World) :
    Calls Tryd.prog 89 #[.int .i64 x, .int .i64 y] w fun e w' => e = .returned (.int .i64 m) ∧ w' = w := by
  subst h; exact l1Most_any x y w
theorem max_bd {x y b : Int} (hx : 0 ≤ x) (hx' : x ≤ b) (hy : y ≤ b) : 0 ≤ max x y ∧ max x y ≤ b := by omega
theorem ends_starts_at {js : List J} {p : List Nat} (hp : p.Perm (List.range js.length)) {k : Nat} (hk : k < js.length) (h1 : k < (endsL js p).length) (h2 : k < (startsL js p).length) : (endsL js p)[k] = (startsL js p)[k] + js[k].t := by
  have := end_startL js p hp k hk
  rwa [getD_at _ _ h1, getD_at _ _ h2, getD_at js j0 hk] at this
end Go.Proofs.YtapbgmmkkngdoaaDoor

namespace Go.Proofs.YtapbgmmkkngdoaaDoor
open Go.RowKit

def natsOf (o : List Int) : List Nat := o.map Int.toNat
theorem natsOf_natI (p : List Nat) : natsOf (natI p) = p := by
  unfold natsOf natI
  rw [List.map_map, show (Int.toNat ∘ Int.ofNat) = id from rfl, List.map_id]
theorem two_out {js : List J} {o : List Int} (h : twoB js o = true) : goodL js = true ∧ ∃ p : List Nat, o = natI p ∧ p.Perm (List.range js.length) ∧ natsOf o = p := by
  unfold twoB at h
  rw [Bool.and_eq_true] at h
  obtain ⟨p, rfl, hp, _, _⟩ := ord_nat h.2
  exact ⟨h.1, p, rfl, hp, natsOf_natI p⟩
/-- What a function hands back: an int and a bool. -/
def RetNB (w : World) (r : Int × Bool) (e : Ending) (w' : World) : Prop := e = .returned (.tuple #[.int .i64 r.1, .bool r.2]) ∧ Below w.heap.size w w'
theorem ret_empty {w w1 : World} {r : List Int × Bool} (hr : r = ([], false)) (hb : Below w.heap.size w w1) (e : Ending) (he : e = .returned (.tuple #[.slice (some ⟨w1.heap.size, 0, none⟩) 0 0, .bool false])) : RetIB w r e (w1.alloc (.cells #[] 3)) := by
  subst hr he
  have h := BlockIs.new w1 3 (ic []).toArray
  exact ⟨_, 0, rfl, seg_of_block h hb.size (by simp), hb.alloc hb.size _⟩
theorem ret_block {w w' : World} {r : List Int × Bool} {xs : List Int} {g : Nat} (hr : r = (xs, true)) (hg : w.heap.size ≤ g) (hB : BlockIs w' g 3 (ic xs).toArray) (hm : xs.length ≤ 100000000) (hb : Below w.heap.size w w') (e : Ending) (he : e = .returned (.tuple #[.slice (some ⟨g, 0, none⟩) xs.length xs.length, .bool true])) : RetIB w r e w' := by
  subst hr he
  exact ⟨_, xs.length, rfl, seg_of_block hB hg (by unfold maxLen; simp; omega), hb⟩

section
variable (A B : Option Addr) (c d : Nat) (js : List J) (o : List Int) (w : World) (hr : Row w A (jc js)) (hq : Row w B (ic o)) (hn : js.length ≤ 10000000) (hm : o.length ≤ 10000000)
include hr hq hn hm
end
end Go.Proofs.YtapbgmmkkngdoaaDoor

namespace Go.Proofs.YtapbgmmkkngdoaaDoor
open Go.RowKit
def isExtR (n : Int) (E : List Pr) (o : List Int) : Bool × Bool := if precB n E && ordB n o then (extB n.toNat E (natsOf o), true) else (false, false)
set_option maxRecDepth 100000 in
set_option maxHeartbeats 4000000 in
theorem l4Extends_any (A C : Option Addr) (c d n : Nat) (E : List Pr) (p : List Nat) (w : World) (hr : Row w A (pc E)) (hq : Row w C (ic (natI p))) (hl : E.length ≤ 10000000) (hE : EdsIn n E) (hpl : p.length ≤ 8) :
    Calls Tryd.prog 55 #[.slice A E.length c, .slice C p.length d] w fun e w' => e = .returned (.bool (extE E p E.length)) ∧ ∃ m, w' = w.drewN m := by
  go_enter Tryd.func55, Tryd.ntmps55
  go_wp2
  go_loopw [5] (fun v wr => ∃ (k m : Nat), k ≤ E.length ∧ v = .int .i64 (k : Int) ∧ Hid (extE E p k = true) ∧ wr = w.drewN m) (fun v _ => E.length - (intOf v).toNat)
  case atStart => exact ⟨0, 0, Nat.zero_le _, rfl, rfl, rfl⟩
  case round =>
    obtain ⟨k, m, hk, rfl, HI, rfl⟩ := hrel
    by_cases hlt : k < E.length
    · obtain ⟨ad, hA, hbl, hc0, hc1⟩ := hr.pair hlt
      subst hA
      obtain ⟨a, b, hab, ha, hb⟩ := hE k hlt
      have HS : Hid (extE E p (k + 1) = decide (posGo p a p.length ≤ posGo p b p.length)) := by
        show _ = _
        rw [extE_succ, HI.out, Bool.true_and, getD_at E (0, 0) hlt, hab]
        simp only [Int.toNat_natCast]
      have HBD : Hid (¬ posGo p a p.length ≤ posGo p b p.length → extE E p E.length = false) := fun h => extE_bad hlt (by rw [getD_at E (0, 0) hlt, hab]; simpa using h)
      rw [hab] at hc0 hc1
      simp only at hc0 hc1
      have hk0 : (0 : Int) ≤ k := by omega
      have hk1 : (k : Int) < E.length := by omega
      clear hr hab hbl
      go_wp2
      go_loopw [6, 7, 8] (fun f s v wr => ∃ (x m : Nat), x ≤ p.length ∧ v = .int .i64 (x : Int) ∧ f = .int .i64 (posGo p a x : Nat) ∧ s = .int .i64 (posGo p b x : Nat) ∧ wr = w.drewN m) (fun _ _ v _ => p.length - (intOf v).toNat)
      case atStart => exact ⟨0, m, Nat.zero_le _, rfl, rfl, rfl, rfl⟩
      case round =>
        clear m
        obtain ⟨x, m, hx, rfl, rfl, rfl, rfl⟩ := hrel
        by_cases hltx : x < p.length
        · obtain ⟨aq, hA, hcx⟩ := hq.nat hltx
          subst hA
          have hx0 : (0 : Int) ≤ x := by omega
          have hx1 : (x : Int) < p.length := by omega
          have HF : Hid (posGo p a (x + 1) = if p[x] = a then x else posGo p a x) := by show (if _ then _ else _) = _; rw [getD_at p 0 hltx]
          have HG : Hid (posGo p b (x + 1) = if p[x] = b then x else posGo p b x) := by show (if _ then _ else _) = _; rw [getD_at p 0 hltx]
          generalize p[x] = y at *
          have e0 : (w.drewN m).cell? (ad.add (k * 2)) = some (.int .i64 (a : Int)) := hc0
          have e1 : (w.drewN m).cell? ⟨(ad.add (k * 2)).block, (ad.add (k * 2)).off + 1, none⟩ = some (.int .i64 (b : Int)) := hc1
          have e2 : (w.drewN m).cell? (aq.add x) = some (.int .i64 (y : Int)) := hcx
          by_cases h1 : y = a
          · have b1 : ((y : Int) == (a : Int)) = true := by simp [h1]
            have H1 := Lib.hid h1
            clear h1
            by_cases h2 : y = b
            · have b2 : ((y : Int) == (b : Int)) = true := by simp [h2]
              have H2 := Lib.hid h2
              clear h2
              go_wp2
              go_quiet (fail)
              go_wp2
              go_quiet (fail)
              go_wp2
              go_roundw
              case rel => exact ⟨x + 1, _, by omega, by go_num, by rw [HF.out, if_pos H1.out], by rw [HG.out, if_pos H2.out], rfl⟩
              case measure => simp [intOf]; omega
            · have b2 : ((y : Int) == (b : Int)) = false := by simp; omega
              have H2 := Lib.hid h2
              clear h2
              go_wp2
              go_quiet (fail)
              go_wp2
              go_quiet (fail)
              go_wp2
              go_roundw
              case rel => exact ⟨x + 1, _, by omega, by go_num, by rw [HF.out, if_pos H1.out], by rw [HG.out, if_neg H2.out], rfl⟩
              case measure => simp [intOf]; omega
          · have b1 : ((y : Int) == (a : Int)) = false := by simp; omega
            have H1 := Lib.hid h1
            clear h1
            by_cases h2 : y = b
            · have b2 : ((y : Int) == (b : Int)) = true := by simp [h2]
              have H2 := Lib.hid h2
              clear h2
              go_wp2
              go_quiet (fail)
              go_wp2
              go_quiet (fail)
              go_wp2
              go_roundw
              case rel => exact ⟨x + 1, _, by omega, by go_num, by rw [HF.out, if_neg H1.out], by rw [HG.out, if_pos H2.out], rfl⟩
              case measure => simp [intOf]; omega
            · have b2 : ((y : Int) == (b : Int)) = false := by simp; omega
              have H2 := Lib.hid h2
              clear h2
              go_wp2
              go_quiet (fail)
              go_wp2
              go_quiet (fail)
              go_wp2
              go_roundw
              case rel => exact ⟨x + 1, _, by omega, by go_num, by rw [HF.out, if_neg H1.out], by rw [HG.out, if_neg H2.out], rfl⟩
              case measure => simp [intOf]; omega
        · obtain rfl : x = p.length := by omega
          generalize posGo p a p.length = fa at *
          generalize posGo p b p.length = fb at *
          by_cases hle : fa ≤ fb
          · have hg : ¬ (fa : Int) > fb := by omega
            have g1 : decide (fb < fa) = false := by simp; omega
            have HS2 : Hid (extE E p (k + 1) = true) := by show _ = _; rw [HS.out, decide_eq_true hle]
            clear hle
            go_wp2
            go_roundw
            case rel => exact ⟨k + 1, _, by omega, by go_num, HS2.out, rfl⟩
            case measure => simp [intOf]; omega
          · have hg : (fb : Int) < fa := by omega
            have g1 : decide (fb < fa) = true := by simp; omega
            have HS2 := Lib.hid (HBD.out hle)
            clear hle
            go_wp2
            go_ret
            exact ⟨by rw [HS2.out]; rfl, m, rfl⟩
    · obtain rfl : k = E.length := by omega
      go_wp2
      go_ret
      exact ⟨by rw [HI.out]; rfl, m, rfl⟩
theorem isWithin_any (s t : Nat) (hs : s < 256) (w : World) :
    Calls Tryd.prog 82 #[.int .u64 (s : Int), .int .u64 (t : Int)] w fun e w' => e = .returned (.bool (withinB s t)) ∧ w = w' := by
  have h1 := andNot_u64 (t := t) hs
  have HW : Hid (withinB s t = decide (minusB s t = 0)) := rfl
  generalize minusB s t = r at *
  by_cases h : r = 0
  · subst h
    have e0 : (((0 : Nat) : Int) == 0) = true := rfl
    go_enter Tryd.func82, Tryd.ntmps82
    go_wp2
    go_ret
    exact ⟨by rw [HW.out]; rfl, rfl⟩
  · have e0 : ((r : Int) == 0) = false := by simp [h]
    have HZ : Hid (withinB s t = false) := by show _ = _; rw [HW.out, decide_eq_false h]
    clear h HW
    go_enter Tryd.func82, Tryd.ntmps82
    go_wp2
    go_ret
    exact ⟨by rw [HZ.out]; rfl, rfl⟩
set_option maxRecDepth 100000 in
set_option maxHeartbeats 2000000 in
theorem isExtension_any (C : Option Addr) (d m : Nat) (hm : m ≤ 8) (E : List Pr) (p : List Nat) (w : World) (hq : Row w C (ic (natI p))) (hp : p.Perm (List.range m)) :
    Calls Tryd.prog 57 #[.agg (precC (m : Int) (befN m (tabB m E))), .slice C p.length d] w fun e w' => e = .returned (.bool (extB m E p)) ∧ Below w.heap.size w w' := by
  have hb := (Below.refl w.heap.size w).alloc (Nat.le_refl _) (.cells (precC (m : Int) (befN m (tabB m E))) 62)
  have hB := BlockIs.new w 62 (precC (m : Int) (befN m (tabB m E)))
  have hq2 := hq.below hb
  have hB8 : ∀ j, befN m (tabB m E) j < 256 := fun j => bef_lt hm _ j
  have HKW : Hid (∀ k (hk : k < p.length), withinB (befN m (tabB m E) p[k]) (setTo2 p k) = keepsB m E p k) := fun k hk => keeps_within hm E hk
  have H0 := Lib.hid (And.intro hb hB)
  have hpl : p.length = m := by simpa using hp.length_eq
  have HPL := Lib.hid hpl
  have hp8 : p.length ≤ 8 := by omega
  have HX : Hid (extK m E p p.length = extB m E p) := rfl
  have hplt : ∀ x ∈ p, x < 8 := fun x hx => by have := perm_lt hp hx; omega
  clear hb hB hpl hq
  generalize befN m (tabB m E) = B at *
  obtain ⟨W, hW⟩ : ∃ W, W = w.alloc (.cells (precC (m : Int) B) 62) := ⟨_, rfl⟩
  rw [← hW] at hq2 H0
  go_enter Tryd.func57, Tryd.ntmps57
  go_wp2
  rw [← hW]
  clear hW
  go_loop [5, 10] (fun s v => ∃ k : Nat, k ≤ p.length ∧ v = .int .i64 (k : Int) ∧ s = .int .u64 (setTo2 p k : Nat) ∧ Hid (extK m E p k = true)) (fun _ v => p.length - (intOf v).toNat)
  case atStart => exact ⟨0, Nat.zero_le _, rfl, rfl, rfl⟩
  case round =>
    obtain ⟨k, hk, rfl, rfl, HI⟩ := hrel
    by_cases hlt : k < p.length
    · obtain ⟨aq, hA, hcx⟩ := hq2.nat hlt
      subst hA
      have hk0 : (0 : Int) ≤ k := by omega
      have hk1 : (k : Int) < p.length := by omega
      have HS := Lib.hid (setTo2_succ hlt)
      have hst : setTo2 p k < 256 := foldl_add_lt _ _ (by decide) fun x hx => hplt x (List.mem_of_mem_take hx)
      have hy8 := hplt _ (List.getElem_mem hlt)
      have hck := (H0.out.2.cell (1 + p[k])).trans (precC_at (m : Int) B hy8)
      have HKK : Hid (withinB (B p[k]) (setTo2 p k) = keepsB m E p k) := HKW.out k hlt
      have HES : Hid (extK m E p (k + 1) = keepsB m E p k) := by show _ = _; rw [extK_succ, HI.out, Bool.true_and]
      have HEB : Hid (keepsB m E p k = false → extB m E p = false) := fun h => HX.out.symm.trans (extK_bad hlt h)
      have hbp := hB8 p[k]
      generalize p[k] = y at *
      have hy0 : (0 : Int) ≤ y := by omega
      have hy1 : (y : Int) < 8 := by omega
      generalize setTo2 p k = sk at *
      clear hplt HKW
      generalize B y = by' at *
      have HWI := Lib.hid (isWithin_any by' sk hbp W)
      have HWT := Lib.hid (with_any sk y hst hy8 W)
      cases hw : withinB by' sk
      · rw [hw] at HKK HWI
        have HF := Lib.hid (HEB.out HKK.out.symm)
        clear hw HWT HES HEB
        go_wp2_with fail
        refine HWI.out.mono ?_
        rintro e _ ⟨rfl, rfl⟩
        go_wp2
        go_ret
        exact ⟨by rw [HF.out]; rfl, H0.out.1⟩
      · rw [hw] at HKK HWI
        have HT : Hid (extK m E p (k + 1) = true) := HES.out.trans HKK.out.symm
        clear hw HES HEB
        go_wp2_with fail
        refine HWI.out.mono ?_
        rintro e _ ⟨rfl, rfl⟩
        go_wp2_with fail
        refine HWT.out.mono ?_
        rintro e _ ⟨rfl, rfl⟩
        go_wp2
        go_round
        case rel => exact ⟨k + 1, by omega, by go_num, by rw [HS.out], HT.out⟩
        case measure => simp [intOf]; omega
    · obtain rfl : k = p.length := by omega
      go_wp2
      go_ret
      exact ⟨by rw [← HX.out, HI.out]; rfl, H0.out.1⟩
section
variable (A C : Option Addr) (c d : Nat) (n : Int) (E : List Pr) (o : List Int) (w : World) (hr : Row w A (pc E)) (hq : Row w C (ic o)) (hl : E.length ≤ 10000000) (hm : o.length ≤ 10000000)
include hr hq hl hm
set_option maxRecDepth 100000 in
set_option maxHeartbeats 1000000 in
theorem spec_IsExtension : Calls Tryd.prog 22 #[.int .i64 n, .slice A E.length c, .slice C o.length d] w (RetBB w (isExtR n E o)) := by
  have HRR : Hid (isExtR n E o = if precB n E && ordB n o then (extB n.toNat E (natsOf o), true) else (false, false)) := rfl
  have HG := Lib.hid (l4Good_any A c n E w hr hl)
  have HR := Lib.hid hr
  have HQ := Lib.hid hq
  clear hr hq
  go_enter Tryd.func22, Tryd.ntmps22
  go_wp2_with fail
  refine HG.out.mono ?_
  rintro e w1 ⟨rfl, hb1⟩
  have HB := Lib.hid hb1
  have HO := Lib.hid (l2Order_any n C d o w1 (HQ.out.below hb1) (by omega))
  clear hb1 HG
  cases hp : precB n E
  · rw [hp] at HRR
    clear hp
    go_wp2
    go_ret2
    exact ⟨by rw [HRR.out]; rfl, HB.out⟩
  · cases ho : ordB n o
    · rw [hp, ho] at HRR
      rw [ho] at HO
      clear hp ho
      go_wp2_with fail
      refine HO.out.mono ?_
      rintro e _ ⟨rfl, rfl⟩
      go_wp2
      go_ret2
      exact ⟨by rw [HRR.out]; rfl, HB.out⟩
    · rw [hp, ho] at HRR
      rw [ho] at HO
      obtain ⟨m, rfl, hm8, hE⟩ := prec_nat hp
      obtain ⟨p, rfl, hpm, hpl, _⟩ := ord_nat ho
      have hirr : irrB m E m = true := by
        rw [← precB_good (by unfold precB at hp; rw [Bool.and_eq_true] at hp; exact hp.1), hp]
      have hin : InE m E := by
        unfold precB at hp; rw [Bool.and_eq_true] at hp
        have := pairs_in hp.1; rwa [Int.toNat_natCast] at this
      have hpl2 : (p.map Int.ofNat).length = p.length := List.length_map ..
      rw [hpl2] at HO ⊢
      have HXE := Lib.hid (l4Extends_any A C c d m E p w1 (HR.out.below HB.out) (HQ.out.below HB.out) hl hE (by omega))
      rw [ext_same hin hirr hpm hE] at HXE
      rw [show natsOf (p.map Int.ofNat) = p from natsOf_natI p, Int.toNat_natCast] at HRR
      clear hp ho hE hpm hpl hirr hin HR HQ hm
      go_wp2_with fail
      refine HO.out.mono ?_
      rintro e _ ⟨rfl, rfl⟩
      go_wp2_with fail
      refine HXE.out.mono ?_
      rintro e w2 ⟨rfl, q, rfl⟩
      go_wp2
      go_ret2
      exact ⟨by rw [HRR.out]; rfl, below_drewN HB.out _⟩
set_option maxRecDepth 100000 in
set_option maxHeartbeats 1000000 in
theorem impl_IsExtension (hT : TzTab w) : Calls Tryd.prog 24 #[.int .i64 n, .slice A E.length c, .slice C o.length d] w (RetBB w (isExtR n E o)) := by
  have HRR : Hid (isExtR n E o = if precB n E && ordB n o then (extB n.toNat E (natsOf o), true) else (false, false)) := rfl
  have H := Lib.hid (precedenceOf_any A c n E w hr hl hT)
  have HQ := Lib.hid hq
  clear hr hq
  go_enter Tryd.func24, Tryd.ntmps24
  go_wp2_with fail
  refine H.out.mono ?_
  rintro e w1 ⟨hb, ⟨hp, m, rfl, hm8, _, _, rfl⟩ | ⟨hp, rfl⟩⟩
  · rw [hp, Bool.true_and] at HRR
    have HB := Lib.hid (hb.alloc hb.size (.cells (precC (m : Int) (befN m (tabB m E))) 62))
    have HO := Lib.hid (IsOrder_any (m : Int) C d o _ (HQ.out.below HB.out) (by omega))
    have hBk := BlockIs.new w1 62 (precC (m : Int) (befN m (tabB m E)))
    have HBK := Lib.hid hBk
    clear hp hb hBk
    unfold precC
    unfold precC at HB HO HBK
    cases ho : ordB m o
    · rw [ho] at HRR HO
      clear ho
      go_wp2_with fail
      refine HO.out.mono ?_
      rintro e w2 ⟨rfl, hb2⟩
      have HB2 := Lib.hid (HB.out.trans (hb2.mono HB.out.size))
      clear hb2
      go_wp2
      go_ret2
      exact ⟨by rw [HRR.out]; rfl, HB2.out⟩
    · rw [ho, Int.toNat_natCast] at HRR
      rw [ho] at HO
      obtain ⟨p, rfl, hpm, hpl, _⟩ := ord_nat ho
      have hpl2 : (p.map Int.ofNat).length = p.length := List.length_map ..
      rw [hpl2] at HO ⊢
      rw [show natsOf (p.map Int.ofNat) = p from natsOf_natI p] at HRR
      have HPM := Lib.hid hpm
      clear ho hpm hpl hm
      go_wp2_with fail
      refine HO.out.mono ?_
      rintro e w2 ⟨rfl, hb2⟩
      have HB2 := Lib.hid (HB.out.trans (hb2.mono HB.out.size))
      have hBk := HBK.out.below hb2
      have HIE := Lib.hid (isExtension_any C d m hm8 E p w2 (HQ.out.below HB2.out) HPM.out)
      have c0 := hBk.cell 0
      have c1 := hBk.cell 1
      have c2 := hBk.cell 2
      have c3 := hBk.cell 3
      have c4 := hBk.cell 4
      have c5 := hBk.cell 5
      have c6 := hBk.cell 6
      have c7 := hBk.cell 7
      have c8 := hBk.cell 8
      simp only [List.getElem?_toArray, List.getElem?_cons_zero, List.getElem?_cons_succ] at c0 c1 c2 c3 c4 c5 c6 c7 c8
      clear hb2 hBk
      go_wp2_with fail
      refine HIE.out.mono ?_
      rintro e w3 ⟨rfl, hb3⟩
      have HB3 := Lib.hid (HB2.out.trans (hb3.mono HB2.out.size))
      clear hb3 c0 c1 c2 c3 c4 c5 c6 c7 c8
      go_wp2
      go_ret2
      exact ⟨by rw [HRR.out]; rfl, HB3.out⟩
  · rw [hp] at HRR
    have HB := Lib.hid hb
    clear hp hb
    unfold precZ
    go_wp2
    go_ret2
    exact ⟨by rw [HRR.out]; rfl, HB.out.alloc HB.out.size _⟩
end
end Go.Proofs.YtapbgmmkkngdoaaDoor

namespace Go.Proofs.YtapbgmmkkngdoaaDoor
open Go.RowKit Go.ChangeShapes Go.WideShapes Go.Deep

section
variable {H : Type} {enc : TypeId × Value → H} {P : Program} {w : World} {base : Nat} {spare : Nat → Bool} {held : Bool}
theorem open_slice_array2 {t e k : TypeId} {fuel : Nat} {cs : List Value} {x : DataW H × List MemPlace} (ht : P.underlying t = some (.slice e)) (he : P.underlying e = some (.array 2 k))
    (hC : P.cellsOf e = 2) (hk : P.cellsOf k = 1) (h : DataW.trod enc P w base spare held fuel t cs = some x) :
    (cs = [.slice none 0 0]) ∨
    ∃ (a : Addr) (len cap m : Nat), cs = [.slice (some a) len cap] ∧ len ≤ cap ∧ cap ≤ maxLen ∧ len ≤ m ∧
      ∀ i, i < m → ∃ n : Nat, ∀ (j : Nat), j < 2 → ∃ (v : Value) (y : DataW H × List MemPlace), w.cell? (a.add (i * 2 + j)) = some v ∧ DataW.trod enc P w base spare held n k [v] = some y := by
  rcases open_slice ht h with ⟨h0, _⟩ | ⟨a, len, cap, m, n, D, Pl, hcs, hb, hl, hm, hmm, hx, hi⟩
  · exact .inl h0
  · refine .inr ⟨a, len, cap, m, hcs, hl, hm, by rw [hmm]; split <;> omega, fun i him => ?_⟩
    obtain ⟨cs', hc, ht'⟩ := hi i him
    rw [hC] at hc
    obtain ⟨ys, n', hn', hy, hlen, hyl, hf⟩ := DataW.trod_array he ht'
    obtain ⟨_, hcl, hat⟩ := World.cells?_some hc
    refine ⟨n', fun j hj => ?_⟩
    have hcell := hat j hj
    have hv : cs'[j]? = some (cs'[j]'(by omega)) := List.getElem?_eq_getElem (by omega)
    have h1 := hf j hj
    rw [hk, Nat.mul_one] at h1
    have hone' : (cs'.drop j).take 1 = [cs'[j]'(by omega)] := by
      rw [List.drop_eq_getElem_cons (by omega)]
      rfl
    rw [hone'] at h1
    have hys : ys[j]? = some (ys[j]'(by omega)) := List.getElem?_eq_getElem (by omega)
    refine ⟨_, _, ?_, h1.trans hys⟩
    rw [← Go.Deep.add_add, hcell, hv]
def wfPr (x : Pr) : Prop := (Lit.int .i64 x.1).wf = true ∧ (Lit.int .i64 x.2).wf = true
/-- A slice of pairs that came in. -/
def IsPairsA (w : World) (A : Option Addr) (len cap : Nat) (xs : List Pr) : Prop := xs.length = len ∧ len ≤ cap ∧ cap ≤ maxLen ∧ Row w A (pc xs) ∧ ∀ x ∈ xs, wfPr x
theorem pc_range (f : Nat → Pr) (n : Nat) (u : Value) (i : Nat) (h : (pc ((List.range n).map f))[i]? = some u) : i < n * 2 ∧ (cellsP (f (i / 2)))[i % 2]? = some u := by
  have hi : i < 2 * n := by
    have := (List.getElem?_eq_some_iff.1 h).1
    rw [pc_len] at this; simpa using this
  have hk : i / 2 < ((List.range n).map f).length := by simp; omega
  have := pc_get ((List.range n).map f) (i / 2) (i % 2) hk (by omega)
  rw [show i / 2 * 2 + i % 2 = i by omega, h] at this
  refine ⟨by omega, ?_⟩
  rw [this]
  simp
theorem open_pairs {t e k : TypeId} {fuel : Nat} {cs : List Value} {x : DataW H × List MemPlace} (ht : P.underlying t = some (.slice e)) (he : P.underlying e = some (.array 2 k))
    (hC : P.cellsOf e = 2) (hk : P.cellsOf k = 1) (i0 : P.underlying k = some (.int .i64))
    (h : DataW.trod enc P w base spare held fuel t cs = some x) : ∃ A len cap js, cs = [.slice A len cap] ∧ IsPairsA w A len cap js := by
  rcases open_slice_array2 ht he hC hk h with rfl | ⟨a, len, cap, m, rfl, hl, hm, hlm, hi⟩
  · exact ⟨none, 0, 0, [], rfl, rfl, Nat.le_refl _, Nat.zero_le _, Row.nil _, by simp⟩
  · have key : ∀ i : Nat, ∃ j : Pr, i < m → (w.cell? (a.add (i * 2 + 0)) = some (.int .i64 j.1) ∧ w.cell? (a.add (i * 2 + 1)) = some (.int .i64 j.2)) ∧ wfPr j := by
      intro i
      by_cases him : i < m
      · obtain ⟨n, hf⟩ := hi i him
        obtain ⟨v0, y0, c0, t0⟩ := hf 0 (by omega)
        obtain ⟨v1, y1, c1, t1⟩ := hf 1 (by omega)
        obtain ⟨n0, e0, _, w0⟩ := DataW.trod_int i0 t0
        obtain ⟨n1, e1, _, w1⟩ := DataW.trod_int i0 t1
        injection e0 with e0 _
        injection e1 with e1 _
        subst e0 e1
        exact ⟨(n0, n1), fun _ => ⟨⟨c0, c1⟩, w0, w1⟩⟩
      · exact ⟨(0, 0), fun h => absurd h him⟩
    obtain ⟨f, hf⟩ := Classical.axiomOfChoice key
    refine ⟨some a, len, cap, (List.range len).map f, rfl, by simp, hl, hm, fun hn => ?_, ?_⟩
    · rw [pc_len] at hn
      have h0 : 0 < len := by simpa using hn
      have hc0 := (hf 0 (by omega)).1.1
      have hb := lt_of_cell hc0
      rw [add_block] at hb
      refine ⟨a, rfl, hb, fun j u hu => ?_⟩
      obtain ⟨hj, hu'⟩ := pc_range f len u j hu
      obtain ⟨⟨c0, c1⟩, _⟩ := hf (j / 2) (by omega)
      have ej : a.add j = a.add (j / 2 * 2 + j % 2) := by rw [show j / 2 * 2 + j % 2 = j by omega]
      rw [ej]
      have h4 : j % 2 = 0 ∨ j % 2 = 1 := by omega
      rcases h4 with h4 | h4 <;> rw [h4] at hu' ⊢ <;> simp [cellsP] at hu' <;> subst hu' <;> assumption
    · intro j hj
      obtain ⟨i, hi, rfl⟩ := List.mem_map.1 hj
      exact (hf i (by have := List.mem_range.1 hi; omega)).2
end
theorem szIntA2S_any (A : Option Addr) (n c : Nat) (left : Int) (w : World) (hn : n ≤ maxLen) (h0 : 0 ≤ left) (h1 : left ≤ 1048576) :
    Calls Tryd.prog 11 #[.slice A n c, .int .i64 left] w fun e w' => ((e = .returned (.int .i64 (left - n)) ∧ (n : Int) ≤ left) ∨ (e = .returned (.int .i64 (-1)) ∧ left < n)) ∧ w = w' := by
  unfold maxLen at hn
  by_cases h : (n : Int) ≤ left
  · go_enter Tryd.func11, Tryd.ntmps11
    go_wp2
    go_ret
    first | exact ⟨.inl ⟨rfl, h⟩, rfl⟩ | exact ⟨.inl rfl, rfl⟩
  · go_enter Tryd.func11, Tryd.ntmps11
    go_wp2
    go_ret
    first | exact ⟨.inr ⟨rfl, by omega⟩, rfl⟩ | exact ⟨.inr rfl, rfl⟩
theorem argP_kinds : Tryd.prog.underlying 22 = some (.slice 56) ∧ Tryd.prog.underlying 56 = some (.array 2 3) ∧ Tryd.prog.cellsOf 56 = 2 ∧ Tryd.prog.cellsOf 3 = 1 :=
  ⟨Tryd.underlying22, Tryd.underlying56, by kernel_rfl, by kernel_rfl⟩
end Go.Proofs.YtapbgmmkkngdoaaDoor

namespace Go.Proofs.YtapbgmmkkngdoaaDoor
open Go.RowKit
theorem infoP2 : (Tryd.prog.info? 56).map (fun i => (i.zero, i.size, i.bytes)) = some (some (.agg #[.int .i64 0, .int .i64 0]), 2, 16) := by kernel_rfl
set_option maxRecDepth 100000 in
set_option maxHeartbeats 1000000 in
theorem toIntA2_any (x : Pr) (w : World) :
    Calls Tryd.prog 44 #[.agg #[.int .i64 x.1, .int .i64 x.2]] w fun e w' => e = .returned (.agg #[.int .i64 x.1, .int .i64 x.2]) ∧ Below w.heap.size w w' := by
  have b0 := (Below.refl w.heap.size w).alloc (Nat.le_refl _) (.cells #[.int .i64 x.1, .int .i64 x.2] 56)
  have b1 := b0.alloc b0.size (.cells #[.int .i64 0, .int .i64 0] 56)
  have b2 := b1.alloc b1.size (.cells #[.int .i64 0, .int .i64 0] 56)
  have e0 : (w.alloc (.cells #[.int .i64 x.1, .int .i64 x.2] 56)).heap.size = w.heap.size + 1 := by simp
  have e1 : ((w.alloc (.cells #[.int .i64 x.1, .int .i64 x.2] 56)).alloc (.cells #[.int .i64 0, .int .i64 0] 56)).heap.size = w.heap.size + 1 + 1 := by simp
  have h0 := ((BlockIs.new w 56 #[.int .i64 x.1, .int .i64 x.2]).below ((Below.refl _ _).alloc (Nat.le_refl _) (.cells #[.int .i64 0, .int .i64 0] 56))).below ((Below.refl _ _).alloc (Nat.le_refl _) (.cells #[.int .i64 0, .int .i64 0] 56))
  have h1 := (BlockIs.new (w.alloc (.cells #[.int .i64 x.1, .int .i64 x.2] 56)) 56 #[.int .i64 0, .int .i64 0]).below ((Below.refl _ _).alloc (Nat.le_refl _) (.cells #[.int .i64 0, .int .i64 0] 56))
  have h2 := BlockIs.new ((w.alloc (.cells #[.int .i64 x.1, .int .i64 x.2] 56)).alloc (.cells #[.int .i64 0, .int .i64 0] 56)) 56 #[.int .i64 0, .int .i64 0]
  rw [e0] at h1
  rw [e1] at h2
  have H := Lib.hid (And.intro h0 (And.intro h1 (And.intro h2 b2)))
  clear b0 b1 b2 e0 e1 h0 h1 h2
  go_enter Tryd.func44, Tryd.ntmps44
  go_wp2
  go_loopw [4] (fun i wr => ∃ (k : Nat) (u v : Int), k ≤ 2 ∧ i = .int .i64 (k : Int) ∧ Hid (1 ≤ k → u = x.1) ∧ Hid (2 ≤ k → v = x.2) ∧ BlockIs wr w.heap.size 56 #[.int .i64 x.1, .int .i64 x.2] ∧ BlockIs wr (w.heap.size + 1) 56 #[.int .i64 0, .int .i64 0] ∧ BlockIs wr (w.heap.size + 1 + 1) 56 #[.int .i64 u, .int .i64 v] ∧ Below w.heap.size w wr) (fun i _ => 2 - (intOf i).toNat)
  case atStart => exact ⟨0, 0, 0, by omega, rfl, fun h => by omega, fun h => by omega, H.out⟩
  case round =>
    obtain ⟨k, u, v, hk, rfl, hu, hv, h0, h1, h2, hb⟩ := hrel
    clear H
    have a0 := h0.cell 0
    have a1 := h0.cell 1
    have c0 := h2.cell 0
    have c1 := h2.cell 1
    have f0 := h2.frozen 0
    have f1 := h2.frozen 1
    have r0 := h1.cell 0
    have r1 := h1.cell 1
    have g0 := h1.frozen 0
    have g1 := h1.frozen 1
    simp only [List.getElem?_toArray, List.getElem?_cons_zero, List.getElem?_cons_succ] at a0 a1 c0 c1 r0 r1
    rcases (by omega : k = 0 ∨ k = 1 ∨ k = 2) with rfl | rfl | rfl
    · have H2 := Lib.hid (And.intro (h0.away (g' := w.heap.size + 1 + 1) (by omega) 0 (.int .i64 x.1)) (And.intro (h1.away (g' := w.heap.size + 1 + 1) (by omega) 0 (.int .i64 x.1)) (And.intro (h2.set 0 (.int .i64 x.1)) (hb.setCell (p := ⟨w.heap.size + 1 + 1, 0, none⟩) (by simp; omega) (.int .i64 x.1)))))
      clear h0 h1 h2 hb
      go_wp2
      go_roundw
      case rel => exact ⟨1, x.1, v, by omega, by go_num, fun _ => rfl, fun h => by omega, H2.out⟩
      case measure => simp [intOf]
    · have H2 := Lib.hid (And.intro (h0.away (g' := w.heap.size + 1 + 1) (by omega) 1 (.int .i64 x.2)) (And.intro (h1.away (g' := w.heap.size + 1 + 1) (by omega) 1 (.int .i64 x.2)) (And.intro (h2.set 1 (.int .i64 x.2)) (hb.setCell (p := ⟨w.heap.size + 1 + 1, 1, none⟩) (by simp; omega) (.int .i64 x.2)))))
      clear h0 h1 h2 hb
      go_wp2
      go_roundw
      case rel => exact ⟨2, u, x.2, by omega, by go_num, fun _ => hu.out (by omega), fun _ => rfl, H2.out⟩
      case measure => simp [intOf]
    · obtain rfl := hu.out (by omega)
      obtain rfl := hv.out (by omega)
      have H2 := Lib.hid (And.intro ((h1.set 0 (.int .i64 x.1)).set 1 (.int .i64 x.2)) ((hb.setCell (p := ⟨w.heap.size + 1, 0, none⟩) (by simp) (.int .i64 x.1)).setCell (p := ⟨w.heap.size + 1, 1, none⟩) (by simp) (.int .i64 x.2)))
      clear h0 h1 h2 hb
      go_wp2
      have hZ := H2.out.1
      generalize World.setCell _ _ _ = W at *
      have q0 := hZ.cell 0
      have q1 := hZ.cell 1
      simp at q0 q1
      exact bodyPost_ret (v := .agg #[.int .i64 x.1, .int .i64 x.2]) (by simp [results, Tryd.results44, q0, q1, go_sem]) rfl ⟨rfl, H2.out.2⟩
def set2 (cs : Array Value) (p : Nat) (x : Pr) : Array Value := (cs.setIfInBounds p (.int .i64 x.1)).setIfInBounds (p + 1) (.int .i64 x.2)
theorem set2_size (cs : Array Value) (p : Nat) (x : Pr) : (set2 cs p x).size = cs.size := by unfold set2; simp
theorem Upto.step2 {xs : List Pr} {k : Nat} {cs : Array Value} (h : Upto (pc xs) (k * 2) cs) (hk : k < xs.length) : Upto (pc xs) ((k + 1) * 2) (set2 cs (k * 2) xs[k]) := by
  have hl := pc_len xs
  have g0 : (pc xs)[k * 2]'(by omega) = .int .i64 xs[k].1 := by
    have := pc_get xs k 0 hk (by omega); rw [List.getElem?_eq_getElem (by omega)] at this; exact Option.some.inj this
  have g1 : (pc xs)[k * 2 + 1]'(by omega) = .int .i64 xs[k].2 := by
    have := pc_get xs k 1 hk (by omega); rw [List.getElem?_eq_getElem (by omega)] at this; exact Option.some.inj this
  have h1 := h.step (by omega)
  rw [g0] at h1
  have h2 := h1.step (by omega)
  rw [g1] at h2
  rw [show (k + 1) * 2 = k * 2 + 1 + 1 by omega]
  exact h2
theorem BlockIs.set2 {w : World} {g : Nat} {t : TypeId} {cs : Array Value} (h : BlockIs w g t cs) (p : Nat) (x : Pr) :
    BlockIs ((w.setCell ⟨g, p, none⟩ (.int .i64 x.1)).setCell ⟨g, p + 1, none⟩ (.int .i64 x.2)) g t (set2 cs p x) := (h.set p _).set (p + 1) _
theorem toIntA2S_any (A : Option Addr) (c : Nat) (xs : List Pr) (w : World) (hr : Row w A (pc xs)) (hn : xs.length ≤ 10000000) :
    Calls Tryd.prog 13 #[.slice A xs.length c] w fun e w' => ∃ g, e = .returned (.slice (some ⟨g, 0, none⟩) xs.length xs.length) ∧ w.heap.size ≤ g ∧ w'.ownsRow w.heap.size 56 2 (.slice (some ⟨g, 0, none⟩) xs.length xs.length) xs.length (pc xs) ∧ Below w.heap.size w w' := by
  have hmk := run_make_rows (P := Tryd.prog) 22 56 (.agg #[.int .i64 0, .int .i64 0]) 2 16 Tryd.underlying22 infoP2 .i64 .i64 xs.length (by omega) (by omega)
  go_enter Tryd.func13, Tryd.ntmps13
  go_wp2
  go_loopw [4] (fun i wr => ∃ (k : Nat) (cs : Array Value), k ≤ xs.length ∧ i = .int .i64 k ∧ BlockIs wr w.heap.size 56 cs ∧ Hid (Upto (pc xs) (k * 2) cs) ∧ Below w.heap.size w wr) (fun i _ => xs.length - (intOf i).toNat)
  case atStart =>
    exact ⟨0, _, Nat.zero_le _, rfl, BlockIs.new _ _ _, ⟨by rw [size_madeCells, pc_len]; omega, by omega⟩, (Below.refl _ _).alloc (Nat.le_refl _) _⟩
  case round =>
    obtain ⟨k, cs, hk, rfl, hB, hC, hb⟩ := hrel
    clear hmk
    by_cases hlt : k < xs.length
    · obtain ⟨ad, hA, hbl, hc0, hc1⟩ := (hr.below hb).pair hlt
      subst hA
      go_wp2_with fail
      refine (toIntA2_any xs[k] _).mono ?_
      rintro e w1 ⟨rfl, hb1⟩
      have hz : cs.size = 2 * xs.length := by rw [hC.out.1, pc_len]
      have hB1 := hB.below hb1
      obtain ⟨v0, hk0⟩ := hB1.has (i := k * 2) (by omega)
      obtain ⟨v1, hk1⟩ := hB1.has (i := k * 2 + 1) (by omega)
      have hf0 := hB1.frozen (k * 2)
      have hf1 := hB1.frozen (k * 2 + 1)
      have HC := Lib.hid (hC.out.step2 hlt)
      have HB := Lib.hid (hB1.set2 (k * 2) xs[k])
      have Hb := Lib.hid (hb.trans (hb1.mono hb.size))
      clear hz hB1 hB hC hb hb1 hr hc0 hc1
      generalize xs[k] = j at *
      go_wp2
      go_roundw
      case rel => exact ⟨k + 1, _, by omega, by go_num, HB.out, HC.out, (Hb.out.setCell (Nat.le_refl _) _).setCell (Nat.le_refl _) _⟩
      case measure => simp [intOf]; omega
    · go_wp2
      go_ret
      obtain rfl : k = xs.length := by omega
      refine ⟨_, rfl, Nat.le_refl _, ?_, hb⟩
      have hC' := hC.out
      rw [show xs.length * 2 = (pc xs).length by rw [pc_len]; omega] at hC'
      have hsz : cs.size = xs.length * 2 := by rw [hC'.1, pc_len]; omega
      have := hB.own (base := w.heap.size) (n := xs.length) (c := xs.length) (size := 2) (Nat.le_refl _) (by omega) (Nat.le_refl _) (by unfold maxLen; omega) (by omega)
      rwa [List.take_of_length_le (by simp [hsz]), hC'.all] at this
theorem toIntA2S_seg (A : Option Addr) (c : Nat) (xs : List Pr) (w : World) (hr : Row w A (pc xs)) (hn : xs.length ≤ 10000000) :
    Calls Tryd.prog 13 #[.slice A xs.length c] w fun e w' => ∃ g, e = .returned (.slice (some ⟨g, 0, none⟩) xs.length xs.length) ∧ Seg w' 56 2 w.heap.size w'.heap.size (some ⟨g, 0, none⟩) xs.length xs.length (pc xs) ∧ Below w.heap.size w w' :=
  (toIntA2S_any A c xs w hr hn).mono fun _ _ ⟨g, he, _, ho, hb⟩ => ⟨g, he, Seg.of_own ho, hb⟩
end Go.Proofs.YtapbgmmkkngdoaaDoor
