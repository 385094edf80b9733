/- Ops in memory: the laws' helpers over slices of Ops, which are told as pairs. -/
import Derived.Test.YteidhjmnononaaaSegH
import Derived.Test.YteidhjmnononaaaPrC
namespace Go.Proofs.Yteidhjmnononaaa
open Go.RowKit

theorem toOp_any (j : Pr) (w : World) :
    Calls Try.prog 36 #[.agg #[.int .i64 j.1, .int .i64 j.2]] w fun e w' => e = .returned (.agg #[.int .i64 j.1, .int .i64 j.2]) ∧ Below w.heap.size w w' := by
  go_enter Try.func36, Try.ntmps36
  go_wp2
  exact bodyPost_ret (v := .agg #[.int .i64 j.1, .int .i64 j.2]) (by simp [results, Try.results36, go_sem]) rfl ⟨rfl, by
    repeat (first | exact Below.refl _ _ | refine Below.setCell ?_ (by simp; try omega) _ | refine Below.alloc ?_ (by simp; try omega) _)⟩
theorem infoOp : (Try.prog.info? 65).map (fun i => (i.zero, i.size, i.bytes)) = some (some (.agg #[.int .i64 0, .int .i64 0]), 2, 16) := by kernel_rfl
/-- Two cells of a block, from a place on, are set. -/
def set2 (cs : Array Value) (p : Nat) (j : Pr) : Array Value := (cs.setIfInBounds p (.int .i64 j.1)).setIfInBounds (p + 1) (.int .i64 j.2)
theorem set2_size (cs : Array Value) (p : Nat) (j : Pr) : (set2 cs p j).size = cs.size := by unfold set2; simp
theorem Upto.step2 {js : List Pr} {k : Nat} {cs : Array Value} (h : Upto (pc js) (k * 2) cs) (hk : k < js.length) : Upto (pc js) ((k + 1) * 2) (set2 cs (k * 2) js[k]) := by
  have hl := pc_len js
  have g0 : (pc js)[k * 2]'(by omega) = .int .i64 js[k].1 := by
    have := pc_get js k 0 hk (by omega); rw [List.getElem?_eq_getElem (by omega)] at this; exact Option.some.inj this
  have g1 : (pc js)[k * 2 + 1]'(by omega) = .int .i64 js[k].2 := by
    have := pc_get js k 1 hk (by omega); rw [List.getElem?_eq_getElem (by omega)] at this; exact Option.some.inj this
  have h1 := h.step (by omega)
  rw [g0] at h1
  have h2 := h1.step (by omega)
  rw [g1] at h2
  rw [show (k + 1) * 2 = k * 2 + 1 + 1 by omega]
  exact h2
theorem BlockIs.set2 {w : World} {g : Nat} {t : TypeId} {cs : Array Value} (h : BlockIs w g t cs) (p : Nat) (j : Pr) :
    BlockIs ((w.setCell ⟨g, p, none⟩ (.int .i64 j.1)).setCell ⟨g, p + 1, none⟩ (.int .i64 j.2)) g t (set2 cs p j) :=
  (h.set p _).set (p + 1) _
theorem toOpS_any (A : Option Addr) (c : Nat) (js : List Pr) (w : World) (hr : Row w A (pc js)) (hn : js.length ≤ 10000000) :
    Calls Try.prog 28 #[.slice A js.length c] w fun e w' => ∃ g, e = .returned (.slice (some ⟨g, 0, none⟩) js.length js.length) ∧ w.heap.size ≤ g ∧ w'.ownsRow w.heap.size 65 2 (.slice (some ⟨g, 0, none⟩) js.length js.length) js.length (pc js) ∧ Below w.heap.size w w' := by
  have hmk := run_make_rows (P := Try.prog) 52 65 (.agg #[.int .i64 0, .int .i64 0]) 2 16 Try.underlying52 infoOp .i64 .i64 js.length (by omega) (by omega)
  go_enter Try.func28, Try.ntmps28
  go_wp2
  go_loopw [4] (fun i wr => ∃ (k : Nat) (cs : Array Value), k ≤ js.length ∧ i = .int .i64 k ∧ BlockIs wr w.heap.size 65 cs ∧ Hid (Upto (pc js) (k * 2) cs) ∧ Below w.heap.size w wr) (fun i _ => js.length - (intOf i).toNat)
  case atStart =>
    exact ⟨0, _, Nat.zero_le _, rfl, BlockIs.new _ _ _, ⟨by rw [size_madeCells, pc_len]; omega, by omega⟩, (Below.refl _ _).alloc (Nat.le_refl _) _⟩
  case round =>
    obtain ⟨k, cs, hk, rfl, hB, hC, hb⟩ := hrel
    clear hmk
    by_cases hlt : k < js.length
    · obtain ⟨ad, hA, hbl, hc0, hc1⟩ := (hr.below hb).pair hlt
      subst hA
      go_wp2_with fail
      refine (toOp_any js[k] _).mono ?_
      rintro e w1 ⟨rfl, hb1⟩
      have hz : cs.size = 2 * js.length := by rw [hC.out.1, pc_len]
      have hB1 := hB.below hb1
      obtain ⟨v0, hk0⟩ := hB1.has (i := k * 2) (by omega)
      obtain ⟨v1, hk1⟩ := hB1.has (i := k * 2 + 1) (by omega)
      have hf0 := hB1.frozen (k * 2)
      have hf1 := hB1.frozen (k * 2 + 1)
      have HC := Lib.hid (hC.out.step2 hlt)
      have HB := Lib.hid (hB1.set2 (k * 2) js[k])
      have Hb := Lib.hid (hb.trans (hb1.mono hb.size))
      clear hz hB1 hB hC hb hb1 hr hc0 hc1
      generalize js[k] = j at *
      go_wp2
      go_roundw
      case rel => exact ⟨k + 1, _, by omega, by go_num, HB.out, HC.out, (Hb.out.setCell (Nat.le_refl _) _).setCell (Nat.le_refl _) _⟩
      case measure => simp [intOf]; omega
    · go_wp2
      go_ret
      obtain rfl : k = js.length := by omega
      refine ⟨_, rfl, Nat.le_refl _, ?_, hb⟩
      have hC' := hC.out
      rw [show js.length * 2 = (pc js).length by rw [pc_len]; omega] at hC'
      have hsz : cs.size = js.length * 2 := by rw [hC'.1, pc_len]; omega
      have := hB.own (base := w.heap.size) (n := js.length) (c := js.length) (size := 2) (Nat.le_refl _) (by omega) (Nat.le_refl _) (by unfold maxLen; omega) (by omega)
      rwa [List.take_of_length_le (by simp [hsz]), hC'.all] at this

theorem eqOp_same (j : Pr) (w : World) :
    Calls Try.prog 44 #[.agg #[.int .i64 j.1, .int .i64 j.2], .agg #[.int .i64 j.1, .int .i64 j.2]] w fun e w' => e = .returned (.bool true) ∧ Below w.heap.size w w' := by
  go_enter Try.func44, Try.ntmps44
  go_wp2
  go_ret
  exact ⟨rfl, ((Below.refl _ _).alloc (Nat.le_refl _) _).alloc (by simp) _⟩
theorem eqOpS_same (A B : Option Addr) (c d : Nat) (js : List Pr) (w : World) (hr : Row w A (pc js)) (hq : Row w B (pc js)) (hn : js.length ≤ 10000000) :
    Calls Try.prog 34 #[.slice A js.length c, .slice B js.length d] w fun e w' => e = .returned (.bool true) ∧ Below w.heap.size w w' := by
  go_enter Try.func34, Try.ntmps34
  go_wp2
  go_loopw [5] (fun i wr => ∃ k : Nat, k ≤ js.length ∧ i = .int .i64 k ∧ Below w.heap.size w wr) (fun i _ => js.length - (intOf i).toNat)
  case atStart => exact ⟨0, Nat.zero_le _, rfl, Below.refl _ _⟩
  case round =>
    obtain ⟨k, hk, rfl, hb⟩ := hrel
    by_cases hlt : k < js.length
    · obtain ⟨a, hA, _, hc0, hc1⟩ := (hr.below hb).pair hlt
      obtain ⟨b, hB, _, hd0, hd1⟩ := (hq.below hb).pair hlt
      subst hA hB
      have HB := Lib.hid hb
      clear hr hq hb
      generalize js[k] = j at *
      have hi : (0 : Int) ≤ k := by omega
      have hi' : (k : Int) < js.length := by omega
      go_wp2
      go_region_with (go_at_call 44; refine (eqOp_same j _).mono ?_; rintro e w1 ⟨rfl, hb1⟩)
      all_goals
        go_wp2
        go_roundw
        case rel => exact ⟨k + 1, by omega, by go_num, HB.out.trans ((⟨hb1.os, hb1.tape, hb1.output, hb1.size, hb1.block⟩ : Below wr.heap.size wr w1).mono HB.out.size)⟩
        case measure => simp [intOf]; omega
    · go_wp2
      go_ret
      exact ⟨rfl, hb⟩
def numOp (k : Nat) : Pr := ((k : Int), (k : Int) + 1)
def numsOp (k n : Nat) : List Pr := (List.range n).map fun i => numOp (k + 2 * i)
theorem numsOp_len (k n : Nat) : (numsOp k n).length = n := by unfold numsOp; simp
theorem numsOp_get (k n i : Nat) (h : i < n) : (numsOp k n)[i]'(by rw [numsOp_len]; exact h) = numOp (k + 2 * i) := by unfold numsOp; simp
theorem PreC.step2 {js : List Pr} {k : Nat} {cs : Array Value} (h : PreC (pc js) (k * 2) cs) (hk : k < js.length) : PreC (pc js) ((k + 1) * 2) (set2 cs (k * 2) js[k]) := by
  have hl := pc_len js
  have g0 : (pc js)[k * 2]'(by omega) = .int .i64 js[k].1 := by
    have := pc_get js k 0 hk (by omega); rw [List.getElem?_eq_getElem (by omega)] at this; exact Option.some.inj this
  have g1 : (pc js)[k * 2 + 1]'(by omega) = .int .i64 js[k].2 := by
    have := pc_get js k 1 hk (by omega); rw [List.getElem?_eq_getElem (by omega)] at this; exact Option.some.inj this
  have h1 := h.step (by omega)
  rw [g0] at h1
  have h2 := h1.step (by omega)
  rw [g1] at h2
  rw [show (k + 1) * 2 = k * 2 + 1 + 1 by omega]
  exact h2
theorem toOpS_seg (A : Option Addr) (c : Nat) (js : List Pr) (w : World) (hr : Row w A (pc js)) (hn : js.length ≤ 10000000) :
    Calls Try.prog 28 #[.slice A js.length c] w fun e w' => ∃ g, e = .returned (.slice (some ⟨g, 0, none⟩) js.length js.length) ∧ Seg w' 65 2 w.heap.size w'.heap.size (some ⟨g, 0, none⟩) js.length js.length (pc js) ∧ Below w.heap.size w w' :=
  (toOpS_any A c js w hr hn).mono fun _ _ ⟨g, he, _, ho, hb⟩ => ⟨g, he, Seg.of_own ho, hb⟩
end Go.Proofs.Yteidhjmnononaaa
