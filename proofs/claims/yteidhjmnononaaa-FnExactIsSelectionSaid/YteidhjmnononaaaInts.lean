/- The laws' helpers over slices of ints: copy, equality, marks. -/
import Derived.Test.YteidhjmnononaaaMem
import Derived.Deep.RegionWith
namespace Go.Proofs.Yteidhjmnononaaa
open Go.RowKit

def ic (xs : List Int) : List Value := xs.map (Value.int .i64)
theorem ic_len (xs : List Int) : (ic xs).length = xs.length := by unfold ic; simp
theorem ic_get (xs : List Int) (k : Nat) (h : k < xs.length) : (ic xs)[k]'(by rw [ic_len]; exact h) = .int .i64 xs[k] := by unfold ic; simp
theorem infoI : (Try.prog.info? 3).map (fun i => (i.zero, i.size, i.bytes)) = some (some (.int .i64 0), 1, 8) := by kernel_rfl
theorem Row.int {w : World} {A : Option Addr} {xs : List Int} (h : Row w A (ic xs)) {k : Nat} (hk : k < xs.length) : ∃ ad, A = some ad ∧ w.cell? (ad.add k) = some (.int .i64 xs[k]) := by
  obtain ⟨ad, hA, hc⟩ := h.at_ (k := k) (by rw [ic_len]; exact hk)
  exact ⟨ad, hA, by rw [hc, ic_get]⟩
/-- The first k cells are those of a list. -/
def Upto (cs0 : List Value) (k : Nat) (cs : Array Value) : Prop := cs.size = cs0.length ∧ ∀ j, j < k → cs[j]? = cs0[j]?
theorem Upto.step {cs0 : List Value} {k : Nat} {cs : Array Value} (h : Upto cs0 k cs) (hk : k < cs0.length) : Upto cs0 (k + 1) (cs.setIfInBounds k cs0[k]) := by
  refine ⟨by simpa using h.1, fun j hj => ?_⟩
  rw [Array.getElem?_setIfInBounds]
  by_cases e : k = j
  · subst e; rw [if_pos rfl, if_pos (by rw [h.1]; exact hk), List.getElem?_eq_getElem hk]
  · rw [if_neg e]; exact h.2 j (by omega)
theorem Upto.all {cs0 : List Value} {cs : Array Value} (h : Upto cs0 cs0.length cs) : cs.toList = cs0 := by
  apply List.ext_getElem?
  intro j
  by_cases hj : j < cs0.length
  · rw [Array.getElem?_toList, h.2 j hj]
  · rw [List.getElem?_eq_none (by simp [h.1]; omega), List.getElem?_eq_none (by omega)]
theorem grown_setCell {w w' : World} {g : Nat} (h : w.grownBy w' (some g)) (i : Nat) (v : Value) : w.grownBy (w'.setCell ⟨g, i, none⟩ v) (some g) :=
  ⟨h.os, h.tape, h.output, by simpa [World.setCell] using h.size, fun k hk hne => (Below.heap_setCell _ _ _ _ (by rintro rfl; exact hne rfl)).trans (h.block k hk hne)⟩
theorem grown_then_below {w w1 w2 : World} {r : Option Nat} (h : w.grownBy w1 r) (hb : Below w1.heap.size w1 w2) : w.grownBy w2 r :=
  ⟨hb.os.trans h.os, hb.tape.trans h.tape, hb.output.trans h.output, Nat.le_trans h.size hb.size, fun k hk hne => (hb.block k (Nat.lt_of_lt_of_le hk h.size)).trans (h.block k hk hne)⟩

theorem toIntS_any (A : Option Addr) (c : Nat) (xs : List Int) (w : World) (hr : Row w A (ic xs)) (hn : xs.length ≤ 100000000) :
    Calls Try.prog 17 #[.slice A xs.length c] w fun e w' => ∃ g, e = .returned (.slice (some ⟨g, 0, none⟩) xs.length xs.length) ∧ w.heap.size ≤ g ∧ w'.ownsRow w.heap.size 3 1 (.slice (some ⟨g, 0, none⟩) xs.length xs.length) xs.length (ic xs) ∧ Below w.heap.size w w' := by
  have hmk := run_make_row' (P := Try.prog) 40 3 (.int .i64 0) 8 Try.underlying40 infoI rfl .i64 .i64 xs.length (by omega) (by omega)
  go_enter Try.func17, Try.ntmps17
  go_wp2
  go_loopw [4] (fun i wr => ∃ (k : Nat) (cs : Array Value), k ≤ xs.length ∧ i = .int .i64 k ∧ BlockIs wr w.heap.size 3 cs ∧ Hid (Upto (ic xs) k cs) ∧ Below w.heap.size w wr) (fun i _ => xs.length - (intOf i).toNat)
  case atStart =>
    exact ⟨0, _, Nat.zero_le _, rfl, BlockIs.new _ _ _, ⟨by rw [size_madeCells, ic_len], by omega⟩, (Below.refl _ _).alloc (Nat.le_refl _) _⟩
  case round =>
    obtain ⟨k, cs, hk, rfl, hB, hC, hb⟩ := hrel
    clear hmk
    by_cases hlt : k < xs.length
    · obtain ⟨ad, hA, hc⟩ := (hr.below hb).int hlt
      subst hA
      obtain ⟨v0, hv0⟩ : ∃ v, cs[k]? = some v := ⟨_, Array.getElem?_eq_getElem (by have := hC.out.1; rw [ic_len] at this; omega)⟩
      have hck : wr.cell? ⟨w.heap.size, k, none⟩ = some v0 := by rw [hB.cell, hv0]
      have hfz := hB.frozen k
      have HC := Lib.hid (hC.out.step (by rw [ic_len]; exact hlt))
      rw [ic_get xs k hlt] at HC
      have HB := Lib.hid (hB.set k (.int .i64 xs[k]))
      clear hv0 hB hC hr
      generalize xs[k] = s at *
      go_wp2
      go_roundw
      case rel => exact ⟨k + 1, _, by omega, by go_num, HB.out, HC.out, hb.setCell (Nat.le_refl _) _⟩
      case measure => simp [intOf]; omega
    · go_wp2
      go_ret
      obtain rfl : k = xs.length := by omega
      refine ⟨_, rfl, Nat.le_refl _, ?_, hb⟩
      have hC' := hC.out
      rw [← ic_len] at hC'
      have hsz : cs.size = xs.length := by rw [hC'.1, ic_len]
      have := hB.own (base := w.heap.size) (n := xs.length) (c := xs.length) (size := 1) (Nat.le_refl _) (by omega) (Nat.le_refl _) (by unfold maxLen; omega) (by omega)
      rwa [List.take_of_length_le (by simp [hsz]), hC'.all] at this

theorem eqIntS_same (A B : Option Addr) (c d : Nat) (xs : List Int) (w : World) (hr : Row w A (ic xs)) (hq : Row w B (ic xs)) (hn : xs.length ≤ 100000000) :
    Calls Try.prog 21 #[.slice A xs.length c, .slice B xs.length d] w fun e w' => e = .returned (.bool true) ∧ ∃ m, w' = w.drewN m := by
  go_enter Try.func21, Try.ntmps21
  go_wp2
  go_loopw [5] (fun i wr => ∃ (k m : Nat), k ≤ xs.length ∧ i = .int .i64 k ∧ wr = w.drewN m) (fun i _ => xs.length - (intOf i).toNat)
  case atStart => exact ⟨0, 0, Nat.zero_le _, rfl, rfl⟩
  case round =>
    obtain ⟨k, m, hk, rfl, rfl⟩ := hrel
    by_cases hlt : k < xs.length
    · obtain ⟨a, hA, hc⟩ := hr.int hlt
      obtain ⟨b, hB, hd⟩ := hq.int hlt
      subst hA hB
      clear hr hq
      generalize xs[k] = s at *
      have hc' : (w.drewN m).cell? (a.add k) = some (.int .i64 s) := hc
      have hd' : (w.drewN m).cell? (b.add k) = some (.int .i64 s) := hd
      have hi : (0 : Int) ≤ k := by omega
      have hi' : (k : Int) < xs.length := by omega
      go_wp2
      go_quiet (fail)
      go_wp2
      go_roundw
      case rel => exact ⟨k + 1, _, by omega, by go_num, rfl⟩
      case measure => simp [intOf]; omega
    · go_wp2
      go_ret
      exact ⟨rfl, m, rfl⟩

/-- The numbers from k on. -/
def nums (k n : Nat) : List Int := (List.range n).map fun i => ((k + i : Nat) : Int)
theorem nums_len (k n : Nat) : (nums k n).length = n := by unfold nums; simp
theorem nums_get (k n i : Nat) (h : i < n) : (nums k n)[i]'(by rw [nums_len]; exact h) = ((k + i : Nat) : Int) := by unfold nums; simp
def marksI (k n : Nat) : List Value := ic (nums k n)
theorem marksI_len (k n : Nat) : (marksI k n).length = n := by unfold marksI; rw [ic_len, nums_len]
theorem marksI_get (k n i : Nat) (h : i < n) : (marksI k n)[i]'(by rw [marksI_len]; exact h) = .int .i64 ((k + i : Nat) : Int) := by
  unfold marksI; rw [ic_get _ _ (by rw [nums_len]; exact h), nums_get k n i h]
/-- What marking has done when i cells are through. -/
def MarkedI (k n i : Nat) (cs : Array Value) : Prop := n ≤ cs.size ∧ ∀ j, j < i → cs[j]? = some (.int .i64 ((k + j : Nat) : Int))
theorem MarkedI.step {k n i : Nat} {cs : Array Value} (h : MarkedI k n i cs) (hi : i < n) : MarkedI k n (i + 1) (cs.setIfInBounds i (.int .i64 ((k + i : Nat) : Int))) := by
  refine ⟨by simpa using h.1, fun j hj => ?_⟩
  rw [Array.getElem?_setIfInBounds]
  by_cases e : i = j
  · subst e; rw [if_pos rfl, if_pos (by have := h.1; omega)]
  · rw [if_neg e]; exact h.2 j (by omega)
theorem MarkedI.all {k n : Nat} {cs : Array Value} (h : MarkedI k n n cs) : cs.toList.take n = marksI k n := by
  apply List.ext_getElem?
  intro j
  by_cases hj : j < n
  · rw [List.getElem?_take, if_pos hj, Array.getElem?_toList, h.2 j hj, List.getElem?_eq_getElem (by rw [marksI_len]; exact hj), marksI_get k n j hj]
  · rw [List.getElem?_eq_none (by simp; omega), List.getElem?_eq_none (by rw [marksI_len]; omega)]

end Go.Proofs.Yteidhjmnononaaa
