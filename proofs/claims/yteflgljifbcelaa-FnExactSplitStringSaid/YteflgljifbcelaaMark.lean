/- The law's marks: markText, and marking and holding a slice of strings. -/
import Derived.Test.YteflgljifbcelaaStrs
import Derived.Lib.ItoaNum
import Derived.Laws.IdiomStrings
import Derived.Deep.RegionWith
namespace Go.Proofs.Yteflgljifbcelaa
open Go.RowKit

def mB (k : Nat) : ByteArray := ⟨(109 :: Lib.decDigits k).toArray⟩
/-- The digits that are still to come. -/
def decZ (k : Nat) : List UInt8 := if k = 0 then [] else Lib.decDigits k
theorem decZ_step (k : Nat) (h : 0 < k) : decZ k = decZ (k / 10) ++ [UInt8.ofNat (48 + k % 10)] := by
  unfold decZ
  rw [if_neg (by omega)]
  by_cases h10 : k < 10
  · rw [if_pos (by omega), Lib.decDigits_one h10, Nat.mod_eq_of_lt h10]; rfl
  · rw [if_neg (by omega), Lib.decDigits, dif_neg h10]
theorem nDig_le : ∀ (k u : Nat), 1 ≤ k → u < 10 ^ k → Lib.nDigits u ≤ k
  | 0, _, h, _ => by omega
  | 1, u, _, h => by rw [Lib.nDigits_small (by simpa using h)]; omega
  | k + 2, u, _, h => by
    by_cases hu : u < 10
    · rw [Lib.nDigits_small hu]; omega
    · rw [Lib.nDigits_big hu]
      have := nDig_le (k + 1) (u / 10) (by omega) (by rw [Nat.pow_succ] at h; omega)
      omega
theorem dec_len (u : Nat) (h : u ≤ 1000000000) : (Lib.decDigits u).length ≤ 10 := by
  rw [Lib.decDigits_length]; exact nDig_le 10 u (by omega) (by omega)
theorem append_mk (a b : List UInt8) : (⟨a.toArray⟩ : ByteArray) ++ (⟨b.toArray⟩ : ByteArray) = ⟨(a ++ b).toArray⟩ := by
  apply ByteArray.ext; simp
theorem conv_digit (w : World) (d : Nat) (hd : d < 10) :
    (convert 22 9 (.slice (some ⟨w.heap.size, 0, none⟩) 1 1)).run Try.prog (w.alloc (.cells #[.int .u8 (48 + (d : Int))] 5)) = .ok (.string ⟨[UInt8.ofNat (48 + d)].toArray⟩) (w.alloc (.cells #[.int .u8 (48 + (d : Int))] 5)) :=
  run_convert_bytes_back (P := Try.prog) _ 22 9 5 ⟨w.heap.size, 0, none⟩ 1 [UInt8.ofNat (48 + d)] Try.underlying22 Try.underlying5 Try.underlying9 (fun j hj => by
    obtain rfl : j = 0 := by simpa using hj
    have h := (BlockIs.new w 5 #[.int .u8 (48 + (d : Int))]).cell 0
    have e : (UInt8.ofNat (48 + d)).toNat = 48 + d := by rw [UInt8.toNat_ofNat']; omega
    show World.cell? _ ⟨w.heap.size, 0, none⟩ = _
    rw [h]
    show some (Value.int .u8 (48 + (d : Int))) = some (.int .u8 ((UInt8.ofNat (48 + d)).toNat : Int))
    rw [e]
    rfl)

theorem markText_any (k0 : Nat) (w : World) (h0 : 1 ≤ k0) (h1 : k0 ≤ 1000000000) :
    Calls Try.prog 34 #[.int .i64 (k0 : Int)] w fun e w' => e = .returned (.string (mB k0)) ∧ Below w.heap.size w w' := by
  have hlen := dec_len k0 h1
  go_enter Try.func34, Try.ntmps34
  go_wp2
  go_loopw [0, 3] (fun k o wr => ∃ (m : Nat) (l : List UInt8), m ≤ k0 ∧ k = .int .i64 (m : Int) ∧ o = .string ⟨l.toArray⟩ ∧ Hid (decZ m ++ l = Lib.decDigits k0) ∧ Below w.heap.size w wr) (fun k _ _ => (intOf k).toNat)
  case atStart => exact ⟨k0, [], Nat.le_refl _, rfl, rfl, by show _ ++ [] = _; unfold decZ; rw [if_neg (by omega), List.append_nil], Below.refl _ _⟩
  case round =>
    obtain ⟨m, l, hm, rfl, rfl, hD, hB⟩ := hrel
    have hll : l.length ≤ 10 := by have := congrArg List.length hD.out; simp at this; omega
    have hsz := hB.size
    by_cases hpos : 0 < m
    · have hcv := conv_digit wr (m % 10) (by omega)
      have HD : Hid (decZ (m / 10) ++ (UInt8.ofNat (48 + m % 10) :: l) = Lib.decDigits k0) := by
        have := hD.out
        rw [decZ_step m hpos] at this
        show _ = _
        simpa using this
      have HA := Lib.hid (append_mk [UInt8.ofNat (48 + m % 10)] l)
      rw [show ((m % 10 : Nat) : Int) = (m : Int) % 10 by omega] at hcv
      generalize UInt8.ofNat (48 + m % 10) = dd at *
      clear hD
      go_wp2
      go_roundw
      case rel => exact ⟨m / 10, _, by omega, by go_num, HA.out ▸ rfl, HD.out, hB.alloc hsz _⟩
      case measure => simp [intOf]; omega
    · obtain rfl : m = 0 := by omega
      have hl : l = Lib.decDigits k0 := by have := hD.out; simpa [decZ] using this
      have HL := Lib.hid hl
      clear hD hl
      go_wp2
      go_ret
      refine ⟨?_, hB⟩
      rw [mB, ← HL.out]
      exact congrArg (fun x => Ending.returned (Value.string x)) (append_mk [109] l)

def marks (k n : Nat) : List Value := (List.range n).map fun i => Value.string (mB (k + i))
theorem marks_len (k n : Nat) : (marks k n).length = n := by unfold marks; simp
theorem marks_get (k n i : Nat) (h : i < n) : (marks k n)[i]'(by rw [marks_len]; exact h) = .string (mB (k + i)) := by unfold marks; simp

/-- What marking has done when i cells are through. -/
def Marked (k n i : Nat) (cs : Array Value) : Prop := n ≤ cs.size ∧ ∀ j, j < i → cs[j]? = some (.string (mB (k + j)))
theorem Marked.step {k n i : Nat} {cs : Array Value} (h : Marked k n i cs) (hi : i < n) : Marked k n (i + 1) (cs.setIfInBounds i (.string (mB (k + i)))) := by
  refine ⟨by simpa using h.1, fun j hj => ?_⟩
  rw [Array.getElem?_setIfInBounds]
  by_cases e : i = j
  · subst e; rw [if_pos rfl, if_pos (by have := h.1; omega)]
  · rw [if_neg e]; exact h.2 j (by omega)
theorem Marked.all {k n : Nat} {cs : Array Value} (h : Marked k n n cs) : cs.toList.take n = marks k n := by
  apply List.ext_getElem?
  intro j
  by_cases hj : j < n
  · rw [List.getElem?_take, if_pos hj, Array.getElem?_toList, h.2 j hj, List.getElem?_eq_getElem (by rw [marks_len]; exact hj), marks_get k n j hj]
  · rw [List.getElem?_eq_none (by simp; omega), List.getElem?_eq_none (by rw [marks_len]; omega)]
theorem grown_setCell {w w' : World} {g : Nat} (h : w.grownBy w' (some g)) (i : Nat) (v : Value) : w.grownBy (w'.setCell ⟨g, i, none⟩ v) (some g) :=
  ⟨h.os, h.tape, h.output, by simpa [World.setCell] using h.size, fun k hk hne => (Below.heap_setCell _ _ _ _ (by rintro rfl; exact hne rfl)).trans (h.block k hk hne)⟩
theorem grown_then_below {w w1 w2 : World} {r : Option Nat} (h : w.grownBy w1 r) (hb : Below w1.heap.size w1 w2) : w.grownBy w2 r :=
  ⟨hb.os.trans h.os, hb.tape.trans h.tape, hb.output.trans h.output, Nat.le_trans h.size hb.size, fun k hk hne => (hb.block k (Nat.lt_of_lt_of_le hk h.size)).trans (h.block k hk hne)⟩

theorem markStringS_none (A : Option Addr) (c : Nat) (k : Int) (w : World) :
    Calls Try.prog 19 #[.slice A 0 c, .int .i64 k] w fun e w' => e = .returned (.int .i64 k) ∧ w = w' := by
  go_enter Try.func19, Try.ntmps19
  go_wp2
  refine wp_loop_rounds 1 ?_
  rw [rounds_succ]
  go_wp2
  go_ret
  exact ⟨rfl, rfl⟩
theorem markStringS_some (g c n k0 : Nat) (cs0 : Array Value) (w : World) (h : BlockIs w g 9 cs0) (hn : n ≤ cs0.size) (hn1 : n ≤ 100000000) (hk0 : 1 ≤ k0) (hk1 : k0 ≤ 100000000) :
    Calls Try.prog 19 #[.slice (some ⟨g, 0, none⟩) n c, .int .i64 (k0 : Int)] w fun e w' => e = .returned (.int .i64 ((k0 + n : Nat) : Int)) ∧ (∃ cs, cs.size = cs0.size ∧ BlockIs w' g 9 cs ∧ cs.toList.take n = marks k0 n) ∧ w.grownBy w' (some g) := by
  go_enter Try.func19, Try.ntmps19
  go_wp2
  go_loopw [1, 5] (fun k i wr => ∃ (m : Nat) (cs : Array Value), m ≤ n ∧ i = .int .i64 (m : Int) ∧ k = .int .i64 ((k0 + m : Nat) : Int) ∧ cs.size = cs0.size ∧ BlockIs wr g 9 cs ∧ Hid (Marked k0 n m cs) ∧ w.grownBy wr (some g)) (fun _ i _ => n - (intOf i).toNat)
  case atStart => exact ⟨0, cs0, Nat.zero_le _, rfl, by go_num, rfl, h, ⟨hn, by omega⟩, ⟨rfl, rfl, rfl, Nat.le_refl _, fun _ _ _ => rfl⟩⟩
  case round =>
    obtain ⟨m, cs, hm, rfl, rfl, hz, hB, hM, hG⟩ := hrel
    by_cases hlt : m < n
    · have HB := Lib.hid hB
      have HM := Lib.hid (hM.out.step hlt)
      have HG := Lib.hid hG
      clear hB hM hG h
      have hi : (0 : Int) ≤ m := by omega
      have hi' : (m : Int) < n := by omega
      go_wp2_with fail
      refine (markText_any (k0 + m) _ (by omega) (by omega)).mono ?_
      rintro e w1 ⟨rfl, hb1⟩
      have HB1 := HB.out.below hb1
      obtain ⟨v0, hv0⟩ : ∃ v, cs[m]? = some v := ⟨_, Array.getElem?_eq_getElem (by omega)⟩
      have hck : w1.cell? ⟨g, m, none⟩ = some v0 := by rw [HB1.cell, hv0]
      have hfz := HB1.frozen m
      have HS := Lib.hid (HB1.set m (.string (mB (k0 + m))))
      have HG1 := Lib.hid (grown_setCell (grown_then_below HG.out hb1) m (.string (mB (k0 + m))))
      have hcast : ((k0 + m : Nat) : Int) = (k0 : Int) + m := by omega
      clear hv0 HB1 hb1 HB
      go_wp2
      go_roundw
      case rel => exact ⟨m + 1, _, by omega, by go_num, by go_num, by simpa using hz, HS.out, HM.out, HG1.out⟩
      case measure => simp [intOf]; omega
    · obtain rfl : m = n := by omega
      go_wp2
      go_ret
      exact ⟨rfl, ⟨cs, hz, hB, hM.out.all⟩, hG⟩

theorem heldStringS_same (A : Option Addr) (c n k0 : Nat) (w : World) (hr : Row w A (marks k0 n)) (hn1 : n ≤ 100000000) (hk0 : 1 ≤ k0) (hk1 : k0 ≤ 100000000) :
    Calls Try.prog 20 #[.slice A n c, .int .i64 (k0 : Int)] w fun e w' => e = .returned (.int .i64 ((k0 + n : Nat) : Int)) ∧ Below w.heap.size w w' := by
  go_enter Try.func20, Try.ntmps20
  go_wp2
  go_loopw [1, 5] (fun k i wr => ∃ m : Nat, m ≤ n ∧ i = .int .i64 (m : Int) ∧ k = .int .i64 ((k0 + m : Nat) : Int) ∧ Below w.heap.size w wr) (fun _ i _ => n - (intOf i).toNat)
  case atStart => exact ⟨0, Nat.zero_le _, rfl, by go_num, Below.refl _ _⟩
  case round =>
    obtain ⟨m, hm, rfl, rfl, hB⟩ := hrel
    by_cases hlt : m < n
    · obtain ⟨ad, hA, hc⟩ := (hr.below hB).at_ (k := m) (by rw [marks_len]; exact hlt)
      rw [marks_get k0 n m hlt] at hc
      subst hA
      have hblk : ad.block < wr.heap.size := by have := lt_of_cell hc; rwa [add_block] at this
      have hblk' : (ad.add m).block < wr.heap.size := by rw [add_block]; exact hblk
      have HB := Lib.hid hB
      have HC := Lib.hid hc
      have hi : (0 : Int) ≤ m := by omega
      have hi' : (m : Int) < n := by omega
      have H : ∀ W : World, Calls Try.prog 34 #[.int .i64 ((k0 : Int) + m)] W fun e w' => e = .returned (.string (mB (k0 + m))) ∧ Below W.heap.size W w' := fun W => by
        have := markText_any (k0 + m) W (by omega) (by omega)
        rwa [show ((k0 + m : Nat) : Int) = (k0 : Int) + m by omega] at this
      have H' := Lib.hid H
      clear H hB hr
      go_wp2_with fail
      go_region_with (go_at_call 34; refine (H'.out _).mono ?_; rintro e w1 ⟨rfl, hb1⟩; have hc1 := (hb1.cell (p := ad.add m) hblk').trans hc)
      all_goals
        go_wp2
        go_roundw
        case rel => exact ⟨m + 1, by omega, by go_num, by go_num, HB.out.trans ((⟨hb1.os, hb1.tape, hb1.output, hb1.size, hb1.block⟩ : Below wr.heap.size wr w1).mono HB.out.size)⟩
        case measure => simp [intOf]; omega
    · obtain rfl : m = n := by omega
      go_wp2
      go_ret
      exact ⟨rfl, hB⟩

theorem markStringS_own (A : Option Addr) (c n k0 B : Nat) (cs : List Value) (w : World) (h : w.ownsRow B 9 1 (.slice A n c) n cs) (hn1 : n ≤ 100000000) (hk0 : 1 ≤ k0) (hk1 : k0 ≤ 100000000) (hBw : B ≤ w.heap.size) :
    Calls Try.prog 19 #[.slice A n c, .int .i64 (k0 : Int)] w fun e w' => e = .returned (.int .i64 ((k0 + n : Nat) : Int)) ∧ w'.ownsRow B 9 1 (.slice A n c) n (marks k0 n) ∧ Below B w w' := by
  by_cases h0 : n = 0
  · subst h0
    refine (markStringS_none A c k0 w).mono ?_
    rintro e w' ⟨rfl, rfl⟩
    have hcs : cs = [] := List.eq_nil_of_length_eq_zero (by have := h.1; simpa using this)
    subst hcs
    exact ⟨rfl, h, Below.refl _ _⟩
  · obtain ⟨g, cur, rfl, hg, hB, h1, h2, h3, h4⟩ := own_block h (by omega)
    refine (markStringS_some g c n k0 cur w hB (by omega) hn1 hk0 hk1).mono ?_
    rintro e w' ⟨rfl, ⟨cs', hz, hB', hm⟩, hG⟩
    refine ⟨rfl, ?_, ⟨hG.os, hG.tape, hG.output, hG.size, fun k hk => hG.block k (by omega) (fun e => by injection e; omega)⟩⟩
    have := hB'.own (base := B) (n := n) (c := c) (size := 1) hg (by omega) h1 h2 (by omega)
    rwa [Nat.mul_one, hm] at this
end Go.Proofs.Yteflgljifbcelaa
