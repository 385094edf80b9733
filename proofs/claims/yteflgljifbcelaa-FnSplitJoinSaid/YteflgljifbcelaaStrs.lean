/- The law's helpers over slices of strings: size, copy, equality. -/
import Derived.Test.YteflgljifbcelaaMem
namespace Go.Proofs.Yteflgljifbcelaa
open Go.RowKit

def lenSum (xs : List ByteArray) : Nat := (xs.map ByteArray.size).sum
theorem lenSum_take (xs : List ByteArray) (k : Nat) (hk : k < xs.length) : lenSum (xs.take (k + 1)) = lenSum (xs.take k) + xs[k].size := by
  unfold lenSum
  rw [List.take_succ_eq_append_getElem hk, List.map_append, List.sum_append]
  simp
theorem lenSum_take_le : ∀ (xs : List ByteArray) (k : Nat), lenSum (xs.take k) ≤ lenSum xs
  | [], _ => by simp [lenSum]
  | x :: xs, 0 => by simp [lenSum]
  | x :: xs, k + 1 => by
    have := lenSum_take_le xs k
    unfold lenSum at *
    simp only [List.take_succ_cons, List.map_cons, List.sum_cons]
    omega

theorem szStringS_any (A : Option Addr) (c : Nat) (xs : List ByteArray) (L : Int) (w : World) (hr : Row w A (xs.map Value.string)) (hn : xs.length ≤ maxLen) (hs : ∀ s ∈ xs, s.size ≤ maxLen) (h0 : 0 ≤ L) (hL : L ≤ 1000000000) :
    Calls Try.prog 21 #[.slice A xs.length c, .int .i64 L] w fun e w' => ((∃ r : Int, e = .returned (.int .i64 r) ∧ 0 ≤ r ∧ (xs.length : Int) + lenSum xs + r = L) ∨ (e = .returned (.int .i64 (-1)))) ∧ w = w' := by
  unfold maxLen at hn
  by_cases h1 : (xs.length : Int) ≤ L
  · go_enter Try.func21, Try.ntmps21
    go_wp2
    go_loop [1, 5] (fun l i => ∃ (k : Nat) (r : Int), k ≤ xs.length ∧ i = .int .i64 k ∧ l = .int .i64 r ∧ 0 ≤ r ∧ r ≤ 1000000000 ∧ Hid ((xs.length : Int) + lenSum (xs.take k) + r = L)) (fun _ i => xs.length - (intOf i).toNat)
    case atStart => exact ⟨0, _, Nat.zero_le _, rfl, rfl, by omega, by omega, by show _ = L; simp [lenSum]; omega⟩
    case round =>
      obtain ⟨k, r, hk, rfl, rfl, hr0, hr1, hR⟩ := hrel
      by_cases hlt : k < xs.length
      · obtain ⟨ad, rfl, hc⟩ := hr.at_ (k := k) (by simpa using hlt)
        rw [List.getElem_map] at hc
        have hsz := hs xs[k] (List.getElem_mem hlt)
        unfold maxLen at hsz
        have HS := Lib.hid (lenSum_take xs k hlt)
        generalize xs[k] = s at *
        by_cases hge : (s.size : Int) ≤ r
        · go_wp2
          go_round
          case rel => exact ⟨k + 1, _, by omega, by go_num, rfl, by omega, by omega, by have := HS.out; have := hR.out; show _ = L; omega⟩
          case measure => simp [intOf]; omega
        · go_wp2
          go_ret
          exact ⟨.inr rfl, rfl⟩
      · go_wp2
        go_ret
        obtain rfl : k = xs.length := by omega
        have h2 := hR.out
        rw [List.take_of_length_le (Nat.le_refl _)] at h2
        exact ⟨.inl ⟨r, rfl, hr0, h2⟩, rfl⟩
  · go_enter Try.func21, Try.ntmps21
    go_wp2
    go_ret
    exact ⟨.inr rfl, rfl⟩

theorem infoS : (Try.prog.info? 9).map (fun i => (i.zero, i.size, i.bytes)) = some (some (.string ⟨#[]⟩), 1, 16) := by kernel_rfl
/-- The copy that has come so far. -/
def CopyS (xs : List ByteArray) (k : Nat) (cs : Array Value) : Prop := cs.size = xs.length ∧ ∀ j, j < k → cs[j]? = (xs[j]?).map Value.string
theorem CopyS.step {xs : List ByteArray} {k : Nat} {cs : Array Value} (h : CopyS xs k cs) (hk : k < xs.length) : CopyS xs (k + 1) (cs.setIfInBounds k (.string xs[k])) := by
  refine ⟨by simpa using h.1, fun j hj => ?_⟩
  rw [Array.getElem?_setIfInBounds]
  by_cases e : k = j
  · subst e; rw [if_pos rfl, if_pos (by rw [h.1]; exact hk), List.getElem?_eq_getElem hk]; rfl
  · rw [if_neg e]; exact h.2 j (by omega)
theorem CopyS.all {xs : List ByteArray} {cs : Array Value} (h : CopyS xs xs.length cs) : cs.toList = xs.map Value.string := by
  apply List.ext_getElem?
  intro j
  by_cases hj : j < xs.length
  · rw [Array.getElem?_toList, h.2 j hj, List.getElem?_map]
  · rw [List.getElem?_eq_none (by simp [h.1]; omega), List.getElem?_eq_none (by simp; omega)]

theorem toStringS_any (A : Option Addr) (c : Nat) (xs : List ByteArray) (w : World) (hr : Row w A (xs.map Value.string)) (hn : xs.length ≤ 100000000) :
    Calls Try.prog 22 #[.slice A xs.length c] w fun e w' => ∃ g, e = .returned (.slice (some ⟨g, 0, none⟩) xs.length xs.length) ∧ w.heap.size ≤ g ∧ w'.ownsRow w.heap.size 9 1 (.slice (some ⟨g, 0, none⟩) xs.length xs.length) xs.length (xs.map Value.string) ∧ Below w.heap.size w w' := by
  have hmk := run_make_row' (P := Try.prog) 26 9 (.string ⟨#[]⟩) 16 Try.underlying26 infoS rfl .i64 .i64 xs.length (by omega) (by omega)
  go_enter Try.func22, Try.ntmps22
  go_wp2
  go_loopw [4] (fun i wr => ∃ (k : Nat) (cs : Array Value), k ≤ xs.length ∧ i = .int .i64 k ∧ BlockIs wr w.heap.size 9 cs ∧ Hid (CopyS xs k cs) ∧ Below w.heap.size w wr) (fun i _ => xs.length - (intOf i).toNat)
  case atStart =>
    exact ⟨0, _, Nat.zero_le _, rfl, BlockIs.new _ _ _, ⟨by rw [size_madeCells], by omega⟩, (Below.refl _ _).alloc (Nat.le_refl _) _⟩
  case round =>
    obtain ⟨k, cs, hk, rfl, hB, hC, hb⟩ := hrel
    clear hmk
    by_cases hlt : k < xs.length
    · obtain ⟨ad, hA, hc⟩ := (hr.below hb).at_ (k := k) (by simpa using hlt)
      subst hA
      rw [List.getElem_map] at hc
      obtain ⟨v0, hv0⟩ : ∃ v, cs[k]? = some v := ⟨_, Array.getElem?_eq_getElem (by have := hC.out.1; omega)⟩
      have hck : wr.cell? ⟨w.heap.size, k, none⟩ = some v0 := by rw [hB.cell, hv0]
      have hfz := hB.frozen k
      have HC := Lib.hid (hC.out.step hlt)
      have HB := Lib.hid (hB.set k (.string xs[k]))
      clear hv0 hB hC hr
      generalize xs[k] = s at *
      go_wp2
      go_roundw
      case rel => exact ⟨k + 1, _, by omega, by go_num, HB.out, HC.out, hb.setCell (Nat.le_refl _) _⟩
      case measure => simp [intOf]; omega
    · go_wp2
      go_ret
      obtain rfl : k = xs.length := by omega
      refine ⟨_, rfl, Nat.le_refl _, ?_, hb⟩
      have := hB.own (base := w.heap.size) (n := xs.length) (c := xs.length) (size := 1) (Nat.le_refl _) (by rw [hC.out.1]; omega) (Nat.le_refl _) (by unfold maxLen; omega) (by rw [hC.out.1]; omega)
      rwa [List.take_of_length_le (by simp [hC.out.1]), hC.out.all] at this

theorem eqStringS_same (A B : Option Addr) (c d : Nat) (xs : List ByteArray) (w : World) (hr : Row w A (xs.map Value.string)) (hq : Row w B (xs.map Value.string)) (hn : xs.length ≤ 100000000) :
    Calls Try.prog 18 #[.slice A xs.length c, .slice B xs.length d] w fun e w' => e = .returned (.bool true) ∧ ∃ m, w' = w.drewN m := by
  go_enter Try.func18, Try.ntmps18
  go_wp2
  go_loopw [5] (fun i wr => ∃ (k m : Nat), k ≤ xs.length ∧ i = .int .i64 k ∧ wr = w.drewN m) (fun i _ => xs.length - (intOf i).toNat)
  case atStart => exact ⟨0, 0, Nat.zero_le _, rfl, rfl⟩
  case round =>
    obtain ⟨k, m, hk, rfl, rfl⟩ := hrel
    by_cases hlt : k < xs.length
    · obtain ⟨a, hA, hc⟩ := hr.at_ (k := k) (by simpa using hlt)
      obtain ⟨b, hB, hd⟩ := hq.at_ (k := k) (by simpa using hlt)
      subst hA hB
      rw [List.getElem_map] at hc hd
      clear hr hq
      generalize xs[k] = s at *
      have hc' : (w.drewN m).cell? (a.add k) = some (.string s) := hc
      have hd' : (w.drewN m).cell? (b.add k) = some (.string s) := hd
      have hi : (0 : Int) ≤ k := by omega
      have hi' : (k : Int) < xs.length := by omega
      go_wp2
      go_quiet (fail)
      go_wp2
      go_roundw
      case rel => exact ⟨k + 1, _, by omega, by go_num, rfl⟩
      case measure => simp [intOf]; omega
    · go_wp2
      go_ret
      exact ⟨rfl, m, rfl⟩
end Go.Proofs.Yteflgljifbcelaa
