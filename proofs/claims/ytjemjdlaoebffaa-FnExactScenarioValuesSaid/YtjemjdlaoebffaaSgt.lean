/- A part of a block of one's own, whatever its type. -/
import Derived.Test.YtjemjdlaoebffaaSegH
import Derived.Test.YtjemjdlaoebffaaSchedE
namespace Go.Proofs.Ytjemjdlaoebffaa
open Go.RowKit
/-- A part of a block of one's own: n numbers from a place on. -/
def SegT (w : World) (lo hi : Nat) (A : Option Addr) (n : Nat) (cs : List Value) : Prop :=
  ∃ t g o cur, A = some ⟨g, o, none⟩ ∧ lo ≤ g ∧ g < hi ∧ hi ≤ w.heap.size ∧ BlockIs w g t cur ∧ (cur.toList.drop o).take n = cs ∧ cs.length = n
theorem segT_cell {cur : Array Value} {o n : Nat} {cs : List Value} (h : (cur.toList.drop o).take n = cs) {j : Nat} {u : Value} (hu : cs[j]? = some u) : cur[o + j]? = some u := by
  subst h
  rw [List.getElem?_take] at hu
  split at hu
  · rw [List.getElem?_drop, Array.getElem?_toList] at hu; exact hu
  · cases hu
theorem SegT.row {w : World} {lo hi : Nat} {A : Option Addr} {n : Nat} {cs : List Value} (h : SegT w lo hi A n cs) : Row w A cs := by
  obtain ⟨t, g, o, cur, rfl, h1, h2, h3, h4, h5, h6⟩ := h
  intro h0
  refine ⟨_, rfl, h4.lt, fun j u hu => ?_⟩
  have hc := segT_cell h5 hu
  unfold Addr.add
  by_cases hj : j = 0
  · subst hj; rw [if_pos rfl, h4.cell]; simpa using hc
  · rw [if_neg hj, h4.cell]; exact hc
theorem SegT.keep {w w' : World} {lo hi : Nat} {A : Option Addr} {n : Nat} {cs : List Value} {a b : Nat} (h : SegT w lo hi A n cs) (ht : Touch a b w w') (hd : hi ≤ a ∨ b ≤ lo) : SegT w' lo hi A n cs := by
  obtain ⟨t, g, o, cur, rfl, h1, h2, h3, h4, h5, h6⟩ := h
  exact ⟨t, g, o, cur, rfl, h1, h2, Nat.le_trans h3 ht.size, (ht.block g (by omega) (by omega)).trans h4, h5, h6⟩
theorem SegT.below {w w' : World} {lo hi : Nat} {A : Option Addr} {n : Nat} {cs : List Value} (h : SegT w lo hi A n cs) (hb : Below w.heap.size w w') : SegT w' lo hi A n cs :=
  h.keep (Touch.of_below hi hi hb) (.inl (Nat.le_refl _))
theorem marked_t {k n i o : Nat} {cs : Array Value} (hz : o + n ≤ cs.size) (hi : i < n) (h : ∀ j, j < i → cs[o + j]? = some (.int .i64 ((k + j : Nat) : Int))) : ∀ j, j < i + 1 → (cs.setIfInBounds (o + i) (.int .i64 ((k + i : Nat) : Int)))[o + j]? = some (.int .i64 ((k + j : Nat) : Int)) := by
  intro j hj
  rw [Array.getElem?_setIfInBounds]
  by_cases e : i = j
  · subst e; rw [if_pos rfl, if_pos (by omega)]
  · rw [if_neg (by omega)]; exact h j (by omega)
set_option maxRecDepth 100000 in
theorem markIntS_t (A : Option Addr) (c n lo hi : Nat) (k : Int) (cs0 : List Value) (w : World) (h : SegT w lo hi A n cs0) (h0 : 0 ≤ k) (h1 : k ≤ 1000000000) (hn : n ≤ 100000000) :
    Calls Try.prog 24 #[.slice A n c, .int .i64 k] w fun e w' => e = .returned (.int .i64 (k + n)) ∧ SegT w' lo hi A n (marksI k.toNat n) ∧ Touch lo hi w w' := by
  obtain ⟨k0, rfl⟩ : ∃ k0 : Nat, k = (k0 : Int) := ⟨k.toNat, by omega⟩
  rw [Int.toNat_natCast]
  obtain ⟨t, g, o, cur, rfl, hlo, hhi, hsz, hB0, hT, hL⟩ := h
  have hzc : o + n ≤ cur.size ∨ n = 0 := by
    have := congrArg List.length hT
    rw [List.length_take, List.length_drop, hL, Array.length_toList] at this
    omega
  by_cases hn0 : n = 0
  · subst hn0
    refine (markIntS_none _ c k0 w).mono ?_
    rintro e w' ⟨rfl, rfl⟩
    exact ⟨by simp, ⟨t, g, o, cur, rfl, hlo, hhi, hsz, hB0, by simp [marksI, nums, ic], by simp [marksI, nums, ic]⟩, Touch.refl _ _ _⟩
  have hz : o + n ≤ cur.size := by omega
  obtain ⟨ad, had⟩ : ∃ ad : Addr, ad = ⟨g, o, none⟩ := ⟨_, rfl⟩
  have hadd : ∀ m : Nat, ad.add m = ⟨g, o + m, none⟩ := fun m => by
    subst had
    unfold Addr.add
    by_cases hm : m = 0
    · subst hm; rfl
    · rw [if_neg hm]
  have HAD := Lib.hid hadd
  rw [← had]
  clear hadd hT hL hzc had
  go_enter Try.func24, Try.ntmps24
  go_wp2
  go_loopw [1, 5] (fun k i wr => ∃ (m : Nat) (cs : Array Value), m ≤ n ∧ i = .int .i64 (m : Int) ∧ k = .int .i64 ((k0 + m : Nat) : Int) ∧ cs.size = cur.size ∧ BlockIs wr g t cs ∧ Hid (∀ j, j < m → cs[o + j]? = some (.int .i64 ((k0 + j : Nat) : Int))) ∧ w.grownBy wr (some g)) (fun _ i _ => n - (intOf i).toNat)
  case atStart => exact ⟨0, cur, Nat.zero_le _, rfl, by go_num, rfl, hB0, (fun _ h => absurd h (by omega)), ⟨rfl, rfl, rfl, Nat.le_refl _, fun _ _ _ => rfl⟩⟩
  case round =>
    obtain ⟨m, cs, hm, rfl, rfl, hzz, hB, hM, hG⟩ := hrel
    by_cases hlt : m < n
    · have HM := Lib.hid (marked_t (by omega) hlt hM.out)
      have hi' : (m : Int) < n := by omega
      have hi0 : (0 : Int) ≤ m := by omega
      obtain ⟨v0, hv0⟩ := hB.has (i := o + m) (by omega)
      have hfz := hB.frozen (o + m)
      rw [← HAD.out m] at hv0 hfz
      have HS := Lib.hid (hB.set (o + m) (.int .i64 ((k0 + m : Nat) : Int)))
      have HG := Lib.hid (grown_setCell hG (o + m) (.int .i64 ((k0 + m : Nat) : Int)))
      have hcast : ((k0 + m : Nat) : Int) = (k0 : Int) + m := by omega
      rw [← HAD.out m, hcast] at HS HG
      have HZ2 := Lib.hid hzz
      clear hB hM hG hB0 hz hzz
      go_wp2
      go_roundw
      case rel => exact ⟨m + 1, _, by omega, by go_num, by go_num, by simpa using HZ2.out, HS.out, by rw [← hcast]; exact HM, HG.out⟩
      case measure => simp [intOf]; omega
    · obtain rfl : m = n := by omega
      have HR : Hid ((cs.toList.drop o).take m = marksI k0 m) := by
        show _ = _
        apply List.ext_getElem?
        intro j
        by_cases hj : j < m
        · rw [List.getElem?_take, if_pos hj, List.getElem?_drop, Array.getElem?_toList, hM.out j hj, List.getElem?_eq_getElem (by rw [marksI_len]; exact hj), marksI_get k0 m j hj]
        · rw [List.getElem?_eq_none (by simp; omega), List.getElem?_eq_none (by rw [marksI_len]; omega)]
      have had0 := HAD.out 0
      rw [show ad.add 0 = ad from rfl, Nat.add_zero] at had0
      have HA0 := Lib.hid had0
      clear hM had0
      go_wp2
      go_ret
      exact ⟨by first | rfl | rw [show ((k0 + m : Nat) : Int) = (k0 : Int) + m by omega], ⟨t, g, o, cs, congrArg some HA0.out, hlo, hhi, Nat.le_trans hsz hG.size, hB, HR.out, marksI_len k0 m⟩, Touch.of_grown hG hlo hhi⟩
/-- What a function hands back: a list of ints, a part of a block of its own, and a bool. -/
def RetIT (w : World) (r : List Int × Bool) (e : Ending) (w' : World) : Prop :=
  ∃ A c, e = .returned (.tuple #[.slice A r.1.length c, .bool r.2]) ∧ SegT w' w.heap.size w'.heap.size A r.1.length (ic r.1) ∧ Below w.heap.size w w'
theorem seg_t {w : World} {B n c : Nat} {A : Option Addr} {cs : List Value} (h : w.ownsRow B 3 1 (.slice A n c) n cs) (hn : 0 < n) : SegT w B w.heap.size A n cs := by
  obtain ⟨g, cur, hA, hB, hb, h1, h2, h3, h4⟩ := own_block h hn
  exact ⟨_, g, 0, cur, hA, hB, hb.lt, Nat.le_refl _, hb, by simpa using h4, by have := h.1; simpa using this⟩
theorem ret_emptyT {w w1 : World} {r : List Int × Bool} (hr : r = ([], false)) (hb : Below w.heap.size w w1) (e : Ending) (he : e = .returned (.tuple #[.slice (some ⟨w1.heap.size, 0, none⟩) 0 0, .bool false])) : RetIT w r e (w1.alloc (.cells #[] 3)) := by
  subst hr he
  exact ⟨_, 0, rfl, ⟨_, w1.heap.size, 0, #[], rfl, hb.size, by simp, Nat.le_refl _, BlockIs.new _ _ _, rfl, rfl⟩, hb.alloc hb.size _⟩
end Go.Proofs.Ytjemjdlaoebffaa
