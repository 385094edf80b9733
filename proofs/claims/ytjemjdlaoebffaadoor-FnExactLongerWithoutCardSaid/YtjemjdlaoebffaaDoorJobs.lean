/- Jobs in memory: the laws' helpers over slices of jobs. -/
import Derived.Test.YtjemjdlaoebffaaDoorInts
import Derived.Test.YtjemjdlaoebffaaDoorJobP
namespace Go.Proofs.YtjemjdlaoebffaaDoor
open Go.RowKit

def fieldJ (j : J) : Nat → Int
  | 0 => j.t
  | 1 => j.w
  | 2 => j.r
  | _ => j.d
def cellsJ (j : J) : List Value := [.int .i64 j.t, .int .i64 j.w, .int .i64 j.r, .int .i64 j.d]
abbrev aggJ (j : J) : Value := .agg #[.int .i64 j.t, .int .i64 j.w, .int .i64 j.r, .int .i64 j.d]
def jc (js : List J) : List Value := js.flatMap cellsJ
theorem jc_len : ∀ js : List J, (jc js).length = 4 * js.length
  | [] => rfl
  | j :: js => by
    show (cellsJ j ++ jc js).length = _
    rw [List.length_append, jc_len js]; simp [cellsJ]; omega
theorem jc_get : ∀ (js : List J) (k i : Nat) (hk : k < js.length), i < 4 → (jc js)[k * 4 + i]? = (cellsJ js[k])[i]?
  | [], _, _, h, _ => by cases h
  | j :: js, 0, i, _, hi => by
    show (cellsJ j ++ jc js)[0 * 4 + i]? = _
    rw [List.getElem?_append_left (by simp [cellsJ]; omega)]
    simp
  | j :: js, k + 1, i, h, hi => by
    show (cellsJ j ++ jc js)[(k + 1) * 4 + i]? = _
    rw [List.getElem?_append_right (by simp [cellsJ]; omega)]
    rw [show (k + 1) * 4 + i - (cellsJ j).length = k * 4 + i by simp [cellsJ]; omega]
    exact jc_get js k i (by simpa using h) hi
theorem add_add (a : Addr) (i j : Nat) : (a.add i).add j = a.add (i + j) := by
  unfold Addr.add
  by_cases hi : i = 0 <;> by_cases hj : j = 0 <;> simp [hi, hj, Nat.add_assoc]
theorem Row.job {w : World} {A : Option Addr} {js : List J} (h : Row w A (jc js)) {k : Nat} (hk : k < js.length) : ∃ ad, A = some ad ∧ ad.block < w.heap.size ∧
    w.cell? (ad.add (k * 4)) = some (.int .i64 js[k].t) ∧ w.cell? ⟨(ad.add (k * 4)).block, (ad.add (k * 4)).off + 1, none⟩ = some (.int .i64 js[k].w) ∧ w.cell? ⟨(ad.add (k * 4)).block, (ad.add (k * 4)).off + 2, none⟩ = some (.int .i64 js[k].r) ∧ w.cell? ⟨(ad.add (k * 4)).block, (ad.add (k * 4)).off + 3, none⟩ = some (.int .i64 js[k].d) := by
  obtain ⟨ad, hA, hb, hc⟩ := h (by rw [jc_len]; omega)
  refine ⟨ad, hA, hb, ?_, ?_, ?_, ?_⟩
  · exact hc _ _ (jc_get js k 0 hk (by omega))
  · exact (congrArg w.cell? (add_add ad (k * 4) 1)).trans (hc _ _ (jc_get js k 1 hk (by omega)))
  · exact (congrArg w.cell? (add_add ad (k * 4) 2)).trans (hc _ _ (jc_get js k 2 hk (by omega)))
  · exact (congrArg w.cell? (add_add ad (k * 4) 3)).trans (hc _ _ (jc_get js k 3 hk (by omega)))

theorem toJob_any (j : J) (w : World) :
    Calls Tryd.prog 42 #[.agg #[.int .i64 j.t, .int .i64 j.w, .int .i64 j.r, .int .i64 j.d]] w fun e w' => e = .returned (.agg #[.int .i64 j.t, .int .i64 j.w, .int .i64 j.r, .int .i64 j.d]) ∧ Below w.heap.size w w' := by
  go_enter Tryd.func42, Tryd.ntmps42
  go_wp2
  exact bodyPost_ret (v := .agg #[.int .i64 j.t, .int .i64 j.w, .int .i64 j.r, .int .i64 j.d]) (by simp [results, Tryd.results42, go_sem]) rfl ⟨rfl, by
    repeat (first | exact Below.refl _ _ | refine Below.setCell ?_ (by simp; try omega) _ | refine Below.alloc ?_ (by simp; try omega) _)⟩
theorem infoJ : (Tryd.prog.info? 63).map (fun i => (i.zero, i.size, i.bytes)) = some (some (.agg #[.int .i64 0, .int .i64 0, .int .i64 0, .int .i64 0]), 4, 32) := by kernel_rfl
/-- 'make([]T, n)', T of any number of cells. -/
theorem run_make_rows {P : Program} (t e : TypeId) (z : Value) (s bytes : Nat) (ht : P.underlying t = some (.slice e)) (hinfo : (P.info? e).map (fun i => (i.zero, i.size, i.bytes)) = some (some z, s, bytes))
    (kl kc : IntKind) (n : Nat) (hbytes : bytes * n ≤ 281474976710656) (h63 : n ≤ 9223372036854775807) (w : World) :
    (Instr.makeSlice t (.int kl (n : Int)) (.int kc (n : Int))).run P w = .ok (.slice (some ⟨w.heap.size, 0, none⟩) n n) (w.alloc (.cells (madeCells z.cells (n * s)) e)) := by
  obtain ⟨i, hi, hzz⟩ := Option.map_eq_some_iff.1 hinfo
  simp only [Prod.mk.injEq] at hzz
  obtain ⟨hz, hs, hb⟩ := hzz
  have hb' : (i.bytes : Int) * (n : Int) ≤ 281474976710656 := by
    have h : ((i.bytes * n : Nat) : Int) ≤ 281474976710656 := by rw [hb]; omega
    rwa [Int.natCast_mul] at h
  have hr := run_make (P := P) w t e i z ht hi hz kl kc n n (by omega) (Int.le_refl _) hb' (by omega)
  simp only [Int.toNat_natCast, hs] at hr
  exact hr
/-- Four cells of a block, from a place on, are set. -/
def set4 (cs : Array Value) (p : Nat) (j : J) : Array Value := (((cs.setIfInBounds p (.int .i64 j.t)).setIfInBounds (p + 1) (.int .i64 j.w)).setIfInBounds (p + 2) (.int .i64 j.r)).setIfInBounds (p + 3) (.int .i64 j.d)
theorem set4_size (cs : Array Value) (p : Nat) (j : J) : (set4 cs p j).size = cs.size := by unfold set4; simp
theorem Upto.step4 {js : List J} {k : Nat} {cs : Array Value} (h : Upto (jc js) (k * 4) cs) (hk : k < js.length) : Upto (jc js) ((k + 1) * 4) (set4 cs (k * 4) js[k]) := by
  have hl := jc_len js
  have g0 : (jc js)[k * 4]'(by omega) = .int .i64 js[k].t := by
    have := jc_get js k 0 hk (by omega); rw [List.getElem?_eq_getElem (by omega)] at this; exact Option.some.inj this
  have g1 : (jc js)[k * 4 + 1]'(by omega) = .int .i64 js[k].w := by
    have := jc_get js k 1 hk (by omega); rw [List.getElem?_eq_getElem (by omega)] at this; exact Option.some.inj this
  have g2 : (jc js)[k * 4 + 2]'(by omega) = .int .i64 js[k].r := by
    have := jc_get js k 2 hk (by omega); rw [List.getElem?_eq_getElem (by omega)] at this; exact Option.some.inj this
  have g3 : (jc js)[k * 4 + 3]'(by omega) = .int .i64 js[k].d := by
    have := jc_get js k 3 hk (by omega); rw [List.getElem?_eq_getElem (by omega)] at this; exact Option.some.inj this
  have h1 := h.step (by omega)
  rw [g0] at h1
  have h2 := h1.step (by omega)
  rw [g1] at h2
  have h3 := h2.step (by omega)
  rw [g2] at h3
  have h4 := h3.step (by omega)
  rw [g3] at h4
  rw [show (k + 1) * 4 = k * 4 + 1 + 1 + 1 + 1 by omega]
  exact h4
theorem BlockIs.set4 {w : World} {g : Nat} {t : TypeId} {cs : Array Value} (h : BlockIs w g t cs) (p : Nat) (j : J) :
    BlockIs ((((w.setCell ⟨g, p, none⟩ (.int .i64 j.t)).setCell ⟨g, p + 1, none⟩ (.int .i64 j.w)).setCell ⟨g, p + 2, none⟩ (.int .i64 j.r)).setCell ⟨g, p + 3, none⟩ (.int .i64 j.d)) g t (set4 cs p j) :=
  (((h.set p _).set (p + 1) _).set (p + 2) _).set (p + 3) _
theorem BlockIs.has {w : World} {g : Nat} {t : TypeId} {cs : Array Value} (h : BlockIs w g t cs) {i : Nat} (hi : i < cs.size) : ∃ v, w.cell? ⟨g, i, none⟩ = some v :=
  ⟨cs[i], by rw [h.cell, Array.getElem?_eq_getElem hi]⟩
theorem toJobS_any (A : Option Addr) (c : Nat) (js : List J) (w : World) (hr : Row w A (jc js)) (hn : js.length ≤ 10000000) :
    Calls Tryd.prog 11 #[.slice A js.length c] w fun e w' => ∃ g, e = .returned (.slice (some ⟨g, 0, none⟩) js.length js.length) ∧ w.heap.size ≤ g ∧ w'.ownsRow w.heap.size 63 4 (.slice (some ⟨g, 0, none⟩) js.length js.length) js.length (jc js) ∧ Below w.heap.size w w' := by
  have hmk := run_make_rows (P := Tryd.prog) 27 63 (.agg #[.int .i64 0, .int .i64 0, .int .i64 0, .int .i64 0]) 4 32 Tryd.underlying27 infoJ .i64 .i64 js.length (by omega) (by omega)
  go_enter Tryd.func11, Tryd.ntmps11
  go_wp2
  go_loopw [4] (fun i wr => ∃ (k : Nat) (cs : Array Value), k ≤ js.length ∧ i = .int .i64 k ∧ BlockIs wr w.heap.size 63 cs ∧ Hid (Upto (jc js) (k * 4) cs) ∧ Below w.heap.size w wr) (fun i _ => js.length - (intOf i).toNat)
  case atStart =>
    exact ⟨0, _, Nat.zero_le _, rfl, BlockIs.new _ _ _, ⟨by rw [size_madeCells, jc_len]; omega, by omega⟩, (Below.refl _ _).alloc (Nat.le_refl _) _⟩
  case round =>
    obtain ⟨k, cs, hk, rfl, hB, hC, hb⟩ := hrel
    clear hmk
    by_cases hlt : k < js.length
    · obtain ⟨ad, hA, hbl, hc0, hc1, hc2, hc3⟩ := (hr.below hb).job hlt
      subst hA
      go_wp2_with fail
      refine (toJob_any js[k] _).mono ?_
      rintro e w1 ⟨rfl, hb1⟩
      have hz : cs.size = 4 * js.length := by rw [hC.out.1, jc_len]
      have hB1 := hB.below hb1
      obtain ⟨v0, hk0⟩ := hB1.has (i := k * 4) (by omega)
      obtain ⟨v1, hk1⟩ := hB1.has (i := k * 4 + 1) (by omega)
      obtain ⟨v2, hk2⟩ := hB1.has (i := k * 4 + 2) (by omega)
      obtain ⟨v3, hk3⟩ := hB1.has (i := k * 4 + 3) (by omega)
      have hf0 := hB1.frozen (k * 4)
      have hf1 := hB1.frozen (k * 4 + 1)
      have hf2 := hB1.frozen (k * 4 + 2)
      have hf3 := hB1.frozen (k * 4 + 3)
      have HC := Lib.hid (hC.out.step4 hlt)
      have HB := Lib.hid (hB1.set4 (k * 4) js[k])
      have Hb := Lib.hid (hb.trans (hb1.mono hb.size))
      clear hz hB1 hB hC hb hb1 hr hc0 hc1 hc2 hc3
      generalize js[k] = j at *
      go_wp2
      go_roundw
      case rel => exact ⟨k + 1, _, by omega, by go_num, HB.out, HC.out, (((Hb.out.setCell (Nat.le_refl _) _).setCell (Nat.le_refl _) _).setCell (Nat.le_refl _) _).setCell (Nat.le_refl _) _⟩
      case measure => simp [intOf]; omega
    · go_wp2
      go_ret
      obtain rfl : k = js.length := by omega
      refine ⟨_, rfl, Nat.le_refl _, ?_, hb⟩
      have hC' := hC.out
      rw [show js.length * 4 = (jc js).length by rw [jc_len]; omega] at hC'
      have hsz : cs.size = js.length * 4 := by rw [hC'.1, jc_len]; omega
      have := hB.own (base := w.heap.size) (n := js.length) (c := js.length) (size := 4) (Nat.le_refl _) (by omega) (Nat.le_refl _) (by unfold maxLen; omega) (by omega)
      rwa [List.take_of_length_le (by simp [hsz]), hC'.all] at this

theorem szJobS_any (A : Option Addr) (n c : Nat) (w : World) (hn : n ≤ maxLen) :
    Calls Tryd.prog 9 #[.slice A n c, .int .i64 1048576] w fun e w' => ((e = .returned (.int .i64 (1048576 - n)) ∧ n ≤ 1048576) ∨ (e = .returned (.int .i64 (-1)) ∧ 1048576 < n)) ∧ w = w' := by
  unfold maxLen at hn
  by_cases h : n ≤ 1048576
  · go_enter Tryd.func9, Tryd.ntmps9
    go_wp2
    go_ret
    exact ⟨.inl ⟨rfl, h⟩, rfl⟩
  · go_enter Tryd.func9, Tryd.ntmps9
    go_wp2
    go_ret
    exact ⟨.inr ⟨rfl, by omega⟩, rfl⟩
theorem eqJob_same (j : J) (w : World) :
    Calls Tryd.prog 46 #[.agg #[.int .i64 j.t, .int .i64 j.w, .int .i64 j.r, .int .i64 j.d], .agg #[.int .i64 j.t, .int .i64 j.w, .int .i64 j.r, .int .i64 j.d]] w fun e w' => e = .returned (.bool true) ∧ Below w.heap.size w w' := by
  go_enter Tryd.func46, Tryd.ntmps46
  go_wp2
  go_ret
  exact ⟨rfl, ((Below.refl _ _).alloc (Nat.le_refl _) _).alloc (by simp) _⟩
theorem eqJobS_same (A B : Option Addr) (c d : Nat) (js : List J) (w : World) (hr : Row w A (jc js)) (hq : Row w B (jc js)) (hn : js.length ≤ 10000000) :
    Calls Tryd.prog 15 #[.slice A js.length c, .slice B js.length d] w fun e w' => e = .returned (.bool true) ∧ Below w.heap.size w w' := by
  go_enter Tryd.func15, Tryd.ntmps15
  go_wp2
  go_loopw [5] (fun i wr => ∃ k : Nat, k ≤ js.length ∧ i = .int .i64 k ∧ Below w.heap.size w wr) (fun i _ => js.length - (intOf i).toNat)
  case atStart => exact ⟨0, Nat.zero_le _, rfl, Below.refl _ _⟩
  case round =>
    obtain ⟨k, hk, rfl, hb⟩ := hrel
    by_cases hlt : k < js.length
    · obtain ⟨a, hA, _, hc0, hc1, hc2, hc3⟩ := (hr.below hb).job hlt
      obtain ⟨b, hB, _, hd0, hd1, hd2, hd3⟩ := (hq.below hb).job hlt
      subst hA hB
      have HB := Lib.hid hb
      clear hr hq hb
      generalize js[k] = j at *
      have hi : (0 : Int) ≤ k := by omega
      have hi' : (k : Int) < js.length := by omega
      go_wp2
      go_region_with (go_at_call 46; refine (eqJob_same j _).mono ?_; rintro e w1 ⟨rfl, hb1⟩)
      all_goals
        go_wp2
        go_roundw
        case rel => exact ⟨k + 1, by omega, by go_num, HB.out.trans ((⟨hb1.os, hb1.tape, hb1.output, hb1.size, hb1.block⟩ : Below wr.heap.size wr w1).mono HB.out.size)⟩
        case measure => simp [intOf]; omega
    · go_wp2
      go_ret
      exact ⟨rfl, hb⟩
theorem markJobS_none (A : Option Addr) (c : Nat) (k : Int) (w : World) :
    Calls Tryd.prog 16 #[.slice A 0 c, .int .i64 k] w fun e w' => e = .returned (.int .i64 k) ∧ w = w' := by
  go_enter Tryd.func16, Tryd.ntmps16
  go_wp2
  refine wp_loop_rounds 1 ?_
  rw [rounds_succ]
  go_wp2
  go_ret
  exact ⟨rfl, rfl⟩
def numJ (k : Nat) : J := ⟨(k : Int), (k : Int) + 1, (k : Int) + 1 + 1, (k : Int) + 1 + 1 + 1⟩
def numsJ (k n : Nat) : List J := (List.range n).map fun i => numJ (k + 4 * i)
theorem numsJ_len (k n : Nat) : (numsJ k n).length = n := by unfold numsJ; simp
theorem numsJ_get (k n i : Nat) (h : i < n) : (numsJ k n)[i]'(by rw [numsJ_len]; exact h) = numJ (k + 4 * i) := by unfold numsJ; simp
/-- The first k cells of a block are those of a list, which it has room for. -/
def PreC (cs0 : List Value) (k : Nat) (cs : Array Value) : Prop := cs0.length ≤ cs.size ∧ ∀ j, j < k → cs[j]? = cs0[j]?
theorem PreC.step {cs0 : List Value} {k : Nat} {cs : Array Value} (h : PreC cs0 k cs) (hk : k < cs0.length) : PreC cs0 (k + 1) (cs.setIfInBounds k cs0[k]) := by
  refine ⟨by simpa using h.1, fun j hj => ?_⟩
  rw [Array.getElem?_setIfInBounds]
  by_cases e : k = j
  · subst e; rw [if_pos rfl, if_pos (by have := h.1; omega), List.getElem?_eq_getElem hk]
  · rw [if_neg e]; exact h.2 j (by omega)
theorem PreC.all {cs0 : List Value} {cs : Array Value} (h : PreC cs0 cs0.length cs) : cs.toList.take cs0.length = cs0 := by
  apply List.ext_getElem?
  intro j
  by_cases hj : j < cs0.length
  · rw [List.getElem?_take, if_pos hj, Array.getElem?_toList, h.2 j hj]
  · rw [List.getElem?_eq_none (by simp; omega), List.getElem?_eq_none (by omega)]
theorem PreC.step4 {js : List J} {k : Nat} {cs : Array Value} (h : PreC (jc js) (k * 4) cs) (hk : k < js.length) : PreC (jc js) ((k + 1) * 4) (set4 cs (k * 4) js[k]) := by
  have hl := jc_len js
  have g0 : (jc js)[k * 4]'(by omega) = .int .i64 js[k].t := by
    have := jc_get js k 0 hk (by omega); rw [List.getElem?_eq_getElem (by omega)] at this; exact Option.some.inj this
  have g1 : (jc js)[k * 4 + 1]'(by omega) = .int .i64 js[k].w := by
    have := jc_get js k 1 hk (by omega); rw [List.getElem?_eq_getElem (by omega)] at this; exact Option.some.inj this
  have g2 : (jc js)[k * 4 + 2]'(by omega) = .int .i64 js[k].r := by
    have := jc_get js k 2 hk (by omega); rw [List.getElem?_eq_getElem (by omega)] at this; exact Option.some.inj this
  have g3 : (jc js)[k * 4 + 3]'(by omega) = .int .i64 js[k].d := by
    have := jc_get js k 3 hk (by omega); rw [List.getElem?_eq_getElem (by omega)] at this; exact Option.some.inj this
  have h1 := h.step (by omega)
  rw [g0] at h1
  have h2 := h1.step (by omega)
  rw [g1] at h2
  have h3 := h2.step (by omega)
  rw [g2] at h3
  have h4 := h3.step (by omega)
  rw [g3] at h4
  rw [show (k + 1) * 4 = k * 4 + 1 + 1 + 1 + 1 by omega]
  exact h4
theorem markJobS_some (g c n k0 : Nat) (cs0 : Array Value) (w : World) (h : BlockIs w g 63 cs0) (hn : cs0.size = c * 4) (hnc : n ≤ c) (hn1 : n ≤ 10000000) (hk1 : k0 ≤ 1000000000) :
    Calls Tryd.prog 16 #[.slice (some ⟨g, 0, none⟩) n c, .int .i64 (k0 : Int)] w fun e w' => e = .returned (.int .i64 ((k0 + 4 * n : Nat) : Int)) ∧ (∃ cs, cs.size = cs0.size ∧ BlockIs w' g 63 cs ∧ cs.toList.take (n * 4) = jc (numsJ k0 n)) ∧ w.grownBy w' (some g) ∧ w'.heap.size = w.heap.size := by
  go_enter Tryd.func16, Tryd.ntmps16
  go_wp2
  go_loopw [1, 5] (fun k i wr => ∃ (m : Nat) (cs : Array Value), m ≤ n ∧ i = .int .i64 (m : Int) ∧ k = .int .i64 ((k0 + 4 * m : Nat) : Int) ∧ cs.size = cs0.size ∧ BlockIs wr g 63 cs ∧ Hid (PreC (jc (numsJ k0 n)) (m * 4) cs) ∧ w.grownBy wr (some g) ∧ Hid (wr.heap.size = w.heap.size)) (fun _ i _ => n - (intOf i).toNat)
  case atStart => exact ⟨0, cs0, Nat.zero_le _, rfl, by go_num, rfl, h, ⟨by rw [jc_len, numsJ_len]; omega, by omega⟩, ⟨rfl, rfl, rfl, Nat.le_refl _, fun _ _ _ => rfl⟩, rfl⟩
  case round =>
    obtain ⟨m, cs, hm, rfl, rfl, hz, hB, hP, hG, hsz⟩ := hrel
    by_cases hlt : m < n
    · have hi : (0 : Int) ≤ m := by omega
      have hi' : (m : Int) < n := by omega
      obtain ⟨v0, hk0⟩ := hB.has (i := m * 4) (by omega)
      obtain ⟨v1, hk1⟩ := hB.has (i := m * 4 + 1) (by omega)
      obtain ⟨v2, hk2⟩ := hB.has (i := m * 4 + 2) (by omega)
      obtain ⟨v3, hk3⟩ := hB.has (i := m * 4 + 3) (by omega)
      have hf0 := hB.frozen (m * 4)
      have hf1 := hB.frozen (m * 4 + 1)
      have hf2 := hB.frozen (m * 4 + 2)
      have hf3 := hB.frozen (m * 4 + 3)
      have HB := Lib.hid (hB.set4 (m * 4) (numJ (k0 + 4 * m)))
      have HG := Lib.hid (grown_setCell (grown_setCell (grown_setCell (grown_setCell hG (m * 4) (.int .i64 (numJ (k0 + 4 * m)).t)) (m * 4 + 1) (.int .i64 (numJ (k0 + 4 * m)).w)) (m * 4 + 2) (.int .i64 (numJ (k0 + 4 * m)).r)) (m * 4 + 3) (.int .i64 (numJ (k0 + 4 * m)).d))
      have HZ := hsz
      have HZ2 := Lib.hid hz
      have hcast : ((k0 + 4 * m : Nat) : Int) = (k0 : Int) + 4 * m := by omega
      have HP := Lib.hid (hP.out.step4 (by rw [numsJ_len]; exact hlt))
      have HN := Lib.hid (numsJ_get k0 n m hlt)
      rw [HN.out] at HP
      have HS := Lib.hid (set4_size cs (m * 4) (numJ (k0 + 4 * m)))
      simp only [numJ, hcast] at HB HG
      clear hB hG h hz hsz hP
      go_wp2
      go_roundw
      case rel => exact ⟨m + 1, set4 cs (m * 4) (numJ (k0 + 4 * m)), by omega, by go_num, by go_num, by rw [HS.out]; exact HZ2.out, by simpa only [numJ, hcast] using HB.out, HP.out, HG.out, by show _ = _; simpa [World.setCell] using HZ.out⟩
      case measure => simp [intOf]; omega
    · obtain rfl : m = n := by omega
      go_wp2
      go_ret
      refine ⟨rfl, ⟨cs, hz, hB, ?_⟩, hG, hsz.out⟩
      have hP' := hP.out
      rw [show m * 4 = (jc (numsJ k0 m)).length by rw [jc_len, numsJ_len]; omega] at hP' ⊢
      exact hP'.all
theorem markJobS_own (A : Option Addr) (c n k0 B : Nat) (cs : List Value) (w : World) (h : w.ownsRow B 63 4 (.slice A n c) n cs) (hn1 : n ≤ 10000000) (hk1 : k0 ≤ 1000000000) (hBw : B ≤ w.heap.size) :
    Calls Tryd.prog 16 #[.slice A n c, .int .i64 (k0 : Int)] w fun e w' => e = .returned (.int .i64 ((k0 + 4 * n : Nat) : Int)) ∧ w'.ownsRow B 63 4 (.slice A n c) n (jc (numsJ k0 n)) ∧ Below B w w' ∧ w.grownBy w' (Value.slice A n c).ownBlock ∧ w'.heap.size = w.heap.size := by
  by_cases h0 : n = 0
  · subst h0
    refine (markJobS_none A c k0 w).mono ?_
    rintro e w' ⟨rfl, rfl⟩
    have hcs : cs = [] := List.eq_nil_of_length_eq_zero (by have := h.1; simpa using this)
    subst hcs
    exact ⟨rfl, h, Below.refl _ _, World.grownBy.refl _ _, rfl⟩
  · obtain ⟨g, cur, rfl, hg, hB, h1, h2, h3, h4⟩ := own_block h (by omega)
    refine (markJobS_some g c n k0 cur w hB (by omega) h1 hn1 hk1).mono ?_
    rintro e w' ⟨rfl, ⟨cs', hz, hB', hm⟩, hG, hs⟩
    refine ⟨rfl, ?_, ⟨hG.os, hG.tape, hG.output, hG.size, fun k hk => hG.block k (by omega) (fun e => by injection e; omega)⟩, hG, hs⟩
    have := hB'.own (base := B) (n := n) (c := c) (size := 4) hg (by omega) h1 h2 (by omega)
    rwa [hm] at this
end Go.Proofs.YtjemjdlaoebffaaDoor
