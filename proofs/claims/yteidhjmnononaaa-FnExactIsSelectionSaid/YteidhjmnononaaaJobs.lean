/- Jobs in memory: the laws' helpers over slices of jobs. -/
import Derived.Test.YteidhjmnononaaaInts
import Derived.Test.YteidhjmnononaaaJobP
namespace Go.Proofs.Yteidhjmnononaaa
open Go.RowKit

def fieldJ (j : J) : Nat → Int
  | 0 => j.t
  | 1 => j.w
  | 2 => j.r
  | _ => j.d
def cellsJ (j : J) : List Value := [.int .i64 j.t, .int .i64 j.w, .int .i64 j.r, .int .i64 j.d]
abbrev aggJ (j : J) : Value := .agg #[.int .i64 j.t, .int .i64 j.w, .int .i64 j.r, .int .i64 j.d]
def jc (js : List J) : List Value := js.flatMap cellsJ
theorem jc_len : ∀ js : List J, (jc js).length = 4 * js.length
  | [] => rfl
  | j :: js => by
    show (cellsJ j ++ jc js).length = _
    rw [List.length_append, jc_len js]; simp [cellsJ]; omega
theorem jc_get : ∀ (js : List J) (k i : Nat) (hk : k < js.length), i < 4 → (jc js)[k * 4 + i]? = (cellsJ js[k])[i]?
  | [], _, _, h, _ => by cases h
  | j :: js, 0, i, _, hi => by
    show (cellsJ j ++ jc js)[0 * 4 + i]? = _
    rw [List.getElem?_append_left (by simp [cellsJ]; omega)]
    simp
  | j :: js, k + 1, i, h, hi => by
    show (cellsJ j ++ jc js)[(k + 1) * 4 + i]? = _
    rw [List.getElem?_append_right (by simp [cellsJ]; omega)]
    rw [show (k + 1) * 4 + i - (cellsJ j).length = k * 4 + i by simp [cellsJ]; omega]
    exact jc_get js k i (by simpa using h) hi
theorem add_add (a : Addr) (i j : Nat) : (a.add i).add j = a.add (i + j) := by
  unfold Addr.add
  by_cases hi : i = 0 <;> by_cases hj : j = 0 <;> simp [hi, hj, Nat.add_assoc]
theorem Row.job {w : World} {A : Option Addr} {js : List J} (h : Row w A (jc js)) {k : Nat} (hk : k < js.length) : ∃ ad, A = some ad ∧ ad.block < w.heap.size ∧
    w.cell? (ad.add (k * 4)) = some (.int .i64 js[k].t) ∧ w.cell? ⟨(ad.add (k * 4)).block, (ad.add (k * 4)).off + 1, none⟩ = some (.int .i64 js[k].w) ∧ w.cell? ⟨(ad.add (k * 4)).block, (ad.add (k * 4)).off + 2, none⟩ = some (.int .i64 js[k].r) ∧ w.cell? ⟨(ad.add (k * 4)).block, (ad.add (k * 4)).off + 3, none⟩ = some (.int .i64 js[k].d) := by
  obtain ⟨ad, hA, hb, hc⟩ := h (by rw [jc_len]; omega)
  refine ⟨ad, hA, hb, ?_, ?_, ?_, ?_⟩
  · exact hc _ _ (jc_get js k 0 hk (by omega))
  · exact (congrArg w.cell? (add_add ad (k * 4) 1)).trans (hc _ _ (jc_get js k 1 hk (by omega)))
  · exact (congrArg w.cell? (add_add ad (k * 4) 2)).trans (hc _ _ (jc_get js k 2 hk (by omega)))
  · exact (congrArg w.cell? (add_add ad (k * 4) 3)).trans (hc _ _ (jc_get js k 3 hk (by omega)))

/-- 'make([]T, n)', T of any number of cells. -/
theorem run_make_rows {P : Program} (t e : TypeId) (z : Value) (s bytes : Nat) (ht : P.underlying t = some (.slice e)) (hinfo : (P.info? e).map (fun i => (i.zero, i.size, i.bytes)) = some (some z, s, bytes))
    (kl kc : IntKind) (n : Nat) (hbytes : bytes * n ≤ 281474976710656) (h63 : n ≤ 9223372036854775807) (w : World) :
    (Instr.makeSlice t (.int kl (n : Int)) (.int kc (n : Int))).run P w = .ok (.slice (some ⟨w.heap.size, 0, none⟩) n n) (w.alloc (.cells (madeCells z.cells (n * s)) e)) := by
  obtain ⟨i, hi, hzz⟩ := Option.map_eq_some_iff.1 hinfo
  simp only [Prod.mk.injEq] at hzz
  obtain ⟨hz, hs, hb⟩ := hzz
  have hb' : (i.bytes : Int) * (n : Int) ≤ 281474976710656 := by
    have h : ((i.bytes * n : Nat) : Int) ≤ 281474976710656 := by rw [hb]; omega
    rwa [Int.natCast_mul] at h
  have hr := run_make (P := P) w t e i z ht hi hz kl kc n n (by omega) (Int.le_refl _) hb' (by omega)
  simp only [Int.toNat_natCast, hs] at hr
  exact hr
/-- Four cells of a block, from a place on, are set. -/
def set4 (cs : Array Value) (p : Nat) (j : J) : Array Value := (((cs.setIfInBounds p (.int .i64 j.t)).setIfInBounds (p + 1) (.int .i64 j.w)).setIfInBounds (p + 2) (.int .i64 j.r)).setIfInBounds (p + 3) (.int .i64 j.d)
theorem set4_size (cs : Array Value) (p : Nat) (j : J) : (set4 cs p j).size = cs.size := by unfold set4; simp
theorem Upto.step4 {js : List J} {k : Nat} {cs : Array Value} (h : Upto (jc js) (k * 4) cs) (hk : k < js.length) : Upto (jc js) ((k + 1) * 4) (set4 cs (k * 4) js[k]) := by
  have hl := jc_len js
  have g0 : (jc js)[k * 4]'(by omega) = .int .i64 js[k].t := by
    have := jc_get js k 0 hk (by omega); rw [List.getElem?_eq_getElem (by omega)] at this; exact Option.some.inj this
  have g1 : (jc js)[k * 4 + 1]'(by omega) = .int .i64 js[k].w := by
    have := jc_get js k 1 hk (by omega); rw [List.getElem?_eq_getElem (by omega)] at this; exact Option.some.inj this
  have g2 : (jc js)[k * 4 + 2]'(by omega) = .int .i64 js[k].r := by
    have := jc_get js k 2 hk (by omega); rw [List.getElem?_eq_getElem (by omega)] at this; exact Option.some.inj this
  have g3 : (jc js)[k * 4 + 3]'(by omega) = .int .i64 js[k].d := by
    have := jc_get js k 3 hk (by omega); rw [List.getElem?_eq_getElem (by omega)] at this; exact Option.some.inj this
  have h1 := h.step (by omega)
  rw [g0] at h1
  have h2 := h1.step (by omega)
  rw [g1] at h2
  have h3 := h2.step (by omega)
  rw [g2] at h3
  have h4 := h3.step (by omega)
  rw [g3] at h4
  rw [show (k + 1) * 4 = k * 4 + 1 + 1 + 1 + 1 by omega]
  exact h4
theorem BlockIs.set4 {w : World} {g : Nat} {t : TypeId} {cs : Array Value} (h : BlockIs w g t cs) (p : Nat) (j : J) :
    BlockIs ((((w.setCell ⟨g, p, none⟩ (.int .i64 j.t)).setCell ⟨g, p + 1, none⟩ (.int .i64 j.w)).setCell ⟨g, p + 2, none⟩ (.int .i64 j.r)).setCell ⟨g, p + 3, none⟩ (.int .i64 j.d)) g t (set4 cs p j) :=
  (((h.set p _).set (p + 1) _).set (p + 2) _).set (p + 3) _
theorem BlockIs.has {w : World} {g : Nat} {t : TypeId} {cs : Array Value} (h : BlockIs w g t cs) {i : Nat} (hi : i < cs.size) : ∃ v, w.cell? ⟨g, i, none⟩ = some v :=
  ⟨cs[i], by rw [h.cell, Array.getElem?_eq_getElem hi]⟩
def numJ (k : Nat) : J := ⟨(k : Int), (k : Int) + 1, (k : Int) + 1 + 1, (k : Int) + 1 + 1 + 1⟩
def numsJ (k n : Nat) : List J := (List.range n).map fun i => numJ (k + 4 * i)
theorem numsJ_len (k n : Nat) : (numsJ k n).length = n := by unfold numsJ; simp
theorem numsJ_get (k n i : Nat) (h : i < n) : (numsJ k n)[i]'(by rw [numsJ_len]; exact h) = numJ (k + 4 * i) := by unfold numsJ; simp
/-- The first k cells of a block are those of a list, which it has room for. -/
def PreC (cs0 : List Value) (k : Nat) (cs : Array Value) : Prop := cs0.length ≤ cs.size ∧ ∀ j, j < k → cs[j]? = cs0[j]?
theorem PreC.step {cs0 : List Value} {k : Nat} {cs : Array Value} (h : PreC cs0 k cs) (hk : k < cs0.length) : PreC cs0 (k + 1) (cs.setIfInBounds k cs0[k]) := by
  refine ⟨by simpa using h.1, fun j hj => ?_⟩
  rw [Array.getElem?_setIfInBounds]
  by_cases e : k = j
  · subst e; rw [if_pos rfl, if_pos (by have := h.1; omega), List.getElem?_eq_getElem hk]
  · rw [if_neg e]; exact h.2 j (by omega)
theorem PreC.all {cs0 : List Value} {cs : Array Value} (h : PreC cs0 cs0.length cs) : cs.toList.take cs0.length = cs0 := by
  apply List.ext_getElem?
  intro j
  by_cases hj : j < cs0.length
  · rw [List.getElem?_take, if_pos hj, Array.getElem?_toList, h.2 j hj]
  · rw [List.getElem?_eq_none (by simp; omega), List.getElem?_eq_none (by omega)]
theorem PreC.step4 {js : List J} {k : Nat} {cs : Array Value} (h : PreC (jc js) (k * 4) cs) (hk : k < js.length) : PreC (jc js) ((k + 1) * 4) (set4 cs (k * 4) js[k]) := by
  have hl := jc_len js
  have g0 : (jc js)[k * 4]'(by omega) = .int .i64 js[k].t := by
    have := jc_get js k 0 hk (by omega); rw [List.getElem?_eq_getElem (by omega)] at this; exact Option.some.inj this
  have g1 : (jc js)[k * 4 + 1]'(by omega) = .int .i64 js[k].w := by
    have := jc_get js k 1 hk (by omega); rw [List.getElem?_eq_getElem (by omega)] at this; exact Option.some.inj this
  have g2 : (jc js)[k * 4 + 2]'(by omega) = .int .i64 js[k].r := by
    have := jc_get js k 2 hk (by omega); rw [List.getElem?_eq_getElem (by omega)] at this; exact Option.some.inj this
  have g3 : (jc js)[k * 4 + 3]'(by omega) = .int .i64 js[k].d := by
    have := jc_get js k 3 hk (by omega); rw [List.getElem?_eq_getElem (by omega)] at this; exact Option.some.inj this
  have h1 := h.step (by omega)
  rw [g0] at h1
  have h2 := h1.step (by omega)
  rw [g1] at h2
  have h3 := h2.step (by omega)
  rw [g2] at h3
  have h4 := h3.step (by omega)
  rw [g3] at h4
  rw [show (k + 1) * 4 = k * 4 + 1 + 1 + 1 + 1 by omega]
  exact h4
end Go.Proofs.Yteidhjmnononaaa
