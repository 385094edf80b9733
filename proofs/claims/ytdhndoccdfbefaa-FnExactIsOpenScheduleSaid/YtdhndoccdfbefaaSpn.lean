/- Spans in memory: the laws' helpers over slices of spans. -/
import Derived.Test.YtdhndoccdfbefaaSegH
import Derived.Test.YtdhndoccdfbefaaSpP
namespace Go.Proofs.Ytdhndoccdfbefaa
open Go.RowKit

def cellsSp (j : Sp) : List Value := [.int .i64 j.j, .int .i64 j.f, .int .i64 j.t]
abbrev aggSp (j : Sp) : Value := .agg #[.int .i64 j.j, .int .i64 j.f, .int .i64 j.t]
def spc (js : List Sp) : List Value := js.flatMap cellsSp
theorem spc_len : ∀ js : List Sp, (spc js).length = 3 * js.length
  | [] => rfl
  | j :: js => by
    show (cellsSp j ++ spc js).length = _
    rw [List.length_append, spc_len js]; simp [cellsSp]; omega
theorem spc_get : ∀ (js : List Sp) (k i : Nat) (hk : k < js.length), i < 3 → (spc js)[k * 3 + i]? = (cellsSp js[k])[i]?
  | [], _, _, h, _ => by cases h
  | j :: js, 0, i, _, hi => by
    show (cellsSp j ++ spc js)[0 * 3 + i]? = _
    rw [List.getElem?_append_left (by simp [cellsSp]; omega)]
    simp
  | j :: js, k + 1, i, h, hi => by
    show (cellsSp j ++ spc js)[(k + 1) * 3 + i]? = _
    rw [List.getElem?_append_right (by simp [cellsSp]; omega)]
    rw [show (k + 1) * 3 + i - (cellsSp j).length = k * 3 + i by simp [cellsSp]; omega]
    exact spc_get js k i (by simpa using h) hi
theorem Row.span {w : World} {A : Option Addr} {js : List Sp} (h : Row w A (spc js)) {k : Nat} (hk : k < js.length) : ∃ ad, A = some ad ∧ ad.block < w.heap.size ∧
    w.cell? (ad.add (k * 3)) = some (.int .i64 js[k].j) ∧ w.cell? ⟨(ad.add (k * 3)).block, (ad.add (k * 3)).off + 1, none⟩ = some (.int .i64 js[k].f) ∧ w.cell? ⟨(ad.add (k * 3)).block, (ad.add (k * 3)).off + 2, none⟩ = some (.int .i64 js[k].t) := by
  obtain ⟨ad, hA, hb, hc⟩ := h (by rw [spc_len]; omega)
  refine ⟨ad, hA, hb, ?_, ?_, ?_⟩
  · exact hc _ _ (spc_get js k 0 hk (by omega))
  · exact (congrArg w.cell? (add_add ad (k * 3) 1)).trans (hc _ _ (spc_get js k 1 hk (by omega)))
  · exact (congrArg w.cell? (add_add ad (k * 3) 2)).trans (hc _ _ (spc_get js k 2 hk (by omega)))

theorem infoSp : (Try.prog.info? 88).map (fun i => (i.zero, i.size, i.bytes)) = some (some (.agg #[.int .i64 0, .int .i64 0, .int .i64 0]), 3, 24) := by kernel_rfl
/-- Three cells of a block, from a place on, are set. -/
def set3 (cs : Array Value) (p : Nat) (j : Sp) : Array Value := ((cs.setIfInBounds p (.int .i64 j.j)).setIfInBounds (p + 1) (.int .i64 j.f)).setIfInBounds (p + 2) (.int .i64 j.t)
theorem set3_size (cs : Array Value) (p : Nat) (j : Sp) : (set3 cs p j).size = cs.size := by unfold set3; simp
theorem Upto.step3 {js : List Sp} {k : Nat} {cs : Array Value} (h : Upto (spc js) (k * 3) cs) (hk : k < js.length) : Upto (spc js) ((k + 1) * 3) (set3 cs (k * 3) js[k]) := by
  have hl := spc_len js
  have g0 : (spc js)[k * 3]'(by omega) = .int .i64 js[k].j := by
    have := spc_get js k 0 hk (by omega); rw [List.getElem?_eq_getElem (by omega)] at this; exact Option.some.inj this
  have g1 : (spc js)[k * 3 + 1]'(by omega) = .int .i64 js[k].f := by
    have := spc_get js k 1 hk (by omega); rw [List.getElem?_eq_getElem (by omega)] at this; exact Option.some.inj this
  have g2 : (spc js)[k * 3 + 2]'(by omega) = .int .i64 js[k].t := by
    have := spc_get js k 2 hk (by omega); rw [List.getElem?_eq_getElem (by omega)] at this; exact Option.some.inj this
  have h1 := h.step (by omega)
  rw [g0] at h1
  have h2 := h1.step (by omega)
  rw [g1] at h2
  have h3 := h2.step (by omega)
  rw [g2] at h3
  rw [show (k + 1) * 3 = k * 3 + 1 + 1 + 1 by omega]
  exact h3
theorem BlockIs.set3 {w : World} {g : Nat} {t : TypeId} {cs : Array Value} (h : BlockIs w g t cs) (p : Nat) (j : Sp) :
    BlockIs (((w.setCell ⟨g, p, none⟩ (.int .i64 j.j)).setCell ⟨g, p + 1, none⟩ (.int .i64 j.f)).setCell ⟨g, p + 2, none⟩ (.int .i64 j.t)) g t (set3 cs p j) :=
  ((h.set p _).set (p + 1) _).set (p + 2) _
def numSp (k : Nat) : Sp := ⟨(k : Int), (k : Int) + 1, (k : Int) + 1 + 1⟩
def numsSp (k n : Nat) : List Sp := (List.range n).map fun i => numSp (k + 3 * i)
theorem numsSp_len (k n : Nat) : (numsSp k n).length = n := by unfold numsSp; simp
theorem numsSp_get (k n i : Nat) (h : i < n) : (numsSp k n)[i]'(by rw [numsSp_len]; exact h) = numSp (k + 3 * i) := by unfold numsSp; simp
theorem PreC.step3 {js : List Sp} {k : Nat} {cs : Array Value} (h : PreC (spc js) (k * 3) cs) (hk : k < js.length) : PreC (spc js) ((k + 1) * 3) (set3 cs (k * 3) js[k]) := by
  have hl := spc_len js
  have g0 : (spc js)[k * 3]'(by omega) = .int .i64 js[k].j := by
    have := spc_get js k 0 hk (by omega); rw [List.getElem?_eq_getElem (by omega)] at this; exact Option.some.inj this
  have g1 : (spc js)[k * 3 + 1]'(by omega) = .int .i64 js[k].f := by
    have := spc_get js k 1 hk (by omega); rw [List.getElem?_eq_getElem (by omega)] at this; exact Option.some.inj this
  have g2 : (spc js)[k * 3 + 2]'(by omega) = .int .i64 js[k].t := by
    have := spc_get js k 2 hk (by omega); rw [List.getElem?_eq_getElem (by omega)] at this; exact Option.some.inj this
  have h1 := h.step (by omega)
  rw [g0] at h1
  have h2 := h1.step (by omega)
  rw [g1] at h2
  have h3 := h2.step (by omega)
  rw [g2] at h3
  rw [show (k + 1) * 3 = k * 3 + 1 + 1 + 1 by omega]
  exact h3
/-- What a function hands back: a list of spans, memory of its own, and a bool. -/
def RetTB (w : World) (r : List Sp × Bool) (e : Ending) (w' : World) : Prop :=
  ∃ A c, e = .returned (.tuple #[.slice A r.1.length c, .bool r.2]) ∧ Seg w' 88 3 w.heap.size w'.heap.size A r.1.length c (spc r.1) ∧ Below w.heap.size w w'
end Go.Proofs.Ytdhndoccdfbefaa
