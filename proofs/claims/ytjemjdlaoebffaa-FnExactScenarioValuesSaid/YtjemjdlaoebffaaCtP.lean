/- Criteria: lists of jobs with measures, in memory; how some jobs stand by them. -/
import Derived.Test.YtjemjdlaoebffaaExt
import Derived.Test.YtjemjdlaoebffaaBfQ
import Derived.Test.YtjemjdlaoebffaaSchedE
namespace Go.Proofs.Ytjemjdlaoebffaa
open Go.RowKit
structure Cr where
  A : Option Addr
  c : Nat
  js : List J
  o : Int
  fv : Value
def cr0 : Cr := ⟨none, 0, [], 1, undef⟩
def crC (k : Cr) : List Value := [.slice k.A k.js.length k.c, k.fv, .bool (isTop k.o)]
def crc (ks : List Cr) : List Value := ks.flatMap crC
theorem crc_len : ∀ ks : List Cr, (crc ks).length = 3 * ks.length
  | [] => rfl
  | x :: xs => by
    show (crC x ++ crc xs).length = _
    rw [List.length_append, crc_len xs]; simp [crC]; omega
theorem crc_get : ∀ (ks : List Cr) (k i : Nat) (hk : k < ks.length), i < 3 → (crc ks)[k * 3 + i]? = (crC ks[k])[i]?
  | [], _, _, h, _ => by cases h
  | x :: xs, 0, i, _, hi => by
    show (crC x ++ crc xs)[0 * 3 + i]? = _
    rw [List.getElem?_append_left (by simp [crC]; omega)]
    simp
  | x :: xs, k + 1, i, h, hi => by
    show (crC x ++ crc xs)[(k + 1) * 3 + i]? = _
    rw [List.getElem?_append_right (by simp [crC]; omega)]
    rw [show (k + 1) * 3 + i - (crC x).length = k * 3 + i by simp [crC]; omega]
    exact crc_get xs k i (by simpa using h) hi
theorem Row.crit {w : World} {A : Option Addr} {ks : List Cr} (h : Row w A (crc ks)) {k : Nat} (hk : k < ks.length) : ∃ ad, A = some ad ∧ ad.block < w.heap.size ∧
    w.cell? (ad.add (k * 3)) = some (.slice ks[k].A ks[k].js.length ks[k].c) ∧ w.cell? ⟨(ad.add (k * 3)).block, (ad.add (k * 3)).off + 1, none⟩ = some ks[k].fv ∧ w.cell? ⟨(ad.add (k * 3)).block, (ad.add (k * 3)).off + 2, none⟩ = some (.bool (isTop ks[k].o)) := by
  obtain ⟨ad, hA, hb, hc⟩ := h (by rw [crc_len]; omega)
  refine ⟨ad, hA, hb, ?_, ?_, ?_⟩
  · exact hc _ _ (crc_get ks k 0 hk (by omega))
  · exact (congrArg w.cell? (add_add ad (k * 3) 1)).trans (hc _ _ (crc_get ks k 1 hk (by omega)))
  · exact (congrArg w.cell? (add_add ad (k * 3) 2)).trans (hc _ _ (crc_get ks k 2 hk (by omega)))
/-- Criteria that lie at an address; their functions' variables lie below B. -/
def CritIs (B : Nat) (w : World) (A : Option Addr) (n : Nat) (ks : List Cr) : Prop := Row w A (crc ks) ∧ B ≤ w.heap.size ∧ ∀ i (h : i < ks.length), Row w ks[i].A (jc ks[i].js) ∧ FnIs B w ks[i].o ks[i].fv ∧ isObj ks[i].o = true ∧ goodL ks[i].js = true ∧ ks[i].js.length = n
theorem CritIs.below {B : Nat} {w w' : World} {A : Option Addr} {n : Nat} {ks : List Cr} (h : CritIs B w A n ks) (hb : Below w.heap.size w w') : CritIs B w' A n ks :=
  ⟨h.1.below hb, Nat.le_trans h.2.1 hb.size, fun i hi => ⟨(h.2.2 i hi).1.below hb, (h.2.2 i hi).2.1.keep (fun b hlt => hb.block b (by have := h.2.1; omega)), (h.2.2 i hi).2.2⟩⟩
/-- How some jobs stand: their number, and an end and a value by each criterion. -/
def stA (n : Nat) (E V : Nat → Int) : Array Value := #[.int .i64 (n : Int), .int .i64 (E 0), .int .i64 (E 1), .int .i64 (E 2), .int .i64 (E 3), .int .i64 (V 0), .int .i64 (V 1), .int .i64 (V 2), .int .i64 (V 3)]
theorem stA_e (n : Nat) (E V : Nat → Int) (i : Nat) (h : i < 4) : (stA n E V)[1 + i]? = some (.int .i64 (E i)) := by
  rcases (by omega : i = 0 ∨ i = 1 ∨ i = 2 ∨ i = 3) with rfl | rfl | rfl | rfl <;> rfl
theorem stA_v (n : Nat) (E V : Nat → Int) (i : Nat) (h : i < 4) : (stA n E V)[5 + i]? = some (.int .i64 (V i)) := by
  rcases (by omega : i = 0 ∨ i = 1 ∨ i = 2 ∨ i = 3) with rfl | rfl | rfl | rfl <;> rfl
def upF (f : Nat → Int) (i : Nat) (x : Int) : Nat → Int := fun j => if j = i then x else f j
theorem stA_setE (n : Nat) (E V : Nat → Int) (i : Nat) (x : Int) (h : i < 4) : (stA n E V).setIfInBounds (1 + i) (.int .i64 x) = stA n (upF E i x) V := by
  rcases (by omega : i = 0 ∨ i = 1 ∨ i = 2 ∨ i = 3) with rfl | rfl | rfl | rfl <;> simp [stA, upF]
theorem stA_setV (n : Nat) (E V : Nat → Int) (i : Nat) (x : Int) (h : i < 4) : (stA n E V).setIfInBounds (5 + i) (.int .i64 x) = stA n E (upF V i x) := by
  rcases (by omega : i = 0 ∨ i = 1 ∨ i = 2 ∨ i = 3) with rfl | rfl | rfl | rfl <;> simp [stA, upF]
def mixF (m : Nat) (f g : Nat → Int) : Nat → Int := fun j => if j < m then f j else g j
theorem mixC_up (m : Nat) (f g : Nat → Int) : upF (mixF m f g) m (f m) = mixF (m + 1) f g := by
  funext j
  unfold upF mixF
  by_cases e : j = m
  · subst e; rw [if_pos rfl, if_pos (by omega)]
  · rw [if_neg e]
    by_cases h : j < m
    · rw [if_pos h, if_pos (by omega)]
    · rw [if_neg h, if_neg (by omega)]
theorem mixC_at (m : Nat) (f g : Nat → Int) : mixF m f g m = g m := by unfold mixF; rw [if_neg (by omega)]
theorem mixC_0 (f g : Nat → Int) : mixF 0 f g = g := by funext j; unfold mixF; rw [if_neg (by omega)]
theorem mix_iE (m : Nat) (f g : Nat → Int) : mixF m f g m = g m ∧ upF (mixF m f g) m (f m) = mixF (m + 1) f g := ⟨mixC_at m f g, mixC_up m f g⟩
/-- The job by the criterion with a number. -/
def jbC (ks : List Cr) (job i : Nat) : J := (ks.getD i cr0).js.getD job j0
def newE (ks : List Cr) (job : Nat) (E : Nat → Int) : Nat → Int := fun i => max (E i) (jbC ks job i).r + (jbC ks job i).t
def newV (ks : List Cr) (job n : Nat) (E V : Nat → Int) : Nat → Int := fun i => extOf (ks.getD i cr0).o n (V i) (costOf (ks.getD i cr0).o (jbC ks job i) (newE ks job E i))
end Go.Proofs.Ytjemjdlaoebffaa
