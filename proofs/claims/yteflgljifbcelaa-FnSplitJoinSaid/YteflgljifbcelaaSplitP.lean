/- Splitting a list of bytes at a byte: plain words and their laws. -/
import Derived.Test.YteflgljifbcelaaStands
import Derived.Lib.IndexAny
namespace Go.Proofs.Yteflgljifbcelaa
open Go.RowKit

/-- The parts of a text between the occurrences of a byte. -/
def splitL (c : UInt8) : List UInt8 → List (List UInt8)
  | [] => [[]]
  | x :: l => if x = c then [] :: splitL c l else match splitL c l with
    | [] => [[x]]
    | p :: ps => (x :: p) :: ps
theorem splitL_ne (c : UInt8) (l : List UInt8) : splitL c l ≠ [] := by
  cases l with
  | nil => simp [splitL]
  | cons x l =>
    unfold splitL
    split
    · simp
    · cases splitL c l <;> simp
theorem hasB_cons {x : UInt8} {l : List UInt8} {c : UInt8} : hasB (x :: l) c = (x == c || hasB l c) := by
  unfold hasB; rw [List.contains_cons, BEq.comm]
theorem splitL_end (c : UInt8) : ∀ (p : List UInt8), hasB p c = false → splitL c p = [p]
  | [], _ => rfl
  | x :: p, h => by
    rw [hasB_cons, Bool.or_eq_false_iff] at h
    unfold splitL
    rw [if_neg (by simpa using h.1), splitL_end c p h.2]
theorem splitL_cut (c : UInt8) (r : List UInt8) : ∀ (p : List UInt8), hasB p c = false → splitL c (p ++ c :: r) = p :: splitL c r
  | [], _ => by show splitL c (c :: r) = [] :: splitL c r; rw [splitL, if_pos rfl]
  | x :: p, h => by
    rw [hasB_cons, Bool.or_eq_false_iff] at h
    show splitL c (x :: (p ++ c :: r)) = _
    rw [splitL, if_neg (by simpa using h.1), splitL_cut c r p h.2]
theorem splitL_len (c : UInt8) : ∀ l : List UInt8, (splitL c l).length ≤ l.length + 1
  | [] => by simp [splitL]
  | x :: l => by
    have ih := splitL_len c l
    unfold splitL
    split
    · simp; omega
    · cases h : splitL c l with
      | nil => simp
      | cons p ps => rw [h] at ih; simp at ih ⊢; omega
/-- A list of bytes as a string value. -/
def strV (p : List UInt8) : Value := .string ⟨p.toArray⟩
theorem extract_str (s : ByteArray) (a b : Nat) : Value.string (s.extract a b) = strV ((s.data.toList.drop a).take (b - a)) := by
  unfold strV
  congr 1
  apply ByteArray.ext
  apply Array.ext'
  simp [ByteArray.data_extract, Array.toList_extract, List.extract_eq_take_drop]
/-- What has been split when the bytes up to 'k' are read: the parts that are done, and where the next one begins. -/
structure SplitAt (l : List UInt8) (c : UInt8) (ds : List (List UInt8)) (f k : Nat) : Prop where
  le : f ≤ k
  len : ds.length ≤ f
  all : splitL c l = ds ++ splitL c (l.drop f)
  no : hasB ((l.drop f).take (k - f)) c = false
theorem SplitAt.start (l : List UInt8) (c : UInt8) : SplitAt l c [] 0 0 := ⟨Nat.le_refl _, by simp, by simp, by simp [hasB]⟩
theorem take_drop_succ (l : List UInt8) (f k : Nat) (hf : f ≤ k) (hk : k < l.length) : (l.drop f).take (k + 1 - f) = (l.drop f).take (k - f) ++ [l[k]] := by
  rw [show k + 1 - f = (k - f) + 1 by omega, List.take_succ_eq_append_getElem (by simp; omega)]
  congr 2
  simp [show f + (k - f) = k by omega]
theorem SplitAt.skip {l : List UInt8} {c : UInt8} {ds : List (List UInt8)} {f k : Nat} (h : SplitAt l c ds f k) (hk : k < l.length) (hc : l[k] ≠ c) : SplitAt l c ds f (k + 1) := by
  refine ⟨by have := h.le; omega, h.len, h.all, ?_⟩
  have hn := h.no
  rw [take_drop_succ l f k h.le hk]
  unfold hasB at *
  rw [List.contains_eq_any_beq, List.any_append, Bool.or_eq_false_iff]
  rw [List.contains_eq_any_beq] at hn
  exact ⟨hn, by simpa using fun e => hc e.symm⟩
theorem SplitAt.hit {l : List UInt8} {c : UInt8} {ds : List (List UInt8)} {f k : Nat} (h : SplitAt l c ds f k) (hk : k < l.length) (hc : l[k] = c) : SplitAt l c (ds ++ [(l.drop f).take (k - f)]) (k + 1) (k + 1) := by
  refine ⟨Nat.le_refl _, by have := h.len; have := h.le; simp; omega, ?_, by simp [hasB]⟩
  have e : l.drop f = (l.drop f).take (k - f) ++ c :: l.drop (k + 1) := by
    have h1 := List.take_append_drop (k - f) (l.drop f)
    rw [List.drop_drop, show f + (k - f) = k by have := h.le; omega, List.drop_eq_getElem_cons hk, hc] at h1
    exact h1.symm
  rw [h.all]
  conv => lhs; rw [e]
  rw [splitL_cut c _ _ h.no]
  simp
theorem SplitAt.done {l : List UInt8} {c : UInt8} {ds : List (List UInt8)} {f k : Nat} (h : SplitAt l c ds f k) (hk : l.length ≤ k) : splitL c l = ds ++ [l.drop f] := by
  rw [h.all]
  congr 1
  have hn := h.no
  rw [List.take_of_length_le (by simp; omega)] at hn
  exact splitL_end c _ hn
theorem indexByte_miss : ∀ {l : List UInt8} {c : UInt8}, hasB l c = false → Lib.indexByte l c = -1
  | [], _, _ => rfl
  | x :: l, c, h => by
    rw [hasB_cons, Bool.or_eq_false_iff] at h
    unfold Lib.indexByte
    rw [if_neg (by simpa using h.1), if_pos (by rw [indexByte_miss h.2]; rfl)]
theorem indexByte_cut (c : UInt8) (r : List UInt8) : ∀ {t : List UInt8}, hasB t c = false → Lib.indexByte (t ++ c :: r) c = t.length
  | [], _ => by show Lib.indexByte (c :: r) c = 0; unfold Lib.indexByte; simp
  | x :: t, h => by
    rw [hasB_cons, Bool.or_eq_false_iff] at h
    have ih := indexByte_cut c r h.2
    show Lib.indexByte (x :: (t ++ c :: r)) c = _
    rw [Lib.indexByte, if_neg (by simpa using h.1), ih, if_neg (by simp <;> omega)]
    simp
theorem exists_cut (c : UInt8) : ∀ l : List UInt8, hasB l c = true → ∃ t r, l = t ++ c :: r ∧ hasB t c = false
  | [], h => by simp [hasB] at h
  | x :: l, h => by
    by_cases hx : x = c
    · exact ⟨[], l, by simp [hx], rfl⟩
    · rw [hasB_cons] at h
      obtain ⟨t, r, h1, h2⟩ := exists_cut c l (by simpa [hx] using h)
      exact ⟨x :: t, r, by simp [h1], by rw [hasB_cons, h2]; simpa using hx⟩
end Go.Proofs.Yteflgljifbcelaa
