/- Words of ours: what a call may touch; a slice of the call's own between two marks of the heap. -/
import Derived.Test.YteidhjmnononaaaMem
namespace Go.Proofs.Yteidhjmnononaaa
open Go.RowKit

/-- Of the blocks that were there, only those from lo to hi may have changed. -/
structure Touch (lo hi : Nat) (w w' : World) : Prop where
  os : w'.os = w.os
  tape : w'.tape = w.tape
  output : w'.output = w.output
  size : w.heap.size ≤ w'.heap.size
  block : ∀ k, k < w.heap.size → (k < lo ∨ hi ≤ k) → w'.heap[k]? = w.heap[k]?
section
variable {w w' w'' : World} {lo hi : Nat}
theorem Touch.refl (lo hi : Nat) (w : World) : Touch lo hi w w := ⟨rfl, rfl, rfl, Nat.le_refl _, fun _ _ _ => rfl⟩
theorem Touch.of_below (lo hi : Nat) (h : Below w.heap.size w w') : Touch lo hi w w' := ⟨h.os, h.tape, h.output, h.size, fun k hk _ => h.block k hk⟩
theorem Touch.drewN (h : Touch lo hi w w') (n : Nat) : Touch lo hi w (w'.drewN n) := ⟨h.os, h.tape, h.output, h.size, h.block⟩
theorem Touch.trans (h : Touch lo hi w w') (k : Touch lo hi w' w'') : Touch lo hi w w'' :=
  ⟨k.os.trans h.os, k.tape.trans h.tape, k.output.trans h.output, Nat.le_trans h.size k.size, fun i hi hne => (k.block i (Nat.lt_of_lt_of_le hi h.size) hne).trans (h.block i hi hne)⟩
theorem Touch.below (h : Touch lo hi w w') {B : Nat} (hB : B ≤ lo) (hw : B ≤ w.heap.size) : Below B w w' :=
  ⟨h.os, h.tape, h.output, h.size, fun k hk => h.block k (by omega) (.inl (by omega))⟩
theorem Touch.of_grown {g : Nat} (h : w.grownBy w' (some g)) (h0 : lo ≤ g) (h1 : g < hi) : Touch lo hi w w' :=
  ⟨h.os, h.tape, h.output, h.size, fun k hk hne => h.block k hk (fun e => by injection e; omega)⟩
theorem Touch.more (h : Touch lo hi w w') {lo' hi' : Nat} (h0 : lo' ≤ lo) (h1 : hi ≤ hi') : Touch lo' hi' w w' :=
  ⟨h.os, h.tape, h.output, h.size, fun k hk hne => h.block k hk (by omega)⟩
end
/-- A slice of n elements (its cells cs) that lies in a block of its own, from lo on and below hi. -/
structure Seg (w : World) (e : TypeId) (size lo hi : Nat) (A : Option Addr) (n c : Nat) (cs : List Value) : Prop where
  own : w.ownsRow lo e size (.slice A n c) n cs
  top : ∀ ad, A = some ad → ad.block < hi
  fit : hi ≤ w.heap.size
section
variable {w w' : World} {e : TypeId} {size lo hi : Nat} {A : Option Addr} {n c : Nat} {cs : List Value}
theorem Seg.row (h : Seg w e size lo hi A n c cs) : Row w A cs := Row.of_own h.own
theorem Seg.len (h : Seg w e size lo hi A n c cs) : cs.length = n * size := h.own.1
theorem Seg.of_own (h : w.ownsRow lo e size (.slice A n c) n cs) : Seg w e size lo w.heap.size A n c cs :=
  ⟨h, fun ad ha => by subst ha; exact (h.lt _ rfl).2, Nat.le_refl _⟩
theorem Seg.keep {a b : Nat} (h : Seg w e size lo hi A n c cs) (ht : Touch a b w w') (hd : hi ≤ a ∨ b ≤ lo) : Seg w' e size lo hi A n c cs := by
  refine ⟨⟨h.own.1, ?_⟩, h.top, Nat.le_trans h.fit ht.size⟩
  rcases h.own.2 with ⟨hv, h0⟩ | ⟨g, cap, cur, hv, hb, hg, hr⟩
  · exact .inl ⟨hv, h0⟩
  · have hA : A = some ⟨g, 0, none⟩ := by injection hv
    have hg2 := h.top _ hA
    have hf := h.fit
    simp only at hg2
    exact .inr ⟨g, cap, cur, hv, hb, (ht.block g (by omega) (by omega)).trans hg, hr⟩
theorem Seg.below (h : Seg w e size lo hi A n c cs) (hb : Below w.heap.size w w') : Seg w' e size lo hi A n c cs :=
  h.keep (Touch.of_below hi hi hb) (.inl (Nat.le_refl _))
theorem Seg.drewN (h : Seg w e size lo hi A n c cs) (m : Nat) : Seg (w.drewN m) e size lo hi A n c cs := ⟨h.own, h.top, h.fit⟩
theorem Seg.bound (h : Seg w e size lo hi A n c cs) : n ≤ maxLen := by
  rcases h.own.2 with ⟨_, h0⟩ | ⟨g, cap, cur, hv, hb, hg, h1, h2, _⟩
  · omega
  · omega
theorem Seg.nlec (h : Seg w e size lo hi A n c cs) : n ≤ c := by
  rcases h.own.2 with ⟨hv, h0⟩ | ⟨g, cap, cur, hv, hb, hg, h1, h2, _⟩
  · omega
  · injection hv with _ _ e3; omega
/-- Its block, where there is an element. -/
theorem Seg.block (h : Seg w e size lo hi A n c cs) (hn : 0 < n) : ∃ g cur, A = some ⟨g, 0, none⟩ ∧ lo ≤ g ∧ g < hi ∧ BlockIs w g e cur ∧ n ≤ c ∧ c ≤ maxLen ∧ cur.size = c * size ∧ cur.toList.take (n * size) = cs := by
  obtain ⟨g, cur, hA, h1, h2, h3, h4, h5, h6⟩ := own_block h.own hn
  exact ⟨g, cur, hA, h1, h.top _ hA, h2, h3, h4, h5, h6⟩
theorem Seg.slice_nil (h : Seg w e size lo hi A 0 c cs) : cs = [] := List.eq_nil_of_length_eq_zero (by have := h.own.1; simpa using this)
end
theorem seg_out {w : World} {e : TypeId} {size lo n : Nat} {v : Value} {cs : List Value} (h : w.ownsRow lo e size v n cs) : ∃ A c, v = .slice A n c ∧ Seg w e size lo w.heap.size A n c cs := by
  obtain ⟨A, c, rfl, _, _⟩ := own_slice h
  exact ⟨A, c, rfl, Seg.of_own h⟩
end Go.Proofs.Yteidhjmnononaaa
