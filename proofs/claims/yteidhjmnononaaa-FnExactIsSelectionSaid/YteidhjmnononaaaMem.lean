/- Words of ours for memory: a slice's cells as a list; a block that is known whole. -/
import Derived.Test.YteidhjmnononaaaBase
import Derived.Laws.OwnMore
import Derived.Laws.Rows
import Derived.Laws.MakeOwn
import Derived.Deep.OwnRows
import Derived.OwnWalk
import Derived.Maps.AppendAt
import Derived.WalkSpells
import Derived.WalkSmall
namespace Go.Proofs.Yteidhjmnononaaa
open Go.RowKit

/-- The cells from the address on are just these. (Nothing is asked where there are none.) -/
def Row (w : World) (A : Option Addr) (cs : List Value) : Prop :=
  0 < cs.length → ∃ ad, A = some ad ∧ ad.block < w.heap.size ∧ ∀ j u, cs[j]? = some u → w.cell? (ad.add j) = some u
theorem add_block (a : Addr) (n : Nat) : (a.add n).block = a.block := by unfold Addr.add; split <;> rfl
section
variable {w w' : World} {A : Option Addr} {cs : List Value}
theorem Row.at_ (h : Row w A cs) {k : Nat} (hk : k < cs.length) : ∃ ad, A = some ad ∧ w.cell? (ad.add k) = some cs[k] := by
  obtain ⟨ad, e, _, hc⟩ := h (by omega)
  exact ⟨ad, e, hc k _ (List.getElem?_eq_getElem hk)⟩
theorem Row.keep (h : Row w A cs) (hs : w.heap.size ≤ w'.heap.size) (hk : ∀ p : Addr, p.block < w.heap.size → w'.cell? p = w.cell? p) : Row w' A cs := fun hn => by
  obtain ⟨ad, e, hb, hc⟩ := h hn
  exact ⟨ad, e, by omega, fun j u hu => (hk _ (by rw [add_block]; exact hb)).trans (hc j u hu)⟩
theorem Row.below (h : Row w A cs) (hb : Below w.heap.size w w') : Row w' A cs := h.keep hb.size fun _ hp => hb.cell hp
theorem Row.drewN (h : Row w A cs) (n : Nat) : Row (w.drewN n) A cs := h
theorem Row.drew (h : Row w A cs) : Row w.drew A cs := h
theorem Row.alloc (h : Row w A cs) (o : Obj) : Row (w.alloc o) A cs := h.below ((Below.refl _ _).alloc (Nat.le_refl _) o)
theorem Row.nil (A : Option Addr) : Row w A [] := fun h => absurd h (by simp)
theorem Row.of_own {base : Nat} {e : TypeId} {c n size : Nat} (h : w.ownsRow base e size (.slice A n c) n cs) : Row w A cs := fun hn => by
  rcases h.2 with ⟨hv, h0⟩ | ⟨g, cap, cur, hv, hb, hg, _⟩
  · have := h.1; rw [h0] at this; omega
  · have hA : A = some ⟨g, 0, none⟩ := by injection hv
    subst hA
    have hlt : g < w.heap.size := (Array.getElem?_eq_some_iff.1 hg).1
    exact ⟨_, rfl, hlt, h.cells (g := g) rfl⟩
theorem own_slice {base : Nat} {e : TypeId} {n size : Nat} {v : Value} (h : w.ownsRow base e size v n cs) : ∃ A c, v = .slice A n c ∧ n ≤ c ∧ Row w A cs := by
  rcases id h.2 with ⟨hv, h0⟩ | ⟨g, cap, cur, hv, hb, hg, hc, _⟩
  · subst hv; subst h0; exact ⟨none, 0, rfl, Nat.le_refl _, Row.of_own h⟩
  · subst hv; exact ⟨_, cap, rfl, hc, Row.of_own h⟩
end
theorem Row.cells {w : World} {b o : Nat} {cs : List Value} (h : Row w (some ⟨b, o, none⟩) cs) (h0 : 0 < cs.length) : b < w.heap.size ∧ ∀ j u, cs[j]? = some u → w.cell? ⟨b, o + j, none⟩ = some u := by
  obtain ⟨ad, e, hb, hc⟩ := h h0
  injection e with e
  subst e
  refine ⟨hb, fun j u hu => ?_⟩
  have := hc j u hu
  unfold Addr.add at this
  by_cases hj : j = 0
  · subst hj; simpa using this
  · simpa [hj] using this
theorem Row.cell0 {w : World} {b : Nat} {cs : List Value} (h : Row w (some ⟨b, 0, none⟩) cs) {k : Nat} (hk : k < cs.length) : w.cell? ⟨b, k, none⟩ = some cs[k] := by
  have := (h.cells (by omega)).2 k _ (List.getElem?_eq_getElem hk)
  rwa [Nat.zero_add] at this
theorem lt_of_cell {w : World} {a : Addr} {v : Value} (h : w.cell? a = some v) : a.block < w.heap.size := by
  rcases Nat.lt_or_ge a.block w.heap.size with g | g
  · exact g
  · simp [World.cell?, Array.getElem?_eq_none g] at h
theorem IsStrs.row {w : World} {a : Option Addr} {len cap : Nat} {zs : List ByteArray} (h : IsStrs w a len cap zs) : Row w a ((zs.take len).map Value.string) ∧ (zs.take len).length = len ∧ len ≤ maxLen ∧ ∀ s ∈ zs.take len, s.size ≤ maxLen := by
  rcases h with ⟨rfl, rfl, rfl, rfl⟩ | ⟨x, rfl, hl, hm, hz, hc, hs⟩
  · exact ⟨Row.nil _, rfl, Nat.zero_le _, by simp⟩
  · refine ⟨fun hn => ⟨x, rfl, ?_, fun j u hu => ?_⟩, by simp; omega, by omega, fun s h => hs s (List.mem_of_mem_take h)⟩
    · have h0 : 0 < zs.length := by simp at hn; omega
      have := lt_of_cell (hc 0 h0)
      rwa [add_block] at this
    · rw [List.getElem?_map, Option.map_eq_some_iff] at hu
      obtain ⟨s, h1, rfl⟩ := hu
      obtain ⟨h2, h3⟩ := List.getElem?_eq_some_iff.1 h1
      have hj : j < zs.length := by simp at h2; omega
      rw [hc j hj]
      rw [List.getElem_take] at h3
      subst h3
      simp [List.getD, hj]

/-- A block that holds just these cells, none frozen. -/
def BlockIs (w : World) (g : Nat) (t : TypeId) (cs : Array Value) : Prop := w.heap[g]? = some (.cells cs t (0, 0))
section
variable {w w' : World} {g : Nat} {t : TypeId} {cs : Array Value}
theorem BlockIs.lt (h : BlockIs w g t cs) : g < w.heap.size := (Array.getElem?_eq_some_iff.1 h).1
theorem BlockIs.cell (h : BlockIs w g t cs) (i : Nat) : w.cell? ⟨g, i, none⟩ = cs[i]? := cell_of_row w g i cs t (0, 0) h
theorem BlockIs.frozen (h : BlockIs w g t cs) (i : Nat) : w.frozen? ⟨g, i, none⟩ = false := by unfold BlockIs at h; simp [World.frozen?, h]
theorem BlockIs.new (w : World) (t : TypeId) (cs : Array Value) : BlockIs (w.alloc (.cells cs t)) w.heap.size t cs := heap_alloc_new w _
theorem BlockIs.drew (h : BlockIs w g t cs) : BlockIs w.drew g t cs := h
theorem BlockIs.drewN (h : BlockIs w g t cs) (n : Nat) : BlockIs (w.drewN n) g t cs := h
theorem BlockIs.below (h : BlockIs w g t cs) (hb : Below w.heap.size w w') : BlockIs w' g t cs := (hb.block g h.lt).trans h
theorem BlockIs.set (h : BlockIs w g t cs) (i : Nat) (u : Value) : BlockIs (w.setCell ⟨g, i, none⟩ u) g t (cs.setIfInBounds i u) := by
  unfold BlockIs at h ⊢
  simp [World.setCell, Array.getElem?_modify, h]
theorem BlockIs.own (h : BlockIs w g t cs) {base n c size : Nat} (hb : base ≤ g) (hs : cs.size = c * size) (hn : n ≤ c) (hm : c ≤ maxLen) (hsz : n * size ≤ cs.size) : w.ownsRow base t size (.slice (some ⟨g, 0, none⟩) n c) n (cs.toList.take (n * size)) :=
  ⟨by simp; omega, .inr ⟨g, c, cs, rfl, hb, h, hn, hm, hs, rfl⟩⟩
end
theorem own_block {w : World} {base : Nat} {e : TypeId} {n size : Nat} {A : Option Addr} {c : Nat} {cs : List Value} (h : w.ownsRow base e size (.slice A n c) n cs) (hn : 0 < n) :
    ∃ g cur, A = some ⟨g, 0, none⟩ ∧ base ≤ g ∧ BlockIs w g e cur ∧ n ≤ c ∧ c ≤ maxLen ∧ cur.size = c * size ∧ cur.toList.take (n * size) = cs := by
  rcases h.2 with ⟨hv, h0⟩ | ⟨g, cap, cur, hv, hb, hg, h1, h2, h3, h4⟩
  · omega
  · injection hv with e1 e2 e3
    subst e1; subst e3
    exact ⟨g, cur, rfl, hb, hg, h1, h2, h3, h4⟩
theorem Row.new (w : World) (t : TypeId) (cs : Array Value) : Row (w.alloc (.cells cs t)) (some ⟨w.heap.size, 0, none⟩) cs.toList := fun _ =>
  ⟨_, rfl, by simp, fun j u hu => by
    have h := (BlockIs.new w t cs).cell j
    unfold Addr.add
    by_cases hj : j = 0
    · subst hj; rw [if_pos rfl, h, ← Array.getElem?_toList]; exact hu
    · rw [if_neg hj]; simp only [Nat.zero_add]; rw [h, ← Array.getElem?_toList]; exact hu⟩
theorem alloc_grown (w : World) (o : Obj) (r : Option Nat) : w.grownBy (w.alloc o) r := World.grownBy_alloc w o r
end Go.Proofs.Yteidhjmnononaaa
