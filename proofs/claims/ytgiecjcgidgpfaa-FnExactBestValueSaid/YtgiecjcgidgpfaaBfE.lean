/- The program's search: what lies in memory while it runs; the cut, and a whole order. -/
import Derived.Test.YtgiecjcgidgpfaaTryP
import Derived.Test.YtgiecjcgidgpfaaExt
namespace Go.Proofs.Ytgiecjcgidgpfaa
open Go.RowKit
/-- Which jobs are in use. -/
def usedA (b : List Nat) : Array Value := #[.bool (decide (0 ∈ b)), .bool (decide (1 ∈ b)), .bool (decide (2 ∈ b)), .bool (decide (3 ∈ b)), .bool (decide (4 ∈ b)), .bool (decide (5 ∈ b)), .bool (decide (6 ∈ b)), .bool (decide (7 ∈ b))]
/-- The blocks that the search holds. -/
structure Bl where
  base : Nat
  best : Nat
  order : Nat
  jobs : Nat
  used : Nat
  meas : Nat
  ext : Nat
  arr : Nat
def ptr (b : Nat) : Value := .pointer (some ⟨b, 0, none⟩)
structure EnvB (k : Bl) (AJ : Option Addr) (cJ : Nat) (js : List J) (o : Int) (fv : Value) (w : World) (b : List Nat) (t : Bst) (A : Option Addr) (c : Nat) : Prop where
  best : BlockIs w k.best 101 #[.int .i64 t.v, .slice A t.first.length c, .int .i64 (t.n : Int)]
  first : w.ownsRow k.base 3 1 (.slice A t.first.length c) t.first.length (ic (natI t.first))
  apart : (Value.slice A t.first.length c).ownBlock ≠ some k.arr
  order : BlockIs w k.order 25 #[.slice (some ⟨k.arr, 0, none⟩) b.length js.length]
  arr : ∃ cur, BlockIs w k.arr 3 cur ∧ cur.size = js.length ∧ cur.toList.take b.length = ic (natI b)
  jobs : BlockIs w k.jobs 24 #[.slice AJ js.length cJ]
  used : BlockIs w k.used 144 (usedA b)
  meas : BlockIs w k.meas 93 #[fv, .bool (isTop o)]
  ext : BlockIs w k.ext 145 #[.func (.func 172) #[] #[ptr k.best, ptr k.order, ptr k.jobs, ptr k.used, ptr k.meas, ptr k.ext]]
def bfArgs (k : Bl) (e v : Int) : Array Value := #[.int .i64 e, .int .i64 v, ptr k.best, ptr k.order, ptr k.jobs, ptr k.used, ptr k.meas, ptr k.ext]
section
variable {k : Bl} {AJ : Option Addr} {cJ : Nat} {js : List J} {o : Int} {fv : Value} {w : World} {b : List Nat} {t : Bst} {A : Option Addr} {c : Nat}
set_option maxRecDepth 100000 in
theorem bf_cut (h : EnvB k AJ cJ js o fv w b t A c) (e v : Int) (hn : 0 < t.n) (hv : t.v < v) :
    Calls Try.prog 172 (bfArgs k e v) w fun e w' => e = .returned (.tuple #[]) ∧ w = w' := by
  have h0 := h.best.cell 0
  have h2 := h.best.cell 2
  simp at h0 h2
  have hn' : (0 : Int) < t.n := by omega
  clear h
  unfold bfArgs ptr
  go_enter Try.func172, Try.ntmps172
  go_wp2
  (try simp only [Exit.inBlock, Exit.then])
  refine bodyPost_ret (results_none rfl _ _ _) rfl ?_
  exact ⟨rfl, rfl⟩
theorem ne_type {w : World} {g g' : Nat} {t t' : TypeId} {cs cs' : Array Value} (h : BlockIs w g t cs) (h' : BlockIs w g' t' cs') (ht : t ≠ t') : g ≠ g' := fun e => by
  subst e
  unfold BlockIs at h h'
  rw [h] at h'
  injection h' with h'
  injection h' with _ h2 _
  exact ht h2
theorem BlockIs.keep_ne {w : World} {g : Nat} {t : TypeId} {cs : Array Value} (h : BlockIs w g t cs) {n : Nat} (hn : g ≠ n) (i : Nat) (u : Value) : BlockIs (w.setCell ⟨n, i, none⟩ u) g t cs := by
  unfold BlockIs at h ⊢
  rw [← h]
  exact Below.heap_setCell _ _ _ _ hn
theorem own_keep {w : World} {B n : Nat} {v : Value} {xs : List Value} {cs : Array Value} {g : Nat} {T : TypeId} (h : w.ownsRow B 3 1 v n xs) (hM : BlockIs w g T cs) (hT : 3 ≠ T) (i : Nat) (u : Value) : (w.setCell ⟨g, i, none⟩ u).ownsRow B 3 1 v n xs := by
  refine ⟨h.1, ?_⟩
  rcases h.2 with hn | ⟨k, cap, cur, hv, hB, hk, r⟩
  · exact .inl hn
  · exact .inr ⟨k, cap, cur, hv, hB, BlockIs.keep_ne (g := k) (cs := cur) hk (ne_type (g := k) hk hM hT) i u, r⟩
theorem EnvB.below (h : EnvB k AJ cJ js o fv w b t A c) {w' : World} (hb : Below w.heap.size w w') : EnvB k AJ cJ js o fv w' b t A c := by
  obtain ⟨h1, h2, h3, h4, ⟨cur, h5, h6, h7⟩, h8, h9, h10, h11⟩ := h
  exact ⟨h1.below hb, own_below h2 hb, h3, h4.below hb, ⟨cur, h5.below hb, h6, h7⟩, h8.below hb, h9.below hb, h10.below hb, h11.below hb⟩
/-- One cell of the best orders so far is written. -/
theorem EnvB.put (h : EnvB k AJ cJ js o fv w b t A c) {t' : Bst} {A' : Option Addr} {c' : Nat} (hf : w.ownsRow k.base 3 1 (.slice A' t'.first.length c') t'.first.length (ic (natI t'.first))) (ha : (Value.slice A' t'.first.length c').ownBlock ≠ some k.arr)
    {w' : World} (hw : w' = (((w.setCell ⟨k.best, 0, none⟩ (.int .i64 t'.v)).setCell ⟨k.best, 1, none⟩ (.slice A' t'.first.length c')).setCell ⟨k.best, 2, none⟩ (.int .i64 (t'.n : Int)))) : EnvB k AJ cJ js o fv w' b t' A' c' := by
  subst hw
  obtain ⟨h1, h2, h3, h4, ⟨cur, h5, h6, h7⟩, h8, h9, h10, h11⟩ := h
  have K : ∀ {g : Nat} {T : TypeId} {cs : Array Value}, BlockIs w g T cs → T ≠ 101 → BlockIs ((((w.setCell ⟨k.best, 0, none⟩ (.int .i64 t'.v)).setCell ⟨k.best, 1, none⟩ (.slice A' t'.first.length c')).setCell ⟨k.best, 2, none⟩ (.int .i64 (t'.n : Int)))) g T cs := fun hg hT =>
    ((hg.keep_ne (ne_type hg h1 hT) _ _).keep_ne (ne_type hg h1 hT) _ _).keep_ne (ne_type hg h1 hT) _ _
  refine ⟨((h1.set 0 _).set 1 _).set 2 _, ?_, ha, K h4 (by decide), ⟨cur, K h5 (by decide), h6, h7⟩, K h8 (by decide), K h9 (by decide), K h10 (by decide), K h11 (by decide)⟩
  exact own_keep (own_keep (own_keep hf h1 (by decide) _ _) (h1.set 0 _) (by decide) _ _) ((h1.set 0 _).set 1 _) (by decide) _ _
end
end Go.Proofs.Ytgiecjcgidgpfaa
