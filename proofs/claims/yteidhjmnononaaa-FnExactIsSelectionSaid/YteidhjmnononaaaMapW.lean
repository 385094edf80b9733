/- Words of ours for maps with int keys that the call made. -/
import Derived.Test.YteidhjmnononaaaMem
import Derived.MapKept
namespace Go.Proofs.Yteidhjmnononaaa
open Go.RowKit

/-- A block is a map that holds just these keys with these values, in the order in which they came. -/
def MapOf (w : World) (g : Nat) (kvs : List (Int × Value)) : Prop :=
  ∃ es clock, w.heap[g]? = some (.map es clock) ∧ es.toList.map (fun e => (e.key, e.val)) = kvs.map fun p => (Value.int .i64 p.1, p.2)
def getM : List (Int × Value) → Int → Option Value
  | [], _ => none
  | p :: kvs, x => if p.1 = x then some p.2 else getM kvs x
theorem find_getM (x : Int) : ∀ (es : List MapEntry) (kvs : List (Int × Value)) (i : Nat), es.map (fun e => (e.key, e.val)) = kvs.map (fun p => (Value.int .i64 p.1, p.2)) → ∃ r, Instr.findNow (.int .i64) (.int .i64 x) es i = some r ∧ r.map (·.2) = getM kvs x
  | [], [], _, _ => ⟨none, rfl, rfl⟩
  | [], _ :: _, _, h => by cases h
  | _ :: _, [], _, h => by cases h
  | e :: es, p :: kvs, i, h => by
    simp only [List.map_cons, List.cons.injEq, Prod.mk.injEq] at h
    obtain ⟨⟨hk, hv⟩, ht⟩ := h
    by_cases hx : p.1 = x
    · refine ⟨some (i, e.val), ?_, ?_⟩
      · simp [Instr.findNow, Instr.sameNow, hk, hx]
      · simp [getM, hx, hv]
    · obtain ⟨r, h1, h2⟩ := find_getM x es kvs (i + 1) ht
      refine ⟨r, ?_, ?_⟩
      · have hne : (x == p.1) = false := by simp; exact fun e => hx e.symm
        simp [Instr.findNow, Instr.sameNow, hk, h1, hne]
      · simp [getM, hx, h2]
section
variable {P : Program} {w w' : World} {g : Nat} {kvs : List (Int × Value)} {t k e : TypeId}
theorem MapOf.lt (h : MapOf w g kvs) : g < w.heap.size := by
  obtain ⟨es, clock, hb, _⟩ := h
  exact (Array.getElem?_eq_some_iff.1 hb).1
theorem MapOf.new (w : World) : MapOf (w.alloc (.map #[] 0)) w.heap.size [] := ⟨#[], 0, heap_alloc_new w _, rfl⟩
theorem MapOf.below (h : MapOf w g kvs) (hb : Below w.heap.size w w') : MapOf w' g kvs := by
  have hlt := h.lt
  obtain ⟨es, clock, h1, h2⟩ := h
  exact ⟨es, clock, (hb.block g hlt).trans h1, h2⟩
theorem MapOf.drew (h : MapOf w g kvs) : MapOf w.drew g kvs := h
theorem MapOf.grown {r : Option Nat} (h : MapOf w g kvs) (hg : w.grownBy w' r) (hne : some g ≠ r) : MapOf w' g kvs := by
  have hlt := h.lt
  obtain ⟨es, clock, h1, h2⟩ := h
  exact ⟨es, clock, (hg.block g hlt hne).trans h1, h2⟩
theorem MapOf.look (h : MapOf w g kvs) (ht : P.underlying t = some (.map k e)) (hk : P.underlying k = some (.int .i64)) (x : Int) {z : Value} (hz : (zeroValue e).run P w = .ok z w) :
    (Instr.lookup t (.map (some g)) (.int .i64 x) false).run P w = .ok ((getM kvs x).getD z) w := by
  obtain ⟨es, clock, hb, he⟩ := h
  obtain ⟨r, h1, h2⟩ := find_getM x es.toList kvs 0 he
  have h3 := MapKept.run_findKey (P := P) (w := w) hk h1
  have h4 := MapKept.run_checkKey (P := P) (w := w) (kt := k) (k := .int .i64 x) hk (by simp [MapKept.IsKey]) es.isEmpty 9999
  rw [← h2]
  cases r with
  | none => simp [Instr.lookup, run_underlying ht, MapKept.run_getObj_map hb, h4, h3, hz, Result.andThen]
  | some r => simp [Instr.lookup, run_underlying ht, MapKept.run_getObj_map hb, h4, h3, Result.andThen]
theorem MapOf.look_ok (h : MapOf w g kvs) (ht : P.underlying t = some (.map k e)) (hk : P.underlying k = some (.int .i64)) (x : Int) {z : Value} (hz : (zeroValue e).run P w = .ok z w) :
    (Instr.lookup t (.map (some g)) (.int .i64 x) true).run P w = .ok (.tuple #[(getM kvs x).getD z, .bool (getM kvs x).isSome]) w := by
  obtain ⟨es, clock, hb, he⟩ := h
  obtain ⟨r, h1, h2⟩ := find_getM x es.toList kvs 0 he
  have h3 := MapKept.run_findKey (P := P) (w := w) hk h1
  have h4 := MapKept.run_checkKey (P := P) (w := w) (kt := k) (k := .int .i64 x) hk (by simp [MapKept.IsKey]) es.isEmpty 9999
  rw [← h2]
  cases r with
  | none => simp [Instr.lookup, run_underlying ht, MapKept.run_getObj_map hb, h4, h3, hz, Result.andThen]
  | some r => simp [Instr.lookup, run_underlying ht, MapKept.run_getObj_map hb, h4, h3, Result.andThen]
theorem MapOf.put (h : MapOf w g kvs) (ht : P.underlying t = some (.map k e)) (hk : P.underlying k = some (.int .i64)) (x : Int) (v : Value) (hx : getM kvs x = none) :
    ∃ w', (Instr.mapUpdate t (.map (some g)) (.int .i64 x) v).run P w = .ok () w' ∧ MapOf w' g (kvs ++ [(x, v)]) ∧ w.grownBy w' (some g) ∧ w'.heap.size = w.heap.size := by
  obtain ⟨es, clock, hb, he⟩ := h
  obtain ⟨r, h1, h2⟩ := find_getM x es.toList kvs 0 he
  have h3 := MapKept.run_findKey (P := P) (w := w) hk h1
  have h4 := MapKept.run_checkKey (P := P) (w := w) (kt := k) (k := .int .i64 x) hk (by simp [MapKept.IsKey]) false 9999
  cases r with
  | some r => rw [hx] at h2; cases h2
  | none =>
    refine ⟨{ w with heap := w.heap.setIfInBounds g (.map (es.push { key := .int .i64 x, val := v, born := clock }) (clock + 1)) }, by simp [Instr.mapUpdate, run_underlying ht, MapKept.run_getObj_map hb, h4, h3, MapKept.run_setObj_map _ hb, Result.andThen], ⟨_, _, (MapKept.heap_set hb).1, ?_⟩, ⟨rfl, rfl, rfl, by simp, fun i _ hi => (MapKept.heap_set hb).2 i (fun e => hi (by rw [e]))⟩, by simp⟩
    simp [he]
theorem run_makeMap_hint (ht : P.underlying t = some (.map k e)) (q : IntKind) (n : Int) (w : World) : (Instr.makeMap t (some (.int q n))).run P w = .ok (.map (some w.heap.size)) (w.alloc (.map #[] 0)) := by
  simp [Instr.makeMap, run_underlying ht, asInt, asIntOf, Result.andThen]
end
end Go.Proofs.Yteidhjmnononaaa
