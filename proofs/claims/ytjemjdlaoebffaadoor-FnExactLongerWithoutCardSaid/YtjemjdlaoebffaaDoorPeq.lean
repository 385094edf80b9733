/- Two precedences compared: the program's struct of an int and an array. -/
import Derived.Test.YtjemjdlaoebffaaDoorBfa
import Derived.ChangeKeysEq
namespace Go.Proofs.YtjemjdlaoebffaaDoor
open Go.RowKit
def uc (xs : List Int) : List Value := xs.map (Value.int .u64)
theorem forIn_geU {P : Program} {e : TypeId} (w : World) (xs ys : List Int) (D : Nat) (hE : ∀ a b : Int, (Op.equalIn D e (.int .u64 a) (.int .u64 b)).run P w = .ok (a == b) w) (hk : P.plainKey e = true) (hl : xs.length = ys.length) : ∀ (l : List Nat), (∀ i ∈ l, i < xs.length) →
    (forIn (m := Sem) l ((none, ()) : Option Bool × Unit) fun i _ => do
        let a ← part e (uc xs).toArray (i * 1)
        let b ← part e (uc ys).toArray (i * 1)
        let r ← Op.equalIn D e a b
        if (!r) = true then pure (.done (some false, ())) else pure (.yield (none, ()))).run P w = .ok (if l.all (fun i => xs.getD i 0 == ys.getD i 0) then (none, ()) else (some false, ())) w
  | [], _ => by simp
  | i :: l, h => by
    have hi := h i List.mem_cons_self
    have hx : (uc xs).toArray[i * 1]? = some (.int .u64 (xs.getD i 0)) := by simp [uc, hi]
    have hy : (uc ys).toArray[i * 1]? = some (.int .u64 (ys.getD i 0)) := by simp [uc, hl ▸ hi]
    have ih := forIn_geU w xs ys D hE hk hl l (fun j hj => h j (List.mem_cons_of_mem _ hj))
    simp only [List.forIn_cons, Sem.run_bind, run_part_plain w hk hx, run_part_plain w hk hy, Result.andThen_ok, hE]
    rw [List.all_cons]
    generalize (xs.getD i 0 == ys.getD i 0) = b
    cases b
    · simp
    · simp only [Bool.not_true, Bool.false_eq_true, if_false, Sem.run_pure, Result.andThen_ok, Bool.true_and]
      exact ih
theorem all_eqU {xs ys : List Int} (h : xs.length = ys.length) : (List.range xs.length).all (fun i => xs.getD i 0 == ys.getD i 0) = decide (xs = ys) := by
  rw [Bool.eq_iff_iff, List.all_eq_true, decide_eq_true_iff]
  constructor
  · intro hall
    apply List.ext_getElem h
    intro i h1 h2
    have := hall i (List.mem_range.2 h1)
    rw [beq_iff_eq, List.getD_eq_getElem?_getD, List.getD_eq_getElem?_getD, List.getElem?_eq_getElem h1, List.getElem?_eq_getElem h2] at this
    exact this
  · rintro rfl i _
    simp
theorem run_eq_arrUD {P : Program} {t e : TypeId} {i : TypeInfo} (xs ys : List Int) (w : World) (n D : Nat) (ht : P.underlying t = some (.array n e)) (hE : ∀ a b : Int, (Op.equalIn D e (.int .u64 a) (.int .u64 b)).run P w = .ok (a == b) w) (hi : P.info? e = some i) (hc : P.cellsOf e = 1) (hk : P.plainKey e = true) (hx : xs.length = n) (hy : ys.length = n) :
    (Op.equalIn (D + 1) t (.agg (uc xs).toArray) (.agg (uc ys).toArray)).run P w = .ok (decide (xs = ys)) w := by
  have := forIn_geU w xs ys D hE hk (hx.trans hy.symm) (List.range n) (fun j hj => by rw [hx]; exact List.mem_range.1 hj)
  simp only [Op.equalIn, Sem.run_bind, run_underlying ht, Result.andThen_ok, run_sizeOf w hi, hc, Std.Legacy.Range.forIn_eq_forIn_range']
  rw [show List.range' ([:n] : Std.Legacy.Range).start ([:n] : Std.Legacy.Range).size ([:n] : Std.Legacy.Range).step = List.range n by simp [Std.Legacy.Range.size, List.range_eq_range']]
  rw [this, ← hx, all_eqU (hx.trans hy.symm)]
  cases hd : decide (xs = ys) <;> simp
theorem run_eq_arrU {P : Program} {t e : TypeId} {i : TypeInfo} (xs ys : List Int) (w : World) (n d : Nat) (ht : P.underlying t = some (.array n e)) (he : P.underlying e = some (.int .u64)) (hi : P.info? e = some i) (hc : P.cellsOf e = 1) (hk : P.plainKey e = true) (hx : xs.length = n) (hy : ys.length = n) :
    (Op.equalIn (d + 2) t (.agg (uc xs).toArray) (.agg (uc ys).toArray)).run P w = .ok (decide (xs = ys)) w :=
  run_eq_arrUD xs ys w n (d + 1) ht (fun a b => run_equalIn_int w d e .u64 .u64 a b he) hi hc hk hx hy
def listP (B : Nat → Nat) : List Int := [(B 0 : Int), (B 1 : Int), (B 2 : Int), (B 3 : Int), (B 4 : Int), (B 5 : Int), (B 6 : Int), (B 7 : Int)]
theorem listP_eq (B C : Nat → Nat) : listP B = listP C ↔ ∀ i, i < 8 → B i = C i := by
  unfold listP
  simp only [List.cons.injEq, and_true]
  constructor
  · rintro ⟨h0, h1, h2, h3, h4, h5, h6, h7⟩ i hi
    rcases (by omega : i = 0 ∨ i = 1 ∨ i = 2 ∨ i = 3 ∨ i = 4 ∨ i = 5 ∨ i = 6 ∨ i = 7) with rfl | rfl | rfl | rfl | rfl | rfl | rfl | rfl <;> omega
  · intro h
    have h0 := h 0 (by omega)
    have h1 := h 1 (by omega)
    have h2 := h 2 (by omega)
    have h3 := h 3 (by omega)
    have h4 := h 4 (by omega)
    have h5 := h 5 (by omega)
    have h6 := h 6 (by omega)
    have h7 := h 7 (by omega)
    omega
theorem infoJS : (Tryd.prog.info? 69).map (fun i => i.size) = some 1 := by kernel_rfl
theorem run_eqP (B C : Nat → Nat) (w : World) : (Op.equalIn 9999 79 (.agg #[.int .u64 (B 0 : Int), .int .u64 (B 1 : Int), .int .u64 (B 2 : Int), .int .u64 (B 3 : Int), .int .u64 (B 4 : Int), .int .u64 (B 5 : Int), .int .u64 (B 6 : Int), .int .u64 (B 7 : Int)]) (.agg #[.int .u64 (C 0 : Int), .int .u64 (C 1 : Int), .int .u64 (C 2 : Int), .int .u64 (C 3 : Int), .int .u64 (C 4 : Int), .int .u64 (C 5 : Int), .int .u64 (C 6 : Int), .int .u64 (C 7 : Int)])).run Tryd.prog w = .ok (decide (listP B = listP C)) w := by
  obtain ⟨i, hi, _⟩ := Option.map_eq_some_iff.1 infoJS
  exact run_eq_arrU (P := Tryd.prog) (listP B) (listP C) w 8 9997 Tryd.underlying79 Tryd.underlying69 hi (by kernel_rfl) (by kernel_rfl) rfl rfl
end Go.Proofs.YtjemjdlaoebffaaDoor
