/- append, for any type of elements. -/
import Derived.Test.YteidhjmnononaaaJwJ
import Derived.Test.YteidhjmnononaaaJwQ
import Derived.Test.YteidhjmnononaaaAppW
import Derived.Test.YteidhjmnononaaaOwnSS
import Derived.Lib.AppendZeros
namespace Go.Proofs.Yteidhjmnononaaa
set_option linter.unusedSimpArgs false
set_option linter.unusedVariables false
open Go.RowKit
theorem app_gen {T e : TypeId} {i0 : TypeInfo} {z : Value} {size bytes : Nat} (ht : Try.prog.underlying T = some (.slice e)) (hi : Try.prog.info? e = some i0) (hz0 : i0.zero = some z) (hz1 : i0.size = size) (hz2 : i0.bytes = bytes) (hzs : z.cells.size = size) (hsz : 0 < size)
    {w : World} {B n m : Nat} {v : Value} {xs news : List Value} (X : Option Addr) (cx : Nat) (hown : w.ownsRow B e size v n xs) (hr : Row w X news) (hl : news.length = m * size) (h1 : ∀ u ∈ news, u.oneCell' = true) (hb1 : n + m ≤ 1000000) (hby : bytes ≤ 100) (hB : B ≤ w.heap.size) :
    ∃ v' w', (Builtin.append_ #[T, T] T #[v, .slice X m cx]).run Try.prog w = .ok v' w' ∧ w'.ownsRow B e size v' (n + m) (xs ++ news) ∧ (∀ W C, C ≤ B → Below C W w → Below C W w') ∧ ∀ g t cs, t ≠ e → BlockIs w g t cs → BlockIs w' g t cs := by
  by_cases h0 : 0 < m
  · obtain ⟨ad, rfl, _, hs⟩ := hr (by rw [hl]; exact Nat.mul_pos h0 hsz)
    obtain ⟨v', w', hrun, hown', hgrow, _⟩ := append_at (P := Try.prog) w B T T e i0 z size bytes ht hi hz0 hz1 hz2 hzs hsz v n _ hown ad m cx news hl hs h1 h0 (by unfold maxLen; omega) (by have : (n + m) * bytes ≤ 1000000 * 100 := Nat.mul_le_mul hb1 hby; omega) hB
    refine ⟨v', w', hrun, hown', fun W C hC hb => hb.grown hgrow (Nat.le_trans hC hB) (fun j hj => Nat.le_trans hC (hown.lt j hj).1), fun g t cs hne hg => ?_⟩
    exact (hgrow.block g hg.lt fun e' => by
      obtain ⟨_, _, c1, t1⟩ := own_type hown e'.symm
      exact type_ne hg t1 hne rfl).trans hg
  · obtain rfl : m = 0 := by omega
    have hy : news = [] := List.eq_nil_of_length_eq_zero (by rw [hl]; omega)
    subst hy
    refine ⟨v, w, ?_, by simpa using hown, fun _ _ _ hb => hb, fun _ _ _ _ h => h⟩
    obtain ⟨V, d, rfl, hle, _⟩ := own_slice hown
    cases V <;> cases X <;> simp [Builtin.append_, run_underlying ht, sizeOf, typeInfo, hi, Builtin.lenOf, hle, storeCells, Builtin.firstCells, loadCells, loadCellsFrom]
/-- One element more, made where nothing lay. -/
theorem app_1 {T e : TypeId} {i0 : TypeInfo} {z : Value} {size bytes : Nat} (ht : Try.prog.underlying T = some (.slice e)) (hi : Try.prog.info? e = some i0) (hz0 : i0.zero = some z) (hz1 : i0.size = size) (hz2 : i0.bytes = bytes) (hzs : z.cells.size = size) (hsz : 0 < size)
    {w : World} {B n g : Nat} {v : Value} {xs : List Value} (cs : Array Value) (hown : w.ownsRow B e size v n xs) (hg : g = w.heap.size) (hl : cs.size = size) (h1 : ∀ u ∈ cs.toList, u.oneCell' = true) (hb1 : n + 1 ≤ 1000000) (hby : bytes ≤ 100) (hB : B ≤ w.heap.size) :
    ∃ v' w', (Builtin.append_ #[T, T] T #[v, .slice (some ⟨g, 0, none⟩) 1 1]).run Try.prog (w.alloc (.cells cs e)) = .ok v' w' ∧ w'.ownsRow B e size v' (n + 1) (xs ++ cs.toList) ∧ (∀ W C, C ≤ B → Below C W w → Below C W w') ∧ ∀ g t cs, t ≠ e → BlockIs w g t cs → BlockIs w' g t cs := by
  subst hg
  have hb := (Below.refl w.heap.size w).alloc (Nat.le_refl _) (.cells cs e)
  obtain ⟨v', w', hr, ho, hk, hkb⟩ := app_gen ht hi hz0 hz1 hz2 hzs hsz (some ⟨w.heap.size, 0, none⟩) 1 (own_blw hown hb) (Row.new w e cs) (m := 1) (by simp [hl]) h1 hb1 hby (Nat.le_trans hB hb.size)
  exact ⟨v', w', hr, ho, fun W C hC hw => hk W C hC (hw.trans (hb.mono (Nat.le_trans hC hB))), fun q t cs' hne hq => hkb q t cs' hne (hq.below hb)⟩
theorem wpList_appW {P : Program} {ops : Array Oper} {rest : List Oper} {o : Oper} {a : Act} {w w' : World} {Q : Exit → Act → World → Prop} (hgd : o.guard = none) (s x : Operand) (t : TypeId)
    (ho : o.op = .call { callee := .builtin .append, args := #[s, x], argTypes := #[t, t] }) (v u r : Value) (hs : a.eval s = v) (hx : a.eval x = u) (hr : (Builtin.append_ #[t, t] o.type #[v, u]).run P w = .ok r w')
    (h : wpList P ops Q rest (a.put o.dst r) w') : wpList P ops Q (o :: rest) a w := by
  refine wpList_plain hgd fun K hK => ?_
  unfold Oper.wp execOp
  simp only [ho, resolve, invoke, builtin, Sem.run_bind, Sem.run_pure, Result.andThen_ok, List.map_toArray, List.map_cons, List.map_nil, hs, hx, hr]
  exact hK _ _ h
theorem own_kept {w W' : World} {B n size : Nat} {e : TypeId} {v : Value} {xs : List Value} (h : w.ownsRow B e size v n xs) (hk : ∀ g cs, BlockIs w g e cs → BlockIs W' g e cs) : W'.ownsRow B e size v n xs := by
  refine ⟨h.1, ?_⟩
  rcases h.2 with hn | ⟨g, cap, cur, hv, hB, hg, r⟩
  · exact .inl hn
  · exact .inr ⟨g, cap, cur, hv, hB, hk g cur hg, r⟩
theorem infoW1 : (Try.prog.info? 3).map (fun i => (i.zero, i.size, i.bytes)) = some (some (.int .i64 0), 1, 8) := by kernel_rfl
theorem infoW3 : (Try.prog.info? 65).map (fun i => (i.zero, i.size, i.bytes)) = some (some (.agg #[.int .i64 0, .int .i64 0]), 2, 16) := by kernel_rfl
theorem infoW4 : (Try.prog.info? 76).map (fun i => (i.zero, i.size, i.bytes)) = some (some (.agg #[.int .i64 0, .int .i64 0, .int .i64 0, .int .i64 0]), 4, 32) := by kernel_rfl
theorem pc_oneW {xs : List Pr} {u : Value} (hu : u ∈ pc xs) : u.oneCell' = true := by
  unfold pc at hu
  obtain ⟨x, _, h⟩ := List.mem_flatMap.1 hu
  simp only [cellsP, List.mem_cons, List.not_mem_nil, or_false] at h
  rcases h with rfl | rfl <;> rfl
theorem pc_appW (xs ys : List Pr) : pc xs ++ pc ys = pc (xs ++ ys) := by unfold pc; simp
theorem jc_appW (xs ys : List J) : jc xs ++ jc ys = jc (xs ++ ys) := by unfold jc; simp
theorem ic_appW (xs ys : List Int) : ic xs ++ ic ys = ic (xs ++ ys) := by unfold ic; simp
end Go.Proofs.Yteidhjmnononaaa
