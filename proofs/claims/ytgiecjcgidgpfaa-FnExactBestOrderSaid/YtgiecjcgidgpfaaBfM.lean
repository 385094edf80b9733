/- The program's search: what a job that is put behind a beginning, and taken away again, does to what lies in memory. -/
import Derived.Test.YtgiecjcgidgpfaaBfL
import Derived.Test.YtgiecjcgidgpfaaBfP
import Derived.Laws.CopyOwn
import Derived.Laws.Tables
namespace Go.Proofs.Ytgiecjcgidgpfaa
open Go.RowKit
theorem wpList_append_run {P : Program} {ops : Array Oper} {rest : List Oper} {o : Oper} {a : Act} {w w' : World} {Q : Exit → Act → World → Prop} (hgd : o.guard = none) (s x : Operand) (t : TypeId)
    (ho : o.op = .call { callee := .builtin .append, args := #[s, x], argTypes := #[t, t] }) (v u r : Value) (hs : a.eval s = v) (hx : a.eval x = u) (hr : (Builtin.append_ #[t, t] o.type #[v, u]).run P w = .ok r w')
    (h : wpList P ops Q rest (a.put o.dst r) w') : wpList P ops Q (o :: rest) a w := by
  refine wpList_plain hgd fun K hK => ?_
  unfold Oper.wp execOp
  simp only [ho, resolve, invoke, builtin, Sem.run_bind, Sem.run_pure, Result.andThen_ok, List.map_toArray, List.map_cons, List.map_nil, hs, hx, hr]
  exact hK _ _ h
theorem usedA_get (b : List Nat) (k : Nat) (h : k < 8) : (usedA b)[k]? = some (.bool (decide (k ∈ b))) := by
  unfold usedA
  rcases (by omega : k = 0 ∨ k = 1 ∨ k = 2 ∨ k = 3 ∨ k = 4 ∨ k = 5 ∨ k = 6 ∨ k = 7) with rfl | rfl | rfl | rfl | rfl | rfl | rfl | rfl <;> rfl
theorem usedA_size (b : List Nat) : (usedA b).size = 8 := rfl
theorem usedA_eq {cs : Array Value} {b : List Nat} (hs : cs.size = 8) (h : ∀ k, k < 8 → cs[k]? = some (.bool (decide (k ∈ b)))) : cs = usedA b := by
  apply Array.ext_getElem?
  intro i
  by_cases hi : i < 8
  · rw [h i hi, usedA_get b i hi]
  · rw [Array.getElem?_eq_none (by omega), Array.getElem?_eq_none (by rw [usedA_size]; omega)]
theorem usedA_push (b : List Nat) (j : Nat) (h : j < 8) : (usedA b).setIfInBounds j (.bool true) = usedA (b ++ [j]) := by
  refine usedA_eq (by simp [usedA_size]) fun k hk => ?_
  rw [Array.getElem?_setIfInBounds]
  by_cases e : j = k
  · subst e; rw [if_pos rfl, if_pos (by rw [usedA_size]; exact h)]; simp
  · rw [if_neg e, usedA_get b k hk]
    congr 2
    rw [decide_eq_decide]
    simp
    exact fun e' => absurd e'.symm e
theorem usedA_pop (b : List Nat) (j : Nat) (h : j < 8) (hb : j ∉ b) : (usedA (b ++ [j])).setIfInBounds j (.bool false) = usedA b := by
  refine usedA_eq (by simp [usedA_size]) fun k hk => ?_
  rw [Array.getElem?_setIfInBounds]
  by_cases e : j = k
  · subst e; rw [if_pos rfl, if_pos (by rw [usedA_size]; exact h)]; simp [hb]
  · rw [if_neg e, usedA_get _ k hk]
    congr 2
    rw [decide_eq_decide]
    simp
    exact fun e' => absurd e'.symm e
section
variable {k : Bl} {AJ : Option Addr} {cJ : Nat} {js : List J} {o : Int} {fv : Value} {w : World} {b : List Nat} {t : Bst} {A : Option Addr} {c : Nat}
/-- The order's cell and a cell of those in use are written. -/
theorem EnvB.swap {b' : List Nat} (h : EnvB k AJ cJ js o fv w b t A c) (j : Nat) (u : Value) (hu : (usedA b).setIfInBounds j u = usedA b') (harr : ∃ cur, BlockIs w k.arr 3 cur ∧ cur.size = js.length ∧ cur.toList.take b'.length = ic (natI b')) :
    EnvB k AJ cJ js o fv ((w.setCell ⟨k.order, 0, none⟩ (.slice (some ⟨k.arr, 0, none⟩) b'.length js.length)).setCell ⟨k.used, j, none⟩ u) b' t A c := by
  obtain ⟨h1, h2, h3, h4, _, h8, h9, h10, h11⟩ := h
  obtain ⟨cur, h5, h6, h7⟩ := harr
  have hou : k.order ≠ k.used := ne_type h4 h9 (by decide)
  have K : ∀ {g : Nat} {T : TypeId} {cs : Array Value}, BlockIs w g T cs → T ≠ 25 → T ≠ 144 → BlockIs ((w.setCell ⟨k.order, 0, none⟩ (.slice (some ⟨k.arr, 0, none⟩) b'.length js.length)).setCell ⟨k.used, j, none⟩ u) g T cs := fun hg hT hT' =>
    (hg.keep_ne (ne_type hg h4 hT) _ _).keep_ne (ne_type hg h9 hT') _ _
  have h9' := ((h9.keep_ne hou.symm 0 (.slice (some ⟨k.arr, 0, none⟩) b'.length js.length))).set j u
  rw [hu] at h9'
  have h4' := ((h4.set 0 (.slice (some ⟨k.arr, 0, none⟩) b'.length js.length))).keep_ne hou j u
  exact ⟨K h1 (by decide) (by decide), own_keep (own_keep h2 h4 (by decide) _ _) (h9.keep_ne hou.symm 0 _) (by decide) _ _, h3, h4', ⟨cur, K h5 (by decide) (by decide), h6, h7⟩, K h8 (by decide) (by decide), h9', K h10 (by decide) (by decide), K h11 (by decide) (by decide)⟩
/-- A job behind the beginning: the array's next cell becomes it, where it lies. -/
theorem EnvB.push_run (h : EnvB k AJ cJ js o fv w b t A c) (hba : k.base ≤ k.arr) (j : Nat) (hl : b.length < js.length) :
    ∃ w3, (Builtin.append_ #[25, 25] 25 #[.slice (some ⟨k.arr, 0, none⟩) b.length js.length, .slice (some ⟨w.heap.size, 0, none⟩) 1 1]).run Try.prog (w.alloc (.cells #[.int .i64 (j : Int)] 3)) = .ok (.slice (some ⟨k.arr, 0, none⟩) (b.length + 1) js.length) w3 ∧
      w3.heap.size = w.heap.size + 1 ∧ Below k.base w w3 ∧ EnvB k AJ cJ js o fv w3 b t A c ∧ ∃ cur, BlockIs w3 k.arr 3 cur ∧ cur.size = js.length ∧ cur.toList.take (b ++ [j]).length = ic (natI (b ++ [j])) := by
  obtain ⟨i0, hi, hz0, hz1, hz2⟩ := info_parts infoI
  have ha := (Below.refl w.heap.size w).alloc (Nat.le_refl _) (.cells #[.int .i64 (j : Int)] 3)
  have hE := h.below ha
  have hlt : k.arr < w.heap.size := by obtain ⟨cur, h5, _⟩ := h.arr; exact h5.lt
  obtain ⟨h1, h2, h3, h4, ⟨cur, h5, h6, h7⟩, hj, h9, h10, h11⟩ := hE
  have hnew := Row.new w 3 #[.int .i64 (j : Int)]
  have hrun := run_append_room (P := Try.prog) (w := w.alloc (.cells #[.int .i64 (j : Int)] 3)) 25 25 3 i0 Try.underlying25 hi k.arr b.length js.length cur h5 ⟨w.heap.size, 0, none⟩ 1 1 [.int .i64 (j : Int)] (by rw [hz1]; rfl) (row_src hnew) (by intro u hu; rw [List.mem_singleton.1 hu]; rfl) (by omega) (by rw [hz1]; simp; omega)
  rw [hz1, Nat.mul_one] at hrun
  have hsr : BlockIs ((w.alloc (.cells #[.int .i64 (j : Int)] 3)).setRow k.arr (cur.toList.take b.length ++ [Value.int .i64 (j : Int)] ++ cur.toList.drop (b.length + [Value.int .i64 (j : Int)].length)).toArray) k.arr 3 (cur.toList.take b.length ++ [Value.int .i64 (j : Int)] ++ cur.toList.drop (b.length + [Value.int .i64 (j : Int)].length)).toArray := setRow_heap _ _ _ _ _ _ h5
  have hother : ∀ g, g ≠ k.arr → ((w.alloc (.cells #[.int .i64 (j : Int)] 3)).setRow k.arr (cur.toList.take b.length ++ [Value.int .i64 (j : Int)] ++ cur.toList.drop (b.length + [Value.int .i64 (j : Int)].length)).toArray).heap[g]? = (w.alloc (.cells #[.int .i64 (j : Int)] 3)).heap[g]? := fun g hg => setRow_other _ _ _ _ hg
  have hb' := below_setRow (B := k.base) (g := k.arr) (w0 := w) (w := w.alloc (.cells #[.int .i64 (j : Int)] 3)) ((Below.refl k.base w).alloc (by omega) _) hba (cur.toList.take b.length ++ [Value.int .i64 (j : Int)] ++ cur.toList.drop (b.length + [Value.int .i64 (j : Int)].length)).toArray
  have htk : (cur.toList.take b.length ++ [Value.int .i64 (j : Int)] ++ cur.toList.drop (b.length + [Value.int .i64 (j : Int)].length)).toArray.toList.take b.length = ic (natI b) := by
    rw [List.append_assoc, List.take_append_of_le_length (by simp; omega)]
    rw [List.take_take, Nat.min_self]; exact h7
  have htk1 : (cur.toList.take b.length ++ [Value.int .i64 (j : Int)] ++ cur.toList.drop (b.length + [Value.int .i64 (j : Int)].length)).toArray.toList.take (b ++ [j]).length = ic (natI (b ++ [j])) := by
    have e1 : (cur.toList.take b.length).length = b.length := by simp; omega
    rw [List.take_append_of_le_length (by simp; omega), List.take_of_length_le (by simp; omega), h7, natI_snoc]
    unfold ic; simp
  have hsz : (cur.toList.take b.length ++ [Value.int .i64 (j : Int)] ++ cur.toList.drop (b.length + [Value.int .i64 (j : Int)].length)).toArray.size = js.length := by
    simp; omega
  generalize hcur : (cur.toList.take b.length ++ [Value.int .i64 (j : Int)] ++ cur.toList.drop (b.length + [Value.int .i64 (j : Int)].length)).toArray = cur' at *
  have K : ∀ {g : Nat} {T : TypeId} {cs : Array Value}, BlockIs (w.alloc (.cells #[.int .i64 (j : Int)] 3)) g T cs → T ≠ 3 → BlockIs ((w.alloc (.cells #[.int .i64 (j : Int)] 3)).setRow k.arr cur') g T cs := fun hg hT => (hother _ (ne_type hg h5 hT)).trans hg
  refine ⟨_, hrun, by simp [World.setRow], hb', ⟨K h1 (by decide), ?_, h3, K h4 (by decide), ⟨cur', hsr, hsz, htk⟩, K hj (by decide), K h9 (by decide), K h10 (by decide), K h11 (by decide)⟩, cur', hsr, hsz, htk1⟩
  refine ⟨h2.1, ?_⟩
  rcases h2.2 with hn | ⟨g, cap, cu, hv, hB, hk, r⟩
  · exact .inl hn
  · refine .inr ⟨g, cap, cu, hv, hB, (hother g fun e => ?_).trans hk, r⟩
    apply h3
    rw [hv, e]; rfl
theorem EnvB.arr_pop {j : Nat} (h : EnvB k AJ cJ js o fv w (b ++ [j]) t A c) : ∃ cur, BlockIs w k.arr 3 cur ∧ cur.size = js.length ∧ cur.toList.take b.length = ic (natI b) := by
  obtain ⟨cur, h1, h2, h3⟩ := h.arr
  refine ⟨cur, h1, h2, ?_⟩
  have e : cur.toList.take b.length = (cur.toList.take (b ++ [j]).length).take b.length := by rw [List.take_take]; congr 1; simp
  rw [e, h3, natI_snoc]
  unfold ic
  simp
end
end Go.Proofs.Ytgiecjcgidgpfaa
