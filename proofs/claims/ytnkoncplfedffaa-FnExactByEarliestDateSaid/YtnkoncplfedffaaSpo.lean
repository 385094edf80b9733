/- The split schedule of an order: SplitOf of both. -/
import Derived.Test.YtnkoncplfedffaaSpn
import Derived.Test.YtnkoncplfedffaaRst
import Derived.Test.YtnkoncplfedffaaSched
import Derived.Test.YtnkoncplfedffaaEndsO
import Derived.Test.YtnkoncplfedffaaAppW
import Derived.Test.YtnkoncplfedffaaRegInv
import Derived.Test.YtnkoncplfedffaaSetB
import Derived.Test.YtnkoncplfedffaaValP
namespace Go.Proofs.Ytnkoncplfedffaa
open Go.RowKit
def spOfL (js : List J) (p : List Nat) : List Sp := p.map fun (j : Nat) => ⟨(j : Int), (startsL js p).getD j 0, (endsL js p).getD j 0⟩
def spOfR (js : List J) (o : List Int) : List Sp × Bool := if twoB js o then (spOfL js (natsOf o), true) else ([], false)
theorem spOfL_len (js : List J) (p : List Nat) : (spOfL js p).length = p.length := by unfold spOfL; simp
theorem spOfR_len (js : List J) (o : List Int) : (spOfR js o).1.length ≤ 8 := by
  unfold spOfR
  cases h : twoB js o
  · simp
  · obtain ⟨hg, p, _, hp, hpo⟩ := two_out h
    have h8 := (good_out hg).1
    have hpl : p.length = js.length := by simpa using hp.length_eq
    simp only [if_true, spOfL_len, hpo]; omega
theorem spOfL_at (js : List J) (p : List Nat) (k : Nat) (hk : k < p.length) : (spOfL js p)[k]'(by rw [spOfL_len]; exact hk) = ⟨(p[k] : Int), (startsL js p).getD p[k] 0, (endsL js p).getD p[k] 0⟩ := by
  unfold spOfL; simp
theorem spc_append (xs ys : List Sp) : spc (xs ++ ys) = spc xs ++ spc ys := by unfold spc; simp
theorem spc_take_snoc (xs : List Sp) (k : Nat) (hk : k < xs.length) : spc (xs.take k) ++ cellsSp xs[k] = spc (xs.take (k + 1)) := by
  rw [List.take_succ_eq_append_getElem hk, spc_append]
  rfl
theorem ret_emptyT {w w1 : World} {r : List Sp × Bool} (hr : r = ([], false)) (hb : Below w.heap.size w w1) (e : Ending) (he : e = .returned (.tuple #[.slice (some ⟨w1.heap.size, 0, none⟩) 0 0, .bool false])) : RetTB w r e (w1.alloc (.cells #[] 67)) := by
  subst hr he
  have h := BlockIs.new w1 67 #[]
  have := h.own (base := w.heap.size) (n := 0) (c := 0) (size := 3) hb.size rfl (Nat.le_refl _) (by unfold maxLen; omega) (by simp)
  exact ⟨_, 0, rfl, Seg.of_own this, hb.alloc hb.size _⟩
theorem ret_ownT {w w' : World} {r : List Sp × Bool} {xs : List Sp} {v : Value} {n : Nat} {b : Bool} (hr : r = (xs, b)) (hn : xs.length = n) (ho : w'.ownsRow w.heap.size 67 3 v n (spc xs)) (hb : Below w.heap.size w w') (e : Ending) (he : e = .returned (.tuple #[v, .bool b])) : RetTB w r e w' := by
  subst hr hn
  obtain ⟨A, c, rfl, hs⟩ := seg_out ho
  subst he
  exact ⟨A, c, rfl, hs, hb⟩
section
variable (A B : Option Addr) (c d : Nat) (js : List J) (o : List Int) (w : World) (hr : Row w A (jc js)) (hq : Row w B (ic o)) (hn : js.length ≤ 10000000) (hm : o.length ≤ 10000000)
include hr hq hn hm
omit hn hm hr hq in
theorem infoSp_parts : ∃ i : TypeInfo, Try.prog.info? 67 = some i ∧ i.zero = some (.agg #[.int .i64 0, .int .i64 0, .int .i64 0]) ∧ i.size = 3 ∧ i.bytes = 24 := by
  obtain ⟨i, hi, hzz⟩ := Option.map_eq_some_iff.1 infoSp
  simp only [Prod.mk.injEq] at hzz
  exact ⟨i, hi, hzz.1, hzz.2.1, hzz.2.2⟩
omit hn hm hr hq in
theorem exec_appendS {P : Program} {o : Oper} {ev : Operand → Value} {s x : Operand} {t : TypeId} {v u r : Value} {w w' : World} (ho : o.op = .call { callee := .builtin .append, args := #[s, x], argTypes := #[t, t] }) (hs : ev s = v) (hx : ev x = u) (hr : (Builtin.append_ #[t, t] o.type #[v, u]).run P w = .ok r w') : (execOp ev o).run P w = .ok (.value r) w' := by
  unfold execOp
  simp only [ho, resolve, invoke, builtin, Sem.run_bind, Sem.run_pure, Result.andThen_ok, List.map_toArray, List.map_cons, List.map_nil, hs, hx, hr]
omit hn hm hr hq in
theorem cell_span_new (w : World) (t : TypeId) (s : Sp) : ∀ j u, (cellsSp s)[j]? = some u → (w.alloc (.cells #[.int .i64 s.j, .int .i64 s.f, .int .i64 s.t] t)).cell? ((⟨w.heap.size, 0, none⟩ : Addr).add j) = some u := by
  intro j u hu
  obtain ⟨ad, e, _, hc⟩ := Row.new w t #[.int .i64 s.j, .int .i64 s.f, .int .i64 s.t] (by simp)
  obtain rfl := Option.some.inj e
  exact hc j u hu
end
end Go.Proofs.Ytnkoncplfedffaa
