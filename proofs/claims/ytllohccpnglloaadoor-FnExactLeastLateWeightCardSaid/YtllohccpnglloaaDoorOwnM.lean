/- Slices of one's own, parts of them, and operations of a region run one by one. -/
import Derived.Test.YtllohccpnglloaaDoorSwapB
import Derived.Test.YtllohccpnglloaaDoorSetB
import Derived.IntWalk
namespace Go.Proofs.YtllohccpnglloaaDoor
open Go.RowKit
theorem exec_slice {P : Program} {o : Oper} {ev : Operand → Value} {x : Operand} {lo hi mx : Option Operand} {t : TypeId} {v : Value} {w : World} (ho : o.op = .slice t x lo hi mx) (hr : (Instr.sliceAt t (ev x) (lo.map ev) (hi.map ev) (mx.map ev)).run P w = .ok v w) : (execOp ev o).run P w = .ok (.value v) w := by
  unfold execOp
  simp [ho, hr, Result.andThen]
theorem exec_append {P : Program} {o : Oper} {ev : Operand → Value} {s x : Operand} {t : TypeId} {v u r : Value} {w w' : World} (ho : o.op = .call { callee := .builtin .append, args := #[s, x], argTypes := #[t, t] }) (hs : ev s = v) (hx : ev x = u) (hr : (Builtin.append_ #[t, t] o.type #[v, u]).run P w = .ok r w') : (execOp ev o).run P w = .ok (.value r) w' := by
  unfold execOp
  simp only [ho, resolve, invoke, builtin, Sem.run_bind, Sem.run_pure, Result.andThen_ok, List.map_toArray, List.map_cons, List.map_nil, hs, hx, hr]
theorem slice_h (ad : Addr) (n c : Nat) (h : Nat) (w : World) (hc : h ≤ c) : (Instr.sliceAt 24 (.slice (some ad) n c) none (some (.int .i64 (h : Int))) none).run Tryd.prog w = .ok (.slice (some ad) h c) w := by
  simp [hc, go_sem]
def tailAd (ad : Addr) (l c : Nat) : Addr := if c = l then ad else ad.add l
theorem slice_l (ad : Addr) (n c : Nat) (l : Nat) (w : World) (hl : l ≤ n) : (Instr.sliceAt 24 (.slice (some ad) n c) (some (.int .i64 (l : Int))) none none).run Tryd.prog w = .ok (.slice (some (tailAd ad l c)) (n - l) (c - l)) w := by
  unfold tailAd
  simp [hl, go_sem]
  split <;> simp_all
theorem tail_src {w : World} {ad : Addr} {xs : List Int} {l c : Nat} (hr : Row w (some ad) (ic xs)) (hc : xs.length ≤ c) : ∀ j u, (ic (xs.drop l))[j]? = some u → w.cell? ((tailAd ad l c).add j) = some u := by
  intro j u hu
  have hj : j < (xs.drop l).length := by have := (List.getElem?_eq_some_iff.1 hu).1; rwa [ic_len] at this
  have hj' : l + j < xs.length := by simp at hj; omega
  have hne : c ≠ l := by omega
  unfold tailAd
  rw [if_neg hne, Addr.add_add]
  refine row_src hr _ _ ?_
  unfold ic at hu ⊢
  rw [List.getElem?_map, List.getElem?_drop] at hu
  rw [List.getElem?_map]; exact hu
theorem own_lower {w : World} {B B' e size n : Nat} {v : Value} {xs : List Value} (h : w.ownsRow B' e size v n xs) (hB : B ≤ B') : w.ownsRow B e size v n xs :=
  ⟨h.1, h.2.imp id fun ⟨g, cap, cur, hv, hb, r⟩ => ⟨g, cap, cur, hv, Nat.le_trans hB hb, r⟩⟩
theorem own_below {w w' : World} {B n : Nat} {v : Value} {xs : List Value} (h : w.ownsRow B 3 1 v n xs) (hb : Below w.heap.size w w') : w'.ownsRow B 3 1 v n xs := by
  refine ⟨h.1, h.2.imp id fun ⟨g, cap, cur, hv, hB, hg, r⟩ => ⟨g, cap, cur, hv, hB, ?_, r⟩⟩
  rw [hb.block g (Array.getElem?_eq_some_iff.1 hg).1]; exact hg
theorem row_take {w : World} {A : Option Addr} {xs : List Int} (h : Row w A (ic xs)) (k : Nat) : Row w A (ic (xs.take k)) := by
  intro h0
  rw [ic_len] at h0
  obtain ⟨ad, h1, h2, h3⟩ := h (by rw [ic_len]; simp at h0; omega)
  refine ⟨ad, h1, h2, fun j u hu => h3 j u ?_⟩
  unfold ic at hu ⊢
  rw [List.map_take, List.getElem?_take] at hu
  split at hu
  · exact hu
  · cases hu
theorem slice_some {B n : Nat} {w : World} {ad : Addr} {k c : Nat} {xs : List Value} (h : w.ownsRow B 3 1 (.slice (some ad) k c) n xs) : k = n ∧ n ≤ c := by
  rcases h.2 with ⟨hv, _⟩ | ⟨g, cap, cur, hv, _, _, hc, _⟩
  · cases hv
  · injection hv with _ e2 e3
    exact ⟨e2, by omega⟩
theorem ic_one {xs : List Int} : ∀ u ∈ ic xs, u.oneCell' = true := by intro u hu; unfold ic at hu; obtain ⟨x, _, rfl⟩ := List.mem_map.1 hu; rfl
end Go.Proofs.YtllohccpnglloaaDoor
