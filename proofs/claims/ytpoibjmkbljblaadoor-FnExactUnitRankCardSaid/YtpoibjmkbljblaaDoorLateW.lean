/- A list without one of its elements: the model's. -/
import Derived.Test.YtpoibjmkbljblaaDoorKb1
import Derived.Deep.RegionLaw
import Derived.Deep.RegionWith
namespace Go.Proofs.YtpoibjmkbljblaaDoor
open Go.RowKit
theorem step_append_at {P : Program} {ops : Array Oper} {o : Oper} {a : Act} {w w' : World} {K : Act → World → Prop} {Q : Exit → Act → World → Prop} {E : Prop} (hg : o.guard = none) (s x : Operand) (t : TypeId)
    (hop : o.op = Op.call { callee := Callee.builtin Builtin.append, args := #[s, x], argTypes := #[t, t] }) (v u r : Value) (hs : a.eval s = v) (hx : a.eval x = u) (hr : (Builtin.append_ #[t, t] o.type #[v, u]).run P w = .ok r w') (hK : K (a.put o.dst r) w') :
    if Region.wanted o (yielded ops a.tmps) = true then Oper.wp P o a w K Q else E := by
  have hw : Region.wanted o (yielded ops a.tmps) = true := by simp [Region.wanted, hg]
  rw [if_pos hw]
  unfold Oper.wp
  simp [execOp, hop, resolve, invoke, builtin, hs, hx, hr, Result.andThen]
  exact hK
theorem erase_cat (xs : List Int) (k : Nat) : ic (xs.take k) ++ ic (xs.drop (k + 1)) = ic (xs.eraseIdx k) := by
  unfold ic; rw [List.eraseIdx_eq_take_drop_succ, List.map_append]
section
variable (ad : Addr) (c : Nat) (xs : List Int) (k : Nat) (w : World) (hr : Row w (some ad) (ic xs)) (hn : xs.length ≤ 1000) (hc : xs.length ≤ c) (hk : k < xs.length)
include hr hn hc hk
end
end Go.Proofs.YtpoibjmkbljblaaDoor
