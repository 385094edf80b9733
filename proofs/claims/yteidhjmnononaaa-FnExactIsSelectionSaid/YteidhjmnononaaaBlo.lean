/- A store elsewhere leaves a block as it was. -/
import Derived.Test.YteidhjmnononaaaMem
namespace Go.Proofs.Yteidhjmnononaaa
open Go.RowKit
theorem BlockIs.away {w : World} {g : Nat} {t : TypeId} {cs : Array Value} (h : BlockIs w g t cs) {g' : Nat} (hne : g ≠ g') (i : Nat) (u : Value) : BlockIs (w.setCell ⟨g', i, none⟩ u) g t cs :=
  (Below.heap_setCell w ⟨g', i, none⟩ u g hne).trans h
/-- A call that draws nothing, met in a quiet region of a world as it stands. -/
theorem quiet_eq {P : Program} {f : FuncId} {args : Array Value} {w : World} {n : Nat} {v : Value}
    (h : Calls P f args (w.drewN n) fun e w' => e = .returned v ∧ w.drewN n = w') : Calls P f args (w.drewN n) fun e w'' => e = .returned v ∧ ∃ m, w'' = w.drewN m :=
  h.mono fun _ _ ⟨he, hm⟩ => ⟨he, n, hm.symm⟩
end Go.Proofs.Yteidhjmnononaaa
