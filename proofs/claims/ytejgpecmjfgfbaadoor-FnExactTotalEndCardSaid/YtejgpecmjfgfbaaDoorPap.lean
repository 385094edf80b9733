/- One more pair behind a list of pairs of one's own. -/
import Derived.Test.YtejgpecmjfgfbaaDoorTbl
import Derived.Test.YtejgpecmjfgfbaaDoorPairs
namespace Go.Proofs.YtejgpecmjfgfbaaDoor
open Go.RowKit
theorem infoPp : (Tryd.prog.info? 50).map (fun i => (i.zero, i.size, i.bytes)) = some (some (.agg #[.int .i64 0, .int .i64 0]), 2, 16) := by kernel_rfl
/-- Blocks that hold no pairs are as they were. -/
def KeepP (w w' : World) : Prop := ∀ q t cs, t ≠ 50 → BlockIs w q t cs → BlockIs w' q t cs
theorem KeepP.refl (w : World) : KeepP w w := fun _ _ _ _ h => h
theorem KeepP.trans {a b c : World} (h : KeepP a b) (k : KeepP b c) : KeepP a c := fun q t cs ht hB => k q t cs ht (h q t cs ht hB)
theorem KeepP.of_below {w w' : World} (h : Below w.heap.size w w') : KeepP w w' := fun _ _ _ _ hB => hB.below h
theorem TabR.keepP {B n : Nat} {T : Nat → Nat → Bool} {gs : List Nat} {v : Value} {w w' : World} (h : TabR B n T gs v w) (hk : KeepP w w') : TabR B n T gs v w' := by
  refine ⟨own_to h.1 fun q hq _ _ => ?_, fun i hi => ⟨hk _ _ _ (by decide) (h.2.1 i hi).1, (h.2.1 i hi).2⟩, h.2.2⟩
  obtain ⟨_, _, c1, t1⟩ := own_type h.1 hq
  exact (hk _ _ _ (by decide) t1).trans t1.symm
theorem pc_one (x : Pr) : pc [x] = [.int .i64 x.1, .int .i64 x.2] := rfl
theorem pushP {w0 w : World} {v : Value} {xs : List Pr} (h : w.ownsRow w0.heap.size 50 2 v xs.length (pc xs)) (hb : Below w0.heap.size w0 w) (x : Pr) (hl : xs.length ≤ 1000) :
    ∃ v' w3, (Builtin.append_ #[23, 23] 23 #[v, .slice (some ⟨w.heap.size, 0, none⟩) 1 1]).run Tryd.prog (w.alloc (.cells #[.int .i64 x.1, .int .i64 x.2] 50)) = .ok v' w3 ∧
      w3.ownsRow w0.heap.size 50 2 v' (xs ++ [x]).length (pc (xs ++ [x])) ∧ Below w0.heap.size w0 w3 ∧ KeepP w w3 := by
  obtain ⟨i1, hj, hy0, hy1, hy2⟩ := info_parts infoPp
  have hb1 := hb.alloc hb.size (.cells #[.int .i64 x.1, .int .i64 x.2] 50)
  have hbw : Below w.heap.size w (w.alloc (.cells #[.int .i64 x.1, .int .i64 x.2] 50)) := (Below.refl _ w).alloc (Nat.le_refl _) _
  have h2 := own_blw h hbw
  have hsrc := row_srcS (Row.new w 50 #[.int .i64 x.1, .int .i64 x.2])
  obtain ⟨v', w3, hrun, ho3, hgr, _⟩ := append_at (P := Tryd.prog) (w.alloc (.cells #[.int .i64 x.1, .int .i64 x.2] 50)) w0.heap.size 23 23 50 i1 (.agg #[.int .i64 0, .int .i64 0]) 2 16 Tryd.underlying23 hj hy0 hy1 hy2 rfl (by decide) _ _ _ h2 ⟨w.heap.size, 0, none⟩ 1 1 [.int .i64 x.1, .int .i64 x.2] rfl hsrc (by intro u hu; simp at hu; rcases hu with rfl | rfl <;> rfl) (by omega) (by unfold maxLen; omega) (by omega) hb1.size
  refine ⟨v', w3, hrun, ?_, hb1.grown hgr hb1.size (fun j hj => (h2.lt j hj).1), fun q t cs ht hB => ?_⟩
  · rw [pc_snoc]; simpa [cellsP] using ho3
  · have hB1 := hB.below hbw
    refine (hgr.block q hB1.lt fun e => ?_).trans hB1
    obtain ⟨_, _, c1, t1⟩ := own_type h2 e.symm
    exact type_ne hB1 t1 ht rfl
end Go.Proofs.YtejgpecmjfgfbaaDoor
