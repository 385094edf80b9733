/- slices.Delete of one, from a slice of one's own. -/
import Derived.Test.YtjnaicgmfnhjeaaInsB
import Derived.Test.YtjnaicgmfnhjeaaShelf
import Derived.Test.YtjnaicgmfnhjeaaLateA
namespace Go.Proofs.Ytjnaicgmfnhjeaa
open Go.RowKit
theorem grown_sets {g : Nat} : ∀ (vs : List Value) (o : Nat) {w w' : World}, w.grownBy w' (some g) → w.grownBy (w'.setCells g o vs) (some g)
  | [], _, _, _, h => h
  | v :: r, o, _, _, h => grown_sets r (o + 1) (grown_setCell h o v)
theorem natI_restI (l : List Nat) (f : Nat) : restI (natI l) f = natI (l.eraseIdx f) := by
  unfold restI natI; rw [List.eraseIdx_eq_take_drop_succ, List.map_append, List.map_take, List.map_drop]
set_option maxRecDepth 100000 in
theorem del_own {w : World} {B g c : Nat} {l : List Nat} {f : Nat} (h : w.ownsRow B 3 1 (.slice (some ⟨g, 0, none⟩) l.length c) l.length (ic (natI l))) (hf : f < l.length) :
    Calls Try.prog 168 #[.slice (some ⟨g, 0, none⟩) l.length c, .int .i64 (f : Int), .int .i64 ((f : Int) + 1)] w fun e w' => e = .returned (.slice (some ⟨g, 0, none⟩) (l.length - 1) c) ∧ w'.ownsRow B 3 1 (.slice (some ⟨g, 0, none⟩) (l.length - 1) c) (l.length - 1) (ic (natI (l.eraseIdx f))) ∧ w.grownBy w' (some g) := by
  obtain ⟨g', cur, hA, hgb, hB, hc, hm, hs, ht⟩ := own_block h (by omega)
  injection hA with hA
  injection hA with hA _ _
  subst hA
  have hln : (natI l).length = l.length := by simp
  rw [Nat.mul_one] at ht hs
  have hcell : ∀ j, j < (natI l).length → w.cell? ⟨g, 0 + j, none⟩ = some (.int .i64 ((natI l).getD j 0)) := fun j hj => by
    rw [hB.cell, Nat.zero_add, ← Array.getElem?_toList, ← List.getElem?_take_of_lt (show j < l.length by omega), ht]
    rw [List.getElem?_eq_getElem (by rw [ic_len]; exact hj), ic_get _ j hj, getD_at _ 0 hj]
  have H := Try.slices_Delete_int_cells g 0 (natI l).length c f (f + 1) (natI l) w (Nat.le_refl _) (by omega) hm (by omega) (by omega) hcell (fun j _ => hB.frozen _)
  rw [show ((f + 1 : Nat) : Int) = (f : Int) + 1 from rfl, hln] at H
  refine H.mono ?_
  rintro e w' ⟨rfl, q, rfl⟩
  have hrl := restI_len (o := natI l) (f := f) (by omega)
  have hel : (l.eraseIdx f).length = l.length - 1 := List.length_eraseIdx_of_lt hf
  have hls : (List.map (Value.int .i64) (((natI l).take l.length).take f ++ ((natI l).take l.length).drop (f + 1) ++ List.replicate (f + 1 - f) 0)) = ic (restI (natI l) f) ++ [.int .i64 0] := by
    rw [← hln, List.take_length, show f + 1 - f = 1 by omega]
    unfold ic restI; simp
  have hB2 := (hB.drewN q).sets (ic (restI (natI l) f) ++ [.int .i64 0]) 0
  refine ⟨by rw [show l.length - (f + 1 - f) = l.length - 1 by omega], ?_, ?_⟩
  · rw [hls]
    have hsz : (setsA cur 0 (ic (restI (natI l) f) ++ [.int .i64 0])).size = cur.size := setsA_size _ _ _
    have := hB2.own (base := B) (n := l.length - 1) (c := c) (size := 1) hgb (by omega) (by omega) hm (by omega)
    have htk : (setsA cur 0 (ic (restI (natI l) f) ++ [.int .i64 0])).toList.take ((l.length - 1) * 1) = ic (natI (l.eraseIdx f)) := by
      rw [← natI_restI, Nat.mul_one]
      apply List.ext_getElem?
      intro j
      by_cases hj : j < l.length - 1
      · rw [List.getElem?_take, if_pos hj, Array.getElem?_toList, setsA_at _ _ _ _ (by simp [ic_len]; omega), if_pos (by simp [ic_len]; omega), Nat.sub_zero, List.getElem?_append_left (by rw [ic_len]; omega)]
      · rw [List.getElem?_eq_none (by simp; omega), List.getElem?_eq_none (by rw [ic_len]; omega)]
    rw [htk] at this
    exact this
  · refine grown_sets _ 0 ?_
    have hr := World.grownBy.refl w (some g)
    exact ⟨hr.os, hr.tape, hr.output, hr.size, hr.block⟩
end Go.Proofs.Ytjnaicgmfnhjeaa
