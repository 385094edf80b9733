/- slices.Insert and slices.Delete at []int, where they stand in this program; a list with one taken out and put in again. -/
import Derived.Test.YtekocnmcenmcnabShelf
import Derived.Shelf.Spec.SlicesInsert
import Derived.Test.YtekocnmcenmcnabSwap
import Derived.Test.YtekocnmcenmcnabEndsO
namespace Go.Proofs
open Go.Shelf
def Try.laysIns_ren : Go.Shelf.Ren := ⟨fun | 21 => 60 | 27 => 77 | 28 => 78 | 35 => 88 | 39 => 91 | n => n, fun | 22 => 30 | 3 => 3 | 4 => 4 | 0 => 0 | n => n, fun n => n⟩
theorem Try.laysIns : Go.Proofs.Lays2.n21 Try.prog Try.laysIns_ren := {
  mixed := by kernel_rfl
  f21 := Try.func60.trans (congrArg some (by kernel_rfl))
  f27 := Try.func77.trans (congrArg some (by kernel_rfl))
  f28 := Try.func78.trans (congrArg some (by kernel_rfl))
  f35 := Try.func88.trans (congrArg some (by kernel_rfl))
  f39 := Try.func91.trans (congrArg some (by kernel_rfl))
  t0 := Try.underlying0
  a0 := Try.isAgg0
  z0 := Try.sizeOf0
  v0 := Try.zeroValue0
  t3 := Try.underlying3
  a3 := Try.isAgg3
  z3 := Try.sizeOf3
  v3 := Try.zeroValue3
  t4 := Try.underlying4
  a4 := Try.isAgg4
  z4 := Try.sizeOf4
  v4 := Try.zeroValue4
  t22 := Try.underlying30
  a22 := Try.isAgg30
  z22 := Try.sizeOf30
  v22 := Try.zeroValue30
  i3 := by kernel_rfl }
end Go.Proofs
namespace Go.Proofs.Ytekocnmcenmcnab
open Go.RowKit
/-- Cells written one after the other. -/
def setsA (cs : Array Value) : Nat → List Value → Array Value
  | _, [] => cs
  | o, v :: r => setsA (cs.setIfInBounds o v) (o + 1) r
theorem setsA_size : ∀ (vs : List Value) (o : Nat) (cs : Array Value), (setsA cs o vs).size = cs.size
  | [], _, _ => rfl
  | v :: r, o, cs => by unfold setsA; rw [setsA_size r]; simp
theorem BlockIs.sets {g : Nat} {t : TypeId} : ∀ (vs : List Value) (o : Nat) {w : World} {cs : Array Value}, BlockIs w g t cs → BlockIs (w.setCells g o vs) g t (setsA cs o vs)
  | [], _, _, _, h => h
  | v :: r, o, _, _, h => BlockIs.sets r (o + 1) (h.set o v)
theorem Below.sets {B g : Nat} (hg : B ≤ g) : ∀ (vs : List Value) (o : Nat) {a w : World}, Below B a w → Below B a (w.setCells g o vs)
  | [], _, _, _, h => h
  | v :: r, o, _, _, h => Below.sets hg r (o + 1) (h.setCell (p := ⟨g, o, none⟩) hg v)
theorem setsA_at : ∀ (vs : List Value) (o : Nat) (cs : Array Value) (j : Nat), o + vs.length ≤ cs.size → (setsA cs o vs)[j]? = if o ≤ j ∧ j < o + vs.length then vs[j - o]? else cs[j]?
  | [], o, cs, j, _ => by rw [if_neg (by simp)]; rfl
  | v :: r, o, cs, j, h => by
    simp only [List.length_cons] at h ⊢
    unfold setsA
    rw [setsA_at r (o + 1) _ j (by simp; omega)]
    by_cases h1 : o + 1 ≤ j ∧ j < o + 1 + r.length
    · rw [if_pos h1, if_pos (by omega), show j - o = (j - (o + 1)) + 1 by omega]; rfl
    · rw [if_neg h1]
      by_cases h2 : j = o
      · subst h2; rw [if_pos (by omega), Array.getElem?_setIfInBounds, if_pos rfl, if_pos (by omega)]; simp
      · rw [if_neg (by omega), Array.getElem?_setIfInBounds, if_neg (by omega)]
theorem ins_at {α : Type} (R : List α) (x : α) (t j : Nat) (h : t ≤ R.length) : (R.take t ++ x :: R.drop t)[j]? = if j < t then R[j]? else if j = t then some x else R[j - 1]? := by
  have hl : (R.take t).length = t := by simp; omega
  by_cases h1 : j < t
  · rw [if_pos h1, List.getElem?_append_left (by omega), List.getElem?_take, if_pos h1]
  · rw [if_neg h1, List.getElem?_append_right (by omega), hl]
    by_cases h2 : j = t
    · subst h2; simp
    · rw [if_neg h2, show j - t = (j - t - 1) + 1 by omega, List.getElem?_cons_succ, List.getElem?_drop]
      congr 1; omega
/-- What is in the cells after the shift and the write. -/
theorem shift_take {cur : Array Value} {R : List Value} {x : Value} {t : Nat} (hs : R.length < cur.size) (hR : ∀ j, j < R.length → cur[j]? = R[j]?) (ht : t < R.length) :
    (setsA (setsA cur (t + 1) (R.drop t)) t [x]).toList.take (R.length + 1) = R.take t ++ x :: R.drop t := by
  apply List.ext_getElem?
  intro j
  rw [ins_at R x t j (by omega), List.getElem?_take]
  by_cases hj : j < R.length + 1
  · rw [if_pos hj, Array.getElem?_toList, setsA_at _ _ _ _ (by rw [setsA_size]; simp; omega), setsA_at _ _ _ _ (by simp; omega)]
    by_cases h1 : j < t
    · rw [if_pos h1, if_neg (by omega), if_neg (by omega), hR j (by omega)]
    · rw [if_neg h1]
      by_cases h2 : j = t
      · subst h2; simp
      · rw [if_neg h2, if_neg (by simp; omega), if_pos (by simp; omega), List.getElem?_drop]
        congr 1; omega
  · rw [if_neg hj, if_neg (by omega), if_neg (by omega), List.getElem?_eq_none (by omega)]
theorem end_take {cur : Array Value} {R : List Value} {x : Value} (hs : R.length < cur.size) (hR : ∀ j, j < R.length → cur[j]? = R[j]?) :
    (setsA cur R.length [x]).toList.take (R.length + 1) = R.take R.length ++ x :: R.drop R.length := by
  apply List.ext_getElem?
  intro j
  rw [ins_at R x R.length j (by omega), List.getElem?_take]
  by_cases hj : j < R.length + 1
  · rw [if_pos hj, Array.getElem?_toList, setsA_at _ _ _ _ (by simp; omega)]
    by_cases h1 : j < R.length
    · rw [if_pos h1, if_neg (by omega), hR j h1]
    · have h2 : j = R.length := by omega
      subst h2; simp
  · rw [if_neg hj, if_neg (by omega), if_neg (by omega), List.getElem?_eq_none (by omega)]
/-- One place left out. -/
def restI (o : List Int) (f : Nat) : List Int := o.take f ++ o.drop (f + 1)
def movedI (o : List Int) (f t : Nat) : List Int := (restI o f).take t ++ o.getD f 0 :: (restI o f).drop t
theorem restI_len {o : List Int} {f : Nat} (h : f < o.length) : (restI o f).length + 1 = o.length := by unfold restI; simp; omega
theorem movedI_len {o : List Int} {f t : Nat} (h : f < o.length) (ht : t < o.length) : (movedI o f t).length = o.length := by
  have := restI_len h
  unfold movedI; simp; omega
def insB (o : List Int) (f t : Int) : Bool := ordB o.length o && (inB f 0 (o.length - 1) && inB t 0 (o.length - 1))
def insR (o : List Int) (f t : Int) : List Int × Bool := if insB o f t then (movedI o f.toNat t.toNat, true) else ([], false)
theorem insR_len (o : List Int) (f t : Int) (hm : o.length ≤ 10000000) : (insR o f t).1.length ≤ 10000000 := by
  unfold insR
  cases h : insB o f t
  · simp
  · unfold insB at h
    simp only [Bool.and_eq_true] at h
    have h1 := inB_out h.2.1
    have h2 := inB_out h.2.2
    simp only [if_true]
    rw [movedI_len (by omega) (by omega)]; exact hm
set_option maxRecDepth 100000 in
/-- slices.Delete of one, from cells of its own. -/
theorem delete_one {w : World} {g c : Nat} {cur : Array Value} {o : List Int} {f : Nat} (hB : BlockIs w g 3 cur) (hs : cur.size = c) (hc : o.length ≤ c) (hm : c ≤ maxLen) (ht : cur.toList.take o.length = ic o) (hf : f < o.length) :
    Calls Try.prog 59 #[.slice (some ⟨g, 0, none⟩) o.length c, .int .i64 (f : Int), .int .i64 ((f : Int) + 1)] w fun e w' => e = .returned (.slice (some ⟨g, 0, none⟩) (restI o f).length c) ∧ ∃ cur' : Array Value, BlockIs w' g 3 cur' ∧ cur'.size = c ∧ (∀ j, j < (restI o f).length → cur'[j]? = (ic (restI o f))[j]?) ∧ ∀ B, B ≤ g → B ≤ w.heap.size → Below B w w' := by
  have hcell : ∀ j, j < o.length → w.cell? ⟨g, 0 + j, none⟩ = some (.int .i64 (o.getD j 0)) := fun j hj => by
    rw [hB.cell, Nat.zero_add, ← Array.getElem?_toList, ← List.getElem?_take_of_lt hj, ht]
    unfold ic; simp [hj]
  have H := Try.slices_Delete_int_cells g 0 o.length c f (f + 1) o w (Nat.le_refl _) hc hm (by omega) (by omega) hcell (fun j _ => hB.frozen _)
  rw [show ((f + 1 : Nat) : Int) = (f : Int) + 1 from rfl] at H
  refine H.mono ?_
  rintro e w' ⟨rfl, q, rfl⟩
  have hrl := restI_len hf
  refine ⟨by rw [show o.length - (f + 1 - f) = (restI o f).length by omega], _, (hB.drewN q).sets _ 0, by rw [setsA_size]; exact hs, fun j hj => ?_, fun B h1 h2 => Below.sets h1 _ 0 (show Below B w (w.drewN q) from have h := Below.refl B w; ⟨h.os, h.tape, h.output, h.size, h.block⟩)⟩
  have hls : (List.map (Value.int .i64) ((o.take o.length).take f ++ (o.take o.length).drop (f + 1) ++ List.replicate (f + 1 - f) 0)) = ic (restI o f) ++ [.int .i64 0] := by
    rw [List.take_length, show f + 1 - f = 1 by omega]
    unfold ic restI; simp
  rw [hls, setsA_at _ _ _ _ (by simp [ic_len]; omega), if_pos (by simp [ic_len]; omega), Nat.sub_zero, List.getElem?_append_left (by rw [ic_len]; exact hj)]
set_option maxRecDepth 100000 in
/-- slices.Insert of one, where there is room. -/
theorem insert_one {w : World} {g vb c : Nat} {cur : Array Value} {R : List Int} {x : Int} {t : Nat} (hB : BlockIs w g 3 cur) (hV : BlockIs w vb 3 #[.int .i64 x]) (hne : vb ≠ g) (hs : cur.size = c) (hc : R.length < c) (hm : c ≤ maxLen) (hR : ∀ j, j < R.length → cur[j]? = (ic R)[j]?) (ht : t ≤ R.length) :
    Calls Try.prog 60 #[.slice (some ⟨g, 0, none⟩) R.length c, .int .i64 (t : Int), .slice (some ⟨vb, 0, none⟩) 1 1] w fun e w' => e = .returned (.slice (some ⟨g, 0, none⟩) (R.length + 1) c) ∧ ∃ cur' : Array Value, BlockIs w' g 3 cur' ∧ cur'.size = c ∧ cur'.toList.take (R.length + 1) = ic (R.take t ++ x :: R.drop t) ∧ ∀ B, B ≤ g → B ≤ w.heap.size → Below B w w' := by
  have hil : (ic R).length = R.length := ic_len R
  have hvs : ∀ j v, ([.int .i64 x] : List Value)[j]? = some v → w.cell? ⟨vb, 0 + j, none⟩ = some v := fun j v hj => by
    rw [hV.cell, Nat.zero_add]; simpa using hj
  have h1v : ∀ v ∈ ([.int .i64 x] : List Value), v.oneCell' = true := by intro v hv; simp at hv; subst hv; rfl
  have hres : ic (R.take t ++ x :: R.drop t) = (ic R).take t ++ (.int .i64 x) :: (ic R).drop t := by unfold ic; simp
  by_cases hlt : t < R.length
  · have H := Any2.slices_Insert_int_shift Try.laysIns g 0 R.length c t vb 0 1 1 (ic R) [.int .i64 x] w hlt (by omega) (by omega) hm hne hil rfl
      (fun j v hj => by
        have hjl : j < R.length := by have := (List.getElem?_eq_some_iff.1 hj).1; omega
        rw [hB.cell, Nat.zero_add, hR j hjl]; exact hj)
      (fun j hj => by rw [hB.cell, Nat.zero_add]; simp; omega) (fun j _ => hB.frozen _) hvs
      (by intro u hu; unfold ic at hu; obtain ⟨x, _, rfl⟩ := List.mem_map.1 hu; rfl) h1v 3 3 1 c (by unfold BlockIs at hV; simp [World.shape?, hV]) (by unfold BlockIs at hB; simp [World.shape?, hB, hs]) (by omega) (hV.frozen _) (hV.frozen _)
    refine H.mono ?_
    rintro e w' ⟨rfl, rfl⟩
    refine ⟨rfl, _, ((hB.drew).sets _ _).sets _ _, by rw [setsA_size, setsA_size]; exact hs, ?_, fun B h1 h2 => Below.sets h1 _ _ (Below.sets h1 _ _ (Below.refl B w).drew)⟩
    rw [hres, Nat.zero_add, Nat.zero_add, ← hil]
    exact shift_take (by omega) (by rw [hil]; exact hR) (by omega)
  · obtain rfl : t = R.length := by omega
    have H := Any2.slices_Insert_int_end_room Try.laysIns g 0 R.length c vb 0 1 1 [.int .i64 x] w (by omega) (by omega) hm rfl
      (fun j hj => by rw [hB.cell]; simp; omega) (fun j _ => hB.frozen _) hvs h1v
    refine H.mono ?_
    rintro e w' ⟨rfl, rfl⟩
    refine ⟨rfl, _, hB.sets _ _, by rw [setsA_size]; exact hs, ?_, fun B h1 h2 => Below.sets h1 _ _ (Below.refl B w)⟩
    rw [hres, Nat.zero_add, ← hil]
    exact end_take (by omega) (by rw [hil]; exact hR)
end Go.Proofs.Ytekocnmcenmcnab
