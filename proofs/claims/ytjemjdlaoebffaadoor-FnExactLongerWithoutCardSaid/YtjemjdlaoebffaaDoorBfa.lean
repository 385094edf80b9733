/- What is before at least one of a set: the program's. -/
import Derived.Test.YtjemjdlaoebffaaDoorMbr
import Derived.Test.YtjemjdlaoebffaaDoorKb1
import Derived.Test.YtjemjdlaoebffaaDoorGroP
import Derived.Test.YtjemjdlaoebffaaDoorKb3
import Derived.Laws.Bits64b
import Derived.Shelf.RegionOpen
namespace Go.Proofs.YtjemjdlaoebffaaDoor
open Go.RowKit Go.Shelf
attribute [local go_sem] Oper.semAt_some
/-- A precedence in memory: the number of jobs, and the sets. -/
def precC (n : Int) (B : Nat → Nat) : Array Value := #[.int .i64 n, .int .u64 (B 0 : Int), .int .u64 (B 1 : Int), .int .u64 (B 2 : Int), .int .u64 (B 3 : Int), .int .u64 (B 4 : Int), .int .u64 (B 5 : Int), .int .u64 (B 6 : Int), .int .u64 (B 7 : Int)]
theorem precC_size (n : Int) (B : Nat → Nat) : (precC n B).size = 9 := rfl
theorem precC_0 (n : Int) (B : Nat → Nat) : (precC n B)[0]? = some (.int .i64 n) := rfl
theorem precC_at (n : Int) (B : Nat → Nat) {i : Nat} (h : i < 8) : (precC n B)[1 + i]? = some (.int .u64 (B i : Int)) := by
  rcases (by omega : i = 0 ∨ i = 1 ∨ i = 2 ∨ i = 3 ∨ i = 4 ∨ i = 5 ∨ i = 6 ∨ i = 7) with rfl | rfl | rfl | rfl | rfl | rfl | rfl | rfl <;> rfl
def updB (B : Nat → Nat) (i v : Nat) : Nat → Nat := fun j => if j = i then v else B j
theorem precC_set (n : Int) (B : Nat → Nat) {i : Nat} (h : i < 8) (v : Nat) : (precC n B).setIfInBounds (1 + i) (.int .u64 (v : Int)) = precC n (updB B i v) := by
  rcases (by omega : i = 0 ∨ i = 1 ∨ i = 2 ∨ i = 3 ∨ i = 4 ∨ i = 5 ∨ i = 6 ∨ i = 7) with rfl | rfl | rfl | rfl | rfl | rfl | rfl | rfl <;> rfl
theorem precC_ext (n : Int) {B C : Nat → Nat} (h : ∀ i, i < 8 → B i = C i) : precC n B = precC n C := by
  unfold precC
  rw [h 0 (by omega), h 1 (by omega), h 2 (by omega), h 3 (by omega), h 4 (by omega), h 5 (by omega), h 6 (by omega), h 7 (by omega)]
theorem block_ownF {β : Type} (g : Nat) (t : TypeId) (f : β → Array Value) : Own (fun s W => BlockIs W g t (f s)) := fun _ X _ _ hs hg hrow =>
  (hg.block _ (BlockIs.lt hs) (fun e => by
    obtain ⟨o, ho, hc⟩ := hrow g e.symm
    rw [show X.heap[g]? = _ from hs] at ho
    cases ho; cases hc)).trans hs
theorem orGo_snoc (b : Nat → Nat) (l : List Nat) (a j : Nat) : orGo b (l ++ [j]) a = orGo b l a ||| b j := by unfold orGo; simp
section
variable (n : Int) (B : Nat → Nat) (s : Nat) (w : World) (hs : s < 256) (hB8 : ∀ j, j < 8 → B j < 256) (hT : TzTab w)
include hs hB8 hT
set_option maxRecDepth 100000 in
set_option maxHeartbeats 4000000 in
theorem beforeAny_any : Calls Tryd.prog 194 #[.agg (precC n B), .int .u64 (s : Int)] w fun e w' => e = .returned (.int .u64 (orAll B s : Nat)) ∧ Below w.heap.size w w' := by
  have b0 : BlockIs (((w.alloc (.cells (precC n B) 81)).alloc (.cells #[.int .u64 0] 69)).alloc (.cells #[.int .u64 (s : Int)] 69)) w.heap.size 81 (precC n B) := ((BlockIs.new w 81 (precC n B)).below ((Below.refl _ _).alloc (Nat.le_refl _) _)).below ((Below.refl _ _).alloc (Nat.le_refl _) _)
  have b1 : Boxed (((w.alloc (.cells (precC n B) 81)).alloc (.cells #[.int .u64 0] 69)).alloc (.cells #[.int .u64 (s : Int)] 69)) (w.heap.size + 1) 69 (.int .u64 0) := by
    have h := (Boxed.new (w.alloc (.cells (precC n B) 81)) 69 (.int .u64 0)).alloc (.cells #[.int .u64 (s : Int)] 69)
    rwa [World.size_alloc] at h
  have b2 : Boxed (((w.alloc (.cells (precC n B) 81)).alloc (.cells #[.int .u64 0] 69)).alloc (.cells #[.int .u64 (s : Int)] 69)) (w.heap.size + 1 + 1) 69 (.int .u64 (s : Int)) := by
    have h := Boxed.new ((w.alloc (.cells (precC n B) 81)).alloc (.cells #[.int .u64 0] 69)) 69 (.int .u64 (s : Int))
    rwa [World.size_alloc, World.size_alloc] at h
  have hb3 : Below w.heap.size w (((w.alloc (.cells (precC n B) 81)).alloc (.cells #[.int .u64 0] 69)).alloc (.cells #[.int .u64 (s : Int)] 69)) := (((Below.refl _ w).alloc (Nat.le_refl _) _).alloc (by simp) _).alloc (by simp; omega) _
  have hz3 : (((w.alloc (.cells (precC n B) 81)).alloc (.cells #[.int .u64 0] 69)).alloc (.cells #[.int .u64 (s : Int)] 69)).heap.size = w.heap.size + 1 + 1 + 1 := by simp
  have H3 := Lib.hid (And.intro b0 (And.intro b1 (And.intro b2 hb3)))
  have HT := Lib.hid hT
  have HPC2 : Hid (∀ i, i < 8 → (precC n B)[1 + i]? = some (.int .u64 (B i : Int))) := fun i hi => precC_at n B hi
  clear b0 b1 b2 hb3 hT
  generalize precC n B = PC at *
  refine (callsIn_wide (n := 6)).1 ?_
  refine callsIn_of_wp_marks Tryd.func194 rfl trivial ?_ rfl
  simp only [Tryd.ntmps194, List.size_toArray, List.length_cons, List.length_nil, Nat.reduceAdd, Nat.reduceSub, Array.replicate_succ, Array.replicate_zero, List.push_toArray, List.append_toArray, List.nil_append, List.cons_append]
  gi_wp2_with (refine ⟨trivial, ?_⟩; gi_at_call 89; refine (members_in 5 _ _).mono ?_; rintro e w' ⟨rfl, rfl⟩)
  generalize ((w.alloc (.cells PC 81)).alloc (.cells #[.int .u64 0] 69)).alloc (.cells #[.int .u64 (s : Int)] 69) = w3 at *
  obtain ⟨b0, b1, b2, hb3⟩ := H3.out
  refine wpIn_rangeFunc_ownG (F := Fence.wide) rfl (by omega) (gf := 145) (lb := #[.pointer (some ⟨w.heap.size + 1 + 1, 0, none⟩)]) rfl trivial (enters_of Tryd.func145 (by kernel_rfl) rfl)
    (members_stops 5 (by omega) (w.heap.size + 1 + 1) s hs w3 (by omega) b2 (HT.out.below hb3))
    (fun h k t => k (h t)) (fun W l' o o' hl ho hc _ => KeepsTz.put ho hc) (Below.refl _ _) (fun _ => rfl)
    (fun (pre : List (Mb s)) W => (BlockIs W w.heap.size 81 PC ∧ Boxed W (w.heap.size + 1) 69 (.int .u64 (orGo B (vals pre) 0 : Nat))) ∧ Below w.heap.size w W)
    (fun _ _ _ => False)
    (OwnFrom.and (OwnFrom.and (Own.from (block_ownF _ _ _) _) (Own.from (boxed_own _ _ _) _)) (ownFrom_below (Nat.le_refl _) (by omega)))
    (fun _ _ _ _ _ h _ _ => h)
    ⟨⟨b0, b1⟩, hb3⟩
    (fun x => { tmps := #[.agg PC, .int .u64 (s : Int), .pointer (some ⟨w.heap.size, 0, none⟩), undef, .int .u64 0, .pointer (some ⟨w.heap.size + 1, 0, none⟩), .int .i64 (x.1 : Int), .int .u64 (s : Int), .func (.func 145) #[] #[.pointer (some ⟨w.heap.size + 1 + 1, 0, none⟩)], .int .i64 (x.1 : Int), undef, undef, undef, undef, undef, undef, undef], defers := [] }) ?assign ?body ?done ?stop
  case assign =>
    intro l' x W K hK
    unfold encM
    gi_wp2
    exact hK
  case body =>
    rintro l' pre ⟨x, hx⟩ W ⟨⟨y0, y1⟩, hb⟩ hl
    have hxl : x < 8 := lt_bit hs hx
    have hmo : Tryd.prog.follows .mixedOrders = true := by kernel_rfl
    have HSN : Hid (orGo B (vals (pre ++ [(⟨x, hx⟩ : Mb s)])) 0 = orGo B (vals pre) 0 ||| B x) := by show _ = _; rw [vals_snoc, orGo_snoc]
    have hsm : orGo B (vals pre) 0 < 256 := orGo_lt _ _ (by decide) fun j hj => hB8 j (by obtain ⟨z, _, rfl⟩ := List.mem_map.1 hj; exact lt_bit hs z.2)
    obtain ⟨W1, hW1⟩ : ∃ W1, W1 = W.drew := ⟨_, rfl⟩
    have q1 : W1.cell? ⟨w.heap.size + 1, 0, none⟩ = some (.int .u64 (orGo B (vals pre) 0 : Nat)) := by rw [hW1]; exact y1.cell
    have f1 : W1.frozen? ⟨w.heap.size + 1, 0, none⟩ = false := by rw [hW1]; exact y1.frozen
    have qj : W1.cell? ⟨w.heap.size, 1 + x, none⟩ = some (.int .u64 (B x : Int)) := by rw [hW1]; exact (y0.cell (1 + x)).trans (HPC2.out x hxl)
    have hx0 : (0 : Int) ≤ x := by omega
    have hx1 : (x : Int) < 8 := by omega
    have hbx := hB8 x hxl
    generalize orGo B (vals pre) 0 = sm at *
    generalize B x = bx at *
    have hor := bits_or_u64_nat sm bx (by omega) (by omega)
    dsimp only
    gi_wp2
    refine wpIn_region_detX (fun _ => trivial) (by kernel_rfl) hmo (fun (_ : Unit) (L : Array Bool) w' => (L.getD 6 true = false → w' = W1) ∧ (L.getD 6 true = true → w' = W1.setCell ⟨w.heap.size + 1, 0, none⟩ (.int .u64 (sm ||| bx : Nat)))) (fun _ k => (#[.int .u64 (sm : Int), .int .i64 (x : Int), .pointer (some ⟨w.heap.size, 1, none⟩), .pointer (some ⟨w.heap.size, 1 + x, none⟩), .int .u64 (bx : Int), .int .u64 (sm ||| bx : Nat), undef] : Array Value).getD k undef) () (by kernel_rfl) (by kernel_rfl) ⟨fun _ => hW1.symm, fun h => by cases h⟩ ?_ ?_
    · intro _ L tm w' hall hS hsz hlow hval
      obtain rfl := hS.2 (hall 6 (by decide))
      have ht : tm = #[.agg PC, .int .u64 (s : Int), .pointer (some ⟨w.heap.size, 0, none⟩), undef, .int .u64 0, .pointer (some ⟨w.heap.size + 1, 0, none⟩), .int .i64 (x : Int), .int .u64 (s : Int), .func (.func 145) #[] #[.pointer (some ⟨w.heap.size + 1 + 1, 0, none⟩)], .int .i64 (x : Int), .int .u64 (sm : Int), .int .i64 (x : Int), .pointer (some ⟨w.heap.size, 1, none⟩), .pointer (some ⟨w.heap.size, 1 + x, none⟩), .int .u64 (bx : Int), .int .u64 (sm ||| bx : Nat), undef] := by
        refine arr_of _ _ hsz fun t ht => ?_
        have ht' : t < 17 := ht
        rcases (by omega : t = 0 ∨ t = 1 ∨ t = 2 ∨ t = 3 ∨ t = 4 ∨ t = 5 ∨ t = 6 ∨ t = 7 ∨ t = 8 ∨ t = 9 ∨ t = 10 ∨ t = 11 ∨ t = 12 ∨ t = 13 ∨ t = 14 ∨ t = 15 ∨ t = 16) with rfl | rfl | rfl | rfl | rfl | rfl | rfl | rfl | rfl | rfl | rfl | rfl | rfl | rfl | rfl | rfl | rfl
        · exact hlow 0 (by kernel_rfl)
        · exact hlow 1 (by kernel_rfl)
        · exact hlow 2 (by kernel_rfl)
        · exact hlow 3 (by kernel_rfl)
        · exact hlow 4 (by kernel_rfl)
        · exact hlow 5 (by kernel_rfl)
        · exact hlow 6 (by kernel_rfl)
        · exact hlow 7 (by kernel_rfl)
        · exact hlow 8 (by kernel_rfl)
        · exact hlow 9 (by kernel_rfl)
        · exact hval 0 _ 10 rfl rfl
        · exact hval 1 _ 11 rfl rfl
        · exact hval 2 _ 12 rfl rfl
        · exact hval 3 _ 13 rfl rfl
        · exact hval 4 _ 14 rfl rfl
        · exact hval 5 _ 15 rfl rfl
        · exact hlow 16 (by kernel_rfl)
      subst ht
      clear hlow hval hsz hall hS
      have HW1 := Lib.hid hW1
      clear hW1
      gi_wp2
      have hbw : Below w.heap.size w (W1.setCell ⟨w.heap.size + 1, 0, none⟩ (.int .u64 (sm ||| bx : Nat))) := (show Below w.heap.size w W1 by rw [HW1.out]; exact hb.drew).setCell (p := ⟨w.heap.size + 1, 0, none⟩) (by simp) _
      have z0 : BlockIs W1 w.heap.size 81 PC := by rw [HW1.out]; exact y0
      have z1 : Boxed W1 (w.heap.size + 1) 69 (.int .u64 (sm : Int)) := by rw [HW1.out]; exact y1
      exact ⟨((KeepsOthers.drew W).trans (by rw [← HW1.out]; exact KeepsOthers.setCell _ _ _)).from _, fun _ => HT.out.below hbw, ⟨z0.away (g' := w.heap.size + 1) (by omega) 0 _, by rw [HSN.out]; exact z1.set _⟩, hbw⟩
    · intro _ L a' w' i op hLs ho hLi hLd hLn hS hlow hdep _
      have hi : i < 7 := (Array.getElem?_eq_some_iff.1 ho).1
      rcases (by omega : i = 0 ∨ i = 1 ∨ i = 2 ∨ i = 3 ∨ i = 4 ∨ i = 5 ∨ i = 6) with rfl | rfl | rfl | rfl | rfl | rfl | rfl
      · obtain rfl := Option.some.inj ho
        have e5 : a'.tmps[5]?.getD undef = .pointer (some ⟨w.heap.size + 1, 0, none⟩) := (Array.getD_eq_getD_getElem? ..).symm.trans (hlow 5 (by kernel_rfl))
        have hK : ((L.setIfInBounds 0 true).getD 6 true = false → w' = W1) ∧ ((L.setIfInBounds 0 true).getD 6 true = true → w' = W1.setCell ⟨w.heap.size + 1, 0, none⟩ (.int .u64 (sm ||| bx : Nat))) := by rw [getD_set_true, if_neg (fun h => by cases h.1)]; exact hS
        obtain rfl : W1 = w' := (hS.1 (hLn 6 (by kernel_rfl))).symm
        exact .inl ⟨wanted_free rfl, .inl ⟨(), _, fun _ _ => rfl, by simp [execOp, Act.eval, e5, q1, go_sem], hK⟩⟩
      · obtain rfl := Option.some.inj ho
        have e6 : a'.tmps[6]?.getD undef = .int .i64 (x : Int) := (Array.getD_eq_getD_getElem? ..).symm.trans (hlow 6 (by kernel_rfl))
        have hK : ((L.setIfInBounds 1 true).getD 6 true = false → w' = W1) ∧ ((L.setIfInBounds 1 true).getD 6 true = true → w' = W1.setCell ⟨w.heap.size + 1, 0, none⟩ (.int .u64 (sm ||| bx : Nat))) := by rw [getD_set_true, if_neg (fun h => by cases h.1)]; exact hS
        exact .inl ⟨wanted_free rfl, .inl ⟨(), _, fun _ _ => rfl, by simp [execOp, Act.eval, e6, go_sem], hK⟩⟩
      · obtain rfl := Option.some.inj ho
        have e2 : a'.tmps[2]?.getD undef = .pointer (some ⟨w.heap.size, 0, none⟩) := (Array.getD_eq_getD_getElem? ..).symm.trans (hlow 2 (by kernel_rfl))
        have hK : ((L.setIfInBounds 2 true).getD 6 true = false → w' = W1) ∧ ((L.setIfInBounds 2 true).getD 6 true = true → w' = W1.setCell ⟨w.heap.size + 1, 0, none⟩ (.int .u64 (sm ||| bx : Nat))) := by rw [getD_set_true, if_neg (fun h => by cases h.1)]; exact hS
        exact .inl ⟨wanted_free rfl, .inl ⟨(), _, fun _ _ => rfl, by simp [execOp, Act.eval, e2, go_sem], hK⟩⟩
      · obtain rfl := Option.some.inj ho
        have e12 : a'.tmps[12]?.getD undef = .pointer (some ⟨w.heap.size, 1, none⟩) := (Array.getD_eq_getD_getElem? ..).symm.trans (hdep 2 _ 12 (by kernel_rfl) rfl rfl)
        have e11 : a'.tmps[11]?.getD undef = .int .i64 (x : Int) := (Array.getD_eq_getD_getElem? ..).symm.trans (hdep 1 _ 11 (by kernel_rfl) rfl rfl)
        have hK : ((L.setIfInBounds 3 true).getD 6 true = false → w' = W1) ∧ ((L.setIfInBounds 3 true).getD 6 true = true → w' = W1.setCell ⟨w.heap.size + 1, 0, none⟩ (.int .u64 (sm ||| bx : Nat))) := by rw [getD_set_true, if_neg (fun h => by cases h.1)]; exact hS
        exact .inl ⟨wanted_free rfl, .inl ⟨(), _, fun _ _ => rfl, by simp [execOp, Act.eval, e12, e11, hx0, hx1, go_sem], hK⟩⟩
      · obtain rfl := Option.some.inj ho
        have e13 : a'.tmps[13]?.getD undef = .pointer (some ⟨w.heap.size, 1 + x, none⟩) := (Array.getD_eq_getD_getElem? ..).symm.trans (hdep 3 _ 13 (by kernel_rfl) rfl rfl)
        have hK : ((L.setIfInBounds 4 true).getD 6 true = false → w' = W1) ∧ ((L.setIfInBounds 4 true).getD 6 true = true → w' = W1.setCell ⟨w.heap.size + 1, 0, none⟩ (.int .u64 (sm ||| bx : Nat))) := by rw [getD_set_true, if_neg (fun h => by cases h.1)]; exact hS
        obtain rfl : W1 = w' := (hS.1 (hLn 6 (by kernel_rfl))).symm
        exact .inl ⟨wanted_free rfl, .inl ⟨(), _, fun _ _ => rfl, by simp [execOp, Act.eval, e13, qj, go_sem], hK⟩⟩
      · obtain rfl := Option.some.inj ho
        have e10 : a'.tmps[10]?.getD undef = .int .u64 (sm : Int) := (Array.getD_eq_getD_getElem? ..).symm.trans (hdep 0 _ 10 (by kernel_rfl) rfl rfl)
        have e14 : a'.tmps[14]?.getD undef = .int .u64 (bx : Int) := (Array.getD_eq_getD_getElem? ..).symm.trans (hdep 4 _ 14 (by kernel_rfl) rfl rfl)
        have hK : ((L.setIfInBounds 5 true).getD 6 true = false → w' = W1) ∧ ((L.setIfInBounds 5 true).getD 6 true = true → w' = W1.setCell ⟨w.heap.size + 1, 0, none⟩ (.int .u64 (sm ||| bx : Nat))) := by rw [getD_set_true, if_neg (fun h => by cases h.1)]; exact hS
        exact .inl ⟨wanted_free rfl, .inl ⟨(), _, fun _ _ => rfl, by simp [execOp, Act.eval, e10, e14, hor, go_sem], hK⟩⟩
      · obtain rfl := Option.some.inj ho
        have e5 : a'.tmps[5]?.getD undef = .pointer (some ⟨w.heap.size + 1, 0, none⟩) := (Array.getD_eq_getD_getElem? ..).symm.trans (hlow 5 (by kernel_rfl))
        have e15 : a'.tmps[15]?.getD undef = .int .u64 (sm ||| bx : Nat) := (Array.getD_eq_getD_getElem? ..).symm.trans (hdep 5 _ 15 (by kernel_rfl) rfl rfl)
        obtain rfl : W1 = w' := (hS.1 hLi).symm
        have hK : ((L.setIfInBounds 6 true).getD 6 true = false → W1.setCell ⟨w.heap.size + 1, 0, none⟩ (.int .u64 (sm ||| bx : Nat)) = W1) ∧ ((L.setIfInBounds 6 true).getD 6 true = true → W1.setCell ⟨w.heap.size + 1, 0, none⟩ (.int .u64 (sm ||| bx : Nat)) = W1.setCell ⟨w.heap.size + 1, 0, none⟩ (.int .u64 (sm ||| bx : Nat))) := ⟨fun h => (by rw [getD_set_true, if_pos ⟨rfl, by rw [hLs]; decide⟩] at h; cases h), fun _ => rfl⟩
        exact .inl ⟨wanted_free rfl, .inr ⟨(), W1.setCell ⟨w.heap.size + 1, 0, none⟩ (.int .u64 (sm ||| bx : Nat)), fun _ _ => rfl, rfl, by simp [execOp, Act.eval, e5, e15, f1, q1, go_sem], hK⟩⟩
  case done =>
    rintro D ys W hD hys ⟨⟨y0, y1⟩, hb⟩ hK
    have hc := y1.cell
    rw [hys] at hc
    gi_wp2
    refine ⟨by simp, .inl ⟨_, _, rfl, run_takeDeferred hK, ?_⟩⟩
    exact ⟨_, results_tmp rfl _ _ _, rfl, hb.trans (belowK_b (w := w3) (by omega) W D _ _ (by omega) hK rfl rfl)⟩
  case stop =>
    rintro D cd pre W _ _ h _
    exact h.elim
end
end Go.Proofs.YtjemjdlaoebffaaDoor
