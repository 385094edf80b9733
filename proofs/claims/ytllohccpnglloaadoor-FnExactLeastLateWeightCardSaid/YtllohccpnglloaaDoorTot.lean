/- The sum of the Times of a set: the program's. -/
import Derived.Test.YtllohccpnglloaaDoorMbr
import Derived.Test.YtllohccpnglloaaDoorRegX
import Derived.Test.YtllohccpnglloaaDoorPln
import Derived.Test.YtllohccpnglloaaDoorEndsO
import Derived.Shelf.RegionOpen
namespace Go.Proofs.YtllohccpnglloaaDoor
open Go.RowKit Go.Shelf
attribute [local go_sem] Oper.semAt_some
def sumT (js : List J) (l : List Nat) : Int := (l.map fun k => (js.getD k j0).t).sum
theorem sumT_snoc (js : List J) (l : List Nat) (k : Nat) : sumT js (l ++ [k]) = sumT js l + (js.getD k j0).t := by unfold sumT; simp
theorem sumT_bd {js : List J} (hok : ∀ j ∈ js, okJ j = true) : ∀ l : List Nat, (∀ k ∈ l, k < js.length) → 0 ≤ sumT js l ∧ sumT js l ≤ 50 * (l.length : Int)
  | [], _ => by simp [sumT]
  | k :: l, h => by
    have h1 := sumT_bd hok l (fun x hx => h x (List.mem_cons_of_mem _ hx))
    have hk := h k List.mem_cons_self
    have h2 := okJ_out (hok _ (List.getElem_mem hk))
    have e : sumT js (k :: l) = js[k].t + sumT js l := by unfold sumT; simp [List.getD, hk]
    rw [e, List.length_cons]
    omega
def timeB (js : List J) (s : Nat) : Int := sumT js (memB s)
section
variable (A : Option Addr) (c s : Nat) (js : List J) (w : World) (hs : s < 256) (hr : Row w A (jc js)) (hok : ∀ j ∈ js, okJ j = true) (hlt : ∀ k, s.testBit k = true → k < js.length) (hT : TzTab w)
include hs hr hok hlt hT
set_option maxRecDepth 100000 in
set_option maxHeartbeats 4000000 in
theorem timeOf_any : Calls Tryd.prog 34 #[.slice A js.length c, .int .u64 (s : Int)] w fun e w' => e = .returned (.int .i64 (timeB js s)) ∧ Below w.heap.size w w' := by
  have b0 : Boxed (((w.alloc (.cells #[.slice A js.length c] 42)).alloc (.cells #[.int .i64 0] 3)).alloc (.cells #[.int .u64 (s : Int)] 52)) w.heap.size 42 (.slice A js.length c) := ((Boxed.new w 42 (.slice A js.length c)).alloc _).alloc _
  have b1 : Boxed (((w.alloc (.cells #[.slice A js.length c] 42)).alloc (.cells #[.int .i64 0] 3)).alloc (.cells #[.int .u64 (s : Int)] 52)) (w.heap.size + 1) 3 (.int .i64 0) := by
    have h := (Boxed.new (w.alloc (.cells #[.slice A js.length c] 42)) 3 (.int .i64 0)).alloc (.cells #[.int .u64 (s : Int)] 52)
    rwa [World.size_alloc] at h
  have b2 : Boxed (((w.alloc (.cells #[.slice A js.length c] 42)).alloc (.cells #[.int .i64 0] 3)).alloc (.cells #[.int .u64 (s : Int)] 52)) (w.heap.size + 1 + 1) 52 (.int .u64 (s : Int)) := by
    have h := Boxed.new ((w.alloc (.cells #[.slice A js.length c] 42)).alloc (.cells #[.int .i64 0] 3)) 52 (.int .u64 (s : Int))
    rwa [World.size_alloc, World.size_alloc] at h
  have hb3 : Below w.heap.size w (((w.alloc (.cells #[.slice A js.length c] 42)).alloc (.cells #[.int .i64 0] 3)).alloc (.cells #[.int .u64 (s : Int)] 52)) := (((Below.refl _ w).alloc (Nat.le_refl _) _).alloc (by simp) _).alloc (by simp; omega) _
  have hz3 : (((w.alloc (.cells #[.slice A js.length c] 42)).alloc (.cells #[.int .i64 0] 3)).alloc (.cells #[.int .u64 (s : Int)] 52)).heap.size = w.heap.size + 1 + 1 + 1 := by simp
  have H3 := Lib.hid (And.intro b0 (And.intro b1 (And.intro b2 hb3)))
  have HR := Lib.hid hr
  have HT := Lib.hid hT
  clear b0 b1 b2 hb3 hr hT
  refine (callsIn_wide (n := 6)).1 ?_
  refine callsIn_of_wp_marks Tryd.func34 rfl trivial ?_ rfl
  simp only [Tryd.ntmps34, List.size_toArray, List.length_cons, List.length_nil, Nat.reduceAdd, Nat.reduceSub, Array.replicate_succ, Array.replicate_zero, List.push_toArray, List.append_toArray, List.nil_append, List.cons_append]
  gi_wp2_with (refine ⟨trivial, ?_⟩; gi_at_call 37; refine (members_in 5 _ _).mono ?_; rintro e w' ⟨rfl, rfl⟩)
  generalize ((w.alloc (.cells #[.slice A js.length c] 42)).alloc (.cells #[.int .i64 0] 3)).alloc (.cells #[.int .u64 (s : Int)] 52) = w3 at *
  -- RANGE
  obtain ⟨b0, b1, b2, hb3⟩ := H3.out
  refine wpIn_rangeFunc_ownG (F := Fence.wide) rfl (by omega) (gf := 49) (lb := #[.pointer (some ⟨w.heap.size + 1 + 1, 0, none⟩)]) rfl trivial (enters_of Tryd.func49 (by kernel_rfl) rfl)
    (members_stops 5 (by omega) (w.heap.size + 1 + 1) s hs w3 (by omega) b2 (HT.out.below hb3))
    (fun h k t => k (h t)) (fun W l' o o' hl ho hc _ => KeepsTz.put ho hc) (Below.refl _ _) (fun _ => rfl)
    (fun (pre : List (Mb s)) W => (Boxed W w.heap.size 42 (.slice A js.length c) ∧ Boxed W (w.heap.size + 1) 3 (.int .i64 (sumT js (vals pre)))) ∧ Below w.heap.size w W)
    (fun _ _ _ => False)
    (OwnFrom.and (OwnFrom.and (Own.from (boxed_own _ _ _) _) (Own.from (boxed_own _ _ _) _)) (ownFrom_below (Nat.le_refl _) (by omega)))
    (fun _ _ _ _ _ h _ _ => h)
    ⟨⟨b0, b1⟩, hb3⟩
    (fun x => { tmps := #[.slice A js.length c, .int .u64 (s : Int), .pointer (some ⟨w.heap.size, 0, none⟩), undef, .int .i64 0, .pointer (some ⟨w.heap.size + 1, 0, none⟩), .int .i64 (x.1 : Int), .int .u64 (s : Int), .func (.func 49) #[] #[.pointer (some ⟨w.heap.size + 1 + 1, 0, none⟩)], .int .i64 (x.1 : Int), undef, undef, undef, undef, undef, undef, undef, undef], defers := [] }) ?assign ?body ?done ?stop
  case assign =>
    intro l' x W K hK
    unfold encM
    gi_wp2
    exact hK
  case body =>
    rintro l' pre ⟨x, hx⟩ W ⟨⟨y0, y1⟩, hb⟩ hl
    have hxl := hlt x hx
    have hmo : Tryd.prog.follows .mixedOrders = true := by kernel_rfl
    obtain ⟨ad, rfl, hadb, cj0, cj1, cj2, cj3⟩ := (HR.out.below hb).job hxl
    have HSN : Hid (sumT js (vals (pre ++ [(⟨x, hx⟩ : Mb s)])) = sumT js (vals pre) + js[x].t) := by show _ = _; rw [vals_snoc, sumT_snoc, getD_at js j0 hxl]
    have hpl : (vals pre).length ≤ 8 := by have h1 := memB_len s; rw [vals_len]; omega
    have hbd := sumT_bd hok (vals pre) (fun k hk => by obtain ⟨z, _, rfl⟩ := List.mem_map.1 hk; exact hlt _ z.2)
    have hjt := okJ_out (hok _ (List.getElem_mem hxl))
    obtain ⟨W1, hW1⟩ : ∃ W1, W1 = W.drew := ⟨_, rfl⟩
    have q0 : W1.cell? ⟨w.heap.size, 0, none⟩ = some (.slice (some ad) js.length c) := by rw [hW1]; exact y0.cell
    have q1 : W1.cell? ⟨w.heap.size + 1, 0, none⟩ = some (.int .i64 (sumT js (vals pre))) := by rw [hW1]; exact y1.cell
    have f1 : W1.frozen? ⟨w.heap.size + 1, 0, none⟩ = false := by rw [hW1]; exact y1.frozen
    have qj : W1.cell? (ad.add (x * 4)) = some (.int .i64 js[x].t) := by rw [hW1]; exact cj0
    have hx0 : (0 : Int) ≤ x := by omega
    have hx1 : (x : Int) < js.length := by omega
    generalize js[x] = j at *
    generalize sumT js (vals pre) = sm at *
    have hwr := IntWalk.i64_in (sm + j.t) (by omega)
    dsimp only
    gi_wp2
    refine wpIn_region_detX (fun _ => trivial) (by kernel_rfl) hmo (fun (_ : Unit) (L : Array Bool) w' => (L.getD 7 true = false → w' = W1) ∧ (L.getD 7 true = true → w' = W1.setCell ⟨w.heap.size + 1, 0, none⟩ (.int .i64 (sm + j.t)))) (fun _ k => (#[.int .i64 sm, .slice (some ad) js.length c, .int .i64 (x : Int), .pointer (some (ad.add (x * 4))), .pointer (some (ad.add (x * 4))), .int .i64 j.t, .int .i64 (sm + j.t), undef] : Array Value).getD k undef) () (by kernel_rfl) (by kernel_rfl) ⟨fun _ => hW1.symm, fun h => by cases h⟩ ?_ ?_
    · intro _ L tm w' hall hS hsz hlow hval
      obtain rfl := hS.2 (hall 7 (by decide))
      have ht : tm = #[.slice (some ad) js.length c, .int .u64 (s : Int), .pointer (some ⟨w.heap.size, 0, none⟩), undef, .int .i64 0, .pointer (some ⟨w.heap.size + 1, 0, none⟩), .int .i64 (x : Int), .int .u64 (s : Int), .func (.func 49) #[] #[.pointer (some ⟨w.heap.size + 1 + 1, 0, none⟩)], .int .i64 (x : Int), .int .i64 sm, .slice (some ad) js.length c, .int .i64 (x : Int), .pointer (some (ad.add (x * 4))), .pointer (some (ad.add (x * 4))), .int .i64 j.t, .int .i64 (sm + j.t), undef] := by
        refine arr_of _ _ hsz fun t ht => ?_
        have ht' : t < 18 := ht
        rcases (by omega : t = 0 ∨ t = 1 ∨ t = 2 ∨ t = 3 ∨ t = 4 ∨ t = 5 ∨ t = 6 ∨ t = 7 ∨ t = 8 ∨ t = 9 ∨ t = 10 ∨ t = 11 ∨ t = 12 ∨ t = 13 ∨ t = 14 ∨ t = 15 ∨ t = 16 ∨ t = 17) with rfl | rfl | rfl | rfl | rfl | rfl | rfl | rfl | rfl | rfl | rfl | rfl | rfl | rfl | rfl | rfl | rfl | rfl
        · exact hlow 0 (by kernel_rfl)
        · exact hlow 1 (by kernel_rfl)
        · exact hlow 2 (by kernel_rfl)
        · exact hlow 3 (by kernel_rfl)
        · exact hlow 4 (by kernel_rfl)
        · exact hlow 5 (by kernel_rfl)
        · exact hlow 6 (by kernel_rfl)
        · exact hlow 7 (by kernel_rfl)
        · exact hlow 8 (by kernel_rfl)
        · exact hlow 9 (by kernel_rfl)
        · exact hval 0 _ 10 rfl rfl
        · exact hval 1 _ 11 rfl rfl
        · exact hval 2 _ 12 rfl rfl
        · exact hval 3 _ 13 rfl rfl
        · exact hval 4 _ 14 rfl rfl
        · exact hval 5 _ 15 rfl rfl
        · exact hval 6 _ 16 rfl rfl
        · exact hlow 17 (by kernel_rfl)
      subst ht
      clear hlow hval hsz hall hS
      have HW1 := Lib.hid hW1
      clear hW1
      gi_wp2
      have hbw : Below w.heap.size w (W1.setCell ⟨w.heap.size + 1, 0, none⟩ (.int .i64 (sm + j.t))) := (show Below w.heap.size w W1 by rw [HW1.out]; exact hb.drew).setCell (p := ⟨w.heap.size + 1, 0, none⟩) (by simp) _
      have z0 : Boxed W1 w.heap.size 42 (.slice (some ad) js.length c) := by rw [HW1.out]; exact y0
      have z1 : Boxed W1 (w.heap.size + 1) 3 (.int .i64 sm) := by rw [HW1.out]; exact y1
      exact ⟨((KeepsOthers.drew W).trans (by rw [← HW1.out]; exact KeepsOthers.setCell _ _ _)).from _, fun _ => HT.out.below hbw, ⟨z0.other (by omega) _, by rw [HSN.out]; exact z1.set _⟩, hbw⟩
    · intro _ L a' w' i op hLs ho hLi hLd hLn hS hlow hdep _
      have hi : i < 8 := (Array.getElem?_eq_some_iff.1 ho).1
      rcases (by omega : i = 0 ∨ i = 1 ∨ i = 2 ∨ i = 3 ∨ i = 4 ∨ i = 5 ∨ i = 6 ∨ i = 7) with rfl | rfl | rfl | rfl | rfl | rfl | rfl | rfl
      · obtain rfl := Option.some.inj ho
        have e5 : a'.tmps[5]?.getD undef = .pointer (some ⟨w.heap.size + 1, 0, none⟩) := (Array.getD_eq_getD_getElem? ..).symm.trans (hlow 5 (by kernel_rfl))
        have hK : ((L.setIfInBounds 0 true).getD 7 true = false → w' = W1) ∧ ((L.setIfInBounds 0 true).getD 7 true = true → w' = W1.setCell ⟨w.heap.size + 1, 0, none⟩ (.int .i64 (sm + j.t))) := by rw [getD_set_true, if_neg (fun h => by cases h.1)]; exact hS
        obtain rfl : W1 = w' := (hS.1 (hLn 7 (by kernel_rfl))).symm
        exact .inl ⟨wanted_free rfl, .inl ⟨(), _, fun _ _ => rfl, by simp [execOp, Act.eval, e5, q1, go_sem], hK⟩⟩
      · obtain rfl := Option.some.inj ho
        have e2 : a'.tmps[2]?.getD undef = .pointer (some ⟨w.heap.size, 0, none⟩) := (Array.getD_eq_getD_getElem? ..).symm.trans (hlow 2 (by kernel_rfl))
        have hK : ((L.setIfInBounds 1 true).getD 7 true = false → w' = W1) ∧ ((L.setIfInBounds 1 true).getD 7 true = true → w' = W1.setCell ⟨w.heap.size + 1, 0, none⟩ (.int .i64 (sm + j.t))) := by rw [getD_set_true, if_neg (fun h => by cases h.1)]; exact hS
        obtain rfl : W1 = w' := (hS.1 (hLn 7 (by kernel_rfl))).symm
        exact .inl ⟨wanted_free rfl, .inl ⟨(), _, fun _ _ => rfl, by simp [execOp, Act.eval, e2, q0, go_sem], hK⟩⟩
      · obtain rfl := Option.some.inj ho
        have e6 : a'.tmps[6]?.getD undef = .int .i64 (x : Int) := (Array.getD_eq_getD_getElem? ..).symm.trans (hlow 6 (by kernel_rfl))
        have hK : ((L.setIfInBounds 2 true).getD 7 true = false → w' = W1) ∧ ((L.setIfInBounds 2 true).getD 7 true = true → w' = W1.setCell ⟨w.heap.size + 1, 0, none⟩ (.int .i64 (sm + j.t))) := by rw [getD_set_true, if_neg (fun h => by cases h.1)]; exact hS
        exact .inl ⟨wanted_free rfl, .inl ⟨(), _, fun _ _ => rfl, by simp [execOp, Act.eval, e6, go_sem], hK⟩⟩
      · obtain rfl := Option.some.inj ho
        have e11 : a'.tmps[11]?.getD undef = .slice (some ad) js.length c := (Array.getD_eq_getD_getElem? ..).symm.trans (hdep 1 _ 11 (by kernel_rfl) rfl rfl)
        have e12 : a'.tmps[12]?.getD undef = .int .i64 (x : Int) := (Array.getD_eq_getD_getElem? ..).symm.trans (hdep 2 _ 12 (by kernel_rfl) rfl rfl)
        have hK : ((L.setIfInBounds 3 true).getD 7 true = false → w' = W1) ∧ ((L.setIfInBounds 3 true).getD 7 true = true → w' = W1.setCell ⟨w.heap.size + 1, 0, none⟩ (.int .i64 (sm + j.t))) := by rw [getD_set_true, if_neg (fun h => by cases h.1)]; exact hS
        exact .inl ⟨wanted_free rfl, .inl ⟨(), _, fun _ _ => rfl, by simp [execOp, Act.eval, e11, e12, hx0, hx1, go_sem], hK⟩⟩
      · obtain rfl := Option.some.inj ho
        have e13 : a'.tmps[13]?.getD undef = .pointer (some (ad.add (x * 4))) := (Array.getD_eq_getD_getElem? ..).symm.trans (hdep 3 _ 13 (by kernel_rfl) rfl rfl)
        have hK : ((L.setIfInBounds 4 true).getD 7 true = false → w' = W1) ∧ ((L.setIfInBounds 4 true).getD 7 true = true → w' = W1.setCell ⟨w.heap.size + 1, 0, none⟩ (.int .i64 (sm + j.t))) := by rw [getD_set_true, if_neg (fun h => by cases h.1)]; exact hS
        exact .inl ⟨wanted_free rfl, .inl ⟨(), _, fun _ _ => rfl, by simp [execOp, Act.eval, e13, go_sem], hK⟩⟩
      · obtain rfl := Option.some.inj ho
        have e14 : a'.tmps[14]?.getD undef = .pointer (some (ad.add (x * 4))) := (Array.getD_eq_getD_getElem? ..).symm.trans (hdep 4 _ 14 (by kernel_rfl) rfl rfl)
        have hK : ((L.setIfInBounds 5 true).getD 7 true = false → w' = W1) ∧ ((L.setIfInBounds 5 true).getD 7 true = true → w' = W1.setCell ⟨w.heap.size + 1, 0, none⟩ (.int .i64 (sm + j.t))) := by rw [getD_set_true, if_neg (fun h => by cases h.1)]; exact hS
        obtain rfl : W1 = w' := (hS.1 (hLn 7 (by kernel_rfl))).symm
        exact .inl ⟨wanted_free rfl, .inl ⟨(), _, fun _ _ => rfl, by simp [execOp, Act.eval, e14, qj, go_sem], hK⟩⟩
      · obtain rfl := Option.some.inj ho
        have e10 : a'.tmps[10]?.getD undef = .int .i64 sm := (Array.getD_eq_getD_getElem? ..).symm.trans (hdep 0 _ 10 (by kernel_rfl) rfl rfl)
        have e15 : a'.tmps[15]?.getD undef = .int .i64 j.t := (Array.getD_eq_getD_getElem? ..).symm.trans (hdep 5 _ 15 (by kernel_rfl) rfl rfl)
        have hK : ((L.setIfInBounds 6 true).getD 7 true = false → w' = W1) ∧ ((L.setIfInBounds 6 true).getD 7 true = true → w' = W1.setCell ⟨w.heap.size + 1, 0, none⟩ (.int .i64 (sm + j.t))) := by rw [getD_set_true, if_neg (fun h => by cases h.1)]; exact hS
        exact .inl ⟨wanted_free rfl, .inl ⟨(), _, fun _ _ => rfl, by simp [execOp, Act.eval, e10, e15, hwr, go_sem], hK⟩⟩
      · obtain rfl := Option.some.inj ho
        have e5 : a'.tmps[5]?.getD undef = .pointer (some ⟨w.heap.size + 1, 0, none⟩) := (Array.getD_eq_getD_getElem? ..).symm.trans (hlow 5 (by kernel_rfl))
        have e16 : a'.tmps[16]?.getD undef = .int .i64 (sm + j.t) := (Array.getD_eq_getD_getElem? ..).symm.trans (hdep 6 _ 16 (by kernel_rfl) rfl rfl)
        obtain rfl : W1 = w' := (hS.1 hLi).symm
        have hK : ((L.setIfInBounds 7 true).getD 7 true = false → W1.setCell ⟨w.heap.size + 1, 0, none⟩ (.int .i64 (sm + j.t)) = W1) ∧ ((L.setIfInBounds 7 true).getD 7 true = true → W1.setCell ⟨w.heap.size + 1, 0, none⟩ (.int .i64 (sm + j.t)) = W1.setCell ⟨w.heap.size + 1, 0, none⟩ (.int .i64 (sm + j.t))) := ⟨fun h => (by rw [getD_set_true, if_pos ⟨rfl, by rw [hLs]; decide⟩] at h; cases h), fun _ => rfl⟩
        exact .inl ⟨wanted_free rfl, .inr ⟨(), W1.setCell ⟨w.heap.size + 1, 0, none⟩ (.int .i64 (sm + j.t)), fun _ _ => rfl, rfl, by simp [execOp, Act.eval, e5, e16, q1, f1, go_sem], hK⟩⟩
  case done =>
    rintro D ys W hD hys ⟨⟨y0, y1⟩, hb⟩ hK
    have hc := y1.cell
    gi_wp2
    refine ⟨by simp, .inl ⟨_, _, rfl, run_takeDeferred hK, ?_⟩⟩
    exact ⟨_, results_tmp rfl _ _ _, rfl, hb.trans (belowK_b (w := w3) (by omega) W D _ _ (by omega) hK rfl rfl)⟩
  case stop =>
    rintro D cd pre W _ _ h _
    exact h.elim
end
theorem memB_all : ∀ n, n < 9 → memB (2 ^ n - 1) = List.range n := by decide +kernel
theorem pow_lt : ∀ n, n < 9 → 2 ^ n - 1 < 256 := by decide
theorem all_bit {n : Nat} (hn : n < 9) {k : Nat} (h : (2 ^ n - 1).testBit k = true) : k < n := by
  have h1 := (memB_mem (pow_lt n hn)).2 h
  rw [memB_all n hn] at h1
  exact List.mem_range.1 h1
def totL (js : List J) : Int := sumT js (List.range js.length)
def totalR (js : List J) : Int × Bool := if plainL js then (totL js, true) else (0, false)
def totTo (js : List J) (k : Nat) : Int := sumT js (List.range k)
theorem totTo_succ (js : List J) (k : Nat) (hk : k < js.length) : totTo js (k + 1) = totTo js k + js[k].t := by
  unfold totTo; rw [List.range_succ, sumT_snoc, getD_at js j0 hk]
section
variable (A : Option Addr) (c : Nat) (js : List J) (w : World) (hr : Row w A (jc js))
include hr
theorem l2Sum_any (hg : goodL js = true) : Calls Tryd.prog 30 #[.slice A js.length c] w fun e w' => e = .returned (.int .i64 (totL js)) ∧ Below w.heap.size w w' := by
  obtain ⟨h8, hok⟩ := good_out hg
  go_enter Tryd.func30, Tryd.ntmps30
  go_wp2
  go_loopw [3, 4] (fun sv i wr => ∃ k : Nat, k ≤ js.length ∧ i = .int .i64 k ∧ sv = .int .i64 (totTo js k) ∧ Below w.heap.size w wr) (fun _ i _ => js.length - (intOf i).toNat)
  case atStart => exact ⟨0, Nat.zero_le _, rfl, rfl, Below.refl _ _⟩
  case round =>
    obtain ⟨k, hk, rfl, rfl, hb⟩ := hrel
    by_cases hlt : k < js.length
    · obtain ⟨a, hA', _, hc0, hc1, hc2, hc3⟩ := (hr.below hb).job hlt
      subst hA'
      have hi : (0 : Int) ≤ k := by omega
      have hi' : (k : Int) < js.length := by omega
      have hbd := sumT_bd hok (List.range k) (fun x hx => by have := List.mem_range.1 hx; omega)
      rw [List.length_range] at hbd
      have hjt := okJ_out (hok _ (List.getElem_mem hlt))
      have HS := Lib.hid (totTo_succ js k hlt)
      have hbd1 : 0 ≤ totTo js k := hbd.1
      have hbd2 : totTo js k ≤ 50 * (k : Int) := hbd.2
      clear hbd hr hok hg
      generalize totTo js k = t1 at *
      generalize js[k] = j at *
      go_wp2
      go_roundw
      case rel => exact ⟨k + 1, by omega, by go_num, by rw [HS.out], hb⟩
      case measure => simp [intOf]; omega
    · obtain rfl : k = js.length := by omega
      have HG : Hid (totTo js js.length = totL js) := rfl
      go_wp2
      go_ret
      exact ⟨by rw [← HG.out]; rfl, hb⟩
end
end Go.Proofs.YtllohccpnglloaaDoor
