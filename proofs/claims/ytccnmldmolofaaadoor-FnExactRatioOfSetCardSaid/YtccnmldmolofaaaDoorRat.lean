/- The sums of the weights and of the times of a set. -/
import Derived.Test.YtccnmldmolofaaaDoorTot
import Derived.Test.YtccnmldmolofaaaDoorRsi
import Derived.Test.YtccnmldmolofaaaDoorBlo
namespace Go.Proofs.YtccnmldmolofaaaDoor
open Go.RowKit Go.Shelf
attribute [local go_sem] Oper.semAt_some
def sumW (js : List J) (l : List Nat) : Int := (l.map fun k => (js.getD k j0).w).sum
theorem sumW_snoc (js : List J) (l : List Nat) (k : Nat) : sumW js (l ++ [k]) = sumW js l + (js.getD k j0).w := by unfold sumW; simp
theorem sumW_bd {js : List J} (hok : ∀ j ∈ js, okJ j = true) : ∀ l : List Nat, (∀ k ∈ l, k < js.length) → 0 ≤ sumW js l ∧ sumW js l ≤ 50 * (l.length : Int)
  | [], _ => by simp [sumW]
  | k :: l, h => by
    have h1 := sumW_bd hok l (fun x hx => h x (List.mem_cons_of_mem _ hx))
    have hk := h k List.mem_cons_self
    have h2 := okJ_out (hok _ (List.getElem_mem hk))
    have e : sumW js (k :: l) = js[k].w + sumW js l := by unfold sumW; simp [List.getD, hk]
    rw [e, List.length_cons]
    omega
theorem block_own {β : Type} (g : Nat) (t : TypeId) (f : β → Array Value) : Own (fun s W => BlockIs W g t (f s)) := fun s X Y row hs hg hrow =>
  (hg.block g (Array.getElem?_eq_some_iff.1 hs).1 (fun e => by
    obtain ⟨o, ho, hc⟩ := hrow g e.symm
    rw [show X.heap[g]? = _ from hs] at ho
    cases ho; cases hc)).trans hs
section
variable (A : Option Addr) (c s : Nat) (js : List J) (w : World) (hs : s < 256) (hr : Row w A (jc js)) (hok : ∀ j ∈ js, okJ j = true) (hlt : ∀ k, s.testBit k = true → k < js.length) (hT : TzTab w)
include hs hr hok hlt hT
set_option maxRecDepth 100000 in
set_option maxHeartbeats 4000000 in
theorem ratioOf_any : Calls Tryd.prog 37 #[.slice A js.length c, .int .u64 (s : Int)] w fun e w' => e = .returned (.agg #[.int .i64 (sumW js (memB s)), .int .i64 (sumT js (memB s))]) ∧ Below w.heap.size w w' := by
  have s1 : (w.alloc (.cells #[.slice A js.length c] 27)).heap.size = w.heap.size + 1 := by simp
  have s2 : ((w.alloc (.cells #[.slice A js.length c] 27)).alloc (.cells #[.int .i64 0, .int .i64 0] 57)).heap.size = w.heap.size + 1 + 1 := by simp
  have s3 : (((w.alloc (.cells #[.slice A js.length c] 27)).alloc (.cells #[.int .i64 0, .int .i64 0] 57)).alloc (.cells #[.int .i64 0, .int .i64 0] 57)).heap.size = w.heap.size + 1 + 1 + 1 := by simp
  have s4 : ((((w.alloc (.cells #[.slice A js.length c] 27)).alloc (.cells #[.int .i64 0, .int .i64 0] 57)).alloc (.cells #[.int .i64 0, .int .i64 0] 57)).alloc (.cells #[.int .u64 (s : Int)] 60)).heap.size = w.heap.size + 1 + 1 + 1 + 1 := by simp
  have b0 := BlockIs.new w 27 #[.slice A js.length c]
  have b1 := BlockIs.new (w.alloc (.cells #[.slice A js.length c] 27)) 57 #[.int .i64 0, .int .i64 0]
  have b2 := BlockIs.new ((w.alloc (.cells #[.slice A js.length c] 27)).alloc (.cells #[.int .i64 0, .int .i64 0] 57)) 57 #[.int .i64 0, .int .i64 0]
  have b3 := BlockIs.new (((w.alloc (.cells #[.slice A js.length c] 27)).alloc (.cells #[.int .i64 0, .int .i64 0] 57)).alloc (.cells #[.int .i64 0, .int .i64 0] 57)) 60 #[.int .u64 (s : Int)]
  have g1 := (Below.refl (w.alloc (.cells #[.slice A js.length c] 27)).heap.size (w.alloc (.cells #[.slice A js.length c] 27))).alloc (Nat.le_refl _) (.cells #[.int .i64 0, .int .i64 0] 57)
  have g2 := (Below.refl ((w.alloc (.cells #[.slice A js.length c] 27)).alloc (.cells #[.int .i64 0, .int .i64 0] 57)).heap.size ((w.alloc (.cells #[.slice A js.length c] 27)).alloc (.cells #[.int .i64 0, .int .i64 0] 57))).alloc (Nat.le_refl _) (.cells #[.int .i64 0, .int .i64 0] 57)
  have g3 := (Below.refl (((w.alloc (.cells #[.slice A js.length c] 27)).alloc (.cells #[.int .i64 0, .int .i64 0] 57)).alloc (.cells #[.int .i64 0, .int .i64 0] 57)).heap.size (((w.alloc (.cells #[.slice A js.length c] 27)).alloc (.cells #[.int .i64 0, .int .i64 0] 57)).alloc (.cells #[.int .i64 0, .int .i64 0] 57))).alloc (Nat.le_refl _) (.cells #[.int .u64 (s : Int)] 60)
  have hb4 := (((Below.refl w.heap.size w).alloc (Nat.le_refl _) (.cells #[.slice A js.length c] 27)).trans (g1.mono (by rw [s1]; omega))).trans ((g2.mono (by rw [s2]; omega)).trans (g3.mono (by rw [s3]; omega)))
  have c0 := ((b0.below g1).below g2).below g3
  have c1 := (b1.below g2).below g3
  have c2 := b2.below g3
  rw [s1] at c1
  rw [s2] at c2
  rw [s3] at b3
  have H3 := Lib.hid (And.intro c0 (And.intro c1 (And.intro c2 (And.intro b3 hb4))))
  have HR := Lib.hid hr
  have HT := Lib.hid hT
  clear b0 b1 b2 b3 g1 g2 g3 c0 c1 c2 hb4 hr hT s1 s2 s3
  refine (callsIn_wide (n := 6)).1 ?_
  refine callsIn_of_wp_marks Tryd.func37 rfl trivial ?_ rfl
  simp only [Tryd.ntmps37, List.size_toArray, List.length_cons, List.length_nil, Nat.reduceAdd, Nat.reduceSub, Array.replicate_succ, Array.replicate_zero, List.push_toArray, List.append_toArray, List.nil_append, List.cons_append]
  gi_wp2_with (refine ⟨trivial, ?_⟩; gi_at_call 62; refine (members_in 5 _ _).mono ?_; rintro e w' ⟨rfl, rfl⟩)
  generalize ((((w.alloc (.cells #[.slice A js.length c] 27)).alloc (.cells #[.int .i64 0, .int .i64 0] 57)).alloc (.cells #[.int .i64 0, .int .i64 0] 57)).alloc (.cells #[.int .u64 (s : Int)] 60)) = w3 at *
  obtain ⟨b0, b1, b2, b3, hb3⟩ := H3.out
  refine wpIn_rangeFunc_ownG (F := Fence.wide) rfl (by omega) (gf := 86) (lb := #[.pointer (some ⟨w.heap.size + 1 + 1 + 1, 0, none⟩)]) rfl trivial (enters_of Tryd.func86 (by kernel_rfl) rfl)
    (members_stops 5 (by omega) (w.heap.size + 1 + 1 + 1) s hs w3 (by omega) b3 (HT.out.below hb3))
    (fun h k t => k (h t)) (fun W l' o o' hl ho hc _ => KeepsTz.put ho hc) (Below.refl _ _) (fun _ => rfl)
    (fun (pre : List (Mb s)) W => ((BlockIs W w.heap.size 27 #[.slice A js.length c] ∧ BlockIs W (w.heap.size + 1) 57 #[.int .i64 0, .int .i64 0]) ∧ BlockIs W (w.heap.size + 1 + 1) 57 #[.int .i64 (sumW js (vals pre)), .int .i64 (sumT js (vals pre))]) ∧ Below w.heap.size w W)
    (fun _ _ _ => False)
    (OwnFrom.and (OwnFrom.and (OwnFrom.and (Own.from (block_own _ _ _) _) (Own.from (block_own _ _ _) _)) (Own.from (block_own _ _ _) _)) (ownFrom_below (Nat.le_refl _) (by omega)))
    (fun _ _ _ _ _ h _ _ => h)
    ⟨⟨⟨b0, b1⟩, b2⟩, hb3⟩
    (fun x => { tmps := #[.slice A js.length c, .int .u64 (s : Int), .pointer (some ⟨w.heap.size, 0, none⟩), undef, .pointer (some ⟨w.heap.size + 1, 0, none⟩), .pointer (some ⟨w.heap.size + 1 + 1, 0, none⟩), .int .i64 (x.1 : Int), .agg #[.int .i64 0, .int .i64 0], .int .u64 (s : Int), .func (.func 86) #[] #[.pointer (some ⟨w.heap.size + 1 + 1 + 1, 0, none⟩)], .int .i64 (x.1 : Int), undef, undef, undef, undef, undef, undef, undef, undef, undef, undef, undef, undef, undef, undef, undef, undef, undef, undef, undef], defers := [] }) ?assign ?body ?done ?stop
  case assign =>
    intro l' x W K hK
    unfold encM
    gi_wp2
    exact hK
  case body =>
    rintro l' pre ⟨x, hx⟩ W ⟨⟨⟨y0, y1⟩, y2⟩, hb⟩ hl
    have hxl := hlt x hx
    have hmo : Tryd.prog.follows .mixedOrders = true := by kernel_rfl
    obtain ⟨ad, rfl, hadb, cj0, cj1, cj2, cj3⟩ := (HR.out.below hb).job hxl
    have HSN : Hid (sumT js (vals (pre ++ [(⟨x, hx⟩ : Mb s)])) = sumT js (vals pre) + js[x].t) := by show _ = _; rw [vals_snoc, sumT_snoc, getD_at js j0 hxl]
    have HWN : Hid (sumW js (vals (pre ++ [(⟨x, hx⟩ : Mb s)])) = sumW js (vals pre) + js[x].w) := by show _ = _; rw [vals_snoc, sumW_snoc, getD_at js j0 hxl]
    have hpl : (vals pre).length ≤ 8 := by have h1 := memB_len s; rw [vals_len]; omega
    have hbd := sumT_bd hok (vals pre) (fun k hk => by obtain ⟨z, _, rfl⟩ := List.mem_map.1 hk; exact hlt _ z.2)
    have hbw := sumW_bd hok (vals pre) (fun k hk => by obtain ⟨z, _, rfl⟩ := List.mem_map.1 hk; exact hlt _ z.2)
    have hjt := okJ_out (hok _ (List.getElem_mem hxl))
    have hadx : (ad.add (x * 4)).block ≠ w.heap.size + 1 + 1 := by
      obtain ⟨ad2, e2, hb2, _⟩ := HR.out.job hxl
      cases e2
      rw [add_block]; omega
    obtain ⟨W1, hW1⟩ : ∃ W1, W1 = W.drew := ⟨_, rfl⟩
    have q0 : W1.cell? ⟨w.heap.size, 0, none⟩ = some (.slice (some ad) js.length c) := by rw [hW1]; exact (y0.cell 0).trans rfl
    have q1 : W1.cell? ⟨w.heap.size + 1 + 1, 0, none⟩ = some (.int .i64 (sumW js (vals pre))) := by rw [hW1]; exact (y2.cell 0).trans rfl
    have f1 : W1.frozen? ⟨w.heap.size + 1 + 1, 0, none⟩ = false := by rw [hW1]; exact y2.frozen 0
    have qj : W1.cell? ⟨(ad.add (x * 4)).block, (ad.add (x * 4)).off + 1, none⟩ = some (.int .i64 js[x].w) := by rw [hW1]; exact cj1
    have hx0 : (0 : Int) ≤ x := by omega
    have hx1 : (x : Int) < js.length := by omega
    generalize js[x] = j at *
    generalize sumT js (vals pre) = sm at *
    generalize sumW js (vals pre) = sw at *
    have hwr := IntWalk.i64_in (sm + j.t) (by omega)
    have hww := IntWalk.i64_in (sw + j.w) (by omega)
    dsimp only
    gi_wp2
    refine wpIn_region_detX (fun _ => trivial) (by kernel_rfl) hmo (fun (_ : Unit) (L : Array Bool) w' => (L.getD 9 true = false → w' = W1) ∧ (L.getD 9 true = true → w' = W1.setCell ⟨w.heap.size + 1 + 1, 0, none⟩ (.int .i64 (sw + j.w)))) (fun _ k => (#[.pointer (some ⟨w.heap.size + 1 + 1, 0, none⟩), .int .i64 sw, .slice (some ad) js.length c, .int .i64 (x : Int), .pointer (some (ad.add (x * 4))), .pointer (some ⟨(ad.add (x * 4)).block, (ad.add (x * 4)).off + 1, none⟩), .int .i64 j.w, .int .i64 (sw + j.w), .pointer (some ⟨w.heap.size + 1 + 1, 0, none⟩), undef] : Array Value).getD k undef) () (by kernel_rfl) (by kernel_rfl) ⟨fun _ => hW1.symm, fun h => by cases h⟩ ?_ ?_
    · intro _ L tm w' hall hS hsz hlow hval
      obtain rfl := hS.2 (hall 9 (by decide))
      have ht : tm = #[.slice (some ad) js.length c, .int .u64 (s : Int), .pointer (some ⟨w.heap.size, 0, none⟩), undef, .pointer (some ⟨w.heap.size + 1, 0, none⟩), .pointer (some ⟨w.heap.size + 1 + 1, 0, none⟩), .int .i64 (x : Int), .agg #[.int .i64 0, .int .i64 0], .int .u64 (s : Int), .func (.func 86) #[] #[.pointer (some ⟨w.heap.size + 1 + 1 + 1, 0, none⟩)], .int .i64 (x : Int), .pointer (some ⟨w.heap.size + 1 + 1, 0, none⟩), .int .i64 sw, .slice (some ad) js.length c, .int .i64 (x : Int), .pointer (some (ad.add (x * 4))), .pointer (some ⟨(ad.add (x * 4)).block, (ad.add (x * 4)).off + 1, none⟩), .int .i64 j.w, .int .i64 (sw + j.w), .pointer (some ⟨w.heap.size + 1 + 1, 0, none⟩), undef, undef, undef, undef, undef, undef, undef, undef, undef, undef] := by
        refine arr_of _ _ hsz fun t ht => ?_
        have ht' : t < 30 := ht
        rcases (by omega : t = 0 ∨ t = 1 ∨ t = 2 ∨ t = 3 ∨ t = 4 ∨ t = 5 ∨ t = 6 ∨ t = 7 ∨ t = 8 ∨ t = 9 ∨ t = 10 ∨ t = 11 ∨ t = 12 ∨ t = 13 ∨ t = 14 ∨ t = 15 ∨ t = 16 ∨ t = 17 ∨ t = 18 ∨ t = 19 ∨ t = 20 ∨ t = 21 ∨ t = 22 ∨ t = 23 ∨ t = 24 ∨ t = 25 ∨ t = 26 ∨ t = 27 ∨ t = 28 ∨ t = 29) with rfl | rfl | rfl | rfl | rfl | rfl | rfl | rfl | rfl | rfl | rfl | rfl | rfl | rfl | rfl | rfl | rfl | rfl | rfl | rfl | rfl | rfl | rfl | rfl | rfl | rfl | rfl | rfl | rfl | rfl
        · exact hlow 0 (by kernel_rfl)
        · exact hlow 1 (by kernel_rfl)
        · exact hlow 2 (by kernel_rfl)
        · exact hlow 3 (by kernel_rfl)
        · exact hlow 4 (by kernel_rfl)
        · exact hlow 5 (by kernel_rfl)
        · exact hlow 6 (by kernel_rfl)
        · exact hlow 7 (by kernel_rfl)
        · exact hlow 8 (by kernel_rfl)
        · exact hlow 9 (by kernel_rfl)
        · exact hlow 10 (by kernel_rfl)
        · exact hval 0 _ 11 rfl rfl
        · exact hval 1 _ 12 rfl rfl
        · exact hval 2 _ 13 rfl rfl
        · exact hval 3 _ 14 rfl rfl
        · exact hval 4 _ 15 rfl rfl
        · exact hval 5 _ 16 rfl rfl
        · exact hval 6 _ 17 rfl rfl
        · exact hval 7 _ 18 rfl rfl
        · exact hval 8 _ 19 rfl rfl
        · exact hlow 20 (by kernel_rfl)
        · exact hlow 21 (by kernel_rfl)
        · exact hlow 22 (by kernel_rfl)
        · exact hlow 23 (by kernel_rfl)
        · exact hlow 24 (by kernel_rfl)
        · exact hlow 25 (by kernel_rfl)
        · exact hlow 26 (by kernel_rfl)
        · exact hlow 27 (by kernel_rfl)
        · exact hlow 28 (by kernel_rfl)
        · exact hlow 29 (by kernel_rfl)
      subst ht
      clear hlow hval hsz hall hS
      have HW1 := Lib.hid hW1
      clear hW1 q1 f1 q0 qj
      have hb1 : Below w.heap.size w (W1.setCell ⟨w.heap.size + 1 + 1, 0, none⟩ (.int .i64 (sw + j.w))) := (show Below w.heap.size w W1 by rw [HW1.out]; exact hb.drew).setCell (p := ⟨w.heap.size + 1 + 1, 0, none⟩) (by simp; omega) _
      have x0 : BlockIs W1 w.heap.size 27 #[.slice (some ad) js.length c] := by rw [HW1.out]; exact y0
      have x1 : BlockIs W1 (w.heap.size + 1) 57 #[.int .i64 0, .int .i64 0] := by rw [HW1.out]; exact y1
      have x2 : BlockIs W1 (w.heap.size + 1 + 1) 57 #[.int .i64 sw, .int .i64 sm] := by rw [HW1.out]; exact y2
      have x3 : W1.cell? (ad.add (x * 4)) = some (.int .i64 j.t) := by rw [HW1.out]; exact cj0
      obtain ⟨W2, hW2⟩ : ∃ W2, W2 = (W1.setCell ⟨w.heap.size + 1 + 1, 0, none⟩ (.int .i64 (sw + j.w))).drew := ⟨_, rfl⟩
      have hb2 : Below w.heap.size w W2 := by rw [hW2]; exact hb1.drew
      have z0 : BlockIs W2 w.heap.size 27 #[.slice (some ad) js.length c] := by rw [hW2]; exact (x0.away (by omega) _ _).drew
      have z1 : BlockIs W2 (w.heap.size + 1) 57 #[.int .i64 0, .int .i64 0] := by rw [hW2]; exact (x1.away (by omega) _ _).drew
      have z2 : BlockIs W2 (w.heap.size + 1 + 1) 57 #[.int .i64 (sw + j.w), .int .i64 sm] := by rw [hW2]; exact (x2.set 0 (.int .i64 (sw + j.w))).drew
      have q0 : W2.cell? ⟨w.heap.size, 0, none⟩ = some (.slice (some ad) js.length c) := (z0.cell 0).trans rfl
      have q1 : W2.cell? ⟨w.heap.size + 1 + 1, 1, none⟩ = some (.int .i64 sm) := (z2.cell 1).trans rfl
      have f1 : W2.frozen? ⟨w.heap.size + 1 + 1, 1, none⟩ = false := z2.frozen 1
      have qj : W2.cell? (ad.add (x * 4)) = some (.int .i64 j.t) := by
        rw [hW2]
        show (W1.setCell ⟨w.heap.size + 1 + 1, 0, none⟩ (.int .i64 (sw + j.w))).cell? (ad.add (x * 4)) = _
        rw [← x3]
        exact World.cell?_setCell_other (h := fun e => hadx (by rw [← e])) ..
      clear x0 x1 x2 x3 y0 y1 y2 hb hb1 cj0 cj1 cj2 cj3
      try dsimp only
      gi_wp2
      refine wpIn_region_detX (fun _ => trivial) (by kernel_rfl) hmo (fun (_ : Unit) (L : Array Bool) w' => (L.getD 9 true = false → w' = W2) ∧ (L.getD 9 true = true → w' = W2.setCell ⟨w.heap.size + 1 + 1, 1, none⟩ (.int .i64 (sm + j.t)))) (fun _ k => (#[.pointer (some ⟨w.heap.size + 1 + 1, 1, none⟩), .int .i64 sm, .slice (some ad) js.length c, .int .i64 (x : Int), .pointer (some (ad.add (x * 4))), .pointer (some (ad.add (x * 4))), .int .i64 j.t, .int .i64 (sm + j.t), .pointer (some ⟨w.heap.size + 1 + 1, 1, none⟩), undef] : Array Value).getD k undef) () (by kernel_rfl) (by kernel_rfl) ⟨fun _ => hW2.symm, fun h => by cases h⟩ ?_ ?_
      · intro _ L tm w' hall hS hsz hlow hval
        obtain rfl := hS.2 (hall 9 (by decide))
        have ht : tm = #[.slice (some ad) js.length c, .int .u64 (s : Int), .pointer (some ⟨w.heap.size, 0, none⟩), undef, .pointer (some ⟨w.heap.size + 1, 0, none⟩), .pointer (some ⟨w.heap.size + 1 + 1, 0, none⟩), .int .i64 (x : Int), .agg #[.int .i64 0, .int .i64 0], .int .u64 (s : Int), .func (.func 86) #[] #[.pointer (some ⟨w.heap.size + 1 + 1 + 1, 0, none⟩)], .int .i64 (x : Int), .pointer (some ⟨w.heap.size + 1 + 1, 0, none⟩), .int .i64 sw, .slice (some ad) js.length c, .int .i64 (x : Int), .pointer (some (ad.add (x * 4))), .pointer (some ⟨(ad.add (x * 4)).block, (ad.add (x * 4)).off + 1, none⟩), .int .i64 j.w, .int .i64 (sw + j.w), .pointer (some ⟨w.heap.size + 1 + 1, 0, none⟩), .pointer (some ⟨w.heap.size + 1 + 1, 1, none⟩), .int .i64 sm, .slice (some ad) js.length c, .int .i64 (x : Int), .pointer (some (ad.add (x * 4))), .pointer (some (ad.add (x * 4))), .int .i64 j.t, .int .i64 (sm + j.t), .pointer (some ⟨w.heap.size + 1 + 1, 1, none⟩), undef] := by
          refine arr_of _ _ hsz fun t ht => ?_
          have ht' : t < 30 := ht
          rcases (by omega : t = 0 ∨ t = 1 ∨ t = 2 ∨ t = 3 ∨ t = 4 ∨ t = 5 ∨ t = 6 ∨ t = 7 ∨ t = 8 ∨ t = 9 ∨ t = 10 ∨ t = 11 ∨ t = 12 ∨ t = 13 ∨ t = 14 ∨ t = 15 ∨ t = 16 ∨ t = 17 ∨ t = 18 ∨ t = 19 ∨ t = 20 ∨ t = 21 ∨ t = 22 ∨ t = 23 ∨ t = 24 ∨ t = 25 ∨ t = 26 ∨ t = 27 ∨ t = 28 ∨ t = 29) with rfl | rfl | rfl | rfl | rfl | rfl | rfl | rfl | rfl | rfl | rfl | rfl | rfl | rfl | rfl | rfl | rfl | rfl | rfl | rfl | rfl | rfl | rfl | rfl | rfl | rfl | rfl | rfl | rfl | rfl
          · exact hlow 0 (by kernel_rfl)
          · exact hlow 1 (by kernel_rfl)
          · exact hlow 2 (by kernel_rfl)
          · exact hlow 3 (by kernel_rfl)
          · exact hlow 4 (by kernel_rfl)
          · exact hlow 5 (by kernel_rfl)
          · exact hlow 6 (by kernel_rfl)
          · exact hlow 7 (by kernel_rfl)
          · exact hlow 8 (by kernel_rfl)
          · exact hlow 9 (by kernel_rfl)
          · exact hlow 10 (by kernel_rfl)
          · exact hlow 11 (by kernel_rfl)
          · exact hlow 12 (by kernel_rfl)
          · exact hlow 13 (by kernel_rfl)
          · exact hlow 14 (by kernel_rfl)
          · exact hlow 15 (by kernel_rfl)
          · exact hlow 16 (by kernel_rfl)
          · exact hlow 17 (by kernel_rfl)
          · exact hlow 18 (by kernel_rfl)
          · exact hlow 19 (by kernel_rfl)
          · exact hval 0 _ 20 rfl rfl
          · exact hval 1 _ 21 rfl rfl
          · exact hval 2 _ 22 rfl rfl
          · exact hval 3 _ 23 rfl rfl
          · exact hval 4 _ 24 rfl rfl
          · exact hval 5 _ 25 rfl rfl
          · exact hval 6 _ 26 rfl rfl
          · exact hval 7 _ 27 rfl rfl
          · exact hval 8 _ 28 rfl rfl
          · exact hlow 29 (by kernel_rfl)
        subst ht
        clear hlow hval hsz hall hS
        have HW2 := Lib.hid hW2
        clear hW2
        gi_wp2
        have hbe : Below w.heap.size w (W2.setCell ⟨w.heap.size + 1 + 1, 1, none⟩ (.int .i64 (sm + j.t))) := hb2.setCell (p := ⟨w.heap.size + 1 + 1, 1, none⟩) (by simp; omega) _
        have n2 := z2.set 1 (.int .i64 (sm + j.t))
        have k1 : KeepsOthers W W1 := by rw [HW1.out]; exact KeepsOthers.drew W
        have k3 : KeepsOthers (W1.setCell ⟨w.heap.size + 1 + 1, 0, none⟩ (.int .i64 (sw + j.w))) W2 := by rw [HW2.out]; exact KeepsOthers.drew _
        exact ⟨((k1.trans (KeepsOthers.setCell _ _ _)).trans (k3.trans (KeepsOthers.setCell _ _ _))).from _, fun _ => HT.out.below hbe, ⟨⟨z0.away (by omega) _ _, z1.away (by omega) _ _⟩, by rw [HSN.out, HWN.out]; exact n2⟩, hbe⟩
      · intro _ L a' w' i op hLs ho hLi hLd hLn hS hlow hdep _
        have hi : i < 10 := (Array.getElem?_eq_some_iff.1 ho).1
        rcases (by omega : i = 0 ∨ i = 1 ∨ i = 2 ∨ i = 3 ∨ i = 4 ∨ i = 5 ∨ i = 6 ∨ i = 7 ∨ i = 8 ∨ i = 9) with rfl | rfl | rfl | rfl | rfl | rfl | rfl | rfl | rfl | rfl
        · obtain rfl := Option.some.inj ho
          have e5 : a'.tmps[5]?.getD undef = .pointer (some ⟨w.heap.size + 1 + 1, 0, none⟩) := (Array.getD_eq_getD_getElem? ..).symm.trans (hlow 5 (by kernel_rfl))
          have hK : ((L.setIfInBounds 0 true).getD 9 true = false → w' = W2) ∧ ((L.setIfInBounds 0 true).getD 9 true = true → w' = W2.setCell ⟨w.heap.size + 1 + 1, 1, none⟩ (.int .i64 (sm + j.t))) := by rw [getD_set_true, if_neg (fun h => by cases h.1)]; exact hS
          exact .inl ⟨wanted_free rfl, .inl ⟨(), _, fun _ _ => rfl, by simp [execOp, Act.eval, e5, go_sem], hK⟩⟩
        · obtain rfl := Option.some.inj ho
          have e20 : a'.tmps[20]?.getD undef = .pointer (some ⟨w.heap.size + 1 + 1, 1, none⟩) := (Array.getD_eq_getD_getElem? ..).symm.trans (hdep 0 _ 20 (by kernel_rfl) rfl rfl)
          have hK : ((L.setIfInBounds 1 true).getD 9 true = false → w' = W2) ∧ ((L.setIfInBounds 1 true).getD 9 true = true → w' = W2.setCell ⟨w.heap.size + 1 + 1, 1, none⟩ (.int .i64 (sm + j.t))) := by rw [getD_set_true, if_neg (fun h => by cases h.1)]; exact hS
          obtain rfl : W2 = w' := (hS.1 (hLn 9 (by kernel_rfl))).symm
          exact .inl ⟨wanted_free rfl, .inl ⟨(), _, fun _ _ => rfl, by simp [execOp, Act.eval, e20, q1, go_sem], hK⟩⟩
        · obtain rfl := Option.some.inj ho
          have e2 : a'.tmps[2]?.getD undef = .pointer (some ⟨w.heap.size, 0, none⟩) := (Array.getD_eq_getD_getElem? ..).symm.trans (hlow 2 (by kernel_rfl))
          have hK : ((L.setIfInBounds 2 true).getD 9 true = false → w' = W2) ∧ ((L.setIfInBounds 2 true).getD 9 true = true → w' = W2.setCell ⟨w.heap.size + 1 + 1, 1, none⟩ (.int .i64 (sm + j.t))) := by rw [getD_set_true, if_neg (fun h => by cases h.1)]; exact hS
          obtain rfl : W2 = w' := (hS.1 (hLn 9 (by kernel_rfl))).symm
          exact .inl ⟨wanted_free rfl, .inl ⟨(), _, fun _ _ => rfl, by simp [execOp, Act.eval, e2, q0, go_sem], hK⟩⟩
        · obtain rfl := Option.some.inj ho
          have e6 : a'.tmps[6]?.getD undef = .int .i64 (x : Int) := (Array.getD_eq_getD_getElem? ..).symm.trans (hlow 6 (by kernel_rfl))
          have hK : ((L.setIfInBounds 3 true).getD 9 true = false → w' = W2) ∧ ((L.setIfInBounds 3 true).getD 9 true = true → w' = W2.setCell ⟨w.heap.size + 1 + 1, 1, none⟩ (.int .i64 (sm + j.t))) := by rw [getD_set_true, if_neg (fun h => by cases h.1)]; exact hS
          exact .inl ⟨wanted_free rfl, .inl ⟨(), _, fun _ _ => rfl, by simp [execOp, Act.eval, e6, go_sem], hK⟩⟩
        · obtain rfl := Option.some.inj ho
          have e22 : a'.tmps[22]?.getD undef = .slice (some ad) js.length c := (Array.getD_eq_getD_getElem? ..).symm.trans (hdep 2 _ 22 (by kernel_rfl) rfl rfl)
          have e23 : a'.tmps[23]?.getD undef = .int .i64 (x : Int) := (Array.getD_eq_getD_getElem? ..).symm.trans (hdep 3 _ 23 (by kernel_rfl) rfl rfl)
          have hK : ((L.setIfInBounds 4 true).getD 9 true = false → w' = W2) ∧ ((L.setIfInBounds 4 true).getD 9 true = true → w' = W2.setCell ⟨w.heap.size + 1 + 1, 1, none⟩ (.int .i64 (sm + j.t))) := by rw [getD_set_true, if_neg (fun h => by cases h.1)]; exact hS
          exact .inl ⟨wanted_free rfl, .inl ⟨(), _, fun _ _ => rfl, by simp [execOp, Act.eval, e22, e23, hx0, hx1, go_sem], hK⟩⟩
        · obtain rfl := Option.some.inj ho
          have e24 : a'.tmps[24]?.getD undef = .pointer (some (ad.add (x * 4))) := (Array.getD_eq_getD_getElem? ..).symm.trans (hdep 4 _ 24 (by kernel_rfl) rfl rfl)
          have hK : ((L.setIfInBounds 5 true).getD 9 true = false → w' = W2) ∧ ((L.setIfInBounds 5 true).getD 9 true = true → w' = W2.setCell ⟨w.heap.size + 1 + 1, 1, none⟩ (.int .i64 (sm + j.t))) := by rw [getD_set_true, if_neg (fun h => by cases h.1)]; exact hS
          exact .inl ⟨wanted_free rfl, .inl ⟨(), _, fun _ _ => rfl, by simp [execOp, Act.eval, e24, go_sem], hK⟩⟩
        · obtain rfl := Option.some.inj ho
          have e25 : a'.tmps[25]?.getD undef = .pointer (some (ad.add (x * 4))) := (Array.getD_eq_getD_getElem? ..).symm.trans (hdep 5 _ 25 (by kernel_rfl) rfl rfl)
          have hK : ((L.setIfInBounds 6 true).getD 9 true = false → w' = W2) ∧ ((L.setIfInBounds 6 true).getD 9 true = true → w' = W2.setCell ⟨w.heap.size + 1 + 1, 1, none⟩ (.int .i64 (sm + j.t))) := by rw [getD_set_true, if_neg (fun h => by cases h.1)]; exact hS
          obtain rfl : W2 = w' := (hS.1 (hLn 9 (by kernel_rfl))).symm
          exact .inl ⟨wanted_free rfl, .inl ⟨(), _, fun _ _ => rfl, by simp [execOp, Act.eval, e25, qj, go_sem], hK⟩⟩
        · obtain rfl := Option.some.inj ho
          have e21 : a'.tmps[21]?.getD undef = .int .i64 sm := (Array.getD_eq_getD_getElem? ..).symm.trans (hdep 1 _ 21 (by kernel_rfl) rfl rfl)
          have e26 : a'.tmps[26]?.getD undef = .int .i64 j.t := (Array.getD_eq_getD_getElem? ..).symm.trans (hdep 6 _ 26 (by kernel_rfl) rfl rfl)
          have hK : ((L.setIfInBounds 7 true).getD 9 true = false → w' = W2) ∧ ((L.setIfInBounds 7 true).getD 9 true = true → w' = W2.setCell ⟨w.heap.size + 1 + 1, 1, none⟩ (.int .i64 (sm + j.t))) := by rw [getD_set_true, if_neg (fun h => by cases h.1)]; exact hS
          exact .inl ⟨wanted_free rfl, .inl ⟨(), _, fun _ _ => rfl, by simp [execOp, Act.eval, e21, e26, hwr, go_sem], hK⟩⟩
        · obtain rfl := Option.some.inj ho
          have e5 : a'.tmps[5]?.getD undef = .pointer (some ⟨w.heap.size + 1 + 1, 0, none⟩) := (Array.getD_eq_getD_getElem? ..).symm.trans (hlow 5 (by kernel_rfl))
          have hK : ((L.setIfInBounds 8 true).getD 9 true = false → w' = W2) ∧ ((L.setIfInBounds 8 true).getD 9 true = true → w' = W2.setCell ⟨w.heap.size + 1 + 1, 1, none⟩ (.int .i64 (sm + j.t))) := by rw [getD_set_true, if_neg (fun h => by cases h.1)]; exact hS
          exact .inl ⟨wanted_free rfl, .inl ⟨(), _, fun _ _ => rfl, by simp [execOp, Act.eval, e5, go_sem], hK⟩⟩
        · obtain rfl := Option.some.inj ho
          have e28 : a'.tmps[28]?.getD undef = .pointer (some ⟨w.heap.size + 1 + 1, 1, none⟩) := (Array.getD_eq_getD_getElem? ..).symm.trans (hdep 8 _ 28 (by kernel_rfl) rfl rfl)
          have e27 : a'.tmps[27]?.getD undef = .int .i64 (sm + j.t) := (Array.getD_eq_getD_getElem? ..).symm.trans (hdep 7 _ 27 (by kernel_rfl) rfl rfl)
          obtain rfl : W2 = w' := (hS.1 hLi).symm
          have hK : ((L.setIfInBounds 9 true).getD 9 true = false → W2.setCell ⟨w.heap.size + 1 + 1, 1, none⟩ (.int .i64 (sm + j.t)) = W2) ∧ ((L.setIfInBounds 9 true).getD 9 true = true → W2.setCell ⟨w.heap.size + 1 + 1, 1, none⟩ (.int .i64 (sm + j.t)) = W2.setCell ⟨w.heap.size + 1 + 1, 1, none⟩ (.int .i64 (sm + j.t))) := ⟨fun h => (by rw [getD_set_true, if_pos ⟨rfl, by rw [hLs]; decide⟩] at h; cases h), fun _ => rfl⟩
          exact .inl ⟨wanted_free rfl, .inr ⟨(), W2.setCell ⟨w.heap.size + 1 + 1, 1, none⟩ (.int .i64 (sm + j.t)), fun _ _ => rfl, rfl, by simp [execOp, Act.eval, e28, e27, q1, f1, go_sem], hK⟩⟩
    · intro _ L a' w' i op hLs ho hLi hLd hLn hS hlow hdep _
      have hi : i < 10 := (Array.getElem?_eq_some_iff.1 ho).1
      rcases (by omega : i = 0 ∨ i = 1 ∨ i = 2 ∨ i = 3 ∨ i = 4 ∨ i = 5 ∨ i = 6 ∨ i = 7 ∨ i = 8 ∨ i = 9) with rfl | rfl | rfl | rfl | rfl | rfl | rfl | rfl | rfl | rfl
      · obtain rfl := Option.some.inj ho
        have e5 : a'.tmps[5]?.getD undef = .pointer (some ⟨w.heap.size + 1 + 1, 0, none⟩) := (Array.getD_eq_getD_getElem? ..).symm.trans (hlow 5 (by kernel_rfl))
        have hK : ((L.setIfInBounds 0 true).getD 9 true = false → w' = W1) ∧ ((L.setIfInBounds 0 true).getD 9 true = true → w' = W1.setCell ⟨w.heap.size + 1 + 1, 0, none⟩ (.int .i64 (sw + j.w))) := by rw [getD_set_true, if_neg (fun h => by cases h.1)]; exact hS
        exact .inl ⟨wanted_free rfl, .inl ⟨(), _, fun _ _ => rfl, by simp [execOp, Act.eval, e5, go_sem], hK⟩⟩
      · obtain rfl := Option.some.inj ho
        have e11 : a'.tmps[11]?.getD undef = .pointer (some ⟨w.heap.size + 1 + 1, 0, none⟩) := (Array.getD_eq_getD_getElem? ..).symm.trans (hdep 0 _ 11 (by kernel_rfl) rfl rfl)
        have hK : ((L.setIfInBounds 1 true).getD 9 true = false → w' = W1) ∧ ((L.setIfInBounds 1 true).getD 9 true = true → w' = W1.setCell ⟨w.heap.size + 1 + 1, 0, none⟩ (.int .i64 (sw + j.w))) := by rw [getD_set_true, if_neg (fun h => by cases h.1)]; exact hS
        obtain rfl : W1 = w' := (hS.1 (hLn 9 (by kernel_rfl))).symm
        exact .inl ⟨wanted_free rfl, .inl ⟨(), _, fun _ _ => rfl, by simp [execOp, Act.eval, e11, q1, go_sem], hK⟩⟩
      · obtain rfl := Option.some.inj ho
        have e2 : a'.tmps[2]?.getD undef = .pointer (some ⟨w.heap.size, 0, none⟩) := (Array.getD_eq_getD_getElem? ..).symm.trans (hlow 2 (by kernel_rfl))
        have hK : ((L.setIfInBounds 2 true).getD 9 true = false → w' = W1) ∧ ((L.setIfInBounds 2 true).getD 9 true = true → w' = W1.setCell ⟨w.heap.size + 1 + 1, 0, none⟩ (.int .i64 (sw + j.w))) := by rw [getD_set_true, if_neg (fun h => by cases h.1)]; exact hS
        obtain rfl : W1 = w' := (hS.1 (hLn 9 (by kernel_rfl))).symm
        exact .inl ⟨wanted_free rfl, .inl ⟨(), _, fun _ _ => rfl, by simp [execOp, Act.eval, e2, q0, go_sem], hK⟩⟩
      · obtain rfl := Option.some.inj ho
        have e6 : a'.tmps[6]?.getD undef = .int .i64 (x : Int) := (Array.getD_eq_getD_getElem? ..).symm.trans (hlow 6 (by kernel_rfl))
        have hK : ((L.setIfInBounds 3 true).getD 9 true = false → w' = W1) ∧ ((L.setIfInBounds 3 true).getD 9 true = true → w' = W1.setCell ⟨w.heap.size + 1 + 1, 0, none⟩ (.int .i64 (sw + j.w))) := by rw [getD_set_true, if_neg (fun h => by cases h.1)]; exact hS
        exact .inl ⟨wanted_free rfl, .inl ⟨(), _, fun _ _ => rfl, by simp [execOp, Act.eval, e6, go_sem], hK⟩⟩
      · obtain rfl := Option.some.inj ho
        have e13 : a'.tmps[13]?.getD undef = .slice (some ad) js.length c := (Array.getD_eq_getD_getElem? ..).symm.trans (hdep 2 _ 13 (by kernel_rfl) rfl rfl)
        have e14 : a'.tmps[14]?.getD undef = .int .i64 (x : Int) := (Array.getD_eq_getD_getElem? ..).symm.trans (hdep 3 _ 14 (by kernel_rfl) rfl rfl)
        have hK : ((L.setIfInBounds 4 true).getD 9 true = false → w' = W1) ∧ ((L.setIfInBounds 4 true).getD 9 true = true → w' = W1.setCell ⟨w.heap.size + 1 + 1, 0, none⟩ (.int .i64 (sw + j.w))) := by rw [getD_set_true, if_neg (fun h => by cases h.1)]; exact hS
        exact .inl ⟨wanted_free rfl, .inl ⟨(), _, fun _ _ => rfl, by simp [execOp, Act.eval, e13, e14, hx0, hx1, go_sem], hK⟩⟩
      · obtain rfl := Option.some.inj ho
        have e15 : a'.tmps[15]?.getD undef = .pointer (some (ad.add (x * 4))) := (Array.getD_eq_getD_getElem? ..).symm.trans (hdep 4 _ 15 (by kernel_rfl) rfl rfl)
        have hK : ((L.setIfInBounds 5 true).getD 9 true = false → w' = W1) ∧ ((L.setIfInBounds 5 true).getD 9 true = true → w' = W1.setCell ⟨w.heap.size + 1 + 1, 0, none⟩ (.int .i64 (sw + j.w))) := by rw [getD_set_true, if_neg (fun h => by cases h.1)]; exact hS
        exact .inl ⟨wanted_free rfl, .inl ⟨(), _, fun _ _ => rfl, by simp [execOp, Act.eval, e15, go_sem], hK⟩⟩
      · obtain rfl := Option.some.inj ho
        have e16 : a'.tmps[16]?.getD undef = .pointer (some ⟨(ad.add (x * 4)).block, (ad.add (x * 4)).off + 1, none⟩) := (Array.getD_eq_getD_getElem? ..).symm.trans (hdep 5 _ 16 (by kernel_rfl) rfl rfl)
        have hK : ((L.setIfInBounds 6 true).getD 9 true = false → w' = W1) ∧ ((L.setIfInBounds 6 true).getD 9 true = true → w' = W1.setCell ⟨w.heap.size + 1 + 1, 0, none⟩ (.int .i64 (sw + j.w))) := by rw [getD_set_true, if_neg (fun h => by cases h.1)]; exact hS
        obtain rfl : W1 = w' := (hS.1 (hLn 9 (by kernel_rfl))).symm
        exact .inl ⟨wanted_free rfl, .inl ⟨(), _, fun _ _ => rfl, by simp [execOp, Act.eval, e16, qj, go_sem], hK⟩⟩
      · obtain rfl := Option.some.inj ho
        have e12 : a'.tmps[12]?.getD undef = .int .i64 sw := (Array.getD_eq_getD_getElem? ..).symm.trans (hdep 1 _ 12 (by kernel_rfl) rfl rfl)
        have e17 : a'.tmps[17]?.getD undef = .int .i64 j.w := (Array.getD_eq_getD_getElem? ..).symm.trans (hdep 6 _ 17 (by kernel_rfl) rfl rfl)
        have hK : ((L.setIfInBounds 7 true).getD 9 true = false → w' = W1) ∧ ((L.setIfInBounds 7 true).getD 9 true = true → w' = W1.setCell ⟨w.heap.size + 1 + 1, 0, none⟩ (.int .i64 (sw + j.w))) := by rw [getD_set_true, if_neg (fun h => by cases h.1)]; exact hS
        exact .inl ⟨wanted_free rfl, .inl ⟨(), _, fun _ _ => rfl, by simp [execOp, Act.eval, e12, e17, hww, go_sem], hK⟩⟩
      · obtain rfl := Option.some.inj ho
        have e5 : a'.tmps[5]?.getD undef = .pointer (some ⟨w.heap.size + 1 + 1, 0, none⟩) := (Array.getD_eq_getD_getElem? ..).symm.trans (hlow 5 (by kernel_rfl))
        have hK : ((L.setIfInBounds 8 true).getD 9 true = false → w' = W1) ∧ ((L.setIfInBounds 8 true).getD 9 true = true → w' = W1.setCell ⟨w.heap.size + 1 + 1, 0, none⟩ (.int .i64 (sw + j.w))) := by rw [getD_set_true, if_neg (fun h => by cases h.1)]; exact hS
        exact .inl ⟨wanted_free rfl, .inl ⟨(), _, fun _ _ => rfl, by simp [execOp, Act.eval, e5, go_sem], hK⟩⟩
      · obtain rfl := Option.some.inj ho
        have e19 : a'.tmps[19]?.getD undef = .pointer (some ⟨w.heap.size + 1 + 1, 0, none⟩) := (Array.getD_eq_getD_getElem? ..).symm.trans (hdep 8 _ 19 (by kernel_rfl) rfl rfl)
        have e18 : a'.tmps[18]?.getD undef = .int .i64 (sw + j.w) := (Array.getD_eq_getD_getElem? ..).symm.trans (hdep 7 _ 18 (by kernel_rfl) rfl rfl)
        obtain rfl : W1 = w' := (hS.1 hLi).symm
        have hK : ((L.setIfInBounds 9 true).getD 9 true = false → W1.setCell ⟨w.heap.size + 1 + 1, 0, none⟩ (.int .i64 (sw + j.w)) = W1) ∧ ((L.setIfInBounds 9 true).getD 9 true = true → W1.setCell ⟨w.heap.size + 1 + 1, 0, none⟩ (.int .i64 (sw + j.w)) = W1.setCell ⟨w.heap.size + 1 + 1, 0, none⟩ (.int .i64 (sw + j.w))) := ⟨fun h => (by rw [getD_set_true, if_pos ⟨rfl, by rw [hLs]; decide⟩] at h; cases h), fun _ => rfl⟩
        exact .inl ⟨wanted_free rfl, .inr ⟨(), W1.setCell ⟨w.heap.size + 1 + 1, 0, none⟩ (.int .i64 (sw + j.w)), fun _ _ => rfl, rfl, by simp [execOp, Act.eval, e19, e18, q1, f1, go_sem], hK⟩⟩
  case done =>
    rintro D ys W hD hys ⟨⟨⟨y0, y1⟩, y2⟩, hb⟩ hK
    have q1 : W.cell? ⟨w.heap.size + 1 + 1, 0, none⟩ = some (.int .i64 (sumW js (vals ys))) := (y2.cell 0).trans rfl
    have q2 : W.cell? ⟨w.heap.size + 1 + 1, 1, none⟩ = some (.int .i64 (sumT js (vals ys))) := (y2.cell 1).trans rfl
    have r1 : W.cell? ⟨w.heap.size + 1, 0, none⟩ = some (.int .i64 0) := (y1.cell 0).trans rfl
    have r2 : W.cell? ⟨w.heap.size + 1, 1, none⟩ = some (.int .i64 0) := (y1.cell 1).trans rfl
    have f1 := y1.frozen 0
    have f2 := y1.frozen 1
    rw [hys] at q1 q2
    gi_wp2
    have hK' : ((W.setCell ⟨w.heap.size + 1, 0, none⟩ (.int .i64 (sumW js (memB s)))).setCell ⟨w.heap.size + 1, 1, none⟩ (.int .i64 (sumT js (memB s)))).heap[D]? = some (Obj.deferred (some [])) :=
      (Below.heap_setCell _ ⟨w.heap.size + 1, 1, none⟩ _ D (by show D ≠ w.heap.size + 1; omega)).trans ((Below.heap_setCell _ ⟨w.heap.size + 1, 0, none⟩ _ D (by show D ≠ w.heap.size + 1; omega)).trans hK)
    have z1 := (y1.set 0 (.int .i64 (sumW js (memB s)))).set 1 (.int .i64 (sumT js (memB s)))
    have z2 := block_own (w.heap.size + 1) 57 (fun _ : Unit => _) () _ _ (some D) z1 (grownBy_putObj' _ D (.deferred none)) (fun r e => by cases e; exact ⟨_, hK', rfl⟩)
    have hbe : Below w.heap.size w ((W.setCell ⟨w.heap.size + 1, 0, none⟩ (.int .i64 (sumW js (memB s)))).setCell ⟨w.heap.size + 1, 1, none⟩ (.int .i64 (sumT js (memB s)))) := (hb.setCell (p := ⟨w.heap.size + 1, 0, none⟩) (by show w.heap.size ≤ w.heap.size + 1; omega) _).setCell (p := ⟨w.heap.size + 1, 1, none⟩) (by show w.heap.size ≤ w.heap.size + 1; omega) _
    refine ⟨by simp, .inl ⟨_, _, rfl, run_takeDeferred hK', ?_⟩⟩
    refine ⟨.agg #[.int .i64 (sumW js (memB s)), .int .i64 (sumT js (memB s))], ?_, rfl, hbe.trans (belowK_b (w := w3) (by omega) _ D _ _ (by omega) hK' rfl rfl)⟩
    generalize World.putObj _ D _ = V at z2 ⊢
    have e1 : V.cell? ⟨w.heap.size + 1, 0, none⟩ = some (.int .i64 (sumW js (memB s))) := (z2.cell 0).trans rfl
    have e2 : V.cell? ⟨w.heap.size + 1, 1, none⟩ = some (.int .i64 (sumT js (memB s))) := (z2.cell 1).trans rfl
    simp [results, Tryd.f37, e1, e2, go_sem]
  case stop =>
    rintro D cd pre W _ _ h _
    exact h.elim
end
end Go.Proofs.YtccnmldmolofaaaDoor
