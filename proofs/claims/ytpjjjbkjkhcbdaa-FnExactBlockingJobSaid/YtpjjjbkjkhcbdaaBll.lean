/- BlockingJob of the program. -/
import Derived.Test.YtpjjjbkjkhcbdaaBlp
import Derived.Test.YtpjjjbkjkhcbdaaRegR
namespace Go.Proofs.Ytpjjjbkjkhcbdaa
open Go.RowKit Go.Shelf
attribute [local go_sem] Oper.semAt_some
/-- The worlds of a region that reads, makes one block and fills it. -/
def SA (W1 W2 W3 : World) (L : Array Bool) (w' : World) : Prop := (L.getD 10 true = false → (w' = W1 ∧ L.getD 9 true = false) ∨ (w' = W2 ∧ L.getD 9 true = true)) ∧ (L.getD 10 true = true → w' = W3)
section
variable {W1 W2 W3 w' : World} {L : Array Bool}
theorem SA.start {w2 : World} (h : W1 = w2.drew) : SA W1 W2 W3 (Array.replicate 11 false) w2.drew := ⟨fun _ => .inl ⟨h.symm, by decide⟩, fun e => absurd e (by decide)⟩
theorem SA.one (h : SA W1 W2 W3 L w') (h10 : L.getD 10 true = false) : w' = W1 ∨ w' = W2 := (h.1 h10).imp (·.1) (·.1)
theorem SA.keep {i : Nat} (h : SA W1 W2 W3 L w') (h9 : i ≠ 9) (h10 : i ≠ 10) : SA W1 W2 W3 (L.setIfInBounds i true) w' := by
  unfold SA at *
  rw [getD_set_true, getD_set_true, if_neg (fun e => h10 e.1), if_neg (fun e => h9 e.1)]
  exact h
theorem SA.alloc (h : SA W1 W2 W3 L w') (h9 : L.getD 9 true = false) (h10 : L.getD 10 true = false) (hs : 9 < L.size) : w' = W1 ∧ SA W1 W2 W3 (L.setIfInBounds 9 true) W2 := by
  refine ⟨?_, fun _ => .inr ⟨rfl, ?_⟩, fun e => ?_⟩
  · rcases h.1 h10 with e | e
    · exact e.1
    · rw [h9] at e; cases e.2
  · rw [getD_set_true, if_pos ⟨rfl, hs⟩]
  · rw [getD_set_true, if_neg (by omega), h10] at e; cases e
theorem SA.store (h : SA W1 W2 W3 L w') (h9 : L.getD 9 true = true) (h10 : L.getD 10 true = false) (hs : 10 < L.size) : w' = W2 ∧ SA W1 W2 W3 (L.setIfInBounds 10 true) W3 := by
  refine ⟨?_, fun e => ?_, fun _ => rfl⟩
  · rcases h.1 h10 with e | e
    · rw [h9] at e; cases e.2
    · exact e.1
  · rw [getD_set_true, if_pos ⟨rfl, hs⟩] at e; cases e
end
theorem BlockIs.otherBk {w : World} {g : Nat} {t : TypeId} {cs : Array Value} (h : BlockIs w g t cs) {g' : Nat} (hne : g ≠ g') (i : Nat) (u : Value) : BlockIs (w.setCell ⟨g', i, none⟩ u) g t cs :=
  (Below.heap_setCell _ _ _ _ hne).trans h
/-- Blocks that stay as they are. -/
def FixB (L : List (Nat × TypeId × Array Value)) (W : World) : Prop := ∀ x ∈ L, BlockIs W x.1 x.2.1 x.2.2
theorem fixB_own {β : Type} (L : List (Nat × TypeId × Array Value)) : Own (fun (_ : β) W => FixB L W) := fun _ X _ _ hs hg hrow x hx =>
  (hg.block _ (hs x hx).lt (fun e => by
    obtain ⟨o, ho, hc⟩ := hrow x.1 e.symm
    rw [show X.heap[x.1]? = _ from hs x hx] at ho
    cases ho; cases hc)).trans (hs x hx)
section
variable (A : Option Addr) (c : Nat) (js : List J) (w : World) (hr : Row w A (jc js)) (hn : js.length ≤ 10000000)
include hr hn
set_option maxRecDepth 100000 in
set_option maxHeartbeats 4000000 in
theorem impl_BlkNo (h : ¬ (goodL js = true ∧ 0 < js.length)) : Calls Try.prog 53 #[.slice A js.length c] w (RetNB w (blockR js)) := by
  have HR : Hid (blockR js = (0, false)) := by show _ = _; unfold blockR; rw [if_neg h]
  have hb3 : Below w.heap.size w (((w.alloc (.cells #[.slice A js.length c] 28)).alloc (.cells #[.int .i64 0] 3)).alloc (.cells #[.bool false] 4)) := (((Below.refl _ w).alloc (Nat.le_refl _) _).alloc (by simp) _).alloc (by simp; omega) _
  have HCN := Lib.hid (crit_no A c js _ (hr.below hb3) hn h)
  have x1 := (Boxed.new (w.alloc (.cells #[.slice A js.length c] 28)) 3 (.int .i64 0)).alloc (.cells #[.bool false] 4)
  have x2 := Boxed.new ((w.alloc (.cells #[.slice A js.length c] 28)).alloc (.cells #[.int .i64 0] 3)) 4 (.bool false)
  simp only [World.size_alloc] at x1 x2
  go_enter Try.func53, Try.ntmps53
  go_wp2_with fail
  generalize (((w.alloc (.cells #[.slice A js.length c] 28)).alloc (.cells #[.int .i64 0] 3)).alloc (.cells #[.bool false] 4)) = w3 at *
  refine HCN.out.mono ?_
  rintro e w1 ⟨⟨B, d, rfl⟩, hb1⟩
  have y1 : Boxed w1 _ _ _ := (hb1.block _ x1.lt).trans x1
  have y2 : Boxed w1 _ _ _ := (hb1.block _ x2.lt).trans x2
  have c1 := y1.cell
  have f1 := y1.frozen
  have c2 := y2.cell
  have f2 := y2.frozen
  have HB := Lib.hid ((below_and hb3 hb1).setCell (p := ⟨w.heap.size + 1, 0, none⟩) (by simp) (.int .i64 0) |>.setCell (p := ⟨w.heap.size + 1 + 1, 0, none⟩) (by simp; omega) (.bool false))
  have z1 := (y1.set (.int .i64 0)).cell
  go_wp2
  have r1 : Boxed ((w1.setCell ⟨w.heap.size + 1, 0, none⟩ (.int .i64 0)).setCell ⟨w.heap.size + 1 + 1, 0, none⟩ (.bool false)) (w.heap.size + 1) 3 (.int .i64 0) := BlockIs.otherBk (y1.set (.int .i64 0)) (by omega) 0 (.bool false)
  have r2 : Boxed ((w1.setCell ⟨w.heap.size + 1, 0, none⟩ (.int .i64 0)).setCell ⟨w.heap.size + 1 + 1, 0, none⟩ (.bool false)) (w.heap.size + 1 + 1) 4 (.bool false) := Boxed.set (v := .bool false) (.bool false) (BlockIs.otherBk y2 (by omega) 0 (.int .i64 0))
  have e1 := r1.cell
  have e2 := r2.cell
  refine bodyPost_ret (v := .tuple #[.int .i64 0, .bool false]) (by simp [results, Try.f53, e1, e2, go_sem]) rfl ?_
  exact ⟨by rw [HR.out], HB.out⟩
end
section
variable (ad : Addr) (c : Nat) (js : List J) (w : World) (hr : Row w (some ad) (jc js)) (hg : goodL js = true) (h0 : 0 < js.length)
include hr hg h0
set_option maxRecDepth 100000 in
set_option maxHeartbeats 4000000 in
theorem impl_BlkYes : Calls Try.prog 53 #[.slice (some ad) js.length c] w (RetNB w (blockR js)) := by
  obtain ⟨h8, hok⟩ := good_out hg
  have HNO := Lib.hid (block_none' (js := js) hg h0)
  have HSO := Lib.hid (block_some' (js := js) hg h0)
  have HMM := Lib.hid (critL_mem hg)
  obtain ⟨hn0, hn8⟩ := critL_pos' hg h0
  have hb3 : Below w.heap.size w (((w.alloc (.cells #[.slice (some ad) js.length c] 28)).alloc (.cells #[.int .i64 0] 3)).alloc (.cells #[.bool false] 4)) := (((Below.refl _ w).alloc (Nat.le_refl _) _).alloc (by simp) _).alloc (by simp; omega) _
  have HCY := Lib.hid (crit_yes (some ad) c js _ (hr.below hb3) (by omega) hg h0)
  have x0 := ((Boxed.new w 28 (.slice (some ad) js.length c)).alloc (.cells #[.int .i64 0] 3)).alloc (.cells #[.bool false] 4)
  have x1 := (Boxed.new (w.alloc (.cells #[.slice (some ad) js.length c] 28)) 3 (.int .i64 0)).alloc (.cells #[.bool false] 4)
  have x2 := Boxed.new ((w.alloc (.cells #[.slice (some ad) js.length c] 28)).alloc (.cells #[.int .i64 0] 3)) 4 (.bool false)
  simp only [World.size_alloc] at x1 x2
  have H3 := Lib.hid (And.intro x0 (And.intro x1 (And.intro x2 hb3)))
  clear x0 x1 x2 hb3
  generalize hl : critL js (greedyL js) = l at *
  clear hl
  refine (callsIn_wide (n := 6)).1 ?_
  refine callsIn_of_wp_marks Try.func53 rfl trivial ?_ rfl
  simp only [Try.ntmps53, List.size_toArray, List.length_cons, List.length_nil, Nat.reduceAdd, Nat.reduceSub, Array.replicate_succ, Array.replicate_zero, List.push_toArray, List.append_toArray, List.nil_append, List.cons_append]
  gi_wp2_with (refine ⟨trivial, ?_⟩; gi_at_call 51; refine (callsIn_wide.2 HCY.out).mono ?_; clear HCY)
  generalize (((w.alloc (.cells #[.slice (some ad) js.length c] 28)).alloc (.cells #[.int .i64 0] 3)).alloc (.cells #[.bool false] 4)) = w3 at *
  rintro e w2 ⟨ab, d, rfl, hab, hcp, hb2⟩
  obtain ⟨x0, x1, x2, hb3⟩ := H3.out
  clear H3
  have hbw := below_and hb3 hb2
  have y0 : Boxed w2 _ _ _ := (hb2.block _ x0.lt).trans x0
  have y1 : Boxed w2 _ _ _ := (hb2.block _ x1.lt).trans x1
  have y2 : Boxed w2 _ _ _ := (hb2.block _ x2.lt).trans x2
  have hs2 : w.heap.size + 1 + 1 < w2.heap.size := y2.lt
  have hlp : l.length - 1 < l.length := by omega
  have cy := hcp _ hlp
  have hyj : l[l.length - 1] < js.length := HMM.out _ (List.getElem_mem hlp)
  obtain ⟨ad', hA, hadb, cj0, cj1, cj2, cj3⟩ := (hr.below hbw).job hyj
  injection hA with hA
  subst hA
  have HLD : Hid (lastDue js l = (js[l[l.length - 1]]).d) := by show _ = _; unfold lastDue dueN; rw [getD_at l 0 hlp, getD_at js j0 hyj]
  have hy0 : (0 : Int) ≤ l[l.length - 1] := by omega
  have hy1 : (l[l.length - 1] : Int) < js.length := by omega
  generalize js[l[l.length - 1]] = j at *
  clear hyj
  generalize l[l.length - 1] = y at *
  have hw1 := IntWalk.i64_in ((l.length : Int) - 1) (by omega)
  have hn1 : (0 : Int) ≤ (l.length : Int) - 1 := by omega
  have hn2 : (l.length : Int) - 1 < l.length := by omega
  have hn4 : ¬ (l.length : Int) < 1 := by omega
  have hn3 : ((l.length : Int) - 1).toNat = l.length - 1 := by omega
  have H2 := Lib.hid (And.intro hcp (And.intro y0 (And.intro y1 (And.intro y2 hbw))))
  have hc1 := y0.cell
  clear hcp y0 y1 y2 hbw x0 x1 x2 hb3 hb2
  obtain ⟨W1, hW1⟩ : ∃ W1, W1 = w2.drew := ⟨_, rfl⟩
  have hs1 : W1.heap.size = w2.heap.size := by rw [hW1]; rfl
  have HC : Hid (∀ w', (w' = W1 ∨ w' = W1.alloc (.cells #[.int .i64 0, .int .i64 0, .int .i64 0, .int .i64 0] 66)) → w'.cell? ⟨w.heap.size, 0, none⟩ = some (.slice (some ad) js.length c) ∧ w'.cell? (ab.add (l.length - 1)) = some (.int .i64 (y : Int)) ∧ w'.cell? (ad.add (y * 4)) = some (.int .i64 j.t) ∧ w'.cell? ⟨(ad.add (y * 4)).block, (ad.add (y * 4)).off + 1, none⟩ = some (.int .i64 j.w) ∧ w'.cell? ⟨(ad.add (y * 4)).block, (ad.add (y * 4)).off + 2, none⟩ = some (.int .i64 j.r) ∧ w'.cell? ⟨(ad.add (y * 4)).block, (ad.add (y * 4)).off + 3, none⟩ = some (.int .i64 j.d)) := by
    intro w' hw'
    have hbx : Below w2.heap.size w2 w' := by
      rcases hw' with rfl | rfl
      · rw [hW1]; exact (Below.refl _ _).drew
      · rw [hW1]; exact ((Below.refl _ w2).drew).alloc (Nat.le_refl _) _
    have hay : (ad.add (y * 4)).block < w2.heap.size := by rw [add_block]; exact hadb
    exact ⟨(hbx.cell (p := ⟨w.heap.size, 0, none⟩) (by show w.heap.size < _; omega)).trans hc1, (hbx.cell (p := ab.add (l.length - 1)) (by rw [add_block]; exact hab)).trans cy, (hbx.cell hay).trans cj0, (hbx.cell (p := ⟨(ad.add (y * 4)).block, _, none⟩) hay).trans cj1, (hbx.cell (p := ⟨(ad.add (y * 4)).block, _, none⟩) hay).trans cj2, (hbx.cell (p := ⟨(ad.add (y * 4)).block, _, none⟩) hay).trans cj3⟩
  clear cy cj0 cj1 cj2 cj3 hc1
  gi_wp2
  refine wpIn_region_detR (fun _ => trivial) (by kernel_rfl) (by kernel_rfl) (fun (_ : Unit) L w' => SA W1 (W1.alloc (.cells #[.int .i64 0, .int .i64 0, .int .i64 0, .int .i64 0] 66)) (W1.alloc (.cells #[.int .i64 j.t, .int .i64 j.w, .int .i64 j.r, .int .i64 j.d] 66)) L w')
    (fun _ kk => #[.slice (some ad) js.length c, .slice (some ab) l.length d, .slice (some ab) l.length d, .int .i64 (l.length : Int), .int .i64 ((l.length : Int) - 1), .pointer (some (ab.add (l.length - 1))), .int .i64 (y : Int), .pointer (some (ad.add (y * 4))), .agg #[.int .i64 j.t, .int .i64 j.w, .int .i64 j.r, .int .i64 j.d], .pointer (some ⟨w2.heap.size, 0, none⟩), undef].getD kk undef) () (by kernel_rfl) (by kernel_rfl) (SA.start hW1) ?_ ?_
  · intro _ L tm w' hall hS hsz hlow hval
    have ht : tm = #[.slice (some ad) js.length c, .pointer (some ⟨w.heap.size, 0, none⟩), .pointer (some ⟨w.heap.size + 1, 0, none⟩), .pointer (some ⟨w.heap.size + 1 + 1, 0, none⟩), .slice (some ab) l.length d, .bool true, .pointer (some ⟨w2.heap.size, 0, none⟩), undef, undef, .tuple #[.slice (some ab) l.length d, .bool true], .slice (some ad) js.length c, .tuple #[.slice (some ab) l.length d, .bool true], .slice (some ab) l.length d, .bool true, .bool true, .bool false, .slice (some ad) js.length c, .slice (some ab) l.length d, .slice (some ab) l.length d, .int .i64 (l.length : Int), .int .i64 ((l.length : Int) - 1), .pointer (some (ab.add (l.length - 1))), .int .i64 (y : Int), .pointer (some (ad.add (y * 4))), .agg #[.int .i64 j.t, .int .i64 j.w, .int .i64 j.r, .int .i64 j.d], undef, undef, undef, undef, undef, undef, undef, undef, undef, undef, undef, undef, undef] := by
      refine arr_of _ _ hsz fun t ht => ?_
      have ht' : t < 38 := ht
      rcases (by omega : t = 0 ∨ t = 1 ∨ t = 2 ∨ t = 3 ∨ t = 4 ∨ t = 5 ∨ t = 6 ∨ t = 7 ∨ t = 8 ∨ t = 9 ∨ t = 10 ∨ t = 11 ∨ t = 12 ∨ t = 13 ∨ t = 14 ∨ t = 15 ∨ t = 16 ∨ t = 17 ∨ t = 18 ∨ t = 19 ∨ t = 20 ∨ t = 21 ∨ t = 22 ∨ t = 23 ∨ t = 24 ∨ t = 25 ∨ t = 26 ∨ t = 27 ∨ t = 28 ∨ t = 29 ∨ t = 30 ∨ t = 31 ∨ t = 32 ∨ t = 33 ∨ t = 34 ∨ t = 35 ∨ t = 36 ∨ t = 37) with rfl | rfl | rfl | rfl | rfl | rfl | rfl | rfl | rfl | rfl | rfl | rfl | rfl | rfl | rfl | rfl | rfl | rfl | rfl | rfl | rfl | rfl | rfl | rfl | rfl | rfl | rfl | rfl | rfl | rfl | rfl | rfl | rfl | rfl | rfl | rfl | rfl | rfl
      · exact hlow 0 (by kernel_rfl)
      · exact hlow 1 (by kernel_rfl)
      · exact hlow 2 (by kernel_rfl)
      · exact hlow 3 (by kernel_rfl)
      · exact hlow 4 (by kernel_rfl)
      · exact hlow 5 (by kernel_rfl)
      · exact hval 9 _ 6 rfl rfl
      · exact hlow 7 (by kernel_rfl)
      · exact hlow 8 (by kernel_rfl)
      · exact hlow 9 (by kernel_rfl)
      · exact hlow 10 (by kernel_rfl)
      · exact hlow 11 (by kernel_rfl)
      · exact hlow 12 (by kernel_rfl)
      · exact hlow 13 (by kernel_rfl)
      · exact hlow 14 (by kernel_rfl)
      · exact hlow 15 (by kernel_rfl)
      · exact hval 0 _ 16 rfl rfl
      · exact hval 1 _ 17 rfl rfl
      · exact hval 2 _ 18 rfl rfl
      · exact hval 3 _ 19 rfl rfl
      · exact hval 4 _ 20 rfl rfl
      · exact hval 5 _ 21 rfl rfl
      · exact hval 6 _ 22 rfl rfl
      · exact hval 7 _ 23 rfl rfl
      · exact hval 8 _ 24 rfl rfl
      · exact hlow 25 (by kernel_rfl)
      · exact hlow 26 (by kernel_rfl)
      · exact hlow 27 (by kernel_rfl)
      · exact hlow 28 (by kernel_rfl)
      · exact hlow 29 (by kernel_rfl)
      · exact hlow 30 (by kernel_rfl)
      · exact hlow 31 (by kernel_rfl)
      · exact hlow 32 (by kernel_rfl)
      · exact hlow 33 (by kernel_rfl)
      · exact hlow 34 (by kernel_rfl)
      · exact hlow 35 (by kernel_rfl)
      · exact hlow 36 (by kernel_rfl)
      · exact hlow 37 (by kernel_rfl)
    subst ht
    obtain rfl := hS.2 (hall 10 (by decide))
    clear hS
    clear hlow hval hsz hall
    gi_wp2_with (refine ⟨trivial, ?_⟩; gi_at_call 96; refine (back_in Fence.wide 5 trivial rfl _ _ _ _).mono ?_; rintro e w7 ⟨rfl, rfl⟩)
    have HW0 : Hid (FixB [(w.heap.size, 28, #[.slice (some ad) js.length c]), (w.heap.size + 1, 3, #[.int .i64 0]), (w.heap.size + 1 + 1, 4, #[.bool false]), (w2.heap.size, 66, #[.int .i64 j.t, .int .i64 j.w, .int .i64 j.r, .int .i64 j.d]), (w2.heap.size + 1, 35, #[.slice (some ab) l.length d])] ((w2.alloc (.cells #[.int .i64 j.t, .int .i64 j.w, .int .i64 j.r, .int .i64 j.d] 66)).alloc (.cells #[.slice (some ab) l.length d] 35)).drew ∧ Below w.heap.size w ((w2.alloc (.cells #[.int .i64 j.t, .int .i64 j.w, .int .i64 j.r, .int .i64 j.d] 66)).alloc (.cells #[.slice (some ab) l.length d] 35)).drew ∧ ∀ k (h : k < l.length), ((w2.alloc (.cells #[.int .i64 j.t, .int .i64 j.w, .int .i64 j.r, .int .i64 j.d] 66)).alloc (.cells #[.slice (some ab) l.length d] 35)).drew.cell? (ab.add k) = some (.int .i64 ((l[k] : Nat) : Int))) := by
      have hb7 : Below w2.heap.size w2 ((w2.alloc (.cells #[.int .i64 j.t, .int .i64 j.w, .int .i64 j.r, .int .i64 j.d] 66)).alloc (.cells #[.slice (some ab) l.length d] 35)).drew := by
        exact (((Below.refl _ w2).alloc (Nat.le_refl _) _).alloc (by simp) _).drew
      obtain ⟨q1, q2, q3, q4, q5⟩ := H2.out
      refine ⟨fun x hx => ?_, q5.trans (hb7.mono q5.size), fun k h => (hb7.cell (p := ab.add k) (by rw [add_block]; exact hab)).trans (q1 k h)⟩
      simp only [List.mem_cons, List.not_mem_nil, or_false] at hx
      rcases hx with rfl | rfl | rfl | rfl | rfl
      · exact (hb7.block _ q2.lt).trans q2
      · exact (hb7.block _ q3.lt).trans q3
      · exact (hb7.block _ q4.lt).trans q4
      · exact ((BlockIs.new w2 66 #[.int .i64 j.t, .int .i64 j.w, .int .i64 j.r, .int .i64 j.d]).below (((Below.refl _ _)).alloc (Nat.le_refl _) (.cells #[.slice (some ab) l.length d] 35))).drew
      · have h := Boxed.new (w2.alloc (.cells #[.int .i64 j.t, .int .i64 j.w, .int .i64 j.r, .int .i64 j.d] 66)) 35 (.slice (some ab) l.length d)
        rw [World.size_alloc] at h
        exact BlockIs.drew h
    have hsz7 : ((w2.alloc (.cells #[.int .i64 j.t, .int .i64 j.w, .int .i64 j.r, .int .i64 j.d] 66)).alloc (.cells #[.slice (some ab) l.length d] 35)).drew.heap.size = w2.heap.size + 1 + 1 := by simp
    clear H2 HC
    generalize ((w2.alloc (.cells #[.int .i64 j.t, .int .i64 j.w, .int .i64 j.r, .int .i64 j.d] 66)).alloc (.cells #[.slice (some ab) l.length d] 35)).drew = w7 at *
    refine wpIn_rangeFunc_ownG (F := Fence.wide) rfl (by omega) (gf := 137) (lb := #[.pointer (some ⟨w2.heap.size + 1, 0, none⟩)]) rfl trivial (enters_of Try.func137 (by kernel_rfl) rfl)
      (back_stops Fence.wide 5 trivial rfl (by omega) (w2.heap.size + 1) w2.heap.size (some ab) d l hn8 w7 (by omega) (by omega) (HW0.out.1 (w2.heap.size + 1, 35, #[.slice (some ab) l.length d]) (by simp)) (fun k h => ⟨ab, rfl, hab, HW0.out.2.2 k h⟩))
      (fun h k => ⟨h.1.trans k.1, fun v hv => k.2 v (h.2 v hv)⟩)
      (fun W l' o o' hl ho hc hw => ⟨belowK_b (w := w7) (by omega) W l' o o' hl ho hc hw, fun v hv => hv.kept (grownBy_putObj' W l' o') (fun e => by cases e; omega)⟩) (Below.refl _ _) (fun _ => rfl)
      (fun pre W => (fdB js l pre = none ∧ FixB [(w.heap.size, 28, #[.slice (some ad) js.length c]), (w.heap.size + 1, 3, #[.int .i64 0]), (w.heap.size + 1 + 1, 4, #[.bool false]), (w2.heap.size, 66, #[.int .i64 j.t, .int .i64 j.w, .int .i64 j.r, .int .i64 j.d]), (w2.heap.size + 1, 35, #[.slice (some ab) l.length d])] W) ∧ Below w.heap.size w W)
      (fun cd pre W => (((cd = .ret ∧ (fdB js l pre).isSome = true) ∧ Boxed W (w.heap.size + 1) 3 (.int .i64 (vdB js l pre))) ∧ Boxed W (w.heap.size + 1 + 1) 4 (.bool true)) ∧ Below w.heap.size w W)
      (OwnFrom.and (OwnFrom.and (ownFrom_pure _ _) (Own.from (fixB_own _) _)) (ownFrom_below (Nat.le_refl _) (by omega)))
      (fun cd => OwnFrom.and (OwnFrom.and (OwnFrom.and (ownFrom_pure _ _) (Own.from (boxed_own _ _ _) _)) (Own.from (boxed_own _ _ _) _)) (ownFrom_below (Nat.le_refl _) (by omega)))
      ⟨⟨rfl, HW0.out.1⟩, HW0.out.2.1⟩
      (fun x => { tmps := #[.slice (some ad) js.length c, .pointer (some ⟨w.heap.size, 0, none⟩), .pointer (some ⟨w.heap.size + 1, 0, none⟩), .pointer (some ⟨w.heap.size + 1 + 1, 0, none⟩), .slice (some ab) l.length d, .bool true, .pointer (some ⟨w2.heap.size, 0, none⟩), undef, .int .i64 ((l[x.1]'x.2 : Nat) : Int), .tuple #[.slice (some ab) l.length d, .bool true], .slice (some ad) js.length c, .tuple #[.slice (some ab) l.length d, .bool true], .slice (some ab) l.length d, .bool true, .bool true, .bool false, .slice (some ad) js.length c, .slice (some ab) l.length d, .slice (some ab) l.length d, .int .i64 (l.length : Int), .int .i64 ((l.length : Int) - 1), .pointer (some (ab.add (l.length - 1))), .int .i64 (y : Int), .pointer (some (ad.add (y * 4))), .agg #[.int .i64 j.t, .int .i64 j.w, .int .i64 j.r, .int .i64 j.d], .slice (some ab) l.length d, .func (.func 137) #[] #[.pointer (some ⟨w2.heap.size + 1, 0, none⟩)], .int .i64 (x.1 : Int), .int .i64 ((l[x.1]'x.2 : Nat) : Int), undef, undef, undef, undef, undef, undef, undef, undef, undef], defers := [] }) ?assign ?body ?done ?stop
    case assign =>
      intro l' x W K hK
      unfold encB
      gi_wp2
      exact hK
    case body =>
      rintro l' pre ⟨k, hk⟩ W ⟨⟨hf, hF⟩, hb⟩ hlt
      dsimp only
      have x0 : Boxed W _ _ _ := hF (w.heap.size, 28, #[.slice (some ad) js.length c]) (by simp)
      have x1 : Boxed W _ _ _ := hF (w.heap.size + 1, 3, #[.int .i64 0]) (by simp)
      have x2 : Boxed W _ _ _ := hF (w.heap.size + 1 + 1, 4, #[.bool false]) (by simp)
      have x3 : BlockIs W _ _ _ := hF (w2.heap.size, 66, #[.int .i64 j.t, .int .i64 j.w, .int .i64 j.r, .int .i64 j.d]) (by simp)
      have hzj : l[k] < js.length := HMM.out _ (List.getElem_mem hk)
      obtain ⟨ad', hA, _, _, _, _, cz⟩ := (hr.below hb).job hzj
      injection hA with hA
      subst hA
      have hdz : dueN js l[k] = js[l[k]].d := by unfold dueN; rw [getD_at js j0 hzj]
      have hz0 : (0 : Int) ≤ l[k] := by omega
      have hz1 : (l[k] : Int) < js.length := by omega
      have HMI := Lib.hid (fun h => fdB_miss (x := ⟨k, hk⟩) hf h)
      have HHI := Lib.hid (fun h => fdB_hit (x := ⟨k, hk⟩) hf h)
      have HVD : Hid (fdB js l (pre ++ [⟨k, hk⟩]) = some ⟨k, hk⟩ → vdB js l (pre ++ [⟨k, hk⟩]) = ((l[k] : Nat) : Int)) := fun h => by unfold vdB; rw [h]
      rw [hdz, HLD.out] at HMI HHI
      generalize js[l[k]] = jz at *
      clear hdz hf hlt
      generalize hz : l[k] = z at *
      clear hz hzj
      have HX := Lib.hid (And.intro hF hb)
      have b1 := x1.cell
      have b2 := x2.cell
      have g1 := x1.frozen
      have g2 := x2.frozen
      obtain ⟨W1, hW1⟩ : ∃ W1, W1 = W.drew := ⟨_, rfl⟩
      have c1 : W1.cell? ⟨w.heap.size, 0, none⟩ = some (.slice (some ad) js.length c) := by rw [hW1]; exact x0.cell
      have cz : W1.cell? ⟨(ad.add (z * 4)).block, (ad.add (z * 4)).off + 3, none⟩ = some (.int .i64 jz.d) := by rw [hW1]; exact cz
      have cj : W1.cell? ⟨w2.heap.size, 3, none⟩ = some (.int .i64 j.d) := by rw [hW1]; exact (x3.cell 3).trans rfl
      gi_wp2
      refine wpIn_region_detR (fun _ => trivial) (by kernel_rfl) (by kernel_rfl) (fun (_ : Unit) L w' => w' = W1)
        (fun _ kk => #[.slice (some ad) js.length c, .int .i64 (z : Int), .pointer (some (ad.add (z * 4))), .pointer (some ⟨(ad.add (z * 4)).block, (ad.add (z * 4)).off + 3, none⟩), .int .i64 jz.d, .pointer (some ⟨w2.heap.size, 3, none⟩), .int .i64 j.d, .bool (decide (j.d < jz.d))].getD kk undef) () (by kernel_rfl) (by kernel_rfl) hW1.symm ?_ ?_
      · intro _ L tm w' hall hS hsz hlow hval
        have ht : tm = #[.slice (some ad) js.length c, .pointer (some ⟨w.heap.size, 0, none⟩), .pointer (some ⟨w.heap.size + 1, 0, none⟩), .pointer (some ⟨w.heap.size + 1 + 1, 0, none⟩), .slice (some ab) l.length d, .bool true, .pointer (some ⟨w2.heap.size, 0, none⟩), undef, .int .i64 (z : Int), .tuple #[.slice (some ab) l.length d, .bool true], .slice (some ad) js.length c, .tuple #[.slice (some ab) l.length d, .bool true], .slice (some ab) l.length d, .bool true, .bool true, .bool false, .slice (some ad) js.length c, .slice (some ab) l.length d, .slice (some ab) l.length d, .int .i64 (l.length : Int), .int .i64 ((l.length : Int) - 1), .pointer (some (ab.add (l.length - 1))), .int .i64 (y : Int), .pointer (some (ad.add (y * 4))), .agg #[.int .i64 j.t, .int .i64 j.w, .int .i64 j.r, .int .i64 j.d], .slice (some ab) l.length d, .func (.func 137) #[] #[.pointer (some ⟨w2.heap.size + 1, 0, none⟩)], .int .i64 (k : Int), .int .i64 (z : Int), .slice (some ad) js.length c, .int .i64 (z : Int), .pointer (some (ad.add (z * 4))), .pointer (some ⟨(ad.add (z * 4)).block, (ad.add (z * 4)).off + 3, none⟩), .int .i64 jz.d, .pointer (some ⟨w2.heap.size, 3, none⟩), .int .i64 j.d, .bool (decide (j.d < jz.d)), undef] := by
          refine arr_of _ _ hsz fun t ht => ?_
          have ht' : t < 38 := ht
          rcases (by omega : t = 0 ∨ t = 1 ∨ t = 2 ∨ t = 3 ∨ t = 4 ∨ t = 5 ∨ t = 6 ∨ t = 7 ∨ t = 8 ∨ t = 9 ∨ t = 10 ∨ t = 11 ∨ t = 12 ∨ t = 13 ∨ t = 14 ∨ t = 15 ∨ t = 16 ∨ t = 17 ∨ t = 18 ∨ t = 19 ∨ t = 20 ∨ t = 21 ∨ t = 22 ∨ t = 23 ∨ t = 24 ∨ t = 25 ∨ t = 26 ∨ t = 27 ∨ t = 28 ∨ t = 29 ∨ t = 30 ∨ t = 31 ∨ t = 32 ∨ t = 33 ∨ t = 34 ∨ t = 35 ∨ t = 36 ∨ t = 37) with rfl | rfl | rfl | rfl | rfl | rfl | rfl | rfl | rfl | rfl | rfl | rfl | rfl | rfl | rfl | rfl | rfl | rfl | rfl | rfl | rfl | rfl | rfl | rfl | rfl | rfl | rfl | rfl | rfl | rfl | rfl | rfl | rfl | rfl | rfl | rfl | rfl | rfl
          · exact hlow 0 (by kernel_rfl)
          · exact hlow 1 (by kernel_rfl)
          · exact hlow 2 (by kernel_rfl)
          · exact hlow 3 (by kernel_rfl)
          · exact hlow 4 (by kernel_rfl)
          · exact hlow 5 (by kernel_rfl)
          · exact hlow 6 (by kernel_rfl)
          · exact hlow 7 (by kernel_rfl)
          · exact hlow 8 (by kernel_rfl)
          · exact hlow 9 (by kernel_rfl)
          · exact hlow 10 (by kernel_rfl)
          · exact hlow 11 (by kernel_rfl)
          · exact hlow 12 (by kernel_rfl)
          · exact hlow 13 (by kernel_rfl)
          · exact hlow 14 (by kernel_rfl)
          · exact hlow 15 (by kernel_rfl)
          · exact hlow 16 (by kernel_rfl)
          · exact hlow 17 (by kernel_rfl)
          · exact hlow 18 (by kernel_rfl)
          · exact hlow 19 (by kernel_rfl)
          · exact hlow 20 (by kernel_rfl)
          · exact hlow 21 (by kernel_rfl)
          · exact hlow 22 (by kernel_rfl)
          · exact hlow 23 (by kernel_rfl)
          · exact hlow 24 (by kernel_rfl)
          · exact hlow 25 (by kernel_rfl)
          · exact hlow 26 (by kernel_rfl)
          · exact hlow 27 (by kernel_rfl)
          · exact hlow 28 (by kernel_rfl)
          · exact hval 0 _ 29 rfl rfl
          · exact hval 1 _ 30 rfl rfl
          · exact hval 2 _ 31 rfl rfl
          · exact hval 3 _ 32 rfl rfl
          · exact hval 4 _ 33 rfl rfl
          · exact hval 5 _ 34 rfl rfl
          · exact hval 6 _ 35 rfl rfl
          · exact hval 7 _ 36 rfl rfl
          · exact hlow 37 (by kernel_rfl)
        subst ht
        obtain rfl := hS
        clear hlow hval hsz hall
        by_cases hc : j.d < jz.d
        · have d1 : decide (j.d < jz.d) = true := decide_eq_true hc
          gi_wp2
          refine ⟨(((KeepsOthers.setCell _ _ _).trans (KeepsOthers.setCell _ _ _)).trans (KeepsOthers.drew _)).from _, ⟨⟨⟨rfl, by rw [HHI.out hc]; rfl⟩, ?_⟩, ?_⟩, ((HX.out.2.setCell (p := ⟨w.heap.size + 1, 0, none⟩) (by simp) _).setCell (p := ⟨w.heap.size + 1 + 1, 0, none⟩) (by simp; omega) _).drew⟩
          · rw [HVD.out (HHI.out hc)]
            exact BlockIs.drew (BlockIs.otherBk (x1.set (.int .i64 (z : Int))) (by omega) 0 (.bool true))
          · exact BlockIs.drew (Boxed.set (v := .bool false) (.bool true) (BlockIs.otherBk x2 (by omega) 0 (.int .i64 (z : Int))))
        · have d1 : decide (j.d < jz.d) = false := decide_eq_false hc
          gi_wp2
          exact ⟨(KeepsOthers.drew W).from _, ⟨(Below.refl _ W).drew, fun v hv => BlockIs.drew hv⟩, ⟨HMI.out hc, HX.out.1⟩, HX.out.2.drew⟩
        
      · intro _ L a' w' kk op hLs ho hLi hLd hLn hS hlow hdep hold
        have hkk : kk < 8 := (Array.getElem?_eq_some_iff.1 ho).1
        have l1 : a'.tmps[1]?.getD undef = .pointer (some ⟨w.heap.size, 0, none⟩) := by rw [← Array.getD_eq_getD_getElem?]; exact hlow 1 (by kernel_rfl)
        have l6 : a'.tmps[6]?.getD undef = .pointer (some ⟨w2.heap.size, 0, none⟩) := by rw [← Array.getD_eq_getD_getElem?]; exact hlow 6 (by kernel_rfl)
        have l8 : a'.tmps[8]?.getD undef = .int .i64 (z : Int) := by rw [← Array.getD_eq_getD_getElem?]; exact hlow 8 (by kernel_rfl)
        have D : ∀ j oj d, edgeB _ kk j = true → _ → _ → a'.tmps[d]?.getD undef = _ := fun j oj d h1 h2 h3 => (Array.getD_eq_getD_getElem? ..).symm.trans (hdep j oj d h1 h2 h3)
        rcases (by omega : kk = 0 ∨ kk = 1 ∨ kk = 2 ∨ kk = 3 ∨ kk = 4 ∨ kk = 5 ∨ kk = 6 ∨ kk = 7) with rfl | rfl | rfl | rfl | rfl | rfl | rfl | rfl
        · obtain rfl := Option.some.inj ho
          exact ⟨rfl, .inl ⟨(), w', fun _ _ => rfl, by rw [hS]; simp [execOp, Act.eval, l1, c1, go_sem], hS⟩⟩
        · obtain rfl := Option.some.inj ho
          exact ⟨rfl, .inl ⟨(), w', fun _ _ => rfl, by rw [hS]; simp [execOp, Act.eval, l8, go_sem], hS⟩⟩
        · obtain rfl := Option.some.inj ho
          have e29 : a'.tmps[29]?.getD undef = .slice (some ad) js.length c := D 0 _ 29 (by kernel_rfl) rfl rfl
          have e30 : a'.tmps[30]?.getD undef = .int .i64 (z : Int) := D 1 _ 30 (by kernel_rfl) rfl rfl
          exact ⟨rfl, .inl ⟨(), w', fun _ _ => rfl, by rw [hS]; simp [execOp, Act.eval, e29, e30, hz0, hz1, go_sem], hS⟩⟩
        · obtain rfl := Option.some.inj ho
          have e31 : a'.tmps[31]?.getD undef = .pointer (some (ad.add (z * 4))) := D 2 _ 31 (by kernel_rfl) rfl rfl
          exact ⟨rfl, .inl ⟨(), w', fun _ _ => rfl, by rw [hS]; simp [execOp, Act.eval, e31, go_sem], hS⟩⟩
        · obtain rfl := Option.some.inj ho
          have e32 : a'.tmps[32]?.getD undef = .pointer (some ⟨(ad.add (z * 4)).block, (ad.add (z * 4)).off + 3, none⟩) := D 3 _ 32 (by kernel_rfl) rfl rfl
          exact ⟨rfl, .inl ⟨(), w', fun _ _ => rfl, by rw [hS]; simp [execOp, Act.eval, e32, cz, go_sem], hS⟩⟩
        · obtain rfl := Option.some.inj ho
          exact ⟨rfl, .inl ⟨(), w', fun _ _ => rfl, by rw [hS]; simp [execOp, Act.eval, l6, go_sem], hS⟩⟩
        · obtain rfl := Option.some.inj ho
          have e34 : a'.tmps[34]?.getD undef = .pointer (some ⟨w2.heap.size, 3, none⟩) := D 5 _ 34 (by kernel_rfl) rfl rfl
          exact ⟨rfl, .inl ⟨(), w', fun _ _ => rfl, by rw [hS]; simp [execOp, Act.eval, e34, cj, go_sem], hS⟩⟩
        · obtain rfl := Option.some.inj ho
          have e33 : a'.tmps[33]?.getD undef = .int .i64 jz.d := D 4 _ 33 (by kernel_rfl) rfl rfl
          have e35 : a'.tmps[35]?.getD undef = .int .i64 j.d := D 6 _ 35 (by kernel_rfl) rfl rfl
          exact ⟨rfl, .inl ⟨(), w', fun _ _ => rfl, by rw [hS]; simp [execOp, Act.eval, e33, e35, go_sem], hS⟩⟩
    case done =>
      rintro D ys W hD rfl ⟨⟨hf, hF⟩, hb⟩ hK
      have HR := Lib.hid (HNO.out hf)
      have x1 : Boxed W _ _ _ := hF (w.heap.size + 1, 3, #[.int .i64 0]) (by simp)
      have x2 : Boxed W _ _ _ := hF (w.heap.size + 1 + 1, 4, #[.bool false]) (by simp)
      have b1 := x1.cell
      have b2 := x2.cell
      have g1 := x1.frozen
      have g2 := x2.frozen
      gi_wp2
      have hK' := ((KeepsOthers.setCell W ⟨w.heap.size + 1, 0, none⟩ (.int .i64 0)).trans (KeepsOthers.setCell _ ⟨w.heap.size + 1 + 1, 0, none⟩ (.bool false))).same D _ hK rfl
      have r1 : Boxed ((W.setCell ⟨w.heap.size + 1, 0, none⟩ (.int .i64 0)).setCell ⟨w.heap.size + 1 + 1, 0, none⟩ (.bool false)) (w.heap.size + 1) 3 (.int .i64 0) := BlockIs.otherBk (x1.set (.int .i64 0)) (by omega) 0 (.bool false)
      have r2 : Boxed ((W.setCell ⟨w.heap.size + 1, 0, none⟩ (.int .i64 0)).setCell ⟨w.heap.size + 1 + 1, 0, none⟩ (.bool false)) (w.heap.size + 1 + 1) 4 (.bool false) := Boxed.set (v := .bool false) (.bool false) (BlockIs.otherBk x2 (by omega) 0 (.int .i64 0))
      refine ⟨by simp, .inl ⟨_, _, rfl, run_takeDeferred hK', ?_⟩⟩
      have e1 := cell_kept r1.cell (grownBy_putObj' _ D (.deferred none)) (fun r e => by cases e; exact ⟨_, hK', rfl⟩)
      have e2 := cell_kept r2.cell (grownBy_putObj' _ D (.deferred none)) (fun r e => by cases e; exact ⟨_, hK', rfl⟩)
      refine ⟨.tuple #[.int .i64 0, .bool false], ?_, ⟨by rw [HR.out], ((hb.setCell (p := ⟨w.heap.size + 1, 0, none⟩) (by simp) _).setCell (p := ⟨w.heap.size + 1 + 1, 0, none⟩) (by simp; omega) _).trans (belowK_b (w := w7) (by omega) _ D _ _ (by omega) hK' rfl rfl)⟩⟩
      simp [results, Try.f53, go_sem, e1, e2]
    case stop =>
      rintro D cd pre W hD hpre ⟨⟨⟨⟨rfl, hs⟩, b1⟩, b2⟩, hb⟩ hK
      have HR := Lib.hid (HSO.out pre hpre hs)
      gi_wp2
      refine ⟨by simp, .inl ⟨_, _, rfl, run_takeDeferred hK, ?_⟩⟩
      have e1 := cell_kept b1.cell (grownBy_putObj' _ D (.deferred none)) (fun r e => by cases e; exact ⟨_, hK, rfl⟩)
      have e2 := cell_kept b2.cell (grownBy_putObj' _ D (.deferred none)) (fun r e => by cases e; exact ⟨_, hK, rfl⟩)
      refine ⟨.tuple #[.int .i64 (vdB js l pre), .bool true], ?_, ⟨by rw [HR.out], hb.trans (belowK_b (w := w7) (by omega) W D _ _ (by omega) hK rfl rfl)⟩⟩
      simp [results, Try.f53, go_sem, e1, e2]
    
  · intro _ L a' w' kk op hLs ho hLi hLd hLn hS hlow hdep hold
    have hkk : kk < 11 := (Array.getElem?_eq_some_iff.1 ho).1
    have l1 : a'.tmps[1]?.getD undef = .pointer (some ⟨w.heap.size, 0, none⟩) := by rw [← Array.getD_eq_getD_getElem?]; exact hlow 1 (by kernel_rfl)
    have l4 : a'.tmps[4]?.getD undef = .slice (some ab) l.length d := by rw [← Array.getD_eq_getD_getElem?]; exact hlow 4 (by kernel_rfl)
    have D : ∀ j oj d, edgeB _ kk j = true → _ → _ → a'.tmps[d]?.getD undef = _ := fun j oj d h1 h2 h3 => (Array.getD_eq_getD_getElem? ..).symm.trans (hdep j oj d h1 h2 h3)
    rcases (by omega : kk = 0 ∨ kk = 1 ∨ kk = 2 ∨ kk = 3 ∨ kk = 4 ∨ kk = 5 ∨ kk = 6 ∨ kk = 7 ∨ kk = 8 ∨ kk = 9 ∨ kk = 10) with rfl | rfl | rfl | rfl | rfl | rfl | rfl | rfl | rfl | rfl | rfl
    · obtain rfl := Option.some.inj ho
      obtain ⟨c1, cy, cj0, cj1, cj2, cj3⟩ := HC.out w' (hS.one (hLn 10 (by kernel_rfl)))
      exact ⟨rfl, .inl ⟨(), _, fun _ _ => rfl, by simp [execOp, Act.eval, l1, c1, go_sem], hS.keep (by decide) (by decide)⟩⟩
    · obtain rfl := Option.some.inj ho
      obtain ⟨c1, cy, cj0, cj1, cj2, cj3⟩ := HC.out w' (hS.one (hLn 10 (by kernel_rfl)))
      exact ⟨rfl, .inl ⟨(), _, fun _ _ => rfl, by simp [execOp, Act.eval, l4, go_sem], hS.keep (by decide) (by decide)⟩⟩
    · obtain rfl := Option.some.inj ho
      obtain ⟨c1, cy, cj0, cj1, cj2, cj3⟩ := HC.out w' (hS.one (hLn 10 (by kernel_rfl)))
      exact ⟨rfl, .inl ⟨(), _, fun _ _ => rfl, by simp [execOp, Act.eval, l4, go_sem], hS.keep (by decide) (by decide)⟩⟩
    · obtain rfl := Option.some.inj ho
      have e18 : a'.tmps[18]?.getD undef = .slice (some ab) l.length d := D 2 _ 18 (by kernel_rfl) rfl rfl
      obtain ⟨c1, cy, cj0, cj1, cj2, cj3⟩ := HC.out w' (hS.one (hLn 10 (by kernel_rfl)))
      exact ⟨rfl, .inl ⟨(), _, fun _ _ => rfl, by simp [execOp, Act.eval, e18, go_sem], hS.keep (by decide) (by decide)⟩⟩
    · obtain rfl := Option.some.inj ho
      have e19 : a'.tmps[19]?.getD undef = .int .i64 (l.length : Int) := D 3 _ 19 (by kernel_rfl) rfl rfl
      obtain ⟨c1, cy, cj0, cj1, cj2, cj3⟩ := HC.out w' (hS.one (hLn 10 (by kernel_rfl)))
      exact ⟨rfl, .inl ⟨(), _, fun _ _ => rfl, by simp [execOp, Act.eval, e19, hw1, go_sem], hS.keep (by decide) (by decide)⟩⟩
    · obtain rfl := Option.some.inj ho
      have e17 : a'.tmps[17]?.getD undef = .slice (some ab) l.length d := D 1 _ 17 (by kernel_rfl) rfl rfl
      have e20 : a'.tmps[20]?.getD undef = .int .i64 ((l.length : Int) - 1) := D 4 _ 20 (by kernel_rfl) rfl rfl
      obtain ⟨c1, cy, cj0, cj1, cj2, cj3⟩ := HC.out w' (hS.one (hLn 10 (by kernel_rfl)))
      exact ⟨rfl, .inl ⟨(), _, fun _ _ => rfl, by simp [execOp, Act.eval, e17, e20, hn4, hn2, hn3, go_sem], hS.keep (by decide) (by decide)⟩⟩
    · obtain rfl := Option.some.inj ho
      have e21 : a'.tmps[21]?.getD undef = .pointer (some (ab.add (l.length - 1))) := D 5 _ 21 (by kernel_rfl) rfl rfl
      obtain ⟨c1, cy, cj0, cj1, cj2, cj3⟩ := HC.out w' (hS.one (hLn 10 (by kernel_rfl)))
      exact ⟨rfl, .inl ⟨(), _, fun _ _ => rfl, by simp [execOp, Act.eval, e21, cy, go_sem], hS.keep (by decide) (by decide)⟩⟩
    · obtain rfl := Option.some.inj ho
      have e16 : a'.tmps[16]?.getD undef = .slice (some ad) js.length c := D 0 _ 16 (by kernel_rfl) rfl rfl
      have e22 : a'.tmps[22]?.getD undef = .int .i64 (y : Int) := D 6 _ 22 (by kernel_rfl) rfl rfl
      obtain ⟨c1, cy, cj0, cj1, cj2, cj3⟩ := HC.out w' (hS.one (hLn 10 (by kernel_rfl)))
      exact ⟨rfl, .inl ⟨(), _, fun _ _ => rfl, by simp [execOp, Act.eval, e16, e22, hy0, hy1, go_sem], hS.keep (by decide) (by decide)⟩⟩
    · obtain rfl := Option.some.inj ho
      have e23 : a'.tmps[23]?.getD undef = .pointer (some (ad.add (y * 4))) := D 7 _ 23 (by kernel_rfl) rfl rfl
      obtain ⟨c1, cy, cj0, cj1, cj2, cj3⟩ := HC.out w' (hS.one (hLn 10 (by kernel_rfl)))
      exact ⟨rfl, .inl ⟨(), _, fun _ _ => rfl, by simp [execOp, Act.eval, e23, cj0, cj1, cj2, cj3, go_sem], hS.keep (by decide) (by decide)⟩⟩
    · obtain rfl := Option.some.inj ho
      obtain ⟨hw, hk⟩ := hS.alloc hLi (hLn 10 (by kernel_rfl)) (by rw [hLs]; decide)
      exact ⟨rfl, .inl ⟨(), _, fun _ _ => rfl, by rw [hw]; simp [execOp, hs1, go_sem], hk⟩⟩
    · obtain rfl := Option.some.inj ho
      have e6 : a'.tmps[6]?.getD undef = .pointer (some ⟨w2.heap.size, 0, none⟩) := D 9 _ 6 (by kernel_rfl) rfl rfl
      have e24 : a'.tmps[24]?.getD undef = .agg #[.int .i64 j.t, .int .i64 j.w, .int .i64 j.r, .int .i64 j.d] := D 8 _ 24 (by kernel_rfl) rfl rfl
      obtain ⟨hw, hk⟩ := hS.store (hLd 9 (by kernel_rfl)) hLi (by rw [hLs]; decide)
      exact ⟨rfl, .inr ⟨(), _, fun _ _ => rfl, rfl, by rw [hw]; simp [execOp, Act.eval, e6, e24, hs1, go_sem], hk⟩⟩
end
theorem impl_BlockingJob (A : Option Addr) (c : Nat) (js : List J) (w : World) (hr : Row w A (jc js)) (hn : js.length ≤ 10000000) : Calls Try.prog 53 #[.slice A js.length c] w (RetNB w (blockR js)) := by
  by_cases h : goodL js = true ∧ 0 < js.length
  · obtain ⟨ad, hA, _⟩ := hr.job h.2
    subst hA
    exact impl_BlkYes ad c js w hr h.1 h.2
  · exact impl_BlkNo A c js w hr hn h
end Go.Proofs.Ytpjjjbkjkhcbdaa
