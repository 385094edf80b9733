/- Circuits: the program's. -/
import Derived.Test.YtpoibjmkbljblaaDoorUcS
import Derived.Test.YtpoibjmkbljblaaDoorUrI
import Derived.Test.YtpoibjmkbljblaaDoorKb3
namespace Go.Proofs.YtpoibjmkbljblaaDoor
set_option linter.unusedSimpArgs false
set_option linter.unusedVariables false
set_option linter.unusedSectionVars false
open Go.RowKit Go.Shelf
attribute [local go_sem] Oper.semAt_some
theorem keepsO_belowC {W W' : World} (h : Below W.heap.size W W') : KeepsOthers W W' :=
  ⟨h.size, fun k _ hk _ => (h.block k (Array.getElem?_eq_some_iff.1 hk).1).trans hk⟩
section
variable (A : Option Addr) (c : Nat) (js : List J) (w : World) (g : Nat) (hg : g < 256) (hr : Row w A (jc js)) (hok : ∀ j ∈ js, okJ j = true) (h8 : js.length ≤ 8) (h0 : ∀ j ∈ js, j.r = 0) (hlt : ∀ k, g.testBit k = true → k < js.length) (hT : TzTab w)
include hg hr hok h8 h0 hlt hT
set_option maxRecDepth 100000 in
set_option maxHeartbeats 4000000 in
theorem circuit_any : Calls Tryd.prog 83 #[.slice A js.length c, .int .u64 (g : Int)] w fun e w' => e = .returned (.int .u64 (cirB js g : Int)) ∧ Below w.heap.size w w' := by
  have HPO := Lib.hid (fun l (hl : ∀ x ∈ l, x < 8) => (putW_ok (P := fun i => timB js (subB g i)) l 0 (by omega) hl).1)
  have HCB : Hid (cirB js g = putW (fun i => timB js (subB g i)) 0 (memB g)) := rfl
  have HSUB : Hid (∀ x, x < js.length → subB g x < 256 ∧ ∀ k, (subB g x).testBit k = true → k < js.length) := fun x hx => by
    have h1 := sub_lt8 g hg x (by omega)
    refine ⟨h1, fun k hk => ?_⟩
    have hk8 := bit8 h1 hk
    rw [sub_bit _ hg x (by omega) k hk8, Bool.and_eq_true] at hk
    exact hlt k hk.1
  have HTI := Lib.hid (fun (s : Nat) (hs : s < 256) (hlt : ∀ k, s.testBit k = true → k < js.length) (W : World) (hb : Below w.heap.size w W) =>
    (show Calls Tryd.prog 82 #[.slice A js.length c, .int .u64 (s : Int)] W fun e w' => e = .returned (.bool (timB js s)) ∧ Below W.heap.size W w' from isTimely_any A c js W (hr.below hb) hok h8 h0 s hs hlt (hT.below hb)))
  have HLT := Lib.hid hlt
  have HT := Lib.hid hT
  have b0 : Boxed (((w.alloc (.cells #[.slice A js.length c] 61)).alloc (.cells #[.int .u64 (g : Int)] 63)).alloc (.cells #[.int .u64 0] 63)) w.heap.size 61 (.slice A js.length c) := ((Boxed.new w 61 (.slice A js.length c)).alloc _).alloc _
  have b1 : Boxed (((w.alloc (.cells #[.slice A js.length c] 61)).alloc (.cells #[.int .u64 (g : Int)] 63)).alloc (.cells #[.int .u64 0] 63)) (w.heap.size + 1) 63 (.int .u64 (g : Int)) := by
    have h := (Boxed.new (w.alloc (.cells #[.slice A js.length c] 61)) 63 (.int .u64 (g : Int))).alloc (.cells #[.int .u64 0] 63)
    rwa [World.size_alloc] at h
  have b2 : Boxed (((w.alloc (.cells #[.slice A js.length c] 61)).alloc (.cells #[.int .u64 (g : Int)] 63)).alloc (.cells #[.int .u64 0] 63)) (w.heap.size + 1 + 1) 63 (.int .u64 0) := by
    have h := Boxed.new ((w.alloc (.cells #[.slice A js.length c] 61)).alloc (.cells #[.int .u64 (g : Int)] 63)) 63 (.int .u64 0)
    rwa [World.size_alloc, World.size_alloc] at h
  have hb3 : Below w.heap.size w (((w.alloc (.cells #[.slice A js.length c] 61)).alloc (.cells #[.int .u64 (g : Int)] 63)).alloc (.cells #[.int .u64 0] 63)) := (((Below.refl _ w).alloc (Nat.le_refl _) _).alloc (by simp) _).alloc (by simp; omega) _
  have hz3 : (((w.alloc (.cells #[.slice A js.length c] 61)).alloc (.cells #[.int .u64 (g : Int)] 63)).alloc (.cells #[.int .u64 0] 63)).heap.size = w.heap.size + 1 + 1 + 1 := by simp
  have b3 := Boxed.new (((w.alloc (.cells #[.slice A js.length c] 61)).alloc (.cells #[.int .u64 (g : Int)] 63)).alloc (.cells #[.int .u64 0] 63)) 63 (.int .u64 (g : Int))
  rw [hz3] at b3
  have hb4 := hb3.alloc hb3.size (.cells #[.int .u64 (g : Int)] 63)
  have H3 := Lib.hid (And.intro (b0.alloc (.cells #[.int .u64 (g : Int)] 63)) (And.intro (b1.alloc (.cells #[.int .u64 (g : Int)] 63)) (And.intro (b2.alloc (.cells #[.int .u64 (g : Int)] 63)) (And.intro b3 hb4))))
  have hz4 : ((((w.alloc (.cells #[.slice A js.length c] 61)).alloc (.cells #[.int .u64 (g : Int)] 63)).alloc (.cells #[.int .u64 0] 63)).alloc (.cells #[.int .u64 (g : Int)] 63)).heap.size = w.heap.size + 1 + 1 + 1 + 1 := by simp
  clear b0 b1 b2 b3 hb3 hb4 hz3 hr hok h0 hlt hT
  refine (callsIn_wide (n := 6)).1 ?_
  refine callsIn_of_wp_marks Tryd.func83 rfl trivial ?_ rfl
  simp only [Tryd.ntmps83, List.size_toArray, List.length_cons, List.length_nil, Nat.reduceAdd, Nat.reduceSub, Array.replicate_succ, Array.replicate_zero, List.push_toArray, List.append_toArray, List.nil_append, List.cons_append]
  gi_wp2_with (refine ⟨trivial, ?_⟩; gi_at_call 99; refine (members_in 5 _ _).mono ?_; rintro e w' ⟨rfl, rfl⟩)
  generalize (((w.alloc (.cells #[.slice A js.length c] 61)).alloc (.cells #[.int .u64 (g : Int)] 63)).alloc (.cells #[.int .u64 0] 63)).alloc (.cells #[.int .u64 (g : Int)] 63) = w3 at *
  obtain ⟨b0, b1, b2, b3, hb3⟩ := H3.out
  obtain ⟨PF, hPF⟩ : ∃ PF, PF = fun i => timB js (subB g i) := ⟨_, rfl⟩
  rw [← hPF] at HPO HCB
  have HPF : Hid (∀ i, PF i = timB js (subB g i)) := fun i => by rw [hPF]
  clear hPF
  refine wpIn_rangeFunc_ownG (F := Fence.wide) rfl (by omega) (gf := 139) (lb := #[.pointer (some ⟨w.heap.size + 1 + 1 + 1, 0, none⟩)]) rfl trivial (enters_of Tryd.func139 (by kernel_rfl) rfl)
    (members_stops 5 (by omega) (w.heap.size + 1 + 1 + 1) g hg w3 (by omega) b3 (HT.out.below hb3))
    (fun h k t => k (h t)) (fun W l' o o' hl ho hc _ => KeepsTz.put ho hc) (Below.refl _ _) (fun _ => rfl)
    (fun (pre : List (Mb g)) W => ((Boxed W w.heap.size 61 (.slice A js.length c) ∧ Boxed W (w.heap.size + 1) 63 (.int .u64 (g : Int))) ∧ Boxed W (w.heap.size + 1 + 1) 63 (.int .u64 (putW PF 0 (vals pre) : Int))) ∧ Below w.heap.size w W)
    (fun _ _ _ => False)
    (OwnFrom.and (OwnFrom.and (OwnFrom.and (Own.from (boxed_own _ _ _) _) (Own.from (boxed_own _ _ _) _)) (Own.from (boxed_own _ _ _) _)) (ownFrom_below (Nat.le_refl _) (by omega)))
    (fun _ _ _ _ _ h _ _ => h)
    ⟨⟨⟨b0, b1⟩, b2⟩, hb3⟩
    (fun x => { tmps := #[.slice A js.length c, .int .u64 (g : Int), .pointer (some ⟨w.heap.size, 0, none⟩), .pointer (some ⟨w.heap.size + 1, 0, none⟩), .int .u64 0, .pointer (some ⟨w.heap.size + 1 + 1, 0, none⟩), .int .i64 (x.1 : Int), .int .u64 (g : Int), .func (.func 139) #[] #[.pointer (some ⟨w.heap.size + 1 + 1 + 1, 0, none⟩)], .int .i64 (x.1 : Int), undef, undef, undef, undef, undef, undef, undef, undef, undef], defers := [] }) ?assign ?body ?done ?stop
  case assign =>
    intro l' x W K hK
    unfold encM
    gi_wp2
    exact hK
  case body =>
    rintro l' pre ⟨x, hx⟩ W ⟨⟨⟨y0, y1⟩, y2⟩, hb⟩ hl
    have hmo : Tryd.prog.follows .mixedOrders = true := by kernel_rfl
    have hxl := HLT.out x hx
    have HSN : Hid (putW PF 0 (vals (pre ++ [(⟨x, hx⟩ : Mb g)])) = if PF x then addB (putW PF 0 (vals pre)) x else putW PF 0 (vals pre)) := by show _ = _; rw [vals_snoc, putW_snoc]
    have ho := HPO.out (vals pre) (fun k hk => by obtain ⟨z, _, rfl⟩ := List.mem_map.1 hk; have := HLT.out _ z.2; omega)
    obtain ⟨hs1, hs2⟩ := HSUB.out x hxl
    have HC := Lib.hid (HTI.out _ hs1 hs2)
    rw [← HPF.out x] at HC
    have HWO : Hid (∀ W : World, Calls Tryd.prog 123 #[.int .u64 (g : Int), .int .i64 (x : Int)] W fun e w' => e = .returned (.int .u64 (subB g x : Int)) ∧ Below W.heap.size W w') := fun W => (without_any g x hg (by omega) W).mono fun _ _ h => ⟨h.1, by obtain ⟨_, h2⟩ := h; subst h2; exact Below.refl _ _⟩
    have HWI := Lib.hid (fun W => with_any (putW PF 0 (vals pre)) x ho (by omega) W)
    clear HSUB HTI HPO
    generalize putW PF 0 (vals pre) = o at *
    generalize addB o x = ox at *
    generalize subB g x = sb at *
    generalize PF x = pf at *
    dsimp only
    gi_wp2
    have hKO : KeepsOthers W W.drew := KeepsOthers.drew W
    have kb : ∀ {X Y : World}, (KeepsOthers W X ∧ Below w.heap.size w X ∧ BlockIs X w.heap.size 61 #[.slice A js.length c] ∧ BlockIs X (w.heap.size + 1) 63 #[.int .u64 (g : Int)] ∧ BlockIs X (w.heap.size + 1 + 1) 63 #[.int .u64 (o : Int)]) → Below X.heap.size X Y → (KeepsOthers W Y ∧ Below w.heap.size w Y ∧ BlockIs Y w.heap.size 61 #[.slice A js.length c] ∧ BlockIs Y (w.heap.size + 1) 63 #[.int .u64 (g : Int)] ∧ BlockIs Y (w.heap.size + 1 + 1) 63 #[.int .u64 (o : Int)]) := fun h hb => ⟨h.1.trans (keepsO_belowC hb), h.2.1.trans (hb.mono h.2.1.size), h.2.2.1.below hb, h.2.2.2.1.below hb, h.2.2.2.2.below hb⟩
    refine wpIn_region_detZ (fun _ => trivial) rfl (fun _ _ _ _ h => (callsIn_wide.2 h).inRound l') (by kernel_rfl) hmo (fun L w' => KeepsOthers W w' ∧ Below w.heap.size w w' ∧ BlockIs w' w.heap.size 61 #[.slice A js.length c] ∧ BlockIs w' (w.heap.size + 1) 63 #[.int .u64 (g : Int)] ∧ BlockIs w' (w.heap.size + 1 + 1) 63 #[.int .u64 (o : Int)]) (fun kk => (#[.slice A js.length c, .int .u64 (g : Int), .int .i64 (x : Int), .int .u64 (sb : Int), .bool pf] : Array Value).getD kk undef) (by kernel_rfl) (by kernel_rfl) ⟨hKO, hb.drew, y0, y1, y2⟩ ?_ ?_
    · intro L tm w' hall hS hsz hlow hval
      have ht : tm = #[.slice A js.length c, .int .u64 (g : Int), .pointer (some ⟨w.heap.size, 0, none⟩), .pointer (some ⟨w.heap.size + 1, 0, none⟩), .int .u64 0, .pointer (some ⟨w.heap.size + 1 + 1, 0, none⟩), .int .i64 (x : Int), .int .u64 (g : Int), .func (.func 139) #[] #[.pointer (some ⟨w.heap.size + 1 + 1 + 1, 0, none⟩)], .int .i64 (x : Int), .slice A js.length c, .int .u64 (g : Int), .int .i64 (x : Int), .int .u64 (sb : Int), .bool pf, undef, undef, undef, undef] := by
        refine arr_of _ _ hsz fun t ht => ?_
        have ht' : t < 19 := ht
        rcases (by omega : t = 0 ∨ t = 1 ∨ t = 2 ∨ t = 3 ∨ t = 4 ∨ t = 5 ∨ t = 6 ∨ t = 7 ∨ t = 8 ∨ t = 9 ∨ t = 10 ∨ t = 11 ∨ t = 12 ∨ t = 13 ∨ t = 14 ∨ t = 15 ∨ t = 16 ∨ t = 17 ∨ t = 18) with rfl | rfl | rfl | rfl | rfl | rfl | rfl | rfl | rfl | rfl | rfl | rfl | rfl | rfl | rfl | rfl | rfl | rfl | rfl
        · exact hlow 0 (by kernel_rfl)
        · exact hlow 1 (by kernel_rfl)
        · exact hlow 2 (by kernel_rfl)
        · exact hlow 3 (by kernel_rfl)
        · exact hlow 4 (by kernel_rfl)
        · exact hlow 5 (by kernel_rfl)
        · exact hlow 6 (by kernel_rfl)
        · exact hlow 7 (by kernel_rfl)
        · exact hlow 8 (by kernel_rfl)
        · exact hlow 9 (by kernel_rfl)
        · exact hval 0 _ 10 rfl rfl
        · exact hval 1 _ 11 rfl rfl
        · exact hval 2 _ 12 rfl rfl
        · exact hval 3 _ 13 rfl rfl
        · exact hval 4 _ 14 rfl rfl
        · exact hlow 15 (by kernel_rfl)
        · exact hlow 16 (by kernel_rfl)
        · exact hlow 17 (by kernel_rfl)
        · exact hlow 18 (by kernel_rfl)
      subst ht
      have HF := Lib.hid hS
      clear hlow hval hsz hall hS
      have z5 := HF.out.2.2.2.2.cell 0
      have fz := HF.out.2.2.2.2.frozen 0
      simp only [List.getElem?_toArray, List.getElem?_cons_zero] at z5
      cases pf
      · have HSN2 : Hid (putW PF 0 (vals (pre ++ [(⟨x, hx⟩ : Mb g)])) = o) := HSN.out
        gi_wp2
        exact ⟨HF.out.1.from _, fun _ => HT.out.below HF.out.2.1, ⟨⟨HF.out.2.2.1, HF.out.2.2.2.1⟩, by rw [HSN2.out]; exact HF.out.2.2.2.2⟩, HF.out.2.1⟩
      · have HSN2 : Hid (putW PF 0 (vals (pre ++ [(⟨x, hx⟩ : Mb g)])) = ox) := HSN.out
        gi_wp2_with (refine ⟨trivial, ?_⟩; gi_at_call 81; refine ((callsIn_wide.2 (HWI.out _)).inRound l').mono ?_; rintro e _ ⟨rfl, rfl⟩)
        have hbs := HF.out.2.1.setCell (p := ⟨w.heap.size + 1 + 1, 0, none⟩) (by show _ ≤ w.heap.size + 1 + 1; omega) (.int .u64 (ox : Int))
        exact ⟨(HF.out.1.trans (KeepsOthers.setCell _ _ _)).from _, fun _ => HT.out.below hbs, ⟨⟨HF.out.2.2.1.away (g' := w.heap.size + 1 + 1) (by omega) _ _, HF.out.2.2.2.1.away (g' := w.heap.size + 1 + 1) (by omega) _ _⟩, by rw [HSN2.out]; exact HF.out.2.2.2.2.set 0 _⟩, hbs⟩
    · intro L ac w' q op hLs hop hLi hLd hLn hS0 hlow hdep _
      have hq : q < 5 := (Array.getElem?_eq_some_iff.1 hop).1
      rcases (by omega : q = 0 ∨ q = 1 ∨ q = 2 ∨ q = 3 ∨ q = 4) with rfl | rfl | rfl | rfl | rfl
      · obtain rfl := Option.some.inj hop
        have e2 : ac.tmps[2]?.getD undef = .pointer (some ⟨w.heap.size, 0, none⟩) := (Array.getD_eq_getD_getElem? ..).symm.trans (hlow 2 (by kernel_rfl))
        have hc := hS0.2.2.1.cell 0
        simp only [List.getElem?_toArray, List.getElem?_cons_zero] at hc
        exact ⟨wanted_free rfl, .inl (.inl ⟨w', by simp [execOp, Act.eval, e2, hc, go_sem], hS0⟩)⟩
      · obtain rfl := Option.some.inj hop
        have e3 : ac.tmps[3]?.getD undef = .pointer (some ⟨w.heap.size + 1, 0, none⟩) := (Array.getD_eq_getD_getElem? ..).symm.trans (hlow 3 (by kernel_rfl))
        have hc := hS0.2.2.2.1.cell 0
        simp only [List.getElem?_toArray, List.getElem?_cons_zero] at hc
        exact ⟨wanted_free rfl, .inl (.inl ⟨w', by simp [execOp, Act.eval, e3, hc, go_sem], hS0⟩)⟩
      · obtain rfl := Option.some.inj hop
        have e6 : ac.tmps[6]?.getD undef = .int .i64 (x : Int) := (Array.getD_eq_getD_getElem? ..).symm.trans (hlow 6 (by kernel_rfl))
        exact ⟨wanted_free rfl, .inl (.inl ⟨w', by simp [execOp, Act.eval, e6, go_sem], hS0⟩)⟩
      · obtain rfl := Option.some.inj hop
        have e11 : ac.tmps[11]?.getD undef = .int .u64 (g : Int) := (Array.getD_eq_getD_getElem? ..).symm.trans (hdep 1 _ 11 (by kernel_rfl) rfl rfl)
        have e12 : ac.tmps[12]?.getD undef = .int .i64 (x : Int) := (Array.getD_eq_getD_getElem? ..).symm.trans (hdep 2 _ 12 (by kernel_rfl) rfl rfl)
        refine ⟨wanted_free rfl, .inl (.inr ⟨123, #[.int .u64 (g : Int), .int .i64 (x : Int)], by simp [execOp, Act.eval, e11, e12, go_sem], (HWO.out w').mono ?_⟩)⟩
        rintro e w2 ⟨rfl, hb⟩
        exact ⟨rfl, kb hS0 hb⟩
      · obtain rfl := Option.some.inj hop
        have e10 : ac.tmps[10]?.getD undef = .slice A js.length c := (Array.getD_eq_getD_getElem? ..).symm.trans (hdep 0 _ 10 (by kernel_rfl) rfl rfl)
        have e13 : ac.tmps[13]?.getD undef = .int .u64 (sb : Int) := (Array.getD_eq_getD_getElem? ..).symm.trans (hdep 3 _ 13 (by kernel_rfl) rfl rfl)
        refine ⟨wanted_free rfl, .inl (.inr ⟨82, #[.slice A js.length c, .int .u64 (sb : Int)], by simp [execOp, Act.eval, e10, e13, go_sem], (HC.out w' hS0.2.1).mono ?_⟩)⟩
        rintro e w2 ⟨rfl, hb⟩
        exact ⟨rfl, kb hS0 hb⟩
  case done =>
    rintro D ys W hD hys ⟨⟨⟨y0, y1⟩, y2⟩, hb⟩ hK
    have hc := y2.cell
    rw [hys, ← HCB.out] at hc
    gi_wp2
    refine ⟨by simp, .inl ⟨_, _, rfl, run_takeDeferred hK, ?_⟩⟩
    exact ⟨_, results_tmp rfl _ _ _, rfl, hb.trans (belowK_b (w := w3) (by omega) W D _ _ (by omega) hK rfl rfl)⟩
  case stop =>
    rintro D cd pre W _ _ h _
    exact h.elim
end
end Go.Proofs.YtpoibjmkbljblaaDoor
