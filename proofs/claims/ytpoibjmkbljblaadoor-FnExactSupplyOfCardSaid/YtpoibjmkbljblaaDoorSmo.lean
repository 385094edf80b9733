/- The sum of numbers of the members of a set: the program's sumOf. -/
import Derived.Test.YtpoibjmkbljblaaDoorDmP
import Derived.Test.YtpoibjmkbljblaaDoorRegZ
import Derived.Test.YtpoibjmkbljblaaDoorKb2
import Derived.Test.YtpoibjmkbljblaaDoorBlo
namespace Go.Proofs.YtpoibjmkbljblaaDoor
open Go.RowKit Go.Shelf
attribute [local go_sem] Oper.semAt_some
theorem keepsO_belowS {W W' : World} (h : Below W.heap.size W W') : KeepsOthers W W' :=
  ⟨h.size, fun k _ hk _ => (h.block k (Array.getElem?_eq_some_iff.1 hk).1).trans hk⟩
section
variable (FN gb Bs s : Nat) (g : Nat → Int) (w : World) (hs : s < 256) (hBx : Boxed w Bs 63 (.int .u64 (s : Int))) (hT : TzTab w)
  (hcf : ∀ (args : Array Value) (w1 : World), (callFunc FN args).run Tryd.prog w1 = .ok (.enter FN args) w1)
  (hC : ∀ x, s.testBit x = true → ∀ W, Below w.heap.size w W → Calls Tryd.prog FN #[.int .i64 (x : Int), .pointer (some ⟨gb, 0, none⟩)] W fun e W' => e = .returned (.int .i64 (g x)) ∧ Below W.heap.size W W')
  (hg : ∀ x, s.testBit x = true → 0 ≤ g x ∧ g x ≤ 1000000000)
include hs hBx hT hcf hC hg
set_option maxRecDepth 100000 in
set_option maxHeartbeats 4000000 in
theorem sumOf_any : Calls Tryd.prog 98 #[.func (.func 139) #[] #[.pointer (some ⟨Bs, 0, none⟩)], .func (.func FN) #[] #[.pointer (some ⟨gb, 0, none⟩)]] w fun e w' => e = .returned (.int .i64 (sumF g (memB s))) ∧ Below w.heap.size w w' := by
  have hlB := hBx.lt
  have b0 : Boxed ((w.alloc (.cells #[.func (.func FN) #[] #[.pointer (some ⟨gb, 0, none⟩)]] 113)).alloc (.cells #[.int .i64 0] 3)) w.heap.size 113 (.func (.func FN) #[] #[.pointer (some ⟨gb, 0, none⟩)]) := (Boxed.new w 113 (.func (.func FN) #[] #[.pointer (some ⟨gb, 0, none⟩)])).alloc _
  have b1 : Boxed ((w.alloc (.cells #[.func (.func FN) #[] #[.pointer (some ⟨gb, 0, none⟩)]] 113)).alloc (.cells #[.int .i64 0] 3)) (w.heap.size + 1) 3 (.int .i64 0) := by
    have h := Boxed.new (w.alloc (.cells #[.func (.func FN) #[] #[.pointer (some ⟨gb, 0, none⟩)]] 113)) 3 (.int .i64 0)
    rwa [World.size_alloc] at h
  have hb3 : Below w.heap.size w ((w.alloc (.cells #[.func (.func FN) #[] #[.pointer (some ⟨gb, 0, none⟩)]] 113)).alloc (.cells #[.int .i64 0] 3)) := ((Below.refl _ w).alloc (Nat.le_refl _) _).alloc (by simp) _
  have hz3 : ((w.alloc (.cells #[.func (.func FN) #[] #[.pointer (some ⟨gb, 0, none⟩)]] 113)).alloc (.cells #[.int .i64 0] 3)).heap.size = w.heap.size + 1 + 1 := by simp
  have H3 := Lib.hid (And.intro b0 (And.intro b1 (And.intro ((show BlockIs w Bs 63 #[.int .u64 (s : Int)] from hBx).below hb3) hb3)))
  have HT := Lib.hid hT
  have HC := Lib.hid hC
  have HG := Lib.hid hg
  have HCF := Lib.hid hcf
  clear b0 b1 hb3 hT hC hg hBx hcf
  refine (callsIn_wide (n := 6)).1 ?_
  refine callsIn_of_wp_marks Tryd.func98 rfl trivial ?_ rfl
  simp only [Tryd.ntmps98, List.size_toArray, List.length_cons, List.length_nil, Nat.reduceAdd, Nat.reduceSub, Array.replicate_succ, Array.replicate_zero, List.push_toArray, List.append_toArray, List.nil_append, List.cons_append]
  gi_wp2
  generalize (w.alloc (.cells #[.func (.func FN) #[] #[.pointer (some ⟨gb, 0, none⟩)]] 113)).alloc (.cells #[.int .i64 0] 3) = w3 at *
  obtain ⟨b0, b1, b2, hb3⟩ := H3.out
  refine wpIn_rangeFunc_ownG (F := Fence.wide) rfl (by omega) (gf := 139) (lb := #[.pointer (some ⟨Bs, 0, none⟩)]) rfl trivial (enters_of Tryd.func139 (by kernel_rfl) rfl)
    (members_stops 5 (by omega) Bs s hs w3 (by omega) b2 (HT.out.below hb3))
    (fun h k t => k (h t)) (fun W l' o o' hl ho hc _ => KeepsTz.put ho hc) (Below.refl _ _) (fun _ => rfl)
    (fun (pre : List (Mb s)) W => (Boxed W w.heap.size 113 (.func (.func FN) #[] #[.pointer (some ⟨gb, 0, none⟩)]) ∧ Boxed W (w.heap.size + 1) 3 (.int .i64 (sumF g (vals pre)))) ∧ Below w.heap.size w W)
    (fun _ _ _ => False)
    (OwnFrom.and (OwnFrom.and (Own.from (boxed_own _ _ _) _) (Own.from (boxed_own _ _ _) _)) (ownFrom_below (Nat.le_refl _) (by omega)))
    (fun _ _ _ _ _ h _ _ => h)
    ⟨⟨b0, b1⟩, hb3⟩
    (fun x => { tmps := #[.func (.func 139) #[] #[.pointer (some ⟨Bs, 0, none⟩)], .func (.func FN) #[] #[.pointer (some ⟨gb, 0, none⟩)], undef, .pointer (some ⟨w.heap.size, 0, none⟩), .int .i64 0, .pointer (some ⟨w.heap.size + 1, 0, none⟩), .int .i64 (x.1 : Int), .func (.func 139) #[] #[.pointer (some ⟨Bs, 0, none⟩)], .int .i64 (x.1 : Int), undef, undef, undef, undef, undef, undef], defers := [] }) ?assign ?body ?done ?stop
  case assign =>
    intro l' x W K hK
    unfold encM
    gi_wp2
    exact hK
  case body =>
    rintro l' pre ⟨x, hx⟩ W ⟨⟨y0, y1⟩, hb⟩ hl
    have hmo : Tryd.prog.follows .mixedOrders = true := by kernel_rfl
    have HSN : Hid (sumF g (vals (pre ++ [(⟨x, hx⟩ : Mb s)])) = sumF g (vals pre) + g x) := by show _ = _; rw [vals_snoc, sumF_snoc]
    have hgx := HG.out x hx
    have hpl : (vals pre).length ≤ 8 := by have h1 := memB_len s; rw [vals_len]; omega
    have hbd := sumF_bd (g := g) (m := 1000000000) (vals pre) (fun k hk => by obtain ⟨z, _, rfl⟩ := List.mem_map.1 hk; exact HG.out _ z.2)
    have HCX := Lib.hid (HC.out x hx)
    have hcf := HCF.out
    generalize sumF g (vals pre) = sm at *
    generalize g x = tx at *
    dsimp only
    gi_wp2
    have hKO : KeepsOthers W W.drew := KeepsOthers.drew W
    have hmx := IntWalk.i64_in (sm + tx) (by omega)
    have kb : ∀ {X Y : World}, (KeepsOthers W X ∧ Below w.heap.size w X ∧ BlockIs X w.heap.size 113 #[.func (.func FN) #[] #[.pointer (some ⟨gb, 0, none⟩)]]) → Below X.heap.size X Y → (KeepsOthers W Y ∧ Below w.heap.size w Y ∧ BlockIs Y w.heap.size 113 #[.func (.func FN) #[] #[.pointer (some ⟨gb, 0, none⟩)]]) := fun h hb => ⟨h.1.trans (keepsO_belowS hb), h.2.1.trans (hb.mono h.2.1.size), h.2.2.below hb⟩
    have ob : ∀ {X Y : World}, (BlockIs X (w.heap.size + 1) 3 #[.int .i64 sm]) → Below X.heap.size X Y → (BlockIs Y (w.heap.size + 1) 3 #[.int .i64 sm]) := fun h hb => h.below hb
    have nb : ∀ {X Y : World}, (BlockIs X (w.heap.size + 1) 3 #[.int .i64 (sm + tx)]) → Below X.heap.size X Y → (BlockIs Y (w.heap.size + 1) 3 #[.int .i64 (sm + tx)]) := fun h hb => h.below hb
    refine wpIn_region_detZ (fun _ => trivial) rfl (fun _ _ _ _ h => (callsIn_wide.2 h).inRound l') (by kernel_rfl) hmo (fun L w' => (KeepsOthers W w' ∧ Below w.heap.size w w' ∧ BlockIs w' w.heap.size 113 #[.func (.func FN) #[] #[.pointer (some ⟨gb, 0, none⟩)]]) ∧ (L.getD 5 true = false → BlockIs w' (w.heap.size + 1) 3 #[.int .i64 sm]) ∧ (L.getD 5 true = true → BlockIs w' (w.heap.size + 1) 3 #[.int .i64 (sm + tx)])) (fun kk => (#[.int .i64 sm, .func (.func FN) #[] #[.pointer (some ⟨gb, 0, none⟩)], .int .i64 (x : Int), .int .i64 tx, .int .i64 (sm + tx), undef] : Array Value).getD kk undef) (by kernel_rfl) (by kernel_rfl) ⟨⟨hKO, hb.drew, y0⟩, fun _ => y1, fun h => by cases h⟩ ?_ ?_
    · intro L tm w' hall hS hsz hlow hval
      have ht : tm = #[.func (.func 139) #[] #[.pointer (some ⟨Bs, 0, none⟩)], .func (.func FN) #[] #[.pointer (some ⟨gb, 0, none⟩)], undef, .pointer (some ⟨w.heap.size, 0, none⟩), .int .i64 0, .pointer (some ⟨w.heap.size + 1, 0, none⟩), .int .i64 (x : Int), .func (.func 139) #[] #[.pointer (some ⟨Bs, 0, none⟩)], .int .i64 (x : Int), .int .i64 sm, .func (.func FN) #[] #[.pointer (some ⟨gb, 0, none⟩)], .int .i64 (x : Int), .int .i64 tx, .int .i64 (sm + tx), undef] := by
        refine arr_of _ _ hsz fun t ht => ?_
        have ht' : t < 15 := ht
        rcases (by omega : t = 0 ∨ t = 1 ∨ t = 2 ∨ t = 3 ∨ t = 4 ∨ t = 5 ∨ t = 6 ∨ t = 7 ∨ t = 8 ∨ t = 9 ∨ t = 10 ∨ t = 11 ∨ t = 12 ∨ t = 13 ∨ t = 14) with rfl | rfl | rfl | rfl | rfl | rfl | rfl | rfl | rfl | rfl | rfl | rfl | rfl | rfl | rfl
        · exact hlow 0 (by kernel_rfl)
        · exact hlow 1 (by kernel_rfl)
        · exact hlow 2 (by kernel_rfl)
        · exact hlow 3 (by kernel_rfl)
        · exact hlow 4 (by kernel_rfl)
        · exact hlow 5 (by kernel_rfl)
        · exact hlow 6 (by kernel_rfl)
        · exact hlow 7 (by kernel_rfl)
        · exact hlow 8 (by kernel_rfl)
        · exact hval 0 _ 9 rfl rfl
        · exact hval 1 _ 10 rfl rfl
        · exact hval 2 _ 11 rfl rfl
        · exact hval 3 _ 12 rfl rfl
        · exact hval 4 _ 13 rfl rfl
        · exact hlow 14 (by kernel_rfl)
      subst ht
      have HF := Lib.hid (And.intro hS.1 (hS.2.2 (hall 5 (by decide))))
      clear hlow hval hsz hall hS
      gi_wp2
      exact ⟨HF.out.1.1.from _, fun _ => HT.out.below HF.out.1.2.1, ⟨HF.out.1.2.2, by rw [HSN.out]; exact HF.out.2⟩, HF.out.1.2.1⟩
    · intro L ac w' q op hLs hop hLi hLd hLn ⟨hS0, hS1, hS2⟩ hlow hdep _
      have hq : q < 6 := (Array.getElem?_eq_some_iff.1 hop).1
      have K : ∀ {WK : World} {q : Nat}, q ≠ 5 → (KeepsOthers W WK ∧ Below w.heap.size w WK ∧ BlockIs WK w.heap.size 113 #[.func (.func FN) #[] #[.pointer (some ⟨gb, 0, none⟩)]]) → (L.getD 5 true = false → BlockIs WK (w.heap.size + 1) 3 #[.int .i64 sm]) → (L.getD 5 true = true → BlockIs WK (w.heap.size + 1) 3 #[.int .i64 (sm + tx)]) → (KeepsOthers W WK ∧ Below w.heap.size w WK ∧ BlockIs WK w.heap.size 113 #[.func (.func FN) #[] #[.pointer (some ⟨gb, 0, none⟩)]]) ∧ ((L.setIfInBounds q true).getD 5 true = false → BlockIs WK (w.heap.size + 1) 3 #[.int .i64 sm]) ∧ ((L.setIfInBounds q true).getD 5 true = true → BlockIs WK (w.heap.size + 1) 3 #[.int .i64 (sm + tx)]) := by
        intro WK q h9 ka kb2 kc
        rw [getD_set_true, if_neg (fun h => h9 h.1)]
        exact ⟨ka, kb2, kc⟩
      rcases (by omega : q = 0 ∨ q = 1 ∨ q = 2 ∨ q = 3 ∨ q = 4 ∨ q = 5) with rfl | rfl | rfl | rfl | rfl | rfl
      · obtain rfl := Option.some.inj hop
        have e5 : ac.tmps[5]?.getD undef = .pointer (some ⟨w.heap.size + 1, 0, none⟩) := (Array.getD_eq_getD_getElem? ..).symm.trans (hlow 5 (by kernel_rfl))
        have hc := (hS1 (hLn 5 (by kernel_rfl))).cell 0
        simp only [List.getElem?_toArray, List.getElem?_cons_zero] at hc
        exact ⟨wanted_free rfl, .inl (.inl ⟨w', by simp [execOp, Act.eval, e5, hc, go_sem], K (by decide) hS0 hS1 hS2⟩)⟩
      · obtain rfl := Option.some.inj hop
        have e3 : ac.tmps[3]?.getD undef = .pointer (some ⟨w.heap.size, 0, none⟩) := (Array.getD_eq_getD_getElem? ..).symm.trans (hlow 3 (by kernel_rfl))
        have hc := hS0.2.2.cell 0
        simp only [List.getElem?_toArray, List.getElem?_cons_zero] at hc
        exact ⟨wanted_free rfl, .inl (.inl ⟨w', by simp [execOp, Act.eval, e3, hc, go_sem], K (by decide) hS0 hS1 hS2⟩)⟩
      · obtain rfl := Option.some.inj hop
        have e6 : ac.tmps[6]?.getD undef = .int .i64 (x : Int) := (Array.getD_eq_getD_getElem? ..).symm.trans (hlow 6 (by kernel_rfl))
        exact ⟨wanted_free rfl, .inl (.inl ⟨w', by simp [execOp, Act.eval, e6, go_sem], K (by decide) hS0 hS1 hS2⟩)⟩
      · obtain rfl := Option.some.inj hop
        have e10 : ac.tmps[10]?.getD undef = .func (.func FN) #[] #[.pointer (some ⟨gb, 0, none⟩)] := (Array.getD_eq_getD_getElem? ..).symm.trans (hdep 1 _ 10 (by kernel_rfl) rfl rfl)
        have e11 : ac.tmps[11]?.getD undef = .int .i64 (x : Int) := (Array.getD_eq_getD_getElem? ..).symm.trans (hdep 2 _ 11 (by kernel_rfl) rfl rfl)
        refine ⟨wanted_free rfl, .inl (.inr ⟨FN, #[.int .i64 (x : Int), .pointer (some ⟨gb, 0, none⟩)], by simp [execOp, Act.eval, e10, e11, hcf, go_sem], (HCX.out w' hS0.2.1).mono ?_⟩)⟩
        rintro e w2 ⟨rfl, hb⟩
        exact ⟨rfl, K (by decide) (kb hS0 hb) (fun h => ob (hS1 h) hb) (fun h => nb (hS2 h) hb)⟩
      · obtain rfl := Option.some.inj hop
        have e9 : ac.tmps[9]?.getD undef = .int .i64 sm := (Array.getD_eq_getD_getElem? ..).symm.trans (hdep 0 _ 9 (by kernel_rfl) rfl rfl)
        have e12 : ac.tmps[12]?.getD undef = .int .i64 tx := (Array.getD_eq_getD_getElem? ..).symm.trans (hdep 3 _ 12 (by kernel_rfl) rfl rfl)
        exact ⟨wanted_free rfl, .inl (.inl ⟨w', by simp [execOp, Act.eval, e9, e12, hmx, go_sem], K (by decide) hS0 hS1 hS2⟩)⟩
      · obtain rfl := Option.some.inj hop
        have e5 : ac.tmps[5]?.getD undef = .pointer (some ⟨w.heap.size + 1, 0, none⟩) := (Array.getD_eq_getD_getElem? ..).symm.trans (hlow 5 (by kernel_rfl))
        have e13 : ac.tmps[13]?.getD undef = .int .i64 (sm + tx) := (Array.getD_eq_getD_getElem? ..).symm.trans (hdep 4 _ 13 (by kernel_rfl) rfl rfl)
        have hO := hS1 hLi
        have hc := hO.cell 0
        simp only [List.getElem?_toArray, List.getElem?_cons_zero] at hc
        have fz := hO.frozen 0
        refine ⟨wanted_free rfl, .inr ⟨w'.setCell ⟨w.heap.size + 1, 0, none⟩ (.int .i64 (sm + tx)), rfl, by simp [execOp, Act.eval, e5, e13, hc, fz, go_sem], ?_⟩⟩
        refine ⟨⟨hS0.1.trans (KeepsOthers.setCell _ _ _), hS0.2.1.setCell (p := ⟨w.heap.size + 1, 0, none⟩) (by show _ ≤ w.heap.size + 1; omega) _, hS0.2.2.away (g' := w.heap.size + 1) (by omega) _ _⟩, fun h => ?_, fun _ => hO.set 0 _⟩
        rw [getD_set_true, if_pos ⟨rfl, by rw [hLs]; decide⟩] at h
        cases h
  case done =>
    rintro D ys W hD hys ⟨⟨y0, y1⟩, hb⟩ hK
    have hc := y1.cell
    rw [hys] at hc
    gi_wp2
    refine ⟨by simp, .inl ⟨_, _, rfl, run_takeDeferred hK, ?_⟩⟩
    exact ⟨_, results_tmp rfl _ _ _, rfl, hb.trans (belowK_b (w := w3) (by omega) W D _ _ (by omega) hK rfl rfl)⟩
  case stop =>
    rintro D cd pre W _ _ h _
    exact h.elim
end
end Go.Proofs.YtpoibjmkbljblaaDoor
