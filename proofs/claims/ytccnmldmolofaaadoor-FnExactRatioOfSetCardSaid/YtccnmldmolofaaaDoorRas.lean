/- The sums of the weights and of the times of a set: the model's. -/
import Derived.Test.YtccnmldmolofaaaDoorRat
import Derived.Test.YtccnmldmolofaaaDoorRsi
import Derived.Test.YtccnmldmolofaaaDoorRegY
namespace Go.Proofs.YtccnmldmolofaaaDoor
set_option linter.unusedSimpArgs false
open Go.RowKit
set_option maxRecDepth 100000 in
set_option maxHeartbeats 4000000 in
theorem l4Sums_any (A D : Option Addr) (c d : Nat) (js : List J) (l : List Nat) (w : World) (hr : Row w A (jc js)) (hq : Row w D (ic (natI l))) (hok : ∀ j ∈ js, okJ j = true) (hlt : ∀ x ∈ l, x < js.length) (h8 : l.length ≤ 8) :
    Calls Tryd.prog 48 #[.slice A js.length c, .slice D l.length d] w fun e w' => e = .returned (.agg #[.int .i64 (sumW js l), .int .i64 (sumT js l)]) ∧ Below w.heap.size w w' := by
  have HR := Lib.hid hr
  have HQ := Lib.hid hq
  have HOK := Lib.hid hok
  have HLT := Lib.hid hlt
  have HBT : Hid (∀ k, k ≤ l.length → (0 ≤ sumT js (l.take k) ∧ sumT js (l.take k) ≤ 400) ∧ 0 ≤ sumW js (l.take k) ∧ sumW js (l.take k) ≤ 400) := fun k hk => by
    have hm : ∀ x ∈ l.take k, x < js.length := fun x hx => hlt x (List.mem_of_mem_take hx)
    have a := sumT_bd hok (l.take k) hm
    have b := sumW_bd hok (l.take k) hm
    rw [List.length_take] at a b
    omega
  have HST : Hid (∀ k (h : k < l.length), sumT js (l.take (k + 1)) = sumT js (l.take k) + (js.getD l[k] j0).t ∧ sumW js (l.take (k + 1)) = sumW js (l.take k) + (js.getD l[k] j0).w) := fun k h => by
    rw [List.take_succ_eq_append_getElem h, sumT_snoc, sumW_snoc]; exact ⟨rfl, rfl⟩
  clear hr hq hok hlt
  have s1 : (w.alloc (.cells #[.int .i64 0, .int .i64 0] 38)).heap.size = w.heap.size + 1 := by simp
  have b0 := BlockIs.new w 38 #[.int .i64 0, .int .i64 0]
  have b1 := BlockIs.new (w.alloc (.cells #[.int .i64 0, .int .i64 0] 38)) 38 #[.int .i64 0, .int .i64 0]
  have g1 := (Below.refl _ _).alloc (Nat.le_refl _) (w := w.alloc (.cells #[.int .i64 0, .int .i64 0] 38)) (.cells #[.int .i64 0, .int .i64 0] 38)
  have g0 := (Below.refl w.heap.size w).alloc (Nat.le_refl _) (.cells #[.int .i64 0, .int .i64 0] 38)
  have H0 := Lib.hid (And.intro (b0.below g1) (And.intro b1 (g0.trans (g1.mono g0.size))))
  rw [s1] at H0
  obtain ⟨W0, hW0⟩ : ∃ W0, W0 = (w.alloc (.cells #[.int .i64 0, .int .i64 0] 38)).alloc (.cells #[.int .i64 0, .int .i64 0] 38) := ⟨_, rfl⟩
  rw [← hW0] at H0
  clear s1 b0 b1 g1 g0
  have hmo : Tryd.prog.follows .mixedOrders = true := by kernel_rfl
  go_enter Tryd.func48, Tryd.ntmps48
  go_wp2
  rw [← hW0]
  clear hW0
  go_loopw [6] (fun iv wr => ∃ k : Nat, k ≤ l.length ∧ iv = .int .i64 (k : Int) ∧ BlockIs wr w.heap.size 38 #[.int .i64 0, .int .i64 0] ∧ BlockIs wr (w.heap.size + 1) 38 #[.int .i64 (sumW js (l.take k)), .int .i64 (sumT js (l.take k))] ∧ Below w.heap.size w wr) (fun iv _ => l.length - (intOf iv).toNat)
  case atStart => exact ⟨0, Nat.zero_le _, rfl, H0.out.1, H0.out.2.1, H0.out.2.2⟩
  case round =>
    obtain ⟨k, hk, rfl, hZ, hO, hb⟩ := hrel
    by_cases hkl : k < l.length
    · have hxl := HLT.out l[k] (List.getElem_mem hkl)
      obtain ⟨ad, rfl, hadb, cj0, cj1, _, _⟩ := HR.out.job hxl
      obtain ⟨a2, rfl, ha2, hc2⟩ := HQ.out (by simp [ic, natI]; omega)
      have ck : w.cell? (a2.add k) = some (.int .i64 (l[k] : Int)) := hc2 k _ (by simp [ic, natI, hkl])
      have hbt := HBT.out k hk
      have hst := HST.out k hkl
      have hjt := okJ_out (HOK.out _ (List.getElem_mem hxl))
      rw [getD_at js j0 hxl] at hst
      have HS1 := Lib.hid hst
      have hx0 : (0 : Int) ≤ l[k] := by omega
      have hx1 : (l[k] : Int) < js.length := by omega
      have hk0 : (0 : Int) ≤ k := by omega
      have hk1 : (k : Int) < l.length := by omega
      have hbk : (a2.add k).block < w.heap.size := by rw [add_block]; exact ha2
      have hbj : (ad.add (l[k] * 4)).block < w.heap.size := by rw [add_block]; exact hadb
      clear hst hc2 HQ HR HLT
      generalize sumT js (l.take k) = st at *
      generalize sumW js (l.take k) = sw at *
      generalize js[l[k]] = j at *
      generalize l[k] = x at *
      have hww : IntKind.i64.wrap (sw + j.w) = sw + j.w := IntWalk.i64_in _ (by omega)
      have hwt : IntKind.i64.wrap (st + j.t) = st + j.t := IntWalk.i64_in _ (by omega)
      have kb : ∀ {X Y : World}, (BlockIs X w.heap.size 38 #[.int .i64 0, .int .i64 0] ∧ Below w.heap.size w X) → Below X.heap.size X Y → (BlockIs Y w.heap.size 38 #[.int .i64 0, .int .i64 0] ∧ Below w.heap.size w Y) := fun h hb => ⟨h.1.below hb, h.2.trans (hb.mono h.2.size)⟩
      go_wp2
      refine wp_region_detY (by kernel_rfl) (fun L w' => (BlockIs w' w.heap.size 38 #[.int .i64 0, .int .i64 0] ∧ Below w.heap.size w w') ∧ (L.getD 23 true = false → BlockIs w' (w.heap.size + 1) 38 #[.int .i64 sw, .int .i64 st]) ∧ (L.getD 23 true = true → BlockIs w' (w.heap.size + 1) 38 #[.int .i64 (sw + j.w), .int .i64 (st + j.t)])) (fun kk => (#[.pointer (some ⟨w.heap.size + 1, 0, none⟩), .int .i64 sw, .slice (some ad) js.length c, .slice (some a2) l.length d, .int .i64 (k : Int), .pointer (some (a2.add k)), .int .i64 (x : Int), .pointer (some (ad.add (x * 4))), .pointer (some ⟨(ad.add (x * 4)).block, (ad.add (x * 4)).off + 1, none⟩), .int .i64 j.w, .int .i64 (sw + j.w), .pointer (some ⟨w.heap.size + 1, 1, none⟩), .int .i64 st, .slice (some ad) js.length c, .slice (some a2) l.length d, .int .i64 (k : Int), .pointer (some (a2.add k)), .int .i64 (x : Int), .pointer (some (ad.add (x * 4))), .pointer (some (ad.add (x * 4))), .int .i64 j.t, .int .i64 (st + j.t), .agg #[.int .i64 (sw + j.w), .int .i64 (st + j.t)], undef] : Array Value).getD kk undef) (by kernel_rfl) (by kernel_rfl) ⟨⟨hZ.drew, hb.drew⟩, fun _ => hO.drew, fun h => by cases h⟩ ?_ ?_
      · intro L tm w' hall hS hsz hlow hval
        have ht : tm = #[.slice (some ad) js.length c, .slice (some a2) l.length d, undef, undef, .pointer (some ⟨w.heap.size, 0, none⟩), .pointer (some ⟨w.heap.size + 1, 0, none⟩), .int .i64 (k : Int), .agg #[.int .i64 0, .int .i64 0], .int .i64 (k : Int), .slice (some a2) l.length d, .int .i64 (l.length : Int), .bool true, u12, u13, .pointer (some ⟨w.heap.size + 1, 0, none⟩), .int .i64 sw, .slice (some ad) js.length c, .slice (some a2) l.length d, .int .i64 (k : Int), .pointer (some (a2.add k)), .int .i64 (x : Int), .pointer (some (ad.add (x * 4))), .pointer (some ⟨(ad.add (x * 4)).block, (ad.add (x * 4)).off + 1, none⟩), .int .i64 j.w, .int .i64 (sw + j.w), .pointer (some ⟨w.heap.size + 1, 1, none⟩), .int .i64 st, .slice (some ad) js.length c, .slice (some a2) l.length d, .int .i64 (k : Int), .pointer (some (a2.add k)), .int .i64 (x : Int), .pointer (some (ad.add (x * 4))), .pointer (some (ad.add (x * 4))), .int .i64 j.t, .int .i64 (st + j.t), .agg #[.int .i64 (sw + j.w), .int .i64 (st + j.t)], undef] := by
          refine arr_of _ _ hsz fun t ht => ?_
          have ht' : t < 38 := ht
          rcases (by omega : t = 0 ∨ t = 1 ∨ t = 2 ∨ t = 3 ∨ t = 4 ∨ t = 5 ∨ t = 6 ∨ t = 7 ∨ t = 8 ∨ t = 9 ∨ t = 10 ∨ t = 11 ∨ t = 12 ∨ t = 13 ∨ t = 14 ∨ t = 15 ∨ t = 16 ∨ t = 17 ∨ t = 18 ∨ t = 19 ∨ t = 20 ∨ t = 21 ∨ t = 22 ∨ t = 23 ∨ t = 24 ∨ t = 25 ∨ t = 26 ∨ t = 27 ∨ t = 28 ∨ t = 29 ∨ t = 30 ∨ t = 31 ∨ t = 32 ∨ t = 33 ∨ t = 34 ∨ t = 35 ∨ t = 36 ∨ t = 37) with rfl | rfl | rfl | rfl | rfl | rfl | rfl | rfl | rfl | rfl | rfl | rfl | rfl | rfl | rfl | rfl | rfl | rfl | rfl | rfl | rfl | rfl | rfl | rfl | rfl | rfl | rfl | rfl | rfl | rfl | rfl | rfl | rfl | rfl | rfl | rfl | rfl | rfl
          · exact hlow 0 (by kernel_rfl)
          · exact hlow 1 (by kernel_rfl)
          · exact hlow 2 (by kernel_rfl)
          · exact hlow 3 (by kernel_rfl)
          · exact hlow 4 (by kernel_rfl)
          · exact hlow 5 (by kernel_rfl)
          · exact hlow 6 (by kernel_rfl)
          · exact hlow 7 (by kernel_rfl)
          · exact hlow 8 (by kernel_rfl)
          · exact hlow 9 (by kernel_rfl)
          · exact hlow 10 (by kernel_rfl)
          · exact hlow 11 (by kernel_rfl)
          · exact hlow 12 (by kernel_rfl)
          · exact hlow 13 (by kernel_rfl)
          · exact hval 0 _ 14 rfl rfl
          · exact hval 1 _ 15 rfl rfl
          · exact hval 2 _ 16 rfl rfl
          · exact hval 3 _ 17 rfl rfl
          · exact hval 4 _ 18 rfl rfl
          · exact hval 5 _ 19 rfl rfl
          · exact hval 6 _ 20 rfl rfl
          · exact hval 7 _ 21 rfl rfl
          · exact hval 8 _ 22 rfl rfl
          · exact hval 9 _ 23 rfl rfl
          · exact hval 10 _ 24 rfl rfl
          · exact hval 11 _ 25 rfl rfl
          · exact hval 12 _ 26 rfl rfl
          · exact hval 13 _ 27 rfl rfl
          · exact hval 14 _ 28 rfl rfl
          · exact hval 15 _ 29 rfl rfl
          · exact hval 16 _ 30 rfl rfl
          · exact hval 17 _ 31 rfl rfl
          · exact hval 18 _ 32 rfl rfl
          · exact hval 19 _ 33 rfl rfl
          · exact hval 20 _ 34 rfl rfl
          · exact hval 21 _ 35 rfl rfl
          · exact hval 22 _ 36 rfl rfl
          · exact hlow 37 (by kernel_rfl)
        subst ht
        have HF := Lib.hid (And.intro hS.1 (hS.2.2 (hall 23 (by decide))))
        clear hlow hval hsz hall hS
        go_wp2
        go_roundw
        case rel => exact ⟨k + 1, by omega, by go_num, HF.out.1.1, by rw [HS1.out.1, HS1.out.2]; exact HF.out.2, HF.out.1.2⟩
        case measure => simp [intOf]; omega
      · intro L ac w' q op hLs hop hLi hLd hLn ⟨hS0, hS1, hS2⟩ hlow hdep _
        have hq : q < 24 := (Array.getElem?_eq_some_iff.1 hop).1
        have K : ∀ {WK : World} {q : Nat}, q ≠ 23 → (BlockIs WK w.heap.size 38 #[.int .i64 0, .int .i64 0] ∧ Below w.heap.size w WK) → (L.getD 23 true = false → BlockIs WK (w.heap.size + 1) 38 #[.int .i64 sw, .int .i64 st]) → (L.getD 23 true = true → BlockIs WK (w.heap.size + 1) 38 #[.int .i64 (sw + j.w), .int .i64 (st + j.t)]) → (BlockIs WK w.heap.size 38 #[.int .i64 0, .int .i64 0] ∧ Below w.heap.size w WK) ∧ ((L.setIfInBounds q true).getD 23 true = false → BlockIs WK (w.heap.size + 1) 38 #[.int .i64 sw, .int .i64 st]) ∧ ((L.setIfInBounds q true).getD 23 true = true → BlockIs WK (w.heap.size + 1) 38 #[.int .i64 (sw + j.w), .int .i64 (st + j.t)]) := by
          intro WK q h9 ka kb2 kc
          rw [getD_set_true, if_neg (fun h => h9 h.1)]
          exact ⟨ka, kb2, kc⟩
        rcases (by omega : q = 0 ∨ q = 1 ∨ q = 2 ∨ q = 3 ∨ q = 4 ∨ q = 5 ∨ q = 6 ∨ q = 7 ∨ q = 8 ∨ q = 9 ∨ q = 10 ∨ q = 11 ∨ q = 12 ∨ q = 13 ∨ q = 14 ∨ q = 15 ∨ q = 16 ∨ q = 17 ∨ q = 18 ∨ q = 19 ∨ q = 20 ∨ q = 21 ∨ q = 22 ∨ q = 23) with rfl | rfl | rfl | rfl | rfl | rfl | rfl | rfl | rfl | rfl | rfl | rfl | rfl | rfl | rfl | rfl | rfl | rfl | rfl | rfl | rfl | rfl | rfl | rfl
        · obtain rfl := Option.some.inj hop
          have e5 : ac.tmps[5]?.getD undef = .pointer (some ⟨w.heap.size + 1, 0, none⟩) := (Array.getD_eq_getD_getElem? ..).symm.trans (hlow 5 (by kernel_rfl))
          exact ⟨wanted_free rfl, .inl (.inl ⟨w', by simp [execOp, Act.eval, e5, go_sem], K (by decide) hS0 hS1 hS2⟩)⟩
        · obtain rfl := Option.some.inj hop
          have e14 : ac.tmps[14]?.getD undef = .pointer (some ⟨w.heap.size + 1, 0, none⟩) := (Array.getD_eq_getD_getElem? ..).symm.trans (hdep 0 _ 14 (by kernel_rfl) rfl rfl)
          have hO := (hS1 (hLn 23 (by kernel_rfl)))
          have o0 := hO.cell 0
          have o1 := hO.cell 1
          simp only [List.getElem?_toArray, List.getElem?_cons_zero, List.getElem?_cons_succ] at o0 o1
          exact ⟨wanted_free rfl, .inl (.inl ⟨w', by simp [execOp, Act.eval, e14, o0, go_sem], K (by decide) hS0 hS1 hS2⟩)⟩
        · obtain rfl := Option.some.inj hop
          have e0 : ac.tmps[0]?.getD undef = .slice (some ad) js.length c := (Array.getD_eq_getD_getElem? ..).symm.trans (hlow 0 (by kernel_rfl))
          exact ⟨wanted_free rfl, .inl (.inl ⟨w', by simp [execOp, Act.eval, e0, go_sem], K (by decide) hS0 hS1 hS2⟩)⟩
        · obtain rfl := Option.some.inj hop
          have e1 : ac.tmps[1]?.getD undef = .slice (some a2) l.length d := (Array.getD_eq_getD_getElem? ..).symm.trans (hlow 1 (by kernel_rfl))
          exact ⟨wanted_free rfl, .inl (.inl ⟨w', by simp [execOp, Act.eval, e1, go_sem], K (by decide) hS0 hS1 hS2⟩)⟩
        · obtain rfl := Option.some.inj hop
          have e6 : ac.tmps[6]?.getD undef = .int .i64 (k : Int) := (Array.getD_eq_getD_getElem? ..).symm.trans (hlow 6 (by kernel_rfl))
          exact ⟨wanted_free rfl, .inl (.inl ⟨w', by simp [execOp, Act.eval, e6, go_sem], K (by decide) hS0 hS1 hS2⟩)⟩
        · obtain rfl := Option.some.inj hop
          have e17 : ac.tmps[17]?.getD undef = .slice (some a2) l.length d := (Array.getD_eq_getD_getElem? ..).symm.trans (hdep 3 _ 17 (by kernel_rfl) rfl rfl)
          have e18 : ac.tmps[18]?.getD undef = .int .i64 (k : Int) := (Array.getD_eq_getD_getElem? ..).symm.trans (hdep 4 _ 18 (by kernel_rfl) rfl rfl)
          exact ⟨wanted_free rfl, .inl (.inl ⟨w', by simp [execOp, Act.eval, e17, e18, hk0, hk1, go_sem], K (by decide) hS0 hS1 hS2⟩)⟩
        · obtain rfl := Option.some.inj hop
          have e19 : ac.tmps[19]?.getD undef = .pointer (some (a2.add k)) := (Array.getD_eq_getD_getElem? ..).symm.trans (hdep 5 _ 19 (by kernel_rfl) rfl rfl)
          have qk := (hS0.2.cell hbk).trans ck
          exact ⟨wanted_free rfl, .inl (.inl ⟨w', by simp [execOp, Act.eval, e19, qk, go_sem], K (by decide) hS0 hS1 hS2⟩)⟩
        · obtain rfl := Option.some.inj hop
          have e16 : ac.tmps[16]?.getD undef = .slice (some ad) js.length c := (Array.getD_eq_getD_getElem? ..).symm.trans (hdep 2 _ 16 (by kernel_rfl) rfl rfl)
          have e20 : ac.tmps[20]?.getD undef = .int .i64 (x : Int) := (Array.getD_eq_getD_getElem? ..).symm.trans (hdep 6 _ 20 (by kernel_rfl) rfl rfl)
          exact ⟨wanted_free rfl, .inl (.inl ⟨w', by simp [execOp, Act.eval, e16, e20, hx0, hx1, go_sem], K (by decide) hS0 hS1 hS2⟩)⟩
        · obtain rfl := Option.some.inj hop
          have e21 : ac.tmps[21]?.getD undef = .pointer (some (ad.add (x * 4))) := (Array.getD_eq_getD_getElem? ..).symm.trans (hdep 7 _ 21 (by kernel_rfl) rfl rfl)
          exact ⟨wanted_free rfl, .inl (.inl ⟨w', by simp [execOp, Act.eval, e21, go_sem], K (by decide) hS0 hS1 hS2⟩)⟩
        · obtain rfl := Option.some.inj hop
          have e22 : ac.tmps[22]?.getD undef = .pointer (some ⟨(ad.add (x * 4)).block, (ad.add (x * 4)).off + 1, none⟩) := (Array.getD_eq_getD_getElem? ..).symm.trans (hdep 8 _ 22 (by kernel_rfl) rfl rfl)
          have qj := (hS0.2.cell (p := ⟨(ad.add (x * 4)).block, (ad.add (x * 4)).off + 1, none⟩) (by show (ad.add (x * 4)).block < _; exact hbj)).trans cj1
          exact ⟨wanted_free rfl, .inl (.inl ⟨w', by simp [execOp, Act.eval, e22, qj, go_sem], K (by decide) hS0 hS1 hS2⟩)⟩
        · obtain rfl := Option.some.inj hop
          have e15 : ac.tmps[15]?.getD undef = .int .i64 sw := (Array.getD_eq_getD_getElem? ..).symm.trans (hdep 1 _ 15 (by kernel_rfl) rfl rfl)
          have e23 : ac.tmps[23]?.getD undef = .int .i64 j.w := (Array.getD_eq_getD_getElem? ..).symm.trans (hdep 9 _ 23 (by kernel_rfl) rfl rfl)
          exact ⟨wanted_free rfl, .inl (.inl ⟨w', by simp [execOp, Act.eval, e15, e23, hww, go_sem], K (by decide) hS0 hS1 hS2⟩)⟩
        · obtain rfl := Option.some.inj hop
          have e5 : ac.tmps[5]?.getD undef = .pointer (some ⟨w.heap.size + 1, 0, none⟩) := (Array.getD_eq_getD_getElem? ..).symm.trans (hlow 5 (by kernel_rfl))
          exact ⟨wanted_free rfl, .inl (.inl ⟨w', by simp [execOp, Act.eval, e5, go_sem], K (by decide) hS0 hS1 hS2⟩)⟩
        · obtain rfl := Option.some.inj hop
          have e25 : ac.tmps[25]?.getD undef = .pointer (some ⟨w.heap.size + 1, 1, none⟩) := (Array.getD_eq_getD_getElem? ..).symm.trans (hdep 11 _ 25 (by kernel_rfl) rfl rfl)
          have hO := (hS1 (hLn 23 (by kernel_rfl)))
          have o0 := hO.cell 0
          have o1 := hO.cell 1
          simp only [List.getElem?_toArray, List.getElem?_cons_zero, List.getElem?_cons_succ] at o0 o1
          exact ⟨wanted_free rfl, .inl (.inl ⟨w', by simp [execOp, Act.eval, e25, o1, go_sem], K (by decide) hS0 hS1 hS2⟩)⟩
        · obtain rfl := Option.some.inj hop
          have e0 : ac.tmps[0]?.getD undef = .slice (some ad) js.length c := (Array.getD_eq_getD_getElem? ..).symm.trans (hlow 0 (by kernel_rfl))
          exact ⟨wanted_free rfl, .inl (.inl ⟨w', by simp [execOp, Act.eval, e0, go_sem], K (by decide) hS0 hS1 hS2⟩)⟩
        · obtain rfl := Option.some.inj hop
          have e1 : ac.tmps[1]?.getD undef = .slice (some a2) l.length d := (Array.getD_eq_getD_getElem? ..).symm.trans (hlow 1 (by kernel_rfl))
          exact ⟨wanted_free rfl, .inl (.inl ⟨w', by simp [execOp, Act.eval, e1, go_sem], K (by decide) hS0 hS1 hS2⟩)⟩
        · obtain rfl := Option.some.inj hop
          have e6 : ac.tmps[6]?.getD undef = .int .i64 (k : Int) := (Array.getD_eq_getD_getElem? ..).symm.trans (hlow 6 (by kernel_rfl))
          exact ⟨wanted_free rfl, .inl (.inl ⟨w', by simp [execOp, Act.eval, e6, go_sem], K (by decide) hS0 hS1 hS2⟩)⟩
        · obtain rfl := Option.some.inj hop
          have e28 : ac.tmps[28]?.getD undef = .slice (some a2) l.length d := (Array.getD_eq_getD_getElem? ..).symm.trans (hdep 14 _ 28 (by kernel_rfl) rfl rfl)
          have e29 : ac.tmps[29]?.getD undef = .int .i64 (k : Int) := (Array.getD_eq_getD_getElem? ..).symm.trans (hdep 15 _ 29 (by kernel_rfl) rfl rfl)
          exact ⟨wanted_free rfl, .inl (.inl ⟨w', by simp [execOp, Act.eval, e28, e29, hk0, hk1, go_sem], K (by decide) hS0 hS1 hS2⟩)⟩
        · obtain rfl := Option.some.inj hop
          have e30 : ac.tmps[30]?.getD undef = .pointer (some (a2.add k)) := (Array.getD_eq_getD_getElem? ..).symm.trans (hdep 16 _ 30 (by kernel_rfl) rfl rfl)
          have qk := (hS0.2.cell hbk).trans ck
          exact ⟨wanted_free rfl, .inl (.inl ⟨w', by simp [execOp, Act.eval, e30, qk, go_sem], K (by decide) hS0 hS1 hS2⟩)⟩
        · obtain rfl := Option.some.inj hop
          have e27 : ac.tmps[27]?.getD undef = .slice (some ad) js.length c := (Array.getD_eq_getD_getElem? ..).symm.trans (hdep 13 _ 27 (by kernel_rfl) rfl rfl)
          have e31 : ac.tmps[31]?.getD undef = .int .i64 (x : Int) := (Array.getD_eq_getD_getElem? ..).symm.trans (hdep 17 _ 31 (by kernel_rfl) rfl rfl)
          exact ⟨wanted_free rfl, .inl (.inl ⟨w', by simp [execOp, Act.eval, e27, e31, hx0, hx1, go_sem], K (by decide) hS0 hS1 hS2⟩)⟩
        · obtain rfl := Option.some.inj hop
          have e32 : ac.tmps[32]?.getD undef = .pointer (some (ad.add (x * 4))) := (Array.getD_eq_getD_getElem? ..).symm.trans (hdep 18 _ 32 (by kernel_rfl) rfl rfl)
          exact ⟨wanted_free rfl, .inl (.inl ⟨w', by simp [execOp, Act.eval, e32, go_sem], K (by decide) hS0 hS1 hS2⟩)⟩
        · obtain rfl := Option.some.inj hop
          have e33 : ac.tmps[33]?.getD undef = .pointer (some (ad.add (x * 4))) := (Array.getD_eq_getD_getElem? ..).symm.trans (hdep 19 _ 33 (by kernel_rfl) rfl rfl)
          have qj := (hS0.2.cell (p := (ad.add (x * 4))) (by show (ad.add (x * 4)).block < _; exact hbj)).trans cj0
          exact ⟨wanted_free rfl, .inl (.inl ⟨w', by simp [execOp, Act.eval, e33, qj, go_sem], K (by decide) hS0 hS1 hS2⟩)⟩
        · obtain rfl := Option.some.inj hop
          have e26 : ac.tmps[26]?.getD undef = .int .i64 st := (Array.getD_eq_getD_getElem? ..).symm.trans (hdep 12 _ 26 (by kernel_rfl) rfl rfl)
          have e34 : ac.tmps[34]?.getD undef = .int .i64 j.t := (Array.getD_eq_getD_getElem? ..).symm.trans (hdep 20 _ 34 (by kernel_rfl) rfl rfl)
          exact ⟨wanted_free rfl, .inl (.inl ⟨w', by simp [execOp, Act.eval, e26, e34, hwt, go_sem], K (by decide) hS0 hS1 hS2⟩)⟩
        · obtain rfl := Option.some.inj hop
          have e24 : ac.tmps[24]?.getD undef = .int .i64 (sw + j.w) := (Array.getD_eq_getD_getElem? ..).symm.trans (hdep 10 _ 24 (by kernel_rfl) rfl rfl)
          have e35 : ac.tmps[35]?.getD undef = .int .i64 (st + j.t) := (Array.getD_eq_getD_getElem? ..).symm.trans (hdep 21 _ 35 (by kernel_rfl) rfl rfl)
          exact ⟨wanted_free rfl, .inl (.inl ⟨w', by simp [execOp, Act.eval, e24, e35, go_sem], K (by decide) hS0 hS1 hS2⟩)⟩
        · obtain rfl := Option.some.inj hop
          have e5 : ac.tmps[5]?.getD undef = .pointer (some ⟨w.heap.size + 1, 0, none⟩) := (Array.getD_eq_getD_getElem? ..).symm.trans (hlow 5 (by kernel_rfl))
          have e36 : ac.tmps[36]?.getD undef = .agg #[.int .i64 (sw + j.w), .int .i64 (st + j.t)] := (Array.getD_eq_getD_getElem? ..).symm.trans (hdep 22 _ 36 (by kernel_rfl) rfl rfl)
          have hO := hS1 hLi
          have o0 := hO.cell 0
          have o1 := hO.cell 1
          simp only [List.getElem?_toArray, List.getElem?_cons_zero, List.getElem?_cons_succ] at o0 o1
          have f0 := hO.frozen 0
          have f1 := hO.frozen 1
          refine ⟨wanted_free rfl, .inr ⟨((w'.setCell ⟨w.heap.size + 1, 0, none⟩ (.int .i64 (sw + j.w))).setCell ⟨w.heap.size + 1, 1, none⟩ (.int .i64 (st + j.t))), rfl, by simp [execOp, Act.eval, e5, e36, o0, o1, f0, f1, go_sem], ?_⟩⟩
          refine ⟨⟨(hS0.1.away (by omega) _ _).away (by omega) _ _, (hS0.2.setCell (p := ⟨w.heap.size + 1, 0, none⟩) (by show w.heap.size ≤ w.heap.size + 1; omega) _).setCell (p := ⟨w.heap.size + 1, 1, none⟩) (by show w.heap.size ≤ w.heap.size + 1; omega) _⟩, fun h => ?_, fun _ => (hO.set 0 _).set 1 _⟩
          rw [getD_set_true, if_pos ⟨rfl, by rw [hLs]; decide⟩] at h
          cases h
    · obtain rfl : k = l.length := by omega
      rw [List.take_length] at hO
      have q1 : wr.cell? ⟨w.heap.size + 1, 0, none⟩ = some (.int .i64 (sumW js l)) := (hO.cell 0).trans rfl
      have q2 : wr.cell? ⟨w.heap.size + 1, 1, none⟩ = some (.int .i64 (sumT js l)) := (hO.cell 1).trans rfl
      have r1 : wr.cell? ⟨w.heap.size, 0, none⟩ = some (.int .i64 0) := (hZ.cell 0).trans rfl
      have r2 : wr.cell? ⟨w.heap.size, 1, none⟩ = some (.int .i64 0) := (hZ.cell 1).trans rfl
      have f1 := hZ.frozen 0
      have f2 := hZ.frozen 1
      have hbe : Below w.heap.size w ((wr.setCell ⟨w.heap.size, 0, none⟩ (.int .i64 (sumW js l))).setCell ⟨w.heap.size, 1, none⟩ (.int .i64 (sumT js l))) := (hb.setCell (p := ⟨w.heap.size, 0, none⟩) (Nat.le_refl _) _).setCell (p := ⟨w.heap.size, 1, none⟩) (Nat.le_refl _) _
      have z := (hZ.set 0 (.int .i64 (sumW js l))).set 1 (.int .i64 (sumT js l))
      clear hO hZ hb
      go_wp2
      generalize ((wr.setCell ⟨w.heap.size, 0, none⟩ (.int .i64 (sumW js l))).setCell ⟨w.heap.size, 1, none⟩ (.int .i64 (sumT js l))) = V at *
      have e1 : V.cell? ⟨w.heap.size, 0, none⟩ = some (.int .i64 (sumW js l)) := (z.cell 0).trans rfl
      have e2 : V.cell? ⟨w.heap.size, 1, none⟩ = some (.int .i64 (sumT js l)) := (z.cell 1).trans rfl
      refine bodyPost_ret (v := .agg #[.int .i64 (sumW js l), .int .i64 (sumT js l)]) (by simp [results, Tryd.f48, e1, e2, go_sem]) rfl ⟨rfl, hbe⟩
end Go.Proofs.YtccnmldmolofaaaDoor
