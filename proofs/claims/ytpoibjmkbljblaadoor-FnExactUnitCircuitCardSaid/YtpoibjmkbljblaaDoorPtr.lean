/- A number put to a list that lacks it: the model's l1Put at any memory. -/
import Derived.Test.YtpoibjmkbljblaaDoorKb4
namespace Go.Proofs.YtpoibjmkbljblaaDoor
set_option linter.unusedSimpArgs false
set_option linter.unusedVariables false
set_option linter.unusedSectionVars false
open Go.RowKit
section
variable (ad : Addr) (cc : Nat) (l : List Nat) (n : Nat) (w : World) (hr0 : Row w (some ad) (ic (natI l))) (hcc : l.length ≤ cc) (hnm : n ∉ l) (hs : StrictN l) (hn : l.length ≤ 1000)
include hr0 hcc hnm hs hn
set_option maxRecDepth 100000 in
set_option maxHeartbeats 4000000 in
theorem l1Put_row : Calls Tryd.prog 72 #[.slice (some ad) l.length cc, .int .i64 (n : Int)] w fun e w' => ∃ ad' c', e = .returned (.slice (some ad') (putN n l).length c') ∧ w'.ownsRow w.heap.size 3 1 (.slice (some ad') (putN n l).length c') (putN n l).length (ic (natI (putN n l))) ∧ Below w.heap.size w w' := by
  obtain ⟨i0, hi, hz0, hz1, hz2⟩ := info_parts infoI
  have hB : w.heap.size ≤ w.heap.size := Nat.le_refl _
  have HSAME : Hid (putN n l = l → ∀ w', Below w.heap.size w w' → ∃ ad' c', (Ending.returned (.slice (some ad) l.length cc)) = .returned (.slice (some ad') (putN n l).length c') ∧ w'.ownsRow w.heap.size 3 1 (.slice (some ad') (putN n l).length c') (putN n l).length (ic (natI (putN n l))) ∧ Below w.heap.size w w') := fun e => absurd (by have h := (putN_mem (x := n) (y := n) (l := l)).2 (.inl rfl); rw [e] at h; exact h) hnm
  have HRO := Lib.hid hr0
  have HST := Lib.hid hs
  have hle := lessTo_le n l
  clear hr0 hs hnm
  go_enter Tryd.func72, Tryd.ntmps72
  go_wp2
  go_loopw [5] (fun i wr => ∃ k m : Nat, k ≤ lessTo n l ∧ i = .int .i64 (k : Int) ∧ wr = w.drewN m) (fun i _ => l.length - (intOf i).toNat)
  case atStart => exact ⟨0, 0, Nat.zero_le _, rfl, rfl⟩
  case round =>
    obtain ⟨k, m, hk, rfl, rfl⟩ := hrel
    have hk0 : (0 : Int) ≤ k := by omega
    by_cases hkl : k < l.length
    · have hk1 : (k : Int) < l.length := by omega
      have hr' : Row (w.drewN m) (some ad) (ic (natI l)) := HRO.out
      obtain ⟨ad', hA', hc0⟩ := hr'.nat hkl
      injection hA' with hA'
      subst hA'
      have hnx := lessTo_next hk hkl
      by_cases hlt : k < lessTo n l
      · have hxn := hnx.2 hlt
        clear hr' hnx
        generalize l[k] = x at *
        go_wp2
        go_roundw
        case rel => exact ⟨k + 1, m, by omega, by go_num, rfl⟩
        case measure => simp [intOf]; omega
      · have hke : k = lessTo n l := by omega
        have hxn : n ≤ l[k] := by have := lessTo_stop (x := n) (l := l) (by omega); simp only [← hke] at this; exact this
        by_cases hex : l[k] = n
        · have HE := Lib.hid (HSAME.out (put_found (x := n) (l := l) (by omega) (by simp only [← hke]; exact hex)) (w.drewN m) (below_drewN (Below.refl _ _) m))
          rw [hex] at hc0
          have dlt : decide ((n : Int) < (n : Int)) = false := decide_eq_false (by omega)
          clear hr' hnx HSAME hxn hex hke hk hlt hle
          go_wp2
          go_ret
          exact HE.out
        · have HP := Lib.hid (put_not (x := n) HST.out (fun h => by simp only [← hke]; exact hex))
          rw [← hke] at HP
          have hoI : (natI l).length = l.length := by simp
          have HDONE : Hid (∀ (w'' : World) (g4 c4 : Nat), w''.ownsRow (w.drewN m).heap.size 3 1 (.slice (some ⟨g4, 0, none⟩) (l.length + 1) c4) (l.length + 1) (ic ((natI l).take k ++ [(n : Int)] ++ (natI l).drop k)) → Below (w.drewN m).heap.size (w.drewN m) w'' → ∃ ad' c', (Ending.returned (.slice (some ⟨g4, 0, none⟩) (l.length + 1) c4)) = .returned (.slice (some ad') (putN n l).length c') ∧ w''.ownsRow w.heap.size 3 1 (.slice (some ad') (putN n l).length c') (putN n l).length (ic (natI (putN n l))) ∧ Below w.heap.size w w'') := fun w'' g4 c4 h1 h2 => by
            have e1 : (putN n l).length = l.length + 1 := by rw [HP.out]; simp; omega
            have e2 : natI (putN n l) = (natI l).take k ++ [(n : Int)] ++ (natI l).drop k := by rw [HP.out]; unfold natI; simp
            rw [e1, e2]
            exact ⟨_, _, rfl, own_low (B' := w.heap.size) h1 hB, ⟨h2.os, h2.tape, h2.output, h2.size, h2.block⟩⟩
          have hxne : ((l[k] : Nat) : Int) ≠ (n : Int) := fun e => hex (Int.ofNat.inj e)
          have hxb : (((l[k] : Nat) : Int) == (n : Int)) = false := beq_eq_false_iff_ne.2 hxne
          have HRW : Hid (Row (w.drewN m) (some ad) (ic (natI l))) := hr'
          generalize l[k] = x0 at *
          generalize natI l = oI at *
          have hoI1 : oI.length ≤ l.length := by omega
          have hoI2 : l.length ≤ oI.length := by omega
          have hkl2 : k ≤ l.length := by omega
          clear hr' hnx HSAME HP hex HST HRO hoI hke hlt hle hk
          generalize w.drewN m = w1 at *
          have dlt : decide (x0 < n) = false := decide_eq_false (by omega)
          have dl2 : ¬ x0 < n := by omega
          clear hB
          go_wp2
          refine wp_region_detG (by kernel_rfl) (fun x L w' => Below w1.heap.size w1 w' ∧ (L.getD 0 true = true → L.getD 4 true = false → w'.ownsRow w1.heap.size 3 1 (.slice (some ⟨x.1, 0, none⟩) 0 0) 0 []) ∧ (L.getD 4 true = true → L.getD 7 true = false → w'.ownsRow w1.heap.size 3 1 x.2.1 k (ic (oI.take k))) ∧ (L.getD 6 true = true → L.getD 7 true = false → BlockIs w' x.2.2.1 3 #[.int .i64 (n : Int)]) ∧ (L.getD 7 true = true → L.getD 11 true = false → w'.ownsRow w1.heap.size 3 1 x.2.2.2.1 (k + 1) (ic (oI.take k ++ [(n : Int)]))) ∧ (L.getD 11 true = true → L.getD 7 true = true ∧ w'.ownsRow w1.heap.size 3 1 x.2.2.2.2 (l.length + 1) (ic (oI.take k ++ [(n : Int)] ++ oI.drop k))) ∧ (L.getD 7 true = true → L.getD 4 true = true))
            (fun x kk => #[.slice (some ⟨x.1, 0, none⟩) 0 0, .slice (some ad) l.length cc, .int .i64 (k : Int), .slice (some ad) k cc, x.2.1, .int .i64 (n : Int), .slice (some ⟨x.2.2.1, 0, none⟩) 1 1, x.2.2.2.1, .slice (some ad) l.length cc, .int .i64 (k : Int), .slice (some (tailAd ad k cc)) (l.length - k) (cc - k), x.2.2.2.2, x.2.2.2.2].getD kk undef) (0, undef, 0, undef, undef) (by kernel_rfl) (by kernel_rfl) ⟨(Below.refl _ _).drew, (fun h => by cases h), (fun h => by cases h), (fun h => by cases h), (fun h => by cases h), (fun h => by cases h), fun h => by cases h⟩ ?_ ?_
          · intro x L tm w' hall hS hsz hlow hval
            have ht : tm = #[.slice (some ad) l.length cc, .int .i64 (n : Int), undef, undef, x.2.2.2.2, .int .i64 (k : Int), .int .i64 (k : Int), .slice (some ad) l.length cc, .int .i64 (l.length : Int), .bool true, .bool true, .slice (some ad) l.length cc, .int .i64 (k : Int), .pointer (some (ad.add k)), .int .i64 (x0 : Int), .int .i64 (n : Int), .bool false, .bool false, u18, u19, .int .i64 (k : Int), .slice (some ad) l.length cc, .int .i64 (l.length : Int), .bool true, .bool true, .slice (some ad) l.length cc, .int .i64 (k : Int), .pointer (some (ad.add k)), .int .i64 (x0 : Int), .int .i64 (n : Int), .bool false, .bool false, undef, .slice (some ⟨x.1, 0, none⟩) 0 0, .slice (some ad) l.length cc, .int .i64 (k : Int), .slice (some ad) k cc, x.2.1, .int .i64 (n : Int), .slice (some ⟨x.2.2.1, 0, none⟩) 1 1, x.2.2.2.1, .slice (some ad) l.length cc, .int .i64 (k : Int), .slice (some (tailAd ad k cc)) (l.length - k) (cc - k), x.2.2.2.2] := by
              refine arr_of _ _ hsz fun t ht => ?_
              have ht' : t < 45 := ht
              rcases (by omega : t = 0 ∨ t = 1 ∨ t = 2 ∨ t = 3 ∨ t = 4 ∨ t = 5 ∨ t = 6 ∨ t = 7 ∨ t = 8 ∨ t = 9 ∨ t = 10 ∨ t = 11 ∨ t = 12 ∨ t = 13 ∨ t = 14 ∨ t = 15 ∨ t = 16 ∨ t = 17 ∨ t = 18 ∨ t = 19 ∨ t = 20 ∨ t = 21 ∨ t = 22 ∨ t = 23 ∨ t = 24 ∨ t = 25 ∨ t = 26 ∨ t = 27 ∨ t = 28 ∨ t = 29 ∨ t = 30 ∨ t = 31 ∨ t = 32 ∨ t = 33 ∨ t = 34 ∨ t = 35 ∨ t = 36 ∨ t = 37 ∨ t = 38 ∨ t = 39 ∨ t = 40 ∨ t = 41 ∨ t = 42 ∨ t = 43 ∨ t = 44) with rfl | rfl | rfl | rfl | rfl | rfl | rfl | rfl | rfl | rfl | rfl | rfl | rfl | rfl | rfl | rfl | rfl | rfl | rfl | rfl | rfl | rfl | rfl | rfl | rfl | rfl | rfl | rfl | rfl | rfl | rfl | rfl | rfl | rfl | rfl | rfl | rfl | rfl | rfl | rfl | rfl | rfl | rfl | rfl | rfl
              · exact hlow 0 (by kernel_rfl)
              · exact hlow 1 (by kernel_rfl)
              · exact hlow 2 (by kernel_rfl)
              · exact hlow 3 (by kernel_rfl)
              · exact hval 12 _ 4 rfl rfl
              · exact hlow 5 (by kernel_rfl)
              · exact hlow 6 (by kernel_rfl)
              · exact hlow 7 (by kernel_rfl)
              · exact hlow 8 (by kernel_rfl)
              · exact hlow 9 (by kernel_rfl)
              · exact hlow 10 (by kernel_rfl)
              · exact hlow 11 (by kernel_rfl)
              · exact hlow 12 (by kernel_rfl)
              · exact hlow 13 (by kernel_rfl)
              · exact hlow 14 (by kernel_rfl)
              · exact hlow 15 (by kernel_rfl)
              · exact hlow 16 (by kernel_rfl)
              · exact hlow 17 (by kernel_rfl)
              · exact hlow 18 (by kernel_rfl)
              · exact hlow 19 (by kernel_rfl)
              · exact hlow 20 (by kernel_rfl)
              · exact hlow 21 (by kernel_rfl)
              · exact hlow 22 (by kernel_rfl)
              · exact hlow 23 (by kernel_rfl)
              · exact hlow 24 (by kernel_rfl)
              · exact hlow 25 (by kernel_rfl)
              · exact hlow 26 (by kernel_rfl)
              · exact hlow 27 (by kernel_rfl)
              · exact hlow 28 (by kernel_rfl)
              · exact hlow 29 (by kernel_rfl)
              · exact hlow 30 (by kernel_rfl)
              · exact hlow 31 (by kernel_rfl)
              · exact hlow 32 (by kernel_rfl)
              · exact hval 0 _ 33 rfl rfl
              · exact hval 1 _ 34 rfl rfl
              · exact hval 2 _ 35 rfl rfl
              · exact hval 3 _ 36 rfl rfl
              · exact hval 4 _ 37 rfl rfl
              · exact hval 5 _ 38 rfl rfl
              · exact hval 6 _ 39 rfl rfl
              · exact hval 7 _ 40 rfl rfl
              · exact hval 8 _ 41 rfl rfl
              · exact hval 9 _ 42 rfl rfl
              · exact hval 10 _ 43 rfl rfl
              · exact hval 11 _ 44 rfl rfl
            subst ht
            clear hlow hval hsz
            obtain ⟨hbz, _, _, _, _, hS5, _⟩ := hS
            have hfin := (hS5 (hall 11 (by decide))).2
            have HO4 := Lib.hid (And.intro hfin hbz)
            clear hS5 hbz hall hfin
            obtain ⟨g4, _, ⟨c4, hx4⟩, _⟩ := own_block2 HO4.out.1 (by omega)
            generalize x.2.2.2.2 = y4 at *
            subst hx4
            go_wp2
            go_ret
            exact HDONE.out _ _ _ HO4.out.1 HO4.out.2
          · intro x L a w' kk op hLs ho hLi hLd hLn ⟨hS0, hS1, hS2, hS3, hS4, hS5, hS6⟩ hlow hdep hold
            have hkk : kk < 13 := (Array.getElem?_eq_some_iff.1 ho).1
            have l0 : a.tmps[0]?.getD undef = .slice (some ad) l.length cc := by rw [← Array.getD_eq_getD_getElem?]; exact hlow 0 (by kernel_rfl)
            have l1 : a.tmps[1]?.getD undef = .int .i64 (n : Int) := by rw [← Array.getD_eq_getD_getElem?]; exact hlow 1 (by kernel_rfl)
            have l5 : a.tmps[5]?.getD undef = .int .i64 (k : Int) := by rw [← Array.getD_eq_getD_getElem?]; exact hlow 5 (by kernel_rfl)
            have D : ∀ j oj d, edgeB _ kk j = true → _ → _ → a.tmps[d]?.getD undef = _ := fun j oj d h1 h2 h3 => (Array.getD_eq_getD_getElem? ..).symm.trans (hdep j oj d h1 h2 h3)
            have K : ∀ {kk : Nat}, kk ≠ 0 → kk ≠ 4 → kk ≠ 6 → kk ≠ 7 → kk ≠ 11 → Below w1.heap.size w1 w' ∧ ((L.setIfInBounds kk true).getD 0 true = true → (L.setIfInBounds kk true).getD 4 true = false → w'.ownsRow w1.heap.size 3 1 (.slice (some ⟨x.1, 0, none⟩) 0 0) 0 []) ∧ ((L.setIfInBounds kk true).getD 4 true = true → (L.setIfInBounds kk true).getD 7 true = false → w'.ownsRow w1.heap.size 3 1 x.2.1 k (ic (oI.take k))) ∧ ((L.setIfInBounds kk true).getD 6 true = true → (L.setIfInBounds kk true).getD 7 true = false → BlockIs w' x.2.2.1 3 #[.int .i64 (n : Int)]) ∧ ((L.setIfInBounds kk true).getD 7 true = true → (L.setIfInBounds kk true).getD 11 true = false → w'.ownsRow w1.heap.size 3 1 x.2.2.2.1 (k + 1) (ic (oI.take k ++ [(n : Int)]))) ∧ ((L.setIfInBounds kk true).getD 11 true = true → (L.setIfInBounds kk true).getD 7 true = true ∧ w'.ownsRow w1.heap.size 3 1 x.2.2.2.2 (l.length + 1) (ic (oI.take k ++ [(n : Int)] ++ oI.drop k))) ∧ ((L.setIfInBounds kk true).getD 7 true = true → (L.setIfInBounds kk true).getD 4 true = true) := fun h0 h4 h6 h7 h11 => ⟨hS0, by rw [set_ne h0, set_ne h4]; exact hS1, by rw [set_ne h4, set_ne h7]; exact hS2, by rw [set_ne h6, set_ne h7]; exact hS3, by rw [set_ne h7, set_ne h11]; exact hS4, by rw [set_ne h11, set_ne h7]; exact hS5, by rw [set_ne h7, set_ne h4]; exact hS6⟩
            rcases (by omega : kk = 0 ∨ kk = 1 ∨ kk = 2 ∨ kk = 3 ∨ kk = 4 ∨ kk = 5 ∨ kk = 6 ∨ kk = 7 ∨ kk = 8 ∨ kk = 9 ∨ kk = 10 ∨ kk = 11 ∨ kk = 12) with rfl | rfl | rfl | rfl | rfl | rfl | rfl | rfl | rfl | rfl | rfl | rfl | rfl
            · obtain rfl := Option.some.inj ho
              refine ⟨rfl, .inl ⟨(w'.heap.size, x.2), w'.alloc (.cells #[] 3), fun j hj => ?_, by simp [execOp, Act.eval, go_sem], hS0.alloc hS0.size _, (fun _ _ => World.ownsRow_made w' #[] 0 hS0.size (by unfold maxLen; omega) rfl), (fun h => ?_), (fun h h' => ?_), (fun h => ?_), (fun h => ?_), fun h => ?_⟩⟩
              · have n0 : j ≠ 0 := fun e => by subst e; rw [hLi] at hj; cases hj
                exact but_p0 j n0
              · rw [set_ne (by decide), hLn 4 (by kernel_rfl)] at h; cases h
              · rw [set_ne (by decide)] at h h'; exact (hS3 h h').below ((Below.refl _ _).alloc (Nat.le_refl _) _)
              · rw [set_ne (by decide)] at h; have h4 := hS6 h; rw [hLn 4 (by kernel_rfl)] at h4; cases h4
              · rw [set_ne (by decide)] at h; have h4 := hS6 (hS5 h).1; rw [hLn 4 (by kernel_rfl)] at h4; cases h4
              · rw [set_ne (by decide)] at h ⊢; exact hS6 h
            · obtain rfl := Option.some.inj ho
              exact ⟨rfl, .inl ⟨x, w', fun _ _ => rfl, by simp [execOp, Act.eval, l0, go_sem], K (by decide) (by decide) (by decide) (by decide) (by decide)⟩⟩
            · obtain rfl := Option.some.inj ho
              exact ⟨rfl, .inl ⟨x, w', fun _ _ => rfl, by simp [execOp, Act.eval, l5, go_sem], K (by decide) (by decide) (by decide) (by decide) (by decide)⟩⟩
            · obtain rfl := Option.some.inj ho
              have e34 : a.tmps[34]?.getD undef = .slice (some ad) l.length cc := D 1 _ 34 (by kernel_rfl) rfl rfl
              have e35 : a.tmps[35]?.getD undef = .int .i64 (k : Int) := D 2 _ 35 (by kernel_rfl) rfl rfl
              have x34 : a.eval (.tmp 34) = .slice (some ad) l.length cc := by simp [Act.eval, e34]
              have x35 : a.eval (.tmp 35) = .int .i64 (k : Int) := by simp [Act.eval, e35]
              have hsl : (Instr.sliceAt 23 (a.eval (.tmp 34)) none ((some (Operand.tmp 35)).map a.eval) none).run Tryd.prog w' = .ok (.slice (some ad) k cc) w' := by
                rw [x34, Option.map_some, x35]; exact slice_h ad _ cc k w' (by omega)
              exact ⟨rfl, .inl ⟨x, w', fun _ _ => rfl, exec_slice rfl hsl, K (by decide) (by decide) (by decide) (by decide) (by decide)⟩⟩
            · obtain rfl := Option.some.inj ho
              have e33 : a.tmps[33]?.getD undef = .slice (some ⟨x.1, 0, none⟩) 0 0 := D 0 _ 33 (by kernel_rfl) rfl rfl
              have e36 : a.tmps[36]?.getD undef = .slice (some ad) k cc := D 3 _ 36 (by kernel_rfl) rfl rfl
              have x33 : a.eval (.tmp 33) = .slice (some ⟨x.1, 0, none⟩) 0 0 := by simp [Act.eval, e33]
              have x36 : a.eval (.tmp 36) = .slice (some ad) k cc := by simp [Act.eval, e36]
              have hown := hS1 (hLd 0 (by kernel_rfl)) hLi
              obtain ⟨v', w'', hrun, hown', hgrow, hnil⟩ := run_append_own (P := Tryd.prog) w' w1.heap.size 23 23 3 i0 (.int .i64 0) 1 8 Tryd.underlying23 hi hz0 hz1 hz2 rfl (by decide) (.slice (some ⟨x.1, 0, none⟩) 0 0) 0 _ hown ad k cc (ic (oI.take k)) (by rw [ic_len]; simp; omega) (head_src (HRW.out.below hS0) (by omega)) ic_one (by unfold maxLen; omega) (by omega) hS0.size
              have hbz : Below w1.heap.size w1 w'' := hS0.grown hgrow hS0.size (fun b hb => (hown.lt b hb).1)
              refine ⟨rfl, .inl ⟨(x.1, v', x.2.2), w'', fun j hj => ?_, exec_append rfl x33 x36 hrun, hbz, (fun _ h => ?_), (fun _ _ => ?_), (fun h h' => ?_), (fun h => ?_), (fun h => ?_), fun _ => ?_⟩⟩
              · have n4 : j ≠ 4 := fun e => by subst e; rw [hLi] at hj; cases hj
                exact but_p4 j n4
              · rw [set_eq (by rw [hLs]; decide)] at h; cases h
              · rw [List.nil_append, Nat.zero_add] at hown'; exact hown'
              · rw [set_ne (by decide)] at h h'
                have hB := hS3 h h'
                refine (hgrow.block _ hB.lt fun e => ?_).trans hB
                have eg : x.1 = x.2.2.1 := (Option.some.inj e).symm
                exact empty_ne hown (eg ▸ hB)
              · rw [set_ne (by decide), hLn 7 (by kernel_rfl)] at h; cases h
              · rw [set_ne (by decide)] at h; have h9 := (hS5 h).1; rw [hLn 7 (by kernel_rfl)] at h9; cases h9
              · rw [set_eq (by rw [hLs]; decide)]
            · obtain rfl := Option.some.inj ho
              exact ⟨rfl, .inl ⟨x, w', fun _ _ => rfl, by simp [execOp, Act.eval, l1, go_sem], K (by decide) (by decide) (by decide) (by decide) (by decide)⟩⟩
            · obtain rfl := Option.some.inj ho
              have e38 : a.tmps[38]?.getD undef = .int .i64 (n : Int) := D 5 _ 38 (by kernel_rfl) rfl rfl
              refine ⟨rfl, .inl ⟨(x.1, x.2.1, w'.heap.size, x.2.2.2), w'.alloc (.cells #[.int .i64 (n : Int)] 3), fun j hj => ?_, by simp [execOp, Act.eval, e38, go_sem], hS0.alloc hS0.size _, (fun h h' => ?_), (fun h h' => ?_), (fun _ _ => BlockIs.new _ _ _), (fun h => ?_), (fun h => ?_), fun h => ?_⟩⟩
              · have n6 : j ≠ 6 := fun e => by subst e; rw [hLi] at hj; cases hj
                exact but_p6 j n6
              · rw [set_ne (by decide)] at h h'; exact (hS1 h h').alloc _
              · rw [set_ne (by decide)] at h h'; exact (hS2 h h').alloc _
              · rw [set_ne (by decide), hLn 7 (by kernel_rfl)] at h; cases h
              · rw [set_ne (by decide)] at h; have h9 := (hS5 h).1; rw [hLn 7 (by kernel_rfl)] at h9; cases h9
              · rw [set_ne (by decide)] at h ⊢; exact hS6 h
            · obtain rfl := Option.some.inj ho
              have e37 : a.tmps[37]?.getD undef = x.2.1 := D 4 _ 37 (by kernel_rfl) rfl rfl
              have e39 : a.tmps[39]?.getD undef = .slice (some ⟨x.2.2.1, 0, none⟩) 1 1 := D 6 _ 39 (by kernel_rfl) rfl rfl
              have x37 : a.eval (.tmp 37) = x.2.1 := by simp [Act.eval, e37]
              have x39 : a.eval (.tmp 39) = .slice (some ⟨x.2.2.1, 0, none⟩) 1 1 := by simp [Act.eval, e39]
              have hown := hS2 (hLd 4 (by kernel_rfl)) hLi
              have hB8 := hS3 (hLd 6 (by kernel_rfl)) hLi
              have hsrc : ∀ j u, (ic [(n : Int)])[j]? = some u → w'.cell? ((⟨x.2.2.1, 0, none⟩ : Addr).add j) = some u := fun j u hu => by rw [Addr.add_lit, Nat.zero_add, hB8.cell, ← Array.getElem?_toList]; exact hu
              obtain ⟨v', w'', hrun, hown', hgrow, hnil⟩ := run_append_own (P := Tryd.prog) w' w1.heap.size 23 23 3 i0 (.int .i64 0) 1 8 Tryd.underlying23 hi hz0 hz1 hz2 rfl (by decide) x.2.1 k _ hown ⟨x.2.2.1, 0, none⟩ 1 1 (ic [(n : Int)]) rfl hsrc ic_one (by unfold maxLen; omega) (by omega) hS0.size
              have hbz : Below w1.heap.size w1 w'' := hS0.grown hgrow hS0.size (fun b hb => (hown.lt b hb).1)
              refine ⟨rfl, .inl ⟨(x.1, x.2.1, x.2.2.1, v', x.2.2.2.2), w'', fun j hj => ?_, exec_append rfl x37 x39 hrun, hbz, (fun h h' => ?_), (fun _ h => ?_), (fun _ h => ?_), (fun _ _ => ?_), (fun h => ?_), fun _ => ?_⟩⟩
              · have n7 : j ≠ 7 := fun e => by subst e; rw [hLi] at hj; cases hj
                exact but_p7 j n7
              · rw [set_ne (by decide)] at h'; have h9 := hLd 4 (by kernel_rfl); rw [h9] at h'; cases h'
              · rw [set_eq (by rw [hLs]; decide)] at h; cases h
              · rw [set_eq (by rw [hLs]; decide)] at h; cases h
              · have hx : ic (oI.take k) ++ ic [(n : Int)] = ic (oI.take k ++ [(n : Int)]) := by unfold ic; simp
                rw [hx] at hown'; exact hown'
              · rw [set_ne (by decide), hLn 11 (by kernel_rfl)] at h; cases h
              · rw [set_ne (by decide)]; exact hLd 4 (by kernel_rfl)
            · obtain rfl := Option.some.inj ho
              exact ⟨rfl, .inl ⟨x, w', fun _ _ => rfl, by simp [execOp, Act.eval, l0, go_sem], K (by decide) (by decide) (by decide) (by decide) (by decide)⟩⟩
            · obtain rfl := Option.some.inj ho
              exact ⟨rfl, .inl ⟨x, w', fun _ _ => rfl, by simp [execOp, Act.eval, l5, go_sem], K (by decide) (by decide) (by decide) (by decide) (by decide)⟩⟩
            · obtain rfl := Option.some.inj ho
              have e41 : a.tmps[41]?.getD undef = .slice (some ad) l.length cc := D 8 _ 41 (by kernel_rfl) rfl rfl
              have e42 : a.tmps[42]?.getD undef = .int .i64 (k : Int) := D 9 _ 42 (by kernel_rfl) rfl rfl
              have x41 : a.eval (.tmp 41) = .slice (some ad) l.length cc := by simp [Act.eval, e41]
              have x42 : a.eval (.tmp 42) = .int .i64 (k : Int) := by simp [Act.eval, e42]
              have hsl : (Instr.sliceAt 23 (a.eval (.tmp 41)) ((some (Operand.tmp 42)).map a.eval) none none).run Tryd.prog w' = .ok (.slice (some (tailAd ad k cc)) (l.length - k) (cc - k)) w' := by
                rw [x41, Option.map_some, x42]; exact slice_l ad _ cc k w' (by omega)
              exact ⟨rfl, .inl ⟨x, w', fun _ _ => rfl, exec_slice rfl hsl, K (by decide) (by decide) (by decide) (by decide) (by decide)⟩⟩
            · obtain rfl := Option.some.inj ho
              have e40 : a.tmps[40]?.getD undef = x.2.2.2.1 := D 7 _ 40 (by kernel_rfl) rfl rfl
              have e43 : a.tmps[43]?.getD undef = .slice (some (tailAd ad k cc)) (l.length - k) (cc - k) := D 10 _ 43 (by kernel_rfl) rfl rfl
              have x40 : a.eval (.tmp 40) = x.2.2.2.1 := by simp [Act.eval, e40]
              have x43 : a.eval (.tmp 43) = .slice (some (tailAd ad k cc)) (l.length - k) (cc - k) := by simp [Act.eval, e43]
              have t9 : L.getD 7 true = true := hLd 7 (by kernel_rfl)
              have hown := hS4 t9 hLi
              obtain ⟨v', w'', hrun, hown', hgrow, hnil⟩ := run_append_own (P := Tryd.prog) w' w1.heap.size 23 23 3 i0 (.int .i64 0) 1 8 Tryd.underlying23 hi hz0 hz1 hz2 rfl (by decide) x.2.2.2.1 (k + 1) _ hown (tailAd ad k cc) (l.length - k) (cc - k) (ic (oI.drop k)) (by rw [ic_len]; simp; omega) (tail_src (HRW.out.below hS0) (by omega)) ic_one (by unfold maxLen; omega) (by omega) hS0.size
              have hbz : Below w1.heap.size w1 w'' := hS0.grown hgrow hS0.size (fun b hb => (hown.lt b hb).1)
              refine ⟨rfl, .inl ⟨(x.1, x.2.1, x.2.2.1, x.2.2.2.1, v'), w'', fun j hj => ?_, exec_append rfl x40 x43 hrun, hbz, (fun h h' => ?_), (fun _ h => ?_), (fun _ h => ?_), (fun _ h => ?_), (fun _ => ?_), fun _ => ?_⟩⟩
              · have n11 : j ≠ 11 := fun e => by subst e; rw [hLi] at hj; cases hj
                have f12 : L.getD 12 true = false := hLn 12 (by kernel_rfl)
                have n12 : j ≠ 12 := fun e => by subst e; rw [f12] at hj; cases hj
                exact but_p11 j n11 n12
              · rw [set_ne (by decide), hS6 t9] at h'; cases h'
              · rw [set_ne (by decide), t9] at h; cases h
              · rw [set_ne (by decide), t9] at h; cases h
              · rw [set_eq (by rw [hLs]; decide)] at h; cases h
              · have hx : ic (oI.take k ++ [(n : Int)]) ++ ic (oI.drop k) = ic (oI.take k ++ [(n : Int)] ++ oI.drop k) := by unfold ic; simp
                rw [hx, show k + 1 + (l.length - k) = l.length + 1 by omega] at hown'; exact ⟨by rw [set_ne (by decide)]; exact t9, hown'⟩
              · rw [set_ne (by decide)]; exact hS6 t9
            · obtain rfl := Option.some.inj ho
              have e44 : a.tmps[44]?.getD undef = x.2.2.2.2 := D 11 _ 44 (by kernel_rfl) rfl rfl
              exact ⟨rfl, .inl ⟨x, w', fun _ _ => rfl, by simp [execOp, Act.eval, e44, go_sem], K (by decide) (by decide) (by decide) (by decide) (by decide)⟩⟩
    · have hke : k = lessTo n l := by omega
      have HP := Lib.hid (put_not (x := n) HST.out (fun h => absurd h (by omega)))
      rw [← hke] at HP
      have hoI : (natI l).length = l.length := by simp
      have HDONE : Hid (∀ (w'' : World) (g4 c4 : Nat), w''.ownsRow (w.drewN m).heap.size 3 1 (.slice (some ⟨g4, 0, none⟩) (l.length + 1) c4) (l.length + 1) (ic ((natI l).take k ++ [(n : Int)] ++ (natI l).drop k)) → Below (w.drewN m).heap.size (w.drewN m) w'' → ∃ ad' c', (Ending.returned (.slice (some ⟨g4, 0, none⟩) (l.length + 1) c4)) = .returned (.slice (some ad') (putN n l).length c') ∧ w''.ownsRow w.heap.size 3 1 (.slice (some ad') (putN n l).length c') (putN n l).length (ic (natI (putN n l))) ∧ Below w.heap.size w w'') := fun w'' g4 c4 h1 h2 => by
        have e1 : (putN n l).length = l.length + 1 := by rw [HP.out]; simp; omega
        have e2 : natI (putN n l) = (natI l).take k ++ [(n : Int)] ++ (natI l).drop k := by rw [HP.out]; unfold natI; simp
        rw [e1, e2]
        exact ⟨_, _, rfl, own_low (B' := w.heap.size) h1 hB, ⟨h2.os, h2.tape, h2.output, h2.size, h2.block⟩⟩
      have HRW : Hid (Row (w.drewN m) (some ad) (ic (natI l))) := HRO.out
      generalize natI l = oI at *
      have hoI1 : oI.length ≤ l.length := by omega
      have hoI2 : l.length ≤ oI.length := by omega
      have hkl2 : k ≤ l.length := by omega
      clear HSAME HP HST HRO hoI hke hle hk
      generalize w.drewN m = w1 at *
      clear hB
      go_wp2
      refine wp_region_detG (by kernel_rfl) (fun x L w' => Below w1.heap.size w1 w' ∧ (L.getD 0 true = true → L.getD 4 true = false → w'.ownsRow w1.heap.size 3 1 (.slice (some ⟨x.1, 0, none⟩) 0 0) 0 []) ∧ (L.getD 4 true = true → L.getD 7 true = false → w'.ownsRow w1.heap.size 3 1 x.2.1 k (ic (oI.take k))) ∧ (L.getD 6 true = true → L.getD 7 true = false → BlockIs w' x.2.2.1 3 #[.int .i64 (n : Int)]) ∧ (L.getD 7 true = true → L.getD 11 true = false → w'.ownsRow w1.heap.size 3 1 x.2.2.2.1 (k + 1) (ic (oI.take k ++ [(n : Int)]))) ∧ (L.getD 11 true = true → L.getD 7 true = true ∧ w'.ownsRow w1.heap.size 3 1 x.2.2.2.2 (l.length + 1) (ic (oI.take k ++ [(n : Int)] ++ oI.drop k))) ∧ (L.getD 7 true = true → L.getD 4 true = true))
        (fun x kk => #[.slice (some ⟨x.1, 0, none⟩) 0 0, .slice (some ad) l.length cc, .int .i64 (k : Int), .slice (some ad) k cc, x.2.1, .int .i64 (n : Int), .slice (some ⟨x.2.2.1, 0, none⟩) 1 1, x.2.2.2.1, .slice (some ad) l.length cc, .int .i64 (k : Int), .slice (some (tailAd ad k cc)) (l.length - k) (cc - k), x.2.2.2.2, x.2.2.2.2].getD kk undef) (0, undef, 0, undef, undef) (by kernel_rfl) (by kernel_rfl) ⟨(Below.refl _ _).drew, (fun h => by cases h), (fun h => by cases h), (fun h => by cases h), (fun h => by cases h), (fun h => by cases h), fun h => by cases h⟩ ?_ ?_
      · intro x L tm w' hall hS hsz hlow hval
        have ht : tm = #[.slice (some ad) l.length cc, .int .i64 (n : Int), undef, undef, x.2.2.2.2, .int .i64 (k : Int), .int .i64 (k : Int), .slice (some ad) l.length cc, .int .i64 (l.length : Int), .bool false, .bool false, undef, undef, undef, undef, undef, undef, .bool false, u18, u19, .int .i64 (k : Int), .slice (some ad) l.length cc, .int .i64 (l.length : Int), .bool false, .bool false, undef, undef, undef, undef, undef, undef, .bool false, undef, .slice (some ⟨x.1, 0, none⟩) 0 0, .slice (some ad) l.length cc, .int .i64 (k : Int), .slice (some ad) k cc, x.2.1, .int .i64 (n : Int), .slice (some ⟨x.2.2.1, 0, none⟩) 1 1, x.2.2.2.1, .slice (some ad) l.length cc, .int .i64 (k : Int), .slice (some (tailAd ad k cc)) (l.length - k) (cc - k), x.2.2.2.2] := by
          refine arr_of _ _ hsz fun t ht => ?_
          have ht' : t < 45 := ht
          rcases (by omega : t = 0 ∨ t = 1 ∨ t = 2 ∨ t = 3 ∨ t = 4 ∨ t = 5 ∨ t = 6 ∨ t = 7 ∨ t = 8 ∨ t = 9 ∨ t = 10 ∨ t = 11 ∨ t = 12 ∨ t = 13 ∨ t = 14 ∨ t = 15 ∨ t = 16 ∨ t = 17 ∨ t = 18 ∨ t = 19 ∨ t = 20 ∨ t = 21 ∨ t = 22 ∨ t = 23 ∨ t = 24 ∨ t = 25 ∨ t = 26 ∨ t = 27 ∨ t = 28 ∨ t = 29 ∨ t = 30 ∨ t = 31 ∨ t = 32 ∨ t = 33 ∨ t = 34 ∨ t = 35 ∨ t = 36 ∨ t = 37 ∨ t = 38 ∨ t = 39 ∨ t = 40 ∨ t = 41 ∨ t = 42 ∨ t = 43 ∨ t = 44) with rfl | rfl | rfl | rfl | rfl | rfl | rfl | rfl | rfl | rfl | rfl | rfl | rfl | rfl | rfl | rfl | rfl | rfl | rfl | rfl | rfl | rfl | rfl | rfl | rfl | rfl | rfl | rfl | rfl | rfl | rfl | rfl | rfl | rfl | rfl | rfl | rfl | rfl | rfl | rfl | rfl | rfl | rfl | rfl | rfl
          · exact hlow 0 (by kernel_rfl)
          · exact hlow 1 (by kernel_rfl)
          · exact hlow 2 (by kernel_rfl)
          · exact hlow 3 (by kernel_rfl)
          · exact hval 12 _ 4 rfl rfl
          · exact hlow 5 (by kernel_rfl)
          · exact hlow 6 (by kernel_rfl)
          · exact hlow 7 (by kernel_rfl)
          · exact hlow 8 (by kernel_rfl)
          · exact hlow 9 (by kernel_rfl)
          · exact hlow 10 (by kernel_rfl)
          · exact hlow 11 (by kernel_rfl)
          · exact hlow 12 (by kernel_rfl)
          · exact hlow 13 (by kernel_rfl)
          · exact hlow 14 (by kernel_rfl)
          · exact hlow 15 (by kernel_rfl)
          · exact hlow 16 (by kernel_rfl)
          · exact hlow 17 (by kernel_rfl)
          · exact hlow 18 (by kernel_rfl)
          · exact hlow 19 (by kernel_rfl)
          · exact hlow 20 (by kernel_rfl)
          · exact hlow 21 (by kernel_rfl)
          · exact hlow 22 (by kernel_rfl)
          · exact hlow 23 (by kernel_rfl)
          · exact hlow 24 (by kernel_rfl)
          · exact hlow 25 (by kernel_rfl)
          · exact hlow 26 (by kernel_rfl)
          · exact hlow 27 (by kernel_rfl)
          · exact hlow 28 (by kernel_rfl)
          · exact hlow 29 (by kernel_rfl)
          · exact hlow 30 (by kernel_rfl)
          · exact hlow 31 (by kernel_rfl)
          · exact hlow 32 (by kernel_rfl)
          · exact hval 0 _ 33 rfl rfl
          · exact hval 1 _ 34 rfl rfl
          · exact hval 2 _ 35 rfl rfl
          · exact hval 3 _ 36 rfl rfl
          · exact hval 4 _ 37 rfl rfl
          · exact hval 5 _ 38 rfl rfl
          · exact hval 6 _ 39 rfl rfl
          · exact hval 7 _ 40 rfl rfl
          · exact hval 8 _ 41 rfl rfl
          · exact hval 9 _ 42 rfl rfl
          · exact hval 10 _ 43 rfl rfl
          · exact hval 11 _ 44 rfl rfl
        subst ht
        clear hlow hval hsz
        obtain ⟨hbz, _, _, _, _, hS5, _⟩ := hS
        have hfin := (hS5 (hall 11 (by decide))).2
        have HO4 := Lib.hid (And.intro hfin hbz)
        clear hS5 hbz hall hfin
        obtain ⟨g4, _, ⟨c4, hx4⟩, _⟩ := own_block2 HO4.out.1 (by omega)
        generalize x.2.2.2.2 = y4 at *
        subst hx4
        go_wp2
        go_ret
        exact HDONE.out _ _ _ HO4.out.1 HO4.out.2
      · intro x L a w' kk op hLs ho hLi hLd hLn ⟨hS0, hS1, hS2, hS3, hS4, hS5, hS6⟩ hlow hdep hold
        have hkk : kk < 13 := (Array.getElem?_eq_some_iff.1 ho).1
        have l0 : a.tmps[0]?.getD undef = .slice (some ad) l.length cc := by rw [← Array.getD_eq_getD_getElem?]; exact hlow 0 (by kernel_rfl)
        have l1 : a.tmps[1]?.getD undef = .int .i64 (n : Int) := by rw [← Array.getD_eq_getD_getElem?]; exact hlow 1 (by kernel_rfl)
        have l5 : a.tmps[5]?.getD undef = .int .i64 (k : Int) := by rw [← Array.getD_eq_getD_getElem?]; exact hlow 5 (by kernel_rfl)
        have D : ∀ j oj d, edgeB _ kk j = true → _ → _ → a.tmps[d]?.getD undef = _ := fun j oj d h1 h2 h3 => (Array.getD_eq_getD_getElem? ..).symm.trans (hdep j oj d h1 h2 h3)
        have K : ∀ {kk : Nat}, kk ≠ 0 → kk ≠ 4 → kk ≠ 6 → kk ≠ 7 → kk ≠ 11 → Below w1.heap.size w1 w' ∧ ((L.setIfInBounds kk true).getD 0 true = true → (L.setIfInBounds kk true).getD 4 true = false → w'.ownsRow w1.heap.size 3 1 (.slice (some ⟨x.1, 0, none⟩) 0 0) 0 []) ∧ ((L.setIfInBounds kk true).getD 4 true = true → (L.setIfInBounds kk true).getD 7 true = false → w'.ownsRow w1.heap.size 3 1 x.2.1 k (ic (oI.take k))) ∧ ((L.setIfInBounds kk true).getD 6 true = true → (L.setIfInBounds kk true).getD 7 true = false → BlockIs w' x.2.2.1 3 #[.int .i64 (n : Int)]) ∧ ((L.setIfInBounds kk true).getD 7 true = true → (L.setIfInBounds kk true).getD 11 true = false → w'.ownsRow w1.heap.size 3 1 x.2.2.2.1 (k + 1) (ic (oI.take k ++ [(n : Int)]))) ∧ ((L.setIfInBounds kk true).getD 11 true = true → (L.setIfInBounds kk true).getD 7 true = true ∧ w'.ownsRow w1.heap.size 3 1 x.2.2.2.2 (l.length + 1) (ic (oI.take k ++ [(n : Int)] ++ oI.drop k))) ∧ ((L.setIfInBounds kk true).getD 7 true = true → (L.setIfInBounds kk true).getD 4 true = true) := fun h0 h4 h6 h7 h11 => ⟨hS0, by rw [set_ne h0, set_ne h4]; exact hS1, by rw [set_ne h4, set_ne h7]; exact hS2, by rw [set_ne h6, set_ne h7]; exact hS3, by rw [set_ne h7, set_ne h11]; exact hS4, by rw [set_ne h11, set_ne h7]; exact hS5, by rw [set_ne h7, set_ne h4]; exact hS6⟩
        rcases (by omega : kk = 0 ∨ kk = 1 ∨ kk = 2 ∨ kk = 3 ∨ kk = 4 ∨ kk = 5 ∨ kk = 6 ∨ kk = 7 ∨ kk = 8 ∨ kk = 9 ∨ kk = 10 ∨ kk = 11 ∨ kk = 12) with rfl | rfl | rfl | rfl | rfl | rfl | rfl | rfl | rfl | rfl | rfl | rfl | rfl
        · obtain rfl := Option.some.inj ho
          refine ⟨rfl, .inl ⟨(w'.heap.size, x.2), w'.alloc (.cells #[] 3), fun j hj => ?_, by simp [execOp, Act.eval, go_sem], hS0.alloc hS0.size _, (fun _ _ => World.ownsRow_made w' #[] 0 hS0.size (by unfold maxLen; omega) rfl), (fun h => ?_), (fun h h' => ?_), (fun h => ?_), (fun h => ?_), fun h => ?_⟩⟩
          · have n0 : j ≠ 0 := fun e => by subst e; rw [hLi] at hj; cases hj
            exact but_p0 j n0
          · rw [set_ne (by decide), hLn 4 (by kernel_rfl)] at h; cases h
          · rw [set_ne (by decide)] at h h'; exact (hS3 h h').below ((Below.refl _ _).alloc (Nat.le_refl _) _)
          · rw [set_ne (by decide)] at h; have h4 := hS6 h; rw [hLn 4 (by kernel_rfl)] at h4; cases h4
          · rw [set_ne (by decide)] at h; have h4 := hS6 (hS5 h).1; rw [hLn 4 (by kernel_rfl)] at h4; cases h4
          · rw [set_ne (by decide)] at h ⊢; exact hS6 h
        · obtain rfl := Option.some.inj ho
          exact ⟨rfl, .inl ⟨x, w', fun _ _ => rfl, by simp [execOp, Act.eval, l0, go_sem], K (by decide) (by decide) (by decide) (by decide) (by decide)⟩⟩
        · obtain rfl := Option.some.inj ho
          exact ⟨rfl, .inl ⟨x, w', fun _ _ => rfl, by simp [execOp, Act.eval, l5, go_sem], K (by decide) (by decide) (by decide) (by decide) (by decide)⟩⟩
        · obtain rfl := Option.some.inj ho
          have e34 : a.tmps[34]?.getD undef = .slice (some ad) l.length cc := D 1 _ 34 (by kernel_rfl) rfl rfl
          have e35 : a.tmps[35]?.getD undef = .int .i64 (k : Int) := D 2 _ 35 (by kernel_rfl) rfl rfl
          have x34 : a.eval (.tmp 34) = .slice (some ad) l.length cc := by simp [Act.eval, e34]
          have x35 : a.eval (.tmp 35) = .int .i64 (k : Int) := by simp [Act.eval, e35]
          have hsl : (Instr.sliceAt 23 (a.eval (.tmp 34)) none ((some (Operand.tmp 35)).map a.eval) none).run Tryd.prog w' = .ok (.slice (some ad) k cc) w' := by
            rw [x34, Option.map_some, x35]; exact slice_h ad _ cc k w' (by omega)
          exact ⟨rfl, .inl ⟨x, w', fun _ _ => rfl, exec_slice rfl hsl, K (by decide) (by decide) (by decide) (by decide) (by decide)⟩⟩
        · obtain rfl := Option.some.inj ho
          have e33 : a.tmps[33]?.getD undef = .slice (some ⟨x.1, 0, none⟩) 0 0 := D 0 _ 33 (by kernel_rfl) rfl rfl
          have e36 : a.tmps[36]?.getD undef = .slice (some ad) k cc := D 3 _ 36 (by kernel_rfl) rfl rfl
          have x33 : a.eval (.tmp 33) = .slice (some ⟨x.1, 0, none⟩) 0 0 := by simp [Act.eval, e33]
          have x36 : a.eval (.tmp 36) = .slice (some ad) k cc := by simp [Act.eval, e36]
          have hown := hS1 (hLd 0 (by kernel_rfl)) hLi
          obtain ⟨v', w'', hrun, hown', hgrow, hnil⟩ := run_append_own (P := Tryd.prog) w' w1.heap.size 23 23 3 i0 (.int .i64 0) 1 8 Tryd.underlying23 hi hz0 hz1 hz2 rfl (by decide) (.slice (some ⟨x.1, 0, none⟩) 0 0) 0 _ hown ad k cc (ic (oI.take k)) (by rw [ic_len]; simp; omega) (head_src (HRW.out.below hS0) (by omega)) ic_one (by unfold maxLen; omega) (by omega) hS0.size
          have hbz : Below w1.heap.size w1 w'' := hS0.grown hgrow hS0.size (fun b hb => (hown.lt b hb).1)
          refine ⟨rfl, .inl ⟨(x.1, v', x.2.2), w'', fun j hj => ?_, exec_append rfl x33 x36 hrun, hbz, (fun _ h => ?_), (fun _ _ => ?_), (fun h h' => ?_), (fun h => ?_), (fun h => ?_), fun _ => ?_⟩⟩
          · have n4 : j ≠ 4 := fun e => by subst e; rw [hLi] at hj; cases hj
            exact but_p4 j n4
          · rw [set_eq (by rw [hLs]; decide)] at h; cases h
          · rw [List.nil_append, Nat.zero_add] at hown'; exact hown'
          · rw [set_ne (by decide)] at h h'
            have hB := hS3 h h'
            refine (hgrow.block _ hB.lt fun e => ?_).trans hB
            have eg : x.1 = x.2.2.1 := (Option.some.inj e).symm
            exact empty_ne hown (eg ▸ hB)
          · rw [set_ne (by decide), hLn 7 (by kernel_rfl)] at h; cases h
          · rw [set_ne (by decide)] at h; have h9 := (hS5 h).1; rw [hLn 7 (by kernel_rfl)] at h9; cases h9
          · rw [set_eq (by rw [hLs]; decide)]
        · obtain rfl := Option.some.inj ho
          exact ⟨rfl, .inl ⟨x, w', fun _ _ => rfl, by simp [execOp, Act.eval, l1, go_sem], K (by decide) (by decide) (by decide) (by decide) (by decide)⟩⟩
        · obtain rfl := Option.some.inj ho
          have e38 : a.tmps[38]?.getD undef = .int .i64 (n : Int) := D 5 _ 38 (by kernel_rfl) rfl rfl
          refine ⟨rfl, .inl ⟨(x.1, x.2.1, w'.heap.size, x.2.2.2), w'.alloc (.cells #[.int .i64 (n : Int)] 3), fun j hj => ?_, by simp [execOp, Act.eval, e38, go_sem], hS0.alloc hS0.size _, (fun h h' => ?_), (fun h h' => ?_), (fun _ _ => BlockIs.new _ _ _), (fun h => ?_), (fun h => ?_), fun h => ?_⟩⟩
          · have n6 : j ≠ 6 := fun e => by subst e; rw [hLi] at hj; cases hj
            exact but_p6 j n6
          · rw [set_ne (by decide)] at h h'; exact (hS1 h h').alloc _
          · rw [set_ne (by decide)] at h h'; exact (hS2 h h').alloc _
          · rw [set_ne (by decide), hLn 7 (by kernel_rfl)] at h; cases h
          · rw [set_ne (by decide)] at h; have h9 := (hS5 h).1; rw [hLn 7 (by kernel_rfl)] at h9; cases h9
          · rw [set_ne (by decide)] at h ⊢; exact hS6 h
        · obtain rfl := Option.some.inj ho
          have e37 : a.tmps[37]?.getD undef = x.2.1 := D 4 _ 37 (by kernel_rfl) rfl rfl
          have e39 : a.tmps[39]?.getD undef = .slice (some ⟨x.2.2.1, 0, none⟩) 1 1 := D 6 _ 39 (by kernel_rfl) rfl rfl
          have x37 : a.eval (.tmp 37) = x.2.1 := by simp [Act.eval, e37]
          have x39 : a.eval (.tmp 39) = .slice (some ⟨x.2.2.1, 0, none⟩) 1 1 := by simp [Act.eval, e39]
          have hown := hS2 (hLd 4 (by kernel_rfl)) hLi
          have hB8 := hS3 (hLd 6 (by kernel_rfl)) hLi
          have hsrc : ∀ j u, (ic [(n : Int)])[j]? = some u → w'.cell? ((⟨x.2.2.1, 0, none⟩ : Addr).add j) = some u := fun j u hu => by rw [Addr.add_lit, Nat.zero_add, hB8.cell, ← Array.getElem?_toList]; exact hu
          obtain ⟨v', w'', hrun, hown', hgrow, hnil⟩ := run_append_own (P := Tryd.prog) w' w1.heap.size 23 23 3 i0 (.int .i64 0) 1 8 Tryd.underlying23 hi hz0 hz1 hz2 rfl (by decide) x.2.1 k _ hown ⟨x.2.2.1, 0, none⟩ 1 1 (ic [(n : Int)]) rfl hsrc ic_one (by unfold maxLen; omega) (by omega) hS0.size
          have hbz : Below w1.heap.size w1 w'' := hS0.grown hgrow hS0.size (fun b hb => (hown.lt b hb).1)
          refine ⟨rfl, .inl ⟨(x.1, x.2.1, x.2.2.1, v', x.2.2.2.2), w'', fun j hj => ?_, exec_append rfl x37 x39 hrun, hbz, (fun h h' => ?_), (fun _ h => ?_), (fun _ h => ?_), (fun _ _ => ?_), (fun h => ?_), fun _ => ?_⟩⟩
          · have n7 : j ≠ 7 := fun e => by subst e; rw [hLi] at hj; cases hj
            exact but_p7 j n7
          · rw [set_ne (by decide)] at h'; have h9 := hLd 4 (by kernel_rfl); rw [h9] at h'; cases h'
          · rw [set_eq (by rw [hLs]; decide)] at h; cases h
          · rw [set_eq (by rw [hLs]; decide)] at h; cases h
          · have hx : ic (oI.take k) ++ ic [(n : Int)] = ic (oI.take k ++ [(n : Int)]) := by unfold ic; simp
            rw [hx] at hown'; exact hown'
          · rw [set_ne (by decide), hLn 11 (by kernel_rfl)] at h; cases h
          · rw [set_ne (by decide)]; exact hLd 4 (by kernel_rfl)
        · obtain rfl := Option.some.inj ho
          exact ⟨rfl, .inl ⟨x, w', fun _ _ => rfl, by simp [execOp, Act.eval, l0, go_sem], K (by decide) (by decide) (by decide) (by decide) (by decide)⟩⟩
        · obtain rfl := Option.some.inj ho
          exact ⟨rfl, .inl ⟨x, w', fun _ _ => rfl, by simp [execOp, Act.eval, l5, go_sem], K (by decide) (by decide) (by decide) (by decide) (by decide)⟩⟩
        · obtain rfl := Option.some.inj ho
          have e41 : a.tmps[41]?.getD undef = .slice (some ad) l.length cc := D 8 _ 41 (by kernel_rfl) rfl rfl
          have e42 : a.tmps[42]?.getD undef = .int .i64 (k : Int) := D 9 _ 42 (by kernel_rfl) rfl rfl
          have x41 : a.eval (.tmp 41) = .slice (some ad) l.length cc := by simp [Act.eval, e41]
          have x42 : a.eval (.tmp 42) = .int .i64 (k : Int) := by simp [Act.eval, e42]
          have hsl : (Instr.sliceAt 23 (a.eval (.tmp 41)) ((some (Operand.tmp 42)).map a.eval) none none).run Tryd.prog w' = .ok (.slice (some (tailAd ad k cc)) (l.length - k) (cc - k)) w' := by
            rw [x41, Option.map_some, x42]; exact slice_l ad _ cc k w' (by omega)
          exact ⟨rfl, .inl ⟨x, w', fun _ _ => rfl, exec_slice rfl hsl, K (by decide) (by decide) (by decide) (by decide) (by decide)⟩⟩
        · obtain rfl := Option.some.inj ho
          have e40 : a.tmps[40]?.getD undef = x.2.2.2.1 := D 7 _ 40 (by kernel_rfl) rfl rfl
          have e43 : a.tmps[43]?.getD undef = .slice (some (tailAd ad k cc)) (l.length - k) (cc - k) := D 10 _ 43 (by kernel_rfl) rfl rfl
          have x40 : a.eval (.tmp 40) = x.2.2.2.1 := by simp [Act.eval, e40]
          have x43 : a.eval (.tmp 43) = .slice (some (tailAd ad k cc)) (l.length - k) (cc - k) := by simp [Act.eval, e43]
          have t9 : L.getD 7 true = true := hLd 7 (by kernel_rfl)
          have hown := hS4 t9 hLi
          obtain ⟨v', w'', hrun, hown', hgrow, hnil⟩ := run_append_own (P := Tryd.prog) w' w1.heap.size 23 23 3 i0 (.int .i64 0) 1 8 Tryd.underlying23 hi hz0 hz1 hz2 rfl (by decide) x.2.2.2.1 (k + 1) _ hown (tailAd ad k cc) (l.length - k) (cc - k) (ic (oI.drop k)) (by rw [ic_len]; simp; omega) (tail_src (HRW.out.below hS0) (by omega)) ic_one (by unfold maxLen; omega) (by omega) hS0.size
          have hbz : Below w1.heap.size w1 w'' := hS0.grown hgrow hS0.size (fun b hb => (hown.lt b hb).1)
          refine ⟨rfl, .inl ⟨(x.1, x.2.1, x.2.2.1, x.2.2.2.1, v'), w'', fun j hj => ?_, exec_append rfl x40 x43 hrun, hbz, (fun h h' => ?_), (fun _ h => ?_), (fun _ h => ?_), (fun _ h => ?_), (fun _ => ?_), fun _ => ?_⟩⟩
          · have n11 : j ≠ 11 := fun e => by subst e; rw [hLi] at hj; cases hj
            have f12 : L.getD 12 true = false := hLn 12 (by kernel_rfl)
            have n12 : j ≠ 12 := fun e => by subst e; rw [f12] at hj; cases hj
            exact but_p11 j n11 n12
          · rw [set_ne (by decide), hS6 t9] at h'; cases h'
          · rw [set_ne (by decide), t9] at h; cases h
          · rw [set_ne (by decide), t9] at h; cases h
          · rw [set_eq (by rw [hLs]; decide)] at h; cases h
          · have hx : ic (oI.take k ++ [(n : Int)]) ++ ic (oI.drop k) = ic (oI.take k ++ [(n : Int)] ++ oI.drop k) := by unfold ic; simp
            rw [hx, show k + 1 + (l.length - k) = l.length + 1 by omega] at hown'; exact ⟨by rw [set_ne (by decide)]; exact t9, hown'⟩
          · rw [set_ne (by decide)]; exact hS6 t9
        · obtain rfl := Option.some.inj ho
          have e44 : a.tmps[44]?.getD undef = x.2.2.2.2 := D 11 _ 44 (by kernel_rfl) rfl rfl
          exact ⟨rfl, .inl ⟨x, w', fun _ _ => rfl, by simp [execOp, Act.eval, e44, go_sem], K (by decide) (by decide) (by decide) (by decide) (by decide)⟩⟩
end
end Go.Proofs.YtpoibjmkbljblaaDoor
