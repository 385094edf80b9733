/- The ruled order: the model's. -/
import Derived.Test.YtpjjjbkjkhcbdaaRuleS
import Derived.Test.YtpjjjbkjkhcbdaaSwapB
import Derived.Test.YtpjjjbkjkhcbdaaOwnSS
import Derived.Test.YtpjjjbkjkhcbdaaOwnM
import Derived.Test.YtpjjjbkjkhcbdaaRegInvG
namespace Go.Proofs.Ytpjjjbkjkhcbdaa
open Go.RowKit
theorem but_o3 {a3 b3 v0 v1 v10 v11 v2 v4 v5 v6 v7 v8 v9 : Value} (j : Nat) (h3 : j ≠ 3) : (#[v0, v1, v2, a3, v4, v5, v6, v7, v8, v9, v10, v11] : Array Value).getD j undef = (#[v0, v1, v2, b3, v4, v5, v6, v7, v8, v9, v10, v11] : Array Value).getD j undef := by
  rcases (by omega : j = 0 ∨ j = 1 ∨ j = 2 ∨ j = 4 ∨ j = 5 ∨ j = 6 ∨ j = 7 ∨ j = 8 ∨ j = 9 ∨ j = 10 ∨ j = 11 ∨ 11 < j) with rfl | rfl | rfl | rfl | rfl | rfl | rfl | rfl | rfl | rfl | rfl | h
  all_goals first | rfl | (simp only [Array.getD_eq_getD_getElem?]; rw [Array.getElem?_eq_none (by simp; omega), Array.getElem?_eq_none (by simp; omega)])
theorem but_o5 {a5 b5 v0 v1 v10 v11 v2 v3 v4 v6 v7 v8 v9 : Value} (j : Nat) (h5 : j ≠ 5) : (#[v0, v1, v2, v3, v4, a5, v6, v7, v8, v9, v10, v11] : Array Value).getD j undef = (#[v0, v1, v2, v3, v4, b5, v6, v7, v8, v9, v10, v11] : Array Value).getD j undef := by
  rcases (by omega : j = 0 ∨ j = 1 ∨ j = 2 ∨ j = 3 ∨ j = 4 ∨ j = 6 ∨ j = 7 ∨ j = 8 ∨ j = 9 ∨ j = 10 ∨ j = 11 ∨ 11 < j) with rfl | rfl | rfl | rfl | rfl | rfl | rfl | rfl | rfl | rfl | rfl | h
  all_goals first | rfl | (simp only [Array.getD_eq_getD_getElem?]; rw [Array.getElem?_eq_none (by simp; omega), Array.getElem?_eq_none (by simp; omega)])
theorem but_o6 {a6 b6 v0 v1 v10 v11 v2 v3 v4 v5 v7 v8 v9 : Value} (j : Nat) (h6 : j ≠ 6) : (#[v0, v1, v2, v3, v4, v5, a6, v7, v8, v9, v10, v11] : Array Value).getD j undef = (#[v0, v1, v2, v3, v4, v5, b6, v7, v8, v9, v10, v11] : Array Value).getD j undef := by
  rcases (by omega : j = 0 ∨ j = 1 ∨ j = 2 ∨ j = 3 ∨ j = 4 ∨ j = 5 ∨ j = 7 ∨ j = 8 ∨ j = 9 ∨ j = 10 ∨ j = 11 ∨ 11 < j) with rfl | rfl | rfl | rfl | rfl | rfl | rfl | rfl | rfl | rfl | rfl | h
  all_goals first | rfl | (simp only [Array.getD_eq_getD_getElem?]; rw [Array.getElem?_eq_none (by simp; omega), Array.getElem?_eq_none (by simp; omega)])
theorem but_o10 {a10 a11 b10 b11 v0 v1 v2 v3 v4 v5 v6 v7 v8 v9 : Value} (j : Nat) (h10 : j ≠ 10) (h11 : j ≠ 11) : (#[v0, v1, v2, v3, v4, v5, v6, v7, v8, v9, a10, a11] : Array Value).getD j undef = (#[v0, v1, v2, v3, v4, v5, v6, v7, v8, v9, b10, b11] : Array Value).getD j undef := by
  rcases (by omega : j = 0 ∨ j = 1 ∨ j = 2 ∨ j = 3 ∨ j = 4 ∨ j = 5 ∨ j = 6 ∨ j = 7 ∨ j = 8 ∨ j = 9 ∨ 11 < j) with rfl | rfl | rfl | rfl | rfl | rfl | rfl | rfl | rfl | rfl | h
  all_goals first | rfl | (simp only [Array.getD_eq_getD_getElem?]; rw [Array.getElem?_eq_none (by simp; omega), Array.getElem?_eq_none (by simp; omega)])
theorem own_block2 {w : World} {B n : Nat} {v : Value} {cs : List Value} (h : w.ownsRow B 3 1 v n cs) (hn : 0 < n) : ∃ g, B ≤ g ∧ (∃ c, v = .slice (some ⟨g, 0, none⟩) n c) ∧ True := by
  rcases h.2 with ⟨_, h0⟩ | ⟨g, cap, cur, hv, hb, _⟩
  · omega
  · exact ⟨g, hb, ⟨cap, hv⟩, trivial⟩
section
variable (A : Option Addr) (c : Nat) (js : List J) (ob : Int) (w : World) (hr : Row w A (jc js)) (hg : goodL js = true) (ho : isRule ob = true)
include hr hg ho
set_option maxRecDepth 100000 in
set_option maxHeartbeats 4000000 in
theorem l3Order_any : Calls Try.prog 139 #[.slice A js.length c, .int .i64 ob] w fun e w' => ∃ v, e = .returned v ∧ w'.ownsRow w.heap.size 3 1 v js.length (ic (natI (ruledL ob js))) ∧ Below w.heap.size w w' := by
  obtain ⟨h8, hok⟩ := good_out hg
  obtain ⟨i0, hi, hz0, hz1, hz2⟩ := info_parts infoI
  have hb0 := (Below.refl w.heap.size w).alloc (Nat.le_refl _) (.cells #[] 3)
  have hown0 : (w.alloc (.cells #[] 3)).ownsRow w.heap.size 3 1 (.slice (some ⟨w.heap.size, 0, none⟩) 0 0) 0 [] := World.ownsRow_made w #[] 0 (Nat.le_refl _) (by unfold maxLen; omega) rfl
  have H0 := Lib.hid (And.intro hown0 hb0)
  clear hown0 hb0
  go_enter Try.func139, Try.ntmps139
  go_wp2
  go_loopw [5, 6] (fun v i wr => ∃ (k : Nat) (ad : Addr) (cc : Nat), k ≤ js.length ∧ v = .slice (some ad) k cc ∧ i = .int .i64 (k : Int) ∧ Hid (wr.ownsRow w.heap.size 3 1 (.slice (some ad) k cc) k (ic (natI (ruledTo ob js k)))) ∧ Hid (Below w.heap.size w wr)) (fun _ i _ => js.length - (intOf i).toNat)
  case atStart => exact ⟨0, _, 0, Nat.zero_le _, rfl, rfl, H0.out.1, H0.out.2⟩
  case round =>
    obtain ⟨i, ad, cc, hik, rfl, rfl, HO, HW⟩ := hrel
    clear H0
    by_cases hlt : i < js.length
    · have hi0 : (0 : Int) ≤ i := by omega
      have hi1 : (i : Int) < js.length := by omega
      have hol := ruledTo_len ob js i
      have hout : ∀ a ∈ ruledTo ob js i, a < js.length := fun a ha => by have := ruledTo_lt ob js ha; omega
      have HINS : Hid (ruledTo ob js (i + 1) = insN ob js i (ruledTo ob js i)) := rfl
      generalize ruledTo ob js i = out at *
      have hol1 : out.length ≤ i := by omega
      have hol2 : i ≤ out.length := by omega
      have HOL := Lib.hid hol
      clear hol
      obtain ⟨wo, rfl⟩ : ∃ wo : World, wo = wr := ⟨_, rfl⟩
      go_wp2
      go_loopw [7] (fun kv wi => ∃ k : Nat, k ≤ i ∧ kv = .int .i64 (k : Int) ∧ Hid (Below wo.heap.size wo wi) ∧ Hid (∀ a ∈ out.take k, gapN ob js a i ≤ 0)) (fun kv _ => i - (intOf kv).toNat)
      case atStart => exact ⟨0, Nat.zero_le _, rfl, Below.refl _ _, fun a h => by cases h⟩
      case round =>
        obtain ⟨k, hk, rfl, HB, HG⟩ := hrel
        have HRow := Lib.hid ((Row.of_own HO.out).below HB.out)
        by_cases hki : k < i
        · have hko : k < out.length := by omega
          have hk0 : (0 : Int) ≤ k := by omega
          have hk1 : (k : Int) < i := by omega
          obtain ⟨ad', hA', hc0⟩ := HRow.out.nat hko
          injection hA' with hA'
          subst hA'
          have hoa := hout _ (List.getElem_mem hko)
          have hgb : -2500 ≤ gapN ob js out[k] i ∧ gapN ob js out[k] i ≤ 2500 := gapJ_bd (getD_ok hok hoa) (getD_ok hok hlt)
          have HC := Lib.hid (l3Gap_any A c js ob wr (hr.below (HW.out.trans (HB.out.mono HW.out.size))) hok out[k] i hoa hlt ho)
          by_cases hle : gapN ob js out[k] i ≤ 0
          · have HG2 : Hid (∀ a ∈ out.take (k + 1), gapN ob js a i ≤ 0) := fun a ha => by
              rw [List.take_succ_eq_append_getElem hko] at ha
              rcases List.mem_append.1 ha with h | h
              · exact HG.out a h
              · rw [List.mem_singleton.1 h]; exact hle
            generalize gapN ob js out[k] i = gg at *
            generalize out[k] = x0 at *
            clear hoa
            go_wp2_with fail
            refine HC.out.mono ?_
            rintro e w1 ⟨rfl, hb1⟩
            go_wp2
            go_roundw
            case rel => exact ⟨k + 1, by omega, by go_num, HB.out.trans (hb1.mono HB.out.size), HG2.out⟩
            case measure => simp [intOf]; omega
          · have HF := Lib.hid (HINS.out.trans (insN_at ob js i out k (by omega) HG.out (fun _ => by omega)))
            generalize gapN ob js out[k] i = gg at *
            generalize out[k] = x0 at *
            clear hoa
            go_wp2_with fail
            refine HC.out.mono ?_
            rintro e w1 ⟨rfl, hb1⟩
            have HRW := Lib.hid ((Row.of_own HO.out).below (HB.out.trans (hb1.mono HB.out.size)))
            have HBW := Lib.hid (HW.out.trans ((HB.out.trans (hb1.mono HB.out.size)).mono HW.out.size))
            have HFI : Hid (ic ((natI out).take k ++ [(i : Int)] ++ (natI out).drop k) = ic (natI (ruledTo ob js (i + 1)))) := by show _ = _; rw [HF.out]; unfold natI; simp
            have hoI : (natI out).length = out.length := by simp
            have hccs := (slice_some HO.out).2
            skip
            generalize natI out = oI at *
            have hoI1 : oI.length ≤ i := by omega
            have hoI2 : i ≤ oI.length := by omega
            clear hoI HF HG HINS
            clear hb1 HC
            go_wp2
            refine wp_region_detG (by kernel_rfl) (fun x L w' => Below w1.heap.size w1 w' ∧ (L.getD 3 true = true → L.getD 6 true = false → w'.ownsRow w1.heap.size 3 1 x.1 k (ic (oI.take k))) ∧ (L.getD 5 true = true → L.getD 6 true = false → BlockIs w' x.2.1 3 #[.int .i64 (i : Int)]) ∧ (L.getD 6 true = true → L.getD 10 true = false → w'.ownsRow w1.heap.size 3 1 x.2.2.1 (k + 1) (ic (oI.take k ++ [(i : Int)]))) ∧ (L.getD 10 true = true → L.getD 6 true = true ∧ w'.ownsRow w1.heap.size 3 1 x.2.2.2 (i + 1) (ic (oI.take k ++ [(i : Int)] ++ oI.drop k))))
              (fun x kk => #[.slice (some ad) i cc, .int .i64 (k : Int), .slice (some ad) k cc, x.1, .int .i64 (i : Int), .slice (some ⟨x.2.1, 0, none⟩) 1 1, x.2.2.1, .slice (some ad) i cc, .int .i64 (k : Int), .slice (some (tailAd ad k cc)) (i - k) (cc - k), x.2.2.2, x.2.2.2].getD kk undef) (undef, 0, undef, undef) (by kernel_rfl) (by kernel_rfl) ⟨(Below.refl _ _).drew, (fun h => by cases h), (fun h => by cases h), (fun h => by cases h), fun h => by cases h⟩ ?_ ?_
            · intro x L tm w' hall hS hsz hlow hval
              have ht : tm = #[.slice A js.length c, .int .i64 ob, undef, undef, .slice none 0 0, x.2.2.2, .int .i64 (i : Int), .int .i64 (k : Int), .slice (some ⟨w.heap.size, 0, none⟩) 0 0, .int .i64 (i : Int), .slice A js.length c, .int .i64 (js.length : Int), .bool true, u13, u14, .int .i64 (k : Int), .slice (some ad) i cc, .int .i64 (i : Int), .bool true, .bool true, .slice A js.length c, .int .i64 ob, .slice (some ad) i cc, .int .i64 (k : Int), .pointer (some (ad.add k)), .int .i64 (x0 : Int), .int .i64 (i : Int), .int .i64 gg, .bool (decide (gg ≤ 0)), .bool (decide (gg ≤ 0)), u30, u31, .slice (some ad) i cc, .int .i64 (k : Int), .slice (some ad) k cc, x.1, .int .i64 (i : Int), .slice (some ⟨x.2.1, 0, none⟩) 1 1, x.2.2.1, .slice (some ad) i cc, .int .i64 (k : Int), .slice (some (tailAd ad k cc)) (i - k) (cc - k), x.2.2.2, undef] := by
                refine arr_of _ _ hsz fun t ht => ?_
                have ht' : t < 44 := ht
                rcases (by omega : t = 0 ∨ t = 1 ∨ t = 2 ∨ t = 3 ∨ t = 4 ∨ t = 5 ∨ t = 6 ∨ t = 7 ∨ t = 8 ∨ t = 9 ∨ t = 10 ∨ t = 11 ∨ t = 12 ∨ t = 13 ∨ t = 14 ∨ t = 15 ∨ t = 16 ∨ t = 17 ∨ t = 18 ∨ t = 19 ∨ t = 20 ∨ t = 21 ∨ t = 22 ∨ t = 23 ∨ t = 24 ∨ t = 25 ∨ t = 26 ∨ t = 27 ∨ t = 28 ∨ t = 29 ∨ t = 30 ∨ t = 31 ∨ t = 32 ∨ t = 33 ∨ t = 34 ∨ t = 35 ∨ t = 36 ∨ t = 37 ∨ t = 38 ∨ t = 39 ∨ t = 40 ∨ t = 41 ∨ t = 42 ∨ t = 43) with rfl | rfl | rfl | rfl | rfl | rfl | rfl | rfl | rfl | rfl | rfl | rfl | rfl | rfl | rfl | rfl | rfl | rfl | rfl | rfl | rfl | rfl | rfl | rfl | rfl | rfl | rfl | rfl | rfl | rfl | rfl | rfl | rfl | rfl | rfl | rfl | rfl | rfl | rfl | rfl | rfl | rfl | rfl | rfl
                · exact hlow 0 (by kernel_rfl)
                · exact hlow 1 (by kernel_rfl)
                · exact hlow 2 (by kernel_rfl)
                · exact hlow 3 (by kernel_rfl)
                · exact hlow 4 (by kernel_rfl)
                · exact hval 11 _ 5 rfl rfl
                · exact hlow 6 (by kernel_rfl)
                · exact hlow 7 (by kernel_rfl)
                · exact hlow 8 (by kernel_rfl)
                · exact hlow 9 (by kernel_rfl)
                · exact hlow 10 (by kernel_rfl)
                · exact hlow 11 (by kernel_rfl)
                · exact hlow 12 (by kernel_rfl)
                · exact hlow 13 (by kernel_rfl)
                · exact hlow 14 (by kernel_rfl)
                · exact hlow 15 (by kernel_rfl)
                · exact hlow 16 (by kernel_rfl)
                · exact hlow 17 (by kernel_rfl)
                · exact hlow 18 (by kernel_rfl)
                · exact hlow 19 (by kernel_rfl)
                · exact hlow 20 (by kernel_rfl)
                · exact hlow 21 (by kernel_rfl)
                · exact hlow 22 (by kernel_rfl)
                · exact hlow 23 (by kernel_rfl)
                · exact hlow 24 (by kernel_rfl)
                · exact hlow 25 (by kernel_rfl)
                · exact hlow 26 (by kernel_rfl)
                · exact hlow 27 (by kernel_rfl)
                · exact hlow 28 (by kernel_rfl)
                · exact hlow 29 (by kernel_rfl)
                · exact hlow 30 (by kernel_rfl)
                · exact hlow 31 (by kernel_rfl)
                · exact hval 0 _ 32 rfl rfl
                · exact hval 1 _ 33 rfl rfl
                · exact hval 2 _ 34 rfl rfl
                · exact hval 3 _ 35 rfl rfl
                · exact hval 4 _ 36 rfl rfl
                · exact hval 5 _ 37 rfl rfl
                · exact hval 6 _ 38 rfl rfl
                · exact hval 7 _ 39 rfl rfl
                · exact hval 8 _ 40 rfl rfl
                · exact hval 9 _ 41 rfl rfl
                · exact hval 10 _ 42 rfl rfl
                · exact hlow 43 (by kernel_rfl)
              subst ht
              clear hlow hval hsz
              obtain ⟨hbz, _, _, _, hS4⟩ := hS
              have hfin := (hS4 (hall 10 (by decide))).2
              rw [HFI.out] at hfin
              have HO4 := Lib.hid (And.intro hfin hbz)
              clear hS4 hbz hall hfin
              obtain ⟨g4, _, hx4, _⟩ := own_block2 HO4.out.1 (by omega)
              generalize x.2.2.2 = y4 at *
              obtain ⟨c4, hx4⟩ := hx4
              subst hx4
              go_wp2
              go_roundw
              case rel => exact ⟨i + 1, ⟨g4, 0, none⟩, c4, by omega, rfl, by go_num, own_lower HO4.out.1 HBW.out.size, HBW.out.trans (HO4.out.2.mono HBW.out.size)⟩
              case measure => simp [intOf]; omega
            · intro x L a w' kk op hLs ho hLi hLd hLn ⟨hS0, hS1, hS2, hS3, hS4⟩ hlow hdep hold
              have hkk : kk < 12 := (Array.getElem?_eq_some_iff.1 ho).1
              have l6 : a.tmps[6]?.getD undef = .int .i64 (i : Int) := by rw [← Array.getD_eq_getD_getElem?]; exact hlow 6 (by kernel_rfl)
              have l7 : a.tmps[7]?.getD undef = .int .i64 (k : Int) := by rw [← Array.getD_eq_getD_getElem?]; exact hlow 7 (by kernel_rfl)
              have D : ∀ j oj d, edgeB _ kk j = true → _ → _ → a.tmps[d]?.getD undef = _ := fun j oj d h1 h2 h3 => (Array.getD_eq_getD_getElem? ..).symm.trans (hdep j oj d h1 h2 h3)
              have K : ∀ {kk : Nat}, kk ≠ 3 → kk ≠ 5 → kk ≠ 6 → kk ≠ 10 → Below w1.heap.size w1 w' ∧ ((L.setIfInBounds kk true).getD 3 true = true → (L.setIfInBounds kk true).getD 6 true = false → w'.ownsRow w1.heap.size 3 1 x.1 k (ic (oI.take k))) ∧ ((L.setIfInBounds kk true).getD 5 true = true → (L.setIfInBounds kk true).getD 6 true = false → BlockIs w' x.2.1 3 #[.int .i64 (i : Int)]) ∧ ((L.setIfInBounds kk true).getD 6 true = true → (L.setIfInBounds kk true).getD 10 true = false → w'.ownsRow w1.heap.size 3 1 x.2.2.1 (k + 1) (ic (oI.take k ++ [(i : Int)]))) ∧ ((L.setIfInBounds kk true).getD 10 true = true → (L.setIfInBounds kk true).getD 6 true = true ∧ w'.ownsRow w1.heap.size 3 1 x.2.2.2 (i + 1) (ic (oI.take k ++ [(i : Int)] ++ oI.drop k))) := fun h3 h5 h6 h10 => ⟨hS0, by rw [set_ne h3, set_ne h6]; exact hS1, by rw [set_ne h5, set_ne h6]; exact hS2, by rw [set_ne h6, set_ne h10]; exact hS3, by rw [set_ne h10, set_ne h6]; exact hS4⟩
              rcases (by omega : kk = 0 ∨ kk = 1 ∨ kk = 2 ∨ kk = 3 ∨ kk = 4 ∨ kk = 5 ∨ kk = 6 ∨ kk = 7 ∨ kk = 8 ∨ kk = 9 ∨ kk = 10 ∨ kk = 11) with rfl | rfl | rfl | rfl | rfl | rfl | rfl | rfl | rfl | rfl | rfl | rfl
              · obtain rfl := Option.some.inj ho
                have l5 : a.tmps[5]?.getD undef = .slice (some ad) i cc := (Array.getD_eq_getD_getElem? ..).symm.trans (hold 11 _ 5 (by kernel_rfl) rfl rfl)
                exact ⟨rfl, .inl ⟨x, w', fun _ _ => rfl, by simp [execOp, Act.eval, l5, go_sem], K (by decide) (by decide) (by decide) (by decide)⟩⟩
              · obtain rfl := Option.some.inj ho
                exact ⟨rfl, .inl ⟨x, w', fun _ _ => rfl, by simp [execOp, Act.eval, l7, go_sem], K (by decide) (by decide) (by decide) (by decide)⟩⟩
              · obtain rfl := Option.some.inj ho
                have e32 : a.tmps[32]?.getD undef = .slice (some ad) i cc := D 0 _ 32 (by kernel_rfl) rfl rfl
                have e33 : a.tmps[33]?.getD undef = .int .i64 (k : Int) := D 1 _ 33 (by kernel_rfl) rfl rfl
                have x32 : a.eval (.tmp 32) = .slice (some ad) i cc := by simp [Act.eval, e32]
                have x33 : a.eval (.tmp 33) = .int .i64 (k : Int) := by simp [Act.eval, e33]
                have hsl : (Instr.sliceAt 35 (a.eval (.tmp 32)) none ((some (Operand.tmp 33)).map a.eval) none).run Try.prog w' = .ok (.slice (some ad) k cc) w' := by
                  rw [x32, Option.map_some, x33]; exact slice_h ad _ cc k w' (by omega)
                exact ⟨rfl, .inl ⟨x, w', fun _ _ => rfl, exec_slice rfl hsl, K (by decide) (by decide) (by decide) (by decide)⟩⟩
              · obtain rfl := Option.some.inj ho
                have e34 : a.tmps[34]?.getD undef = .slice (some ad) k cc := D 2 _ 34 (by kernel_rfl) rfl rfl
                refine ⟨rfl, .inr ⟨123, #[.slice (some ad) k cc], by simp [execOp, Act.eval, e34, go_sem], (own_part (k := k) (HRW.out.below hS0) (by omega) (by omega)).mono ?_⟩⟩
                rintro e w'' ⟨ad', c', rfl, hown, hb4⟩
                refine ⟨(.slice (some ad') k c', x.2), fun j hj => ?_, rfl, hS0.trans (hb4.mono hS0.size), (fun _ _ => own_lower hown hS0.size), (fun h h' => ?_), (fun h => ?_), fun h => ?_⟩
                · have n3 : j ≠ 3 := fun e => by subst e; rw [hLi] at hj; cases hj
                  exact but_o3 j n3
                · rw [set_ne (by decide)] at h h'; exact (hS2 h h').below hb4
                · rw [set_ne (by decide), hLn 6 (by kernel_rfl)] at h; cases h
                · rw [set_ne (by decide)] at h; have h9 := (hS4 h).1; rw [hLn 6 (by kernel_rfl)] at h9; cases h9
              · obtain rfl := Option.some.inj ho
                exact ⟨rfl, .inl ⟨x, w', fun _ _ => rfl, by simp [execOp, Act.eval, l6, go_sem], K (by decide) (by decide) (by decide) (by decide)⟩⟩
              · obtain rfl := Option.some.inj ho
                have e36 : a.tmps[36]?.getD undef = .int .i64 (i : Int) := D 4 _ 36 (by kernel_rfl) rfl rfl
                refine ⟨rfl, .inl ⟨(x.1, w'.heap.size, x.2.2), w'.alloc (.cells #[.int .i64 (i : Int)] 3), fun j hj => ?_, by simp [execOp, Act.eval, e36, go_sem], hS0.alloc hS0.size _, (fun h h' => ?_), (fun _ _ => BlockIs.new _ _ _), (fun h => ?_), fun h => ?_⟩⟩
                · have n5 : j ≠ 5 := fun e => by subst e; rw [hLi] at hj; cases hj
                  exact but_o5 j n5
                · rw [set_ne (by decide)] at h h'; exact (hS1 h h').alloc _
                · rw [set_ne (by decide), hLn 6 (by kernel_rfl)] at h; cases h
                · rw [set_ne (by decide)] at h; have h9 := (hS4 h).1; rw [hLn 6 (by kernel_rfl)] at h9; cases h9
              · obtain rfl := Option.some.inj ho
                have e35 : a.tmps[35]?.getD undef = x.1 := D 3 _ 35 (by kernel_rfl) rfl rfl
                have e37 : a.tmps[37]?.getD undef = .slice (some ⟨x.2.1, 0, none⟩) 1 1 := D 5 _ 37 (by kernel_rfl) rfl rfl
                have x35 : a.eval (.tmp 35) = x.1 := by simp [Act.eval, e35]
                have x37 : a.eval (.tmp 37) = .slice (some ⟨x.2.1, 0, none⟩) 1 1 := by simp [Act.eval, e37]
                have hown := hS1 (hLd 3 (by kernel_rfl)) hLi
                have hB8 := hS2 (hLd 5 (by kernel_rfl)) hLi
                have hsrc : ∀ j u, (ic [(i : Int)])[j]? = some u → w'.cell? ((⟨x.2.1, 0, none⟩ : Addr).add j) = some u := fun j u hu => by rw [Addr.add_lit, Nat.zero_add, hB8.cell, ← Array.getElem?_toList]; exact hu
                obtain ⟨v', w'', hrun, hown', hgrow, hnil⟩ := run_append_own (P := Try.prog) w' w1.heap.size 35 35 3 i0 (.int .i64 0) 1 8 Try.underlying35 hi hz0 hz1 hz2 rfl (by decide) x.1 k _ hown ⟨x.2.1, 0, none⟩ 1 1 (ic [(i : Int)]) rfl hsrc ic_one (by unfold maxLen; omega) (by omega) hS0.size
                have hbz : Below w1.heap.size w1 w'' := hS0.grown hgrow hS0.size (fun b hb => (hown.lt b hb).1)
                refine ⟨rfl, .inl ⟨(x.1, x.2.1, v', x.2.2.2), w'', fun j hj => ?_, exec_append rfl x35 x37 hrun, hbz, (fun _ h => ?_), (fun _ h => ?_), (fun _ _ => ?_), fun h => ?_⟩⟩
                · have n6 : j ≠ 6 := fun e => by subst e; rw [hLi] at hj; cases hj
                  exact but_o6 j n6
                · rw [set_eq (by rw [hLs]; decide)] at h; cases h
                · rw [set_eq (by rw [hLs]; decide)] at h; cases h
                · have hx : ic (oI.take k) ++ ic [(i : Int)] = ic (oI.take k ++ [(i : Int)]) := by unfold ic; simp
                  rw [hx] at hown'; exact hown'
                · rw [set_ne (by decide), hLn 10 (by kernel_rfl)] at h; cases h
              · obtain rfl := Option.some.inj ho
                have l5 : a.tmps[5]?.getD undef = .slice (some ad) i cc := (Array.getD_eq_getD_getElem? ..).symm.trans (hold 11 _ 5 (by kernel_rfl) rfl rfl)
                exact ⟨rfl, .inl ⟨x, w', fun _ _ => rfl, by simp [execOp, Act.eval, l5, go_sem], K (by decide) (by decide) (by decide) (by decide)⟩⟩
              · obtain rfl := Option.some.inj ho
                exact ⟨rfl, .inl ⟨x, w', fun _ _ => rfl, by simp [execOp, Act.eval, l7, go_sem], K (by decide) (by decide) (by decide) (by decide)⟩⟩
              · obtain rfl := Option.some.inj ho
                have e39 : a.tmps[39]?.getD undef = .slice (some ad) i cc := D 7 _ 39 (by kernel_rfl) rfl rfl
                have e40 : a.tmps[40]?.getD undef = .int .i64 (k : Int) := D 8 _ 40 (by kernel_rfl) rfl rfl
                have x39 : a.eval (.tmp 39) = .slice (some ad) i cc := by simp [Act.eval, e39]
                have x40 : a.eval (.tmp 40) = .int .i64 (k : Int) := by simp [Act.eval, e40]
                have hsl : (Instr.sliceAt 35 (a.eval (.tmp 39)) ((some (Operand.tmp 40)).map a.eval) none none).run Try.prog w' = .ok (.slice (some (tailAd ad k cc)) (i - k) (cc - k)) w' := by
                  rw [x39, Option.map_some, x40]; exact slice_l ad _ cc k w' (by omega)
                exact ⟨rfl, .inl ⟨x, w', fun _ _ => rfl, exec_slice rfl hsl, K (by decide) (by decide) (by decide) (by decide)⟩⟩
              · obtain rfl := Option.some.inj ho
                have e38 : a.tmps[38]?.getD undef = x.2.2.1 := D 6 _ 38 (by kernel_rfl) rfl rfl
                have e41 : a.tmps[41]?.getD undef = .slice (some (tailAd ad k cc)) (i - k) (cc - k) := D 9 _ 41 (by kernel_rfl) rfl rfl
                have x38 : a.eval (.tmp 38) = x.2.2.1 := by simp [Act.eval, e38]
                have x41 : a.eval (.tmp 41) = .slice (some (tailAd ad k cc)) (i - k) (cc - k) := by simp [Act.eval, e41]
                have t9 : L.getD 6 true = true := hLd 6 (by kernel_rfl)
                have hown := hS3 t9 hLi
                obtain ⟨v', w'', hrun, hown', hgrow, hnil⟩ := run_append_own (P := Try.prog) w' w1.heap.size 35 35 3 i0 (.int .i64 0) 1 8 Try.underlying35 hi hz0 hz1 hz2 rfl (by decide) x.2.2.1 (k + 1) _ hown (tailAd ad k cc) (i - k) (cc - k) (ic (oI.drop k)) (by rw [ic_len]; simp; omega) (tail_src (HRW.out.below hS0) (by omega)) ic_one (by unfold maxLen; omega) (by omega) hS0.size
                have hbz : Below w1.heap.size w1 w'' := hS0.grown hgrow hS0.size (fun b hb => (hown.lt b hb).1)
                refine ⟨rfl, .inl ⟨(x.1, x.2.1, x.2.2.1, v'), w'', fun j hj => ?_, exec_append rfl x38 x41 hrun, hbz, (fun _ h => ?_), (fun _ h => ?_), (fun _ h => ?_), fun _ => ?_⟩⟩
                · have n10 : j ≠ 10 := fun e => by subst e; rw [hLi] at hj; cases hj
                  have f11 : L.getD 11 true = false := hLn 11 (by kernel_rfl)
                  have n11 : j ≠ 11 := fun e => by subst e; rw [f11] at hj; cases hj
                  exact but_o10 j n10 n11
                · rw [set_ne (by decide), t9] at h; cases h
                · rw [set_ne (by decide), t9] at h; cases h
                · rw [set_eq (by rw [hLs]; decide)] at h; cases h
                · have hx : ic (oI.take k ++ [(i : Int)]) ++ ic (oI.drop k) = ic (oI.take k ++ [(i : Int)] ++ oI.drop k) := by unfold ic; simp
                  rw [hx, show k + 1 + (i - k) = i + 1 by omega] at hown'; exact ⟨by rw [set_ne (by decide)]; exact t9, hown'⟩
              · obtain rfl := Option.some.inj ho
                have e42 : a.tmps[42]?.getD undef = x.2.2.2 := D 10 _ 42 (by kernel_rfl) rfl rfl
                exact ⟨rfl, .inl ⟨x, w', fun _ _ => rfl, by simp [execOp, Act.eval, e42, go_sem], K (by decide) (by decide) (by decide) (by decide)⟩⟩
        · have HF := Lib.hid (HINS.out.trans (insN_at ob js i out k (by omega) HG.out (fun h => absurd h (by omega))))
          have hk1 : ¬ (k : Int) < i := by omega
          obtain ⟨w1, rfl⟩ : ∃ w1 : World, w1 = wr := ⟨_, rfl⟩
          have HRW := Lib.hid ((Row.of_own HO.out).below (HB.out))
          have HBW := Lib.hid (HW.out.trans ((HB.out).mono HW.out.size))
          have HFI : Hid (ic ((natI out).take k ++ [(i : Int)] ++ (natI out).drop k) = ic (natI (ruledTo ob js (i + 1)))) := by show _ = _; rw [HF.out]; unfold natI; simp
          have hoI : (natI out).length = out.length := by simp
          have hccs := (slice_some HO.out).2
          skip
          generalize natI out = oI at *
          have hoI1 : oI.length ≤ i := by omega
          have hoI2 : i ≤ oI.length := by omega
          clear hoI HF HG HINS
          go_wp2
          refine wp_region_detG (by kernel_rfl) (fun x L w' => Below w1.heap.size w1 w' ∧ (L.getD 3 true = true → L.getD 6 true = false → w'.ownsRow w1.heap.size 3 1 x.1 k (ic (oI.take k))) ∧ (L.getD 5 true = true → L.getD 6 true = false → BlockIs w' x.2.1 3 #[.int .i64 (i : Int)]) ∧ (L.getD 6 true = true → L.getD 10 true = false → w'.ownsRow w1.heap.size 3 1 x.2.2.1 (k + 1) (ic (oI.take k ++ [(i : Int)]))) ∧ (L.getD 10 true = true → L.getD 6 true = true ∧ w'.ownsRow w1.heap.size 3 1 x.2.2.2 (i + 1) (ic (oI.take k ++ [(i : Int)] ++ oI.drop k))))
            (fun x kk => #[.slice (some ad) i cc, .int .i64 (k : Int), .slice (some ad) k cc, x.1, .int .i64 (i : Int), .slice (some ⟨x.2.1, 0, none⟩) 1 1, x.2.2.1, .slice (some ad) i cc, .int .i64 (k : Int), .slice (some (tailAd ad k cc)) (i - k) (cc - k), x.2.2.2, x.2.2.2].getD kk undef) (undef, 0, undef, undef) (by kernel_rfl) (by kernel_rfl) ⟨(Below.refl _ _).drew, (fun h => by cases h), (fun h => by cases h), (fun h => by cases h), fun h => by cases h⟩ ?_ ?_
          · intro x L tm w' hall hS hsz hlow hval
            have ht : tm = #[.slice A js.length c, .int .i64 ob, undef, undef, .slice none 0 0, x.2.2.2, .int .i64 (i : Int), .int .i64 (k : Int), .slice (some ⟨w.heap.size, 0, none⟩) 0 0, .int .i64 (i : Int), .slice A js.length c, .int .i64 (js.length : Int), .bool true, u13, u14, .int .i64 (k : Int), .slice (some ad) i cc, .int .i64 (i : Int), .bool false, .bool false, undef, undef, undef, undef, undef, undef, undef, undef, undef, .bool false, u30, u31, .slice (some ad) i cc, .int .i64 (k : Int), .slice (some ad) k cc, x.1, .int .i64 (i : Int), .slice (some ⟨x.2.1, 0, none⟩) 1 1, x.2.2.1, .slice (some ad) i cc, .int .i64 (k : Int), .slice (some (tailAd ad k cc)) (i - k) (cc - k), x.2.2.2, undef] := by
              refine arr_of _ _ hsz fun t ht => ?_
              have ht' : t < 44 := ht
              rcases (by omega : t = 0 ∨ t = 1 ∨ t = 2 ∨ t = 3 ∨ t = 4 ∨ t = 5 ∨ t = 6 ∨ t = 7 ∨ t = 8 ∨ t = 9 ∨ t = 10 ∨ t = 11 ∨ t = 12 ∨ t = 13 ∨ t = 14 ∨ t = 15 ∨ t = 16 ∨ t = 17 ∨ t = 18 ∨ t = 19 ∨ t = 20 ∨ t = 21 ∨ t = 22 ∨ t = 23 ∨ t = 24 ∨ t = 25 ∨ t = 26 ∨ t = 27 ∨ t = 28 ∨ t = 29 ∨ t = 30 ∨ t = 31 ∨ t = 32 ∨ t = 33 ∨ t = 34 ∨ t = 35 ∨ t = 36 ∨ t = 37 ∨ t = 38 ∨ t = 39 ∨ t = 40 ∨ t = 41 ∨ t = 42 ∨ t = 43) with rfl | rfl | rfl | rfl | rfl | rfl | rfl | rfl | rfl | rfl | rfl | rfl | rfl | rfl | rfl | rfl | rfl | rfl | rfl | rfl | rfl | rfl | rfl | rfl | rfl | rfl | rfl | rfl | rfl | rfl | rfl | rfl | rfl | rfl | rfl | rfl | rfl | rfl | rfl | rfl | rfl | rfl | rfl | rfl
              · exact hlow 0 (by kernel_rfl)
              · exact hlow 1 (by kernel_rfl)
              · exact hlow 2 (by kernel_rfl)
              · exact hlow 3 (by kernel_rfl)
              · exact hlow 4 (by kernel_rfl)
              · exact hval 11 _ 5 rfl rfl
              · exact hlow 6 (by kernel_rfl)
              · exact hlow 7 (by kernel_rfl)
              · exact hlow 8 (by kernel_rfl)
              · exact hlow 9 (by kernel_rfl)
              · exact hlow 10 (by kernel_rfl)
              · exact hlow 11 (by kernel_rfl)
              · exact hlow 12 (by kernel_rfl)
              · exact hlow 13 (by kernel_rfl)
              · exact hlow 14 (by kernel_rfl)
              · exact hlow 15 (by kernel_rfl)
              · exact hlow 16 (by kernel_rfl)
              · exact hlow 17 (by kernel_rfl)
              · exact hlow 18 (by kernel_rfl)
              · exact hlow 19 (by kernel_rfl)
              · exact hlow 20 (by kernel_rfl)
              · exact hlow 21 (by kernel_rfl)
              · exact hlow 22 (by kernel_rfl)
              · exact hlow 23 (by kernel_rfl)
              · exact hlow 24 (by kernel_rfl)
              · exact hlow 25 (by kernel_rfl)
              · exact hlow 26 (by kernel_rfl)
              · exact hlow 27 (by kernel_rfl)
              · exact hlow 28 (by kernel_rfl)
              · exact hlow 29 (by kernel_rfl)
              · exact hlow 30 (by kernel_rfl)
              · exact hlow 31 (by kernel_rfl)
              · exact hval 0 _ 32 rfl rfl
              · exact hval 1 _ 33 rfl rfl
              · exact hval 2 _ 34 rfl rfl
              · exact hval 3 _ 35 rfl rfl
              · exact hval 4 _ 36 rfl rfl
              · exact hval 5 _ 37 rfl rfl
              · exact hval 6 _ 38 rfl rfl
              · exact hval 7 _ 39 rfl rfl
              · exact hval 8 _ 40 rfl rfl
              · exact hval 9 _ 41 rfl rfl
              · exact hval 10 _ 42 rfl rfl
              · exact hlow 43 (by kernel_rfl)
            subst ht
            clear hlow hval hsz
            obtain ⟨hbz, _, _, _, hS4⟩ := hS
            have hfin := (hS4 (hall 10 (by decide))).2
            rw [HFI.out] at hfin
            have HO4 := Lib.hid (And.intro hfin hbz)
            clear hS4 hbz hall hfin
            obtain ⟨g4, _, hx4, _⟩ := own_block2 HO4.out.1 (by omega)
            generalize x.2.2.2 = y4 at *
            obtain ⟨c4, hx4⟩ := hx4
            subst hx4
            go_wp2
            go_roundw
            case rel => exact ⟨i + 1, ⟨g4, 0, none⟩, c4, by omega, rfl, by go_num, own_lower HO4.out.1 HBW.out.size, HBW.out.trans (HO4.out.2.mono HBW.out.size)⟩
            case measure => simp [intOf]; omega
          · intro x L a w' kk op hLs ho hLi hLd hLn ⟨hS0, hS1, hS2, hS3, hS4⟩ hlow hdep hold
            have hkk : kk < 12 := (Array.getElem?_eq_some_iff.1 ho).1
            have l6 : a.tmps[6]?.getD undef = .int .i64 (i : Int) := by rw [← Array.getD_eq_getD_getElem?]; exact hlow 6 (by kernel_rfl)
            have l7 : a.tmps[7]?.getD undef = .int .i64 (k : Int) := by rw [← Array.getD_eq_getD_getElem?]; exact hlow 7 (by kernel_rfl)
            have D : ∀ j oj d, edgeB _ kk j = true → _ → _ → a.tmps[d]?.getD undef = _ := fun j oj d h1 h2 h3 => (Array.getD_eq_getD_getElem? ..).symm.trans (hdep j oj d h1 h2 h3)
            have K : ∀ {kk : Nat}, kk ≠ 3 → kk ≠ 5 → kk ≠ 6 → kk ≠ 10 → Below w1.heap.size w1 w' ∧ ((L.setIfInBounds kk true).getD 3 true = true → (L.setIfInBounds kk true).getD 6 true = false → w'.ownsRow w1.heap.size 3 1 x.1 k (ic (oI.take k))) ∧ ((L.setIfInBounds kk true).getD 5 true = true → (L.setIfInBounds kk true).getD 6 true = false → BlockIs w' x.2.1 3 #[.int .i64 (i : Int)]) ∧ ((L.setIfInBounds kk true).getD 6 true = true → (L.setIfInBounds kk true).getD 10 true = false → w'.ownsRow w1.heap.size 3 1 x.2.2.1 (k + 1) (ic (oI.take k ++ [(i : Int)]))) ∧ ((L.setIfInBounds kk true).getD 10 true = true → (L.setIfInBounds kk true).getD 6 true = true ∧ w'.ownsRow w1.heap.size 3 1 x.2.2.2 (i + 1) (ic (oI.take k ++ [(i : Int)] ++ oI.drop k))) := fun h3 h5 h6 h10 => ⟨hS0, by rw [set_ne h3, set_ne h6]; exact hS1, by rw [set_ne h5, set_ne h6]; exact hS2, by rw [set_ne h6, set_ne h10]; exact hS3, by rw [set_ne h10, set_ne h6]; exact hS4⟩
            rcases (by omega : kk = 0 ∨ kk = 1 ∨ kk = 2 ∨ kk = 3 ∨ kk = 4 ∨ kk = 5 ∨ kk = 6 ∨ kk = 7 ∨ kk = 8 ∨ kk = 9 ∨ kk = 10 ∨ kk = 11) with rfl | rfl | rfl | rfl | rfl | rfl | rfl | rfl | rfl | rfl | rfl | rfl
            · obtain rfl := Option.some.inj ho
              have l5 : a.tmps[5]?.getD undef = .slice (some ad) i cc := (Array.getD_eq_getD_getElem? ..).symm.trans (hold 11 _ 5 (by kernel_rfl) rfl rfl)
              exact ⟨rfl, .inl ⟨x, w', fun _ _ => rfl, by simp [execOp, Act.eval, l5, go_sem], K (by decide) (by decide) (by decide) (by decide)⟩⟩
            · obtain rfl := Option.some.inj ho
              exact ⟨rfl, .inl ⟨x, w', fun _ _ => rfl, by simp [execOp, Act.eval, l7, go_sem], K (by decide) (by decide) (by decide) (by decide)⟩⟩
            · obtain rfl := Option.some.inj ho
              have e32 : a.tmps[32]?.getD undef = .slice (some ad) i cc := D 0 _ 32 (by kernel_rfl) rfl rfl
              have e33 : a.tmps[33]?.getD undef = .int .i64 (k : Int) := D 1 _ 33 (by kernel_rfl) rfl rfl
              have x32 : a.eval (.tmp 32) = .slice (some ad) i cc := by simp [Act.eval, e32]
              have x33 : a.eval (.tmp 33) = .int .i64 (k : Int) := by simp [Act.eval, e33]
              have hsl : (Instr.sliceAt 35 (a.eval (.tmp 32)) none ((some (Operand.tmp 33)).map a.eval) none).run Try.prog w' = .ok (.slice (some ad) k cc) w' := by
                rw [x32, Option.map_some, x33]; exact slice_h ad _ cc k w' (by omega)
              exact ⟨rfl, .inl ⟨x, w', fun _ _ => rfl, exec_slice rfl hsl, K (by decide) (by decide) (by decide) (by decide)⟩⟩
            · obtain rfl := Option.some.inj ho
              have e34 : a.tmps[34]?.getD undef = .slice (some ad) k cc := D 2 _ 34 (by kernel_rfl) rfl rfl
              refine ⟨rfl, .inr ⟨123, #[.slice (some ad) k cc], by simp [execOp, Act.eval, e34, go_sem], (own_part (k := k) (HRW.out.below hS0) (by omega) (by omega)).mono ?_⟩⟩
              rintro e w'' ⟨ad', c', rfl, hown, hb4⟩
              refine ⟨(.slice (some ad') k c', x.2), fun j hj => ?_, rfl, hS0.trans (hb4.mono hS0.size), (fun _ _ => own_lower hown hS0.size), (fun h h' => ?_), (fun h => ?_), fun h => ?_⟩
              · have n3 : j ≠ 3 := fun e => by subst e; rw [hLi] at hj; cases hj
                exact but_o3 j n3
              · rw [set_ne (by decide)] at h h'; exact (hS2 h h').below hb4
              · rw [set_ne (by decide), hLn 6 (by kernel_rfl)] at h; cases h
              · rw [set_ne (by decide)] at h; have h9 := (hS4 h).1; rw [hLn 6 (by kernel_rfl)] at h9; cases h9
            · obtain rfl := Option.some.inj ho
              exact ⟨rfl, .inl ⟨x, w', fun _ _ => rfl, by simp [execOp, Act.eval, l6, go_sem], K (by decide) (by decide) (by decide) (by decide)⟩⟩
            · obtain rfl := Option.some.inj ho
              have e36 : a.tmps[36]?.getD undef = .int .i64 (i : Int) := D 4 _ 36 (by kernel_rfl) rfl rfl
              refine ⟨rfl, .inl ⟨(x.1, w'.heap.size, x.2.2), w'.alloc (.cells #[.int .i64 (i : Int)] 3), fun j hj => ?_, by simp [execOp, Act.eval, e36, go_sem], hS0.alloc hS0.size _, (fun h h' => ?_), (fun _ _ => BlockIs.new _ _ _), (fun h => ?_), fun h => ?_⟩⟩
              · have n5 : j ≠ 5 := fun e => by subst e; rw [hLi] at hj; cases hj
                exact but_o5 j n5
              · rw [set_ne (by decide)] at h h'; exact (hS1 h h').alloc _
              · rw [set_ne (by decide), hLn 6 (by kernel_rfl)] at h; cases h
              · rw [set_ne (by decide)] at h; have h9 := (hS4 h).1; rw [hLn 6 (by kernel_rfl)] at h9; cases h9
            · obtain rfl := Option.some.inj ho
              have e35 : a.tmps[35]?.getD undef = x.1 := D 3 _ 35 (by kernel_rfl) rfl rfl
              have e37 : a.tmps[37]?.getD undef = .slice (some ⟨x.2.1, 0, none⟩) 1 1 := D 5 _ 37 (by kernel_rfl) rfl rfl
              have x35 : a.eval (.tmp 35) = x.1 := by simp [Act.eval, e35]
              have x37 : a.eval (.tmp 37) = .slice (some ⟨x.2.1, 0, none⟩) 1 1 := by simp [Act.eval, e37]
              have hown := hS1 (hLd 3 (by kernel_rfl)) hLi
              have hB8 := hS2 (hLd 5 (by kernel_rfl)) hLi
              have hsrc : ∀ j u, (ic [(i : Int)])[j]? = some u → w'.cell? ((⟨x.2.1, 0, none⟩ : Addr).add j) = some u := fun j u hu => by rw [Addr.add_lit, Nat.zero_add, hB8.cell, ← Array.getElem?_toList]; exact hu
              obtain ⟨v', w'', hrun, hown', hgrow, hnil⟩ := run_append_own (P := Try.prog) w' w1.heap.size 35 35 3 i0 (.int .i64 0) 1 8 Try.underlying35 hi hz0 hz1 hz2 rfl (by decide) x.1 k _ hown ⟨x.2.1, 0, none⟩ 1 1 (ic [(i : Int)]) rfl hsrc ic_one (by unfold maxLen; omega) (by omega) hS0.size
              have hbz : Below w1.heap.size w1 w'' := hS0.grown hgrow hS0.size (fun b hb => (hown.lt b hb).1)
              refine ⟨rfl, .inl ⟨(x.1, x.2.1, v', x.2.2.2), w'', fun j hj => ?_, exec_append rfl x35 x37 hrun, hbz, (fun _ h => ?_), (fun _ h => ?_), (fun _ _ => ?_), fun h => ?_⟩⟩
              · have n6 : j ≠ 6 := fun e => by subst e; rw [hLi] at hj; cases hj
                exact but_o6 j n6
              · rw [set_eq (by rw [hLs]; decide)] at h; cases h
              · rw [set_eq (by rw [hLs]; decide)] at h; cases h
              · have hx : ic (oI.take k) ++ ic [(i : Int)] = ic (oI.take k ++ [(i : Int)]) := by unfold ic; simp
                rw [hx] at hown'; exact hown'
              · rw [set_ne (by decide), hLn 10 (by kernel_rfl)] at h; cases h
            · obtain rfl := Option.some.inj ho
              have l5 : a.tmps[5]?.getD undef = .slice (some ad) i cc := (Array.getD_eq_getD_getElem? ..).symm.trans (hold 11 _ 5 (by kernel_rfl) rfl rfl)
              exact ⟨rfl, .inl ⟨x, w', fun _ _ => rfl, by simp [execOp, Act.eval, l5, go_sem], K (by decide) (by decide) (by decide) (by decide)⟩⟩
            · obtain rfl := Option.some.inj ho
              exact ⟨rfl, .inl ⟨x, w', fun _ _ => rfl, by simp [execOp, Act.eval, l7, go_sem], K (by decide) (by decide) (by decide) (by decide)⟩⟩
            · obtain rfl := Option.some.inj ho
              have e39 : a.tmps[39]?.getD undef = .slice (some ad) i cc := D 7 _ 39 (by kernel_rfl) rfl rfl
              have e40 : a.tmps[40]?.getD undef = .int .i64 (k : Int) := D 8 _ 40 (by kernel_rfl) rfl rfl
              have x39 : a.eval (.tmp 39) = .slice (some ad) i cc := by simp [Act.eval, e39]
              have x40 : a.eval (.tmp 40) = .int .i64 (k : Int) := by simp [Act.eval, e40]
              have hsl : (Instr.sliceAt 35 (a.eval (.tmp 39)) ((some (Operand.tmp 40)).map a.eval) none none).run Try.prog w' = .ok (.slice (some (tailAd ad k cc)) (i - k) (cc - k)) w' := by
                rw [x39, Option.map_some, x40]; exact slice_l ad _ cc k w' (by omega)
              exact ⟨rfl, .inl ⟨x, w', fun _ _ => rfl, exec_slice rfl hsl, K (by decide) (by decide) (by decide) (by decide)⟩⟩
            · obtain rfl := Option.some.inj ho
              have e38 : a.tmps[38]?.getD undef = x.2.2.1 := D 6 _ 38 (by kernel_rfl) rfl rfl
              have e41 : a.tmps[41]?.getD undef = .slice (some (tailAd ad k cc)) (i - k) (cc - k) := D 9 _ 41 (by kernel_rfl) rfl rfl
              have x38 : a.eval (.tmp 38) = x.2.2.1 := by simp [Act.eval, e38]
              have x41 : a.eval (.tmp 41) = .slice (some (tailAd ad k cc)) (i - k) (cc - k) := by simp [Act.eval, e41]
              have t9 : L.getD 6 true = true := hLd 6 (by kernel_rfl)
              have hown := hS3 t9 hLi
              obtain ⟨v', w'', hrun, hown', hgrow, hnil⟩ := run_append_own (P := Try.prog) w' w1.heap.size 35 35 3 i0 (.int .i64 0) 1 8 Try.underlying35 hi hz0 hz1 hz2 rfl (by decide) x.2.2.1 (k + 1) _ hown (tailAd ad k cc) (i - k) (cc - k) (ic (oI.drop k)) (by rw [ic_len]; simp; omega) (tail_src (HRW.out.below hS0) (by omega)) ic_one (by unfold maxLen; omega) (by omega) hS0.size
              have hbz : Below w1.heap.size w1 w'' := hS0.grown hgrow hS0.size (fun b hb => (hown.lt b hb).1)
              refine ⟨rfl, .inl ⟨(x.1, x.2.1, x.2.2.1, v'), w'', fun j hj => ?_, exec_append rfl x38 x41 hrun, hbz, (fun _ h => ?_), (fun _ h => ?_), (fun _ h => ?_), fun _ => ?_⟩⟩
              · have n10 : j ≠ 10 := fun e => by subst e; rw [hLi] at hj; cases hj
                have f11 : L.getD 11 true = false := hLn 11 (by kernel_rfl)
                have n11 : j ≠ 11 := fun e => by subst e; rw [f11] at hj; cases hj
                exact but_o10 j n10 n11
              · rw [set_ne (by decide), t9] at h; cases h
              · rw [set_ne (by decide), t9] at h; cases h
              · rw [set_eq (by rw [hLs]; decide)] at h; cases h
              · have hx : ic (oI.take k ++ [(i : Int)]) ++ ic (oI.drop k) = ic (oI.take k ++ [(i : Int)] ++ oI.drop k) := by unfold ic; simp
                rw [hx, show k + 1 + (i - k) = i + 1 by omega] at hown'; exact ⟨by rw [set_ne (by decide)]; exact t9, hown'⟩
            · obtain rfl := Option.some.inj ho
              have e42 : a.tmps[42]?.getD undef = x.2.2.2 := D 10 _ 42 (by kernel_rfl) rfl rfl
              exact ⟨rfl, .inl ⟨x, w', fun _ _ => rfl, by simp [execOp, Act.eval, e42, go_sem], K (by decide) (by decide) (by decide) (by decide)⟩⟩
    · obtain rfl : i = js.length := by omega
      go_wp2
      go_ret
      exact ⟨_, rfl, HO.out, HW.out⟩
end
end Go.Proofs.Ytpjjjbkjkhcbdaa
