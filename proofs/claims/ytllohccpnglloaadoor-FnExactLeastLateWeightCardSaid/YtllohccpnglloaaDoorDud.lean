/- Jobs put in due order: the model's l6Due. -/
import Derived.Test.YtllohccpnglloaaDoorDue
namespace Go.Proofs.YtllohccpnglloaaDoor
open Go.RowKit
theorem empty_neS {w : World} {B g : Nat} {t : TypeId} {v : Value} (h : w.ownsRow B 3 1 (.slice (some ⟨g, 0, none⟩) 0 0) 0 []) (hb : BlockIs w g t #[v]) : False := by
  rcases h.2 with ⟨h0, _⟩ | ⟨g', cap, cur, h0, _, hk, _, _, h3, _⟩
  · cases h0
  · injection h0 with h0 _ h2
    injection h0 with h0
    injection h0 with h0
    subst h0 h2
    rw [show w.heap[g]? = _ from hb] at hk
    injection hk with hk
    injection hk with hk _
    subst hk
    simp at h3
theorem head_srcS {w : World} {ad : Addr} {xs : List Int} {k : Nat} (h : Row w (some ad) (ic xs)) : ∀ j u, (ic (xs.take k))[j]? = some u → w.cell? (ad.add j) = some u := fun j u hu => by
  refine row_src h j u ?_
  unfold ic at hu ⊢
  rw [List.map_take, List.getElem?_take] at hu
  split at hu
  · exact hu
  · cases hu
theorem own_block2S {w : World} {B n : Nat} {v : Value} {cs : List Value} (h : w.ownsRow B 3 1 v n cs) (hn : 0 < n) : ∃ g, B ≤ g ∧ (∃ c, v = .slice (some ⟨g, 0, none⟩) n c) ∧ True := by
  rcases h.2 with ⟨_, h0⟩ | ⟨g, cap, cur, hv, hb, _⟩
  · omega
  · exact ⟨g, hb, ⟨cap, hv⟩, trivial⟩
theorem but_i0 {a0 b0 v1 v10 v11 v12 v13 v14 v15 v2 v3 v4 v5 v6 v7 v8 v9 : Value} (j : Nat) (h0 : j ≠ 0) : (#[a0, v1, v2, v3, v4, v5, v6, v7, v8, v9, v10, v11, v12, v13, v14, v15] : Array Value).getD j undef = (#[b0, v1, v2, v3, v4, v5, v6, v7, v8, v9, v10, v11, v12, v13, v14, v15] : Array Value).getD j undef := by
  rcases (by omega : j = 1 ∨ j = 2 ∨ j = 3 ∨ j = 4 ∨ j = 5 ∨ j = 6 ∨ j = 7 ∨ j = 8 ∨ j = 9 ∨ j = 10 ∨ j = 11 ∨ j = 12 ∨ j = 13 ∨ j = 14 ∨ j = 15 ∨ 15 < j) with rfl | rfl | rfl | rfl | rfl | rfl | rfl | rfl | rfl | rfl | rfl | rfl | rfl | rfl | rfl | h
  all_goals first | rfl | (simp only [Array.getD_eq_getD_getElem?]; rw [Array.getElem?_eq_none (by simp; omega), Array.getElem?_eq_none (by simp; omega)])
theorem but_i4 {a4 b4 v0 v1 v10 v11 v12 v13 v14 v15 v2 v3 v5 v6 v7 v8 v9 : Value} (j : Nat) (h4 : j ≠ 4) : (#[v0, v1, v2, v3, a4, v5, v6, v7, v8, v9, v10, v11, v12, v13, v14, v15] : Array Value).getD j undef = (#[v0, v1, v2, v3, b4, v5, v6, v7, v8, v9, v10, v11, v12, v13, v14, v15] : Array Value).getD j undef := by
  rcases (by omega : j = 0 ∨ j = 1 ∨ j = 2 ∨ j = 3 ∨ j = 5 ∨ j = 6 ∨ j = 7 ∨ j = 8 ∨ j = 9 ∨ j = 10 ∨ j = 11 ∨ j = 12 ∨ j = 13 ∨ j = 14 ∨ j = 15 ∨ 15 < j) with rfl | rfl | rfl | rfl | rfl | rfl | rfl | rfl | rfl | rfl | rfl | rfl | rfl | rfl | rfl | h
  all_goals first | rfl | (simp only [Array.getD_eq_getD_getElem?]; rw [Array.getElem?_eq_none (by simp; omega), Array.getElem?_eq_none (by simp; omega)])
theorem but_i9 {a9 b9 v0 v1 v10 v11 v12 v13 v14 v15 v2 v3 v4 v5 v6 v7 v8 : Value} (j : Nat) (h9 : j ≠ 9) : (#[v0, v1, v2, v3, v4, v5, v6, v7, v8, a9, v10, v11, v12, v13, v14, v15] : Array Value).getD j undef = (#[v0, v1, v2, v3, v4, v5, v6, v7, v8, b9, v10, v11, v12, v13, v14, v15] : Array Value).getD j undef := by
  rcases (by omega : j = 0 ∨ j = 1 ∨ j = 2 ∨ j = 3 ∨ j = 4 ∨ j = 5 ∨ j = 6 ∨ j = 7 ∨ j = 8 ∨ j = 10 ∨ j = 11 ∨ j = 12 ∨ j = 13 ∨ j = 14 ∨ j = 15 ∨ 15 < j) with rfl | rfl | rfl | rfl | rfl | rfl | rfl | rfl | rfl | rfl | rfl | rfl | rfl | rfl | rfl | h
  all_goals first | rfl | (simp only [Array.getD_eq_getD_getElem?]; rw [Array.getElem?_eq_none (by simp; omega), Array.getElem?_eq_none (by simp; omega)])
theorem but_i10 {a10 b10 v0 v1 v11 v12 v13 v14 v15 v2 v3 v4 v5 v6 v7 v8 v9 : Value} (j : Nat) (h10 : j ≠ 10) : (#[v0, v1, v2, v3, v4, v5, v6, v7, v8, v9, a10, v11, v12, v13, v14, v15] : Array Value).getD j undef = (#[v0, v1, v2, v3, v4, v5, v6, v7, v8, v9, b10, v11, v12, v13, v14, v15] : Array Value).getD j undef := by
  rcases (by omega : j = 0 ∨ j = 1 ∨ j = 2 ∨ j = 3 ∨ j = 4 ∨ j = 5 ∨ j = 6 ∨ j = 7 ∨ j = 8 ∨ j = 9 ∨ j = 11 ∨ j = 12 ∨ j = 13 ∨ j = 14 ∨ j = 15 ∨ 15 < j) with rfl | rfl | rfl | rfl | rfl | rfl | rfl | rfl | rfl | rfl | rfl | rfl | rfl | rfl | rfl | h
  all_goals first | rfl | (simp only [Array.getD_eq_getD_getElem?]; rw [Array.getElem?_eq_none (by simp; omega), Array.getElem?_eq_none (by simp; omega)])
theorem but_i14 {a14 a15 b14 b15 v0 v1 v10 v11 v12 v13 v2 v3 v4 v5 v6 v7 v8 v9 : Value} (j : Nat) (h14 : j ≠ 14) (h15 : j ≠ 15) : (#[v0, v1, v2, v3, v4, v5, v6, v7, v8, v9, v10, v11, v12, v13, a14, a15] : Array Value).getD j undef = (#[v0, v1, v2, v3, v4, v5, v6, v7, v8, v9, v10, v11, v12, v13, b14, b15] : Array Value).getD j undef := by
  rcases (by omega : j = 0 ∨ j = 1 ∨ j = 2 ∨ j = 3 ∨ j = 4 ∨ j = 5 ∨ j = 6 ∨ j = 7 ∨ j = 8 ∨ j = 9 ∨ j = 10 ∨ j = 11 ∨ j = 12 ∨ j = 13 ∨ 15 < j) with rfl | rfl | rfl | rfl | rfl | rfl | rfl | rfl | rfl | rfl | rfl | rfl | rfl | rfl | h
  all_goals first | rfl | (simp only [Array.getD_eq_getD_getElem?]; rw [Array.getElem?_eq_none (by simp; omega), Array.getElem?_eq_none (by simp; omega)])
section
variable (A B : Option Addr) (c d : Nat) (js : List J) (l : List Nat) (w : World) (hr : Row w A (jc js)) (hq : Row w B (ic (natI l))) (hl : ∀ x ∈ l, x < js.length) (hn : l.length ≤ 8)
include hr hq hl hn
set_option maxRecDepth 100000 in
set_option maxHeartbeats 4000000 in
theorem l6Due_any : Calls Tryd.prog 28 #[.slice A js.length c, .slice B l.length d] w fun e w' => ∃ v, e = .returned v ∧ w'.ownsRow w.heap.size 3 1 v l.length (ic (natI (dueL js l))) ∧ Below w.heap.size w w' := by
  obtain ⟨i0, hi, hz0, hz1, hz2⟩ := info_parts infoI
  have hb0 := (Below.refl w.heap.size w).alloc (Nat.le_refl _) (.cells #[] 3)
  have hown0 : (w.alloc (.cells #[] 3)).ownsRow w.heap.size 3 1 (.slice (some ⟨w.heap.size, 0, none⟩) 0 0) 0 [] := World.ownsRow_made w #[] 0 (Nat.le_refl _) (by unfold maxLen; omega) rfl
  have H0 := Lib.hid (And.intro hown0 hb0)
  clear hown0 hb0
  go_enter Tryd.func28, Tryd.ntmps28
  go_wp2
  go_loopw [5, 6] (fun v i wr => ∃ (k : Nat) (ad : Addr) (cc : Nat), k ≤ l.length ∧ v = .slice (some ad) k cc ∧ i = .int .i64 (k : Int) ∧ Hid (wr.ownsRow w.heap.size 3 1 (.slice (some ad) k cc) k (ic (natI (dueTo js l k)))) ∧ Hid (Below w.heap.size w wr)) (fun _ i _ => l.length - (intOf i).toNat)
  case atStart => exact ⟨0, _, 0, Nat.zero_le _, rfl, rfl, H0.out.1, H0.out.2⟩
  case round =>
    obtain ⟨i, ad, cc, hik, rfl, rfl, HO, HW⟩ := hrel
    clear H0
    by_cases hlt : i < l.length
    · have hi0 : (0 : Int) ≤ i := by omega
      have hi1 : (i : Int) < l.length := by omega
      have hol := dueTo_len js l i
      obtain ⟨bd, rfl, hcb⟩ := hq.nat hlt
      have hxl : l[i] < js.length := hl _ (List.getElem_mem hlt)
      have hxg : l.getD i 0 = l[i] := getD_at l 0 hlt
      have HINS : Hid (dueTo js l (i + 1) = insD js l[i] (dueTo js l i)) := by show _ = _; rw [← hxg]; rfl
      have hout : ∀ a ∈ dueTo js l i, a < js.length := fun a ha => hl a (dueTo_mem hik ha)
      clear hxg
      have HCB := Lib.hid hcb
      generalize dueTo js l i = out0 at *
      have hol1 : out0.length ≤ i := by omega
      have hol2 : i ≤ out0.length := by omega
      clear hol hcb
      generalize l[i] = xn at *
      obtain ⟨xv, hxv⟩ : ∃ xv : Int, Hid (xv = (xn : Int)) := ⟨_, rfl⟩
      obtain ⟨wo, rfl⟩ : ∃ wo : World, wo = wr := ⟨_, rfl⟩
      go_wp2
      go_loopw [7] (fun kv wi => ∃ k : Nat, k ≤ i ∧ kv = .int .i64 (k : Int) ∧ Hid (Below wo.heap.size wo wi) ∧ Hid (∀ a ∈ out0.take k, soonB js a xn = true)) (fun kv _ => i - (intOf kv).toNat)
      case atStart => exact ⟨0, Nat.zero_le _, rfl, Below.refl _ _, fun a h => by cases h⟩
      case round =>
        obtain ⟨k, hk, rfl, HB, HG⟩ := hrel
        have HRow := Lib.hid ((Row.of_own HO.out).below HB.out)
        have hcb : wr.cell? (bd.add i) = some (.int .i64 xv) := by
          rw [hxv.out]
          have hbb := lt_of_cell HCB.out
          exact ((HW.out.trans (HB.out.mono HW.out.size)).cell (p := bd.add i) hbb).trans HCB.out
        by_cases hki : k < i
        · have hko : k < out0.length := by omega
          have hk0 : (0 : Int) ≤ k := by omega
          have hk1 : (k : Int) < i := by omega
          obtain ⟨ad', hA', hc0⟩ := HRow.out.nat hko
          injection hA' with hA'
          subst hA'
          have dk : decide (k < i) = true := decide_eq_true hki
          have hx0 := hout _ (List.getElem_mem hko)
          have HSN : Hid (∀ m, Calls Tryd.prog 40 #[.slice A js.length c, .int .i64 (out0[k] : Int), .int .i64 xv] (wr.drewN m) fun e w' => e = .returned (.bool (soonB js out0[k] xn)) ∧ ∃ n, w' = (wr.drewN m).drewN n) := fun m => by
            rw [hxv.out]
            exact l6Sooner_any A c js (wr.drewN m) ((hr.below (HW.out.trans (HB.out.mono HW.out.size))).drewN m) out0[k] xn hx0 hxl
          cases hsn : soonB js out0[k] xn
          · have HF := Lib.hid (HINS.out.trans (insD_at js xn out0 k (by omega) HG.out (fun _ => hsn)))
            rw [hsn] at HSN
            generalize out0[k] = x0 at *
            clear hx0 hsn hout
            go_wp2
            go_quiet ((go_at_call 40; first | exact Calls.quiet_of (HSN.out _) | exact quiet_in (HSN.out _)))
            go_wp2
            generalize hw1 : wr.drewN nq = w1
            have HRW : Hid (Row w1 (some ad) (ic (natI out0))) := by rw [← hw1]; exact HRow.out.drewN _
            have hbw1 : Below wo.heap.size wo w1 := by rw [← hw1]; exact below_drewN HB.out _
            have HBW := Lib.hid (HW.out.trans (hbw1.mono HW.out.size))
            have hbbl : bd.block < w1.heap.size := by have h1 := lt_of_cell hcb; rw [add_block] at h1; rw [← hw1]; exact h1
            have hcb : w1.cell? (bd.add i) = some (.int .i64 xv) := by rw [← hw1]; exact hcb
            have hcc : i ≤ cc := (slice_some HO.out).2
            have HF2 : Hid (ic ((natI out0).take k ++ [xv] ++ (natI out0).drop k) = ic (natI (dueTo js l (i + 1)))) := by show _ = _; rw [HF.out, hxv.out]; unfold natI; simp
            have hoL : (natI out0).length = out0.length := by unfold natI; simp
            generalize natI out0 = out at *
            have hol1 : out.length ≤ i := by omega
            have hol2 : i ≤ out.length := by omega
            clear hw1 hbw1 hoL HF HINS HG
            refine wp_region_detG (by kernel_rfl) (fun x L w' => Below w1.heap.size w1 w' ∧ (L.getD 0 true = true → L.getD 4 true = false → w'.ownsRow w1.heap.size 3 1 (.slice (some ⟨x.1, 0, none⟩) 0 0) 0 []) ∧ (L.getD 4 true = true → L.getD 10 true = false → w'.ownsRow w1.heap.size 3 1 x.2.1 k (ic (out.take k))) ∧ (L.getD 9 true = true → L.getD 10 true = false → BlockIs w' x.2.2.1 3 #[.int .i64 xv]) ∧ (L.getD 10 true = true → L.getD 14 true = false → w'.ownsRow w1.heap.size 3 1 x.2.2.2.1 (k + 1) (ic (out.take k ++ [xv]))) ∧ (L.getD 14 true = true → L.getD 10 true = true ∧ w'.ownsRow w1.heap.size 3 1 x.2.2.2.2 (i + 1) (ic (out.take k ++ [xv] ++ out.drop k))) ∧ (L.getD 10 true = true → L.getD 4 true = true))
              (fun x kk => #[.slice (some ⟨x.1, 0, none⟩) 0 0, .slice (some ad) i cc, .int .i64 (k : Int), .slice (some ad) k cc, x.2.1, .slice (some bd) l.length d, .int .i64 (i : Int), .pointer (some (bd.add i)), .int .i64 xv, .slice (some ⟨x.2.2.1, 0, none⟩) 1 1, x.2.2.2.1, .slice (some ad) i cc, .int .i64 (k : Int), .slice (some (tailAd ad k cc)) (i - k) (cc - k), x.2.2.2.2, x.2.2.2.2].getD kk undef) (0, undef, 0, undef, undef) (by kernel_rfl) (by kernel_rfl) ⟨(Below.refl _ _).drew, (fun h => by cases h), (fun h => by cases h), (fun h => by cases h), (fun h => by cases h), (fun h => by cases h), fun h => by cases h⟩ ?_ ?_
            · intro x L tm w' hall hS hsz hlow hval
              have ht : tm = #[.slice A js.length c, .slice (some bd) l.length d, undef, undef, .slice none 0 0, x.2.2.2.2, .int .i64 (i : Int), .int .i64 (k : Int), .slice (some ⟨w.heap.size, 0, none⟩) 0 0, .int .i64 (i : Int), .slice (some bd) l.length d, .int .i64 (l.length : Int), .bool true, u13, u14, .int .i64 (k : Int), .slice (some ad) i cc, .int .i64 (i : Int), .bool true, .bool true, .slice A js.length c, .slice (some ad) i cc, .int .i64 (k : Int), .pointer (some (ad.add k)), .int .i64 (x0 : Int), .slice (some bd) l.length d, .int .i64 (i : Int), .pointer (some (bd.add i)), .int .i64 xv, .bool false, .bool false, u31, u32, .slice (some ⟨x.1, 0, none⟩) 0 0, .slice (some ad) i cc, .int .i64 (k : Int), .slice (some ad) k cc, x.2.1, .slice (some bd) l.length d, .int .i64 (i : Int), .pointer (some (bd.add i)), .int .i64 xv, .slice (some ⟨x.2.2.1, 0, none⟩) 1 1, x.2.2.2.1, .slice (some ad) i cc, .int .i64 (k : Int), .slice (some (tailAd ad k cc)) (i - k) (cc - k), x.2.2.2.2, undef] := by
                refine arr_of _ _ hsz fun t ht => ?_
                have ht' : t < 49 := ht
                rcases (by omega : t = 0 ∨ t = 1 ∨ t = 2 ∨ t = 3 ∨ t = 4 ∨ t = 5 ∨ t = 6 ∨ t = 7 ∨ t = 8 ∨ t = 9 ∨ t = 10 ∨ t = 11 ∨ t = 12 ∨ t = 13 ∨ t = 14 ∨ t = 15 ∨ t = 16 ∨ t = 17 ∨ t = 18 ∨ t = 19 ∨ t = 20 ∨ t = 21 ∨ t = 22 ∨ t = 23 ∨ t = 24 ∨ t = 25 ∨ t = 26 ∨ t = 27 ∨ t = 28 ∨ t = 29 ∨ t = 30 ∨ t = 31 ∨ t = 32 ∨ t = 33 ∨ t = 34 ∨ t = 35 ∨ t = 36 ∨ t = 37 ∨ t = 38 ∨ t = 39 ∨ t = 40 ∨ t = 41 ∨ t = 42 ∨ t = 43 ∨ t = 44 ∨ t = 45 ∨ t = 46 ∨ t = 47 ∨ t = 48) with rfl | rfl | rfl | rfl | rfl | rfl | rfl | rfl | rfl | rfl | rfl | rfl | rfl | rfl | rfl | rfl | rfl | rfl | rfl | rfl | rfl | rfl | rfl | rfl | rfl | rfl | rfl | rfl | rfl | rfl | rfl | rfl | rfl | rfl | rfl | rfl | rfl | rfl | rfl | rfl | rfl | rfl | rfl | rfl | rfl | rfl | rfl | rfl | rfl
                · exact hlow 0 (by kernel_rfl)
                · exact hlow 1 (by kernel_rfl)
                · exact hlow 2 (by kernel_rfl)
                · exact hlow 3 (by kernel_rfl)
                · exact hlow 4 (by kernel_rfl)
                · exact hval 15 _ 5 rfl rfl
                · exact hlow 6 (by kernel_rfl)
                · exact hlow 7 (by kernel_rfl)
                · exact hlow 8 (by kernel_rfl)
                · exact hlow 9 (by kernel_rfl)
                · exact hlow 10 (by kernel_rfl)
                · exact hlow 11 (by kernel_rfl)
                · exact hlow 12 (by kernel_rfl)
                · exact hlow 13 (by kernel_rfl)
                · exact hlow 14 (by kernel_rfl)
                · exact hlow 15 (by kernel_rfl)
                · exact hlow 16 (by kernel_rfl)
                · exact hlow 17 (by kernel_rfl)
                · exact hlow 18 (by kernel_rfl)
                · exact hlow 19 (by kernel_rfl)
                · exact hlow 20 (by kernel_rfl)
                · exact hlow 21 (by kernel_rfl)
                · exact hlow 22 (by kernel_rfl)
                · exact hlow 23 (by kernel_rfl)
                · exact hlow 24 (by kernel_rfl)
                · exact hlow 25 (by kernel_rfl)
                · exact hlow 26 (by kernel_rfl)
                · exact hlow 27 (by kernel_rfl)
                · exact hlow 28 (by kernel_rfl)
                · exact hlow 29 (by kernel_rfl)
                · exact hlow 30 (by kernel_rfl)
                · exact hlow 31 (by kernel_rfl)
                · exact hlow 32 (by kernel_rfl)
                · exact hval 0 _ 33 rfl rfl
                · exact hval 1 _ 34 rfl rfl
                · exact hval 2 _ 35 rfl rfl
                · exact hval 3 _ 36 rfl rfl
                · exact hval 4 _ 37 rfl rfl
                · exact hval 5 _ 38 rfl rfl
                · exact hval 6 _ 39 rfl rfl
                · exact hval 7 _ 40 rfl rfl
                · exact hval 8 _ 41 rfl rfl
                · exact hval 9 _ 42 rfl rfl
                · exact hval 10 _ 43 rfl rfl
                · exact hval 11 _ 44 rfl rfl
                · exact hval 12 _ 45 rfl rfl
                · exact hval 13 _ 46 rfl rfl
                · exact hval 14 _ 47 rfl rfl
                · exact hlow 48 (by kernel_rfl)
              subst ht
              clear hlow hval hsz
              obtain ⟨hbz, _, _, _, _, hS5, _⟩ := hS
              have hfin := (hS5 (hall 14 (by decide))).2
              have HO4 := Lib.hid (And.intro hfin hbz)
              clear hS5 hbz hall hfin
              obtain ⟨g4, _, ⟨c4, hx4⟩, _⟩ := own_block2S HO4.out.1 (by omega)
              generalize x.2.2.2.2 = y4 at *
              subst hx4
              rw [HF2.out] at HO4
              clear HF2
              go_wp2
              go_roundw
              case rel => exact ⟨i + 1, ⟨g4, 0, none⟩, c4, by omega, rfl, by go_num, own_lower HO4.out.1 HBW.out.size, HBW.out.trans (HO4.out.2.mono HBW.out.size)⟩
              case measure => simp [intOf]; omega
            · intro x L a w' kk op hLs ho hLi hLd hLn ⟨hS0, hS1, hS2, hS3, hS4, hS5, hS6⟩ hlow hdep hold
              have hkk : kk < 16 := (Array.getElem?_eq_some_iff.1 ho).1
              have l1 : a.tmps[1]?.getD undef = .slice (some bd) l.length d := by rw [← Array.getD_eq_getD_getElem?]; exact hlow 1 (by kernel_rfl)
              have l6 : a.tmps[6]?.getD undef = .int .i64 (i : Int) := by rw [← Array.getD_eq_getD_getElem?]; exact hlow 6 (by kernel_rfl)
              have l7 : a.tmps[7]?.getD undef = .int .i64 (k : Int) := by rw [← Array.getD_eq_getD_getElem?]; exact hlow 7 (by kernel_rfl)
              have D : ∀ j oj d, edgeB _ kk j = true → _ → _ → a.tmps[d]?.getD undef = _ := fun j oj d h1 h2 h3 => (Array.getD_eq_getD_getElem? ..).symm.trans (hdep j oj d h1 h2 h3)
              have K : ∀ {kk : Nat}, kk ≠ 0 → kk ≠ 4 → kk ≠ 9 → kk ≠ 10 → kk ≠ 14 → Below w1.heap.size w1 w' ∧ ((L.setIfInBounds kk true).getD 0 true = true → (L.setIfInBounds kk true).getD 4 true = false → w'.ownsRow w1.heap.size 3 1 (.slice (some ⟨x.1, 0, none⟩) 0 0) 0 []) ∧ ((L.setIfInBounds kk true).getD 4 true = true → (L.setIfInBounds kk true).getD 10 true = false → w'.ownsRow w1.heap.size 3 1 x.2.1 k (ic (out.take k))) ∧ ((L.setIfInBounds kk true).getD 9 true = true → (L.setIfInBounds kk true).getD 10 true = false → BlockIs w' x.2.2.1 3 #[.int .i64 xv]) ∧ ((L.setIfInBounds kk true).getD 10 true = true → (L.setIfInBounds kk true).getD 14 true = false → w'.ownsRow w1.heap.size 3 1 x.2.2.2.1 (k + 1) (ic (out.take k ++ [xv]))) ∧ ((L.setIfInBounds kk true).getD 14 true = true → (L.setIfInBounds kk true).getD 10 true = true ∧ w'.ownsRow w1.heap.size 3 1 x.2.2.2.2 (i + 1) (ic (out.take k ++ [xv] ++ out.drop k))) ∧ ((L.setIfInBounds kk true).getD 10 true = true → (L.setIfInBounds kk true).getD 4 true = true) := fun h0 h4 h6 h7 h11 => ⟨hS0, by rw [set_ne h0, set_ne h4]; exact hS1, by rw [set_ne h4, set_ne h7]; exact hS2, by rw [set_ne h6, set_ne h7]; exact hS3, by rw [set_ne h7, set_ne h11]; exact hS4, by rw [set_ne h11, set_ne h7]; exact hS5, by rw [set_ne h7, set_ne h4]; exact hS6⟩
              rcases (by omega : kk = 0 ∨ kk = 1 ∨ kk = 2 ∨ kk = 3 ∨ kk = 4 ∨ kk = 5 ∨ kk = 6 ∨ kk = 7 ∨ kk = 8 ∨ kk = 9 ∨ kk = 10 ∨ kk = 11 ∨ kk = 12 ∨ kk = 13 ∨ kk = 14 ∨ kk = 15) with rfl | rfl | rfl | rfl | rfl | rfl | rfl | rfl | rfl | rfl | rfl | rfl | rfl | rfl | rfl | rfl
              · obtain rfl := Option.some.inj ho
                refine ⟨rfl, .inl ⟨(w'.heap.size, x.2), w'.alloc (.cells #[] 3), fun j hj => ?_, by simp [execOp, Act.eval, go_sem], hS0.alloc hS0.size _, (fun _ _ => World.ownsRow_made w' #[] 0 hS0.size (by unfold maxLen; omega) rfl), (fun h => ?_), (fun h h' => ?_), (fun h => ?_), (fun h => ?_), fun h => ?_⟩⟩
                · have n0 : j ≠ 0 := fun e => by subst e; rw [hLi] at hj; cases hj
                  exact but_i0 j n0
                · rw [set_ne (by decide), hLn 4 (by kernel_rfl)] at h; cases h
                · rw [set_ne (by decide)] at h h'; exact (hS3 h h').below ((Below.refl _ _).alloc (Nat.le_refl _) _)
                · rw [set_ne (by decide)] at h; have h4 := hS6 h; rw [hLn 4 (by kernel_rfl)] at h4; cases h4
                · rw [set_ne (by decide)] at h; have h4 := hS6 (hS5 h).1; rw [hLn 4 (by kernel_rfl)] at h4; cases h4
                · rw [set_ne (by decide)] at h ⊢; exact hS6 h
              · obtain rfl := Option.some.inj ho
                have l5 : a.tmps[5]?.getD undef = .slice (some ad) i cc := (Array.getD_eq_getD_getElem? ..).symm.trans (hold 15 _ 5 (by kernel_rfl) rfl rfl)
                exact ⟨rfl, .inl ⟨x, w', fun _ _ => rfl, by simp [execOp, Act.eval, l5, go_sem], K (by decide) (by decide) (by decide) (by decide) (by decide)⟩⟩
              · obtain rfl := Option.some.inj ho
                exact ⟨rfl, .inl ⟨x, w', fun _ _ => rfl, by simp [execOp, Act.eval, l7, go_sem], K (by decide) (by decide) (by decide) (by decide) (by decide)⟩⟩
              · obtain rfl := Option.some.inj ho
                have e34 : a.tmps[34]?.getD undef = .slice (some ad) i cc := D 1 _ 34 (by kernel_rfl) rfl rfl
                have e35 : a.tmps[35]?.getD undef = .int .i64 (k : Int) := D 2 _ 35 (by kernel_rfl) rfl rfl
                have x1 : a.eval (.tmp 34) = .slice (some ad) i cc := by simp [Act.eval, e34]
                have x2 : a.eval (.tmp 35) = .int .i64 (k : Int) := by simp [Act.eval, e35]
                have hsl : (Instr.sliceAt 24 (a.eval (.tmp 34)) none ((some (Operand.tmp 35)).map a.eval) none).run Tryd.prog w' = .ok (.slice (some ad) k cc) w' := by
                  rw [x1, Option.map_some, x2]; exact slice_h ad _ cc k w' (by omega)
                exact ⟨rfl, .inl ⟨x, w', fun _ _ => rfl, exec_slice rfl hsl, K (by decide) (by decide) (by decide) (by decide) (by decide)⟩⟩
              · obtain rfl := Option.some.inj ho
                have e33 : a.tmps[33]?.getD undef = .slice (some ⟨x.1, 0, none⟩) 0 0 := D 0 _ 33 (by kernel_rfl) rfl rfl
                have e36 : a.tmps[36]?.getD undef = .slice (some ad) k cc := D 3 _ 36 (by kernel_rfl) rfl rfl
                have x1 : a.eval (.tmp 33) = .slice (some ⟨x.1, 0, none⟩) 0 0 := by simp [Act.eval, e33]
                have x2 : a.eval (.tmp 36) = .slice (some ad) k cc := by simp [Act.eval, e36]
                have hown := hS1 (hLd 0 (by kernel_rfl)) hLi
                obtain ⟨v', w'', hrun, hown', hgrow, hnil⟩ := run_append_own (P := Tryd.prog) w' w1.heap.size 24 24 3 i0 (.int .i64 0) 1 8 Tryd.underlying24 hi hz0 hz1 hz2 rfl (by decide) (.slice (some ⟨x.1, 0, none⟩) 0 0) 0 _ hown ad k cc (ic (out.take k)) (by rw [ic_len]; simp; omega) (head_srcS (HRW.out.below hS0)) ic_one (by unfold maxLen; omega) (by omega) hS0.size
                have hbz : Below w1.heap.size w1 w'' := hS0.grown hgrow hS0.size (fun b hb => (hown.lt b hb).1)
                refine ⟨rfl, .inl ⟨(x.1, v', x.2.2), w'', fun j hj => ?_, exec_append rfl x1 x2 hrun, hbz, (fun _ h => ?_), (fun _ _ => ?_), (fun h h' => ?_), (fun h => ?_), (fun h => ?_), fun _ => ?_⟩⟩
                · have n4 : j ≠ 4 := fun e => by subst e; rw [hLi] at hj; cases hj
                  exact but_i4 j n4
                · rw [set_eq (by rw [hLs]; decide)] at h; cases h
                · rw [List.nil_append, Nat.zero_add] at hown'; exact hown'
                · rw [set_ne (by decide)] at h h'
                  have hB := hS3 h h'
                  refine (hgrow.block _ hB.lt fun e => ?_).trans hB
                  have eg : x.1 = x.2.2.1 := (Option.some.inj e).symm
                  exact empty_neS hown (eg ▸ hB)
                · rw [set_ne (by decide), hLn 10 (by kernel_rfl)] at h; cases h
                · rw [set_ne (by decide)] at h; have h9 := (hS5 h).1; rw [hLn 10 (by kernel_rfl)] at h9; cases h9
                · rw [set_eq (by rw [hLs]; decide)]
              · obtain rfl := Option.some.inj ho
                exact ⟨rfl, .inl ⟨x, w', fun _ _ => rfl, by simp [execOp, Act.eval, l1, go_sem], K (by decide) (by decide) (by decide) (by decide) (by decide)⟩⟩
              · obtain rfl := Option.some.inj ho
                exact ⟨rfl, .inl ⟨x, w', fun _ _ => rfl, by simp [execOp, Act.eval, l6, go_sem], K (by decide) (by decide) (by decide) (by decide) (by decide)⟩⟩
              · obtain rfl := Option.some.inj ho
                have e38 : a.tmps[38]?.getD undef = .slice (some bd) l.length d := D 5 _ 38 (by kernel_rfl) rfl rfl
                have e39 : a.tmps[39]?.getD undef = .int .i64 (i : Int) := D 6 _ 39 (by kernel_rfl) rfl rfl
                exact ⟨rfl, .inl ⟨x, w', fun _ _ => rfl, by simp [execOp, Act.eval, e38, e39, hi0, hi1, go_sem], K (by decide) (by decide) (by decide) (by decide) (by decide)⟩⟩
              · obtain rfl := Option.some.inj ho
                have e40 : a.tmps[40]?.getD undef = .pointer (some (bd.add i)) := D 7 _ 40 (by kernel_rfl) rfl rfl
                have hcw : w'.cell? (bd.add i) = some (.int .i64 xv) := (hS0.cell (p := bd.add i) (by rw [add_block]; exact hbbl)).trans hcb
                exact ⟨rfl, .inl ⟨x, w', fun _ _ => rfl, by simp [execOp, Act.eval, e40, hcw, go_sem], K (by decide) (by decide) (by decide) (by decide) (by decide)⟩⟩
              · obtain rfl := Option.some.inj ho
                have e41 : a.tmps[41]?.getD undef = .int .i64 xv := D 8 _ 41 (by kernel_rfl) rfl rfl
                refine ⟨rfl, .inl ⟨(x.1, x.2.1, w'.heap.size, x.2.2.2), w'.alloc (.cells #[.int .i64 xv] 3), fun j hj => ?_, by simp [execOp, Act.eval, e41, go_sem], hS0.alloc hS0.size _, (fun h h' => ?_), (fun h h' => ?_), (fun _ _ => BlockIs.new _ _ _), (fun h => ?_), (fun h => ?_), fun h => ?_⟩⟩
                · have n6 : j ≠ 9 := fun e => by subst e; rw [hLi] at hj; cases hj
                  exact but_i9 j n6
                · rw [set_ne (by decide)] at h h'; exact (hS1 h h').alloc _
                · rw [set_ne (by decide)] at h h'; exact (hS2 h h').alloc _
                · rw [set_ne (by decide), hLn 10 (by kernel_rfl)] at h; cases h
                · rw [set_ne (by decide)] at h; have h9 := (hS5 h).1; rw [hLn 10 (by kernel_rfl)] at h9; cases h9
                · rw [set_ne (by decide)] at h ⊢; exact hS6 h
              · obtain rfl := Option.some.inj ho
                have e37 : a.tmps[37]?.getD undef = x.2.1 := D 4 _ 37 (by kernel_rfl) rfl rfl
                have e42 : a.tmps[42]?.getD undef = .slice (some ⟨x.2.2.1, 0, none⟩) 1 1 := D 9 _ 42 (by kernel_rfl) rfl rfl
                have x1 : a.eval (.tmp 37) = x.2.1 := by simp [Act.eval, e37]
                have x2 : a.eval (.tmp 42) = .slice (some ⟨x.2.2.1, 0, none⟩) 1 1 := by simp [Act.eval, e42]
                have hown := hS2 (hLd 4 (by kernel_rfl)) hLi
                have hB8 := hS3 (hLd 9 (by kernel_rfl)) hLi
                have hsrc : ∀ j u, (ic [xv])[j]? = some u → w'.cell? ((⟨x.2.2.1, 0, none⟩ : Addr).add j) = some u := fun j u hu => by rw [Addr.add_lit, Nat.zero_add, hB8.cell, ← Array.getElem?_toList]; exact hu
                obtain ⟨v', w'', hrun, hown', hgrow, hnil⟩ := run_append_own (P := Tryd.prog) w' w1.heap.size 24 24 3 i0 (.int .i64 0) 1 8 Tryd.underlying24 hi hz0 hz1 hz2 rfl (by decide) x.2.1 k _ hown ⟨x.2.2.1, 0, none⟩ 1 1 (ic [xv]) rfl hsrc ic_one (by unfold maxLen; omega) (by omega) hS0.size
                have hbz : Below w1.heap.size w1 w'' := hS0.grown hgrow hS0.size (fun b hb => (hown.lt b hb).1)
                refine ⟨rfl, .inl ⟨(x.1, x.2.1, x.2.2.1, v', x.2.2.2.2), w'', fun j hj => ?_, exec_append rfl x1 x2 hrun, hbz, (fun h h' => ?_), (fun _ h => ?_), (fun _ h => ?_), (fun _ _ => ?_), (fun h => ?_), fun _ => ?_⟩⟩
                · have n7 : j ≠ 10 := fun e => by subst e; rw [hLi] at hj; cases hj
                  exact but_i10 j n7
                · rw [set_ne (by decide)] at h'; have h9 := hLd 4 (by kernel_rfl); rw [h9] at h'; cases h'
                · rw [set_eq (by rw [hLs]; decide)] at h; cases h
                · rw [set_eq (by rw [hLs]; decide)] at h; cases h
                · have hx : ic (out.take k) ++ ic [xv] = ic (out.take k ++ [xv]) := by unfold ic; simp
                  rw [hx] at hown'; exact hown'
                · rw [set_ne (by decide), hLn 14 (by kernel_rfl)] at h; cases h
                · rw [set_ne (by decide)]; exact hLd 4 (by kernel_rfl)
              · obtain rfl := Option.some.inj ho
                have l5 : a.tmps[5]?.getD undef = .slice (some ad) i cc := (Array.getD_eq_getD_getElem? ..).symm.trans (hold 15 _ 5 (by kernel_rfl) rfl rfl)
                exact ⟨rfl, .inl ⟨x, w', fun _ _ => rfl, by simp [execOp, Act.eval, l5, go_sem], K (by decide) (by decide) (by decide) (by decide) (by decide)⟩⟩
              · obtain rfl := Option.some.inj ho
                exact ⟨rfl, .inl ⟨x, w', fun _ _ => rfl, by simp [execOp, Act.eval, l7, go_sem], K (by decide) (by decide) (by decide) (by decide) (by decide)⟩⟩
              · obtain rfl := Option.some.inj ho
                have e44 : a.tmps[44]?.getD undef = .slice (some ad) i cc := D 11 _ 44 (by kernel_rfl) rfl rfl
                have e45 : a.tmps[45]?.getD undef = .int .i64 (k : Int) := D 12 _ 45 (by kernel_rfl) rfl rfl
                have x1 : a.eval (.tmp 44) = .slice (some ad) i cc := by simp [Act.eval, e44]
                have x2 : a.eval (.tmp 45) = .int .i64 (k : Int) := by simp [Act.eval, e45]
                have hsl : (Instr.sliceAt 24 (a.eval (.tmp 44)) ((some (Operand.tmp 45)).map a.eval) none none).run Tryd.prog w' = .ok (.slice (some (tailAd ad k cc)) (i - k) (cc - k)) w' := by
                  rw [x1, Option.map_some, x2]; exact slice_l ad _ cc k w' (by omega)
                exact ⟨rfl, .inl ⟨x, w', fun _ _ => rfl, exec_slice rfl hsl, K (by decide) (by decide) (by decide) (by decide) (by decide)⟩⟩
              · obtain rfl := Option.some.inj ho
                have e43 : a.tmps[43]?.getD undef = x.2.2.2.1 := D 10 _ 43 (by kernel_rfl) rfl rfl
                have e46 : a.tmps[46]?.getD undef = .slice (some (tailAd ad k cc)) (i - k) (cc - k) := D 13 _ 46 (by kernel_rfl) rfl rfl
                have x1 : a.eval (.tmp 43) = x.2.2.2.1 := by simp [Act.eval, e43]
                have x2 : a.eval (.tmp 46) = .slice (some (tailAd ad k cc)) (i - k) (cc - k) := by simp [Act.eval, e46]
                have t9 : L.getD 10 true = true := hLd 10 (by kernel_rfl)
                have hown := hS4 t9 hLi
                obtain ⟨v', w'', hrun, hown', hgrow, hnil⟩ := run_append_own (P := Tryd.prog) w' w1.heap.size 24 24 3 i0 (.int .i64 0) 1 8 Tryd.underlying24 hi hz0 hz1 hz2 rfl (by decide) x.2.2.2.1 (k + 1) _ hown (tailAd ad k cc) (i - k) (cc - k) (ic (out.drop k)) (by rw [ic_len]; simp; omega) (tail_src (HRW.out.below hS0) (by omega)) ic_one (by unfold maxLen; omega) (by omega) hS0.size
                have hbz : Below w1.heap.size w1 w'' := hS0.grown hgrow hS0.size (fun b hb => (hown.lt b hb).1)
                refine ⟨rfl, .inl ⟨(x.1, x.2.1, x.2.2.1, x.2.2.2.1, v'), w'', fun j hj => ?_, exec_append rfl x1 x2 hrun, hbz, (fun h h' => ?_), (fun _ h => ?_), (fun _ h => ?_), (fun _ h => ?_), (fun _ => ?_), fun _ => ?_⟩⟩
                · have n11 : j ≠ 14 := fun e => by subst e; rw [hLi] at hj; cases hj
                  have f12 : L.getD 15 true = false := hLn 15 (by kernel_rfl)
                  have n12 : j ≠ 15 := fun e => by subst e; rw [f12] at hj; cases hj
                  exact but_i14 j n11 n12
                · rw [set_ne (by decide), hS6 t9] at h'; cases h'
                · rw [set_ne (by decide), t9] at h; cases h
                · rw [set_ne (by decide), t9] at h; cases h
                · rw [set_eq (by rw [hLs]; decide)] at h; cases h
                · have hx : ic (out.take k ++ [xv]) ++ ic (out.drop k) = ic (out.take k ++ [xv] ++ out.drop k) := by unfold ic; simp
                  rw [hx, show k + 1 + (i - k) = i + 1 by omega] at hown'; exact ⟨by rw [set_ne (by decide)]; exact t9, hown'⟩
                · rw [set_ne (by decide)]; exact hS6 t9
              · obtain rfl := Option.some.inj ho
                have e47 : a.tmps[47]?.getD undef = x.2.2.2.2 := D 14 _ 47 (by kernel_rfl) rfl rfl
                exact ⟨rfl, .inl ⟨x, w', fun _ _ => rfl, by simp [execOp, Act.eval, e47, go_sem], K (by decide) (by decide) (by decide) (by decide) (by decide)⟩⟩
          · have HG2 : Hid (∀ a ∈ out0.take (k + 1), soonB js a xn = true) := fun a ha => by
              rw [List.take_succ_eq_append_getElem hko] at ha
              rcases List.mem_append.1 ha with h | h
              · exact HG.out a h
              · rw [List.mem_singleton.1 h]; exact hsn
            rw [hsn] at HSN
            generalize out0[k] = x0 at *
            clear hx0 hsn hout
            go_wp2
            go_quiet ((go_at_call 40; first | exact Calls.quiet_of (HSN.out _) | exact quiet_in (HSN.out _)))
            all_goals
              go_wp2
              go_roundw
              case rel => exact ⟨k + 1, by omega, by go_num, below_drewN HB.out _, HG2.out⟩
              case measure => simp [intOf]; omega
        · have hki2 : i ≤ k := by omega
          have HF := Lib.hid (HINS.out.trans (insD_at js xn out0 k (by omega) HG.out (fun h => by omega)))
          have dk : decide (k < i) = false := decide_eq_false hki
          go_wp2
          go_quiet (fail)
          go_wp2
          generalize hw1 : wr.drewN nq = w1
          have HRW : Hid (Row w1 (some ad) (ic (natI out0))) := by rw [← hw1]; exact HRow.out.drewN _
          have hbw1 : Below wo.heap.size wo w1 := by rw [← hw1]; exact below_drewN HB.out _
          have HBW := Lib.hid (HW.out.trans (hbw1.mono HW.out.size))
          have hbbl : bd.block < w1.heap.size := by have h1 := lt_of_cell hcb; rw [add_block] at h1; rw [← hw1]; exact h1
          have hcb : w1.cell? (bd.add i) = some (.int .i64 xv) := by rw [← hw1]; exact hcb
          have hcc : i ≤ cc := (slice_some HO.out).2
          have HF2 : Hid (ic ((natI out0).take k ++ [xv] ++ (natI out0).drop k) = ic (natI (dueTo js l (i + 1)))) := by show _ = _; rw [HF.out, hxv.out]; unfold natI; simp
          have hoL : (natI out0).length = out0.length := by unfold natI; simp
          generalize natI out0 = out at *
          have hol1 : out.length ≤ i := by omega
          have hol2 : i ≤ out.length := by omega
          clear hw1 hbw1 hoL HF HINS HG
          refine wp_region_detG (by kernel_rfl) (fun x L w' => Below w1.heap.size w1 w' ∧ (L.getD 0 true = true → L.getD 4 true = false → w'.ownsRow w1.heap.size 3 1 (.slice (some ⟨x.1, 0, none⟩) 0 0) 0 []) ∧ (L.getD 4 true = true → L.getD 10 true = false → w'.ownsRow w1.heap.size 3 1 x.2.1 k (ic (out.take k))) ∧ (L.getD 9 true = true → L.getD 10 true = false → BlockIs w' x.2.2.1 3 #[.int .i64 xv]) ∧ (L.getD 10 true = true → L.getD 14 true = false → w'.ownsRow w1.heap.size 3 1 x.2.2.2.1 (k + 1) (ic (out.take k ++ [xv]))) ∧ (L.getD 14 true = true → L.getD 10 true = true ∧ w'.ownsRow w1.heap.size 3 1 x.2.2.2.2 (i + 1) (ic (out.take k ++ [xv] ++ out.drop k))) ∧ (L.getD 10 true = true → L.getD 4 true = true))
            (fun x kk => #[.slice (some ⟨x.1, 0, none⟩) 0 0, .slice (some ad) i cc, .int .i64 (k : Int), .slice (some ad) k cc, x.2.1, .slice (some bd) l.length d, .int .i64 (i : Int), .pointer (some (bd.add i)), .int .i64 xv, .slice (some ⟨x.2.2.1, 0, none⟩) 1 1, x.2.2.2.1, .slice (some ad) i cc, .int .i64 (k : Int), .slice (some (tailAd ad k cc)) (i - k) (cc - k), x.2.2.2.2, x.2.2.2.2].getD kk undef) (0, undef, 0, undef, undef) (by kernel_rfl) (by kernel_rfl) ⟨(Below.refl _ _).drew, (fun h => by cases h), (fun h => by cases h), (fun h => by cases h), (fun h => by cases h), (fun h => by cases h), fun h => by cases h⟩ ?_ ?_
          · intro x L tm w' hall hS hsz hlow hval
            have ht : tm = #[.slice A js.length c, .slice (some bd) l.length d, undef, undef, .slice none 0 0, x.2.2.2.2, .int .i64 (i : Int), .int .i64 (k : Int), .slice (some ⟨w.heap.size, 0, none⟩) 0 0, .int .i64 (i : Int), .slice (some bd) l.length d, .int .i64 (l.length : Int), .bool true, u13, u14, .int .i64 (k : Int), .slice (some ad) i cc, .int .i64 (i : Int), .bool false, .bool false, undef, undef, undef, undef, undef, undef, undef, undef, undef, undef, .bool false, u31, u32, .slice (some ⟨x.1, 0, none⟩) 0 0, .slice (some ad) i cc, .int .i64 (k : Int), .slice (some ad) k cc, x.2.1, .slice (some bd) l.length d, .int .i64 (i : Int), .pointer (some (bd.add i)), .int .i64 xv, .slice (some ⟨x.2.2.1, 0, none⟩) 1 1, x.2.2.2.1, .slice (some ad) i cc, .int .i64 (k : Int), .slice (some (tailAd ad k cc)) (i - k) (cc - k), x.2.2.2.2, undef] := by
              refine arr_of _ _ hsz fun t ht => ?_
              have ht' : t < 49 := ht
              rcases (by omega : t = 0 ∨ t = 1 ∨ t = 2 ∨ t = 3 ∨ t = 4 ∨ t = 5 ∨ t = 6 ∨ t = 7 ∨ t = 8 ∨ t = 9 ∨ t = 10 ∨ t = 11 ∨ t = 12 ∨ t = 13 ∨ t = 14 ∨ t = 15 ∨ t = 16 ∨ t = 17 ∨ t = 18 ∨ t = 19 ∨ t = 20 ∨ t = 21 ∨ t = 22 ∨ t = 23 ∨ t = 24 ∨ t = 25 ∨ t = 26 ∨ t = 27 ∨ t = 28 ∨ t = 29 ∨ t = 30 ∨ t = 31 ∨ t = 32 ∨ t = 33 ∨ t = 34 ∨ t = 35 ∨ t = 36 ∨ t = 37 ∨ t = 38 ∨ t = 39 ∨ t = 40 ∨ t = 41 ∨ t = 42 ∨ t = 43 ∨ t = 44 ∨ t = 45 ∨ t = 46 ∨ t = 47 ∨ t = 48) with rfl | rfl | rfl | rfl | rfl | rfl | rfl | rfl | rfl | rfl | rfl | rfl | rfl | rfl | rfl | rfl | rfl | rfl | rfl | rfl | rfl | rfl | rfl | rfl | rfl | rfl | rfl | rfl | rfl | rfl | rfl | rfl | rfl | rfl | rfl | rfl | rfl | rfl | rfl | rfl | rfl | rfl | rfl | rfl | rfl | rfl | rfl | rfl | rfl
              · exact hlow 0 (by kernel_rfl)
              · exact hlow 1 (by kernel_rfl)
              · exact hlow 2 (by kernel_rfl)
              · exact hlow 3 (by kernel_rfl)
              · exact hlow 4 (by kernel_rfl)
              · exact hval 15 _ 5 rfl rfl
              · exact hlow 6 (by kernel_rfl)
              · exact hlow 7 (by kernel_rfl)
              · exact hlow 8 (by kernel_rfl)
              · exact hlow 9 (by kernel_rfl)
              · exact hlow 10 (by kernel_rfl)
              · exact hlow 11 (by kernel_rfl)
              · exact hlow 12 (by kernel_rfl)
              · exact hlow 13 (by kernel_rfl)
              · exact hlow 14 (by kernel_rfl)
              · exact hlow 15 (by kernel_rfl)
              · exact hlow 16 (by kernel_rfl)
              · exact hlow 17 (by kernel_rfl)
              · exact hlow 18 (by kernel_rfl)
              · exact hlow 19 (by kernel_rfl)
              · exact hlow 20 (by kernel_rfl)
              · exact hlow 21 (by kernel_rfl)
              · exact hlow 22 (by kernel_rfl)
              · exact hlow 23 (by kernel_rfl)
              · exact hlow 24 (by kernel_rfl)
              · exact hlow 25 (by kernel_rfl)
              · exact hlow 26 (by kernel_rfl)
              · exact hlow 27 (by kernel_rfl)
              · exact hlow 28 (by kernel_rfl)
              · exact hlow 29 (by kernel_rfl)
              · exact hlow 30 (by kernel_rfl)
              · exact hlow 31 (by kernel_rfl)
              · exact hlow 32 (by kernel_rfl)
              · exact hval 0 _ 33 rfl rfl
              · exact hval 1 _ 34 rfl rfl
              · exact hval 2 _ 35 rfl rfl
              · exact hval 3 _ 36 rfl rfl
              · exact hval 4 _ 37 rfl rfl
              · exact hval 5 _ 38 rfl rfl
              · exact hval 6 _ 39 rfl rfl
              · exact hval 7 _ 40 rfl rfl
              · exact hval 8 _ 41 rfl rfl
              · exact hval 9 _ 42 rfl rfl
              · exact hval 10 _ 43 rfl rfl
              · exact hval 11 _ 44 rfl rfl
              · exact hval 12 _ 45 rfl rfl
              · exact hval 13 _ 46 rfl rfl
              · exact hval 14 _ 47 rfl rfl
              · exact hlow 48 (by kernel_rfl)
            subst ht
            clear hlow hval hsz
            obtain ⟨hbz, _, _, _, _, hS5, _⟩ := hS
            have hfin := (hS5 (hall 14 (by decide))).2
            have HO4 := Lib.hid (And.intro hfin hbz)
            clear hS5 hbz hall hfin
            obtain ⟨g4, _, ⟨c4, hx4⟩, _⟩ := own_block2S HO4.out.1 (by omega)
            generalize x.2.2.2.2 = y4 at *
            subst hx4
            rw [HF2.out] at HO4
            clear HF2
            go_wp2
            go_roundw
            case rel => exact ⟨i + 1, ⟨g4, 0, none⟩, c4, by omega, rfl, by go_num, own_lower HO4.out.1 HBW.out.size, HBW.out.trans (HO4.out.2.mono HBW.out.size)⟩
            case measure => simp [intOf]; omega
          · intro x L a w' kk op hLs ho hLi hLd hLn ⟨hS0, hS1, hS2, hS3, hS4, hS5, hS6⟩ hlow hdep hold
            have hkk : kk < 16 := (Array.getElem?_eq_some_iff.1 ho).1
            have l1 : a.tmps[1]?.getD undef = .slice (some bd) l.length d := by rw [← Array.getD_eq_getD_getElem?]; exact hlow 1 (by kernel_rfl)
            have l6 : a.tmps[6]?.getD undef = .int .i64 (i : Int) := by rw [← Array.getD_eq_getD_getElem?]; exact hlow 6 (by kernel_rfl)
            have l7 : a.tmps[7]?.getD undef = .int .i64 (k : Int) := by rw [← Array.getD_eq_getD_getElem?]; exact hlow 7 (by kernel_rfl)
            have D : ∀ j oj d, edgeB _ kk j = true → _ → _ → a.tmps[d]?.getD undef = _ := fun j oj d h1 h2 h3 => (Array.getD_eq_getD_getElem? ..).symm.trans (hdep j oj d h1 h2 h3)
            have K : ∀ {kk : Nat}, kk ≠ 0 → kk ≠ 4 → kk ≠ 9 → kk ≠ 10 → kk ≠ 14 → Below w1.heap.size w1 w' ∧ ((L.setIfInBounds kk true).getD 0 true = true → (L.setIfInBounds kk true).getD 4 true = false → w'.ownsRow w1.heap.size 3 1 (.slice (some ⟨x.1, 0, none⟩) 0 0) 0 []) ∧ ((L.setIfInBounds kk true).getD 4 true = true → (L.setIfInBounds kk true).getD 10 true = false → w'.ownsRow w1.heap.size 3 1 x.2.1 k (ic (out.take k))) ∧ ((L.setIfInBounds kk true).getD 9 true = true → (L.setIfInBounds kk true).getD 10 true = false → BlockIs w' x.2.2.1 3 #[.int .i64 xv]) ∧ ((L.setIfInBounds kk true).getD 10 true = true → (L.setIfInBounds kk true).getD 14 true = false → w'.ownsRow w1.heap.size 3 1 x.2.2.2.1 (k + 1) (ic (out.take k ++ [xv]))) ∧ ((L.setIfInBounds kk true).getD 14 true = true → (L.setIfInBounds kk true).getD 10 true = true ∧ w'.ownsRow w1.heap.size 3 1 x.2.2.2.2 (i + 1) (ic (out.take k ++ [xv] ++ out.drop k))) ∧ ((L.setIfInBounds kk true).getD 10 true = true → (L.setIfInBounds kk true).getD 4 true = true) := fun h0 h4 h6 h7 h11 => ⟨hS0, by rw [set_ne h0, set_ne h4]; exact hS1, by rw [set_ne h4, set_ne h7]; exact hS2, by rw [set_ne h6, set_ne h7]; exact hS3, by rw [set_ne h7, set_ne h11]; exact hS4, by rw [set_ne h11, set_ne h7]; exact hS5, by rw [set_ne h7, set_ne h4]; exact hS6⟩
            rcases (by omega : kk = 0 ∨ kk = 1 ∨ kk = 2 ∨ kk = 3 ∨ kk = 4 ∨ kk = 5 ∨ kk = 6 ∨ kk = 7 ∨ kk = 8 ∨ kk = 9 ∨ kk = 10 ∨ kk = 11 ∨ kk = 12 ∨ kk = 13 ∨ kk = 14 ∨ kk = 15) with rfl | rfl | rfl | rfl | rfl | rfl | rfl | rfl | rfl | rfl | rfl | rfl | rfl | rfl | rfl | rfl
            · obtain rfl := Option.some.inj ho
              refine ⟨rfl, .inl ⟨(w'.heap.size, x.2), w'.alloc (.cells #[] 3), fun j hj => ?_, by simp [execOp, Act.eval, go_sem], hS0.alloc hS0.size _, (fun _ _ => World.ownsRow_made w' #[] 0 hS0.size (by unfold maxLen; omega) rfl), (fun h => ?_), (fun h h' => ?_), (fun h => ?_), (fun h => ?_), fun h => ?_⟩⟩
              · have n0 : j ≠ 0 := fun e => by subst e; rw [hLi] at hj; cases hj
                exact but_i0 j n0
              · rw [set_ne (by decide), hLn 4 (by kernel_rfl)] at h; cases h
              · rw [set_ne (by decide)] at h h'; exact (hS3 h h').below ((Below.refl _ _).alloc (Nat.le_refl _) _)
              · rw [set_ne (by decide)] at h; have h4 := hS6 h; rw [hLn 4 (by kernel_rfl)] at h4; cases h4
              · rw [set_ne (by decide)] at h; have h4 := hS6 (hS5 h).1; rw [hLn 4 (by kernel_rfl)] at h4; cases h4
              · rw [set_ne (by decide)] at h ⊢; exact hS6 h
            · obtain rfl := Option.some.inj ho
              have l5 : a.tmps[5]?.getD undef = .slice (some ad) i cc := (Array.getD_eq_getD_getElem? ..).symm.trans (hold 15 _ 5 (by kernel_rfl) rfl rfl)
              exact ⟨rfl, .inl ⟨x, w', fun _ _ => rfl, by simp [execOp, Act.eval, l5, go_sem], K (by decide) (by decide) (by decide) (by decide) (by decide)⟩⟩
            · obtain rfl := Option.some.inj ho
              exact ⟨rfl, .inl ⟨x, w', fun _ _ => rfl, by simp [execOp, Act.eval, l7, go_sem], K (by decide) (by decide) (by decide) (by decide) (by decide)⟩⟩
            · obtain rfl := Option.some.inj ho
              have e34 : a.tmps[34]?.getD undef = .slice (some ad) i cc := D 1 _ 34 (by kernel_rfl) rfl rfl
              have e35 : a.tmps[35]?.getD undef = .int .i64 (k : Int) := D 2 _ 35 (by kernel_rfl) rfl rfl
              have x1 : a.eval (.tmp 34) = .slice (some ad) i cc := by simp [Act.eval, e34]
              have x2 : a.eval (.tmp 35) = .int .i64 (k : Int) := by simp [Act.eval, e35]
              have hsl : (Instr.sliceAt 24 (a.eval (.tmp 34)) none ((some (Operand.tmp 35)).map a.eval) none).run Tryd.prog w' = .ok (.slice (some ad) k cc) w' := by
                rw [x1, Option.map_some, x2]; exact slice_h ad _ cc k w' (by omega)
              exact ⟨rfl, .inl ⟨x, w', fun _ _ => rfl, exec_slice rfl hsl, K (by decide) (by decide) (by decide) (by decide) (by decide)⟩⟩
            · obtain rfl := Option.some.inj ho
              have e33 : a.tmps[33]?.getD undef = .slice (some ⟨x.1, 0, none⟩) 0 0 := D 0 _ 33 (by kernel_rfl) rfl rfl
              have e36 : a.tmps[36]?.getD undef = .slice (some ad) k cc := D 3 _ 36 (by kernel_rfl) rfl rfl
              have x1 : a.eval (.tmp 33) = .slice (some ⟨x.1, 0, none⟩) 0 0 := by simp [Act.eval, e33]
              have x2 : a.eval (.tmp 36) = .slice (some ad) k cc := by simp [Act.eval, e36]
              have hown := hS1 (hLd 0 (by kernel_rfl)) hLi
              obtain ⟨v', w'', hrun, hown', hgrow, hnil⟩ := run_append_own (P := Tryd.prog) w' w1.heap.size 24 24 3 i0 (.int .i64 0) 1 8 Tryd.underlying24 hi hz0 hz1 hz2 rfl (by decide) (.slice (some ⟨x.1, 0, none⟩) 0 0) 0 _ hown ad k cc (ic (out.take k)) (by rw [ic_len]; simp; omega) (head_srcS (HRW.out.below hS0)) ic_one (by unfold maxLen; omega) (by omega) hS0.size
              have hbz : Below w1.heap.size w1 w'' := hS0.grown hgrow hS0.size (fun b hb => (hown.lt b hb).1)
              refine ⟨rfl, .inl ⟨(x.1, v', x.2.2), w'', fun j hj => ?_, exec_append rfl x1 x2 hrun, hbz, (fun _ h => ?_), (fun _ _ => ?_), (fun h h' => ?_), (fun h => ?_), (fun h => ?_), fun _ => ?_⟩⟩
              · have n4 : j ≠ 4 := fun e => by subst e; rw [hLi] at hj; cases hj
                exact but_i4 j n4
              · rw [set_eq (by rw [hLs]; decide)] at h; cases h
              · rw [List.nil_append, Nat.zero_add] at hown'; exact hown'
              · rw [set_ne (by decide)] at h h'
                have hB := hS3 h h'
                refine (hgrow.block _ hB.lt fun e => ?_).trans hB
                have eg : x.1 = x.2.2.1 := (Option.some.inj e).symm
                exact empty_neS hown (eg ▸ hB)
              · rw [set_ne (by decide), hLn 10 (by kernel_rfl)] at h; cases h
              · rw [set_ne (by decide)] at h; have h9 := (hS5 h).1; rw [hLn 10 (by kernel_rfl)] at h9; cases h9
              · rw [set_eq (by rw [hLs]; decide)]
            · obtain rfl := Option.some.inj ho
              exact ⟨rfl, .inl ⟨x, w', fun _ _ => rfl, by simp [execOp, Act.eval, l1, go_sem], K (by decide) (by decide) (by decide) (by decide) (by decide)⟩⟩
            · obtain rfl := Option.some.inj ho
              exact ⟨rfl, .inl ⟨x, w', fun _ _ => rfl, by simp [execOp, Act.eval, l6, go_sem], K (by decide) (by decide) (by decide) (by decide) (by decide)⟩⟩
            · obtain rfl := Option.some.inj ho
              have e38 : a.tmps[38]?.getD undef = .slice (some bd) l.length d := D 5 _ 38 (by kernel_rfl) rfl rfl
              have e39 : a.tmps[39]?.getD undef = .int .i64 (i : Int) := D 6 _ 39 (by kernel_rfl) rfl rfl
              exact ⟨rfl, .inl ⟨x, w', fun _ _ => rfl, by simp [execOp, Act.eval, e38, e39, hi0, hi1, go_sem], K (by decide) (by decide) (by decide) (by decide) (by decide)⟩⟩
            · obtain rfl := Option.some.inj ho
              have e40 : a.tmps[40]?.getD undef = .pointer (some (bd.add i)) := D 7 _ 40 (by kernel_rfl) rfl rfl
              have hcw : w'.cell? (bd.add i) = some (.int .i64 xv) := (hS0.cell (p := bd.add i) (by rw [add_block]; exact hbbl)).trans hcb
              exact ⟨rfl, .inl ⟨x, w', fun _ _ => rfl, by simp [execOp, Act.eval, e40, hcw, go_sem], K (by decide) (by decide) (by decide) (by decide) (by decide)⟩⟩
            · obtain rfl := Option.some.inj ho
              have e41 : a.tmps[41]?.getD undef = .int .i64 xv := D 8 _ 41 (by kernel_rfl) rfl rfl
              refine ⟨rfl, .inl ⟨(x.1, x.2.1, w'.heap.size, x.2.2.2), w'.alloc (.cells #[.int .i64 xv] 3), fun j hj => ?_, by simp [execOp, Act.eval, e41, go_sem], hS0.alloc hS0.size _, (fun h h' => ?_), (fun h h' => ?_), (fun _ _ => BlockIs.new _ _ _), (fun h => ?_), (fun h => ?_), fun h => ?_⟩⟩
              · have n6 : j ≠ 9 := fun e => by subst e; rw [hLi] at hj; cases hj
                exact but_i9 j n6
              · rw [set_ne (by decide)] at h h'; exact (hS1 h h').alloc _
              · rw [set_ne (by decide)] at h h'; exact (hS2 h h').alloc _
              · rw [set_ne (by decide), hLn 10 (by kernel_rfl)] at h; cases h
              · rw [set_ne (by decide)] at h; have h9 := (hS5 h).1; rw [hLn 10 (by kernel_rfl)] at h9; cases h9
              · rw [set_ne (by decide)] at h ⊢; exact hS6 h
            · obtain rfl := Option.some.inj ho
              have e37 : a.tmps[37]?.getD undef = x.2.1 := D 4 _ 37 (by kernel_rfl) rfl rfl
              have e42 : a.tmps[42]?.getD undef = .slice (some ⟨x.2.2.1, 0, none⟩) 1 1 := D 9 _ 42 (by kernel_rfl) rfl rfl
              have x1 : a.eval (.tmp 37) = x.2.1 := by simp [Act.eval, e37]
              have x2 : a.eval (.tmp 42) = .slice (some ⟨x.2.2.1, 0, none⟩) 1 1 := by simp [Act.eval, e42]
              have hown := hS2 (hLd 4 (by kernel_rfl)) hLi
              have hB8 := hS3 (hLd 9 (by kernel_rfl)) hLi
              have hsrc : ∀ j u, (ic [xv])[j]? = some u → w'.cell? ((⟨x.2.2.1, 0, none⟩ : Addr).add j) = some u := fun j u hu => by rw [Addr.add_lit, Nat.zero_add, hB8.cell, ← Array.getElem?_toList]; exact hu
              obtain ⟨v', w'', hrun, hown', hgrow, hnil⟩ := run_append_own (P := Tryd.prog) w' w1.heap.size 24 24 3 i0 (.int .i64 0) 1 8 Tryd.underlying24 hi hz0 hz1 hz2 rfl (by decide) x.2.1 k _ hown ⟨x.2.2.1, 0, none⟩ 1 1 (ic [xv]) rfl hsrc ic_one (by unfold maxLen; omega) (by omega) hS0.size
              have hbz : Below w1.heap.size w1 w'' := hS0.grown hgrow hS0.size (fun b hb => (hown.lt b hb).1)
              refine ⟨rfl, .inl ⟨(x.1, x.2.1, x.2.2.1, v', x.2.2.2.2), w'', fun j hj => ?_, exec_append rfl x1 x2 hrun, hbz, (fun h h' => ?_), (fun _ h => ?_), (fun _ h => ?_), (fun _ _ => ?_), (fun h => ?_), fun _ => ?_⟩⟩
              · have n7 : j ≠ 10 := fun e => by subst e; rw [hLi] at hj; cases hj
                exact but_i10 j n7
              · rw [set_ne (by decide)] at h'; have h9 := hLd 4 (by kernel_rfl); rw [h9] at h'; cases h'
              · rw [set_eq (by rw [hLs]; decide)] at h; cases h
              · rw [set_eq (by rw [hLs]; decide)] at h; cases h
              · have hx : ic (out.take k) ++ ic [xv] = ic (out.take k ++ [xv]) := by unfold ic; simp
                rw [hx] at hown'; exact hown'
              · rw [set_ne (by decide), hLn 14 (by kernel_rfl)] at h; cases h
              · rw [set_ne (by decide)]; exact hLd 4 (by kernel_rfl)
            · obtain rfl := Option.some.inj ho
              have l5 : a.tmps[5]?.getD undef = .slice (some ad) i cc := (Array.getD_eq_getD_getElem? ..).symm.trans (hold 15 _ 5 (by kernel_rfl) rfl rfl)
              exact ⟨rfl, .inl ⟨x, w', fun _ _ => rfl, by simp [execOp, Act.eval, l5, go_sem], K (by decide) (by decide) (by decide) (by decide) (by decide)⟩⟩
            · obtain rfl := Option.some.inj ho
              exact ⟨rfl, .inl ⟨x, w', fun _ _ => rfl, by simp [execOp, Act.eval, l7, go_sem], K (by decide) (by decide) (by decide) (by decide) (by decide)⟩⟩
            · obtain rfl := Option.some.inj ho
              have e44 : a.tmps[44]?.getD undef = .slice (some ad) i cc := D 11 _ 44 (by kernel_rfl) rfl rfl
              have e45 : a.tmps[45]?.getD undef = .int .i64 (k : Int) := D 12 _ 45 (by kernel_rfl) rfl rfl
              have x1 : a.eval (.tmp 44) = .slice (some ad) i cc := by simp [Act.eval, e44]
              have x2 : a.eval (.tmp 45) = .int .i64 (k : Int) := by simp [Act.eval, e45]
              have hsl : (Instr.sliceAt 24 (a.eval (.tmp 44)) ((some (Operand.tmp 45)).map a.eval) none none).run Tryd.prog w' = .ok (.slice (some (tailAd ad k cc)) (i - k) (cc - k)) w' := by
                rw [x1, Option.map_some, x2]; exact slice_l ad _ cc k w' (by omega)
              exact ⟨rfl, .inl ⟨x, w', fun _ _ => rfl, exec_slice rfl hsl, K (by decide) (by decide) (by decide) (by decide) (by decide)⟩⟩
            · obtain rfl := Option.some.inj ho
              have e43 : a.tmps[43]?.getD undef = x.2.2.2.1 := D 10 _ 43 (by kernel_rfl) rfl rfl
              have e46 : a.tmps[46]?.getD undef = .slice (some (tailAd ad k cc)) (i - k) (cc - k) := D 13 _ 46 (by kernel_rfl) rfl rfl
              have x1 : a.eval (.tmp 43) = x.2.2.2.1 := by simp [Act.eval, e43]
              have x2 : a.eval (.tmp 46) = .slice (some (tailAd ad k cc)) (i - k) (cc - k) := by simp [Act.eval, e46]
              have t9 : L.getD 10 true = true := hLd 10 (by kernel_rfl)
              have hown := hS4 t9 hLi
              obtain ⟨v', w'', hrun, hown', hgrow, hnil⟩ := run_append_own (P := Tryd.prog) w' w1.heap.size 24 24 3 i0 (.int .i64 0) 1 8 Tryd.underlying24 hi hz0 hz1 hz2 rfl (by decide) x.2.2.2.1 (k + 1) _ hown (tailAd ad k cc) (i - k) (cc - k) (ic (out.drop k)) (by rw [ic_len]; simp; omega) (tail_src (HRW.out.below hS0) (by omega)) ic_one (by unfold maxLen; omega) (by omega) hS0.size
              have hbz : Below w1.heap.size w1 w'' := hS0.grown hgrow hS0.size (fun b hb => (hown.lt b hb).1)
              refine ⟨rfl, .inl ⟨(x.1, x.2.1, x.2.2.1, x.2.2.2.1, v'), w'', fun j hj => ?_, exec_append rfl x1 x2 hrun, hbz, (fun h h' => ?_), (fun _ h => ?_), (fun _ h => ?_), (fun _ h => ?_), (fun _ => ?_), fun _ => ?_⟩⟩
              · have n11 : j ≠ 14 := fun e => by subst e; rw [hLi] at hj; cases hj
                have f12 : L.getD 15 true = false := hLn 15 (by kernel_rfl)
                have n12 : j ≠ 15 := fun e => by subst e; rw [f12] at hj; cases hj
                exact but_i14 j n11 n12
              · rw [set_ne (by decide), hS6 t9] at h'; cases h'
              · rw [set_ne (by decide), t9] at h; cases h
              · rw [set_ne (by decide), t9] at h; cases h
              · rw [set_eq (by rw [hLs]; decide)] at h; cases h
              · have hx : ic (out.take k ++ [xv]) ++ ic (out.drop k) = ic (out.take k ++ [xv] ++ out.drop k) := by unfold ic; simp
                rw [hx, show k + 1 + (i - k) = i + 1 by omega] at hown'; exact ⟨by rw [set_ne (by decide)]; exact t9, hown'⟩
              · rw [set_ne (by decide)]; exact hS6 t9
            · obtain rfl := Option.some.inj ho
              have e47 : a.tmps[47]?.getD undef = x.2.2.2.2 := D 14 _ 47 (by kernel_rfl) rfl rfl
              exact ⟨rfl, .inl ⟨x, w', fun _ _ => rfl, by simp [execOp, Act.eval, e47, go_sem], K (by decide) (by decide) (by decide) (by decide) (by decide)⟩⟩
    · obtain rfl : i = l.length := by omega
      go_wp2
      go_ret
      exact ⟨_, rfl, HO.out, HW.out⟩
end
end Go.Proofs.YtllohccpnglloaaDoor
