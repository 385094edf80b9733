/- Johnson's order: the model's l8Johnson. -/
import Derived.Test.YtdhndoccdfbefaaDoorJoF
import Derived.Test.YtdhndoccdfbefaaDoorSwapB
import Derived.Test.YtdhndoccdfbefaaDoorOwnM
import Derived.Test.YtdhndoccdfbefaaDoorRegInvG
namespace Go.Proofs.YtdhndoccdfbefaaDoor
open Go.RowKit
theorem empty_neS {w : World} {B g : Nat} {t : TypeId} {v : Value} (h : w.ownsRow B 3 1 (.slice (some ⟨g, 0, none⟩) 0 0) 0 []) (hb : BlockIs w g t #[v]) : False := by
  rcases h.2 with ⟨h0, _⟩ | ⟨g', cap, cur, h0, _, hk, _, _, h3, _⟩
  · cases h0
  · injection h0 with h0 _ h2
    injection h0 with h0
    injection h0 with h0
    subst h0 h2
    rw [show w.heap[g]? = _ from hb] at hk
    injection hk with hk
    injection hk with hk _
    subst hk
    simp at h3
theorem head_srcS {w : World} {ad : Addr} {xs : List Int} {k : Nat} (h : Row w (some ad) (ic xs)) : ∀ j u, (ic (xs.take k))[j]? = some u → w.cell? (ad.add j) = some u := fun j u hu => by
  refine row_src h j u ?_
  unfold ic at hu ⊢
  rw [List.map_take, List.getElem?_take] at hu
  split at hu
  · exact hu
  · cases hu
theorem own_block2S {w : World} {B n : Nat} {v : Value} {cs : List Value} (h : w.ownsRow B 3 1 v n cs) (hn : 0 < n) : ∃ g, B ≤ g ∧ (∃ c, v = .slice (some ⟨g, 0, none⟩) n c) ∧ True := by
  rcases h.2 with ⟨_, h0⟩ | ⟨g, cap, cur, hv, hb, _⟩
  · omega
  · exact ⟨g, hb, ⟨cap, hv⟩, trivial⟩
theorem but_q0 {a0 b0 v1 v10 v11 v12 v2 v3 v4 v5 v6 v7 v8 v9 : Value} (j : Nat) (h0 : j ≠ 0) : (#[a0, v1, v2, v3, v4, v5, v6, v7, v8, v9, v10, v11, v12] : Array Value).getD j undef = (#[b0, v1, v2, v3, v4, v5, v6, v7, v8, v9, v10, v11, v12] : Array Value).getD j undef := by
  rcases (by omega : j = 1 ∨ j = 2 ∨ j = 3 ∨ j = 4 ∨ j = 5 ∨ j = 6 ∨ j = 7 ∨ j = 8 ∨ j = 9 ∨ j = 10 ∨ j = 11 ∨ j = 12 ∨ 12 < j) with rfl | rfl | rfl | rfl | rfl | rfl | rfl | rfl | rfl | rfl | rfl | rfl | h
  all_goals first | rfl | (simp only [Array.getD_eq_getD_getElem?]; rw [Array.getElem?_eq_none (by simp; omega), Array.getElem?_eq_none (by simp; omega)])
theorem but_q4 {a4 b4 v0 v1 v10 v11 v12 v2 v3 v5 v6 v7 v8 v9 : Value} (j : Nat) (h4 : j ≠ 4) : (#[v0, v1, v2, v3, a4, v5, v6, v7, v8, v9, v10, v11, v12] : Array Value).getD j undef = (#[v0, v1, v2, v3, b4, v5, v6, v7, v8, v9, v10, v11, v12] : Array Value).getD j undef := by
  rcases (by omega : j = 0 ∨ j = 1 ∨ j = 2 ∨ j = 3 ∨ j = 5 ∨ j = 6 ∨ j = 7 ∨ j = 8 ∨ j = 9 ∨ j = 10 ∨ j = 11 ∨ j = 12 ∨ 12 < j) with rfl | rfl | rfl | rfl | rfl | rfl | rfl | rfl | rfl | rfl | rfl | rfl | h
  all_goals first | rfl | (simp only [Array.getD_eq_getD_getElem?]; rw [Array.getElem?_eq_none (by simp; omega), Array.getElem?_eq_none (by simp; omega)])
theorem but_q6 {a6 b6 v0 v1 v10 v11 v12 v2 v3 v4 v5 v7 v8 v9 : Value} (j : Nat) (h6 : j ≠ 6) : (#[v0, v1, v2, v3, v4, v5, a6, v7, v8, v9, v10, v11, v12] : Array Value).getD j undef = (#[v0, v1, v2, v3, v4, v5, b6, v7, v8, v9, v10, v11, v12] : Array Value).getD j undef := by
  rcases (by omega : j = 0 ∨ j = 1 ∨ j = 2 ∨ j = 3 ∨ j = 4 ∨ j = 5 ∨ j = 7 ∨ j = 8 ∨ j = 9 ∨ j = 10 ∨ j = 11 ∨ j = 12 ∨ 12 < j) with rfl | rfl | rfl | rfl | rfl | rfl | rfl | rfl | rfl | rfl | rfl | rfl | h
  all_goals first | rfl | (simp only [Array.getD_eq_getD_getElem?]; rw [Array.getElem?_eq_none (by simp; omega), Array.getElem?_eq_none (by simp; omega)])
theorem but_q7 {a7 b7 v0 v1 v10 v11 v12 v2 v3 v4 v5 v6 v8 v9 : Value} (j : Nat) (h7 : j ≠ 7) : (#[v0, v1, v2, v3, v4, v5, v6, a7, v8, v9, v10, v11, v12] : Array Value).getD j undef = (#[v0, v1, v2, v3, v4, v5, v6, b7, v8, v9, v10, v11, v12] : Array Value).getD j undef := by
  rcases (by omega : j = 0 ∨ j = 1 ∨ j = 2 ∨ j = 3 ∨ j = 4 ∨ j = 5 ∨ j = 6 ∨ j = 8 ∨ j = 9 ∨ j = 10 ∨ j = 11 ∨ j = 12 ∨ 12 < j) with rfl | rfl | rfl | rfl | rfl | rfl | rfl | rfl | rfl | rfl | rfl | rfl | h
  all_goals first | rfl | (simp only [Array.getD_eq_getD_getElem?]; rw [Array.getElem?_eq_none (by simp; omega), Array.getElem?_eq_none (by simp; omega)])
theorem but_q11 {a11 a12 b11 b12 v0 v1 v10 v2 v3 v4 v5 v6 v7 v8 v9 : Value} (j : Nat) (h11 : j ≠ 11) (h12 : j ≠ 12) : (#[v0, v1, v2, v3, v4, v5, v6, v7, v8, v9, v10, a11, a12] : Array Value).getD j undef = (#[v0, v1, v2, v3, v4, v5, v6, v7, v8, v9, v10, b11, b12] : Array Value).getD j undef := by
  rcases (by omega : j = 0 ∨ j = 1 ∨ j = 2 ∨ j = 3 ∨ j = 4 ∨ j = 5 ∨ j = 6 ∨ j = 7 ∨ j = 8 ∨ j = 9 ∨ j = 10 ∨ 12 < j) with rfl | rfl | rfl | rfl | rfl | rfl | rfl | rfl | rfl | rfl | rfl | h
  all_goals first | rfl | (simp only [Array.getD_eq_getD_getElem?]; rw [Array.getElem?_eq_none (by simp; omega), Array.getElem?_eq_none (by simp; omega)])
theorem joTo_range (rk : Nat → Int) (n i : Nat) (h : i < n) : joTo rk (List.range n) (i + 1) = insJ rk i (joTo rk (List.range n) i) := by
  have e : (List.range n).getD i 0 = i := by simp [List.getD, h]
  show insJ rk ((List.range n).getD i 0) _ = _
  rw [e]
theorem nat_at {w : World} {A : Option Addr} {p : List Nat} (hr : Row w A (ic (natI p))) {k : Nat} (hk : k < p.length) : ∃ ad, A = some ad ∧ w.cell? (ad.add k) = some (.int .i64 ((p[k] : Nat) : Int)) := by
  obtain ⟨ad, hA, hc⟩ := hr.at_ (k := k) (by rw [ic_len]; simpa [natI] using hk)
  rw [ic_get _ k (by simpa [natI] using hk)] at hc
  refine ⟨ad, hA, ?_⟩
  rw [hc]
  simp [natI]
section
variable (A : Option Addr) (c : Nat) (xss : List (List Int)) (w : World) (hr : RowSS w A (xss.map ic)) (hs : Shop xss) (hm : xss.length = 0 ∨ mOf xss = 2)
include hr hs hm
set_option maxRecDepth 100000 in
set_option maxHeartbeats 4000000 in
theorem l8Johnson_any : Calls Tryd.prog 15 #[.slice A xss.length c] w fun e w' => ∃ v, e = .returned v ∧ w'.ownsRow w.heap.size 3 1 v xss.length (ic (natI (joL (rkJ xss) (List.range xss.length)))) ∧ Below w.heap.size w w' := by
  obtain ⟨i0, hi, hz0, hz1, hz2⟩ := info_parts infoI
  have hb0 := (Below.refl w.heap.size w).alloc (Nat.le_refl _) (.cells #[] 3)
  have hown0 : (w.alloc (.cells #[] 3)).ownsRow w.heap.size 3 1 (.slice (some ⟨w.heap.size, 0, none⟩) 0 0) 0 [] := World.ownsRow_made w #[] 0 (Nat.le_refl _) (by unfold maxLen; omega) rfl
  have H0 := Lib.hid (And.intro hown0 hb0)
  have h8 := hs.n8
  have HFI := Lib.hid (fun W (hb : Below w.heap.size w W) i k (hi : i < xss.length) (hk : k < xss.length) => l8First_any A c xss i k W (hr.below hb) hs (by rcases hm with e | e <;> omega) hi hk)
  clear hown0 hb0 hr hs hm
  go_enter Tryd.func15, Tryd.ntmps15
  go_wp2
  go_loopw [3, 4] (fun v i wr => ∃ (k : Nat) (ad : Addr) (cc : Nat), k ≤ xss.length ∧ v = .slice (some ad) k cc ∧ i = .int .i64 (k : Int) ∧ Hid (wr.ownsRow w.heap.size 3 1 (.slice (some ad) k cc) k (ic (natI (joTo (rkJ xss) (List.range xss.length) k)))) ∧ Hid (Below w.heap.size w wr)) (fun _ i _ => xss.length - (intOf i).toNat)
  case atStart => exact ⟨0, _, 0, Nat.zero_le _, rfl, rfl, H0.out.1, H0.out.2⟩
  case round =>
    obtain ⟨i, ad, cc, hik, rfl, rfl, HO, HW⟩ := hrel
    clear H0
    by_cases hlt : i < xss.length
    · have hi0 : (0 : Int) ≤ i := by omega
      have hi1 : (i : Int) < xss.length := by omega
      have hol := joTo_len (rkJ xss) (List.range xss.length) i
      have HINS := Lib.hid (joTo_range (rkJ xss) xss.length i hlt)
      have hout : ∀ a ∈ joTo (rkJ xss) (List.range xss.length) i, a < xss.length := fun a ha => List.mem_range.1 (joTo_mem (by rw [List.length_range]; omega) ha)
      generalize joTo (rkJ xss) (List.range xss.length) i = out0 at *
      have hol1 : out0.length ≤ i := by omega
      have hol2 : i ≤ out0.length := by omega
      clear hol
      obtain ⟨wo, rfl⟩ : ∃ wo : World, wo = wr := ⟨_, rfl⟩
      go_wp2
      go_loopw [5] (fun kv wi => ∃ k q : Nat, k ≤ i ∧ kv = .int .i64 (k : Int) ∧ Hid (∀ a ∈ out0.take k, fB (rkJ xss) a i = true) ∧ wi = wo.drewN q) (fun kv _ => i - (intOf kv).toNat)
      case atStart => exact ⟨0, 0, Nat.zero_le _, rfl, (fun a h => by cases h), rfl⟩
      case round =>
        obtain ⟨k, q, hk, rfl, HG, rfl⟩ := hrel
        have HRow := Lib.hid (Row.of_own HO.out)
        by_cases hki : k < i
        · have hko : k < out0.length := by omega
          have hk0 : (0 : Int) ≤ k := by omega
          have hk1 : (k : Int) < i := by omega
          obtain ⟨ad', hA', hc0⟩ := nat_at HRow.out hko
          injection hA' with hA'
          subst hA'
          have hc0' : (wo.drewN q).cell? (ad.add k) = some (.int .i64 ((out0[k] : Nat) : Int)) := hc0
          have dk : decide (k < i) = true := decide_eq_true hki
          have hx0 := hout _ (List.getElem_mem hko)
          have HSN := Lib.hid (HFI.out (wo.drewN q) (below_drewN HW.out q) out0[k] i hx0 hlt)
          cases hsn : fB (rkJ xss) out0[k] i
          · have HF := Lib.hid (HINS.out.trans (insJ_at (rkJ xss) i out0 k (by omega) HG.out (fun _ => hsn)))
            rw [hsn] at HSN
            generalize out0[k] = x0 at *
            clear hx0 hsn hout
            go_wp2_with fail
            refine HSN.out.mono ?_
            rintro e _ ⟨rfl, q2, rfl⟩
            go_wp2
            generalize hw1 : wo.drewN (q + q2) = w1
            have HRW : Hid (Row w1 (some ad) (ic (natI out0))) := by rw [← hw1]; exact HRow.out.drewN _
            have hbw1 : Below wo.heap.size wo w1 := by rw [← hw1]; exact below_drewN (Below.refl _ _) _
            have HBW := Lib.hid (HW.out.trans (hbw1.mono HW.out.size))
            have hcc : i ≤ cc := (slice_some HO.out).2
            have HF2 : Hid (ic ((natI out0).take k ++ [(i : Int)] ++ (natI out0).drop k) = ic (natI (joTo (rkJ xss) (List.range xss.length) (i + 1)))) := by show _ = _; rw [HF.out]; unfold natI; simp
            have hoL : (natI out0).length = out0.length := by unfold natI; simp
            generalize natI out0 = out at *
            have hol1 : out.length ≤ i := by omega
            have hol2 : i ≤ out.length := by omega
            clear hw1 hbw1 hoL HF HINS HG
            refine wp_region_detG (by kernel_rfl) (fun x L w' => Below w1.heap.size w1 w' ∧ (L.getD 0 true = true → L.getD 4 true = false → w'.ownsRow w1.heap.size 3 1 (.slice (some ⟨x.1, 0, none⟩) 0 0) 0 []) ∧ (L.getD 4 true = true → L.getD 7 true = false → w'.ownsRow w1.heap.size 3 1 x.2.1 k (ic (out.take k))) ∧ (L.getD 6 true = true → L.getD 7 true = false → BlockIs w' x.2.2.1 3 #[.int .i64 (i : Int)]) ∧ (L.getD 7 true = true → L.getD 11 true = false → w'.ownsRow w1.heap.size 3 1 x.2.2.2.1 (k + 1) (ic (out.take k ++ [(i : Int)]))) ∧ (L.getD 11 true = true → L.getD 7 true = true ∧ w'.ownsRow w1.heap.size 3 1 x.2.2.2.2 (i + 1) (ic (out.take k ++ [(i : Int)] ++ out.drop k))) ∧ (L.getD 7 true = true → L.getD 4 true = true))
              (fun x kk => #[.slice (some ⟨x.1, 0, none⟩) 0 0, .slice (some ad) i cc, .int .i64 (k : Int), .slice (some ad) k cc, x.2.1, .int .i64 (i : Int), .slice (some ⟨x.2.2.1, 0, none⟩) 1 1, x.2.2.2.1, .slice (some ad) i cc, .int .i64 (k : Int), .slice (some (tailAd ad k cc)) (i - k) (cc - k), x.2.2.2.2, x.2.2.2.2].getD kk undef) (0, undef, 0, undef, undef) (by kernel_rfl) (by kernel_rfl) ⟨(Below.refl _ _).drew, (fun h => by cases h), (fun h => by cases h), (fun h => by cases h), (fun h => by cases h), (fun h => by cases h), fun h => by cases h⟩ ?_ ?_
            · intro x L tm w' hall hS hsz hlow hval
              have ht : tm = #[.slice A xss.length c, undef, .slice none 0 0, x.2.2.2.2, .int .i64 (i : Int), .int .i64 (k : Int), .slice (some ⟨w.heap.size, 0, none⟩) 0 0, .int .i64 (i : Int), .slice A xss.length c, .int .i64 (xss.length : Int), .bool true, u11, u12, .int .i64 (k : Int), .slice (some ad) i cc, .int .i64 (i : Int), .bool true, .bool true, .slice A xss.length c, .slice (some ad) i cc, .int .i64 (k : Int), .pointer (some (ad.add k)), .int .i64 (x0 : Int), .int .i64 (i : Int), .bool false, .bool false, u26, u27, .slice (some ⟨x.1, 0, none⟩) 0 0, .slice (some ad) i cc, .int .i64 (k : Int), .slice (some ad) k cc, x.2.1, .int .i64 (i : Int), .slice (some ⟨x.2.2.1, 0, none⟩) 1 1, x.2.2.2.1, .slice (some ad) i cc, .int .i64 (k : Int), .slice (some (tailAd ad k cc)) (i - k) (cc - k), x.2.2.2.2, undef] := by
                refine arr_of _ _ hsz fun t ht => ?_
                have ht' : t < 41 := ht
                rcases (by omega : t = 0 ∨ t = 1 ∨ t = 2 ∨ t = 3 ∨ t = 4 ∨ t = 5 ∨ t = 6 ∨ t = 7 ∨ t = 8 ∨ t = 9 ∨ t = 10 ∨ t = 11 ∨ t = 12 ∨ t = 13 ∨ t = 14 ∨ t = 15 ∨ t = 16 ∨ t = 17 ∨ t = 18 ∨ t = 19 ∨ t = 20 ∨ t = 21 ∨ t = 22 ∨ t = 23 ∨ t = 24 ∨ t = 25 ∨ t = 26 ∨ t = 27 ∨ t = 28 ∨ t = 29 ∨ t = 30 ∨ t = 31 ∨ t = 32 ∨ t = 33 ∨ t = 34 ∨ t = 35 ∨ t = 36 ∨ t = 37 ∨ t = 38 ∨ t = 39 ∨ t = 40) with rfl | rfl | rfl | rfl | rfl | rfl | rfl | rfl | rfl | rfl | rfl | rfl | rfl | rfl | rfl | rfl | rfl | rfl | rfl | rfl | rfl | rfl | rfl | rfl | rfl | rfl | rfl | rfl | rfl | rfl | rfl | rfl | rfl | rfl | rfl | rfl | rfl | rfl | rfl | rfl | rfl
                · exact hlow 0 (by kernel_rfl)
                · exact hlow 1 (by kernel_rfl)
                · exact hlow 2 (by kernel_rfl)
                · exact hval 12 _ 3 rfl rfl
                · exact hlow 4 (by kernel_rfl)
                · exact hlow 5 (by kernel_rfl)
                · exact hlow 6 (by kernel_rfl)
                · exact hlow 7 (by kernel_rfl)
                · exact hlow 8 (by kernel_rfl)
                · exact hlow 9 (by kernel_rfl)
                · exact hlow 10 (by kernel_rfl)
                · exact hlow 11 (by kernel_rfl)
                · exact hlow 12 (by kernel_rfl)
                · exact hlow 13 (by kernel_rfl)
                · exact hlow 14 (by kernel_rfl)
                · exact hlow 15 (by kernel_rfl)
                · exact hlow 16 (by kernel_rfl)
                · exact hlow 17 (by kernel_rfl)
                · exact hlow 18 (by kernel_rfl)
                · exact hlow 19 (by kernel_rfl)
                · exact hlow 20 (by kernel_rfl)
                · exact hlow 21 (by kernel_rfl)
                · exact hlow 22 (by kernel_rfl)
                · exact hlow 23 (by kernel_rfl)
                · exact hlow 24 (by kernel_rfl)
                · exact hlow 25 (by kernel_rfl)
                · exact hlow 26 (by kernel_rfl)
                · exact hlow 27 (by kernel_rfl)
                · exact hval 0 _ 28 rfl rfl
                · exact hval 1 _ 29 rfl rfl
                · exact hval 2 _ 30 rfl rfl
                · exact hval 3 _ 31 rfl rfl
                · exact hval 4 _ 32 rfl rfl
                · exact hval 5 _ 33 rfl rfl
                · exact hval 6 _ 34 rfl rfl
                · exact hval 7 _ 35 rfl rfl
                · exact hval 8 _ 36 rfl rfl
                · exact hval 9 _ 37 rfl rfl
                · exact hval 10 _ 38 rfl rfl
                · exact hval 11 _ 39 rfl rfl
                · exact hlow 40 (by kernel_rfl)
              subst ht
              clear hlow hval hsz
              obtain ⟨hbz, _, _, _, _, hS5, _⟩ := hS
              have hfin := (hS5 (hall 11 (by decide))).2
              have HO4 := Lib.hid (And.intro hfin hbz)
              clear hS5 hbz hall hfin
              obtain ⟨g4, _, ⟨c4, hx4⟩, _⟩ := own_block2S HO4.out.1 (by omega)
              generalize x.2.2.2.2 = y4 at *
              subst hx4
              rw [HF2.out] at HO4
              clear HF2
              go_wp2
              go_roundw
              case rel => exact ⟨i + 1, ⟨g4, 0, none⟩, c4, by omega, rfl, by go_num, own_lower HO4.out.1 HBW.out.size, HBW.out.trans (HO4.out.2.mono HBW.out.size)⟩
              case measure => simp [intOf]; omega
            · intro x L a w' kk op hLs ho hLi hLd hLn ⟨hS0, hS1, hS2, hS3, hS4, hS5, hS6⟩ hlow hdep hold
              have hkk : kk < 13 := (Array.getElem?_eq_some_iff.1 ho).1
              have l4 : a.tmps[4]?.getD undef = .int .i64 (i : Int) := by rw [← Array.getD_eq_getD_getElem?]; exact hlow 4 (by kernel_rfl)
              have l5 : a.tmps[5]?.getD undef = .int .i64 (k : Int) := by rw [← Array.getD_eq_getD_getElem?]; exact hlow 5 (by kernel_rfl)
              have D : ∀ j oj d, edgeB _ kk j = true → _ → _ → a.tmps[d]?.getD undef = _ := fun j oj d h1 h2 h3 => (Array.getD_eq_getD_getElem? ..).symm.trans (hdep j oj d h1 h2 h3)
              have K : ∀ {kk : Nat}, kk ≠ 0 → kk ≠ 4 → kk ≠ 6 → kk ≠ 7 → kk ≠ 11 → Below w1.heap.size w1 w' ∧ ((L.setIfInBounds kk true).getD 0 true = true → (L.setIfInBounds kk true).getD 4 true = false → w'.ownsRow w1.heap.size 3 1 (.slice (some ⟨x.1, 0, none⟩) 0 0) 0 []) ∧ ((L.setIfInBounds kk true).getD 4 true = true → (L.setIfInBounds kk true).getD 7 true = false → w'.ownsRow w1.heap.size 3 1 x.2.1 k (ic (out.take k))) ∧ ((L.setIfInBounds kk true).getD 6 true = true → (L.setIfInBounds kk true).getD 7 true = false → BlockIs w' x.2.2.1 3 #[.int .i64 (i : Int)]) ∧ ((L.setIfInBounds kk true).getD 7 true = true → (L.setIfInBounds kk true).getD 11 true = false → w'.ownsRow w1.heap.size 3 1 x.2.2.2.1 (k + 1) (ic (out.take k ++ [(i : Int)]))) ∧ ((L.setIfInBounds kk true).getD 11 true = true → (L.setIfInBounds kk true).getD 7 true = true ∧ w'.ownsRow w1.heap.size 3 1 x.2.2.2.2 (i + 1) (ic (out.take k ++ [(i : Int)] ++ out.drop k))) ∧ ((L.setIfInBounds kk true).getD 7 true = true → (L.setIfInBounds kk true).getD 4 true = true) := fun h0 h4 h6 h7 h11 => ⟨hS0, by rw [set_ne h0, set_ne h4]; exact hS1, by rw [set_ne h4, set_ne h7]; exact hS2, by rw [set_ne h6, set_ne h7]; exact hS3, by rw [set_ne h7, set_ne h11]; exact hS4, by rw [set_ne h11, set_ne h7]; exact hS5, by rw [set_ne h7, set_ne h4]; exact hS6⟩
              rcases (by omega : kk = 0 ∨ kk = 1 ∨ kk = 2 ∨ kk = 3 ∨ kk = 4 ∨ kk = 5 ∨ kk = 6 ∨ kk = 7 ∨ kk = 8 ∨ kk = 9 ∨ kk = 10 ∨ kk = 11 ∨ kk = 12) with rfl | rfl | rfl | rfl | rfl | rfl | rfl | rfl | rfl | rfl | rfl | rfl | rfl
              · obtain rfl := Option.some.inj ho
                refine ⟨rfl, .inl ⟨(w'.heap.size, x.2), w'.alloc (.cells #[] 3), fun j hj => ?_, by simp [execOp, Act.eval, go_sem], hS0.alloc hS0.size _, (fun _ _ => World.ownsRow_made w' #[] 0 hS0.size (by unfold maxLen; omega) rfl), (fun h => ?_), (fun h h' => ?_), (fun h => ?_), (fun h => ?_), fun h => ?_⟩⟩
                · have n0 : j ≠ 0 := fun e => by subst e; rw [hLi] at hj; cases hj
                  exact but_q0 j n0
                · rw [set_ne (by decide), hLn 4 (by kernel_rfl)] at h; cases h
                · rw [set_ne (by decide)] at h h'; exact (hS3 h h').below ((Below.refl _ _).alloc (Nat.le_refl _) _)
                · rw [set_ne (by decide)] at h; have h4 := hS6 h; rw [hLn 4 (by kernel_rfl)] at h4; cases h4
                · rw [set_ne (by decide)] at h; have h4 := hS6 (hS5 h).1; rw [hLn 4 (by kernel_rfl)] at h4; cases h4
                · rw [set_ne (by decide)] at h ⊢; exact hS6 h
              · obtain rfl := Option.some.inj ho
                have l3 : a.tmps[3]?.getD undef = .slice (some ad) i cc := (Array.getD_eq_getD_getElem? ..).symm.trans (hold 12 _ 3 (by kernel_rfl) rfl rfl)
                exact ⟨rfl, .inl ⟨x, w', fun _ _ => rfl, by simp [execOp, Act.eval, l3, go_sem], K (by decide) (by decide) (by decide) (by decide) (by decide)⟩⟩
              · obtain rfl := Option.some.inj ho
                exact ⟨rfl, .inl ⟨x, w', fun _ _ => rfl, by simp [execOp, Act.eval, l5, go_sem], K (by decide) (by decide) (by decide) (by decide) (by decide)⟩⟩
              · obtain rfl := Option.some.inj ho
                have e29 : a.tmps[29]?.getD undef = .slice (some ad) i cc := D 1 _ 29 (by kernel_rfl) rfl rfl
                have e30 : a.tmps[30]?.getD undef = .int .i64 (k : Int) := D 2 _ 30 (by kernel_rfl) rfl rfl
                have x1 : a.eval (.tmp 29) = .slice (some ad) i cc := by simp [Act.eval, e29]
                have x2 : a.eval (.tmp 30) = .int .i64 (k : Int) := by simp [Act.eval, e30]
                have hsl : (Instr.sliceAt 24 (a.eval (.tmp 29)) none ((some (Operand.tmp 30)).map a.eval) none).run Tryd.prog w' = .ok (.slice (some ad) k cc) w' := by
                  rw [x1, Option.map_some, x2]; exact slice_h ad _ cc k w' (by omega)
                exact ⟨rfl, .inl ⟨x, w', fun _ _ => rfl, exec_slice rfl hsl, K (by decide) (by decide) (by decide) (by decide) (by decide)⟩⟩
              · obtain rfl := Option.some.inj ho
                have e28 : a.tmps[28]?.getD undef = .slice (some ⟨x.1, 0, none⟩) 0 0 := D 0 _ 28 (by kernel_rfl) rfl rfl
                have e31 : a.tmps[31]?.getD undef = .slice (some ad) k cc := D 3 _ 31 (by kernel_rfl) rfl rfl
                have x1 : a.eval (.tmp 28) = .slice (some ⟨x.1, 0, none⟩) 0 0 := by simp [Act.eval, e28]
                have x2 : a.eval (.tmp 31) = .slice (some ad) k cc := by simp [Act.eval, e31]
                have hown := hS1 (hLd 0 (by kernel_rfl)) hLi
                obtain ⟨v', w'', hrun, hown', hgrow, hnil⟩ := run_append_own (P := Tryd.prog) w' w1.heap.size 24 24 3 i0 (.int .i64 0) 1 8 Tryd.underlying24 hi hz0 hz1 hz2 rfl (by decide) (.slice (some ⟨x.1, 0, none⟩) 0 0) 0 _ hown ad k cc (ic (out.take k)) (by rw [ic_len]; simp; omega) (head_srcS (HRW.out.below hS0)) ic_one (by unfold maxLen; omega) (by omega) hS0.size
                have hbz : Below w1.heap.size w1 w'' := hS0.grown hgrow hS0.size (fun b hb => (hown.lt b hb).1)
                refine ⟨rfl, .inl ⟨(x.1, v', x.2.2), w'', fun j hj => ?_, exec_append rfl x1 x2 hrun, hbz, (fun _ h => ?_), (fun _ _ => ?_), (fun h h' => ?_), (fun h => ?_), (fun h => ?_), fun _ => ?_⟩⟩
                · have n4 : j ≠ 4 := fun e => by subst e; rw [hLi] at hj; cases hj
                  exact but_q4 j n4
                · rw [set_eq (by rw [hLs]; decide)] at h; cases h
                · rw [List.nil_append, Nat.zero_add] at hown'; exact hown'
                · rw [set_ne (by decide)] at h h'
                  have hB := hS3 h h'
                  refine (hgrow.block _ hB.lt fun e => ?_).trans hB
                  have eg : x.1 = x.2.2.1 := (Option.some.inj e).symm
                  exact empty_neS hown (eg ▸ hB)
                · rw [set_ne (by decide), hLn 7 (by kernel_rfl)] at h; cases h
                · rw [set_ne (by decide)] at h; have h9 := (hS5 h).1; rw [hLn 7 (by kernel_rfl)] at h9; cases h9
                · rw [set_eq (by rw [hLs]; decide)]
              · obtain rfl := Option.some.inj ho
                exact ⟨rfl, .inl ⟨x, w', fun _ _ => rfl, by simp [execOp, Act.eval, l4, go_sem], K (by decide) (by decide) (by decide) (by decide) (by decide)⟩⟩
              · obtain rfl := Option.some.inj ho
                have e33 : a.tmps[33]?.getD undef = .int .i64 (i : Int) := D 5 _ 33 (by kernel_rfl) rfl rfl
                refine ⟨rfl, .inl ⟨(x.1, x.2.1, w'.heap.size, x.2.2.2), w'.alloc (.cells #[.int .i64 (i : Int)] 3), fun j hj => ?_, by simp [execOp, Act.eval, e33, go_sem], hS0.alloc hS0.size _, (fun h h' => ?_), (fun h h' => ?_), (fun _ _ => BlockIs.new _ _ _), (fun h => ?_), (fun h => ?_), fun h => ?_⟩⟩
                · have n6 : j ≠ 6 := fun e => by subst e; rw [hLi] at hj; cases hj
                  exact but_q6 j n6
                · rw [set_ne (by decide)] at h h'; exact (hS1 h h').alloc _
                · rw [set_ne (by decide)] at h h'; exact (hS2 h h').alloc _
                · rw [set_ne (by decide), hLn 7 (by kernel_rfl)] at h; cases h
                · rw [set_ne (by decide)] at h; have h9 := (hS5 h).1; rw [hLn 7 (by kernel_rfl)] at h9; cases h9
                · rw [set_ne (by decide)] at h ⊢; exact hS6 h
              · obtain rfl := Option.some.inj ho
                have e32 : a.tmps[32]?.getD undef = x.2.1 := D 4 _ 32 (by kernel_rfl) rfl rfl
                have e34 : a.tmps[34]?.getD undef = .slice (some ⟨x.2.2.1, 0, none⟩) 1 1 := D 6 _ 34 (by kernel_rfl) rfl rfl
                have x1 : a.eval (.tmp 32) = x.2.1 := by simp [Act.eval, e32]
                have x2 : a.eval (.tmp 34) = .slice (some ⟨x.2.2.1, 0, none⟩) 1 1 := by simp [Act.eval, e34]
                have hown := hS2 (hLd 4 (by kernel_rfl)) hLi
                have hB8 := hS3 (hLd 6 (by kernel_rfl)) hLi
                have hsrc : ∀ j u, (ic [(i : Int)])[j]? = some u → w'.cell? ((⟨x.2.2.1, 0, none⟩ : Addr).add j) = some u := fun j u hu => by rw [Addr.add_lit, Nat.zero_add, hB8.cell, ← Array.getElem?_toList]; exact hu
                obtain ⟨v', w'', hrun, hown', hgrow, hnil⟩ := run_append_own (P := Tryd.prog) w' w1.heap.size 24 24 3 i0 (.int .i64 0) 1 8 Tryd.underlying24 hi hz0 hz1 hz2 rfl (by decide) x.2.1 k _ hown ⟨x.2.2.1, 0, none⟩ 1 1 (ic [(i : Int)]) rfl hsrc ic_one (by unfold maxLen; omega) (by omega) hS0.size
                have hbz : Below w1.heap.size w1 w'' := hS0.grown hgrow hS0.size (fun b hb => (hown.lt b hb).1)
                refine ⟨rfl, .inl ⟨(x.1, x.2.1, x.2.2.1, v', x.2.2.2.2), w'', fun j hj => ?_, exec_append rfl x1 x2 hrun, hbz, (fun h h' => ?_), (fun _ h => ?_), (fun _ h => ?_), (fun _ _ => ?_), (fun h => ?_), fun _ => ?_⟩⟩
                · have n7 : j ≠ 7 := fun e => by subst e; rw [hLi] at hj; cases hj
                  exact but_q7 j n7
                · rw [set_ne (by decide)] at h'; have h9 := hLd 4 (by kernel_rfl); rw [h9] at h'; cases h'
                · rw [set_eq (by rw [hLs]; decide)] at h; cases h
                · rw [set_eq (by rw [hLs]; decide)] at h; cases h
                · have hx : ic (out.take k) ++ ic [(i : Int)] = ic (out.take k ++ [(i : Int)]) := by unfold ic; simp
                  rw [hx] at hown'; exact hown'
                · rw [set_ne (by decide), hLn 11 (by kernel_rfl)] at h; cases h
                · rw [set_ne (by decide)]; exact hLd 4 (by kernel_rfl)
              · obtain rfl := Option.some.inj ho
                have l3 : a.tmps[3]?.getD undef = .slice (some ad) i cc := (Array.getD_eq_getD_getElem? ..).symm.trans (hold 12 _ 3 (by kernel_rfl) rfl rfl)
                exact ⟨rfl, .inl ⟨x, w', fun _ _ => rfl, by simp [execOp, Act.eval, l3, go_sem], K (by decide) (by decide) (by decide) (by decide) (by decide)⟩⟩
              · obtain rfl := Option.some.inj ho
                exact ⟨rfl, .inl ⟨x, w', fun _ _ => rfl, by simp [execOp, Act.eval, l5, go_sem], K (by decide) (by decide) (by decide) (by decide) (by decide)⟩⟩
              · obtain rfl := Option.some.inj ho
                have e36 : a.tmps[36]?.getD undef = .slice (some ad) i cc := D 8 _ 36 (by kernel_rfl) rfl rfl
                have e37 : a.tmps[37]?.getD undef = .int .i64 (k : Int) := D 9 _ 37 (by kernel_rfl) rfl rfl
                have x1 : a.eval (.tmp 36) = .slice (some ad) i cc := by simp [Act.eval, e36]
                have x2 : a.eval (.tmp 37) = .int .i64 (k : Int) := by simp [Act.eval, e37]
                have hsl : (Instr.sliceAt 24 (a.eval (.tmp 36)) ((some (Operand.tmp 37)).map a.eval) none none).run Tryd.prog w' = .ok (.slice (some (tailAd ad k cc)) (i - k) (cc - k)) w' := by
                  rw [x1, Option.map_some, x2]; exact slice_l ad _ cc k w' (by omega)
                exact ⟨rfl, .inl ⟨x, w', fun _ _ => rfl, exec_slice rfl hsl, K (by decide) (by decide) (by decide) (by decide) (by decide)⟩⟩
              · obtain rfl := Option.some.inj ho
                have e35 : a.tmps[35]?.getD undef = x.2.2.2.1 := D 7 _ 35 (by kernel_rfl) rfl rfl
                have e38 : a.tmps[38]?.getD undef = .slice (some (tailAd ad k cc)) (i - k) (cc - k) := D 10 _ 38 (by kernel_rfl) rfl rfl
                have x1 : a.eval (.tmp 35) = x.2.2.2.1 := by simp [Act.eval, e35]
                have x2 : a.eval (.tmp 38) = .slice (some (tailAd ad k cc)) (i - k) (cc - k) := by simp [Act.eval, e38]
                have t9 : L.getD 7 true = true := hLd 7 (by kernel_rfl)
                have hown := hS4 t9 hLi
                obtain ⟨v', w'', hrun, hown', hgrow, hnil⟩ := run_append_own (P := Tryd.prog) w' w1.heap.size 24 24 3 i0 (.int .i64 0) 1 8 Tryd.underlying24 hi hz0 hz1 hz2 rfl (by decide) x.2.2.2.1 (k + 1) _ hown (tailAd ad k cc) (i - k) (cc - k) (ic (out.drop k)) (by rw [ic_len]; simp; omega) (tail_src (HRW.out.below hS0) (by omega)) ic_one (by unfold maxLen; omega) (by omega) hS0.size
                have hbz : Below w1.heap.size w1 w'' := hS0.grown hgrow hS0.size (fun b hb => (hown.lt b hb).1)
                refine ⟨rfl, .inl ⟨(x.1, x.2.1, x.2.2.1, x.2.2.2.1, v'), w'', fun j hj => ?_, exec_append rfl x1 x2 hrun, hbz, (fun h h' => ?_), (fun _ h => ?_), (fun _ h => ?_), (fun _ h => ?_), (fun _ => ?_), fun _ => ?_⟩⟩
                · have n11 : j ≠ 11 := fun e => by subst e; rw [hLi] at hj; cases hj
                  have f12 : L.getD 12 true = false := hLn 12 (by kernel_rfl)
                  have n12 : j ≠ 12 := fun e => by subst e; rw [f12] at hj; cases hj
                  exact but_q11 j n11 n12
                · rw [set_ne (by decide), hS6 t9] at h'; cases h'
                · rw [set_ne (by decide), t9] at h; cases h
                · rw [set_ne (by decide), t9] at h; cases h
                · rw [set_eq (by rw [hLs]; decide)] at h; cases h
                · have hx : ic (out.take k ++ [(i : Int)]) ++ ic (out.drop k) = ic (out.take k ++ [(i : Int)] ++ out.drop k) := by unfold ic; simp
                  rw [hx, show k + 1 + (i - k) = i + 1 by omega] at hown'; exact ⟨by rw [set_ne (by decide)]; exact t9, hown'⟩
                · rw [set_ne (by decide)]; exact hS6 t9
              · obtain rfl := Option.some.inj ho
                have e39 : a.tmps[39]?.getD undef = x.2.2.2.2 := D 11 _ 39 (by kernel_rfl) rfl rfl
                exact ⟨rfl, .inl ⟨x, w', fun _ _ => rfl, by simp [execOp, Act.eval, e39, go_sem], K (by decide) (by decide) (by decide) (by decide) (by decide)⟩⟩
          · have HG2 : Hid (∀ a ∈ out0.take (k + 1), fB (rkJ xss) a i = true) := fun a ha => by
              rw [List.take_succ_eq_append_getElem hko] at ha
              rcases List.mem_append.1 ha with h | h
              · exact HG.out a h
              · rw [List.mem_singleton.1 h]; exact hsn
            rw [hsn] at HSN
            generalize out0[k] = x0 at *
            clear hx0 hsn hout
            go_wp2_with fail
            refine HSN.out.mono ?_
            rintro e _ ⟨rfl, q2, rfl⟩
            go_wp2
            go_roundw
            case rel => exact ⟨k + 1, _, by omega, by go_num, HG2.out, by first | rfl | exact World.drewN_drewN _ _ _⟩
            case measure => simp [intOf]; omega
        · have hki2 : i ≤ k := by omega
          have HF := Lib.hid (HINS.out.trans (insJ_at (rkJ xss) i out0 k (by omega) HG.out (fun h => by omega)))
          have dk : decide (k < i) = false := decide_eq_false hki
          have hk1 : ¬ (k : Int) < i := by omega
          go_wp2
          generalize hw1 : wo.drewN q = w1
          have HRW : Hid (Row w1 (some ad) (ic (natI out0))) := by rw [← hw1]; exact HRow.out.drewN _
          have hbw1 : Below wo.heap.size wo w1 := by rw [← hw1]; exact below_drewN (Below.refl _ _) _
          have HBW := Lib.hid (HW.out.trans (hbw1.mono HW.out.size))
          have hcc : i ≤ cc := (slice_some HO.out).2
          have HF2 : Hid (ic ((natI out0).take k ++ [(i : Int)] ++ (natI out0).drop k) = ic (natI (joTo (rkJ xss) (List.range xss.length) (i + 1)))) := by show _ = _; rw [HF.out]; unfold natI; simp
          have hoL : (natI out0).length = out0.length := by unfold natI; simp
          generalize natI out0 = out at *
          have hol1 : out.length ≤ i := by omega
          have hol2 : i ≤ out.length := by omega
          clear hw1 hbw1 hoL HF HINS HG
          refine wp_region_detG (by kernel_rfl) (fun x L w' => Below w1.heap.size w1 w' ∧ (L.getD 0 true = true → L.getD 4 true = false → w'.ownsRow w1.heap.size 3 1 (.slice (some ⟨x.1, 0, none⟩) 0 0) 0 []) ∧ (L.getD 4 true = true → L.getD 7 true = false → w'.ownsRow w1.heap.size 3 1 x.2.1 k (ic (out.take k))) ∧ (L.getD 6 true = true → L.getD 7 true = false → BlockIs w' x.2.2.1 3 #[.int .i64 (i : Int)]) ∧ (L.getD 7 true = true → L.getD 11 true = false → w'.ownsRow w1.heap.size 3 1 x.2.2.2.1 (k + 1) (ic (out.take k ++ [(i : Int)]))) ∧ (L.getD 11 true = true → L.getD 7 true = true ∧ w'.ownsRow w1.heap.size 3 1 x.2.2.2.2 (i + 1) (ic (out.take k ++ [(i : Int)] ++ out.drop k))) ∧ (L.getD 7 true = true → L.getD 4 true = true))
            (fun x kk => #[.slice (some ⟨x.1, 0, none⟩) 0 0, .slice (some ad) i cc, .int .i64 (k : Int), .slice (some ad) k cc, x.2.1, .int .i64 (i : Int), .slice (some ⟨x.2.2.1, 0, none⟩) 1 1, x.2.2.2.1, .slice (some ad) i cc, .int .i64 (k : Int), .slice (some (tailAd ad k cc)) (i - k) (cc - k), x.2.2.2.2, x.2.2.2.2].getD kk undef) (0, undef, 0, undef, undef) (by kernel_rfl) (by kernel_rfl) ⟨(Below.refl _ _).drew, (fun h => by cases h), (fun h => by cases h), (fun h => by cases h), (fun h => by cases h), (fun h => by cases h), fun h => by cases h⟩ ?_ ?_
          · intro x L tm w' hall hS hsz hlow hval
            have ht : tm = #[.slice A xss.length c, undef, .slice none 0 0, x.2.2.2.2, .int .i64 (i : Int), .int .i64 (k : Int), .slice (some ⟨w.heap.size, 0, none⟩) 0 0, .int .i64 (i : Int), .slice A xss.length c, .int .i64 (xss.length : Int), .bool true, u11, u12, .int .i64 (k : Int), .slice (some ad) i cc, .int .i64 (i : Int), .bool false, .bool false, undef, undef, undef, undef, undef, undef, undef, .bool false, u26, u27, .slice (some ⟨x.1, 0, none⟩) 0 0, .slice (some ad) i cc, .int .i64 (k : Int), .slice (some ad) k cc, x.2.1, .int .i64 (i : Int), .slice (some ⟨x.2.2.1, 0, none⟩) 1 1, x.2.2.2.1, .slice (some ad) i cc, .int .i64 (k : Int), .slice (some (tailAd ad k cc)) (i - k) (cc - k), x.2.2.2.2, undef] := by
              refine arr_of _ _ hsz fun t ht => ?_
              have ht' : t < 41 := ht
              rcases (by omega : t = 0 ∨ t = 1 ∨ t = 2 ∨ t = 3 ∨ t = 4 ∨ t = 5 ∨ t = 6 ∨ t = 7 ∨ t = 8 ∨ t = 9 ∨ t = 10 ∨ t = 11 ∨ t = 12 ∨ t = 13 ∨ t = 14 ∨ t = 15 ∨ t = 16 ∨ t = 17 ∨ t = 18 ∨ t = 19 ∨ t = 20 ∨ t = 21 ∨ t = 22 ∨ t = 23 ∨ t = 24 ∨ t = 25 ∨ t = 26 ∨ t = 27 ∨ t = 28 ∨ t = 29 ∨ t = 30 ∨ t = 31 ∨ t = 32 ∨ t = 33 ∨ t = 34 ∨ t = 35 ∨ t = 36 ∨ t = 37 ∨ t = 38 ∨ t = 39 ∨ t = 40) with rfl | rfl | rfl | rfl | rfl | rfl | rfl | rfl | rfl | rfl | rfl | rfl | rfl | rfl | rfl | rfl | rfl | rfl | rfl | rfl | rfl | rfl | rfl | rfl | rfl | rfl | rfl | rfl | rfl | rfl | rfl | rfl | rfl | rfl | rfl | rfl | rfl | rfl | rfl | rfl | rfl
              · exact hlow 0 (by kernel_rfl)
              · exact hlow 1 (by kernel_rfl)
              · exact hlow 2 (by kernel_rfl)
              · exact hval 12 _ 3 rfl rfl
              · exact hlow 4 (by kernel_rfl)
              · exact hlow 5 (by kernel_rfl)
              · exact hlow 6 (by kernel_rfl)
              · exact hlow 7 (by kernel_rfl)
              · exact hlow 8 (by kernel_rfl)
              · exact hlow 9 (by kernel_rfl)
              · exact hlow 10 (by kernel_rfl)
              · exact hlow 11 (by kernel_rfl)
              · exact hlow 12 (by kernel_rfl)
              · exact hlow 13 (by kernel_rfl)
              · exact hlow 14 (by kernel_rfl)
              · exact hlow 15 (by kernel_rfl)
              · exact hlow 16 (by kernel_rfl)
              · exact hlow 17 (by kernel_rfl)
              · exact hlow 18 (by kernel_rfl)
              · exact hlow 19 (by kernel_rfl)
              · exact hlow 20 (by kernel_rfl)
              · exact hlow 21 (by kernel_rfl)
              · exact hlow 22 (by kernel_rfl)
              · exact hlow 23 (by kernel_rfl)
              · exact hlow 24 (by kernel_rfl)
              · exact hlow 25 (by kernel_rfl)
              · exact hlow 26 (by kernel_rfl)
              · exact hlow 27 (by kernel_rfl)
              · exact hval 0 _ 28 rfl rfl
              · exact hval 1 _ 29 rfl rfl
              · exact hval 2 _ 30 rfl rfl
              · exact hval 3 _ 31 rfl rfl
              · exact hval 4 _ 32 rfl rfl
              · exact hval 5 _ 33 rfl rfl
              · exact hval 6 _ 34 rfl rfl
              · exact hval 7 _ 35 rfl rfl
              · exact hval 8 _ 36 rfl rfl
              · exact hval 9 _ 37 rfl rfl
              · exact hval 10 _ 38 rfl rfl
              · exact hval 11 _ 39 rfl rfl
              · exact hlow 40 (by kernel_rfl)
            subst ht
            clear hlow hval hsz
            obtain ⟨hbz, _, _, _, _, hS5, _⟩ := hS
            have hfin := (hS5 (hall 11 (by decide))).2
            have HO4 := Lib.hid (And.intro hfin hbz)
            clear hS5 hbz hall hfin
            obtain ⟨g4, _, ⟨c4, hx4⟩, _⟩ := own_block2S HO4.out.1 (by omega)
            generalize x.2.2.2.2 = y4 at *
            subst hx4
            rw [HF2.out] at HO4
            clear HF2
            go_wp2
            go_roundw
            case rel => exact ⟨i + 1, ⟨g4, 0, none⟩, c4, by omega, rfl, by go_num, own_lower HO4.out.1 HBW.out.size, HBW.out.trans (HO4.out.2.mono HBW.out.size)⟩
            case measure => simp [intOf]; omega
          · intro x L a w' kk op hLs ho hLi hLd hLn ⟨hS0, hS1, hS2, hS3, hS4, hS5, hS6⟩ hlow hdep hold
            have hkk : kk < 13 := (Array.getElem?_eq_some_iff.1 ho).1
            have l4 : a.tmps[4]?.getD undef = .int .i64 (i : Int) := by rw [← Array.getD_eq_getD_getElem?]; exact hlow 4 (by kernel_rfl)
            have l5 : a.tmps[5]?.getD undef = .int .i64 (k : Int) := by rw [← Array.getD_eq_getD_getElem?]; exact hlow 5 (by kernel_rfl)
            have D : ∀ j oj d, edgeB _ kk j = true → _ → _ → a.tmps[d]?.getD undef = _ := fun j oj d h1 h2 h3 => (Array.getD_eq_getD_getElem? ..).symm.trans (hdep j oj d h1 h2 h3)
            have K : ∀ {kk : Nat}, kk ≠ 0 → kk ≠ 4 → kk ≠ 6 → kk ≠ 7 → kk ≠ 11 → Below w1.heap.size w1 w' ∧ ((L.setIfInBounds kk true).getD 0 true = true → (L.setIfInBounds kk true).getD 4 true = false → w'.ownsRow w1.heap.size 3 1 (.slice (some ⟨x.1, 0, none⟩) 0 0) 0 []) ∧ ((L.setIfInBounds kk true).getD 4 true = true → (L.setIfInBounds kk true).getD 7 true = false → w'.ownsRow w1.heap.size 3 1 x.2.1 k (ic (out.take k))) ∧ ((L.setIfInBounds kk true).getD 6 true = true → (L.setIfInBounds kk true).getD 7 true = false → BlockIs w' x.2.2.1 3 #[.int .i64 (i : Int)]) ∧ ((L.setIfInBounds kk true).getD 7 true = true → (L.setIfInBounds kk true).getD 11 true = false → w'.ownsRow w1.heap.size 3 1 x.2.2.2.1 (k + 1) (ic (out.take k ++ [(i : Int)]))) ∧ ((L.setIfInBounds kk true).getD 11 true = true → (L.setIfInBounds kk true).getD 7 true = true ∧ w'.ownsRow w1.heap.size 3 1 x.2.2.2.2 (i + 1) (ic (out.take k ++ [(i : Int)] ++ out.drop k))) ∧ ((L.setIfInBounds kk true).getD 7 true = true → (L.setIfInBounds kk true).getD 4 true = true) := fun h0 h4 h6 h7 h11 => ⟨hS0, by rw [set_ne h0, set_ne h4]; exact hS1, by rw [set_ne h4, set_ne h7]; exact hS2, by rw [set_ne h6, set_ne h7]; exact hS3, by rw [set_ne h7, set_ne h11]; exact hS4, by rw [set_ne h11, set_ne h7]; exact hS5, by rw [set_ne h7, set_ne h4]; exact hS6⟩
            rcases (by omega : kk = 0 ∨ kk = 1 ∨ kk = 2 ∨ kk = 3 ∨ kk = 4 ∨ kk = 5 ∨ kk = 6 ∨ kk = 7 ∨ kk = 8 ∨ kk = 9 ∨ kk = 10 ∨ kk = 11 ∨ kk = 12) with rfl | rfl | rfl | rfl | rfl | rfl | rfl | rfl | rfl | rfl | rfl | rfl | rfl
            · obtain rfl := Option.some.inj ho
              refine ⟨rfl, .inl ⟨(w'.heap.size, x.2), w'.alloc (.cells #[] 3), fun j hj => ?_, by simp [execOp, Act.eval, go_sem], hS0.alloc hS0.size _, (fun _ _ => World.ownsRow_made w' #[] 0 hS0.size (by unfold maxLen; omega) rfl), (fun h => ?_), (fun h h' => ?_), (fun h => ?_), (fun h => ?_), fun h => ?_⟩⟩
              · have n0 : j ≠ 0 := fun e => by subst e; rw [hLi] at hj; cases hj
                exact but_q0 j n0
              · rw [set_ne (by decide), hLn 4 (by kernel_rfl)] at h; cases h
              · rw [set_ne (by decide)] at h h'; exact (hS3 h h').below ((Below.refl _ _).alloc (Nat.le_refl _) _)
              · rw [set_ne (by decide)] at h; have h4 := hS6 h; rw [hLn 4 (by kernel_rfl)] at h4; cases h4
              · rw [set_ne (by decide)] at h; have h4 := hS6 (hS5 h).1; rw [hLn 4 (by kernel_rfl)] at h4; cases h4
              · rw [set_ne (by decide)] at h ⊢; exact hS6 h
            · obtain rfl := Option.some.inj ho
              have l3 : a.tmps[3]?.getD undef = .slice (some ad) i cc := (Array.getD_eq_getD_getElem? ..).symm.trans (hold 12 _ 3 (by kernel_rfl) rfl rfl)
              exact ⟨rfl, .inl ⟨x, w', fun _ _ => rfl, by simp [execOp, Act.eval, l3, go_sem], K (by decide) (by decide) (by decide) (by decide) (by decide)⟩⟩
            · obtain rfl := Option.some.inj ho
              exact ⟨rfl, .inl ⟨x, w', fun _ _ => rfl, by simp [execOp, Act.eval, l5, go_sem], K (by decide) (by decide) (by decide) (by decide) (by decide)⟩⟩
            · obtain rfl := Option.some.inj ho
              have e29 : a.tmps[29]?.getD undef = .slice (some ad) i cc := D 1 _ 29 (by kernel_rfl) rfl rfl
              have e30 : a.tmps[30]?.getD undef = .int .i64 (k : Int) := D 2 _ 30 (by kernel_rfl) rfl rfl
              have x1 : a.eval (.tmp 29) = .slice (some ad) i cc := by simp [Act.eval, e29]
              have x2 : a.eval (.tmp 30) = .int .i64 (k : Int) := by simp [Act.eval, e30]
              have hsl : (Instr.sliceAt 24 (a.eval (.tmp 29)) none ((some (Operand.tmp 30)).map a.eval) none).run Tryd.prog w' = .ok (.slice (some ad) k cc) w' := by
                rw [x1, Option.map_some, x2]; exact slice_h ad _ cc k w' (by omega)
              exact ⟨rfl, .inl ⟨x, w', fun _ _ => rfl, exec_slice rfl hsl, K (by decide) (by decide) (by decide) (by decide) (by decide)⟩⟩
            · obtain rfl := Option.some.inj ho
              have e28 : a.tmps[28]?.getD undef = .slice (some ⟨x.1, 0, none⟩) 0 0 := D 0 _ 28 (by kernel_rfl) rfl rfl
              have e31 : a.tmps[31]?.getD undef = .slice (some ad) k cc := D 3 _ 31 (by kernel_rfl) rfl rfl
              have x1 : a.eval (.tmp 28) = .slice (some ⟨x.1, 0, none⟩) 0 0 := by simp [Act.eval, e28]
              have x2 : a.eval (.tmp 31) = .slice (some ad) k cc := by simp [Act.eval, e31]
              have hown := hS1 (hLd 0 (by kernel_rfl)) hLi
              obtain ⟨v', w'', hrun, hown', hgrow, hnil⟩ := run_append_own (P := Tryd.prog) w' w1.heap.size 24 24 3 i0 (.int .i64 0) 1 8 Tryd.underlying24 hi hz0 hz1 hz2 rfl (by decide) (.slice (some ⟨x.1, 0, none⟩) 0 0) 0 _ hown ad k cc (ic (out.take k)) (by rw [ic_len]; simp; omega) (head_srcS (HRW.out.below hS0)) ic_one (by unfold maxLen; omega) (by omega) hS0.size
              have hbz : Below w1.heap.size w1 w'' := hS0.grown hgrow hS0.size (fun b hb => (hown.lt b hb).1)
              refine ⟨rfl, .inl ⟨(x.1, v', x.2.2), w'', fun j hj => ?_, exec_append rfl x1 x2 hrun, hbz, (fun _ h => ?_), (fun _ _ => ?_), (fun h h' => ?_), (fun h => ?_), (fun h => ?_), fun _ => ?_⟩⟩
              · have n4 : j ≠ 4 := fun e => by subst e; rw [hLi] at hj; cases hj
                exact but_q4 j n4
              · rw [set_eq (by rw [hLs]; decide)] at h; cases h
              · rw [List.nil_append, Nat.zero_add] at hown'; exact hown'
              · rw [set_ne (by decide)] at h h'
                have hB := hS3 h h'
                refine (hgrow.block _ hB.lt fun e => ?_).trans hB
                have eg : x.1 = x.2.2.1 := (Option.some.inj e).symm
                exact empty_neS hown (eg ▸ hB)
              · rw [set_ne (by decide), hLn 7 (by kernel_rfl)] at h; cases h
              · rw [set_ne (by decide)] at h; have h9 := (hS5 h).1; rw [hLn 7 (by kernel_rfl)] at h9; cases h9
              · rw [set_eq (by rw [hLs]; decide)]
            · obtain rfl := Option.some.inj ho
              exact ⟨rfl, .inl ⟨x, w', fun _ _ => rfl, by simp [execOp, Act.eval, l4, go_sem], K (by decide) (by decide) (by decide) (by decide) (by decide)⟩⟩
            · obtain rfl := Option.some.inj ho
              have e33 : a.tmps[33]?.getD undef = .int .i64 (i : Int) := D 5 _ 33 (by kernel_rfl) rfl rfl
              refine ⟨rfl, .inl ⟨(x.1, x.2.1, w'.heap.size, x.2.2.2), w'.alloc (.cells #[.int .i64 (i : Int)] 3), fun j hj => ?_, by simp [execOp, Act.eval, e33, go_sem], hS0.alloc hS0.size _, (fun h h' => ?_), (fun h h' => ?_), (fun _ _ => BlockIs.new _ _ _), (fun h => ?_), (fun h => ?_), fun h => ?_⟩⟩
              · have n6 : j ≠ 6 := fun e => by subst e; rw [hLi] at hj; cases hj
                exact but_q6 j n6
              · rw [set_ne (by decide)] at h h'; exact (hS1 h h').alloc _
              · rw [set_ne (by decide)] at h h'; exact (hS2 h h').alloc _
              · rw [set_ne (by decide), hLn 7 (by kernel_rfl)] at h; cases h
              · rw [set_ne (by decide)] at h; have h9 := (hS5 h).1; rw [hLn 7 (by kernel_rfl)] at h9; cases h9
              · rw [set_ne (by decide)] at h ⊢; exact hS6 h
            · obtain rfl := Option.some.inj ho
              have e32 : a.tmps[32]?.getD undef = x.2.1 := D 4 _ 32 (by kernel_rfl) rfl rfl
              have e34 : a.tmps[34]?.getD undef = .slice (some ⟨x.2.2.1, 0, none⟩) 1 1 := D 6 _ 34 (by kernel_rfl) rfl rfl
              have x1 : a.eval (.tmp 32) = x.2.1 := by simp [Act.eval, e32]
              have x2 : a.eval (.tmp 34) = .slice (some ⟨x.2.2.1, 0, none⟩) 1 1 := by simp [Act.eval, e34]
              have hown := hS2 (hLd 4 (by kernel_rfl)) hLi
              have hB8 := hS3 (hLd 6 (by kernel_rfl)) hLi
              have hsrc : ∀ j u, (ic [(i : Int)])[j]? = some u → w'.cell? ((⟨x.2.2.1, 0, none⟩ : Addr).add j) = some u := fun j u hu => by rw [Addr.add_lit, Nat.zero_add, hB8.cell, ← Array.getElem?_toList]; exact hu
              obtain ⟨v', w'', hrun, hown', hgrow, hnil⟩ := run_append_own (P := Tryd.prog) w' w1.heap.size 24 24 3 i0 (.int .i64 0) 1 8 Tryd.underlying24 hi hz0 hz1 hz2 rfl (by decide) x.2.1 k _ hown ⟨x.2.2.1, 0, none⟩ 1 1 (ic [(i : Int)]) rfl hsrc ic_one (by unfold maxLen; omega) (by omega) hS0.size
              have hbz : Below w1.heap.size w1 w'' := hS0.grown hgrow hS0.size (fun b hb => (hown.lt b hb).1)
              refine ⟨rfl, .inl ⟨(x.1, x.2.1, x.2.2.1, v', x.2.2.2.2), w'', fun j hj => ?_, exec_append rfl x1 x2 hrun, hbz, (fun h h' => ?_), (fun _ h => ?_), (fun _ h => ?_), (fun _ _ => ?_), (fun h => ?_), fun _ => ?_⟩⟩
              · have n7 : j ≠ 7 := fun e => by subst e; rw [hLi] at hj; cases hj
                exact but_q7 j n7
              · rw [set_ne (by decide)] at h'; have h9 := hLd 4 (by kernel_rfl); rw [h9] at h'; cases h'
              · rw [set_eq (by rw [hLs]; decide)] at h; cases h
              · rw [set_eq (by rw [hLs]; decide)] at h; cases h
              · have hx : ic (out.take k) ++ ic [(i : Int)] = ic (out.take k ++ [(i : Int)]) := by unfold ic; simp
                rw [hx] at hown'; exact hown'
              · rw [set_ne (by decide), hLn 11 (by kernel_rfl)] at h; cases h
              · rw [set_ne (by decide)]; exact hLd 4 (by kernel_rfl)
            · obtain rfl := Option.some.inj ho
              have l3 : a.tmps[3]?.getD undef = .slice (some ad) i cc := (Array.getD_eq_getD_getElem? ..).symm.trans (hold 12 _ 3 (by kernel_rfl) rfl rfl)
              exact ⟨rfl, .inl ⟨x, w', fun _ _ => rfl, by simp [execOp, Act.eval, l3, go_sem], K (by decide) (by decide) (by decide) (by decide) (by decide)⟩⟩
            · obtain rfl := Option.some.inj ho
              exact ⟨rfl, .inl ⟨x, w', fun _ _ => rfl, by simp [execOp, Act.eval, l5, go_sem], K (by decide) (by decide) (by decide) (by decide) (by decide)⟩⟩
            · obtain rfl := Option.some.inj ho
              have e36 : a.tmps[36]?.getD undef = .slice (some ad) i cc := D 8 _ 36 (by kernel_rfl) rfl rfl
              have e37 : a.tmps[37]?.getD undef = .int .i64 (k : Int) := D 9 _ 37 (by kernel_rfl) rfl rfl
              have x1 : a.eval (.tmp 36) = .slice (some ad) i cc := by simp [Act.eval, e36]
              have x2 : a.eval (.tmp 37) = .int .i64 (k : Int) := by simp [Act.eval, e37]
              have hsl : (Instr.sliceAt 24 (a.eval (.tmp 36)) ((some (Operand.tmp 37)).map a.eval) none none).run Tryd.prog w' = .ok (.slice (some (tailAd ad k cc)) (i - k) (cc - k)) w' := by
                rw [x1, Option.map_some, x2]; exact slice_l ad _ cc k w' (by omega)
              exact ⟨rfl, .inl ⟨x, w', fun _ _ => rfl, exec_slice rfl hsl, K (by decide) (by decide) (by decide) (by decide) (by decide)⟩⟩
            · obtain rfl := Option.some.inj ho
              have e35 : a.tmps[35]?.getD undef = x.2.2.2.1 := D 7 _ 35 (by kernel_rfl) rfl rfl
              have e38 : a.tmps[38]?.getD undef = .slice (some (tailAd ad k cc)) (i - k) (cc - k) := D 10 _ 38 (by kernel_rfl) rfl rfl
              have x1 : a.eval (.tmp 35) = x.2.2.2.1 := by simp [Act.eval, e35]
              have x2 : a.eval (.tmp 38) = .slice (some (tailAd ad k cc)) (i - k) (cc - k) := by simp [Act.eval, e38]
              have t9 : L.getD 7 true = true := hLd 7 (by kernel_rfl)
              have hown := hS4 t9 hLi
              obtain ⟨v', w'', hrun, hown', hgrow, hnil⟩ := run_append_own (P := Tryd.prog) w' w1.heap.size 24 24 3 i0 (.int .i64 0) 1 8 Tryd.underlying24 hi hz0 hz1 hz2 rfl (by decide) x.2.2.2.1 (k + 1) _ hown (tailAd ad k cc) (i - k) (cc - k) (ic (out.drop k)) (by rw [ic_len]; simp; omega) (tail_src (HRW.out.below hS0) (by omega)) ic_one (by unfold maxLen; omega) (by omega) hS0.size
              have hbz : Below w1.heap.size w1 w'' := hS0.grown hgrow hS0.size (fun b hb => (hown.lt b hb).1)
              refine ⟨rfl, .inl ⟨(x.1, x.2.1, x.2.2.1, x.2.2.2.1, v'), w'', fun j hj => ?_, exec_append rfl x1 x2 hrun, hbz, (fun h h' => ?_), (fun _ h => ?_), (fun _ h => ?_), (fun _ h => ?_), (fun _ => ?_), fun _ => ?_⟩⟩
              · have n11 : j ≠ 11 := fun e => by subst e; rw [hLi] at hj; cases hj
                have f12 : L.getD 12 true = false := hLn 12 (by kernel_rfl)
                have n12 : j ≠ 12 := fun e => by subst e; rw [f12] at hj; cases hj
                exact but_q11 j n11 n12
              · rw [set_ne (by decide), hS6 t9] at h'; cases h'
              · rw [set_ne (by decide), t9] at h; cases h
              · rw [set_ne (by decide), t9] at h; cases h
              · rw [set_eq (by rw [hLs]; decide)] at h; cases h
              · have hx : ic (out.take k ++ [(i : Int)]) ++ ic (out.drop k) = ic (out.take k ++ [(i : Int)] ++ out.drop k) := by unfold ic; simp
                rw [hx, show k + 1 + (i - k) = i + 1 by omega] at hown'; exact ⟨by rw [set_ne (by decide)]; exact t9, hown'⟩
              · rw [set_ne (by decide)]; exact hS6 t9
            · obtain rfl := Option.some.inj ho
              have e39 : a.tmps[39]?.getD undef = x.2.2.2.2 := D 11 _ 39 (by kernel_rfl) rfl rfl
              exact ⟨rfl, .inl ⟨x, w', fun _ _ => rfl, by simp [execOp, Act.eval, e39, go_sem], K (by decide) (by decide) (by decide) (by decide) (by decide)⟩⟩
    · obtain rfl : i = xss.length := by omega
      go_wp2
      go_ret
      have h := HO.out
      rw [show joTo (rkJ xss) (List.range xss.length) xss.length = joL (rkJ xss) (List.range xss.length) by unfold joL; rw [List.length_range]] at h
      exact ⟨.slice (some ad) xss.length cc, rfl, h, HW.out⟩
end
end Go.Proofs.YtdhndoccdfbefaaDoor
