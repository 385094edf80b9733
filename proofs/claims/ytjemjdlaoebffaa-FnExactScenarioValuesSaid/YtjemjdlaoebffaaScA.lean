/- AreScenarios: plain, and both sides. -/
import Derived.Test.YtjemjdlaoebffaaJbx
import Derived.Test.YtjemjdlaoebffaaGood
import Derived.Test.YtjemjdlaoebffaaRegO
namespace Go.Proofs.Ytjemjdlaoebffaa
set_option linter.unusedSimpArgs false
set_option linter.unusedVariables false
open Go.RowKit
/-- Whether a list may stand among some lists: it is one of jobs, as long as the first one. -/
def scOk (xss : List (List J)) (xs : List J) : Bool := goodL xs && decide (xs.length = (xss.getD 0 []).length)
def scB (xss : List (List J)) : Bool := decide (1 ≤ xss.length ∧ xss.length ≤ 4) && xss.all (scOk xss)
theorem sc_bad {xss : List (List J)} {i : Nat} (hi : i < xss.length) (h : scOk xss xss[i] = false) : scB xss = false := by
  have : xss.all (scOk xss) = false := by
    rw [List.all_eq_false]
    exact ⟨_, List.getElem_mem hi, by rw [h]; exact Bool.false_ne_true⟩
  unfold scB
  rw [this, Bool.and_false]
theorem sc_all {xss : List (List J)} (h : ∀ i, i < xss.length → ∀ hi : i < xss.length, scOk xss xss[i] = true) : scB xss = decide (1 ≤ xss.length ∧ xss.length ≤ 4) := by
  have : xss.all (scOk xss) = true := by
    rw [List.all_eq_true]
    intro x hx
    obtain ⟨i, hi, rfl⟩ := List.getElem_of_mem hx
    exact h i hi hi
  unfold scB
  rw [this, Bool.and_true]
theorem sc_out {xss : List (List J)} (h : scB xss = true) : (1 ≤ xss.length ∧ xss.length ≤ 4) ∧ ∀ i (hi : i < xss.length), goodL xss[i] = true ∧ xss[i].length = (xss.getD 0 []).length := by
  unfold scB at h
  obtain ⟨h1, h2⟩ := Bool.and_eq_true_iff.1 h
  refine ⟨of_decide_eq_true h1, fun i hi => ?_⟩
  obtain ⟨a, b⟩ := Bool.and_eq_true_iff.1 (List.all_eq_true.1 h2 _ (List.getElem_mem hi))
  exact ⟨a, of_decide_eq_true b⟩
theorem upto_stepS {P : Nat → Prop} {k : Nat} (h : ∀ i, i < k → P i) (hk : P k) : ∀ i, i < k + 1 → P i := fun i hi => by
  by_cases e : i = k
  · subst e; exact hk
  · exact h i (by omega)
theorem lens_leS {xss : List (List J)} (h : (lensX xss).sum ≤ 10000000) {k : Nat} (hk : k < xss.length) : xss[k].length ≤ 10000000 := by
  have h1 := sum_get_le (lensX xss) k (by rw [lensX_len]; exact hk)
  rw [lensX_get xss k hk] at h1
  omega
set_option maxRecDepth 100000 in
set_option maxHeartbeats 4000000 in
theorem l11Lists_any (A : Option Addr) (c n : Nat) (xss : List (List J)) (w : World) (hl : n = xss.length) (hr : RowX jc w A xss) (hn : xss.length ≤ 10000000 ∧ (lensX xss).sum ≤ 10000000) :
    Calls Try.prog 67 #[.slice A n c] w fun e w' => e = .returned (.bool (scB xss)) ∧ Below w.heap.size w w' := by
  subst hl
  have HR := Lib.hid hr
  have HLE := Lib.hid (fun k hk => @lens_leS xss hn.2 k hk)
  have HBAD := Lib.hid (fun i hi h => @sc_bad xss i hi h)
  have HALL := Lib.hid (fun h => @sc_all xss h)
  clear hr
  go_enter Try.func67, Try.ntmps67
  go_wp2
  go_loopw [3] (fun iv wr => ∃ k : Nat, k ≤ xss.length ∧ iv = .int .i64 (k : Int) ∧ Hid (∀ i, i < k → ∀ hi : i < xss.length, scOk xss xss[i] = true) ∧ Hid (Below w.heap.size w wr)) (fun iv _ => xss.length - (intOf iv).toNat)
  case atStart => exact ⟨0, Nat.zero_le _, rfl, fun _ h => absurd h (by omega), Below.refl _ _⟩
  case round =>
    obtain ⟨k, hk, rfl, HM, HB⟩ := hrel
    by_cases hlt : k < xss.length
    · have hk0 : (0 : Int) ≤ k := by omega
      have hk1 : (k : Int) < xss.length := by omega
      have hz1 : (0 : Int) < xss.length := by omega
      have hnil : ¬ xss = [] := fun h => by rw [h] at hlt; simp at hlt
      obtain ⟨ad, B, d, hA, _, hc, hrow, _⟩ := (HR.out.below HB.out).at_ hlt
      obtain ⟨ad', B0, d0, hA', _, hc0, _, _⟩ := (HR.out.below HB.out).at_ (k := 0) (by omega)
      subst hA
      injection hA' with hA'
      subst hA'
      rw [show ad.add 0 = ad from rfl] at hc0
      have hG0 : xss.getD 0 [] = xss[0] := by simp [List.getD, show 0 < xss.length by omega]
      have HG : Hid (∀ W, Below wr.heap.size wr W → Calls Try.prog 92 #[.slice B xss[k].length d] W fun e w' => e = .returned (.bool (goodL xss[k])) ∧ Below W.heap.size W w') := fun W hW => l2Good_any B d xss[k] W (hrow.below hW) (by have := HLE.out k hlt; omega)
      have HCE : Hid (∀ W, Below wr.heap.size wr W → W.cell? (ad.add k) = some (.slice B xss[k].length d) ∧ W.cell? ad = some (.slice B0 xss[0].length d0)) := fun W hW => ⟨(hW.cell (lt_of_cell hc)).trans hc, (hW.cell (lt_of_cell hc0)).trans hc0⟩
      have HSO : Hid (scOk xss xss[k] = (goodL xss[k] && decide (xss[k].length = xss[0].length))) := by show _ = _; unfold scOk; rw [hG0]
      have HB1 := Lib.hid (HBAD.out k hlt)
      have HM2 := Lib.hid (fun (h : scOk xss xss[k] = true) => upto_stepS (P := fun i => ∀ hi : i < xss.length, scOk xss xss[i] = true) HM.out (fun _ => h))
      have hlk := HLE.out k hlt
      have hl0 := HLE.out 0 (by omega)
      clear HM HBAD HALL hrow HLE hG0 hc hc0
      rw [HSO.out] at HB1 HM2
      clear HSO
      generalize xss[k] = xs at *
      generalize xss[0].length = L0 at *
      have hw1 := (HCE.out _ (Below.refl _ _)).1
      have hw2 := (HCE.out _ (Below.refl _ _)).2
      cases hg : goodL xs
      · rw [hg] at HG HB1
        have HV := Lib.hid (HB1.out rfl)
        clear hg HB1 HM2
        go_wp2
        have kb : ∀ {X Y : World}, Below wr.heap.size wr X → Below X.heap.size X Y → Below wr.heap.size wr Y := fun h hb => h.trans (hb.mono h.size)
        refine wp_region_detO (by kernel_rfl) (fun L w' => Below wr.heap.size wr w') (fun kk => (#[.slice (some ad) xss.length c, .int .i64 (k : Int), .pointer (some (ad.add k)), .slice B xs.length d, .bool false, .bool true, .bool true, undef, undef, undef, undef, undef, undef, undef, undef, undef, undef, .bool true] : Array Value).getD kk undef) (by kernel_rfl) (by kernel_rfl) (Below.refl _ _).drew ?_ ?_
        · intro L tm w' hall hS hsz hlow hval
          have ht : tm = #[.slice (some ad) xss.length c, undef, u2, .int .i64 (k : Int), .int .i64 (k : Int), .slice (some ad) xss.length c, .int .i64 (xss.length : Int), .bool true, u8, u9, .slice (some ad) xss.length c, .int .i64 (k : Int), .pointer (some (ad.add k)), .slice B xs.length d, .bool false, .bool true, .bool true, undef, undef, undef, undef, undef, undef, undef, undef, undef, undef, .bool true, undef, undef, undef] := by
            refine arr_of _ _ hsz fun t ht => ?_
            have ht' : t < 31 := ht
            rcases (by omega : t = 0 ∨ t = 1 ∨ t = 2 ∨ t = 3 ∨ t = 4 ∨ t = 5 ∨ t = 6 ∨ t = 7 ∨ t = 8 ∨ t = 9 ∨ t = 10 ∨ t = 11 ∨ t = 12 ∨ t = 13 ∨ t = 14 ∨ t = 15 ∨ t = 16 ∨ t = 17 ∨ t = 18 ∨ t = 19 ∨ t = 20 ∨ t = 21 ∨ t = 22 ∨ t = 23 ∨ t = 24 ∨ t = 25 ∨ t = 26 ∨ t = 27 ∨ t = 28 ∨ t = 29 ∨ t = 30) with rfl | rfl | rfl | rfl | rfl | rfl | rfl | rfl | rfl | rfl | rfl | rfl | rfl | rfl | rfl | rfl | rfl | rfl | rfl | rfl | rfl | rfl | rfl | rfl | rfl | rfl | rfl | rfl | rfl | rfl | rfl
            · exact hlow 0 (by kernel_rfl)
            · exact hlow 1 (by kernel_rfl)
            · exact hlow 2 (by kernel_rfl)
            · exact hlow 3 (by kernel_rfl)
            · exact hlow 4 (by kernel_rfl)
            · exact hlow 5 (by kernel_rfl)
            · exact hlow 6 (by kernel_rfl)
            · exact hlow 7 (by kernel_rfl)
            · exact hlow 8 (by kernel_rfl)
            · exact hlow 9 (by kernel_rfl)
            · exact hval 0 _ 10 rfl rfl
            · exact hval 1 _ 11 rfl rfl
            · exact hval 2 _ 12 rfl rfl
            · exact hval 3 _ 13 rfl rfl
            · exact hval 4 _ 14 rfl rfl
            · exact hval 5 _ 15 rfl rfl
            · exact hval 6 _ 16 rfl rfl
            · exact hval 7 _ 17 rfl rfl
            · exact hval 8 _ 18 rfl rfl
            · exact hval 9 _ 19 rfl rfl
            · exact hval 10 _ 20 rfl rfl
            · exact hval 11 _ 21 rfl rfl
            · exact hval 12 _ 22 rfl rfl
            · exact hval 13 _ 23 rfl rfl
            · exact hval 14 _ 24 rfl rfl
            · exact hval 15 _ 25 rfl rfl
            · exact hval 16 _ 26 rfl rfl
            · exact hval 17 _ 27 rfl rfl
            · exact hlow 28 (by kernel_rfl)
            · exact hlow 29 (by kernel_rfl)
            · exact hlow 30 (by kernel_rfl)
          subst ht
          have HF := Lib.hid hS
          clear hlow hval hsz hall hS
          go_wp2
          go_ret
          exact ⟨by rw [HV.out]; rfl, HB.out.trans (HF.out.mono HB.out.size)⟩
        · intro L ac w' q op hLs hop hLi hLd hLn hS0 hlow hdep _
          have hq : q < 18 := (Array.getElem?_eq_some_iff.1 hop).1
          rcases (by omega : q = 0 ∨ q = 1 ∨ q = 2 ∨ q = 3 ∨ q = 4 ∨ q = 5 ∨ q = 6 ∨ q = 7 ∨ q = 8 ∨ q = 9 ∨ q = 10 ∨ q = 11 ∨ q = 12 ∨ q = 13 ∨ q = 14 ∨ q = 15 ∨ q = 16 ∨ q = 17) with rfl | rfl | rfl | rfl | rfl | rfl | rfl | rfl | rfl | rfl | rfl | rfl | rfl | rfl | rfl | rfl | rfl | rfl
          · obtain rfl := Option.some.inj hop
            have e0 : ac.tmps[0]?.getD undef = .slice (some ad) xss.length c := (Array.getD_eq_getD_getElem? ..).symm.trans (hlow 0 (by kernel_rfl))
            exact .inl ⟨wanted_free rfl, .inl (.inl ⟨w', by simp [execOp, Act.eval, e0, go_sem], hS0⟩)⟩
          · obtain rfl := Option.some.inj hop
            have e3 : ac.tmps[3]?.getD undef = .int .i64 (k : Int) := (Array.getD_eq_getD_getElem? ..).symm.trans (hlow 3 (by kernel_rfl))
            exact .inl ⟨wanted_free rfl, .inl (.inl ⟨w', by simp [execOp, Act.eval, e3, go_sem], hS0⟩)⟩
          · obtain rfl := Option.some.inj hop
            have e10 : ac.tmps[10]?.getD undef = .slice (some ad) xss.length c := (Array.getD_eq_getD_getElem? ..).symm.trans (hdep 0 _ 10 (by kernel_rfl) rfl rfl)
            have e11 : ac.tmps[11]?.getD undef = .int .i64 (k : Int) := (Array.getD_eq_getD_getElem? ..).symm.trans (hdep 1 _ 11 (by kernel_rfl) rfl rfl)
            exact .inl ⟨wanted_free rfl, .inl (.inl ⟨w', by simp [execOp, Act.eval, e10, e11, hk0, hk1, go_sem], hS0⟩)⟩
          · obtain rfl := Option.some.inj hop
            have e12 : ac.tmps[12]?.getD undef = .pointer (some (ad.add k)) := (Array.getD_eq_getD_getElem? ..).symm.trans (hdep 2 _ 12 (by kernel_rfl) rfl rfl)
            have hcc := (HCE.out w' hS0).1
            exact .inl ⟨wanted_free rfl, .inl (.inl ⟨w', by simp [execOp, Act.eval, e12, hcc, go_sem], hS0⟩)⟩
          · obtain rfl := Option.some.inj hop
            have e13 : ac.tmps[13]?.getD undef = .slice B xs.length d := (Array.getD_eq_getD_getElem? ..).symm.trans (hdep 3 _ 13 (by kernel_rfl) rfl rfl)
            refine .inl ⟨wanted_free rfl, .inl (.inr ⟨92, #[.slice B xs.length d], by simp [execOp, Act.eval, e13, go_sem], (HG.out w' hS0).mono ?_⟩)⟩
            rintro e w2 ⟨rfl, hb⟩
            exact ⟨rfl, kb hS0 hb⟩
          · obtain rfl := Option.some.inj hop
            have e14 : ac.tmps[14]?.getD undef = .bool false := (Array.getD_eq_getD_getElem? ..).symm.trans (hdep 4 _ 14 (by kernel_rfl) rfl rfl)
            exact .inl ⟨wanted_free rfl, .inl (.inl ⟨w', by simp [execOp, Act.eval, e14, go_sem], hS0⟩)⟩
          · obtain rfl := Option.some.inj hop
            have e15 : ac.tmps[15]?.getD undef = .bool true := (Array.getD_eq_getD_getElem? ..).symm.trans (hdep 5 _ 15 (by kernel_rfl) rfl rfl)
            exact .inl ⟨wanted_free rfl, .inl (.inl ⟨w', by simp [execOp, Act.eval, e15, go_sem], hS0⟩)⟩
          · obtain rfl := Option.some.inj hop
            have e0 : ac.tmps[0]?.getD undef = .slice (some ad) xss.length c := (Array.getD_eq_getD_getElem? ..).symm.trans (hlow 0 (by kernel_rfl))
            exact .inr ⟨wanted_offO (g := 6) (d := 16) (b := false) rfl rfl rfl (hdep 6 _ 16 (by kernel_rfl) rfl rfl), (fun h => by cases h), rfl, hS0⟩
          · obtain rfl := Option.some.inj hop
            have e3 : ac.tmps[3]?.getD undef = .int .i64 (k : Int) := (Array.getD_eq_getD_getElem? ..).symm.trans (hlow 3 (by kernel_rfl))
            exact .inr ⟨wanted_offO (g := 6) (d := 16) (b := false) rfl rfl rfl (hdep 6 _ 16 (by kernel_rfl) rfl rfl), (fun h => by cases h), rfl, hS0⟩
          · obtain rfl := Option.some.inj hop
            have e17 : ac.tmps[17]?.getD undef = undef := (Array.getD_eq_getD_getElem? ..).symm.trans (hdep 7 _ 17 (by kernel_rfl) rfl rfl)
            have e18 : ac.tmps[18]?.getD undef = undef := (Array.getD_eq_getD_getElem? ..).symm.trans (hdep 8 _ 18 (by kernel_rfl) rfl rfl)
            exact .inr ⟨wanted_offO (g := 6) (d := 16) (b := false) rfl rfl rfl (hdep 6 _ 16 (by kernel_rfl) rfl rfl), (fun h => by cases h), rfl, hS0⟩
          · obtain rfl := Option.some.inj hop
            have e19 : ac.tmps[19]?.getD undef = undef := (Array.getD_eq_getD_getElem? ..).symm.trans (hdep 9 _ 19 (by kernel_rfl) rfl rfl)
            exact .inr ⟨wanted_offO (g := 6) (d := 16) (b := false) rfl rfl rfl (hdep 6 _ 16 (by kernel_rfl) rfl rfl), (fun h => by cases h), rfl, hS0⟩
          · obtain rfl := Option.some.inj hop
            have e20 : ac.tmps[20]?.getD undef = undef := (Array.getD_eq_getD_getElem? ..).symm.trans (hdep 10 _ 20 (by kernel_rfl) rfl rfl)
            exact .inr ⟨wanted_offO (g := 6) (d := 16) (b := false) rfl rfl rfl (hdep 6 _ 16 (by kernel_rfl) rfl rfl), (fun h => by cases h), rfl, hS0⟩
          · obtain rfl := Option.some.inj hop
            have e0 : ac.tmps[0]?.getD undef = .slice (some ad) xss.length c := (Array.getD_eq_getD_getElem? ..).symm.trans (hlow 0 (by kernel_rfl))
            exact .inr ⟨wanted_offO (g := 6) (d := 16) (b := false) rfl rfl rfl (hdep 6 _ 16 (by kernel_rfl) rfl rfl), (fun h => by cases h), rfl, hS0⟩
          · obtain rfl := Option.some.inj hop
            have e22 : ac.tmps[22]?.getD undef = undef := (Array.getD_eq_getD_getElem? ..).symm.trans (hdep 12 _ 22 (by kernel_rfl) rfl rfl)
            exact .inr ⟨wanted_offO (g := 6) (d := 16) (b := false) rfl rfl rfl (hdep 6 _ 16 (by kernel_rfl) rfl rfl), (fun h => by cases h), rfl, hS0⟩
          · obtain rfl := Option.some.inj hop
            have e23 : ac.tmps[23]?.getD undef = undef := (Array.getD_eq_getD_getElem? ..).symm.trans (hdep 13 _ 23 (by kernel_rfl) rfl rfl)
            exact .inr ⟨wanted_offO (g := 6) (d := 16) (b := false) rfl rfl rfl (hdep 6 _ 16 (by kernel_rfl) rfl rfl), (fun h => by cases h), rfl, hS0⟩
          · obtain rfl := Option.some.inj hop
            have e24 : ac.tmps[24]?.getD undef = undef := (Array.getD_eq_getD_getElem? ..).symm.trans (hdep 14 _ 24 (by kernel_rfl) rfl rfl)
            exact .inr ⟨wanted_offO (g := 6) (d := 16) (b := false) rfl rfl rfl (hdep 6 _ 16 (by kernel_rfl) rfl rfl), (fun h => by cases h), rfl, hS0⟩
          · obtain rfl := Option.some.inj hop
            have e21 : ac.tmps[21]?.getD undef = undef := (Array.getD_eq_getD_getElem? ..).symm.trans (hdep 11 _ 21 (by kernel_rfl) rfl rfl)
            have e25 : ac.tmps[25]?.getD undef = undef := (Array.getD_eq_getD_getElem? ..).symm.trans (hdep 15 _ 25 (by kernel_rfl) rfl rfl)
            exact .inr ⟨wanted_offO (g := 6) (d := 16) (b := false) rfl rfl rfl (hdep 6 _ 16 (by kernel_rfl) rfl rfl), (fun h => by cases h), rfl, hS0⟩
          · obtain rfl := Option.some.inj hop
            have e16 : ac.tmps[16]?.getD undef = .bool true := (Array.getD_eq_getD_getElem? ..).symm.trans (hdep 6 _ 16 (by kernel_rfl) rfl rfl)
            have e26 : ac.tmps[26]?.getD undef = undef := (Array.getD_eq_getD_getElem? ..).symm.trans (hdep 16 _ 26 (by kernel_rfl) rfl rfl)
            exact .inl ⟨wanted_free rfl, .inl (.inl ⟨w', by simp [execOp, Act.eval, e16, e26, go_sem], hS0⟩)⟩
      · rw [hg] at HG HB1 HM2
        by_cases he : xs.length = L0
        · rw [decide_eq_true he] at HM2
          have HM3 := Lib.hid (HM2.out rfl)
          have heI : ((xs.length : Int) != (L0 : Int)) = false := by rw [he]; simp
          clear hg HB1 HM2 he
          go_wp2
          have kb : ∀ {X Y : World}, Below wr.heap.size wr X → Below X.heap.size X Y → Below wr.heap.size wr Y := fun h hb => h.trans (hb.mono h.size)
          refine wp_region_detO (by kernel_rfl) (fun L w' => Below wr.heap.size wr w') (fun kk => (#[.slice (some ad) xss.length c, .int .i64 (k : Int), .pointer (some (ad.add k)), .slice B xs.length d, .bool true, .bool false, .bool false, .slice (some ad) xss.length c, .int .i64 (k : Int), .pointer (some (ad.add k)), .slice B xs.length d, .int .i64 (xs.length : Int), .slice (some ad) xss.length c, .pointer (some ad), .slice B0 L0 d0, .int .i64 (L0 : Int), .bool false, .bool false] : Array Value).getD kk undef) (by kernel_rfl) (by kernel_rfl) (Below.refl _ _).drew ?_ ?_
          · intro L tm w' hall hS hsz hlow hval
            have ht : tm = #[.slice (some ad) xss.length c, undef, u2, .int .i64 (k : Int), .int .i64 (k : Int), .slice (some ad) xss.length c, .int .i64 (xss.length : Int), .bool true, u8, u9, .slice (some ad) xss.length c, .int .i64 (k : Int), .pointer (some (ad.add k)), .slice B xs.length d, .bool true, .bool false, .bool false, .slice (some ad) xss.length c, .int .i64 (k : Int), .pointer (some (ad.add k)), .slice B xs.length d, .int .i64 (xs.length : Int), .slice (some ad) xss.length c, .pointer (some ad), .slice B0 L0 d0, .int .i64 (L0 : Int), .bool false, .bool false, undef, undef, undef] := by
              refine arr_of _ _ hsz fun t ht => ?_
              have ht' : t < 31 := ht
              rcases (by omega : t = 0 ∨ t = 1 ∨ t = 2 ∨ t = 3 ∨ t = 4 ∨ t = 5 ∨ t = 6 ∨ t = 7 ∨ t = 8 ∨ t = 9 ∨ t = 10 ∨ t = 11 ∨ t = 12 ∨ t = 13 ∨ t = 14 ∨ t = 15 ∨ t = 16 ∨ t = 17 ∨ t = 18 ∨ t = 19 ∨ t = 20 ∨ t = 21 ∨ t = 22 ∨ t = 23 ∨ t = 24 ∨ t = 25 ∨ t = 26 ∨ t = 27 ∨ t = 28 ∨ t = 29 ∨ t = 30) with rfl | rfl | rfl | rfl | rfl | rfl | rfl | rfl | rfl | rfl | rfl | rfl | rfl | rfl | rfl | rfl | rfl | rfl | rfl | rfl | rfl | rfl | rfl | rfl | rfl | rfl | rfl | rfl | rfl | rfl | rfl
              · exact hlow 0 (by kernel_rfl)
              · exact hlow 1 (by kernel_rfl)
              · exact hlow 2 (by kernel_rfl)
              · exact hlow 3 (by kernel_rfl)
              · exact hlow 4 (by kernel_rfl)
              · exact hlow 5 (by kernel_rfl)
              · exact hlow 6 (by kernel_rfl)
              · exact hlow 7 (by kernel_rfl)
              · exact hlow 8 (by kernel_rfl)
              · exact hlow 9 (by kernel_rfl)
              · exact hval 0 _ 10 rfl rfl
              · exact hval 1 _ 11 rfl rfl
              · exact hval 2 _ 12 rfl rfl
              · exact hval 3 _ 13 rfl rfl
              · exact hval 4 _ 14 rfl rfl
              · exact hval 5 _ 15 rfl rfl
              · exact hval 6 _ 16 rfl rfl
              · exact hval 7 _ 17 rfl rfl
              · exact hval 8 _ 18 rfl rfl
              · exact hval 9 _ 19 rfl rfl
              · exact hval 10 _ 20 rfl rfl
              · exact hval 11 _ 21 rfl rfl
              · exact hval 12 _ 22 rfl rfl
              · exact hval 13 _ 23 rfl rfl
              · exact hval 14 _ 24 rfl rfl
              · exact hval 15 _ 25 rfl rfl
              · exact hval 16 _ 26 rfl rfl
              · exact hval 17 _ 27 rfl rfl
              · exact hlow 28 (by kernel_rfl)
              · exact hlow 29 (by kernel_rfl)
              · exact hlow 30 (by kernel_rfl)
            subst ht
            have HF := Lib.hid hS
            clear hlow hval hsz hall hS
            go_wp2
            go_roundw
            case rel => exact ⟨k + 1, by omega, by go_num, HM3.out, HB.out.trans (HF.out.mono HB.out.size)⟩
            case measure => simp [intOf]; omega
          · intro L ac w' q op hLs hop hLi hLd hLn hS0 hlow hdep _
            have hq : q < 18 := (Array.getElem?_eq_some_iff.1 hop).1
            rcases (by omega : q = 0 ∨ q = 1 ∨ q = 2 ∨ q = 3 ∨ q = 4 ∨ q = 5 ∨ q = 6 ∨ q = 7 ∨ q = 8 ∨ q = 9 ∨ q = 10 ∨ q = 11 ∨ q = 12 ∨ q = 13 ∨ q = 14 ∨ q = 15 ∨ q = 16 ∨ q = 17) with rfl | rfl | rfl | rfl | rfl | rfl | rfl | rfl | rfl | rfl | rfl | rfl | rfl | rfl | rfl | rfl | rfl | rfl
            · obtain rfl := Option.some.inj hop
              have e0 : ac.tmps[0]?.getD undef = .slice (some ad) xss.length c := (Array.getD_eq_getD_getElem? ..).symm.trans (hlow 0 (by kernel_rfl))
              exact .inl ⟨wanted_free rfl, .inl (.inl ⟨w', by simp [execOp, Act.eval, e0, go_sem], hS0⟩)⟩
            · obtain rfl := Option.some.inj hop
              have e3 : ac.tmps[3]?.getD undef = .int .i64 (k : Int) := (Array.getD_eq_getD_getElem? ..).symm.trans (hlow 3 (by kernel_rfl))
              exact .inl ⟨wanted_free rfl, .inl (.inl ⟨w', by simp [execOp, Act.eval, e3, go_sem], hS0⟩)⟩
            · obtain rfl := Option.some.inj hop
              have e10 : ac.tmps[10]?.getD undef = .slice (some ad) xss.length c := (Array.getD_eq_getD_getElem? ..).symm.trans (hdep 0 _ 10 (by kernel_rfl) rfl rfl)
              have e11 : ac.tmps[11]?.getD undef = .int .i64 (k : Int) := (Array.getD_eq_getD_getElem? ..).symm.trans (hdep 1 _ 11 (by kernel_rfl) rfl rfl)
              exact .inl ⟨wanted_free rfl, .inl (.inl ⟨w', by simp [execOp, Act.eval, e10, e11, hk0, hk1, go_sem], hS0⟩)⟩
            · obtain rfl := Option.some.inj hop
              have e12 : ac.tmps[12]?.getD undef = .pointer (some (ad.add k)) := (Array.getD_eq_getD_getElem? ..).symm.trans (hdep 2 _ 12 (by kernel_rfl) rfl rfl)
              have hcc := (HCE.out w' hS0).1
              exact .inl ⟨wanted_free rfl, .inl (.inl ⟨w', by simp [execOp, Act.eval, e12, hcc, go_sem], hS0⟩)⟩
            · obtain rfl := Option.some.inj hop
              have e13 : ac.tmps[13]?.getD undef = .slice B xs.length d := (Array.getD_eq_getD_getElem? ..).symm.trans (hdep 3 _ 13 (by kernel_rfl) rfl rfl)
              refine .inl ⟨wanted_free rfl, .inl (.inr ⟨92, #[.slice B xs.length d], by simp [execOp, Act.eval, e13, go_sem], (HG.out w' hS0).mono ?_⟩)⟩
              rintro e w2 ⟨rfl, hb⟩
              exact ⟨rfl, kb hS0 hb⟩
            · obtain rfl := Option.some.inj hop
              have e14 : ac.tmps[14]?.getD undef = .bool true := (Array.getD_eq_getD_getElem? ..).symm.trans (hdep 4 _ 14 (by kernel_rfl) rfl rfl)
              exact .inl ⟨wanted_free rfl, .inl (.inl ⟨w', by simp [execOp, Act.eval, e14, go_sem], hS0⟩)⟩
            · obtain rfl := Option.some.inj hop
              have e15 : ac.tmps[15]?.getD undef = .bool false := (Array.getD_eq_getD_getElem? ..).symm.trans (hdep 5 _ 15 (by kernel_rfl) rfl rfl)
              exact .inl ⟨wanted_free rfl, .inl (.inl ⟨w', by simp [execOp, Act.eval, e15, go_sem], hS0⟩)⟩
            · obtain rfl := Option.some.inj hop
              have e0 : ac.tmps[0]?.getD undef = .slice (some ad) xss.length c := (Array.getD_eq_getD_getElem? ..).symm.trans (hlow 0 (by kernel_rfl))
              exact .inl ⟨wanted_guard (g := 6) (d := 16) (b := false) rfl rfl rfl (hdep 6 _ 16 (by kernel_rfl) rfl rfl), .inl (.inl ⟨w', by simp [execOp, Act.eval, e0, go_sem], hS0⟩)⟩
            · obtain rfl := Option.some.inj hop
              have e3 : ac.tmps[3]?.getD undef = .int .i64 (k : Int) := (Array.getD_eq_getD_getElem? ..).symm.trans (hlow 3 (by kernel_rfl))
              exact .inl ⟨wanted_guard (g := 6) (d := 16) (b := false) rfl rfl rfl (hdep 6 _ 16 (by kernel_rfl) rfl rfl), .inl (.inl ⟨w', by simp [execOp, Act.eval, e3, go_sem], hS0⟩)⟩
            · obtain rfl := Option.some.inj hop
              have e17 : ac.tmps[17]?.getD undef = .slice (some ad) xss.length c := (Array.getD_eq_getD_getElem? ..).symm.trans (hdep 7 _ 17 (by kernel_rfl) rfl rfl)
              have e18 : ac.tmps[18]?.getD undef = .int .i64 (k : Int) := (Array.getD_eq_getD_getElem? ..).symm.trans (hdep 8 _ 18 (by kernel_rfl) rfl rfl)
              exact .inl ⟨wanted_guard (g := 6) (d := 16) (b := false) rfl rfl rfl (hdep 6 _ 16 (by kernel_rfl) rfl rfl), .inl (.inl ⟨w', by simp [execOp, Act.eval, e17, e18, hk0, hk1, go_sem], hS0⟩)⟩
            · obtain rfl := Option.some.inj hop
              have e19 : ac.tmps[19]?.getD undef = .pointer (some (ad.add k)) := (Array.getD_eq_getD_getElem? ..).symm.trans (hdep 9 _ 19 (by kernel_rfl) rfl rfl)
              have hcc := (HCE.out w' hS0).1
              exact .inl ⟨wanted_guard (g := 6) (d := 16) (b := false) rfl rfl rfl (hdep 6 _ 16 (by kernel_rfl) rfl rfl), .inl (.inl ⟨w', by simp [execOp, Act.eval, e19, hcc, go_sem], hS0⟩)⟩
            · obtain rfl := Option.some.inj hop
              have e20 : ac.tmps[20]?.getD undef = .slice B xs.length d := (Array.getD_eq_getD_getElem? ..).symm.trans (hdep 10 _ 20 (by kernel_rfl) rfl rfl)
              exact .inl ⟨wanted_guard (g := 6) (d := 16) (b := false) rfl rfl rfl (hdep 6 _ 16 (by kernel_rfl) rfl rfl), .inl (.inl ⟨w', by simp [execOp, Act.eval, e20, go_sem], hS0⟩)⟩
            · obtain rfl := Option.some.inj hop
              have e0 : ac.tmps[0]?.getD undef = .slice (some ad) xss.length c := (Array.getD_eq_getD_getElem? ..).symm.trans (hlow 0 (by kernel_rfl))
              exact .inl ⟨wanted_guard (g := 6) (d := 16) (b := false) rfl rfl rfl (hdep 6 _ 16 (by kernel_rfl) rfl rfl), .inl (.inl ⟨w', by simp [execOp, Act.eval, e0, go_sem], hS0⟩)⟩
            · obtain rfl := Option.some.inj hop
              have e22 : ac.tmps[22]?.getD undef = .slice (some ad) xss.length c := (Array.getD_eq_getD_getElem? ..).symm.trans (hdep 12 _ 22 (by kernel_rfl) rfl rfl)
              exact .inl ⟨wanted_guard (g := 6) (d := 16) (b := false) rfl rfl rfl (hdep 6 _ 16 (by kernel_rfl) rfl rfl), .inl (.inl ⟨w', by simp [execOp, Act.eval, e22, hz1, hnil, go_sem], hS0⟩)⟩
            · obtain rfl := Option.some.inj hop
              have e23 : ac.tmps[23]?.getD undef = .pointer (some ad) := (Array.getD_eq_getD_getElem? ..).symm.trans (hdep 13 _ 23 (by kernel_rfl) rfl rfl)
              have hcc := (HCE.out w' hS0).2
              exact .inl ⟨wanted_guard (g := 6) (d := 16) (b := false) rfl rfl rfl (hdep 6 _ 16 (by kernel_rfl) rfl rfl), .inl (.inl ⟨w', by simp [execOp, Act.eval, e23, hcc, go_sem], hS0⟩)⟩
            · obtain rfl := Option.some.inj hop
              have e24 : ac.tmps[24]?.getD undef = .slice B0 L0 d0 := (Array.getD_eq_getD_getElem? ..).symm.trans (hdep 14 _ 24 (by kernel_rfl) rfl rfl)
              exact .inl ⟨wanted_guard (g := 6) (d := 16) (b := false) rfl rfl rfl (hdep 6 _ 16 (by kernel_rfl) rfl rfl), .inl (.inl ⟨w', by simp [execOp, Act.eval, e24, go_sem], hS0⟩)⟩
            · obtain rfl := Option.some.inj hop
              have e21 : ac.tmps[21]?.getD undef = .int .i64 (xs.length : Int) := (Array.getD_eq_getD_getElem? ..).symm.trans (hdep 11 _ 21 (by kernel_rfl) rfl rfl)
              have e25 : ac.tmps[25]?.getD undef = .int .i64 (L0 : Int) := (Array.getD_eq_getD_getElem? ..).symm.trans (hdep 15 _ 25 (by kernel_rfl) rfl rfl)
              exact .inl ⟨wanted_guard (g := 6) (d := 16) (b := false) rfl rfl rfl (hdep 6 _ 16 (by kernel_rfl) rfl rfl), .inl (.inl ⟨w', by simp [execOp, Act.eval, e21, e25, heI, go_sem], hS0⟩)⟩
            · obtain rfl := Option.some.inj hop
              have e16 : ac.tmps[16]?.getD undef = .bool false := (Array.getD_eq_getD_getElem? ..).symm.trans (hdep 6 _ 16 (by kernel_rfl) rfl rfl)
              have e26 : ac.tmps[26]?.getD undef = .bool false := (Array.getD_eq_getD_getElem? ..).symm.trans (hdep 16 _ 26 (by kernel_rfl) rfl rfl)
              exact .inl ⟨wanted_free rfl, .inl (.inl ⟨w', by simp [execOp, Act.eval, e16, e26, go_sem], hS0⟩)⟩
        · rw [decide_eq_false he] at HB1
          have HV := Lib.hid (HB1.out rfl)
          have heI : ((xs.length : Int) != (L0 : Int)) = true := by simp; omega
          clear hg HB1 HM2 he
          go_wp2
          have kb : ∀ {X Y : World}, Below wr.heap.size wr X → Below X.heap.size X Y → Below wr.heap.size wr Y := fun h hb => h.trans (hb.mono h.size)
          refine wp_region_detO (by kernel_rfl) (fun L w' => Below wr.heap.size wr w') (fun kk => (#[.slice (some ad) xss.length c, .int .i64 (k : Int), .pointer (some (ad.add k)), .slice B xs.length d, .bool true, .bool false, .bool false, .slice (some ad) xss.length c, .int .i64 (k : Int), .pointer (some (ad.add k)), .slice B xs.length d, .int .i64 (xs.length : Int), .slice (some ad) xss.length c, .pointer (some ad), .slice B0 L0 d0, .int .i64 (L0 : Int), .bool true, .bool true] : Array Value).getD kk undef) (by kernel_rfl) (by kernel_rfl) (Below.refl _ _).drew ?_ ?_
          · intro L tm w' hall hS hsz hlow hval
            have ht : tm = #[.slice (some ad) xss.length c, undef, u2, .int .i64 (k : Int), .int .i64 (k : Int), .slice (some ad) xss.length c, .int .i64 (xss.length : Int), .bool true, u8, u9, .slice (some ad) xss.length c, .int .i64 (k : Int), .pointer (some (ad.add k)), .slice B xs.length d, .bool true, .bool false, .bool false, .slice (some ad) xss.length c, .int .i64 (k : Int), .pointer (some (ad.add k)), .slice B xs.length d, .int .i64 (xs.length : Int), .slice (some ad) xss.length c, .pointer (some ad), .slice B0 L0 d0, .int .i64 (L0 : Int), .bool true, .bool true, undef, undef, undef] := by
              refine arr_of _ _ hsz fun t ht => ?_
              have ht' : t < 31 := ht
              rcases (by omega : t = 0 ∨ t = 1 ∨ t = 2 ∨ t = 3 ∨ t = 4 ∨ t = 5 ∨ t = 6 ∨ t = 7 ∨ t = 8 ∨ t = 9 ∨ t = 10 ∨ t = 11 ∨ t = 12 ∨ t = 13 ∨ t = 14 ∨ t = 15 ∨ t = 16 ∨ t = 17 ∨ t = 18 ∨ t = 19 ∨ t = 20 ∨ t = 21 ∨ t = 22 ∨ t = 23 ∨ t = 24 ∨ t = 25 ∨ t = 26 ∨ t = 27 ∨ t = 28 ∨ t = 29 ∨ t = 30) with rfl | rfl | rfl | rfl | rfl | rfl | rfl | rfl | rfl | rfl | rfl | rfl | rfl | rfl | rfl | rfl | rfl | rfl | rfl | rfl | rfl | rfl | rfl | rfl | rfl | rfl | rfl | rfl | rfl | rfl | rfl
              · exact hlow 0 (by kernel_rfl)
              · exact hlow 1 (by kernel_rfl)
              · exact hlow 2 (by kernel_rfl)
              · exact hlow 3 (by kernel_rfl)
              · exact hlow 4 (by kernel_rfl)
              · exact hlow 5 (by kernel_rfl)
              · exact hlow 6 (by kernel_rfl)
              · exact hlow 7 (by kernel_rfl)
              · exact hlow 8 (by kernel_rfl)
              · exact hlow 9 (by kernel_rfl)
              · exact hval 0 _ 10 rfl rfl
              · exact hval 1 _ 11 rfl rfl
              · exact hval 2 _ 12 rfl rfl
              · exact hval 3 _ 13 rfl rfl
              · exact hval 4 _ 14 rfl rfl
              · exact hval 5 _ 15 rfl rfl
              · exact hval 6 _ 16 rfl rfl
              · exact hval 7 _ 17 rfl rfl
              · exact hval 8 _ 18 rfl rfl
              · exact hval 9 _ 19 rfl rfl
              · exact hval 10 _ 20 rfl rfl
              · exact hval 11 _ 21 rfl rfl
              · exact hval 12 _ 22 rfl rfl
              · exact hval 13 _ 23 rfl rfl
              · exact hval 14 _ 24 rfl rfl
              · exact hval 15 _ 25 rfl rfl
              · exact hval 16 _ 26 rfl rfl
              · exact hval 17 _ 27 rfl rfl
              · exact hlow 28 (by kernel_rfl)
              · exact hlow 29 (by kernel_rfl)
              · exact hlow 30 (by kernel_rfl)
            subst ht
            have HF := Lib.hid hS
            clear hlow hval hsz hall hS
            go_wp2
            go_ret
            exact ⟨by rw [HV.out]; rfl, HB.out.trans (HF.out.mono HB.out.size)⟩
          · intro L ac w' q op hLs hop hLi hLd hLn hS0 hlow hdep _
            have hq : q < 18 := (Array.getElem?_eq_some_iff.1 hop).1
            rcases (by omega : q = 0 ∨ q = 1 ∨ q = 2 ∨ q = 3 ∨ q = 4 ∨ q = 5 ∨ q = 6 ∨ q = 7 ∨ q = 8 ∨ q = 9 ∨ q = 10 ∨ q = 11 ∨ q = 12 ∨ q = 13 ∨ q = 14 ∨ q = 15 ∨ q = 16 ∨ q = 17) with rfl | rfl | rfl | rfl | rfl | rfl | rfl | rfl | rfl | rfl | rfl | rfl | rfl | rfl | rfl | rfl | rfl | rfl
            · obtain rfl := Option.some.inj hop
              have e0 : ac.tmps[0]?.getD undef = .slice (some ad) xss.length c := (Array.getD_eq_getD_getElem? ..).symm.trans (hlow 0 (by kernel_rfl))
              exact .inl ⟨wanted_free rfl, .inl (.inl ⟨w', by simp [execOp, Act.eval, e0, go_sem], hS0⟩)⟩
            · obtain rfl := Option.some.inj hop
              have e3 : ac.tmps[3]?.getD undef = .int .i64 (k : Int) := (Array.getD_eq_getD_getElem? ..).symm.trans (hlow 3 (by kernel_rfl))
              exact .inl ⟨wanted_free rfl, .inl (.inl ⟨w', by simp [execOp, Act.eval, e3, go_sem], hS0⟩)⟩
            · obtain rfl := Option.some.inj hop
              have e10 : ac.tmps[10]?.getD undef = .slice (some ad) xss.length c := (Array.getD_eq_getD_getElem? ..).symm.trans (hdep 0 _ 10 (by kernel_rfl) rfl rfl)
              have e11 : ac.tmps[11]?.getD undef = .int .i64 (k : Int) := (Array.getD_eq_getD_getElem? ..).symm.trans (hdep 1 _ 11 (by kernel_rfl) rfl rfl)
              exact .inl ⟨wanted_free rfl, .inl (.inl ⟨w', by simp [execOp, Act.eval, e10, e11, hk0, hk1, go_sem], hS0⟩)⟩
            · obtain rfl := Option.some.inj hop
              have e12 : ac.tmps[12]?.getD undef = .pointer (some (ad.add k)) := (Array.getD_eq_getD_getElem? ..).symm.trans (hdep 2 _ 12 (by kernel_rfl) rfl rfl)
              have hcc := (HCE.out w' hS0).1
              exact .inl ⟨wanted_free rfl, .inl (.inl ⟨w', by simp [execOp, Act.eval, e12, hcc, go_sem], hS0⟩)⟩
            · obtain rfl := Option.some.inj hop
              have e13 : ac.tmps[13]?.getD undef = .slice B xs.length d := (Array.getD_eq_getD_getElem? ..).symm.trans (hdep 3 _ 13 (by kernel_rfl) rfl rfl)
              refine .inl ⟨wanted_free rfl, .inl (.inr ⟨92, #[.slice B xs.length d], by simp [execOp, Act.eval, e13, go_sem], (HG.out w' hS0).mono ?_⟩)⟩
              rintro e w2 ⟨rfl, hb⟩
              exact ⟨rfl, kb hS0 hb⟩
            · obtain rfl := Option.some.inj hop
              have e14 : ac.tmps[14]?.getD undef = .bool true := (Array.getD_eq_getD_getElem? ..).symm.trans (hdep 4 _ 14 (by kernel_rfl) rfl rfl)
              exact .inl ⟨wanted_free rfl, .inl (.inl ⟨w', by simp [execOp, Act.eval, e14, go_sem], hS0⟩)⟩
            · obtain rfl := Option.some.inj hop
              have e15 : ac.tmps[15]?.getD undef = .bool false := (Array.getD_eq_getD_getElem? ..).symm.trans (hdep 5 _ 15 (by kernel_rfl) rfl rfl)
              exact .inl ⟨wanted_free rfl, .inl (.inl ⟨w', by simp [execOp, Act.eval, e15, go_sem], hS0⟩)⟩
            · obtain rfl := Option.some.inj hop
              have e0 : ac.tmps[0]?.getD undef = .slice (some ad) xss.length c := (Array.getD_eq_getD_getElem? ..).symm.trans (hlow 0 (by kernel_rfl))
              exact .inl ⟨wanted_guard (g := 6) (d := 16) (b := false) rfl rfl rfl (hdep 6 _ 16 (by kernel_rfl) rfl rfl), .inl (.inl ⟨w', by simp [execOp, Act.eval, e0, go_sem], hS0⟩)⟩
            · obtain rfl := Option.some.inj hop
              have e3 : ac.tmps[3]?.getD undef = .int .i64 (k : Int) := (Array.getD_eq_getD_getElem? ..).symm.trans (hlow 3 (by kernel_rfl))
              exact .inl ⟨wanted_guard (g := 6) (d := 16) (b := false) rfl rfl rfl (hdep 6 _ 16 (by kernel_rfl) rfl rfl), .inl (.inl ⟨w', by simp [execOp, Act.eval, e3, go_sem], hS0⟩)⟩
            · obtain rfl := Option.some.inj hop
              have e17 : ac.tmps[17]?.getD undef = .slice (some ad) xss.length c := (Array.getD_eq_getD_getElem? ..).symm.trans (hdep 7 _ 17 (by kernel_rfl) rfl rfl)
              have e18 : ac.tmps[18]?.getD undef = .int .i64 (k : Int) := (Array.getD_eq_getD_getElem? ..).symm.trans (hdep 8 _ 18 (by kernel_rfl) rfl rfl)
              exact .inl ⟨wanted_guard (g := 6) (d := 16) (b := false) rfl rfl rfl (hdep 6 _ 16 (by kernel_rfl) rfl rfl), .inl (.inl ⟨w', by simp [execOp, Act.eval, e17, e18, hk0, hk1, go_sem], hS0⟩)⟩
            · obtain rfl := Option.some.inj hop
              have e19 : ac.tmps[19]?.getD undef = .pointer (some (ad.add k)) := (Array.getD_eq_getD_getElem? ..).symm.trans (hdep 9 _ 19 (by kernel_rfl) rfl rfl)
              have hcc := (HCE.out w' hS0).1
              exact .inl ⟨wanted_guard (g := 6) (d := 16) (b := false) rfl rfl rfl (hdep 6 _ 16 (by kernel_rfl) rfl rfl), .inl (.inl ⟨w', by simp [execOp, Act.eval, e19, hcc, go_sem], hS0⟩)⟩
            · obtain rfl := Option.some.inj hop
              have e20 : ac.tmps[20]?.getD undef = .slice B xs.length d := (Array.getD_eq_getD_getElem? ..).symm.trans (hdep 10 _ 20 (by kernel_rfl) rfl rfl)
              exact .inl ⟨wanted_guard (g := 6) (d := 16) (b := false) rfl rfl rfl (hdep 6 _ 16 (by kernel_rfl) rfl rfl), .inl (.inl ⟨w', by simp [execOp, Act.eval, e20, go_sem], hS0⟩)⟩
            · obtain rfl := Option.some.inj hop
              have e0 : ac.tmps[0]?.getD undef = .slice (some ad) xss.length c := (Array.getD_eq_getD_getElem? ..).symm.trans (hlow 0 (by kernel_rfl))
              exact .inl ⟨wanted_guard (g := 6) (d := 16) (b := false) rfl rfl rfl (hdep 6 _ 16 (by kernel_rfl) rfl rfl), .inl (.inl ⟨w', by simp [execOp, Act.eval, e0, go_sem], hS0⟩)⟩
            · obtain rfl := Option.some.inj hop
              have e22 : ac.tmps[22]?.getD undef = .slice (some ad) xss.length c := (Array.getD_eq_getD_getElem? ..).symm.trans (hdep 12 _ 22 (by kernel_rfl) rfl rfl)
              exact .inl ⟨wanted_guard (g := 6) (d := 16) (b := false) rfl rfl rfl (hdep 6 _ 16 (by kernel_rfl) rfl rfl), .inl (.inl ⟨w', by simp [execOp, Act.eval, e22, hz1, hnil, go_sem], hS0⟩)⟩
            · obtain rfl := Option.some.inj hop
              have e23 : ac.tmps[23]?.getD undef = .pointer (some ad) := (Array.getD_eq_getD_getElem? ..).symm.trans (hdep 13 _ 23 (by kernel_rfl) rfl rfl)
              have hcc := (HCE.out w' hS0).2
              exact .inl ⟨wanted_guard (g := 6) (d := 16) (b := false) rfl rfl rfl (hdep 6 _ 16 (by kernel_rfl) rfl rfl), .inl (.inl ⟨w', by simp [execOp, Act.eval, e23, hcc, go_sem], hS0⟩)⟩
            · obtain rfl := Option.some.inj hop
              have e24 : ac.tmps[24]?.getD undef = .slice B0 L0 d0 := (Array.getD_eq_getD_getElem? ..).symm.trans (hdep 14 _ 24 (by kernel_rfl) rfl rfl)
              exact .inl ⟨wanted_guard (g := 6) (d := 16) (b := false) rfl rfl rfl (hdep 6 _ 16 (by kernel_rfl) rfl rfl), .inl (.inl ⟨w', by simp [execOp, Act.eval, e24, go_sem], hS0⟩)⟩
            · obtain rfl := Option.some.inj hop
              have e21 : ac.tmps[21]?.getD undef = .int .i64 (xs.length : Int) := (Array.getD_eq_getD_getElem? ..).symm.trans (hdep 11 _ 21 (by kernel_rfl) rfl rfl)
              have e25 : ac.tmps[25]?.getD undef = .int .i64 (L0 : Int) := (Array.getD_eq_getD_getElem? ..).symm.trans (hdep 15 _ 25 (by kernel_rfl) rfl rfl)
              exact .inl ⟨wanted_guard (g := 6) (d := 16) (b := false) rfl rfl rfl (hdep 6 _ 16 (by kernel_rfl) rfl rfl), .inl (.inl ⟨w', by simp [execOp, Act.eval, e21, e25, heI, go_sem], hS0⟩)⟩
            · obtain rfl := Option.some.inj hop
              have e16 : ac.tmps[16]?.getD undef = .bool false := (Array.getD_eq_getD_getElem? ..).symm.trans (hdep 6 _ 16 (by kernel_rfl) rfl rfl)
              have e26 : ac.tmps[26]?.getD undef = .bool true := (Array.getD_eq_getD_getElem? ..).symm.trans (hdep 16 _ 26 (by kernel_rfl) rfl rfl)
              exact .inl ⟨wanted_free rfl, .inl (.inl ⟨w', by simp [execOp, Act.eval, e16, e26, go_sem], hS0⟩)⟩
    · obtain rfl : k = xss.length := by omega
      have hv := HALL.out (fun i hi => HM.out i hi)
      have hI := l1In_any (xss.length : Int) 1 4 wr
      have hIB : inB (xss.length : Int) 1 4 = scB xss := by
        rw [hv]
        unfold inB
        by_cases h : 1 ≤ xss.length ∧ xss.length ≤ 4
        · rw [decide_eq_true h, decide_eq_true (by omega)]
        · rw [decide_eq_false h, decide_eq_false (by omega)]
      rw [hIB] at hI
      have HI := Lib.hid hI
      clear hv hI hIB HALL HBAD HM HLE
      go_wp2_with fail
      refine HI.out.mono ?_
      rintro e _ ⟨rfl, rfl⟩
      go_wp2
      go_ret
      exact ⟨rfl, HB.out⟩
theorem spec_AreScenarios (A : Option Addr) (c : Nat) (xss : List (List J)) (w : World) (hr : RowX jc w A xss) (hn : xss.length ≤ 10000000 ∧ (lensX xss).sum ≤ 10000000) :
    Calls Try.prog 34 #[.slice A xss.length c] w fun e w' => e = .returned (.bool (scB xss)) ∧ Below w.heap.size w w' := by
  have HL := Lib.hid (l11Lists_any A c xss.length xss w rfl hr hn)
  clear hr
  go_enter Try.func34, Try.ntmps34
  go_wp2_with fail
  refine HL.out.mono ?_
  rintro e w1 ⟨rfl, hb1⟩
  have HB := Lib.hid hb1
  clear hb1
  go_wp2
  go_ret
  exact ⟨rfl, HB.out⟩
end Go.Proofs.Ytjemjdlaoebffaa
