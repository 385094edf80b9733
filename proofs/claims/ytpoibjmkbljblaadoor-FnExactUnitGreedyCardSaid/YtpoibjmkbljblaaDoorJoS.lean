/- Jobs sorted by rank: the library's insertion sort, at the comparison of fallingOrder. -/
import Derived.Test.YtpoibjmkbljblaaDoorJoC
import Derived.Test.YtpoibjmkbljblaaDoorKb3
import Derived.Test.YtpoibjmkbljblaaDoorEnds
import Derived.Test.YtpoibjmkbljblaaDoorKb2
import Derived.Test.YtpoibjmkbljblaaDoorKb1
import Derived.RegionTactic
import Derived.BigRegion
import Derived.RangeFuncNested
namespace Go.Proofs.YtpoibjmkbljblaaDoor
open Go.RowKit Go.Shelf
theorem cells_ofJ {w : World} {g : Nat} {cur : Array Value} {n : Nat} {l : List Nat} (hB : BlockIs w g 3 cur) (ht : cur.toList.take n = ic (natI l)) {i x : Nat} (hi : l[i]? = some x) (hn : i < n) : w.cell? ⟨g, i, none⟩ = some (.int .i64 (x : Int)) := by
  rw [hB.cell]
  have h1 : (cur.toList.take n)[i]? = some (.int .i64 (x : Int)) := by
    rw [ht]; unfold ic natI
    simp [hi]
  rw [List.getElem?_take, if_pos hn, Array.getElem?_toList] at h1
  exact h1
theorem ic_setJ (l : List Nat) (i x : Nat) : (ic (natI l)).set i (.int .i64 (x : Int)) = ic (natI (l.set i x)) := by
  unfold ic natI
  rw [List.map_set, List.map_set]; rfl
/-- What stands in the block while the sort runs; comparisons may make memory. -/
def SrtJs (w0 w : World) (g n : Nat) (sz : Nat) (l : List Nat) : Prop := ∃ cur, BlockIs w g 3 cur ∧ cur.size = sz ∧ cur.toList.take n = ic (natI l) ∧ w0.grownBy w (some g)
theorem SrtJs.below {w0 w w' : World} {g n sz : Nat} {l : List Nat} (h : SrtJs w0 w g n sz l) (hb : Below w.heap.size w w') : SrtJs w0 w' g n sz l := by
  obtain ⟨cur, h1, h2, h3, h4⟩ := h
  exact ⟨cur, h1.below hb, h2, h3, grown_then_below h4 hb⟩
theorem SrtJs.drew {w0 w : World} {g n sz : Nat} {l : List Nat} (h : SrtJs w0 w g n sz l) (m : Nat) : SrtJs w0 (w.drewN m) g n sz l := h.below (below_drewN (Below.refl _ _) m)
theorem SrtJs.drew1 {w0 w : World} {g n sz : Nat} {l : List Nat} (h : SrtJs w0 w g n sz l) : SrtJs w0 w.drew g n sz l := h.below (Below.refl _ _).drew
theorem SrtJs.set {w0 w : World} {g n sz : Nat} {l : List Nat} (h : SrtJs w0 w g n sz l) (i x : Nat) (hi : i < n) : SrtJs w0 (w.setCell ⟨g, i, none⟩ (.int .i64 (x : Int))) g n sz (l.set i x) := by
  obtain ⟨cur, h1, h2, h3, h4⟩ := h
  exact ⟨_, h1.set i _, by simpa using h2, by rw [take_setv h3 hi, ic_setJ], grown_setCell h4 i _⟩
abbrev FCJ : Nat := 121
section
variable {rk : Nat → Int} {n0 gr cR : Nat} {R : Option Addr} (hrk : ∀ i, 0 ≤ rk i ∧ rk i ≤ 1000)
include hrk
set_option maxRecDepth 100000 in
set_option maxHeartbeats 4000000 in
theorem insSortJ_any (w : World) (hr : RkIs rk n0 gr R cR w) (g cs sz : Nat) (q : List Nat) (hq : ∀ x ∈ q, x < n0) (hup : ∀ k (hk : k < q.length), ∀ a ∈ q.take k, a < q[k]) (hd : q.Nodup) (hl : q.length ≤ 12) (hs : SrtJs w w g q.length sz q) (hA : gr ≠ g ∧ ∀ a, R = some a → 0 < n0 → a.block ≠ g) :
    Calls Tryd.prog 169 #[.slice (some ⟨g, 0, none⟩) q.length cs, .int .i64 0, .int .i64 (q.length : Int), .func (.func FCJ) #[] #[.pointer (some ⟨gr, 0, none⟩)]] w fun e w' => e = .returned (.tuple #[]) ∧ SrtJs w w' g q.length sz (joL rk q) := by
  have HCW : Hid (∀ w' : World, w.grownBy w' (some g) → RkIs rk n0 gr R cR w') := fun w' hg => hr.grown hg hA.1 hA.2
  have HUP := Lib.hid hup
  have HS0 : Hid (SrtJs w w g q.length sz (joTo rk q 1 ++ q.drop 1) ∨ q.length = 0) := by
    show _ ∨ _
    rcases joTo_one rk q with h | h
    · rw [h]; exact .inl hs
    · exact .inr (by rw [h]; rfl)
  have hcf : ∀ (args : Array Value) (w1 : World), (callFunc FCJ args).run Tryd.prog w1 = .ok (.enter FCJ args) w1 := enters_of Tryd.func121 (by kernel_rfl) rfl
  have HS := Lib.hid hs
  have HD0 := Lib.hid hd
  clear hr hs hd hup
  by_cases hq0 : q.length = 0
  · have hql : q = [] := List.eq_nil_of_length_eq_zero hq0
    have HF : Hid (SrtJs w w g q.length sz (joL rk q)) := by
      show SrtJs _ _ _ _ _ _
      have h := HS.out
      rw [hql] at h ⊢
      exact h
    have hlt0 : ¬ (1 : Int) < (q.length : Int) := by omega
    have hqz : (q.length : Int) ≤ 0 := by omega
    clear hq0 hql HS0
    go_enter Tryd.func169, Tryd.ntmps169
    go_wp2
    refine wp_loop_rounds 1 ?_
    rw [rounds_succ]
    go_wp2
    go_end0
    exact ⟨rfl, HF.out⟩
  have HS1 : Hid (SrtJs w w g q.length sz (joTo rk q 1 ++ q.drop 1)) := by
    rcases HS0.out with h | h
    · exact h
    · exact absurd h hq0
  clear HS0 HS
  go_enter Tryd.func169, Tryd.ntmps169
  go_wp2
  go_loopw [8] (fun i wr => ∃ k : Nat, 1 ≤ k ∧ k ≤ q.length ∧ i = .int .i64 (k : Int) ∧ Hid (SrtJs w wr g q.length sz (joTo rk q k ++ q.drop k))) (fun i _ => q.length - (intOf i).toNat)
  case atStart => exact ⟨1, Nat.le_refl _, by omega, rfl, HS1⟩
  case round =>
    obtain ⟨k, hk1, hk2, rfl, HSk⟩ := hrel
    clear HS1
    by_cases hlt : k < q.length
    · have hol := joTo_len rk q k
      have HINS := Lib.hid (joTo_succ (rk := rk) hlt)
      have hxl := hq _ (List.getElem_mem hlt)
      have hout : ∀ a ∈ joTo rk q k, a < n0 := fun a ha => hq a (joTo_mem (by omega) ha)
      have hlow : ∀ a ∈ joTo rk q k, a < q[k] := fun a ha => HUP.out k hlt a ((joTo_perm rk q k (by omega)).mem_iff.1 ha)
      have HSO := Lib.hid (And.intro (joTo_sorted (rk := rk) HD0.out k (by omega)) (joTo_fresh (rk := rk) HD0.out hlt))
      have HD : Hid (q.drop k = q[k] :: q.drop (k + 1)) := List.drop_eq_getElem_cons hlt
      have hdl : (q.drop (k + 1)).length = q.length - (k + 1) := by simp
      generalize joTo rk q k = out at *
      generalize q[k] = x at *
      generalize hrst : q.drop (k + 1) = rest at *
      have HREST := Lib.hid hrst
      clear hrst
      have hol1 : out.length ≤ k := by omega
      have hol2 : k ≤ out.length := by omega
      have hrl : k + 1 + rest.length ≤ q.length := by omega
      have HST : Hid (SrtJs w wr g q.length sz (midL out rest x k)) := by
        show SrtJs _ _ _ _ _ _
        have h := HSk.out
        rw [HD.out] at h
        rwa [← hol, midL_start]
      clear hol hdl HSk
      obtain ⟨wo, rfl⟩ : ∃ wo : World, wo = wr := ⟨_, rfl⟩
      go_wp2
      go_loopw [9] (fun jv wi => ∃ j : Nat, j ≤ k ∧ jv = .int .i64 (j : Int) ∧ Hid (SrtJs w wi g q.length sz (midL out rest x j)) ∧ Hid (∀ i (h : i < out.length), j ≤ i → fB rk x out[i] = true)) (fun jv _ => (intOf jv).toNat)
      case atStart => exact ⟨k, Nat.le_refl _, rfl, HST, fun i h h' => absurd h (by omega)⟩
      case round =>
        obtain ⟨j, hj, rfl, HSJ, HG⟩ := hrel
        clear HST
        by_cases h0 : 0 < j
        · obtain ⟨m, hjm⟩ : ∃ m, j = m + 1 := ⟨j - 1, by omega⟩
          have hmo : m < out.length := by omega
          have hm0 : (0 : Int) ≤ m := by omega
          have hj0 : (0 : Int) ≤ j := by omega
          have hjq : (j : Int) < q.length := by omega
          have hm2 : (m : Int) < q.length := by omega
          have hjm' : (j : Int) - 1 = (m : Int) := by omega
          have dd : decide ((0 : Int) < (j : Int)) = true := decide_eq_true (by omega)
          have hw1 := IntWalk.i64_in ((j : Int) - 1) (by omega)
          obtain ⟨cur, hB, hcs, htk, hgr⟩ := HSJ.out
          have c1 := cells_ofJ hB htk (midL_at out rest x (j := j) (by omega)) (by omega)
          have c0 := cells_ofJ hB htk (by rw [hjm]; exact midL_prev out rest x (j := m) hmo) (show m < q.length by omega)
          have hym := hout _ (List.getElem_mem hmo)
          have hlm := hlow _ (List.getElem_mem hmo)
          have HCC : Hid (∀ w', Below wr.heap.size wr w' → Calls Tryd.prog FCJ #[.int .i64 (x : Int), .int .i64 (out[m] : Int), .pointer (some ⟨gr, 0, none⟩)] w' fun e w'' => e = .returned (.int .i64 (rk out[m] - rk x)) ∧ Below w'.heap.size w' w'') := fun w' hb => cmpRk_any (HCW.out w' (grown_then_below hgr hb)) hrk x out[m] hxl hym
          have HSN : Hid (fB rk x out[m] = decide (rk out[m] - rk x < 0)) := fB_low rk hlm
          have HJM := Lib.hid hjm
          have HX := Lib.hid (And.intro hB (And.intro hcs (And.intro htk hgr)))
          have fz1 := hB.frozen j
          have fz0 := hB.frozen m
          have HC1 := Lib.hid c1
          have HC0 := Lib.hid c0
          have lg : g < wr.heap.size := hB.lt
          clear hB hcs htk hgr hjm hym hlm c1 c0
          by_cases hneg : (rk out[m] - rk x) < 0
          · have HSW := Lib.hid (midL_swap out rest x hmo)
            have HG2 : Hid (∀ i (h : i < out.length), m ≤ i → fB rk x out[i] = true) := fun i h hmi => by
              by_cases e : i = m
              · subst e; rw [HSN.out]; exact decide_eq_true hneg
              · exact HG.out i h (by have := HJM.out; omega)
            have dn : decide ((rk out[m] - rk x) < 0) = true := decide_eq_true hneg
            generalize (rk out[m] - rk x) = gg at *
            generalize out[m] = y at *
            go_wp2
            refine wp_region_detY (by kernel_rfl) (fun (_ : Array Bool) w' => Below wr.heap.size wr w') (fun t => (#[.int .i64 (j : Int), .int .i64 0, .bool true, .bool true, .func (.func FCJ) #[] #[.pointer (some ⟨gr, 0, none⟩)], .slice (some ⟨g, 0, none⟩) q.length cs, .int .i64 (j : Int), .pointer (some ⟨g, j, none⟩), .int .i64 (x : Int), .slice (some ⟨g, 0, none⟩) q.length cs, .int .i64 (j : Int), .int .i64 (m : Int), .pointer (some ⟨g, m, none⟩), .int .i64 (y : Int), .int .i64 gg, .bool true, .bool true] : Array Value).getD t undef) (by kernel_rfl) (by kernel_rfl) (Below.refl _ _).drew ?_ ?_
            · intro L tm w' hall hS hsz hlow hval
              have ht : tm = #[.slice (some ⟨g, 0, none⟩) q.length cs, .int .i64 0, .int .i64 (q.length : Int), .func (.func FCJ) #[] #[.pointer (some ⟨gr, 0, none⟩)], undef, undef, undef, undef, .int .i64 (k : Int), .int .i64 (j : Int), .int .i64 0, .int .i64 1, .int .i64 (k : Int), .int .i64 (q.length : Int), .bool true, u15, u16, .int .i64 (k : Int), .int .i64 (j : Int), .int .i64 0, .bool true, .bool true, .func (.func FCJ) #[] #[.pointer (some ⟨gr, 0, none⟩)], .slice (some ⟨g, 0, none⟩) q.length cs, .int .i64 (j : Int), .pointer (some ⟨g, j, none⟩), .int .i64 (x : Int), .slice (some ⟨g, 0, none⟩) q.length cs, .int .i64 (j : Int), .int .i64 (m : Int), .pointer (some ⟨g, m, none⟩), .int .i64 (y : Int), .int .i64 gg, .bool true, .bool true, u35, u36, u37, u38, u39, u40, u41, u42, u43, u44, u45, u46, u47, u48, u49, u50, u51, u52] := by
                refine arr_of _ _ hsz fun t ht => ?_
                have ht' : t < 53 := ht
                rcases (by omega : t = 0 ∨ t = 1 ∨ t = 2 ∨ t = 3 ∨ t = 4 ∨ t = 5 ∨ t = 6 ∨ t = 7 ∨ t = 8 ∨ t = 9 ∨ t = 10 ∨ t = 11 ∨ t = 12 ∨ t = 13 ∨ t = 14 ∨ t = 15 ∨ t = 16 ∨ t = 17 ∨ t = 18 ∨ t = 19 ∨ t = 20 ∨ t = 21 ∨ t = 22 ∨ t = 23 ∨ t = 24 ∨ t = 25 ∨ t = 26 ∨ t = 27 ∨ t = 28 ∨ t = 29 ∨ t = 30 ∨ t = 31 ∨ t = 32 ∨ t = 33 ∨ t = 34 ∨ t = 35 ∨ t = 36 ∨ t = 37 ∨ t = 38 ∨ t = 39 ∨ t = 40 ∨ t = 41 ∨ t = 42 ∨ t = 43 ∨ t = 44 ∨ t = 45 ∨ t = 46 ∨ t = 47 ∨ t = 48 ∨ t = 49 ∨ t = 50 ∨ t = 51 ∨ t = 52) with rfl | rfl | rfl | rfl | rfl | rfl | rfl | rfl | rfl | rfl | rfl | rfl | rfl | rfl | rfl | rfl | rfl | rfl | rfl | rfl | rfl | rfl | rfl | rfl | rfl | rfl | rfl | rfl | rfl | rfl | rfl | rfl | rfl | rfl | rfl | rfl | rfl | rfl | rfl | rfl | rfl | rfl | rfl | rfl | rfl | rfl | rfl | rfl | rfl | rfl | rfl | rfl | rfl
                · exact hlow 0 (by kernel_rfl)
                · exact hlow 1 (by kernel_rfl)
                · exact hlow 2 (by kernel_rfl)
                · exact hlow 3 (by kernel_rfl)
                · exact hlow 4 (by kernel_rfl)
                · exact hlow 5 (by kernel_rfl)
                · exact hlow 6 (by kernel_rfl)
                · exact hlow 7 (by kernel_rfl)
                · exact hlow 8 (by kernel_rfl)
                · exact hlow 9 (by kernel_rfl)
                · exact hlow 10 (by kernel_rfl)
                · exact hlow 11 (by kernel_rfl)
                · exact hlow 12 (by kernel_rfl)
                · exact hlow 13 (by kernel_rfl)
                · exact hlow 14 (by kernel_rfl)
                · exact hlow 15 (by kernel_rfl)
                · exact hlow 16 (by kernel_rfl)
                · exact hlow 17 (by kernel_rfl)
                · exact hval 0 _ 18 rfl rfl
                · exact hval 1 _ 19 rfl rfl
                · exact hval 2 _ 20 rfl rfl
                · exact hval 3 _ 21 rfl rfl
                · exact hval 4 _ 22 rfl rfl
                · exact hval 5 _ 23 rfl rfl
                · exact hval 6 _ 24 rfl rfl
                · exact hval 7 _ 25 rfl rfl
                · exact hval 8 _ 26 rfl rfl
                · exact hval 9 _ 27 rfl rfl
                · exact hval 10 _ 28 rfl rfl
                · exact hval 11 _ 29 rfl rfl
                · exact hval 12 _ 30 rfl rfl
                · exact hval 13 _ 31 rfl rfl
                · exact hval 14 _ 32 rfl rfl
                · exact hval 15 _ 33 rfl rfl
                · exact hval 16 _ 34 rfl rfl
                · exact hlow 35 (by kernel_rfl)
                · exact hlow 36 (by kernel_rfl)
                · exact hlow 37 (by kernel_rfl)
                · exact hlow 38 (by kernel_rfl)
                · exact hlow 39 (by kernel_rfl)
                · exact hlow 40 (by kernel_rfl)
                · exact hlow 41 (by kernel_rfl)
                · exact hlow 42 (by kernel_rfl)
                · exact hlow 43 (by kernel_rfl)
                · exact hlow 44 (by kernel_rfl)
                · exact hlow 45 (by kernel_rfl)
                · exact hlow 46 (by kernel_rfl)
                · exact hlow 47 (by kernel_rfl)
                · exact hlow 48 (by kernel_rfl)
                · exact hlow 49 (by kernel_rfl)
                · exact hlow 50 (by kernel_rfl)
                · exact hlow 51 (by kernel_rfl)
                · exact hlow 52 (by kernel_rfl)
              subst ht
              clear hlow hval hsz hall
              have HSW1 := Lib.hid (HSJ.out.below hS)
              have c1w : w'.cell? ⟨g, j, none⟩ = some (.int .i64 (x : Int)) := (hS.cell (p := ⟨g, j, none⟩) lg).trans HC1.out
              have c0w : w'.cell? ⟨g, m, none⟩ = some (.int .i64 (y : Int)) := (hS.cell (p := ⟨g, m, none⟩) lg).trans HC0.out
              have f1w : w'.frozen? ⟨g, j, none⟩ = false := (hS.frozen (p := ⟨g, j, none⟩) lg).trans fz1
              have f0w : w'.frozen? ⟨g, m, none⟩ = false := (hS.frozen (p := ⟨g, m, none⟩) lg).trans fz0
              clear hS HCC HC1 HC0 fz1 fz0 HX
              go_wp2
              go_region
              all_goals
                go_wp2
                go_roundw
                case rel =>
                  have hz := (HSW1.out.set j y (by omega)).set m x (by omega)
                  rw [HJM.out, HSW.out, ← HJM.out] at hz
                  exact ⟨m, by omega, by go_num, by first | exact hz | exact hz.drew1, HG2.out⟩
                case measure => simp [intOf]; omega
            · intro L a w' t op _ hop _ _ _ hS hlow hdep _
              have ht : t < 17 := (Array.getElem?_eq_some_iff.1 hop).1
              rcases (by omega : t = 0 ∨ t = 1 ∨ t = 2 ∨ t = 3 ∨ t = 4 ∨ t = 5 ∨ t = 6 ∨ t = 7 ∨ t = 8 ∨ t = 9 ∨ t = 10 ∨ t = 11 ∨ t = 12 ∨ t = 13 ∨ t = 14 ∨ t = 15 ∨ t = 16) with rfl | rfl | rfl | rfl | rfl | rfl | rfl | rfl | rfl | rfl | rfl | rfl | rfl | rfl | rfl | rfl | rfl
              · obtain rfl := Option.some.inj hop
                have e9 : a.tmps[9]?.getD undef = .int .i64 (j : Int) := (Array.getD_eq_getD_getElem? ..).symm.trans (hlow 9 (by kernel_rfl))
                exact ⟨wanted_free rfl, .inl (.inl ⟨w', by simp [execOp, Act.eval, e9, go_sem], hS⟩)⟩
              · obtain rfl := Option.some.inj hop
                have e1 : a.tmps[1]?.getD undef = .int .i64 0 := (Array.getD_eq_getD_getElem? ..).symm.trans (hlow 1 (by kernel_rfl))
                exact ⟨wanted_free rfl, .inl (.inl ⟨w', by simp [execOp, Act.eval, e1, go_sem], hS⟩)⟩
              · obtain rfl := Option.some.inj hop
                have e18 : a.tmps[18]?.getD undef = .int .i64 (j : Int) := (Array.getD_eq_getD_getElem? ..).symm.trans (hdep 0 _ 18 (by kernel_rfl) rfl rfl)
                have e19 : a.tmps[19]?.getD undef = .int .i64 0 := (Array.getD_eq_getD_getElem? ..).symm.trans (hdep 1 _ 19 (by kernel_rfl) rfl rfl)
                exact ⟨wanted_free rfl, .inl (.inl ⟨w', by simp [execOp, Act.eval, e18, e19, h0, go_sem], hS⟩)⟩
              · obtain rfl := Option.some.inj hop
                have e20 : a.tmps[20]?.getD undef = .bool true := (Array.getD_eq_getD_getElem? ..).symm.trans (hdep 2 _ 20 (by kernel_rfl) rfl rfl)
                exact ⟨wanted_free rfl, .inl (.inl ⟨w', by simp [execOp, Act.eval, e20, go_sem], hS⟩)⟩
              · obtain rfl := Option.some.inj hop
                have e3 : a.tmps[3]?.getD undef = .func (.func FCJ) #[] #[.pointer (some ⟨gr, 0, none⟩)] := (Array.getD_eq_getD_getElem? ..).symm.trans (hlow 3 (by kernel_rfl))
                exact ⟨wanted_guard (g := 3) (d := 21) (b := true) rfl rfl rfl (hdep 3 _ 21 (by kernel_rfl) rfl rfl), .inl (.inl ⟨w', by simp [execOp, Act.eval, e3, go_sem], hS⟩)⟩
              · obtain rfl := Option.some.inj hop
                have e0 : a.tmps[0]?.getD undef = .slice (some ⟨g, 0, none⟩) q.length cs := (Array.getD_eq_getD_getElem? ..).symm.trans (hlow 0 (by kernel_rfl))
                exact ⟨wanted_guard (g := 3) (d := 21) (b := true) rfl rfl rfl (hdep 3 _ 21 (by kernel_rfl) rfl rfl), .inl (.inl ⟨w', by simp [execOp, Act.eval, e0, go_sem], hS⟩)⟩
              · obtain rfl := Option.some.inj hop
                have e9 : a.tmps[9]?.getD undef = .int .i64 (j : Int) := (Array.getD_eq_getD_getElem? ..).symm.trans (hlow 9 (by kernel_rfl))
                exact ⟨wanted_guard (g := 3) (d := 21) (b := true) rfl rfl rfl (hdep 3 _ 21 (by kernel_rfl) rfl rfl), .inl (.inl ⟨w', by simp [execOp, Act.eval, e9, go_sem], hS⟩)⟩
              · obtain rfl := Option.some.inj hop
                have e23 : a.tmps[23]?.getD undef = .slice (some ⟨g, 0, none⟩) q.length cs := (Array.getD_eq_getD_getElem? ..).symm.trans (hdep 5 _ 23 (by kernel_rfl) rfl rfl)
                have e24 : a.tmps[24]?.getD undef = .int .i64 (j : Int) := (Array.getD_eq_getD_getElem? ..).symm.trans (hdep 6 _ 24 (by kernel_rfl) rfl rfl)
                exact ⟨wanted_guard (g := 3) (d := 21) (b := true) rfl rfl rfl (hdep 3 _ 21 (by kernel_rfl) rfl rfl), .inl (.inl ⟨w', by simp [execOp, Act.eval, e23, e24, hj0, hjq, go_sem], hS⟩)⟩
              · obtain rfl := Option.some.inj hop
                have e25 : a.tmps[25]?.getD undef = .pointer (some ⟨g, j, none⟩) := (Array.getD_eq_getD_getElem? ..).symm.trans (hdep 7 _ 25 (by kernel_rfl) rfl rfl)
                have cw : w'.cell? ⟨g, j, none⟩ = some (.int .i64 (x : Int)) := (hS.cell (p := ⟨g, j, none⟩) lg).trans HC1.out
                exact ⟨wanted_guard (g := 3) (d := 21) (b := true) rfl rfl rfl (hdep 3 _ 21 (by kernel_rfl) rfl rfl), .inl (.inl ⟨w', by simp [execOp, Act.eval, e25, cw, go_sem], hS⟩)⟩
              · obtain rfl := Option.some.inj hop
                have e0 : a.tmps[0]?.getD undef = .slice (some ⟨g, 0, none⟩) q.length cs := (Array.getD_eq_getD_getElem? ..).symm.trans (hlow 0 (by kernel_rfl))
                exact ⟨wanted_guard (g := 3) (d := 21) (b := true) rfl rfl rfl (hdep 3 _ 21 (by kernel_rfl) rfl rfl), .inl (.inl ⟨w', by simp [execOp, Act.eval, e0, go_sem], hS⟩)⟩
              · obtain rfl := Option.some.inj hop
                have e9 : a.tmps[9]?.getD undef = .int .i64 (j : Int) := (Array.getD_eq_getD_getElem? ..).symm.trans (hlow 9 (by kernel_rfl))
                exact ⟨wanted_guard (g := 3) (d := 21) (b := true) rfl rfl rfl (hdep 3 _ 21 (by kernel_rfl) rfl rfl), .inl (.inl ⟨w', by simp [execOp, Act.eval, e9, go_sem], hS⟩)⟩
              · obtain rfl := Option.some.inj hop
                have e28 : a.tmps[28]?.getD undef = .int .i64 (j : Int) := (Array.getD_eq_getD_getElem? ..).symm.trans (hdep 10 _ 28 (by kernel_rfl) rfl rfl)
                exact ⟨wanted_guard (g := 3) (d := 21) (b := true) rfl rfl rfl (hdep 3 _ 21 (by kernel_rfl) rfl rfl), .inl (.inl ⟨w', by simp [execOp, Act.eval, e28, hw1, go_sem] <;> omega, hS⟩)⟩
              · obtain rfl := Option.some.inj hop
                have e27 : a.tmps[27]?.getD undef = .slice (some ⟨g, 0, none⟩) q.length cs := (Array.getD_eq_getD_getElem? ..).symm.trans (hdep 9 _ 27 (by kernel_rfl) rfl rfl)
                have e29 : a.tmps[29]?.getD undef = .int .i64 (m : Int) := (Array.getD_eq_getD_getElem? ..).symm.trans (hdep 11 _ 29 (by kernel_rfl) rfl rfl)
                exact ⟨wanted_guard (g := 3) (d := 21) (b := true) rfl rfl rfl (hdep 3 _ 21 (by kernel_rfl) rfl rfl), .inl (.inl ⟨w', by simp [execOp, Act.eval, e27, e29, hm0, hm2, go_sem], hS⟩)⟩
              · obtain rfl := Option.some.inj hop
                have e30 : a.tmps[30]?.getD undef = .pointer (some ⟨g, m, none⟩) := (Array.getD_eq_getD_getElem? ..).symm.trans (hdep 12 _ 30 (by kernel_rfl) rfl rfl)
                have cw : w'.cell? ⟨g, m, none⟩ = some (.int .i64 (y : Int)) := (hS.cell (p := ⟨g, m, none⟩) lg).trans HC0.out
                exact ⟨wanted_guard (g := 3) (d := 21) (b := true) rfl rfl rfl (hdep 3 _ 21 (by kernel_rfl) rfl rfl), .inl (.inl ⟨w', by simp [execOp, Act.eval, e30, cw, go_sem], hS⟩)⟩
              · obtain rfl := Option.some.inj hop
                have e22 : a.tmps[22]?.getD undef = .func (.func FCJ) #[] #[.pointer (some ⟨gr, 0, none⟩)] := (Array.getD_eq_getD_getElem? ..).symm.trans (hdep 4 _ 22 (by kernel_rfl) rfl rfl)
                have e26 : a.tmps[26]?.getD undef = .int .i64 (x : Int) := (Array.getD_eq_getD_getElem? ..).symm.trans (hdep 8 _ 26 (by kernel_rfl) rfl rfl)
                have e31 : a.tmps[31]?.getD undef = .int .i64 (y : Int) := (Array.getD_eq_getD_getElem? ..).symm.trans (hdep 13 _ 31 (by kernel_rfl) rfl rfl)
                refine ⟨wanted_guard (g := 3) (d := 21) (b := true) rfl rfl rfl (hdep 3 _ 21 (by kernel_rfl) rfl rfl), .inl (.inr ⟨FCJ, #[.int .i64 (x : Int), .int .i64 (y : Int), .pointer (some ⟨gr, 0, none⟩)], by simp [execOp, Act.eval, e22, e26, e31, hcf, go_sem], (HCC.out w' hS).mono ?_⟩)⟩
                rintro e w2 ⟨rfl, hb2⟩
                exact ⟨rfl, hS.trans (hb2.mono hS.size)⟩
              · obtain rfl := Option.some.inj hop
                have e32 : a.tmps[32]?.getD undef = .int .i64 gg := (Array.getD_eq_getD_getElem? ..).symm.trans (hdep 14 _ 32 (by kernel_rfl) rfl rfl)
                exact ⟨wanted_guard (g := 3) (d := 21) (b := true) rfl rfl rfl (hdep 3 _ 21 (by kernel_rfl) rfl rfl), .inl (.inl ⟨w', by simp [execOp, Act.eval, e32, dn, go_sem], hS⟩)⟩
              · obtain rfl := Option.some.inj hop
                have e21 : a.tmps[21]?.getD undef = .bool true := (Array.getD_eq_getD_getElem? ..).symm.trans (hdep 3 _ 21 (by kernel_rfl) rfl rfl)
                have e33 : a.tmps[33]?.getD undef = .bool true := (Array.getD_eq_getD_getElem? ..).symm.trans (hdep 15 _ 33 (by kernel_rfl) rfl rfl)
                exact ⟨wanted_free rfl, .inl (.inl ⟨w', by simp [execOp, Act.eval, e21, e33, go_sem], hS⟩)⟩
          · have dn : decide ((rk out[m] - rk x) < 0) = false := decide_eq_false hneg
            have HF : Hid (joTo rk q (k + 1) ++ q.drop (k + 1) = midL out rest x j) := by
              show _ = _
              rw [HINS.out, HREST.out, insJ_back HSO.out.1 HSO.out.2 (j := j) (by omega) (fun h => by
                have e : j - 1 = m := by have := HJM.out; omega
                simp only [e]
                rw [HSN.out]; exact dn) HG.out]
              unfold midL; simp
            generalize (rk out[m] - rk x) = gg at *
            generalize out[m] = y at *
            go_wp2
            refine wp_region_detY (by kernel_rfl) (fun (_ : Array Bool) w' => Below wr.heap.size wr w') (fun t => (#[.int .i64 (j : Int), .int .i64 0, .bool true, .bool true, .func (.func FCJ) #[] #[.pointer (some ⟨gr, 0, none⟩)], .slice (some ⟨g, 0, none⟩) q.length cs, .int .i64 (j : Int), .pointer (some ⟨g, j, none⟩), .int .i64 (x : Int), .slice (some ⟨g, 0, none⟩) q.length cs, .int .i64 (j : Int), .int .i64 (m : Int), .pointer (some ⟨g, m, none⟩), .int .i64 (y : Int), .int .i64 gg, .bool false, .bool false] : Array Value).getD t undef) (by kernel_rfl) (by kernel_rfl) (Below.refl _ _).drew ?_ ?_
            · intro L tm w' hall hS hsz hlow hval
              have ht : tm = #[.slice (some ⟨g, 0, none⟩) q.length cs, .int .i64 0, .int .i64 (q.length : Int), .func (.func FCJ) #[] #[.pointer (some ⟨gr, 0, none⟩)], undef, undef, undef, undef, .int .i64 (k : Int), .int .i64 (j : Int), .int .i64 0, .int .i64 1, .int .i64 (k : Int), .int .i64 (q.length : Int), .bool true, u15, u16, .int .i64 (k : Int), .int .i64 (j : Int), .int .i64 0, .bool true, .bool true, .func (.func FCJ) #[] #[.pointer (some ⟨gr, 0, none⟩)], .slice (some ⟨g, 0, none⟩) q.length cs, .int .i64 (j : Int), .pointer (some ⟨g, j, none⟩), .int .i64 (x : Int), .slice (some ⟨g, 0, none⟩) q.length cs, .int .i64 (j : Int), .int .i64 (m : Int), .pointer (some ⟨g, m, none⟩), .int .i64 (y : Int), .int .i64 gg, .bool false, .bool false, u35, u36, u37, u38, u39, u40, u41, u42, u43, u44, u45, u46, u47, u48, u49, u50, u51, u52] := by
                refine arr_of _ _ hsz fun t ht => ?_
                have ht' : t < 53 := ht
                rcases (by omega : t = 0 ∨ t = 1 ∨ t = 2 ∨ t = 3 ∨ t = 4 ∨ t = 5 ∨ t = 6 ∨ t = 7 ∨ t = 8 ∨ t = 9 ∨ t = 10 ∨ t = 11 ∨ t = 12 ∨ t = 13 ∨ t = 14 ∨ t = 15 ∨ t = 16 ∨ t = 17 ∨ t = 18 ∨ t = 19 ∨ t = 20 ∨ t = 21 ∨ t = 22 ∨ t = 23 ∨ t = 24 ∨ t = 25 ∨ t = 26 ∨ t = 27 ∨ t = 28 ∨ t = 29 ∨ t = 30 ∨ t = 31 ∨ t = 32 ∨ t = 33 ∨ t = 34 ∨ t = 35 ∨ t = 36 ∨ t = 37 ∨ t = 38 ∨ t = 39 ∨ t = 40 ∨ t = 41 ∨ t = 42 ∨ t = 43 ∨ t = 44 ∨ t = 45 ∨ t = 46 ∨ t = 47 ∨ t = 48 ∨ t = 49 ∨ t = 50 ∨ t = 51 ∨ t = 52) with rfl | rfl | rfl | rfl | rfl | rfl | rfl | rfl | rfl | rfl | rfl | rfl | rfl | rfl | rfl | rfl | rfl | rfl | rfl | rfl | rfl | rfl | rfl | rfl | rfl | rfl | rfl | rfl | rfl | rfl | rfl | rfl | rfl | rfl | rfl | rfl | rfl | rfl | rfl | rfl | rfl | rfl | rfl | rfl | rfl | rfl | rfl | rfl | rfl | rfl | rfl | rfl | rfl
                · exact hlow 0 (by kernel_rfl)
                · exact hlow 1 (by kernel_rfl)
                · exact hlow 2 (by kernel_rfl)
                · exact hlow 3 (by kernel_rfl)
                · exact hlow 4 (by kernel_rfl)
                · exact hlow 5 (by kernel_rfl)
                · exact hlow 6 (by kernel_rfl)
                · exact hlow 7 (by kernel_rfl)
                · exact hlow 8 (by kernel_rfl)
                · exact hlow 9 (by kernel_rfl)
                · exact hlow 10 (by kernel_rfl)
                · exact hlow 11 (by kernel_rfl)
                · exact hlow 12 (by kernel_rfl)
                · exact hlow 13 (by kernel_rfl)
                · exact hlow 14 (by kernel_rfl)
                · exact hlow 15 (by kernel_rfl)
                · exact hlow 16 (by kernel_rfl)
                · exact hlow 17 (by kernel_rfl)
                · exact hval 0 _ 18 rfl rfl
                · exact hval 1 _ 19 rfl rfl
                · exact hval 2 _ 20 rfl rfl
                · exact hval 3 _ 21 rfl rfl
                · exact hval 4 _ 22 rfl rfl
                · exact hval 5 _ 23 rfl rfl
                · exact hval 6 _ 24 rfl rfl
                · exact hval 7 _ 25 rfl rfl
                · exact hval 8 _ 26 rfl rfl
                · exact hval 9 _ 27 rfl rfl
                · exact hval 10 _ 28 rfl rfl
                · exact hval 11 _ 29 rfl rfl
                · exact hval 12 _ 30 rfl rfl
                · exact hval 13 _ 31 rfl rfl
                · exact hval 14 _ 32 rfl rfl
                · exact hval 15 _ 33 rfl rfl
                · exact hval 16 _ 34 rfl rfl
                · exact hlow 35 (by kernel_rfl)
                · exact hlow 36 (by kernel_rfl)
                · exact hlow 37 (by kernel_rfl)
                · exact hlow 38 (by kernel_rfl)
                · exact hlow 39 (by kernel_rfl)
                · exact hlow 40 (by kernel_rfl)
                · exact hlow 41 (by kernel_rfl)
                · exact hlow 42 (by kernel_rfl)
                · exact hlow 43 (by kernel_rfl)
                · exact hlow 44 (by kernel_rfl)
                · exact hlow 45 (by kernel_rfl)
                · exact hlow 46 (by kernel_rfl)
                · exact hlow 47 (by kernel_rfl)
                · exact hlow 48 (by kernel_rfl)
                · exact hlow 49 (by kernel_rfl)
                · exact hlow 50 (by kernel_rfl)
                · exact hlow 51 (by kernel_rfl)
                · exact hlow 52 (by kernel_rfl)
              subst ht
              clear hlow hval hsz hall
              have HSW1 := Lib.hid (HSJ.out.below hS)
              clear hS HCC HC1 HC0 fz1 fz0 HX
              go_wp2
              go_roundw
              case rel => exact ⟨k + 1, by omega, by omega, by go_num, by rw [HF.out]; exact HSW1.out⟩
              case measure => simp [intOf]; omega
            · intro L a w' t op _ hop _ _ _ hS hlow hdep _
              have ht : t < 17 := (Array.getElem?_eq_some_iff.1 hop).1
              rcases (by omega : t = 0 ∨ t = 1 ∨ t = 2 ∨ t = 3 ∨ t = 4 ∨ t = 5 ∨ t = 6 ∨ t = 7 ∨ t = 8 ∨ t = 9 ∨ t = 10 ∨ t = 11 ∨ t = 12 ∨ t = 13 ∨ t = 14 ∨ t = 15 ∨ t = 16) with rfl | rfl | rfl | rfl | rfl | rfl | rfl | rfl | rfl | rfl | rfl | rfl | rfl | rfl | rfl | rfl | rfl
              · obtain rfl := Option.some.inj hop
                have e9 : a.tmps[9]?.getD undef = .int .i64 (j : Int) := (Array.getD_eq_getD_getElem? ..).symm.trans (hlow 9 (by kernel_rfl))
                exact ⟨wanted_free rfl, .inl (.inl ⟨w', by simp [execOp, Act.eval, e9, go_sem], hS⟩)⟩
              · obtain rfl := Option.some.inj hop
                have e1 : a.tmps[1]?.getD undef = .int .i64 0 := (Array.getD_eq_getD_getElem? ..).symm.trans (hlow 1 (by kernel_rfl))
                exact ⟨wanted_free rfl, .inl (.inl ⟨w', by simp [execOp, Act.eval, e1, go_sem], hS⟩)⟩
              · obtain rfl := Option.some.inj hop
                have e18 : a.tmps[18]?.getD undef = .int .i64 (j : Int) := (Array.getD_eq_getD_getElem? ..).symm.trans (hdep 0 _ 18 (by kernel_rfl) rfl rfl)
                have e19 : a.tmps[19]?.getD undef = .int .i64 0 := (Array.getD_eq_getD_getElem? ..).symm.trans (hdep 1 _ 19 (by kernel_rfl) rfl rfl)
                exact ⟨wanted_free rfl, .inl (.inl ⟨w', by simp [execOp, Act.eval, e18, e19, h0, go_sem], hS⟩)⟩
              · obtain rfl := Option.some.inj hop
                have e20 : a.tmps[20]?.getD undef = .bool true := (Array.getD_eq_getD_getElem? ..).symm.trans (hdep 2 _ 20 (by kernel_rfl) rfl rfl)
                exact ⟨wanted_free rfl, .inl (.inl ⟨w', by simp [execOp, Act.eval, e20, go_sem], hS⟩)⟩
              · obtain rfl := Option.some.inj hop
                have e3 : a.tmps[3]?.getD undef = .func (.func FCJ) #[] #[.pointer (some ⟨gr, 0, none⟩)] := (Array.getD_eq_getD_getElem? ..).symm.trans (hlow 3 (by kernel_rfl))
                exact ⟨wanted_guard (g := 3) (d := 21) (b := true) rfl rfl rfl (hdep 3 _ 21 (by kernel_rfl) rfl rfl), .inl (.inl ⟨w', by simp [execOp, Act.eval, e3, go_sem], hS⟩)⟩
              · obtain rfl := Option.some.inj hop
                have e0 : a.tmps[0]?.getD undef = .slice (some ⟨g, 0, none⟩) q.length cs := (Array.getD_eq_getD_getElem? ..).symm.trans (hlow 0 (by kernel_rfl))
                exact ⟨wanted_guard (g := 3) (d := 21) (b := true) rfl rfl rfl (hdep 3 _ 21 (by kernel_rfl) rfl rfl), .inl (.inl ⟨w', by simp [execOp, Act.eval, e0, go_sem], hS⟩)⟩
              · obtain rfl := Option.some.inj hop
                have e9 : a.tmps[9]?.getD undef = .int .i64 (j : Int) := (Array.getD_eq_getD_getElem? ..).symm.trans (hlow 9 (by kernel_rfl))
                exact ⟨wanted_guard (g := 3) (d := 21) (b := true) rfl rfl rfl (hdep 3 _ 21 (by kernel_rfl) rfl rfl), .inl (.inl ⟨w', by simp [execOp, Act.eval, e9, go_sem], hS⟩)⟩
              · obtain rfl := Option.some.inj hop
                have e23 : a.tmps[23]?.getD undef = .slice (some ⟨g, 0, none⟩) q.length cs := (Array.getD_eq_getD_getElem? ..).symm.trans (hdep 5 _ 23 (by kernel_rfl) rfl rfl)
                have e24 : a.tmps[24]?.getD undef = .int .i64 (j : Int) := (Array.getD_eq_getD_getElem? ..).symm.trans (hdep 6 _ 24 (by kernel_rfl) rfl rfl)
                exact ⟨wanted_guard (g := 3) (d := 21) (b := true) rfl rfl rfl (hdep 3 _ 21 (by kernel_rfl) rfl rfl), .inl (.inl ⟨w', by simp [execOp, Act.eval, e23, e24, hj0, hjq, go_sem], hS⟩)⟩
              · obtain rfl := Option.some.inj hop
                have e25 : a.tmps[25]?.getD undef = .pointer (some ⟨g, j, none⟩) := (Array.getD_eq_getD_getElem? ..).symm.trans (hdep 7 _ 25 (by kernel_rfl) rfl rfl)
                have cw : w'.cell? ⟨g, j, none⟩ = some (.int .i64 (x : Int)) := (hS.cell (p := ⟨g, j, none⟩) lg).trans HC1.out
                exact ⟨wanted_guard (g := 3) (d := 21) (b := true) rfl rfl rfl (hdep 3 _ 21 (by kernel_rfl) rfl rfl), .inl (.inl ⟨w', by simp [execOp, Act.eval, e25, cw, go_sem], hS⟩)⟩
              · obtain rfl := Option.some.inj hop
                have e0 : a.tmps[0]?.getD undef = .slice (some ⟨g, 0, none⟩) q.length cs := (Array.getD_eq_getD_getElem? ..).symm.trans (hlow 0 (by kernel_rfl))
                exact ⟨wanted_guard (g := 3) (d := 21) (b := true) rfl rfl rfl (hdep 3 _ 21 (by kernel_rfl) rfl rfl), .inl (.inl ⟨w', by simp [execOp, Act.eval, e0, go_sem], hS⟩)⟩
              · obtain rfl := Option.some.inj hop
                have e9 : a.tmps[9]?.getD undef = .int .i64 (j : Int) := (Array.getD_eq_getD_getElem? ..).symm.trans (hlow 9 (by kernel_rfl))
                exact ⟨wanted_guard (g := 3) (d := 21) (b := true) rfl rfl rfl (hdep 3 _ 21 (by kernel_rfl) rfl rfl), .inl (.inl ⟨w', by simp [execOp, Act.eval, e9, go_sem], hS⟩)⟩
              · obtain rfl := Option.some.inj hop
                have e28 : a.tmps[28]?.getD undef = .int .i64 (j : Int) := (Array.getD_eq_getD_getElem? ..).symm.trans (hdep 10 _ 28 (by kernel_rfl) rfl rfl)
                exact ⟨wanted_guard (g := 3) (d := 21) (b := true) rfl rfl rfl (hdep 3 _ 21 (by kernel_rfl) rfl rfl), .inl (.inl ⟨w', by simp [execOp, Act.eval, e28, hw1, go_sem] <;> omega, hS⟩)⟩
              · obtain rfl := Option.some.inj hop
                have e27 : a.tmps[27]?.getD undef = .slice (some ⟨g, 0, none⟩) q.length cs := (Array.getD_eq_getD_getElem? ..).symm.trans (hdep 9 _ 27 (by kernel_rfl) rfl rfl)
                have e29 : a.tmps[29]?.getD undef = .int .i64 (m : Int) := (Array.getD_eq_getD_getElem? ..).symm.trans (hdep 11 _ 29 (by kernel_rfl) rfl rfl)
                exact ⟨wanted_guard (g := 3) (d := 21) (b := true) rfl rfl rfl (hdep 3 _ 21 (by kernel_rfl) rfl rfl), .inl (.inl ⟨w', by simp [execOp, Act.eval, e27, e29, hm0, hm2, go_sem], hS⟩)⟩
              · obtain rfl := Option.some.inj hop
                have e30 : a.tmps[30]?.getD undef = .pointer (some ⟨g, m, none⟩) := (Array.getD_eq_getD_getElem? ..).symm.trans (hdep 12 _ 30 (by kernel_rfl) rfl rfl)
                have cw : w'.cell? ⟨g, m, none⟩ = some (.int .i64 (y : Int)) := (hS.cell (p := ⟨g, m, none⟩) lg).trans HC0.out
                exact ⟨wanted_guard (g := 3) (d := 21) (b := true) rfl rfl rfl (hdep 3 _ 21 (by kernel_rfl) rfl rfl), .inl (.inl ⟨w', by simp [execOp, Act.eval, e30, cw, go_sem], hS⟩)⟩
              · obtain rfl := Option.some.inj hop
                have e22 : a.tmps[22]?.getD undef = .func (.func FCJ) #[] #[.pointer (some ⟨gr, 0, none⟩)] := (Array.getD_eq_getD_getElem? ..).symm.trans (hdep 4 _ 22 (by kernel_rfl) rfl rfl)
                have e26 : a.tmps[26]?.getD undef = .int .i64 (x : Int) := (Array.getD_eq_getD_getElem? ..).symm.trans (hdep 8 _ 26 (by kernel_rfl) rfl rfl)
                have e31 : a.tmps[31]?.getD undef = .int .i64 (y : Int) := (Array.getD_eq_getD_getElem? ..).symm.trans (hdep 13 _ 31 (by kernel_rfl) rfl rfl)
                refine ⟨wanted_guard (g := 3) (d := 21) (b := true) rfl rfl rfl (hdep 3 _ 21 (by kernel_rfl) rfl rfl), .inl (.inr ⟨FCJ, #[.int .i64 (x : Int), .int .i64 (y : Int), .pointer (some ⟨gr, 0, none⟩)], by simp [execOp, Act.eval, e22, e26, e31, hcf, go_sem], (HCC.out w' hS).mono ?_⟩)⟩
                rintro e w2 ⟨rfl, hb2⟩
                exact ⟨rfl, hS.trans (hb2.mono hS.size)⟩
              · obtain rfl := Option.some.inj hop
                have e32 : a.tmps[32]?.getD undef = .int .i64 gg := (Array.getD_eq_getD_getElem? ..).symm.trans (hdep 14 _ 32 (by kernel_rfl) rfl rfl)
                exact ⟨wanted_guard (g := 3) (d := 21) (b := true) rfl rfl rfl (hdep 3 _ 21 (by kernel_rfl) rfl rfl), .inl (.inl ⟨w', by simp [execOp, Act.eval, e32, dn, go_sem], hS⟩)⟩
              · obtain rfl := Option.some.inj hop
                have e21 : a.tmps[21]?.getD undef = .bool true := (Array.getD_eq_getD_getElem? ..).symm.trans (hdep 3 _ 21 (by kernel_rfl) rfl rfl)
                have e33 : a.tmps[33]?.getD undef = .bool false := (Array.getD_eq_getD_getElem? ..).symm.trans (hdep 15 _ 33 (by kernel_rfl) rfl rfl)
                exact ⟨wanted_free rfl, .inl (.inl ⟨w', by simp [execOp, Act.eval, e21, e33, go_sem], hS⟩)⟩
        · have d0 : decide ((0 : Int) < (j : Int)) = false := decide_eq_false (by omega)
          have d1 : ¬ (0 : Int) < (j : Int) := by omega
          have HF : Hid (joTo rk q (k + 1) ++ q.drop (k + 1) = midL out rest x j) := by
            show _ = _
            rw [HINS.out, HREST.out, insJ_back HSO.out.1 HSO.out.2 (j := j) (by omega) (fun h => absurd h h0) HG.out]
            unfold midL; simp
          go_wp2
          go_quiet (fail)
          go_wp2
          go_roundw
          case rel => exact ⟨k + 1, by omega, by omega, by go_num, by rw [HF.out]; exact HSJ.out.drew _⟩
          case measure => simp [intOf]; omega
    · have hkq : k = q.length := by omega
      have HF : Hid (joTo rk q k ++ q.drop k = joL rk q) := by
        show _ = _
        rw [hkq, List.drop_of_length_le (Nat.le_refl _), List.append_nil]; rfl
      have hkq' : ¬ (k : Int) < (q.length : Int) := by omega
      clear hkq
      go_wp2
      go_end0
      refine ⟨rfl, ?_⟩
      rw [← HF.out]
      exact HSk.out
end
end Go.Proofs.YtpoibjmkbljblaaDoor
