/- The model's table of what is before what. -/
import Derived.Test.YtjemjdlaoebffaaDoorTbl
namespace Go.Proofs.YtjemjdlaoebffaaDoor
open Go.RowKit
theorem edB_takeT (E : List Ed) {k : Nat} (hk : k < E.length) (i j : Nat) : edB (E.take (k + 1)) i j = (edB (E.take k) i j || decide (((i : Int), (j : Int)) = E[k])) := by
  unfold edB
  rw [List.take_succ_eq_append_getElem hk, Bool.eq_iff_iff, Bool.or_eq_true, List.contains_iff_mem, List.contains_iff_mem, decide_eq_true_iff, List.mem_append, List.mem_singleton]
theorem edB_step (E : List Ed) {k a b : Nat} (hk : k < E.length) (he : E[k] = ((a : Int), (b : Int))) (i j : Nat) : (if i = a ∧ j = b then true else edB (E.take k) i j) = edB (E.take (k + 1)) i j := by
  rw [edB_takeT E hk, he]
  by_cases h : i = a ∧ j = b
  · obtain ⟨rfl, rfl⟩ := h
    rw [if_pos ⟨rfl, rfl⟩]; simp
  · rw [if_neg h]
    have : decide (((i : Int), (j : Int)) = ((a : Int), (b : Int))) = false := decide_eq_false (by rw [Prod.mk.injEq]; omega)
    rw [this, Bool.or_false]
theorem edB_none (E : List Ed) (i j : Nat) : edB (E.take 0) i j = false := by simp [edB]
/-- Good pairs, as numbers. -/
def EdsIn (n : Nat) (E : List Pr) : Prop := ∀ k (h : k < E.length), ∃ a b : Nat, E[k] = ((a : Int), (b : Int)) ∧ a < n ∧ b < n
theorem edsIn_of {n : Nat} {E : List Pr} (hp : pairsTo n E E.length = true) : EdsIn n E := fun k hk => by
  have h1 := pairsTo_at hp hk
  unfold edOk at h1
  rw [getD_at E (0, 0) hk, Bool.and_eq_true, decide_eq_true_eq] at h1
  exact ⟨E[k].1.toNat, E[k].2.toNat, Prod.ext (by simp; omega) (by simp; omega), by omega, by omega⟩
set_option maxRecDepth 100000 in
set_option maxHeartbeats 4000000 in
theorem l4Table_any (A : Option Addr) (c n : Nat) (E : List Pr) (w : World) (hr : Row w A (pc E)) (hl : E.length ≤ 10000000) (hn : n ≤ 8) (hE : EdsIn n E) :
    Calls Tryd.prog 64 #[.int .i64 (n : Int), .slice A E.length c] w fun e w' => ∃ gs v, e = .returned v ∧ TabR w.heap.size n (tabB n E) gs v w' ∧ gs.length = n ∧ Below w.heap.size w w' := by
  have hmk : ∀ w : World, (Instr.makeSlice 99 (.int .i64 (n : Int)) (.int .i64 (n : Int))).run Tryd.prog w = .ok (.slice (some ⟨w.heap.size, 0, none⟩) n n) (w.alloc (.cells (rowB n fun _ => false) 4)) := fun w => by
    rw [← rowB_made]
    exact run_make_row' (P := Tryd.prog) 99 4 (.bool false) 1 Tryd.underlying99 infoBo rfl .i64 .i64 n (by omega) (by omega) w
  have hb0 := (Below.refl w.heap.size w).alloc (Nat.le_refl _) (.cells #[] 99)
  have h0 : (w.alloc (.cells #[] 99)).ownsRow w.heap.size 99 1 (.slice (some ⟨w.heap.size, 0, none⟩) 0 0) 0 [] := World.ownsRow_made w #[] 0 (Nat.le_refl _) (by unfold maxLen; omega) rfl
  have H0 := Lib.hid (And.intro hb0 h0)
  clear hb0 h0
  go_enter Tryd.func64, Tryd.ntmps64
  go_wp2
  go_loopw [5, 6] (fun v i wr => ∃ (k : Nat) (gs : List Nat) (V : Value), k ≤ n ∧ i = .int .i64 (k : Int) ∧ V = v ∧ Hid (gs.length = k) ∧ Hid (TabR w.heap.size n (fun _ _ => false) gs V wr) ∧ Hid (Below w.heap.size w wr)) (fun _ i _ => n - (intOf i).toNat)
  case atStart => exact ⟨0, [], _, Nat.zero_le _, rfl, rfl, rfl, ⟨H0.out.2, ⟨fun i h => absurd h (Nat.not_lt_zero _), List.nodup_nil⟩⟩, H0.out.1⟩
  case round =>
    obtain ⟨k, gs, V, hk, rfl, rfl, hgl, hTb, hb⟩ := hrel
    clear H0
    by_cases hlt : k < n
    · obtain ⟨v', w3, hrun, hT3, hb3⟩ := TabR.push hTb.out hb.out (by rw [hgl.out]; omega)
      have HRUN := Lib.hid hrun
      have HF := Lib.hid (And.intro hT3 hb3)
      have HL : Hid ((gs ++ [wr.heap.size]).length = k + 1) := by show _ = _; rw [List.length_append, hgl.out]; rfl
      clear hrun hT3 hb3 hTb hb hgl
      go_wp2_with (at_builtin; refine wpList_app rfl _ _ _ rfl _ _ _ rfl rfl HRUN.out ?_; clear HRUN)
      go_roundw
      case rel => exact ⟨k + 1, _, _, by omega, by go_num, rfl, HL, HF.out.1, HF.out.2⟩
      case measure => simp [intOf]; omega
    · obtain rfl : k = n := by omega
      clear hmk
      go_wp2
      have HT0 : Hid (TabR w.heap.size k (edB (E.take 0)) gs V wr) := hTb.out.congr fun i j _ _ => (edB_none E i j).symm
      clear hTb
      obtain ⟨wo, rfl⟩ : ∃ wo : World, wo = wr := ⟨_, rfl⟩
      go_loopw [7] (fun i wr => ∃ x : Nat, x ≤ E.length ∧ i = .int .i64 (x : Int) ∧ Hid (TabR w.heap.size k (edB (E.take x)) gs V wr) ∧ Hid (Below w.heap.size w wr)) (fun i _ => E.length - (intOf i).toNat)
      case atStart => exact ⟨0, Nat.zero_le _, rfl, HT0, hb⟩
      case round =>
        clear HT0 hb
        obtain ⟨x, hx, rfl, hTb, hb⟩ := hrel
        by_cases hlt : x < E.length
        · obtain ⟨ad, hA, hbl, hc0, hc1⟩ := (hr.below hb.out).pair hlt
          subst hA
          obtain ⟨a, b, hab, ha, hbk⟩ := hE x hlt
          obtain ⟨g, cc, q, hV, hq, hcell, hBq, hqB, hgq, hrow⟩ := hTb.out.at_ (i := a) (by rw [hgl.out]; exact ha)
          subst hV
          have hfz := hBq.frozen b
          have hcb := hrow b hbk
          have HN := Lib.hid ((hTb.out.set (i := a) (j := b) (by rw [hgl.out]; exact ha) true).congr fun i j _ _ => edB_step E hlt hab i j)
          rw [hq] at HN
          have HB := Lib.hid (hb.out.setCell (p := ⟨q, b, none⟩) hqB (.bool true))
          rw [hab] at hc0 hc1
          simp only at hc0 hc1
          have ha0 : (0 : Int) ≤ a := by omega
          have ha1 : (a : Int) < gs.length := by rw [hgl.out]; omega
          have hb0 : (0 : Int) ≤ b := by omega
          have hb1 : (b : Int) < k := by omega
          clear hTb hb hBq hrow hq hab hgq hr
          generalize edB (E.take x) a b = old at *
          go_wp2
          go_still_tail 14, (by kernel_rfl)
          change wpList _ _ _ _ _ wr.drew
          go_wp2
          go_roundw
          case rel => exact ⟨x + 1, by omega, by go_num, HN.out.drew, HB.out.drew⟩
          case measure => simp [intOf]; omega
        · obtain rfl : x = E.length := by omega
          rw [List.take_length] at hTb
          go_wp2
          obtain ⟨w1, rfl⟩ : ∃ w1 : World, w1 = wr := ⟨_, rfl⟩
          go_loopw [8] (fun kv wr => ∃ z : Nat, z ≤ k ∧ kv = .int .i64 (z : Int) ∧ Hid (TabR w.heap.size k (tabTo E z) gs V wr) ∧ Hid (Below w.heap.size w wr)) (fun kv _ => k - (intOf kv).toNat)
          case atStart => exact ⟨0, Nat.zero_le _, rfl, hTb, hb⟩
          case round =>
            clear hTb hb
            obtain ⟨z, hz, rfl, hTb, hb⟩ := hrel
            by_cases hltz : z < k
            · go_wp2
              have HTM : Hid (TabR w.heap.size k (tabMid E z 0 0) gs V wr) := hTb.out.congr fun i j _ _ => (tabMid_zero E z i j).symm
              clear hTb
              obtain ⟨w2, rfl⟩ : ∃ w2 : World, w2 = wr := ⟨_, rfl⟩
              go_loopw [9] (fun iv wr => ∃ i : Nat, i ≤ k ∧ iv = .int .i64 (i : Int) ∧ Hid (TabR w.heap.size k (tabMid E z i 0) gs V wr) ∧ Hid (Below w.heap.size w wr)) (fun iv _ => k - (intOf iv).toNat)
              case atStart => exact ⟨0, Nat.zero_le _, rfl, HTM, hb⟩
              case round =>
                clear HTM hb
                obtain ⟨i, hi, rfl, hTb, hb⟩ := hrel
                by_cases hlti : i < k
                · go_wp2
                  obtain ⟨w3, rfl⟩ : ∃ w3 : World, w3 = wr := ⟨_, rfl⟩
                  go_loopw [10] (fun jv wr => ∃ j : Nat, j ≤ k ∧ jv = .int .i64 (j : Int) ∧ Hid (TabR w.heap.size k (tabMid E z i j) gs V wr) ∧ Hid (Below w.heap.size w wr)) (fun jv _ => k - (intOf jv).toNat)
                  case atStart => exact ⟨0, Nat.zero_le _, rfl, hTb, hb⟩
                  case round =>
                    clear hTb hb
                    obtain ⟨j, hj, rfl, hTb, hb⟩ := hrel
                    by_cases hltj : j < k
                    · obtain ⟨g, cc, q, hV, hq, hcell, hBq, hqB, hgq, hrow⟩ := hTb.out.at_ (i := i) (by rw [hgl.out]; exact hlti)
                      obtain ⟨g2, cc2, q2, hV2, hq2, hcell2, hBq2, hqB2, hgq2, hrow2⟩ := hTb.out.at_ (i := z) (by rw [hgl.out]; exact hltz)
                      subst hV
                      obtain ⟨rfl, rfl⟩ : g = g2 ∧ cc = cc2 := by
                        injection hV2 with e1 _ e3
                        injection e1 with e1
                        injection e1 with e1 _ _
                        exact ⟨e1, e3⟩
                      have hik := hrow z hltz
                      rw [tabMid_col] at hik
                      have hkj := hrow2 j hltj
                      rw [tabMid_row] at hkj
                      have hi0 : (0 : Int) ≤ i := by omega
                      have hi1 : (i : Int) < gs.length := by rw [hgl.out]; omega
                      have hz0 : (0 : Int) ≤ z := by omega
                      have hz1 : (z : Int) < gs.length := by rw [hgl.out]; omega
                      have hz2 : (z : Int) < k := by omega
                      have hj0 : (0 : Int) ≤ j := by omega
                      have hj1 : (j : Int) < k := by omega
                      have hno : (tabTo E z i z && tabTo E z z j) = false → Hid (TabR w.heap.size k (tabMid E z i (j + 1)) gs (.slice (some ⟨g, 0, none⟩) gs.length cc) wr) := fun h => hTb.out.congr fun x y _ _ => (by
                        have : tabMid E z i (j + 1) x y = tabMid E z i j x y := tabMid_no E z i j x y h
                        rw [this])
                      have hyes : (tabTo E z i z && tabTo E z z j) = true → Hid (TabR w.heap.size k (tabMid E z i (j + 1)) gs (.slice (some ⟨g, 0, none⟩) gs.length cc) (wr.setCell ⟨q, j, none⟩ (.bool true))) := fun h => by
                        have := (hTb.out.set (i := i) (j := j) (by rw [hgl.out]; exact hlti) true).congr fun x y _ _ => (tabMid_yes E z i j x y h).symm
                        rw [hq] at this
                        exact this
                      have hfz := hBq.frozen j
                      have hcb := hrow j hltj
                      have HBS := Lib.hid (hb.out.setCell (p := ⟨q, j, none⟩) hqB (.bool true))
                      clear hV2 hBq hBq2 hrow hrow2 hq hq2 hgq hgq2 hTb
                      generalize tabMid E z i j i j = old at *
                      cases hz1b : tabTo E z i z
                      · have HN := hno (by rw [hz1b]; rfl)
                        rw [hz1b] at hik
                        clear hno hyes hz1b
                        go_wp2
                        go_roundw
                        case rel => exact ⟨j + 1, by omega, by go_num, HN, hb⟩
                        case measure => simp [intOf]; omega
                      · cases hz2b : tabTo E z z j
                        · have HN := hno (by rw [hz1b, hz2b]; rfl)
                          rw [hz1b] at hik
                          rw [hz2b] at hkj
                          clear hno hyes hz1b hz2b
                          go_wp2
                          go_roundw
                          case rel => exact ⟨j + 1, by omega, by go_num, HN, hb⟩
                          case measure => simp [intOf]; omega
                        · have HN := hyes (by rw [hz1b, hz2b]; rfl)
                          rw [hz1b] at hik
                          rw [hz2b] at hkj
                          clear hno hyes hz1b hz2b
                          go_wp2
                          go_roundw
                          case rel => exact ⟨j + 1, by omega, by go_num, HN, HBS⟩
                          case measure => simp [intOf]; omega
                    · obtain rfl : j = k := by omega
                      have HN : Hid (TabR w.heap.size j (tabMid E z (i + 1) 0) gs V wr) := hTb.out.congr fun x y _ hy => tabMid_end E z i j x y hy
                      clear hTb
                      go_wp2
                      go_roundw
                      case rel => exact ⟨i + 1, by omega, by go_num, HN, hb⟩
                      case measure => simp [intOf]; omega
                · obtain rfl : i = k := by omega
                  have HN : Hid (TabR w.heap.size i (tabTo E (z + 1)) gs V wr) := hTb.out.congr fun x y hx _ => tabMid_all E z i x y (by rw [hgl.out] at hx; exact hx)
                  clear hTb
                  go_wp2
                  go_roundw
                  case rel => exact ⟨z + 1, by omega, by go_num, HN, hb⟩
                  case measure => simp [intOf]; omega
            · obtain rfl : z = k := by omega
              go_wp2
              go_ret
              exact ⟨gs, V, rfl, hTb.out, hgl.out, hb.out⟩
end Go.Proofs.YtjemjdlaoebffaaDoor
