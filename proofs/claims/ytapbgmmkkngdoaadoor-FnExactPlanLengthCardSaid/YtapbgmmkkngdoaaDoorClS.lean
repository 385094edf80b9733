/- The closure and the reduction of a precedence: the model's. -/
import Derived.Test.YtapbgmmkkngdoaaDoorPrx
import Derived.Test.YtapbgmmkkngdoaaDoorPap
namespace Go.Proofs.YtapbgmmkkngdoaaDoor
open Go.RowKit
def closR (n : Int) (E : List Pr) : List Pr × Bool := if precB n E then (closL n.toNat E, true) else ([], false)
def reduR (n : Int) (E : List Pr) : List Pr × Bool := if precB n E then (reduL n.toNat E, true) else ([], false)
theorem closR_len (n : Int) (E : List Pr) : (closR n E).1.length ≤ 64 := by
  unfold closR
  split
  · rename_i h
    unfold precB at h
    rw [Bool.and_eq_true] at h
    obtain ⟨h0, h8, _, _⟩ := pairs_out h.1
    have h1 := clsTo_len n.toNat (tabB n.toNat E) n.toNat
    have h3 : n.toNat * n.toNat ≤ 8 * 8 := Nat.mul_le_mul (by omega) (by omega)
    show (clsTo _ _ _).length ≤ _
    omega
  · simp
theorem reduR_len (n : Int) (E : List Pr) : (reduR n E).1.length ≤ 64 := by
  unfold reduR
  split
  · rename_i h
    unfold precB at h
    rw [Bool.and_eq_true] at h
    obtain ⟨h0, h8, _, _⟩ := pairs_out h.1
    have h1 := clsTo_len n.toNat (directB n.toNat E) n.toNat
    have h3 : n.toNat * n.toNat ≤ 8 * 8 := Nat.mul_le_mul (by omega) (by omega)
    show (clsTo _ _ _).length ≤ _
    omega
  · simp
theorem ret_ownPr {w w' : World} {r : List Pr × Bool} {p : List Pr} {v : Value} (hr : r = (p, true)) (ho : w'.ownsRow w.heap.size 56 2 v p.length (pc p)) (hb : Below w.heap.size w w') (e : Ending) (he : e = .returned (.tuple #[v, .bool true])) : RetPB w r e w' := by
  obtain ⟨A, c, rfl, hs⟩ := seg_out ho
  subst hr he
  exact ⟨A, c, rfl, hs, hb⟩
theorem cls_bd (n : Nat) (T : Nat → Nat → Bool) (i j : Nat) (hi : i < n) (hj : j < n) (hn : n ≤ 8) : (clsTo n T i ++ rowTo T i j).length ≤ 1000 := by
  have h1 := clsTo_len n T i
  have h2 := rowTo_len T i j
  have h3 : i * n ≤ 8 * 8 := Nat.mul_le_mul (by omega) hn
  rw [List.length_append]
  omega
theorem prec_nat {n : Int} {E : List Pr} (h : precB n E = true) : ∃ m : Nat, n = (m : Int) ∧ m ≤ 8 ∧ EdsIn m E := by
  unfold precB at h
  rw [Bool.and_eq_true] at h
  obtain ⟨h0, h8, _, hp⟩ := pairs_out h.1
  exact ⟨n.toNat, by omega, by omega, edsIn_of (by rw [Int.toNat_of_nonneg h0]; exact hp)⟩
set_option maxRecDepth 100000 in
set_option maxHeartbeats 1000000 in
theorem l4Through_any {B n : Nat} {E : List Pr} {gs : List Nat} {g cc : Nat} {w : World} (h : TabR B n (tabB n E) gs (.slice (some ⟨g, 0, none⟩) gs.length cc) w) (hgl : gs.length = n) (i j : Nat) (hi : i < n) (hj : j < n) (hn : n ≤ 8) :
    Calls Tryd.prog 49 #[.slice (some ⟨g, 0, none⟩) gs.length cc, .int .i64 (i : Int), .int .i64 (j : Int)] w fun e w' => e = .returned (.bool ((List.range n).any fun k => tabB n E i k && tabB n E k j)) ∧ w = w' := by
  have HTb := Lib.hid h
  have HGL := Lib.hid hgl
  have hgn : gs.length ≤ 8 := by omega
  have HAny : Hid (∀ k, ((List.range (k + 1)).any fun k => tabB n E i k && tabB n E k j) = (((List.range k).any fun k => tabB n E i k && tabB n E k j) || (tabB n E i k && tabB n E k j))) := fun k => by rw [List.range_succ, List.any_append]; simp
  clear h
  go_enter Tryd.func49, Tryd.ntmps49
  go_wp2
  go_loop [7] (fun v => ∃ k : Nat, k ≤ n ∧ v = .int .i64 (k : Int) ∧ Hid (((List.range k).any fun k => tabB n E i k && tabB n E k j) = false)) (fun v => n - (intOf v).toNat)
  case atStart => exact ⟨0, Nat.zero_le _, rfl, rfl⟩
  case round =>
    obtain ⟨k, hk, rfl, HI⟩ := hrel
    by_cases hlt : k < n
    · obtain ⟨g1, c1, q, hV, hq, hcell, _, _, _, hrow⟩ := HTb.out.at_ (i := i) (by rw [HGL.out]; exact hi)
      obtain ⟨g2, c2, q2, hV2, hq2, hcell2, _, _, _, hrow2⟩ := HTb.out.at_ (i := k) (by rw [HGL.out]; exact hlt)
      obtain ⟨rfl, rfl⟩ : g = g1 ∧ cc = c1 := by
        injection hV with e1 _ e3
        injection e1 with e1
        injection e1 with e1 _ _
        exact ⟨e1, e3⟩
      obtain rfl : g = g2 := by
        injection hV2 with e1 _ e3
        injection e1 with e1
        injection e1 with e1 _ _
      have hik := hrow k hlt
      have hkj := hrow2 j hj
      have hkl : (k : Int) < gs.length := by rw [HGL.out]; omega
      have hil : (i : Int) < gs.length := by rw [HGL.out]; omega
      have hi0 : (0 : Int) ≤ i := by omega
      have hj0 : (0 : Int) ≤ j := by omega
      have hk0 : (0 : Int) ≤ k := by omega
      have hjn : (j : Int) < n := by omega
      have hkn : (k : Int) < n := by omega
      have HS : Hid (((List.range (k + 1)).any fun k => tabB n E i k && tabB n E k j) = (tabB n E i k && tabB n E k j)) := by show _ = _; rw [HAny.out, HI.out, Bool.false_or]
      have hkg : k < gs.length := by omega
      clear hrow hrow2 hV hV2 hq hq2 hgl
      cases h1 : tabB n E i k
      · rw [h1] at hik HS
        clear h1
        go_wp2
        go_round
        case rel => exact ⟨k + 1, by omega, by go_num, by rw [HS.out]; rfl⟩
        case measure => simp [intOf]; omega
      · cases h2 : tabB n E k j
        · rw [h1] at hik HS
          rw [h2] at hkj HS
          clear h1 h2
          go_wp2
          go_round
          case rel => exact ⟨k + 1, by omega, by go_num, by rw [HS.out]; rfl⟩
          case measure => simp [intOf]; omega
        · have HT : Hid (((List.range n).any fun k => tabB n E i k && tabB n E k j) = true) := by
            show _ = _
            rw [List.any_eq_true]
            exact ⟨k, List.mem_range.2 hlt, by rw [h1, h2]; rfl⟩
          rw [h1] at hik
          rw [h2] at hkj
          clear h1 h2 HS
          go_wp2
          go_ret
          exact ⟨by rw [HT.out]; rfl, rfl⟩
    · obtain rfl : k = n := by omega
      have HGL2 : ¬ (k : Int) < gs.length := by rw [HGL.out]; omega
      clear hgl
      go_wp2
      go_ret
      exact ⟨by rw [HI.out]; rfl, rfl⟩
set_option maxRecDepth 100000 in
set_option maxHeartbeats 4000000 in
theorem spec_PrecedenceClosure (A : Option Addr) (c : Nat) (n : Int) (E : List Pr) (w : World) (hr : Row w A (pc E)) (hl : E.length ≤ 10000000) :
    Calls Tryd.prog 16 #[.int .i64 n, .slice A E.length c] w (RetPB w (closR n E)) := by
  have HRR : Hid (closR n E = if precB n E then (closL n.toNat E, true) else ([], false)) := rfl
  have hb0 := (Below.refl w.heap.size w).alloc (Nat.le_refl _) (.cells #[] 56)
  have h0 : (w.alloc (.cells #[] 56)).ownsRow w.heap.size 56 2 (.slice (some ⟨w.heap.size, 0, none⟩) 0 0) 0 (pc []) := World.ownsRow_made w #[] 0 (Nat.le_refl _) (by unfold maxLen; omega) rfl
  have H0 := Lib.hid (And.intro hb0 h0)
  have HG := Lib.hid (l4Good_any A c n E _ (hr.below hb0) hl)
  have HR := Lib.hid hr
  clear hb0 h0 hr
  go_enter Tryd.func16, Tryd.ntmps16
  go_wp2_with fail
  refine HG.out.mono ?_
  rintro e w1 ⟨rfl, hb1⟩
  cases hp : precB n E
  · rw [hp] at HRR
    have HB := Lib.hid (H0.out.1.trans (hb1.mono H0.out.1.size))
    have HO := Lib.hid (own_blw H0.out.2 hb1)
    clear hp hb1 H0 HG
    go_wp2
    go_ret2
    obtain ⟨A', c', hA, hs⟩ := seg_out HO.out
    injection hA with e1 _ e3
    subst e1 e3
    rw [show closR n E = ([], false) from HRR.out]
    exact ⟨_, _, rfl, hs, HB.out⟩
  · rw [hp] at HRR
    obtain ⟨m, rfl, hm, hE⟩ := prec_nat hp
    rw [Int.toNat_natCast] at HRR
    have HB1 := Lib.hid (H0.out.1.trans (hb1.mono H0.out.1.size))
    have HO := Lib.hid (own_blw H0.out.2 hb1)
    have HTB := Lib.hid (l4Table_any A c m E w1 (HR.out.below HB1.out) hl hm hE)
    clear hp hb1 H0 HG hE
    go_wp2_with fail
    refine HTB.out.mono ?_
    rintro e w2 ⟨gs, v, rfl, hTb, hgl, hb2⟩
    have HB2 := Lib.hid (HB1.out.trans (hb2.mono HB1.out.size))
    have HO2 := Lib.hid (own_blw HO.out hb2)
    have HTb := Lib.hid (show TabR w1.heap.size m (tabB m E) gs v w2 from hTb)
    have HGL := Lib.hid hgl
    clear hTb hgl hb2 HB1 HO HTB
    go_wp2
    go_loopw [6, 8] (fun u i wr => ∃ (k : Nat) (U : Value), k ≤ m ∧ i = .int .i64 (k : Int) ∧ U = u ∧ Hid (wr.ownsRow w.heap.size 56 2 U (clsTo m (tabB m E) k).length (pc (clsTo m (tabB m E) k))) ∧ Hid (TabR w1.heap.size m (tabB m E) gs v wr) ∧ Hid (Below w.heap.size w wr)) (fun _ i _ => m - (intOf i).toNat)
    case atStart => exact ⟨0, _, Nat.zero_le _, rfl, rfl, HO2.out, HTb.out, HB2.out⟩
    case round =>
      obtain ⟨i, U, hi, rfl, rfl, hO, hTb, hb⟩ := hrel
      clear HO2 HTb HB2
      by_cases hlti : i < m
      · go_wp2
        obtain ⟨wo, rfl⟩ : ∃ wo : World, wo = wr := ⟨_, rfl⟩
        go_loopw [6, 9] (fun u jv wr => ∃ (j : Nat) (U2 : Value), j ≤ m ∧ jv = .int .i64 (j : Int) ∧ U2 = u ∧ Hid (wr.ownsRow w.heap.size 56 2 U2 (clsTo m (tabB m E) i ++ rowTo (tabB m E) i j).length (pc (clsTo m (tabB m E) i ++ rowTo (tabB m E) i j))) ∧ Hid (TabR w1.heap.size m (tabB m E) gs v wr) ∧ Hid (Below w.heap.size w wr)) (fun _ jv _ => m - (intOf jv).toNat)
        case atStart => exact ⟨0, _, Nat.zero_le _, rfl, rfl, by rw [show rowTo (tabB m E) i 0 = [] from rfl, List.append_nil]; exact hO, hTb, hb⟩
        case round =>
          clear hO hTb hb
          obtain ⟨j, U2, hj, rfl, rfl, hO, hTb, hb⟩ := hrel
          by_cases hltj : j < m
          · obtain ⟨g, cc, q, hV, hq, hcell, hBq, hqB, hgq, hrow⟩ := hTb.out.at_ (i := i) (by rw [HGL.out]; exact hlti)
            subst hV
            have hij := hrow j hltj
            have hi0 : (0 : Int) ≤ i := by omega
            have hi1 : (i : Int) < gs.length := by rw [HGL.out]; omega
            have hj0 : (0 : Int) ≤ j := by omega
            have hj1 : (j : Int) < m := by omega
            obtain ⟨v', w3, hrun, hO3, hb3, hk3⟩ := pushP (w0 := w) hO.out hb.out ((i : Int), (j : Int)) (cls_bd m (tabB m E) i j hlti hltj hm)
            have HRUN := Lib.hid hrun
            have HYES := Lib.hid (And.intro hO3 (And.intro (hTb.out.keepP hk3) hb3))
            have HRW := Lib.hid (rowTo_succ (tabB m E) i j)
            rw [List.append_assoc] at HYES
            clear hrun hO3 hb3 hk3 hrow hBq hq hgq
            cases hc : tabB m E i j
            · rw [hc] at hij HRW
              rw [if_neg (by decide)] at HRW
              clear hc HYES HRUN
              go_wp2
              go_roundw
              case rel => exact ⟨j + 1, _, by omega, by go_num, rfl, by rw [HRW.out]; exact hO, hTb, hb⟩
              case measure => simp [intOf]; omega
            · rw [hc] at hij HRW
              rw [if_pos rfl] at HRW
              clear hc hO hTb hb
              go_wp2_with (at_builtin; refine wpList_app rfl _ _ _ rfl _ _ _ rfl rfl HRUN.out ?_; clear HRUN)
              go_roundw
              case rel => exact ⟨j + 1, _, by omega, by go_num, rfl, by rw [HRW.out]; exact HYES.out.1, HYES.out.2.1, HYES.out.2.2⟩
              case measure => simp [intOf]; omega
          · obtain rfl : j = m := by omega
            go_wp2
            go_roundw
            case rel => exact ⟨i + 1, _, by omega, by go_num, rfl, by rw [clsTo_succ]; exact hO, hTb, hb⟩
            case measure => simp [intOf]; omega
      · obtain rfl : i = m := by omega
        go_wp2
        go_ret2
        exact ret_ownPr (p := closL i E) HRR.out hO.out hb.out _ rfl
set_option maxRecDepth 100000 in
set_option maxHeartbeats 4000000 in
theorem spec_PrecedenceReduction (A : Option Addr) (c : Nat) (n : Int) (E : List Pr) (w : World) (hr : Row w A (pc E)) (hl : E.length ≤ 10000000) :
    Calls Tryd.prog 20 #[.int .i64 n, .slice A E.length c] w (RetPB w (reduR n E)) := by
  have HRR : Hid (reduR n E = if precB n E then (reduL n.toNat E, true) else ([], false)) := rfl
  have hb0 := (Below.refl w.heap.size w).alloc (Nat.le_refl _) (.cells #[] 56)
  have h0 : (w.alloc (.cells #[] 56)).ownsRow w.heap.size 56 2 (.slice (some ⟨w.heap.size, 0, none⟩) 0 0) 0 (pc []) := World.ownsRow_made w #[] 0 (Nat.le_refl _) (by unfold maxLen; omega) rfl
  have H0 := Lib.hid (And.intro hb0 h0)
  have HG := Lib.hid (l4Good_any A c n E _ (hr.below hb0) hl)
  have HR := Lib.hid hr
  clear hb0 h0 hr
  go_enter Tryd.func20, Tryd.ntmps20
  go_wp2_with fail
  refine HG.out.mono ?_
  rintro e w1 ⟨rfl, hb1⟩
  cases hp : precB n E
  · rw [hp] at HRR
    have HB := Lib.hid (H0.out.1.trans (hb1.mono H0.out.1.size))
    have HO := Lib.hid (own_blw H0.out.2 hb1)
    clear hp hb1 H0 HG
    go_wp2
    go_ret2
    obtain ⟨A', c', hA, hs⟩ := seg_out HO.out
    injection hA with e1 _ e3
    subst e1 e3
    rw [show reduR n E = ([], false) from HRR.out]
    exact ⟨_, _, rfl, hs, HB.out⟩
  · rw [hp] at HRR
    obtain ⟨m, rfl, hm, hE⟩ := prec_nat hp
    rw [Int.toNat_natCast] at HRR
    have HB1 := Lib.hid (H0.out.1.trans (hb1.mono H0.out.1.size))
    have HO := Lib.hid (own_blw H0.out.2 hb1)
    have HTB := Lib.hid (l4Table_any A c m E w1 (HR.out.below HB1.out) hl hm hE)
    clear hp hb1 H0 HG hE
    go_wp2_with fail
    refine HTB.out.mono ?_
    rintro e w2 ⟨gs, v, rfl, hTb, hgl, hb2⟩
    have HB2 := Lib.hid (HB1.out.trans (hb2.mono HB1.out.size))
    have HO2 := Lib.hid (own_blw HO.out hb2)
    have HTb := Lib.hid (show TabR w1.heap.size m (tabB m E) gs v w2 from hTb)
    have HGL := Lib.hid hgl
    clear hTb hgl hb2 HB1 HO HTB
    go_wp2
    go_loopw [6, 8] (fun u i wr => ∃ (k : Nat) (U : Value), k ≤ m ∧ i = .int .i64 (k : Int) ∧ U = u ∧ Hid (wr.ownsRow w.heap.size 56 2 U (clsTo m (directB m E) k).length (pc (clsTo m (directB m E) k))) ∧ Hid (TabR w1.heap.size m (tabB m E) gs v wr) ∧ Hid (Below w.heap.size w wr)) (fun _ i _ => m - (intOf i).toNat)
    case atStart => exact ⟨0, _, Nat.zero_le _, rfl, rfl, HO2.out, HTb.out, HB2.out⟩
    case round =>
      obtain ⟨i, U, hi, rfl, rfl, hO, hTb, hb⟩ := hrel
      clear HO2 HTb HB2
      by_cases hlti : i < m
      · go_wp2
        obtain ⟨wo, rfl⟩ : ∃ wo : World, wo = wr := ⟨_, rfl⟩
        go_loopw [6, 9] (fun u jv wr => ∃ (j : Nat) (U2 : Value), j ≤ m ∧ jv = .int .i64 (j : Int) ∧ U2 = u ∧ Hid (wr.ownsRow w.heap.size 56 2 U2 (clsTo m (directB m E) i ++ rowTo (directB m E) i j).length (pc (clsTo m (directB m E) i ++ rowTo (directB m E) i j))) ∧ Hid (TabR w1.heap.size m (tabB m E) gs v wr) ∧ Hid (Below w.heap.size w wr)) (fun _ jv _ => m - (intOf jv).toNat)
        case atStart => exact ⟨0, _, Nat.zero_le _, rfl, rfl, by rw [show rowTo (directB m E) i 0 = [] from rfl, List.append_nil]; exact hO, hTb, hb⟩
        case round =>
          clear hO hTb hb
          obtain ⟨j, U2, hj, rfl, rfl, hO, hTb, hb⟩ := hrel
          by_cases hltj : j < m
          · obtain ⟨g, cc, q, hV, hq, hcell, hBq, hqB, hgq, hrow⟩ := hTb.out.at_ (i := i) (by rw [HGL.out]; exact hlti)
            subst hV
            have hij := hrow j hltj
            have hi0 : (0 : Int) ≤ i := by omega
            have hi1 : (i : Int) < gs.length := by rw [HGL.out]; omega
            have hj0 : (0 : Int) ≤ j := by omega
            have hj1 : (j : Int) < m := by omega
            obtain ⟨v', w3, hrun, hO3, hb3, hk3⟩ := pushP (w0 := w) hO.out hb.out ((i : Int), (j : Int)) (cls_bd m (directB m E) i j hlti hltj hm)
            have HRUN := Lib.hid hrun
            have HYES := Lib.hid (And.intro hO3 (And.intro (hTb.out.keepP hk3) hb3))
            have HRW := Lib.hid (rowTo_succ (directB m E) i j)
            rw [List.append_assoc] at HYES
            have HTH := Lib.hid (l4Through_any hTb.out HGL.out i j hlti hltj hm)
            have HD : Hid (directB m E i j = (tabB m E i j && !((List.range m).any fun k => tabB m E i k && tabB m E k j))) := rfl
            clear hrun hO3 hb3 hk3 hrow hBq hq hgq
            cases hc : tabB m E i j
            · rw [hc] at hij HD
              rw [show directB m E i j = false from HD.out, if_neg (by decide)] at HRW
              clear hc HYES HRUN HD HTH
              go_wp2
              go_roundw
              case rel => exact ⟨j + 1, _, by omega, by go_num, rfl, by rw [HRW.out]; exact hO, hTb, hb⟩
              case measure => simp [intOf]; omega
            · rw [hc] at hij HD
              generalize ((List.range m).any fun k => tabB m E i k && tabB m E k j) = th at *
              cases th
              · rw [show directB m E i j = true from HD.out, if_pos rfl] at HRW
                clear hc hO hTb hb HD
                go_wp2_with (first | (at_builtin; refine wpList_app rfl _ _ _ rfl _ _ _ rfl rfl HRUN.out ?_; clear HRUN) | (go_at_call 49; refine HTH.out.mono ?_; rintro e _ ⟨rfl, rfl⟩))
                go_roundw
                case rel => exact ⟨j + 1, _, by omega, by go_num, rfl, by rw [HRW.out]; exact HYES.out.1, HYES.out.2.1, HYES.out.2.2⟩
                case measure => simp [intOf]; omega
              · rw [show directB m E i j = false from HD.out, if_neg (by decide)] at HRW
                clear hc HYES HRUN HD
                go_wp2_with fail
                refine HTH.out.mono ?_
                rintro e _ ⟨rfl, rfl⟩
                go_wp2
                go_roundw
                case rel => exact ⟨j + 1, _, by omega, by go_num, rfl, by rw [HRW.out]; exact hO, hTb, hb⟩
                case measure => simp [intOf]; omega
          · obtain rfl : j = m := by omega
            go_wp2
            go_roundw
            case rel => exact ⟨i + 1, _, by omega, by go_num, rfl, by rw [clsTo_succ]; exact hO, hTb, hb⟩
            case measure => simp [intOf]; omega
      · obtain rfl : i = m := by omega
        go_wp2
        go_ret2
        exact ret_ownPr (p := reduL i E) HRR.out hO.out hb.out _ rfl
end Go.Proofs.YtapbgmmkkngdoaaDoor
