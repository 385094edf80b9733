/- The pairs of a precedence, the closure: the program's. -/
import Derived.Test.YtapbgmmkkngdoaaDoorClS
namespace Go.Proofs.YtapbgmmkkngdoaaDoor
open Go.RowKit
set_option maxRecDepth 100000 in
set_option maxHeartbeats 1000000 in
theorem comesBefore_any (n : Int) (B : Nat → Nat) (hB8 : ∀ j, j < 8 → B j < 256) (i j : Nat) (hi : i < 8) (hj : j < 8) (w : World) :
    Calls Tryd.prog 77 #[.agg (precC n B), .int .i64 (i : Int), .int .i64 (j : Int)] w fun e w' => e = .returned (.bool ((B j).testBit i)) ∧ Below w.heap.size w w' := by
  have hb := (Below.refl w.heap.size w).alloc (Nat.le_refl _) (.cells (precC n B) 62)
  have hc := ((BlockIs.new w 62 (precC n B)).cell (1 + j)).trans (precC_at n B hj)
  have HH := Lib.hid (has_any (B j) i (hB8 j hj) hi)
  have HB := Lib.hid hb
  have hj0 : (0 : Int) ≤ j := by omega
  have hj1 : (j : Int) < 8 := by omega
  clear hb
  go_enter Tryd.func77, Tryd.ntmps77
  go_wp2_with fail
  refine (HH.out _).mono ?_
  rintro e _ ⟨rfl, rfl⟩
  go_wp2
  go_ret
  exact ⟨rfl, HB.out⟩
def bitT (B : Nat → Nat) (i j : Nat) : Bool := (B j).testBit i
theorem clsTo_congr {n : Nat} {T U : Nat → Nat → Bool} (h : ∀ i j, i < n → j < n → T i j = U i j) : ∀ k, k ≤ n → clsTo n T k = clsTo n U k
  | 0, _ => rfl
  | k + 1, hk => by
    rw [clsTo_succ, clsTo_succ, clsTo_congr h k (by omega)]
    congr 1
    have : ∀ m, m ≤ n → rowTo T k m = rowTo U k m := by
      intro m
      induction m with
      | zero => intro _; rfl
      | succ m ih =>
        intro hm
        rw [rowTo_succ, rowTo_succ, ih (by omega), h k m (by omega) (by omega)]
    exact this n (Nat.le_refl _)
theorem bitT_tab (m : Nat) (E : List Ed) : clsTo m (bitT (befN m (tabB m E))) m = closL m E :=
  clsTo_congr (fun i j hi _ => by unfold bitT; rw [bef_bit, decide_eq_true hi, Bool.true_and]) m (Nat.le_refl _)
set_option maxRecDepth 100000 in
set_option maxHeartbeats 4000000 in
theorem pairs_any (m : Nat) (hm : m ≤ 8) (B : Nat → Nat) (hB8 : ∀ j, j < 8 → B j < 256) (w : World) :
    Calls Tryd.prog 48 #[.agg (precC (m : Int) B)] w fun e w' => ∃ v, e = .returned v ∧ w'.ownsRow w.heap.size 56 2 v (clsTo m (bitT B) m).length (pc (clsTo m (bitT B) m)) ∧ Below w.heap.size w w' := by
  have hb1 := (Below.refl w.heap.size w).alloc (Nat.le_refl _) (.cells (precC (m : Int) B) 62)
  have hB1 := BlockIs.new w 62 (precC (m : Int) B)
  have hb2 := hb1.alloc hb1.size (.cells #[] 56)
  have hB2 := hB1.below ((Below.refl _ _).alloc (Nat.le_refl _) (.cells #[] 56))
  have h0 : ((w.alloc (.cells (precC (m : Int) B) 62)).alloc (.cells #[] 56)).ownsRow w.heap.size 56 2 (.slice (some ⟨(w.alloc (.cells (precC (m : Int) B) 62)).heap.size, 0, none⟩) 0 0) 0 (pc []) := World.ownsRow_made _ #[] 0 hb1.size (by unfold maxLen; omega) rfl
  rw [World.size_alloc] at h0
  have H0 := Lib.hid (And.intro h0 (And.intro hB2 hb2))
  have hc0 := hB1.cell 0
  clear hb1 hB1 hb2 hB2 h0 hc0
  have ep : (precC (m : Int) B) = #[.int .i64 m, .int .u64 (B 0 : Int), .int .u64 (B 1 : Int), .int .u64 (B 2 : Int), .int .u64 (B 3 : Int), .int .u64 (B 4 : Int), .int .u64 (B 5 : Int), .int .u64 (B 6 : Int), .int .u64 (B 7 : Int)] := rfl
  rw [ep]
  clear ep
  go_enter Tryd.func48, Tryd.ntmps48
  go_wp2
  go_loopw [3, 9] (fun u i wr => ∃ (k : Nat) (U : Value), k ≤ m ∧ i = .int .i64 (k : Int) ∧ U = u ∧ Hid (wr.ownsRow w.heap.size 56 2 U (clsTo m (bitT B) k).length (pc (clsTo m (bitT B) k)) ∧ BlockIs wr w.heap.size 62 (precC (m : Int) B) ∧ Below w.heap.size w wr)) (fun _ i _ => m - (intOf i).toNat)
  case atStart => exact ⟨0, _, Nat.zero_le _, rfl, rfl, H0.out⟩
  case round =>
    obtain ⟨i, U, hi, rfl, rfl, HO⟩ := hrel
    clear H0
    by_cases hlti : i < m
    · have hc0 := (HO.out.2.1.cell 0).trans (precC_0 (m : Int) B)
      go_wp2
      clear hc0
      obtain ⟨wo, rfl⟩ : ∃ wo : World, wo = wr := ⟨_, rfl⟩
      go_loopw [3, 14] (fun u jv wr => ∃ (j : Nat) (U2 : Value), j ≤ m ∧ jv = .int .i64 (j : Int) ∧ U2 = u ∧ Hid (wr.ownsRow w.heap.size 56 2 U2 (clsTo m (bitT B) i ++ rowTo (bitT B) i j).length (pc (clsTo m (bitT B) i ++ rowTo (bitT B) i j)) ∧ BlockIs wr w.heap.size 62 (precC (m : Int) B) ∧ Below w.heap.size w wr)) (fun _ jv _ => m - (intOf jv).toNat)
      case atStart => exact ⟨0, _, Nat.zero_le _, rfl, rfl, by rw [show rowTo (bitT B) i 0 = [] from rfl, List.append_nil]; exact HO.out⟩
      case round =>
        clear HO
        obtain ⟨j, U2, hj, rfl, rfl, HO⟩ := hrel
        by_cases hltj : j < m
        · have hBk := HO.out.2.1
          have c0 := hBk.cell 0
          have c1 := hBk.cell 1
          have c2 := hBk.cell 2
          have c3 := hBk.cell 3
          have c4 := hBk.cell 4
          have c5 := hBk.cell 5
          have c6 := hBk.cell 6
          have c7 := hBk.cell 7
          have c8 := hBk.cell 8
          simp only [precC, List.getElem?_toArray, List.getElem?_cons_zero, List.getElem?_cons_succ] at c0 c1 c2 c3 c4 c5 c6 c7 c8
          have HCB := Lib.hid (comesBefore_any (m : Int) B hB8 i j (by omega) (by omega) wr)
          have HRW := Lib.hid (rowTo_succ (bitT B) i j)
          have HBT : Hid (bitT B i j = (B j).testBit i) := rfl
          clear hBk
          go_wp2_with fail
          refine HCB.out.mono ?_
          rintro e w5 ⟨rfl, hb5⟩
          clear c0 c1 c2 c3 c4 c5 c6 c7 c8 HCB
          have HO5 := Lib.hid (And.intro (own_blw HO.out.1 hb5) (And.intro (HO.out.2.1.below hb5) (HO.out.2.2.trans (hb5.mono HO.out.2.2.size))))
          clear HO hb5
          cases hc : (B j).testBit i
          · rw [show bitT B i j = false from HBT.out.trans hc, if_neg (by decide)] at HRW
            clear hc
            go_wp2
            go_roundw
            case rel => exact ⟨j + 1, _, by omega, by go_num, rfl, by rw [HRW.out]; exact HO5.out⟩
            case measure => simp [intOf]; omega
          · rw [show bitT B i j = true from HBT.out.trans hc, if_pos rfl] at HRW
            obtain ⟨v', w3, hrun, hO3, hb3, hk3⟩ := pushP (w0 := w) HO5.out.1 HO5.out.2.2 ((i : Int), (j : Int)) (cls_bd m (bitT B) i j hlti hltj hm)
            have HRUN := Lib.hid hrun
            have HYES := Lib.hid (And.intro hO3 (And.intro (hk3 _ _ _ (by decide) HO5.out.2.1) hb3))
            rw [List.append_assoc] at HYES
            clear hc hrun hO3 hb3 hk3 HO5
            go_wp2_with (at_builtin; refine wpList_app rfl _ _ _ rfl _ _ _ rfl rfl HRUN.out ?_; clear HRUN)
            go_roundw
            case rel => exact ⟨j + 1, _, by omega, by go_num, rfl, by rw [HRW.out]; exact HYES.out⟩
            case measure => simp [intOf]; omega
        · obtain rfl : j = m := by omega
          go_wp2
          go_roundw
          case rel => exact ⟨i + 1, _, by omega, by go_num, rfl, by rw [clsTo_succ]; exact HO.out⟩
          case measure => simp [intOf]; omega
    · obtain rfl : i = m := by omega
      go_wp2
      go_ret
      exact ⟨U, rfl, HO.out.1, HO.out.2.2⟩
set_option maxRecDepth 100000 in
set_option maxHeartbeats 1000000 in
theorem impl_PrecedenceClosure (A : Option Addr) (c : Nat) (n : Int) (E : List Pr) (w : World) (hr : Row w A (pc E)) (hl : E.length ≤ 10000000) (hT : TzTab w) :
    Calls Tryd.prog 17 #[.int .i64 n, .slice A E.length c] w (RetPB w (closR n E)) := by
  have HRR : Hid (closR n E = if precB n E then (closL n.toNat E, true) else ([], false)) := rfl
  have H := Lib.hid (precedenceOf_any A c n E w hr hl hT)
  go_enter Tryd.func17, Tryd.ntmps17
  go_wp2_with fail
  refine H.out.mono ?_
  rintro e w1 ⟨hb, ⟨hp, m, rfl, hm, _, _, rfl⟩ | ⟨hp, rfl⟩⟩
  · rw [hp, Int.toNat_natCast] at HRR
    have HP := Lib.hid (pairs_any m hm (befN m (tabB m E)) (fun j _ => bef_lt hm _ j) (w1.alloc (.cells (precC (m : Int) (befN m (tabB m E))) 62)))
    rw [bitT_tab] at HP
    have HB := Lib.hid (hb.alloc hb.size (.cells (precC (m : Int) (befN m (tabB m E))) 62))
    clear hp hb
    unfold precC
    unfold precC at HP HB
    go_wp2_with fail
    refine HP.out.mono ?_
    rintro e w2 ⟨v, rfl, ho, hb2⟩
    have HO := Lib.hid (And.intro (own_low ho HB.out.size) (HB.out.trans (hb2.mono HB.out.size)))
    clear ho hb2 HB HP
    go_wp2
    go_ret2
    exact ret_ownPr (p := closL m E) HRR.out HO.out.1 HO.out.2 _ rfl
  · rw [hp] at HRR
    have HB := Lib.hid hb
    clear hp hb
    unfold precZ
    go_wp2
    go_ret2
    refine ret_emptyP HRR.out (HB.out.alloc HB.out.size _) _ ?_
    rw [World.size_alloc]
    rfl
end Go.Proofs.YtapbgmmkkngdoaaDoor
