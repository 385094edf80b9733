/- JohnsonOrder: the model's and the program's. -/
import Derived.Test.YtdhndoccdfbefaaDoorJoN
import Derived.Test.YtdhndoccdfbefaaDoorJoR
import Derived.Test.YtdhndoccdfbefaaDoorEndsO
import Derived.Test.YtdhndoccdfbefaaDoorSegH
namespace Go.Proofs.YtdhndoccdfbefaaDoor
open Go.RowKit
set_option maxHeartbeats 1000000 in
theorem l8Pair_any (A : Option Addr) (c : Nat) (xss : List (List Int)) (w : World) (hr : RowSS w A (xss.map ic)) (hn : xss.length ≤ 10000000 ∧ totL xss ≤ 10000000) :
    Calls Tryd.prog 14 #[.slice A xss.length c] w fun e w' => e = .returned (.bool (onB xss 2)) ∧ ∃ q, w' = w.drewN q := by
  have HI := Lib.hid (l8Good_any A c xss w hr hn)
  have hMb := mOf_le xss
  cases hs : shopB xss
  · have HO := Lib.hid (on_no (m := 2) hs)
    rw [hs] at HI
    clear hr hs
    go_enter Tryd.func14, Tryd.ntmps14
    go_wp2_with fail
    refine HI.out.mono ?_
    rintro e _ ⟨rfl, q, rfl⟩
    go_wp2
    go_ret
    exact ⟨by rw [HO.out]; rfl, _, rfl⟩
  · rw [hs] at HI
    by_cases h0 : xss.length = 0
    · have HO := Lib.hid (on_shop (m := 2) hs (.inl h0))
      have hb0 : ((xss.length : Int) == 0) = true := by rw [h0]; rfl
      clear hr hs h0
      go_enter Tryd.func14, Tryd.ntmps14
      go_wp2_with fail
      refine HI.out.mono ?_
      rintro e _ ⟨rfl, q, rfl⟩
      go_wp2
      go_ret
      exact ⟨by rw [HO.out]; rfl, _, rfl⟩
    · obtain ⟨ad, B, d, rfl, hc⟩ := row0 hr h0
      have hb0 : ((xss.length : Int) == 0) = false := by rw [beq_eq_false_iff_ne]; omega
      have hp : (0 : Int) < xss.length := by omega
      have HO : Hid (onB xss 2 = ((mOf xss : Int) == 2)) := by
        by_cases he : mOf xss = 2
        · show _ = _; rw [on_shop hs (.inr he), he]; rfl
        · show _ = _; rw [on_not h0 he, eq_comm, beq_eq_false_iff_ne]; omega
      generalize mOf xss = Q at *
      clear hr hs h0
      go_enter Tryd.func14, Tryd.ntmps14
      go_wp2_with fail
      refine HI.out.mono ?_
      rintro e _ ⟨rfl, q, rfl⟩
      have hc' : (w.drewN q).cell? ad = some (.slice B Q d) := hc
      go_wp2
      go_ret
      exact ⟨by rw [HO.out]; rfl, _, rfl⟩
theorem ret_ownD {w w' : World} {r : List Int × Bool} {p : List Nat} {v : Value} {n : Nat} {b : Bool} (hr : r = (natI p, b)) (hn : p.length = n) (ho : w'.ownsRow w.heap.size 3 1 v n (ic (natI p))) (hb : Below w.heap.size w w') (e : Ending) (he : e = .returned (.tuple #[v, .bool b])) : RetIB w r e w' := by
  subst hr hn
  obtain ⟨A, c, rfl, hs⟩ := seg_out ho
  subst he
  refine ⟨A, c, by rw [List.length_map], ?_, hb⟩
  rw [List.length_map]
  exact hs
def johnR (xss : List (List Int)) : List Int × Bool := if onB xss 2 then (natI (joL (rkJ xss) (List.range xss.length)), true) else ([], false)
theorem johnR_len (xss : List (List Int)) : (johnR xss).1.length ≤ 8 := by
  unfold johnR
  split
  · rename_i h
    have h8 := (onB_out h).1.n8
    show (natI _).length ≤ 8
    unfold natI
    rw [List.length_map, joL_len, List.length_range]; exact h8
  · exact Nat.zero_le _
theorem row_blk {w : World} {g : Nat} {t : TypeId} {cs : Array Value} (h : BlockIs w g t cs) : Row w (some ⟨g, 0, none⟩) cs.toList := fun _ =>
  ⟨_, rfl, h.lt, fun j u hu => by rw [Addr.add_lit, Nat.zero_add, h.cell, ← Array.getElem?_toList]; exact hu⟩
/-- The ranks of the first jobs. -/
def rkTo (rk : Nat → Int) (n k : Nat) : List Int := (List.range n).map fun j => if j < k then rk j else 0
theorem rkTo_len (rk : Nat → Int) (n k : Nat) : (rkTo rk n k).length = n := by unfold rkTo; simp
theorem rkTo_get (rk : Nat → Int) (n k i : Nat) (h : i < (rkTo rk n k).length) : (rkTo rk n k)[i] = if i < k then rk i else 0 := by
  have e : (rkTo rk n k)[i] = ((List.range n).map fun j => if j < k then rk j else 0)[i]'(by simpa [rkTo] using h) := rfl
  rw [e, List.getElem_map, List.getElem_range]
theorem rkTo_zero (rk : Nat → Int) (n : Nat) : List.replicate n 0 = rkTo rk n 0 := by
  apply List.ext_getElem
  · rw [rkTo_len]; simp
  · intro i h1 h2
    rw [rkTo_get]
    simp
theorem rkTo_step (rk : Nat → Int) (n k : Nat) : (rkTo rk n k).set k (rk k) = rkTo rk n (k + 1) := by
  apply List.ext_getElem
  · rw [List.length_set, rkTo_len, rkTo_len]
  · intro i h1 h2
    rw [List.getElem_set, rkTo_get, rkTo_get]
    by_cases e : k = i
    · subst e; rw [if_pos rfl, if_pos (by omega)]
    · rw [if_neg e]
      by_cases h : i < k
      · rw [if_pos h, if_pos (by omega)]
      · rw [if_neg h, if_neg (by omega)]
theorem rkTo_all (rk : Nat → Int) (n : Nat) : rkTo rk n n = (List.range n).map rk := by
  unfold rkTo
  apply List.map_congr_left
  intro i hi
  rw [if_pos (List.mem_range.1 hi)]
set_option maxRecDepth 100000 in
set_option maxHeartbeats 1000000 in
theorem spec_JohnsonOrder (A : Option Addr) (c : Nat) (xss : List (List Int)) (w : World) (hr : RowSS w A (xss.map ic)) (hn : xss.length ≤ 10000000 ∧ totL xss ≤ 10000000) :
    Calls Tryd.prog 5 #[.slice A xss.length c] w (RetIB w (johnR xss)) := by
  cases hon : onB xss 2
  · have HR : Hid (johnR xss = ([], false)) := by show _ = _; unfold johnR; rw [hon]; rfl
    have HI := Lib.hid (hon ▸ l8Pair_any A c xss w hr hn)
    clear hr hon
    go_enter Tryd.func5, Tryd.ntmps5
    go_wp2_with fail
    refine HI.out.mono ?_
    rintro e _ ⟨rfl, q0, rfl⟩
    go_wp2
    go_ret2
    exact ret_empty HR.out (below_drewN (Below.refl _ _) _) _ rfl
  · have HR : Hid (johnR xss = (natI (joL (rkJ xss) (List.range xss.length)), true)) := by show _ = _; unfold johnR; rw [hon]; rfl
    have HI := Lib.hid (hon ▸ l8Pair_any A c xss w hr hn)
    obtain ⟨hs, hm⟩ := onB_out hon
    have HJ := Lib.hid (fun q => l8Johnson_any A c xss (w.drewN q) (hr.below (below_drewN (Below.refl _ _) _)) hs hm)
    clear hr hon hs hm
    go_enter Tryd.func5, Tryd.ntmps5
    go_wp2_with fail
    refine HI.out.mono ?_
    rintro e _ ⟨rfl, q0, rfl⟩
    go_wp2_with fail
    refine (HJ.out q0).mono ?_
    rintro e w1 ⟨v, rfl, hown, hb⟩
    have HX := Lib.hid (And.intro hown ((below_drewN (Below.refl w.heap.size w) q0).trans hb))
    clear hown hb
    go_wp2
    go_ret2
    exact ret_ownD (w := w) HR.out (by rw [joL_len, List.length_range]) HX.out.1 HX.out.2 _ rfl
set_option maxRecDepth 100000 in
set_option maxHeartbeats 2000000 in
theorem impl_JohnsonOrder (A : Option Addr) (c : Nat) (xss : List (List Int)) (w : World) (hr : RowSS w A (xss.map ic)) (hn : xss.length ≤ 10000000 ∧ totL xss ≤ 10000000) (hT : TzTab w) :
    Calls Tryd.prog 7 #[.slice A xss.length c] w (RetIB w (johnR xss)) := by
  cases hon : onB xss 2
  · have HR : Hid (johnR xss = ([], false)) := by show _ = _; unfold johnR; rw [hon]; rfl
    have HI := Lib.hid (hon ▸ shopOn_any A c xss 2 w hr hn)
    clear hr hon hT
    go_enter Tryd.func7, Tryd.ntmps7
    go_wp2_with fail
    refine HI.out.mono ?_
    rintro e _ ⟨rfl, q0, rfl⟩
    go_wp2
    go_ret2
    exact ret_empty HR.out (below_drewN (Below.refl _ _) _) _ rfl
  · have HR : Hid (johnR xss = (natI (joL (rkJ xss) (List.range xss.length)), true)) := by show _ = _; unfold johnR; rw [hon]; rfl
    have HI := Lib.hid (hon ▸ shopOn_any A c xss 2 w hr hn)
    obtain ⟨hs, hm⟩ := onB_out hon
    have h8 := hs.n8
    have HROW := Lib.hid (fun W (hb : Below w.heap.size w W) i (hi : i < xss.length) => hs.row (hr.below hb) hi)
    have HRK := Lib.hid (fun i d bx w' hx => johnsonRank_any xss i d bx w' hs hx)
    have HFA : Hid (∀ (w1 : World) (g : Nat), Below w.heap.size w w1 → BlockIs w1 g 3 (ic (rkTo (rkJ xss) xss.length xss.length)).toArray → Calls Tryd.prog 19 #[.slice (some ⟨g, 0, none⟩) xss.length xss.length] w1 fun e w' => ∃ v, e = .returned v ∧ w'.ownsRow w1.heap.size 3 1 v xss.length (ic (natI (joL (rkJ xss) (List.range xss.length)))) ∧ Below w1.heap.size w1 w') := fun w1 g hb hB =>
      fallingOrder_any (rkJ xss) (rkJ_bd hs) _ _ _ w1 h8 (by have h := row_blk hB; rw [List.toList_toArray, rkTo_all] at h; exact h) (hT.below hb)
    have HM : Hid (0 < xss.length → mOf xss = 2) := fun h => by rcases hm with e | e <;> omega
    have hmk := run_make_row' (P := Tryd.prog) 24 3 (.int .i64 0) 8 Tryd.underlying24 infoI rfl .i64 .i64 xss.length (by omega) (by omega)
    clear hr hon hs hm hT
    go_enter Tryd.func7, Tryd.ntmps7
    go_wp2_with fail
    refine HI.out.mono ?_
    rintro e _ ⟨rfl, q0, rfl⟩
    clear HI
    go_wp2
    go_loopw [22] (fun i wr => ∃ k : Nat, k ≤ xss.length ∧ i = .int .i64 (k : Int) ∧ Hid (BlockIs wr w.heap.size 3 (ic (rkTo (rkJ xss) xss.length k)).toArray) ∧ Hid (Below w.heap.size w wr)) (fun i _ => xss.length - (intOf i).toNat)
    case atStart => exact ⟨0, Nat.zero_le _, rfl, (by show BlockIs _ _ _ _; rw [← rkTo_zero, ← ic_made]; exact BlockIs.new _ _ _), (below_drewN (Below.refl _ _) _).alloc (Nat.le_refl _) _⟩
    case round =>
      obtain ⟨k, hk, rfl, h0, hb⟩ := hrel
      clear hmk
      by_cases hlt : k < xss.length
      · obtain ⟨ad, bx, d, rfl, hc, hx⟩ := HROW.out wr hb.out k hlt
        have hm2 := HM.out (by omega)
        rw [hm2] at hc hx
        have HC := Lib.hid (HRK.out k d bx wr hx)
        have hi0 : (0 : Int) ≤ k := by omega
        have hi1 : (k : Int) < xss.length := by omega
        have f0 := h0.out.frozen k
        have c0 := h0.out.cell k
        have HS := Lib.hid (h0.out.set k (.int .i64 (rkJ xss k)))
        rw [ic_set, rkTo_step] at HS
        have hg : ∃ u, (ic (rkTo (rkJ xss) xss.length k)).toArray[k]? = some u := ⟨_, by rw [List.getElem?_toArray]; exact List.getElem?_eq_getElem (by rw [ic_len, rkTo_len]; exact hlt)⟩
        obtain ⟨u, hu⟩ := hg
        rw [hu] at c0
        clear hu hx hm2 HRK HROW
        generalize rkJ xss k = rv at *
        go_wp2_with fail
        refine HC.out.mono ?_
        rintro e _ ⟨rfl, q1, rfl⟩
        go_wp2
        go_roundw
        case rel => exact ⟨k + 1, by omega, by go_num, HS.out, (hb.out.trans ((below_drewN (Below.refl _ _) q1).mono hb.out.size)).setCell (p := ⟨w.heap.size, k, none⟩) (Nat.le_refl _) _⟩
        case measure => simp [intOf]; omega
      · obtain rfl : k = xss.length := by omega
        have HC := Lib.hid (HFA.out wr w.heap.size hb.out h0.out)
        clear HFA HRK HROW
        go_wp2_with fail
        refine HC.out.mono ?_
        rintro e w1 ⟨v, rfl, hown, hb1⟩
        have HX := Lib.hid (And.intro (own_lower hown hb.out.size) (hb.out.trans (hb1.mono hb.out.size)))
        clear hown hb1
        go_wp2
        go_ret2
        exact ret_ownD HR.out (by rw [joL_len, List.length_range]) HX.out.1 HX.out.2 _ rfl
end Go.Proofs.YtdhndoccdfbefaaDoor
