/- UnitGreedy: the program's. -/
import Derived.Test.YtpoibjmkbljblaaDoorUgS
import Derived.Test.YtpoibjmkbljblaaDoorUrI
import Derived.Test.YtpoibjmkbljblaaDoorJoR
import Derived.Deep.OwnRows
namespace Go.Proofs.YtpoibjmkbljblaaDoor
set_option linter.unusedSimpArgs false
set_option linter.unusedVariables false
set_option linter.unusedSectionVars false
open Go.RowKit
theorem row_blk {w : World} {g : Nat} {t : TypeId} {cs : Array Value} (h : BlockIs w g t cs) : Row w (some ⟨g, 0, none⟩) cs.toList := fun _ =>
  ⟨_, rfl, h.lt, fun j u hu => by rw [Addr.add_lit, Nat.zero_add, h.cell, ← Array.getElem?_toList]; exact hu⟩
/-- The ranks of the first jobs. -/
def rkTo (rk : Nat → Int) (n k : Nat) : List Int := (List.range n).map fun j => if j < k then rk j else 0
theorem rkTo_len (rk : Nat → Int) (n k : Nat) : (rkTo rk n k).length = n := by unfold rkTo; simp
theorem rkTo_get (rk : Nat → Int) (n k i : Nat) (h : i < (rkTo rk n k).length) : (rkTo rk n k)[i] = if i < k then rk i else 0 := by
  have e : (rkTo rk n k)[i] = ((List.range n).map fun j => if j < k then rk j else 0)[i]'(by simpa [rkTo] using h) := rfl
  rw [e, List.getElem_map, List.getElem_range]
theorem rkTo_zero (rk : Nat → Int) (n : Nat) : List.replicate n 0 = rkTo rk n 0 := by
  apply List.ext_getElem
  · rw [rkTo_len]; simp
  · intro i h1 h2
    rw [rkTo_get]
    simp
theorem rkTo_step (rk : Nat → Int) (n k : Nat) : (rkTo rk n k).set k (rk k) = rkTo rk n (k + 1) := by
  apply List.ext_getElem
  · rw [List.length_set, rkTo_len, rkTo_len]
  · intro i h1 h2
    rw [List.getElem_set, rkTo_get, rkTo_get]
    by_cases e : k = i
    · subst e; rw [if_pos rfl, if_pos (by omega)]
    · rw [if_neg e]
      by_cases h : i < k
      · rw [if_pos h, if_pos (by omega)]
      · rw [if_neg h, if_neg (by omega)]
theorem rkTo_all (rk : Nat → Int) (n : Nat) : rkTo rk n n = (List.range n).map rk := by
  unfold rkTo
  apply List.map_congr_left
  intro i hi
  rw [if_pos (List.mem_range.1 hi)]
section
variable (A : Option Addr) (c : Nat) (js : List J) (w : World) (hr : Row w A (jc js)) (hn : js.length ≤ 10000000) (hT : TzTab w)
include hr hn hT
set_option maxRecDepth 100000 in
set_option maxHeartbeats 4000000 in
theorem impl_UnitGreedy : Calls Tryd.prog 34 #[.slice A js.length c] w (RetIB w (greR js)) := by
  have HT := Lib.hid hT
  have HROW := Lib.hid hr
  have HPL := Lib.hid (plainListOf_any A c js w hr (by omega))
  have hmk := run_make_row' (P := Tryd.prog) 23 3 (.int .i64 0) 8 Tryd.underlying23 infoI rfl .i64 .i64 js.length (by omega) (by omega)
  clear hT hr
  go_enter Tryd.func34, Tryd.ntmps34
  go_wp2_with fail
  refine HPL.out.mono ?_
  rintro e1 w1 ⟨hb1, ⟨hp, rfl⟩ | ⟨hp, rfl⟩⟩
  · have HB1 := Lib.hid hb1
    have HUN := Lib.hid (areUnits_any A c js w1 (HROW.out.below hb1) (by omega))
    clear HPL hb1
    cases hu : unitB js
    · have HR : Hid (greR js = ([], false)) := by show _ = _; unfold greR; rw [hu]; rfl
      rw [hu] at HUN
      clear hu hp hmk
      go_wp2_with fail
      refine HUN.out.mono ?_
      rintro e1 w2 ⟨rfl, hb2⟩
      have HB2 := Lib.hid (HB1.out.trans (hb2.mono HB1.out.size))
      clear hb2 HUN HB1
      go_wp2
      go_ret2
      exact ret_empty HR.out HB2.out _ rfl
    · have HR : Hid (greR js = (natI (memB (tkL js (joL (wtF js) (List.range js.length)))), true)) := by show _ = _; unfold greR; rw [hu, hp]; rfl
      rw [hu] at HUN
      obtain ⟨h8, hok⟩ := good_out (plain_good hp)
      have h0 := plain_zero hp
      have HFA : Hid (∀ (W : World) (g : Nat), Below w.heap.size w W → BlockIs W g 3 (ic (rkTo (wtF js) js.length js.length)).toArray → Calls Tryd.prog 76 #[.slice (some ⟨g, 0, none⟩) js.length js.length] W fun e w' => ∃ v, e = .returned v ∧ w'.ownsRow W.heap.size 3 1 v js.length (ic (natI (joL (wtF js) (List.range js.length)))) ∧ Below W.heap.size W w') := fun W g hb hB =>
        fallingOrder_any (wtF js) (fun i => by have := wtF_bd hok i; omega) _ _ _ W h8 (by have h := row_blk hB; rw [List.toList_toArray, rkTo_all] at h; exact h) (HT.out.below hb)
      have hpm := joL_perm (wtF js) (List.range js.length)
      have hin : ∀ x ∈ joL (wtF js) (List.range js.length), x < js.length := fun x hx => List.mem_range.1 (hpm.mem_iff.1 hx)
      have hjl : (joL (wtF js) (List.range js.length)).length = js.length := by rw [joL_len, List.length_range]
      have HTK : Hid (∀ (B : Option Addr) (d : Nat) W, Below w.heap.size w W → Row W B (ic (natI (joL (wtF js) (List.range js.length)))) → Calls Tryd.prog 70 #[.slice A js.length c, .slice B js.length d] W fun e w' => e = .returned (.int .u64 (tkL js (joL (wtF js) (List.range js.length)) : Int)) ∧ Below W.heap.size W w') := fun B d W hb hq => by
        have h := taken_any A B c d js (joL (wtF js) (List.range js.length)) W (HROW.out.below hb) hq hin (by omega) hok h8 h0 (HT.out.below hb)
        rw [hjl] at h
        exact h
      have ht := (tkL_ok (js := js) h8 hin).1
      have HLI := Lib.hid (fun W (h : Below w.heap.size w W) => list_any (tkL js (joL (wtF js) (List.range js.length))) W ht (HT.out.below h))
      have HWT : Hid (∀ i (h : i < js.length), js[i].w = wtF js i) := fun i h => by unfold wtF; rw [getD_at js j0 h]
      clear hok h0 hp hu hpm hin hjl ht
      generalize tkL js (joL (wtF js) (List.range js.length)) = tk at *
      generalize joL (wtF js) (List.range js.length) = ord at *
      generalize wtF js = rk at *
      go_wp2_with fail
      refine HUN.out.mono ?_
      rintro e1 w2 ⟨rfl, hb2⟩
      have HB2 := Lib.hid (HB1.out.trans (hb2.mono HB1.out.size))
      have HBM := Lib.hid (And.intro (BlockIs.new w2 3 (madeCells #[.int .i64 0] js.length)) (HB2.out.alloc HB2.out.size (.cells (madeCells #[.int .i64 0] js.length) 3)))
      have hws := HB2.out.size
      clear hb2 HUN HB1
      go_wp2
      go_loopw [27] (fun iv wr => ∃ k : Nat, k ≤ js.length ∧ iv = .int .i64 (k : Int) ∧ Hid (BlockIs wr w2.heap.size 3 (ic (rkTo rk js.length k)).toArray ∧ Below w.heap.size w wr ∧ w2.heap.size < wr.heap.size)) (fun iv _ => js.length - (intOf iv).toNat)
      case atStart => exact ⟨0, Nat.zero_le _, rfl, Lib.hid ⟨by rw [← rkTo_zero, ← ic_made]; exact HBM.out.1, HBM.out.2, by simp⟩⟩
      case round =>
        obtain ⟨k, hk, rfl, HI⟩ := hrel
        clear hmk HBM
        by_cases hlt : k < js.length
        · obtain ⟨ad, rfl, hadb, c0, c1, c2, c3⟩ := (HROW.out.below HI.out.2.1).job hlt
          have HWK := Lib.hid (HWT.out k hlt)
          have hi0 : (0 : Int) ≤ k := by omega
          have hi1 : (k : Int) < js.length := by omega
          have HA := Lib.hid (And.intro (HI.out.1.below ((Below.refl _ wr).alloc (Nat.le_refl _) (.cells #[.int .i64 js[k].t, .int .i64 js[k].w, .int .i64 js[k].r, .int .i64 js[k].d] 58))) (HI.out.2.1.alloc HI.out.2.1.size (.cells #[.int .i64 js[k].t, .int .i64 js[k].w, .int .i64 js[k].r, .int .i64 js[k].d] 58)))
          have f0 := HA.out.1.frozen k
          have d0 := HA.out.1.cell k
          have HS := Lib.hid (HI.out.1.set k (.int .i64 (rk k)))
          rw [ic_set, rkTo_step] at HS
          have hg : ∃ u, (ic (rkTo rk js.length k)).toArray[k]? = some u := ⟨_, by rw [List.getElem?_toArray]; exact List.getElem?_eq_getElem (by rw [ic_len, rkTo_len]; exact hlt)⟩
          obtain ⟨u, hu⟩ := hg
          rw [hu] at d0
          clear hu HFA HTK HLI
          have hzz : w2.heap.size < wr.heap.size := HI.out.2.2
          rw [← HWK.out] at HS
          generalize js[k] = j at *
          go_wp2
          have HBS := Lib.hid (HI.out.2.1.setCell (p := ⟨w2.heap.size, k, none⟩) hws (.int .i64 j.w))
          have hsz2 : (wr.setCell ⟨w2.heap.size, k, none⟩ (.int .i64 j.w)).heap.size = wr.heap.size := by simp
          go_roundw
          case rel => exact ⟨k + 1, by omega, by go_num, Lib.hid ⟨HS.out.below ((Below.refl _ _).alloc (Nat.le_refl _) _), HBS.out.alloc HBS.out.size _, by rw [World.size_alloc, hsz2]; omega⟩⟩
          case measure => simp [intOf]; omega
        · obtain rfl : k = js.length := by omega
          have HC := Lib.hid (HFA.out wr w2.heap.size HI.out.2.1 HI.out.1)
          have HB3 := Lib.hid HI.out.2.1
          clear HFA HWT HI
          go_wp2_with fail
          refine HC.out.mono ?_
          rintro e w4 ⟨v, rfl, hown, hb4⟩
          obtain ⟨B, d, rfl, _, hrow⟩ := own_slice hown
          have HB4 := Lib.hid (HB3.out.trans (hb4.mono HB3.out.size))
          have HC2 := Lib.hid (HTK.out B d w4 HB4.out hrow)
          clear hown hb4 hrow HC HB3 HTK
          go_wp2_with fail
          refine HC2.out.mono ?_
          rintro e w5 ⟨rfl, hb5⟩
          have HB5 := Lib.hid (HB4.out.trans (hb5.mono HB4.out.size))
          have HC3 := Lib.hid (HLI.out w5 HB5.out)
          clear hb5 HC2 HB4 HLI
          go_wp2_with fail
          refine HC3.out.mono ?_
          rintro e w6 ⟨v, rfl, hown, hb6⟩
          have HX := Lib.hid (And.intro (own_lower hown HB5.out.size) (HB5.out.trans (hb6.mono HB5.out.size)))
          clear hown hb6 HC3
          go_wp2
          go_ret2
          exact ret_ownG HR.out rfl HX.out.1 HX.out.2 _ rfl
  · have HR : Hid (greR js = ([], false)) := by show _ = _; unfold greR; rw [hp, Bool.and_false]; rfl
    clear HPL hp hmk
    go_wp2
    go_ret2
    exact ret_empty HR.out hb1 _ rfl
end
end Go.Proofs.YtpoibjmkbljblaaDoor
