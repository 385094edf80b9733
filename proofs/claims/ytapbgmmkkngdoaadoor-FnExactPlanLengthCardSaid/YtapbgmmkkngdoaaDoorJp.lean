/- Texts joined: TlO RegA TkI Tot TkE TkJ RetBB TkO ArgT ArgP PrT. -/
import Derived.Test.YtapbgmmkkngdoaaDoorJpa
import Derived.Test.YtapbgmmkkngdoaaDoorRegY
import Derived.Test.YtapbgmmkkngdoaaDoorBlo
import Derived.Test.YtapbgmmkkngdoaaDoorMbr
import Derived.Test.YtapbgmmkkngdoaaDoorRegX
import Derived.Shelf.RegionOpen
import Derived.Test.YtapbgmmkkngdoaaDoorMem
import Derived.Test.YtapbgmmkkngdoaaDoorArgJ
import Derived.Test.YtapbgmmkkngdoaaDoorPrC
import Derived.OpenShut
import Derived.Test.YtapbgmmkkngdoaaDoorPairs
namespace Go.Proofs.YtapbgmmkkngdoaaDoor
open Go.RowKit
theorem BlockIs.cast {w : World} {g : Nat} {t : TypeId} {cs ds : Array Value} (h : BlockIs w g t cs) (e : cs = ds) : BlockIs w g t ds := by subst e; exact h
theorem tailsL_at (js : List J) (E : List Ed) {k : Nat} (hk : k < js.length) : (tailsL js E)[k]'(by rw [tailsL_len]; exact hk) = tailF js (tabB js.length E) js.length 9 k := by unfold tailsL; simp
set_option maxRecDepth 100000 in
set_option maxHeartbeats 2000000 in
theorem tails_any (A : Option Addr) (c : Nat) (js : List J) (E : List Pr) (w : World) (hr : Row w A (jc js)) (hok : ∀ j ∈ js, okJ j = true) (h8 : js.length ≤ 8) (hirr : irrB js.length E js.length = true) (hT : TzTab w) :
    Calls Tryd.prog 62 #[.agg (wlC (.slice A js.length c) (js.length : Int) (befN js.length (tabB js.length E)))] w fun e w' => ∃ g, e = .returned (.slice (some ⟨g, 0, none⟩) js.length js.length) ∧ w.heap.size ≤ g ∧ BlockIs w' g 3 (ic (tailsL js E)).toArray ∧ Below w.heap.size w w' := by
  have hmk := run_make_row' (P := Tryd.prog) 29 3 (.int .i64 0) 8 Tryd.underlying29 infoI rfl .i64 .i64 js.length (by omega) (by omega)
  have HTL := Lib.hid (fun W k (hb : Below w.heap.size w W) (hk : k < js.length) => tail_any (c := c) hok h8 hirr 9 k W (by omega) hk (by have := cntS_le js.length (tabB js.length E) k; omega) (hr.below hb) (hT.below hb))
  obtain ⟨B, hB⟩ : ∃ B, befN js.length (tabB js.length E) = B := ⟨_, rfl⟩
  rw [hB] at HTL ⊢
  clear hB
  have hb1 := (Below.refl w.heap.size w).alloc (Nat.le_refl _) (.cells (wlC (.slice A js.length c) (js.length : Int) B) 86)
  have hB1 := BlockIs.new w 86 (wlC (.slice A js.length c) (js.length : Int) B)
  have c0 := hB1.cell 0
  have c1 := hB1.cell 1
  have c2 := hB1.cell 2
  have c3 := hB1.cell 3
  have c4 := hB1.cell 4
  have c5 := hB1.cell 5
  have c6 := hB1.cell 6
  have c7 := hB1.cell 7
  have c8 := hB1.cell 8
  have c9 := hB1.cell 9
  simp only [wlC, List.getElem?_toArray, List.getElem?_cons_zero, List.getElem?_cons_succ] at c0 c1 c2 c3 c4 c5 c6 c7 c8 c9
  have hb2 := hb1.alloc hb1.size (.cells (madeCells #[.int .i64 0] js.length) 3)
  have hB2 := hB1.below ((Below.refl _ _).alloc (Nat.le_refl _) (.cells (madeCells #[.int .i64 0] js.length) 3))
  have hG2 := BlockIs.new (w.alloc (.cells (wlC (.slice A js.length c) (js.length : Int) B) 86)) 3 (madeCells #[.int .i64 0] js.length)
  rw [World.size_alloc] at hG2
  have hG3 := hG2.cast (ic_made js.length)
  have H0 := Lib.hid (And.intro hb2 (And.intro hB2 hG3))
  have hTL : (tailsL js E).length = js.length := tailsL_len js E
  have HAT : Hid (∀ k (hk : k < js.length), (tailsL js E)[k]'(by rw [tailsL_len]; exact hk) = tailF js (tabB js.length E) js.length 9 k) := fun k hk => tailsL_at js E hk
  have HLEN := Lib.hid hTL
  clear hb1 hB1 hb2 hB2 hG2 hG3 hr hT hTL
  unfold wlC
  go_enter Tryd.func62, Tryd.ntmps62
  go_wp2
  clear hmk c0 c1 c2 c3 c4 c5 c6 c7 c8 c9
  go_loopw [11] (fun i wr => ∃ k : Nat, k ≤ js.length ∧ i = .int .i64 (k : Int) ∧ Hid (Below w.heap.size w wr ∧ BlockIs wr w.heap.size 86 (wlC (.slice A js.length c) (js.length : Int) B) ∧ BlockIs wr (w.heap.size + 1) 3 (ic ((tailsL js E).take k ++ (List.replicate js.length 0).drop k)).toArray)) (fun i _ => js.length - (intOf i).toNat)
  case atStart => exact ⟨0, Nat.zero_le _, rfl, by rw [List.take_zero, List.nil_append, List.drop_zero]; exact H0.out⟩
  case round =>
    obtain ⟨k, hk, rfl, HW⟩ := hrel
    clear H0
    by_cases hlt : k < js.length
    · have hBk := HW.out.2.1
      have c0 := hBk.cell 0
      have c1 := hBk.cell 1
      have c2 := hBk.cell 2
      have c3 := hBk.cell 3
      have c4 := hBk.cell 4
      have c5 := hBk.cell 5
      have c6 := hBk.cell 6
      have c7 := hBk.cell 7
      have c8 := hBk.cell 8
      have c9 := hBk.cell 9
      simp only [wlC, List.getElem?_toArray, List.getElem?_cons_zero, List.getElem?_cons_succ] at c0 c1 c2 c3 c4 c5 c6 c7 c8 c9
      have HC := Lib.hid (HTL.out wr k HW.out.1 hlt)
      have hk0 : (0 : Int) ≤ k := by omega
      have hk1 : (k : Int) < js.length := by omega
      have hrl : (List.replicate js.length (0 : Int)).length = js.length := by simp
      have HTK := Lib.hid (HAT.out k hlt)
      have HL := HLEN.out
      clear hBk
      obtain ⟨tk, htk⟩ : ∃ tk, tailF js (tabB js.length E) js.length 9 k = tk := ⟨_, rfl⟩
      rw [htk] at HC HTK
      clear htk
      unfold wlC at HC
      have HL2 := Lib.hid HL
      have HRL := Lib.hid hrl
      clear HL hrl
      go_wp2_with fail
      refine HC.out.mono ?_
      rintro e w5 ⟨rfl, hb5⟩
      have hG5 := HW.out.2.2.below hb5
      have hck := hG5.int (k := k) (by rw [mix_len _ _ _ (by have := HL2.out; have := HRL.out; omega) (by have := HL2.out; omega)]; have := HRL.out; omega)
      have hfz := hG5.frozen k
      have HG := Lib.hid (hG5.set k (.int .i64 tk))
      rw [ic_set, mix_step _ _ k tk (by have := HL2.out; have := HRL.out; omega) (by have := HL2.out; omega) HTK.out] at HG
      have HF := Lib.hid (And.intro ((HW.out.1.trans (hb5.mono HW.out.1.size)).setCell (p := ⟨w.heap.size + 1, k, none⟩) (by show _ ≤ w.heap.size + 1; omega) (.int .i64 tk)) ((HW.out.2.1.below hb5).away (g' := w.heap.size + 1) (by omega) k (.int .i64 tk)))
      clear hG5 hb5 HC HW c0 c1 c2 c3 c4 c5 c6 c7 c8 c9
      generalize ((tailsL js E).take k ++ (List.replicate js.length (0 : Int)).drop k)[k]'_ = old at *
      go_wp2
      go_roundw
      case rel => exact ⟨k + 1, by omega, by go_num, HF.out.1, HF.out.2, HG.out⟩
      case measure => simp [intOf]; omega
    · obtain rfl : k = js.length := by omega
      have hG := HW.out.2.2
      rw [List.take_of_length_le (by have := HLEN.out; omega), List.drop_eq_nil_of_le (by simp), List.append_nil] at hG
      have HG := Lib.hid hG
      clear hG
      go_wp2
      go_ret
      exact ⟨w.heap.size + 1, rfl, by omega, HG.out, HW.out.1⟩
theorem wl_good {js : List J} {E : List Pr} (m : Int) (hm : inB m 1 4 = true) : goodB js m E = wlB js E := by
  unfold goodB wlB plainL
  rw [hm, Bool.true_and, Bool.and_assoc]
theorem wl_parts {js : List J} {E : List Pr} (h : wlB js E = true) : (∀ j ∈ js, okJ j = true) ∧ js.length ≤ 8 ∧ irrB js.length E js.length = true := by
  rw [← wl_good 1 rfl] at h
  obtain ⟨a, b, c, _⟩ := good_parts h
  exact ⟨a, b, c⟩
set_option maxRecDepth 100000 in
set_option maxHeartbeats 2000000 in
/-- The tails of no jobs. -/
theorem tailsZ_any (w : World) : Calls Tryd.prog 62 #[.agg wlZ] w fun e w' => ∃ g, e = .returned (.slice (some ⟨g, 0, none⟩) 0 0) ∧ w.heap.size ≤ g ∧ BlockIs w' g 3 (ic []).toArray ∧ Below w.heap.size w w' := by
  have hmk : ∀ w : World, (Instr.makeSlice 29 (.int .i64 0) (.int .i64 0)).run Tryd.prog w = .ok (.slice (some ⟨w.heap.size, 0, none⟩) 0 0) (w.alloc (.cells (madeCells #[.int .i64 0] 0) 3)) := fun w => run_make_row' (P := Tryd.prog) 29 3 (.int .i64 0) 8 Tryd.underlying29 infoI rfl .i64 .i64 0 (by omega) (by omega) w
  have hb1 := (Below.refl w.heap.size w).alloc (Nat.le_refl _) (.cells wlZ 86)
  have hb2 := hb1.alloc hb1.size (.cells (madeCells #[.int .i64 0] 0) 3)
  have hG2 := BlockIs.new (w.alloc (.cells wlZ 86)) 3 (madeCells #[.int .i64 0] 0)
  rw [World.size_alloc] at hG2
  have hG3 := hG2.cast (ic_made 0)
  have H0 := Lib.hid (And.intro hb2 hG3)
  clear hb1 hb2 hG2 hG3
  unfold wlZ
  unfold wlZ at H0
  go_enter Tryd.func62, Tryd.ntmps62
  go_wp2
  refine wp_loop_rounds 1 ?_
  rw [rounds_succ]
  go_wp2
  go_ret
  exact ⟨w.heap.size + 1, rfl, by omega, H0.out.2, H0.out.1⟩
set_option maxRecDepth 100000 in
set_option maxHeartbeats 1000000 in
theorem impl_TailsOf (A C : Option Addr) (c d : Nat) (js : List J) (E : List Pr) (w : World) (hr : Row w A (jc js)) (hq : Row w C (pc E)) (hn : js.length ≤ 10000000) (hl : E.length ≤ 10000000) (hT : TzTab w) :
    Calls Tryd.prog 29 #[.slice A js.length c, .slice C E.length d] w (RetIB w (tailsR js E)) := by
  have HRR : Hid (tailsR js E = if goodB js 1 E then (tailsL js E, true) else ([], false)) := rfl
  rw [wl_good 1 rfl] at HRR
  have H := Lib.hid (workloadOf_any A C c d js E w hr hq hn hl hT)
  have HR := Lib.hid hr
  have HT := Lib.hid hT
  clear hr hq hT
  go_enter Tryd.func29, Tryd.ntmps29
  go_wp2_with fail
  refine H.out.mono ?_
  rintro e w1 ⟨hb, ⟨hw, h8, rfl⟩ | ⟨hw, rfl⟩⟩
  · rw [hw, if_pos rfl] at HRR
    obtain ⟨hok, _, hirr⟩ := wl_parts hw
    have hbA := hb.alloc hb.size (.cells (wlC (.slice A js.length c) (js.length : Int) (befN js.length (tabB js.length E))) 86)
    have HC := Lib.hid (tails_any A c js E _ (HR.out.below hbA) hok h8 hirr (HT.out.below hbA))
    have HB := Lib.hid hbA
    clear hw hb hbA hok hirr H
    unfold wlC
    unfold wlC at HC HB
    go_wp2_with fail
    refine HC.out.mono ?_
    rintro e w2 ⟨g, rfl, hg, hG, hb2⟩
    have HF := Lib.hid (And.intro hG (And.intro (HB.out.trans (hb2.mono HB.out.size)) (Nat.le_trans HB.out.size hg)))
    have hTL := tailsL_len js E
    clear hG hb2 hg HC HB
    go_wp2
    go_ret2
    rw [← hTL]
    exact ret_block HRR.out HF.out.2.2 HF.out.1 (by rw [hTL]; omega) HF.out.2.1 _ rfl
  · rw [hw, if_neg (by decide)] at HRR
    have hbA := hb.alloc hb.size (.cells wlZ 86)
    have HC := Lib.hid (tailsZ_any (w1.alloc (.cells wlZ 86)))
    have HB := Lib.hid hbA
    clear hw hb hbA H
    unfold wlZ
    unfold wlZ at HC HB
    go_wp2_with fail
    refine HC.out.mono ?_
    rintro e w2 ⟨g, rfl, hg, hG, hb2⟩
    have HF := Lib.hid (And.intro hG (And.intro (HB.out.trans (hb2.mono HB.out.size)) (Nat.le_trans HB.out.size hg)))
    clear hG hb2 hg HC HB
    go_wp2
    go_ret2
    rw [HRR.out]
    exact ⟨_, 0, rfl, seg_of_block HF.out.1 HF.out.2.2 (by unfold maxLen; simp), HF.out.2.1⟩
end Go.Proofs.YtapbgmmkkngdoaaDoor

namespace Go.Proofs.YtapbgmmkkngdoaaDoor
section
variable {P : Program} {ops : Array Oper} {Q : Exit → Act → World → Prop}
def StepA {γ : Type} (P : Program) (S : γ → Array Bool → World → Prop) (val : γ → Nat → Value) (x : γ) (L : Array Bool) (i : Nat) (o : Oper) (a : Act) (w : World) : Prop :=
  (∃ x' w', (∀ j, L.getD j true = true → val x' j = val x j) ∧ (execOp a.eval o).run P w = .ok (.value (val x' i)) w' ∧ S x' (L.setIfInBounds i true) w') ∨
  (∃ f args, (execOp a.eval o).run P w = .ok (.enter f args) w ∧ Calls P f args w fun e w' => ∃ x', (∀ j, L.getD j true = true → val x' j = val x j) ∧ e = .returned (val x' i) ∧ S x' (L.setIfInBounds i true) w') ∨
  (∃ w', o.dst = none ∧ (execOp a.eval o).run P w = .ok .skip w' ∧ S x (L.setIfInBounds i true) w')
/-- As wp_region_detY; what an operation yields may be chosen when it runs (an address). -/
theorem wp_region_detA {γ : Type} {id : Nat} {tm0 : Array Value} {df : List Deferred} {w : World} (hm : P.follows .mixedOrders = true) (S : γ → Array Bool → World → Prop) (val : γ → Nat → Value) (x0 : γ) (hback : backBB ops = true) (hown : ownDst ops tm0.size = true)
    (h0 : S x0 (Array.replicate ops.size false) w.drew)
    (hdone : ∀ (x : γ) (L : Array Bool) (tm : Array Value) (w : World), (∀ i, i < ops.size → L.getD i true = true) → S x L w → tm.size = tm0.size → (∀ t, ((List.range ops.size).all fun j => !((ops[j]?).bind (·.dst) == some t)) = true → tm.getD t undef = tm0.getD t undef) → (∀ j o d, ops[j]? = some o → o.dst = some d → tm.getD d undef = val x j) → Q .normal ⟨tm, df⟩ w)
    (hstep : ∀ (x : γ) (L : Array Bool) (a : Act) (w : World) (i : Nat) (o : Oper), L.size = ops.size → ops[i]? = some o → L.getD i true = false → (∀ j, edgeB ops i j = true → L.getD j true = true) → (∀ j, edgeB ops j i = true → L.getD j true = false) → S x L w → (∀ t, ((List.range ops.size).all fun j => !((ops[j]?).bind (·.dst) == some t)) = true → a.tmps.getD t undef = tm0.getD t undef) →
      (∀ j oj d, edgeB ops i j = true → ops[j]? = some oj → oj.dst = some d → a.tmps.getD d undef = val x j) →
      (∀ j oj d, edgeB ops j i = true → ops[j]? = some oj → oj.dst = some d → a.tmps.getD d undef = tm0.getD d undef) → Region.wanted o (yielded ops a.tmps) = true ∧ StepA P S val x L i o a w) :
    (Code.region id ops true).wp P Q ⟨tm0, df⟩ w := by
  refine wp_region_invB hm (fun L a w => ∃ x, S x L w ∧ a.defers = df ∧ a.tmps.size = tm0.size ∧ (∀ t, ((List.range ops.size).all fun j => !((ops[j]?).bind (·.dst) == some t)) = true → a.tmps.getD t undef = tm0.getD t undef) ∧ (∀ j o d, ops[j]? = some o → o.dst = some d → L.getD j true = true → a.tmps.getD d undef = val x j) ∧ (∀ j o d, ops[j]? = some o → o.dst = some d → L.getD j true = false → a.tmps.getD d undef = tm0.getD d undef)) (back_ofB hback) ?_ ?_ ?_
  · refine ⟨x0, h0, rfl, rfl, fun _ _ => rfl, fun j o d ho _ hl => ?_, fun _ _ _ _ _ _ => rfl⟩
    have hj : j < ops.size := (Array.getElem?_eq_some_iff.1 ho).1
    simp [Array.getD_eq_getD_getElem?, hj] at hl
  · intro L a w ⟨x, hS, hdf, hsz, hlow, hval, _⟩ hall
    obtain ⟨tm, df'⟩ := a
    simp only at hdf hsz
    subst hdf
    exact hdone x L tm w hall hS hsz hlow (fun j o d ho hd => hval j o d ho hd (hall j (Array.getElem?_eq_some_iff.1 ho).1))
  · intro L a w i o hC ⟨x, hS, hdf, hsz, hlow, hval, hold⟩ ho hl hd
    obtain ⟨hg, hst⟩ := hstep x L a w i o hC.1 ho hl (fun j he => dep_of ho hd he) (fun j he => hC.no he hl) hS hlow (fun j oj d he hoj hdj => hval j oj d hoj hdj (dep_of ho hd he)) (fun j oj d he hoj hdj => hold j oj d hoj hdj (hC.no he hl))
    have next : ∀ x' w', (∀ j, L.getD j true = true → val x' j = val x j) → S x' (L.setIfInBounds i true) w' → S x' (L.setIfInBounds i true) w' ∧ (a.put o.dst (val x' i)).defers = df ∧ (a.put o.dst (val x' i)).tmps.size = tm0.size ∧ (∀ t, ((List.range ops.size).all fun j => !((ops[j]?).bind (·.dst) == some t)) = true → (a.put o.dst (val x' i)).tmps.getD t undef = tm0.getD t undef) ∧ (∀ j o' d, ops[j]? = some o' → o'.dst = some d → (L.setIfInBounds i true).getD j true = true → (a.put o.dst (val x' i)).tmps.getD d undef = val x' j) ∧ (∀ j o' d, ops[j]? = some o' → o'.dst = some d → (L.setIfInBounds i true).getD j true = false → (a.put o.dst (val x' i)).tmps.getD d undef = tm0.getD d undef) := by
      intro x' w' hag hS'
      cases hod : o.dst with
      | none =>
        refine ⟨hS', hdf, hsz, hlow, fun j o' d ho' hd' hl' => ?_, fun j o' d ho' hd' hl' => ?_⟩
        · have hne : i ≠ j := fun e => by subst e; rw [ho] at ho'; injection ho' with ho'; subst ho'; rw [hod] at hd'; cases hd'
          rw [getD_set_true, if_neg (fun h => hne h.1)] at hl'
          rw [hag j hl']; exact hval j o' d ho' hd' hl'
        · have hne : i ≠ j := fun e => by subst e; rw [ho] at ho'; injection ho' with ho'; subst ho'; rw [hod] at hd'; cases hd'
          rw [getD_set_true, if_neg (fun h => hne h.1)] at hl'
          exact hold j o' d ho' hd' hl'
      | some d0 =>
        have hput : ∀ t, (a.put (some d0) (val x' i)).tmps.getD t undef = if d0 = t ∧ t < a.tmps.size then val x' i else a.tmps.getD t undef := by
          intro t
          unfold Act.put
          simp only [Array.getD_eq_getD_getElem?, Array.getElem?_setIfInBounds]
          by_cases e : d0 = t
          · subst e
            by_cases h : d0 < a.tmps.size
            · simp [h]
            · simp [h]
          · simp [e]
        refine ⟨hS', hdf, by simp [Act.put, hsz], fun t ht => ?_, fun j o' d ho' hd' hl' => ?_, fun j o' d ho' hd' hl' => ?_⟩
        · rw [hput, if_neg (fun h => ?_)]
          · exact hlow t ht
          · have := List.all_eq_true.1 ht i (List.mem_range.2 (Array.getElem?_eq_some_iff.1 ho).1)
            rw [ho] at this
            simp [hod, h.1] at this
        · rw [hput]
          by_cases e : d0 = d
          · subst e
            have hij := ownDst_inj hown ho hod ho' hd'
            subst hij
            rw [if_pos ⟨rfl, by rw [hsz]; exact ownDst_lt hown ho hod⟩]
          · rw [if_neg (fun h => e h.1)]
            have hne : i ≠ j := fun e' => by subst e'; rw [ho] at ho'; injection ho' with ho'; subst ho'; rw [hod] at hd'; injection hd' with hd'; exact e hd'
            rw [getD_set_true, if_neg (fun h => hne h.1)] at hl'
            rw [hag j hl']; exact hval j o' d ho' hd' hl'
        · have hli : i ≠ j := fun e => by
            subst e
            have hC1 : i < L.size := by rw [hC.1]; exact (Array.getElem?_eq_some_iff.1 ho).1
            rw [getD_set_true, if_pos ⟨rfl, hC1⟩] at hl'; cases hl'
          rw [getD_set_true, if_neg (fun h => hli h.1)] at hl'
          have hdd : d0 ≠ d := fun e => by subst e; exact hli (ownDst_inj hown ho' hd' ho hod)
          rw [hput, if_neg (fun h => hdd h.1)]
          exact hold j o' d ho' hd' hl'
    rcases hst with ⟨x', w', hag, hr, hS'⟩ | ⟨f, args, hr, hc⟩ | ⟨w', hnd, hr, hS'⟩
    · exact wpOp_valueW ho hg hr ⟨x', next x' w' hag hS'⟩
    · refine wpOp_enterW ho hg hr (hc.mono ?_)
      rintro e w' ⟨x', hag, rfl, hS'⟩
      exact ⟨_, rfl, x', next x' w' hag hS'⟩
    · refine wpOp_skipY ho hg hr ⟨x, ?_⟩
      have h := next x w' (fun _ _ => rfl) hS'
      rw [hnd] at h ⊢
      exact h
end
open Go.RowKit
theorem listed_ne {L : Array Bool} {i j : Nat} (h : i ≠ j) : (L.setIfInBounds i true).getD j true = L.getD j true := by rw [getD_set_true, if_neg (fun q => h q.1)]
theorem listed_at {L : Array Bool} {i : Nat} (h : i < L.size) : (L.setIfInBounds i true).getD i true = true := by rw [getD_set_true, if_pos ⟨rfl, h⟩]
/-- Two new variables of one type: where they lie, and whether they were made (a1, a2) and written (s1, s2). -/
def Two (wr : World) (t : TypeId) (Z A1 A2 : Array Value) (a1 a2 s1 s2 : Nat) (x : Nat × Nat) (L : Array Bool) (W : World) : Prop :=
  Below wr.heap.size wr W ∧ (L.getD a1 true = true → wr.heap.size ≤ x.1 ∧ BlockIs W x.1 t (if L.getD s1 true = true then A1 else Z)) ∧
  (L.getD a2 true = true → wr.heap.size ≤ x.2 ∧ BlockIs W x.2 t (if L.getD s2 true = true then A2 else Z)) ∧ (L.getD a1 true = true → L.getD a2 true = true → x.1 ≠ x.2)
section
variable {wr : World} {t : TypeId} {Z A1 A2 : Array Value} {a1 a2 s1 s2 : Nat} {x : Nat × Nat} {L : Array Bool} {W W' : World}
theorem Two.below (h : Two wr t Z A1 A2 a1 a2 s1 s2 x L W) (hb : Below W.heap.size W W') : Two wr t Z A1 A2 a1 a2 s1 s2 x L W' :=
  ⟨h.1.trans (hb.mono h.1.size), fun e => ⟨(h.2.1 e).1, (h.2.1 e).2.below hb⟩, fun e => ⟨(h.2.2.1 e).1, (h.2.2.1 e).2.below hb⟩, h.2.2.2⟩
theorem Two.other (h : Two wr t Z A1 A2 a1 a2 s1 s2 x L W) {i : Nat} (h1 : i ≠ a1) (h2 : i ≠ a2) (h3 : i ≠ s1) (h4 : i ≠ s2) : Two wr t Z A1 A2 a1 a2 s1 s2 x (L.setIfInBounds i true) W := by
  unfold Two
  rw [listed_ne h1, listed_ne h2, listed_ne h3, listed_ne h4]
  exact h
theorem Two.new1 (h : Two wr t Z A1 A2 a1 a2 s1 s2 x L W) (d2 : a1 ≠ a2) (d3 : a1 ≠ s1) (d4 : a1 ≠ s2) (hs : L.getD s1 true = false) : Two wr t Z A1 A2 a1 a2 s1 s2 (W.heap.size, x.2) (L.setIfInBounds a1 true) (W.alloc (.cells Z t)) := by
  have hb := (Below.refl W.heap.size W).alloc (Nat.le_refl _) (.cells Z t)
  refine ⟨h.1.trans (hb.mono h.1.size), fun _ => ⟨h.1.size, ?_⟩, fun e => ?_, fun _ e => ?_⟩
  · rw [listed_ne d3, hs, if_neg (by decide)]
    exact BlockIs.new W t Z
  · rw [listed_ne d2] at e
    rw [listed_ne d4]
    exact ⟨(h.2.2.1 e).1, (h.2.2.1 e).2.below hb⟩
  · rw [listed_ne d2] at e
    have := (Array.getElem?_eq_some_iff.1 (h.2.2.1 e).2).1
    show W.heap.size ≠ x.2
    omega
theorem Two.new2 (h : Two wr t Z A1 A2 a1 a2 s1 s2 x L W) (d2 : a2 ≠ a1) (d3 : a2 ≠ s1) (d4 : a2 ≠ s2) (hs : L.getD s2 true = false) : Two wr t Z A1 A2 a1 a2 s1 s2 (x.1, W.heap.size) (L.setIfInBounds a2 true) (W.alloc (.cells Z t)) := by
  have hb := (Below.refl W.heap.size W).alloc (Nat.le_refl _) (.cells Z t)
  refine ⟨h.1.trans (hb.mono h.1.size), fun e => ?_, fun _ => ⟨h.1.size, ?_⟩, fun e _ => ?_⟩
  · rw [listed_ne d2] at e
    rw [listed_ne d3]
    exact ⟨(h.2.1 e).1, (h.2.1 e).2.below hb⟩
  · rw [listed_ne d4, hs, if_neg (by decide)]
    exact BlockIs.new W t Z
  · rw [listed_ne d2] at e
    have := (Array.getElem?_eq_some_iff.1 (h.2.1 e).2).1
    show x.1 ≠ W.heap.size
    omega
theorem Two.put1 (h : Two wr t Z A1 A2 a1 a2 s1 s2 x L W) (d2 : s1 ≠ a1) (d3 : s1 ≠ a2) (d4 : s1 ≠ s2) (hsz : s1 < L.size) (ha : L.getD a1 true = true) (hb : Below wr.heap.size W W') (hB : BlockIs W' x.1 t A1) (ho : ∀ g cs, g ≠ x.1 → BlockIs W g t cs → BlockIs W' g t cs) : Two wr t Z A1 A2 a1 a2 s1 s2 x (L.setIfInBounds s1 true) W' := by
  unfold Two
  rw [listed_ne d2, listed_ne d3, listed_ne d4, listed_at hsz, if_pos rfl]
  exact ⟨h.1.trans hb, fun e => ⟨(h.2.1 e).1, hB⟩, fun e => ⟨(h.2.2.1 e).1, ho _ _ (fun q => h.2.2.2 ha e q.symm) (h.2.2.1 e).2⟩, h.2.2.2⟩
theorem Two.put2 (h : Two wr t Z A1 A2 a1 a2 s1 s2 x L W) (d2 : s2 ≠ a1) (d3 : s2 ≠ a2) (d4 : s2 ≠ s1) (hsz : s2 < L.size) (ha : L.getD a2 true = true) (hb : Below wr.heap.size W W') (hB : BlockIs W' x.2 t A2) (ho : ∀ g cs, g ≠ x.2 → BlockIs W g t cs → BlockIs W' g t cs) : Two wr t Z A1 A2 a1 a2 s1 s2 x (L.setIfInBounds s2 true) W' := by
  unfold Two
  rw [listed_ne d2, listed_ne d3, listed_ne d4, listed_at hsz, if_pos rfl]
  exact ⟨h.1.trans hb, fun e => ⟨(h.2.1 e).1, ho _ _ (fun q => h.2.2.2 e ha q) (h.2.1 e).2⟩, fun e => ⟨(h.2.2.1 e).1, hB⟩, h.2.2.2⟩
theorem three_set {B g : Nat} {y0 y1 y2 v0 v1 v2 : Value} (h : BlockIs W g t #[y0, y1, y2]) (hg : B ≤ g) :
    Below B W (((W.setCell ⟨g, 0, none⟩ v0).setCell ⟨g, 1, none⟩ v1).setCell ⟨g, 2, none⟩ v2) ∧ BlockIs (((W.setCell ⟨g, 0, none⟩ v0).setCell ⟨g, 1, none⟩ v1).setCell ⟨g, 2, none⟩ v2) g t #[v0, v1, v2] ∧
    ∀ g' cs, g' ≠ g → BlockIs W g' t cs → BlockIs (((W.setCell ⟨g, 0, none⟩ v0).setCell ⟨g, 1, none⟩ v1).setCell ⟨g, 2, none⟩ v2) g' t cs := by
  refine ⟨(((Below.refl _ _).setCell (p := ⟨g, 0, none⟩) hg _).setCell (p := ⟨g, 1, none⟩) hg _).setCell (p := ⟨g, 2, none⟩) hg _, ?_, fun g' cs hne hk => ((hk.away hne _ _).away hne _ _).away hne _ _⟩
  exact ((h.set 0 v0).set 1 v1).set 2 v2
end
end Go.Proofs.YtapbgmmkkngdoaaDoor

namespace Go.Proofs.YtapbgmmkkngdoaaDoor
open Go.RowKit
def tkC (s : Sp) : Array Value := #[.int .i64 s.j, .int .i64 s.f, .int .i64 s.t]
def isTkB (m : Int) (s : Sp) : Bool := decide (0 ≤ s.f ∧ s.f < m ∧ 0 ≤ s.t ∧ s.t ≤ 500)
set_option maxRecDepth 100000 in
theorem isTask_any (m x f t : Int) (w : World) :
    Calls Tryd.prog 108 #[.int .i64 m, .agg #[.int .i64 x, .int .i64 f, .int .i64 t]] w fun e w' => e = .returned (.bool (isTkB m ⟨x, f, t⟩)) ∧ Below w.heap.size w w' := by
  have HR : Hid (isTkB m ⟨x, f, t⟩ = decide (0 ≤ f ∧ f < m ∧ 0 ≤ t ∧ t ≤ 500)) := rfl
  have HB := Lib.hid ((Below.refl w.heap.size w).alloc (Nat.le_refl _) (.cells #[.int .i64 x, .int .i64 f, .int .i64 t] 96))
  by_cases h1 : 0 ≤ f
  · by_cases h2 : f < m
    · by_cases h3 : 0 ≤ t
      · by_cases h4 : t ≤ 500
        · go_enter Tryd.func108, Tryd.ntmps108
          go_wp2
          go_ret
          exact ⟨by rw [HR.out, decide_eq_true ⟨h1, h2, h3, h4⟩]; rfl, HB.out⟩
        · have h4' : decide (t ≤ 500) = false := decide_eq_false h4
          go_enter Tryd.func108, Tryd.ntmps108
          go_wp2
          go_ret
          exact ⟨by rw [HR.out, decide_eq_false (by omega)]; rfl, HB.out⟩
      · have h3' : decide (0 ≤ t) = false := decide_eq_false h3
        go_enter Tryd.func108, Tryd.ntmps108
        go_wp2
        go_ret
        exact ⟨by rw [HR.out, decide_eq_false (by omega)]; rfl, HB.out⟩
    · have h2' : decide (f < m) = false := decide_eq_false h2
      go_enter Tryd.func108, Tryd.ntmps108
      go_wp2
      go_ret
      exact ⟨by rw [HR.out, decide_eq_false (by omega)]; rfl, HB.out⟩
  · have h1' : decide (0 ≤ f) = false := decide_eq_false h1
    go_enter Tryd.func108, Tryd.ntmps108
    go_wp2
    go_ret
    exact ⟨by rw [HR.out, decide_eq_false (by omega)]; rfl, HB.out⟩
set_option maxRecDepth 100000 in
theorem overlap_any (x y f1 t1 f2 t2 : Int) (w : World) :
    Calls Tryd.prog 96 #[.agg #[.int .i64 x, .int .i64 f1, .int .i64 t1], .agg #[.int .i64 y, .int .i64 f2, .int .i64 t2]] w fun e w' => e = .returned (.bool (decide (f1 < t2) && decide (f2 < t1))) ∧ Below w.heap.size w w' := by
  have HB := Lib.hid (((Below.refl w.heap.size w).alloc (Nat.le_refl _) (.cells #[.int .i64 x, .int .i64 f1, .int .i64 t1] 125)).alloc (by simp) (.cells #[.int .i64 y, .int .i64 f2, .int .i64 t2] 125))
  by_cases h1 : f1 < t2
  · by_cases h2 : f2 < t1
    · have HD := Lib.hid (congr (congrArg and (decide_eq_true h1)) (decide_eq_true h2))
      go_enter Tryd.func96, Tryd.ntmps96
      go_wp2
      go_ret
      exact ⟨by first | rfl | (rw [HD.out]; rfl), HB.out⟩
    · have HD := Lib.hid (congr (congrArg and (decide_eq_true h1)) (decide_eq_false h2))
      have h2' : decide (f2 < t1) = false := decide_eq_false h2
      go_enter Tryd.func96, Tryd.ntmps96
      go_wp2
      go_ret
      exact ⟨by first | rfl | (rw [HD.out]; rfl), HB.out⟩
  · have HD := Lib.hid (congrArg (fun q => q && decide (f2 < t1)) (decide_eq_false h1))
    have h1' : decide (f1 < t2) = false := decide_eq_false h1
    go_enter Tryd.func96, Tryd.ntmps96
    go_wp2
    go_ret
    exact ⟨by first | rfl | (rw [HD.out]; rfl), HB.out⟩
set_option maxRecDepth 100000 in
set_option maxHeartbeats 2000000 in
theorem spanOf_any (A : Option Addr) (c : Nat) (js : List J) (n : Int) (B : Nat → Nat) (k : Nat) (f t : Int) (w : World) (hr : Row w A (jc js)) (hk : k < js.length) (hok : ∀ j ∈ js, okJ j = true) (h0 : 0 ≤ t) (h1 : t ≤ 500) :
    Calls Tryd.prog 95 #[.agg (wlC (.slice A js.length c) n B), .agg #[.int .i64 (k : Int), .int .i64 f, .int .i64 t]] w fun e w' => e = .returned (.agg #[.int .i64 (k : Int), .int .i64 t, .int .i64 (t + jAt js k)]) ∧ Below w.heap.size w w' := by
  obtain ⟨ad, hA, hb, hc0, _, _, _⟩ := hr.job hk
  subst hA
  have e1 : jAt js k = js[k].t := congrArg J.t (getD_at js j0 hk)
  have hp := okJ_out (hok _ (List.getElem_mem hk))
  rw [e1]
  have hk0 : (0 : Int) ≤ k := by omega
  have hk1 : (k : Int) < js.length := by omega
  have hbk : (ad.add (k * 4)).block < w.heap.size := by rw [add_block]; exact hb
  generalize js[k].t = p at *
  have hw1 : IntKind.i64.wrap (t + p) = t + p := IntWalk.i64_in _ (by omega)
  clear hr hok e1
  have hW := (((Below.refl w.heap.size w).alloc (Nat.le_refl _) (.cells #[.slice (some ad) js.length c, .int .i64 n, .int .u64 (B 0 : Int), .int .u64 (B 1 : Int), .int .u64 (B 2 : Int), .int .u64 (B 3 : Int), .int .u64 (B 4 : Int), .int .u64 (B 5 : Int), .int .u64 (B 6 : Int), .int .u64 (B 7 : Int)] 86)).alloc (by simp) (.cells #[.int .i64 (k : Int), .int .i64 f, .int .i64 t] 96)).alloc (by simp; omega) (.cells #[.int .i64 0, .int .i64 0, .int .i64 0] 125)
  have hcW := (hW.cell hbk).trans hc0
  clear hW hc0
  unfold wlC
  go_enter Tryd.func95, Tryd.ntmps95
  go_wp2
  go_region
  go_wp2
  refine bodyPost_ret (v := .agg #[.int .i64 (k : Int), .int .i64 t, .int .i64 (t + p)]) (by simp [results, Tryd.f95, go_sem]) rfl ⟨rfl, ?_⟩
  exact ((((Below.refl w.heap.size w).alloc (Nat.le_refl _) (.cells #[.slice (some ad) js.length c, .int .i64 n, .int .u64 (B 0 : Int), .int .u64 (B 1 : Int), .int .u64 (B 2 : Int), .int .u64 (B 3 : Int), .int .u64 (B 4 : Int), .int .u64 (B 5 : Int), .int .u64 (B 6 : Int), .int .u64 (B 7 : Int)] 86)).alloc (by simp) (.cells #[.int .i64 (k : Int), .int .i64 f, .int .i64 t] 96)).alloc (by simp; omega) (.cells #[.int .i64 (k : Int), .int .i64 t, .int .i64 (t + p)] 125)).drew
theorem tkOk_split (m : Int) (k : Nat) (s : Sp) : tkOk m k s = (decide (s.j = (k : Int)) && isTkB m s) := by
  unfold tkOk isTkB
  rw [Bool.decide_and]
set_option maxRecDepth 100000 in
set_option maxHeartbeats 2000000 in
theorem areTasks_any (A D : Option Addr) (c b : Nat) (js : List J) (n m : Int) (B : Nat → Nat) (ss : List Sp) (w : World) (hs : Row w D (spc ss)) (hm : ss.length ≤ 10000000) :
    Calls Tryd.prog 94 #[.agg (wlC (.slice A js.length c) n B), .int .i64 m, .slice D ss.length b] w fun e w' => e = .returned (.bool (tksB js.length m ss)) ∧ Below w.heap.size w w' := by
  have HS := Lib.hid hs
  have HB0 := Lib.hid ((Below.refl w.heap.size w).alloc (Nat.le_refl _) (.cells (wlC (.slice A js.length c) n B) 86))
  clear hs
  by_cases hlen : ss.length = js.length
  · have HG := Lib.hid (fun h => tks_good (m := m) (ss := ss) hlen h)
    have HBD := Lib.hid (fun k (hk : k < js.length) => tks_bad (m := m) (ss := ss) hk)
    have hlb : ((ss.length : Int) != (js.length : Int)) = false := by simp [hlen]
    have HL := Lib.hid hlen
    clear hlen
    unfold wlC
    unfold wlC at HB0
    go_enter Tryd.func94, Tryd.ntmps94
    go_wp2
    go_loopw [17] (fun iv wr => ∃ k : Nat, k ≤ ss.length ∧ iv = .int .i64 (k : Int) ∧ Hid (∀ i, i < k → tkOk m i (tkAt ss i) = true) ∧ Below w.heap.size w wr) (fun iv _ => ss.length - (intOf iv).toNat)
    case atStart => exact ⟨0, Nat.zero_le _, rfl, fun i hi => absurd hi (Nat.not_lt_zero i), HB0.out⟩
    case round =>
      obtain ⟨k, hk, rfl, hO, hb⟩ := hrel
      by_cases hks : k < ss.length
      · have hlt : k < js.length := by have := HL.out; omega
        obtain ⟨ad, hA', hbl, hc0, hc1, hc2⟩ := (HS.out.below hb).span hks
        subst hA'
        have hk0 : (0 : Int) ≤ k := by omega
        have hk1 : (k : Int) < ss.length := by omega
        have hgj : tkAt ss k = ss[k] := getD_at ss sp0 hks
        have HO : Hid (tkOk m k ss[k] = true → ∀ i, i < k + 1 → tkOk m i (tkAt ss i) = true) := fun h i hi => by
          rcases Nat.lt_succ_iff_lt_or_eq.1 hi with hi | rfl
          · exact hO.out i hi
          · rw [hgj]; exact h
        have HN : Hid (tkOk m k ss[k] = false → tksB js.length m ss = false) := fun h => HBD.out k hlt (by rw [hgj]; exact h)
        rw [tkOk_split] at HO HN
        generalize ss[k] = s at *
        obtain ⟨x, f, t⟩ := s
        dsimp only at hc0 hc1 hc2 HO HN
        clear hlt
        by_cases hx : x = (k : Int)
        · subst hx
          have hbn := (hb.alloc hb.size (.cells #[.int .i64 (k : Int), .int .i64 f, .int .i64 t] 96))
          have HB := Lib.hid hbn
          have HI := Lib.hid (isTask_any m (k : Int) f t (wr.alloc (.cells #[.int .i64 (k : Int), .int .i64 f, .int .i64 t] 96)))
          rw [decide_eq_true rfl, Bool.true_and] at HO HN
          clear hO hb hgj hbn
          cases hI : isTkB m ⟨(k : Int), f, t⟩
          · have hbad := HN.out hI
            rw [hI] at HI
            clear HO HN hI
            go_wp2_with fail
            refine HI.out.mono ?_
            rintro e w2 ⟨rfl, hb2⟩
            have HF := Lib.hid (HB.out.trans (hb2.mono HB.out.size))
            clear hb2
            go_wp2
            go_ret
            exact ⟨by rw [hbad]; rfl, HF.out⟩
          · have HO2 := Lib.hid (HO.out hI)
            rw [hI] at HI
            clear HO HN hI
            go_wp2_with fail
            refine HI.out.mono ?_
            rintro e w2 ⟨rfl, hb2⟩
            have HF := Lib.hid (HB.out.trans (hb2.mono HB.out.size))
            clear hb2
            go_wp2
            go_roundw
            case rel => exact ⟨k + 1, by omega, by go_num, HO2.out, HF.out⟩
            case measure => simp [intOf]; omega
        · have hbad := HN.out (by rw [decide_eq_false hx]; rfl)
          have hxb : (x != (k : Int)) = true := by simp [hx]
          have HB := Lib.hid (hb.alloc hb.size (.cells #[.int .i64 x, .int .i64 f, .int .i64 t] 96))
          clear HO HN hO hb hgj
          go_wp2
          go_ret
          exact ⟨by rw [hbad]; rfl, HB.out⟩
      · obtain rfl : k = ss.length := by omega
        have hgd := HG.out (by rw [← HL.out]; exact hO.out)
        clear hO
        go_wp2
        go_ret
        exact ⟨by rw [hgd]; rfl, hb⟩
  · have hbad := tks_no_len (m := m) hlen
    have hlb : ((ss.length : Int) != (js.length : Int)) = true := by simp; omega
    unfold wlC
    unfold wlC at HB0
    go_enter Tryd.func94, Tryd.ntmps94
    go_wp2
    go_ret
    exact ⟨by rw [hbad]; rfl, HB0.out⟩
end Go.Proofs.YtapbgmmkkngdoaaDoor

namespace Go.Proofs.YtapbgmmkkngdoaaDoor
open Go.RowKit Go.Shelf
attribute [local go_sem] Oper.semAt_some
def sumT (js : List J) (l : List Nat) : Int := (l.map fun k => (js.getD k j0).t).sum
theorem sumT_snoc (js : List J) (l : List Nat) (k : Nat) : sumT js (l ++ [k]) = sumT js l + (js.getD k j0).t := by unfold sumT; simp
theorem sumT_bd {js : List J} (hok : ∀ j ∈ js, okJ j = true) : ∀ l : List Nat, (∀ k ∈ l, k < js.length) → 0 ≤ sumT js l ∧ sumT js l ≤ 50 * (l.length : Int)
  | [], _ => by simp [sumT]
  | k :: l, h => by
    have h1 := sumT_bd hok l (fun x hx => h x (List.mem_cons_of_mem _ hx))
    have hk := h k List.mem_cons_self
    have h2 := okJ_out (hok _ (List.getElem_mem hk))
    have e : sumT js (k :: l) = js[k].t + sumT js l := by unfold sumT; simp [List.getD, hk]
    rw [e, List.length_cons]
    omega
def timeB (js : List J) (s : Nat) : Int := sumT js (memB s)
section
variable (A : Option Addr) (c s : Nat) (js : List J) (w : World) (hs : s < 256) (hr : Row w A (jc js)) (hok : ∀ j ∈ js, okJ j = true) (hlt : ∀ k, s.testBit k = true → k < js.length) (hT : TzTab w)
include hs hr hok hlt hT
set_option maxRecDepth 100000 in
set_option maxHeartbeats 4000000 in
theorem timeOf_any : Calls Tryd.prog 92 #[.slice A js.length c, .int .u64 (s : Int)] w fun e w' => e = .returned (.int .i64 (timeB js s)) ∧ Below w.heap.size w w' := by
  have b0 : Boxed (((w.alloc (.cells #[.slice A js.length c] 84)).alloc (.cells #[.int .i64 0] 3)).alloc (.cells #[.int .u64 (s : Int)] 59)) w.heap.size 84 (.slice A js.length c) := ((Boxed.new w 84 (.slice A js.length c)).alloc _).alloc _
  have b1 : Boxed (((w.alloc (.cells #[.slice A js.length c] 84)).alloc (.cells #[.int .i64 0] 3)).alloc (.cells #[.int .u64 (s : Int)] 59)) (w.heap.size + 1) 3 (.int .i64 0) := by
    have h := (Boxed.new (w.alloc (.cells #[.slice A js.length c] 84)) 3 (.int .i64 0)).alloc (.cells #[.int .u64 (s : Int)] 59)
    rwa [World.size_alloc] at h
  have b2 : Boxed (((w.alloc (.cells #[.slice A js.length c] 84)).alloc (.cells #[.int .i64 0] 3)).alloc (.cells #[.int .u64 (s : Int)] 59)) (w.heap.size + 1 + 1) 59 (.int .u64 (s : Int)) := by
    have h := Boxed.new ((w.alloc (.cells #[.slice A js.length c] 84)).alloc (.cells #[.int .i64 0] 3)) 59 (.int .u64 (s : Int))
    rwa [World.size_alloc, World.size_alloc] at h
  have hb3 : Below w.heap.size w (((w.alloc (.cells #[.slice A js.length c] 84)).alloc (.cells #[.int .i64 0] 3)).alloc (.cells #[.int .u64 (s : Int)] 59)) := (((Below.refl _ w).alloc (Nat.le_refl _) _).alloc (by simp) _).alloc (by simp; omega) _
  have hz3 : (((w.alloc (.cells #[.slice A js.length c] 84)).alloc (.cells #[.int .i64 0] 3)).alloc (.cells #[.int .u64 (s : Int)] 59)).heap.size = w.heap.size + 1 + 1 + 1 := by simp
  have H3 := Lib.hid (And.intro b0 (And.intro b1 (And.intro b2 hb3)))
  have HR := Lib.hid hr
  have HT := Lib.hid hT
  clear b0 b1 b2 hb3 hr hT
  refine (callsIn_wide (n := 6)).1 ?_
  refine callsIn_of_wp_marks Tryd.func92 rfl trivial ?_ rfl
  simp only [Tryd.ntmps92, List.size_toArray, List.length_cons, List.length_nil, Nat.reduceAdd, Nat.reduceSub, Array.replicate_succ, Array.replicate_zero, List.push_toArray, List.append_toArray, List.nil_append, List.cons_append]
  gi_wp2_with (refine ⟨trivial, ?_⟩; gi_at_call 78; refine (members_in 5 _ _).mono ?_; rintro e w' ⟨rfl, rfl⟩)
  generalize ((w.alloc (.cells #[.slice A js.length c] 84)).alloc (.cells #[.int .i64 0] 3)).alloc (.cells #[.int .u64 (s : Int)] 59) = w3 at *
  -- RANGE
  obtain ⟨b0, b1, b2, hb3⟩ := H3.out
  refine wpIn_rangeFunc_ownG (F := Fence.wide) rfl (by omega) (gf := 100) (lb := #[.pointer (some ⟨w.heap.size + 1 + 1, 0, none⟩)]) rfl trivial (enters_of Tryd.func100 (by kernel_rfl) rfl)
    (members_stops 5 (by omega) (w.heap.size + 1 + 1) s hs w3 (by omega) b2 (HT.out.below hb3))
    (fun h k t => k (h t)) (fun W l' o o' hl ho hc _ => KeepsTz.put ho hc) (Below.refl _ _) (fun _ => rfl)
    (fun (pre : List (Mb s)) W => (Boxed W w.heap.size 84 (.slice A js.length c) ∧ Boxed W (w.heap.size + 1) 3 (.int .i64 (sumT js (vals pre)))) ∧ Below w.heap.size w W)
    (fun _ _ _ => False)
    (OwnFrom.and (OwnFrom.and (Own.from (boxed_own _ _ _) _) (Own.from (boxed_own _ _ _) _)) (ownFrom_below (Nat.le_refl _) (by omega)))
    (fun _ _ _ _ _ h _ _ => h)
    ⟨⟨b0, b1⟩, hb3⟩
    (fun x => { tmps := #[.slice A js.length c, .int .u64 (s : Int), .pointer (some ⟨w.heap.size, 0, none⟩), undef, .int .i64 0, .pointer (some ⟨w.heap.size + 1, 0, none⟩), .int .i64 (x.1 : Int), .int .u64 (s : Int), .func (.func 100) #[] #[.pointer (some ⟨w.heap.size + 1 + 1, 0, none⟩)], .int .i64 (x.1 : Int), undef, undef, undef, undef, undef, undef, undef, undef], defers := [] }) ?assign ?body ?done ?stop
  case assign =>
    intro l' x W K hK
    unfold encM
    gi_wp2
    exact hK
  case body =>
    rintro l' pre ⟨x, hx⟩ W ⟨⟨y0, y1⟩, hb⟩ hl
    have hxl := hlt x hx
    have hmo : Tryd.prog.follows .mixedOrders = true := by kernel_rfl
    obtain ⟨ad, rfl, hadb, cj0, cj1, cj2, cj3⟩ := (HR.out.below hb).job hxl
    have HSN : Hid (sumT js (vals (pre ++ [(⟨x, hx⟩ : Mb s)])) = sumT js (vals pre) + js[x].t) := by show _ = _; rw [vals_snoc, sumT_snoc, getD_at js j0 hxl]
    have hpl : (vals pre).length ≤ 8 := by have h1 := memB_len s; rw [vals_len]; omega
    have hbd := sumT_bd hok (vals pre) (fun k hk => by obtain ⟨z, _, rfl⟩ := List.mem_map.1 hk; exact hlt _ z.2)
    have hjt := okJ_out (hok _ (List.getElem_mem hxl))
    obtain ⟨W1, hW1⟩ : ∃ W1, W1 = W.drew := ⟨_, rfl⟩
    have q0 : W1.cell? ⟨w.heap.size, 0, none⟩ = some (.slice (some ad) js.length c) := by rw [hW1]; exact y0.cell
    have q1 : W1.cell? ⟨w.heap.size + 1, 0, none⟩ = some (.int .i64 (sumT js (vals pre))) := by rw [hW1]; exact y1.cell
    have f1 : W1.frozen? ⟨w.heap.size + 1, 0, none⟩ = false := by rw [hW1]; exact y1.frozen
    have qj : W1.cell? (ad.add (x * 4)) = some (.int .i64 js[x].t) := by rw [hW1]; exact cj0
    have hx0 : (0 : Int) ≤ x := by omega
    have hx1 : (x : Int) < js.length := by omega
    generalize js[x] = j at *
    generalize sumT js (vals pre) = sm at *
    have hwr := IntWalk.i64_in (sm + j.t) (by omega)
    dsimp only
    gi_wp2
    refine wpIn_region_detX (fun _ => trivial) (by kernel_rfl) hmo (fun (_ : Unit) (L : Array Bool) w' => (L.getD 7 true = false → w' = W1) ∧ (L.getD 7 true = true → w' = W1.setCell ⟨w.heap.size + 1, 0, none⟩ (.int .i64 (sm + j.t)))) (fun _ k => (#[.int .i64 sm, .slice (some ad) js.length c, .int .i64 (x : Int), .pointer (some (ad.add (x * 4))), .pointer (some (ad.add (x * 4))), .int .i64 j.t, .int .i64 (sm + j.t), undef] : Array Value).getD k undef) () (by kernel_rfl) (by kernel_rfl) ⟨fun _ => hW1.symm, fun h => by cases h⟩ ?_ ?_
    · intro _ L tm w' hall hS hsz hlow hval
      obtain rfl := hS.2 (hall 7 (by decide))
      have ht : tm = #[.slice (some ad) js.length c, .int .u64 (s : Int), .pointer (some ⟨w.heap.size, 0, none⟩), undef, .int .i64 0, .pointer (some ⟨w.heap.size + 1, 0, none⟩), .int .i64 (x : Int), .int .u64 (s : Int), .func (.func 100) #[] #[.pointer (some ⟨w.heap.size + 1 + 1, 0, none⟩)], .int .i64 (x : Int), .int .i64 sm, .slice (some ad) js.length c, .int .i64 (x : Int), .pointer (some (ad.add (x * 4))), .pointer (some (ad.add (x * 4))), .int .i64 j.t, .int .i64 (sm + j.t), undef] := by
        refine arr_of _ _ hsz fun t ht => ?_
        have ht' : t < 18 := ht
        rcases (by omega : t = 0 ∨ t = 1 ∨ t = 2 ∨ t = 3 ∨ t = 4 ∨ t = 5 ∨ t = 6 ∨ t = 7 ∨ t = 8 ∨ t = 9 ∨ t = 10 ∨ t = 11 ∨ t = 12 ∨ t = 13 ∨ t = 14 ∨ t = 15 ∨ t = 16 ∨ t = 17) with rfl | rfl | rfl | rfl | rfl | rfl | rfl | rfl | rfl | rfl | rfl | rfl | rfl | rfl | rfl | rfl | rfl | rfl
        · exact hlow 0 (by kernel_rfl)
        · exact hlow 1 (by kernel_rfl)
        · exact hlow 2 (by kernel_rfl)
        · exact hlow 3 (by kernel_rfl)
        · exact hlow 4 (by kernel_rfl)
        · exact hlow 5 (by kernel_rfl)
        · exact hlow 6 (by kernel_rfl)
        · exact hlow 7 (by kernel_rfl)
        · exact hlow 8 (by kernel_rfl)
        · exact hlow 9 (by kernel_rfl)
        · exact hval 0 _ 10 rfl rfl
        · exact hval 1 _ 11 rfl rfl
        · exact hval 2 _ 12 rfl rfl
        · exact hval 3 _ 13 rfl rfl
        · exact hval 4 _ 14 rfl rfl
        · exact hval 5 _ 15 rfl rfl
        · exact hval 6 _ 16 rfl rfl
        · exact hlow 17 (by kernel_rfl)
      subst ht
      clear hlow hval hsz hall hS
      have HW1 := Lib.hid hW1
      clear hW1
      gi_wp2
      have hbw : Below w.heap.size w (W1.setCell ⟨w.heap.size + 1, 0, none⟩ (.int .i64 (sm + j.t))) := (show Below w.heap.size w W1 by rw [HW1.out]; exact hb.drew).setCell (p := ⟨w.heap.size + 1, 0, none⟩) (by simp) _
      have z0 : Boxed W1 w.heap.size 84 (.slice (some ad) js.length c) := by rw [HW1.out]; exact y0
      have z1 : Boxed W1 (w.heap.size + 1) 3 (.int .i64 sm) := by rw [HW1.out]; exact y1
      exact ⟨((KeepsOthers.drew W).trans (by rw [← HW1.out]; exact KeepsOthers.setCell _ _ _)).from _, fun _ => HT.out.below hbw, ⟨z0.other (by omega) _, by rw [HSN.out]; exact z1.set _⟩, hbw⟩
    · intro _ L a' w' i op hLs ho hLi hLd hLn hS hlow hdep _
      have hi : i < 8 := (Array.getElem?_eq_some_iff.1 ho).1
      rcases (by omega : i = 0 ∨ i = 1 ∨ i = 2 ∨ i = 3 ∨ i = 4 ∨ i = 5 ∨ i = 6 ∨ i = 7) with rfl | rfl | rfl | rfl | rfl | rfl | rfl | rfl
      · obtain rfl := Option.some.inj ho
        have e5 : a'.tmps[5]?.getD undef = .pointer (some ⟨w.heap.size + 1, 0, none⟩) := (Array.getD_eq_getD_getElem? ..).symm.trans (hlow 5 (by kernel_rfl))
        have hK : ((L.setIfInBounds 0 true).getD 7 true = false → w' = W1) ∧ ((L.setIfInBounds 0 true).getD 7 true = true → w' = W1.setCell ⟨w.heap.size + 1, 0, none⟩ (.int .i64 (sm + j.t))) := by rw [getD_set_true, if_neg (fun h => by cases h.1)]; exact hS
        obtain rfl : W1 = w' := (hS.1 (hLn 7 (by kernel_rfl))).symm
        exact .inl ⟨wanted_free rfl, .inl ⟨(), _, fun _ _ => rfl, by simp [execOp, Act.eval, e5, q1, go_sem], hK⟩⟩
      · obtain rfl := Option.some.inj ho
        have e2 : a'.tmps[2]?.getD undef = .pointer (some ⟨w.heap.size, 0, none⟩) := (Array.getD_eq_getD_getElem? ..).symm.trans (hlow 2 (by kernel_rfl))
        have hK : ((L.setIfInBounds 1 true).getD 7 true = false → w' = W1) ∧ ((L.setIfInBounds 1 true).getD 7 true = true → w' = W1.setCell ⟨w.heap.size + 1, 0, none⟩ (.int .i64 (sm + j.t))) := by rw [getD_set_true, if_neg (fun h => by cases h.1)]; exact hS
        obtain rfl : W1 = w' := (hS.1 (hLn 7 (by kernel_rfl))).symm
        exact .inl ⟨wanted_free rfl, .inl ⟨(), _, fun _ _ => rfl, by simp [execOp, Act.eval, e2, q0, go_sem], hK⟩⟩
      · obtain rfl := Option.some.inj ho
        have e6 : a'.tmps[6]?.getD undef = .int .i64 (x : Int) := (Array.getD_eq_getD_getElem? ..).symm.trans (hlow 6 (by kernel_rfl))
        have hK : ((L.setIfInBounds 2 true).getD 7 true = false → w' = W1) ∧ ((L.setIfInBounds 2 true).getD 7 true = true → w' = W1.setCell ⟨w.heap.size + 1, 0, none⟩ (.int .i64 (sm + j.t))) := by rw [getD_set_true, if_neg (fun h => by cases h.1)]; exact hS
        exact .inl ⟨wanted_free rfl, .inl ⟨(), _, fun _ _ => rfl, by simp [execOp, Act.eval, e6, go_sem], hK⟩⟩
      · obtain rfl := Option.some.inj ho
        have e11 : a'.tmps[11]?.getD undef = .slice (some ad) js.length c := (Array.getD_eq_getD_getElem? ..).symm.trans (hdep 1 _ 11 (by kernel_rfl) rfl rfl)
        have e12 : a'.tmps[12]?.getD undef = .int .i64 (x : Int) := (Array.getD_eq_getD_getElem? ..).symm.trans (hdep 2 _ 12 (by kernel_rfl) rfl rfl)
        have hK : ((L.setIfInBounds 3 true).getD 7 true = false → w' = W1) ∧ ((L.setIfInBounds 3 true).getD 7 true = true → w' = W1.setCell ⟨w.heap.size + 1, 0, none⟩ (.int .i64 (sm + j.t))) := by rw [getD_set_true, if_neg (fun h => by cases h.1)]; exact hS
        exact .inl ⟨wanted_free rfl, .inl ⟨(), _, fun _ _ => rfl, by simp [execOp, Act.eval, e11, e12, hx0, hx1, go_sem], hK⟩⟩
      · obtain rfl := Option.some.inj ho
        have e13 : a'.tmps[13]?.getD undef = .pointer (some (ad.add (x * 4))) := (Array.getD_eq_getD_getElem? ..).symm.trans (hdep 3 _ 13 (by kernel_rfl) rfl rfl)
        have hK : ((L.setIfInBounds 4 true).getD 7 true = false → w' = W1) ∧ ((L.setIfInBounds 4 true).getD 7 true = true → w' = W1.setCell ⟨w.heap.size + 1, 0, none⟩ (.int .i64 (sm + j.t))) := by rw [getD_set_true, if_neg (fun h => by cases h.1)]; exact hS
        exact .inl ⟨wanted_free rfl, .inl ⟨(), _, fun _ _ => rfl, by simp [execOp, Act.eval, e13, go_sem], hK⟩⟩
      · obtain rfl := Option.some.inj ho
        have e14 : a'.tmps[14]?.getD undef = .pointer (some (ad.add (x * 4))) := (Array.getD_eq_getD_getElem? ..).symm.trans (hdep 4 _ 14 (by kernel_rfl) rfl rfl)
        have hK : ((L.setIfInBounds 5 true).getD 7 true = false → w' = W1) ∧ ((L.setIfInBounds 5 true).getD 7 true = true → w' = W1.setCell ⟨w.heap.size + 1, 0, none⟩ (.int .i64 (sm + j.t))) := by rw [getD_set_true, if_neg (fun h => by cases h.1)]; exact hS
        obtain rfl : W1 = w' := (hS.1 (hLn 7 (by kernel_rfl))).symm
        exact .inl ⟨wanted_free rfl, .inl ⟨(), _, fun _ _ => rfl, by simp [execOp, Act.eval, e14, qj, go_sem], hK⟩⟩
      · obtain rfl := Option.some.inj ho
        have e10 : a'.tmps[10]?.getD undef = .int .i64 sm := (Array.getD_eq_getD_getElem? ..).symm.trans (hdep 0 _ 10 (by kernel_rfl) rfl rfl)
        have e15 : a'.tmps[15]?.getD undef = .int .i64 j.t := (Array.getD_eq_getD_getElem? ..).symm.trans (hdep 5 _ 15 (by kernel_rfl) rfl rfl)
        have hK : ((L.setIfInBounds 6 true).getD 7 true = false → w' = W1) ∧ ((L.setIfInBounds 6 true).getD 7 true = true → w' = W1.setCell ⟨w.heap.size + 1, 0, none⟩ (.int .i64 (sm + j.t))) := by rw [getD_set_true, if_neg (fun h => by cases h.1)]; exact hS
        exact .inl ⟨wanted_free rfl, .inl ⟨(), _, fun _ _ => rfl, by simp [execOp, Act.eval, e10, e15, hwr, go_sem], hK⟩⟩
      · obtain rfl := Option.some.inj ho
        have e5 : a'.tmps[5]?.getD undef = .pointer (some ⟨w.heap.size + 1, 0, none⟩) := (Array.getD_eq_getD_getElem? ..).symm.trans (hlow 5 (by kernel_rfl))
        have e16 : a'.tmps[16]?.getD undef = .int .i64 (sm + j.t) := (Array.getD_eq_getD_getElem? ..).symm.trans (hdep 6 _ 16 (by kernel_rfl) rfl rfl)
        obtain rfl : W1 = w' := (hS.1 hLi).symm
        have hK : ((L.setIfInBounds 7 true).getD 7 true = false → W1.setCell ⟨w.heap.size + 1, 0, none⟩ (.int .i64 (sm + j.t)) = W1) ∧ ((L.setIfInBounds 7 true).getD 7 true = true → W1.setCell ⟨w.heap.size + 1, 0, none⟩ (.int .i64 (sm + j.t)) = W1.setCell ⟨w.heap.size + 1, 0, none⟩ (.int .i64 (sm + j.t))) := ⟨fun h => (by rw [getD_set_true, if_pos ⟨rfl, by rw [hLs]; decide⟩] at h; cases h), fun _ => rfl⟩
        exact .inl ⟨wanted_free rfl, .inr ⟨(), W1.setCell ⟨w.heap.size + 1, 0, none⟩ (.int .i64 (sm + j.t)), fun _ _ => rfl, rfl, by simp [execOp, Act.eval, e5, e16, q1, f1, go_sem], hK⟩⟩
  case done =>
    rintro D ys W hD hys ⟨⟨y0, y1⟩, hb⟩ hK
    have hc := y1.cell
    gi_wp2
    refine ⟨by simp, .inl ⟨_, _, rfl, run_takeDeferred hK, ?_⟩⟩
    exact ⟨_, results_tmp rfl _ _ _, rfl, hb.trans (belowK_b (w := w3) (by omega) W D _ _ (by omega) hK rfl rfl)⟩
  case stop =>
    rintro D cd pre W _ _ h _
    exact h.elim
end
theorem memB_all : ∀ n, n < 9 → memB (2 ^ n - 1) = List.range n := by decide +kernel
theorem pow_lt : ∀ n, n < 9 → 2 ^ n - 1 < 256 := by decide
theorem all_bit {n : Nat} (hn : n < 9) {k : Nat} (h : (2 ^ n - 1).testBit k = true) : k < n := by
  have h1 := (memB_mem (pow_lt n hn)).2 h
  rw [memB_all n hn] at h1
  exact List.mem_range.1 h1
def totL (js : List J) : Int := sumT js (List.range js.length)
def totalR (js : List J) : Int × Bool := if plainL js then (totL js, true) else (0, false)
def totTo (js : List J) (k : Nat) : Int := sumT js (List.range k)
theorem totTo_succ (js : List J) (k : Nat) (hk : k < js.length) : totTo js (k + 1) = totTo js k + js[k].t := by
  unfold totTo; rw [List.range_succ, sumT_snoc, getD_at js j0 hk]
section
variable (A : Option Addr) (c : Nat) (js : List J) (w : World) (hr : Row w A (jc js))
include hr
theorem l2Sum_any (hg : goodL js = true) : Calls Tryd.prog 91 #[.slice A js.length c] w fun e w' => e = .returned (.int .i64 (totL js)) ∧ Below w.heap.size w w' := by
  obtain ⟨h8, hok⟩ := good_out hg
  go_enter Tryd.func91, Tryd.ntmps91
  go_wp2
  go_loopw [3, 4] (fun sv i wr => ∃ k : Nat, k ≤ js.length ∧ i = .int .i64 k ∧ sv = .int .i64 (totTo js k) ∧ Below w.heap.size w wr) (fun _ i _ => js.length - (intOf i).toNat)
  case atStart => exact ⟨0, Nat.zero_le _, rfl, rfl, Below.refl _ _⟩
  case round =>
    obtain ⟨k, hk, rfl, rfl, hb⟩ := hrel
    by_cases hlt : k < js.length
    · obtain ⟨a, hA', _, hc0, hc1, hc2, hc3⟩ := (hr.below hb).job hlt
      subst hA'
      have hi : (0 : Int) ≤ k := by omega
      have hi' : (k : Int) < js.length := by omega
      have hbd := sumT_bd hok (List.range k) (fun x hx => by have := List.mem_range.1 hx; omega)
      rw [List.length_range] at hbd
      have hjt := okJ_out (hok _ (List.getElem_mem hlt))
      have HS := Lib.hid (totTo_succ js k hlt)
      have hbd1 : 0 ≤ totTo js k := hbd.1
      have hbd2 : totTo js k ≤ 50 * (k : Int) := hbd.2
      clear hbd hr hok hg
      generalize totTo js k = t1 at *
      generalize js[k] = j at *
      go_wp2
      go_roundw
      case rel => exact ⟨k + 1, by omega, by go_num, by rw [HS.out], hb⟩
      case measure => simp [intOf]; omega
    · obtain rfl : k = js.length := by omega
      have HG : Hid (totTo js js.length = totL js) := rfl
      go_wp2
      go_ret
      exact ⟨by rw [← HG.out]; rfl, hb⟩
end
end Go.Proofs.YtapbgmmkkngdoaaDoor

namespace Go.Proofs.YtapbgmmkkngdoaaDoor
set_option linter.unusedSimpArgs false
open Go.RowKit
theorem put_eq {R : Act → World → Prop} {a : Act} {d : Option Nat} {x y : Value} {w : World} (h : x = y) (hK : R (a.put d y) w) : R (a.put d x) w := h ▸ hK
def lenT (js : List J) (ss : List Sp) : Int := mostGo (endsT js ss) 0
set_option maxRecDepth 100000 in
set_option maxHeartbeats 2000000 in
theorem l7Length_any (A D : Option Addr) (c b : Nat) (js : List J) (ss : List Sp) (m : Int) (w : World) (hr : Row w A (jc js)) (hs : Row w D (spc ss)) (hok : ∀ j ∈ js, okJ j = true) (h8 : js.length ≤ 8) (ht : tksB js.length m ss = true) :
    Calls Tryd.prog 71 #[.slice A js.length c, .slice D ss.length b] w fun e w' => e = .returned (.int .i64 (lenT js ss)) ∧ Below w.heap.size w w' := by
  have HR := Lib.hid hr
  have HS := Lib.hid hs
  have HOK := Lib.hid hok
  have HT := Lib.hid (tks_out ht).2
  have HL := Lib.hid (tks_out ht).1
  have HV : Hid (lenT js ss = mostGo (endsT js ss) 0) := rfl
  have HM := Lib.hid (fun x y W => (l1Most_any x y W).mono (fun e w' h => (⟨h.1, h.2.symm⟩ : e = .returned (.int .i64 (max x y)) ∧ W = w')))
  clear hr hs hok ht
  go_enter Tryd.func71, Tryd.ntmps71
  go_wp2
  go_loopw [5, 6] (fun tv iv wr => ∃ (k : Nat) (t : Int), k ≤ ss.length ∧ iv = .int .i64 (k : Int) ∧ tv = .int .i64 t ∧ Hid (mostGo ((endsT js ss).drop k) t = mostGo (endsT js ss) 0) ∧ Below w.heap.size w wr) (fun _ iv _ => ss.length - (intOf iv).toNat)
  case atStart => exact ⟨0, 0, Nat.zero_le _, rfl, rfl, rfl, Below.refl _ _⟩
  case round =>
    obtain ⟨k, t, hk, rfl, rfl, hE, hb⟩ := hrel
    by_cases hks : k < ss.length
    · have hkj : k < js.length := by have := HL.out; omega
      obtain ⟨ad, hA', hbl, a0, a1, a2⟩ := (HS.out.below hb).span hks
      subst hA'
      obtain ⟨aj, hA', hbj, c0, _, _, _⟩ := (HR.out.below hb).job hkj
      subst hA'
      have hke : k < (endsT js ss).length := by rw [endsT_len]; exact hkj
      have e2 := mostGo_drop (endsT js ss) k t hke
      rw [endsT_at js ss k hke] at e2
      have hgk : tkAt ss k = ss[k] := getD_at ss sp0 hks
      have e1 : jAt js k = js[k].t := congrArg J.t (getD_at js j0 hkj)
      have hk2 := tkOk_out (HT.out k hkj)
      have hp1 := okJ_out (HOK.out _ (List.getElem_mem hkj))
      rw [hgk] at hk2 e2
      rw [e1] at e2
      have HE := Lib.hid (e2.symm.trans hE.out)
      generalize ss[k] = s1 at *
      obtain ⟨x1, f1, t1⟩ := s1
      dsimp only at a0 a1 a2 hk2 HE
      generalize js[k].t = p1 at *
      obtain ⟨_, _, _, q0, q1⟩ := hk2
      have hw1 : IntKind.i64.wrap (t1 + p1) = t1 + p1 := IntWalk.i64_in _ (by omega)
      have hk0 : (0 : Int) ≤ k := by omega
      have hk1 : (k : Int) < ss.length := by omega
      have hk3 : (k : Int) < js.length := by omega
      have HB := Lib.hid hb
      clear hE hgk e1 e2 hke hb
      go_wp2
      go_quiet ((go_at_call 89; first | exact quiet_same (HM.out _ _ _) | exact quiet_eq (HM.out _ _ _)))
      go_wp2
      go_roundw
      case rel => exact ⟨k + 1, max t (t1 + p1), by omega, by go_num, rfl, HE, below_drewN HB.out _⟩
      case measure => simp [intOf]; omega
    · obtain rfl : k = ss.length := by omega
      have hT' := hE.out
      rw [List.drop_eq_nil_of_le (by rw [endsT_len]; have := HL.out; omega)] at hT'
      have HT2 : Hid (t = mostGo (endsT js ss) 0) := hT'
      clear hE hT'
      go_wp2
      go_ret
      exact ⟨by rw [HV.out, ← HT2.out]; rfl, hb⟩
set_option maxRecDepth 100000 in
set_option maxHeartbeats 2000000 in
theorem endsOf_any (A D : Option Addr) (c b : Nat) (js : List J) (ss : List Sp) (m n : Int) (B : Nat → Nat) (w : World) (hr : Row w A (jc js)) (hs : Row w D (spc ss)) (hok : ∀ j ∈ js, okJ j = true) (h8 : js.length ≤ 8) (ht : tksB js.length m ss = true) :
    Calls Tryd.prog 97 #[.agg (wlC (.slice A js.length c) n B), .slice D ss.length b] w fun e w' => e = .returned (.slice (some ⟨w.heap.size + 1, 0, none⟩) ss.length ss.length) ∧ BlockIs w' (w.heap.size + 1) 3 (ic (endsT js ss)).toArray ∧ Below w.heap.size w w' := by
  have HR := Lib.hid hr
  have HS := Lib.hid hs
  have HOK := Lib.hid hok
  have HT := Lib.hid (tks_out ht).2
  have HL := Lib.hid (tks_out ht).1
  have hl8 : ss.length ≤ 8 := by have := HL.out; omega
  have hmk := run_make_row' (P := Tryd.prog) 29 3 (.int .i64 0) 8 Tryd.underlying29 infoI rfl .i64 .i64 ss.length (by omega) (by omega)
  have b0 := (Below.refl w.heap.size w).alloc (Nat.le_refl _) (.cells (wlC (.slice A js.length c) n B) 86)
  have hx0 := BlockIs.new w 86 (wlC (.slice A js.length c) n B)
  have e0 : (w.alloc (.cells (wlC (.slice A js.length c) n B) 86)).heap.size = w.heap.size + 1 := by simp
  have hy0 := BlockIs.new (w.alloc (.cells (wlC (.slice A js.length c) n B) 86)) 3 (madeCells #[.int .i64 0] ss.length)
  rw [e0] at hy0
  have b1 := (Below.refl _ _).alloc (Nat.le_refl _) (w := (w.alloc (.cells (wlC (.slice A js.length c) n B) 86))) (.cells (madeCells #[.int .i64 0] ss.length) 3)
  have H0 := Lib.hid (And.intro (hx0.below b1) (And.intro hy0 (b0.trans (b1.mono b0.size))))
  obtain ⟨W1, hW1⟩ : ∃ W1, W1 = (w.alloc (.cells (wlC (.slice A js.length c) n B) 86)).alloc (.cells (madeCells #[.int .i64 0] ss.length) 3) := ⟨_, rfl⟩
  rw [← hW1, ic_made] at H0
  clear hr hs hok ht b0 b1 hx0 hy0 e0
  unfold wlC at hW1
  unfold wlC
  go_enter Tryd.func97, Tryd.ntmps97
  go_wp2
  rw [← hW1]
  clear hW1 hmk
  go_loopw [13] (fun iv wr => ∃ (k : Nat) (xs : List Int), k ≤ ss.length ∧ iv = .int .i64 (k : Int) ∧ Hid (xs.length = ss.length ∧ ∀ i, i < k → xs.getD i 0 = (endsT js ss).getD i 0) ∧ BlockIs wr (w.heap.size + 1) 3 (ic xs).toArray ∧ BlockIs wr w.heap.size 86 (wlC (.slice A js.length c) n B) ∧ Below w.heap.size w wr) (fun iv _ => ss.length - (intOf iv).toNat)
  case atStart => exact ⟨0, List.replicate ss.length 0, Nat.zero_le _, rfl, ⟨List.length_replicate, fun i hi => absurd hi (Nat.not_lt_zero i)⟩, H0.out.2.1, H0.out.1, H0.out.2.2⟩
  case round =>
    obtain ⟨k, xs, hk, rfl, hX, hB, hW, hb⟩ := hrel
    by_cases hks : k < ss.length
    · have hkj : k < js.length := by have := HL.out; omega
      obtain ⟨ad, hA', hbl, a0, a1, a2⟩ := (HS.out.below hb).span hks
      subst hA'
      have hke : k < (endsT js ss).length := by rw [endsT_len]; exact hkj
      have e2 : (endsT js ss).getD k 0 = (tkAt ss k).t + jAt js k := by rw [getD_at _ _ hke, endsT_at]
      have hgk : tkAt ss k = ss[k] := getD_at ss sp0 hks
      have hk2 := tkOk_out (HT.out k hkj)
      rw [hgk] at hk2 e2
      have HX : Hid ((xs.set k (ss[k].t + jAt js k)).length = ss.length ∧ ∀ i, i < k + 1 → (xs.set k (ss[k].t + jAt js k)).getD i 0 = (endsT js ss).getD i 0) := by
        refine ⟨by rw [List.length_set]; exact hX.out.1, fun i hi => ?_⟩
        rw [List.getD_eq_getElem?_getD, List.getElem?_set]
        by_cases h : k = i
        · subst h
          rw [if_pos rfl, if_pos (by rw [hX.out.1]; exact hks), e2]; rfl
        · rw [if_neg h, ← List.getD_eq_getElem?_getD]; exact hX.out.2 i (by omega)
      have hkx : k < xs.length := by rw [hX.out.1]; exact hks
      generalize ss[k] = s1 at *
      obtain ⟨x1, f1, t1⟩ := s1
      dsimp only at a0 a1 a2 hk2 HX
      obtain ⟨rfl, _, _, q0, q1⟩ := hk2
      have hbn := (Below.refl wr.heap.size wr).alloc (Nat.le_refl _) (.cells #[.int .i64 (k : Int), .int .i64 f1, .int .i64 t1] 96)
      have HBN := Lib.hid (hb.trans (hbn.mono hb.size))
      have HSP := Lib.hid (spanOf_any A c js n B k f1 t1 _ ((HR.out.below hb).below hbn) hkj HOK.out q0 q1)
      have hcW := hW.below hbn
      have H3 := Lib.hid (And.intro (hB.below hbn) hcW)
      have hk0 : (0 : Int) ≤ k := by omega
      have hk1 : (k : Int) < ss.length := by omega
      have hwx : w.heap.size < wr.heap.size := (Array.getElem?_eq_some_iff.1 hW).1
      have cw0 := hW.cell 0
      have cw1 := hW.cell 1
      have cw2 := hW.cell 2
      have cw3 := hW.cell 3
      have cw4 := hW.cell 4
      have cw5 := hW.cell 5
      have cw6 := hW.cell 6
      have cw7 := hW.cell 7
      have cw8 := hW.cell 8
      have cw9 := hW.cell 9
      simp only [wlC, List.getElem?_toArray, List.getElem?_cons_zero, List.getElem?_cons_succ] at cw0 cw1 cw2 cw3 cw4 cw5 cw6 cw7 cw8 cw9
      unfold wlC at HSP
      clear hX hB hW hb hke e2 hgk hbn hcW
      generalize jAt js k = p1 at *
      go_wp2_with fail
      refine HSP.out.mono ?_
      rintro e w2 ⟨rfl, hb2⟩
      have hB2 := H3.out.1.below hb2
      have HW2 := Lib.hid (H3.out.2.below hb2)
      have hbt := HBN.out.trans (hb2.mono HBN.out.size)
      have hck := hB2.int hkx
      have hfz := hB2.frozen k
      have HLS := Lib.hid (hB2.set k (.int .i64 (t1 + p1)))
      rw [ic_set] at HLS
      have HWS := Lib.hid (HW2.out.away (g' := w.heap.size + 1) (by omega) k (.int .i64 (t1 + p1)))
      have HBS := Lib.hid (hbt.setCell (p := ⟨w.heap.size + 1, k, none⟩) (by show w.heap.size ≤ w.heap.size + 1; omega) (.int .i64 (t1 + p1)))
      clear HSP H3 HBN HW2 hB2 hbt hb2
      go_wp2
      refine put_eq (y := .int .i64 (t1 + p1)) rfl ?_
      go_wp2
      go_roundw
      case rel => exact ⟨k + 1, _, by omega, by go_num, HX, HLS.out, HWS.out, HBS.out⟩
      case measure => simp [intOf]; omega
    · obtain rfl : k = ss.length := by omega
      have hxs : xs = endsT js ss := by
        refine List.ext_getElem (by rw [endsT_len]; have := HL.out; rw [hX.out.1]; exact this) fun i h1 h2 => ?_
        have := hX.out.2 i (by rw [← hX.out.1]; exact h1)
        rwa [getD_at _ _ h1, getD_at _ _ h2] at this
      rw [hxs] at hB
      clear hX hW
      go_wp2
      go_ret
      exact ⟨rfl, hB, hb⟩
end Go.Proofs.YtapbgmmkkngdoaaDoor

namespace Go.Proofs.YtapbgmmkkngdoaaDoor
set_option linter.unusedSimpArgs false
open Go.RowKit
set_option maxRecDepth 100000 in
set_option maxHeartbeats 4000000 in
theorem isPlan_any (A D : Option Addr) (c b : Nat) (js : List J) (m : Int) (T : Nat → Nat → Bool) (ss : List Sp) (w : World) (hr : Row w A (jc js)) (hs : Row w D (spc ss)) (hm : ss.length ≤ 10000000) (hcb : ss.length ≤ b) (h8 : js.length ≤ 8) (hok : ∀ j ∈ js, okJ j = true) (hirr : ∀ i, i < js.length → T i i = false) :
    Calls Tryd.prog 69 #[.agg (wlC (.slice A js.length c) (js.length : Int) (befN js.length T)), .int .i64 m, .slice D ss.length b] w fun e w' => e = .returned (.bool (planB js m T ss)) ∧ Below w.heap.size w w' := by
  have HS := Lib.hid hs
  have HR := Lib.hid hr
  have HOK := Lib.hid hok
  have HBT : Hid (∀ i j, i < js.length → (befN js.length T j).testBit i = T i j) := fun i j hi => by rw [bef_bit, decide_eq_true hi, Bool.true_and]
  have HB8 : Hid (∀ j, j < 8 → befN js.length T j < 256) := fun j _ => bef_lt h8 T j
  have HNO := Lib.hid (plan_no (js := js) (m := m) (T := T) (ss := ss))
  have HGOOD := Lib.hid (fun ht => plan_good2 (js := js) (m := m) (T := T) (ss := ss) ht hirr)
  have HBAD := Lib.hid (fun i j (hi : i < js.length) (hj : j < i) => plan_bad2 (js := js) (m := m) (T := T) (ss := ss) hi hj)
  generalize befN js.length T = B at *
  have hb0 := (Below.refl w.heap.size w).alloc (Nat.le_refl _) (.cells (wlC (.slice A js.length c) (js.length : Int) B) 86)
  have HX0 := Lib.hid (BlockIs.new w 86 (wlC (.slice A js.length c) (js.length : Int) B))
  have HA := Lib.hid (areTasks_any A D c b js (js.length : Int) m B ss _ (hs.below hb0) hm)
  have HB0 := Lib.hid hb0
  clear hs hr hok hirr hb0
  obtain ⟨W0, hW0⟩ : ∃ W0, W0 = w.alloc (.cells (wlC (.slice A js.length c) (js.length : Int) B) 86) := ⟨_, rfl⟩
  rw [← hW0] at HX0 HA HB0
  unfold wlC at hW0
  unfold wlC at HA
  unfold wlC
  go_enter Tryd.func69, Tryd.ntmps69
  go_wp2_with fail
  rw [← hW0]
  refine HA.out.mono ?_
  rintro e w1 ⟨rfl, hb1⟩
  clear hW0
  have HX1 := Lib.hid (HX0.out.below hb1)
  have HB1 := Lib.hid (HB0.out.trans (hb1.mono HB0.out.size))
  clear hb1 HX0 HB0 HA
  cases hA : tksB js.length m ss
  · have hbad := HNO.out hA
    go_wp2
    go_ret
    exact ⟨by rw [hbad]; rfl, HB1.out⟩
  · obtain ⟨hlen, hall⟩ := tks_out hA
    have HL := Lib.hid hlen
    have HALL := Lib.hid hall
    have HGD := Lib.hid (HGOOD.out hA)
    clear HGOOD HNO hA hlen hall
    go_wp2
    go_loopw [20] (fun iv wr => ∃ k : Nat, k ≤ ss.length ∧ iv = .int .i64 (k : Int) ∧ Hid (∀ i, i < k → ∀ j, j < i → clash2 js T ss i j = false) ∧ Below w1.heap.size w1 wr) (fun iv _ => ss.length - (intOf iv).toNat)
    case atStart => exact ⟨0, Nat.zero_le _, rfl, fun i hi => absurd hi (Nat.not_lt_zero i), Below.refl _ _⟩
    case round =>
      obtain ⟨k, hk, rfl, hO, hb⟩ := hrel
      have hbw := HB1.out.trans (hb.mono HB1.out.size)
      by_cases hks : k < ss.length
      · obtain ⟨ad, hA', hbl, a0, a1, a2⟩ := (HS.out.below hbw).span hks
        subst hA'
        have hk0 : (0 : Int) ≤ k := by omega
        have hk1 : (k : Int) < ss.length := by omega
        have hkj : k < js.length := by have := HL.out; omega
        have hgk : tkAt ss k = ss[k] := getD_at ss sp0 hks
        have hk2 := tkOk_out (HALL.out k hkj)
        rw [hgk] at hk2
        generalize ss[k] = s1 at *
        obtain ⟨x1, f1, t1⟩ := s1
        dsimp only at a0 a1 a2 hk2
        obtain ⟨rfl, _, _, q0, q1⟩ := hk2
        have hbx := (Below.refl wr.heap.size wr).alloc (Nat.le_refl _) (.cells #[.int .i64 (k : Int), .int .i64 f1, .int .i64 t1] 96)
        have HXK := Lib.hid (BlockIs.new wr 96 #[.int .i64 (k : Int), .int .i64 f1, .int .i64 t1])
        have HXW := Lib.hid ((HX1.out.below hb).below hbx)
        have HBW := Lib.hid (hbw.trans (hbx.mono hbw.size))
        have HBN := Lib.hid (hb.trans (hbx.mono hb.size))
        obtain ⟨W1, hW1⟩ : ∃ W1, W1 = wr.alloc (.cells #[.int .i64 (k : Int), .int .i64 f1, .int .i64 t1] 96) := ⟨_, rfl⟩
        rw [← hW1] at HXK HXW HBW HBN
        have HSZ := Lib.hid hbw.size
        have HKJ := Lib.hid hkj
        have HSM := Lib.hid (fun (h : ∀ j, j < k → clash2 js T ss k j = false) i (hi : i < k + 1) => by
          rcases Nat.lt_succ_iff_lt_or_eq.1 hi with hi | rfl
          · exact hO.out i hi
          · exact h)
        clear hO hbx hbw hb hkj
        go_wp2
        rw [← hW1]
        clear hW1
        generalize hg8 : wr.heap.size = g8 at *
        go_loopw [29] (fun iv wr => ∃ l : Nat, l ≤ k ∧ iv = .int .i64 (l : Int) ∧ Hid (∀ j, j < l → clash2 js T ss k j = false) ∧ Below W1.heap.size W1 wr) (fun iv _ => k - (intOf iv).toNat)
        case atStart => exact ⟨0, Nat.zero_le _, rfl, fun i hi => absurd hi (Nat.not_lt_zero i), Below.refl _ _⟩
        case round =>
          obtain ⟨l, hl, rfl, hO, hb⟩ := hrel
          by_cases hlk : l < k
          · skip
            have hls : l < ss.length := by omega
            obtain ⟨ad', hA', hbl2, b0, b1, b2⟩ := (HS.out.below (HBW.out.trans (hb.mono HBW.out.size))).span hls
            obtain rfl := Option.some.inj hA'
            have hl0 : (0 : Int) ≤ l := by omega
            have hl1 : (l : Int) < k := by omega
            have hlj : l < js.length := by have := HL.out; omega
            have hgl : tkAt ss l = ss[l] := getD_at ss sp0 hls
            have hl2 := tkOk_out (HALL.out l hlj)
            rw [hgl] at hl2
            have e1 : runsB js ss k l = decide (ss[l].t < t1 + jAt js k) := by unfold runsB; rw [hgk, hgl]
            have e2 : runsB js ss l k = decide (t1 < ss[l].t + jAt js l) := by unfold runsB; rw [hgk, hgl]
            have HCL : Hid (clash2 js T ss k l = ((decide (f1 = ss[l].f) && (decide (t1 < ss[l].t + jAt js l) && decide (ss[l].t < t1 + jAt js k))) || ((T k l && decide (ss[l].t < t1 + jAt js k)) || (T l k && decide (t1 < ss[l].t + jAt js l))))) := by
              show _ = _
              unfold clash2
              rw [e1, e2, hgk, hgl]
            generalize ss[l] = s2 at *
            obtain ⟨x2, f2, t2⟩ := s2
            dsimp only at b0 b1 b2 hl2 HCL
            obtain ⟨rfl, _, _, q2, q3⟩ := hl2
            have hbx := (Below.refl wr.heap.size wr).alloc (Nat.le_refl _) (.cells #[.int .i64 (l : Int), .int .i64 f2, .int .i64 t2] 96)
            have H2L := Lib.hid (BlockIs.new wr 96 #[.int .i64 (l : Int), .int .i64 f2, .int .i64 t2])
            have H2K := Lib.hid ((HXK.out.below hb).below hbx)
            have H2W := Lib.hid ((HXW.out.below hb).below hbx)
            have H2B := Lib.hid ((HBW.out.trans (hb.mono HBW.out.size)).trans (hbx.mono (Nat.le_trans HBW.out.size hb.size)))
            have H2N := Lib.hid (hb.trans (hbx.mono hb.size))
            obtain ⟨W2, hW2⟩ : ∃ W2, W2 = wr.alloc (.cells #[.int .i64 (l : Int), .int .i64 f2, .int .i64 t2] 96) := ⟨_, rfl⟩
            rw [← hW2] at H2L H2K H2W H2B H2N
            have HLM := Lib.hid (fun (h : clash2 js T ss k l = false) j (hj : j < l + 1) => by
              rcases Nat.lt_succ_iff_lt_or_eq.1 hj with hj | rfl
              · exact hO.out j hj
              · exact h)
            have HBL := Lib.hid (fun h => HBAD.out k l HKJ.out hlk h)
            have HLJ := Lib.hid hlj
            clear hO hbx hb e1 e2 hgl hlj
            go_wp2
            rw [← hW2]
            clear hW2 b0 b1 b2
            generalize hg10 : wr.heap.size = g10 at *
            clear hg10
            have hp1 := okJ_out (HOK.out _ (List.getElem_mem HKJ.out))
            have hp2 := okJ_out (HOK.out _ (List.getElem_mem HLJ.out))
            have HSK := Lib.hid (fun W (hb : Below W2.heap.size W2 W) => spanOf_any A c js (js.length : Int) B k f1 t1 W (HR.out.below (H2B.out.trans (hb.mono H2B.out.size))) HKJ.out HOK.out q0 q1)
            have HSL := Lib.hid (fun W (hb : Below W2.heap.size W2 W) => spanOf_any A c js (js.length : Int) B l f2 t2 W (HR.out.below (H2B.out.trans (hb.mono H2B.out.size))) HLJ.out HOK.out q2 q3)
            have hj1 : jAt js k = (js[k]'HKJ.out).t := congrArg J.t (getD_at js j0 HKJ.out)
            have hj2 : jAt js l = (js[l]'HLJ.out).t := congrArg J.t (getD_at js j0 HLJ.out)
            rw [← hj1] at hp1
            rw [← hj2] at hp2
            generalize jAt js k = p1 at *
            generalize jAt js l = p2 at *
            clear hj1 hj2
            have infoS : (Tryd.prog.info? 125).map (fun i => (i.zero, i.size, i.bytes)) = some (some (.agg #[.int .i64 0, .int .i64 0, .int .i64 0]), 3, 24) := by kernel_rfl
            have agree1 : ∀ (x y : Nat × Nat) (j : Nat), j ≠ 6 → x.2 = y.2 → (fun (x : Nat × Nat) (kk : Nat) => (#[.agg #[.slice A js.length c, .int .i64 (js.length : Int), .int .u64 (B 0 : Int), .int .u64 (B 1 : Int), .int .u64 (B 2 : Int), .int .u64 (B 3 : Int), .int .u64 (B 4 : Int), .int .u64 (B 5 : Int), .int .u64 (B 6 : Int), .int .u64 (B 7 : Int)], .agg #[.int .i64 (k : Int), .int .i64 f1, .int .i64 t1], .agg #[.int .i64 (k : Int), .int .i64 t1, .int .i64 (t1 + p1)], .agg #[.slice A js.length c, .int .i64 (js.length : Int), .int .u64 (B 0 : Int), .int .u64 (B 1 : Int), .int .u64 (B 2 : Int), .int .u64 (B 3 : Int), .int .u64 (B 4 : Int), .int .u64 (B 5 : Int), .int .u64 (B 6 : Int), .int .u64 (B 7 : Int)], .agg #[.int .i64 (l : Int), .int .i64 f2, .int .i64 t2], .agg #[.int .i64 (l : Int), .int .i64 t2, .int .i64 (t2 + p2)], .pointer (some ⟨x.1, 0, none⟩), .pointer (some ⟨x.2, 0, none⟩), undef, undef] : Array Value).getD kk undef) x j = (fun (x : Nat × Nat) (kk : Nat) => (#[.agg #[.slice A js.length c, .int .i64 (js.length : Int), .int .u64 (B 0 : Int), .int .u64 (B 1 : Int), .int .u64 (B 2 : Int), .int .u64 (B 3 : Int), .int .u64 (B 4 : Int), .int .u64 (B 5 : Int), .int .u64 (B 6 : Int), .int .u64 (B 7 : Int)], .agg #[.int .i64 (k : Int), .int .i64 f1, .int .i64 t1], .agg #[.int .i64 (k : Int), .int .i64 t1, .int .i64 (t1 + p1)], .agg #[.slice A js.length c, .int .i64 (js.length : Int), .int .u64 (B 0 : Int), .int .u64 (B 1 : Int), .int .u64 (B 2 : Int), .int .u64 (B 3 : Int), .int .u64 (B 4 : Int), .int .u64 (B 5 : Int), .int .u64 (B 6 : Int), .int .u64 (B 7 : Int)], .agg #[.int .i64 (l : Int), .int .i64 f2, .int .i64 t2], .agg #[.int .i64 (l : Int), .int .i64 t2, .int .i64 (t2 + p2)], .pointer (some ⟨x.1, 0, none⟩), .pointer (some ⟨x.2, 0, none⟩), undef, undef] : Array Value).getD kk undef) y j := by
              intro x y j h6 hxy
              obtain ⟨xa, xb⟩ := x; obtain ⟨ya, yb⟩ := y
              dsimp only at hxy; subst hxy
              by_cases h : j < 10
              · rcases (by omega : j = 0 ∨ j = 1 ∨ j = 2 ∨ j = 3 ∨ j = 4 ∨ j = 5 ∨ j = 7 ∨ j = 8 ∨ j = 9) with rfl | rfl | rfl | rfl | rfl | rfl | rfl | rfl | rfl <;> rfl
              · simp [Array.getD, h]
            have agree2 : ∀ (x y : Nat × Nat) (j : Nat), j ≠ 7 → x.1 = y.1 → (fun (x : Nat × Nat) (kk : Nat) => (#[.agg #[.slice A js.length c, .int .i64 (js.length : Int), .int .u64 (B 0 : Int), .int .u64 (B 1 : Int), .int .u64 (B 2 : Int), .int .u64 (B 3 : Int), .int .u64 (B 4 : Int), .int .u64 (B 5 : Int), .int .u64 (B 6 : Int), .int .u64 (B 7 : Int)], .agg #[.int .i64 (k : Int), .int .i64 f1, .int .i64 t1], .agg #[.int .i64 (k : Int), .int .i64 t1, .int .i64 (t1 + p1)], .agg #[.slice A js.length c, .int .i64 (js.length : Int), .int .u64 (B 0 : Int), .int .u64 (B 1 : Int), .int .u64 (B 2 : Int), .int .u64 (B 3 : Int), .int .u64 (B 4 : Int), .int .u64 (B 5 : Int), .int .u64 (B 6 : Int), .int .u64 (B 7 : Int)], .agg #[.int .i64 (l : Int), .int .i64 f2, .int .i64 t2], .agg #[.int .i64 (l : Int), .int .i64 t2, .int .i64 (t2 + p2)], .pointer (some ⟨x.1, 0, none⟩), .pointer (some ⟨x.2, 0, none⟩), undef, undef] : Array Value).getD kk undef) x j = (fun (x : Nat × Nat) (kk : Nat) => (#[.agg #[.slice A js.length c, .int .i64 (js.length : Int), .int .u64 (B 0 : Int), .int .u64 (B 1 : Int), .int .u64 (B 2 : Int), .int .u64 (B 3 : Int), .int .u64 (B 4 : Int), .int .u64 (B 5 : Int), .int .u64 (B 6 : Int), .int .u64 (B 7 : Int)], .agg #[.int .i64 (k : Int), .int .i64 f1, .int .i64 t1], .agg #[.int .i64 (k : Int), .int .i64 t1, .int .i64 (t1 + p1)], .agg #[.slice A js.length c, .int .i64 (js.length : Int), .int .u64 (B 0 : Int), .int .u64 (B 1 : Int), .int .u64 (B 2 : Int), .int .u64 (B 3 : Int), .int .u64 (B 4 : Int), .int .u64 (B 5 : Int), .int .u64 (B 6 : Int), .int .u64 (B 7 : Int)], .agg #[.int .i64 (l : Int), .int .i64 f2, .int .i64 t2], .agg #[.int .i64 (l : Int), .int .i64 t2, .int .i64 (t2 + p2)], .pointer (some ⟨x.1, 0, none⟩), .pointer (some ⟨x.2, 0, none⟩), undef, undef] : Array Value).getD kk undef) y j := by
              intro x y j h6 hxy
              obtain ⟨xa, xb⟩ := x; obtain ⟨ya, yb⟩ := y
              dsimp only at hxy; subst hxy
              by_cases h : j < 10
              · rcases (by omega : j = 0 ∨ j = 1 ∨ j = 2 ∨ j = 3 ∨ j = 4 ∨ j = 5 ∨ j = 6 ∨ j = 8 ∨ j = 9) with rfl | rfl | rfl | rfl | rfl | rfl | rfl | rfl | rfl <;> rfl
              · simp [Array.getD, h]
            refine wp_region_detA (γ := Nat × Nat) (by kernel_rfl) (fun x L w' => Two W2 125 #[.int .i64 0, .int .i64 0, .int .i64 0] #[.int .i64 (k : Int), .int .i64 t1, .int .i64 (t1 + p1)] #[.int .i64 (l : Int), .int .i64 t2, .int .i64 (t2 + p2)] 6 7 8 9 x L w') (fun (x : Nat × Nat) (kk : Nat) => (#[.agg #[.slice A js.length c, .int .i64 (js.length : Int), .int .u64 (B 0 : Int), .int .u64 (B 1 : Int), .int .u64 (B 2 : Int), .int .u64 (B 3 : Int), .int .u64 (B 4 : Int), .int .u64 (B 5 : Int), .int .u64 (B 6 : Int), .int .u64 (B 7 : Int)], .agg #[.int .i64 (k : Int), .int .i64 f1, .int .i64 t1], .agg #[.int .i64 (k : Int), .int .i64 t1, .int .i64 (t1 + p1)], .agg #[.slice A js.length c, .int .i64 (js.length : Int), .int .u64 (B 0 : Int), .int .u64 (B 1 : Int), .int .u64 (B 2 : Int), .int .u64 (B 3 : Int), .int .u64 (B 4 : Int), .int .u64 (B 5 : Int), .int .u64 (B 6 : Int), .int .u64 (B 7 : Int)], .agg #[.int .i64 (l : Int), .int .i64 f2, .int .i64 t2], .agg #[.int .i64 (l : Int), .int .i64 t2, .int .i64 (t2 + p2)], .pointer (some ⟨x.1, 0, none⟩), .pointer (some ⟨x.2, 0, none⟩), undef, undef] : Array Value).getD kk undef) (0, 0) (by kernel_rfl) (by kernel_rfl) ⟨(Below.refl _ _).drew, fun h => absurd h (by decide), fun h => absurd h (by decide), fun h => absurd h (by decide)⟩ ?_ ?_
            · intro x L tm W hall hS hsz hlow hval
              have ht : tm = #[.agg #[.slice A js.length c, .int .i64 (js.length : Int), .int .u64 (B 0 : Int), .int .u64 (B 1 : Int), .int .u64 (B 2 : Int), .int .u64 (B 3 : Int), .int .u64 (B 4 : Int), .int .u64 (B 5 : Int), .int .u64 (B 6 : Int), .int .u64 (B 7 : Int)], .int .i64 m, .slice (some ad) ss.length b, .pointer (some ⟨w.heap.size, 0, none⟩), undef, undef, u6, .int .i64 (k : Int), .pointer (some ⟨g8, 0, none⟩), .int .i64 (l : Int), .pointer (some ⟨g10, 0, none⟩), .pointer (some ⟨x.1, 0, none⟩), .pointer (some ⟨x.2, 0, none⟩), .agg #[.slice A js.length c, .int .i64 (js.length : Int), .int .u64 (B 0 : Int), .int .u64 (B 1 : Int), .int .u64 (B 2 : Int), .int .u64 (B 3 : Int), .int .u64 (B 4 : Int), .int .u64 (B 5 : Int), .int .u64 (B 6 : Int), .int .u64 (B 7 : Int)], .int .i64 m, .slice (some ad) ss.length b, .bool true, .bool false, .slice (some ad) ss.length b, .int .i64 (ss.length : Int), .int .i64 (k : Int), .bool true, .int .i64 (k : Int), .pointer (some (ad.add (k * 3))), .agg #[.int .i64 (k : Int), .int .i64 f1, .int .i64 t1], .slice (some ad) ss.length b, .int .i64 (k : Int), .slice (some ad) k b, .int .i64 (k : Int), .int .i64 (l : Int), .bool true, .int .i64 (l : Int), .pointer (some (ad.add (l * 3))), .agg #[.int .i64 (l : Int), .int .i64 f2, .int .i64 t2], .agg #[.slice A js.length c, .int .i64 (js.length : Int), .int .u64 (B 0 : Int), .int .u64 (B 1 : Int), .int .u64 (B 2 : Int), .int .u64 (B 3 : Int), .int .u64 (B 4 : Int), .int .u64 (B 5 : Int), .int .u64 (B 6 : Int), .int .u64 (B 7 : Int)], .agg #[.int .i64 (k : Int), .int .i64 f1, .int .i64 t1], .agg #[.int .i64 (k : Int), .int .i64 t1, .int .i64 (t1 + p1)], .agg #[.slice A js.length c, .int .i64 (js.length : Int), .int .u64 (B 0 : Int), .int .u64 (B 1 : Int), .int .u64 (B 2 : Int), .int .u64 (B 3 : Int), .int .u64 (B 4 : Int), .int .u64 (B 5 : Int), .int .u64 (B 6 : Int), .int .u64 (B 7 : Int)], .agg #[.int .i64 (l : Int), .int .i64 f2, .int .i64 t2], .agg #[.int .i64 (l : Int), .int .i64 t2, .int .i64 (t2 + p2)], u40, u41, u42, u43, u44, u45, u46, u47, u48, u49, u50, u51, u52, u53, u54, u55, u56, u57, u58, u59, u60, u61, u62, u63, u64, u65, u66, u67, u68, u69, u70, u71, u72, u73, u74, u75] := by
                refine arr_of _ _ hsz fun t ht => ?_
                have ht' : t < 76 := ht
                rcases (by omega : t = 0 ∨ t = 1 ∨ t = 2 ∨ t = 3 ∨ t = 4 ∨ t = 5 ∨ t = 6 ∨ t = 7 ∨ t = 8 ∨ t = 9 ∨ t = 10 ∨ t = 11 ∨ t = 12 ∨ t = 13 ∨ t = 14 ∨ t = 15 ∨ t = 16 ∨ t = 17 ∨ t = 18 ∨ t = 19 ∨ t = 20 ∨ t = 21 ∨ t = 22 ∨ t = 23 ∨ t = 24 ∨ t = 25 ∨ t = 26 ∨ t = 27 ∨ t = 28 ∨ t = 29 ∨ t = 30 ∨ t = 31 ∨ t = 32 ∨ t = 33 ∨ t = 34 ∨ t = 35 ∨ t = 36 ∨ t = 37 ∨ t = 38 ∨ t = 39 ∨ t = 40 ∨ t = 41 ∨ t = 42 ∨ t = 43 ∨ t = 44 ∨ t = 45 ∨ t = 46 ∨ t = 47 ∨ t = 48 ∨ t = 49 ∨ t = 50 ∨ t = 51 ∨ t = 52 ∨ t = 53 ∨ t = 54 ∨ t = 55 ∨ t = 56 ∨ t = 57 ∨ t = 58 ∨ t = 59 ∨ t = 60 ∨ t = 61 ∨ t = 62 ∨ t = 63 ∨ t = 64 ∨ t = 65 ∨ t = 66 ∨ t = 67 ∨ t = 68 ∨ t = 69 ∨ t = 70 ∨ t = 71 ∨ t = 72 ∨ t = 73 ∨ t = 74 ∨ t = 75) with rfl | rfl | rfl | rfl | rfl | rfl | rfl | rfl | rfl | rfl | rfl | rfl | rfl | rfl | rfl | rfl | rfl | rfl | rfl | rfl | rfl | rfl | rfl | rfl | rfl | rfl | rfl | rfl | rfl | rfl | rfl | rfl | rfl | rfl | rfl | rfl | rfl | rfl | rfl | rfl | rfl | rfl | rfl | rfl | rfl | rfl | rfl | rfl | rfl | rfl | rfl | rfl | rfl | rfl | rfl | rfl | rfl | rfl | rfl | rfl | rfl | rfl | rfl | rfl | rfl | rfl | rfl | rfl | rfl | rfl | rfl | rfl | rfl | rfl | rfl | rfl
                · exact hlow 0 (by kernel_rfl)
                · exact hlow 1 (by kernel_rfl)
                · exact hlow 2 (by kernel_rfl)
                · exact hlow 3 (by kernel_rfl)
                · exact hlow 4 (by kernel_rfl)
                · exact hlow 5 (by kernel_rfl)
                · exact hlow 6 (by kernel_rfl)
                · exact hlow 7 (by kernel_rfl)
                · exact hlow 8 (by kernel_rfl)
                · exact hlow 9 (by kernel_rfl)
                · exact hlow 10 (by kernel_rfl)
                · exact hval 6 _ 11 rfl rfl
                · exact hval 7 _ 12 rfl rfl
                · exact hlow 13 (by kernel_rfl)
                · exact hlow 14 (by kernel_rfl)
                · exact hlow 15 (by kernel_rfl)
                · exact hlow 16 (by kernel_rfl)
                · exact hlow 17 (by kernel_rfl)
                · exact hlow 18 (by kernel_rfl)
                · exact hlow 19 (by kernel_rfl)
                · exact hlow 20 (by kernel_rfl)
                · exact hlow 21 (by kernel_rfl)
                · exact hlow 22 (by kernel_rfl)
                · exact hlow 23 (by kernel_rfl)
                · exact hlow 24 (by kernel_rfl)
                · exact hlow 25 (by kernel_rfl)
                · exact hlow 26 (by kernel_rfl)
                · exact hlow 27 (by kernel_rfl)
                · exact hlow 28 (by kernel_rfl)
                · exact hlow 29 (by kernel_rfl)
                · exact hlow 30 (by kernel_rfl)
                · exact hlow 31 (by kernel_rfl)
                · exact hlow 32 (by kernel_rfl)
                · exact hlow 33 (by kernel_rfl)
                · exact hval 0 _ 34 rfl rfl
                · exact hval 1 _ 35 rfl rfl
                · exact hval 2 _ 36 rfl rfl
                · exact hval 3 _ 37 rfl rfl
                · exact hval 4 _ 38 rfl rfl
                · exact hval 5 _ 39 rfl rfl
                · exact hlow 40 (by kernel_rfl)
                · exact hlow 41 (by kernel_rfl)
                · exact hlow 42 (by kernel_rfl)
                · exact hlow 43 (by kernel_rfl)
                · exact hlow 44 (by kernel_rfl)
                · exact hlow 45 (by kernel_rfl)
                · exact hlow 46 (by kernel_rfl)
                · exact hlow 47 (by kernel_rfl)
                · exact hlow 48 (by kernel_rfl)
                · exact hlow 49 (by kernel_rfl)
                · exact hlow 50 (by kernel_rfl)
                · exact hlow 51 (by kernel_rfl)
                · exact hlow 52 (by kernel_rfl)
                · exact hlow 53 (by kernel_rfl)
                · exact hlow 54 (by kernel_rfl)
                · exact hlow 55 (by kernel_rfl)
                · exact hlow 56 (by kernel_rfl)
                · exact hlow 57 (by kernel_rfl)
                · exact hlow 58 (by kernel_rfl)
                · exact hlow 59 (by kernel_rfl)
                · exact hlow 60 (by kernel_rfl)
                · exact hlow 61 (by kernel_rfl)
                · exact hlow 62 (by kernel_rfl)
                · exact hlow 63 (by kernel_rfl)
                · exact hlow 64 (by kernel_rfl)
                · exact hlow 65 (by kernel_rfl)
                · exact hlow 66 (by kernel_rfl)
                · exact hlow 67 (by kernel_rfl)
                · exact hlow 68 (by kernel_rfl)
                · exact hlow 69 (by kernel_rfl)
                · exact hlow 70 (by kernel_rfl)
                · exact hlow 71 (by kernel_rfl)
                · exact hlow 72 (by kernel_rfl)
                · exact hlow 73 (by kernel_rfl)
                · exact hlow 74 (by kernel_rfl)
                · exact hlow 75 (by kernel_rfl)
              subst ht
              have hy1 := (hS.2.1 (hall 6 (by decide))).2
              have hy2 := (hS.2.2.1 (hall 7 (by decide))).2
              rw [hall 8 (by decide), if_pos rfl] at hy1
              rw [hall 9 (by decide), if_pos rfl] at hy2
              have hbS := hS.1
              obtain ⟨g1, g2⟩ := x
              dsimp only at hy1 hy2 ⊢
              clear hlow hval hsz hall hS agree1 agree2
              have pbb : ∀ X Y : World, (BlockIs X w.heap.size 86 (wlC (.slice A js.length c) (js.length : Int) B) ∧ BlockIs X g8 96 #[.int .i64 (k : Int), .int .i64 f1, .int .i64 t1] ∧ BlockIs X g10 96 #[.int .i64 (l : Int), .int .i64 f2, .int .i64 t2] ∧ BlockIs X g1 125 #[.int .i64 (k : Int), .int .i64 t1, .int .i64 (t1 + p1)] ∧ BlockIs X g2 125 #[.int .i64 (l : Int), .int .i64 t2, .int .i64 (t2 + p2)] ∧ Below w.heap.size w X ∧ Below W1.heap.size W1 X) → Below X.heap.size X Y → (BlockIs Y w.heap.size 86 (wlC (.slice A js.length c) (js.length : Int) B) ∧ BlockIs Y g8 96 #[.int .i64 (k : Int), .int .i64 f1, .int .i64 t1] ∧ BlockIs Y g10 96 #[.int .i64 (l : Int), .int .i64 f2, .int .i64 t2] ∧ BlockIs Y g1 125 #[.int .i64 (k : Int), .int .i64 t1, .int .i64 (t1 + p1)] ∧ BlockIs Y g2 125 #[.int .i64 (l : Int), .int .i64 t2, .int .i64 (t2 + p2)] ∧ Below w.heap.size w Y ∧ Below W1.heap.size W1 Y) := fun X Y h hb => ⟨h.1.below hb, h.2.1.below hb, h.2.2.1.below hb, h.2.2.2.1.below hb, h.2.2.2.2.1.below hb, h.2.2.2.2.2.1.trans (hb.mono h.2.2.2.2.2.1.size), h.2.2.2.2.2.2.trans (hb.mono h.2.2.2.2.2.2.size)⟩
              have HP0 : Hid (BlockIs W w.heap.size 86 (wlC (.slice A js.length c) (js.length : Int) B) ∧ BlockIs W g8 96 #[.int .i64 (k : Int), .int .i64 f1, .int .i64 t1] ∧ BlockIs W g10 96 #[.int .i64 (l : Int), .int .i64 f2, .int .i64 t2] ∧ BlockIs W g1 125 #[.int .i64 (k : Int), .int .i64 t1, .int .i64 (t1 + p1)] ∧ BlockIs W g2 125 #[.int .i64 (l : Int), .int .i64 t2, .int .i64 (t2 + p2)] ∧ Below w.heap.size w W ∧ Below W1.heap.size W1 W) := ⟨H2W.out.below hbS, H2K.out.below hbS, H2L.out.below hbS, hy1, hy2, H2B.out.trans (hbS.mono H2B.out.size), H2N.out.trans (hbS.mono H2N.out.size)⟩
              have hk8 : k < 8 := Nat.lt_of_lt_of_le HKJ.out h8
              have hl8 : l < 8 := Nat.lt_of_lt_of_le HLJ.out h8
              have HC1 := Lib.hid (fun X => comesBefore_any (js.length : Int) B HB8.out k l hk8 hl8 X)
              have HC2 := Lib.hid (fun X => comesBefore_any (js.length : Int) B HB8.out l k hl8 hk8 X)
              have hp1 := hp1.1; have hp2 := hp2.1
              unfold precC at HC1 HC2
              rw [HBT.out k l HKJ.out] at HC1
              rw [HBT.out l k HLJ.out] at HC2
              clear hy1 hy2 hbS HSK HSL H2W H2K H2L H2B H2N infoS hk8 hl8
              obtain ⟨hbw_, hbx_, hby_, hbs_, hbt_, _, _⟩ := HP0.out
              have cw0 := hbw_.cell 0
              have cw1 := hbw_.cell 1
              have cw2 := hbw_.cell 2
              have cw3 := hbw_.cell 3
              have cw4 := hbw_.cell 4
              have cw5 := hbw_.cell 5
              have cw6 := hbw_.cell 6
              have cw7 := hbw_.cell 7
              have cw8 := hbw_.cell 8
              have cw9 := hbw_.cell 9
              have cx1 := hbx_.cell 1
              have cy1 := hby_.cell 1
              have cs0 := hbs_.cell 0
              have ct0 := hbt_.cell 0
              have cs1 := hbs_.cell 1
              have ct1 := hbt_.cell 1
              have cs2 := hbs_.cell 2
              have ct2 := hbt_.cell 2
              simp only [wlC, List.getElem?_toArray, List.getElem?_cons_zero, List.getElem?_cons_succ] at cw0 cw1 cw2 cw3 cw4 cw5 cw6 cw7 cw8 cw9 cx1 cy1 cs0 cs1 cs2 ct0 ct1 ct2
              clear hbw_ hbx_ hby_ hbs_ hbt_
              by_cases hf : f1 = f2
              · subst hf
                have HOV := Lib.hid (overlap_any (k : Int) (l : Int) t1 (t1 + p1) t2 (t2 + p2) W)
                cases hov : (decide (t1 < t2 + p2) && decide (t2 < t1 + p1))
                · rw [hov] at HOV
                  have HOF := Lib.hid hov
                  clear hov
                  go_wp2_with fail
                  refine (HOV.out).mono ?_
                  rintro e v1 ⟨rfl, hb⟩
                  have HP1 := Lib.hid (pbb _ _ HP0.out hb)
                  clear hb cw0 cw1 cw2 cw3 cw4 cw5 cw6 cw7 cw8 cw9 cx1 cy1 cs0 cs1 cs2 ct0 ct1 ct2
                  obtain ⟨hbw_, hbx_, hby_, hbs_, hbt_, _, _⟩ := HP1.out
                  have cw0 := hbw_.cell 0
                  have cw1 := hbw_.cell 1
                  have cw2 := hbw_.cell 2
                  have cw3 := hbw_.cell 3
                  have cw4 := hbw_.cell 4
                  have cw5 := hbw_.cell 5
                  have cw6 := hbw_.cell 6
                  have cw7 := hbw_.cell 7
                  have cw8 := hbw_.cell 8
                  have cw9 := hbw_.cell 9
                  have cx1 := hbx_.cell 1
                  have cy1 := hby_.cell 1
                  have cs0 := hbs_.cell 0
                  have ct0 := hbt_.cell 0
                  have cs1 := hbs_.cell 1
                  have ct1 := hbt_.cell 1
                  have cs2 := hbs_.cell 2
                  have ct2 := hbt_.cell 2
                  simp only [wlC, List.getElem?_toArray, List.getElem?_cons_zero, List.getElem?_cons_succ] at cw0 cw1 cw2 cw3 cw4 cw5 cw6 cw7 cw8 cw9 cx1 cy1 cs0 cs1 cs2 ct0 ct1 ct2
                  clear hbw_ hbx_ hby_ hbs_ hbt_
                  cases hT1 : T k l
                  · have HT1 := Lib.hid hT1
                    have HCX := Lib.hid (HC1.out v1)
                    rw [hT1] at HCX
                    clear hT1
                    go_wp2_with fail
                    refine (HCX.out).mono ?_
                    rintro e v2 ⟨rfl, hb⟩
                    have HP2 := Lib.hid (pbb _ _ HP1.out hb)
                    clear hb cw0 cw1 cw2 cw3 cw4 cw5 cw6 cw7 cw8 cw9 cx1 cy1 cs0 cs1 cs2 ct0 ct1 ct2
                    clear HCX
                    obtain ⟨hbw_, hbx_, hby_, hbs_, hbt_, _, _⟩ := HP2.out
                    have cw0 := hbw_.cell 0
                    have cw1 := hbw_.cell 1
                    have cw2 := hbw_.cell 2
                    have cw3 := hbw_.cell 3
                    have cw4 := hbw_.cell 4
                    have cw5 := hbw_.cell 5
                    have cw6 := hbw_.cell 6
                    have cw7 := hbw_.cell 7
                    have cw8 := hbw_.cell 8
                    have cw9 := hbw_.cell 9
                    have cx1 := hbx_.cell 1
                    have cy1 := hby_.cell 1
                    have cs0 := hbs_.cell 0
                    have ct0 := hbt_.cell 0
                    have cs1 := hbs_.cell 1
                    have ct1 := hbt_.cell 1
                    have cs2 := hbs_.cell 2
                    have ct2 := hbt_.cell 2
                    simp only [wlC, List.getElem?_toArray, List.getElem?_cons_zero, List.getElem?_cons_succ] at cw0 cw1 cw2 cw3 cw4 cw5 cw6 cw7 cw8 cw9 cx1 cy1 cs0 cs1 cs2 ct0 ct1 ct2
                    clear hbw_ hbx_ hby_ hbs_ hbt_
                    cases hT2 : T l k
                    · have HT2 := Lib.hid hT2
                      have HCX := Lib.hid (HC2.out v2)
                      rw [hT2] at HCX
                      clear hT2
                      go_wp2_with fail
                      refine (HCX.out).mono ?_
                      rintro e v3 ⟨rfl, hb⟩
                      have HP3 := Lib.hid (pbb _ _ HP2.out hb)
                      clear hb cw0 cw1 cw2 cw3 cw4 cw5 cw6 cw7 cw8 cw9 cx1 cy1 cs0 cs1 cs2 ct0 ct1 ct2
                      clear HCX
                      have hcl := HCL.out
                      rw [HOF.out, HT1.out, HT2.out] at hcl
                      simp only [Bool.and_true, Bool.and_false, Bool.true_and, Bool.false_and, Bool.or_false, Bool.or_true, Bool.false_or, Bool.true_or, Bool.or_self, Bool.and_self, decide_true] at hcl
                      have HSM3 := Lib.hid (HLM.out hcl)
                      clear hcl
                      go_wp2
                      go_roundw
                      case rel => exact ⟨l + 1, by omega, by go_num, HSM3.out, HP3.out.2.2.2.2.2.2⟩
                      case measure => simp [intOf]; omega
                    · have HT2 := Lib.hid hT2
                      have HCX := Lib.hid (HC2.out v2)
                      rw [hT2] at HCX
                      clear hT2
                      go_wp2_with fail
                      refine (HCX.out).mono ?_
                      rintro e v4 ⟨rfl, hb⟩
                      have HP4 := Lib.hid (pbb _ _ HP2.out hb)
                      clear hb cw0 cw1 cw2 cw3 cw4 cw5 cw6 cw7 cw8 cw9 cx1 cy1 cs0 cs1 cs2 ct0 ct1 ct2
                      clear HCX
                      obtain ⟨hbw_, hbx_, hby_, hbs_, hbt_, _, _⟩ := HP4.out
                      have cw0 := hbw_.cell 0
                      have cw1 := hbw_.cell 1
                      have cw2 := hbw_.cell 2
                      have cw3 := hbw_.cell 3
                      have cw4 := hbw_.cell 4
                      have cw5 := hbw_.cell 5
                      have cw6 := hbw_.cell 6
                      have cw7 := hbw_.cell 7
                      have cw8 := hbw_.cell 8
                      have cw9 := hbw_.cell 9
                      have cx1 := hbx_.cell 1
                      have cy1 := hby_.cell 1
                      have cs0 := hbs_.cell 0
                      have ct0 := hbt_.cell 0
                      have cs1 := hbs_.cell 1
                      have ct1 := hbt_.cell 1
                      have cs2 := hbs_.cell 2
                      have ct2 := hbt_.cell 2
                      simp only [wlC, List.getElem?_toArray, List.getElem?_cons_zero, List.getElem?_cons_succ] at cw0 cw1 cw2 cw3 cw4 cw5 cw6 cw7 cw8 cw9 cx1 cy1 cs0 cs1 cs2 ct0 ct1 ct2
                      clear hbw_ hbx_ hby_ hbs_ hbt_
                      by_cases hR2 : t1 < t2 + p2
                      · have HQ2 := Lib.hid (decide_eq_true hR2)
                        have hcl := HCL.out
                        rw [HOF.out, HT1.out, HT2.out, HQ2.out] at hcl
                        simp only [Bool.and_true, Bool.and_false, Bool.true_and, Bool.false_and, Bool.or_false, Bool.or_true, Bool.false_or, Bool.true_or, Bool.or_self, Bool.and_self, decide_true] at hcl
                        have hbad := HBL.out hcl
                        clear hcl
                        go_wp2
                        go_ret
                        exact ⟨by rw [hbad]; rfl, HP4.out.2.2.2.2.2.1⟩
                      · have HQ2 := Lib.hid (decide_eq_false hR2)
                        have hRf : decide (t1 < t2 + p2) = false := decide_eq_false hR2
                        have hcl := HCL.out
                        rw [HOF.out, HT1.out, HT2.out, HQ2.out] at hcl
                        simp only [Bool.and_true, Bool.and_false, Bool.true_and, Bool.false_and, Bool.or_false, Bool.or_true, Bool.false_or, Bool.true_or, Bool.or_self, Bool.and_self, decide_true] at hcl
                        have HSM3 := Lib.hid (HLM.out hcl)
                        clear hcl
                        go_wp2
                        go_roundw
                        case rel => exact ⟨l + 1, by omega, by go_num, HSM3.out, HP4.out.2.2.2.2.2.2⟩
                        case measure => simp [intOf]; omega
                  · have HT1 := Lib.hid hT1
                    have HCX := Lib.hid (HC1.out v1)
                    rw [hT1] at HCX
                    clear hT1
                    go_wp2_with fail
                    refine (HCX.out).mono ?_
                    rintro e v5 ⟨rfl, hb⟩
                    have HP5 := Lib.hid (pbb _ _ HP1.out hb)
                    clear hb cw0 cw1 cw2 cw3 cw4 cw5 cw6 cw7 cw8 cw9 cx1 cy1 cs0 cs1 cs2 ct0 ct1 ct2
                    clear HCX
                    obtain ⟨hbw_, hbx_, hby_, hbs_, hbt_, _, _⟩ := HP5.out
                    have cw0 := hbw_.cell 0
                    have cw1 := hbw_.cell 1
                    have cw2 := hbw_.cell 2
                    have cw3 := hbw_.cell 3
                    have cw4 := hbw_.cell 4
                    have cw5 := hbw_.cell 5
                    have cw6 := hbw_.cell 6
                    have cw7 := hbw_.cell 7
                    have cw8 := hbw_.cell 8
                    have cw9 := hbw_.cell 9
                    have cx1 := hbx_.cell 1
                    have cy1 := hby_.cell 1
                    have cs0 := hbs_.cell 0
                    have ct0 := hbt_.cell 0
                    have cs1 := hbs_.cell 1
                    have ct1 := hbt_.cell 1
                    have cs2 := hbs_.cell 2
                    have ct2 := hbt_.cell 2
                    simp only [wlC, List.getElem?_toArray, List.getElem?_cons_zero, List.getElem?_cons_succ] at cw0 cw1 cw2 cw3 cw4 cw5 cw6 cw7 cw8 cw9 cx1 cy1 cs0 cs1 cs2 ct0 ct1 ct2
                    clear hbw_ hbx_ hby_ hbs_ hbt_
                    by_cases hR1 : t2 < t1 + p1
                    · have HQ1 := Lib.hid (decide_eq_true hR1)
                      have hcl := HCL.out
                      rw [HOF.out, HT1.out, HQ1.out] at hcl
                      simp only [Bool.and_true, Bool.and_false, Bool.true_and, Bool.false_and, Bool.or_false, Bool.or_true, Bool.false_or, Bool.true_or, Bool.or_self, Bool.and_self, decide_true] at hcl
                      have hbad := HBL.out hcl
                      clear hcl
                      go_wp2
                      go_ret
                      exact ⟨by rw [hbad]; rfl, HP5.out.2.2.2.2.2.1⟩
                    · have HQ1 := Lib.hid (decide_eq_false hR1)
                      have hRf : decide (t2 < t1 + p1) = false := decide_eq_false hR1
                      cases hT2 : T l k
                      · have HT2 := Lib.hid hT2
                        have HCX := Lib.hid (HC2.out v5)
                        rw [hT2] at HCX
                        clear hT2
                        go_wp2_with fail
                        refine (HCX.out).mono ?_
                        rintro e v6 ⟨rfl, hb⟩
                        have HP6 := Lib.hid (pbb _ _ HP5.out hb)
                        clear hb cw0 cw1 cw2 cw3 cw4 cw5 cw6 cw7 cw8 cw9 cx1 cy1 cs0 cs1 cs2 ct0 ct1 ct2
                        clear HCX
                        have hcl := HCL.out
                        rw [HOF.out, HT1.out, HQ1.out, HT2.out] at hcl
                        simp only [Bool.and_true, Bool.and_false, Bool.true_and, Bool.false_and, Bool.or_false, Bool.or_true, Bool.false_or, Bool.true_or, Bool.or_self, Bool.and_self, decide_true] at hcl
                        have HSM3 := Lib.hid (HLM.out hcl)
                        clear hcl
                        go_wp2
                        go_roundw
                        case rel => exact ⟨l + 1, by omega, by go_num, HSM3.out, HP6.out.2.2.2.2.2.2⟩
                        case measure => simp [intOf]; omega
                      · have HT2 := Lib.hid hT2
                        have HCX := Lib.hid (HC2.out v5)
                        rw [hT2] at HCX
                        clear hT2
                        go_wp2_with fail
                        refine (HCX.out).mono ?_
                        rintro e v7 ⟨rfl, hb⟩
                        have HP7 := Lib.hid (pbb _ _ HP5.out hb)
                        clear hb cw0 cw1 cw2 cw3 cw4 cw5 cw6 cw7 cw8 cw9 cx1 cy1 cs0 cs1 cs2 ct0 ct1 ct2
                        clear HCX
                        obtain ⟨hbw_, hbx_, hby_, hbs_, hbt_, _, _⟩ := HP7.out
                        have cw0 := hbw_.cell 0
                        have cw1 := hbw_.cell 1
                        have cw2 := hbw_.cell 2
                        have cw3 := hbw_.cell 3
                        have cw4 := hbw_.cell 4
                        have cw5 := hbw_.cell 5
                        have cw6 := hbw_.cell 6
                        have cw7 := hbw_.cell 7
                        have cw8 := hbw_.cell 8
                        have cw9 := hbw_.cell 9
                        have cx1 := hbx_.cell 1
                        have cy1 := hby_.cell 1
                        have cs0 := hbs_.cell 0
                        have ct0 := hbt_.cell 0
                        have cs1 := hbs_.cell 1
                        have ct1 := hbt_.cell 1
                        have cs2 := hbs_.cell 2
                        have ct2 := hbt_.cell 2
                        simp only [wlC, List.getElem?_toArray, List.getElem?_cons_zero, List.getElem?_cons_succ] at cw0 cw1 cw2 cw3 cw4 cw5 cw6 cw7 cw8 cw9 cx1 cy1 cs0 cs1 cs2 ct0 ct1 ct2
                        clear hbw_ hbx_ hby_ hbs_ hbt_
                        by_cases hR2 : t1 < t2 + p2
                        · have HQ2 := Lib.hid (decide_eq_true hR2)
                          have hcl := HCL.out
                          rw [HOF.out, HT1.out, HQ1.out, HT2.out, HQ2.out] at hcl
                          simp only [Bool.and_true, Bool.and_false, Bool.true_and, Bool.false_and, Bool.or_false, Bool.or_true, Bool.false_or, Bool.true_or, Bool.or_self, Bool.and_self, decide_true] at hcl
                          have hbad := HBL.out hcl
                          clear hcl
                          go_wp2
                          go_ret
                          exact ⟨by rw [hbad]; rfl, HP7.out.2.2.2.2.2.1⟩
                        · have HQ2 := Lib.hid (decide_eq_false hR2)
                          have hRf : decide (t1 < t2 + p2) = false := decide_eq_false hR2
                          exact absurd hR2 (by omega)
                · rw [hov] at HOV
                  have HOF := Lib.hid hov
                  clear hov
                  go_wp2_with fail
                  refine (HOV.out).mono ?_
                  rintro e v8 ⟨rfl, hb⟩
                  have HP8 := Lib.hid (pbb _ _ HP0.out hb)
                  clear hb cw0 cw1 cw2 cw3 cw4 cw5 cw6 cw7 cw8 cw9 cx1 cy1 cs0 cs1 cs2 ct0 ct1 ct2
                  have hcl := HCL.out
                  rw [HOF.out] at hcl
                  simp only [Bool.and_true, Bool.and_false, Bool.true_and, Bool.false_and, Bool.or_false, Bool.or_true, Bool.false_or, Bool.true_or, Bool.or_self, Bool.and_self, decide_true] at hcl
                  have hbad := HBL.out hcl
                  clear hcl
                  go_wp2
                  go_ret
                  exact ⟨by rw [hbad]; rfl, HP8.out.2.2.2.2.2.1⟩
              · have hfb : (f1 == f2) = false := by simp [hf]
                have HOF := Lib.hid (decide_eq_false hf)
                cases hT1 : T k l
                · have HT1 := Lib.hid hT1
                  have HCX := Lib.hid (HC1.out W)
                  rw [hT1] at HCX
                  clear hT1
                  go_wp2_with fail
                  refine (HCX.out).mono ?_
                  rintro e v9 ⟨rfl, hb⟩
                  have HP9 := Lib.hid (pbb _ _ HP0.out hb)
                  clear hb cw0 cw1 cw2 cw3 cw4 cw5 cw6 cw7 cw8 cw9 cx1 cy1 cs0 cs1 cs2 ct0 ct1 ct2
                  clear HCX
                  obtain ⟨hbw_, hbx_, hby_, hbs_, hbt_, _, _⟩ := HP9.out
                  have cw0 := hbw_.cell 0
                  have cw1 := hbw_.cell 1
                  have cw2 := hbw_.cell 2
                  have cw3 := hbw_.cell 3
                  have cw4 := hbw_.cell 4
                  have cw5 := hbw_.cell 5
                  have cw6 := hbw_.cell 6
                  have cw7 := hbw_.cell 7
                  have cw8 := hbw_.cell 8
                  have cw9 := hbw_.cell 9
                  have cx1 := hbx_.cell 1
                  have cy1 := hby_.cell 1
                  have cs0 := hbs_.cell 0
                  have ct0 := hbt_.cell 0
                  have cs1 := hbs_.cell 1
                  have ct1 := hbt_.cell 1
                  have cs2 := hbs_.cell 2
                  have ct2 := hbt_.cell 2
                  simp only [wlC, List.getElem?_toArray, List.getElem?_cons_zero, List.getElem?_cons_succ] at cw0 cw1 cw2 cw3 cw4 cw5 cw6 cw7 cw8 cw9 cx1 cy1 cs0 cs1 cs2 ct0 ct1 ct2
                  clear hbw_ hbx_ hby_ hbs_ hbt_
                  cases hT2 : T l k
                  · have HT2 := Lib.hid hT2
                    have HCX := Lib.hid (HC2.out v9)
                    rw [hT2] at HCX
                    clear hT2
                    go_wp2_with fail
                    refine (HCX.out).mono ?_
                    rintro e v10 ⟨rfl, hb⟩
                    have HP10 := Lib.hid (pbb _ _ HP9.out hb)
                    clear hb cw0 cw1 cw2 cw3 cw4 cw5 cw6 cw7 cw8 cw9 cx1 cy1 cs0 cs1 cs2 ct0 ct1 ct2
                    clear HCX
                    have hcl := HCL.out
                    rw [HOF.out, HT1.out, HT2.out] at hcl
                    simp only [Bool.and_true, Bool.and_false, Bool.true_and, Bool.false_and, Bool.or_false, Bool.or_true, Bool.false_or, Bool.true_or, Bool.or_self, Bool.and_self, decide_true] at hcl
                    have HSM3 := Lib.hid (HLM.out hcl)
                    clear hcl
                    go_wp2
                    go_roundw
                    case rel => exact ⟨l + 1, by omega, by go_num, HSM3.out, HP10.out.2.2.2.2.2.2⟩
                    case measure => simp [intOf]; omega
                  · have HT2 := Lib.hid hT2
                    have HCX := Lib.hid (HC2.out v9)
                    rw [hT2] at HCX
                    clear hT2
                    go_wp2_with fail
                    refine (HCX.out).mono ?_
                    rintro e v11 ⟨rfl, hb⟩
                    have HP11 := Lib.hid (pbb _ _ HP9.out hb)
                    clear hb cw0 cw1 cw2 cw3 cw4 cw5 cw6 cw7 cw8 cw9 cx1 cy1 cs0 cs1 cs2 ct0 ct1 ct2
                    clear HCX
                    obtain ⟨hbw_, hbx_, hby_, hbs_, hbt_, _, _⟩ := HP11.out
                    have cw0 := hbw_.cell 0
                    have cw1 := hbw_.cell 1
                    have cw2 := hbw_.cell 2
                    have cw3 := hbw_.cell 3
                    have cw4 := hbw_.cell 4
                    have cw5 := hbw_.cell 5
                    have cw6 := hbw_.cell 6
                    have cw7 := hbw_.cell 7
                    have cw8 := hbw_.cell 8
                    have cw9 := hbw_.cell 9
                    have cx1 := hbx_.cell 1
                    have cy1 := hby_.cell 1
                    have cs0 := hbs_.cell 0
                    have ct0 := hbt_.cell 0
                    have cs1 := hbs_.cell 1
                    have ct1 := hbt_.cell 1
                    have cs2 := hbs_.cell 2
                    have ct2 := hbt_.cell 2
                    simp only [wlC, List.getElem?_toArray, List.getElem?_cons_zero, List.getElem?_cons_succ] at cw0 cw1 cw2 cw3 cw4 cw5 cw6 cw7 cw8 cw9 cx1 cy1 cs0 cs1 cs2 ct0 ct1 ct2
                    clear hbw_ hbx_ hby_ hbs_ hbt_
                    by_cases hR2 : t1 < t2 + p2
                    · have HQ2 := Lib.hid (decide_eq_true hR2)
                      have hcl := HCL.out
                      rw [HOF.out, HT1.out, HT2.out, HQ2.out] at hcl
                      simp only [Bool.and_true, Bool.and_false, Bool.true_and, Bool.false_and, Bool.or_false, Bool.or_true, Bool.false_or, Bool.true_or, Bool.or_self, Bool.and_self, decide_true] at hcl
                      have hbad := HBL.out hcl
                      clear hcl
                      go_wp2
                      go_ret
                      exact ⟨by rw [hbad]; rfl, HP11.out.2.2.2.2.2.1⟩
                    · have HQ2 := Lib.hid (decide_eq_false hR2)
                      have hRf : decide (t1 < t2 + p2) = false := decide_eq_false hR2
                      have hcl := HCL.out
                      rw [HOF.out, HT1.out, HT2.out, HQ2.out] at hcl
                      simp only [Bool.and_true, Bool.and_false, Bool.true_and, Bool.false_and, Bool.or_false, Bool.or_true, Bool.false_or, Bool.true_or, Bool.or_self, Bool.and_self, decide_true] at hcl
                      have HSM3 := Lib.hid (HLM.out hcl)
                      clear hcl
                      go_wp2
                      go_roundw
                      case rel => exact ⟨l + 1, by omega, by go_num, HSM3.out, HP11.out.2.2.2.2.2.2⟩
                      case measure => simp [intOf]; omega
                · have HT1 := Lib.hid hT1
                  have HCX := Lib.hid (HC1.out W)
                  rw [hT1] at HCX
                  clear hT1
                  go_wp2_with fail
                  refine (HCX.out).mono ?_
                  rintro e v12 ⟨rfl, hb⟩
                  have HP12 := Lib.hid (pbb _ _ HP0.out hb)
                  clear hb cw0 cw1 cw2 cw3 cw4 cw5 cw6 cw7 cw8 cw9 cx1 cy1 cs0 cs1 cs2 ct0 ct1 ct2
                  clear HCX
                  obtain ⟨hbw_, hbx_, hby_, hbs_, hbt_, _, _⟩ := HP12.out
                  have cw0 := hbw_.cell 0
                  have cw1 := hbw_.cell 1
                  have cw2 := hbw_.cell 2
                  have cw3 := hbw_.cell 3
                  have cw4 := hbw_.cell 4
                  have cw5 := hbw_.cell 5
                  have cw6 := hbw_.cell 6
                  have cw7 := hbw_.cell 7
                  have cw8 := hbw_.cell 8
                  have cw9 := hbw_.cell 9
                  have cx1 := hbx_.cell 1
                  have cy1 := hby_.cell 1
                  have cs0 := hbs_.cell 0
                  have ct0 := hbt_.cell 0
                  have cs1 := hbs_.cell 1
                  have ct1 := hbt_.cell 1
                  have cs2 := hbs_.cell 2
                  have ct2 := hbt_.cell 2
                  simp only [wlC, List.getElem?_toArray, List.getElem?_cons_zero, List.getElem?_cons_succ] at cw0 cw1 cw2 cw3 cw4 cw5 cw6 cw7 cw8 cw9 cx1 cy1 cs0 cs1 cs2 ct0 ct1 ct2
                  clear hbw_ hbx_ hby_ hbs_ hbt_
                  by_cases hR1 : t2 < t1 + p1
                  · have HQ1 := Lib.hid (decide_eq_true hR1)
                    have hcl := HCL.out
                    rw [HOF.out, HT1.out, HQ1.out] at hcl
                    simp only [Bool.and_true, Bool.and_false, Bool.true_and, Bool.false_and, Bool.or_false, Bool.or_true, Bool.false_or, Bool.true_or, Bool.or_self, Bool.and_self, decide_true] at hcl
                    have hbad := HBL.out hcl
                    clear hcl
                    go_wp2
                    go_ret
                    exact ⟨by rw [hbad]; rfl, HP12.out.2.2.2.2.2.1⟩
                  · have HQ1 := Lib.hid (decide_eq_false hR1)
                    have hRf : decide (t2 < t1 + p1) = false := decide_eq_false hR1
                    cases hT2 : T l k
                    · have HT2 := Lib.hid hT2
                      have HCX := Lib.hid (HC2.out v12)
                      rw [hT2] at HCX
                      clear hT2
                      go_wp2_with fail
                      refine (HCX.out).mono ?_
                      rintro e v13 ⟨rfl, hb⟩
                      have HP13 := Lib.hid (pbb _ _ HP12.out hb)
                      clear hb cw0 cw1 cw2 cw3 cw4 cw5 cw6 cw7 cw8 cw9 cx1 cy1 cs0 cs1 cs2 ct0 ct1 ct2
                      clear HCX
                      have hcl := HCL.out
                      rw [HOF.out, HT1.out, HQ1.out, HT2.out] at hcl
                      simp only [Bool.and_true, Bool.and_false, Bool.true_and, Bool.false_and, Bool.or_false, Bool.or_true, Bool.false_or, Bool.true_or, Bool.or_self, Bool.and_self, decide_true] at hcl
                      have HSM3 := Lib.hid (HLM.out hcl)
                      clear hcl
                      go_wp2
                      go_roundw
                      case rel => exact ⟨l + 1, by omega, by go_num, HSM3.out, HP13.out.2.2.2.2.2.2⟩
                      case measure => simp [intOf]; omega
                    · have HT2 := Lib.hid hT2
                      have HCX := Lib.hid (HC2.out v12)
                      rw [hT2] at HCX
                      clear hT2
                      go_wp2_with fail
                      refine (HCX.out).mono ?_
                      rintro e v14 ⟨rfl, hb⟩
                      have HP14 := Lib.hid (pbb _ _ HP12.out hb)
                      clear hb cw0 cw1 cw2 cw3 cw4 cw5 cw6 cw7 cw8 cw9 cx1 cy1 cs0 cs1 cs2 ct0 ct1 ct2
                      clear HCX
                      obtain ⟨hbw_, hbx_, hby_, hbs_, hbt_, _, _⟩ := HP14.out
                      have cw0 := hbw_.cell 0
                      have cw1 := hbw_.cell 1
                      have cw2 := hbw_.cell 2
                      have cw3 := hbw_.cell 3
                      have cw4 := hbw_.cell 4
                      have cw5 := hbw_.cell 5
                      have cw6 := hbw_.cell 6
                      have cw7 := hbw_.cell 7
                      have cw8 := hbw_.cell 8
                      have cw9 := hbw_.cell 9
                      have cx1 := hbx_.cell 1
                      have cy1 := hby_.cell 1
                      have cs0 := hbs_.cell 0
                      have ct0 := hbt_.cell 0
                      have cs1 := hbs_.cell 1
                      have ct1 := hbt_.cell 1
                      have cs2 := hbs_.cell 2
                      have ct2 := hbt_.cell 2
                      simp only [wlC, List.getElem?_toArray, List.getElem?_cons_zero, List.getElem?_cons_succ] at cw0 cw1 cw2 cw3 cw4 cw5 cw6 cw7 cw8 cw9 cx1 cy1 cs0 cs1 cs2 ct0 ct1 ct2
                      clear hbw_ hbx_ hby_ hbs_ hbt_
                      by_cases hR2 : t1 < t2 + p2
                      · have HQ2 := Lib.hid (decide_eq_true hR2)
                        have hcl := HCL.out
                        rw [HOF.out, HT1.out, HQ1.out, HT2.out, HQ2.out] at hcl
                        simp only [Bool.and_true, Bool.and_false, Bool.true_and, Bool.false_and, Bool.or_false, Bool.or_true, Bool.false_or, Bool.true_or, Bool.or_self, Bool.and_self, decide_true] at hcl
                        have hbad := HBL.out hcl
                        clear hcl
                        go_wp2
                        go_ret
                        exact ⟨by rw [hbad]; rfl, HP14.out.2.2.2.2.2.1⟩
                      · have HQ2 := Lib.hid (decide_eq_false hR2)
                        have hRf : decide (t1 < t2 + p2) = false := decide_eq_false hR2
                        exact absurd hR2 (by omega)
            · intro x L ac w' q op hLs hop hLi hLd hLn hS hlow hdep _
              have hq : q < 10 := (Array.getElem?_eq_some_iff.1 hop).1
              rcases (by omega : q = 0 ∨ q = 1 ∨ q = 2 ∨ q = 3 ∨ q = 4 ∨ q = 5 ∨ q = 6 ∨ q = 7 ∨ q = 8 ∨ q = 9) with rfl | rfl | rfl | rfl | rfl | rfl | rfl | rfl | rfl | rfl
              · obtain rfl := Option.some.inj hop
                exact ⟨wanted_free rfl, .inl ⟨x, w', fun _ _ => rfl, exec_load10 (x := .tmp 3) rfl (hlow 3 (by kernel_rfl)) (H2W.out.below hS.1) rfl, hS.other (by decide) (by decide) (by decide) (by decide)⟩⟩
              · obtain rfl := Option.some.inj hop
                have e8 : ac.tmps[8]?.getD undef = .pointer (some ⟨g8, 0, none⟩) := (Array.getD_eq_getD_getElem? ..).symm.trans (hlow 8 (by kernel_rfl))
                have hk := H2K.out.below hS.1
                have c0 := hk.cell 0
                have c1 := hk.cell 1
                have c2 := hk.cell 2
                simp only [List.getElem?_toArray, List.getElem?_cons_zero, List.getElem?_cons_succ] at c0 c1 c2
                exact ⟨wanted_free rfl, .inl ⟨x, w', fun _ _ => rfl, by simp [execOp, Act.eval, e8, c0, c1, c2, go_sem], hS.other (by decide) (by decide) (by decide) (by decide)⟩⟩
              · obtain rfl := Option.some.inj hop
                have e34 : ac.tmps[34]?.getD undef = .agg #[.slice A js.length c, .int .i64 (js.length : Int), .int .u64 (B 0 : Int), .int .u64 (B 1 : Int), .int .u64 (B 2 : Int), .int .u64 (B 3 : Int), .int .u64 (B 4 : Int), .int .u64 (B 5 : Int), .int .u64 (B 6 : Int), .int .u64 (B 7 : Int)] := (Array.getD_eq_getD_getElem? ..).symm.trans (hdep 0 _ 34 (by kernel_rfl) rfl rfl)
                have e35 : ac.tmps[35]?.getD undef = .agg #[.int .i64 (k : Int), .int .i64 f1, .int .i64 t1] := (Array.getD_eq_getD_getElem? ..).symm.trans (hdep 1 _ 35 (by kernel_rfl) rfl rfl)
                refine ⟨wanted_free rfl, .inr (.inl ⟨95, #[.agg #[.slice A js.length c, .int .i64 (js.length : Int), .int .u64 (B 0 : Int), .int .u64 (B 1 : Int), .int .u64 (B 2 : Int), .int .u64 (B 3 : Int), .int .u64 (B 4 : Int), .int .u64 (B 5 : Int), .int .u64 (B 6 : Int), .int .u64 (B 7 : Int)], .agg #[.int .i64 (k : Int), .int .i64 f1, .int .i64 t1]], by simp [execOp, Act.eval, e34, e35, go_sem], (HSK.out w' hS.1).mono ?_⟩)⟩
                rintro e w2 ⟨rfl, hb⟩
                exact ⟨x, fun _ _ => rfl, rfl, (hS.below hb).other (by decide) (by decide) (by decide) (by decide)⟩
              · obtain rfl := Option.some.inj hop
                exact ⟨wanted_free rfl, .inl ⟨x, w', fun _ _ => rfl, exec_load10 (x := .tmp 3) rfl (hlow 3 (by kernel_rfl)) (H2W.out.below hS.1) rfl, hS.other (by decide) (by decide) (by decide) (by decide)⟩⟩
              · obtain rfl := Option.some.inj hop
                have e10 : ac.tmps[10]?.getD undef = .pointer (some ⟨g10, 0, none⟩) := (Array.getD_eq_getD_getElem? ..).symm.trans (hlow 10 (by kernel_rfl))
                have hk := H2L.out.below hS.1
                have c0 := hk.cell 0
                have c1 := hk.cell 1
                have c2 := hk.cell 2
                simp only [List.getElem?_toArray, List.getElem?_cons_zero, List.getElem?_cons_succ] at c0 c1 c2
                exact ⟨wanted_free rfl, .inl ⟨x, w', fun _ _ => rfl, by simp [execOp, Act.eval, e10, c0, c1, c2, go_sem], hS.other (by decide) (by decide) (by decide) (by decide)⟩⟩
              · obtain rfl := Option.some.inj hop
                have e37 : ac.tmps[37]?.getD undef = .agg #[.slice A js.length c, .int .i64 (js.length : Int), .int .u64 (B 0 : Int), .int .u64 (B 1 : Int), .int .u64 (B 2 : Int), .int .u64 (B 3 : Int), .int .u64 (B 4 : Int), .int .u64 (B 5 : Int), .int .u64 (B 6 : Int), .int .u64 (B 7 : Int)] := (Array.getD_eq_getD_getElem? ..).symm.trans (hdep 3 _ 37 (by kernel_rfl) rfl rfl)
                have e38 : ac.tmps[38]?.getD undef = .agg #[.int .i64 (l : Int), .int .i64 f2, .int .i64 t2] := (Array.getD_eq_getD_getElem? ..).symm.trans (hdep 4 _ 38 (by kernel_rfl) rfl rfl)
                refine ⟨wanted_free rfl, .inr (.inl ⟨95, #[.agg #[.slice A js.length c, .int .i64 (js.length : Int), .int .u64 (B 0 : Int), .int .u64 (B 1 : Int), .int .u64 (B 2 : Int), .int .u64 (B 3 : Int), .int .u64 (B 4 : Int), .int .u64 (B 5 : Int), .int .u64 (B 6 : Int), .int .u64 (B 7 : Int)], .agg #[.int .i64 (l : Int), .int .i64 f2, .int .i64 t2]], by simp [execOp, Act.eval, e37, e38, go_sem], (HSL.out w' hS.1).mono ?_⟩)⟩
                rintro e w2 ⟨rfl, hb⟩
                exact ⟨x, fun _ _ => rfl, rfl, (hS.below hb).other (by decide) (by decide) (by decide) (by decide)⟩
              · obtain rfl := Option.some.inj hop
                have hn : L.getD 8 true = false := hLn 8 (by kernel_rfl)
                exact ⟨wanted_free rfl, .inl ⟨(w'.heap.size, x.2), w'.alloc (.cells #[.int .i64 0, .int .i64 0, .int .i64 0] 125), fun j hj => agree1 _ _ j (fun h => by subst h; rw [hLi] at hj; cases hj) rfl, by simp [execOp, Act.eval, go_sem, infoS], hS.new1 (by decide) (by decide) (by decide) hn⟩⟩
              · obtain rfl := Option.some.inj hop
                have hn : L.getD 9 true = false := hLn 9 (by kernel_rfl)
                exact ⟨wanted_free rfl, .inl ⟨(x.1, w'.heap.size), w'.alloc (.cells #[.int .i64 0, .int .i64 0, .int .i64 0] 125), fun j hj => agree2 _ _ j (fun h => by subst h; rw [hLi] at hj; cases hj) rfl, by simp [execOp, Act.eval, go_sem, infoS], hS.new2 (by decide) (by decide) (by decide) hn⟩⟩
              · obtain rfl := Option.some.inj hop
                have e11 : ac.tmps[11]?.getD undef = .pointer (some ⟨x.1, 0, none⟩) := (Array.getD_eq_getD_getElem? ..).symm.trans (hdep 6 _ 11 (by kernel_rfl) rfl rfl)
                have e36 : ac.tmps[36]?.getD undef = .agg #[.int .i64 (k : Int), .int .i64 t1, .int .i64 (t1 + p1)] := (Array.getD_eq_getD_getElem? ..).symm.trans (hdep 2 _ 36 (by kernel_rfl) rfl rfl)
                have ha : L.getD 6 true = true := hLd 6 (by kernel_rfl)
                obtain ⟨hge, hz⟩ := hS.2.1 ha
                rw [hLi, if_neg (by decide)] at hz
                have z0 := hz.cell 0
                have z1 := hz.cell 1
                have z2 := hz.cell 2
                have y0 := hz.frozen 0
                have y1 := hz.frozen 1
                have y2 := hz.frozen 2
                simp only [List.getElem?_toArray, List.getElem?_cons_zero, List.getElem?_cons_succ] at z0 z1 z2
                obtain ⟨hbW, hB, hoth⟩ := three_set (B := W2.heap.size) (v0 := .int .i64 (k : Int)) (v1 := .int .i64 t1) (v2 := .int .i64 (t1 + p1)) hz hge
                exact ⟨wanted_free rfl, .inr (.inr ⟨_, rfl, by simp [execOp, Act.eval, e11, e36, z0, z1, z2, y0, y1, y2, go_sem, infoS], hS.put1 (by decide) (by decide) (by decide) (by rw [hLs]; decide) ha hbW hB hoth⟩)⟩
              · obtain rfl := Option.some.inj hop
                have e12 : ac.tmps[12]?.getD undef = .pointer (some ⟨x.2, 0, none⟩) := (Array.getD_eq_getD_getElem? ..).symm.trans (hdep 7 _ 12 (by kernel_rfl) rfl rfl)
                have e39 : ac.tmps[39]?.getD undef = .agg #[.int .i64 (l : Int), .int .i64 t2, .int .i64 (t2 + p2)] := (Array.getD_eq_getD_getElem? ..).symm.trans (hdep 5 _ 39 (by kernel_rfl) rfl rfl)
                have ha : L.getD 7 true = true := hLd 7 (by kernel_rfl)
                obtain ⟨hge, hz⟩ := hS.2.2.1 ha
                rw [hLi, if_neg (by decide)] at hz
                have z0 := hz.cell 0
                have z1 := hz.cell 1
                have z2 := hz.cell 2
                have y0 := hz.frozen 0
                have y1 := hz.frozen 1
                have y2 := hz.frozen 2
                simp only [List.getElem?_toArray, List.getElem?_cons_zero, List.getElem?_cons_succ] at z0 z1 z2
                obtain ⟨hbW, hB, hoth⟩ := three_set (B := W2.heap.size) (v0 := .int .i64 (l : Int)) (v1 := .int .i64 t2) (v2 := .int .i64 (t2 + p2)) hz hge
                exact ⟨wanted_free rfl, .inr (.inr ⟨_, rfl, by simp [execOp, Act.eval, e12, e39, z0, z1, z2, y0, y1, y2, go_sem, infoS], hS.put2 (by decide) (by decide) (by decide) (by rw [hLs]; decide) ha hbW hB hoth⟩)⟩
          · obtain rfl : l = k := by omega
            have HSM2 := Lib.hid (HSM.out hO.out)
            have HF := Lib.hid (HBN.out.trans (hb.mono HBN.out.size))
            clear hO
            go_wp2
            go_roundw
            case rel => exact ⟨l + 1, by omega, by go_num, HSM2.out, HF.out⟩
            case measure => simp [intOf]; omega
      · obtain rfl : k = ss.length := by omega
        have hgd := HGD.out (by rw [← HL.out]; exact hO.out)
        clear hO
        go_wp2
        go_ret
        exact ⟨by rw [hgd]; rfl, hbw⟩
end Go.Proofs.YtapbgmmkkngdoaaDoor

namespace Go.Proofs.YtapbgmmkkngdoaaDoor
open Go.RowKit
def RetBB (w : World) (r : Bool × Bool) (e : Ending) (w' : World) : Prop := e = .returned (.tuple #[.bool r.1, .bool r.2]) ∧ Below w.heap.size w w'
end Go.Proofs.YtapbgmmkkngdoaaDoor

namespace Go.Proofs.YtapbgmmkkngdoaaDoor
set_option linter.unusedSimpArgs false
open Go.RowKit
def isPlanR (js : List J) (m : Int) (E : List Pr) (ss : List Sp) : Bool × Bool := if goodB js m E then (planB js m (tabB js.length E) ss, true) else (false, false)
def planLenR (js : List J) (m : Int) (E : List Pr) (ss : List Sp) : Int × Bool := if goodB js m E then (if planB js m (tabB js.length E) ss then (lenT js ss, true) else (0, false)) else (0, false)
theorem on_good (js : List J) (m : Int) (E : List Pr) : goodB js m E = onB js m E := by
  unfold onB
  cases hm : inB m 1 4
  · unfold goodB; rw [hm]; simp
  · rw [wl_good m hm]; rfl
set_option maxRecDepth 100000 in
set_option maxHeartbeats 2000000 in
theorem lengthOf_any (A D : Option Addr) (c b : Nat) (js : List J) (ss : List Sp) (m n : Int) (B : Nat → Nat) (w : World) (hr : Row w A (jc js)) (hs : Row w D (spc ss)) (hok : ∀ j ∈ js, okJ j = true) (h8 : js.length ≤ 8) (ht : tksB js.length m ss = true) :
    Calls Tryd.prog 72 #[.agg (wlC (.slice A js.length c) n B), .slice D ss.length b] w fun e w' => e = .returned (.int .i64 (lenT js ss)) ∧ Below w.heap.size w w' := by
  have HV : Hid (lenT js ss = mostGo (endsT js ss) 0) := rfl
  have HL : Hid ((endsT js ss).length = ss.length) := by show _ = _; rw [endsT_len, (tks_out ht).1]
  have hl8 : ss.length ≤ 8 := by rw [(tks_out ht).1]; exact h8
  have b0 := (Below.refl w.heap.size w).alloc (Nat.le_refl _) (.cells (wlC (.slice A js.length c) n B) 86)
  have HE := Lib.hid (endsOf_any A D c b js ss m n B _ (hr.below b0) (hs.below b0) hok h8 ht)
  have HB0 := Lib.hid b0
  clear hr hs hok ht b0
  unfold wlC
  unfold wlC at HE HB0
  go_enter Tryd.func72, Tryd.ntmps72
  go_wp2_with fail
  refine HE.out.mono ?_
  rintro e w1 ⟨rfl, hB, hb⟩
  have HB := Lib.hid hB
  have HF := Lib.hid (HB0.out.trans (hb.mono HB0.out.size))
  clear hB hb HE HB0
  generalize (w.alloc _).heap.size + 1 = g at *
  go_wp2
  go_loop [5, 12] (fun tv iv => ∃ (k : Nat) (t : Int), k ≤ ss.length ∧ iv = .int .i64 (k : Int) ∧ tv = .int .i64 t ∧ Hid (mostGo ((endsT js ss).drop k) t = mostGo (endsT js ss) 0)) (fun _ iv => ss.length - (intOf iv).toNat)
  case atStart => exact ⟨0, 0, Nat.zero_le _, rfl, rfl, rfl⟩
  case round =>
    obtain ⟨k, t, hk, rfl, rfl, hT⟩ := hrel
    by_cases hlt : k < ss.length
    · have hkt : k < (endsT js ss).length := by rw [HL.out]; exact hlt
      have hck := HB.out.int hkt
      have HT2 := Lib.hid ((mostGo_drop (endsT js ss) k t hkt).symm.trans hT.out)
      have hk0 : (0 : Int) ≤ k := by omega
      have hk1 : (k : Int) < ss.length := by omega
      generalize (endsT js ss)[k]'hkt = x at *
      have hmx2 : (if t < x then x else t) = max t x := by split <;> omega
      clear hT hkt
      go_wp2
      all_goals
        go_round
        case rel => exact ⟨k + 1, max t x, by omega, by go_num, by first | rfl | (congr 1; omega), HT2⟩
        case measure => simp [intOf]; omega
    · obtain rfl : k = ss.length := by omega
      have hT' := hT.out
      rw [List.drop_eq_nil_of_le (by rw [HL.out]; omega)] at hT'
      have HT2 : Hid (t = mostGo (endsT js ss) 0) := hT'
      clear hT hT'
      go_wp2
      go_ret
      exact ⟨by rw [HV.out, ← HT2.out]; rfl, HF.out⟩
section
variable (A C D : Option Addr) (c d b : Nat) (js : List J) (m : Int) (E : List Pr) (ss : List Sp) (w : World) (hr : Row w A (jc js)) (hq : Row w C (pc E)) (hs : Row w D (spc ss)) (hn : js.length ≤ 10000000) (hl : E.length ≤ 10000000)
include hr hq hs hn hl
set_option maxRecDepth 100000 in
set_option maxHeartbeats 1000000 in
theorem spec_IsPlan (_hm : ss.length ≤ 10000000 ∧ ss.length ≤ b) : Calls Tryd.prog 37 #[.slice A js.length c, .int .i64 m, .slice C E.length d, .slice D ss.length b] w (RetBB w (isPlanR js m E ss)) := by
  have HRR : Hid (isPlanR js m E ss = if goodB js m E then (planB js m (tabB js.length E) ss, true) else (false, false)) := rfl
  have HG := Lib.hid (l7Good_any A C c d js m E w hr hq hn hl)
  have HR := Lib.hid hr
  have HQ := Lib.hid hq
  have HS := Lib.hid hs
  clear hr hq hs
  go_enter Tryd.func37, Tryd.ntmps37
  go_wp2_with fail
  refine HG.out.mono ?_
  rintro e w1 ⟨rfl, hb1⟩
  cases hg : goodB js m E
  · rw [hg] at HRR
    have HB := Lib.hid hb1
    clear hg hb1
    go_wp2
    go_ret2
    exact ⟨by rw [HRR.out]; rfl, HB.out⟩
  · rw [hg] at HRR
    have HT := Lib.hid (l7Plan_any A C D c d b js m E ss w1 (HR.out.below hb1) (HQ.out.below hb1) (HS.out.below hb1) hl hg)
    have HB := Lib.hid hb1
    clear hg hb1
    go_wp2_with fail
    refine HT.out.mono ?_
    rintro e w2 ⟨rfl, hb2⟩
    have HF := Lib.hid (HB.out.trans (hb2.mono HB.out.size))
    clear hb2
    go_wp2
    go_ret2
    exact ⟨by rw [HRR.out]; rfl, HF.out⟩
set_option maxRecDepth 100000 in
set_option maxHeartbeats 1000000 in
theorem spec_PlanLength (_hm : ss.length ≤ 10000000 ∧ ss.length ≤ b) : Calls Tryd.prog 41 #[.slice A js.length c, .int .i64 m, .slice C E.length d, .slice D ss.length b] w (RetNB w (planLenR js m E ss)) := by
  have HRR : Hid (planLenR js m E ss = if goodB js m E then (if planB js m (tabB js.length E) ss then (lenT js ss, true) else (0, false)) else (0, false)) := rfl
  have HG := Lib.hid (l7Good_any A C c d js m E w hr hq hn hl)
  have HR := Lib.hid hr
  have HQ := Lib.hid hq
  have HS := Lib.hid hs
  clear hr hq hs
  cases hg : goodB js m E
  · rw [hg] at HRR HG
    clear hg
    go_enter Tryd.func41, Tryd.ntmps41
    go_wp2_with fail
    refine HG.out.mono ?_
    rintro e w1 ⟨rfl, hb1⟩
    have HB := Lib.hid hb1
    clear hb1
    go_wp2
    go_ret2
    exact ⟨by rw [HRR.out]; rfl, HB.out⟩
  · have HT := Lib.hid (fun W (hb : Below w.heap.size w W) => l7Plan_any A C D c d b js m E ss W (HR.out.below hb) (HQ.out.below hb) (HS.out.below hb) hl hg)
    obtain ⟨hok, h8, _, _, _, _, _⟩ := good_parts hg
    rw [hg] at HRR HG
    clear hg
    cases hp : planB js m (tabB js.length E) ss
    · rw [hp] at HRR HT
      clear hp
      go_enter Tryd.func41, Tryd.ntmps41
      go_wp2_with fail
      refine HG.out.mono ?_
      rintro e w1 ⟨rfl, hb1⟩
      have HT1 := Lib.hid (HT.out w1 hb1)
      have HB := Lib.hid hb1
      clear hb1 HT
      go_wp2_with fail
      refine HT1.out.mono ?_
      rintro e w2 ⟨rfl, hb2⟩
      have HF := Lib.hid (HB.out.trans (hb2.mono HB.out.size))
      clear hb2
      go_wp2
      go_ret2
      exact ⟨by rw [HRR.out]; rfl, HF.out⟩
    · have HN := Lib.hid (fun W (hb : Below w.heap.size w W) => l7Length_any A D c b js ss m W (HR.out.below hb) (HS.out.below hb) hok h8 (plan_out hp))
      rw [hp] at HRR HT
      clear hp hok
      go_enter Tryd.func41, Tryd.ntmps41
      go_wp2_with fail
      refine HG.out.mono ?_
      rintro e w1 ⟨rfl, hb1⟩
      have HT1 := Lib.hid (HT.out w1 hb1)
      have HB := Lib.hid hb1
      clear hb1 HT
      go_wp2_with fail
      refine HT1.out.mono ?_
      rintro e w2 ⟨rfl, hb2⟩
      have hbF := HB.out.trans (hb2.mono HB.out.size)
      have HN1 := Lib.hid (HN.out w2 hbF)
      have HF := Lib.hid hbF
      clear hb2 HN hbF
      go_wp2_with fail
      refine HN1.out.mono ?_
      rintro e w3 ⟨rfl, hb3⟩
      have HH := Lib.hid (HF.out.trans (hb3.mono HF.out.size))
      clear hb3
      go_wp2
      go_ret2
      exact ⟨by rw [HRR.out]; rfl, HH.out⟩
set_option maxRecDepth 100000 in
set_option maxHeartbeats 1000000 in
theorem impl_IsPlan (hm : ss.length ≤ 10000000 ∧ ss.length ≤ b) (hT : TzTab w) : Calls Tryd.prog 39 #[.slice A js.length c, .int .i64 m, .slice C E.length d, .slice D ss.length b] w (RetBB w (isPlanR js m E ss)) := by
  have HRR : Hid (isPlanR js m E ss = if goodB js m E then (planB js m (tabB js.length E) ss, true) else (false, false)) := rfl
  rw [on_good] at HRR
  have H := Lib.hid (workloadOn_any A C c d js m E w hr hq hn hl hT)
  have HR := Lib.hid hr
  have HS := Lib.hid hs
  clear hr hq hs hT
  go_enter Tryd.func39, Tryd.ntmps39
  go_wp2_with fail
  refine H.out.mono ?_
  rintro e w1 ⟨hb, ⟨hw, h8, rfl⟩ | ⟨hw, rfl⟩⟩
  · rw [hw, if_pos rfl] at HRR
    unfold onB at hw
    rw [Bool.and_eq_true] at hw
    obtain ⟨hok, _, hirr⟩ := wl_parts hw.2
    have hbA := hb.alloc hb.size (.cells (wlC (.slice A js.length c) (js.length : Int) (befN js.length (tabB js.length E))) 86)
    have HC := Lib.hid (isPlan_any A D c b js m (tabB js.length E) ss _ (HR.out.below hbA) (HS.out.below hbA) hm.1 hm.2 h8 hok (irr_at hirr))
    have HB := Lib.hid hbA
    clear hw hb hbA hok hirr H
    unfold wlC
    unfold wlC at HC HB
    go_wp2_with fail
    refine HC.out.mono ?_
    rintro e w2 ⟨rfl, hb2⟩
    have HF := Lib.hid (HB.out.trans (hb2.mono HB.out.size))
    clear hb2 HC HB
    go_wp2
    go_ret2
    exact ⟨by rw [HRR.out]; rfl, HF.out⟩
  · rw [hw, if_neg (by decide)] at HRR
    have HB := Lib.hid (hb.alloc hb.size (.cells wlZ 86))
    clear hw hb H
    unfold wlZ
    unfold wlZ at HB
    go_wp2
    go_ret2
    exact ⟨by rw [HRR.out]; rfl, HB.out⟩
set_option maxRecDepth 100000 in
set_option maxHeartbeats 1000000 in
theorem impl_PlanLength (hm : ss.length ≤ 10000000 ∧ ss.length ≤ b) (hT : TzTab w) : Calls Tryd.prog 42 #[.slice A js.length c, .int .i64 m, .slice C E.length d, .slice D ss.length b] w (RetNB w (planLenR js m E ss)) := by
  have HRR : Hid (planLenR js m E ss = if goodB js m E then (if planB js m (tabB js.length E) ss then (lenT js ss, true) else (0, false)) else (0, false)) := rfl
  rw [on_good] at HRR
  have H := Lib.hid (workloadOn_any A C c d js m E w hr hq hn hl hT)
  have HR := Lib.hid hr
  have HS := Lib.hid hs
  clear hr hq hs hT
  go_enter Tryd.func42, Tryd.ntmps42
  go_wp2_with fail
  refine H.out.mono ?_
  rintro e w1 ⟨hb, ⟨hw, h8, rfl⟩ | ⟨hw, rfl⟩⟩
  · rw [hw, if_pos rfl] at HRR
    unfold onB at hw
    rw [Bool.and_eq_true] at hw
    obtain ⟨hok, _, hirr⟩ := wl_parts hw.2
    have hbA := hb.alloc hb.size (.cells (wlC (.slice A js.length c) (js.length : Int) (befN js.length (tabB js.length E))) 86)
    have hx := BlockIs.new w1 86 (wlC (.slice A js.length c) (js.length : Int) (befN js.length (tabB js.length E)))
    have HX := Lib.hid hx
    have HC := Lib.hid (isPlan_any A D c b js m (tabB js.length E) ss _ (HR.out.below hbA) (HS.out.below hbA) hm.1 hm.2 h8 hok (irr_at hirr))
    have HLN := Lib.hid (fun (hp : planB js m (tabB js.length E) ss = true) W (hb : Below w.heap.size w W) => lengthOf_any A D c b js ss m (js.length : Int) (befN js.length (tabB js.length E)) W (HR.out.below hb) (HS.out.below hb) hok h8 (plan_out hp))
    have HB := Lib.hid hbA
    clear hw hb hbA hok hirr H hx
    generalize befN js.length (tabB js.length E) = B at *
    unfold wlC
    unfold wlC at HC HB HLN
    cases hp : planB js m (tabB js.length E) ss
    · rw [hp] at HRR HC
      clear hp HLN HX
      go_wp2_with fail
      refine HC.out.mono ?_
      rintro e w2 ⟨rfl, hb2⟩
      have HF := Lib.hid (HB.out.trans (hb2.mono HB.out.size))
      clear hb2 HC HB
      go_wp2
      go_ret2
      exact ⟨by rw [HRR.out]; rfl, HF.out⟩
    · have HL2 := Lib.hid (HLN.out hp)
      rw [hp] at HRR HC
      clear hp HLN
      go_wp2_with fail
      refine HC.out.mono ?_
      rintro e w2 ⟨rfl, hb2⟩
      have hbF := HB.out.trans (hb2.mono HB.out.size)
      have HF := Lib.hid hbF
      have HL3 := Lib.hid (HL2.out w2 hbF)
      unfold wlC at HX
      have hcW := HX.out.below hb2
      have cw0 := hcW.cell 0
      have cw1 := hcW.cell 1
      have cw2 := hcW.cell 2
      have cw3 := hcW.cell 3
      have cw4 := hcW.cell 4
      have cw5 := hcW.cell 5
      have cw6 := hcW.cell 6
      have cw7 := hcW.cell 7
      have cw8 := hcW.cell 8
      have cw9 := hcW.cell 9
      simp only [List.getElem?_toArray, List.getElem?_cons_zero, List.getElem?_cons_succ] at cw0 cw1 cw2 cw3 cw4 cw5 cw6 cw7 cw8 cw9
      clear hb2 HC HB HL2 hbF hcW HX
      go_wp2_with fail
      refine HL3.out.mono ?_
      rintro e w3 ⟨rfl, hb3⟩
      have HH := Lib.hid (HF.out.trans (hb3.mono HF.out.size))
      clear hb3
      go_wp2
      go_ret2
      exact ⟨by rw [HRR.out]; rfl, HH.out⟩
  · rw [hw, if_neg (by decide)] at HRR
    have HB := Lib.hid (hb.alloc hb.size (.cells wlZ 86))
    clear hw hb H
    unfold wlZ
    unfold wlZ at HB
    go_wp2
    go_ret2
    exact ⟨by rw [HRR.out]; rfl, HB.out⟩
end
end Go.Proofs.YtapbgmmkkngdoaaDoor

namespace Go.Proofs.YtapbgmmkkngdoaaDoor
open Go.RowKit Go.ChangeShapes Go.WideShapes Go.Deep

section
variable {H : Type} {enc : TypeId × Value → H} {P : Program} {w : World} {base : Nat} {spare : Nat → Bool} {held : Bool}
def wfSp (j : Sp) : Prop := (Lit.int .i64 j.j).wf = true ∧ (Lit.int .i64 j.f).wf = true ∧ (Lit.int .i64 j.t).wf = true
/-- A slice of spans that came in. -/
def IsSpansA (w : World) (A : Option Addr) (len cap : Nat) (js : List Sp) : Prop := js.length = len ∧ len ≤ cap ∧ cap ≤ maxLen ∧ Row w A (spc js) ∧ ∀ j ∈ js, wfSp j
theorem spc_range (f : Nat → Sp) (n : Nat) (u : Value) (i : Nat) (h : (spc ((List.range n).map f))[i]? = some u) : i < n * 3 ∧ (cellsSp (f (i / 3)))[i % 3]? = some u := by
  have hi : i < 3 * n := by
    have := (List.getElem?_eq_some_iff.1 h).1
    rw [spc_len] at this; simpa using this
  have hk : i / 3 < ((List.range n).map f).length := by simp; omega
  have := spc_get ((List.range n).map f) (i / 3) (i % 3) hk (by omega)
  rw [show i / 3 * 3 + i % 3 = i by omega, h] at this
  refine ⟨by omega, ?_⟩
  rw [this]
  simp
theorem open_spans {t e : TypeId} {f0 f1 f2 : Field} {fuel : Nat} {cs : List Value} {x : DataW H × List MemPlace} (ht : P.underlying t = some (.slice e)) (he : P.underlying e = some (.struct #[f0, f1, f2]))
    (hone : oneCellFields P #[f0, f1, f2] = true) (hC : P.cellsOf e = 3) (i0 : P.underlying f0.type = some (.int .i64)) (i1 : P.underlying f1.type = some (.int .i64)) (i2 : P.underlying f2.type = some (.int .i64))
    (h : DataW.trod enc P w base spare held fuel t cs = some x) : ∃ A len cap js, cs = [.slice A len cap] ∧ IsSpansA w A len cap js := by
  rcases open_slice_fields ht he hone hC h with rfl | ⟨a, len, cap, m, rfl, hl, hm, hlm, hi⟩
  · exact ⟨none, 0, 0, [], rfl, rfl, Nat.le_refl _, Nat.zero_le _, Row.nil _, by simp⟩
  · have key : ∀ i : Nat, ∃ j : Sp, i < m → (w.cell? (a.add (i * 3 + 0)) = some (.int .i64 j.j) ∧ w.cell? (a.add (i * 3 + 1)) = some (.int .i64 j.f) ∧ w.cell? (a.add (i * 3 + 2)) = some (.int .i64 j.t)) ∧ wfSp j := by
      intro i
      by_cases him : i < m
      · obtain ⟨n, hf⟩ := hi i him
        obtain ⟨v0, y0, c0, t0⟩ := hf 0 f0 rfl
        obtain ⟨v1, y1, c1, t1⟩ := hf 1 f1 rfl
        obtain ⟨v2, y2, c2, t2⟩ := hf 2 f2 rfl
        obtain ⟨n0, e0, _, w0⟩ := DataW.trod_int i0 t0
        obtain ⟨n1, e1, _, w1⟩ := DataW.trod_int i1 t1
        obtain ⟨n2, e2, _, w2⟩ := DataW.trod_int i2 t2
        injection e0 with e0 _
        injection e1 with e1 _
        injection e2 with e2 _
        subst e0 e1 e2
        exact ⟨⟨n0, n1, n2⟩, fun _ => ⟨⟨c0, c1, c2⟩, w0, w1, w2⟩⟩
      · exact ⟨sp0, fun h => absurd h him⟩
    obtain ⟨f, hf⟩ := Classical.axiomOfChoice key
    refine ⟨some a, len, cap, (List.range len).map f, rfl, by simp, hl, hm, fun hn => ?_, ?_⟩
    · rw [spc_len] at hn
      have h0 : 0 < len := by simpa using hn
      have hc0 := (hf 0 (by omega)).1.1
      have hb := lt_of_cell hc0
      rw [add_block] at hb
      refine ⟨a, rfl, hb, fun j u hu => ?_⟩
      obtain ⟨hj, hu'⟩ := spc_range f len u j hu
      obtain ⟨⟨c0, c1, c2⟩, _⟩ := hf (j / 3) (by omega)
      have ej : a.add j = a.add (j / 3 * 3 + j % 3) := by rw [show j / 3 * 3 + j % 3 = j by omega]
      rw [ej]
      have h4 : j % 3 = 0 ∨ j % 3 = 1 ∨ j % 3 = 2 := by omega
      rcases h4 with h4 | h4 | h4 <;> rw [h4] at hu' ⊢ <;> simp [cellsSp] at hu' <;> subst hu' <;> assumption
    · intro j hj
      obtain ⟨i, hi, rfl⟩ := List.mem_map.1 hj
      exact (hf i (by have := List.mem_range.1 hi; omega)).2
end
theorem szTaskS_any (A : Option Addr) (n c : Nat) (left : Int) (w : World) (hn : n ≤ maxLen) (h0 : 0 ≤ left) (h1 : left ≤ 1048576) :
    Calls Tryd.prog 36 #[.slice A n c, .int .i64 left] w fun e w' => ((e = .returned (.int .i64 (left - n)) ∧ (n : Int) ≤ left) ∨ (e = .returned (.int .i64 (-1)) ∧ left < n)) ∧ w = w' := by
  unfold maxLen at hn
  by_cases h : (n : Int) ≤ left
  · go_enter Tryd.func36, Tryd.ntmps36
    go_wp2
    go_ret
    first | exact ⟨.inl ⟨rfl, h⟩, rfl⟩ | exact ⟨.inl rfl, rfl⟩
  · go_enter Tryd.func36, Tryd.ntmps36
    go_wp2
    go_ret
    first | exact ⟨.inr ⟨rfl, by omega⟩, rfl⟩ | exact ⟨.inr rfl, rfl⟩
end Go.Proofs.YtapbgmmkkngdoaaDoor

namespace Go.Proofs.YtapbgmmkkngdoaaDoor
open Go.RowKit Go.ChangeShapes Go.WideShapes Go.Deep

section
variable {H : Type} {enc : TypeId × Value → H} {P : Program} {w : World} {base : Nat} {spare : Nat → Bool} {held : Bool}
theorem open_slice_array2 {t e k : TypeId} {fuel : Nat} {cs : List Value} {x : DataW H × List MemPlace} (ht : P.underlying t = some (.slice e)) (he : P.underlying e = some (.array 2 k))
    (hC : P.cellsOf e = 2) (hk : P.cellsOf k = 1) (h : DataW.trod enc P w base spare held fuel t cs = some x) :
    (cs = [.slice none 0 0]) ∨
    ∃ (a : Addr) (len cap m : Nat), cs = [.slice (some a) len cap] ∧ len ≤ cap ∧ cap ≤ maxLen ∧ len ≤ m ∧
      ∀ i, i < m → ∃ n : Nat, ∀ (j : Nat), j < 2 → ∃ (v : Value) (y : DataW H × List MemPlace), w.cell? (a.add (i * 2 + j)) = some v ∧ DataW.trod enc P w base spare held n k [v] = some y := by
  rcases open_slice ht h with ⟨h0, _⟩ | ⟨a, len, cap, m, n, D, Pl, hcs, hb, hl, hm, hmm, hx, hi⟩
  · exact .inl h0
  · refine .inr ⟨a, len, cap, m, hcs, hl, hm, by rw [hmm]; split <;> omega, fun i him => ?_⟩
    obtain ⟨cs', hc, ht'⟩ := hi i him
    rw [hC] at hc
    obtain ⟨ys, n', hn', hy, hlen, hyl, hf⟩ := DataW.trod_array he ht'
    obtain ⟨_, hcl, hat⟩ := World.cells?_some hc
    refine ⟨n', fun j hj => ?_⟩
    have hcell := hat j hj
    have hv : cs'[j]? = some (cs'[j]'(by omega)) := List.getElem?_eq_getElem (by omega)
    have h1 := hf j hj
    rw [hk, Nat.mul_one] at h1
    have hone' : (cs'.drop j).take 1 = [cs'[j]'(by omega)] := by
      rw [List.drop_eq_getElem_cons (by omega)]
      rfl
    rw [hone'] at h1
    have hys : ys[j]? = some (ys[j]'(by omega)) := List.getElem?_eq_getElem (by omega)
    refine ⟨_, _, ?_, h1.trans hys⟩
    rw [← Go.Deep.add_add, hcell, hv]
def wfPr (x : Pr) : Prop := (Lit.int .i64 x.1).wf = true ∧ (Lit.int .i64 x.2).wf = true
/-- A slice of pairs that came in. -/
def IsPairsA (w : World) (A : Option Addr) (len cap : Nat) (xs : List Pr) : Prop := xs.length = len ∧ len ≤ cap ∧ cap ≤ maxLen ∧ Row w A (pc xs) ∧ ∀ x ∈ xs, wfPr x
theorem pc_range (f : Nat → Pr) (n : Nat) (u : Value) (i : Nat) (h : (pc ((List.range n).map f))[i]? = some u) : i < n * 2 ∧ (cellsP (f (i / 2)))[i % 2]? = some u := by
  have hi : i < 2 * n := by
    have := (List.getElem?_eq_some_iff.1 h).1
    rw [pc_len] at this; simpa using this
  have hk : i / 2 < ((List.range n).map f).length := by simp; omega
  have := pc_get ((List.range n).map f) (i / 2) (i % 2) hk (by omega)
  rw [show i / 2 * 2 + i % 2 = i by omega, h] at this
  refine ⟨by omega, ?_⟩
  rw [this]
  simp
theorem open_pairs {t e k : TypeId} {fuel : Nat} {cs : List Value} {x : DataW H × List MemPlace} (ht : P.underlying t = some (.slice e)) (he : P.underlying e = some (.array 2 k))
    (hC : P.cellsOf e = 2) (hk : P.cellsOf k = 1) (i0 : P.underlying k = some (.int .i64))
    (h : DataW.trod enc P w base spare held fuel t cs = some x) : ∃ A len cap js, cs = [.slice A len cap] ∧ IsPairsA w A len cap js := by
  rcases open_slice_array2 ht he hC hk h with rfl | ⟨a, len, cap, m, rfl, hl, hm, hlm, hi⟩
  · exact ⟨none, 0, 0, [], rfl, rfl, Nat.le_refl _, Nat.zero_le _, Row.nil _, by simp⟩
  · have key : ∀ i : Nat, ∃ j : Pr, i < m → (w.cell? (a.add (i * 2 + 0)) = some (.int .i64 j.1) ∧ w.cell? (a.add (i * 2 + 1)) = some (.int .i64 j.2)) ∧ wfPr j := by
      intro i
      by_cases him : i < m
      · obtain ⟨n, hf⟩ := hi i him
        obtain ⟨v0, y0, c0, t0⟩ := hf 0 (by omega)
        obtain ⟨v1, y1, c1, t1⟩ := hf 1 (by omega)
        obtain ⟨n0, e0, _, w0⟩ := DataW.trod_int i0 t0
        obtain ⟨n1, e1, _, w1⟩ := DataW.trod_int i0 t1
        injection e0 with e0 _
        injection e1 with e1 _
        subst e0 e1
        exact ⟨(n0, n1), fun _ => ⟨⟨c0, c1⟩, w0, w1⟩⟩
      · exact ⟨(0, 0), fun h => absurd h him⟩
    obtain ⟨f, hf⟩ := Classical.axiomOfChoice key
    refine ⟨some a, len, cap, (List.range len).map f, rfl, by simp, hl, hm, fun hn => ?_, ?_⟩
    · rw [pc_len] at hn
      have h0 : 0 < len := by simpa using hn
      have hc0 := (hf 0 (by omega)).1.1
      have hb := lt_of_cell hc0
      rw [add_block] at hb
      refine ⟨a, rfl, hb, fun j u hu => ?_⟩
      obtain ⟨hj, hu'⟩ := pc_range f len u j hu
      obtain ⟨⟨c0, c1⟩, _⟩ := hf (j / 2) (by omega)
      have ej : a.add j = a.add (j / 2 * 2 + j % 2) := by rw [show j / 2 * 2 + j % 2 = j by omega]
      rw [ej]
      have h4 : j % 2 = 0 ∨ j % 2 = 1 := by omega
      rcases h4 with h4 | h4 <;> rw [h4] at hu' ⊢ <;> simp [cellsP] at hu' <;> subst hu' <;> assumption
    · intro j hj
      obtain ⟨i, hi, rfl⟩ := List.mem_map.1 hj
      exact (hf i (by have := List.mem_range.1 hi; omega)).2
end
theorem szIntA2S_any (A : Option Addr) (n c : Nat) (left : Int) (w : World) (hn : n ≤ maxLen) (h0 : 0 ≤ left) (h1 : left ≤ 1048576) :
    Calls Tryd.prog 11 #[.slice A n c, .int .i64 left] w fun e w' => ((e = .returned (.int .i64 (left - n)) ∧ (n : Int) ≤ left) ∨ (e = .returned (.int .i64 (-1)) ∧ left < n)) ∧ w = w' := by
  unfold maxLen at hn
  by_cases h : (n : Int) ≤ left
  · go_enter Tryd.func11, Tryd.ntmps11
    go_wp2
    go_ret
    first | exact ⟨.inl ⟨rfl, h⟩, rfl⟩ | exact ⟨.inl rfl, rfl⟩
  · go_enter Tryd.func11, Tryd.ntmps11
    go_wp2
    go_ret
    first | exact ⟨.inr ⟨rfl, by omega⟩, rfl⟩ | exact ⟨.inr rfl, rfl⟩
theorem argP_kinds : Tryd.prog.underlying 22 = some (.slice 56) ∧ Tryd.prog.underlying 56 = some (.array 2 3) ∧ Tryd.prog.cellsOf 56 = 2 ∧ Tryd.prog.cellsOf 3 = 1 :=
  ⟨Tryd.underlying22, Tryd.underlying56, by kernel_rfl, by kernel_rfl⟩
end Go.Proofs.YtapbgmmkkngdoaaDoor

namespace Go.Proofs.YtapbgmmkkngdoaaDoor
open Go.RowKit
theorem infoP2 : (Tryd.prog.info? 56).map (fun i => (i.zero, i.size, i.bytes)) = some (some (.agg #[.int .i64 0, .int .i64 0]), 2, 16) := by kernel_rfl
set_option maxRecDepth 100000 in
set_option maxHeartbeats 1000000 in
theorem toIntA2_any (x : Pr) (w : World) :
    Calls Tryd.prog 44 #[.agg #[.int .i64 x.1, .int .i64 x.2]] w fun e w' => e = .returned (.agg #[.int .i64 x.1, .int .i64 x.2]) ∧ Below w.heap.size w w' := by
  have b0 := (Below.refl w.heap.size w).alloc (Nat.le_refl _) (.cells #[.int .i64 x.1, .int .i64 x.2] 56)
  have b1 := b0.alloc b0.size (.cells #[.int .i64 0, .int .i64 0] 56)
  have b2 := b1.alloc b1.size (.cells #[.int .i64 0, .int .i64 0] 56)
  have e0 : (w.alloc (.cells #[.int .i64 x.1, .int .i64 x.2] 56)).heap.size = w.heap.size + 1 := by simp
  have e1 : ((w.alloc (.cells #[.int .i64 x.1, .int .i64 x.2] 56)).alloc (.cells #[.int .i64 0, .int .i64 0] 56)).heap.size = w.heap.size + 1 + 1 := by simp
  have h0 := ((BlockIs.new w 56 #[.int .i64 x.1, .int .i64 x.2]).below ((Below.refl _ _).alloc (Nat.le_refl _) (.cells #[.int .i64 0, .int .i64 0] 56))).below ((Below.refl _ _).alloc (Nat.le_refl _) (.cells #[.int .i64 0, .int .i64 0] 56))
  have h1 := (BlockIs.new (w.alloc (.cells #[.int .i64 x.1, .int .i64 x.2] 56)) 56 #[.int .i64 0, .int .i64 0]).below ((Below.refl _ _).alloc (Nat.le_refl _) (.cells #[.int .i64 0, .int .i64 0] 56))
  have h2 := BlockIs.new ((w.alloc (.cells #[.int .i64 x.1, .int .i64 x.2] 56)).alloc (.cells #[.int .i64 0, .int .i64 0] 56)) 56 #[.int .i64 0, .int .i64 0]
  rw [e0] at h1
  rw [e1] at h2
  have H := Lib.hid (And.intro h0 (And.intro h1 (And.intro h2 b2)))
  clear b0 b1 b2 e0 e1 h0 h1 h2
  go_enter Tryd.func44, Tryd.ntmps44
  go_wp2
  go_loopw [4] (fun i wr => ∃ (k : Nat) (u v : Int), k ≤ 2 ∧ i = .int .i64 (k : Int) ∧ Hid (1 ≤ k → u = x.1) ∧ Hid (2 ≤ k → v = x.2) ∧ BlockIs wr w.heap.size 56 #[.int .i64 x.1, .int .i64 x.2] ∧ BlockIs wr (w.heap.size + 1) 56 #[.int .i64 0, .int .i64 0] ∧ BlockIs wr (w.heap.size + 1 + 1) 56 #[.int .i64 u, .int .i64 v] ∧ Below w.heap.size w wr) (fun i _ => 2 - (intOf i).toNat)
  case atStart => exact ⟨0, 0, 0, by omega, rfl, fun h => by omega, fun h => by omega, H.out⟩
  case round =>
    obtain ⟨k, u, v, hk, rfl, hu, hv, h0, h1, h2, hb⟩ := hrel
    clear H
    have a0 := h0.cell 0
    have a1 := h0.cell 1
    have c0 := h2.cell 0
    have c1 := h2.cell 1
    have f0 := h2.frozen 0
    have f1 := h2.frozen 1
    have r0 := h1.cell 0
    have r1 := h1.cell 1
    have g0 := h1.frozen 0
    have g1 := h1.frozen 1
    simp only [List.getElem?_toArray, List.getElem?_cons_zero, List.getElem?_cons_succ] at a0 a1 c0 c1 r0 r1
    rcases (by omega : k = 0 ∨ k = 1 ∨ k = 2) with rfl | rfl | rfl
    · have H2 := Lib.hid (And.intro (h0.away (g' := w.heap.size + 1 + 1) (by omega) 0 (.int .i64 x.1)) (And.intro (h1.away (g' := w.heap.size + 1 + 1) (by omega) 0 (.int .i64 x.1)) (And.intro (h2.set 0 (.int .i64 x.1)) (hb.setCell (p := ⟨w.heap.size + 1 + 1, 0, none⟩) (by simp; omega) (.int .i64 x.1)))))
      clear h0 h1 h2 hb
      go_wp2
      go_roundw
      case rel => exact ⟨1, x.1, v, by omega, by go_num, fun _ => rfl, fun h => by omega, H2.out⟩
      case measure => simp [intOf]
    · have H2 := Lib.hid (And.intro (h0.away (g' := w.heap.size + 1 + 1) (by omega) 1 (.int .i64 x.2)) (And.intro (h1.away (g' := w.heap.size + 1 + 1) (by omega) 1 (.int .i64 x.2)) (And.intro (h2.set 1 (.int .i64 x.2)) (hb.setCell (p := ⟨w.heap.size + 1 + 1, 1, none⟩) (by simp; omega) (.int .i64 x.2)))))
      clear h0 h1 h2 hb
      go_wp2
      go_roundw
      case rel => exact ⟨2, u, x.2, by omega, by go_num, fun _ => hu.out (by omega), fun _ => rfl, H2.out⟩
      case measure => simp [intOf]
    · obtain rfl := hu.out (by omega)
      obtain rfl := hv.out (by omega)
      have H2 := Lib.hid (And.intro ((h1.set 0 (.int .i64 x.1)).set 1 (.int .i64 x.2)) ((hb.setCell (p := ⟨w.heap.size + 1, 0, none⟩) (by simp) (.int .i64 x.1)).setCell (p := ⟨w.heap.size + 1, 1, none⟩) (by simp) (.int .i64 x.2)))
      clear h0 h1 h2 hb
      go_wp2
      have hZ := H2.out.1
      generalize World.setCell _ _ _ = W at *
      have q0 := hZ.cell 0
      have q1 := hZ.cell 1
      simp at q0 q1
      exact bodyPost_ret (v := .agg #[.int .i64 x.1, .int .i64 x.2]) (by simp [results, Tryd.results44, q0, q1, go_sem]) rfl ⟨rfl, H2.out.2⟩
def set2 (cs : Array Value) (p : Nat) (x : Pr) : Array Value := (cs.setIfInBounds p (.int .i64 x.1)).setIfInBounds (p + 1) (.int .i64 x.2)
theorem set2_size (cs : Array Value) (p : Nat) (x : Pr) : (set2 cs p x).size = cs.size := by unfold set2; simp
theorem Upto.step2 {xs : List Pr} {k : Nat} {cs : Array Value} (h : Upto (pc xs) (k * 2) cs) (hk : k < xs.length) : Upto (pc xs) ((k + 1) * 2) (set2 cs (k * 2) xs[k]) := by
  have hl := pc_len xs
  have g0 : (pc xs)[k * 2]'(by omega) = .int .i64 xs[k].1 := by
    have := pc_get xs k 0 hk (by omega); rw [List.getElem?_eq_getElem (by omega)] at this; exact Option.some.inj this
  have g1 : (pc xs)[k * 2 + 1]'(by omega) = .int .i64 xs[k].2 := by
    have := pc_get xs k 1 hk (by omega); rw [List.getElem?_eq_getElem (by omega)] at this; exact Option.some.inj this
  have h1 := h.step (by omega)
  rw [g0] at h1
  have h2 := h1.step (by omega)
  rw [g1] at h2
  rw [show (k + 1) * 2 = k * 2 + 1 + 1 by omega]
  exact h2
theorem BlockIs.set2 {w : World} {g : Nat} {t : TypeId} {cs : Array Value} (h : BlockIs w g t cs) (p : Nat) (x : Pr) :
    BlockIs ((w.setCell ⟨g, p, none⟩ (.int .i64 x.1)).setCell ⟨g, p + 1, none⟩ (.int .i64 x.2)) g t (set2 cs p x) := (h.set p _).set (p + 1) _
theorem toIntA2S_any (A : Option Addr) (c : Nat) (xs : List Pr) (w : World) (hr : Row w A (pc xs)) (hn : xs.length ≤ 10000000) :
    Calls Tryd.prog 13 #[.slice A xs.length c] w fun e w' => ∃ g, e = .returned (.slice (some ⟨g, 0, none⟩) xs.length xs.length) ∧ w.heap.size ≤ g ∧ w'.ownsRow w.heap.size 56 2 (.slice (some ⟨g, 0, none⟩) xs.length xs.length) xs.length (pc xs) ∧ Below w.heap.size w w' := by
  have hmk := run_make_rows (P := Tryd.prog) 22 56 (.agg #[.int .i64 0, .int .i64 0]) 2 16 Tryd.underlying22 infoP2 .i64 .i64 xs.length (by omega) (by omega)
  go_enter Tryd.func13, Tryd.ntmps13
  go_wp2
  go_loopw [4] (fun i wr => ∃ (k : Nat) (cs : Array Value), k ≤ xs.length ∧ i = .int .i64 k ∧ BlockIs wr w.heap.size 56 cs ∧ Hid (Upto (pc xs) (k * 2) cs) ∧ Below w.heap.size w wr) (fun i _ => xs.length - (intOf i).toNat)
  case atStart =>
    exact ⟨0, _, Nat.zero_le _, rfl, BlockIs.new _ _ _, ⟨by rw [size_madeCells, pc_len]; omega, by omega⟩, (Below.refl _ _).alloc (Nat.le_refl _) _⟩
  case round =>
    obtain ⟨k, cs, hk, rfl, hB, hC, hb⟩ := hrel
    clear hmk
    by_cases hlt : k < xs.length
    · obtain ⟨ad, hA, hbl, hc0, hc1⟩ := (hr.below hb).pair hlt
      subst hA
      go_wp2_with fail
      refine (toIntA2_any xs[k] _).mono ?_
      rintro e w1 ⟨rfl, hb1⟩
      have hz : cs.size = 2 * xs.length := by rw [hC.out.1, pc_len]
      have hB1 := hB.below hb1
      obtain ⟨v0, hk0⟩ := hB1.has (i := k * 2) (by omega)
      obtain ⟨v1, hk1⟩ := hB1.has (i := k * 2 + 1) (by omega)
      have hf0 := hB1.frozen (k * 2)
      have hf1 := hB1.frozen (k * 2 + 1)
      have HC := Lib.hid (hC.out.step2 hlt)
      have HB := Lib.hid (hB1.set2 (k * 2) xs[k])
      have Hb := Lib.hid (hb.trans (hb1.mono hb.size))
      clear hz hB1 hB hC hb hb1 hr hc0 hc1
      generalize xs[k] = j at *
      go_wp2
      go_roundw
      case rel => exact ⟨k + 1, _, by omega, by go_num, HB.out, HC.out, (Hb.out.setCell (Nat.le_refl _) _).setCell (Nat.le_refl _) _⟩
      case measure => simp [intOf]; omega
    · go_wp2
      go_ret
      obtain rfl : k = xs.length := by omega
      refine ⟨_, rfl, Nat.le_refl _, ?_, hb⟩
      have hC' := hC.out
      rw [show xs.length * 2 = (pc xs).length by rw [pc_len]; omega] at hC'
      have hsz : cs.size = xs.length * 2 := by rw [hC'.1, pc_len]; omega
      have := hB.own (base := w.heap.size) (n := xs.length) (c := xs.length) (size := 2) (Nat.le_refl _) (by omega) (Nat.le_refl _) (by unfold maxLen; omega) (by omega)
      rwa [List.take_of_length_le (by simp [hsz]), hC'.all] at this
theorem toIntA2S_seg (A : Option Addr) (c : Nat) (xs : List Pr) (w : World) (hr : Row w A (pc xs)) (hn : xs.length ≤ 10000000) :
    Calls Tryd.prog 13 #[.slice A xs.length c] w fun e w' => ∃ g, e = .returned (.slice (some ⟨g, 0, none⟩) xs.length xs.length) ∧ Seg w' 56 2 w.heap.size w'.heap.size (some ⟨g, 0, none⟩) xs.length xs.length (pc xs) ∧ Below w.heap.size w w' :=
  (toIntA2S_any A c xs w hr hn).mono fun _ _ ⟨g, he, _, ho, hb⟩ => ⟨g, he, Seg.of_own ho, hb⟩
end Go.Proofs.YtapbgmmkkngdoaaDoor
