/- Texts joined: InsL LmI Rpt LpI LpF LpO LsQ TkI Tot TkE TkJ TkO LwI Rule RuleS Wrong SortM SortI Ruled SetB OwnM RegInvG OrdS RuledO TeI. -/
import Derived.Test.YtejgpecmjfgfbaaDoorShelf
import Derived.Shelf.Spec.SlicesInsert
import Derived.Test.YtejgpecmjfgfbaaDoorJw1
import Derived.StillTailTactics
import Derived.Test.YtejgpecmjfgfbaaDoorRegInv
import Derived.Laws.CopyOwn
import Derived.Test.YtejgpecmjfgfbaaDoorLsP
import Derived.Test.YtejgpecmjfgfbaaDoorTkP
import Derived.Test.YtejgpecmjfgfbaaDoorMbr
import Derived.Test.YtejgpecmjfgfbaaDoorRegX
import Derived.Shelf.RegionOpen
import Derived.IntWalk
import Derived.RegionTactic
import Derived.BigRegion
import Derived.Test.YtejgpecmjfgfbaaDoorGrpP
import Derived.Test.YtejgpecmjfgfbaaDoorRulP
import Derived.Test.YtejgpecmjfgfbaaDoorOwnSS
set_option linter.unusedSimpArgs false
set_option linter.unusedVariables false
namespace Go.Proofs
open Go.Shelf
end Go.Proofs
namespace Go.Proofs.YtejgpecmjfgfbaaDoor
open Go.RowKit
/-- Cells written one after the other. -/
def setsA (cs : Array Value) : Nat → List Value → Array Value
  | _, [] => cs
  | o, v :: r => setsA (cs.setIfInBounds o v) (o + 1) r
theorem setsA_size : ∀ (vs : List Value) (o : Nat) (cs : Array Value), (setsA cs o vs).size = cs.size
  | [], _, _ => rfl
  | v :: r, o, cs => by unfold setsA; rw [setsA_size r]; simp
theorem BlockIs.sets {g : Nat} {t : TypeId} : ∀ (vs : List Value) (o : Nat) {w : World} {cs : Array Value}, BlockIs w g t cs → BlockIs (w.setCells g o vs) g t (setsA cs o vs)
  | [], _, _, _, h => h
  | v :: r, o, _, _, h => BlockIs.sets r (o + 1) (h.set o v)
theorem Below.sets {B g : Nat} (hg : B ≤ g) : ∀ (vs : List Value) (o : Nat) {a w : World}, Below B a w → Below B a (w.setCells g o vs)
  | [], _, _, _, h => h
  | v :: r, o, _, _, h => Below.sets hg r (o + 1) (h.setCell (p := ⟨g, o, none⟩) hg v)
theorem setsA_at : ∀ (vs : List Value) (o : Nat) (cs : Array Value) (j : Nat), o + vs.length ≤ cs.size → (setsA cs o vs)[j]? = if o ≤ j ∧ j < o + vs.length then vs[j - o]? else cs[j]?
  | [], o, cs, j, _ => by rw [if_neg (by simp)]; rfl
  | v :: r, o, cs, j, h => by
    simp only [List.length_cons] at h ⊢
    unfold setsA
    rw [setsA_at r (o + 1) _ j (by simp; omega)]
    by_cases h1 : o + 1 ≤ j ∧ j < o + 1 + r.length
    · rw [if_pos h1, if_pos (by omega), show j - o = (j - (o + 1)) + 1 by omega]; rfl
    · rw [if_neg h1]
      by_cases h2 : j = o
      · subst h2; rw [if_pos (by omega), Array.getElem?_setIfInBounds, if_pos rfl, if_pos (by omega)]; simp
      · rw [if_neg (by omega), Array.getElem?_setIfInBounds, if_neg (by omega)]
theorem ins_at {α : Type} (R : List α) (x : α) (t j : Nat) (h : t ≤ R.length) : (R.take t ++ x :: R.drop t)[j]? = if j < t then R[j]? else if j = t then some x else R[j - 1]? := by
  have hl : (R.take t).length = t := by simp; omega
  by_cases h1 : j < t
  · rw [if_pos h1, List.getElem?_append_left (by omega), List.getElem?_take, if_pos h1]
  · rw [if_neg h1, List.getElem?_append_right (by omega), hl]
    by_cases h2 : j = t
    · subst h2; simp
    · rw [if_neg h2, show j - t = (j - t - 1) + 1 by omega, List.getElem?_cons_succ, List.getElem?_drop]
      congr 1; omega
/-- What is in the cells after the shift and the write. -/
theorem shift_take {cur : Array Value} {R : List Value} {x : Value} {t : Nat} (hs : R.length < cur.size) (hR : ∀ j, j < R.length → cur[j]? = R[j]?) (ht : t < R.length) :
    (setsA (setsA cur (t + 1) (R.drop t)) t [x]).toList.take (R.length + 1) = R.take t ++ x :: R.drop t := by
  apply List.ext_getElem?
  intro j
  rw [ins_at R x t j (by omega), List.getElem?_take]
  by_cases hj : j < R.length + 1
  · rw [if_pos hj, Array.getElem?_toList, setsA_at _ _ _ _ (by rw [setsA_size]; simp; omega), setsA_at _ _ _ _ (by simp; omega)]
    by_cases h1 : j < t
    · rw [if_pos h1, if_neg (by omega), if_neg (by omega), hR j (by omega)]
    · rw [if_neg h1]
      by_cases h2 : j = t
      · subst h2; simp
      · rw [if_neg h2, if_neg (by simp; omega), if_pos (by simp; omega), List.getElem?_drop]
        congr 1; omega
  · rw [if_neg hj, if_neg (by omega), if_neg (by omega), List.getElem?_eq_none (by omega)]
theorem end_take {cur : Array Value} {R : List Value} {x : Value} (hs : R.length < cur.size) (hR : ∀ j, j < R.length → cur[j]? = R[j]?) :
    (setsA cur R.length [x]).toList.take (R.length + 1) = R.take R.length ++ x :: R.drop R.length := by
  apply List.ext_getElem?
  intro j
  rw [ins_at R x R.length j (by omega), List.getElem?_take]
  by_cases hj : j < R.length + 1
  · rw [if_pos hj, Array.getElem?_toList, setsA_at _ _ _ _ (by simp; omega)]
    by_cases h1 : j < R.length
    · rw [if_pos h1, if_neg (by omega), hR j h1]
    · have h2 : j = R.length := by omega
      subst h2; simp
  · rw [if_neg hj, if_neg (by omega), if_neg (by omega), List.getElem?_eq_none (by omega)]
/-- One place left out. -/
def restI (o : List Int) (f : Nat) : List Int := o.take f ++ o.drop (f + 1)
def movedI (o : List Int) (f t : Nat) : List Int := (restI o f).take t ++ o.getD f 0 :: (restI o f).drop t
theorem restI_len {o : List Int} {f : Nat} (h : f < o.length) : (restI o f).length + 1 = o.length := by unfold restI; simp; omega
theorem movedI_len {o : List Int} {f t : Nat} (h : f < o.length) (ht : t < o.length) : (movedI o f t).length = o.length := by
  have := restI_len h
  unfold movedI; simp; omega
def insB (o : List Int) (f t : Int) : Bool := ordB o.length o && (inB f 0 (o.length - 1) && inB t 0 (o.length - 1))
def insR (o : List Int) (f t : Int) : List Int × Bool := if insB o f t then (movedI o f.toNat t.toNat, true) else ([], false)
theorem insR_len (o : List Int) (f t : Int) (hm : o.length ≤ 10000000) : (insR o f t).1.length ≤ 10000000 := by
  unfold insR
  cases h : insB o f t
  · simp
  · unfold insB at h
    simp only [Bool.and_eq_true] at h
    have h1 := inB_out h.2.1
    have h2 := inB_out h.2.2
    simp only [if_true]
    rw [movedI_len (by omega) (by omega)]; exact hm
set_option maxRecDepth 100000 in
/-- slices.Delete of one, from cells of its own. -/
theorem delete_one {w : World} {g c : Nat} {cur : Array Value} {o : List Int} {f : Nat} (hB : BlockIs w g 3 cur) (hs : cur.size = c) (hc : o.length ≤ c) (hm : c ≤ maxLen) (ht : cur.toList.take o.length = ic o) (hf : f < o.length) :
    Calls Tryd.prog 114 #[.slice (some ⟨g, 0, none⟩) o.length c, .int .i64 (f : Int), .int .i64 ((f : Int) + 1)] w fun e w' => e = .returned (.slice (some ⟨g, 0, none⟩) (restI o f).length c) ∧ ∃ cur' : Array Value, BlockIs w' g 3 cur' ∧ cur'.size = c ∧ (∀ j, j < (restI o f).length → cur'[j]? = (ic (restI o f))[j]?) ∧ ∀ B, B ≤ g → B ≤ w.heap.size → Below B w w' := by
  have hcell : ∀ j, j < o.length → w.cell? ⟨g, 0 + j, none⟩ = some (.int .i64 (o.getD j 0)) := fun j hj => by
    rw [hB.cell, Nat.zero_add, ← Array.getElem?_toList, ← List.getElem?_take_of_lt hj, ht]
    unfold ic; simp [hj]
  have H := Tryd.slices_Delete_int_cells g 0 o.length c f (f + 1) o w (Nat.le_refl _) hc hm (by omega) (by omega) hcell (fun j _ => hB.frozen _)
  rw [show ((f + 1 : Nat) : Int) = (f : Int) + 1 from rfl] at H
  refine H.mono ?_
  rintro e w' ⟨rfl, q, rfl⟩
  have hrl := restI_len hf
  refine ⟨by rw [show o.length - (f + 1 - f) = (restI o f).length by omega], _, (hB.drewN q).sets _ 0, by rw [setsA_size]; exact hs, fun j hj => ?_, fun B h1 h2 => Below.sets h1 _ 0 (show Below B w (w.drewN q) from have h := Below.refl B w; ⟨h.os, h.tape, h.output, h.size, h.block⟩)⟩
  have hls : (List.map (Value.int .i64) ((o.take o.length).take f ++ (o.take o.length).drop (f + 1) ++ List.replicate (f + 1 - f) 0)) = ic (restI o f) ++ [.int .i64 0] := by
    rw [List.take_length, show f + 1 - f = 1 by omega]
    unfold ic restI; simp
  rw [hls, setsA_at _ _ _ _ (by simp [ic_len]; omega), if_pos (by simp [ic_len]; omega), Nat.sub_zero, List.getElem?_append_left (by rw [ic_len]; exact hj)]
end Go.Proofs.YtejgpecmjfgfbaaDoor

namespace Go.Proofs.YtejgpecmjfgfbaaDoor
open Go.RowKit
theorem within_canS {n : Nat} (hn : n ≤ 8) (T : Nat → Nat → Bool) (ends : List Int) (now : Int) (j : Nat) : withinB (befN n T j) (bitsN n (doneP ends now)) = canS n T ends now j := by
  rw [Bool.eq_iff_iff, within_iff (bef_lt hn T j)]
  unfold canS
  rw [List.all_eq_true]
  constructor
  · intro h k hk
    rw [List.mem_range] at hk
    have := h k
    rw [bef_bit, bits_bit, decide_eq_true hk, Bool.true_and, Bool.true_and] at this
    cases hT : T k j
    · rfl
    · have h2 := this hT
      unfold doneP at h2
      rw [h2]; rfl
  · intro h k hk
    rw [bef_bit, Bool.and_eq_true, decide_eq_true_eq] at hk
    have := h k (List.mem_range.2 hk.1)
    rw [hk.2, Bool.not_true, Bool.false_or] at this
    rw [bits_bit, decide_eq_true hk.1, Bool.true_and]
    exact this
theorem pick_at {n : Nat} {T : Nat → Nat → Bool} {ord : List Nat} {ends : List Int} {now : Int} {p : Nat} (hp : p < (leftL ord ends).length) (h1 : canS n T ends now (leftL ord ends)[p] = true) (h2 : ∀ i (hi : i < (leftL ord ends).length), i < p → canS n T ends now (leftL ord ends)[i] = false) : pickJ n T ord ends now = some (leftL ord ends)[p] := by
  unfold pickJ
  rw [List.find?_eq_some_iff_getElem]
  exact ⟨h1, p, hp, rfl, fun i hi => by rw [h2 i (by omega) hi]; rfl⟩
theorem pick_no {n : Nat} {T : Nat → Nat → Bool} {ord : List Nat} {ends : List Int} {now : Int} (h2 : ∀ i (hi : i < (leftL ord ends).length), canS n T ends now (leftL ord ends)[i] = false) : pickJ n T ord ends now = none := by
  unfold pickJ
  rw [List.find?_eq_none]
  intro x hx
  obtain ⟨i, hi, rfl⟩ := List.getElem_of_mem hx
  rw [h2 i hi]; simp
theorem can_enters (args : Array Value) (w : World) : (callFunc 111 args).run Tryd.prog w = .ok (.enter 111 args) w :=
  enters_of Tryd.func111 (by kernel_rfl) rfl args w
set_option maxRecDepth 100000 in
set_option maxHeartbeats 2000000 in
theorem indexCan_any (G b0 b1 dn : Nat) (B : Nat → Nat) (hB8 : ∀ j, B j < 256) (A : Option Addr) (c : Nat) (xs : List Nat) (w : World) (hr : Row w A (ic (natI xs))) (hx : ∀ x ∈ xs, x < 8) (h0 : BlockIs w b0 149 #[.pointer (some ⟨G, 0, none⟩)]) (h1 : BlockIs w b1 67 #[.int .u64 (dn : Int)])
    (hGl : G < w.heap.size) (hG : ∀ j, j < 8 → w.cell? ⟨G, 2 + j, none⟩ = some (.int .u64 (B j : Int))) (hn : xs.length ≤ 1000) :
    Calls Tryd.prog 113 #[.slice A xs.length c, .func (.func 111) #[] #[.pointer (some ⟨b0, 0, none⟩), .pointer (some ⟨b1, 0, none⟩)]] w fun e w' => ((∃ k : Nat, e = .returned (.int .i64 (k : Int)) ∧ ∃ h : k < xs.length, withinB (B xs[k]) dn = true ∧ ∀ i (hi : i < xs.length), i < k → withinB (B xs[i]) dn = false) ∨ (e = .returned (.int .i64 (-1)) ∧ ∀ i (hi : i < xs.length), withinB (B xs[i]) dn = false)) ∧ Below w.heap.size w w' := by
  have HEN := Lib.hid can_enters
  have HCAN := Lib.hid (fun j (hj : j < 8) W (hb : Below w.heap.size w W) => canStart_any G b0 b1 (B j) dn j (hB8 j) W ((h0.below hb).cell 0) ((h1.below hb).cell 0) hj ((hb.cell hGl).trans (hG j hj)))
  have HR := Lib.hid hr
  have HX := Lib.hid hx
  clear h0 h1 hG hr hx
  go_enter Tryd.func113, Tryd.ntmps113
  go_wp2
  go_loopw [8] (fun v wr => ∃ k : Nat, k ≤ xs.length ∧ v = .int .i64 (k : Int) ∧ Hid (∀ i (hi : i < xs.length), i < k → withinB (B xs[i]) dn = false) ∧ Hid (Below w.heap.size w wr)) (fun v _ => xs.length - (intOf v).toNat)
  case atStart => exact ⟨0, Nat.zero_le _, rfl, fun _ _ h => absurd h (by omega), Below.refl _ _⟩
  case round =>
    obtain ⟨k, hk, rfl, hA, hb⟩ := hrel
    by_cases hlt : k < xs.length
    · obtain ⟨ad, hA', hc⟩ := (HR.out.below hb.out).nat hlt
      subst hA'
      have hk0 : (0 : Int) ≤ k := by omega
      have hk1 : (k : Int) < xs.length := by omega
      have HC := Lib.hid (HCAN.out xs[k] (HX.out _ (List.getElem_mem hlt)) wr hb.out)
      have hen := HEN.out #[.int .i64 ((xs[k] : Nat) : Int), .pointer (some ⟨b0, 0, none⟩), .pointer (some ⟨b1, 0, none⟩)] wr
      have HT : Hid (withinB (B xs[k]) dn = false → ∀ i (hi : i < xs.length), i < k + 1 → withinB (B xs[i]) dn = false) := fun hh i hi h => by
        by_cases e : i = k
        · subst e; exact hh
        · exact hA.out i hi (by omega)
      have HF : Hid (withinB (B xs[k]) dn = true → ∃ h : k < xs.length, withinB (B xs[k]) dn = true ∧ ∀ i (hi : i < xs.length), i < k → withinB (B xs[i]) dn = false) := fun hh => ⟨hlt, hh, hA.out⟩
      clear hA
      cases hh : withinB (B xs[k]) dn
      · have HY := Lib.hid (HT.out hh)
        rw [hh] at HC
        clear hh HT HF
        obtain ⟨x, hxk⟩ : ∃ x, xs[k] = x := ⟨_, rfl⟩
        rw [hxk] at HC hen hc
        clear hxk
        go_wp2_with fail
        refine HC.out.mono ?_
        rintro e w1 ⟨rfl, hb1⟩
        go_wp2
        go_roundw
        case rel => exact ⟨k + 1, by omega, by go_num, HY.out, hb.out.trans (hb1.mono hb.out.size)⟩
        case measure => simp [intOf]; omega
      · have HY := Lib.hid (HF.out hh)
        rw [hh] at HC
        clear hh HT HF
        obtain ⟨x, hxk⟩ : ∃ x, xs[k] = x := ⟨_, rfl⟩
        rw [hxk] at HC hen hc
        clear hxk
        go_wp2_with fail
        refine HC.out.mono ?_
        rintro e w1 ⟨rfl, hb1⟩
        go_wp2
        go_ret
        exact ⟨.inl ⟨k, rfl, HY.out⟩, hb.out.trans (hb1.mono hb.out.size)⟩
    · obtain rfl : k = xs.length := by omega
      go_wp2
      go_ret
      exact ⟨.inr ⟨rfl, fun i hi => hA.out i hi hi⟩, hb.out⟩
theorem sets_frame (g : Nat) : ∀ (vs : List Value) (o : Nat) (w : World), (w.setCells g o vs).heap.size = w.heap.size ∧ ∀ k, k ≠ g → (w.setCells g o vs).heap[k]? = w.heap[k]?
  | [], _, _ => ⟨rfl, fun _ _ => rfl⟩
  | v :: r, o, w => by
    have h := sets_frame g r (o + 1) (w.setCell ⟨g, o, none⟩ v)
    refine ⟨h.1.trans (by simp [World.setCell]), fun k hk => (h.2 k hk).trans (Below.heap_setCell w ⟨g, o, none⟩ v k hk)⟩
set_option maxRecDepth 100000 in
theorem delete_fr {w : World} {g c : Nat} {cur : Array Value} {o : List Int} {f : Nat} (hB : BlockIs w g 3 cur) (hs : cur.size = c) (hc : o.length ≤ c) (hm : c ≤ maxLen) (ht : ∀ j, j < o.length → cur[j]? = (ic o)[j]?) (hf : f < o.length) :
    Calls Tryd.prog 114 #[.slice (some ⟨g, 0, none⟩) o.length c, .int .i64 (f : Int), .int .i64 ((f : Int) + 1)] w fun e w' => e = .returned (.slice (some ⟨g, 0, none⟩) (o.length - 1) c) ∧ (∃ cur' : Array Value, BlockIs w' g 3 cur' ∧ cur'.size = c ∧ ∀ j, j < (o.eraseIdx f).length → cur'[j]? = (ic (o.eraseIdx f))[j]?) ∧ w'.heap.size = w.heap.size ∧ (∀ k, k ≠ g → w'.heap[k]? = w.heap[k]?) ∧ ∀ B, B ≤ g → B ≤ w.heap.size → Below B w w' := by
  have hcell : ∀ j, j < o.length → w.cell? ⟨g, 0 + j, none⟩ = some (.int .i64 (o.getD j 0)) := fun j hj => by
    rw [hB.cell, Nat.zero_add, ht j hj]
    unfold ic; simp [hj]
  have H := Tryd.slices_Delete_int_cells g 0 o.length c f (f + 1) o w (Nat.le_refl _) hc hm (by omega) (by omega) hcell (fun j _ => hB.frozen _)
  rw [show ((f + 1 : Nat) : Int) = (f : Int) + 1 from rfl] at H
  refine H.mono ?_
  rintro e w' ⟨rfl, q, rfl⟩
  have hel : (o.eraseIdx f).length = o.length - 1 := List.length_eraseIdx_of_lt hf
  have hfr := sets_frame g (List.map (Value.int .i64) ((o.take o.length).take f ++ (o.take o.length).drop (f + 1) ++ List.replicate (f + 1 - f) 0)) 0 (w.drewN q)
  refine ⟨by rw [show o.length - (f + 1 - f) = o.length - 1 by omega], ⟨_, (hB.drewN q).sets _ 0, by rw [setsA_size]; exact hs, fun j hj => ?_⟩, hfr.1, hfr.2, fun B h1 h2 => Below.sets h1 _ 0 (show Below B w (w.drewN q) from have h := Below.refl B w; ⟨h.os, h.tape, h.output, h.size, h.block⟩)⟩
  have hls : (List.map (Value.int .i64) ((o.take o.length).take f ++ (o.take o.length).drop (f + 1) ++ List.replicate (f + 1 - f) 0)) = ic (o.eraseIdx f) ++ [.int .i64 0] := by
    rw [List.take_length, show f + 1 - f = 1 by omega, List.eraseIdx_eq_take_drop_succ]
    unfold ic; simp
  rw [hls, setsA_at _ _ _ _ (by rw [List.length_append, ic_len]; simp; omega), if_pos ⟨Nat.zero_le _, by rw [List.length_append, ic_len]; simp; omega⟩, Nat.sub_zero, List.getElem?_append_left (by rw [ic_len]; exact hj)]
/-- Where the parts of a maker lie. -/
structure Lm where
  G : Nat
  gL : Nat
  gF : Nat
  gE : Nat
  gP : Nat
  cL : Nat
structure Lm.Ok (a : Lm) (H : Nat) : Prop where
  hG : H ≤ a.G
  hL : H ≤ a.gL
  hF : H ≤ a.gF
  hE : H ≤ a.gE
  hP : H ≤ a.gP
  d1 : a.G ≠ a.gL
  d2 : a.G ≠ a.gF
  d3 : a.G ≠ a.gE
  d4 : a.G ≠ a.gP
  d5 : a.gL ≠ a.gF
  d6 : a.gL ≠ a.gE
  d7 : a.gL ≠ a.gP
  d8 : a.gF ≠ a.gE
  d9 : a.gF ≠ a.gP
  d0 : a.gE ≠ a.gP
  hc : a.cL ≤ maxLen
def lmC (a : Lm) (J : Value) (n : Nat) (B : Nat → Nat) (m l : Nat) : Array Value := #[J, .int .i64 (n : Int), .int .u64 (B 0 : Int), .int .u64 (B 1 : Int), .int .u64 (B 2 : Int), .int .u64 (B 3 : Int), .int .u64 (B 4 : Int), .int .u64 (B 5 : Int), .int .u64 (B 6 : Int), .int .u64 (B 7 : Int), .slice (some ⟨a.gL, 0, none⟩) l a.cL, .slice (some ⟨a.gF, 0, none⟩) m m, .slice (some ⟨a.gE, 0, none⟩) n n, .slice (some ⟨a.gP, 0, none⟩) n n]
theorem lmC_set (a : Lm) (J : Value) (n : Nat) (B : Nat → Nat) (m l l' : Nat) : (lmC a J n B m l).setIfInBounds 10 (.slice (some ⟨a.gL, 0, none⟩) l' a.cL) = lmC a J n B m l' := rfl
theorem lmC_bef (a : Lm) (J : Value) (n : Nat) (B : Nat → Nat) (m l : Nat) {j : Nat} (h : j < 8) : (lmC a J n B m l)[2 + j]? = some (.int .u64 (B j : Int)) := by
  rcases (by omega : j = 0 ∨ j = 1 ∨ j = 2 ∨ j = 3 ∨ j = 4 ∨ j = 5 ∨ j = 6 ∨ j = 7) with rfl | rfl | rfl | rfl | rfl | rfl | rfl | rfl <;> rfl
def LmW (a : Lm) (J : Value) (n : Nat) (B : Nat → Nat) (m l : Nat) (left : List Nat) (s : LsS) (w : World) : Prop :=
  BlockIs w a.G 108 (lmC a J n B m l) ∧ (∃ cur : Array Value, BlockIs w a.gL 3 cur ∧ cur.size = a.cL ∧ left.length ≤ a.cL ∧ ∀ j, j < left.length → cur[j]? = (ic (natI left))[j]?) ∧ BlockIs w a.gF 3 (ic s.free).toArray ∧ BlockIs w a.gE 3 (ic s.ends).toArray ∧ BlockIs w a.gP 78 (spc s.plan).toArray
section
variable {a : Lm} {J : Value} {n m l : Nat} {B : Nat → Nat} {left : List Nat} {s : LsS} {w w' : World}
theorem LmW.below (h : LmW a J n B m l left s w) (hb : Below w.heap.size w w') : LmW a J n B m l left s w' := by
  obtain ⟨h1, ⟨cur, h2, h3⟩, h4, h5, h6⟩ := h
  exact ⟨h1.below hb, ⟨cur, h2.below hb, h3⟩, h4.below hb, h5.below hb, h6.below hb⟩
theorem LmW.row (h : LmW a J n B m l left s w) : Row w (some ⟨a.gL, 0, none⟩) (ic (natI left)) := fun hn => by
  obtain ⟨cur, h2, h3, _, h4⟩ := h.2.1
  refine ⟨_, rfl, h2.lt, fun j u hu => ?_⟩
  have hj : j < left.length := by
    have := (List.getElem?_eq_some_iff.1 hu).1
    rw [ic_len] at this
    simpa using this
  have h5 := (h2.cell j).trans ((h4 j hj).trans hu)
  unfold Addr.add
  by_cases e : j = 0
  · subst e; rw [if_pos rfl]; exact h5
  · rw [if_neg e]; simp only [Nat.zero_add]; exact h5
/-- The header of the jobs that are left is told anew. -/
theorem LmW.head {H : Nat} (h : LmW a J n B m l left s w) (ha : a.Ok H) (l' : Nat) : LmW a J n B m l' left s (w.setCell ⟨a.G, 10, none⟩ (.slice (some ⟨a.gL, 0, none⟩) l' a.cL)) := by
  obtain ⟨h1, ⟨cur, h2, h3⟩, h4, h5, h6⟩ := h
  have h1' := h1.set 10 (.slice (some ⟨a.gL, 0, none⟩) l' a.cL)
  rw [lmC_set] at h1'
  exact ⟨h1', ⟨cur, h2.away ha.d1.symm 10 _, h3⟩, h4.away ha.d2.symm 10 _, h5.away ha.d3.symm 10 _, h6.away ha.d4.symm 10 _⟩
theorem LmW.planned {H : Nat} (h : LmW a J n B m l left s w) (ha : a.Ok H) (j : Nat) (x : Sp) (hj : j < s.plan.length) : LmW a J n B m l left ⟨s.free, s.ends, s.plan.set j x⟩ (((w.setCell ⟨a.gP, j * 3, none⟩ (.int .i64 x.j)).setCell ⟨a.gP, j * 3 + 1, none⟩ (.int .i64 x.f)).setCell ⟨a.gP, j * 3 + 2, none⟩ (.int .i64 x.t)) := by
  obtain ⟨h1, ⟨cur, h2, h3⟩, h4, h5, h6⟩ := h
  have h6' := h6.set3 (j * 3) x
  rw [spc_set s.plan j x hj] at h6'
  exact ⟨((h1.away ha.d4 _ _).away ha.d4 _ _).away ha.d4 _ _, ⟨cur, ((h2.away ha.d7 _ _).away ha.d7 _ _).away ha.d7 _ _, h3⟩, ((h4.away ha.d9 _ _).away ha.d9 _ _).away ha.d9 _ _, ((h5.away ha.d0 _ _).away ha.d0 _ _).away ha.d0 _ _, h6'⟩
theorem LmW.ended {H : Nat} (h : LmW a J n B m l left s w) (ha : a.Ok H) (j : Nat) (x : Int) : LmW a J n B m l left ⟨s.free, s.ends.set j x, s.plan⟩ (w.setCell ⟨a.gE, j, none⟩ (.int .i64 x)) := by
  obtain ⟨h1, ⟨cur, h2, h3⟩, h4, h5, h6⟩ := h
  have h5' := h5.set j (.int .i64 x)
  rw [ic_set] at h5'
  exact ⟨h1.away ha.d3 _ _, ⟨cur, h2.away ha.d6 _ _, h3⟩, h4.away ha.d8 _ _, h5', h6.away ha.d0.symm _ _⟩
theorem LmW.freed {H : Nat} (h : LmW a J n B m l left s w) (ha : a.Ok H) (k : Nat) (x : Int) : LmW a J n B m l left ⟨s.free.set k x, s.ends, s.plan⟩ (w.setCell ⟨a.gF, k, none⟩ (.int .i64 x)) := by
  obtain ⟨h1, ⟨cur, h2, h3⟩, h4, h5, h6⟩ := h
  have h4' := h4.set k (.int .i64 x)
  rw [ic_set] at h4'
  exact ⟨h1.away ha.d2 _ _, ⟨cur, h2.away ha.d5 _ _, h3⟩, h4', h5.away ha.d8.symm _ _, h6.away ha.d9.symm _ _⟩
end

/-- The maker's state, and the two variables of its method. -/
def StW (a : Lm) (J : Value) (n : Nat) (B : Nat → Nat) (m : Nat) (w0 : World) (b0 b1 dn hl : Nat) (lf : List Nat) (q : LsS) (W : World) : Prop := LmW a J n B m hl lf q W ∧ Below w0.heap.size w0 W ∧ BlockIs W b0 149 #[.pointer (some ⟨a.G, 0, none⟩)] ∧ BlockIs W b1 67 #[.int .u64 (dn : Int)]
theorem rep_getD (n i : Nat) (h : i < n) : (Array.replicate n false).getD i true = false := by simp [Array.getD_eq_getD_getElem?, h]
theorem nat_erase : ∀ (l : List Nat) (p : Nat), (natI l).eraseIdx p = natI (l.eraseIdx p)
  | [], _ => by simp
  | _ :: _, 0 => rfl
  | a :: l, p + 1 => by
    show Int.ofNat a :: (natI l).eraseIdx p = Int.ofNat a :: natI (l.eraseIdx p)
    rw [nat_erase l p]
theorem ptr_ne {w : World} {g b : Nat} {cs ds : Array Value} (h : BlockIs w b 149 ds) (hg : BlockIs w g 3 cs) : b ≠ g := type_ne h hg (by decide)
theorem setb_ne {w : World} {g b : Nat} {cs ds : Array Value} (h : BlockIs w b 67 ds) (hg : BlockIs w g 3 cs) : b ≠ g := type_ne h hg (by decide)
theorem ptr_neG {w : World} {g b : Nat} {cs ds : Array Value} (h : BlockIs w b 149 ds) (hg : BlockIs w g 108 cs) : b ≠ g := type_ne h hg (by decide)
theorem setb_neG {w : World} {g b : Nat} {cs ds : Array Value} (h : BlockIs w b 67 ds) (hg : BlockIs w g 108 cs) : b ≠ g := type_ne h hg (by decide)
theorem ptr_neP {w : World} {g b : Nat} {cs ds : Array Value} (h : BlockIs w b 149 ds) (hg : BlockIs w g 78 cs) : b ≠ g := type_ne h hg (by decide)
theorem setb_neP {w : World} {g b : Nat} {cs ds : Array Value} (h : BlockIs w b 67 ds) (hg : BlockIs w g 78 cs) : b ≠ g := type_ne h hg (by decide)
theorem natAt0 {w : World} {g : Nat} {xs : List Nat} (h : Row w (some ⟨g, 0, none⟩) (ic (natI xs))) {k : Nat} (hk : k < xs.length) : w.cell? ⟨g, k, none⟩ = some (.int .i64 ((xs[k] : Nat) : Int)) := by
  have := intAt0 h (k := k) (by simpa using hk)
  rw [this]; simp
set_option maxRecDepth 100000 in
set_option maxHeartbeats 8000000 in
theorem start_any (a : Lm) (A : Option Addr) (c : Nat) (js : List J) (T : Nat → Nat → Bool) (ord : List Nat) (mm : Nat) (now : Int) (s : LsS) (w0 w : World) (ha : a.Ok w0.heap.size) (hr : Row w0 A (jc js)) (hok : ∀ j ∈ js, okJ j = true) (h8 : js.length ≤ 8) (hm : 1 ≤ mm ∧ mm ≤ 4) (hol : ord.length = js.length) (hnd : ord.Nodup) (hord : ∀ j ∈ ord, j < js.length) (hO : OkL js mm now s) (hb : Below w0.heap.size w0 w)
    (hw : LmW a (.slice A js.length c) js.length (befN js.length T) mm (leftL ord s.ends).length (leftL ord s.ends) s w) :
    Calls Tryd.prog 81 #[.pointer (some ⟨a.G, 0, none⟩), .int .i64 now] w fun e w' => e = .returned (.tuple #[]) ∧ LmW a (.slice A js.length c) js.length (befN js.length T) mm (leftL ord (startTo js T ord now s mm).ends).length (leftL ord (startTo js T ord now s mm).ends) (startTo js T ord now s mm) w' ∧ Below w0.heap.size w0 w' := by
  have hs0 := hb.size
  have hn0 := hO.n0
  have hn1 := (hO.bd hok h8).1
  have hb1 := (Below.refl w.heap.size w).alloc (Nat.le_refl _) (.cells #[.pointer (some ⟨a.G, 0, none⟩)] 149)
  have hw1 := hw.below hb1
  have hB1 := BlockIs.new w 149 #[.pointer (some ⟨a.G, 0, none⟩)]
  have hbw1 := hb.trans (hb1.mono hb.size)
  have hs1 := hb1.size
  have hD := done_any a.G a.gE js.length s.ends now _ (by rw [hw1.1.cell, hO.le]; rfl) (rowOf hw1.2.2.2.1) (by rw [hO.le]; exact h8)
  have HWC := Lib.hid (within_canS h8 T s.ends now)
  rw [hO.le] at hD
  have hdl : bitsN js.length (doneP s.ends now) < 256 := bits_lt h8 _
  obtain ⟨dn, hdn⟩ : ∃ dn, bitsN js.length (doneP s.ends now) = dn := ⟨_, rfl⟩
  rw [hdn] at hD HWC hdl
  have HD := Lib.hid hD
  have HW1 := Lib.hid hw1
  have HB1 := Lib.hid hB1
  have HBW1 := Lib.hid hbw1
  have HA := Lib.hid ha
  have HR := Lib.hid hr
  have HOK := Lib.hid hok
  have HND := Lib.hid hnd
  have HOL := Lib.hid hol
  have HORD := Lib.hid hord
  have HO := Lib.hid hO
  have HBEF : Hid (∀ j, befN js.length T j < 256) := fun j => bef_lt h8 T j
  clear hol hD hw1 hB1 hbw1 hb1 ha hr hok hnd hord hO hdn hw hb
  go_enter Tryd.func81, Tryd.ntmps81
  go_wp2_with fail
  refine HD.out.mono ?_
  rintro e w2 ⟨rfl, hb2⟩
  have hb3 := hb2.alloc hb2.size (.cells #[.int .u64 (dn : Int)] 67)
  have hW3 := HW1.out.below hb3
  have hB3 := HB1.out.below hb3
  have hD3 := BlockIs.new w2 67 #[.int .u64 (dn : Int)]
  have hbw3 := HBW1.out.trans (hb3.mono HBW1.out.size)
  have hc0 := hB3.cell 0
  have hc11 := hW3.1.cell 11
  simp only [lmC, List.getElem?_toArray, List.getElem?_cons_zero, List.getElem?_cons_succ] at hc0 hc11
  obtain ⟨b0, hb0⟩ : ∃ b0, w.heap.size = b0 := ⟨_, rfl⟩
  obtain ⟨b1, hb1⟩ : ∃ b1, w2.heap.size = b1 := ⟨_, rfl⟩
  have HS3 : Hid (StW a (.slice A js.length c) js.length (befN js.length T) mm w0 b0 b1 dn (leftL ord s.ends).length (leftL ord s.ends) s (w2.alloc (.cells #[.int .u64 (dn : Int)] 67))) := ⟨hW3, hbw3, hb0 ▸ hB3, hb1 ▸ hD3⟩
  have hd0 : w0.heap.size ≤ b0 := by omega
  clear hb3 hW3 hB3 hD3 hbw3 HW1 HB1 HBW1 HD hb2
  rw [hb0] at hc0
  rw [hb0]
  go_wp2
  clear hc0 hc11
  go_loopw [19] (fun v wr => ∃ k : Nat, k ≤ mm ∧ v = .int .i64 (k : Int) ∧ Hid (StW a (.slice A js.length c) js.length (befN js.length T) mm w0 b0 b1 dn (leftL ord (startTo js T ord now s k).ends).length (leftL ord (startTo js T ord now s k).ends) (startTo js T ord now s k) wr)) (fun v _ => mm - (intOf v).toNat)
  case atStart => exact ⟨0, Nat.zero_le _, rfl, HS3.out⟩
  case round =>
    obtain ⟨k, hk, rfl, hS⟩ := hrel
    clear HS3
    by_cases hlt : k < mm
    · have HOq := Lib.hid (HO.out.start (T := T) HOK.out h8 HORD.out k (by omega))
      have HST := Lib.hid (startTo_succ js T ord now s k)
      have HSTK : Hid (pickJ js.length T ord (startTo js T ord now s k).ends now = none → startTo js T ord now s mm = startTo js T ord now s k) := stuck_all (by omega)
      have HWC2 : Hid (∀ j, withinB (befN js.length T j) dn = canS js.length T (startTo js T ord now s k).ends now j) := fun j => (HWC.out j).trans (canS_congr (fun i => (done_start HO.out HOK.out h8 HORD.out i k (by omega)).symm) j)
      generalize startTo js T ord now s k = q at *
      obtain ⟨hW, hbW, h0W, h1W⟩ := hS.out
      have hcF := hW.2.2.1.int (k := k) (by rw [HOq.out.lf]; exact hlt)
      have hgd : q.free.getD k 0 = q.free[k]'(by rw [HOq.out.lf]; exact hlt) := getD_at q.free 0 (by rw [HOq.out.lf]; exact hlt)
      have HLATE : Hid (¬ q.free.getD k 0 ≤ now → stepL js T ord now q k = q) := step_late
      have HSOME : Hid (∀ j, q.free.getD k 0 ≤ now → pickJ js.length T ord q.ends now = some j → stepL js T ord now q k = assignL js q now k j) := fun j => step_some
      rw [hgd] at HLATE HSOME
      clear hgd
      generalize q.free[k]'(by rw [HOq.out.lf]; exact hlt) = fk at *
      have hk0 : (0 : Int) ≤ k := by omega
      have hk1 : (k : Int) < mm := by omega
      have HX : Hid (∀ x ∈ leftL ord q.ends, x < js.length) := fun x hx => (left_lt HORD.out hx).1
      have hll : (leftL ord q.ends).length ≤ 1000 := Nat.le_trans (List.length_filter_le _ _) (by rw [HOL.out]; omega)
      have HI := Lib.hid (indexCan_any a.G b0 b1 dn (befN js.length T) HBEF.out (some ⟨a.gL, 0, none⟩) a.cL (leftL ord q.ends) wr hW.row (fun x hx => by have := HX.out x hx; omega) h0W h1W hW.1.lt (fun j hj => by rw [hW.1.cell]; exact lmC_bef _ _ _ _ _ _ hj) hll)
      have c0 := h0W.cell 0
      have c10 := hW.1.cell 10
      simp only [lmC, List.getElem?_toArray, List.getElem?_cons_zero, List.getElem?_cons_succ] at c0 c10
      clear hW hbW h0W h1W
      go_wp2_with fail
      refine HI.out.mono ?_
      rintro e w5 ⟨⟨p, rfl, hpl, hpt, hpb⟩ | ⟨rfl, hno⟩, hb5⟩
      · have hpk := pick_at hpl (by rw [← HWC2.out]; exact hpt) (fun i hi hip => by rw [← HWC2.out]; exact hpb i hi hip)
        have hjn := HX.out _ (List.getElem_mem hpl)
        have hS5 : StW a (.slice A js.length c) js.length (befN js.length T) mm w0 b0 b1 dn (leftL ord q.ends).length (leftL ord q.ends) q w5 := ⟨hS.out.1.below hb5, hS.out.2.1.trans (hb5.mono hS.out.2.1.size), hS.out.2.2.1.below hb5, hS.out.2.2.2.below hb5⟩
        have hp0 : decide ((p : Int) < 0) = false := decide_eq_false (by omega)
        by_cases hf : fk ≤ now
        · have hs := HSOME.out _ hf hpk
          have hjp : (leftL ord q.ends)[p] < q.plan.length := by rw [HOq.out.lp]; exact hjn
          have hje : (leftL ord q.ends)[p] < q.ends.length := by rw [HOq.out.le]; exact hjn
          have hjt := jAt_bd HOK.out hjn
          have hle := left_erase HND.out hje (e := now + jAt js (leftL ord q.ends)[p]) (by omega) hpl rfl
          have cL := natAt0 hS5.1.row hpl
          obtain ⟨hW5, hbW5, h0W5, h1W5⟩ := hS5
          have c0' := h0W5.cell 0
          have c10' := hW5.1.cell 10
          simp only [lmC, List.getElem?_toArray, List.getElem?_cons_zero, List.getElem?_cons_succ] at c0' c10'
          have HPL : Hid (p < (leftL ord q.ends).length) := hpl
          have hp1 : (p : Int) < (leftL ord q.ends).length := by omega
          have hp2 : (0 : Int) ≤ p := by omega
          have hf2 : decide (now < fk) = false := decide_eq_false (by omega)
          have HSW : Hid (StW a (.slice A js.length c) js.length (befN js.length T) mm w0 b0 b1 dn (leftL ord q.ends).length (leftL ord q.ends) q w5) := ⟨hW5, hbW5, h0W5, h1W5⟩
          have key : ∃ j : Nat, j < js.length ∧ j < q.plan.length ∧ j < q.ends.length ∧ (1 ≤ jAt js j ∧ jAt js j ≤ 50) ∧ (leftL ord q.ends).eraseIdx p = leftL ord (q.ends.set j (now + jAt js j)) ∧ w5.cell? ⟨a.gL, p, none⟩ = some (.int .i64 (j : Int)) ∧ startTo js T ord now s (k + 1) = assignL js q now k j := ⟨(leftL ord q.ends)[p], hjn, hjp, hje, hjt, hle, cL, HST.out.trans hs⟩
          clear hs hpk hpt hpb hb5 hS hW5 hbW5 h0W5 h1W5 HLATE HSOME c0 c10 hcF HI HWC2 HSTK HST hjn hjp hje hjt hle cL hpl
          obtain ⟨j, hjn, hjp, hje, hjt, hle, cL, hst⟩ := key
          have HST := Lib.hid hst
          have HLE := Lib.hid hle
          clear hst hle
          go_wp2
          have HLN : Hid ((leftL ord (q.ends.set j (now + jAt js j))).length = (leftL ord q.ends).length - 1) := by show _ = _; rw [← HLE.out, List.length_eraseIdx_of_lt HPL.out]
          have HFR : Hid (StW a (.slice A js.length c) js.length (befN js.length T) mm w0 b0 b1 dn (leftL ord q.ends).length (leftL ord q.ends) q w5.drew) := ⟨HSW.out.1, HSW.out.2.1.drew, HSW.out.2.2.1, HSW.out.2.2.2⟩
          have hpw : IntKind.i64.wrap ((p : Int) + 1) = (p : Int) + 1 := IntWalk.i64_in _ (by omega)
          refine wp_region_detP (γ := Unit) (by kernel_rfl) (fun _ L W => (L.getD 8 true = false → StW a (.slice A js.length c) js.length (befN js.length T) mm w0 b0 b1 dn (leftL ord q.ends).length (leftL ord q.ends) q W) ∧ (L.getD 8 true = true → L.getD 11 true = false → StW a (.slice A js.length c) js.length (befN js.length T) mm w0 b0 b1 dn (leftL ord q.ends).length (leftL ord (q.ends.set j (now + jAt js j))) q W) ∧ (L.getD 11 true = true → StW a (.slice A js.length c) js.length (befN js.length T) mm w0 b0 b1 dn (leftL ord (q.ends.set j (now + jAt js j))).length (leftL ord (q.ends.set j (now + jAt js j))) q W)) (fun _ kk => (#[.pointer (some ⟨a.G, 0, none⟩), .pointer (some ⟨a.G, 0, none⟩), .pointer (some ⟨a.G, 0, none⟩), .pointer (some ⟨a.G, 10, none⟩), .slice (some ⟨a.gL, 0, none⟩) (leftL ord q.ends).length a.cL, .int .i64 (p : Int), .int .i64 (p : Int), .int .i64 ((p : Int) + 1), .slice (some ⟨a.gL, 0, none⟩) ((leftL ord q.ends).length - 1) a.cL, .pointer (some ⟨a.G, 0, none⟩), .pointer (some ⟨a.G, 10, none⟩), undef] : Array Value).getD kk undef) () (by kernel_rfl) (by kernel_rfl) ⟨fun _ => HFR.out, fun h _ => absurd (h.symm.trans (rep_getD 12 8 (by decide))) (by decide), fun h => absurd (h.symm.trans (rep_getD 12 11 (by decide))) (by decide)⟩ ?_ ?_
          · intro _ L W hall hS
            have HS2 := Lib.hid (hS.2.2 (hall 11 (by decide)))
            clear hS hall
            simp only [putsL]
            obtain ⟨hW, hbW, h0W, h1W⟩ := HS2.out
            have c0 := h0W.cell 0
            have c13 := hW.1.cell 13
            simp only [lmC, List.getElem?_toArray, List.getElem?_cons_zero, List.getElem?_cons_succ] at c0 c13
            obtain ⟨v0, hv0⟩ := hW.2.2.2.2.has (i := j * 3) (by simp [spc_len]; omega)
            obtain ⟨v1, hv1⟩ := hW.2.2.2.2.has (i := j * 3 + 1) (by simp [spc_len]; omega)
            obtain ⟨v2, hv2⟩ := hW.2.2.2.2.has (i := j * 3 + 2) (by simp [spc_len]; omega)
            have hf0 := hW.2.2.2.2.frozen (j * 3)
            have hf1 := hW.2.2.2.2.frozen (j * 3 + 1)
            have hf3 := hW.2.2.2.2.frozen (j * 3 + 2)
            have hj0 : (0 : Int) ≤ j := by omega
            have hj1 : (j : Int) < js.length := by omega
            have hP := hW.planned HA.out j ⟨(j : Int), (k : Int), now⟩ hjp
            have hPb : w0.heap.size ≤ a.gP := HA.out.hP
            have HS3 : Hid (StW a (.slice A js.length c) js.length (befN js.length T) mm w0 b0 b1 dn (leftL ord (q.ends.set j (now + jAt js j))).length (leftL ord (q.ends.set j (now + jAt js j))) ⟨q.free, q.ends, q.plan.set j ⟨(j : Int), (k : Int), now⟩⟩ (((W.setCell ⟨a.gP, j * 3, none⟩ (.int .i64 (j : Int))).setCell ⟨a.gP, j * 3 + 1, none⟩ (.int .i64 (k : Int))).setCell ⟨a.gP, j * 3 + 2, none⟩ (.int .i64 now))) := ⟨hP, ((hbW.setCell (p := ⟨a.gP, j * 3, none⟩) hPb _).setCell (p := ⟨a.gP, j * 3 + 1, none⟩) hPb _).setCell (p := ⟨a.gP, j * 3 + 2, none⟩) hPb _, ((h0W.away (ptr_neP h0W hW.2.2.2.2) _ _).away (ptr_neP h0W hW.2.2.2.2) _ _).away (ptr_neP h0W hW.2.2.2.2) _ _, ((h1W.away (setb_neP h1W hW.2.2.2.2) _ _).away (setb_neP h1W hW.2.2.2.2) _ _).away (setb_neP h1W hW.2.2.2.2) _ _⟩
            clear hW hbW h0W h1W hP HS2 HSW HFR hpw c0' c10' cL hp0 hp1 hp2
            go_wp2
            clear c0 c13 hv0 hv1 hv2 hf0 hf1 hf3
            obtain ⟨V, hV⟩ : ∃ V, (((W.setCell ⟨a.gP, j * 3, none⟩ (.int .i64 (j : Int))).setCell ⟨a.gP, j * 3 + 1, none⟩ (.int .i64 (k : Int))).setCell ⟨a.gP, j * 3 + 2, none⟩ (.int .i64 now)) = V := ⟨_, rfl⟩
            rw [hV] at HS3 ⊢
            clear hV
            obtain ⟨hW, hbW, h0W, h1W⟩ := HS3.out
            obtain ⟨ad, hA', hbl, hcj, hc1, hc2, hc3⟩ := (HR.out.below hbW).job hjn
            subst hA'
            have e1 : jAt js j = js[j].t := congrArg J.t (getD_at js j0 hjn)
            rw [← e1] at hcj
            clear hc1 hc2 hc3 e1
            have c0 := h0W.cell 0
            have c12 := hW.1.cell 12
            have cJ := hW.1.cell 0
            simp only [lmC, List.getElem?_toArray, List.getElem?_cons_zero, List.getElem?_cons_succ] at c0 c12 cJ
            obtain ⟨ve, hve⟩ := hW.2.2.2.1.has (i := j) (by simpa [ic_len] using hje)
            have hfe := hW.2.2.2.1.frozen j
            have hwr : IntKind.i64.wrap (now + jAt js j) = now + jAt js j := IntWalk.i64_in _ (by omega)
            have hEb : w0.heap.size ≤ a.gE := HA.out.hE
            have HS4 : Hid (StW a (.slice (some ad) js.length c) js.length (befN js.length T) mm w0 b0 b1 dn (leftL ord (q.ends.set j (now + jAt js j))).length (leftL ord (q.ends.set j (now + jAt js j))) ⟨q.free, q.ends.set j (now + jAt js j), q.plan.set j ⟨(j : Int), (k : Int), now⟩⟩ ((V.setCell ⟨a.gE, j, none⟩ (.int .i64 (now + jAt js j))).drew)) := ⟨hW.ended HA.out j _, (hbW.setCell (p := ⟨a.gE, j, none⟩) hEb _).drew, h0W.away (ptr_ne h0W hW.2.2.2.1) _ _, h1W.away (setb_ne h1W hW.2.2.2.1) _ _⟩
            clear hW hbW h0W h1W HS3
            go_wp2
            go_still_tail 17, (by kernel_rfl)
            change wpList _ _ _ _ _ V.drew
            go_wp2
            clear c0 c12 cJ hcj hve hfe
            change Code.wp _ _ _ _ ((V.setCell ⟨a.gE, j, none⟩ (.int .i64 (now + jAt js j))).drew)
            obtain ⟨X, hX⟩ : ∃ X, ((V.setCell ⟨a.gE, j, none⟩ (.int .i64 (now + jAt js j))).drew) = X := ⟨_, rfl⟩
            rw [hX] at HS4 ⊢
            clear hX
            obtain ⟨hW, hbW, h0W, h1W⟩ := HS4.out
            have c0 := h0W.cell 0
            have c11 := hW.1.cell 11
            have c12 := hW.1.cell 12
            simp only [lmC, List.getElem?_toArray, List.getElem?_cons_zero, List.getElem?_cons_succ] at c0 c11 c12
            have cE := hW.2.2.2.1.int (k := j) (by simpa using hje)
            have hge : (q.ends.set j (now + jAt js j))[j]'(by simpa using hje) = now + jAt js j := by simp
            rw [hge] at cE
            clear hge
            obtain ⟨vf, hvf⟩ := hW.2.2.1.has (i := k) (by simpa [ic_len, HOq.out.lf] using hlt)
            have hff := hW.2.2.1.frozen k
            have hFb : w0.heap.size ≤ a.gF := HA.out.hF
            have HS5 : Hid (StW a (.slice (some ad) js.length c) js.length (befN js.length T) mm w0 b0 b1 dn (leftL ord (q.ends.set j (now + jAt js j))).length (leftL ord (q.ends.set j (now + jAt js j))) (assignL js q now k j) ((X.setCell ⟨a.gF, k, none⟩ (.int .i64 (now + jAt js j))).drew)) := ⟨hW.freed HA.out k _, (hbW.setCell (p := ⟨a.gF, k, none⟩) hFb _).drew, h0W.away (ptr_ne h0W hW.2.2.1) _ _, h1W.away (setb_ne h1W hW.2.2.1) _ _⟩
            clear hW hbW h0W h1W HS4
            go_wp2
            go_still_tail 13, (by kernel_rfl)
            change wpList _ _ _ _ _ X.drew
            go_wp2
            go_roundw
            case rel => exact ⟨k + 1, by omega, by go_num, by rw [HST.out]; exact HS5.out⟩
            case measure => simp [intOf]; omega
          · intro _ L ac W iq op hLs hop hLi hLd hLn hS hlow hdep
            have hq : iq < 12 := (Array.getElem?_eq_some_iff.1 hop).1
            have h8to11 : L.getD 11 true = true → L.getD 8 true = true → True := fun _ _ => trivial
            have hb0 : BlockIs W b0 149 #[.pointer (some ⟨a.G, 0, none⟩)] := by
              cases h8 : L.getD 8 true
              · exact (hS.1 h8).2.2.1
              · cases h11 : L.getD 11 true
                · exact (hS.2.1 h8 h11).2.2.1
                · exact (hS.2.2 h11).2.2.1
            have c0 := hb0.cell 0
            simp only [List.getElem?_toArray, List.getElem?_cons_zero] at c0
            have K : iq ≠ 8 → iq ≠ 11 → ((L.setIfInBounds iq true).getD 8 true = false → StW a (.slice A js.length c) js.length (befN js.length T) mm w0 b0 b1 dn (leftL ord q.ends).length (leftL ord q.ends) q W) ∧ ((L.setIfInBounds iq true).getD 8 true = true → (L.setIfInBounds iq true).getD 11 true = false → StW a (.slice A js.length c) js.length (befN js.length T) mm w0 b0 b1 dn (leftL ord q.ends).length (leftL ord (q.ends.set j (now + jAt js j))) q W) ∧ ((L.setIfInBounds iq true).getD 11 true = true → StW a (.slice A js.length c) js.length (befN js.length T) mm w0 b0 b1 dn (leftL ord (q.ends.set j (now + jAt js j))).length (leftL ord (q.ends.set j (now + jAt js j))) q W) := fun h1 h2 => by
              rw [getD_set_true, getD_set_true, if_neg (fun h => h1 h.1), if_neg (fun h => h2 h.1)]
              exact hS
            rcases (by omega : iq = 0 ∨ iq = 1 ∨ iq = 2 ∨ iq = 3 ∨ iq = 4 ∨ iq = 5 ∨ iq = 6 ∨ iq = 7 ∨ iq = 8 ∨ iq = 9 ∨ iq = 10 ∨ iq = 11) with rfl | rfl | rfl | rfl | rfl | rfl | rfl | rfl | rfl | rfl | rfl | rfl
            · obtain rfl := Option.some.inj hop
              have e2 : ac.tmps[2]?.getD undef = .pointer (some ⟨b0, 0, none⟩) := (Array.getD_eq_getD_getElem? ..).symm.trans (hlow 2 (by kernel_rfl))
              exact ⟨wanted_free rfl, .inl ⟨(), W, fun _ _ => rfl, by simp [execOp, Act.eval, e2, c0, go_sem], K (by decide) (by decide)⟩⟩
            · obtain rfl := Option.some.inj hop
              have e2 : ac.tmps[2]?.getD undef = .pointer (some ⟨b0, 0, none⟩) := (Array.getD_eq_getD_getElem? ..).symm.trans (hlow 2 (by kernel_rfl))
              exact ⟨wanted_free rfl, .inl ⟨(), W, fun _ _ => rfl, by simp [execOp, Act.eval, e2, c0, go_sem], K (by decide) (by decide)⟩⟩
            · obtain rfl := Option.some.inj hop
              have e43 : ac.tmps[43]?.getD undef = .pointer (some ⟨a.G, 0, none⟩) := (Array.getD_eq_getD_getElem? ..).symm.trans (hdep 1 _ 43 (by kernel_rfl) rfl rfl)
              exact ⟨wanted_free rfl, .inl ⟨(), W, fun _ _ => rfl, by simp [execOp, Act.eval, e43, go_sem], K (by decide) (by decide)⟩⟩
            · obtain rfl := Option.some.inj hop
              have e44 : ac.tmps[44]?.getD undef = .pointer (some ⟨a.G, 0, none⟩) := (Array.getD_eq_getD_getElem? ..).symm.trans (hdep 2 _ 44 (by kernel_rfl) rfl rfl)
              exact ⟨wanted_free rfl, .inl ⟨(), W, fun _ _ => rfl, by simp [execOp, Act.eval, e44, go_sem], K (by decide) (by decide)⟩⟩
            · obtain rfl := Option.some.inj hop
              have e45 : ac.tmps[45]?.getD undef = .pointer (some ⟨a.G, 10, none⟩) := (Array.getD_eq_getD_getElem? ..).symm.trans (hdep 3 _ 45 (by kernel_rfl) rfl rfl)
              have h10 := (hS.1 (hLn 8 (by kernel_rfl))).1.1.cell 10
              simp only [lmC, List.getElem?_toArray, List.getElem?_cons_zero, List.getElem?_cons_succ] at h10
              exact ⟨wanted_free rfl, .inl ⟨(), W, fun _ _ => rfl, by simp [execOp, Act.eval, e45, h10, go_sem], K (by decide) (by decide)⟩⟩
            · obtain rfl := Option.some.inj hop
              have e8 : ac.tmps[8]?.getD undef = .int .i64 (p : Int) := (Array.getD_eq_getD_getElem? ..).symm.trans (hlow 8 (by kernel_rfl))
              exact ⟨wanted_free rfl, .inl ⟨(), W, fun _ _ => rfl, by simp [execOp, Act.eval, e8, go_sem], K (by decide) (by decide)⟩⟩
            · obtain rfl := Option.some.inj hop
              have e8 : ac.tmps[8]?.getD undef = .int .i64 (p : Int) := (Array.getD_eq_getD_getElem? ..).symm.trans (hlow 8 (by kernel_rfl))
              exact ⟨wanted_free rfl, .inl ⟨(), W, fun _ _ => rfl, by simp [execOp, Act.eval, e8, go_sem], K (by decide) (by decide)⟩⟩
            · obtain rfl := Option.some.inj hop
              have e48 : ac.tmps[48]?.getD undef = .int .i64 (p : Int) := (Array.getD_eq_getD_getElem? ..).symm.trans (hdep 6 _ 48 (by kernel_rfl) rfl rfl)
              exact ⟨wanted_free rfl, .inl ⟨(), W, fun _ _ => rfl, by simp [execOp, Act.eval, e48, hpw, go_sem], K (by decide) (by decide)⟩⟩
            · obtain rfl := Option.some.inj hop
              have e46 : ac.tmps[46]?.getD undef = .slice (some ⟨a.gL, 0, none⟩) (leftL ord q.ends).length a.cL := (Array.getD_eq_getD_getElem? ..).symm.trans (hdep 4 _ 46 (by kernel_rfl) rfl rfl)
              have e47 : ac.tmps[47]?.getD undef = .int .i64 (p : Int) := (Array.getD_eq_getD_getElem? ..).symm.trans (hdep 5 _ 47 (by kernel_rfl) rfl rfl)
              have e49 : ac.tmps[49]?.getD undef = .int .i64 ((p : Int) + 1) := (Array.getD_eq_getD_getElem? ..).symm.trans (hdep 7 _ 49 (by kernel_rfl) rfl rfl)
              obtain ⟨hW, hbW, h0W, h1W⟩ := hS.1 hLi
              obtain ⟨hWG, ⟨cur, hcB, hcs, hcl, hcc⟩, hWF, hWE, hWP⟩ := hW
              have hnl : (natI (leftL ord q.ends)).length = (leftL ord q.ends).length := by simp
              have hDL := delete_fr (o := natI (leftL ord q.ends)) (f := p) hcB hcs (by rw [hnl]; exact hcl) HA.out.hc (fun i hi => hcc i (by rw [hnl] at hi; exact hi)) (by rw [hnl]; exact HPL.out)
              have hne : (natI (leftL ord q.ends)).eraseIdx p = natI (leftL ord (q.ends.set j (now + jAt js j))) := by rw [← HLE.out]; exact nat_erase _ _
              rw [hnl, hne] at hDL
              refine ⟨wanted_free rfl, .inr (.inl ⟨114, #[.slice (some ⟨a.gL, 0, none⟩) (leftL ord q.ends).length a.cL, .int .i64 (p : Int), .int .i64 ((p : Int) + 1)], by simp [execOp, Act.eval, e46, e47, e49, go_sem], hDL.mono ?_⟩)⟩
              rintro e w2 ⟨rfl, ⟨cur2, hc2, hs2, ht2⟩, hsz2, hfr2, hbel2⟩
              have hbL : w0.heap.size ≤ a.gL := HA.out.hL
              have hDB : Below w0.heap.size w0 w2 := hbW.trans (hbel2 _ hbL hbW.size)
              refine ⟨(), fun _ _ => rfl, rfl, fun h => ?_, fun _ _ => ⟨⟨(hfr2 _ HA.out.d1).trans hWG, ⟨cur2, hc2, hs2, by rw [HLN.out]; omega, fun i hi => ht2 i (by simpa using hi)⟩, (hfr2 _ HA.out.d5.symm).trans hWF, (hfr2 _ HA.out.d6.symm).trans hWE, (hfr2 _ HA.out.d7.symm).trans hWP⟩, hDB, (hfr2 _ (ptr_ne h0W hcB)).trans h0W, (hfr2 _ (setb_ne h1W hcB)).trans h1W⟩, fun h => ?_⟩
              · rw [getD_set_true, if_pos ⟨rfl, by rw [hLs]; decide⟩] at h
                cases h
              · rw [getD_set_true, if_neg (fun q => absurd q.1 (by decide))] at h
                rw [hLn 11 (by kernel_rfl)] at h
                cases h
            · obtain rfl := Option.some.inj hop
              have e42 : ac.tmps[42]?.getD undef = .pointer (some ⟨a.G, 0, none⟩) := (Array.getD_eq_getD_getElem? ..).symm.trans (hdep 0 _ 42 (by kernel_rfl) rfl rfl)
              exact ⟨wanted_free rfl, .inl ⟨(), W, fun _ _ => rfl, by simp [execOp, Act.eval, e42, go_sem], K (by decide) (by decide)⟩⟩
            · obtain rfl := Option.some.inj hop
              have e51 : ac.tmps[51]?.getD undef = .pointer (some ⟨a.G, 0, none⟩) := (Array.getD_eq_getD_getElem? ..).symm.trans (hdep 9 _ 51 (by kernel_rfl) rfl rfl)
              exact ⟨wanted_free rfl, .inl ⟨(), W, fun _ _ => rfl, by simp [execOp, Act.eval, e51, go_sem], K (by decide) (by decide)⟩⟩
            · obtain rfl := Option.some.inj hop
              have e52 : ac.tmps[52]?.getD undef = .pointer (some ⟨a.G, 10, none⟩) := (Array.getD_eq_getD_getElem? ..).symm.trans (hdep 10 _ 52 (by kernel_rfl) rfl rfl)
              have e50 : ac.tmps[50]?.getD undef = .slice (some ⟨a.gL, 0, none⟩) ((leftL ord q.ends).length - 1) a.cL := (Array.getD_eq_getD_getElem? ..).symm.trans (hdep 8 _ 50 (by kernel_rfl) rfl rfl)
              have h8t : L.getD 8 true = true := hLd 8 (by kernel_rfl)
              obtain ⟨hW, hbW, h0W, h1W⟩ := hS.2.1 h8t hLi
              obtain ⟨u10, hu10⟩ := hW.1.has (i := 10) (by show 10 < 14; decide)
              have hf10 := hW.1.frozen 10
              have hwl := hW.head HA.out ((leftL ord q.ends).length - 1)
              rw [← HLN.out] at hwl
              have hGb : w0.heap.size ≤ a.G := HA.out.hG
              refine ⟨wanted_free rfl, .inr (.inr ⟨W.setCell ⟨a.G, 10, none⟩ (.slice (some ⟨a.gL, 0, none⟩) ((leftL ord q.ends).length - 1) a.cL), rfl, by simp [execOp, Act.eval, e52, e50, hu10, hf10, go_sem], fun h => ?_, fun _ h => ?_, fun _ => ⟨by rw [← HLN.out]; exact hwl, hbW.setCell (p := ⟨a.G, 10, none⟩) hGb _, h0W.away (ptr_neG h0W hW.1) 10 _, h1W.away (setb_neG h1W hW.1) 10 _⟩⟩)⟩
              · rw [getD_set_true, if_neg (fun q => absurd q.1 (by decide)), h8t] at h
                cases h
              · rw [getD_set_true, if_pos ⟨rfl, by rw [hLs]; decide⟩] at h
                cases h
        · have hs := HLATE.out (by omega)
          rw [hs] at HST
          have HY := Lib.hid hS5
          have hf2 : now < fk := by omega
          clear hs hpk hpt hpb hb5 hS hS5 HLATE HSOME c0 c10 hcF HI hpl hf hjn
          go_wp2
          go_roundw
          case rel => exact ⟨k + 1, by omega, by go_num, by rw [HST.out]; exact HY.out⟩
          case measure => simp [intOf]; omega
      · have HEND := HSTK.out (pick_no fun i hi => by rw [← HWC2.out]; exact hno i hi)
        have HY := Lib.hid (And.intro (hS.out.1.below hb5) (hS.out.2.1.trans (hb5.mono hS.out.2.1.size)))
        rw [← HEND] at HY
        clear HEND hno hb5 hS c0 c10 hcF HI
        go_wp2
        (try simp only [Exit.inBlock, Exit.then])
        refine bodyPost_ret (results_none rfl _ _ _) rfl ?_
        exact ⟨rfl, HY.out.1, HY.out.2⟩
    · obtain rfl : k = mm := by omega
      go_wp2
      go_end0
      exact ⟨rfl, hS.out.1, hS.out.2.1⟩
end Go.Proofs.YtejgpecmjfgfbaaDoor

namespace Go.Proofs.YtejgpecmjfgfbaaDoor
open Go.RowKit
def repW (n m : Nat) : List Int := List.replicate n 1000 ++ List.replicate (m - n) 0
theorem repW_len {n m : Nat} (h : n ≤ m) : (repW n m).length = m := by unfold repW; simp; omega
theorem repW_splice {n m k : Nat} (h : n + k ≤ m) : splice (ic (repW n m)) n (ic (List.replicate k 1000)) = ic (repW (n + k) m) := by
  unfold splice ic repW
  simp only [List.map_append, List.map_replicate, List.length_replicate]
  rw [List.take_append_of_le_length (by simp), List.take_of_length_le (by simp), List.drop_append, List.drop_of_length_le (by simp), List.nil_append, List.length_replicate, List.drop_replicate]
  simp only [← List.append_assoc, List.replicate_append_replicate]
  rw [show m - n - (n + k - n) = m - (n + k) by omega]
theorem repW_zero (m : Nat) : List.replicate m (0 : Int) = repW 0 m := by unfold repW; simp
theorem repW_all (m : Nat) : repW m m = List.replicate m 1000 := by unfold repW; simp
theorem repW_src {w : World} {g n m : Nat} (hB : BlockIs w g 3 (ic (repW n m)).toArray) (k : Nat) (hk : k ≤ n) : ∀ j v, (ic (List.replicate k (1000 : Int)))[j]? = some v → w.cell? ((⟨g, 0, none⟩ : Addr).add j) = some v := by
  intro j v hj
  rw [Addr.add_lit, Nat.zero_add, hB.cell j, List.getElem?_toArray]
  have hjk : j < k := by
    have := (List.getElem?_eq_some_iff.1 hj).1
    rw [ic_len] at this
    simpa using this
  unfold ic repW at *
  rw [List.map_append, List.getElem?_append_left (by simp; omega)]
  rw [← hj]
  simp [hjk, show j < n by omega]
theorem rep_one {k : Nat} : ∀ v ∈ ic (List.replicate k (1000 : Int)), v.oneCell' = true := by
  intro v hv
  unfold ic at hv
  rw [List.map_replicate] at hv
  rw [(List.mem_replicate.1 hv).2]
  rfl
theorem keepL7 {L : Array Bool} {i : Nat} {p q : Prop} (hi : i ≠ 7) (h : (L.getD 7 true = false → p) ∧ (L.getD 7 true = true → q)) : ((L.setIfInBounds i true).getD 7 true = false → p) ∧ ((L.setIfInBounds i true).getD 7 true = true → q) := by
  rw [getD_set_true, if_neg (fun h => hi h.1)]; exact h
theorem setL7 {L : Array Bool} {p q : Prop} (hs : L.size = 10) (h : q) : ((L.setIfInBounds 7 true).getD 7 true = false → p) ∧ ((L.setIfInBounds 7 true).getD 7 true = true → q) := by
  rw [getD_set_true, if_pos ⟨rfl, by rw [hs]; decide⟩]
  exact ⟨fun h => (by cases h), fun _ => h⟩
theorem infoI1 : (Tryd.prog.info? 3).map (·.size) = some 1 := by kernel_rfl
set_option maxRecDepth 100000 in
set_option maxHeartbeats 4000000 in
theorem repeat_any (A : Addr) (cA m : Nat) (w : World) (hx : w.cell? A = some (.int .i64 1000)) (hAb : A.block < w.heap.size) (hm1 : 1 ≤ m) (hm : m ≤ 1000) :
    Calls Tryd.prog 79 #[.slice (some A) 1 cA, .int .i64 (m : Int)] w fun e w' => ∃ g, e = .returned (.slice (some ⟨g, 0, none⟩) m m) ∧ w.heap.size ≤ g ∧ BlockIs w' g 3 (ic (List.replicate m 1000)).toArray ∧ Below w.heap.size w w' := by
  have HMUL : Hid (∀ W : World, Calls Tryd.prog 108 #[.int .u64 1, .int .u64 (m : Int)] W fun e w' => e = .returned (.tuple #[.int .u64 0, .int .u64 (m : Int)]) ∧ w' = W) := fun W => by
    have h := Tryd.bits_Mul 1 m (by omega) (by omega) W
    rw [show 1 * m / 18446744073709551616 = 0 by omega, show 1 * m % 18446744073709551616 = m by omega] at h
    exact h
  have hmk := run_make_row' (P := Tryd.prog) 24 3 (.int .i64 0) 8 Tryd.underlying24 infoI rfl .i64 .i64 m (by omega) (by omega)
  have hm0 : ¬ (m : Int) < 0 := by omega
  have hm9 : ¬ (9223372036854775807 : Int) < m := by omega
  have hmp : (0 : Int) ≤ m := by omega
  have H1 : Hid (BlockIs (w.alloc (.cells (madeCells #[.int .i64 0] m) 3)) w.heap.size 3 (ic (repW 0 m)).toArray ∧ Below w.heap.size w (w.alloc (.cells (madeCells #[.int .i64 0] m) 3))) := ⟨by rw [← repW_zero, ← ic_made]; exact BlockIs.new _ _ _, (Below.refl _ _).alloc (Nat.le_refl _) _⟩
  have H2 : Hid ((ic (List.replicate 1 (1000 : Int))).length = Nat.min 1 m ∧ ∀ j v, (ic (List.replicate 1 (1000 : Int)))[j]? = some v → (w.alloc (.cells (madeCells #[.int .i64 0] m) 3)).cell? (A.add j) = some v) := by
    refine ⟨by show 1 = min 1 m; omega, fun j v hj => ?_⟩
    have hj0 : j = 0 := by
      have := (List.getElem?_eq_some_iff.1 hj).1
      rw [ic_len] at this
      simpa using this
    subst hj0
    have hv : some (Value.int .i64 1000) = some v := hj
    rw [← hv, ← hx]
    exact ((Below.refl w.heap.size w).alloc (Nat.le_refl _) _).cell hAb
  have H3 : Hid (0 + (ic (List.replicate 1 (1000 : Int))).length ≤ (ic (repW 0 m)).length) := by show _ ≤ _; rw [ic_len, ic_len, repW_len (by omega)]; simp; omega
  have HS : Hid (((ic (repW 0 m)).toArray.toList.take 0 ++ ic (List.replicate 1 1000) ++ (ic (repW 0 m)).toArray.toList.drop (0 + (ic (List.replicate 1 (1000 : Int))).length)) = ic (repW 1 m)) := by
    have h := repW_splice (n := 0) (m := m) (k := 1) (by omega)
    rw [Nat.zero_add] at h
    exact h
  have hcp := run_copy_row (P := Tryd.prog) (w.alloc (.cells (madeCells #[.int .i64 0] m) 3)) 24 24 3 3 w.heap.size 0 m m A 1 cA (ic (repW 0 m)).toArray 3 (ic (List.replicate 1 1000)) Tryd.underlying24 infoI1 H1.out.1 H2.out.1 H2.out.2 (by rw [← Array.length_toList]; exact H3.out) rep_one
  rw [HS.out] at hcp
  have hB4 : BlockIs ((w.alloc (.cells (madeCells #[.int .i64 0] m) 3)).setRow w.heap.size (ic (repW 1 m)).toArray) w.heap.size 3 (ic (repW 1 m)).toArray := setRow_heap _ _ _ _ _ _ H1.out.1
  have hb4 := below_setRow H1.out.2 (Nat.le_refl _) (ic (repW 1 m)).toArray
  have H4 := Lib.hid (And.intro hB4 hb4)
  have HCP := Lib.hid hcp
  clear hx hB4 hb4 hcp H1 H2 H3 HS
  go_enter Tryd.func79, Tryd.ntmps79
  go_wp2_with fail
  refine (HMUL.out _).mono ?_
  rintro e w' ⟨rfl, hww⟩
  obtain rfl := hww.symm
  go_wp2
  rw [HCP.out]
  generalize hw4 : World.setRow _ _ _ = w4 at *
  clear hw4 HCP
  go_wp2
  rw [show (ic [1000]).length = 1 from rfl]
  go_loopw [8] (fun nv wr => ∃ n : Nat, 1 ≤ n ∧ n ≤ m ∧ nv = .int .i64 (n : Int) ∧ Hid (BlockIs wr w.heap.size 3 (ic (repW n m)).toArray) ∧ Hid (Below w.heap.size w wr)) (fun nv _ => m - (intOf nv).toNat)
  case atStart => exact ⟨1, Nat.le_refl _, hm1, rfl, H4.out.1, H4.out.2⟩
  case round =>
    obtain ⟨n, hn1, hn, rfl, hB, hb⟩ := hrel
    clear H4 hmk
    by_cases hlt : n < m
    · obtain ⟨k, hk⟩ : ∃ k, k = min n (m - n) := ⟨_, rfl⟩
      have H5 : Hid ((ic (List.replicate k (1000 : Int))).length = Nat.min n (m - n)) := by show _ = min n (m - n); rw [ic_len, List.length_replicate, hk]
      have H6 := Lib.hid (repW_src hB.out k (by omega))
      have H7 : Hid (n + (ic (List.replicate k (1000 : Int))).length ≤ (ic (repW n m)).length) := by show _ ≤ _; rw [ic_len, ic_len, repW_len (by omega)]; simp; omega
      have HS : Hid (((ic (repW n m)).toArray.toList.take n ++ ic (List.replicate k 1000) ++ (ic (repW n m)).toArray.toList.drop (n + (ic (List.replicate k (1000 : Int))).length)) = ic (repW (n + k) m)) := by
        have h := repW_splice (n := n) (m := m) (k := k) (by omega)
        unfold splice at h
        show _ = _
        rw [List.append_assoc]
        exact h
      have hcp := run_copy_row (P := Tryd.prog) (ty := 3) wr.drew 24 24 3 w.heap.size n (m - n) (m - n) ⟨w.heap.size, 0, none⟩ n m (ic (repW n m)).toArray 3 (ic (List.replicate k 1000)) Tryd.underlying24 infoI1 hB.out H5.out H6.out (by rw [← Array.length_toList]; exact H7.out) rep_one
      rw [HS.out] at hcp
      have hB4 : BlockIs (wr.drew.setRow w.heap.size (ic (repW (n + k) m)).toArray) w.heap.size 3 (ic (repW (n + k) m)).toArray := setRow_heap _ _ _ _ _ _ hB.out
      have hb4 := below_setRow hb.out.drew (Nat.le_refl _) (ic (repW (n + k) m)).toArray
      have H4 := Lib.hid (And.intro hB4 hb4)
      rw [show goInt (ic (List.replicate k (1000 : Int))).length = .int .i64 (k : Int) by rw [ic_len, List.length_replicate]; rfl] at hcp
      have HCP := Lib.hid hcp
      clear hB4 hb4 hcp HS H5 H6 H7 hB hb
      have hne : ¬ m = n := by omega
      have hn0 : (0 : Int) ≤ n := by omega
      have hnm : (n : Int) ≤ m := by omega
      have hnlt : (n : Int) < m := by omega
      obtain ⟨w5, hw5⟩ : ∃ w5, wr.drew.setRow w.heap.size (ic (repW (n + k) m)).toArray = w5 := ⟨_, rfl⟩
      rw [hw5] at H4 HCP
      clear hw5
      have hk1 : 1 ≤ k := by omega
      have hkm : n + k ≤ m := by omega
      have hwr := IntWalk.i64_in ((n : Int) + k) (by omega)
      have hrd : ∀ q : Prop, True := fun _ => trivial
      clear hrd
      go_wp2
      clear hk hm0 hm9
      refine wp_region_detL (by kernel_rfl) (fun L w' => (L.getD 7 true = false → w' = wr.drew) ∧ (L.getD 7 true = true → w' = w5))
        (fun kk => #[.int .i64 (n : Int), .slice (some ⟨w.heap.size, 0, none⟩) m m, .int .i64 (n : Int), .slice (some ⟨w.heap.size, n, none⟩) (m - n) (m - n), .slice (some ⟨w.heap.size, 0, none⟩) m m, .int .i64 (n : Int), .slice (some ⟨w.heap.size, 0, none⟩) n m, .int .i64 (k : Int), .int .i64 ((n : Int) + k), .int .i64 ((n : Int) + k)].getD kk undef) (by kernel_rfl) (by kernel_rfl) ⟨fun _ => rfl, fun h => by cases h⟩ ?_ ?_
      · intro L tm w' hall hS hsz hlow hval
        have ht : tm = #[.slice (some A) 1 cA, .int .i64 (m : Int), undef, undef, .slice none 0 0, .int .u64 0, .int .u64 (m : Int), .slice (some ⟨w.heap.size, 0, none⟩) m m, .int .i64 ((n : Int) + k), .int .i64 (m : Int), .bool false, undef, .tuple #[.int .u64 0, .int .u64 (m : Int)], .slice (some A) 1 cA, .int .i64 1, .int .u64 1, .int .i64 (m : Int), .int .u64 (m : Int), .tuple #[.int .u64 0, .int .u64 (m : Int)], .int .u64 0, .int .u64 (m : Int), .int .u64 0, .bool false, .bool false, .int .u64 (m : Int), .bool (decide (9223372036854775807 < (m : Int))), .bool (decide (9223372036854775807 < (m : Int))), undef, .int .u64 (m : Int), .int .i64 (m : Int), .slice (some ⟨w.heap.size, 0, none⟩) m m, .slice (some ⟨w.heap.size, 0, none⟩) m m, .slice (some A) 1 cA, .int .i64 1, .int .i64 (n : Int), .slice (some ⟨w.heap.size, 0, none⟩) m m, .int .i64 (m : Int), .bool true, .int .i64 (n : Int), .slice (some ⟨w.heap.size, 0, none⟩) m m, .int .i64 (n : Int), .slice (some ⟨w.heap.size, n, none⟩) (m - n) (m - n), .slice (some ⟨w.heap.size, 0, none⟩) m m, .int .i64 (n : Int), .slice (some ⟨w.heap.size, 0, none⟩) n m, .int .i64 (k : Int), .int .i64 ((n : Int) + k), undef] := by
          refine arr_of _ _ hsz fun t ht => ?_
          have ht' : t < 48 := ht
          rcases (by omega : t = 0 ∨ t = 1 ∨ t = 2 ∨ t = 3 ∨ t = 4 ∨ t = 5 ∨ t = 6 ∨ t = 7 ∨ t = 8 ∨ t = 9 ∨ t = 10 ∨ t = 11 ∨ t = 12 ∨ t = 13 ∨ t = 14 ∨ t = 15 ∨ t = 16 ∨ t = 17 ∨ t = 18 ∨ t = 19 ∨ t = 20 ∨ t = 21 ∨ t = 22 ∨ t = 23 ∨ t = 24 ∨ t = 25 ∨ t = 26 ∨ t = 27 ∨ t = 28 ∨ t = 29 ∨ t = 30 ∨ t = 31 ∨ t = 32 ∨ t = 33 ∨ t = 34 ∨ t = 35 ∨ t = 36 ∨ t = 37 ∨ t = 38 ∨ t = 39 ∨ t = 40 ∨ t = 41 ∨ t = 42 ∨ t = 43 ∨ t = 44 ∨ t = 45 ∨ t = 46 ∨ t = 47) with rfl | rfl | rfl | rfl | rfl | rfl | rfl | rfl | rfl | rfl | rfl | rfl | rfl | rfl | rfl | rfl | rfl | rfl | rfl | rfl | rfl | rfl | rfl | rfl | rfl | rfl | rfl | rfl | rfl | rfl | rfl | rfl | rfl | rfl | rfl | rfl | rfl | rfl | rfl | rfl | rfl | rfl | rfl | rfl | rfl | rfl | rfl | rfl
          · exact hlow 0 (by kernel_rfl)
          · exact hlow 1 (by kernel_rfl)
          · exact hlow 2 (by kernel_rfl)
          · exact hlow 3 (by kernel_rfl)
          · exact hlow 4 (by kernel_rfl)
          · exact hlow 5 (by kernel_rfl)
          · exact hlow 6 (by kernel_rfl)
          · exact hlow 7 (by kernel_rfl)
          · exact hval 9 _ 8 rfl rfl
          · exact hlow 9 (by kernel_rfl)
          · exact hlow 10 (by kernel_rfl)
          · exact hlow 11 (by kernel_rfl)
          · exact hlow 12 (by kernel_rfl)
          · exact hlow 13 (by kernel_rfl)
          · exact hlow 14 (by kernel_rfl)
          · exact hlow 15 (by kernel_rfl)
          · exact hlow 16 (by kernel_rfl)
          · exact hlow 17 (by kernel_rfl)
          · exact hlow 18 (by kernel_rfl)
          · exact hlow 19 (by kernel_rfl)
          · exact hlow 20 (by kernel_rfl)
          · exact hlow 21 (by kernel_rfl)
          · exact hlow 22 (by kernel_rfl)
          · exact hlow 23 (by kernel_rfl)
          · exact hlow 24 (by kernel_rfl)
          · exact hlow 25 (by kernel_rfl)
          · exact hlow 26 (by kernel_rfl)
          · exact hlow 27 (by kernel_rfl)
          · exact hlow 28 (by kernel_rfl)
          · exact hlow 29 (by kernel_rfl)
          · exact hlow 30 (by kernel_rfl)
          · exact hlow 31 (by kernel_rfl)
          · exact hlow 32 (by kernel_rfl)
          · exact hlow 33 (by kernel_rfl)
          · exact hlow 34 (by kernel_rfl)
          · exact hlow 35 (by kernel_rfl)
          · exact hlow 36 (by kernel_rfl)
          · exact hlow 37 (by kernel_rfl)
          · exact hval 0 _ 38 rfl rfl
          · exact hval 1 _ 39 rfl rfl
          · exact hval 2 _ 40 rfl rfl
          · exact hval 3 _ 41 rfl rfl
          · exact hval 4 _ 42 rfl rfl
          · exact hval 5 _ 43 rfl rfl
          · exact hval 6 _ 44 rfl rfl
          · exact hval 7 _ 45 rfl rfl
          · exact hval 8 _ 46 rfl rfl
          · exact hlow 47 (by kernel_rfl)
        subst ht
        clear hlow hval hsz
        obtain rfl := hS.2 (hall 7 (by decide))
        clear hS hall
        go_wp2
        go_roundw
        case rel => exact ⟨_, _, _, _, _, _, _, _, _, _, _, _, _, _, ⟨n + k, by omega, by omega, by go_num, H4.out.1, H4.out.2⟩, rfl⟩
        case measure => simp [intOf]; omega
      · intro L a w' kk op hLs ho hLi hLd hLn hS hlow hdep hold
        have hkk : kk < 10 := (Array.getElem?_eq_some_iff.1 ho).1
        have l7 : a.tmps[7]?.getD undef = .slice (some ⟨w.heap.size, 0, none⟩) m m := by rw [← Array.getD_eq_getD_getElem?]; exact hlow 7 (by kernel_rfl)
        have D : ∀ j oj d, edgeB _ kk j = true → _ → _ → a.tmps[d]?.getD undef = _ := fun j oj d h1 h2 h3 => (Array.getD_eq_getD_getElem? ..).symm.trans (hdep j oj d h1 h2 h3)
        rcases (by omega : kk = 0 ∨ kk = 1 ∨ kk = 2 ∨ kk = 3 ∨ kk = 4 ∨ kk = 5 ∨ kk = 6 ∨ kk = 7 ∨ kk = 8 ∨ kk = 9) with rfl | rfl | rfl | rfl | rfl | rfl | rfl | rfl | rfl | rfl
        · obtain rfl := Option.some.inj ho
          have l8 : a.tmps[8]?.getD undef = .int .i64 (n : Int) := (Array.getD_eq_getD_getElem? ..).symm.trans (hold 9 _ 8 (by kernel_rfl) rfl rfl)
          exact ⟨rfl, .inl ⟨w', by simp [execOp, Act.eval, l8, go_sem], keepL7 (by decide) hS⟩⟩
        · obtain rfl := Option.some.inj ho
          exact ⟨rfl, .inl ⟨w', by simp [execOp, Act.eval, l7, go_sem], keepL7 (by decide) hS⟩⟩
        · obtain rfl := Option.some.inj ho
          have l8 : a.tmps[8]?.getD undef = .int .i64 (n : Int) := (Array.getD_eq_getD_getElem? ..).symm.trans (hold 9 _ 8 (by kernel_rfl) rfl rfl)
          exact ⟨rfl, .inl ⟨w', by simp [execOp, Act.eval, l8, go_sem], keepL7 (by decide) hS⟩⟩
        · obtain rfl := Option.some.inj ho
          have e39 : a.tmps[39]?.getD undef = .slice (some ⟨w.heap.size, 0, none⟩) m m := D 1 _ 39 (by kernel_rfl) rfl rfl
          have e40 : a.tmps[40]?.getD undef = .int .i64 (n : Int) := D 2 _ 40 (by kernel_rfl) rfl rfl
          exact ⟨rfl, .inl ⟨w', by simp [execOp, Act.eval, e39, e40, hne, hn0, hnm, go_sem], keepL7 (by decide) hS⟩⟩
        · obtain rfl := Option.some.inj ho
          exact ⟨rfl, .inl ⟨w', by simp [execOp, Act.eval, l7, go_sem], keepL7 (by decide) hS⟩⟩
        · obtain rfl := Option.some.inj ho
          have l8 : a.tmps[8]?.getD undef = .int .i64 (n : Int) := (Array.getD_eq_getD_getElem? ..).symm.trans (hold 9 _ 8 (by kernel_rfl) rfl rfl)
          exact ⟨rfl, .inl ⟨w', by simp [execOp, Act.eval, l8, go_sem], keepL7 (by decide) hS⟩⟩
        · obtain rfl := Option.some.inj ho
          have e42 : a.tmps[42]?.getD undef = .slice (some ⟨w.heap.size, 0, none⟩) m m := D 4 _ 42 (by kernel_rfl) rfl rfl
          have e43 : a.tmps[43]?.getD undef = .int .i64 (n : Int) := D 5 _ 43 (by kernel_rfl) rfl rfl
          exact ⟨rfl, .inl ⟨w', by simp [execOp, Act.eval, e42, e43, hn0, hnm, go_sem], keepL7 (by decide) hS⟩⟩
        · obtain rfl := Option.some.inj ho
          have e41 : a.tmps[41]?.getD undef = .slice (some ⟨w.heap.size, n, none⟩) (m - n) (m - n) := D 3 _ 41 (by kernel_rfl) rfl rfl
          have e44 : a.tmps[44]?.getD undef = .slice (some ⟨w.heap.size, 0, none⟩) n m := D 6 _ 44 (by kernel_rfl) rfl rfl
          obtain rfl : w' = wr.drew := hS.1 hLi
          have h1 := HCP.out
          exact ⟨rfl, .inl ⟨w5, by simp [execOp, Act.eval, e41, e44, resolve, invoke, builtin, h1, Result.andThen], setL7 hLs rfl⟩⟩
        · obtain rfl := Option.some.inj ho
          have e38 : a.tmps[38]?.getD undef = .int .i64 (n : Int) := D 0 _ 38 (by kernel_rfl) rfl rfl
          have e45 : a.tmps[45]?.getD undef = .int .i64 (k : Int) := D 7 _ 45 (by kernel_rfl) rfl rfl
          exact ⟨rfl, .inl ⟨w', by simp [execOp, Act.eval, e38, e45, hwr, go_sem], keepL7 (by decide) hS⟩⟩
        · obtain rfl := Option.some.inj ho
          have e46 : a.tmps[46]?.getD undef = .int .i64 ((n : Int) + k) := D 8 _ 46 (by kernel_rfl) rfl rfl
          exact ⟨rfl, .inl ⟨w', by simp [execOp, Act.eval, e46, go_sem], keepL7 (by decide) hS⟩⟩
    · obtain rfl : n = m := by omega
      rw [repW_all] at hB
      go_wp2
      go_ret
      exact ⟨_, rfl, Nat.le_refl _, hB.out, hb.out⟩
set_option maxRecDepth 100000 in
set_option maxHeartbeats 1000000 in
theorem repeat_none (A : Addr) (cA : Nat) (w : World) :
    Calls Tryd.prog 79 #[.slice (some A) 1 cA, .int .i64 0] w fun e w' => ∃ g, e = .returned (.slice (some ⟨g, 0, none⟩) 0 0) ∧ w.heap.size ≤ g ∧ BlockIs w' g 3 (ic (List.replicate 0 1000)).toArray ∧ Below w.heap.size w w' := by
  have HMUL : Hid (∀ W : World, Calls Tryd.prog 108 #[.int .u64 1, .int .u64 0] W fun e w' => e = .returned (.tuple #[.int .u64 0, .int .u64 0]) ∧ w' = W) := fun W => by
    have h := Tryd.bits_Mul 1 0 (by omega) (by omega) W
    rw [show 1 * 0 / 18446744073709551616 = 0 by omega, show 1 * 0 % 18446744073709551616 = 0 by omega] at h
    exact h
  have hmk := run_make_row' (P := Tryd.prog) 24 3 (.int .i64 0) 8 Tryd.underlying24 infoI rfl .i64 .i64 0 (by omega) (by omega)
  have hmk0 : ∀ W : World, (Instr.makeSlice 24 (.int .i64 0) (.int .i64 0)).run Tryd.prog W = .ok (.slice (some ⟨W.heap.size, 0, none⟩) 0 0) (W.alloc (.cells (madeCells #[.int .i64 0] 0) 3)) := fun W => hmk W
  clear hmk
  have h1 : BlockIs (w.alloc (.cells (madeCells #[.int .i64 0] 0) 3)) w.heap.size 3 #[] := (BlockIs.new w 3 (madeCells #[.int .i64 0] 0)).to (by simp [madeCells])
  have h2 := (Below.refl w.heap.size w).alloc (Nat.le_refl _) (.cells (madeCells #[.int .i64 0] 0) 3)
  have hcp := run_copy_row (P := Tryd.prog) (ty := 3) (w.alloc (.cells (madeCells #[.int .i64 0] 0) 3)) 24 24 3 w.heap.size 0 0 0 A 1 cA #[] 3 [] Tryd.underlying24 infoI1 h1 (by show 0 = min 1 0; omega) (fun j v hj => by simp at hj) (by simp) (by simp)
  have h3 := below_setRow h2 (Nat.le_refl _) #[]
  have h4 : BlockIs ((w.alloc (.cells (madeCells #[.int .i64 0] 0) 3)).setRow w.heap.size #[]) w.heap.size 3 #[] := setRow_heap _ _ _ _ _ _ h1
  have H4 := Lib.hid (And.intro h3 h4)
  have HCP := Lib.hid hcp
  clear h1 h2 h3 h4 hcp
  go_enter Tryd.func79, Tryd.ntmps79
  go_wp2_with fail
  refine (HMUL.out _).mono ?_
  rintro e w' ⟨rfl, hww⟩
  obtain rfl := hww.symm
  go_wp2
  rw [HCP.out]
  show Oper.upon _ _ _ _ _ ((Result.ok (goInt 0) ((w.alloc (.cells (madeCells #[.int .i64 0] 0) 3)).setRow w.heap.size #[])).andThen _)
  generalize World.setRow _ _ _ = w4 at *
  clear HCP
  go_wp2
  refine wp_loop_rounds 1 ?_
  rw [rounds_succ]
  go_wp2
  go_ret
  exact ⟨w.heap.size, rfl, Nat.le_refl _, H4.out.2, H4.out.1⟩
end Go.Proofs.YtejgpecmjfgfbaaDoor

namespace Go.Proofs.YtejgpecmjfgfbaaDoor
set_option linter.unusedSimpArgs false
set_option linter.unusedVariables false
open Go.RowKit
structure LeftV where
  v : Value
  g : Nat
  c : Nat
def LeftOk (H : Nat) (ord : List Nat) (x : LeftV) (W : World) : Prop := (∃ A c, x.v = .slice A ord.length c) ∧ (0 < ord.length → x.v = .slice (some ⟨x.g, 0, none⟩) ord.length x.c ∧ x.c ≤ maxLen ∧ H ≤ x.g ∧ ∃ cur : Array Value, BlockIs W x.g 3 cur ∧ cur.size = x.c ∧ ord.length ≤ x.c ∧ ∀ j, j < ord.length → cur[j]? = (ic (natI ord))[j]?)
theorem LeftOk.below {H : Nat} {ord : List Nat} {x : LeftV} {W W' : World} (h : LeftOk H ord x W) (hb : Below W.heap.size W W') : LeftOk H ord x W' := ⟨h.1, fun hp => by
  obtain ⟨h1, h2, h3, cur, h4, h5⟩ := h.2 hp
  exact ⟨h1, h2, h3, cur, h4.below hb, h5⟩⟩
theorem LeftOk.lower {H H' : Nat} {ord : List Nat} {x : LeftV} {W : World} (h : LeftOk H ord x W) (hH : H' ≤ H) : LeftOk H' ord x W := ⟨h.1, fun hp => by
  obtain ⟨h1, h2, h3, h4⟩ := h.2 hp
  exact ⟨h1, h2, Nat.le_trans hH h3, h4⟩⟩
theorem eql_none (w : World) (l c : Nat) : (binOp BinOp.eql 24 (.slice none l c) (.slice none 0 0)).run Tryd.prog w = .ok (.bool true) w := by
  simp [binOp, run_equal_slice_nil w 24 3 none l c Tryd.underlying24, Result.andThen]
set_option maxRecDepth 100000 in
theorem cloneL (D : Option Addr) (d : Nat) (ord : List Nat) (W : World) (hr : Row W D (ic (natI ord))) (hn : ord.length ≤ 1000) : Calls Tryd.prog 78 #[.slice D ord.length d] W fun e w' => ∃ x : LeftV, e = .returned x.v ∧ LeftOk W.heap.size ord x w' ∧ Below W.heap.size W w' := by
  have hnl : (natI ord).length = ord.length := by simp
  cases D with
  | none =>
    have h0 : ord.length = 0 := by
      by_cases h : 0 < ord.length
      · obtain ⟨ad, h1, _⟩ := hr.int (k := 0) (by rw [hnl]; exact h)
        cases h1
      · omega
    have HL : Hid (LeftOk W.heap.size ord ⟨.slice none 0 0, 0, 0⟩ W) := ⟨⟨none, 0, by rw [h0]⟩, fun h => by omega⟩
    rw [h0]
    clear h0 hr hnl hn
    have heq := eql_none W 0 d
    go_enter Tryd.func78, Tryd.ntmps78
    go_wp2
    go_ret
    exact ⟨_, rfl, HL.out, Below.refl _ _⟩
  | some ad =>
    have h := clone_some ad d (natI ord) W hr (by rw [hnl]; omega)
    rw [hnl] at h
    refine h.mono ?_
    rintro e w' ⟨ad', c', rfl, ho, hb⟩
    by_cases h0 : 0 < ord.length
    · obtain ⟨g, cur, hA, hg, hB, h1, h2, h3, h4⟩ := own_block ho h0
      injection hA with hA
      subst hA
      refine ⟨⟨_, g, c'⟩, rfl, ⟨⟨_, _, rfl⟩, fun _ => ⟨rfl, h2, hg, cur, hB, by rw [h3, Nat.mul_one], h1, fun j hj => ?_⟩⟩, hb⟩
      rw [← h4, ← Array.getElem?_toList, List.getElem?_take_of_lt (by omega)]
    · exact ⟨⟨_, 0, c'⟩, rfl, ⟨⟨_, _, rfl⟩, fun h => absurd h h0⟩, hb⟩
structure Lq where
  L : LeftV
  gF : Nat
  gB : Nat
  gE : Nat
  gP : Nat
  G : Nat
def lqC (J : Value) (n : Nat) (B : Nat → Nat) (m : Nat) (x : Lq) : Array Value := #[J, .int .i64 (n : Int), .int .u64 (B 0 : Int), .int .u64 (B 1 : Int), .int .u64 (B 2 : Int), .int .u64 (B 3 : Int), .int .u64 (B 4 : Int), .int .u64 (B 5 : Int), .int .u64 (B 6 : Int), .int .u64 (B 7 : Int), x.L.v, .slice (some ⟨x.gF, 0, none⟩) m m, .slice (some ⟨x.gE, 0, none⟩) n n, .slice (some ⟨x.gP, 0, none⟩) n n]
def lqZ : Array Value := #[.slice none 0 0, .int .i64 0, .int .u64 0, .int .u64 0, .int .u64 0, .int .u64 0, .int .u64 0, .int .u64 0, .int .u64 0, .int .u64 0, .slice none 0 0, .slice none 0 0, .slice none 0 0, .slice none 0 0]
/-- What has been made of a maker. -/
def LqS (w0 : World) (b : Nat) (wl : Array Value) (J : Value) (n : Nat) (B : Nat → Nat) (m : Nat) (ord : List Nat) (x : Lq) (L : Array Bool) (W : World) : Prop :=
  Below w0.heap.size w0 W ∧ BlockIs W b 72 wl ∧
  (L.getD 2 true = true → LeftOk w0.heap.size ord x.L W) ∧
  (L.getD 4 true = true → w0.heap.size ≤ x.gF ∧ BlockIs W x.gF 3 (ic (List.replicate m 0)).toArray) ∧
  (L.getD 5 true = true → BlockIs W x.gB 3 #[.int .i64 1000]) ∧
  (L.getD 8 true = true → w0.heap.size ≤ x.gE ∧ BlockIs W x.gE 3 (ic (List.replicate n 1000)).toArray) ∧
  (L.getD 11 true = true → w0.heap.size ≤ x.gP ∧ BlockIs W x.gP 78 (spc (List.replicate n ⟨0, 0, 0⟩)).toArray) ∧
  (L.getD 13 true = true → w0.heap.size ≤ x.G ∧ BlockIs W x.G 108 (if L.getD 14 true = true then lqC J n B m x else lqZ)) ∧
  (L.getD 2 true = true → L.getD 4 true = true → 0 < ord.length → x.L.g ≠ x.gF) ∧
  (L.getD 2 true = true → L.getD 8 true = true → 0 < ord.length → x.L.g ≠ x.gE) ∧
  (L.getD 4 true = true → L.getD 8 true = true → x.gF ≠ x.gE)
section
variable {w0 : World} {b : Nat} {wl : Array Value} {J : Value} {n m : Nat} {B : Nat → Nat} {ord : List Nat} {x : Lq} {L : Array Bool} {W W' : World}
theorem LqS.below (h : LqS w0 b wl J n B m ord x L W) (hb : Below W.heap.size W W') : LqS w0 b wl J n B m ord x L W' := by
  obtain ⟨h0, h1, h2, h4, h5, h8, h11, h13, d⟩ := h
  exact ⟨h0.trans (hb.mono h0.size), h1.below hb, fun e => (h2 e).below hb, fun e => ⟨(h4 e).1, (h4 e).2.below hb⟩, fun e => (h5 e).below hb, fun e => ⟨(h8 e).1, (h8 e).2.below hb⟩, fun e => ⟨(h11 e).1, (h11 e).2.below hb⟩, fun e => ⟨(h13 e).1, (h13 e).2.below hb⟩, d⟩
theorem LqS.other (h : LqS w0 b wl J n B m ord x L W) {i : Nat} (i2 : i ≠ 2) (i4 : i ≠ 4) (i5 : i ≠ 5) (i8 : i ≠ 8) (i11 : i ≠ 11) (i13 : i ≠ 13) (i14 : i ≠ 14) : LqS w0 b wl J n B m ord x (L.setIfInBounds i true) W := by
  unfold LqS
  rw [listed_ne i2, listed_ne i4, listed_ne i5, listed_ne i8, listed_ne i11, listed_ne i13, listed_ne i14]
  exact h
theorem LqS.setL (h : LqS w0 b wl J n B m ord x L W) (hb : Below W.heap.size W W') {y : LeftV} (hy : LeftOk W.heap.size ord y W') (h14 : L.getD 14 true = false) : LqS w0 b wl J n B m ord { x with L := y } (L.setIfInBounds 2 true) W' := by
  have hH := h.1.size
  obtain ⟨h0, h1, h2, h4, h5, h8, h11, h13, d1, d2, d3⟩ := h.below hb
  unfold LqS
  rw [listed_ne (i := 2) (j := 4) (by decide), listed_ne (i := 2) (j := 5) (by decide), listed_ne (i := 2) (j := 8) (by decide), listed_ne (i := 2) (j := 11) (by decide), listed_ne (i := 2) (j := 13) (by decide), listed_ne (i := 2) (j := 14) (by decide)]
  exact ⟨h0, h1, fun _ => hy.lower hH, h4, h5, h8, h11, fun e => by rw [if_neg (by rw [h14]; decide)]; have := h13 e; rw [if_neg (by rw [h14]; decide)] at this; exact this, fun _ e hp => by obtain ⟨_, _, hg, _⟩ := hy.2 hp; have := (h.2.2.2.1 e).2.lt; show y.g ≠ x.gF; omega, fun _ e hp => by obtain ⟨_, _, hg, _⟩ := hy.2 hp; have := (h.2.2.2.2.2.1 e).2.lt; show y.g ≠ x.gE; omega, d3⟩
theorem LqS.setF (h : LqS w0 b wl J n B m ord x L W) (hb : Below W.heap.size W W') {g : Nat} (hg : W.heap.size ≤ g) (hB : BlockIs W' g 3 (ic (List.replicate m 0)).toArray) (h14 : L.getD 14 true = false) : LqS w0 b wl J n B m ord { x with gF := g } (L.setIfInBounds 4 true) W' := by
  have hH := h.1.size
  obtain ⟨h0, h1, h2, h4, h5, h8, h11, h13, d1, d2, d3⟩ := h.below hb
  unfold LqS
  rw [listed_ne (i := 4) (j := 2) (by decide), listed_ne (i := 4) (j := 5) (by decide), listed_ne (i := 4) (j := 8) (by decide), listed_ne (i := 4) (j := 11) (by decide), listed_ne (i := 4) (j := 13) (by decide), listed_ne (i := 4) (j := 14) (by decide)]
  exact ⟨h0, h1, h2, fun _ => ⟨Nat.le_trans hH hg, hB⟩, h5, h8, h11, fun e => by rw [if_neg (by rw [h14]; decide)]; have := h13 e; rw [if_neg (by rw [h14]; decide)] at this; exact this, fun e _ hp => by have := (show x.L.g < W.heap.size by obtain ⟨_, _, _, cur, hc, _⟩ := (h.2.2.1 e).2 hp; exact hc.lt); show x.L.g ≠ g; omega, d2, fun _ e => by have := (h.2.2.2.2.2.1 e).2.lt; show g ≠ x.gE; omega⟩
theorem LqS.setB (h : LqS w0 b wl J n B m ord x L W) (hb : Below W.heap.size W W') {g : Nat} (hB : BlockIs W' g 3 #[.int .i64 1000]) (h14 : L.getD 14 true = false) : LqS w0 b wl J n B m ord { x with gB := g } (L.setIfInBounds 5 true) W' := by
  have hH := h.1.size
  obtain ⟨h0, h1, h2, h4, h5, h8, h11, h13, d1, d2, d3⟩ := h.below hb
  unfold LqS
  rw [listed_ne (i := 5) (j := 2) (by decide), listed_ne (i := 5) (j := 4) (by decide), listed_ne (i := 5) (j := 8) (by decide), listed_ne (i := 5) (j := 11) (by decide), listed_ne (i := 5) (j := 13) (by decide), listed_ne (i := 5) (j := 14) (by decide)]
  exact ⟨h0, h1, h2, h4, fun _ => hB, h8, h11, fun e => by rw [if_neg (by rw [h14]; decide)]; have := h13 e; rw [if_neg (by rw [h14]; decide)] at this; exact this, d1, d2, d3⟩
theorem LqS.setE (h : LqS w0 b wl J n B m ord x L W) (hb : Below W.heap.size W W') {g : Nat} (hg : W.heap.size ≤ g) (hB : BlockIs W' g 3 (ic (List.replicate n 1000)).toArray) (h14 : L.getD 14 true = false) : LqS w0 b wl J n B m ord { x with gE := g } (L.setIfInBounds 8 true) W' := by
  have hH := h.1.size
  obtain ⟨h0, h1, h2, h4, h5, h8, h11, h13, d1, d2, d3⟩ := h.below hb
  unfold LqS
  rw [listed_ne (i := 8) (j := 2) (by decide), listed_ne (i := 8) (j := 4) (by decide), listed_ne (i := 8) (j := 5) (by decide), listed_ne (i := 8) (j := 11) (by decide), listed_ne (i := 8) (j := 13) (by decide), listed_ne (i := 8) (j := 14) (by decide)]
  exact ⟨h0, h1, h2, h4, h5, fun _ => ⟨Nat.le_trans hH hg, hB⟩, h11, fun e => by rw [if_neg (by rw [h14]; decide)]; have := h13 e; rw [if_neg (by rw [h14]; decide)] at this; exact this, d1, fun e _ hp => by have := (show x.L.g < W.heap.size by obtain ⟨_, _, _, cur, hc, _⟩ := (h.2.2.1 e).2 hp; exact hc.lt); show x.L.g ≠ g; omega, fun e _ => by have := (h.2.2.2.1 e).2.lt; show x.gF ≠ g; omega⟩
theorem LqS.setP (h : LqS w0 b wl J n B m ord x L W) (hb : Below W.heap.size W W') {g : Nat} (hg : W.heap.size ≤ g) (hB : BlockIs W' g 78 (spc (List.replicate n ⟨0, 0, 0⟩)).toArray) (h14 : L.getD 14 true = false) : LqS w0 b wl J n B m ord { x with gP := g } (L.setIfInBounds 11 true) W' := by
  have hH := h.1.size
  obtain ⟨h0, h1, h2, h4, h5, h8, h11, h13, d1, d2, d3⟩ := h.below hb
  unfold LqS
  rw [listed_ne (i := 11) (j := 2) (by decide), listed_ne (i := 11) (j := 4) (by decide), listed_ne (i := 11) (j := 5) (by decide), listed_ne (i := 11) (j := 8) (by decide), listed_ne (i := 11) (j := 13) (by decide), listed_ne (i := 11) (j := 14) (by decide)]
  exact ⟨h0, h1, h2, h4, h5, h8, fun _ => ⟨Nat.le_trans hH hg, hB⟩, fun e => by rw [if_neg (by rw [h14]; decide)]; have := h13 e; rw [if_neg (by rw [h14]; decide)] at this; exact this, d1, d2, d3⟩
theorem LqS.setG (h : LqS w0 b wl J n B m ord x L W) (hb : Below W.heap.size W W') {g : Nat} (hg : W.heap.size ≤ g) (hB : BlockIs W' g 108 lqZ) (h14 : L.getD 14 true = false) : LqS w0 b wl J n B m ord { x with G := g } (L.setIfInBounds 13 true) W' := by
  have hH := h.1.size
  obtain ⟨h0, h1, h2, h4, h5, h8, h11, h13, d1, d2, d3⟩ := h.below hb
  unfold LqS
  rw [listed_ne (i := 13) (j := 2) (by decide), listed_ne (i := 13) (j := 4) (by decide), listed_ne (i := 13) (j := 5) (by decide), listed_ne (i := 13) (j := 8) (by decide), listed_ne (i := 13) (j := 11) (by decide), listed_ne (i := 13) (j := 14) (by decide)]
  exact ⟨h0, h1, h2, h4, h5, h8, h11, fun _ => ⟨Nat.le_trans hH hg, by rw [if_neg (by rw [h14]; decide)]; exact hB⟩, d1, d2, d3⟩
theorem LqS.store (h : LqS w0 b wl J n B m ord x L W) (hs : L.size = 15) (h13 : L.getD 13 true = true) : LqS w0 b wl J n B m ord x (L.setIfInBounds 14 true) (W.setRow x.G (lqC J n B m x)) := by
  obtain ⟨h0, h1, h2, h4, h5, h8, h11, hh, d⟩ := h
  obtain ⟨hG, hGB⟩ := hh h13
  have hne : ∀ {g : Nat} {t : TypeId} {cs : Array Value}, BlockIs W g t cs → t ≠ 108 → BlockIs (W.setRow x.G (lqC J n B m x)) g t cs := fun hg ht => (setRow_other _ _ _ _ (type_ne hg hGB ht)).trans hg
  unfold LqS
  rw [listed_ne (i := 14) (j := 2) (by decide), listed_ne (i := 14) (j := 4) (by decide), listed_ne (i := 14) (j := 5) (by decide), listed_ne (i := 14) (j := 8) (by decide), listed_ne (i := 14) (j := 11) (by decide), listed_ne (i := 14) (j := 13) (by decide)]
  refine ⟨below_setRow h0 hG _, hne h1 (by decide), fun e => ⟨(h2 e).1, fun hp => ?_⟩, fun e => ⟨(h4 e).1, hne (h4 e).2 (by decide)⟩, fun e => hne (h5 e) (by decide), fun e => ⟨(h8 e).1, hne (h8 e).2 (by decide)⟩, fun e => ⟨(h11 e).1, hne (h11 e).2 (by decide)⟩, fun _ => ⟨hG, ?_⟩, d⟩
  · obtain ⟨a1, a2, a3, cur, a4, a5⟩ := (h2 e).2 hp
    exact ⟨a1, a2, a3, cur, hne a4 (by decide), a5⟩
  · rw [if_pos (by rw [getD_set_true, if_pos ⟨rfl, by rw [hs]; decide⟩])]
    exact setRow_heap _ _ _ _ _ _ hGB
end
theorem exec_store14 {o : Oper} {ev : Operand → Value} {X Y : Operand} {g : Nat} {cs ds : Array Value} {w : World} (ho : o.op = .store 108 X Y) (hx : ev X = .pointer (some ⟨g, 0, none⟩)) (hy : ev Y = .agg ds) (h : BlockIs w g 108 cs) (hc : cs.size = 14) (hs : ds.size = 14) (h1 : ds.all (·.oneCell') = true) :
    (execOp ev o).run Tryd.prog w = .ok .skip (w.setRow g ds) := by
  have hst := run_storeVar_row (P := Tryd.prog) w g 108 108 cs ds h (by rw [hs]; kernel_rfl) (by rw [hc, hs]) h1
  unfold execOp
  simp only [ho, hx, hy, Instr.storeAt, Instr.sureAddr, Sem.run_bind, Sem.run_pure, Result.andThen_ok, hst]
theorem one14 {n m : Nat} {B : Nat → Nat} {x : Lq} {AV : Option Addr} {l cV : Nat} {AA : Option Addr} {k c : Nat} (hv : x.L.v = .slice AV l cV) : (lqC (.slice AA k c) n B m x).all (·.oneCell') = true := by
  unfold lqC
  rw [hv]
  simp [Value.oneCell']
theorem inv_step {L : Array Bool} {k : Nat} (h1 : L.getD 14 true = true → L.getD 12 true = true) (h2 : L.getD 12 true = true → L.getD 8 true = true ∧ L.getD 2 true = true) (a : k = 14 → L.getD 12 true = true) (b : k = 12 → L.getD 8 true = true ∧ L.getD 2 true = true) : ((L.setIfInBounds k true).getD 14 true = true → (L.setIfInBounds k true).getD 12 true = true) ∧ ((L.setIfInBounds k true).getD 12 true = true → (L.setIfInBounds k true).getD 8 true = true ∧ (L.setIfInBounds k true).getD 2 true = true) := by
  rw [getD_set_true, getD_set_true, getD_set_true, getD_set_true]
  constructor
  · intro h
    by_cases e : k = 12 ∧ 12 < L.size
    · rw [if_pos e]
    · rw [if_neg e]
      by_cases e2 : k = 14 ∧ 14 < L.size
      · exact a e2.1
      · rw [if_neg e2] at h; exact h1 h
  · intro h
    have hp : L.getD 8 true = true ∧ L.getD 2 true = true := by
      by_cases e2 : k = 12 ∧ 12 < L.size
      · exact b e2.1
      · rw [if_neg e2] at h; exact h2 h
    constructor
    · split
      · rfl
      · exact hp.1
    · split
      · rfl
      · exact hp.2
set_option maxRecDepth 100000 in
set_option maxHeartbeats 8000000 in
theorem listPlan_any (A D : Option Addr) (c d : Nat) (js : List J) (E : List Pr) (m : Nat) (ord : List Nat) (w : World) (hr : Row w A (jc js)) (ho : Row w D (ic (natI ord))) (hok : ∀ j ∈ js, okJ j = true) (h8 : js.length ≤ 8) (hirr : irrB js.length E js.length = true) (hm : 1 ≤ m ∧ m ≤ 4) (hp : ord.Perm (List.range js.length)) :
    Calls Tryd.prog 48 #[.agg (wlC (.slice A js.length c) (js.length : Int) (befN js.length (tabB js.length E))), .int .i64 (m : Int), .slice D ord.length d] w fun e w' => ∃ g, e = .returned (.slice (some ⟨g, 0, none⟩) js.length js.length) ∧ w.heap.size ≤ g ∧ BlockIs w' g 78 (spc (listL js (tabB js.length E) ord m)).toArray ∧ Below w.heap.size w w' := by
  obtain ⟨hol, hnd, hord, hall⟩ := perm_parts hp
  have HRUNS := Lib.hid (fun (now : Int) (s : LsS) (h : OkL js m now s) (hl : leftL ord s.ends ≠ []) => runs_after h hok h8 hord hall hirr (by omega) hl)
  have HOK := Lib.hid hok
  have HORD := Lib.hid hord
  have HND := Lib.hid hnd
  have HOL := Lib.hid hol
  have HR := Lib.hid hr
  have HO := Lib.hid ho
  clear hok hord hnd hirr hall hp hr ho
  obtain ⟨T, hT⟩ : ∃ T, tabB js.length E = T := ⟨_, rfl⟩
  rw [hT] at HRUNS ⊢
  clear hT
  have HRES : Hid (listL js T ord m = runL js T ord m 1001 0 (initL js.length m)) := rfl
  generalize listL js T ord m = RES at HRES ⊢
  obtain ⟨B, hB⟩ : ∃ B, befN js.length T = B := ⟨_, rfl⟩
  have HB := Lib.hid hB
  rw [hB]
  clear hB
  have hb1 := (Below.refl w.heap.size w).alloc (Nat.le_refl _) (.cells (wlC (.slice A js.length c) (js.length : Int) B) 72)
  have hB1 := BlockIs.new w 72 (wlC (.slice A js.length c) (js.length : Int) B)
  have H1 := Lib.hid (And.intro hb1.drew hB1.drew)
  have HMF := Lib.hid (run_make_row' (P := Tryd.prog) 24 3 (.int .i64 0) 8 Tryd.underlying24 infoI rfl .i64 .i64 m (by omega) (by omega))
  have HMP := Lib.hid (run_make_rows (P := Tryd.prog) 27 78 (.agg #[.int .i64 0, .int .i64 0, .int .i64 0]) 3 24 Tryd.underlying27 infoSp .i64 .i64 js.length (by omega) (by omega))
  have ew : wlC (.slice A js.length c) (js.length : Int) B = #[.slice A js.length c, .int .i64 (js.length : Int), .int .u64 (B 0 : Int), .int .u64 (B 1 : Int), .int .u64 (B 2 : Int), .int .u64 (B 3 : Int), .int .u64 (B 4 : Int), .int .u64 (B 5 : Int), .int .u64 (B 6 : Int), .int .u64 (B 7 : Int)] := rfl
  rw [ew] at hb1 hB1 ⊢
  clear hb1 hB1 hol
  go_enter Tryd.func48, Tryd.ntmps48
  go_wp2
  rw [← ew]

  refine wp_region_detP (γ := Lq) (by kernel_rfl) (fun x L W => LqS w w.heap.size (wlC (.slice A js.length c) (js.length : Int) B) (.slice A js.length c) js.length B m ord x L W ∧ (L.getD 14 true = true → L.getD 12 true = true) ∧ (L.getD 12 true = true → L.getD 8 true = true ∧ L.getD 2 true = true)) (fun x kk => (#[.agg (wlC (.slice A js.length c) (js.length : Int) B), .slice D ord.length d, x.L.v, .int .i64 (m : Int), .slice (some ⟨x.gF, 0, none⟩) m m, .slice (some ⟨x.gB, 0, none⟩) 1 1, .slice D ord.length d, .int .i64 (js.length : Int), .slice (some ⟨x.gE, 0, none⟩) js.length js.length, .slice D ord.length d, .int .i64 (js.length : Int), .slice (some ⟨x.gP, 0, none⟩) js.length js.length, .agg (lqC (.slice A js.length c) js.length B m x), .pointer (some ⟨x.G, 0, none⟩), undef] : Array Value).getD kk undef) ⟨⟨undef, 0, 0⟩, 0, 0, 0, 0, 0⟩ (by kernel_rfl) (by kernel_rfl) ⟨⟨H1.out.1, H1.out.2, fun h => absurd (h.symm.trans (rep_getD 15 2 (by decide))) (by decide), fun h => absurd (h.symm.trans (rep_getD 15 4 (by decide))) (by decide), fun h => absurd (h.symm.trans (rep_getD 15 5 (by decide))) (by decide), fun h => absurd (h.symm.trans (rep_getD 15 8 (by decide))) (by decide), fun h => absurd (h.symm.trans (rep_getD 15 11 (by decide))) (by decide), fun h => absurd (h.symm.trans (rep_getD 15 13 (by decide))) (by decide), fun h => absurd (h.symm.trans (rep_getD 15 2 (by decide))) (by decide), fun h => absurd (h.symm.trans (rep_getD 15 2 (by decide))) (by decide), fun h => absurd (h.symm.trans (rep_getD 15 4 (by decide))) (by decide)⟩, fun h => absurd (h.symm.trans (rep_getD 15 14 (by decide))) (by decide), fun h => absurd (h.symm.trans (rep_getD 15 12 (by decide))) (by decide)⟩ ?_ ?_
  · intro x L W hall hS
    have HS := Lib.hid hS
    have HL : Hid (L.getD 2 true = true ∧ L.getD 4 true = true ∧ L.getD 8 true = true ∧ L.getD 11 true = true ∧ L.getD 13 true = true ∧ L.getD 14 true = true) := ⟨hall 2 (by show 2 < 15; decide), hall 4 (by show 4 < 15; decide), hall 8 (by show 8 < 15; decide), hall 11 (by show 11 < 15; decide), hall 13 (by show 13 < 15; decide), hall 14 (by show 14 < 15; decide)⟩
    clear hS hall H1 HMF HMP HO
    simp only [putsL]
    obtain ⟨h0, _, h2, h4, _, h8', h11, h13, d1, d2, d3⟩ := HS.out.1
    obtain ⟨l2, l4, l8, l11, l13, l14⟩ := HL.out
    have hLO := h2 l2
    obtain ⟨hgF, hF⟩ := h4 l4
    obtain ⟨hgE, hE⟩ := h8' l8
    obtain ⟨hgP, hP⟩ := h11 l11
    obtain ⟨hG0, hG⟩ := h13 l13
    rw [if_pos l14] at hG
    obtain ⟨AL, cL, hv⟩ := hLO.1
    by_cases hn0 : js.length = 0
    · have c10 := hG.cell 10
      have c13 := hG.cell 13
      simp only [lqC, List.getElem?_toArray, List.getElem?_cons_zero, List.getElem?_cons_succ] at c10 c13
      rw [hv, HOL.out, hn0] at c10
      have hol : ord = [] := List.length_eq_zero_iff.1 (HOL.out.trans hn0)
      have HPL := Lib.hid (run_end HRES.out.symm (by rw [hol]; rfl))
      have HP := Lib.hid (And.intro hP (And.intro hgP h0))
      clear h0 h2 h4 h8' h11 h13 d1 d2 d3 l2 l4 l8 l11 l13 l14 hLO hgF hF hgE hE hgP hP hG0 hG hv hol hn0 HS HL HRUNS
      go_wp2
      refine wp_loop_rounds 1 ?_
      rw [rounds_succ]
      go_wp2
      go_ret
      exact ⟨x.gP, rfl, HP.out.2.1, HP.out.1.to (by rw [← HPL.out]; rfl), HP.out.2.2⟩
    · have hpos : 0 < ord.length := by rw [HOL.out]; omega
      obtain ⟨hv2, hcm, hgL, cur, hcB, hcs, hcl, hcc⟩ := hLO.2 hpos
      have hli : leftL ord (initL js.length m).ends = ord := left_init
      obtain ⟨a, haG, hA0, hL0⟩ : ∃ a : Lm, x.G = a.G ∧ a.Ok w.heap.size ∧ LmW a (.slice A js.length c) js.length B m (leftL ord (initL js.length m).ends).length (leftL ord (initL js.length m).ends) (initL js.length m) W := ⟨⟨x.G, x.L.g, x.gF, x.gE, x.gP, x.L.c⟩, rfl, ⟨hG0, hgL, hgF, hgE, hgP, type_ne hG hcB (by decide), type_ne hG hF (by decide), type_ne hG hE (by decide), type_ne hG hP (by decide), d1 l2 l4 hpos, d2 l2 l8 hpos, type_ne hcB hP (by decide), d3 l4 l8, type_ne hF hP (by decide), type_ne hE hP (by decide), hcm⟩, ⟨hG.to (by unfold lqC lmC; rw [hv2, hli]), ⟨cur, hcB, hcs, by rw [hli]; exact hcl, fun j hj => by rw [hli] at hj ⊢; exact hcc j hj⟩, hF, hE, hP⟩⟩
      have HA := Lib.hid hA0
      have HL0 := Lib.hid (And.intro h0 hL0)
      have HPOS := Lib.hid hpos
      clear h0 h2 h4 h8' h11 h13 d1 d2 d3 l2 l4 l8 l11 l13 l14 hLO hgF hF hgE hE hgP hP hG0 hG hv hv2 hcm hgL hcB hcs hcl hcc HS HL hA0 hL0 hli hpos
      rw [haG]
      clear haG
      go_wp2
      go_loopw [8] (fun nv wr => ∃ (i : Nat) (tt : Int) (s : LsS), Hid (OkL js m tt s) ∧ Hid (runL js T ord m (1001 - i) tt s = RES) ∧ Hid ((i : Int) ≤ tt) ∧ nv = .int .i64 tt ∧ Hid (Below w.heap.size w wr ∧ LmW a (.slice A js.length c) js.length B m (leftL ord s.ends).length (leftL ord s.ends) s wr)) (fun nv _ => 1001 - (intOf nv).toNat)
      case atStart => exact ⟨0, 0, initL js.length m, ok_init, HRES.out.symm, Int.le_refl _, rfl, HL0.out⟩
      case round =>
        obtain ⟨i, tt, s, hOk, hRun, hI, rfl, hW⟩ := hrel
        clear HL0
        by_cases hle : leftL ord s.ends = []
        · have c10 := hW.out.2.1.cell 10
          have c13 := hW.out.2.1.cell 13
          simp only [lmC, List.getElem?_toArray, List.getElem?_cons_zero, List.getElem?_cons_succ] at c10 c13
          rw [hle, List.length_nil] at c10
          have HP := Lib.hid (run_end hRun.out hle)
          clear hRun hI hle
          go_wp2
          go_ret
          exact ⟨a.gP, rfl, HA.out.hP, hW.out.2.2.2.2.2.to (by rw [HP.out]), hW.out.1⟩
        · have hpos : 0 < (leftL ord s.ends).length := List.length_pos_iff.2 hle
          have c10 := hW.out.2.1.cell 10
          simp only [lmC, List.getElem?_toArray, List.getElem?_cons_zero, List.getElem?_cons_succ] at c10
          have hn0' := hOk.out.n0
          have HRA := HRUNS.out tt s hOk.out hle
          have HOq := hOk.out.start (T := T) HOK.out h8 HORD.out m (Nat.le_refl _)
          have HMORE : Hid (∀ f, 1001 - i = f + 1 → runL js T ord m f (soonL (startTo js T ord tt s m).ends tt) (startTo js T ord tt s m) = RES) := fun f hf => run_more (by rw [← hf]; exact hRun.out) hle
          have hSO := soon_out HOq HOK.out h8 HRA
          have hS4 := (hSO.2.bd HOK.out h8).1
          have hS1 := hSO.1
          have HST := Lib.hid (start_any a A c js T ord m tt s w wr HA.out HR.out HOK.out h8 hm HOL.out HND.out HORD.out hOk.out hW.out.1 (by rw [HB.out]; exact hW.out.2))
          rw [HB.out] at HST
          have HOK3 := Lib.hid hSO.2
          have HLEN := Lib.hid HOq.le
          clear hSO HOq HRA hW hRun hle
          generalize startTo js T ord tt s m = q at *
          go_wp2_with fail
          refine HST.out.mono ?_
          rintro e w5 ⟨rfl, hW5, hb5⟩
          have hNE := nextEnd_any a.G a.gE js.length q.ends tt w5 (by rw [hW5.1.cell, HLEN.out]; rfl) (rowOf hW5.2.2.2.1) (by rw [HLEN.out]; exact h8)
          have HNE := Lib.hid hNE
          have HW5 := Lib.hid (And.intro hb5 hW5)
          clear hNE hW5 hb5 HST c10
          generalize soonL q.ends tt = tn at *
          go_wp2_with fail
          refine HNE.out.mono ?_
          rintro e _ ⟨rfl, rfl⟩
          clear HNE
          go_wp2
          go_roundw
          case rel => exact ⟨i + 1, tn, q, HOK3.out, HMORE.out _ (by have := hI.out; omega), by have := hI.out; show _ ≤ _; omega, rfl, HW5.out⟩
          case measure => simp [intOf]; omega
  · intro x L ac W iq op hLs hop hLi hLd hLn ⟨hS, hI1, hI2⟩ hlow hdep
    have hq : iq < 15 := (Array.getElem?_eq_some_iff.1 hop).1
    have val_eq : ∀ (i : Nat) (y : Lq), i ≠ 12 → (∀ j, j < 15 → j ≠ i → j ≠ 12 → (#[.agg (wlC (.slice A js.length c) (js.length : Int) B), .slice D ord.length d, y.L.v, .int .i64 (m : Int), .slice (some ⟨y.gF, 0, none⟩) m m, .slice (some ⟨y.gB, 0, none⟩) 1 1, .slice D ord.length d, .int .i64 (js.length : Int), .slice (some ⟨y.gE, 0, none⟩) js.length js.length, .slice D ord.length d, .int .i64 (js.length : Int), .slice (some ⟨y.gP, 0, none⟩) js.length js.length, .agg (lqC (.slice A js.length c) js.length B m y), .pointer (some ⟨y.G, 0, none⟩), undef] : Array Value).getD j undef = (#[.agg (wlC (.slice A js.length c) (js.length : Int) B), .slice D ord.length d, x.L.v, .int .i64 (m : Int), .slice (some ⟨x.gF, 0, none⟩) m m, .slice (some ⟨x.gB, 0, none⟩) 1 1, .slice D ord.length d, .int .i64 (js.length : Int), .slice (some ⟨x.gE, 0, none⟩) js.length js.length, .slice D ord.length d, .int .i64 (js.length : Int), .slice (some ⟨x.gP, 0, none⟩) js.length js.length, .agg (lqC (.slice A js.length c) js.length B m x), .pointer (some ⟨x.G, 0, none⟩), undef] : Array Value).getD j undef) → L.getD i true = false → L.getD 12 true = false → ∀ j, L.getD j true = true → (#[.agg (wlC (.slice A js.length c) (js.length : Int) B), .slice D ord.length d, y.L.v, .int .i64 (m : Int), .slice (some ⟨y.gF, 0, none⟩) m m, .slice (some ⟨y.gB, 0, none⟩) 1 1, .slice D ord.length d, .int .i64 (js.length : Int), .slice (some ⟨y.gE, 0, none⟩) js.length js.length, .slice D ord.length d, .int .i64 (js.length : Int), .slice (some ⟨y.gP, 0, none⟩) js.length js.length, .agg (lqC (.slice A js.length c) js.length B m y), .pointer (some ⟨y.G, 0, none⟩), undef] : Array Value).getD j undef = (#[.agg (wlC (.slice A js.length c) (js.length : Int) B), .slice D ord.length d, x.L.v, .int .i64 (m : Int), .slice (some ⟨x.gF, 0, none⟩) m m, .slice (some ⟨x.gB, 0, none⟩) 1 1, .slice D ord.length d, .int .i64 (js.length : Int), .slice (some ⟨x.gE, 0, none⟩) js.length js.length, .slice D ord.length d, .int .i64 (js.length : Int), .slice (some ⟨x.gP, 0, none⟩) js.length js.length, .agg (lqC (.slice A js.length c) js.length B m x), .pointer (some ⟨x.G, 0, none⟩), undef] : Array Value).getD j undef := fun i y _ hag hi h12 j hj => by
      by_cases h15 : j < 15
      · exact hag j h15 (fun e => by subst e; rw [hi] at hj; cases hj) (fun e => by subst e; rw [h12] at hj; cases hj)
      · have h1 : 15 ≤ j := by omega
        rw [Array.getD_eq_getD_getElem?, Array.getD_eq_getD_getElem?, Array.getElem?_eq_none (by simpa using h1), Array.getElem?_eq_none (by simpa using h1)]
    rcases (by omega : iq = 0 ∨ iq = 1 ∨ iq = 2 ∨ iq = 3 ∨ iq = 4 ∨ iq = 5 ∨ iq = 6 ∨ iq = 7 ∨ iq = 8 ∨ iq = 9 ∨ iq = 10 ∨ iq = 11 ∨ iq = 12 ∨ iq = 13 ∨ iq = 14) with rfl | rfl | rfl | rfl | rfl | rfl | rfl | rfl | rfl | rfl | rfl | rfl | rfl | rfl | rfl
    · obtain rfl := Option.some.inj hop
      have e3 : ac.tmps[3]?.getD undef = .pointer (some ⟨w.heap.size, 0, none⟩) := (Array.getD_eq_getD_getElem? ..).symm.trans (hlow 3 (by kernel_rfl))
      exact ⟨wanted_free rfl, .inl ⟨x, W, fun _ _ => rfl, exec_load10 (x := .tmp 3) rfl (hlow 3 (by kernel_rfl)) hS.2.1 rfl, ⟨hS.other (by decide) (by decide) (by decide) (by decide) (by decide) (by decide) (by decide), inv_step hI1 hI2 (fun e => absurd e (by decide)) (fun e => absurd e (by decide))⟩⟩⟩
    · obtain rfl := Option.some.inj hop
      have e2 : ac.tmps[2]?.getD undef = .slice D ord.length d := (Array.getD_eq_getD_getElem? ..).symm.trans (hlow 2 (by kernel_rfl))
      exact ⟨wanted_free rfl, .inl ⟨x, W, fun _ _ => rfl, by simp [execOp, Act.eval, e2, go_sem], ⟨hS.other (by decide) (by decide) (by decide) (by decide) (by decide) (by decide) (by decide), inv_step hI1 hI2 (fun e => absurd e (by decide)) (fun e => absurd e (by decide))⟩⟩⟩
    · obtain rfl := Option.some.inj hop
      have e10 : ac.tmps[10]?.getD undef = .slice D ord.length d := (Array.getD_eq_getD_getElem? ..).symm.trans (hdep 1 _ 10 (by kernel_rfl) rfl rfl)
      have h14 : L.getD 14 true = false := by
        cases h : L.getD 14 true
        · rfl
        · exact absurd (hI1 h) (by rw [hLn 12 (by kernel_rfl)]; decide)
      have hC := cloneL D d ord W (HO.out.below hS.1) (by rw [HOL.out]; omega)
      refine ⟨wanted_free rfl, .inr (.inl ⟨78, #[.slice D ord.length d], by simp [execOp, Act.eval, e10, go_sem], hC.mono ?_⟩)⟩
      rintro e w2 ⟨y, rfl, hy, hb2⟩
      exact ⟨{ x with L := y }, (val_eq 2 { x with L := y } (by decide) (fun j hj h1 h2 => by rcases (by omega : j = 0 ∨ j = 1 ∨ j = 3 ∨ j = 4 ∨ j = 5 ∨ j = 6 ∨ j = 7 ∨ j = 8 ∨ j = 9 ∨ j = 10 ∨ j = 11 ∨ j = 13 ∨ j = 14) with rfl | rfl | rfl | rfl | rfl | rfl | rfl | rfl | rfl | rfl | rfl | rfl | rfl <;> rfl) hLi (hLn 12 (by kernel_rfl))), rfl, ⟨hS.setL hb2 hy h14, inv_step hI1 hI2 (fun e => absurd e (by decide)) (fun e => absurd e (by decide))⟩⟩
    · obtain rfl := Option.some.inj hop
      have e1 : ac.tmps[1]?.getD undef = .int .i64 (m : Int) := (Array.getD_eq_getD_getElem? ..).symm.trans (hlow 1 (by kernel_rfl))
      exact ⟨wanted_free rfl, .inl ⟨x, W, fun _ _ => rfl, by simp [execOp, Act.eval, e1, go_sem], ⟨hS.other (by decide) (by decide) (by decide) (by decide) (by decide) (by decide) (by decide), inv_step hI1 hI2 (fun e => absurd e (by decide)) (fun e => absurd e (by decide))⟩⟩⟩
    · obtain rfl := Option.some.inj hop
      have e12 : ac.tmps[12]?.getD undef = .int .i64 (m : Int) := (Array.getD_eq_getD_getElem? ..).symm.trans (hdep 3 _ 12 (by kernel_rfl) rfl rfl)
      have h14 : L.getD 14 true = false := by
        cases h : L.getD 14 true
        · rfl
        · exact absurd (hI1 h) (by rw [hLn 12 (by kernel_rfl)]; decide)
      have hb2 := (Below.refl W.heap.size W).alloc (Nat.le_refl _) (.cells (madeCells #[.int .i64 0] m) 3)
      have hN := (BlockIs.new W 3 (madeCells #[.int .i64 0] m)).to (ic_made m)
      exact ⟨wanted_free rfl, .inl ⟨{ x with gF := W.heap.size }, _, (val_eq 4 { x with gF := W.heap.size } (by decide) (fun j hj h1 h2 => by rcases (by omega : j = 0 ∨ j = 1 ∨ j = 2 ∨ j = 3 ∨ j = 5 ∨ j = 6 ∨ j = 7 ∨ j = 8 ∨ j = 9 ∨ j = 10 ∨ j = 11 ∨ j = 13 ∨ j = 14) with rfl | rfl | rfl | rfl | rfl | rfl | rfl | rfl | rfl | rfl | rfl | rfl | rfl <;> rfl) hLi (hLn 12 (by kernel_rfl))), by simp [execOp, Act.eval, e12, HMF.out, go_sem], ⟨hS.setF hb2 (Nat.le_refl _) hN h14, inv_step hI1 hI2 (fun e => absurd e (by decide)) (fun e => absurd e (by decide))⟩⟩⟩
    · obtain rfl := Option.some.inj hop
      have h14 : L.getD 14 true = false := by
        cases h : L.getD 14 true
        · rfl
        · exact absurd (hI2 (hI1 h)).1 (by rw [hLn 8 (by kernel_rfl)]; decide)
      have hb2 := (Below.refl W.heap.size W).alloc (Nat.le_refl _) (.cells #[.int .i64 1000] 3)
      have hN := BlockIs.new W 3 #[.int .i64 1000]
      exact ⟨wanted_free rfl, .inl ⟨{ x with gB := W.heap.size }, W.alloc (.cells #[.int .i64 1000] 3), (fun j hj => by
        by_cases h15 : j < 15
        · rcases (by omega : j = 0 ∨ j = 1 ∨ j = 2 ∨ j = 3 ∨ j = 4 ∨ j = 5 ∨ j = 6 ∨ j = 7 ∨ j = 8 ∨ j = 9 ∨ j = 10 ∨ j = 11 ∨ j = 12 ∨ j = 13 ∨ j = 14) with rfl | rfl | rfl | rfl | rfl | rfl | rfl | rfl | rfl | rfl | rfl | rfl | rfl | rfl | rfl <;> first | rfl | (exact absurd hj (by rw [hLi]; decide))
        · have h1 : 15 ≤ j := by omega
          show Array.getD _ j undef = Array.getD _ j undef
          rw [Array.getD_eq_getD_getElem?, Array.getD_eq_getD_getElem?, Array.getElem?_eq_none (by simpa using h1), Array.getElem?_eq_none (by simpa using h1)]), by simp [execOp, Act.eval, go_sem], ⟨hS.setB hb2 hN h14, inv_step hI1 hI2 (fun e => absurd e (by decide)) (fun e => absurd e (by decide))⟩⟩⟩
    · obtain rfl := Option.some.inj hop
      have e2 : ac.tmps[2]?.getD undef = .slice D ord.length d := (Array.getD_eq_getD_getElem? ..).symm.trans (hlow 2 (by kernel_rfl))
      exact ⟨wanted_free rfl, .inl ⟨x, W, fun _ _ => rfl, by simp [execOp, Act.eval, e2, go_sem], ⟨hS.other (by decide) (by decide) (by decide) (by decide) (by decide) (by decide) (by decide), inv_step hI1 hI2 (fun e => absurd e (by decide)) (fun e => absurd e (by decide))⟩⟩⟩
    · obtain rfl := Option.some.inj hop
      have e15 : ac.tmps[15]?.getD undef = .slice D ord.length d := (Array.getD_eq_getD_getElem? ..).symm.trans (hdep 6 _ 15 (by kernel_rfl) rfl rfl)
      exact ⟨wanted_free rfl, .inl ⟨x, W, fun _ _ => rfl, by simp [execOp, Act.eval, e15, HOL.out, go_sem], ⟨hS.other (by decide) (by decide) (by decide) (by decide) (by decide) (by decide) (by decide), inv_step hI1 hI2 (fun e => absurd e (by decide)) (fun e => absurd e (by decide))⟩⟩⟩
    · obtain rfl := Option.some.inj hop
      have e14 : ac.tmps[14]?.getD undef = .slice (some ⟨x.gB, 0, none⟩) 1 1 := (Array.getD_eq_getD_getElem? ..).symm.trans (hdep 5 _ 14 (by kernel_rfl) rfl rfl)
      have e16 : ac.tmps[16]?.getD undef = .int .i64 (js.length : Int) := (Array.getD_eq_getD_getElem? ..).symm.trans (hdep 7 _ 16 (by kernel_rfl) rfl rfl)
      have h14 : L.getD 14 true = false := by
        cases h : L.getD 14 true
        · rfl
        · exact absurd (hI1 h) (by rw [hLn 12 (by kernel_rfl)]; decide)
      have h5 : L.getD 5 true = true := hLd 5 (by kernel_rfl)
      have hB5 := hS.2.2.2.2.1 h5
      have hRP : Calls Tryd.prog 79 #[.slice (some ⟨x.gB, 0, none⟩) 1 1, .int .i64 (js.length : Int)] W fun e w' => ∃ g, e = .returned (.slice (some ⟨g, 0, none⟩) js.length js.length) ∧ W.heap.size ≤ g ∧ BlockIs w' g 3 (ic (List.replicate js.length 1000)).toArray ∧ Below W.heap.size W w' := by
        by_cases h0 : js.length = 0
        · rw [h0]; exact repeat_none ⟨x.gB, 0, none⟩ 1 W
        · exact repeat_any ⟨x.gB, 0, none⟩ 1 js.length W (hB5.cell 0) hB5.lt (by omega) (by omega)
      refine ⟨wanted_free rfl, .inr (.inl ⟨79, #[.slice (some ⟨x.gB, 0, none⟩) 1 1, .int .i64 (js.length : Int)], by simp [execOp, Act.eval, e14, e16, go_sem], hRP.mono ?_⟩)⟩
      rintro e w2 ⟨g, rfl, hg, hN, hb2⟩
      exact ⟨{ x with gE := g }, (val_eq 8 { x with gE := g } (by decide) (fun j hj h1 h2 => by rcases (by omega : j = 0 ∨ j = 1 ∨ j = 2 ∨ j = 3 ∨ j = 4 ∨ j = 5 ∨ j = 6 ∨ j = 7 ∨ j = 9 ∨ j = 10 ∨ j = 11 ∨ j = 13 ∨ j = 14) with rfl | rfl | rfl | rfl | rfl | rfl | rfl | rfl | rfl | rfl | rfl | rfl | rfl <;> rfl) hLi (hLn 12 (by kernel_rfl))), rfl, ⟨hS.setE hb2 hg hN h14, inv_step hI1 hI2 (fun e => absurd e (by decide)) (fun e => absurd e (by decide))⟩⟩
    · obtain rfl := Option.some.inj hop
      have e2 : ac.tmps[2]?.getD undef = .slice D ord.length d := (Array.getD_eq_getD_getElem? ..).symm.trans (hlow 2 (by kernel_rfl))
      exact ⟨wanted_free rfl, .inl ⟨x, W, fun _ _ => rfl, by simp [execOp, Act.eval, e2, go_sem], ⟨hS.other (by decide) (by decide) (by decide) (by decide) (by decide) (by decide) (by decide), inv_step hI1 hI2 (fun e => absurd e (by decide)) (fun e => absurd e (by decide))⟩⟩⟩
    · obtain rfl := Option.some.inj hop
      have e18 : ac.tmps[18]?.getD undef = .slice D ord.length d := (Array.getD_eq_getD_getElem? ..).symm.trans (hdep 9 _ 18 (by kernel_rfl) rfl rfl)
      exact ⟨wanted_free rfl, .inl ⟨x, W, fun _ _ => rfl, by simp [execOp, Act.eval, e18, HOL.out, go_sem], ⟨hS.other (by decide) (by decide) (by decide) (by decide) (by decide) (by decide) (by decide), inv_step hI1 hI2 (fun e => absurd e (by decide)) (fun e => absurd e (by decide))⟩⟩⟩
    · obtain rfl := Option.some.inj hop
      have e19 : ac.tmps[19]?.getD undef = .int .i64 (js.length : Int) := (Array.getD_eq_getD_getElem? ..).symm.trans (hdep 10 _ 19 (by kernel_rfl) rfl rfl)
      have h14 : L.getD 14 true = false := by
        cases h : L.getD 14 true
        · rfl
        · exact absurd (hI1 h) (by rw [hLn 12 (by kernel_rfl)]; decide)
      have hb2 := (Below.refl W.heap.size W).alloc (Nat.le_refl _) (.cells (madeCells #[.int .i64 0, .int .i64 0, .int .i64 0] (js.length * 3)) 78)
      have hN := (BlockIs.new W 78 (madeCells #[.int .i64 0, .int .i64 0, .int .i64 0] (js.length * 3))).to (cell3 js.length)
      exact ⟨wanted_free rfl, .inl ⟨{ x with gP := W.heap.size }, _, (val_eq 11 { x with gP := W.heap.size } (by decide) (fun j hj h1 h2 => by rcases (by omega : j = 0 ∨ j = 1 ∨ j = 2 ∨ j = 3 ∨ j = 4 ∨ j = 5 ∨ j = 6 ∨ j = 7 ∨ j = 8 ∨ j = 9 ∨ j = 10 ∨ j = 13 ∨ j = 14) with rfl | rfl | rfl | rfl | rfl | rfl | rfl | rfl | rfl | rfl | rfl | rfl | rfl <;> rfl) hLi (hLn 12 (by kernel_rfl))), by simp [execOp, Act.eval, e19, HMP.out, go_sem], ⟨hS.setP hb2 (Nat.le_refl _) hN h14, inv_step hI1 hI2 (fun e => absurd e (by decide)) (fun e => absurd e (by decide))⟩⟩⟩
    · obtain rfl := Option.some.inj hop
      have e9 : ac.tmps[9]?.getD undef = .agg (wlC (.slice A js.length c) (js.length : Int) B) := (Array.getD_eq_getD_getElem? ..).symm.trans (hdep 0 _ 9 (by kernel_rfl) rfl rfl)
      have e11 : ac.tmps[11]?.getD undef = x.L.v := (Array.getD_eq_getD_getElem? ..).symm.trans (hdep 2 _ 11 (by kernel_rfl) rfl rfl)
      have e13 : ac.tmps[13]?.getD undef = .slice (some ⟨x.gF, 0, none⟩) m m := (Array.getD_eq_getD_getElem? ..).symm.trans (hdep 4 _ 13 (by kernel_rfl) rfl rfl)
      have e17 : ac.tmps[17]?.getD undef = .slice (some ⟨x.gE, 0, none⟩) js.length js.length := (Array.getD_eq_getD_getElem? ..).symm.trans (hdep 8 _ 17 (by kernel_rfl) rfl rfl)
      have e20 : ac.tmps[20]?.getD undef = .slice (some ⟨x.gP, 0, none⟩) js.length js.length := (Array.getD_eq_getD_getElem? ..).symm.trans (hdep 11 _ 20 (by kernel_rfl) rfl rfl)
      obtain ⟨AV, cV, hv⟩ := (hS.2.2.1 (hLd 2 (by kernel_rfl))).1
      rw [hv] at e11
      exact ⟨wanted_free rfl, .inl ⟨x, W, fun _ _ => rfl, by unfold wlC at e9; simp [execOp, Act.eval, e9, e11, e13, e17, e20, go_sem, lqC, hv], ⟨hS.other (by decide) (by decide) (by decide) (by decide) (by decide) (by decide) (by decide), inv_step hI1 hI2 (fun e => absurd e (by decide)) (fun _ => ⟨hLd 8 (by kernel_rfl), hLd 2 (by kernel_rfl)⟩)⟩⟩⟩
    · obtain rfl := Option.some.inj hop
      have hb2 := (Below.refl W.heap.size W).alloc (Nat.le_refl _) (.cells lqZ 108)
      have hN := BlockIs.new W 108 lqZ
      have h14 : L.getD 14 true = false := hLn 14 (by kernel_rfl)
      exact ⟨wanted_free rfl, .inl ⟨{ x with G := W.heap.size }, W.alloc (.cells lqZ 108), (fun j hj => by
        by_cases h15 : j < 15
        · rcases (by omega : j = 0 ∨ j = 1 ∨ j = 2 ∨ j = 3 ∨ j = 4 ∨ j = 5 ∨ j = 6 ∨ j = 7 ∨ j = 8 ∨ j = 9 ∨ j = 10 ∨ j = 11 ∨ j = 12 ∨ j = 13 ∨ j = 14) with rfl | rfl | rfl | rfl | rfl | rfl | rfl | rfl | rfl | rfl | rfl | rfl | rfl | rfl | rfl <;> first | rfl | (exact absurd hj (by rw [hLi]; decide))
        · have h1 : 15 ≤ j := by omega
          show Array.getD _ j undef = Array.getD _ j undef
          rw [Array.getD_eq_getD_getElem?, Array.getD_eq_getD_getElem?, Array.getElem?_eq_none (by simpa using h1), Array.getElem?_eq_none (by simpa using h1)]), by simp [execOp, Act.eval, go_sem, lqZ], ⟨hS.setG hb2 (Nat.le_refl _) hN h14, inv_step hI1 hI2 (fun e => absurd e (by decide)) (fun e => absurd e (by decide))⟩⟩⟩
    · obtain rfl := Option.some.inj hop
      have e7 : ac.tmps[7]?.getD undef = .pointer (some ⟨x.G, 0, none⟩) := (Array.getD_eq_getD_getElem? ..).symm.trans (hdep 13 _ 7 (by kernel_rfl) rfl rfl)
      have e21 : ac.tmps[21]?.getD undef = .agg (lqC (.slice A js.length c) js.length B m x) := (Array.getD_eq_getD_getElem? ..).symm.trans (hdep 12 _ 21 (by kernel_rfl) rfl rfl)
      have h13 : L.getD 13 true = true := hLd 13 (by kernel_rfl)
      obtain ⟨hG, hGB⟩ := hS.2.2.2.2.2.2.2.1 h13
      rw [if_neg (by rw [hLi]; decide)] at hGB
      obtain ⟨AV, cV, hv⟩ := (hS.2.2.1 (hI2 (hLd 12 (by kernel_rfl))).2).1
      exact ⟨wanted_free rfl, .inr (.inr ⟨W.setRow x.G (lqC (.slice A js.length c) js.length B m x), rfl, exec_store14 (X := .tmp 7) (Y := .tmp 21) rfl (hdep 13 _ 7 (by kernel_rfl) rfl rfl) (hdep 12 _ 21 (by kernel_rfl) rfl rfl) hGB rfl rfl (one14 hv), ⟨hS.store hLs h13, inv_step hI1 hI2 (fun _ => hLd 12 (by kernel_rfl)) (fun e => absurd e (by decide))⟩⟩)⟩
end Go.Proofs.YtejgpecmjfgfbaaDoor

namespace Go.Proofs.YtejgpecmjfgfbaaDoor
set_option linter.unusedSimpArgs false
open Go.RowKit
def forB (js : List J) (m : Int) (E : List Pr) (o : List Int) : Bool := goodB js m E && ordB js.length o
theorem goodB_on (js : List J) (m : Int) (E : List Pr) : goodB js m E = onB js m E := by
  unfold onB
  cases hm : inB m 1 4
  · unfold goodB; rw [hm]; simp
  · rw [wl_good m hm]; rfl
set_option maxRecDepth 100000 in
theorem l7Ordered_any (A C D : Option Addr) (c d b : Nat) (js : List J) (m : Int) (E : List Pr) (o : List Int) (w : World) (hr : Row w A (jc js)) (hq : Row w C (pc E)) (ho : Row w D (ic o)) (hn : js.length ≤ 10000000) (hl : E.length ≤ 10000000) (hm : o.length ≤ 10000000) :
    Calls Tryd.prog 43 #[.slice A js.length c, .int .i64 m, .slice C E.length d, .slice D o.length b] w fun e w' => e = .returned (.bool (forB js m E o)) ∧ Below w.heap.size w w' := by
  have HF : Hid (forB js m E o = (goodB js m E && ordB js.length o)) := rfl
  have HG := Lib.hid (l7Good_any A C c d js m E w hr hq hn hl)
  have HO := Lib.hid ho
  clear hr hq ho
  cases hg : goodB js m E
  · rw [hg] at HF HG
    clear hg
    go_enter Tryd.func43, Tryd.ntmps43
    go_wp2_with fail
    refine HG.out.mono ?_
    rintro e w1 ⟨rfl, hb1⟩
    go_wp2
    go_ret
    exact ⟨by rw [HF.out]; rfl, hb1⟩
  · rw [hg, Bool.true_and] at HF
    rw [hg] at HG
    clear hg
    go_enter Tryd.func43, Tryd.ntmps43
    go_wp2_with fail
    refine HG.out.mono ?_
    rintro e w1 ⟨rfl, hb1⟩
    have HL := Lib.hid (l2Order_any (js.length : Int) D b o w1 (HO.out.below hb1) (by omega))
    go_wp2_with fail
    refine HL.out.mono ?_
    rintro e _ ⟨rfl, rfl⟩
    go_wp2
    go_ret
    exact ⟨by rw [HF.out]; rfl, hb1⟩
theorem exec_store10 {o : Oper} {ev : Operand → Value} {X Y : Operand} {g : Nat} {cs ds : Array Value} {w : World} (ho : o.op = .store 72 X Y) (hx : ev X = .pointer (some ⟨g, 0, none⟩)) (hy : ev Y = .agg ds) (h : BlockIs w g 72 cs) (hc : cs.size = 10) (hs : ds.size = 10) (h1 : ds.all (·.oneCell') = true) :
    (execOp ev o).run Tryd.prog w = .ok .skip (w.setRow g ds) := by
  have hst := run_storeVar_row (P := Tryd.prog) w g 72 72 cs ds h (by rw [hs]; kernel_rfl) (by rw [hc, hs]) h1
  unfold execOp
  simp only [ho, hx, hy, Instr.storeAt, Instr.sureAddr, Sem.run_bind, Sem.run_pure, Result.andThen_ok, hst]
theorem one10 {AJ : Option Addr} {l k nn : Nat} {B : Nat → Nat} : (wlC (.slice AJ l k) (nn : Int) B).all (·.oneCell') = true := by
  unfold wlC
  simp [Value.oneCell']
/-- What workloadFor hands back. -/
def ForOutW (w : World) (A : Option Addr) (c : Nat) (js : List J) (E : List Pr) (ok : Bool) (e : Ending) (w' : World) : Prop := Below w.heap.size w w' ∧ ∃ (AJ : Option Addr) (l k nn : Nat) (B : Nat → Nat), e = .returned (.tuple #[.agg (wlC (.slice AJ l k) (nn : Int) B), .bool ok]) ∧ (ok = true → js.length ≤ 8 ∧ wlC (.slice AJ l k) (nn : Int) B = wlC (.slice A js.length c) (js.length : Int) (befN js.length (tabB js.length E)))
set_option maxRecDepth 100000 in
set_option maxHeartbeats 600000 in
theorem workloadFor_any (A C D : Option Addr) (c d b : Nat) (js : List J) (m : Int) (E : List Pr) (o : List Int) (w : World) (hr : Row w A (jc js)) (hq : Row w C (pc E)) (ho : Row w D (ic o)) (hn : js.length ≤ 10000000) (hl : E.length ≤ 10000000) (hm : o.length ≤ 10000000) (hT : TzTab w) :
    Calls Tryd.prog 47 #[.slice A js.length c, .int .i64 m, .slice C E.length d, .slice D o.length b] w (ForOutW w A c js E (forB js m E o)) := by
  have HF : Hid (forB js m E o = (goodB js m E && ordB js.length o)) := rfl
  rw [goodB_on] at HF
  have b0 := (Below.refl w.heap.size w).alloc (Nat.le_refl _) (.cells wlZ 72)
  have h0 := BlockIs.new w 72 wlZ
  have HWO := Lib.hid (workloadOn_any A C c d js m E _ (hr.below b0) (hq.below b0) hn hl (hT.below b0))
  have HO := Lib.hid ho
  have H0 := Lib.hid (And.intro b0 h0)
  clear b0 h0 hr hq ho hT
  go_enter Tryd.func47, Tryd.ntmps47
  go_wp2_with fail
  refine HWO.out.mono ?_
  rintro e w1 ⟨hb1, ⟨hw, h8, rfl⟩ | ⟨hw, rfl⟩⟩
  · have HD : Hid (forB js m E o = ordB js.length o) := by show _ = _; rw [HF.out, hw, Bool.true_and]
    obtain ⟨B, hB⟩ : ∃ B, B = befN js.length (tabB js.length E) := ⟨_, rfl⟩
    have HK : Hid (js.length ≤ 8 ∧ B = befN js.length (tabB js.length E)) := ⟨h8, hB⟩
    rw [← hB]
    have hb2 := H0.out.1.trans (hb1.mono H0.out.1.size)
    have hB2 := H0.out.2.below hb1
    have hb3 := hb2.alloc hb2.size (.cells (wlC (.slice A js.length c) (js.length : Int) B) 72)
    have hB3 := hB2.below ((Below.refl _ _).alloc (Nat.le_refl _) (.cells (wlC (.slice A js.length c) (js.length : Int) B) 72))
    have hN3 := BlockIs.new w1 72 (wlC (.slice A js.length c) (js.length : Int) B)
    have hne : w1.heap.size ≠ w.heap.size := by have := hB2.lt; omega
    have H4 := Lib.hid (And.intro hb3 (And.intro hN3 hB3))
    have hg8 : w.heap.size ≤ w.heap.size := Nat.le_refl _
    clear hb2 hB2 hb3 hB3 hN3 HWO H0 hb1 hw HF hB
    unfold wlC
    go_wp2
    rw [show (#[.slice A js.length c, .int .i64 (js.length : Int), .int .u64 (B 0 : Int), .int .u64 (B 1 : Int), .int .u64 (B 2 : Int), .int .u64 (B 3 : Int), .int .u64 (B 4 : Int), .int .u64 (B 5 : Int), .int .u64 (B 6 : Int), .int .u64 (B 7 : Int)] : Array Value) = wlC (.slice A js.length c) (js.length : Int) B from rfl]
    refine wp_region_detP (γ := Unit) (by kernel_rfl) (fun _ L W => (Below w.heap.size w W ∧ BlockIs W w1.heap.size 72 (wlC (.slice A js.length c) (js.length : Int) B)) ∧ (L.getD 8 true = false → BlockIs W w.heap.size 72 wlZ) ∧ (L.getD 8 true = true → BlockIs W w.heap.size 72 (wlC (.slice A js.length c) (js.length : Int) B))) (fun _ kk => (#[.agg (wlC (.slice A js.length c) (js.length : Int) B), .bool true, .bool true, .slice A js.length c, .int .i64 (js.length : Int), .slice D o.length b, .bool (ordB js.length o), .bool (ordB js.length o), undef, .bool (ordB js.length o)] : Array Value).getD kk undef) () (by kernel_rfl) (by kernel_rfl) ⟨⟨H4.out.1.drew, H4.out.2.1⟩, fun _ => H4.out.2.2, fun h => absurd (h.symm.trans (rep_getD 10 8 (by decide))) (by decide)⟩ ?_ ?_
    · intro _ L W hall hS
      have HF := Lib.hid (And.intro hS.1.1 (hS.2.2 (hall 8 (by show 8 < 10; decide))))
      clear hS hall H4
      simp only [putsL]
      go_wp2
      simp only [List.getElem_toArray, List.getElem_cons_zero, List.getElem_cons_succ, Act.put, Array.getD_eq_getD_getElem?, List.getElem?_toArray, List.getElem?_cons_zero, List.getElem?_cons_succ, Option.getD_some, List.setIfInBounds_toArray, List.set_cons_zero, List.set_cons_succ, Nat.reduceAdd]
      have hfin : ForOutW w A c js E (forB js m E o) (.returned (.tuple #[.agg (wlC (.slice A js.length c) (js.length : Int) B), .bool (ordB js.length o)])) W := ⟨HF.out.1, A, js.length, c, js.length, B, by rw [HD.out], fun _ => ⟨HK.out.1, by rw [HK.out.2]⟩⟩
      generalize ForOutW w A c js E (forB js m E o) = RR at hfin ⊢
      have hBB := HF.out.2
      have hcs : (wlC (.slice A js.length c) (js.length : Int) B).size = 10 := rfl
      clear HF HK HD HO
      generalize wlC (.slice A js.length c) (js.length : Int) B = cs at *
      generalize ordB (js.length : Int) o = bb at *
      exact bodyPost_ret (v := .tuple #[.agg cs, .bool bb]) (results_cellW (p := 8) (q := 9) rfl _ _ w.heap.size rfl hBB hcs) rfl hfin
    · intro _ L ac W iq op hLs hop hLi hLd hLn hS hlow hdep
      have hq : iq < 10 := (Array.getElem?_eq_some_iff.1 hop).1
      have K : ∀ (W2 : World), Below W.heap.size W W2 → iq ≠ 8 → (Below w.heap.size w W2 ∧ BlockIs W2 w1.heap.size 72 (wlC (.slice A js.length c) (js.length : Int) B)) ∧ ((L.setIfInBounds iq true).getD 8 true = false → BlockIs W2 w.heap.size 72 wlZ) ∧ ((L.setIfInBounds iq true).getD 8 true = true → BlockIs W2 w.heap.size 72 (wlC (.slice A js.length c) (js.length : Int) B)) := fun W2 hb h1 => by
        rw [getD_set_true, if_neg (fun h => h1 h.1)]
        exact ⟨⟨hS.1.1.trans (hb.mono hS.1.1.size), hS.1.2.below hb⟩, fun h => (hS.2.1 h).below hb, fun h => (hS.2.2 h).below hb⟩
      rcases (by omega : iq = 0 ∨ iq = 1 ∨ iq = 2 ∨ iq = 3 ∨ iq = 4 ∨ iq = 5 ∨ iq = 6 ∨ iq = 7 ∨ iq = 8 ∨ iq = 9) with rfl | rfl | rfl | rfl | rfl | rfl | rfl | rfl | rfl | rfl
      · obtain rfl := Option.some.inj hop
        have e10 : ac.tmps[10]?.getD undef = .pointer (some ⟨w1.heap.size, 0, none⟩) := (Array.getD_eq_getD_getElem? ..).symm.trans (hlow 10 (by kernel_rfl))
        exact ⟨wanted_free rfl, .inl ⟨(), W, fun _ _ => rfl, exec_load10 (x := .tmp 10) rfl (hlow 10 (by kernel_rfl)) hS.1.2 rfl, K W (Below.refl _ _) (by decide)⟩⟩
      · obtain rfl := Option.some.inj hop
        have e11 : ac.tmps[11]?.getD undef = .bool true := (Array.getD_eq_getD_getElem? ..).symm.trans (hlow 11 (by kernel_rfl))
        exact ⟨wanted_free rfl, .inl ⟨(), W, fun _ _ => rfl, by simp [execOp, Act.eval, e11, go_sem], K W (Below.refl _ _) (by decide)⟩⟩
      · obtain rfl := Option.some.inj hop
        have e20 : ac.tmps[20]?.getD undef = .bool true := (Array.getD_eq_getD_getElem? ..).symm.trans (hdep 1 _ 20 (by kernel_rfl) rfl rfl)
        exact ⟨wanted_free rfl, .inl ⟨(), W, fun _ _ => rfl, by simp [execOp, Act.eval, e20, go_sem], K W (Below.refl _ _) (by decide)⟩⟩
      · obtain rfl := Option.some.inj hop
        have e0 : ac.tmps[0]?.getD undef = .slice A js.length c := (Array.getD_eq_getD_getElem? ..).symm.trans (hlow 0 (by kernel_rfl))
        exact ⟨wanted_guard (g := 2) (d := 21) (b := true) rfl rfl rfl (hdep 2 _ 21 (by kernel_rfl) rfl rfl), .inl ⟨(), W, fun _ _ => rfl, by simp [execOp, Act.eval, e0, go_sem], K W (Below.refl _ _) (by decide)⟩⟩
      · obtain rfl := Option.some.inj hop
        have e22 : ac.tmps[22]?.getD undef = .slice A js.length c := (Array.getD_eq_getD_getElem? ..).symm.trans (hdep 3 _ 22 (by kernel_rfl) rfl rfl)
        exact ⟨wanted_guard (g := 2) (d := 21) (b := true) rfl rfl rfl (hdep 2 _ 21 (by kernel_rfl) rfl rfl), .inl ⟨(), W, fun _ _ => rfl, by simp [execOp, Act.eval, e22, go_sem], K W (Below.refl _ _) (by decide)⟩⟩
      · obtain rfl := Option.some.inj hop
        have e3 : ac.tmps[3]?.getD undef = .slice D o.length b := (Array.getD_eq_getD_getElem? ..).symm.trans (hlow 3 (by kernel_rfl))
        exact ⟨wanted_guard (g := 2) (d := 21) (b := true) rfl rfl rfl (hdep 2 _ 21 (by kernel_rfl) rfl rfl), .inl ⟨(), W, fun _ _ => rfl, by simp [execOp, Act.eval, e3, go_sem], K W (Below.refl _ _) (by decide)⟩⟩
      · obtain rfl := Option.some.inj hop
        have e23 : ac.tmps[23]?.getD undef = .int .i64 (js.length : Int) := (Array.getD_eq_getD_getElem? ..).symm.trans (hdep 4 _ 23 (by kernel_rfl) rfl rfl)
        have e24 : ac.tmps[24]?.getD undef = .slice D o.length b := (Array.getD_eq_getD_getElem? ..).symm.trans (hdep 5 _ 24 (by kernel_rfl) rfl rfl)
        refine ⟨wanted_guard (g := 2) (d := 21) (b := true) rfl rfl rfl (hdep 2 _ 21 (by kernel_rfl) rfl rfl), .inr (.inl ⟨77, #[.int .i64 (js.length : Int), .slice D o.length b], by simp [execOp, Act.eval, e23, e24, go_sem], (IsOrder_any (js.length : Int) D b o W (HO.out.below hS.1.1) (by omega)).mono ?_⟩)⟩
        rintro e w2 ⟨rfl, hb⟩
        exact ⟨(), fun _ _ => rfl, rfl, K w2 hb (by decide)⟩
      · obtain rfl := Option.some.inj hop
        have e21 : ac.tmps[21]?.getD undef = .bool true := (Array.getD_eq_getD_getElem? ..).symm.trans (hdep 2 _ 21 (by kernel_rfl) rfl rfl)
        have e25 : ac.tmps[25]?.getD undef = .bool (ordB js.length o) := (Array.getD_eq_getD_getElem? ..).symm.trans (hdep 6 _ 25 (by kernel_rfl) rfl rfl)
        exact ⟨wanted_free rfl, .inl ⟨(), W, fun _ _ => rfl, by simp [execOp, Act.eval, e21, e25, go_sem], K W (Below.refl _ _) (by decide)⟩⟩
      · obtain rfl := Option.some.inj hop
        have e8 : ac.tmps[8]?.getD undef = .pointer (some ⟨w.heap.size, 0, none⟩) := (Array.getD_eq_getD_getElem? ..).symm.trans (hlow 8 (by kernel_rfl))
        have e19 : ac.tmps[19]?.getD undef = .agg (wlC (.slice A js.length c) (js.length : Int) B) := (Array.getD_eq_getD_getElem? ..).symm.trans (hdep 0 _ 19 (by kernel_rfl) rfl rfl)
        have hB8 := hS.2.1 hLi
        refine ⟨wanted_free rfl, .inr (.inr ⟨W.setRow w.heap.size (wlC (.slice A js.length c) (js.length : Int) B), rfl, exec_store10 (X := .tmp 8) (Y := .tmp 19) rfl (hlow 8 (by kernel_rfl)) (hdep 0 _ 19 (by kernel_rfl) rfl rfl) hB8 rfl rfl one10, ⟨below_setRow hS.1.1 hg8 _, (setRow_other _ _ _ _ hne).trans hS.1.2⟩, fun h => ?_, fun _ => setRow_heap _ _ _ _ _ _ hB8⟩)⟩
        rw [getD_set_true, if_pos ⟨rfl, by rw [hLs]; decide⟩] at h
        cases h
      · obtain rfl := Option.some.inj hop
        have e26 : ac.tmps[26]?.getD undef = .bool (ordB js.length o) := (Array.getD_eq_getD_getElem? ..).symm.trans (hdep 7 _ 26 (by kernel_rfl) rfl rfl)
        exact ⟨wanted_free rfl, .inl ⟨(), W, fun _ _ => rfl, by simp [execOp, Act.eval, e26, go_sem], K W (Below.refl _ _) (by decide)⟩⟩
  · have HD : Hid (forB js m E o = false) := by show _ = _; rw [HF.out, hw, Bool.false_and]
    have hb2 := H0.out.1.trans (hb1.mono H0.out.1.size)
    have hB2 := H0.out.2.below hb1
    have hb3 := hb2.alloc hb2.size (.cells wlZ 72)
    have hB3 := hB2.below ((Below.refl _ _).alloc (Nat.le_refl _) (.cells wlZ 72))
    have hN3 := BlockIs.new w1 72 wlZ
    have H4 := Lib.hid (And.intro hb3 (And.intro hN3 hB3))
    clear hb2 hB2 hb3 hB3 hN3 HWO H0 hb1 hw HF
    have hN3 := H4.out.2.1
    have hB3 := H4.out.2.2
    have hb3 := H4.out.1
    have y0 := hN3.cell 0
    have y1 := hN3.cell 1
    have y2 := hN3.cell 2
    have y3 := hN3.cell 3
    have y4 := hN3.cell 4
    have y5 := hN3.cell 5
    have y6 := hN3.cell 6
    have y7 := hN3.cell 7
    have y8 := hN3.cell 8
    have y9 := hN3.cell 9
    have z0 := hB3.cell 0
    have z1 := hB3.cell 1
    have z2 := hB3.cell 2
    have z3 := hB3.cell 3
    have z4 := hB3.cell 4
    have z5 := hB3.cell 5
    have z6 := hB3.cell 6
    have z7 := hB3.cell 7
    have z8 := hB3.cell 8
    have z9 := hB3.cell 9
    have f0 := hB3.frozen 0
    have f1 := hB3.frozen 1
    have f2 := hB3.frozen 2
    have f3 := hB3.frozen 3
    have f4 := hB3.frozen 4
    have f5 := hB3.frozen 5
    have f6 := hB3.frozen 6
    have f7 := hB3.frozen 7
    have f8 := hB3.frozen 8
    have f9 := hB3.frozen 9
    simp only [wlZ, List.getElem?_toArray, List.getElem?_cons_zero, List.getElem?_cons_succ] at y0 y1 y2 y3 y4 y5 y6 y7 y8 y9 z0 z1 z2 z3 z4 z5 z6 z7 z8 z9
    have hSB := ((((((((((hB3.set 0 (.slice none 0 0)).set 1 (.int .i64 0)).set 2 (.int .u64 0)).set 3 (.int .u64 0)).set 4 (.int .u64 0)).set 5 (.int .u64 0)).set 6 (.int .u64 0)).set 7 (.int .u64 0)).set 8 (.int .u64 0)).set 9 (.int .u64 0)).drew
    have hSL := ((((((((((hb3.setCell (p := ⟨w.heap.size, 0, none⟩) (Nat.le_refl _) (.slice none 0 0)).setCell (p := ⟨w.heap.size, 1, none⟩) (Nat.le_refl _) (.int .i64 0)).setCell (p := ⟨w.heap.size, 2, none⟩) (Nat.le_refl _) (.int .u64 0)).setCell (p := ⟨w.heap.size, 3, none⟩) (Nat.le_refl _) (.int .u64 0)).setCell (p := ⟨w.heap.size, 4, none⟩) (Nat.le_refl _) (.int .u64 0)).setCell (p := ⟨w.heap.size, 5, none⟩) (Nat.le_refl _) (.int .u64 0)).setCell (p := ⟨w.heap.size, 6, none⟩) (Nat.le_refl _) (.int .u64 0)).setCell (p := ⟨w.heap.size, 7, none⟩) (Nat.le_refl _) (.int .u64 0)).setCell (p := ⟨w.heap.size, 8, none⟩) (Nat.le_refl _) (.int .u64 0)).setCell (p := ⟨w.heap.size, 9, none⟩) (Nat.le_refl _) (.int .u64 0)).drew
    have HS := Lib.hid (And.intro hSL (hSB.to (ds := wlZ) (by unfold wlZ; rfl)))
    clear hSB hSL
    clear hN3 hB3 hb3 H4
    unfold wlZ
    unfold wlZ at *
    go_wp2
    go_region
    go_wp2
    obtain ⟨hx1, hx2⟩ := HS.out
    generalize World.drew _ = WW at hx1 hx2 ⊢
    have hfin : ∀ W : World, Below w.heap.size w W → ForOutW w A c js E (forB js m E o) (.returned (.tuple #[.agg wlZ, .bool false])) W := fun W h => ⟨h, none, 0, 0, 0, fun _ => 0, by rw [HD.out]; rfl, fun e => by rw [HD.out] at e; cases e⟩
    generalize ForOutW w A c js E (forB js m E o) = RR at hfin ⊢
    exact bodyPost_ret (v := .tuple #[.agg wlZ, .bool false]) (results_cellW (p := 8) (q := 9) rfl _ _ w.heap.size rfl hx2 rfl) rfl (hfin _ hx1)
end Go.Proofs.YtejgpecmjfgfbaaDoor

namespace Go.Proofs.YtejgpecmjfgfbaaDoor
open Go.RowKit
theorem stepL_len (js : List J) (T : Nat → Nat → Bool) (ord : List Nat) (now : Int) (s : LsS) (k : Nat) : (stepL js T ord now s k).plan.length = s.plan.length := by
  unfold stepL
  split
  · split
    · rfl
    · simp [assignL]
  · rfl
theorem startTo_len (js : List J) (T : Nat → Nat → Bool) (ord : List Nat) (now : Int) (s : LsS) : ∀ k, (startTo js T ord now s k).plan.length = s.plan.length
  | 0 => rfl
  | k + 1 => by rw [startTo_succ, stepL_len, startTo_len js T ord now s k]
theorem runL_len (js : List J) (T : Nat → Nat → Bool) (ord : List Nat) (m : Nat) : ∀ (f : Nat) (now : Int) (s : LsS), (runL js T ord m f now s).length = s.plan.length
  | 0, _, _ => rfl
  | f + 1, now, s => by
    show (if leftL ord s.ends = [] then s.plan else runL js T ord m f (soonL (startTo js T ord now s m).ends now) (startTo js T ord now s m)).length = _
    split
    · rfl
    · rw [runL_len js T ord m f, startTo_len]
theorem listL_len (js : List J) (T : Nat → Nat → Bool) (ord : List Nat) (m : Nat) : (listL js T ord m).length = js.length := by
  unfold listL
  rw [runL_len]
  simp [initL]
def listR (js : List J) (m : Int) (E : List Pr) (o : List Int) : List Sp × Bool := if forB js m E o then (listL js (tabB js.length E) (natsOf o) m.toNat, true) else ([], false)
theorem for_parts {js : List J} {m : Int} {E : List Pr} {o : List Int} (h : forB js m E o = true) : goodB js m E = true ∧ ∃ (p : List Nat) (mm : Nat), o = natI p ∧ natsOf o = p ∧ p.Perm (List.range js.length) ∧ m = (mm : Int) ∧ m.toNat = mm ∧ 1 ≤ mm ∧ mm ≤ 4 := by
  unfold forB at h
  rw [Bool.and_eq_true] at h
  obtain ⟨_, _, _, _, hp, _, hm⟩ := good_parts h.1
  have hg : goodL js = true := plain_good hp
  obtain ⟨_, p, h1, h2, h3⟩ := two_out (js := js) (o := o) (by unfold twoB; rw [hg, h.2]; rfl)
  obtain ⟨m1, m4⟩ := inB_out hm
  exact ⟨h.1, p, m.toNat, h1, h3, h2, by omega, rfl, by omega, by omega⟩
theorem listR_len (js : List J) (m : Int) (E : List Pr) (o : List Int) : (listR js m E o).1.length ≤ 8 := by
  unfold listR
  split
  · rename_i h
    obtain ⟨hg, _⟩ := for_parts h
    obtain ⟨_, h8, _⟩ := good_parts hg
    show (listL js _ _ _).length ≤ 8
    rw [listL_len]
    exact h8
  · simp
theorem ret_plan {w w' : World} {r : List Sp × Bool} {xs : List Sp} {g : Nat} (hr : r = (xs, true)) (hg : w.heap.size ≤ g) (hB : BlockIs w' g 78 (spc xs).toArray) (hx : xs.length ≤ 1000) (hb : Below w.heap.size w w') (e : Ending) (he : e = .returned (.tuple #[.slice (some ⟨g, 0, none⟩) xs.length xs.length, .bool true])) : RetTB w r e w' := by
  subst hr he
  have hl := spc_len xs
  have h := hB.own (base := w.heap.size) (n := xs.length) (c := xs.length) (size := 3) hg (by simp [hl]; omega) (Nat.le_refl _) (by unfold maxLen; omega) (by simp [hl]; omega)
  rw [List.take_of_length_le (by simp [hl]; omega)] at h
  exact ⟨_, xs.length, rfl, Seg.of_own h, hb⟩
theorem ret_noplan {w w1 : World} {r : List Sp × Bool} (hr : r = ([], false)) (hb : Below w.heap.size w w1) (e : Ending) (he : e = .returned (.tuple #[.slice (some ⟨w1.heap.size, 0, none⟩) 0 0, .bool false])) : RetTB w r e (w1.alloc (.cells #[] 78)) := by
  subst hr he
  have h := (BlockIs.new w1 78 #[]).own (base := w.heap.size) (n := 0) (c := 0) (size := 3) hb.size (by simp) (Nat.le_refl _) (by unfold maxLen; omega) (by simp)
  exact ⟨_, 0, rfl, Seg.of_own h, hb.alloc hb.size _⟩
section
variable (A C D : Option Addr) (c d b : Nat) (js : List J) (m : Int) (E : List Pr) (o : List Int) (w : World) (hr : Row w A (jc js)) (hq : Row w C (pc E)) (ho : Row w D (ic o)) (hn : js.length ≤ 10000000) (hl : E.length ≤ 10000000) (hm : o.length ≤ 10000000)
include hr hq ho hn hl hm
set_option maxRecDepth 100000 in
set_option maxHeartbeats 400000 in
theorem spec_ListPlan : Calls Tryd.prog 13 #[.slice A js.length c, .int .i64 m, .slice C E.length d, .slice D o.length b] w (RetTB w (listR js m E o)) := by
  have HRR : Hid (listR js m E o = if forB js m E o then (listL js (tabB js.length E) (natsOf o) m.toNat, true) else ([], false)) := rfl
  have HG := Lib.hid (l7Ordered_any A C D c d b js m E o w hr hq ho hn hl hm)
  have HR := Lib.hid hr
  have HQ := Lib.hid hq
  have HO := Lib.hid ho
  clear hr hq ho
  go_enter Tryd.func13, Tryd.ntmps13
  go_wp2_with fail
  refine HG.out.mono ?_
  rintro e w1 ⟨rfl, hb1⟩
  cases hg : forB js m E o
  · rw [hg] at HRR
    have HB := Lib.hid hb1
    clear hg hb1
    go_wp2
    go_ret2
    exact ret_noplan HRR.out HB.out _ rfl
  · rw [hg, if_pos rfl] at HRR
    obtain ⟨hgo, p, mm, rfl, hnp, hp, rfl, hmt, hm1, hm4⟩ := for_parts hg
    obtain ⟨hok, h8, hirr, hE, _, _, _⟩ := good_parts hgo
    rw [hnp, hmt] at HRR
    have hnl : (natI p).length = p.length := by simp
    have HLL := Lib.hid (listL_len js (tabB js.length E) p mm)
    have HT := Lib.hid (l7List_any A C D c d b js mm E p w1 (HR.out.below hb1) (HQ.out.below hb1) (HO.out.below hb1) hl hok h8 hirr hE ⟨hm1, hm4⟩ hp)
    have HB := Lib.hid hb1
    obtain ⟨RES, hRES⟩ : ∃ RES, listL js (tabB js.length E) p mm = RES := ⟨_, rfl⟩
    rw [hRES] at HT HRR HLL
    clear hRES hg hb1 hgo hok hirr hE hp hnl hnp hmt HG
    go_wp2_with fail
    refine HT.out.mono ?_
    rintro e w2 ⟨g, rfl, hgs, hP, hb2⟩
    have HF := Lib.hid (And.intro hP (And.intro (HB.out.trans (hb2.mono HB.out.size)) (Nat.le_trans HB.out.size hgs)))
    clear hP hb2 hgs
    go_wp2
    go_ret2
    have hfin := ret_plan HRR.out HF.out.2.2 HF.out.1 (by rw [HLL.out]; omega) HF.out.2.1 _ rfl
    rw [HLL.out] at hfin
    exact hfin
set_option maxRecDepth 100000 in
set_option maxHeartbeats 400000 in
theorem impl_ListPlan (hT : TzTab w) : Calls Tryd.prog 17 #[.slice A js.length c, .int .i64 m, .slice C E.length d, .slice D o.length b] w (RetTB w (listR js m E o)) := by
  have HRR : Hid (listR js m E o = if forB js m E o then (listL js (tabB js.length E) (natsOf o) m.toNat, true) else ([], false)) := rfl
  have H := Lib.hid (workloadFor_any A C D c d b js m E o w hr hq ho hn hl hm hT)
  have HR := Lib.hid hr
  have HO := Lib.hid ho
  clear hr hq ho hT
  cases hg : forB js m E o
  · rw [hg] at HRR H
    clear hg
    go_enter Tryd.func17, Tryd.ntmps17
    go_wp2_with fail
    refine H.out.mono ?_
    rintro e w1 ⟨hb1, AJ, l, k, nn, B, rfl, _⟩
    have HB := Lib.hid (hb1.alloc hb1.size (.cells (wlC (.slice AJ l k) (nn : Int) B) 72))
    clear hb1
    unfold wlC
    unfold wlC at HB
    go_wp2
    go_ret2
    exact ret_noplan HRR.out HB.out _ (by rw [World.size_alloc]; rfl)
  · rw [hg] at HRR H
    rw [if_pos rfl] at HRR
    obtain ⟨hgo, p, mm, rfl, hnp, hp, rfl, hmt, hm1, hm4⟩ := for_parts hg
    obtain ⟨hok, h8, hirr, hE, _, _, _⟩ := good_parts hgo
    rw [hnp, hmt] at HRR
    have hnl : (natI p).length = p.length := by simp
    have HLL := Lib.hid (listL_len js (tabB js.length E) p mm)
    rw [hnl] at H
    clear hg
    go_enter Tryd.func17, Tryd.ntmps17
    go_wp2_with fail
    refine H.out.mono ?_
    rintro e w1 ⟨hb1, AJ, l, k, nn, B, rfl, hok2⟩
    rw [(hok2 rfl).2]
    have hb2 := hb1.alloc hb1.size (.cells (wlC (.slice A js.length c) (js.length : Int) (befN js.length (tabB js.length E))) 72)
    have HT := Lib.hid (listPlan_any A D c b js E mm p _ (HR.out.below hb2) (HO.out.below hb2) hok h8 hirr ⟨hm1, hm4⟩ hp)
    have HB := Lib.hid hb2
    obtain ⟨RES, hRES⟩ : ∃ RES, listL js (tabB js.length E) p mm = RES := ⟨_, rfl⟩
    rw [hRES] at HT HRR HLL
    clear hRES hb1 hb2 hgo hok hirr hE hp hnl hnp hmt H hok2
    unfold wlC
    unfold wlC at HB HT
    go_wp2_with fail
    refine HT.out.mono ?_
    rintro e w2 ⟨g, rfl, hgs, hP, hb2⟩
    have HF := Lib.hid (And.intro hP (And.intro (HB.out.trans (hb2.mono HB.out.size)) (Nat.le_trans HB.out.size hgs)))
    clear hP hb2 hgs
    go_wp2
    go_ret2
    have hfin := ret_plan HRR.out HF.out.2.2 HF.out.1 (by rw [HLL.out]; omega) HF.out.2.1 _ rfl
    rw [HLL.out] at hfin
    exact hfin
end
end Go.Proofs.YtejgpecmjfgfbaaDoor

namespace Go.Proofs.YtejgpecmjfgfbaaDoor
def PlanOk (js : List J) (m : Nat) (s : LsS) : Prop := ∀ k, k < js.length → endAt s.ends k ≠ 1000 → tkOk (m : Int) k (tkAt s.plan k) = true
section
variable {js : List J} {T : Nat → Nat → Bool} {ord : List Nat} {m : Nat} {now : Int} {s : LsS}
theorem PlanOk.step (hp : PlanOk js m s) (h : OkL js m now s) (hok : ∀ j ∈ js, okJ j = true) (h8 : js.length ≤ 8) (ho : ∀ j ∈ ord, j < js.length) {k : Nat} (hk : k < m) : PlanOk js m (stepL js T ord now s k) := by
  unfold stepL
  split
  · cases hpk : pickJ js.length T ord s.ends now with
    | none => exact hp
    | some j =>
      obtain ⟨hj, _, _⟩ := pick_out ho hpk
      have hbd := (h.bd hok h8).1
      have hn0 := h.n0
      intro i hi hne
      have hgs : tkAt (assignL js s now k j).plan i = if j = i then ⟨(j : Int), (k : Int), now⟩ else tkAt s.plan i := by
        unfold tkAt assignL
        simp only [List.getD_eq_getElem?_getD, List.getElem?_set]
        by_cases e : j = i
        · subst e; simp [h.lp, hj]
        · simp [e]
      rw [hgs]
      by_cases e : j = i
      · subst e
        rw [if_pos rfl]
        exact decide_eq_true ⟨rfl, by show (0 : Int) ≤ k; omega, by show (k : Int) < m; omega, hn0, by show now ≤ 500; omega⟩
      · rw [if_neg e]
        refine hp i hi ?_
        have : endAt (s.ends.set j (now + jAt js j)) i ≠ 1000 := hne
        rwa [endAt_set (by rw [h.le]; exact hj), if_neg e] at this
  · exact hp
theorem PlanOk.start (hp : PlanOk js m s) (h : OkL js m now s) (hok : ∀ j ∈ js, okJ j = true) (h8 : js.length ≤ 8) (ho : ∀ j ∈ ord, j < js.length) : ∀ k, k ≤ m → PlanOk js m (startTo js T ord now s k)
  | 0, _ => hp
  | k + 1, hk => by
    rw [startTo_succ]
    exact (PlanOk.start hp h hok h8 ho k (by omega)).step (h.start hok h8 ho k (by omega)) hok h8 ho (by omega)
end
theorem run_ok {js : List J} {E : List Ed} {ord : List Nat} {m : Nat} (hok : ∀ j ∈ js, okJ j = true) (h8 : js.length ≤ 8) (ho : ∀ j ∈ ord, j < js.length) (hall : ∀ j, j < js.length → j ∈ ord) (hirr : irrB js.length E js.length = true) (hm : 0 < m) : ∀ (f : Nat) (now : Int) (s : LsS), OkL js m now s → PlanOk js m s → 1001 ≤ (f : Int) + now → tksB js.length (m : Int) (runL js (tabB js.length E) ord m f now s) = true
  | 0, now, s, h, _, hf => by have := (h.bd hok h8).1; omega
  | f + 1, now, s, h, hp, hf => by
    show tksB js.length (m : Int) (if leftL ord s.ends = [] then s.plan else runL js (tabB js.length E) ord m f (soonL (startTo js (tabB js.length E) ord now s m).ends now) (startTo js (tabB js.length E) ord now s m)) = true
    by_cases hl : leftL ord s.ends = []
    · rw [if_pos hl]
      refine tks_good h.lp fun k hk => hp k hk fun e => ?_
      have : k ∈ leftL ord s.ends := by unfold leftL; rw [List.mem_filter]; exact ⟨hall k hk, decide_eq_true e⟩
      rw [hl] at this
      cases this
    · rw [if_neg hl]
      have hs := h.start (T := tabB js.length E) hok h8 ho m (Nat.le_refl _)
      have hr := runs_after h hok h8 ho hall hirr hm hl
      have hso := soon_out hs hok h8 hr
      exact run_ok hok h8 ho hall hirr hm f _ _ hso.2 (hp.start h hok h8 ho m (Nat.le_refl _)) (by omega)
theorem list_ok {js : List J} {E : List Ed} {ord : List Nat} {m : Nat} (hok : ∀ j ∈ js, okJ j = true) (h8 : js.length ≤ 8) (hp : ord.Perm (List.range js.length)) (hirr : irrB js.length E js.length = true) (hm : 0 < m) : tksB js.length (m : Int) (listL js (tabB js.length E) ord m) = true := by
  refine run_ok hok h8 (fun j hj => List.mem_range.1 (hp.mem_iff.1 hj)) (fun j hj => hp.mem_iff.2 (List.mem_range.2 hj)) hirr hm 1001 0 _ ok_init (fun k hk hne => ?_) (by omega)
  exfalso
  apply hne
  unfold initL endAt
  simp only [List.getD_eq_getElem?_getD, List.getElem?_replicate]
  split <;> rfl
end Go.Proofs.YtejgpecmjfgfbaaDoor

namespace Go.Proofs.YtejgpecmjfgfbaaDoor
open Go.RowKit
def tkC (s : Sp) : Array Value := #[.int .i64 s.j, .int .i64 s.f, .int .i64 s.t]
def isTkB (m : Int) (s : Sp) : Bool := decide (0 ≤ s.f ∧ s.f < m ∧ 0 ≤ s.t ∧ s.t ≤ 500)
set_option maxRecDepth 100000 in
set_option maxHeartbeats 2000000 in
theorem spanOf_any (A : Option Addr) (c : Nat) (js : List J) (n : Int) (B : Nat → Nat) (k : Nat) (f t : Int) (w : World) (hr : Row w A (jc js)) (hk : k < js.length) (hok : ∀ j ∈ js, okJ j = true) (h0 : 0 ≤ t) (h1 : t ≤ 500) :
    Calls Tryd.prog 97 #[.agg (wlC (.slice A js.length c) n B), .agg #[.int .i64 (k : Int), .int .i64 f, .int .i64 t]] w fun e w' => e = .returned (.agg #[.int .i64 (k : Int), .int .i64 t, .int .i64 (t + jAt js k)]) ∧ Below w.heap.size w w' := by
  obtain ⟨ad, hA, hb, hc0, _, _, _⟩ := hr.job hk
  subst hA
  have e1 : jAt js k = js[k].t := congrArg J.t (getD_at js j0 hk)
  have hp := okJ_out (hok _ (List.getElem_mem hk))
  rw [e1]
  have hk0 : (0 : Int) ≤ k := by omega
  have hk1 : (k : Int) < js.length := by omega
  have hbk : (ad.add (k * 4)).block < w.heap.size := by rw [add_block]; exact hb
  generalize js[k].t = p at *
  have hw1 : IntKind.i64.wrap (t + p) = t + p := IntWalk.i64_in _ (by omega)
  clear hr hok e1
  have hW := (((Below.refl w.heap.size w).alloc (Nat.le_refl _) (.cells #[.slice (some ad) js.length c, .int .i64 n, .int .u64 (B 0 : Int), .int .u64 (B 1 : Int), .int .u64 (B 2 : Int), .int .u64 (B 3 : Int), .int .u64 (B 4 : Int), .int .u64 (B 5 : Int), .int .u64 (B 6 : Int), .int .u64 (B 7 : Int)] 72)).alloc (by simp) (.cells #[.int .i64 (k : Int), .int .i64 f, .int .i64 t] 78)).alloc (by simp; omega) (.cells #[.int .i64 0, .int .i64 0, .int .i64 0] 124)
  have hcW := (hW.cell hbk).trans hc0
  clear hW hc0
  unfold wlC
  go_enter Tryd.func97, Tryd.ntmps97
  go_wp2
  go_region
  go_wp2
  refine bodyPost_ret (v := .agg #[.int .i64 (k : Int), .int .i64 t, .int .i64 (t + p)]) (by simp [results, Tryd.f97, go_sem]) rfl ⟨rfl, ?_⟩
  exact ((((Below.refl w.heap.size w).alloc (Nat.le_refl _) (.cells #[.slice (some ad) js.length c, .int .i64 n, .int .u64 (B 0 : Int), .int .u64 (B 1 : Int), .int .u64 (B 2 : Int), .int .u64 (B 3 : Int), .int .u64 (B 4 : Int), .int .u64 (B 5 : Int), .int .u64 (B 6 : Int), .int .u64 (B 7 : Int)] 72)).alloc (by simp) (.cells #[.int .i64 (k : Int), .int .i64 f, .int .i64 t] 78)).alloc (by simp; omega) (.cells #[.int .i64 (k : Int), .int .i64 t, .int .i64 (t + p)] 124)).drew
theorem tkOk_split (m : Int) (k : Nat) (s : Sp) : tkOk m k s = (decide (s.j = (k : Int)) && isTkB m s) := by
  unfold tkOk isTkB
  rw [Bool.decide_and]
end Go.Proofs.YtejgpecmjfgfbaaDoor

namespace Go.Proofs.YtejgpecmjfgfbaaDoor
open Go.RowKit Go.Shelf
attribute [local go_sem] Oper.semAt_some
def sumT (js : List J) (l : List Nat) : Int := (l.map fun k => (js.getD k j0).t).sum
theorem sumT_snoc (js : List J) (l : List Nat) (k : Nat) : sumT js (l ++ [k]) = sumT js l + (js.getD k j0).t := by unfold sumT; simp
theorem sumT_bd {js : List J} (hok : ∀ j ∈ js, okJ j = true) : ∀ l : List Nat, (∀ k ∈ l, k < js.length) → 0 ≤ sumT js l ∧ sumT js l ≤ 50 * (l.length : Int)
  | [], _ => by simp [sumT]
  | k :: l, h => by
    have h1 := sumT_bd hok l (fun x hx => h x (List.mem_cons_of_mem _ hx))
    have hk := h k List.mem_cons_self
    have h2 := okJ_out (hok _ (List.getElem_mem hk))
    have e : sumT js (k :: l) = js[k].t + sumT js l := by unfold sumT; simp [List.getD, hk]
    rw [e, List.length_cons]
    omega
def timeB (js : List J) (s : Nat) : Int := sumT js (memB s)
section
variable (A : Option Addr) (c s : Nat) (js : List J) (w : World) (hs : s < 256) (hr : Row w A (jc js)) (hok : ∀ j ∈ js, okJ j = true) (hlt : ∀ k, s.testBit k = true → k < js.length) (hT : TzTab w)
include hs hr hok hlt hT
end
theorem memB_all : ∀ n, n < 9 → memB (2 ^ n - 1) = List.range n := by decide +kernel
theorem pow_lt : ∀ n, n < 9 → 2 ^ n - 1 < 256 := by decide
theorem all_bit {n : Nat} (hn : n < 9) {k : Nat} (h : (2 ^ n - 1).testBit k = true) : k < n := by
  have h1 := (memB_mem (pow_lt n hn)).2 h
  rw [memB_all n hn] at h1
  exact List.mem_range.1 h1
def totL (js : List J) : Int := sumT js (List.range js.length)
def totalR (js : List J) : Int × Bool := if plainL js then (totL js, true) else (0, false)
def totTo (js : List J) (k : Nat) : Int := sumT js (List.range k)
theorem totTo_succ (js : List J) (k : Nat) (hk : k < js.length) : totTo js (k + 1) = totTo js k + js[k].t := by
  unfold totTo; rw [List.range_succ, sumT_snoc, getD_at js j0 hk]
section
variable (A : Option Addr) (c : Nat) (js : List J) (w : World) (hr : Row w A (jc js))
include hr
end
end Go.Proofs.YtejgpecmjfgfbaaDoor

namespace Go.Proofs.YtejgpecmjfgfbaaDoor
set_option linter.unusedSimpArgs false
open Go.RowKit
theorem put_eq {R : Act → World → Prop} {a : Act} {d : Option Nat} {x y : Value} {w : World} (h : x = y) (hK : R (a.put d y) w) : R (a.put d x) w := h ▸ hK
def lenT (js : List J) (ss : List Sp) : Int := mostGo (endsT js ss) 0
set_option maxRecDepth 100000 in
set_option maxHeartbeats 2000000 in
theorem l7Length_any (A D : Option Addr) (c b : Nat) (js : List J) (ss : List Sp) (m : Int) (w : World) (hr : Row w A (jc js)) (hs : Row w D (spc ss)) (hok : ∀ j ∈ js, okJ j = true) (h8 : js.length ≤ 8) (ht : tksB js.length m ss = true) :
    Calls Tryd.prog 58 #[.slice A js.length c, .slice D ss.length b] w fun e w' => e = .returned (.int .i64 (lenT js ss)) ∧ Below w.heap.size w w' := by
  have HR := Lib.hid hr
  have HS := Lib.hid hs
  have HOK := Lib.hid hok
  have HT := Lib.hid (tks_out ht).2
  have HL := Lib.hid (tks_out ht).1
  have HV : Hid (lenT js ss = mostGo (endsT js ss) 0) := rfl
  have HM := Lib.hid (fun x y W => (l1Most_any x y W).mono (fun e w' h => (⟨h.1, h.2.symm⟩ : e = .returned (.int .i64 (max x y)) ∧ W = w')))
  clear hr hs hok ht
  go_enter Tryd.func58, Tryd.ntmps58
  go_wp2
  go_loopw [5, 6] (fun tv iv wr => ∃ (k : Nat) (t : Int), k ≤ ss.length ∧ iv = .int .i64 (k : Int) ∧ tv = .int .i64 t ∧ Hid (mostGo ((endsT js ss).drop k) t = mostGo (endsT js ss) 0) ∧ Below w.heap.size w wr) (fun _ iv _ => ss.length - (intOf iv).toNat)
  case atStart => exact ⟨0, 0, Nat.zero_le _, rfl, rfl, rfl, Below.refl _ _⟩
  case round =>
    obtain ⟨k, t, hk, rfl, rfl, hE, hb⟩ := hrel
    by_cases hks : k < ss.length
    · have hkj : k < js.length := by have := HL.out; omega
      obtain ⟨ad, hA', hbl, a0, a1, a2⟩ := (HS.out.below hb).span hks
      subst hA'
      obtain ⟨aj, hA', hbj, c0, _, _, _⟩ := (HR.out.below hb).job hkj
      subst hA'
      have hke : k < (endsT js ss).length := by rw [endsT_len]; exact hkj
      have e2 := mostGo_drop (endsT js ss) k t hke
      rw [endsT_at js ss k hke] at e2
      have hgk : tkAt ss k = ss[k] := getD_at ss sp0 hks
      have e1 : jAt js k = js[k].t := congrArg J.t (getD_at js j0 hkj)
      have hk2 := tkOk_out (HT.out k hkj)
      have hp1 := okJ_out (HOK.out _ (List.getElem_mem hkj))
      rw [hgk] at hk2 e2
      rw [e1] at e2
      have HE := Lib.hid (e2.symm.trans hE.out)
      generalize ss[k] = s1 at *
      obtain ⟨x1, f1, t1⟩ := s1
      dsimp only at a0 a1 a2 hk2 HE
      generalize js[k].t = p1 at *
      obtain ⟨_, _, _, q0, q1⟩ := hk2
      have hw1 : IntKind.i64.wrap (t1 + p1) = t1 + p1 := IntWalk.i64_in _ (by omega)
      have hk0 : (0 : Int) ≤ k := by omega
      have hk1 : (k : Int) < ss.length := by omega
      have hk3 : (k : Int) < js.length := by omega
      have HB := Lib.hid hb
      clear hE hgk e1 e2 hke hb
      go_wp2
      go_quiet ((go_at_call 92; first | exact quiet_same (HM.out _ _ _) | exact quiet_eq (HM.out _ _ _)))
      go_wp2
      go_roundw
      case rel => exact ⟨k + 1, max t (t1 + p1), by omega, by go_num, rfl, HE, below_drewN HB.out _⟩
      case measure => simp [intOf]; omega
    · obtain rfl : k = ss.length := by omega
      have hT' := hE.out
      rw [List.drop_eq_nil_of_le (by rw [endsT_len]; have := HL.out; omega)] at hT'
      have HT2 : Hid (t = mostGo (endsT js ss) 0) := hT'
      clear hE hT'
      go_wp2
      go_ret
      exact ⟨by rw [HV.out, ← HT2.out]; rfl, hb⟩
set_option maxRecDepth 100000 in
set_option maxHeartbeats 2000000 in
theorem endsOf_any (A D : Option Addr) (c b : Nat) (js : List J) (ss : List Sp) (m n : Int) (B : Nat → Nat) (w : World) (hr : Row w A (jc js)) (hs : Row w D (spc ss)) (hok : ∀ j ∈ js, okJ j = true) (h8 : js.length ≤ 8) (ht : tksB js.length m ss = true) :
    Calls Tryd.prog 62 #[.agg (wlC (.slice A js.length c) n B), .slice D ss.length b] w fun e w' => e = .returned (.slice (some ⟨w.heap.size + 1, 0, none⟩) ss.length ss.length) ∧ BlockIs w' (w.heap.size + 1) 3 (ic (endsT js ss)).toArray ∧ Below w.heap.size w w' := by
  have HR := Lib.hid hr
  have HS := Lib.hid hs
  have HOK := Lib.hid hok
  have HT := Lib.hid (tks_out ht).2
  have HL := Lib.hid (tks_out ht).1
  have hl8 : ss.length ≤ 8 := by have := HL.out; omega
  have hmk := run_make_row' (P := Tryd.prog) 24 3 (.int .i64 0) 8 Tryd.underlying24 infoI rfl .i64 .i64 ss.length (by omega) (by omega)
  have b0 := (Below.refl w.heap.size w).alloc (Nat.le_refl _) (.cells (wlC (.slice A js.length c) n B) 72)
  have hx0 := BlockIs.new w 72 (wlC (.slice A js.length c) n B)
  have e0 : (w.alloc (.cells (wlC (.slice A js.length c) n B) 72)).heap.size = w.heap.size + 1 := by simp
  have hy0 := BlockIs.new (w.alloc (.cells (wlC (.slice A js.length c) n B) 72)) 3 (madeCells #[.int .i64 0] ss.length)
  rw [e0] at hy0
  have b1 := (Below.refl _ _).alloc (Nat.le_refl _) (w := (w.alloc (.cells (wlC (.slice A js.length c) n B) 72))) (.cells (madeCells #[.int .i64 0] ss.length) 3)
  have H0 := Lib.hid (And.intro (hx0.below b1) (And.intro hy0 (b0.trans (b1.mono b0.size))))
  obtain ⟨W1, hW1⟩ : ∃ W1, W1 = (w.alloc (.cells (wlC (.slice A js.length c) n B) 72)).alloc (.cells (madeCells #[.int .i64 0] ss.length) 3) := ⟨_, rfl⟩
  rw [← hW1, ic_made] at H0
  clear hr hs hok ht b0 b1 hx0 hy0 e0
  unfold wlC at hW1
  unfold wlC
  go_enter Tryd.func62, Tryd.ntmps62
  go_wp2
  rw [← hW1]
  clear hW1 hmk
  go_loopw [13] (fun iv wr => ∃ (k : Nat) (xs : List Int), k ≤ ss.length ∧ iv = .int .i64 (k : Int) ∧ Hid (xs.length = ss.length ∧ ∀ i, i < k → xs.getD i 0 = (endsT js ss).getD i 0) ∧ BlockIs wr (w.heap.size + 1) 3 (ic xs).toArray ∧ BlockIs wr w.heap.size 72 (wlC (.slice A js.length c) n B) ∧ Below w.heap.size w wr) (fun iv _ => ss.length - (intOf iv).toNat)
  case atStart => exact ⟨0, List.replicate ss.length 0, Nat.zero_le _, rfl, ⟨List.length_replicate, fun i hi => absurd hi (Nat.not_lt_zero i)⟩, H0.out.2.1, H0.out.1, H0.out.2.2⟩
  case round =>
    obtain ⟨k, xs, hk, rfl, hX, hB, hW, hb⟩ := hrel
    by_cases hks : k < ss.length
    · have hkj : k < js.length := by have := HL.out; omega
      obtain ⟨ad, hA', hbl, a0, a1, a2⟩ := (HS.out.below hb).span hks
      subst hA'
      have hke : k < (endsT js ss).length := by rw [endsT_len]; exact hkj
      have e2 : (endsT js ss).getD k 0 = (tkAt ss k).t + jAt js k := by rw [getD_at _ _ hke, endsT_at]
      have hgk : tkAt ss k = ss[k] := getD_at ss sp0 hks
      have hk2 := tkOk_out (HT.out k hkj)
      rw [hgk] at hk2 e2
      have HX : Hid ((xs.set k (ss[k].t + jAt js k)).length = ss.length ∧ ∀ i, i < k + 1 → (xs.set k (ss[k].t + jAt js k)).getD i 0 = (endsT js ss).getD i 0) := by
        refine ⟨by rw [List.length_set]; exact hX.out.1, fun i hi => ?_⟩
        rw [List.getD_eq_getElem?_getD, List.getElem?_set]
        by_cases h : k = i
        · subst h
          rw [if_pos rfl, if_pos (by rw [hX.out.1]; exact hks), e2]; rfl
        · rw [if_neg h, ← List.getD_eq_getElem?_getD]; exact hX.out.2 i (by omega)
      have hkx : k < xs.length := by rw [hX.out.1]; exact hks
      generalize ss[k] = s1 at *
      obtain ⟨x1, f1, t1⟩ := s1
      dsimp only at a0 a1 a2 hk2 HX
      obtain ⟨rfl, _, _, q0, q1⟩ := hk2
      have hbn := (Below.refl wr.heap.size wr).alloc (Nat.le_refl _) (.cells #[.int .i64 (k : Int), .int .i64 f1, .int .i64 t1] 78)
      have HBN := Lib.hid (hb.trans (hbn.mono hb.size))
      have HSP := Lib.hid (spanOf_any A c js n B k f1 t1 _ ((HR.out.below hb).below hbn) hkj HOK.out q0 q1)
      have hcW := hW.below hbn
      have H3 := Lib.hid (And.intro (hB.below hbn) hcW)
      have hk0 : (0 : Int) ≤ k := by omega
      have hk1 : (k : Int) < ss.length := by omega
      have hwx : w.heap.size < wr.heap.size := (Array.getElem?_eq_some_iff.1 hW).1
      have cw0 := hW.cell 0
      have cw1 := hW.cell 1
      have cw2 := hW.cell 2
      have cw3 := hW.cell 3
      have cw4 := hW.cell 4
      have cw5 := hW.cell 5
      have cw6 := hW.cell 6
      have cw7 := hW.cell 7
      have cw8 := hW.cell 8
      have cw9 := hW.cell 9
      simp only [wlC, List.getElem?_toArray, List.getElem?_cons_zero, List.getElem?_cons_succ] at cw0 cw1 cw2 cw3 cw4 cw5 cw6 cw7 cw8 cw9
      unfold wlC at HSP
      clear hX hB hW hb hke e2 hgk hbn hcW
      generalize jAt js k = p1 at *
      go_wp2_with fail
      refine HSP.out.mono ?_
      rintro e w2 ⟨rfl, hb2⟩
      have hB2 := H3.out.1.below hb2
      have HW2 := Lib.hid (H3.out.2.below hb2)
      have hbt := HBN.out.trans (hb2.mono HBN.out.size)
      have hck := hB2.int hkx
      have hfz := hB2.frozen k
      have HLS := Lib.hid (hB2.set k (.int .i64 (t1 + p1)))
      rw [ic_set] at HLS
      have HWS := Lib.hid (HW2.out.away (g' := w.heap.size + 1) (by omega) k (.int .i64 (t1 + p1)))
      have HBS := Lib.hid (hbt.setCell (p := ⟨w.heap.size + 1, k, none⟩) (by show w.heap.size ≤ w.heap.size + 1; omega) (.int .i64 (t1 + p1)))
      clear HSP H3 HBN HW2 hB2 hbt hb2
      go_wp2
      refine put_eq (y := .int .i64 (t1 + p1)) rfl ?_
      go_wp2
      go_roundw
      case rel => exact ⟨k + 1, _, by omega, by go_num, HX, HLS.out, HWS.out, HBS.out⟩
      case measure => simp [intOf]; omega
    · obtain rfl : k = ss.length := by omega
      have hxs : xs = endsT js ss := by
        refine List.ext_getElem (by rw [endsT_len]; have := HL.out; rw [hX.out.1]; exact this) fun i h1 h2 => ?_
        have := hX.out.2 i (by rw [← hX.out.1]; exact h1)
        rwa [getD_at _ _ h1, getD_at _ _ h2] at this
      rw [hxs] at hB
      clear hX hW
      go_wp2
      go_ret
      exact ⟨rfl, hB, hb⟩
end Go.Proofs.YtejgpecmjfgfbaaDoor

namespace Go.Proofs.YtejgpecmjfgfbaaDoor
set_option linter.unusedSimpArgs false
open Go.RowKit
end Go.Proofs.YtejgpecmjfgfbaaDoor

namespace Go.Proofs.YtejgpecmjfgfbaaDoor
set_option linter.unusedSimpArgs false
open Go.RowKit
def isPlanR (js : List J) (m : Int) (E : List Pr) (ss : List Sp) : Bool × Bool := if goodB js m E then (planB js m (tabB js.length E) ss, true) else (false, false)
def planLenR (js : List J) (m : Int) (E : List Pr) (ss : List Sp) : Int × Bool := if goodB js m E then (if planB js m (tabB js.length E) ss then (lenT js ss, true) else (0, false)) else (0, false)
theorem on_good (js : List J) (m : Int) (E : List Pr) : goodB js m E = onB js m E := by
  unfold onB
  cases hm : inB m 1 4
  · unfold goodB; rw [hm]; simp
  · rw [wl_good m hm]; rfl
set_option maxRecDepth 100000 in
set_option maxHeartbeats 2000000 in
theorem lengthOf_any (A D : Option Addr) (c b : Nat) (js : List J) (ss : List Sp) (m n : Int) (B : Nat → Nat) (w : World) (hr : Row w A (jc js)) (hs : Row w D (spc ss)) (hok : ∀ j ∈ js, okJ j = true) (h8 : js.length ≤ 8) (ht : tksB js.length m ss = true) :
    Calls Tryd.prog 93 #[.agg (wlC (.slice A js.length c) n B), .slice D ss.length b] w fun e w' => e = .returned (.int .i64 (lenT js ss)) ∧ Below w.heap.size w w' := by
  have HV : Hid (lenT js ss = mostGo (endsT js ss) 0) := rfl
  have HL : Hid ((endsT js ss).length = ss.length) := by show _ = _; rw [endsT_len, (tks_out ht).1]
  have hl8 : ss.length ≤ 8 := by rw [(tks_out ht).1]; exact h8
  have b0 := (Below.refl w.heap.size w).alloc (Nat.le_refl _) (.cells (wlC (.slice A js.length c) n B) 72)
  have HE := Lib.hid (endsOf_any A D c b js ss m n B _ (hr.below b0) (hs.below b0) hok h8 ht)
  have HB0 := Lib.hid b0
  clear hr hs hok ht b0
  unfold wlC
  unfold wlC at HE HB0
  go_enter Tryd.func93, Tryd.ntmps93
  go_wp2_with fail
  refine HE.out.mono ?_
  rintro e w1 ⟨rfl, hB, hb⟩
  have HB := Lib.hid hB
  have HF := Lib.hid (HB0.out.trans (hb.mono HB0.out.size))
  clear hB hb HE HB0
  generalize (w.alloc _).heap.size + 1 = g at *
  go_wp2
  go_loop [5, 12] (fun tv iv => ∃ (k : Nat) (t : Int), k ≤ ss.length ∧ iv = .int .i64 (k : Int) ∧ tv = .int .i64 t ∧ Hid (mostGo ((endsT js ss).drop k) t = mostGo (endsT js ss) 0)) (fun _ iv => ss.length - (intOf iv).toNat)
  case atStart => exact ⟨0, 0, Nat.zero_le _, rfl, rfl, rfl⟩
  case round =>
    obtain ⟨k, t, hk, rfl, rfl, hT⟩ := hrel
    by_cases hlt : k < ss.length
    · have hkt : k < (endsT js ss).length := by rw [HL.out]; exact hlt
      have hck := HB.out.int hkt
      have HT2 := Lib.hid ((mostGo_drop (endsT js ss) k t hkt).symm.trans hT.out)
      have hk0 : (0 : Int) ≤ k := by omega
      have hk1 : (k : Int) < ss.length := by omega
      generalize (endsT js ss)[k]'hkt = x at *
      have hmx2 : (if t < x then x else t) = max t x := by split <;> omega
      clear hT hkt
      go_wp2
      all_goals
        go_round
        case rel => exact ⟨k + 1, max t x, by omega, by go_num, by first | rfl | (congr 1; omega), HT2⟩
        case measure => simp [intOf]; omega
    · obtain rfl : k = ss.length := by omega
      have hT' := hT.out
      rw [List.drop_eq_nil_of_le (by rw [HL.out]; omega)] at hT'
      have HT2 : Hid (t = mostGo (endsT js ss) 0) := hT'
      clear hT hT'
      go_wp2
      go_ret
      exact ⟨by rw [HV.out, ← HT2.out]; rfl, HF.out⟩
section
variable (A C D : Option Addr) (c d b : Nat) (js : List J) (m : Int) (E : List Pr) (ss : List Sp) (w : World) (hr : Row w A (jc js)) (hq : Row w C (pc E)) (hs : Row w D (spc ss)) (hn : js.length ≤ 10000000) (hl : E.length ≤ 10000000)
include hr hq hs hn hl
end
end Go.Proofs.YtejgpecmjfgfbaaDoor

namespace Go.Proofs.YtejgpecmjfgfbaaDoor
set_option linter.unusedSimpArgs false
set_option linter.unusedVariables false
open Go.RowKit
theorem rowSp {w : World} {g : Nat} {t : TypeId} {xs : List Sp} (h : BlockIs w g t (spc xs).toArray) : Row w (some ⟨g, 0, none⟩) (spc xs) := fun _ => ⟨_, rfl, h.lt, fun j u hu => by
  have h2 := h.cell j
  unfold Addr.add
  by_cases hj : j = 0
  · subst hj; rw [if_pos rfl, h2, ← Array.getElem?_toList]; exact hu
  · rw [if_neg hj]; simp only [Nat.zero_add]; rw [h2, ← Array.getElem?_toList]; exact hu⟩
def lenL (js : List J) (E : List Ed) (p : List Nat) (m : Nat) : Int := lenT js (listL js (tabB js.length E) p m)
set_option maxRecDepth 100000 in
set_option maxHeartbeats 2000000 in
theorem listLength_any (A D : Option Addr) (c d : Nat) (js : List J) (E : List Pr) (m : Nat) (ord : List Nat) (w : World) (hr : Row w A (jc js)) (ho : Row w D (ic (natI ord))) (hok : ∀ j ∈ js, okJ j = true) (h8 : js.length ≤ 8) (hirr : irrB js.length E js.length = true) (hm : 1 ≤ m ∧ m ≤ 4) (hp : ord.Perm (List.range js.length)) :
    Calls Tryd.prog 59 #[.agg (wlC (.slice A js.length c) (js.length : Int) (befN js.length (tabB js.length E))), .int .i64 (m : Int), .slice D ord.length d] w fun e w' => e = .returned (.int .i64 (lenL js E ord m)) ∧ Below w.heap.size w w' := by
  have hb1 := (Below.refl w.heap.size w).alloc (Nat.le_refl _) (.cells (wlC (.slice A js.length c) (js.length : Int) (befN js.length (tabB js.length E))) 72)
  have hB1 := BlockIs.new w 72 (wlC (.slice A js.length c) (js.length : Int) (befN js.length (tabB js.length E)))
  have H2 := Lib.hid (And.intro hb1.drew hB1.drew)
  have HLI := Lib.hid (fun W (hb : Below w.heap.size w W) => listPlan_any A D c d js E m ord W (hr.below hb) (ho.below hb) hok h8 hirr hm hp)
  have HLO := Lib.hid (fun (ss : List Sp) (D : Option Addr) W (hb : Below w.heap.size w W) (hs : Row W D (spc ss)) (ht : tksB js.length (m : Int) ss = true) => lengthOf_any A D c ss.length js ss (m : Int) (js.length : Int) (befN js.length (tabB js.length E)) W (hr.below hb) hs hok h8 ht)
  have HOKL := Lib.hid (list_ok (E := E) hok h8 hp hirr (show 0 < m by omega))
  have HLL := Lib.hid (listL_len js (tabB js.length E) ord m)
  have HV : Hid (lenL js E ord m = lenT js (listL js (tabB js.length E) ord m)) := rfl
  obtain ⟨RES, hRES⟩ : ∃ RES, listL js (tabB js.length E) ord m = RES := ⟨_, rfl⟩
  rw [hRES] at HLI HOKL HLL HV
  obtain ⟨B, hB⟩ : ∃ B, befN js.length (tabB js.length E) = B := ⟨_, rfl⟩
  rw [hB] at HLI HLO H2 ⊢
  clear hb1 hB1 hRES hB hr ho hok hirr hp
  unfold wlC
  go_enter Tryd.func59, Tryd.ntmps59
  go_wp2
  rw [show (#[.slice A js.length c, .int .i64 (js.length : Int), .int .u64 (B 0 : Int), .int .u64 (B 1 : Int), .int .u64 (B 2 : Int), .int .u64 (B 3 : Int), .int .u64 (B 4 : Int), .int .u64 (B 5 : Int), .int .u64 (B 6 : Int), .int .u64 (B 7 : Int)] : Array Value) = wlC (.slice A js.length c) (js.length : Int) B from rfl]
  refine wp_region_detP (γ := Nat) (by kernel_rfl) (fun x L W => (Below w.heap.size w W ∧ BlockIs W w.heap.size 72 (wlC (.slice A js.length c) (js.length : Int) B)) ∧ (L.getD 4 true = true → BlockIs W x 78 (spc RES).toArray)) (fun x kk => (#[.agg (wlC (.slice A js.length c) (js.length : Int) B), .agg (wlC (.slice A js.length c) (js.length : Int) B), .int .i64 (m : Int), .slice D ord.length d, .slice (some ⟨x, 0, none⟩) js.length js.length, .int .i64 (lenT js RES), .int .i64 (lenT js RES)] : Array Value).getD kk undef) 0 (by kernel_rfl) (by kernel_rfl) ⟨H2.out, fun h => absurd (h.symm.trans (rep_getD 7 4 (by decide))) (by decide)⟩ ?_ ?_
  · intro x L W hall hS
    have HF := Lib.hid hS.1.1
    clear hS hall H2
    simp only [putsL]
    go_wp2
    simp only [List.getElem_toArray, List.getElem_cons_zero, List.getElem_cons_succ, Act.put, Array.getD_eq_getD_getElem?, List.getElem?_toArray, List.getElem?_cons_zero, List.getElem?_cons_succ, Option.getD_some, List.setIfInBounds_toArray, List.set_cons_zero, List.set_cons_succ, Nat.reduceAdd]
    go_ret
    exact ⟨by rw [HV.out]; rfl, HF.out⟩
  · intro x L ac W iq op hLs hop hLi hLd hLn hS hlow hdep
    have hq : iq < 7 := (Array.getElem?_eq_some_iff.1 hop).1
    rcases (by omega : iq = 0 ∨ iq = 1 ∨ iq = 2 ∨ iq = 3 ∨ iq = 4 ∨ iq = 5 ∨ iq = 6) with rfl | rfl | rfl | rfl | rfl | rfl | rfl
    · obtain rfl := Option.some.inj hop
      have e3 : ac.tmps[3]?.getD undef = .pointer (some ⟨w.heap.size, 0, none⟩) := (Array.getD_eq_getD_getElem? ..).symm.trans (hlow 3 (by kernel_rfl))
      exact ⟨wanted_free rfl, .inl ⟨x, W, fun _ _ => rfl, exec_load10 (x := .tmp 3) rfl (hlow 3 (by kernel_rfl)) hS.1.2 rfl, ⟨hS.1, by rw [listed_ne (by decide)]; exact hS.2⟩⟩⟩
    · obtain rfl := Option.some.inj hop
      have e3 : ac.tmps[3]?.getD undef = .pointer (some ⟨w.heap.size, 0, none⟩) := (Array.getD_eq_getD_getElem? ..).symm.trans (hlow 3 (by kernel_rfl))
      exact ⟨wanted_free rfl, .inl ⟨x, W, fun _ _ => rfl, exec_load10 (x := .tmp 3) rfl (hlow 3 (by kernel_rfl)) hS.1.2 rfl, ⟨hS.1, by rw [listed_ne (by decide)]; exact hS.2⟩⟩⟩
    · obtain rfl := Option.some.inj hop
      have e1 : ac.tmps[1]?.getD undef = .int .i64 (m : Int) := (Array.getD_eq_getD_getElem? ..).symm.trans (hlow 1 (by kernel_rfl))
      exact ⟨wanted_free rfl, .inl ⟨x, W, fun _ _ => rfl, by simp [execOp, Act.eval, e1, go_sem], ⟨hS.1, by rw [listed_ne (by decide)]; exact hS.2⟩⟩⟩
    · obtain rfl := Option.some.inj hop
      have e2 : ac.tmps[2]?.getD undef = .slice D ord.length d := (Array.getD_eq_getD_getElem? ..).symm.trans (hlow 2 (by kernel_rfl))
      exact ⟨wanted_free rfl, .inl ⟨x, W, fun _ _ => rfl, by simp [execOp, Act.eval, e2, go_sem], ⟨hS.1, by rw [listed_ne (by decide)]; exact hS.2⟩⟩⟩
    · obtain rfl := Option.some.inj hop
      have e8 : ac.tmps[8]?.getD undef = .agg (wlC (.slice A js.length c) (js.length : Int) B) := (Array.getD_eq_getD_getElem? ..).symm.trans (hdep 1 _ 8 (by kernel_rfl) rfl rfl)
      have e9 : ac.tmps[9]?.getD undef = .int .i64 (m : Int) := (Array.getD_eq_getD_getElem? ..).symm.trans (hdep 2 _ 9 (by kernel_rfl) rfl rfl)
      have e10 : ac.tmps[10]?.getD undef = .slice D ord.length d := (Array.getD_eq_getD_getElem? ..).symm.trans (hdep 3 _ 10 (by kernel_rfl) rfl rfl)
      refine ⟨wanted_free rfl, .inr (.inl ⟨48, #[.agg (wlC (.slice A js.length c) (js.length : Int) B), .int .i64 (m : Int), .slice D ord.length d], by simp [execOp, Act.eval, e8, e9, e10, go_sem], (HLI.out W hS.1.1).mono ?_⟩)⟩
      rintro e w2 ⟨g, rfl, hg, hG, hb2⟩
      refine ⟨g, (fun j hj => ?_), rfl, ⟨hS.1.1.trans (hb2.mono hS.1.1.size), hS.1.2.below hb2⟩, fun _ => hG⟩
      by_cases h15 : j < 7
      · rcases (by omega : j = 0 ∨ j = 1 ∨ j = 2 ∨ j = 3 ∨ j = 4 ∨ j = 5 ∨ j = 6) with rfl | rfl | rfl | rfl | rfl | rfl | rfl <;> first | rfl | (exact absurd hj (by rw [hLi]; decide))
      · have h1 : 7 ≤ j := by omega
        show Array.getD _ j undef = Array.getD _ j undef
        rw [Array.getD_eq_getD_getElem?, Array.getD_eq_getD_getElem?, Array.getElem?_eq_none (by simpa using h1), Array.getElem?_eq_none (by simpa using h1)]
    · obtain rfl := Option.some.inj hop
      have e7 : ac.tmps[7]?.getD undef = .agg (wlC (.slice A js.length c) (js.length : Int) B) := (Array.getD_eq_getD_getElem? ..).symm.trans (hdep 0 _ 7 (by kernel_rfl) rfl rfl)
      have e11 : ac.tmps[11]?.getD undef = .slice (some ⟨x, 0, none⟩) js.length js.length := (Array.getD_eq_getD_getElem? ..).symm.trans (hdep 4 _ 11 (by kernel_rfl) rfl rfl)
      have hP := hS.2 (hLd 4 (by kernel_rfl))
      have hLE := HLO.out RES (some ⟨x, 0, none⟩) W hS.1.1 (rowSp hP) HOKL.out
      rw [HLL.out] at hLE
      refine ⟨wanted_free rfl, .inr (.inl ⟨93, #[.agg (wlC (.slice A js.length c) (js.length : Int) B), .slice (some ⟨x, 0, none⟩) js.length js.length], by simp [execOp, Act.eval, e7, e11, go_sem], hLE.mono ?_⟩)⟩
      rintro e w2 ⟨rfl, hb2⟩
      exact ⟨x, fun _ _ => rfl, rfl, ⟨hS.1.1.trans (hb2.mono hS.1.1.size), hS.1.2.below hb2⟩, by rw [listed_ne (by decide)]; exact fun h => (hS.2 h).below hb2⟩
    · obtain rfl := Option.some.inj hop
      have e12 : ac.tmps[12]?.getD undef = .int .i64 (lenT js RES) := (Array.getD_eq_getD_getElem? ..).symm.trans (hdep 5 _ 12 (by kernel_rfl) rfl rfl)
      exact ⟨wanted_free rfl, .inl ⟨x, W, fun _ _ => rfl, by simp [execOp, Act.eval, e12, go_sem], ⟨hS.1, by rw [listed_ne (by decide)]; exact hS.2⟩⟩⟩
def lwR (js : List J) (m : Int) (E : List Pr) (o : List Int) : Bool × Bool := if forB js m E o && !decide (m = 4) then (decide (lenL js E (natsOf o) m.toNat < lenL js E (natsOf o) (m.toNat + 1)), true) else (false, false)
section
variable (A C D : Option Addr) (c d b : Nat) (js : List J) (m : Int) (E : List Pr) (o : List Int) (w : World) (hr : Row w A (jc js)) (hq : Row w C (pc E)) (ho : Row w D (ic o)) (hn : js.length ≤ 10000000) (hl : E.length ≤ 10000000) (hm : o.length ≤ 10000000)
include hr hq ho hn hl hm
set_option maxRecDepth 100000 in
set_option maxHeartbeats 2000000 in
theorem spec_LongerWith : Calls Tryd.prog 31 #[.slice A js.length c, .int .i64 m, .slice C E.length d, .slice D o.length b] w (RetBB w (lwR js m E o)) := by
  have HRR : Hid (lwR js m E o = if forB js m E o && !decide (m = 4) then (decide (lenL js E (natsOf o) m.toNat < lenL js E (natsOf o) (m.toNat + 1)), true) else (false, false)) := rfl
  have HG := Lib.hid (l7Ordered_any A C D c d b js m E o w hr hq ho hn hl hm)
  have HR := Lib.hid hr
  have HQ := Lib.hid hq
  have HO := Lib.hid ho
  clear hr hq ho
  cases hg : forB js m E o
  · rw [hg] at HRR HG
    clear hg
    go_enter Tryd.func31, Tryd.ntmps31
    go_wp2_with fail
    refine HG.out.mono ?_
    rintro e w1 ⟨rfl, hb1⟩
    go_wp2
    go_ret2
    exact ⟨by rw [HRR.out]; rfl, hb1⟩
  · by_cases h4 : m = 4
    · rw [hg, decide_eq_true h4] at HRR
      rw [hg] at HG
      subst h4
      clear hg
      go_enter Tryd.func31, Tryd.ntmps31
      go_wp2_with fail
      refine HG.out.mono ?_
      rintro e w1 ⟨rfl, hb1⟩
      go_wp2
      go_ret2
      exact ⟨by rw [HRR.out]; rfl, hb1⟩
    · rw [hg, decide_eq_false h4] at HRR
      obtain ⟨hgo, p, mm, rfl, hnp, hp, rfl, hmt, hm1, hm4⟩ := for_parts hg
      obtain ⟨hok, h8, hirr, hE, _, _, _⟩ := good_parts hgo
      rw [hnp, hmt] at HRR
      rw [hg] at HG
      have hnl : (natI p).length = p.length := by simp
      rw [hnl] at HG
      have hmm : mm ≤ 3 := by omega
      have h4b : ((mm : Int) == 4) = false := by simp; omega
      have h4d : decide ((mm : Int) = 4) = false := decide_eq_false h4
      have HLI := Lib.hid (fun k (hk : 1 ≤ k ∧ k ≤ 4) W (hb : Below w.heap.size w W) => l7List_any A C D c d b js k E p W (HR.out.below hb) (HQ.out.below hb) (HO.out.below hb) hl hok h8 hirr hE hk hp)
      have HLE := Lib.hid (fun (k : Nat) (hk : 1 ≤ k) g W (hb : Below w.heap.size w W) (hs : BlockIs W g 78 (spc (listL js (tabB js.length E) p k)).toArray) => (l7Length_any A (some ⟨g, 0, none⟩) c js.length js (listL js (tabB js.length E) p k) (k : Int) W (HR.out.below hb) (rowSp hs) hok h8 (list_ok hok h8 hp hirr (show 0 < k by omega))))
      have hL1 := HLI.out (mm + 1) ⟨by omega, by omega⟩
      have hL2 := HLI.out mm ⟨hm1, hm4⟩
      have hE1 := HLE.out (mm + 1) (by omega)
      have hE2 := HLE.out mm hm1
      rw [listL_len] at hE1 hE2
      rw [show ((mm + 1 : Nat) : Int) = (mm : Int) + 1 from rfl] at hL1
      have HL1 := Lib.hid hL1
      have HL2 := Lib.hid hL2
      have HE1 := Lib.hid hE1
      have HE2 := Lib.hid hE2
      have HV1 : Hid (lenT js (listL js (tabB js.length E) p (mm + 1)) = lenL js E p (mm + 1)) := rfl
      have HV2 : Hid (lenT js (listL js (tabB js.length E) p mm) = lenL js E p mm) := rfl
      rw [HV1.out] at HE1
      rw [HV2.out] at HE2
      generalize listL js (tabB js.length E) p (mm + 1) = RES1 at *
      generalize listL js (tabB js.length E) p mm = RES2 at *
      generalize lenL js E p (mm + 1) = len1 at *
      generalize lenL js E p mm = len2 at *
      have hwm : IntKind.i64.wrap ((mm : Int) + 1) = (mm : Int) + 1 := IntWalk.i64_in _ (by omega)
      clear hg hgo hok hirr hE hp hnp hmt HLI HLE hL1 hL2 hE1 hE2 hnl h4
      go_enter Tryd.func31, Tryd.ntmps31
      go_wp2_with fail
      refine HG.out.mono ?_
      rintro e w1 ⟨rfl, hb1⟩
      have HB1 := Lib.hid hb1
      have HC1 := Lib.hid (HL1.out w1 hb1)
      clear hb1 HL1 HG
      go_wp2_with fail
      refine HC1.out.mono ?_
      rintro e w2 ⟨g, rfl, hgs, hP, hb2⟩
      have hbb := HB1.out.trans (hb2.mono HB1.out.size)
      have HC2 := Lib.hid (HE1.out g w2 hbb hP)
      have HB2 := Lib.hid hbb
      clear hb2 hgs hP hbb HE1 HC1 HB1
      go_wp2_with fail
      refine HC2.out.mono ?_
      rintro e w3 ⟨rfl, hb3⟩
      have hbb := HB2.out.trans (hb3.mono HB2.out.size)
      have HC3 := Lib.hid (HL2.out w3 hbb)
      have HB3 := Lib.hid hbb
      clear hb3 hbb HL2 HC2 HB2
      go_wp2_with fail
      refine HC3.out.mono ?_
      rintro e w4 ⟨g2, rfl, hgs, hP, hb4⟩
      have hbb := HB3.out.trans (hb4.mono HB3.out.size)
      have HC4 := Lib.hid (HE2.out g2 w4 hbb hP)
      have HB4 := Lib.hid hbb
      clear hb4 hgs hP hbb HE2 HC3 HB3
      go_wp2_with fail
      refine HC4.out.mono ?_
      rintro e w5 ⟨rfl, hb5⟩
      have HF := Lib.hid (HB4.out.trans (hb5.mono HB4.out.size))
      clear hb5
      go_wp2
      go_ret2
      exact ⟨by rw [HRR.out]; rfl, HF.out⟩
set_option maxRecDepth 100000 in
set_option maxHeartbeats 2000000 in
theorem impl_LongerWith (hT : TzTab w) : Calls Tryd.prog 32 #[.slice A js.length c, .int .i64 m, .slice C E.length d, .slice D o.length b] w (RetBB w (lwR js m E o)) := by
  have HRR : Hid (lwR js m E o = if forB js m E o && !decide (m = 4) then (decide (lenL js E (natsOf o) m.toNat < lenL js E (natsOf o) (m.toNat + 1)), true) else (false, false)) := rfl
  have H := Lib.hid (workloadFor_any A C D c d b js m E o w hr hq ho hn hl hm hT)
  have HR := Lib.hid hr
  have HO := Lib.hid ho
  clear hr hq ho hT
  cases hg : forB js m E o
  · rw [hg] at HRR H
    clear hg
    go_enter Tryd.func32, Tryd.ntmps32
    go_wp2_with fail
    refine H.out.mono ?_
    rintro e w1 ⟨hb1, AJ, l, k, nn, B, rfl, _⟩
    have HB := Lib.hid (hb1.alloc hb1.size (.cells (wlC (.slice AJ l k) (nn : Int) B) 72))
    clear hb1
    unfold wlC
    unfold wlC at HB
    go_wp2
    go_ret2
    exact ⟨by rw [HRR.out]; rfl, HB.out⟩
  · by_cases h4 : m = 4
    · rw [hg, decide_eq_true h4] at HRR
      rw [hg] at H
      subst h4
      clear hg
      go_enter Tryd.func32, Tryd.ntmps32
      go_wp2_with fail
      refine H.out.mono ?_
      rintro e w1 ⟨hb1, AJ, l, k, nn, B, rfl, _⟩
      have HB := Lib.hid (hb1.alloc hb1.size (.cells (wlC (.slice AJ l k) (nn : Int) B) 72))
      clear hb1
      unfold wlC
      unfold wlC at HB
      go_wp2
      go_ret2
      exact ⟨by rw [HRR.out]; rfl, HB.out⟩
    · rw [hg, decide_eq_false h4] at HRR
      obtain ⟨hgo, p, mm, rfl, hnp, hp, rfl, hmt, hm1, hm4⟩ := for_parts hg
      obtain ⟨hok, h8, hirr, hE, _, _, _⟩ := good_parts hgo
      rw [hnp, hmt] at HRR
      have hnl : (natI p).length = p.length := by simp
      rw [hg, hnl] at H
      have hmm : mm ≤ 3 := by omega
      have h4b : ((mm : Int) == 4) = false := by simp; omega
      have h4d : decide ((mm : Int) = 4) = false := decide_eq_false h4
      have hwm : IntKind.i64.wrap ((mm : Int) + 1) = (mm : Int) + 1 := IntWalk.i64_in _ (by omega)
      have hL1 := (fun W (hb : Below w.heap.size w W) => listLength_any A D c b js E (mm + 1) p W (HR.out.below hb) (HO.out.below hb) hok h8 hirr ⟨by omega, by omega⟩ hp)
      have hL2 := (fun W (hb : Below w.heap.size w W) => listLength_any A D c b js E mm p W (HR.out.below hb) (HO.out.below hb) hok h8 hirr ⟨hm1, hm4⟩ hp)
      rw [show ((mm + 1 : Nat) : Int) = (mm : Int) + 1 from rfl] at hL1
      have HL1 := Lib.hid hL1
      have HL2 := Lib.hid hL2
      generalize lenL js E p (mm + 1) = len1 at *
      generalize lenL js E p mm = len2 at *
      clear hg hgo hok hirr hE hp hnp hmt hL1 hL2 hnl h4
      go_enter Tryd.func32, Tryd.ntmps32
      go_wp2_with fail
      refine H.out.mono ?_
      rintro e w1 ⟨hb1, AJ, l, k, nn, B, rfl, hok2⟩
      rw [(hok2 rfl).2]
      obtain ⟨BB, hBB⟩ : ∃ BB, befN js.length (tabB js.length E) = BB := ⟨_, rfl⟩
      rw [hBB] at HL1 HL2 ⊢
      have hb2 := hb1.alloc hb1.size (.cells (wlC (.slice A js.length c) (js.length : Int) BB) 72)
      have hN2 := BlockIs.new w1 72 (wlC (.slice A js.length c) (js.length : Int) BB)
      have H2 := Lib.hid (And.intro hb2.drew hN2.drew)
      clear hb1 hb2 hN2 H hok2 hBB
      unfold wlC
      go_wp2
      rw [show (#[.slice A js.length c, .int .i64 (js.length : Int), .int .u64 (BB 0 : Int), .int .u64 (BB 1 : Int), .int .u64 (BB 2 : Int), .int .u64 (BB 3 : Int), .int .u64 (BB 4 : Int), .int .u64 (BB 5 : Int), .int .u64 (BB 6 : Int), .int .u64 (BB 7 : Int)] : Array Value) = wlC (.slice A js.length c) (js.length : Int) BB from rfl]
      refine wp_region_detP (γ := Unit) (by kernel_rfl) (fun x L W => Below w.heap.size w W ∧ BlockIs W w1.heap.size 72 (wlC (.slice A js.length c) (js.length : Int) BB)) (fun x kk => (#[.agg (wlC (.slice A js.length c) (js.length : Int) BB), .int .i64 (mm : Int), .int .i64 ((mm : Int) + 1), .slice D p.length b, .int .i64 len1, .agg (wlC (.slice A js.length c) (js.length : Int) BB), .int .i64 (mm : Int), .slice D p.length b, .int .i64 len2, .bool (decide (len2 < len1)), .bool (decide (len2 < len1)), .bool true] : Array Value).getD kk undef) () (by kernel_rfl) (by kernel_rfl) H2.out ?_ ?_
      · intro x L W hall hS
        have HF := Lib.hid hS.1
        clear hS hall H2
        simp only [putsL]
        go_wp2
        simp only [List.getElem_toArray, List.getElem_cons_zero, List.getElem_cons_succ, Act.put, Array.getD_eq_getD_getElem?, List.getElem?_toArray, List.getElem?_cons_zero, List.getElem?_cons_succ, Option.getD_some, List.setIfInBounds_toArray, List.set_cons_zero, List.set_cons_succ, Nat.reduceAdd]
        go_ret2
        exact ⟨by rw [HRR.out]; rfl, HF.out⟩
      · intro x L ac W iq op hLs hop hLi hLd hLn hS hlow hdep
        have hq : iq < 12 := (Array.getElem?_eq_some_iff.1 hop).1
        rcases (by omega : iq = 0 ∨ iq = 1 ∨ iq = 2 ∨ iq = 3 ∨ iq = 4 ∨ iq = 5 ∨ iq = 6 ∨ iq = 7 ∨ iq = 8 ∨ iq = 9 ∨ iq = 10 ∨ iq = 11) with rfl | rfl | rfl | rfl | rfl | rfl | rfl | rfl | rfl | rfl | rfl | rfl
        · obtain rfl := Option.some.inj hop
          have e10 : ac.tmps[10]?.getD undef = .pointer (some ⟨w1.heap.size, 0, none⟩) := (Array.getD_eq_getD_getElem? ..).symm.trans (hlow 10 (by kernel_rfl))
          exact ⟨wanted_free rfl, .inl ⟨x, W, fun _ _ => rfl, exec_load10 (x := .tmp 10) rfl (hlow 10 (by kernel_rfl)) hS.2 rfl, hS⟩⟩
        · obtain rfl := Option.some.inj hop
          have e1 : ac.tmps[1]?.getD undef = .int .i64 (mm : Int) := (Array.getD_eq_getD_getElem? ..).symm.trans (hlow 1 (by kernel_rfl))
          exact ⟨wanted_free rfl, .inl ⟨x, W, fun _ _ => rfl, by simp [execOp, Act.eval, e1, go_sem], hS⟩⟩
        · obtain rfl := Option.some.inj hop
          have e27 : ac.tmps[27]?.getD undef = .int .i64 (mm : Int) := (Array.getD_eq_getD_getElem? ..).symm.trans (hdep 1 _ 27 (by kernel_rfl) rfl rfl)
          exact ⟨wanted_free rfl, .inl ⟨x, W, fun _ _ => rfl, by simp [execOp, Act.eval, e27, hwm, go_sem], hS⟩⟩
        · obtain rfl := Option.some.inj hop
          have e3 : ac.tmps[3]?.getD undef = .slice D p.length b := (Array.getD_eq_getD_getElem? ..).symm.trans (hlow 3 (by kernel_rfl))
          exact ⟨wanted_free rfl, .inl ⟨x, W, fun _ _ => rfl, by simp [execOp, Act.eval, e3, go_sem], hS⟩⟩
        · obtain rfl := Option.some.inj hop
          have e26 : ac.tmps[26]?.getD undef = .agg (wlC (.slice A js.length c) (js.length : Int) BB) := (Array.getD_eq_getD_getElem? ..).symm.trans (hdep 0 _ 26 (by kernel_rfl) rfl rfl)
          have e28 : ac.tmps[28]?.getD undef = .int .i64 ((mm : Int) + 1) := (Array.getD_eq_getD_getElem? ..).symm.trans (hdep 2 _ 28 (by kernel_rfl) rfl rfl)
          have e29 : ac.tmps[29]?.getD undef = .slice D p.length b := (Array.getD_eq_getD_getElem? ..).symm.trans (hdep 3 _ 29 (by kernel_rfl) rfl rfl)
          refine ⟨wanted_free rfl, .inr (.inl ⟨59, #[.agg (wlC (.slice A js.length c) (js.length : Int) BB), .int .i64 ((mm : Int) + 1), .slice D p.length b], by simp [execOp, Act.eval, e26, e28, e29, go_sem], (HL1.out W hS.1).mono ?_⟩)⟩
          rintro e w2 ⟨rfl, hb2⟩
          exact ⟨x, fun _ _ => rfl, rfl, hS.1.trans (hb2.mono hS.1.size), hS.2.below hb2⟩
        · obtain rfl := Option.some.inj hop
          have e10 : ac.tmps[10]?.getD undef = .pointer (some ⟨w1.heap.size, 0, none⟩) := (Array.getD_eq_getD_getElem? ..).symm.trans (hlow 10 (by kernel_rfl))
          exact ⟨wanted_free rfl, .inl ⟨x, W, fun _ _ => rfl, exec_load10 (x := .tmp 10) rfl (hlow 10 (by kernel_rfl)) hS.2 rfl, hS⟩⟩
        · obtain rfl := Option.some.inj hop
          have e1 : ac.tmps[1]?.getD undef = .int .i64 (mm : Int) := (Array.getD_eq_getD_getElem? ..).symm.trans (hlow 1 (by kernel_rfl))
          exact ⟨wanted_free rfl, .inl ⟨x, W, fun _ _ => rfl, by simp [execOp, Act.eval, e1, go_sem], hS⟩⟩
        · obtain rfl := Option.some.inj hop
          have e3 : ac.tmps[3]?.getD undef = .slice D p.length b := (Array.getD_eq_getD_getElem? ..).symm.trans (hlow 3 (by kernel_rfl))
          exact ⟨wanted_free rfl, .inl ⟨x, W, fun _ _ => rfl, by simp [execOp, Act.eval, e3, go_sem], hS⟩⟩
        · obtain rfl := Option.some.inj hop
          have e31 : ac.tmps[31]?.getD undef = .agg (wlC (.slice A js.length c) (js.length : Int) BB) := (Array.getD_eq_getD_getElem? ..).symm.trans (hdep 5 _ 31 (by kernel_rfl) rfl rfl)
          have e32 : ac.tmps[32]?.getD undef = .int .i64 (mm : Int) := (Array.getD_eq_getD_getElem? ..).symm.trans (hdep 6 _ 32 (by kernel_rfl) rfl rfl)
          have e33 : ac.tmps[33]?.getD undef = .slice D p.length b := (Array.getD_eq_getD_getElem? ..).symm.trans (hdep 7 _ 33 (by kernel_rfl) rfl rfl)
          refine ⟨wanted_free rfl, .inr (.inl ⟨59, #[.agg (wlC (.slice A js.length c) (js.length : Int) BB), .int .i64 (mm : Int), .slice D p.length b], by simp [execOp, Act.eval, e31, e32, e33, go_sem], (HL2.out W hS.1).mono ?_⟩)⟩
          rintro e w2 ⟨rfl, hb2⟩
          exact ⟨x, fun _ _ => rfl, rfl, hS.1.trans (hb2.mono hS.1.size), hS.2.below hb2⟩
        · obtain rfl := Option.some.inj hop
          have e30 : ac.tmps[30]?.getD undef = .int .i64 len1 := (Array.getD_eq_getD_getElem? ..).symm.trans (hdep 4 _ 30 (by kernel_rfl) rfl rfl)
          have e34 : ac.tmps[34]?.getD undef = .int .i64 len2 := (Array.getD_eq_getD_getElem? ..).symm.trans (hdep 8 _ 34 (by kernel_rfl) rfl rfl)
          exact ⟨wanted_free rfl, .inl ⟨x, W, fun _ _ => rfl, by simp [execOp, Act.eval, e30, e34, go_sem], hS⟩⟩
        · obtain rfl := Option.some.inj hop
          have e35 : ac.tmps[35]?.getD undef = .bool (decide (len2 < len1)) := (Array.getD_eq_getD_getElem? ..).symm.trans (hdep 9 _ 35 (by kernel_rfl) rfl rfl)
          exact ⟨wanted_free rfl, .inl ⟨x, W, fun _ _ => rfl, by simp [execOp, Act.eval, e35, go_sem], hS⟩⟩
        · obtain rfl := Option.some.inj hop
          exact ⟨wanted_free rfl, .inl ⟨x, W, fun _ _ => rfl, by simp [execOp, Act.eval, go_sem], hS⟩⟩
end
end Go.Proofs.YtejgpecmjfgfbaaDoor

namespace Go.Proofs.YtejgpecmjfgfbaaDoor
open Go.RowKit
def fRuleN (ob : Int) : Nat := if ob = 1 then 121 else if ob = 2 then 123 else if ob = 3 then 124 else 125
def fRule (ob : Int) (b : Nat) : Value := .func (.func (fRuleN ob)) #[] #[.pointer (some ⟨b, 0, none⟩)]
section
variable (b : Nat) (A : Option Addr) (c : Nat) (js : List J) (w : World) (hB : BlockIs w b 30 #[.slice A js.length c]) (hr : Row w A (jc js)) (hg : ∀ j ∈ js, okJ j = true) (i k : Nat) (hi : i < js.length) (hk : k < js.length)
include hB hr hg hi hk
theorem gap1_call : Calls Tryd.prog 121 #[.int .i64 (i : Int), .int .i64 (k : Int), .pointer (some ⟨b, 0, none⟩)] w fun e w' => e = .returned (.int .i64 (gapN 1 js i k)) ∧ ∃ m, w' = w.drewN m := by
  obtain ⟨ad, rfl, _, a0, a1, a2, a3⟩ := hr.job hi
  obtain ⟨ad', hA', _, b0, b1, b2, b3⟩ := hr.job hk
  injection hA' with hA'
  subst hA'
  have hc := hB.cell 0
  simp at hc
  obtain ⟨_, _, _, _, x5, x6, _, _⟩ := okJ_out (hg _ (List.getElem_mem hi))
  obtain ⟨_, _, _, _, y5, y6, _, _⟩ := okJ_out (hg _ (List.getElem_mem hk))
  have HG : Hid (gapN 1 js i k = js[i].r - js[k].r) := by show _ = _; unfold gapN gapJ; rw [getD_at js j0 hi, getD_at js j0 hk]; rfl
  have hi0 : (0 : Int) ≤ i := by omega
  have hi1 : (i : Int) < js.length := by omega
  have hk0 : (0 : Int) ≤ k := by omega
  have hk1 : (k : Int) < js.length := by omega
  clear hB hr hg
  generalize js[i] = x at *
  generalize js[k] = y at *
  have hs := IntWalk.i64_in (x.r - y.r) (by omega)
  go_enter Tryd.func121, Tryd.ntmps121
  go_wp2
  go_quiet (fail)
  go_wp2
  go_ret
  exact ⟨by rw [HG.out]; rfl, _, rfl⟩
theorem gap2_call : Calls Tryd.prog 123 #[.int .i64 (i : Int), .int .i64 (k : Int), .pointer (some ⟨b, 0, none⟩)] w fun e w' => e = .returned (.int .i64 (gapN 2 js i k)) ∧ ∃ m, w' = w.drewN m := by
  obtain ⟨ad, rfl, _, a0, a1, a2, a3⟩ := hr.job hi
  obtain ⟨ad', hA', _, b0, b1, b2, b3⟩ := hr.job hk
  injection hA' with hA'
  subst hA'
  have hc := hB.cell 0
  simp at hc
  obtain ⟨x1, x2, _, _, _, _, _, _⟩ := okJ_out (hg _ (List.getElem_mem hi))
  obtain ⟨y1, y2, _, _, _, _, _, _⟩ := okJ_out (hg _ (List.getElem_mem hk))
  have HG : Hid (gapN 2 js i k = js[i].t - js[k].t) := by show _ = _; unfold gapN gapJ; rw [getD_at js j0 hi, getD_at js j0 hk]; rfl
  have hi0 : (0 : Int) ≤ i := by omega
  have hi1 : (i : Int) < js.length := by omega
  have hk0 : (0 : Int) ≤ k := by omega
  have hk1 : (k : Int) < js.length := by omega
  clear hB hr hg
  generalize js[i] = x at *
  generalize js[k] = y at *
  have hs := IntWalk.i64_in (x.t - y.t) (by omega)
  go_enter Tryd.func123, Tryd.ntmps123
  go_wp2
  go_quiet (fail)
  go_wp2
  go_ret
  exact ⟨by rw [HG.out]; rfl, _, rfl⟩
theorem gap3_call : Calls Tryd.prog 124 #[.int .i64 (i : Int), .int .i64 (k : Int), .pointer (some ⟨b, 0, none⟩)] w fun e w' => e = .returned (.int .i64 (gapN 3 js i k)) ∧ ∃ m, w' = w.drewN m := by
  obtain ⟨ad, rfl, _, a0, a1, a2, a3⟩ := hr.job hi
  obtain ⟨ad', hA', _, b0, b1, b2, b3⟩ := hr.job hk
  injection hA' with hA'
  subst hA'
  have hc := hB.cell 0
  simp at hc
  obtain ⟨x1, x2, x3, x4, _, _, _, _⟩ := okJ_out (hg _ (List.getElem_mem hi))
  obtain ⟨y1, y2, y3, y4, _, _, _, _⟩ := okJ_out (hg _ (List.getElem_mem hk))
  have HG : Hid (gapN 3 js i k = js[i].t * js[k].w - js[k].t * js[i].w) := by show _ = _; unfold gapN gapJ; rw [getD_at js j0 hi, getD_at js j0 hk]; rfl
  have hi0 : (0 : Int) ≤ i := by omega
  have hi1 : (i : Int) < js.length := by omega
  have hk0 : (0 : Int) ≤ k := by omega
  have hk1 : (k : Int) < js.length := by omega
  clear hB hr hg
  generalize js[i] = x at *
  generalize js[k] = y at *
  have m1 := mul50 (by omega) x2 y3 y4
  have m2 := mul50 (by omega) y2 x3 x4
  have hs := IntWalk.i64_in (x.t * y.w - y.t * x.w) (by omega)
  have hs1 := IntWalk.i64_in (x.t * y.w) (by omega)
  have hs2 := IntWalk.i64_in (y.t * x.w) (by omega)
  go_enter Tryd.func124, Tryd.ntmps124
  go_wp2
  go_quiet (fail)
  go_wp2
  go_ret
  exact ⟨by rw [HG.out]; rfl, _, rfl⟩
theorem gap4_call : Calls Tryd.prog 125 #[.int .i64 (i : Int), .int .i64 (k : Int), .pointer (some ⟨b, 0, none⟩)] w fun e w' => e = .returned (.int .i64 (gapN 4 js i k)) ∧ ∃ m, w' = w.drewN m := by
  obtain ⟨ad, rfl, _, a0, a1, a2, a3⟩ := hr.job hi
  obtain ⟨ad', hA', _, b0, b1, b2, b3⟩ := hr.job hk
  injection hA' with hA'
  subst hA'
  have hc := hB.cell 0
  simp at hc
  obtain ⟨_, _, _, _, _, _, x7, x8⟩ := okJ_out (hg _ (List.getElem_mem hi))
  obtain ⟨_, _, _, _, _, _, y7, y8⟩ := okJ_out (hg _ (List.getElem_mem hk))
  have HG : Hid (gapN 4 js i k = js[i].d - js[k].d) := by show _ = _; unfold gapN gapJ; rw [getD_at js j0 hi, getD_at js j0 hk]; rfl
  have hi0 : (0 : Int) ≤ i := by omega
  have hi1 : (i : Int) < js.length := by omega
  have hk0 : (0 : Int) ≤ k := by omega
  have hk1 : (k : Int) < js.length := by omega
  clear hB hr hg
  generalize js[i] = x at *
  generalize js[k] = y at *
  have hs := IntWalk.i64_in (x.d - y.d) (by omega)
  go_enter Tryd.func125, Tryd.ntmps125
  go_wp2
  go_quiet (fail)
  go_wp2
  go_ret
  exact ⟨by rw [HG.out]; rfl, _, rfl⟩
end
theorem isRule_out {o : Int} (h : isRule o = true) : o = 1 ∨ o = 2 ∨ o = 3 ∨ o = 4 := by
  have := of_decide_eq_true h
  omega
/-- What a rule's function is, and what it tells of two jobs. -/
theorem rule_call {b : Nat} {A : Option Addr} {c : Nat} {js : List J} {ob : Int} (ho : isRule ob = true) (hg : goodL js = true) :
    ∃ (f : Nat), fRule ob b = .func (.func f) #[] #[.pointer (some ⟨b, 0, none⟩)] ∧ (∀ (args : Array Value) (w1 : World), (callFunc f args).run Tryd.prog w1 = .ok (.enter f args) w1) ∧
      ∀ (w : World) (i k : Nat), BlockIs w b 30 #[.slice A js.length c] → Row w A (jc js) → i < js.length → k < js.length →
        Calls Tryd.prog f #[.int .i64 (i : Int), .int .i64 (k : Int), .pointer (some ⟨b, 0, none⟩)] w fun e w' => e = .returned (.int .i64 (gapN ob js i k)) ∧ ∃ m, w' = w.drewN m := by
  obtain ⟨_, hok⟩ := good_out hg
  rcases isRule_out ho with rfl | rfl | rfl | rfl
  · exact ⟨_, rfl, fun _ _ => by kernel_rfl, fun w i k hB hr hi hk => gap1_call b A c js w hB hr hok i k hi hk⟩
  · exact ⟨_, rfl, fun _ _ => by kernel_rfl, fun w i k hB hr hi hk => gap2_call b A c js w hB hr hok i k hi hk⟩
  · exact ⟨_, rfl, fun _ _ => by kernel_rfl, fun w i k hB hr hi hk => gap3_call b A c js w hB hr hok i k hi hk⟩
  · exact ⟨_, rfl, fun _ _ => by kernel_rfl, fun w i k hB hr hi hk => gap4_call b A c js w hB hr hok i k hi hk⟩
/-- What ruleOf hands back. -/
def RuleOut (A : Option Addr) (c : Nat) (js : List J) (ob : Int) (w : World) (e : Ending) (w' : World) : Prop :=
  Below w.heap.size w w' ∧ ((ruledB js ob = false ∧ e = .returned (.tuple #[.nilFunc, .bool false])) ∨ (ruledB js ob = true ∧ ∃ b, e = .returned (.tuple #[fRule ob b, .bool true]) ∧ BlockIs w' b 30 #[.slice A js.length c] ∧ w.heap.size ≤ b))
theorem ruled_bad {js : List J} {ob : Int} (h : goodL js = false) : ruledB js ob = false := by unfold ruledB; rw [h]; rfl
theorem ruled_one {js : List J} (h : goodL js = true) : ruledB js 1 = true := by unfold ruledB; rw [h]; rfl
theorem ruled_not {js : List J} {ob : Int} (h : isRule ob = false) : ruledB js ob = false := by unfold ruledB; rw [h, Bool.false_and, Bool.and_false]
theorem ruled_ne {js : List J} {ob : Int} (h : ob ≠ 1) (hp : plainL js = false) : ruledB js ob = false := by
  unfold plainL at hp
  unfold ruledB
  rw [decide_eq_false h, Bool.false_or]
  cases hg : goodL js
  · rfl
  · rw [hg, Bool.true_and] at hp; rw [hp, Bool.and_false]; rfl
section
variable (A : Option Addr) (c : Nat) (js : List J) (ob : Int) (w : World) (hr : Row w A (jc js)) (hn : js.length ≤ 10000000)
include hr hn
set_option maxRecDepth 100000 in
set_option maxHeartbeats 1000000 in
theorem ruleOf_any : Calls Tryd.prog 95 #[.slice A js.length c, .int .i64 ob] w (RuleOut A c js ob w) := by
  have hB0 := BlockIs.new w 30 #[.slice A js.length c]
  have hb0 := (Below.refl w.heap.size w).alloc (Nat.le_refl _) (.cells #[.slice A js.length c] 30)
  have hc0 := hB0.cell 0
  simp at hc0
  have H0 := Lib.hid (And.intro hB0 (And.intro hb0 (hr.below hb0)))
  clear hB0 hb0
  by_cases h1 : ob = 1
  · subst h1
    cases hgd : goodL js
    · have hpl : plainL js = false := by unfold plainL; rw [hgd]; rfl
      have HR := Lib.hid (ruled_bad (ob := 1) hgd)
      go_enter Tryd.func95, Tryd.ntmps95
      go_wp2_with fail
      refine (IsJobs_any A c js _ H0.out.2.2 (by omega)).mono ?_
      rintro e w1 ⟨rfl, hb1⟩
      rw [hgd]
      have H1 := Lib.hid (And.intro (H0.out.1.below hb1) (And.intro (H0.out.2.1.trans (hb1.mono H0.out.2.1.size)) (H0.out.2.2.below hb1)))
      have hc1 := H1.out.1.cell 0
      simp at hc1
      clear H0 hb1 hc0 hgd
      go_wp2_with fail
      refine (impl_IsPlain A c js _ H1.out.2.2 (by omega)).mono ?_
      rintro e w2 ⟨rfl, hb2⟩
      rw [hpl]
      have H2 := Lib.hid (H1.out.2.1.trans (hb2.mono H1.out.2.1.size))
      clear H1 hb2 hc1 hpl
      go_wp2
      go_ret2
      exact ⟨H2.out, .inl ⟨HR.out, rfl⟩⟩
    · have HR := Lib.hid (ruled_one hgd)
      go_enter Tryd.func95, Tryd.ntmps95
      go_wp2_with fail
      refine (IsJobs_any A c js _ H0.out.2.2 (by omega)).mono ?_
      rintro e w1 ⟨rfl, hb1⟩
      rw [hgd]
      have H1 := Lib.hid (And.intro (H0.out.1.below hb1) (H0.out.2.1.trans (hb1.mono H0.out.2.1.size)))
      clear H0 hb1 hc0 hgd
      go_wp2
      go_ret2
      exact ⟨H1.out.2, .inr ⟨HR.out, w.heap.size, rfl, H1.out.1, Nat.le_refl _⟩⟩
  · cases hpl : plainL js
    · have HR := Lib.hid (ruled_ne h1 hpl)
      go_enter Tryd.func95, Tryd.ntmps95
      go_wp2_with fail
      refine (impl_IsPlain A c js _ H0.out.2.2 (by omega)).mono ?_
      rintro e w1 ⟨rfl, hb1⟩
      rw [hpl]
      have H1 := Lib.hid (H0.out.2.1.trans (hb1.mono H0.out.2.1.size))
      clear H0 hb1 hc0 hpl
      go_wp2
      go_ret2
      exact ⟨H1.out, .inl ⟨HR.out, rfl⟩⟩
    · by_cases hru : isRule ob = true
      · have HR := Lib.hid (plain_ruled hpl hru)
        rcases isRule_out hru with rfl | rfl | rfl | rfl
        · exact absurd rfl h1
        all_goals
          clear hru h1
          go_enter Tryd.func95, Tryd.ntmps95
          go_wp2_with fail
          refine (impl_IsPlain A c js _ H0.out.2.2 (by omega)).mono ?_
          rintro e w1 ⟨rfl, hb1⟩
          rw [hpl]
          have H1 := Lib.hid (And.intro (H0.out.1.below hb1) (H0.out.2.1.trans (hb1.mono H0.out.2.1.size)))
          clear H0 hb1 hc0 hpl
          go_wp2
          go_ret2
          exact ⟨H1.out.2, .inr ⟨HR.out, w.heap.size, rfl, H1.out.1, Nat.le_refl _⟩⟩
      · have hru' : isRule ob = false := by simpa using hru
        have HR := Lib.hid (ruled_not (js := js) hru')
        have hne : ¬ ob = 2 ∧ ¬ ob = 3 ∧ ¬ ob = 4 := by
          have := of_decide_eq_false (show decide _ = false from hru')
          omega
        obtain ⟨h2, h3, h4⟩ := hne
        clear hru hru'
        go_enter Tryd.func95, Tryd.ntmps95
        go_wp2_with fail
        refine (impl_IsPlain A c js _ H0.out.2.2 (by omega)).mono ?_
        rintro e w1 ⟨rfl, hb1⟩
        rw [hpl]
        have H1 := Lib.hid (H0.out.2.1.trans (hb1.mono H0.out.2.1.size))
        clear H0 hb1 hc0 hpl
        go_wp2
        go_ret2
        exact ⟨H1.out, .inl ⟨HR.out, rfl⟩⟩
end
end Go.Proofs.YtejgpecmjfgfbaaDoor

namespace Go.Proofs.YtejgpecmjfgfbaaDoor
open Go.RowKit
theorem ruled_eq (js : List J) (ob : Int) : ruledB js ob = (goodL js && (inB ob 1 4 && (decide (ob = 1) || plain0 js))) := rfl
section
variable (A : Option Addr) (c : Nat) (js : List J) (ob : Int) (w : World) (hr : Row w A (jc js)) (hn : js.length ≤ 10000000)
include hr hn
end
section
variable (A : Option Addr) (c : Nat) (js : List J) (ob : Int) (w : World) (hr : Row w A (jc js)) (hg : ∀ j ∈ js, okJ j = true) (i k : Nat) (hi : i < js.length) (hk : k < js.length)
include hr hg hi hk
set_option maxRecDepth 100000 in
set_option maxHeartbeats 1000000 in
theorem l3Gap_any (ho : isRule ob = true) : Calls Tryd.prog 94 #[.slice A js.length c, .int .i64 ob, .int .i64 (i : Int), .int .i64 (k : Int)] w fun e w' => e = .returned (.int .i64 (gapN ob js i k)) ∧ Below w.heap.size w w' := by
  obtain ⟨ad, rfl, hadb, a0, a1, a2, a3⟩ := hr.job hi
  obtain ⟨ad', hA', _, b0, b1, b2, b3⟩ := hr.job hk
  injection hA' with hA'
  subst hA'
  have hbi : (ad.add (i * 4)).block < w.heap.size := by rw [add_block]; exact hadb
  have hbk : (ad.add (k * 4)).block < w.heap.size := by rw [add_block]; exact hadb
  obtain ⟨x1, x2, x3, x4, x5, x6, x7, x8⟩ := okJ_out (hg _ (List.getElem_mem hi))
  obtain ⟨y1, y2, y3, y4, y5, y6, y7, y8⟩ := okJ_out (hg _ (List.getElem_mem hk))
  have HG : Hid (gapN ob js i k = gapJ ob js[i] js[k]) := by show _ = _; unfold gapN; rw [getD_at js j0 hi, getD_at js j0 hk]
  have hi0 : (0 : Int) ≤ i := by omega
  have hi1 : (i : Int) < js.length := by omega
  have hk0 : (0 : Int) ≤ k := by omega
  have hk1 : (k : Int) < js.length := by omega
  clear hr hg
  generalize js[i] = x at *
  generalize js[k] = y at *
  have m1 := mul50 (by omega) x2 y3 y4
  have m2 := mul50 (by omega) y2 x3 x4
  rcases isRule_out ho with rfl | rfl | rfl | rfl
  all_goals
    clear ho
    go_enter Tryd.func94, Tryd.ntmps94
    go_wp2
    go_region
    all_goals
     go_wp2
     go_ret
     exact ⟨by rw [HG.out]; rfl, (((Below.refl _ _).alloc (Nat.le_refl _) _).alloc (by simp) _).drew⟩
end
def jobB (n : Nat) (i : Int) : Bool := inB i 0 ((n : Int) - 1)
theorem job_out {n : Nat} {i : Int} (h : jobB n i = true) : ∃ k : Nat, i = (k : Int) ∧ k < n := by
  have := inB_out h
  exact ⟨i.toNat, by omega, by omega⟩
def diffR (js : List J) (ob i k : Int) : Int × Bool := if ruledB js ob && (jobB js.length i && jobB js.length k) then (gapN ob js i.toNat k.toNat, true) else (0, false)
section
variable (A : Option Addr) (c : Nat) (js : List J) (ob i k : Int) (w : World) (hr : Row w A (jc js)) (hn : js.length ≤ 10000000)
include hr hn
end
end Go.Proofs.YtejgpecmjfgfbaaDoor

namespace Go.Proofs.YtejgpecmjfgfbaaDoor
open Go.RowKit
theorem isRule_of {js : List J} {ob : Int} (h : ruledB js ob = true) : isRule ob = true := by
  unfold ruledB at h
  simp only [Bool.and_eq_true] at h
  exact h.2.1
theorem wfind_none {p : Nat → Bool} {n : Nat} (h : ∀ i, i < n → p i = false) : (List.range n).find? p = none := by
  rw [List.find?_eq_none]
  intro i hi
  rw [h i (List.mem_range.1 hi)]; simp
theorem wfind_some {p : Nat → Bool} {k : Nat} (hp : p k = true) (hb : ∀ i, i < k → p i = false) : ∀ n, k < n → (List.range n).find? p = some k
  | 0, h => by omega
  | n + 1, h => by
    rw [List.range_succ, List.find?_append]
    by_cases e : k = n
    · subst e
      rw [wfind_none hb]
      simp [hp]
    · rw [wfind_some hp hb n (by omega)]; rfl
theorem wrong_none {ob : Int} {js : List J} {p : List Nat} (h : ∀ i, i < p.length - 1 → gapN ob js (p.getD i 0) (p.getD (i + 1) 0) ≤ 0) : wrongV ob js p = none :=
  wfind_none fun i hi => decide_eq_false (by have := h i hi; omega)
theorem wrong_some {ob : Int} {js : List J} {p : List Nat} {k : Nat} (hk : k < p.length - 1) (hp : 0 < gapN ob js (p.getD k 0) (p.getD (k + 1) 0)) (h : ∀ i, i < k → gapN ob js (p.getD i 0) (p.getD (i + 1) 0) ≤ 0) : wrongV ob js p = some k :=
  wfind_some (decide_eq_true hp) (fun i hi => decide_eq_false (by have := h i hi; omega)) _ hk
theorem noWrong_step {ob : Int} {js : List J} {p : List Nat} {k : Nat} (h : ∀ i, i < k → gapN ob js (p.getD i 0) (p.getD (i + 1) 0) ≤ 0) (hk : gapN ob js (p.getD k 0) (p.getD (k + 1) 0) ≤ 0) : ∀ i, i < k + 1 → gapN ob js (p.getD i 0) (p.getD (i + 1) 0) ≤ 0 := by
  intro i hi
  by_cases e : i = k
  · subst e; exact hk
  · exact h i (by omega)
def wrongN (ob : Int) (js : List J) (p : List Nat) : Int := match wrongV ob js p with
  | some k => (k : Int)
  | none => -1
def wrongP (ob : Int) (js : List J) (p : List Nat) : Int × Bool := match wrongV ob js p with
  | some k => ((k : Int), true)
  | none => (0, false)
section
variable {b : Nat} {A : Option Addr} {c : Nat} {js : List J} {ob : Int} (ho : isRule ob = true) (hg : goodL js = true)
include ho hg
end
end Go.Proofs.YtejgpecmjfgfbaaDoor

namespace Go.Proofs.YtejgpecmjfgfbaaDoor
section
variable (ob : Int) (js : List J)
def isortTo (q : List Nat) (k : Nat) : List Nat := (q.take k).foldl (fun acc x => insN ob js x acc) []
def isortL (q : List Nat) : List Nat := isortTo ob js q q.length
theorem isortTo_succ (q : List Nat) {k : Nat} (h : k < q.length) : isortTo ob js q (k + 1) = insN ob js q[k] (isortTo ob js q k) := by
  unfold isortTo
  rw [List.take_succ_eq_append_getElem h, List.foldl_append]; rfl
theorem isortTo_all (q : List Nat) {k : Nat} (h : q.length ≤ k) : isortTo ob js q k = isortL ob js q := by
  unfold isortL isortTo
  rw [List.take_of_length_le h, List.take_of_length_le (Nat.le_refl _)]
theorem isortTo_one (q : List Nat) : isortTo ob js q 1 ++ q.drop 1 = q := by
  cases q with
  | nil => rfl
  | cons x q => rfl
theorem foldl_ins_perm : ∀ (l acc : List Nat), (l.foldl (fun acc x => insN ob js x acc) acc).Perm (l ++ acc)
  | [], acc => List.Perm.refl _
  | x :: l, acc => by
    rw [List.foldl_cons]
    refine (foldl_ins_perm l _).trans ?_
    refine (List.Perm.append_left l (insN_perm ob js x acc)).trans ?_
    exact List.perm_middle
theorem isortTo_perm (q : List Nat) (k : Nat) : (isortTo ob js q k).Perm (q.take k) := by
  have := foldl_ins_perm ob js (q.take k) []
  rwa [List.append_nil] at this
theorem isortTo_len (q : List Nat) {k : Nat} (h : k ≤ q.length) : (isortTo ob js q k).length = k := by
  have := (isortTo_perm ob js q k).length_eq
  rw [this, List.length_take]; omega
theorem isortL_perm (q : List Nat) : (isortL ob js q).Perm q := by
  have := isortTo_perm ob js q q.length
  rwa [List.take_of_length_le (Nat.le_refl _)] at this
theorem isortL_len (q : List Nat) : (isortL ob js q).length = q.length := (isortL_perm ob js q).length_eq
theorem isort_ruled : ∀ (k n : Nat), k ≤ n → isortTo ob js (List.range n) k = ruledTo ob js k
  | 0, n, _ => rfl
  | k + 1, n, h => by
    rw [isortTo_succ ob js (List.range n) (k := k) (by simp; omega), isort_ruled k n (by omega)]
    simp [ruledTo]
theorem isortL_ruled : isortL ob js (List.range js.length) = ruledL ob js := by
  unfold isortL ruledL
  rw [List.length_range]; exact isort_ruled ob js _ _ (Nat.le_refl _)
end
section
variable {ob : Int} {js : List J}
theorem foldl_ins_sorted (hg : ∀ j ∈ js, okJ j = true) : ∀ (l acc : List Nat), (∀ x ∈ l, x < js.length) → (∀ x ∈ acc, x < js.length) → SortedN ob js acc → SortedN ob js (l.foldl (fun acc x => insN ob js x acc) acc)
  | [], _, _, _, h => h
  | x :: l, acc, hl, ha, h => by
    rw [List.foldl_cons]
    refine foldl_ins_sorted hg l _ (fun y hy => hl y (List.mem_cons_of_mem _ hy)) (fun y hy => ?_) (insN_sorted hg (hl x List.mem_cons_self) ha h)
    rcases List.mem_cons.1 ((insN_perm ob js x acc).mem_iff.1 hy) with e | e
    · subst e; exact hl y List.mem_cons_self
    · exact ha y e
theorem isortTo_sorted (hg : ∀ j ∈ js, okJ j = true) {q : List Nat} (hq : ∀ x ∈ q, x < js.length) (k : Nat) : SortedN ob js (isortTo ob js q k) :=
  foldl_ins_sorted hg _ _ (fun x hx => hq x (List.mem_of_mem_take hx)) (by simp) List.Pairwise.nil
theorem isortTo_lt {q : List Nat} (hq : ∀ x ∈ q, x < js.length) {k x : Nat} (hx : x ∈ isortTo ob js q k) : x < js.length := hq x (List.mem_of_mem_take ((isortTo_perm ob js q k).mem_iff.1 hx))
end
/-- The list while one job moves forward. -/
def midL (out rest : List Nat) (x j : Nat) : List Nat := out.take j ++ x :: (out.drop j ++ rest)
theorem midL_len (out rest : List Nat) (x : Nat) {j : Nat} (h : j ≤ out.length) : (midL out rest x j).length = out.length + 1 + rest.length := by unfold midL; simp; omega
theorem midL_at (out rest : List Nat) (x : Nat) {j : Nat} (h : j ≤ out.length) : (midL out rest x j)[j]? = some x := by
  unfold midL
  rw [List.getElem?_append_right (by simp; omega)]
  have : (out.take j).length = j := by simp; omega
  rw [this, Nat.sub_self]; rfl
theorem midL_prev (out rest : List Nat) (x : Nat) {j : Nat} (h : j < out.length) : (midL out rest x (j + 1))[j]? = some out[j] := by
  unfold midL
  rw [List.getElem?_append_left (by simp; omega), List.getElem?_take, if_pos (by omega), List.getElem?_eq_getElem h]
theorem midL_swap (out rest : List Nat) (x : Nat) {j : Nat} (h : j < out.length) : ((midL out rest x (j + 1)).set (j + 1) out[j]).set j x = midL out rest x j := by
  unfold midL
  have e1 : out.take (j + 1) = out.take j ++ [out[j]] := List.take_succ_eq_append_getElem h
  have e2 : out.drop j = out[j] :: out.drop (j + 1) := List.drop_eq_getElem_cons h
  have hl : (out.take j).length = j := by simp; omega
  rw [e1, List.append_assoc, List.set_append_right _ _ (by omega), List.set_append_right _ _ (by omega), hl]
  rw [show j + 1 - j = 1 by omega, Nat.sub_self, e2]
  rfl
theorem midL_start (out rest : List Nat) (x : Nat) : midL out rest x out.length = out ++ x :: rest := by unfold midL; simp
end Go.Proofs.YtejgpecmjfgfbaaDoor

namespace Go.Proofs.YtejgpecmjfgfbaaDoor
open Go.RowKit
theorem cells_of {w : World} {g : Nat} {cur : Array Value} {n : Nat} {l : List Nat} (hB : BlockIs w g 3 cur) (ht : cur.toList.take n = ic (natI l)) {i x : Nat} (hi : l[i]? = some x) (hn : i < n) : w.cell? ⟨g, i, none⟩ = some (.int .i64 (x : Int)) := by
  rw [hB.cell]
  have h1 : (cur.toList.take n)[i]? = some (.int .i64 (x : Int)) := by
    rw [ht]; unfold ic natI
    simp [hi]
  rw [List.getElem?_take, if_pos hn, Array.getElem?_toList] at h1
  exact h1
theorem ic_setN (l : List Nat) (i x : Nat) : (ic (natI l)).set i (.int .i64 (x : Int)) = ic (natI (l.set i x)) := by
  unfold ic natI
  rw [List.map_set, List.map_set]; rfl
theorem grown_set {w w' : World} {g : Nat} (h : w.grownBy w' (some g)) (i : Nat) (v : Value) : w.grownBy (w'.setCell ⟨g, i, none⟩ v) (some g) := grown_setCell h i v
theorem grown_drew {w w' : World} {r : Option Nat} (h : w.grownBy w' r) (n : Nat) : w.grownBy (w'.drewN n) r := ⟨h.os, h.tape, h.output, h.size, h.block⟩
/-- What stands in the block while the sort runs. -/
def SortIs (w0 w : World) (g n : Nat) (sz : Nat) (l : List Nat) : Prop := ∃ cur, BlockIs w g 3 cur ∧ cur.size = sz ∧ cur.toList.take n = ic (natI l) ∧ w0.grownBy w (some g) ∧ w.heap.size = w0.heap.size
theorem SortIs.drew {w0 w : World} {g n sz : Nat} {l : List Nat} (h : SortIs w0 w g n sz l) (m : Nat) : SortIs w0 (w.drewN m) g n sz l := by
  obtain ⟨cur, h1, h2, h3, h4, h5⟩ := h
  exact ⟨cur, h1.drewN m, h2, h3, grown_drew h4 m, h5⟩
theorem SortIs.drew1 {w0 w : World} {g n sz : Nat} {l : List Nat} (h : SortIs w0 w g n sz l) : SortIs w0 w.drew g n sz l := by
  obtain ⟨cur, h1, h2, h3, h4, h5⟩ := h
  exact ⟨cur, h1.drew, h2, h3, ⟨h4.os, h4.tape, h4.output, h4.size, h4.block⟩, h5⟩
theorem SortIs.set {w0 w : World} {g n sz : Nat} {l : List Nat} (h : SortIs w0 w g n sz l) (i x : Nat) (hi : i < n) : SortIs w0 (w.setCell ⟨g, i, none⟩ (.int .i64 (x : Int))) g n sz (l.set i x) := by
  obtain ⟨cur, h1, h2, h3, h4, h5⟩ := h
  refine ⟨_, h1.set i _, by simpa using h2, ?_, grown_set h4 i _, by rw [← h5]; simp [World.setCell]⟩
  rw [take_setv h3 hi, ic_setN]
section
variable {ob : Int} {js : List J} {f : Nat} {b : Nat} {A : Option Addr} {c : Nat} (hcf : ∀ (args : Array Value) (w1 : World), (callFunc f args).run Tryd.prog w1 = .ok (.enter f args) w1)
  (hcall : ∀ (w : World) (i k : Nat), BlockIs w b 30 #[.slice A js.length c] → Row w A (jc js) → i < js.length → k < js.length → Calls Tryd.prog f #[.int .i64 (i : Int), .int .i64 (k : Int), .pointer (some ⟨b, 0, none⟩)] w fun e w' => e = .returned (.int .i64 (gapN ob js i k)) ∧ ∃ m, w' = w.drewN m) (hok : ∀ j ∈ js, okJ j = true)
include hcf hcall hok
set_option maxRecDepth 100000 in
set_option maxHeartbeats 4000000 in
theorem insSort_any (w : World) (hB : BlockIs w b 30 #[.slice A js.length c]) (hr : Row w A (jc js)) (g cs sz : Nat) (q : List Nat) (hq : ∀ x ∈ q, x < js.length) (hl : q.length ≤ 12) (hs : SortIs w w g q.length sz q) (hA : 0 < js.length → ∀ a, A = some a → a.block ≠ g) :
    Calls Tryd.prog 139 #[.slice (some ⟨g, 0, none⟩) q.length cs, .int .i64 0, .int .i64 (q.length : Int), .func (.func f) #[] #[.pointer (some ⟨b, 0, none⟩)]] w fun e w' => e = .returned (.tuple #[]) ∧ SortIs w w' g q.length sz (isortL ob js q) := by
  have hbg : b ≠ g := by
    obtain ⟨cur, h1, _⟩ := hs
    exact type_ne hB h1 (by decide)
  have HCW : Hid (∀ w' : World, w.grownBy w' (some g) → w'.heap.size = w.heap.size → BlockIs w' b 30 #[.slice A js.length c] ∧ Row w' A (jc js)) := fun w' hg hsz => by
    refine ⟨(hg.block b hB.lt (fun e => hbg (by injection e))).trans hB, fun h0 => ?_⟩
    obtain ⟨ad, h1, h2, h3⟩ := hr h0
    refine ⟨ad, h1, by omega, fun j u hu => ?_⟩
    have hc := h3 j u hu
    rw [← hc]
    have hbk : (ad.add j).block = ad.block := add_block ad j
    have hh := hg.block (ad.add j).block (by rw [hbk]; exact h2) (fun e => hA (by rw [jc_len] at h0; omega) ad h1 (by injection e with e; rw [hbk] at e; exact e))
    unfold World.cell?
    rw [hh]
  have HS0 : Hid (SortIs w w g q.length sz (isortTo ob js q 1 ++ q.drop 1)) := by show SortIs _ _ _ _ _ _; rw [isortTo_one]; exact hs
  have hcf' := hcf
  clear hcf hB hr hs
  go_enter Tryd.func139, Tryd.ntmps139
  go_wp2
  go_loopw [8] (fun i wr => ∃ k : Nat, 1 ≤ k ∧ k ≤ max q.length 1 ∧ i = .int .i64 (k : Int) ∧ Hid (SortIs w wr g q.length sz (isortTo ob js q k ++ q.drop k))) (fun i _ => q.length - (intOf i).toNat)
  case atStart => exact ⟨1, Nat.le_refl _, by omega, rfl, HS0⟩
  case round =>
    obtain ⟨k, hk1, hk2, rfl, HSk⟩ := hrel
    clear HS0
    by_cases hlt : k < q.length
    · have hol := isortTo_len ob js q (k := k) (by omega)
      have HINS := Lib.hid (isortTo_succ ob js q hlt)
      have hxl := hq _ (List.getElem_mem hlt)
      have hout : ∀ a ∈ isortTo ob js q k, a < js.length := fun a ha => isortTo_lt hq ha
      have HSO := Lib.hid (isortTo_sorted (ob := ob) hok hq k)
      have HD : Hid (q.drop k = q[k] :: q.drop (k + 1)) := List.drop_eq_getElem_cons hlt
      have hdl : (q.drop (k + 1)).length = q.length - (k + 1) := by simp
      generalize isortTo ob js q k = out at *
      generalize q[k] = x at *
      generalize hrst : q.drop (k + 1) = rest at *
      have HREST := Lib.hid hrst
      clear hrst
      have hol1 : out.length ≤ k := by omega
      have hol2 : k ≤ out.length := by omega
      have hrl : k + 1 + rest.length ≤ q.length := by omega
      have HST : Hid (SortIs w wr g q.length sz (midL out rest x k)) := by
        show SortIs _ _ _ _ _ _
        have h := HSk.out
        rw [HD.out] at h
        rwa [← hol, midL_start]
      have HOL := Lib.hid hol
      clear hol hdl HSk
      obtain ⟨wo, rfl⟩ : ∃ wo : World, wo = wr := ⟨_, rfl⟩
      go_wp2
      go_loopw [9] (fun jv wi => ∃ j : Nat, j ≤ k ∧ jv = .int .i64 (j : Int) ∧ Hid (SortIs w wi g q.length sz (midL out rest x j)) ∧ Hid (∀ i (h : i < out.length), j ≤ i → 0 < gapN ob js out[i] x)) (fun jv _ => (intOf jv).toNat)
      case atStart => exact ⟨k, Nat.le_refl _, rfl, HST, fun i h h' => absurd h (by omega)⟩
      case round =>
        obtain ⟨j, hj, rfl, HSJ, HG⟩ := hrel
        clear HST
        by_cases h0 : 0 < j
        · obtain ⟨m, rfl⟩ : ∃ m, j = m + 1 := ⟨j - 1, by omega⟩
          have hmo : m < out.length := by omega
          have hm0 : (0 : Int) ≤ m := by omega
          have hm1 : (m : Int) + 1 < q.length := by omega
          have hm2 : (m : Int) < q.length := by omega
          have hm3 : (0 : Int) ≤ (m : Int) + 1 := by omega
          have dd : decide ((0 : Int) < (m : Int) + 1) = true := decide_eq_true (by omega)
          have hw1 := IntWalk.i64_in (m : Int) (by omega)
          obtain ⟨cur, hB, hcs, htk, hgr, hhs⟩ := HSJ.out
          have c1 := cells_of hB htk (midL_at out rest x (j := m + 1) (by omega)) (by omega)
          have c0 := cells_of hB htk (midL_prev out rest x (j := m) hmo) (by omega)
          have HCC : Hid (∀ a, Calls Tryd.prog f #[.int .i64 (x : Int), .int .i64 (out[m] : Int), .pointer (some ⟨b, 0, none⟩)] (wr.drewN a) fun e w' => e = .returned (.int .i64 (gapN ob js x out[m])) ∧ ∃ q, w' = (wr.drewN a).drewN q) := fun a => hcall (wr.drewN a) x out[m] ((HCW.out wr hgr hhs).1.drewN a) ((HCW.out wr hgr hhs).2.drewN a) hxl (hout _ (List.getElem_mem hmo))
          have hgb : -2500 ≤ gapN ob js x out[m] ∧ gapN ob js x out[m] ≤ 2500 := gapJ_bd (getD_ok hok hxl) (getD_ok hok (hout _ (List.getElem_mem hmo)))
          by_cases hneg : gapN ob js x out[m] < 0
          · have HSW := Lib.hid (midL_swap out rest x hmo)
            have HG2 : Hid (∀ i (h : i < out.length), m ≤ i → 0 < gapN ob js out[i] x) := fun i h hmi => by
              by_cases e : i = m
              · subst e; have := gapN_anti ob js x out[i]; omega
              · exact HG.out i h (by omega)
            have hf1 := hB.frozen (m + 1)
            have hf0 := hB.frozen m
            clear hB hcs htk hgr hhs
            generalize gapN ob js x out[m] = gg at *
            generalize out[m] = y at *
            go_wp2
            go_quiet ((exact Calls.quiet_of (HCC.out _)))
            go_wp2
            go_region
            all_goals
              go_wp2
              go_roundw
              case rel =>
                have hz := ((HSJ.out.drew nq).set (m + 1) y (by omega)).set m x (by omega)
                rw [HSW.out] at hz
                exact ⟨m, by omega, by go_num, by first | exact hz | exact hz.drew1, HG2.out⟩
              case measure => simp [intOf]
          · have HF : Hid (isortTo ob js q (k + 1) ++ q.drop (k + 1) = midL out rest x (m + 1)) := by
              show _ = _
              rw [HINS.out, HREST.out, insN_back hok hxl hout HSO.out (k := m + 1) (by omega) (fun _ => by have := gapN_anti ob js x out[m]; show gapN ob js out[m] x ≤ 0; omega) HG.out]
              unfold midL; simp
            clear hB hcs htk hgr hhs
            generalize gapN ob js x out[m] = gg at *
            generalize out[m] = y at *
            go_wp2
            go_quiet ((exact Calls.quiet_of (HCC.out _)))
            go_wp2
            go_roundw
            case rel => exact ⟨k + 1, by omega, by omega, by go_num, by rw [HF.out]; exact HSJ.out.drew _⟩
            case measure => simp [intOf]; omega
        · have d0 : decide ((0 : Int) < (j : Int)) = false := decide_eq_false (by omega)
          have d1 : ¬ (0 : Int) < (j : Int) := by omega
          have HF : Hid (isortTo ob js q (k + 1) ++ q.drop (k + 1) = midL out rest x j) := by
            show _ = _
            rw [HINS.out, HREST.out, insN_back hok hxl hout HSO.out (k := j) (by omega) (fun h => absurd h h0) HG.out]
            unfold midL; simp
          go_wp2
          go_quiet (fail)
          go_wp2
          go_roundw
          case rel => exact ⟨k + 1, by omega, by omega, by go_num, by rw [HF.out]; exact HSJ.out.drew _⟩
          case measure => simp [intOf]; omega
    · go_wp2
      go_end0
      refine ⟨rfl, ?_⟩
      have h := HSk.out
      rwa [isortTo_all ob js q (by omega), List.drop_of_length_le (by omega), List.append_nil] at h
theorem stable_any (w : World) (hB : BlockIs w b 30 #[.slice A js.length c]) (hr : Row w A (jc js)) (g cs sz : Nat) (q : List Nat) (hq : ∀ x ∈ q, x < js.length) (hl : q.length ≤ 12) (hs : SortIs w w g q.length sz q) (hA : 0 < js.length → ∀ a, A = some a → a.block ≠ g) :
    Calls Tryd.prog 89 #[.slice (some ⟨g, 0, none⟩) q.length cs, .func (.func f) #[] #[.pointer (some ⟨b, 0, none⟩)]] w fun e w' => e = .returned (.tuple #[]) ∧ SortIs w w' g q.length sz (isortL ob js q) := by
  have HI := Lib.hid (insSort_any hcf hcall hok w hB hr g cs sz q hq hl hs hA)
  have hcf' := hcf
  clear hcf hB hr hs
  go_enter Tryd.func89, Tryd.ntmps89
  go_wp2
  refine wp_loop_rounds 1 ?_
  rw [rounds_succ]
  go_wp2_with fail
  refine HI.out.mono ?_
  rintro e w1 ⟨rfl, hs1⟩
  have HS := Lib.hid hs1
  clear hs1
  go_wp2
  refine wp_loop_rounds 1 ?_
  rw [rounds_succ]
  go_wp2
  go_end0
  go_wp2
  go_end0
  exact ⟨rfl, HS.out⟩
end
end Go.Proofs.YtejgpecmjfgfbaaDoor

namespace Go.Proofs.YtejgpecmjfgfbaaDoor
open Go.RowKit
/-- A list of one's own, at an address. -/
def RetL (w : World) (l : List Nat) (e : Ending) (w' : World) : Prop := ∃ g, e = .returned (.slice (some ⟨g, 0, none⟩) l.length l.length) ∧ w'.ownsRow w.heap.size 3 1 (.slice (some ⟨g, 0, none⟩) l.length l.length) l.length (ic (natI l)) ∧ Below w.heap.size w w'
section
variable {b : Nat} {A : Option Addr} {c : Nat} {js : List J} {ob : Int} (ho : isRule ob = true) (hg : goodL js = true)
include ho hg
set_option maxRecDepth 100000 in
set_option maxHeartbeats 1000000 in
theorem ruledOrder_any (w : World) (hB : BlockIs w b 30 #[.slice A js.length c]) (hr : Row w A (jc js)) :
    Calls Tryd.prog 96 #[fRule ob b, .int .i64 (js.length : Int)] w (RetL w (ruledL ob js)) := by
  obtain ⟨h8, hok⟩ := good_out hg
  obtain ⟨f, hf, hcf, hcall⟩ := rule_call (b := b) (A := A) (c := c) ho hg
  have hmk := run_make_row' (P := Tryd.prog) 24 3 (.int .i64 0) 8 Tryd.underlying24 infoI rfl .i64 .i64 js.length (by omega) (by omega)
  have HLL := Lib.hid (ruledL_len ob js)
  have HB := Lib.hid (And.intro hB hr)
  rw [hf]
  clear hf hB hr
  go_enter Tryd.func96, Tryd.ntmps96
  go_wp2
  go_loopw [11] (fun i wr => ∃ (k : Nat) (cs : Array Value), k ≤ js.length ∧ i = .int .i64 (k : Int) ∧ Hid (BlockIs wr w.heap.size 3 cs) ∧ Hid (Upto (ic (natI (List.range js.length))) k cs) ∧ Hid (Below w.heap.size w wr)) (fun i _ => js.length - (intOf i).toNat)
  case atStart =>
    exact ⟨0, _, Nat.zero_le _, rfl, BlockIs.new _ _ _, ⟨by rw [size_madeCells, ic_len]; simp, by omega⟩, (Below.refl _ _).alloc (Nat.le_refl _) _⟩
  case round =>
    obtain ⟨k, cs, hk, rfl, HBl, HU, HW⟩ := hrel
    clear hmk
    have hcl : (ic (natI (List.range js.length))).length = js.length := by rw [ic_len]; simp
    by_cases hlt : k < js.length
    · obtain ⟨v0, hv0⟩ : ∃ v, cs[k]? = some v := ⟨_, Array.getElem?_eq_getElem (by have := HU.out.1; omega)⟩
      have hck : wr.cell? ⟨w.heap.size, k, none⟩ = some v0 := by rw [HBl.out.cell, hv0]
      have hfz := HBl.out.frozen k
      have hst := HU.out.step (k := k) (by omega)
      have hget : (ic (natI (List.range js.length)))[k]'(by omega) = .int .i64 (k : Int) := by
        rw [ic_get _ k (by simp; omega)]; simp
      rw [hget] at hst
      have HS := Lib.hid hst
      have HB2 := Lib.hid (HBl.out.set k (.int .i64 (k : Int)))
      have hi0 : (0 : Int) ≤ k := by omega
      have hi1 : (k : Int) < js.length := by omega
      clear hv0 hst hget hcl HU HBl
      go_wp2
      go_roundw
      case rel => exact ⟨k + 1, _, by omega, by go_num, HB2.out, HS.out, HW.out.setCell (Nat.le_refl _) _⟩
      case measure => simp [intOf]; omega
    · obtain rfl : k = js.length := by omega
      have hU : Upto (ic (natI (List.range js.length))) (ic (natI (List.range js.length))).length cs := by
        have h := HU.out
        generalize hL : ic (natI (List.range js.length)) = L at *
        rw [hcl]; exact h
      have hsz : cs.size = js.length := by rw [hU.1, hcl]
      have hall := hU.all
      have hlt1 : w.heap.size < wr.heap.size := HBl.out.lt
      have hst0 := stable_any (ob := ob) (f := f) (b := b) (A := A) (c := c) hcf hcall hok wr (HB.out.1.below HW.out) (HB.out.2.below HW.out) w.heap.size js.length js.length (List.range js.length) (fun x hx => List.mem_range.1 hx) (by simp; omega)
        ⟨cs, HBl.out, hsz, by rw [List.take_of_length_le (by simp [hsz]), hall], World.grownBy.refl _ _, rfl⟩
        (fun h0 a ha => by
          obtain ⟨a', h1, h2, _⟩ := HB.out.2 (by rw [jc_len]; omega)
          rw [ha] at h1; injection h1 with h1; subst h1; omega)
      rw [isortL_ruled] at hst0
      simp only [List.length_range] at hst0
      have HST := Lib.hid hst0
      clear hU hall hst0 hcl hsz HU HBl hcall
      go_wp2_with fail
      refine HST.out.mono ?_
      rintro e w2 ⟨rfl, hs2⟩
      have HS2 := Lib.hid hs2
      clear hs2
      go_wp2
      go_ret
      obtain ⟨cur, h1, h2, h3, h4, h5⟩ := HS2.out
      refine ⟨w.heap.size, by rw [HLL.out]; rfl, ?_, HW.out.grown h4 (by omega) (fun j hj => by injection hj with hj; omega)⟩
      have := h1.own (base := w.heap.size) (n := js.length) (c := js.length) (size := 1) (Nat.le_refl _) (by omega) (Nat.le_refl _) (by unfold maxLen; omega) (by omega)
      rw [Nat.mul_one, h3] at this
      rw [HLL.out]
      exact this
end
end Go.Proofs.YtejgpecmjfgfbaaDoor

namespace Go.Proofs.YtejgpecmjfgfbaaDoor
theorem set_ne {L : Array Bool} {k j : Nat} (h : k ≠ j) (b : Bool) : (L.setIfInBounds k true).getD j b = L.getD j b := by
  rw [getD_set_true, if_neg (fun e => h e.1)]
theorem set_eq {L : Array Bool} {k : Nat} (h : k < L.size) (b : Bool) : (L.setIfInBounds k true).getD k b = true := by
  rw [getD_set_true, if_pos ⟨rfl, h⟩]
end Go.Proofs.YtejgpecmjfgfbaaDoor

namespace Go.Proofs.YtejgpecmjfgfbaaDoor
open Go.RowKit
theorem exec_slice {P : Program} {o : Oper} {ev : Operand → Value} {x : Operand} {lo hi mx : Option Operand} {t : TypeId} {v : Value} {w : World} (ho : o.op = .slice t x lo hi mx) (hr : (Instr.sliceAt t (ev x) (lo.map ev) (hi.map ev) (mx.map ev)).run P w = .ok v w) : (execOp ev o).run P w = .ok (.value v) w := by
  unfold execOp
  simp [ho, hr, Result.andThen]
theorem exec_append {P : Program} {o : Oper} {ev : Operand → Value} {s x : Operand} {t : TypeId} {v u r : Value} {w w' : World} (ho : o.op = .call { callee := .builtin .append, args := #[s, x], argTypes := #[t, t] }) (hs : ev s = v) (hx : ev x = u) (hr : (Builtin.append_ #[t, t] o.type #[v, u]).run P w = .ok r w') : (execOp ev o).run P w = .ok (.value r) w' := by
  unfold execOp
  simp only [ho, resolve, invoke, builtin, Sem.run_bind, Sem.run_pure, Result.andThen_ok, List.map_toArray, List.map_cons, List.map_nil, hs, hx, hr]
theorem slice_h (ad : Addr) (n c : Nat) (h : Nat) (w : World) (hc : h ≤ c) : (Instr.sliceAt 24 (.slice (some ad) n c) none (some (.int .i64 (h : Int))) none).run Tryd.prog w = .ok (.slice (some ad) h c) w := by
  simp [hc, go_sem]
def tailAd (ad : Addr) (l c : Nat) : Addr := if c = l then ad else ad.add l
theorem slice_l (ad : Addr) (n c : Nat) (l : Nat) (w : World) (hl : l ≤ n) : (Instr.sliceAt 24 (.slice (some ad) n c) (some (.int .i64 (l : Int))) none none).run Tryd.prog w = .ok (.slice (some (tailAd ad l c)) (n - l) (c - l)) w := by
  unfold tailAd
  simp [hl, go_sem]
  split <;> simp_all
theorem tail_src {w : World} {ad : Addr} {xs : List Int} {l c : Nat} (hr : Row w (some ad) (ic xs)) (hc : xs.length ≤ c) : ∀ j u, (ic (xs.drop l))[j]? = some u → w.cell? ((tailAd ad l c).add j) = some u := by
  intro j u hu
  have hj : j < (xs.drop l).length := by have := (List.getElem?_eq_some_iff.1 hu).1; rwa [ic_len] at this
  have hj' : l + j < xs.length := by simp at hj; omega
  have hne : c ≠ l := by omega
  unfold tailAd
  rw [if_neg hne, Addr.add_add]
  refine row_src hr _ _ ?_
  unfold ic at hu ⊢
  rw [List.getElem?_map, List.getElem?_drop] at hu
  rw [List.getElem?_map]; exact hu
theorem own_lower {w : World} {B B' e size n : Nat} {v : Value} {xs : List Value} (h : w.ownsRow B' e size v n xs) (hB : B ≤ B') : w.ownsRow B e size v n xs :=
  ⟨h.1, h.2.imp id fun ⟨g, cap, cur, hv, hb, r⟩ => ⟨g, cap, cur, hv, Nat.le_trans hB hb, r⟩⟩
theorem own_below {w w' : World} {B n : Nat} {v : Value} {xs : List Value} (h : w.ownsRow B 3 1 v n xs) (hb : Below w.heap.size w w') : w'.ownsRow B 3 1 v n xs := by
  refine ⟨h.1, h.2.imp id fun ⟨g, cap, cur, hv, hB, hg, r⟩ => ⟨g, cap, cur, hv, hB, ?_, r⟩⟩
  rw [hb.block g (Array.getElem?_eq_some_iff.1 hg).1]; exact hg
theorem row_take {w : World} {A : Option Addr} {xs : List Int} (h : Row w A (ic xs)) (k : Nat) : Row w A (ic (xs.take k)) := by
  intro h0
  rw [ic_len] at h0
  obtain ⟨ad, h1, h2, h3⟩ := h (by rw [ic_len]; simp at h0; omega)
  refine ⟨ad, h1, h2, fun j u hu => h3 j u ?_⟩
  unfold ic at hu ⊢
  rw [List.map_take, List.getElem?_take] at hu
  split at hu
  · exact hu
  · cases hu
theorem own_part {ad : Addr} {c k : Nat} {xs : List Int} {w : World} (hr : Row w (some ad) (ic xs)) (hk : k ≤ xs.length) (hn : xs.length ≤ 100000) :
    Calls Tryd.prog 85 #[.slice (some ad) k c] w fun e w' => ∃ ad' c', e = .returned (.slice (some ad') k c') ∧ w'.ownsRow w.heap.size 3 1 (.slice (some ad') k c') k (ic (xs.take k)) ∧ Below w.heap.size w w' := by
  have hl : (xs.take k).length = k := by simp; omega
  have h := l1Own_some ad c (xs.take k) w (row_take hr k) (by omega)
  rwa [hl] at h
theorem slice_some {B n : Nat} {w : World} {ad : Addr} {k c : Nat} {xs : List Value} (h : w.ownsRow B 3 1 (.slice (some ad) k c) n xs) : k = n ∧ n ≤ c := by
  rcases h.2 with ⟨hv, _⟩ | ⟨g, cap, cur, hv, _, _, hc, _⟩
  · cases hv
  · injection hv with _ e2 e3
    exact ⟨e2, by omega⟩
theorem ic_one {xs : List Int} : ∀ u ∈ ic xs, u.oneCell' = true := by intro u hu; unfold ic at hu; obtain ⟨x, _, rfl⟩ := List.mem_map.1 hu; rfl
end Go.Proofs.YtejgpecmjfgfbaaDoor

namespace Go.Proofs.YtejgpecmjfgfbaaDoor
section
variable {P : Program} {ops : Array Oper} {Q : Exit → Act → World → Prop}
def StepG {γ : Type} (P : Program) (S : γ → Array Bool → World → Prop) (val : γ → Nat → Value) (x : γ) (L : Array Bool) (i : Nat) (o : Oper) (a : Act) (w : World) : Prop :=
  (∃ x' w', (∀ j, L.getD j true = true → val x' j = val x j) ∧ (execOp a.eval o).run P w = .ok (.value (val x' i)) w' ∧ S x' (L.setIfInBounds i true) w') ∨
  (∃ f args, (execOp a.eval o).run P w = .ok (.enter f args) w ∧ Calls P f args w fun e w' => ∃ x', (∀ j, L.getD j true = true → val x' j = val x j) ∧ e = .returned (val x' i) ∧ S x' (L.setIfInBounds i true) w')
theorem wp_region_detG {γ : Type} {id : Nat} {tm0 : Array Value} {df : List Deferred} {w : World} (hm : P.follows .mixedOrders = true) (S : γ → Array Bool → World → Prop) (val : γ → Nat → Value) (x0 : γ) (hback : backB ops = true) (hown : ownDst ops tm0.size = true)
    (h0 : S x0 (Array.replicate ops.size false) w.drew)
    (hdone : ∀ (x : γ) (L : Array Bool) (tm : Array Value) (w : World), (∀ i, i < ops.size → L.getD i true = true) → S x L w → tm.size = tm0.size → (∀ t, ((List.range ops.size).all fun j => !((ops[j]?).bind (·.dst) == some t)) = true → tm.getD t undef = tm0.getD t undef) → (∀ j o d, ops[j]? = some o → o.dst = some d → tm.getD d undef = val x j) → Q .normal ⟨tm, df⟩ w)
    (hstep : ∀ (x : γ) (L : Array Bool) (a : Act) (w : World) (i : Nat) (o : Oper), L.size = ops.size → ops[i]? = some o → L.getD i true = false → (∀ j, edgeB ops i j = true → L.getD j true = true) → (∀ j, edgeB ops j i = true → L.getD j true = false) → S x L w → (∀ t, ((List.range ops.size).all fun j => !((ops[j]?).bind (·.dst) == some t)) = true → a.tmps.getD t undef = tm0.getD t undef) →
      (∀ j oj d, edgeB ops i j = true → ops[j]? = some oj → oj.dst = some d → a.tmps.getD d undef = val x j) →
      (∀ j oj d, edgeB ops j i = true → ops[j]? = some oj → oj.dst = some d → a.tmps.getD d undef = tm0.getD d undef) → o.guard = none ∧ StepG P S val x L i o a w) :
    (Code.region id ops true).wp P Q ⟨tm0, df⟩ w := by
  refine wp_region_inv hm (fun L a w => ∃ x, S x L w ∧ a.defers = df ∧ a.tmps.size = tm0.size ∧ (∀ t, ((List.range ops.size).all fun j => !((ops[j]?).bind (·.dst) == some t)) = true → a.tmps.getD t undef = tm0.getD t undef) ∧ (∀ j o d, ops[j]? = some o → o.dst = some d → L.getD j true = true → a.tmps.getD d undef = val x j) ∧ (∀ j o d, ops[j]? = some o → o.dst = some d → L.getD j true = false → a.tmps.getD d undef = tm0.getD d undef)) (back_of hback) ?_ ?_ ?_
  · refine ⟨x0, h0, rfl, rfl, fun _ _ => rfl, fun j o d ho _ hl => ?_, fun _ _ _ _ _ _ => rfl⟩
    have hj : j < ops.size := (Array.getElem?_eq_some_iff.1 ho).1
    simp [Array.getD_eq_getD_getElem?, hj] at hl
  · intro L a w ⟨x, hS, hdf, hsz, hlow, hval, _⟩ hall
    obtain ⟨tm, df'⟩ := a
    simp only at hdf hsz
    subst hdf
    exact hdone x L tm w hall hS hsz hlow (fun j o d ho hd => hval j o d ho hd (hall j (Array.getElem?_eq_some_iff.1 ho).1))
  · intro L a w i o hC ⟨x, hS, hdf, hsz, hlow, hval, hold⟩ ho hl hd
    obtain ⟨hg, hst⟩ := hstep x L a w i o hC.1 ho hl (fun j he => dep_of ho hd he) (fun j he => hC.no he hl) hS hlow (fun j oj d he hoj hdj => hval j oj d hoj hdj (dep_of ho hd he)) (fun j oj d he hoj hdj => hold j oj d hoj hdj (hC.no he hl))
    have next : ∀ x' w', (∀ j, L.getD j true = true → val x' j = val x j) → S x' (L.setIfInBounds i true) w' → S x' (L.setIfInBounds i true) w' ∧ (a.put o.dst (val x' i)).defers = df ∧ (a.put o.dst (val x' i)).tmps.size = tm0.size ∧ (∀ t, ((List.range ops.size).all fun j => !((ops[j]?).bind (·.dst) == some t)) = true → (a.put o.dst (val x' i)).tmps.getD t undef = tm0.getD t undef) ∧ (∀ j o' d, ops[j]? = some o' → o'.dst = some d → (L.setIfInBounds i true).getD j true = true → (a.put o.dst (val x' i)).tmps.getD d undef = val x' j) ∧ (∀ j o' d, ops[j]? = some o' → o'.dst = some d → (L.setIfInBounds i true).getD j true = false → (a.put o.dst (val x' i)).tmps.getD d undef = tm0.getD d undef) := by
      intro x' w' hag hS'
      cases hod : o.dst with
      | none =>
        refine ⟨hS', hdf, hsz, hlow, fun j o' d ho' hd' hl' => ?_, fun j o' d ho' hd' hl' => ?_⟩
        · have hne : i ≠ j := fun e => by subst e; rw [ho] at ho'; injection ho' with ho'; subst ho'; rw [hod] at hd'; cases hd'
          rw [getD_set_true, if_neg (fun h => hne h.1)] at hl'
          rw [hag j hl']; exact hval j o' d ho' hd' hl'
        · have hne : i ≠ j := fun e => by subst e; rw [ho] at ho'; injection ho' with ho'; subst ho'; rw [hod] at hd'; cases hd'
          rw [getD_set_true, if_neg (fun h => hne h.1)] at hl'
          exact hold j o' d ho' hd' hl'
      | some d0 =>
        have hput : ∀ t, (a.put (some d0) (val x' i)).tmps.getD t undef = if d0 = t ∧ t < a.tmps.size then val x' i else a.tmps.getD t undef := by
          intro t
          unfold Act.put
          simp only [Array.getD_eq_getD_getElem?, Array.getElem?_setIfInBounds]
          by_cases e : d0 = t
          · subst e
            by_cases h : d0 < a.tmps.size
            · simp [h]
            · simp [h]
          · simp [e]
        refine ⟨hS', hdf, by simp [Act.put, hsz], fun t ht => ?_, fun j o' d ho' hd' hl' => ?_, fun j o' d ho' hd' hl' => ?_⟩
        · rw [hput, if_neg (fun h => ?_)]
          · exact hlow t ht
          · have := List.all_eq_true.1 ht i (List.mem_range.2 (Array.getElem?_eq_some_iff.1 ho).1)
            rw [ho] at this
            simp [hod, h.1] at this
        · rw [hput]
          by_cases e : d0 = d
          · subst e
            have hij := ownDst_inj hown ho hod ho' hd'
            subst hij
            rw [if_pos ⟨rfl, by rw [hsz]; exact ownDst_lt hown ho hod⟩]
          · rw [if_neg (fun h => e h.1)]
            have hne : i ≠ j := fun e' => by subst e'; rw [ho] at ho'; injection ho' with ho'; subst ho'; rw [hod] at hd'; injection hd' with hd'; exact e hd'
            rw [getD_set_true, if_neg (fun h => hne h.1)] at hl'
            rw [hag j hl']; exact hval j o' d ho' hd' hl'
        · have hli : i ≠ j := fun e => by
            subst e
            have hC1 : i < L.size := by rw [hC.1]; exact (Array.getElem?_eq_some_iff.1 ho).1
            rw [getD_set_true, if_pos ⟨rfl, hC1⟩] at hl'; cases hl'
          rw [getD_set_true, if_neg (fun h => hli h.1)] at hl'
          have hdd : d0 ≠ d := fun e => by subst e; exact hli (ownDst_inj hown ho' hd' ho hod)
          rw [hput, if_neg (fun h => hdd h.1)]
          exact hold j o' d ho' hd' hl'
    rcases hst with ⟨x', w', hag, hr, hS'⟩ | ⟨f, args, hr, hc⟩
    · exact wpOp_value ho hg hr ⟨x', next x' w' hag hS'⟩
    · refine wpOp_enter ho hg hr (hc.mono ?_)
      rintro e w' ⟨x', hag, rfl, hS'⟩
      exact ⟨_, rfl, x', next x' w' hag hS'⟩
end
end Go.Proofs.YtejgpecmjfgfbaaDoor

namespace Go.Proofs.YtejgpecmjfgfbaaDoor
open Go.RowKit
theorem but_o3 {a3 b3 v0 v1 v10 v11 v2 v4 v5 v6 v7 v8 v9 : Value} (j : Nat) (h3 : j ≠ 3) : (#[v0, v1, v2, a3, v4, v5, v6, v7, v8, v9, v10, v11] : Array Value).getD j undef = (#[v0, v1, v2, b3, v4, v5, v6, v7, v8, v9, v10, v11] : Array Value).getD j undef := by
  rcases (by omega : j = 0 ∨ j = 1 ∨ j = 2 ∨ j = 4 ∨ j = 5 ∨ j = 6 ∨ j = 7 ∨ j = 8 ∨ j = 9 ∨ j = 10 ∨ j = 11 ∨ 11 < j) with rfl | rfl | rfl | rfl | rfl | rfl | rfl | rfl | rfl | rfl | rfl | h
  all_goals first | rfl | (simp only [Array.getD_eq_getD_getElem?]; rw [Array.getElem?_eq_none (by simp; omega), Array.getElem?_eq_none (by simp; omega)])
theorem but_o5 {a5 b5 v0 v1 v10 v11 v2 v3 v4 v6 v7 v8 v9 : Value} (j : Nat) (h5 : j ≠ 5) : (#[v0, v1, v2, v3, v4, a5, v6, v7, v8, v9, v10, v11] : Array Value).getD j undef = (#[v0, v1, v2, v3, v4, b5, v6, v7, v8, v9, v10, v11] : Array Value).getD j undef := by
  rcases (by omega : j = 0 ∨ j = 1 ∨ j = 2 ∨ j = 3 ∨ j = 4 ∨ j = 6 ∨ j = 7 ∨ j = 8 ∨ j = 9 ∨ j = 10 ∨ j = 11 ∨ 11 < j) with rfl | rfl | rfl | rfl | rfl | rfl | rfl | rfl | rfl | rfl | rfl | h
  all_goals first | rfl | (simp only [Array.getD_eq_getD_getElem?]; rw [Array.getElem?_eq_none (by simp; omega), Array.getElem?_eq_none (by simp; omega)])
theorem but_o6 {a6 b6 v0 v1 v10 v11 v2 v3 v4 v5 v7 v8 v9 : Value} (j : Nat) (h6 : j ≠ 6) : (#[v0, v1, v2, v3, v4, v5, a6, v7, v8, v9, v10, v11] : Array Value).getD j undef = (#[v0, v1, v2, v3, v4, v5, b6, v7, v8, v9, v10, v11] : Array Value).getD j undef := by
  rcases (by omega : j = 0 ∨ j = 1 ∨ j = 2 ∨ j = 3 ∨ j = 4 ∨ j = 5 ∨ j = 7 ∨ j = 8 ∨ j = 9 ∨ j = 10 ∨ j = 11 ∨ 11 < j) with rfl | rfl | rfl | rfl | rfl | rfl | rfl | rfl | rfl | rfl | rfl | h
  all_goals first | rfl | (simp only [Array.getD_eq_getD_getElem?]; rw [Array.getElem?_eq_none (by simp; omega), Array.getElem?_eq_none (by simp; omega)])
theorem but_o10 {a10 a11 b10 b11 v0 v1 v2 v3 v4 v5 v6 v7 v8 v9 : Value} (j : Nat) (h10 : j ≠ 10) (h11 : j ≠ 11) : (#[v0, v1, v2, v3, v4, v5, v6, v7, v8, v9, a10, a11] : Array Value).getD j undef = (#[v0, v1, v2, v3, v4, v5, v6, v7, v8, v9, b10, b11] : Array Value).getD j undef := by
  rcases (by omega : j = 0 ∨ j = 1 ∨ j = 2 ∨ j = 3 ∨ j = 4 ∨ j = 5 ∨ j = 6 ∨ j = 7 ∨ j = 8 ∨ j = 9 ∨ 11 < j) with rfl | rfl | rfl | rfl | rfl | rfl | rfl | rfl | rfl | rfl | h
  all_goals first | rfl | (simp only [Array.getD_eq_getD_getElem?]; rw [Array.getElem?_eq_none (by simp; omega), Array.getElem?_eq_none (by simp; omega)])
theorem own_block2 {w : World} {B n : Nat} {v : Value} {cs : List Value} (h : w.ownsRow B 3 1 v n cs) (hn : 0 < n) : ∃ g, B ≤ g ∧ (∃ c, v = .slice (some ⟨g, 0, none⟩) n c) ∧ True := by
  rcases h.2 with ⟨_, h0⟩ | ⟨g, cap, cur, hv, hb, _⟩
  · omega
  · exact ⟨g, hb, ⟨cap, hv⟩, trivial⟩
section
variable (A : Option Addr) (c : Nat) (js : List J) (ob : Int) (w : World) (hr : Row w A (jc js)) (hg : goodL js = true) (ho : isRule ob = true)
include hr hg ho
set_option maxRecDepth 100000 in
set_option maxHeartbeats 4000000 in
theorem l3Order_any : Calls Tryd.prog 60 #[.slice A js.length c, .int .i64 ob] w fun e w' => ∃ v, e = .returned v ∧ w'.ownsRow w.heap.size 3 1 v js.length (ic (natI (ruledL ob js))) ∧ Below w.heap.size w w' := by
  obtain ⟨h8, hok⟩ := good_out hg
  obtain ⟨i0, hi, hz0, hz1, hz2⟩ := info_parts infoI
  have hb0 := (Below.refl w.heap.size w).alloc (Nat.le_refl _) (.cells #[] 3)
  have hown0 : (w.alloc (.cells #[] 3)).ownsRow w.heap.size 3 1 (.slice (some ⟨w.heap.size, 0, none⟩) 0 0) 0 [] := World.ownsRow_made w #[] 0 (Nat.le_refl _) (by unfold maxLen; omega) rfl
  have H0 := Lib.hid (And.intro hown0 hb0)
  clear hown0 hb0
  go_enter Tryd.func60, Tryd.ntmps60
  go_wp2
  go_loopw [5, 6] (fun v i wr => ∃ (k : Nat) (ad : Addr) (cc : Nat), k ≤ js.length ∧ v = .slice (some ad) k cc ∧ i = .int .i64 (k : Int) ∧ Hid (wr.ownsRow w.heap.size 3 1 (.slice (some ad) k cc) k (ic (natI (ruledTo ob js k)))) ∧ Hid (Below w.heap.size w wr)) (fun _ i _ => js.length - (intOf i).toNat)
  case atStart => exact ⟨0, _, 0, Nat.zero_le _, rfl, rfl, H0.out.1, H0.out.2⟩
  case round =>
    obtain ⟨i, ad, cc, hik, rfl, rfl, HO, HW⟩ := hrel
    clear H0
    by_cases hlt : i < js.length
    · have hi0 : (0 : Int) ≤ i := by omega
      have hi1 : (i : Int) < js.length := by omega
      have hol := ruledTo_len ob js i
      have hout : ∀ a ∈ ruledTo ob js i, a < js.length := fun a ha => by have := ruledTo_lt ob js ha; omega
      have HINS : Hid (ruledTo ob js (i + 1) = insN ob js i (ruledTo ob js i)) := rfl
      generalize ruledTo ob js i = out at *
      have hol1 : out.length ≤ i := by omega
      have hol2 : i ≤ out.length := by omega
      have HOL := Lib.hid hol
      clear hol
      obtain ⟨wo, rfl⟩ : ∃ wo : World, wo = wr := ⟨_, rfl⟩
      go_wp2
      go_loopw [7] (fun kv wi => ∃ k : Nat, k ≤ i ∧ kv = .int .i64 (k : Int) ∧ Hid (Below wo.heap.size wo wi) ∧ Hid (∀ a ∈ out.take k, gapN ob js a i ≤ 0)) (fun kv _ => i - (intOf kv).toNat)
      case atStart => exact ⟨0, Nat.zero_le _, rfl, Below.refl _ _, fun a h => by cases h⟩
      case round =>
        obtain ⟨k, hk, rfl, HB, HG⟩ := hrel
        have HRow := Lib.hid ((Row.of_own HO.out).below HB.out)
        by_cases hki : k < i
        · have hko : k < out.length := by omega
          have hk0 : (0 : Int) ≤ k := by omega
          have hk1 : (k : Int) < i := by omega
          obtain ⟨ad', hA', hc0⟩ := HRow.out.nat hko
          injection hA' with hA'
          subst hA'
          have hoa := hout _ (List.getElem_mem hko)
          have hgb : -2500 ≤ gapN ob js out[k] i ∧ gapN ob js out[k] i ≤ 2500 := gapJ_bd (getD_ok hok hoa) (getD_ok hok hlt)
          have HC := Lib.hid (l3Gap_any A c js ob wr (hr.below (HW.out.trans (HB.out.mono HW.out.size))) hok out[k] i hoa hlt ho)
          by_cases hle : gapN ob js out[k] i ≤ 0
          · have HG2 : Hid (∀ a ∈ out.take (k + 1), gapN ob js a i ≤ 0) := fun a ha => by
              rw [List.take_succ_eq_append_getElem hko] at ha
              rcases List.mem_append.1 ha with h | h
              · exact HG.out a h
              · rw [List.mem_singleton.1 h]; exact hle
            generalize gapN ob js out[k] i = gg at *
            generalize out[k] = x0 at *
            clear hoa
            go_wp2_with fail
            refine HC.out.mono ?_
            rintro e w1 ⟨rfl, hb1⟩
            go_wp2
            go_roundw
            case rel => exact ⟨k + 1, by omega, by go_num, HB.out.trans (hb1.mono HB.out.size), HG2.out⟩
            case measure => simp [intOf]; omega
          · have HF := Lib.hid (HINS.out.trans (insN_at ob js i out k (by omega) HG.out (fun _ => by omega)))
            generalize gapN ob js out[k] i = gg at *
            generalize out[k] = x0 at *
            clear hoa
            go_wp2_with fail
            refine HC.out.mono ?_
            rintro e w1 ⟨rfl, hb1⟩
            have HRW := Lib.hid ((Row.of_own HO.out).below (HB.out.trans (hb1.mono HB.out.size)))
            have HBW := Lib.hid (HW.out.trans ((HB.out.trans (hb1.mono HB.out.size)).mono HW.out.size))
            have HFI : Hid (ic ((natI out).take k ++ [(i : Int)] ++ (natI out).drop k) = ic (natI (ruledTo ob js (i + 1)))) := by show _ = _; rw [HF.out]; unfold natI; simp
            have hoI : (natI out).length = out.length := by simp
            have hccs := (slice_some HO.out).2
            skip
            generalize natI out = oI at *
            have hoI1 : oI.length ≤ i := by omega
            have hoI2 : i ≤ oI.length := by omega
            clear hoI HF HG HINS
            clear hb1 HC
            go_wp2
            refine wp_region_detG (by kernel_rfl) (fun x L w' => Below w1.heap.size w1 w' ∧ (L.getD 3 true = true → L.getD 6 true = false → w'.ownsRow w1.heap.size 3 1 x.1 k (ic (oI.take k))) ∧ (L.getD 5 true = true → L.getD 6 true = false → BlockIs w' x.2.1 3 #[.int .i64 (i : Int)]) ∧ (L.getD 6 true = true → L.getD 10 true = false → w'.ownsRow w1.heap.size 3 1 x.2.2.1 (k + 1) (ic (oI.take k ++ [(i : Int)]))) ∧ (L.getD 10 true = true → L.getD 6 true = true ∧ w'.ownsRow w1.heap.size 3 1 x.2.2.2 (i + 1) (ic (oI.take k ++ [(i : Int)] ++ oI.drop k))))
              (fun x kk => #[.slice (some ad) i cc, .int .i64 (k : Int), .slice (some ad) k cc, x.1, .int .i64 (i : Int), .slice (some ⟨x.2.1, 0, none⟩) 1 1, x.2.2.1, .slice (some ad) i cc, .int .i64 (k : Int), .slice (some (tailAd ad k cc)) (i - k) (cc - k), x.2.2.2, x.2.2.2].getD kk undef) (undef, 0, undef, undef) (by kernel_rfl) (by kernel_rfl) ⟨(Below.refl _ _).drew, (fun h => by cases h), (fun h => by cases h), (fun h => by cases h), fun h => by cases h⟩ ?_ ?_
            · intro x L tm w' hall hS hsz hlow hval
              have ht : tm = #[.slice A js.length c, .int .i64 ob, undef, undef, .slice none 0 0, x.2.2.2, .int .i64 (i : Int), .int .i64 (k : Int), .slice (some ⟨w.heap.size, 0, none⟩) 0 0, .int .i64 (i : Int), .slice A js.length c, .int .i64 (js.length : Int), .bool true, u13, u14, .int .i64 (k : Int), .slice (some ad) i cc, .int .i64 (i : Int), .bool true, .bool true, .slice A js.length c, .int .i64 ob, .slice (some ad) i cc, .int .i64 (k : Int), .pointer (some (ad.add k)), .int .i64 (x0 : Int), .int .i64 (i : Int), .int .i64 gg, .bool (decide (gg ≤ 0)), .bool (decide (gg ≤ 0)), u30, u31, .slice (some ad) i cc, .int .i64 (k : Int), .slice (some ad) k cc, x.1, .int .i64 (i : Int), .slice (some ⟨x.2.1, 0, none⟩) 1 1, x.2.2.1, .slice (some ad) i cc, .int .i64 (k : Int), .slice (some (tailAd ad k cc)) (i - k) (cc - k), x.2.2.2, undef] := by
                refine arr_of _ _ hsz fun t ht => ?_
                have ht' : t < 44 := ht
                rcases (by omega : t = 0 ∨ t = 1 ∨ t = 2 ∨ t = 3 ∨ t = 4 ∨ t = 5 ∨ t = 6 ∨ t = 7 ∨ t = 8 ∨ t = 9 ∨ t = 10 ∨ t = 11 ∨ t = 12 ∨ t = 13 ∨ t = 14 ∨ t = 15 ∨ t = 16 ∨ t = 17 ∨ t = 18 ∨ t = 19 ∨ t = 20 ∨ t = 21 ∨ t = 22 ∨ t = 23 ∨ t = 24 ∨ t = 25 ∨ t = 26 ∨ t = 27 ∨ t = 28 ∨ t = 29 ∨ t = 30 ∨ t = 31 ∨ t = 32 ∨ t = 33 ∨ t = 34 ∨ t = 35 ∨ t = 36 ∨ t = 37 ∨ t = 38 ∨ t = 39 ∨ t = 40 ∨ t = 41 ∨ t = 42 ∨ t = 43) with rfl | rfl | rfl | rfl | rfl | rfl | rfl | rfl | rfl | rfl | rfl | rfl | rfl | rfl | rfl | rfl | rfl | rfl | rfl | rfl | rfl | rfl | rfl | rfl | rfl | rfl | rfl | rfl | rfl | rfl | rfl | rfl | rfl | rfl | rfl | rfl | rfl | rfl | rfl | rfl | rfl | rfl | rfl | rfl
                · exact hlow 0 (by kernel_rfl)
                · exact hlow 1 (by kernel_rfl)
                · exact hlow 2 (by kernel_rfl)
                · exact hlow 3 (by kernel_rfl)
                · exact hlow 4 (by kernel_rfl)
                · exact hval 11 _ 5 rfl rfl
                · exact hlow 6 (by kernel_rfl)
                · exact hlow 7 (by kernel_rfl)
                · exact hlow 8 (by kernel_rfl)
                · exact hlow 9 (by kernel_rfl)
                · exact hlow 10 (by kernel_rfl)
                · exact hlow 11 (by kernel_rfl)
                · exact hlow 12 (by kernel_rfl)
                · exact hlow 13 (by kernel_rfl)
                · exact hlow 14 (by kernel_rfl)
                · exact hlow 15 (by kernel_rfl)
                · exact hlow 16 (by kernel_rfl)
                · exact hlow 17 (by kernel_rfl)
                · exact hlow 18 (by kernel_rfl)
                · exact hlow 19 (by kernel_rfl)
                · exact hlow 20 (by kernel_rfl)
                · exact hlow 21 (by kernel_rfl)
                · exact hlow 22 (by kernel_rfl)
                · exact hlow 23 (by kernel_rfl)
                · exact hlow 24 (by kernel_rfl)
                · exact hlow 25 (by kernel_rfl)
                · exact hlow 26 (by kernel_rfl)
                · exact hlow 27 (by kernel_rfl)
                · exact hlow 28 (by kernel_rfl)
                · exact hlow 29 (by kernel_rfl)
                · exact hlow 30 (by kernel_rfl)
                · exact hlow 31 (by kernel_rfl)
                · exact hval 0 _ 32 rfl rfl
                · exact hval 1 _ 33 rfl rfl
                · exact hval 2 _ 34 rfl rfl
                · exact hval 3 _ 35 rfl rfl
                · exact hval 4 _ 36 rfl rfl
                · exact hval 5 _ 37 rfl rfl
                · exact hval 6 _ 38 rfl rfl
                · exact hval 7 _ 39 rfl rfl
                · exact hval 8 _ 40 rfl rfl
                · exact hval 9 _ 41 rfl rfl
                · exact hval 10 _ 42 rfl rfl
                · exact hlow 43 (by kernel_rfl)
              subst ht
              clear hlow hval hsz
              obtain ⟨hbz, _, _, _, hS4⟩ := hS
              have hfin := (hS4 (hall 10 (by decide))).2
              rw [HFI.out] at hfin
              have HO4 := Lib.hid (And.intro hfin hbz)
              clear hS4 hbz hall hfin
              obtain ⟨g4, _, hx4, _⟩ := own_block2 HO4.out.1 (by omega)
              generalize x.2.2.2 = y4 at *
              obtain ⟨c4, hx4⟩ := hx4
              subst hx4
              go_wp2
              go_roundw
              case rel => exact ⟨i + 1, ⟨g4, 0, none⟩, c4, by omega, rfl, by go_num, own_lower HO4.out.1 HBW.out.size, HBW.out.trans (HO4.out.2.mono HBW.out.size)⟩
              case measure => simp [intOf]; omega
            · intro x L a w' kk op hLs ho hLi hLd hLn ⟨hS0, hS1, hS2, hS3, hS4⟩ hlow hdep hold
              have hkk : kk < 12 := (Array.getElem?_eq_some_iff.1 ho).1
              have l6 : a.tmps[6]?.getD undef = .int .i64 (i : Int) := by rw [← Array.getD_eq_getD_getElem?]; exact hlow 6 (by kernel_rfl)
              have l7 : a.tmps[7]?.getD undef = .int .i64 (k : Int) := by rw [← Array.getD_eq_getD_getElem?]; exact hlow 7 (by kernel_rfl)
              have D : ∀ j oj d, edgeB _ kk j = true → _ → _ → a.tmps[d]?.getD undef = _ := fun j oj d h1 h2 h3 => (Array.getD_eq_getD_getElem? ..).symm.trans (hdep j oj d h1 h2 h3)
              have K : ∀ {kk : Nat}, kk ≠ 3 → kk ≠ 5 → kk ≠ 6 → kk ≠ 10 → Below w1.heap.size w1 w' ∧ ((L.setIfInBounds kk true).getD 3 true = true → (L.setIfInBounds kk true).getD 6 true = false → w'.ownsRow w1.heap.size 3 1 x.1 k (ic (oI.take k))) ∧ ((L.setIfInBounds kk true).getD 5 true = true → (L.setIfInBounds kk true).getD 6 true = false → BlockIs w' x.2.1 3 #[.int .i64 (i : Int)]) ∧ ((L.setIfInBounds kk true).getD 6 true = true → (L.setIfInBounds kk true).getD 10 true = false → w'.ownsRow w1.heap.size 3 1 x.2.2.1 (k + 1) (ic (oI.take k ++ [(i : Int)]))) ∧ ((L.setIfInBounds kk true).getD 10 true = true → (L.setIfInBounds kk true).getD 6 true = true ∧ w'.ownsRow w1.heap.size 3 1 x.2.2.2 (i + 1) (ic (oI.take k ++ [(i : Int)] ++ oI.drop k))) := fun h3 h5 h6 h10 => ⟨hS0, by rw [set_ne h3, set_ne h6]; exact hS1, by rw [set_ne h5, set_ne h6]; exact hS2, by rw [set_ne h6, set_ne h10]; exact hS3, by rw [set_ne h10, set_ne h6]; exact hS4⟩
              rcases (by omega : kk = 0 ∨ kk = 1 ∨ kk = 2 ∨ kk = 3 ∨ kk = 4 ∨ kk = 5 ∨ kk = 6 ∨ kk = 7 ∨ kk = 8 ∨ kk = 9 ∨ kk = 10 ∨ kk = 11) with rfl | rfl | rfl | rfl | rfl | rfl | rfl | rfl | rfl | rfl | rfl | rfl
              · obtain rfl := Option.some.inj ho
                have l5 : a.tmps[5]?.getD undef = .slice (some ad) i cc := (Array.getD_eq_getD_getElem? ..).symm.trans (hold 11 _ 5 (by kernel_rfl) rfl rfl)
                exact ⟨rfl, .inl ⟨x, w', fun _ _ => rfl, by simp [execOp, Act.eval, l5, go_sem], K (by decide) (by decide) (by decide) (by decide)⟩⟩
              · obtain rfl := Option.some.inj ho
                exact ⟨rfl, .inl ⟨x, w', fun _ _ => rfl, by simp [execOp, Act.eval, l7, go_sem], K (by decide) (by decide) (by decide) (by decide)⟩⟩
              · obtain rfl := Option.some.inj ho
                have e32 : a.tmps[32]?.getD undef = .slice (some ad) i cc := D 0 _ 32 (by kernel_rfl) rfl rfl
                have e33 : a.tmps[33]?.getD undef = .int .i64 (k : Int) := D 1 _ 33 (by kernel_rfl) rfl rfl
                have x32 : a.eval (.tmp 32) = .slice (some ad) i cc := by simp [Act.eval, e32]
                have x33 : a.eval (.tmp 33) = .int .i64 (k : Int) := by simp [Act.eval, e33]
                have hsl : (Instr.sliceAt 24 (a.eval (.tmp 32)) none ((some (Operand.tmp 33)).map a.eval) none).run Tryd.prog w' = .ok (.slice (some ad) k cc) w' := by
                  rw [x32, Option.map_some, x33]; exact slice_h ad _ cc k w' (by omega)
                exact ⟨rfl, .inl ⟨x, w', fun _ _ => rfl, exec_slice rfl hsl, K (by decide) (by decide) (by decide) (by decide)⟩⟩
              · obtain rfl := Option.some.inj ho
                have e34 : a.tmps[34]?.getD undef = .slice (some ad) k cc := D 2 _ 34 (by kernel_rfl) rfl rfl
                refine ⟨rfl, .inr ⟨85, #[.slice (some ad) k cc], by simp [execOp, Act.eval, e34, go_sem], (own_part (k := k) (HRW.out.below hS0) (by omega) (by omega)).mono ?_⟩⟩
                rintro e w'' ⟨ad', c', rfl, hown, hb4⟩
                refine ⟨(.slice (some ad') k c', x.2), fun j hj => ?_, rfl, hS0.trans (hb4.mono hS0.size), (fun _ _ => own_lower hown hS0.size), (fun h h' => ?_), (fun h => ?_), fun h => ?_⟩
                · have n3 : j ≠ 3 := fun e => by subst e; rw [hLi] at hj; cases hj
                  exact but_o3 j n3
                · rw [set_ne (by decide)] at h h'; exact (hS2 h h').below hb4
                · rw [set_ne (by decide), hLn 6 (by kernel_rfl)] at h; cases h
                · rw [set_ne (by decide)] at h; have h9 := (hS4 h).1; rw [hLn 6 (by kernel_rfl)] at h9; cases h9
              · obtain rfl := Option.some.inj ho
                exact ⟨rfl, .inl ⟨x, w', fun _ _ => rfl, by simp [execOp, Act.eval, l6, go_sem], K (by decide) (by decide) (by decide) (by decide)⟩⟩
              · obtain rfl := Option.some.inj ho
                have e36 : a.tmps[36]?.getD undef = .int .i64 (i : Int) := D 4 _ 36 (by kernel_rfl) rfl rfl
                refine ⟨rfl, .inl ⟨(x.1, w'.heap.size, x.2.2), w'.alloc (.cells #[.int .i64 (i : Int)] 3), fun j hj => ?_, by simp [execOp, Act.eval, e36, go_sem], hS0.alloc hS0.size _, (fun h h' => ?_), (fun _ _ => BlockIs.new _ _ _), (fun h => ?_), fun h => ?_⟩⟩
                · have n5 : j ≠ 5 := fun e => by subst e; rw [hLi] at hj; cases hj
                  exact but_o5 j n5
                · rw [set_ne (by decide)] at h h'; exact (hS1 h h').alloc _
                · rw [set_ne (by decide), hLn 6 (by kernel_rfl)] at h; cases h
                · rw [set_ne (by decide)] at h; have h9 := (hS4 h).1; rw [hLn 6 (by kernel_rfl)] at h9; cases h9
              · obtain rfl := Option.some.inj ho
                have e35 : a.tmps[35]?.getD undef = x.1 := D 3 _ 35 (by kernel_rfl) rfl rfl
                have e37 : a.tmps[37]?.getD undef = .slice (some ⟨x.2.1, 0, none⟩) 1 1 := D 5 _ 37 (by kernel_rfl) rfl rfl
                have x35 : a.eval (.tmp 35) = x.1 := by simp [Act.eval, e35]
                have x37 : a.eval (.tmp 37) = .slice (some ⟨x.2.1, 0, none⟩) 1 1 := by simp [Act.eval, e37]
                have hown := hS1 (hLd 3 (by kernel_rfl)) hLi
                have hB8 := hS2 (hLd 5 (by kernel_rfl)) hLi
                have hsrc : ∀ j u, (ic [(i : Int)])[j]? = some u → w'.cell? ((⟨x.2.1, 0, none⟩ : Addr).add j) = some u := fun j u hu => by rw [Addr.add_lit, Nat.zero_add, hB8.cell, ← Array.getElem?_toList]; exact hu
                obtain ⟨v', w'', hrun, hown', hgrow, hnil⟩ := run_append_own (P := Tryd.prog) w' w1.heap.size 24 24 3 i0 (.int .i64 0) 1 8 Tryd.underlying24 hi hz0 hz1 hz2 rfl (by decide) x.1 k _ hown ⟨x.2.1, 0, none⟩ 1 1 (ic [(i : Int)]) rfl hsrc ic_one (by unfold maxLen; omega) (by omega) hS0.size
                have hbz : Below w1.heap.size w1 w'' := hS0.grown hgrow hS0.size (fun b hb => (hown.lt b hb).1)
                refine ⟨rfl, .inl ⟨(x.1, x.2.1, v', x.2.2.2), w'', fun j hj => ?_, exec_append rfl x35 x37 hrun, hbz, (fun _ h => ?_), (fun _ h => ?_), (fun _ _ => ?_), fun h => ?_⟩⟩
                · have n6 : j ≠ 6 := fun e => by subst e; rw [hLi] at hj; cases hj
                  exact but_o6 j n6
                · rw [set_eq (by rw [hLs]; decide)] at h; cases h
                · rw [set_eq (by rw [hLs]; decide)] at h; cases h
                · have hx : ic (oI.take k) ++ ic [(i : Int)] = ic (oI.take k ++ [(i : Int)]) := by unfold ic; simp
                  rw [hx] at hown'; exact hown'
                · rw [set_ne (by decide), hLn 10 (by kernel_rfl)] at h; cases h
              · obtain rfl := Option.some.inj ho
                have l5 : a.tmps[5]?.getD undef = .slice (some ad) i cc := (Array.getD_eq_getD_getElem? ..).symm.trans (hold 11 _ 5 (by kernel_rfl) rfl rfl)
                exact ⟨rfl, .inl ⟨x, w', fun _ _ => rfl, by simp [execOp, Act.eval, l5, go_sem], K (by decide) (by decide) (by decide) (by decide)⟩⟩
              · obtain rfl := Option.some.inj ho
                exact ⟨rfl, .inl ⟨x, w', fun _ _ => rfl, by simp [execOp, Act.eval, l7, go_sem], K (by decide) (by decide) (by decide) (by decide)⟩⟩
              · obtain rfl := Option.some.inj ho
                have e39 : a.tmps[39]?.getD undef = .slice (some ad) i cc := D 7 _ 39 (by kernel_rfl) rfl rfl
                have e40 : a.tmps[40]?.getD undef = .int .i64 (k : Int) := D 8 _ 40 (by kernel_rfl) rfl rfl
                have x39 : a.eval (.tmp 39) = .slice (some ad) i cc := by simp [Act.eval, e39]
                have x40 : a.eval (.tmp 40) = .int .i64 (k : Int) := by simp [Act.eval, e40]
                have hsl : (Instr.sliceAt 24 (a.eval (.tmp 39)) ((some (Operand.tmp 40)).map a.eval) none none).run Tryd.prog w' = .ok (.slice (some (tailAd ad k cc)) (i - k) (cc - k)) w' := by
                  rw [x39, Option.map_some, x40]; exact slice_l ad _ cc k w' (by omega)
                exact ⟨rfl, .inl ⟨x, w', fun _ _ => rfl, exec_slice rfl hsl, K (by decide) (by decide) (by decide) (by decide)⟩⟩
              · obtain rfl := Option.some.inj ho
                have e38 : a.tmps[38]?.getD undef = x.2.2.1 := D 6 _ 38 (by kernel_rfl) rfl rfl
                have e41 : a.tmps[41]?.getD undef = .slice (some (tailAd ad k cc)) (i - k) (cc - k) := D 9 _ 41 (by kernel_rfl) rfl rfl
                have x38 : a.eval (.tmp 38) = x.2.2.1 := by simp [Act.eval, e38]
                have x41 : a.eval (.tmp 41) = .slice (some (tailAd ad k cc)) (i - k) (cc - k) := by simp [Act.eval, e41]
                have t9 : L.getD 6 true = true := hLd 6 (by kernel_rfl)
                have hown := hS3 t9 hLi
                obtain ⟨v', w'', hrun, hown', hgrow, hnil⟩ := run_append_own (P := Tryd.prog) w' w1.heap.size 24 24 3 i0 (.int .i64 0) 1 8 Tryd.underlying24 hi hz0 hz1 hz2 rfl (by decide) x.2.2.1 (k + 1) _ hown (tailAd ad k cc) (i - k) (cc - k) (ic (oI.drop k)) (by rw [ic_len]; simp; omega) (tail_src (HRW.out.below hS0) (by omega)) ic_one (by unfold maxLen; omega) (by omega) hS0.size
                have hbz : Below w1.heap.size w1 w'' := hS0.grown hgrow hS0.size (fun b hb => (hown.lt b hb).1)
                refine ⟨rfl, .inl ⟨(x.1, x.2.1, x.2.2.1, v'), w'', fun j hj => ?_, exec_append rfl x38 x41 hrun, hbz, (fun _ h => ?_), (fun _ h => ?_), (fun _ h => ?_), fun _ => ?_⟩⟩
                · have n10 : j ≠ 10 := fun e => by subst e; rw [hLi] at hj; cases hj
                  have f11 : L.getD 11 true = false := hLn 11 (by kernel_rfl)
                  have n11 : j ≠ 11 := fun e => by subst e; rw [f11] at hj; cases hj
                  exact but_o10 j n10 n11
                · rw [set_ne (by decide), t9] at h; cases h
                · rw [set_ne (by decide), t9] at h; cases h
                · rw [set_eq (by rw [hLs]; decide)] at h; cases h
                · have hx : ic (oI.take k ++ [(i : Int)]) ++ ic (oI.drop k) = ic (oI.take k ++ [(i : Int)] ++ oI.drop k) := by unfold ic; simp
                  rw [hx, show k + 1 + (i - k) = i + 1 by omega] at hown'; exact ⟨by rw [set_ne (by decide)]; exact t9, hown'⟩
              · obtain rfl := Option.some.inj ho
                have e42 : a.tmps[42]?.getD undef = x.2.2.2 := D 10 _ 42 (by kernel_rfl) rfl rfl
                exact ⟨rfl, .inl ⟨x, w', fun _ _ => rfl, by simp [execOp, Act.eval, e42, go_sem], K (by decide) (by decide) (by decide) (by decide)⟩⟩
        · have HF := Lib.hid (HINS.out.trans (insN_at ob js i out k (by omega) HG.out (fun h => absurd h (by omega))))
          have hk1 : ¬ (k : Int) < i := by omega
          obtain ⟨w1, rfl⟩ : ∃ w1 : World, w1 = wr := ⟨_, rfl⟩
          have HRW := Lib.hid ((Row.of_own HO.out).below (HB.out))
          have HBW := Lib.hid (HW.out.trans ((HB.out).mono HW.out.size))
          have HFI : Hid (ic ((natI out).take k ++ [(i : Int)] ++ (natI out).drop k) = ic (natI (ruledTo ob js (i + 1)))) := by show _ = _; rw [HF.out]; unfold natI; simp
          have hoI : (natI out).length = out.length := by simp
          have hccs := (slice_some HO.out).2
          skip
          generalize natI out = oI at *
          have hoI1 : oI.length ≤ i := by omega
          have hoI2 : i ≤ oI.length := by omega
          clear hoI HF HG HINS
          go_wp2
          refine wp_region_detG (by kernel_rfl) (fun x L w' => Below w1.heap.size w1 w' ∧ (L.getD 3 true = true → L.getD 6 true = false → w'.ownsRow w1.heap.size 3 1 x.1 k (ic (oI.take k))) ∧ (L.getD 5 true = true → L.getD 6 true = false → BlockIs w' x.2.1 3 #[.int .i64 (i : Int)]) ∧ (L.getD 6 true = true → L.getD 10 true = false → w'.ownsRow w1.heap.size 3 1 x.2.2.1 (k + 1) (ic (oI.take k ++ [(i : Int)]))) ∧ (L.getD 10 true = true → L.getD 6 true = true ∧ w'.ownsRow w1.heap.size 3 1 x.2.2.2 (i + 1) (ic (oI.take k ++ [(i : Int)] ++ oI.drop k))))
            (fun x kk => #[.slice (some ad) i cc, .int .i64 (k : Int), .slice (some ad) k cc, x.1, .int .i64 (i : Int), .slice (some ⟨x.2.1, 0, none⟩) 1 1, x.2.2.1, .slice (some ad) i cc, .int .i64 (k : Int), .slice (some (tailAd ad k cc)) (i - k) (cc - k), x.2.2.2, x.2.2.2].getD kk undef) (undef, 0, undef, undef) (by kernel_rfl) (by kernel_rfl) ⟨(Below.refl _ _).drew, (fun h => by cases h), (fun h => by cases h), (fun h => by cases h), fun h => by cases h⟩ ?_ ?_
          · intro x L tm w' hall hS hsz hlow hval
            have ht : tm = #[.slice A js.length c, .int .i64 ob, undef, undef, .slice none 0 0, x.2.2.2, .int .i64 (i : Int), .int .i64 (k : Int), .slice (some ⟨w.heap.size, 0, none⟩) 0 0, .int .i64 (i : Int), .slice A js.length c, .int .i64 (js.length : Int), .bool true, u13, u14, .int .i64 (k : Int), .slice (some ad) i cc, .int .i64 (i : Int), .bool false, .bool false, undef, undef, undef, undef, undef, undef, undef, undef, undef, .bool false, u30, u31, .slice (some ad) i cc, .int .i64 (k : Int), .slice (some ad) k cc, x.1, .int .i64 (i : Int), .slice (some ⟨x.2.1, 0, none⟩) 1 1, x.2.2.1, .slice (some ad) i cc, .int .i64 (k : Int), .slice (some (tailAd ad k cc)) (i - k) (cc - k), x.2.2.2, undef] := by
              refine arr_of _ _ hsz fun t ht => ?_
              have ht' : t < 44 := ht
              rcases (by omega : t = 0 ∨ t = 1 ∨ t = 2 ∨ t = 3 ∨ t = 4 ∨ t = 5 ∨ t = 6 ∨ t = 7 ∨ t = 8 ∨ t = 9 ∨ t = 10 ∨ t = 11 ∨ t = 12 ∨ t = 13 ∨ t = 14 ∨ t = 15 ∨ t = 16 ∨ t = 17 ∨ t = 18 ∨ t = 19 ∨ t = 20 ∨ t = 21 ∨ t = 22 ∨ t = 23 ∨ t = 24 ∨ t = 25 ∨ t = 26 ∨ t = 27 ∨ t = 28 ∨ t = 29 ∨ t = 30 ∨ t = 31 ∨ t = 32 ∨ t = 33 ∨ t = 34 ∨ t = 35 ∨ t = 36 ∨ t = 37 ∨ t = 38 ∨ t = 39 ∨ t = 40 ∨ t = 41 ∨ t = 42 ∨ t = 43) with rfl | rfl | rfl | rfl | rfl | rfl | rfl | rfl | rfl | rfl | rfl | rfl | rfl | rfl | rfl | rfl | rfl | rfl | rfl | rfl | rfl | rfl | rfl | rfl | rfl | rfl | rfl | rfl | rfl | rfl | rfl | rfl | rfl | rfl | rfl | rfl | rfl | rfl | rfl | rfl | rfl | rfl | rfl | rfl
              · exact hlow 0 (by kernel_rfl)
              · exact hlow 1 (by kernel_rfl)
              · exact hlow 2 (by kernel_rfl)
              · exact hlow 3 (by kernel_rfl)
              · exact hlow 4 (by kernel_rfl)
              · exact hval 11 _ 5 rfl rfl
              · exact hlow 6 (by kernel_rfl)
              · exact hlow 7 (by kernel_rfl)
              · exact hlow 8 (by kernel_rfl)
              · exact hlow 9 (by kernel_rfl)
              · exact hlow 10 (by kernel_rfl)
              · exact hlow 11 (by kernel_rfl)
              · exact hlow 12 (by kernel_rfl)
              · exact hlow 13 (by kernel_rfl)
              · exact hlow 14 (by kernel_rfl)
              · exact hlow 15 (by kernel_rfl)
              · exact hlow 16 (by kernel_rfl)
              · exact hlow 17 (by kernel_rfl)
              · exact hlow 18 (by kernel_rfl)
              · exact hlow 19 (by kernel_rfl)
              · exact hlow 20 (by kernel_rfl)
              · exact hlow 21 (by kernel_rfl)
              · exact hlow 22 (by kernel_rfl)
              · exact hlow 23 (by kernel_rfl)
              · exact hlow 24 (by kernel_rfl)
              · exact hlow 25 (by kernel_rfl)
              · exact hlow 26 (by kernel_rfl)
              · exact hlow 27 (by kernel_rfl)
              · exact hlow 28 (by kernel_rfl)
              · exact hlow 29 (by kernel_rfl)
              · exact hlow 30 (by kernel_rfl)
              · exact hlow 31 (by kernel_rfl)
              · exact hval 0 _ 32 rfl rfl
              · exact hval 1 _ 33 rfl rfl
              · exact hval 2 _ 34 rfl rfl
              · exact hval 3 _ 35 rfl rfl
              · exact hval 4 _ 36 rfl rfl
              · exact hval 5 _ 37 rfl rfl
              · exact hval 6 _ 38 rfl rfl
              · exact hval 7 _ 39 rfl rfl
              · exact hval 8 _ 40 rfl rfl
              · exact hval 9 _ 41 rfl rfl
              · exact hval 10 _ 42 rfl rfl
              · exact hlow 43 (by kernel_rfl)
            subst ht
            clear hlow hval hsz
            obtain ⟨hbz, _, _, _, hS4⟩ := hS
            have hfin := (hS4 (hall 10 (by decide))).2
            rw [HFI.out] at hfin
            have HO4 := Lib.hid (And.intro hfin hbz)
            clear hS4 hbz hall hfin
            obtain ⟨g4, _, hx4, _⟩ := own_block2 HO4.out.1 (by omega)
            generalize x.2.2.2 = y4 at *
            obtain ⟨c4, hx4⟩ := hx4
            subst hx4
            go_wp2
            go_roundw
            case rel => exact ⟨i + 1, ⟨g4, 0, none⟩, c4, by omega, rfl, by go_num, own_lower HO4.out.1 HBW.out.size, HBW.out.trans (HO4.out.2.mono HBW.out.size)⟩
            case measure => simp [intOf]; omega
          · intro x L a w' kk op hLs ho hLi hLd hLn ⟨hS0, hS1, hS2, hS3, hS4⟩ hlow hdep hold
            have hkk : kk < 12 := (Array.getElem?_eq_some_iff.1 ho).1
            have l6 : a.tmps[6]?.getD undef = .int .i64 (i : Int) := by rw [← Array.getD_eq_getD_getElem?]; exact hlow 6 (by kernel_rfl)
            have l7 : a.tmps[7]?.getD undef = .int .i64 (k : Int) := by rw [← Array.getD_eq_getD_getElem?]; exact hlow 7 (by kernel_rfl)
            have D : ∀ j oj d, edgeB _ kk j = true → _ → _ → a.tmps[d]?.getD undef = _ := fun j oj d h1 h2 h3 => (Array.getD_eq_getD_getElem? ..).symm.trans (hdep j oj d h1 h2 h3)
            have K : ∀ {kk : Nat}, kk ≠ 3 → kk ≠ 5 → kk ≠ 6 → kk ≠ 10 → Below w1.heap.size w1 w' ∧ ((L.setIfInBounds kk true).getD 3 true = true → (L.setIfInBounds kk true).getD 6 true = false → w'.ownsRow w1.heap.size 3 1 x.1 k (ic (oI.take k))) ∧ ((L.setIfInBounds kk true).getD 5 true = true → (L.setIfInBounds kk true).getD 6 true = false → BlockIs w' x.2.1 3 #[.int .i64 (i : Int)]) ∧ ((L.setIfInBounds kk true).getD 6 true = true → (L.setIfInBounds kk true).getD 10 true = false → w'.ownsRow w1.heap.size 3 1 x.2.2.1 (k + 1) (ic (oI.take k ++ [(i : Int)]))) ∧ ((L.setIfInBounds kk true).getD 10 true = true → (L.setIfInBounds kk true).getD 6 true = true ∧ w'.ownsRow w1.heap.size 3 1 x.2.2.2 (i + 1) (ic (oI.take k ++ [(i : Int)] ++ oI.drop k))) := fun h3 h5 h6 h10 => ⟨hS0, by rw [set_ne h3, set_ne h6]; exact hS1, by rw [set_ne h5, set_ne h6]; exact hS2, by rw [set_ne h6, set_ne h10]; exact hS3, by rw [set_ne h10, set_ne h6]; exact hS4⟩
            rcases (by omega : kk = 0 ∨ kk = 1 ∨ kk = 2 ∨ kk = 3 ∨ kk = 4 ∨ kk = 5 ∨ kk = 6 ∨ kk = 7 ∨ kk = 8 ∨ kk = 9 ∨ kk = 10 ∨ kk = 11) with rfl | rfl | rfl | rfl | rfl | rfl | rfl | rfl | rfl | rfl | rfl | rfl
            · obtain rfl := Option.some.inj ho
              have l5 : a.tmps[5]?.getD undef = .slice (some ad) i cc := (Array.getD_eq_getD_getElem? ..).symm.trans (hold 11 _ 5 (by kernel_rfl) rfl rfl)
              exact ⟨rfl, .inl ⟨x, w', fun _ _ => rfl, by simp [execOp, Act.eval, l5, go_sem], K (by decide) (by decide) (by decide) (by decide)⟩⟩
            · obtain rfl := Option.some.inj ho
              exact ⟨rfl, .inl ⟨x, w', fun _ _ => rfl, by simp [execOp, Act.eval, l7, go_sem], K (by decide) (by decide) (by decide) (by decide)⟩⟩
            · obtain rfl := Option.some.inj ho
              have e32 : a.tmps[32]?.getD undef = .slice (some ad) i cc := D 0 _ 32 (by kernel_rfl) rfl rfl
              have e33 : a.tmps[33]?.getD undef = .int .i64 (k : Int) := D 1 _ 33 (by kernel_rfl) rfl rfl
              have x32 : a.eval (.tmp 32) = .slice (some ad) i cc := by simp [Act.eval, e32]
              have x33 : a.eval (.tmp 33) = .int .i64 (k : Int) := by simp [Act.eval, e33]
              have hsl : (Instr.sliceAt 24 (a.eval (.tmp 32)) none ((some (Operand.tmp 33)).map a.eval) none).run Tryd.prog w' = .ok (.slice (some ad) k cc) w' := by
                rw [x32, Option.map_some, x33]; exact slice_h ad _ cc k w' (by omega)
              exact ⟨rfl, .inl ⟨x, w', fun _ _ => rfl, exec_slice rfl hsl, K (by decide) (by decide) (by decide) (by decide)⟩⟩
            · obtain rfl := Option.some.inj ho
              have e34 : a.tmps[34]?.getD undef = .slice (some ad) k cc := D 2 _ 34 (by kernel_rfl) rfl rfl
              refine ⟨rfl, .inr ⟨85, #[.slice (some ad) k cc], by simp [execOp, Act.eval, e34, go_sem], (own_part (k := k) (HRW.out.below hS0) (by omega) (by omega)).mono ?_⟩⟩
              rintro e w'' ⟨ad', c', rfl, hown, hb4⟩
              refine ⟨(.slice (some ad') k c', x.2), fun j hj => ?_, rfl, hS0.trans (hb4.mono hS0.size), (fun _ _ => own_lower hown hS0.size), (fun h h' => ?_), (fun h => ?_), fun h => ?_⟩
              · have n3 : j ≠ 3 := fun e => by subst e; rw [hLi] at hj; cases hj
                exact but_o3 j n3
              · rw [set_ne (by decide)] at h h'; exact (hS2 h h').below hb4
              · rw [set_ne (by decide), hLn 6 (by kernel_rfl)] at h; cases h
              · rw [set_ne (by decide)] at h; have h9 := (hS4 h).1; rw [hLn 6 (by kernel_rfl)] at h9; cases h9
            · obtain rfl := Option.some.inj ho
              exact ⟨rfl, .inl ⟨x, w', fun _ _ => rfl, by simp [execOp, Act.eval, l6, go_sem], K (by decide) (by decide) (by decide) (by decide)⟩⟩
            · obtain rfl := Option.some.inj ho
              have e36 : a.tmps[36]?.getD undef = .int .i64 (i : Int) := D 4 _ 36 (by kernel_rfl) rfl rfl
              refine ⟨rfl, .inl ⟨(x.1, w'.heap.size, x.2.2), w'.alloc (.cells #[.int .i64 (i : Int)] 3), fun j hj => ?_, by simp [execOp, Act.eval, e36, go_sem], hS0.alloc hS0.size _, (fun h h' => ?_), (fun _ _ => BlockIs.new _ _ _), (fun h => ?_), fun h => ?_⟩⟩
              · have n5 : j ≠ 5 := fun e => by subst e; rw [hLi] at hj; cases hj
                exact but_o5 j n5
              · rw [set_ne (by decide)] at h h'; exact (hS1 h h').alloc _
              · rw [set_ne (by decide), hLn 6 (by kernel_rfl)] at h; cases h
              · rw [set_ne (by decide)] at h; have h9 := (hS4 h).1; rw [hLn 6 (by kernel_rfl)] at h9; cases h9
            · obtain rfl := Option.some.inj ho
              have e35 : a.tmps[35]?.getD undef = x.1 := D 3 _ 35 (by kernel_rfl) rfl rfl
              have e37 : a.tmps[37]?.getD undef = .slice (some ⟨x.2.1, 0, none⟩) 1 1 := D 5 _ 37 (by kernel_rfl) rfl rfl
              have x35 : a.eval (.tmp 35) = x.1 := by simp [Act.eval, e35]
              have x37 : a.eval (.tmp 37) = .slice (some ⟨x.2.1, 0, none⟩) 1 1 := by simp [Act.eval, e37]
              have hown := hS1 (hLd 3 (by kernel_rfl)) hLi
              have hB8 := hS2 (hLd 5 (by kernel_rfl)) hLi
              have hsrc : ∀ j u, (ic [(i : Int)])[j]? = some u → w'.cell? ((⟨x.2.1, 0, none⟩ : Addr).add j) = some u := fun j u hu => by rw [Addr.add_lit, Nat.zero_add, hB8.cell, ← Array.getElem?_toList]; exact hu
              obtain ⟨v', w'', hrun, hown', hgrow, hnil⟩ := run_append_own (P := Tryd.prog) w' w1.heap.size 24 24 3 i0 (.int .i64 0) 1 8 Tryd.underlying24 hi hz0 hz1 hz2 rfl (by decide) x.1 k _ hown ⟨x.2.1, 0, none⟩ 1 1 (ic [(i : Int)]) rfl hsrc ic_one (by unfold maxLen; omega) (by omega) hS0.size
              have hbz : Below w1.heap.size w1 w'' := hS0.grown hgrow hS0.size (fun b hb => (hown.lt b hb).1)
              refine ⟨rfl, .inl ⟨(x.1, x.2.1, v', x.2.2.2), w'', fun j hj => ?_, exec_append rfl x35 x37 hrun, hbz, (fun _ h => ?_), (fun _ h => ?_), (fun _ _ => ?_), fun h => ?_⟩⟩
              · have n6 : j ≠ 6 := fun e => by subst e; rw [hLi] at hj; cases hj
                exact but_o6 j n6
              · rw [set_eq (by rw [hLs]; decide)] at h; cases h
              · rw [set_eq (by rw [hLs]; decide)] at h; cases h
              · have hx : ic (oI.take k) ++ ic [(i : Int)] = ic (oI.take k ++ [(i : Int)]) := by unfold ic; simp
                rw [hx] at hown'; exact hown'
              · rw [set_ne (by decide), hLn 10 (by kernel_rfl)] at h; cases h
            · obtain rfl := Option.some.inj ho
              have l5 : a.tmps[5]?.getD undef = .slice (some ad) i cc := (Array.getD_eq_getD_getElem? ..).symm.trans (hold 11 _ 5 (by kernel_rfl) rfl rfl)
              exact ⟨rfl, .inl ⟨x, w', fun _ _ => rfl, by simp [execOp, Act.eval, l5, go_sem], K (by decide) (by decide) (by decide) (by decide)⟩⟩
            · obtain rfl := Option.some.inj ho
              exact ⟨rfl, .inl ⟨x, w', fun _ _ => rfl, by simp [execOp, Act.eval, l7, go_sem], K (by decide) (by decide) (by decide) (by decide)⟩⟩
            · obtain rfl := Option.some.inj ho
              have e39 : a.tmps[39]?.getD undef = .slice (some ad) i cc := D 7 _ 39 (by kernel_rfl) rfl rfl
              have e40 : a.tmps[40]?.getD undef = .int .i64 (k : Int) := D 8 _ 40 (by kernel_rfl) rfl rfl
              have x39 : a.eval (.tmp 39) = .slice (some ad) i cc := by simp [Act.eval, e39]
              have x40 : a.eval (.tmp 40) = .int .i64 (k : Int) := by simp [Act.eval, e40]
              have hsl : (Instr.sliceAt 24 (a.eval (.tmp 39)) ((some (Operand.tmp 40)).map a.eval) none none).run Tryd.prog w' = .ok (.slice (some (tailAd ad k cc)) (i - k) (cc - k)) w' := by
                rw [x39, Option.map_some, x40]; exact slice_l ad _ cc k w' (by omega)
              exact ⟨rfl, .inl ⟨x, w', fun _ _ => rfl, exec_slice rfl hsl, K (by decide) (by decide) (by decide) (by decide)⟩⟩
            · obtain rfl := Option.some.inj ho
              have e38 : a.tmps[38]?.getD undef = x.2.2.1 := D 6 _ 38 (by kernel_rfl) rfl rfl
              have e41 : a.tmps[41]?.getD undef = .slice (some (tailAd ad k cc)) (i - k) (cc - k) := D 9 _ 41 (by kernel_rfl) rfl rfl
              have x38 : a.eval (.tmp 38) = x.2.2.1 := by simp [Act.eval, e38]
              have x41 : a.eval (.tmp 41) = .slice (some (tailAd ad k cc)) (i - k) (cc - k) := by simp [Act.eval, e41]
              have t9 : L.getD 6 true = true := hLd 6 (by kernel_rfl)
              have hown := hS3 t9 hLi
              obtain ⟨v', w'', hrun, hown', hgrow, hnil⟩ := run_append_own (P := Tryd.prog) w' w1.heap.size 24 24 3 i0 (.int .i64 0) 1 8 Tryd.underlying24 hi hz0 hz1 hz2 rfl (by decide) x.2.2.1 (k + 1) _ hown (tailAd ad k cc) (i - k) (cc - k) (ic (oI.drop k)) (by rw [ic_len]; simp; omega) (tail_src (HRW.out.below hS0) (by omega)) ic_one (by unfold maxLen; omega) (by omega) hS0.size
              have hbz : Below w1.heap.size w1 w'' := hS0.grown hgrow hS0.size (fun b hb => (hown.lt b hb).1)
              refine ⟨rfl, .inl ⟨(x.1, x.2.1, x.2.2.1, v'), w'', fun j hj => ?_, exec_append rfl x38 x41 hrun, hbz, (fun _ h => ?_), (fun _ h => ?_), (fun _ h => ?_), fun _ => ?_⟩⟩
              · have n10 : j ≠ 10 := fun e => by subst e; rw [hLi] at hj; cases hj
                have f11 : L.getD 11 true = false := hLn 11 (by kernel_rfl)
                have n11 : j ≠ 11 := fun e => by subst e; rw [f11] at hj; cases hj
                exact but_o10 j n10 n11
              · rw [set_ne (by decide), t9] at h; cases h
              · rw [set_ne (by decide), t9] at h; cases h
              · rw [set_eq (by rw [hLs]; decide)] at h; cases h
              · have hx : ic (oI.take k ++ [(i : Int)]) ++ ic (oI.drop k) = ic (oI.take k ++ [(i : Int)] ++ oI.drop k) := by unfold ic; simp
                rw [hx, show k + 1 + (i - k) = i + 1 by omega] at hown'; exact ⟨by rw [set_ne (by decide)]; exact t9, hown'⟩
            · obtain rfl := Option.some.inj ho
              have e42 : a.tmps[42]?.getD undef = x.2.2.2 := D 10 _ 42 (by kernel_rfl) rfl rfl
              exact ⟨rfl, .inl ⟨x, w', fun _ _ => rfl, by simp [execOp, Act.eval, e42, go_sem], K (by decide) (by decide) (by decide) (by decide)⟩⟩
    · obtain rfl : i = js.length := by omega
      go_wp2
      go_ret
      exact ⟨_, rfl, HO.out, HW.out⟩
end
end Go.Proofs.YtejgpecmjfgfbaaDoor

namespace Go.Proofs.YtejgpecmjfgfbaaDoor
open Go.RowKit
def ruledR (js : List J) (o : Int) : List Int × Bool := if ruledB js o then (natI (ruledL o js), true) else ([], false)
theorem ruledR_len (js : List J) (o : Int) : (ruledR js o).1.length ≤ 8 := by
  unfold ruledR
  split
  · rename_i h
    have := (good_out (ruled_good h)).1
    simp only [List.length_map]
    rw [ruledL_len]; exact this
  · simp
section
variable (A : Option Addr) (c : Nat) (js : List J) (o : Int) (w : World) (hr : Row w A (jc js)) (hn : js.length ≤ 10000000)
include hr hn
set_option maxRecDepth 100000 in
theorem impl_RuledOrder : Calls Tryd.prog 61 #[.slice A js.length c, .int .i64 o] w (RetIB w (ruledR js o)) := by
  have HR : Hid (ruledR js o = if ruledB js o then (natI (ruledL o js), true) else ([], false)) := rfl
  have HL := Lib.hid (ruledL_len o js)
  go_enter Tryd.func61, Tryd.ntmps61
  go_wp2_with fail
  refine (ruleOf_any A c js o w hr hn).mono ?_
  rintro e w1 ⟨hb1, ⟨hu, rfl⟩ | ⟨hu, b, rfl, hB, hbs⟩⟩
  · rw [hu] at HR
    go_wp2
    go_ret2
    exact ret_empty HR.out hb1 _ rfl
  · rw [hu] at HR
    have HC := Lib.hid (ruledOrder_any (b := b) (A := A) (c := c) (isRule_of hu) (ruled_good hu) w1 hB (hr.below hb1))
    have HB := Lib.hid hb1
    clear hB hu hb1
    unfold fRule at *
    generalize fRuleN o = f at *
    go_wp2_with fail
    refine HC.out.mono ?_
    rintro e w2 ⟨g, rfl, hown, hb2⟩
    rw [HL.out] at hown ⊢
    have HO := Lib.hid (And.intro hown (HB.out.trans (hb2.mono HB.out.size)))
    clear hown hb2
    go_wp2
    go_ret2
    refine ⟨some ⟨g, 0, none⟩, js.length, ?_, ?_, HO.out.2⟩
    · rw [HR.out]; simp only [if_true, List.length_map]; rw [HL.out]; rfl
    · rw [HR.out]; simp only [if_true, List.length_map]; rw [HL.out]; exact Seg.of_own (own_lower HO.out.1 HB.out.size)
end
end Go.Proofs.YtejgpecmjfgfbaaDoor

namespace Go.Proofs.YtejgpecmjfgfbaaDoor
set_option linter.unusedSimpArgs false
set_option linter.unusedVariables false
open Go.RowKit
def teS (js : List J) (ss : List Sp) : Nat → Int
  | 0 => 0
  | k + 1 => teS js ss k + ((tkAt ss k).t + jAt js k)
theorem teS_bd {js : List J} {ss : List Sp} {m : Int} (hok : ∀ j ∈ js, okJ j = true) (ht : tksB js.length m ss = true) : ∀ k, k ≤ js.length → 0 ≤ teS js ss k ∧ teS js ss k ≤ 550 * (k : Int)
  | 0, _ => by simp [teS]
  | k + 1, hk => by
    have ih := teS_bd hok ht k (by omega)
    have h1 := tkOk_out ((tks_out ht).2 k (by omega))
    have h2 := jAt_bd hok (show k < js.length by omega)
    show 0 ≤ teS js ss k + ((tkAt ss k).t + jAt js k) ∧ teS js ss k + ((tkAt ss k).t + jAt js k) ≤ _
    omega
def teR (js : List J) (m : Int) : Int × Bool := if goodB js m [] then (teS js (listL js (tabB js.length []) (ruledL 2 js) m.toNat) js.length, true) else (0, false)
structure Eq2 where
  gP : Nat
  gE : Nat
section
variable (A : Option Addr) (c : Nat) (js : List J) (m : Int) (w : World) (hr : Row w A (jc js)) (hn : js.length ≤ 10000000)
include hr hn
set_option maxRecDepth 100000 in
set_option maxHeartbeats 2000000 in
theorem spec_TotalEnd : Calls Tryd.prog 33 #[.slice A js.length c, .int .i64 m] w (RetNB w (teR js m)) := by
  have HRR : Hid (teR js m = if goodB js m [] then (teS js (listL js (tabB js.length []) (ruledL 2 js) m.toNat) js.length, true) else (0, false)) := rfl
  have hb0 := (Below.refl w.heap.size w).alloc (Nat.le_refl _) (.cells #[] 50)
  have HG := Lib.hid (l7Good_any A (some ⟨w.heap.size, 0, none⟩) c 0 js m [] _ (hr.below hb0) (Row.nil _) hn (Nat.zero_le _))
  have HR := Lib.hid hr
  have HB0 := Lib.hid hb0
  clear hr hb0
  cases hg : goodB js m []
  · rw [hg] at HRR HG
    clear hg
    go_enter Tryd.func33, Tryd.ntmps33
    go_wp2_with fail
    refine HG.out.mono ?_
    rintro e w1 ⟨rfl, hb1⟩
    have HB := Lib.hid (HB0.out.trans (hb1.mono HB0.out.size))
    clear hb1
    go_wp2
    go_ret2
    exact ⟨by rw [HRR.out]; rfl, HB.out⟩
  · rw [hg] at HRR HG
    rw [if_pos rfl] at HRR
    obtain ⟨hok, h8, hirr, hE, hpl, _, hmm⟩ := good_parts hg
    obtain ⟨m1, m4⟩ := inB_out hmm
    obtain ⟨mm, rfl⟩ : ∃ mm : Nat, m = (mm : Int) := ⟨m.toNat, by omega⟩
    have hp : (ruledL 2 js).Perm (List.range js.length) := ruledL_perm 2 js
    have hol : (ruledL 2 js).length = js.length := ruledL_len 2 js
    have HOR := Lib.hid (fun W (hb : Below w.heap.size w W) => l3Order_any A c js 2 W (HR.out.below hb) (plain_good hpl) (by decide))
    have hLI := (fun D b W (hb : Below w.heap.size w W) (ho : Row W D (ic (natI (ruledL 2 js)))) => l7List_any A (some ⟨w.heap.size, 0, none⟩) D c 0 b js mm [] (ruledL 2 js) W (HR.out.below hb) (Row.nil _) ho (Nat.zero_le _) hok h8 hirr hE ⟨by omega, by omega⟩ hp)
    rw [hol] at hLI
    have HLI := Lib.hid hLI
    have HTK := Lib.hid (list_ok (E := []) hok h8 hp hirr (show 0 < mm by omega))
    obtain ⟨RES, hRES⟩ : ∃ RES, listL js (tabB js.length []) (ruledL 2 js) mm = RES := ⟨_, rfl⟩
    rw [show ((mm : Int)).toNat = mm from rfl, hRES] at HRR
    rw [hRES] at HLI HTK
    have HOK := Lib.hid hok
    have HBD := Lib.hid (fun k hk => teS_bd hok HTK.out k hk)
    clear hg hRES hok hirr hE hmm hpl hLI hp hol
    go_enter Tryd.func33, Tryd.ntmps33
    go_wp2_with fail
    refine HG.out.mono ?_
    rintro e w1 ⟨rfl, hb1⟩
    have hbA := HB0.out.trans (hb1.mono HB0.out.size)
    have HT1 := Lib.hid (HOR.out w1 hbA)
    have HB1 := Lib.hid hbA
    clear hb1 hbA HG HOR
    go_wp2_with fail
    refine HT1.out.mono ?_
    rintro e w2 ⟨v, rfl, ho2, hb2⟩
    obtain ⟨Av, cv, rfl, _, hrow⟩ := own_slice ho2
    have hbB := HB1.out.trans (hb2.mono HB1.out.size)
    have HF1 := Lib.hid (HLI.out Av cv w2 hbB hrow)
    have HB2 := Lib.hid hbB
    clear hb2 ho2 hrow HT1 HB1 hbB HLI
    go_wp2_with fail
    refine HF1.out.mono ?_
    rintro e w3 ⟨g, rfl, hgs, hP, hb3⟩
    have HB3 := Lib.hid (HB2.out.trans (hb3.mono HB2.out.size))
    have hRP := rowSp hP
    obtain ⟨pd, hpd⟩ : ∃ pd : Addr, (⟨g, 0, none⟩ : Addr) = pd := ⟨_, rfl⟩
    rw [hpd] at hRP ⊢
    have HP := Lib.hid hRP
    clear hb3 hgs hP hRP HF1 HB2 hpd
    go_wp2
    go_loopw [8, 9] (fun sv iv wr => ∃ k : Nat, k ≤ js.length ∧ iv = .int .i64 (k : Int) ∧ sv = .int .i64 (teS js RES k) ∧ Hid (Below w3.heap.size w3 wr)) (fun _ iv _ => js.length - (intOf iv).toNat)
    case atStart => exact ⟨0, Nat.zero_le _, rfl, rfl, Below.refl _ _⟩
    case round =>
      obtain ⟨k, hk, rfl, rfl, hb⟩ := hrel
      by_cases hlt : k < js.length
      · obtain ⟨ad, hA, _, hc, hx1, hx2, hx3⟩ := (HR.out.below (HB3.out.trans (hb.out.mono HB3.out.size))).job hlt
        subst hA
        have hkr : k < RES.length := by rw [(tks_out HTK.out).1]; exact hlt
        obtain ⟨pd', hA', _, hp0, hp1, hp2⟩ := (HP.out.below hb.out).span hkr
        injection hA' with hA'
        subst hA'
        have h1 := tkOk_out ((tks_out HTK.out).2 k hlt)
        have h2 := jAt_bd HOK.out hlt
        have h3 := HBD.out k hk
        have hg1 : tkAt RES k = RES[k] := getD_at RES sp0 hkr
        have hg2 : jAt js k = js[k].t := congrArg J.t (getD_at js j0 hlt)
        have HST : Hid (teS js RES (k + 1) = teS js RES k + (RES[k].t + js[k].t)) := by show _ = _; rw [← hg1, ← hg2]; rfl
        rw [hg1] at h1
        rw [hg2] at h2
        have hk0 : (0 : Int) ≤ k := by omega
        have hk1 : (k : Int) < js.length := by omega
        clear hx1 hx2 hx3 hp0 hp1 hg1 hg2
        generalize teS js RES k = sk at *
        generalize RES[k] = s1 at *
        generalize js[k].t = tk at *
        obtain ⟨x1, f1, t1⟩ := s1
        dsimp only at hp2 h1 HST
        obtain ⟨_, _, _, q0, q1⟩ := h1
        have hw1 : IntKind.i64.wrap (sk + t1) = sk + t1 := IntWalk.i64_in _ (by omega)
        have hw2 : IntKind.i64.wrap (sk + t1 + tk) = sk + t1 + tk := IntWalk.i64_in _ (by omega)
        go_wp2
        go_quiet (fail)
        go_wp2
        go_roundw
        case rel => exact ⟨k + 1, by omega, by go_num, by rw [HST.out, Int.add_assoc], below_drewN hb.out _⟩
        case measure => simp [intOf]; omega
      · obtain rfl : k = js.length := by omega
        go_wp2
        go_ret2
        exact ⟨by rw [HRR.out]; rfl, HB3.out.trans (hb.out.mono HB3.out.size)⟩
set_option maxRecDepth 100000 in
set_option maxHeartbeats 2000000 in
theorem impl_TotalEnd (hT : TzTab w) : Calls Tryd.prog 34 #[.slice A js.length c, .int .i64 m] w (RetNB w (teR js m)) := by
  have HRR : Hid (teR js m = if goodB js m [] then (teS js (listL js (tabB js.length []) (ruledL 2 js) m.toNat) js.length, true) else (0, false)) := rfl
  have H := Lib.hid (workloadOn_any A none c 0 js m [] w hr (Row.nil _) hn (Nat.zero_le _) hT)
  have HON := goodB_on js m []
  have HR := Lib.hid hr
  have HRU := Lib.hid (fun W (hb : Below w.heap.size w W) => impl_RuledOrder A c js 2 W (hr.below hb) hn)
  clear hr hT
  cases hg : goodB js m []
  · rw [hg] at HRR HON
    rw [← HON] at H
    clear hg HON
    go_enter Tryd.func34, Tryd.ntmps34
    go_wp2_with fail
    refine H.out.mono ?_
    rintro e w1 ⟨hb1, ⟨hw, _, _⟩ | ⟨_, rfl⟩⟩
    · cases hw
    have hb2 := hb1.alloc hb1.size (.cells wlZ 72)
    have HC := Lib.hid (HRU.out _ hb2)
    have HB := Lib.hid hb2
    clear hb1 hb2 HRU
    unfold wlZ
    unfold wlZ at HB HC
    go_wp2_with fail
    refine HC.out.mono ?_
    rintro e w2 ⟨A2, c2, rfl, _, hb3⟩
    have HF := Lib.hid (HB.out.trans (hb3.mono HB.out.size))
    clear hb3
    generalize (ruledR js 2).2 = okr at *
    generalize (ruledR js 2).1.length = lr at *
    cases okr
    · go_wp2
      go_ret2
      exact ⟨by rw [HRR.out]; rfl, HF.out⟩
    · go_wp2
      go_ret2
      exact ⟨by rw [HRR.out]; rfl, HF.out⟩
  · rw [hg] at HRR HON
    rw [if_pos rfl] at HRR
    rw [← HON] at H
    obtain ⟨hok, h8, hirr, hE, hpl, _, hmm⟩ := good_parts hg
    obtain ⟨m1, m4⟩ := inB_out hmm
    obtain ⟨mm, rfl⟩ : ∃ mm : Nat, m = (mm : Int) := ⟨m.toNat, by omega⟩
    have hp : (ruledL 2 js).Perm (List.range js.length) := ruledL_perm 2 js
    have hol : (ruledL 2 js).length = js.length := ruledL_len 2 js
    have hrr : ruledR js 2 = (natI (ruledL 2 js), true) := by
      have h1 : ruledB js 2 = true := by
        unfold plainL at hpl
        rw [Bool.and_eq_true] at hpl
        unfold ruledB
        rw [hpl.1, hpl.2]
        decide
      unfold ruledR
      rw [h1]; rfl
    have hrl : (natI (ruledL 2 js)).length = js.length := by rw [List.length_map, hol]
    rw [hrr] at HRU
    have HRU2 : Hid (∀ W, Below w.heap.size w W → Calls Tryd.prog 61 #[.slice A js.length c, .int .i64 2] W fun e w' => ∃ A2 c2, e = .returned (.tuple #[.slice A2 js.length c2, .bool true]) ∧ Row w' A2 (ic (natI (ruledL 2 js))) ∧ Below W.heap.size W w') := fun W hb => (HRU.out W hb).mono fun e w' ⟨A2, c2, he, hs, hb2⟩ => ⟨A2, c2, by rw [he, hrl], hs.row, hb2⟩
    clear HRU
    have hLI := (fun D b W (hb : Below w.heap.size w W) (ho : Row W D (ic (natI (ruledL 2 js)))) => listPlan_any A D c b js [] mm (ruledL 2 js) W (HR.out.below hb) ho hok h8 hirr ⟨by omega, by omega⟩ hp)
    rw [hol] at hLI
    have HLI := Lib.hid hLI
    have HTK := Lib.hid (list_ok (E := []) hok h8 hp hirr (show 0 < mm by omega))
    have HLL := Lib.hid (listL_len js (tabB js.length []) (ruledL 2 js) mm)
    obtain ⟨RES, hRES⟩ : ∃ RES, listL js (tabB js.length []) (ruledL 2 js) mm = RES := ⟨_, rfl⟩
    rw [show ((mm : Int)).toNat = mm from rfl, hRES] at HRR
    rw [hRES] at HLI HTK HLL
    obtain ⟨B, hB⟩ : ∃ B, befN js.length (tabB js.length []) = B := ⟨_, rfl⟩
    have hEO := (fun (D : Option Addr) W (hb : Below w.heap.size w W) (hs : Row W D (spc RES)) => endsOf_any A D c RES.length js RES (mm : Int) (js.length : Int) B W (HR.out.below hb) hs hok h8 HTK.out)
    rw [HLL.out] at hEO
    have HEO := Lib.hid hEO
    have HOK := Lib.hid hok
    have HBD := Lib.hid (fun k hk => teS_bd hok HTK.out k hk)
    rw [hB] at HLI
    clear hg hRES hok hirr hE hmm hpl hLI hp hol hrr hrl hEO HON
    go_enter Tryd.func34, Tryd.ntmps34
    go_wp2_with fail
    refine H.out.mono ?_
    rintro e w1 ⟨hb1, ⟨_, _, rfl⟩ | ⟨hw, _⟩⟩
    · rw [hB]
      have hb2 := hb1.alloc hb1.size (.cells (wlC (.slice A js.length c) (js.length : Int) B) 72)
      have hN2 := BlockIs.new w1 72 (wlC (.slice A js.length c) (js.length : Int) B)
      have HC := Lib.hid (HRU2.out _ hb2)
      have H2 := Lib.hid (And.intro hb2 hN2)
      clear hb1 hb2 hN2 H HRU2 hB
      unfold wlC
      unfold wlC at HC
      go_wp2_with fail
      refine HC.out.mono ?_
      rintro e w2 ⟨A2, c2, rfl, hs2, hb3⟩
      have H3 : Hid ((Below w.heap.size w w2.drew ∧ BlockIs w2.drew w1.heap.size 72 (wlC (.slice A js.length c) (js.length : Int) B)) ∧ Row w2.drew A2 (ic (natI (ruledL 2 js)))) := ⟨⟨(H2.out.1.trans (hb3.mono H2.out.1.size)).drew, (H2.out.2.below hb3).drew⟩, hs2⟩
      clear hs2 hb3 H2 HC
      go_wp2
      refine wp_region_detP (γ := Eq2) (by kernel_rfl) (fun x L W => (Below w.heap.size w W ∧ BlockIs W w1.heap.size 72 (wlC (.slice A js.length c) (js.length : Int) B)) ∧ Row W A2 (ic (natI (ruledL 2 js))) ∧ (L.getD 4 true = true → BlockIs W x.gP 78 (spc RES).toArray) ∧ (L.getD 5 true = true → BlockIs W x.gE 3 (ic (endsT js RES)).toArray)) (fun x kk => (#[.agg (wlC (.slice A js.length c) (js.length : Int) B), .agg (wlC (.slice A js.length c) (js.length : Int) B), .int .i64 (mm : Int), .slice A2 js.length c2, .slice (some ⟨x.gP, 0, none⟩) js.length js.length, .slice (some ⟨x.gE, 0, none⟩) js.length js.length, .int .i64 (js.length : Int), .int .i64 0] : Array Value).getD kk undef) ⟨0, 0⟩ (by kernel_rfl) (by kernel_rfl) ⟨H3.out.1, H3.out.2, fun h => absurd (h.symm.trans (rep_getD 8 4 (by decide))) (by decide), fun h => absurd (h.symm.trans (rep_getD 8 5 (by decide))) (by decide)⟩ ?_ ?_
      · intro x L W hall hS
        have HF := Lib.hid (And.intro hS.1.1 (hS.2.2.2 (hall 5 (by show 5 < 8; decide))))
        clear hS hall H3
        simp only [putsL]
        go_wp2
        simp only [List.getElem_toArray, List.getElem_cons_zero, List.getElem_cons_succ, Act.put, Array.getD_eq_getD_getElem?, List.getElem?_toArray, List.getElem?_cons_zero, List.getElem?_cons_succ, Option.getD_some, List.setIfInBounds_toArray, List.set_cons_zero, List.set_cons_succ, Nat.reduceAdd]
        go_loopw [10, 37] (fun sv iv wr => ∃ k : Nat, k ≤ js.length ∧ iv = .int .i64 (k : Int) ∧ sv = .int .i64 (teS js RES k) ∧ Hid (Below W.heap.size W wr)) (fun _ iv _ => js.length - (intOf iv).toNat)
        case atStart => exact ⟨0, Nat.zero_le _, rfl, rfl, Below.refl _ _⟩
        case round =>
          obtain ⟨k, hk, rfl, rfl, hb⟩ := hrel
          by_cases hlt : k < js.length
          · have hke : k < (endsT js RES).length := by rw [endsT_len]; exact hlt
            have hc := (HF.out.2.below hb.out).int hke
            rw [endsT_at] at hc
            have h1 := tkOk_out ((tks_out HTK.out).2 k hlt)
            have h2 := jAt_bd HOK.out hlt
            have h3 := HBD.out k hk
            have HST : Hid (teS js RES (k + 1) = teS js RES k + ((tkAt RES k).t + jAt js k)) := rfl
            have hk0 : (0 : Int) ≤ k := by omega
            have hk1 : (k : Int) < js.length := by omega
            obtain ⟨_, _, _, q0, q1⟩ := h1
            obtain ⟨ee, hee⟩ : ∃ ee, (tkAt RES k).t + jAt js k = ee := ⟨_, rfl⟩
            rw [hee] at hc HST
            have he : 0 ≤ ee ∧ ee ≤ 550 := by omega
            clear hee q0 q1 h2 hke
            generalize teS js RES k = sk at *
            have hw1 : IntKind.i64.wrap (sk + ee) = sk + ee := IntWalk.i64_in _ (by omega)
            go_wp2
            go_roundw
            case rel => exact ⟨k + 1, by omega, by go_num, by rw [HST.out], hb.out⟩
            case measure => simp [intOf]; omega
          · obtain rfl : k = js.length := by omega
            go_wp2
            go_ret2
            exact ⟨by rw [HRR.out]; rfl, HF.out.1.trans (hb.out.mono HF.out.1.size)⟩
      · intro x L ac W iq op hLs hop hLi hLd hLn hS hlow hdep
        have hq : iq < 8 := (Array.getElem?_eq_some_iff.1 hop).1
        rcases (by omega : iq = 0 ∨ iq = 1 ∨ iq = 2 ∨ iq = 3 ∨ iq = 4 ∨ iq = 5 ∨ iq = 6 ∨ iq = 7) with rfl | rfl | rfl | rfl | rfl | rfl | rfl | rfl
        · obtain rfl := Option.some.inj hop
          have e6 : ac.tmps[6]?.getD undef = .pointer (some ⟨w1.heap.size, 0, none⟩) := (Array.getD_eq_getD_getElem? ..).symm.trans (hlow 6 (by kernel_rfl))
          exact ⟨wanted_free rfl, .inl ⟨x, W, fun _ _ => rfl, exec_load10 (x := .tmp 6) rfl (hlow 6 (by kernel_rfl)) hS.1.2 rfl, ⟨hS.1, hS.2.1, by rw [listed_ne (by decide)]; exact hS.2.2.1, by rw [listed_ne (by decide)]; exact hS.2.2.2⟩⟩⟩
        · obtain rfl := Option.some.inj hop
          have e6 : ac.tmps[6]?.getD undef = .pointer (some ⟨w1.heap.size, 0, none⟩) := (Array.getD_eq_getD_getElem? ..).symm.trans (hlow 6 (by kernel_rfl))
          exact ⟨wanted_free rfl, .inl ⟨x, W, fun _ _ => rfl, exec_load10 (x := .tmp 6) rfl (hlow 6 (by kernel_rfl)) hS.1.2 rfl, ⟨hS.1, hS.2.1, by rw [listed_ne (by decide)]; exact hS.2.2.1, by rw [listed_ne (by decide)]; exact hS.2.2.2⟩⟩⟩
        · obtain rfl := Option.some.inj hop
          have e1 : ac.tmps[1]?.getD undef = .int .i64 (mm : Int) := (Array.getD_eq_getD_getElem? ..).symm.trans (hlow 1 (by kernel_rfl))
          exact ⟨wanted_free rfl, .inl ⟨x, W, fun _ _ => rfl, by simp [execOp, Act.eval, e1, go_sem], ⟨hS.1, hS.2.1, by rw [listed_ne (by decide)]; exact hS.2.2.1, by rw [listed_ne (by decide)]; exact hS.2.2.2⟩⟩⟩
        · obtain rfl := Option.some.inj hop
          have e8 : ac.tmps[8]?.getD undef = .slice A2 js.length c2 := (Array.getD_eq_getD_getElem? ..).symm.trans (hlow 8 (by kernel_rfl))
          exact ⟨wanted_free rfl, .inl ⟨x, W, fun _ _ => rfl, by simp [execOp, Act.eval, e8, go_sem], ⟨hS.1, hS.2.1, by rw [listed_ne (by decide)]; exact hS.2.2.1, by rw [listed_ne (by decide)]; exact hS.2.2.2⟩⟩⟩
        · obtain rfl := Option.some.inj hop
          have e31 : ac.tmps[31]?.getD undef = .agg (wlC (.slice A js.length c) (js.length : Int) B) := (Array.getD_eq_getD_getElem? ..).symm.trans (hdep 1 _ 31 (by kernel_rfl) rfl rfl)
          have e32 : ac.tmps[32]?.getD undef = .int .i64 (mm : Int) := (Array.getD_eq_getD_getElem? ..).symm.trans (hdep 2 _ 32 (by kernel_rfl) rfl rfl)
          have e33 : ac.tmps[33]?.getD undef = .slice A2 js.length c2 := (Array.getD_eq_getD_getElem? ..).symm.trans (hdep 3 _ 33 (by kernel_rfl) rfl rfl)
          refine ⟨wanted_free rfl, .inr (.inl ⟨48, #[.agg (wlC (.slice A js.length c) (js.length : Int) B), .int .i64 (mm : Int), .slice A2 js.length c2], by simp [execOp, Act.eval, e31, e32, e33, go_sem], (HLI.out A2 c2 W hS.1.1 hS.2.1).mono ?_⟩)⟩
          rintro e w3 ⟨g, rfl, hg, hG, hb2⟩
          refine ⟨{ x with gP := g }, (fun j hj => ?_), rfl, ⟨hS.1.1.trans (hb2.mono hS.1.1.size), hS.1.2.below hb2⟩, hS.2.1.below hb2, fun _ => hG, by rw [listed_ne (by decide)]; exact fun h => (hS.2.2.2 h).below hb2⟩
          by_cases h15 : j < 8
          · rcases (by omega : j = 0 ∨ j = 1 ∨ j = 2 ∨ j = 3 ∨ j = 4 ∨ j = 5 ∨ j = 6 ∨ j = 7) with rfl | rfl | rfl | rfl | rfl | rfl | rfl | rfl <;> first | rfl | (exact absurd hj (by rw [hLi]; decide))
          · have h1 : 8 ≤ j := by omega
            show Array.getD _ j undef = Array.getD _ j undef
            rw [Array.getD_eq_getD_getElem?, Array.getD_eq_getD_getElem?, Array.getElem?_eq_none (by simpa using h1), Array.getElem?_eq_none (by simpa using h1)]
        · obtain rfl := Option.some.inj hop
          have e30 : ac.tmps[30]?.getD undef = .agg (wlC (.slice A js.length c) (js.length : Int) B) := (Array.getD_eq_getD_getElem? ..).symm.trans (hdep 0 _ 30 (by kernel_rfl) rfl rfl)
          have e34 : ac.tmps[34]?.getD undef = .slice (some ⟨x.gP, 0, none⟩) js.length js.length := (Array.getD_eq_getD_getElem? ..).symm.trans (hdep 4 _ 34 (by kernel_rfl) rfl rfl)
          have hP := hS.2.2.1 (hLd 4 (by kernel_rfl))
          refine ⟨wanted_free rfl, .inr (.inl ⟨62, #[.agg (wlC (.slice A js.length c) (js.length : Int) B), .slice (some ⟨x.gP, 0, none⟩) js.length js.length], by simp [execOp, Act.eval, e30, e34, go_sem], (HEO.out (some ⟨x.gP, 0, none⟩) W hS.1.1 (rowSp hP)).mono ?_⟩)⟩
          rintro e w3 ⟨rfl, hG, hb2⟩
          refine ⟨{ x with gE := W.heap.size + 1 }, (fun j hj => ?_), rfl, ⟨hS.1.1.trans (hb2.mono hS.1.1.size), hS.1.2.below hb2⟩, hS.2.1.below hb2, by rw [listed_ne (by decide)]; exact fun h => (hS.2.2.1 h).below hb2, fun _ => hG⟩
          by_cases h15 : j < 8
          · rcases (by omega : j = 0 ∨ j = 1 ∨ j = 2 ∨ j = 3 ∨ j = 4 ∨ j = 5 ∨ j = 6 ∨ j = 7) with rfl | rfl | rfl | rfl | rfl | rfl | rfl | rfl <;> first | rfl | (exact absurd hj (by rw [hLi]; decide))
          · have h1 : 8 ≤ j := by omega
            show Array.getD _ j undef = Array.getD _ j undef
            rw [Array.getD_eq_getD_getElem?, Array.getD_eq_getD_getElem?, Array.getElem?_eq_none (by simpa using h1), Array.getElem?_eq_none (by simpa using h1)]
        · obtain rfl := Option.some.inj hop
          have e35 : ac.tmps[35]?.getD undef = .slice (some ⟨x.gE, 0, none⟩) js.length js.length := (Array.getD_eq_getD_getElem? ..).symm.trans (hdep 5 _ 35 (by kernel_rfl) rfl rfl)
          exact ⟨wanted_free rfl, .inl ⟨x, W, fun _ _ => rfl, by simp [execOp, Act.eval, e35, go_sem], ⟨hS.1, hS.2.1, by rw [listed_ne (by decide)]; exact hS.2.2.1, by rw [listed_ne (by decide)]; exact hS.2.2.2⟩⟩⟩
        · obtain rfl := Option.some.inj hop
          exact ⟨wanted_free rfl, .inl ⟨x, W, fun _ _ => rfl, by simp [execOp, Act.eval, go_sem], ⟨hS.1, hS.2.1, by rw [listed_ne (by decide)]; exact hS.2.2.1, by rw [listed_ne (by decide)]; exact hS.2.2.2⟩⟩⟩
    · cases hw
end
end Go.Proofs.YtejgpecmjfgfbaaDoor
