/- Texts joined: InsL LmI Rpt LpI LpF LpO RegQ SetB OwnM SortM JoP LsF JoC Onc Lst JoS JoR LpT LpL ArgP PrT. -/
import Derived.Test.YtejgpecmjfgfbaaDoorShelf
import Derived.Shelf.Spec.SlicesInsert
import Derived.Test.YtejgpecmjfgfbaaDoorJw1
import Derived.StillTailTactics
import Derived.Test.YtejgpecmjfgfbaaDoorRegInv
import Derived.Laws.CopyOwn
import Derived.IntWalk
import Derived.Test.YtejgpecmjfgfbaaDoorRulP
import Derived.Test.YtejgpecmjfgfbaaDoorBlo
import Derived.Test.YtejgpecmjfgfbaaDoorMbr
import Derived.Test.YtejgpecmjfgfbaaDoorAppW
import Derived.Test.YtejgpecmjfgfbaaDoorOwnSS
import Derived.Test.YtejgpecmjfgfbaaDoorRegY
import Derived.RegionTactic
import Derived.BigRegion
import Derived.RangeFuncNested
import Derived.Test.YtejgpecmjfgfbaaDoorArgJ
import Derived.Test.YtejgpecmjfgfbaaDoorPrC
import Derived.OpenShut
import Derived.Test.YtejgpecmjfgfbaaDoorPairs
set_option linter.unusedSimpArgs false
set_option linter.unusedVariables false
namespace Go.Proofs
open Go.Shelf
end Go.Proofs
namespace Go.Proofs.YtejgpecmjfgfbaaDoor
open Go.RowKit
/-- Cells written one after the other. -/
def setsA (cs : Array Value) : Nat → List Value → Array Value
  | _, [] => cs
  | o, v :: r => setsA (cs.setIfInBounds o v) (o + 1) r
theorem setsA_size : ∀ (vs : List Value) (o : Nat) (cs : Array Value), (setsA cs o vs).size = cs.size
  | [], _, _ => rfl
  | v :: r, o, cs => by unfold setsA; rw [setsA_size r]; simp
theorem BlockIs.sets {g : Nat} {t : TypeId} : ∀ (vs : List Value) (o : Nat) {w : World} {cs : Array Value}, BlockIs w g t cs → BlockIs (w.setCells g o vs) g t (setsA cs o vs)
  | [], _, _, _, h => h
  | v :: r, o, _, _, h => BlockIs.sets r (o + 1) (h.set o v)
theorem Below.sets {B g : Nat} (hg : B ≤ g) : ∀ (vs : List Value) (o : Nat) {a w : World}, Below B a w → Below B a (w.setCells g o vs)
  | [], _, _, _, h => h
  | v :: r, o, _, _, h => Below.sets hg r (o + 1) (h.setCell (p := ⟨g, o, none⟩) hg v)
theorem setsA_at : ∀ (vs : List Value) (o : Nat) (cs : Array Value) (j : Nat), o + vs.length ≤ cs.size → (setsA cs o vs)[j]? = if o ≤ j ∧ j < o + vs.length then vs[j - o]? else cs[j]?
  | [], o, cs, j, _ => by rw [if_neg (by simp)]; rfl
  | v :: r, o, cs, j, h => by
    simp only [List.length_cons] at h ⊢
    unfold setsA
    rw [setsA_at r (o + 1) _ j (by simp; omega)]
    by_cases h1 : o + 1 ≤ j ∧ j < o + 1 + r.length
    · rw [if_pos h1, if_pos (by omega), show j - o = (j - (o + 1)) + 1 by omega]; rfl
    · rw [if_neg h1]
      by_cases h2 : j = o
      · subst h2; rw [if_pos (by omega), Array.getElem?_setIfInBounds, if_pos rfl, if_pos (by omega)]; simp
      · rw [if_neg (by omega), Array.getElem?_setIfInBounds, if_neg (by omega)]
theorem ins_at {α : Type} (R : List α) (x : α) (t j : Nat) (h : t ≤ R.length) : (R.take t ++ x :: R.drop t)[j]? = if j < t then R[j]? else if j = t then some x else R[j - 1]? := by
  have hl : (R.take t).length = t := by simp; omega
  by_cases h1 : j < t
  · rw [if_pos h1, List.getElem?_append_left (by omega), List.getElem?_take, if_pos h1]
  · rw [if_neg h1, List.getElem?_append_right (by omega), hl]
    by_cases h2 : j = t
    · subst h2; simp
    · rw [if_neg h2, show j - t = (j - t - 1) + 1 by omega, List.getElem?_cons_succ, List.getElem?_drop]
      congr 1; omega
/-- What is in the cells after the shift and the write. -/
theorem shift_take {cur : Array Value} {R : List Value} {x : Value} {t : Nat} (hs : R.length < cur.size) (hR : ∀ j, j < R.length → cur[j]? = R[j]?) (ht : t < R.length) :
    (setsA (setsA cur (t + 1) (R.drop t)) t [x]).toList.take (R.length + 1) = R.take t ++ x :: R.drop t := by
  apply List.ext_getElem?
  intro j
  rw [ins_at R x t j (by omega), List.getElem?_take]
  by_cases hj : j < R.length + 1
  · rw [if_pos hj, Array.getElem?_toList, setsA_at _ _ _ _ (by rw [setsA_size]; simp; omega), setsA_at _ _ _ _ (by simp; omega)]
    by_cases h1 : j < t
    · rw [if_pos h1, if_neg (by omega), if_neg (by omega), hR j (by omega)]
    · rw [if_neg h1]
      by_cases h2 : j = t
      · subst h2; simp
      · rw [if_neg h2, if_neg (by simp; omega), if_pos (by simp; omega), List.getElem?_drop]
        congr 1; omega
  · rw [if_neg hj, if_neg (by omega), if_neg (by omega), List.getElem?_eq_none (by omega)]
theorem end_take {cur : Array Value} {R : List Value} {x : Value} (hs : R.length < cur.size) (hR : ∀ j, j < R.length → cur[j]? = R[j]?) :
    (setsA cur R.length [x]).toList.take (R.length + 1) = R.take R.length ++ x :: R.drop R.length := by
  apply List.ext_getElem?
  intro j
  rw [ins_at R x R.length j (by omega), List.getElem?_take]
  by_cases hj : j < R.length + 1
  · rw [if_pos hj, Array.getElem?_toList, setsA_at _ _ _ _ (by simp; omega)]
    by_cases h1 : j < R.length
    · rw [if_pos h1, if_neg (by omega), hR j h1]
    · have h2 : j = R.length := by omega
      subst h2; simp
  · rw [if_neg hj, if_neg (by omega), if_neg (by omega), List.getElem?_eq_none (by omega)]
/-- One place left out. -/
def restI (o : List Int) (f : Nat) : List Int := o.take f ++ o.drop (f + 1)
def movedI (o : List Int) (f t : Nat) : List Int := (restI o f).take t ++ o.getD f 0 :: (restI o f).drop t
theorem restI_len {o : List Int} {f : Nat} (h : f < o.length) : (restI o f).length + 1 = o.length := by unfold restI; simp; omega
theorem movedI_len {o : List Int} {f t : Nat} (h : f < o.length) (ht : t < o.length) : (movedI o f t).length = o.length := by
  have := restI_len h
  unfold movedI; simp; omega
def insB (o : List Int) (f t : Int) : Bool := ordB o.length o && (inB f 0 (o.length - 1) && inB t 0 (o.length - 1))
def insR (o : List Int) (f t : Int) : List Int × Bool := if insB o f t then (movedI o f.toNat t.toNat, true) else ([], false)
theorem insR_len (o : List Int) (f t : Int) (hm : o.length ≤ 10000000) : (insR o f t).1.length ≤ 10000000 := by
  unfold insR
  cases h : insB o f t
  · simp
  · unfold insB at h
    simp only [Bool.and_eq_true] at h
    have h1 := inB_out h.2.1
    have h2 := inB_out h.2.2
    simp only [if_true]
    rw [movedI_len (by omega) (by omega)]; exact hm
set_option maxRecDepth 100000 in
/-- slices.Delete of one, from cells of its own. -/
theorem delete_one {w : World} {g c : Nat} {cur : Array Value} {o : List Int} {f : Nat} (hB : BlockIs w g 3 cur) (hs : cur.size = c) (hc : o.length ≤ c) (hm : c ≤ maxLen) (ht : cur.toList.take o.length = ic o) (hf : f < o.length) :
    Calls Tryd.prog 114 #[.slice (some ⟨g, 0, none⟩) o.length c, .int .i64 (f : Int), .int .i64 ((f : Int) + 1)] w fun e w' => e = .returned (.slice (some ⟨g, 0, none⟩) (restI o f).length c) ∧ ∃ cur' : Array Value, BlockIs w' g 3 cur' ∧ cur'.size = c ∧ (∀ j, j < (restI o f).length → cur'[j]? = (ic (restI o f))[j]?) ∧ ∀ B, B ≤ g → B ≤ w.heap.size → Below B w w' := by
  have hcell : ∀ j, j < o.length → w.cell? ⟨g, 0 + j, none⟩ = some (.int .i64 (o.getD j 0)) := fun j hj => by
    rw [hB.cell, Nat.zero_add, ← Array.getElem?_toList, ← List.getElem?_take_of_lt hj, ht]
    unfold ic; simp [hj]
  have H := Tryd.slices_Delete_int_cells g 0 o.length c f (f + 1) o w (Nat.le_refl _) hc hm (by omega) (by omega) hcell (fun j _ => hB.frozen _)
  rw [show ((f + 1 : Nat) : Int) = (f : Int) + 1 from rfl] at H
  refine H.mono ?_
  rintro e w' ⟨rfl, q, rfl⟩
  have hrl := restI_len hf
  refine ⟨by rw [show o.length - (f + 1 - f) = (restI o f).length by omega], _, (hB.drewN q).sets _ 0, by rw [setsA_size]; exact hs, fun j hj => ?_, fun B h1 h2 => Below.sets h1 _ 0 (show Below B w (w.drewN q) from have h := Below.refl B w; ⟨h.os, h.tape, h.output, h.size, h.block⟩)⟩
  have hls : (List.map (Value.int .i64) ((o.take o.length).take f ++ (o.take o.length).drop (f + 1) ++ List.replicate (f + 1 - f) 0)) = ic (restI o f) ++ [.int .i64 0] := by
    rw [List.take_length, show f + 1 - f = 1 by omega]
    unfold ic restI; simp
  rw [hls, setsA_at _ _ _ _ (by simp [ic_len]; omega), if_pos (by simp [ic_len]; omega), Nat.sub_zero, List.getElem?_append_left (by rw [ic_len]; exact hj)]
end Go.Proofs.YtejgpecmjfgfbaaDoor

namespace Go.Proofs.YtejgpecmjfgfbaaDoor
open Go.RowKit
theorem within_canS {n : Nat} (hn : n ≤ 8) (T : Nat → Nat → Bool) (ends : List Int) (now : Int) (j : Nat) : withinB (befN n T j) (bitsN n (doneP ends now)) = canS n T ends now j := by
  rw [Bool.eq_iff_iff, within_iff (bef_lt hn T j)]
  unfold canS
  rw [List.all_eq_true]
  constructor
  · intro h k hk
    rw [List.mem_range] at hk
    have := h k
    rw [bef_bit, bits_bit, decide_eq_true hk, Bool.true_and, Bool.true_and] at this
    cases hT : T k j
    · rfl
    · have h2 := this hT
      unfold doneP at h2
      rw [h2]; rfl
  · intro h k hk
    rw [bef_bit, Bool.and_eq_true, decide_eq_true_eq] at hk
    have := h k (List.mem_range.2 hk.1)
    rw [hk.2, Bool.not_true, Bool.false_or] at this
    rw [bits_bit, decide_eq_true hk.1, Bool.true_and]
    exact this
theorem pick_at {n : Nat} {T : Nat → Nat → Bool} {ord : List Nat} {ends : List Int} {now : Int} {p : Nat} (hp : p < (leftL ord ends).length) (h1 : canS n T ends now (leftL ord ends)[p] = true) (h2 : ∀ i (hi : i < (leftL ord ends).length), i < p → canS n T ends now (leftL ord ends)[i] = false) : pickJ n T ord ends now = some (leftL ord ends)[p] := by
  unfold pickJ
  rw [List.find?_eq_some_iff_getElem]
  exact ⟨h1, p, hp, rfl, fun i hi => by rw [h2 i (by omega) hi]; rfl⟩
theorem pick_no {n : Nat} {T : Nat → Nat → Bool} {ord : List Nat} {ends : List Int} {now : Int} (h2 : ∀ i (hi : i < (leftL ord ends).length), canS n T ends now (leftL ord ends)[i] = false) : pickJ n T ord ends now = none := by
  unfold pickJ
  rw [List.find?_eq_none]
  intro x hx
  obtain ⟨i, hi, rfl⟩ := List.getElem_of_mem hx
  rw [h2 i hi]; simp
theorem can_enters (args : Array Value) (w : World) : (callFunc 111 args).run Tryd.prog w = .ok (.enter 111 args) w :=
  enters_of Tryd.func111 (by kernel_rfl) rfl args w
set_option maxRecDepth 100000 in
set_option maxHeartbeats 2000000 in
theorem indexCan_any (G b0 b1 dn : Nat) (B : Nat → Nat) (hB8 : ∀ j, B j < 256) (A : Option Addr) (c : Nat) (xs : List Nat) (w : World) (hr : Row w A (ic (natI xs))) (hx : ∀ x ∈ xs, x < 8) (h0 : BlockIs w b0 149 #[.pointer (some ⟨G, 0, none⟩)]) (h1 : BlockIs w b1 67 #[.int .u64 (dn : Int)])
    (hGl : G < w.heap.size) (hG : ∀ j, j < 8 → w.cell? ⟨G, 2 + j, none⟩ = some (.int .u64 (B j : Int))) (hn : xs.length ≤ 1000) :
    Calls Tryd.prog 113 #[.slice A xs.length c, .func (.func 111) #[] #[.pointer (some ⟨b0, 0, none⟩), .pointer (some ⟨b1, 0, none⟩)]] w fun e w' => ((∃ k : Nat, e = .returned (.int .i64 (k : Int)) ∧ ∃ h : k < xs.length, withinB (B xs[k]) dn = true ∧ ∀ i (hi : i < xs.length), i < k → withinB (B xs[i]) dn = false) ∨ (e = .returned (.int .i64 (-1)) ∧ ∀ i (hi : i < xs.length), withinB (B xs[i]) dn = false)) ∧ Below w.heap.size w w' := by
  have HEN := Lib.hid can_enters
  have HCAN := Lib.hid (fun j (hj : j < 8) W (hb : Below w.heap.size w W) => canStart_any G b0 b1 (B j) dn j (hB8 j) W ((h0.below hb).cell 0) ((h1.below hb).cell 0) hj ((hb.cell hGl).trans (hG j hj)))
  have HR := Lib.hid hr
  have HX := Lib.hid hx
  clear h0 h1 hG hr hx
  go_enter Tryd.func113, Tryd.ntmps113
  go_wp2
  go_loopw [8] (fun v wr => ∃ k : Nat, k ≤ xs.length ∧ v = .int .i64 (k : Int) ∧ Hid (∀ i (hi : i < xs.length), i < k → withinB (B xs[i]) dn = false) ∧ Hid (Below w.heap.size w wr)) (fun v _ => xs.length - (intOf v).toNat)
  case atStart => exact ⟨0, Nat.zero_le _, rfl, fun _ _ h => absurd h (by omega), Below.refl _ _⟩
  case round =>
    obtain ⟨k, hk, rfl, hA, hb⟩ := hrel
    by_cases hlt : k < xs.length
    · obtain ⟨ad, hA', hc⟩ := (HR.out.below hb.out).nat hlt
      subst hA'
      have hk0 : (0 : Int) ≤ k := by omega
      have hk1 : (k : Int) < xs.length := by omega
      have HC := Lib.hid (HCAN.out xs[k] (HX.out _ (List.getElem_mem hlt)) wr hb.out)
      have hen := HEN.out #[.int .i64 ((xs[k] : Nat) : Int), .pointer (some ⟨b0, 0, none⟩), .pointer (some ⟨b1, 0, none⟩)] wr
      have HT : Hid (withinB (B xs[k]) dn = false → ∀ i (hi : i < xs.length), i < k + 1 → withinB (B xs[i]) dn = false) := fun hh i hi h => by
        by_cases e : i = k
        · subst e; exact hh
        · exact hA.out i hi (by omega)
      have HF : Hid (withinB (B xs[k]) dn = true → ∃ h : k < xs.length, withinB (B xs[k]) dn = true ∧ ∀ i (hi : i < xs.length), i < k → withinB (B xs[i]) dn = false) := fun hh => ⟨hlt, hh, hA.out⟩
      clear hA
      cases hh : withinB (B xs[k]) dn
      · have HY := Lib.hid (HT.out hh)
        rw [hh] at HC
        clear hh HT HF
        obtain ⟨x, hxk⟩ : ∃ x, xs[k] = x := ⟨_, rfl⟩
        rw [hxk] at HC hen hc
        clear hxk
        go_wp2_with fail
        refine HC.out.mono ?_
        rintro e w1 ⟨rfl, hb1⟩
        go_wp2
        go_roundw
        case rel => exact ⟨k + 1, by omega, by go_num, HY.out, hb.out.trans (hb1.mono hb.out.size)⟩
        case measure => simp [intOf]; omega
      · have HY := Lib.hid (HF.out hh)
        rw [hh] at HC
        clear hh HT HF
        obtain ⟨x, hxk⟩ : ∃ x, xs[k] = x := ⟨_, rfl⟩
        rw [hxk] at HC hen hc
        clear hxk
        go_wp2_with fail
        refine HC.out.mono ?_
        rintro e w1 ⟨rfl, hb1⟩
        go_wp2
        go_ret
        exact ⟨.inl ⟨k, rfl, HY.out⟩, hb.out.trans (hb1.mono hb.out.size)⟩
    · obtain rfl : k = xs.length := by omega
      go_wp2
      go_ret
      exact ⟨.inr ⟨rfl, fun i hi => hA.out i hi hi⟩, hb.out⟩
theorem sets_frame (g : Nat) : ∀ (vs : List Value) (o : Nat) (w : World), (w.setCells g o vs).heap.size = w.heap.size ∧ ∀ k, k ≠ g → (w.setCells g o vs).heap[k]? = w.heap[k]?
  | [], _, _ => ⟨rfl, fun _ _ => rfl⟩
  | v :: r, o, w => by
    have h := sets_frame g r (o + 1) (w.setCell ⟨g, o, none⟩ v)
    refine ⟨h.1.trans (by simp [World.setCell]), fun k hk => (h.2 k hk).trans (Below.heap_setCell w ⟨g, o, none⟩ v k hk)⟩
set_option maxRecDepth 100000 in
theorem delete_fr {w : World} {g c : Nat} {cur : Array Value} {o : List Int} {f : Nat} (hB : BlockIs w g 3 cur) (hs : cur.size = c) (hc : o.length ≤ c) (hm : c ≤ maxLen) (ht : ∀ j, j < o.length → cur[j]? = (ic o)[j]?) (hf : f < o.length) :
    Calls Tryd.prog 114 #[.slice (some ⟨g, 0, none⟩) o.length c, .int .i64 (f : Int), .int .i64 ((f : Int) + 1)] w fun e w' => e = .returned (.slice (some ⟨g, 0, none⟩) (o.length - 1) c) ∧ (∃ cur' : Array Value, BlockIs w' g 3 cur' ∧ cur'.size = c ∧ ∀ j, j < (o.eraseIdx f).length → cur'[j]? = (ic (o.eraseIdx f))[j]?) ∧ w'.heap.size = w.heap.size ∧ (∀ k, k ≠ g → w'.heap[k]? = w.heap[k]?) ∧ ∀ B, B ≤ g → B ≤ w.heap.size → Below B w w' := by
  have hcell : ∀ j, j < o.length → w.cell? ⟨g, 0 + j, none⟩ = some (.int .i64 (o.getD j 0)) := fun j hj => by
    rw [hB.cell, Nat.zero_add, ht j hj]
    unfold ic; simp [hj]
  have H := Tryd.slices_Delete_int_cells g 0 o.length c f (f + 1) o w (Nat.le_refl _) hc hm (by omega) (by omega) hcell (fun j _ => hB.frozen _)
  rw [show ((f + 1 : Nat) : Int) = (f : Int) + 1 from rfl] at H
  refine H.mono ?_
  rintro e w' ⟨rfl, q, rfl⟩
  have hel : (o.eraseIdx f).length = o.length - 1 := List.length_eraseIdx_of_lt hf
  have hfr := sets_frame g (List.map (Value.int .i64) ((o.take o.length).take f ++ (o.take o.length).drop (f + 1) ++ List.replicate (f + 1 - f) 0)) 0 (w.drewN q)
  refine ⟨by rw [show o.length - (f + 1 - f) = o.length - 1 by omega], ⟨_, (hB.drewN q).sets _ 0, by rw [setsA_size]; exact hs, fun j hj => ?_⟩, hfr.1, hfr.2, fun B h1 h2 => Below.sets h1 _ 0 (show Below B w (w.drewN q) from have h := Below.refl B w; ⟨h.os, h.tape, h.output, h.size, h.block⟩)⟩
  have hls : (List.map (Value.int .i64) ((o.take o.length).take f ++ (o.take o.length).drop (f + 1) ++ List.replicate (f + 1 - f) 0)) = ic (o.eraseIdx f) ++ [.int .i64 0] := by
    rw [List.take_length, show f + 1 - f = 1 by omega, List.eraseIdx_eq_take_drop_succ]
    unfold ic; simp
  rw [hls, setsA_at _ _ _ _ (by rw [List.length_append, ic_len]; simp; omega), if_pos ⟨Nat.zero_le _, by rw [List.length_append, ic_len]; simp; omega⟩, Nat.sub_zero, List.getElem?_append_left (by rw [ic_len]; exact hj)]
/-- Where the parts of a maker lie. -/
structure Lm where
  G : Nat
  gL : Nat
  gF : Nat
  gE : Nat
  gP : Nat
  cL : Nat
structure Lm.Ok (a : Lm) (H : Nat) : Prop where
  hG : H ≤ a.G
  hL : H ≤ a.gL
  hF : H ≤ a.gF
  hE : H ≤ a.gE
  hP : H ≤ a.gP
  d1 : a.G ≠ a.gL
  d2 : a.G ≠ a.gF
  d3 : a.G ≠ a.gE
  d4 : a.G ≠ a.gP
  d5 : a.gL ≠ a.gF
  d6 : a.gL ≠ a.gE
  d7 : a.gL ≠ a.gP
  d8 : a.gF ≠ a.gE
  d9 : a.gF ≠ a.gP
  d0 : a.gE ≠ a.gP
  hc : a.cL ≤ maxLen
def lmC (a : Lm) (J : Value) (n : Nat) (B : Nat → Nat) (m l : Nat) : Array Value := #[J, .int .i64 (n : Int), .int .u64 (B 0 : Int), .int .u64 (B 1 : Int), .int .u64 (B 2 : Int), .int .u64 (B 3 : Int), .int .u64 (B 4 : Int), .int .u64 (B 5 : Int), .int .u64 (B 6 : Int), .int .u64 (B 7 : Int), .slice (some ⟨a.gL, 0, none⟩) l a.cL, .slice (some ⟨a.gF, 0, none⟩) m m, .slice (some ⟨a.gE, 0, none⟩) n n, .slice (some ⟨a.gP, 0, none⟩) n n]
theorem lmC_set (a : Lm) (J : Value) (n : Nat) (B : Nat → Nat) (m l l' : Nat) : (lmC a J n B m l).setIfInBounds 10 (.slice (some ⟨a.gL, 0, none⟩) l' a.cL) = lmC a J n B m l' := rfl
theorem lmC_bef (a : Lm) (J : Value) (n : Nat) (B : Nat → Nat) (m l : Nat) {j : Nat} (h : j < 8) : (lmC a J n B m l)[2 + j]? = some (.int .u64 (B j : Int)) := by
  rcases (by omega : j = 0 ∨ j = 1 ∨ j = 2 ∨ j = 3 ∨ j = 4 ∨ j = 5 ∨ j = 6 ∨ j = 7) with rfl | rfl | rfl | rfl | rfl | rfl | rfl | rfl <;> rfl
def LmW (a : Lm) (J : Value) (n : Nat) (B : Nat → Nat) (m l : Nat) (left : List Nat) (s : LsS) (w : World) : Prop :=
  BlockIs w a.G 108 (lmC a J n B m l) ∧ (∃ cur : Array Value, BlockIs w a.gL 3 cur ∧ cur.size = a.cL ∧ left.length ≤ a.cL ∧ ∀ j, j < left.length → cur[j]? = (ic (natI left))[j]?) ∧ BlockIs w a.gF 3 (ic s.free).toArray ∧ BlockIs w a.gE 3 (ic s.ends).toArray ∧ BlockIs w a.gP 78 (spc s.plan).toArray
section
variable {a : Lm} {J : Value} {n m l : Nat} {B : Nat → Nat} {left : List Nat} {s : LsS} {w w' : World}
theorem LmW.below (h : LmW a J n B m l left s w) (hb : Below w.heap.size w w') : LmW a J n B m l left s w' := by
  obtain ⟨h1, ⟨cur, h2, h3⟩, h4, h5, h6⟩ := h
  exact ⟨h1.below hb, ⟨cur, h2.below hb, h3⟩, h4.below hb, h5.below hb, h6.below hb⟩
theorem LmW.row (h : LmW a J n B m l left s w) : Row w (some ⟨a.gL, 0, none⟩) (ic (natI left)) := fun hn => by
  obtain ⟨cur, h2, h3, _, h4⟩ := h.2.1
  refine ⟨_, rfl, h2.lt, fun j u hu => ?_⟩
  have hj : j < left.length := by
    have := (List.getElem?_eq_some_iff.1 hu).1
    rw [ic_len] at this
    simpa using this
  have h5 := (h2.cell j).trans ((h4 j hj).trans hu)
  unfold Addr.add
  by_cases e : j = 0
  · subst e; rw [if_pos rfl]; exact h5
  · rw [if_neg e]; simp only [Nat.zero_add]; exact h5
/-- The header of the jobs that are left is told anew. -/
theorem LmW.head {H : Nat} (h : LmW a J n B m l left s w) (ha : a.Ok H) (l' : Nat) : LmW a J n B m l' left s (w.setCell ⟨a.G, 10, none⟩ (.slice (some ⟨a.gL, 0, none⟩) l' a.cL)) := by
  obtain ⟨h1, ⟨cur, h2, h3⟩, h4, h5, h6⟩ := h
  have h1' := h1.set 10 (.slice (some ⟨a.gL, 0, none⟩) l' a.cL)
  rw [lmC_set] at h1'
  exact ⟨h1', ⟨cur, h2.away ha.d1.symm 10 _, h3⟩, h4.away ha.d2.symm 10 _, h5.away ha.d3.symm 10 _, h6.away ha.d4.symm 10 _⟩
theorem LmW.planned {H : Nat} (h : LmW a J n B m l left s w) (ha : a.Ok H) (j : Nat) (x : Sp) (hj : j < s.plan.length) : LmW a J n B m l left ⟨s.free, s.ends, s.plan.set j x⟩ (((w.setCell ⟨a.gP, j * 3, none⟩ (.int .i64 x.j)).setCell ⟨a.gP, j * 3 + 1, none⟩ (.int .i64 x.f)).setCell ⟨a.gP, j * 3 + 2, none⟩ (.int .i64 x.t)) := by
  obtain ⟨h1, ⟨cur, h2, h3⟩, h4, h5, h6⟩ := h
  have h6' := h6.set3 (j * 3) x
  rw [spc_set s.plan j x hj] at h6'
  exact ⟨((h1.away ha.d4 _ _).away ha.d4 _ _).away ha.d4 _ _, ⟨cur, ((h2.away ha.d7 _ _).away ha.d7 _ _).away ha.d7 _ _, h3⟩, ((h4.away ha.d9 _ _).away ha.d9 _ _).away ha.d9 _ _, ((h5.away ha.d0 _ _).away ha.d0 _ _).away ha.d0 _ _, h6'⟩
theorem LmW.ended {H : Nat} (h : LmW a J n B m l left s w) (ha : a.Ok H) (j : Nat) (x : Int) : LmW a J n B m l left ⟨s.free, s.ends.set j x, s.plan⟩ (w.setCell ⟨a.gE, j, none⟩ (.int .i64 x)) := by
  obtain ⟨h1, ⟨cur, h2, h3⟩, h4, h5, h6⟩ := h
  have h5' := h5.set j (.int .i64 x)
  rw [ic_set] at h5'
  exact ⟨h1.away ha.d3 _ _, ⟨cur, h2.away ha.d6 _ _, h3⟩, h4.away ha.d8 _ _, h5', h6.away ha.d0.symm _ _⟩
theorem LmW.freed {H : Nat} (h : LmW a J n B m l left s w) (ha : a.Ok H) (k : Nat) (x : Int) : LmW a J n B m l left ⟨s.free.set k x, s.ends, s.plan⟩ (w.setCell ⟨a.gF, k, none⟩ (.int .i64 x)) := by
  obtain ⟨h1, ⟨cur, h2, h3⟩, h4, h5, h6⟩ := h
  have h4' := h4.set k (.int .i64 x)
  rw [ic_set] at h4'
  exact ⟨h1.away ha.d2 _ _, ⟨cur, h2.away ha.d5 _ _, h3⟩, h4', h5.away ha.d8.symm _ _, h6.away ha.d9.symm _ _⟩
end

/-- The maker's state, and the two variables of its method. -/
def StW (a : Lm) (J : Value) (n : Nat) (B : Nat → Nat) (m : Nat) (w0 : World) (b0 b1 dn hl : Nat) (lf : List Nat) (q : LsS) (W : World) : Prop := LmW a J n B m hl lf q W ∧ Below w0.heap.size w0 W ∧ BlockIs W b0 149 #[.pointer (some ⟨a.G, 0, none⟩)] ∧ BlockIs W b1 67 #[.int .u64 (dn : Int)]
theorem rep_getD (n i : Nat) (h : i < n) : (Array.replicate n false).getD i true = false := by simp [Array.getD_eq_getD_getElem?, h]
theorem nat_erase : ∀ (l : List Nat) (p : Nat), (natI l).eraseIdx p = natI (l.eraseIdx p)
  | [], _ => by simp
  | _ :: _, 0 => rfl
  | a :: l, p + 1 => by
    show Int.ofNat a :: (natI l).eraseIdx p = Int.ofNat a :: natI (l.eraseIdx p)
    rw [nat_erase l p]
theorem ptr_ne {w : World} {g b : Nat} {cs ds : Array Value} (h : BlockIs w b 149 ds) (hg : BlockIs w g 3 cs) : b ≠ g := type_ne h hg (by decide)
theorem setb_ne {w : World} {g b : Nat} {cs ds : Array Value} (h : BlockIs w b 67 ds) (hg : BlockIs w g 3 cs) : b ≠ g := type_ne h hg (by decide)
theorem ptr_neG {w : World} {g b : Nat} {cs ds : Array Value} (h : BlockIs w b 149 ds) (hg : BlockIs w g 108 cs) : b ≠ g := type_ne h hg (by decide)
theorem setb_neG {w : World} {g b : Nat} {cs ds : Array Value} (h : BlockIs w b 67 ds) (hg : BlockIs w g 108 cs) : b ≠ g := type_ne h hg (by decide)
theorem ptr_neP {w : World} {g b : Nat} {cs ds : Array Value} (h : BlockIs w b 149 ds) (hg : BlockIs w g 78 cs) : b ≠ g := type_ne h hg (by decide)
theorem setb_neP {w : World} {g b : Nat} {cs ds : Array Value} (h : BlockIs w b 67 ds) (hg : BlockIs w g 78 cs) : b ≠ g := type_ne h hg (by decide)
theorem natAt0 {w : World} {g : Nat} {xs : List Nat} (h : Row w (some ⟨g, 0, none⟩) (ic (natI xs))) {k : Nat} (hk : k < xs.length) : w.cell? ⟨g, k, none⟩ = some (.int .i64 ((xs[k] : Nat) : Int)) := by
  have := intAt0 h (k := k) (by simpa using hk)
  rw [this]; simp
set_option maxRecDepth 100000 in
set_option maxHeartbeats 8000000 in
theorem start_any (a : Lm) (A : Option Addr) (c : Nat) (js : List J) (T : Nat → Nat → Bool) (ord : List Nat) (mm : Nat) (now : Int) (s : LsS) (w0 w : World) (ha : a.Ok w0.heap.size) (hr : Row w0 A (jc js)) (hok : ∀ j ∈ js, okJ j = true) (h8 : js.length ≤ 8) (hm : 1 ≤ mm ∧ mm ≤ 4) (hol : ord.length = js.length) (hnd : ord.Nodup) (hord : ∀ j ∈ ord, j < js.length) (hO : OkL js mm now s) (hb : Below w0.heap.size w0 w)
    (hw : LmW a (.slice A js.length c) js.length (befN js.length T) mm (leftL ord s.ends).length (leftL ord s.ends) s w) :
    Calls Tryd.prog 81 #[.pointer (some ⟨a.G, 0, none⟩), .int .i64 now] w fun e w' => e = .returned (.tuple #[]) ∧ LmW a (.slice A js.length c) js.length (befN js.length T) mm (leftL ord (startTo js T ord now s mm).ends).length (leftL ord (startTo js T ord now s mm).ends) (startTo js T ord now s mm) w' ∧ Below w0.heap.size w0 w' := by
  have hs0 := hb.size
  have hn0 := hO.n0
  have hn1 := (hO.bd hok h8).1
  have hb1 := (Below.refl w.heap.size w).alloc (Nat.le_refl _) (.cells #[.pointer (some ⟨a.G, 0, none⟩)] 149)
  have hw1 := hw.below hb1
  have hB1 := BlockIs.new w 149 #[.pointer (some ⟨a.G, 0, none⟩)]
  have hbw1 := hb.trans (hb1.mono hb.size)
  have hs1 := hb1.size
  have hD := done_any a.G a.gE js.length s.ends now _ (by rw [hw1.1.cell, hO.le]; rfl) (rowOf hw1.2.2.2.1) (by rw [hO.le]; exact h8)
  have HWC := Lib.hid (within_canS h8 T s.ends now)
  rw [hO.le] at hD
  have hdl : bitsN js.length (doneP s.ends now) < 256 := bits_lt h8 _
  obtain ⟨dn, hdn⟩ : ∃ dn, bitsN js.length (doneP s.ends now) = dn := ⟨_, rfl⟩
  rw [hdn] at hD HWC hdl
  have HD := Lib.hid hD
  have HW1 := Lib.hid hw1
  have HB1 := Lib.hid hB1
  have HBW1 := Lib.hid hbw1
  have HA := Lib.hid ha
  have HR := Lib.hid hr
  have HOK := Lib.hid hok
  have HND := Lib.hid hnd
  have HOL := Lib.hid hol
  have HORD := Lib.hid hord
  have HO := Lib.hid hO
  have HBEF : Hid (∀ j, befN js.length T j < 256) := fun j => bef_lt h8 T j
  clear hol hD hw1 hB1 hbw1 hb1 ha hr hok hnd hord hO hdn hw hb
  go_enter Tryd.func81, Tryd.ntmps81
  go_wp2_with fail
  refine HD.out.mono ?_
  rintro e w2 ⟨rfl, hb2⟩
  have hb3 := hb2.alloc hb2.size (.cells #[.int .u64 (dn : Int)] 67)
  have hW3 := HW1.out.below hb3
  have hB3 := HB1.out.below hb3
  have hD3 := BlockIs.new w2 67 #[.int .u64 (dn : Int)]
  have hbw3 := HBW1.out.trans (hb3.mono HBW1.out.size)
  have hc0 := hB3.cell 0
  have hc11 := hW3.1.cell 11
  simp only [lmC, List.getElem?_toArray, List.getElem?_cons_zero, List.getElem?_cons_succ] at hc0 hc11
  obtain ⟨b0, hb0⟩ : ∃ b0, w.heap.size = b0 := ⟨_, rfl⟩
  obtain ⟨b1, hb1⟩ : ∃ b1, w2.heap.size = b1 := ⟨_, rfl⟩
  have HS3 : Hid (StW a (.slice A js.length c) js.length (befN js.length T) mm w0 b0 b1 dn (leftL ord s.ends).length (leftL ord s.ends) s (w2.alloc (.cells #[.int .u64 (dn : Int)] 67))) := ⟨hW3, hbw3, hb0 ▸ hB3, hb1 ▸ hD3⟩
  have hd0 : w0.heap.size ≤ b0 := by omega
  clear hb3 hW3 hB3 hD3 hbw3 HW1 HB1 HBW1 HD hb2
  rw [hb0] at hc0
  rw [hb0]
  go_wp2
  clear hc0 hc11
  go_loopw [19] (fun v wr => ∃ k : Nat, k ≤ mm ∧ v = .int .i64 (k : Int) ∧ Hid (StW a (.slice A js.length c) js.length (befN js.length T) mm w0 b0 b1 dn (leftL ord (startTo js T ord now s k).ends).length (leftL ord (startTo js T ord now s k).ends) (startTo js T ord now s k) wr)) (fun v _ => mm - (intOf v).toNat)
  case atStart => exact ⟨0, Nat.zero_le _, rfl, HS3.out⟩
  case round =>
    obtain ⟨k, hk, rfl, hS⟩ := hrel
    clear HS3
    by_cases hlt : k < mm
    · have HOq := Lib.hid (HO.out.start (T := T) HOK.out h8 HORD.out k (by omega))
      have HST := Lib.hid (startTo_succ js T ord now s k)
      have HSTK : Hid (pickJ js.length T ord (startTo js T ord now s k).ends now = none → startTo js T ord now s mm = startTo js T ord now s k) := stuck_all (by omega)
      have HWC2 : Hid (∀ j, withinB (befN js.length T j) dn = canS js.length T (startTo js T ord now s k).ends now j) := fun j => (HWC.out j).trans (canS_congr (fun i => (done_start HO.out HOK.out h8 HORD.out i k (by omega)).symm) j)
      generalize startTo js T ord now s k = q at *
      obtain ⟨hW, hbW, h0W, h1W⟩ := hS.out
      have hcF := hW.2.2.1.int (k := k) (by rw [HOq.out.lf]; exact hlt)
      have hgd : q.free.getD k 0 = q.free[k]'(by rw [HOq.out.lf]; exact hlt) := getD_at q.free 0 (by rw [HOq.out.lf]; exact hlt)
      have HLATE : Hid (¬ q.free.getD k 0 ≤ now → stepL js T ord now q k = q) := step_late
      have HSOME : Hid (∀ j, q.free.getD k 0 ≤ now → pickJ js.length T ord q.ends now = some j → stepL js T ord now q k = assignL js q now k j) := fun j => step_some
      rw [hgd] at HLATE HSOME
      clear hgd
      generalize q.free[k]'(by rw [HOq.out.lf]; exact hlt) = fk at *
      have hk0 : (0 : Int) ≤ k := by omega
      have hk1 : (k : Int) < mm := by omega
      have HX : Hid (∀ x ∈ leftL ord q.ends, x < js.length) := fun x hx => (left_lt HORD.out hx).1
      have hll : (leftL ord q.ends).length ≤ 1000 := Nat.le_trans (List.length_filter_le _ _) (by rw [HOL.out]; omega)
      have HI := Lib.hid (indexCan_any a.G b0 b1 dn (befN js.length T) HBEF.out (some ⟨a.gL, 0, none⟩) a.cL (leftL ord q.ends) wr hW.row (fun x hx => by have := HX.out x hx; omega) h0W h1W hW.1.lt (fun j hj => by rw [hW.1.cell]; exact lmC_bef _ _ _ _ _ _ hj) hll)
      have c0 := h0W.cell 0
      have c10 := hW.1.cell 10
      simp only [lmC, List.getElem?_toArray, List.getElem?_cons_zero, List.getElem?_cons_succ] at c0 c10
      clear hW hbW h0W h1W
      go_wp2_with fail
      refine HI.out.mono ?_
      rintro e w5 ⟨⟨p, rfl, hpl, hpt, hpb⟩ | ⟨rfl, hno⟩, hb5⟩
      · have hpk := pick_at hpl (by rw [← HWC2.out]; exact hpt) (fun i hi hip => by rw [← HWC2.out]; exact hpb i hi hip)
        have hjn := HX.out _ (List.getElem_mem hpl)
        have hS5 : StW a (.slice A js.length c) js.length (befN js.length T) mm w0 b0 b1 dn (leftL ord q.ends).length (leftL ord q.ends) q w5 := ⟨hS.out.1.below hb5, hS.out.2.1.trans (hb5.mono hS.out.2.1.size), hS.out.2.2.1.below hb5, hS.out.2.2.2.below hb5⟩
        have hp0 : decide ((p : Int) < 0) = false := decide_eq_false (by omega)
        by_cases hf : fk ≤ now
        · have hs := HSOME.out _ hf hpk
          have hjp : (leftL ord q.ends)[p] < q.plan.length := by rw [HOq.out.lp]; exact hjn
          have hje : (leftL ord q.ends)[p] < q.ends.length := by rw [HOq.out.le]; exact hjn
          have hjt := jAt_bd HOK.out hjn
          have hle := left_erase HND.out hje (e := now + jAt js (leftL ord q.ends)[p]) (by omega) hpl rfl
          have cL := natAt0 hS5.1.row hpl
          obtain ⟨hW5, hbW5, h0W5, h1W5⟩ := hS5
          have c0' := h0W5.cell 0
          have c10' := hW5.1.cell 10
          simp only [lmC, List.getElem?_toArray, List.getElem?_cons_zero, List.getElem?_cons_succ] at c0' c10'
          have HPL : Hid (p < (leftL ord q.ends).length) := hpl
          have hp1 : (p : Int) < (leftL ord q.ends).length := by omega
          have hp2 : (0 : Int) ≤ p := by omega
          have hf2 : decide (now < fk) = false := decide_eq_false (by omega)
          have HSW : Hid (StW a (.slice A js.length c) js.length (befN js.length T) mm w0 b0 b1 dn (leftL ord q.ends).length (leftL ord q.ends) q w5) := ⟨hW5, hbW5, h0W5, h1W5⟩
          have key : ∃ j : Nat, j < js.length ∧ j < q.plan.length ∧ j < q.ends.length ∧ (1 ≤ jAt js j ∧ jAt js j ≤ 50) ∧ (leftL ord q.ends).eraseIdx p = leftL ord (q.ends.set j (now + jAt js j)) ∧ w5.cell? ⟨a.gL, p, none⟩ = some (.int .i64 (j : Int)) ∧ startTo js T ord now s (k + 1) = assignL js q now k j := ⟨(leftL ord q.ends)[p], hjn, hjp, hje, hjt, hle, cL, HST.out.trans hs⟩
          clear hs hpk hpt hpb hb5 hS hW5 hbW5 h0W5 h1W5 HLATE HSOME c0 c10 hcF HI HWC2 HSTK HST hjn hjp hje hjt hle cL hpl
          obtain ⟨j, hjn, hjp, hje, hjt, hle, cL, hst⟩ := key
          have HST := Lib.hid hst
          have HLE := Lib.hid hle
          clear hst hle
          go_wp2
          have HLN : Hid ((leftL ord (q.ends.set j (now + jAt js j))).length = (leftL ord q.ends).length - 1) := by show _ = _; rw [← HLE.out, List.length_eraseIdx_of_lt HPL.out]
          have HFR : Hid (StW a (.slice A js.length c) js.length (befN js.length T) mm w0 b0 b1 dn (leftL ord q.ends).length (leftL ord q.ends) q w5.drew) := ⟨HSW.out.1, HSW.out.2.1.drew, HSW.out.2.2.1, HSW.out.2.2.2⟩
          have hpw : IntKind.i64.wrap ((p : Int) + 1) = (p : Int) + 1 := IntWalk.i64_in _ (by omega)
          refine wp_region_detP (γ := Unit) (by kernel_rfl) (fun _ L W => (L.getD 8 true = false → StW a (.slice A js.length c) js.length (befN js.length T) mm w0 b0 b1 dn (leftL ord q.ends).length (leftL ord q.ends) q W) ∧ (L.getD 8 true = true → L.getD 11 true = false → StW a (.slice A js.length c) js.length (befN js.length T) mm w0 b0 b1 dn (leftL ord q.ends).length (leftL ord (q.ends.set j (now + jAt js j))) q W) ∧ (L.getD 11 true = true → StW a (.slice A js.length c) js.length (befN js.length T) mm w0 b0 b1 dn (leftL ord (q.ends.set j (now + jAt js j))).length (leftL ord (q.ends.set j (now + jAt js j))) q W)) (fun _ kk => (#[.pointer (some ⟨a.G, 0, none⟩), .pointer (some ⟨a.G, 0, none⟩), .pointer (some ⟨a.G, 0, none⟩), .pointer (some ⟨a.G, 10, none⟩), .slice (some ⟨a.gL, 0, none⟩) (leftL ord q.ends).length a.cL, .int .i64 (p : Int), .int .i64 (p : Int), .int .i64 ((p : Int) + 1), .slice (some ⟨a.gL, 0, none⟩) ((leftL ord q.ends).length - 1) a.cL, .pointer (some ⟨a.G, 0, none⟩), .pointer (some ⟨a.G, 10, none⟩), undef] : Array Value).getD kk undef) () (by kernel_rfl) (by kernel_rfl) ⟨fun _ => HFR.out, fun h _ => absurd (h.symm.trans (rep_getD 12 8 (by decide))) (by decide), fun h => absurd (h.symm.trans (rep_getD 12 11 (by decide))) (by decide)⟩ ?_ ?_
          · intro _ L W hall hS
            have HS2 := Lib.hid (hS.2.2 (hall 11 (by decide)))
            clear hS hall
            simp only [putsL]
            obtain ⟨hW, hbW, h0W, h1W⟩ := HS2.out
            have c0 := h0W.cell 0
            have c13 := hW.1.cell 13
            simp only [lmC, List.getElem?_toArray, List.getElem?_cons_zero, List.getElem?_cons_succ] at c0 c13
            obtain ⟨v0, hv0⟩ := hW.2.2.2.2.has (i := j * 3) (by simp [spc_len]; omega)
            obtain ⟨v1, hv1⟩ := hW.2.2.2.2.has (i := j * 3 + 1) (by simp [spc_len]; omega)
            obtain ⟨v2, hv2⟩ := hW.2.2.2.2.has (i := j * 3 + 2) (by simp [spc_len]; omega)
            have hf0 := hW.2.2.2.2.frozen (j * 3)
            have hf1 := hW.2.2.2.2.frozen (j * 3 + 1)
            have hf3 := hW.2.2.2.2.frozen (j * 3 + 2)
            have hj0 : (0 : Int) ≤ j := by omega
            have hj1 : (j : Int) < js.length := by omega
            have hP := hW.planned HA.out j ⟨(j : Int), (k : Int), now⟩ hjp
            have hPb : w0.heap.size ≤ a.gP := HA.out.hP
            have HS3 : Hid (StW a (.slice A js.length c) js.length (befN js.length T) mm w0 b0 b1 dn (leftL ord (q.ends.set j (now + jAt js j))).length (leftL ord (q.ends.set j (now + jAt js j))) ⟨q.free, q.ends, q.plan.set j ⟨(j : Int), (k : Int), now⟩⟩ (((W.setCell ⟨a.gP, j * 3, none⟩ (.int .i64 (j : Int))).setCell ⟨a.gP, j * 3 + 1, none⟩ (.int .i64 (k : Int))).setCell ⟨a.gP, j * 3 + 2, none⟩ (.int .i64 now))) := ⟨hP, ((hbW.setCell (p := ⟨a.gP, j * 3, none⟩) hPb _).setCell (p := ⟨a.gP, j * 3 + 1, none⟩) hPb _).setCell (p := ⟨a.gP, j * 3 + 2, none⟩) hPb _, ((h0W.away (ptr_neP h0W hW.2.2.2.2) _ _).away (ptr_neP h0W hW.2.2.2.2) _ _).away (ptr_neP h0W hW.2.2.2.2) _ _, ((h1W.away (setb_neP h1W hW.2.2.2.2) _ _).away (setb_neP h1W hW.2.2.2.2) _ _).away (setb_neP h1W hW.2.2.2.2) _ _⟩
            clear hW hbW h0W h1W hP HS2 HSW HFR hpw c0' c10' cL hp0 hp1 hp2
            go_wp2
            clear c0 c13 hv0 hv1 hv2 hf0 hf1 hf3
            obtain ⟨V, hV⟩ : ∃ V, (((W.setCell ⟨a.gP, j * 3, none⟩ (.int .i64 (j : Int))).setCell ⟨a.gP, j * 3 + 1, none⟩ (.int .i64 (k : Int))).setCell ⟨a.gP, j * 3 + 2, none⟩ (.int .i64 now)) = V := ⟨_, rfl⟩
            rw [hV] at HS3 ⊢
            clear hV
            obtain ⟨hW, hbW, h0W, h1W⟩ := HS3.out
            obtain ⟨ad, hA', hbl, hcj, hc1, hc2, hc3⟩ := (HR.out.below hbW).job hjn
            subst hA'
            have e1 : jAt js j = js[j].t := congrArg J.t (getD_at js j0 hjn)
            rw [← e1] at hcj
            clear hc1 hc2 hc3 e1
            have c0 := h0W.cell 0
            have c12 := hW.1.cell 12
            have cJ := hW.1.cell 0
            simp only [lmC, List.getElem?_toArray, List.getElem?_cons_zero, List.getElem?_cons_succ] at c0 c12 cJ
            obtain ⟨ve, hve⟩ := hW.2.2.2.1.has (i := j) (by simpa [ic_len] using hje)
            have hfe := hW.2.2.2.1.frozen j
            have hwr : IntKind.i64.wrap (now + jAt js j) = now + jAt js j := IntWalk.i64_in _ (by omega)
            have hEb : w0.heap.size ≤ a.gE := HA.out.hE
            have HS4 : Hid (StW a (.slice (some ad) js.length c) js.length (befN js.length T) mm w0 b0 b1 dn (leftL ord (q.ends.set j (now + jAt js j))).length (leftL ord (q.ends.set j (now + jAt js j))) ⟨q.free, q.ends.set j (now + jAt js j), q.plan.set j ⟨(j : Int), (k : Int), now⟩⟩ ((V.setCell ⟨a.gE, j, none⟩ (.int .i64 (now + jAt js j))).drew)) := ⟨hW.ended HA.out j _, (hbW.setCell (p := ⟨a.gE, j, none⟩) hEb _).drew, h0W.away (ptr_ne h0W hW.2.2.2.1) _ _, h1W.away (setb_ne h1W hW.2.2.2.1) _ _⟩
            clear hW hbW h0W h1W HS3
            go_wp2
            go_still_tail 17, (by kernel_rfl)
            change wpList _ _ _ _ _ V.drew
            go_wp2
            clear c0 c12 cJ hcj hve hfe
            change Code.wp _ _ _ _ ((V.setCell ⟨a.gE, j, none⟩ (.int .i64 (now + jAt js j))).drew)
            obtain ⟨X, hX⟩ : ∃ X, ((V.setCell ⟨a.gE, j, none⟩ (.int .i64 (now + jAt js j))).drew) = X := ⟨_, rfl⟩
            rw [hX] at HS4 ⊢
            clear hX
            obtain ⟨hW, hbW, h0W, h1W⟩ := HS4.out
            have c0 := h0W.cell 0
            have c11 := hW.1.cell 11
            have c12 := hW.1.cell 12
            simp only [lmC, List.getElem?_toArray, List.getElem?_cons_zero, List.getElem?_cons_succ] at c0 c11 c12
            have cE := hW.2.2.2.1.int (k := j) (by simpa using hje)
            have hge : (q.ends.set j (now + jAt js j))[j]'(by simpa using hje) = now + jAt js j := by simp
            rw [hge] at cE
            clear hge
            obtain ⟨vf, hvf⟩ := hW.2.2.1.has (i := k) (by simpa [ic_len, HOq.out.lf] using hlt)
            have hff := hW.2.2.1.frozen k
            have hFb : w0.heap.size ≤ a.gF := HA.out.hF
            have HS5 : Hid (StW a (.slice (some ad) js.length c) js.length (befN js.length T) mm w0 b0 b1 dn (leftL ord (q.ends.set j (now + jAt js j))).length (leftL ord (q.ends.set j (now + jAt js j))) (assignL js q now k j) ((X.setCell ⟨a.gF, k, none⟩ (.int .i64 (now + jAt js j))).drew)) := ⟨hW.freed HA.out k _, (hbW.setCell (p := ⟨a.gF, k, none⟩) hFb _).drew, h0W.away (ptr_ne h0W hW.2.2.1) _ _, h1W.away (setb_ne h1W hW.2.2.1) _ _⟩
            clear hW hbW h0W h1W HS4
            go_wp2
            go_still_tail 13, (by kernel_rfl)
            change wpList _ _ _ _ _ X.drew
            go_wp2
            go_roundw
            case rel => exact ⟨k + 1, by omega, by go_num, by rw [HST.out]; exact HS5.out⟩
            case measure => simp [intOf]; omega
          · intro _ L ac W iq op hLs hop hLi hLd hLn hS hlow hdep
            have hq : iq < 12 := (Array.getElem?_eq_some_iff.1 hop).1
            have h8to11 : L.getD 11 true = true → L.getD 8 true = true → True := fun _ _ => trivial
            have hb0 : BlockIs W b0 149 #[.pointer (some ⟨a.G, 0, none⟩)] := by
              cases h8 : L.getD 8 true
              · exact (hS.1 h8).2.2.1
              · cases h11 : L.getD 11 true
                · exact (hS.2.1 h8 h11).2.2.1
                · exact (hS.2.2 h11).2.2.1
            have c0 := hb0.cell 0
            simp only [List.getElem?_toArray, List.getElem?_cons_zero] at c0
            have K : iq ≠ 8 → iq ≠ 11 → ((L.setIfInBounds iq true).getD 8 true = false → StW a (.slice A js.length c) js.length (befN js.length T) mm w0 b0 b1 dn (leftL ord q.ends).length (leftL ord q.ends) q W) ∧ ((L.setIfInBounds iq true).getD 8 true = true → (L.setIfInBounds iq true).getD 11 true = false → StW a (.slice A js.length c) js.length (befN js.length T) mm w0 b0 b1 dn (leftL ord q.ends).length (leftL ord (q.ends.set j (now + jAt js j))) q W) ∧ ((L.setIfInBounds iq true).getD 11 true = true → StW a (.slice A js.length c) js.length (befN js.length T) mm w0 b0 b1 dn (leftL ord (q.ends.set j (now + jAt js j))).length (leftL ord (q.ends.set j (now + jAt js j))) q W) := fun h1 h2 => by
              rw [getD_set_true, getD_set_true, if_neg (fun h => h1 h.1), if_neg (fun h => h2 h.1)]
              exact hS
            rcases (by omega : iq = 0 ∨ iq = 1 ∨ iq = 2 ∨ iq = 3 ∨ iq = 4 ∨ iq = 5 ∨ iq = 6 ∨ iq = 7 ∨ iq = 8 ∨ iq = 9 ∨ iq = 10 ∨ iq = 11) with rfl | rfl | rfl | rfl | rfl | rfl | rfl | rfl | rfl | rfl | rfl | rfl
            · obtain rfl := Option.some.inj hop
              have e2 : ac.tmps[2]?.getD undef = .pointer (some ⟨b0, 0, none⟩) := (Array.getD_eq_getD_getElem? ..).symm.trans (hlow 2 (by kernel_rfl))
              exact ⟨wanted_free rfl, .inl ⟨(), W, fun _ _ => rfl, by simp [execOp, Act.eval, e2, c0, go_sem], K (by decide) (by decide)⟩⟩
            · obtain rfl := Option.some.inj hop
              have e2 : ac.tmps[2]?.getD undef = .pointer (some ⟨b0, 0, none⟩) := (Array.getD_eq_getD_getElem? ..).symm.trans (hlow 2 (by kernel_rfl))
              exact ⟨wanted_free rfl, .inl ⟨(), W, fun _ _ => rfl, by simp [execOp, Act.eval, e2, c0, go_sem], K (by decide) (by decide)⟩⟩
            · obtain rfl := Option.some.inj hop
              have e43 : ac.tmps[43]?.getD undef = .pointer (some ⟨a.G, 0, none⟩) := (Array.getD_eq_getD_getElem? ..).symm.trans (hdep 1 _ 43 (by kernel_rfl) rfl rfl)
              exact ⟨wanted_free rfl, .inl ⟨(), W, fun _ _ => rfl, by simp [execOp, Act.eval, e43, go_sem], K (by decide) (by decide)⟩⟩
            · obtain rfl := Option.some.inj hop
              have e44 : ac.tmps[44]?.getD undef = .pointer (some ⟨a.G, 0, none⟩) := (Array.getD_eq_getD_getElem? ..).symm.trans (hdep 2 _ 44 (by kernel_rfl) rfl rfl)
              exact ⟨wanted_free rfl, .inl ⟨(), W, fun _ _ => rfl, by simp [execOp, Act.eval, e44, go_sem], K (by decide) (by decide)⟩⟩
            · obtain rfl := Option.some.inj hop
              have e45 : ac.tmps[45]?.getD undef = .pointer (some ⟨a.G, 10, none⟩) := (Array.getD_eq_getD_getElem? ..).symm.trans (hdep 3 _ 45 (by kernel_rfl) rfl rfl)
              have h10 := (hS.1 (hLn 8 (by kernel_rfl))).1.1.cell 10
              simp only [lmC, List.getElem?_toArray, List.getElem?_cons_zero, List.getElem?_cons_succ] at h10
              exact ⟨wanted_free rfl, .inl ⟨(), W, fun _ _ => rfl, by simp [execOp, Act.eval, e45, h10, go_sem], K (by decide) (by decide)⟩⟩
            · obtain rfl := Option.some.inj hop
              have e8 : ac.tmps[8]?.getD undef = .int .i64 (p : Int) := (Array.getD_eq_getD_getElem? ..).symm.trans (hlow 8 (by kernel_rfl))
              exact ⟨wanted_free rfl, .inl ⟨(), W, fun _ _ => rfl, by simp [execOp, Act.eval, e8, go_sem], K (by decide) (by decide)⟩⟩
            · obtain rfl := Option.some.inj hop
              have e8 : ac.tmps[8]?.getD undef = .int .i64 (p : Int) := (Array.getD_eq_getD_getElem? ..).symm.trans (hlow 8 (by kernel_rfl))
              exact ⟨wanted_free rfl, .inl ⟨(), W, fun _ _ => rfl, by simp [execOp, Act.eval, e8, go_sem], K (by decide) (by decide)⟩⟩
            · obtain rfl := Option.some.inj hop
              have e48 : ac.tmps[48]?.getD undef = .int .i64 (p : Int) := (Array.getD_eq_getD_getElem? ..).symm.trans (hdep 6 _ 48 (by kernel_rfl) rfl rfl)
              exact ⟨wanted_free rfl, .inl ⟨(), W, fun _ _ => rfl, by simp [execOp, Act.eval, e48, hpw, go_sem], K (by decide) (by decide)⟩⟩
            · obtain rfl := Option.some.inj hop
              have e46 : ac.tmps[46]?.getD undef = .slice (some ⟨a.gL, 0, none⟩) (leftL ord q.ends).length a.cL := (Array.getD_eq_getD_getElem? ..).symm.trans (hdep 4 _ 46 (by kernel_rfl) rfl rfl)
              have e47 : ac.tmps[47]?.getD undef = .int .i64 (p : Int) := (Array.getD_eq_getD_getElem? ..).symm.trans (hdep 5 _ 47 (by kernel_rfl) rfl rfl)
              have e49 : ac.tmps[49]?.getD undef = .int .i64 ((p : Int) + 1) := (Array.getD_eq_getD_getElem? ..).symm.trans (hdep 7 _ 49 (by kernel_rfl) rfl rfl)
              obtain ⟨hW, hbW, h0W, h1W⟩ := hS.1 hLi
              obtain ⟨hWG, ⟨cur, hcB, hcs, hcl, hcc⟩, hWF, hWE, hWP⟩ := hW
              have hnl : (natI (leftL ord q.ends)).length = (leftL ord q.ends).length := by simp
              have hDL := delete_fr (o := natI (leftL ord q.ends)) (f := p) hcB hcs (by rw [hnl]; exact hcl) HA.out.hc (fun i hi => hcc i (by rw [hnl] at hi; exact hi)) (by rw [hnl]; exact HPL.out)
              have hne : (natI (leftL ord q.ends)).eraseIdx p = natI (leftL ord (q.ends.set j (now + jAt js j))) := by rw [← HLE.out]; exact nat_erase _ _
              rw [hnl, hne] at hDL
              refine ⟨wanted_free rfl, .inr (.inl ⟨114, #[.slice (some ⟨a.gL, 0, none⟩) (leftL ord q.ends).length a.cL, .int .i64 (p : Int), .int .i64 ((p : Int) + 1)], by simp [execOp, Act.eval, e46, e47, e49, go_sem], hDL.mono ?_⟩)⟩
              rintro e w2 ⟨rfl, ⟨cur2, hc2, hs2, ht2⟩, hsz2, hfr2, hbel2⟩
              have hbL : w0.heap.size ≤ a.gL := HA.out.hL
              have hDB : Below w0.heap.size w0 w2 := hbW.trans (hbel2 _ hbL hbW.size)
              refine ⟨(), fun _ _ => rfl, rfl, fun h => ?_, fun _ _ => ⟨⟨(hfr2 _ HA.out.d1).trans hWG, ⟨cur2, hc2, hs2, by rw [HLN.out]; omega, fun i hi => ht2 i (by simpa using hi)⟩, (hfr2 _ HA.out.d5.symm).trans hWF, (hfr2 _ HA.out.d6.symm).trans hWE, (hfr2 _ HA.out.d7.symm).trans hWP⟩, hDB, (hfr2 _ (ptr_ne h0W hcB)).trans h0W, (hfr2 _ (setb_ne h1W hcB)).trans h1W⟩, fun h => ?_⟩
              · rw [getD_set_true, if_pos ⟨rfl, by rw [hLs]; decide⟩] at h
                cases h
              · rw [getD_set_true, if_neg (fun q => absurd q.1 (by decide))] at h
                rw [hLn 11 (by kernel_rfl)] at h
                cases h
            · obtain rfl := Option.some.inj hop
              have e42 : ac.tmps[42]?.getD undef = .pointer (some ⟨a.G, 0, none⟩) := (Array.getD_eq_getD_getElem? ..).symm.trans (hdep 0 _ 42 (by kernel_rfl) rfl rfl)
              exact ⟨wanted_free rfl, .inl ⟨(), W, fun _ _ => rfl, by simp [execOp, Act.eval, e42, go_sem], K (by decide) (by decide)⟩⟩
            · obtain rfl := Option.some.inj hop
              have e51 : ac.tmps[51]?.getD undef = .pointer (some ⟨a.G, 0, none⟩) := (Array.getD_eq_getD_getElem? ..).symm.trans (hdep 9 _ 51 (by kernel_rfl) rfl rfl)
              exact ⟨wanted_free rfl, .inl ⟨(), W, fun _ _ => rfl, by simp [execOp, Act.eval, e51, go_sem], K (by decide) (by decide)⟩⟩
            · obtain rfl := Option.some.inj hop
              have e52 : ac.tmps[52]?.getD undef = .pointer (some ⟨a.G, 10, none⟩) := (Array.getD_eq_getD_getElem? ..).symm.trans (hdep 10 _ 52 (by kernel_rfl) rfl rfl)
              have e50 : ac.tmps[50]?.getD undef = .slice (some ⟨a.gL, 0, none⟩) ((leftL ord q.ends).length - 1) a.cL := (Array.getD_eq_getD_getElem? ..).symm.trans (hdep 8 _ 50 (by kernel_rfl) rfl rfl)
              have h8t : L.getD 8 true = true := hLd 8 (by kernel_rfl)
              obtain ⟨hW, hbW, h0W, h1W⟩ := hS.2.1 h8t hLi
              obtain ⟨u10, hu10⟩ := hW.1.has (i := 10) (by show 10 < 14; decide)
              have hf10 := hW.1.frozen 10
              have hwl := hW.head HA.out ((leftL ord q.ends).length - 1)
              rw [← HLN.out] at hwl
              have hGb : w0.heap.size ≤ a.G := HA.out.hG
              refine ⟨wanted_free rfl, .inr (.inr ⟨W.setCell ⟨a.G, 10, none⟩ (.slice (some ⟨a.gL, 0, none⟩) ((leftL ord q.ends).length - 1) a.cL), rfl, by simp [execOp, Act.eval, e52, e50, hu10, hf10, go_sem], fun h => ?_, fun _ h => ?_, fun _ => ⟨by rw [← HLN.out]; exact hwl, hbW.setCell (p := ⟨a.G, 10, none⟩) hGb _, h0W.away (ptr_neG h0W hW.1) 10 _, h1W.away (setb_neG h1W hW.1) 10 _⟩⟩)⟩
              · rw [getD_set_true, if_neg (fun q => absurd q.1 (by decide)), h8t] at h
                cases h
              · rw [getD_set_true, if_pos ⟨rfl, by rw [hLs]; decide⟩] at h
                cases h
        · have hs := HLATE.out (by omega)
          rw [hs] at HST
          have HY := Lib.hid hS5
          have hf2 : now < fk := by omega
          clear hs hpk hpt hpb hb5 hS hS5 HLATE HSOME c0 c10 hcF HI hpl hf hjn
          go_wp2
          go_roundw
          case rel => exact ⟨k + 1, by omega, by go_num, by rw [HST.out]; exact HY.out⟩
          case measure => simp [intOf]; omega
      · have HEND := HSTK.out (pick_no fun i hi => by rw [← HWC2.out]; exact hno i hi)
        have HY := Lib.hid (And.intro (hS.out.1.below hb5) (hS.out.2.1.trans (hb5.mono hS.out.2.1.size)))
        rw [← HEND] at HY
        clear HEND hno hb5 hS c0 c10 hcF HI
        go_wp2
        (try simp only [Exit.inBlock, Exit.then])
        refine bodyPost_ret (results_none rfl _ _ _) rfl ?_
        exact ⟨rfl, HY.out.1, HY.out.2⟩
    · obtain rfl : k = mm := by omega
      go_wp2
      go_end0
      exact ⟨rfl, hS.out.1, hS.out.2.1⟩
end Go.Proofs.YtejgpecmjfgfbaaDoor

namespace Go.Proofs.YtejgpecmjfgfbaaDoor
open Go.RowKit
def repW (n m : Nat) : List Int := List.replicate n 1000 ++ List.replicate (m - n) 0
theorem repW_len {n m : Nat} (h : n ≤ m) : (repW n m).length = m := by unfold repW; simp; omega
theorem repW_splice {n m k : Nat} (h : n + k ≤ m) : splice (ic (repW n m)) n (ic (List.replicate k 1000)) = ic (repW (n + k) m) := by
  unfold splice ic repW
  simp only [List.map_append, List.map_replicate, List.length_replicate]
  rw [List.take_append_of_le_length (by simp), List.take_of_length_le (by simp), List.drop_append, List.drop_of_length_le (by simp), List.nil_append, List.length_replicate, List.drop_replicate]
  simp only [← List.append_assoc, List.replicate_append_replicate]
  rw [show m - n - (n + k - n) = m - (n + k) by omega]
theorem repW_zero (m : Nat) : List.replicate m (0 : Int) = repW 0 m := by unfold repW; simp
theorem repW_all (m : Nat) : repW m m = List.replicate m 1000 := by unfold repW; simp
theorem repW_src {w : World} {g n m : Nat} (hB : BlockIs w g 3 (ic (repW n m)).toArray) (k : Nat) (hk : k ≤ n) : ∀ j v, (ic (List.replicate k (1000 : Int)))[j]? = some v → w.cell? ((⟨g, 0, none⟩ : Addr).add j) = some v := by
  intro j v hj
  rw [Addr.add_lit, Nat.zero_add, hB.cell j, List.getElem?_toArray]
  have hjk : j < k := by
    have := (List.getElem?_eq_some_iff.1 hj).1
    rw [ic_len] at this
    simpa using this
  unfold ic repW at *
  rw [List.map_append, List.getElem?_append_left (by simp; omega)]
  rw [← hj]
  simp [hjk, show j < n by omega]
theorem rep_one {k : Nat} : ∀ v ∈ ic (List.replicate k (1000 : Int)), v.oneCell' = true := by
  intro v hv
  unfold ic at hv
  rw [List.map_replicate] at hv
  rw [(List.mem_replicate.1 hv).2]
  rfl
theorem keepL7 {L : Array Bool} {i : Nat} {p q : Prop} (hi : i ≠ 7) (h : (L.getD 7 true = false → p) ∧ (L.getD 7 true = true → q)) : ((L.setIfInBounds i true).getD 7 true = false → p) ∧ ((L.setIfInBounds i true).getD 7 true = true → q) := by
  rw [getD_set_true, if_neg (fun h => hi h.1)]; exact h
theorem setL7 {L : Array Bool} {p q : Prop} (hs : L.size = 10) (h : q) : ((L.setIfInBounds 7 true).getD 7 true = false → p) ∧ ((L.setIfInBounds 7 true).getD 7 true = true → q) := by
  rw [getD_set_true, if_pos ⟨rfl, by rw [hs]; decide⟩]
  exact ⟨fun h => (by cases h), fun _ => h⟩
theorem infoI1 : (Tryd.prog.info? 3).map (·.size) = some 1 := by kernel_rfl
set_option maxRecDepth 100000 in
set_option maxHeartbeats 4000000 in
theorem repeat_any (A : Addr) (cA m : Nat) (w : World) (hx : w.cell? A = some (.int .i64 1000)) (hAb : A.block < w.heap.size) (hm1 : 1 ≤ m) (hm : m ≤ 1000) :
    Calls Tryd.prog 79 #[.slice (some A) 1 cA, .int .i64 (m : Int)] w fun e w' => ∃ g, e = .returned (.slice (some ⟨g, 0, none⟩) m m) ∧ w.heap.size ≤ g ∧ BlockIs w' g 3 (ic (List.replicate m 1000)).toArray ∧ Below w.heap.size w w' := by
  have HMUL : Hid (∀ W : World, Calls Tryd.prog 108 #[.int .u64 1, .int .u64 (m : Int)] W fun e w' => e = .returned (.tuple #[.int .u64 0, .int .u64 (m : Int)]) ∧ w' = W) := fun W => by
    have h := Tryd.bits_Mul 1 m (by omega) (by omega) W
    rw [show 1 * m / 18446744073709551616 = 0 by omega, show 1 * m % 18446744073709551616 = m by omega] at h
    exact h
  have hmk := run_make_row' (P := Tryd.prog) 24 3 (.int .i64 0) 8 Tryd.underlying24 infoI rfl .i64 .i64 m (by omega) (by omega)
  have hm0 : ¬ (m : Int) < 0 := by omega
  have hm9 : ¬ (9223372036854775807 : Int) < m := by omega
  have hmp : (0 : Int) ≤ m := by omega
  have H1 : Hid (BlockIs (w.alloc (.cells (madeCells #[.int .i64 0] m) 3)) w.heap.size 3 (ic (repW 0 m)).toArray ∧ Below w.heap.size w (w.alloc (.cells (madeCells #[.int .i64 0] m) 3))) := ⟨by rw [← repW_zero, ← ic_made]; exact BlockIs.new _ _ _, (Below.refl _ _).alloc (Nat.le_refl _) _⟩
  have H2 : Hid ((ic (List.replicate 1 (1000 : Int))).length = Nat.min 1 m ∧ ∀ j v, (ic (List.replicate 1 (1000 : Int)))[j]? = some v → (w.alloc (.cells (madeCells #[.int .i64 0] m) 3)).cell? (A.add j) = some v) := by
    refine ⟨by show 1 = min 1 m; omega, fun j v hj => ?_⟩
    have hj0 : j = 0 := by
      have := (List.getElem?_eq_some_iff.1 hj).1
      rw [ic_len] at this
      simpa using this
    subst hj0
    have hv : some (Value.int .i64 1000) = some v := hj
    rw [← hv, ← hx]
    exact ((Below.refl w.heap.size w).alloc (Nat.le_refl _) _).cell hAb
  have H3 : Hid (0 + (ic (List.replicate 1 (1000 : Int))).length ≤ (ic (repW 0 m)).length) := by show _ ≤ _; rw [ic_len, ic_len, repW_len (by omega)]; simp; omega
  have HS : Hid (((ic (repW 0 m)).toArray.toList.take 0 ++ ic (List.replicate 1 1000) ++ (ic (repW 0 m)).toArray.toList.drop (0 + (ic (List.replicate 1 (1000 : Int))).length)) = ic (repW 1 m)) := by
    have h := repW_splice (n := 0) (m := m) (k := 1) (by omega)
    rw [Nat.zero_add] at h
    exact h
  have hcp := run_copy_row (P := Tryd.prog) (w.alloc (.cells (madeCells #[.int .i64 0] m) 3)) 24 24 3 3 w.heap.size 0 m m A 1 cA (ic (repW 0 m)).toArray 3 (ic (List.replicate 1 1000)) Tryd.underlying24 infoI1 H1.out.1 H2.out.1 H2.out.2 (by rw [← Array.length_toList]; exact H3.out) rep_one
  rw [HS.out] at hcp
  have hB4 : BlockIs ((w.alloc (.cells (madeCells #[.int .i64 0] m) 3)).setRow w.heap.size (ic (repW 1 m)).toArray) w.heap.size 3 (ic (repW 1 m)).toArray := setRow_heap _ _ _ _ _ _ H1.out.1
  have hb4 := below_setRow H1.out.2 (Nat.le_refl _) (ic (repW 1 m)).toArray
  have H4 := Lib.hid (And.intro hB4 hb4)
  have HCP := Lib.hid hcp
  clear hx hB4 hb4 hcp H1 H2 H3 HS
  go_enter Tryd.func79, Tryd.ntmps79
  go_wp2_with fail
  refine (HMUL.out _).mono ?_
  rintro e w' ⟨rfl, hww⟩
  obtain rfl := hww.symm
  go_wp2
  rw [HCP.out]
  generalize hw4 : World.setRow _ _ _ = w4 at *
  clear hw4 HCP
  go_wp2
  rw [show (ic [1000]).length = 1 from rfl]
  go_loopw [8] (fun nv wr => ∃ n : Nat, 1 ≤ n ∧ n ≤ m ∧ nv = .int .i64 (n : Int) ∧ Hid (BlockIs wr w.heap.size 3 (ic (repW n m)).toArray) ∧ Hid (Below w.heap.size w wr)) (fun nv _ => m - (intOf nv).toNat)
  case atStart => exact ⟨1, Nat.le_refl _, hm1, rfl, H4.out.1, H4.out.2⟩
  case round =>
    obtain ⟨n, hn1, hn, rfl, hB, hb⟩ := hrel
    clear H4 hmk
    by_cases hlt : n < m
    · obtain ⟨k, hk⟩ : ∃ k, k = min n (m - n) := ⟨_, rfl⟩
      have H5 : Hid ((ic (List.replicate k (1000 : Int))).length = Nat.min n (m - n)) := by show _ = min n (m - n); rw [ic_len, List.length_replicate, hk]
      have H6 := Lib.hid (repW_src hB.out k (by omega))
      have H7 : Hid (n + (ic (List.replicate k (1000 : Int))).length ≤ (ic (repW n m)).length) := by show _ ≤ _; rw [ic_len, ic_len, repW_len (by omega)]; simp; omega
      have HS : Hid (((ic (repW n m)).toArray.toList.take n ++ ic (List.replicate k 1000) ++ (ic (repW n m)).toArray.toList.drop (n + (ic (List.replicate k (1000 : Int))).length)) = ic (repW (n + k) m)) := by
        have h := repW_splice (n := n) (m := m) (k := k) (by omega)
        unfold splice at h
        show _ = _
        rw [List.append_assoc]
        exact h
      have hcp := run_copy_row (P := Tryd.prog) (ty := 3) wr.drew 24 24 3 w.heap.size n (m - n) (m - n) ⟨w.heap.size, 0, none⟩ n m (ic (repW n m)).toArray 3 (ic (List.replicate k 1000)) Tryd.underlying24 infoI1 hB.out H5.out H6.out (by rw [← Array.length_toList]; exact H7.out) rep_one
      rw [HS.out] at hcp
      have hB4 : BlockIs (wr.drew.setRow w.heap.size (ic (repW (n + k) m)).toArray) w.heap.size 3 (ic (repW (n + k) m)).toArray := setRow_heap _ _ _ _ _ _ hB.out
      have hb4 := below_setRow hb.out.drew (Nat.le_refl _) (ic (repW (n + k) m)).toArray
      have H4 := Lib.hid (And.intro hB4 hb4)
      rw [show goInt (ic (List.replicate k (1000 : Int))).length = .int .i64 (k : Int) by rw [ic_len, List.length_replicate]; rfl] at hcp
      have HCP := Lib.hid hcp
      clear hB4 hb4 hcp HS H5 H6 H7 hB hb
      have hne : ¬ m = n := by omega
      have hn0 : (0 : Int) ≤ n := by omega
      have hnm : (n : Int) ≤ m := by omega
      have hnlt : (n : Int) < m := by omega
      obtain ⟨w5, hw5⟩ : ∃ w5, wr.drew.setRow w.heap.size (ic (repW (n + k) m)).toArray = w5 := ⟨_, rfl⟩
      rw [hw5] at H4 HCP
      clear hw5
      have hk1 : 1 ≤ k := by omega
      have hkm : n + k ≤ m := by omega
      have hwr := IntWalk.i64_in ((n : Int) + k) (by omega)
      have hrd : ∀ q : Prop, True := fun _ => trivial
      clear hrd
      go_wp2
      clear hk hm0 hm9
      refine wp_region_detL (by kernel_rfl) (fun L w' => (L.getD 7 true = false → w' = wr.drew) ∧ (L.getD 7 true = true → w' = w5))
        (fun kk => #[.int .i64 (n : Int), .slice (some ⟨w.heap.size, 0, none⟩) m m, .int .i64 (n : Int), .slice (some ⟨w.heap.size, n, none⟩) (m - n) (m - n), .slice (some ⟨w.heap.size, 0, none⟩) m m, .int .i64 (n : Int), .slice (some ⟨w.heap.size, 0, none⟩) n m, .int .i64 (k : Int), .int .i64 ((n : Int) + k), .int .i64 ((n : Int) + k)].getD kk undef) (by kernel_rfl) (by kernel_rfl) ⟨fun _ => rfl, fun h => by cases h⟩ ?_ ?_
      · intro L tm w' hall hS hsz hlow hval
        have ht : tm = #[.slice (some A) 1 cA, .int .i64 (m : Int), undef, undef, .slice none 0 0, .int .u64 0, .int .u64 (m : Int), .slice (some ⟨w.heap.size, 0, none⟩) m m, .int .i64 ((n : Int) + k), .int .i64 (m : Int), .bool false, undef, .tuple #[.int .u64 0, .int .u64 (m : Int)], .slice (some A) 1 cA, .int .i64 1, .int .u64 1, .int .i64 (m : Int), .int .u64 (m : Int), .tuple #[.int .u64 0, .int .u64 (m : Int)], .int .u64 0, .int .u64 (m : Int), .int .u64 0, .bool false, .bool false, .int .u64 (m : Int), .bool (decide (9223372036854775807 < (m : Int))), .bool (decide (9223372036854775807 < (m : Int))), undef, .int .u64 (m : Int), .int .i64 (m : Int), .slice (some ⟨w.heap.size, 0, none⟩) m m, .slice (some ⟨w.heap.size, 0, none⟩) m m, .slice (some A) 1 cA, .int .i64 1, .int .i64 (n : Int), .slice (some ⟨w.heap.size, 0, none⟩) m m, .int .i64 (m : Int), .bool true, .int .i64 (n : Int), .slice (some ⟨w.heap.size, 0, none⟩) m m, .int .i64 (n : Int), .slice (some ⟨w.heap.size, n, none⟩) (m - n) (m - n), .slice (some ⟨w.heap.size, 0, none⟩) m m, .int .i64 (n : Int), .slice (some ⟨w.heap.size, 0, none⟩) n m, .int .i64 (k : Int), .int .i64 ((n : Int) + k), undef] := by
          refine arr_of _ _ hsz fun t ht => ?_
          have ht' : t < 48 := ht
          rcases (by omega : t = 0 ∨ t = 1 ∨ t = 2 ∨ t = 3 ∨ t = 4 ∨ t = 5 ∨ t = 6 ∨ t = 7 ∨ t = 8 ∨ t = 9 ∨ t = 10 ∨ t = 11 ∨ t = 12 ∨ t = 13 ∨ t = 14 ∨ t = 15 ∨ t = 16 ∨ t = 17 ∨ t = 18 ∨ t = 19 ∨ t = 20 ∨ t = 21 ∨ t = 22 ∨ t = 23 ∨ t = 24 ∨ t = 25 ∨ t = 26 ∨ t = 27 ∨ t = 28 ∨ t = 29 ∨ t = 30 ∨ t = 31 ∨ t = 32 ∨ t = 33 ∨ t = 34 ∨ t = 35 ∨ t = 36 ∨ t = 37 ∨ t = 38 ∨ t = 39 ∨ t = 40 ∨ t = 41 ∨ t = 42 ∨ t = 43 ∨ t = 44 ∨ t = 45 ∨ t = 46 ∨ t = 47) with rfl | rfl | rfl | rfl | rfl | rfl | rfl | rfl | rfl | rfl | rfl | rfl | rfl | rfl | rfl | rfl | rfl | rfl | rfl | rfl | rfl | rfl | rfl | rfl | rfl | rfl | rfl | rfl | rfl | rfl | rfl | rfl | rfl | rfl | rfl | rfl | rfl | rfl | rfl | rfl | rfl | rfl | rfl | rfl | rfl | rfl | rfl | rfl
          · exact hlow 0 (by kernel_rfl)
          · exact hlow 1 (by kernel_rfl)
          · exact hlow 2 (by kernel_rfl)
          · exact hlow 3 (by kernel_rfl)
          · exact hlow 4 (by kernel_rfl)
          · exact hlow 5 (by kernel_rfl)
          · exact hlow 6 (by kernel_rfl)
          · exact hlow 7 (by kernel_rfl)
          · exact hval 9 _ 8 rfl rfl
          · exact hlow 9 (by kernel_rfl)
          · exact hlow 10 (by kernel_rfl)
          · exact hlow 11 (by kernel_rfl)
          · exact hlow 12 (by kernel_rfl)
          · exact hlow 13 (by kernel_rfl)
          · exact hlow 14 (by kernel_rfl)
          · exact hlow 15 (by kernel_rfl)
          · exact hlow 16 (by kernel_rfl)
          · exact hlow 17 (by kernel_rfl)
          · exact hlow 18 (by kernel_rfl)
          · exact hlow 19 (by kernel_rfl)
          · exact hlow 20 (by kernel_rfl)
          · exact hlow 21 (by kernel_rfl)
          · exact hlow 22 (by kernel_rfl)
          · exact hlow 23 (by kernel_rfl)
          · exact hlow 24 (by kernel_rfl)
          · exact hlow 25 (by kernel_rfl)
          · exact hlow 26 (by kernel_rfl)
          · exact hlow 27 (by kernel_rfl)
          · exact hlow 28 (by kernel_rfl)
          · exact hlow 29 (by kernel_rfl)
          · exact hlow 30 (by kernel_rfl)
          · exact hlow 31 (by kernel_rfl)
          · exact hlow 32 (by kernel_rfl)
          · exact hlow 33 (by kernel_rfl)
          · exact hlow 34 (by kernel_rfl)
          · exact hlow 35 (by kernel_rfl)
          · exact hlow 36 (by kernel_rfl)
          · exact hlow 37 (by kernel_rfl)
          · exact hval 0 _ 38 rfl rfl
          · exact hval 1 _ 39 rfl rfl
          · exact hval 2 _ 40 rfl rfl
          · exact hval 3 _ 41 rfl rfl
          · exact hval 4 _ 42 rfl rfl
          · exact hval 5 _ 43 rfl rfl
          · exact hval 6 _ 44 rfl rfl
          · exact hval 7 _ 45 rfl rfl
          · exact hval 8 _ 46 rfl rfl
          · exact hlow 47 (by kernel_rfl)
        subst ht
        clear hlow hval hsz
        obtain rfl := hS.2 (hall 7 (by decide))
        clear hS hall
        go_wp2
        go_roundw
        case rel => exact ⟨_, _, _, _, _, _, _, _, _, _, _, _, _, _, ⟨n + k, by omega, by omega, by go_num, H4.out.1, H4.out.2⟩, rfl⟩
        case measure => simp [intOf]; omega
      · intro L a w' kk op hLs ho hLi hLd hLn hS hlow hdep hold
        have hkk : kk < 10 := (Array.getElem?_eq_some_iff.1 ho).1
        have l7 : a.tmps[7]?.getD undef = .slice (some ⟨w.heap.size, 0, none⟩) m m := by rw [← Array.getD_eq_getD_getElem?]; exact hlow 7 (by kernel_rfl)
        have D : ∀ j oj d, edgeB _ kk j = true → _ → _ → a.tmps[d]?.getD undef = _ := fun j oj d h1 h2 h3 => (Array.getD_eq_getD_getElem? ..).symm.trans (hdep j oj d h1 h2 h3)
        rcases (by omega : kk = 0 ∨ kk = 1 ∨ kk = 2 ∨ kk = 3 ∨ kk = 4 ∨ kk = 5 ∨ kk = 6 ∨ kk = 7 ∨ kk = 8 ∨ kk = 9) with rfl | rfl | rfl | rfl | rfl | rfl | rfl | rfl | rfl | rfl
        · obtain rfl := Option.some.inj ho
          have l8 : a.tmps[8]?.getD undef = .int .i64 (n : Int) := (Array.getD_eq_getD_getElem? ..).symm.trans (hold 9 _ 8 (by kernel_rfl) rfl rfl)
          exact ⟨rfl, .inl ⟨w', by simp [execOp, Act.eval, l8, go_sem], keepL7 (by decide) hS⟩⟩
        · obtain rfl := Option.some.inj ho
          exact ⟨rfl, .inl ⟨w', by simp [execOp, Act.eval, l7, go_sem], keepL7 (by decide) hS⟩⟩
        · obtain rfl := Option.some.inj ho
          have l8 : a.tmps[8]?.getD undef = .int .i64 (n : Int) := (Array.getD_eq_getD_getElem? ..).symm.trans (hold 9 _ 8 (by kernel_rfl) rfl rfl)
          exact ⟨rfl, .inl ⟨w', by simp [execOp, Act.eval, l8, go_sem], keepL7 (by decide) hS⟩⟩
        · obtain rfl := Option.some.inj ho
          have e39 : a.tmps[39]?.getD undef = .slice (some ⟨w.heap.size, 0, none⟩) m m := D 1 _ 39 (by kernel_rfl) rfl rfl
          have e40 : a.tmps[40]?.getD undef = .int .i64 (n : Int) := D 2 _ 40 (by kernel_rfl) rfl rfl
          exact ⟨rfl, .inl ⟨w', by simp [execOp, Act.eval, e39, e40, hne, hn0, hnm, go_sem], keepL7 (by decide) hS⟩⟩
        · obtain rfl := Option.some.inj ho
          exact ⟨rfl, .inl ⟨w', by simp [execOp, Act.eval, l7, go_sem], keepL7 (by decide) hS⟩⟩
        · obtain rfl := Option.some.inj ho
          have l8 : a.tmps[8]?.getD undef = .int .i64 (n : Int) := (Array.getD_eq_getD_getElem? ..).symm.trans (hold 9 _ 8 (by kernel_rfl) rfl rfl)
          exact ⟨rfl, .inl ⟨w', by simp [execOp, Act.eval, l8, go_sem], keepL7 (by decide) hS⟩⟩
        · obtain rfl := Option.some.inj ho
          have e42 : a.tmps[42]?.getD undef = .slice (some ⟨w.heap.size, 0, none⟩) m m := D 4 _ 42 (by kernel_rfl) rfl rfl
          have e43 : a.tmps[43]?.getD undef = .int .i64 (n : Int) := D 5 _ 43 (by kernel_rfl) rfl rfl
          exact ⟨rfl, .inl ⟨w', by simp [execOp, Act.eval, e42, e43, hn0, hnm, go_sem], keepL7 (by decide) hS⟩⟩
        · obtain rfl := Option.some.inj ho
          have e41 : a.tmps[41]?.getD undef = .slice (some ⟨w.heap.size, n, none⟩) (m - n) (m - n) := D 3 _ 41 (by kernel_rfl) rfl rfl
          have e44 : a.tmps[44]?.getD undef = .slice (some ⟨w.heap.size, 0, none⟩) n m := D 6 _ 44 (by kernel_rfl) rfl rfl
          obtain rfl : w' = wr.drew := hS.1 hLi
          have h1 := HCP.out
          exact ⟨rfl, .inl ⟨w5, by simp [execOp, Act.eval, e41, e44, resolve, invoke, builtin, h1, Result.andThen], setL7 hLs rfl⟩⟩
        · obtain rfl := Option.some.inj ho
          have e38 : a.tmps[38]?.getD undef = .int .i64 (n : Int) := D 0 _ 38 (by kernel_rfl) rfl rfl
          have e45 : a.tmps[45]?.getD undef = .int .i64 (k : Int) := D 7 _ 45 (by kernel_rfl) rfl rfl
          exact ⟨rfl, .inl ⟨w', by simp [execOp, Act.eval, e38, e45, hwr, go_sem], keepL7 (by decide) hS⟩⟩
        · obtain rfl := Option.some.inj ho
          have e46 : a.tmps[46]?.getD undef = .int .i64 ((n : Int) + k) := D 8 _ 46 (by kernel_rfl) rfl rfl
          exact ⟨rfl, .inl ⟨w', by simp [execOp, Act.eval, e46, go_sem], keepL7 (by decide) hS⟩⟩
    · obtain rfl : n = m := by omega
      rw [repW_all] at hB
      go_wp2
      go_ret
      exact ⟨_, rfl, Nat.le_refl _, hB.out, hb.out⟩
set_option maxRecDepth 100000 in
set_option maxHeartbeats 1000000 in
theorem repeat_none (A : Addr) (cA : Nat) (w : World) :
    Calls Tryd.prog 79 #[.slice (some A) 1 cA, .int .i64 0] w fun e w' => ∃ g, e = .returned (.slice (some ⟨g, 0, none⟩) 0 0) ∧ w.heap.size ≤ g ∧ BlockIs w' g 3 (ic (List.replicate 0 1000)).toArray ∧ Below w.heap.size w w' := by
  have HMUL : Hid (∀ W : World, Calls Tryd.prog 108 #[.int .u64 1, .int .u64 0] W fun e w' => e = .returned (.tuple #[.int .u64 0, .int .u64 0]) ∧ w' = W) := fun W => by
    have h := Tryd.bits_Mul 1 0 (by omega) (by omega) W
    rw [show 1 * 0 / 18446744073709551616 = 0 by omega, show 1 * 0 % 18446744073709551616 = 0 by omega] at h
    exact h
  have hmk := run_make_row' (P := Tryd.prog) 24 3 (.int .i64 0) 8 Tryd.underlying24 infoI rfl .i64 .i64 0 (by omega) (by omega)
  have hmk0 : ∀ W : World, (Instr.makeSlice 24 (.int .i64 0) (.int .i64 0)).run Tryd.prog W = .ok (.slice (some ⟨W.heap.size, 0, none⟩) 0 0) (W.alloc (.cells (madeCells #[.int .i64 0] 0) 3)) := fun W => hmk W
  clear hmk
  have h1 : BlockIs (w.alloc (.cells (madeCells #[.int .i64 0] 0) 3)) w.heap.size 3 #[] := (BlockIs.new w 3 (madeCells #[.int .i64 0] 0)).to (by simp [madeCells])
  have h2 := (Below.refl w.heap.size w).alloc (Nat.le_refl _) (.cells (madeCells #[.int .i64 0] 0) 3)
  have hcp := run_copy_row (P := Tryd.prog) (ty := 3) (w.alloc (.cells (madeCells #[.int .i64 0] 0) 3)) 24 24 3 w.heap.size 0 0 0 A 1 cA #[] 3 [] Tryd.underlying24 infoI1 h1 (by show 0 = min 1 0; omega) (fun j v hj => by simp at hj) (by simp) (by simp)
  have h3 := below_setRow h2 (Nat.le_refl _) #[]
  have h4 : BlockIs ((w.alloc (.cells (madeCells #[.int .i64 0] 0) 3)).setRow w.heap.size #[]) w.heap.size 3 #[] := setRow_heap _ _ _ _ _ _ h1
  have H4 := Lib.hid (And.intro h3 h4)
  have HCP := Lib.hid hcp
  clear h1 h2 h3 h4 hcp
  go_enter Tryd.func79, Tryd.ntmps79
  go_wp2_with fail
  refine (HMUL.out _).mono ?_
  rintro e w' ⟨rfl, hww⟩
  obtain rfl := hww.symm
  go_wp2
  rw [HCP.out]
  show Oper.upon _ _ _ _ _ ((Result.ok (goInt 0) ((w.alloc (.cells (madeCells #[.int .i64 0] 0) 3)).setRow w.heap.size #[])).andThen _)
  generalize World.setRow _ _ _ = w4 at *
  clear HCP
  go_wp2
  refine wp_loop_rounds 1 ?_
  rw [rounds_succ]
  go_wp2
  go_ret
  exact ⟨w.heap.size, rfl, Nat.le_refl _, H4.out.2, H4.out.1⟩
end Go.Proofs.YtejgpecmjfgfbaaDoor

namespace Go.Proofs.YtejgpecmjfgfbaaDoor
set_option linter.unusedSimpArgs false
set_option linter.unusedVariables false
open Go.RowKit
structure LeftV where
  v : Value
  g : Nat
  c : Nat
def LeftOk (H : Nat) (ord : List Nat) (x : LeftV) (W : World) : Prop := (∃ A c, x.v = .slice A ord.length c) ∧ (0 < ord.length → x.v = .slice (some ⟨x.g, 0, none⟩) ord.length x.c ∧ x.c ≤ maxLen ∧ H ≤ x.g ∧ ∃ cur : Array Value, BlockIs W x.g 3 cur ∧ cur.size = x.c ∧ ord.length ≤ x.c ∧ ∀ j, j < ord.length → cur[j]? = (ic (natI ord))[j]?)
theorem LeftOk.below {H : Nat} {ord : List Nat} {x : LeftV} {W W' : World} (h : LeftOk H ord x W) (hb : Below W.heap.size W W') : LeftOk H ord x W' := ⟨h.1, fun hp => by
  obtain ⟨h1, h2, h3, cur, h4, h5⟩ := h.2 hp
  exact ⟨h1, h2, h3, cur, h4.below hb, h5⟩⟩
theorem LeftOk.lower {H H' : Nat} {ord : List Nat} {x : LeftV} {W : World} (h : LeftOk H ord x W) (hH : H' ≤ H) : LeftOk H' ord x W := ⟨h.1, fun hp => by
  obtain ⟨h1, h2, h3, h4⟩ := h.2 hp
  exact ⟨h1, h2, Nat.le_trans hH h3, h4⟩⟩
theorem eql_none (w : World) (l c : Nat) : (binOp BinOp.eql 24 (.slice none l c) (.slice none 0 0)).run Tryd.prog w = .ok (.bool true) w := by
  simp [binOp, run_equal_slice_nil w 24 3 none l c Tryd.underlying24, Result.andThen]
set_option maxRecDepth 100000 in
theorem cloneL (D : Option Addr) (d : Nat) (ord : List Nat) (W : World) (hr : Row W D (ic (natI ord))) (hn : ord.length ≤ 1000) : Calls Tryd.prog 78 #[.slice D ord.length d] W fun e w' => ∃ x : LeftV, e = .returned x.v ∧ LeftOk W.heap.size ord x w' ∧ Below W.heap.size W w' := by
  have hnl : (natI ord).length = ord.length := by simp
  cases D with
  | none =>
    have h0 : ord.length = 0 := by
      by_cases h : 0 < ord.length
      · obtain ⟨ad, h1, _⟩ := hr.int (k := 0) (by rw [hnl]; exact h)
        cases h1
      · omega
    have HL : Hid (LeftOk W.heap.size ord ⟨.slice none 0 0, 0, 0⟩ W) := ⟨⟨none, 0, by rw [h0]⟩, fun h => by omega⟩
    rw [h0]
    clear h0 hr hnl hn
    have heq := eql_none W 0 d
    go_enter Tryd.func78, Tryd.ntmps78
    go_wp2
    go_ret
    exact ⟨_, rfl, HL.out, Below.refl _ _⟩
  | some ad =>
    have h := clone_some ad d (natI ord) W hr (by rw [hnl]; omega)
    rw [hnl] at h
    refine h.mono ?_
    rintro e w' ⟨ad', c', rfl, ho, hb⟩
    by_cases h0 : 0 < ord.length
    · obtain ⟨g, cur, hA, hg, hB, h1, h2, h3, h4⟩ := own_block ho h0
      injection hA with hA
      subst hA
      refine ⟨⟨_, g, c'⟩, rfl, ⟨⟨_, _, rfl⟩, fun _ => ⟨rfl, h2, hg, cur, hB, by rw [h3, Nat.mul_one], h1, fun j hj => ?_⟩⟩, hb⟩
      rw [← h4, ← Array.getElem?_toList, List.getElem?_take_of_lt (by omega)]
    · exact ⟨⟨_, 0, c'⟩, rfl, ⟨⟨_, _, rfl⟩, fun h => absurd h h0⟩, hb⟩
structure Lq where
  L : LeftV
  gF : Nat
  gB : Nat
  gE : Nat
  gP : Nat
  G : Nat
def lqC (J : Value) (n : Nat) (B : Nat → Nat) (m : Nat) (x : Lq) : Array Value := #[J, .int .i64 (n : Int), .int .u64 (B 0 : Int), .int .u64 (B 1 : Int), .int .u64 (B 2 : Int), .int .u64 (B 3 : Int), .int .u64 (B 4 : Int), .int .u64 (B 5 : Int), .int .u64 (B 6 : Int), .int .u64 (B 7 : Int), x.L.v, .slice (some ⟨x.gF, 0, none⟩) m m, .slice (some ⟨x.gE, 0, none⟩) n n, .slice (some ⟨x.gP, 0, none⟩) n n]
def lqZ : Array Value := #[.slice none 0 0, .int .i64 0, .int .u64 0, .int .u64 0, .int .u64 0, .int .u64 0, .int .u64 0, .int .u64 0, .int .u64 0, .int .u64 0, .slice none 0 0, .slice none 0 0, .slice none 0 0, .slice none 0 0]
/-- What has been made of a maker. -/
def LqS (w0 : World) (b : Nat) (wl : Array Value) (J : Value) (n : Nat) (B : Nat → Nat) (m : Nat) (ord : List Nat) (x : Lq) (L : Array Bool) (W : World) : Prop :=
  Below w0.heap.size w0 W ∧ BlockIs W b 72 wl ∧
  (L.getD 2 true = true → LeftOk w0.heap.size ord x.L W) ∧
  (L.getD 4 true = true → w0.heap.size ≤ x.gF ∧ BlockIs W x.gF 3 (ic (List.replicate m 0)).toArray) ∧
  (L.getD 5 true = true → BlockIs W x.gB 3 #[.int .i64 1000]) ∧
  (L.getD 8 true = true → w0.heap.size ≤ x.gE ∧ BlockIs W x.gE 3 (ic (List.replicate n 1000)).toArray) ∧
  (L.getD 11 true = true → w0.heap.size ≤ x.gP ∧ BlockIs W x.gP 78 (spc (List.replicate n ⟨0, 0, 0⟩)).toArray) ∧
  (L.getD 13 true = true → w0.heap.size ≤ x.G ∧ BlockIs W x.G 108 (if L.getD 14 true = true then lqC J n B m x else lqZ)) ∧
  (L.getD 2 true = true → L.getD 4 true = true → 0 < ord.length → x.L.g ≠ x.gF) ∧
  (L.getD 2 true = true → L.getD 8 true = true → 0 < ord.length → x.L.g ≠ x.gE) ∧
  (L.getD 4 true = true → L.getD 8 true = true → x.gF ≠ x.gE)
section
variable {w0 : World} {b : Nat} {wl : Array Value} {J : Value} {n m : Nat} {B : Nat → Nat} {ord : List Nat} {x : Lq} {L : Array Bool} {W W' : World}
theorem LqS.below (h : LqS w0 b wl J n B m ord x L W) (hb : Below W.heap.size W W') : LqS w0 b wl J n B m ord x L W' := by
  obtain ⟨h0, h1, h2, h4, h5, h8, h11, h13, d⟩ := h
  exact ⟨h0.trans (hb.mono h0.size), h1.below hb, fun e => (h2 e).below hb, fun e => ⟨(h4 e).1, (h4 e).2.below hb⟩, fun e => (h5 e).below hb, fun e => ⟨(h8 e).1, (h8 e).2.below hb⟩, fun e => ⟨(h11 e).1, (h11 e).2.below hb⟩, fun e => ⟨(h13 e).1, (h13 e).2.below hb⟩, d⟩
theorem LqS.other (h : LqS w0 b wl J n B m ord x L W) {i : Nat} (i2 : i ≠ 2) (i4 : i ≠ 4) (i5 : i ≠ 5) (i8 : i ≠ 8) (i11 : i ≠ 11) (i13 : i ≠ 13) (i14 : i ≠ 14) : LqS w0 b wl J n B m ord x (L.setIfInBounds i true) W := by
  unfold LqS
  rw [listed_ne i2, listed_ne i4, listed_ne i5, listed_ne i8, listed_ne i11, listed_ne i13, listed_ne i14]
  exact h
theorem LqS.setL (h : LqS w0 b wl J n B m ord x L W) (hb : Below W.heap.size W W') {y : LeftV} (hy : LeftOk W.heap.size ord y W') (h14 : L.getD 14 true = false) : LqS w0 b wl J n B m ord { x with L := y } (L.setIfInBounds 2 true) W' := by
  have hH := h.1.size
  obtain ⟨h0, h1, h2, h4, h5, h8, h11, h13, d1, d2, d3⟩ := h.below hb
  unfold LqS
  rw [listed_ne (i := 2) (j := 4) (by decide), listed_ne (i := 2) (j := 5) (by decide), listed_ne (i := 2) (j := 8) (by decide), listed_ne (i := 2) (j := 11) (by decide), listed_ne (i := 2) (j := 13) (by decide), listed_ne (i := 2) (j := 14) (by decide)]
  exact ⟨h0, h1, fun _ => hy.lower hH, h4, h5, h8, h11, fun e => by rw [if_neg (by rw [h14]; decide)]; have := h13 e; rw [if_neg (by rw [h14]; decide)] at this; exact this, fun _ e hp => by obtain ⟨_, _, hg, _⟩ := hy.2 hp; have := (h.2.2.2.1 e).2.lt; show y.g ≠ x.gF; omega, fun _ e hp => by obtain ⟨_, _, hg, _⟩ := hy.2 hp; have := (h.2.2.2.2.2.1 e).2.lt; show y.g ≠ x.gE; omega, d3⟩
theorem LqS.setF (h : LqS w0 b wl J n B m ord x L W) (hb : Below W.heap.size W W') {g : Nat} (hg : W.heap.size ≤ g) (hB : BlockIs W' g 3 (ic (List.replicate m 0)).toArray) (h14 : L.getD 14 true = false) : LqS w0 b wl J n B m ord { x with gF := g } (L.setIfInBounds 4 true) W' := by
  have hH := h.1.size
  obtain ⟨h0, h1, h2, h4, h5, h8, h11, h13, d1, d2, d3⟩ := h.below hb
  unfold LqS
  rw [listed_ne (i := 4) (j := 2) (by decide), listed_ne (i := 4) (j := 5) (by decide), listed_ne (i := 4) (j := 8) (by decide), listed_ne (i := 4) (j := 11) (by decide), listed_ne (i := 4) (j := 13) (by decide), listed_ne (i := 4) (j := 14) (by decide)]
  exact ⟨h0, h1, h2, fun _ => ⟨Nat.le_trans hH hg, hB⟩, h5, h8, h11, fun e => by rw [if_neg (by rw [h14]; decide)]; have := h13 e; rw [if_neg (by rw [h14]; decide)] at this; exact this, fun e _ hp => by have := (show x.L.g < W.heap.size by obtain ⟨_, _, _, cur, hc, _⟩ := (h.2.2.1 e).2 hp; exact hc.lt); show x.L.g ≠ g; omega, d2, fun _ e => by have := (h.2.2.2.2.2.1 e).2.lt; show g ≠ x.gE; omega⟩
theorem LqS.setB (h : LqS w0 b wl J n B m ord x L W) (hb : Below W.heap.size W W') {g : Nat} (hB : BlockIs W' g 3 #[.int .i64 1000]) (h14 : L.getD 14 true = false) : LqS w0 b wl J n B m ord { x with gB := g } (L.setIfInBounds 5 true) W' := by
  have hH := h.1.size
  obtain ⟨h0, h1, h2, h4, h5, h8, h11, h13, d1, d2, d3⟩ := h.below hb
  unfold LqS
  rw [listed_ne (i := 5) (j := 2) (by decide), listed_ne (i := 5) (j := 4) (by decide), listed_ne (i := 5) (j := 8) (by decide), listed_ne (i := 5) (j := 11) (by decide), listed_ne (i := 5) (j := 13) (by decide), listed_ne (i := 5) (j := 14) (by decide)]
  exact ⟨h0, h1, h2, h4, fun _ => hB, h8, h11, fun e => by rw [if_neg (by rw [h14]; decide)]; have := h13 e; rw [if_neg (by rw [h14]; decide)] at this; exact this, d1, d2, d3⟩
theorem LqS.setE (h : LqS w0 b wl J n B m ord x L W) (hb : Below W.heap.size W W') {g : Nat} (hg : W.heap.size ≤ g) (hB : BlockIs W' g 3 (ic (List.replicate n 1000)).toArray) (h14 : L.getD 14 true = false) : LqS w0 b wl J n B m ord { x with gE := g } (L.setIfInBounds 8 true) W' := by
  have hH := h.1.size
  obtain ⟨h0, h1, h2, h4, h5, h8, h11, h13, d1, d2, d3⟩ := h.below hb
  unfold LqS
  rw [listed_ne (i := 8) (j := 2) (by decide), listed_ne (i := 8) (j := 4) (by decide), listed_ne (i := 8) (j := 5) (by decide), listed_ne (i := 8) (j := 11) (by decide), listed_ne (i := 8) (j := 13) (by decide), listed_ne (i := 8) (j := 14) (by decide)]
  exact ⟨h0, h1, h2, h4, h5, fun _ => ⟨Nat.le_trans hH hg, hB⟩, h11, fun e => by rw [if_neg (by rw [h14]; decide)]; have := h13 e; rw [if_neg (by rw [h14]; decide)] at this; exact this, d1, fun e _ hp => by have := (show x.L.g < W.heap.size by obtain ⟨_, _, _, cur, hc, _⟩ := (h.2.2.1 e).2 hp; exact hc.lt); show x.L.g ≠ g; omega, fun e _ => by have := (h.2.2.2.1 e).2.lt; show x.gF ≠ g; omega⟩
theorem LqS.setP (h : LqS w0 b wl J n B m ord x L W) (hb : Below W.heap.size W W') {g : Nat} (hg : W.heap.size ≤ g) (hB : BlockIs W' g 78 (spc (List.replicate n ⟨0, 0, 0⟩)).toArray) (h14 : L.getD 14 true = false) : LqS w0 b wl J n B m ord { x with gP := g } (L.setIfInBounds 11 true) W' := by
  have hH := h.1.size
  obtain ⟨h0, h1, h2, h4, h5, h8, h11, h13, d1, d2, d3⟩ := h.below hb
  unfold LqS
  rw [listed_ne (i := 11) (j := 2) (by decide), listed_ne (i := 11) (j := 4) (by decide), listed_ne (i := 11) (j := 5) (by decide), listed_ne (i := 11) (j := 8) (by decide), listed_ne (i := 11) (j := 13) (by decide), listed_ne (i := 11) (j := 14) (by decide)]
  exact ⟨h0, h1, h2, h4, h5, h8, fun _ => ⟨Nat.le_trans hH hg, hB⟩, fun e => by rw [if_neg (by rw [h14]; decide)]; have := h13 e; rw [if_neg (by rw [h14]; decide)] at this; exact this, d1, d2, d3⟩
theorem LqS.setG (h : LqS w0 b wl J n B m ord x L W) (hb : Below W.heap.size W W') {g : Nat} (hg : W.heap.size ≤ g) (hB : BlockIs W' g 108 lqZ) (h14 : L.getD 14 true = false) : LqS w0 b wl J n B m ord { x with G := g } (L.setIfInBounds 13 true) W' := by
  have hH := h.1.size
  obtain ⟨h0, h1, h2, h4, h5, h8, h11, h13, d1, d2, d3⟩ := h.below hb
  unfold LqS
  rw [listed_ne (i := 13) (j := 2) (by decide), listed_ne (i := 13) (j := 4) (by decide), listed_ne (i := 13) (j := 5) (by decide), listed_ne (i := 13) (j := 8) (by decide), listed_ne (i := 13) (j := 11) (by decide), listed_ne (i := 13) (j := 14) (by decide)]
  exact ⟨h0, h1, h2, h4, h5, h8, h11, fun _ => ⟨Nat.le_trans hH hg, by rw [if_neg (by rw [h14]; decide)]; exact hB⟩, d1, d2, d3⟩
theorem LqS.store (h : LqS w0 b wl J n B m ord x L W) (hs : L.size = 15) (h13 : L.getD 13 true = true) : LqS w0 b wl J n B m ord x (L.setIfInBounds 14 true) (W.setRow x.G (lqC J n B m x)) := by
  obtain ⟨h0, h1, h2, h4, h5, h8, h11, hh, d⟩ := h
  obtain ⟨hG, hGB⟩ := hh h13
  have hne : ∀ {g : Nat} {t : TypeId} {cs : Array Value}, BlockIs W g t cs → t ≠ 108 → BlockIs (W.setRow x.G (lqC J n B m x)) g t cs := fun hg ht => (setRow_other _ _ _ _ (type_ne hg hGB ht)).trans hg
  unfold LqS
  rw [listed_ne (i := 14) (j := 2) (by decide), listed_ne (i := 14) (j := 4) (by decide), listed_ne (i := 14) (j := 5) (by decide), listed_ne (i := 14) (j := 8) (by decide), listed_ne (i := 14) (j := 11) (by decide), listed_ne (i := 14) (j := 13) (by decide)]
  refine ⟨below_setRow h0 hG _, hne h1 (by decide), fun e => ⟨(h2 e).1, fun hp => ?_⟩, fun e => ⟨(h4 e).1, hne (h4 e).2 (by decide)⟩, fun e => hne (h5 e) (by decide), fun e => ⟨(h8 e).1, hne (h8 e).2 (by decide)⟩, fun e => ⟨(h11 e).1, hne (h11 e).2 (by decide)⟩, fun _ => ⟨hG, ?_⟩, d⟩
  · obtain ⟨a1, a2, a3, cur, a4, a5⟩ := (h2 e).2 hp
    exact ⟨a1, a2, a3, cur, hne a4 (by decide), a5⟩
  · rw [if_pos (by rw [getD_set_true, if_pos ⟨rfl, by rw [hs]; decide⟩])]
    exact setRow_heap _ _ _ _ _ _ hGB
end
theorem exec_store14 {o : Oper} {ev : Operand → Value} {X Y : Operand} {g : Nat} {cs ds : Array Value} {w : World} (ho : o.op = .store 108 X Y) (hx : ev X = .pointer (some ⟨g, 0, none⟩)) (hy : ev Y = .agg ds) (h : BlockIs w g 108 cs) (hc : cs.size = 14) (hs : ds.size = 14) (h1 : ds.all (·.oneCell') = true) :
    (execOp ev o).run Tryd.prog w = .ok .skip (w.setRow g ds) := by
  have hst := run_storeVar_row (P := Tryd.prog) w g 108 108 cs ds h (by rw [hs]; kernel_rfl) (by rw [hc, hs]) h1
  unfold execOp
  simp only [ho, hx, hy, Instr.storeAt, Instr.sureAddr, Sem.run_bind, Sem.run_pure, Result.andThen_ok, hst]
theorem one14 {n m : Nat} {B : Nat → Nat} {x : Lq} {AV : Option Addr} {l cV : Nat} {AA : Option Addr} {k c : Nat} (hv : x.L.v = .slice AV l cV) : (lqC (.slice AA k c) n B m x).all (·.oneCell') = true := by
  unfold lqC
  rw [hv]
  simp [Value.oneCell']
theorem inv_step {L : Array Bool} {k : Nat} (h1 : L.getD 14 true = true → L.getD 12 true = true) (h2 : L.getD 12 true = true → L.getD 8 true = true ∧ L.getD 2 true = true) (a : k = 14 → L.getD 12 true = true) (b : k = 12 → L.getD 8 true = true ∧ L.getD 2 true = true) : ((L.setIfInBounds k true).getD 14 true = true → (L.setIfInBounds k true).getD 12 true = true) ∧ ((L.setIfInBounds k true).getD 12 true = true → (L.setIfInBounds k true).getD 8 true = true ∧ (L.setIfInBounds k true).getD 2 true = true) := by
  rw [getD_set_true, getD_set_true, getD_set_true, getD_set_true]
  constructor
  · intro h
    by_cases e : k = 12 ∧ 12 < L.size
    · rw [if_pos e]
    · rw [if_neg e]
      by_cases e2 : k = 14 ∧ 14 < L.size
      · exact a e2.1
      · rw [if_neg e2] at h; exact h1 h
  · intro h
    have hp : L.getD 8 true = true ∧ L.getD 2 true = true := by
      by_cases e2 : k = 12 ∧ 12 < L.size
      · exact b e2.1
      · rw [if_neg e2] at h; exact h2 h
    constructor
    · split
      · rfl
      · exact hp.1
    · split
      · rfl
      · exact hp.2
set_option maxRecDepth 100000 in
set_option maxHeartbeats 8000000 in
theorem listPlan_any (A D : Option Addr) (c d : Nat) (js : List J) (E : List Pr) (m : Nat) (ord : List Nat) (w : World) (hr : Row w A (jc js)) (ho : Row w D (ic (natI ord))) (hok : ∀ j ∈ js, okJ j = true) (h8 : js.length ≤ 8) (hirr : irrB js.length E js.length = true) (hm : 1 ≤ m ∧ m ≤ 4) (hp : ord.Perm (List.range js.length)) :
    Calls Tryd.prog 48 #[.agg (wlC (.slice A js.length c) (js.length : Int) (befN js.length (tabB js.length E))), .int .i64 (m : Int), .slice D ord.length d] w fun e w' => ∃ g, e = .returned (.slice (some ⟨g, 0, none⟩) js.length js.length) ∧ w.heap.size ≤ g ∧ BlockIs w' g 78 (spc (listL js (tabB js.length E) ord m)).toArray ∧ Below w.heap.size w w' := by
  obtain ⟨hol, hnd, hord, hall⟩ := perm_parts hp
  have HRUNS := Lib.hid (fun (now : Int) (s : LsS) (h : OkL js m now s) (hl : leftL ord s.ends ≠ []) => runs_after h hok h8 hord hall hirr (by omega) hl)
  have HOK := Lib.hid hok
  have HORD := Lib.hid hord
  have HND := Lib.hid hnd
  have HOL := Lib.hid hol
  have HR := Lib.hid hr
  have HO := Lib.hid ho
  clear hok hord hnd hirr hall hp hr ho
  obtain ⟨T, hT⟩ : ∃ T, tabB js.length E = T := ⟨_, rfl⟩
  rw [hT] at HRUNS ⊢
  clear hT
  have HRES : Hid (listL js T ord m = runL js T ord m 1001 0 (initL js.length m)) := rfl
  generalize listL js T ord m = RES at HRES ⊢
  obtain ⟨B, hB⟩ : ∃ B, befN js.length T = B := ⟨_, rfl⟩
  have HB := Lib.hid hB
  rw [hB]
  clear hB
  have hb1 := (Below.refl w.heap.size w).alloc (Nat.le_refl _) (.cells (wlC (.slice A js.length c) (js.length : Int) B) 72)
  have hB1 := BlockIs.new w 72 (wlC (.slice A js.length c) (js.length : Int) B)
  have H1 := Lib.hid (And.intro hb1.drew hB1.drew)
  have HMF := Lib.hid (run_make_row' (P := Tryd.prog) 24 3 (.int .i64 0) 8 Tryd.underlying24 infoI rfl .i64 .i64 m (by omega) (by omega))
  have HMP := Lib.hid (run_make_rows (P := Tryd.prog) 27 78 (.agg #[.int .i64 0, .int .i64 0, .int .i64 0]) 3 24 Tryd.underlying27 infoSp .i64 .i64 js.length (by omega) (by omega))
  have ew : wlC (.slice A js.length c) (js.length : Int) B = #[.slice A js.length c, .int .i64 (js.length : Int), .int .u64 (B 0 : Int), .int .u64 (B 1 : Int), .int .u64 (B 2 : Int), .int .u64 (B 3 : Int), .int .u64 (B 4 : Int), .int .u64 (B 5 : Int), .int .u64 (B 6 : Int), .int .u64 (B 7 : Int)] := rfl
  rw [ew] at hb1 hB1 ⊢
  clear hb1 hB1 hol
  go_enter Tryd.func48, Tryd.ntmps48
  go_wp2
  rw [← ew]

  refine wp_region_detP (γ := Lq) (by kernel_rfl) (fun x L W => LqS w w.heap.size (wlC (.slice A js.length c) (js.length : Int) B) (.slice A js.length c) js.length B m ord x L W ∧ (L.getD 14 true = true → L.getD 12 true = true) ∧ (L.getD 12 true = true → L.getD 8 true = true ∧ L.getD 2 true = true)) (fun x kk => (#[.agg (wlC (.slice A js.length c) (js.length : Int) B), .slice D ord.length d, x.L.v, .int .i64 (m : Int), .slice (some ⟨x.gF, 0, none⟩) m m, .slice (some ⟨x.gB, 0, none⟩) 1 1, .slice D ord.length d, .int .i64 (js.length : Int), .slice (some ⟨x.gE, 0, none⟩) js.length js.length, .slice D ord.length d, .int .i64 (js.length : Int), .slice (some ⟨x.gP, 0, none⟩) js.length js.length, .agg (lqC (.slice A js.length c) js.length B m x), .pointer (some ⟨x.G, 0, none⟩), undef] : Array Value).getD kk undef) ⟨⟨undef, 0, 0⟩, 0, 0, 0, 0, 0⟩ (by kernel_rfl) (by kernel_rfl) ⟨⟨H1.out.1, H1.out.2, fun h => absurd (h.symm.trans (rep_getD 15 2 (by decide))) (by decide), fun h => absurd (h.symm.trans (rep_getD 15 4 (by decide))) (by decide), fun h => absurd (h.symm.trans (rep_getD 15 5 (by decide))) (by decide), fun h => absurd (h.symm.trans (rep_getD 15 8 (by decide))) (by decide), fun h => absurd (h.symm.trans (rep_getD 15 11 (by decide))) (by decide), fun h => absurd (h.symm.trans (rep_getD 15 13 (by decide))) (by decide), fun h => absurd (h.symm.trans (rep_getD 15 2 (by decide))) (by decide), fun h => absurd (h.symm.trans (rep_getD 15 2 (by decide))) (by decide), fun h => absurd (h.symm.trans (rep_getD 15 4 (by decide))) (by decide)⟩, fun h => absurd (h.symm.trans (rep_getD 15 14 (by decide))) (by decide), fun h => absurd (h.symm.trans (rep_getD 15 12 (by decide))) (by decide)⟩ ?_ ?_
  · intro x L W hall hS
    have HS := Lib.hid hS
    have HL : Hid (L.getD 2 true = true ∧ L.getD 4 true = true ∧ L.getD 8 true = true ∧ L.getD 11 true = true ∧ L.getD 13 true = true ∧ L.getD 14 true = true) := ⟨hall 2 (by show 2 < 15; decide), hall 4 (by show 4 < 15; decide), hall 8 (by show 8 < 15; decide), hall 11 (by show 11 < 15; decide), hall 13 (by show 13 < 15; decide), hall 14 (by show 14 < 15; decide)⟩
    clear hS hall H1 HMF HMP HO
    simp only [putsL]
    obtain ⟨h0, _, h2, h4, _, h8', h11, h13, d1, d2, d3⟩ := HS.out.1
    obtain ⟨l2, l4, l8, l11, l13, l14⟩ := HL.out
    have hLO := h2 l2
    obtain ⟨hgF, hF⟩ := h4 l4
    obtain ⟨hgE, hE⟩ := h8' l8
    obtain ⟨hgP, hP⟩ := h11 l11
    obtain ⟨hG0, hG⟩ := h13 l13
    rw [if_pos l14] at hG
    obtain ⟨AL, cL, hv⟩ := hLO.1
    by_cases hn0 : js.length = 0
    · have c10 := hG.cell 10
      have c13 := hG.cell 13
      simp only [lqC, List.getElem?_toArray, List.getElem?_cons_zero, List.getElem?_cons_succ] at c10 c13
      rw [hv, HOL.out, hn0] at c10
      have hol : ord = [] := List.length_eq_zero_iff.1 (HOL.out.trans hn0)
      have HPL := Lib.hid (run_end HRES.out.symm (by rw [hol]; rfl))
      have HP := Lib.hid (And.intro hP (And.intro hgP h0))
      clear h0 h2 h4 h8' h11 h13 d1 d2 d3 l2 l4 l8 l11 l13 l14 hLO hgF hF hgE hE hgP hP hG0 hG hv hol hn0 HS HL HRUNS
      go_wp2
      refine wp_loop_rounds 1 ?_
      rw [rounds_succ]
      go_wp2
      go_ret
      exact ⟨x.gP, rfl, HP.out.2.1, HP.out.1.to (by rw [← HPL.out]; rfl), HP.out.2.2⟩
    · have hpos : 0 < ord.length := by rw [HOL.out]; omega
      obtain ⟨hv2, hcm, hgL, cur, hcB, hcs, hcl, hcc⟩ := hLO.2 hpos
      have hli : leftL ord (initL js.length m).ends = ord := left_init
      obtain ⟨a, haG, hA0, hL0⟩ : ∃ a : Lm, x.G = a.G ∧ a.Ok w.heap.size ∧ LmW a (.slice A js.length c) js.length B m (leftL ord (initL js.length m).ends).length (leftL ord (initL js.length m).ends) (initL js.length m) W := ⟨⟨x.G, x.L.g, x.gF, x.gE, x.gP, x.L.c⟩, rfl, ⟨hG0, hgL, hgF, hgE, hgP, type_ne hG hcB (by decide), type_ne hG hF (by decide), type_ne hG hE (by decide), type_ne hG hP (by decide), d1 l2 l4 hpos, d2 l2 l8 hpos, type_ne hcB hP (by decide), d3 l4 l8, type_ne hF hP (by decide), type_ne hE hP (by decide), hcm⟩, ⟨hG.to (by unfold lqC lmC; rw [hv2, hli]), ⟨cur, hcB, hcs, by rw [hli]; exact hcl, fun j hj => by rw [hli] at hj ⊢; exact hcc j hj⟩, hF, hE, hP⟩⟩
      have HA := Lib.hid hA0
      have HL0 := Lib.hid (And.intro h0 hL0)
      have HPOS := Lib.hid hpos
      clear h0 h2 h4 h8' h11 h13 d1 d2 d3 l2 l4 l8 l11 l13 l14 hLO hgF hF hgE hE hgP hP hG0 hG hv hv2 hcm hgL hcB hcs hcl hcc HS HL hA0 hL0 hli hpos
      rw [haG]
      clear haG
      go_wp2
      go_loopw [8] (fun nv wr => ∃ (i : Nat) (tt : Int) (s : LsS), Hid (OkL js m tt s) ∧ Hid (runL js T ord m (1001 - i) tt s = RES) ∧ Hid ((i : Int) ≤ tt) ∧ nv = .int .i64 tt ∧ Hid (Below w.heap.size w wr ∧ LmW a (.slice A js.length c) js.length B m (leftL ord s.ends).length (leftL ord s.ends) s wr)) (fun nv _ => 1001 - (intOf nv).toNat)
      case atStart => exact ⟨0, 0, initL js.length m, ok_init, HRES.out.symm, Int.le_refl _, rfl, HL0.out⟩
      case round =>
        obtain ⟨i, tt, s, hOk, hRun, hI, rfl, hW⟩ := hrel
        clear HL0
        by_cases hle : leftL ord s.ends = []
        · have c10 := hW.out.2.1.cell 10
          have c13 := hW.out.2.1.cell 13
          simp only [lmC, List.getElem?_toArray, List.getElem?_cons_zero, List.getElem?_cons_succ] at c10 c13
          rw [hle, List.length_nil] at c10
          have HP := Lib.hid (run_end hRun.out hle)
          clear hRun hI hle
          go_wp2
          go_ret
          exact ⟨a.gP, rfl, HA.out.hP, hW.out.2.2.2.2.2.to (by rw [HP.out]), hW.out.1⟩
        · have hpos : 0 < (leftL ord s.ends).length := List.length_pos_iff.2 hle
          have c10 := hW.out.2.1.cell 10
          simp only [lmC, List.getElem?_toArray, List.getElem?_cons_zero, List.getElem?_cons_succ] at c10
          have hn0' := hOk.out.n0
          have HRA := HRUNS.out tt s hOk.out hle
          have HOq := hOk.out.start (T := T) HOK.out h8 HORD.out m (Nat.le_refl _)
          have HMORE : Hid (∀ f, 1001 - i = f + 1 → runL js T ord m f (soonL (startTo js T ord tt s m).ends tt) (startTo js T ord tt s m) = RES) := fun f hf => run_more (by rw [← hf]; exact hRun.out) hle
          have hSO := soon_out HOq HOK.out h8 HRA
          have hS4 := (hSO.2.bd HOK.out h8).1
          have hS1 := hSO.1
          have HST := Lib.hid (start_any a A c js T ord m tt s w wr HA.out HR.out HOK.out h8 hm HOL.out HND.out HORD.out hOk.out hW.out.1 (by rw [HB.out]; exact hW.out.2))
          rw [HB.out] at HST
          have HOK3 := Lib.hid hSO.2
          have HLEN := Lib.hid HOq.le
          clear hSO HOq HRA hW hRun hle
          generalize startTo js T ord tt s m = q at *
          go_wp2_with fail
          refine HST.out.mono ?_
          rintro e w5 ⟨rfl, hW5, hb5⟩
          have hNE := nextEnd_any a.G a.gE js.length q.ends tt w5 (by rw [hW5.1.cell, HLEN.out]; rfl) (rowOf hW5.2.2.2.1) (by rw [HLEN.out]; exact h8)
          have HNE := Lib.hid hNE
          have HW5 := Lib.hid (And.intro hb5 hW5)
          clear hNE hW5 hb5 HST c10
          generalize soonL q.ends tt = tn at *
          go_wp2_with fail
          refine HNE.out.mono ?_
          rintro e _ ⟨rfl, rfl⟩
          clear HNE
          go_wp2
          go_roundw
          case rel => exact ⟨i + 1, tn, q, HOK3.out, HMORE.out _ (by have := hI.out; omega), by have := hI.out; show _ ≤ _; omega, rfl, HW5.out⟩
          case measure => simp [intOf]; omega
  · intro x L ac W iq op hLs hop hLi hLd hLn ⟨hS, hI1, hI2⟩ hlow hdep
    have hq : iq < 15 := (Array.getElem?_eq_some_iff.1 hop).1
    have val_eq : ∀ (i : Nat) (y : Lq), i ≠ 12 → (∀ j, j < 15 → j ≠ i → j ≠ 12 → (#[.agg (wlC (.slice A js.length c) (js.length : Int) B), .slice D ord.length d, y.L.v, .int .i64 (m : Int), .slice (some ⟨y.gF, 0, none⟩) m m, .slice (some ⟨y.gB, 0, none⟩) 1 1, .slice D ord.length d, .int .i64 (js.length : Int), .slice (some ⟨y.gE, 0, none⟩) js.length js.length, .slice D ord.length d, .int .i64 (js.length : Int), .slice (some ⟨y.gP, 0, none⟩) js.length js.length, .agg (lqC (.slice A js.length c) js.length B m y), .pointer (some ⟨y.G, 0, none⟩), undef] : Array Value).getD j undef = (#[.agg (wlC (.slice A js.length c) (js.length : Int) B), .slice D ord.length d, x.L.v, .int .i64 (m : Int), .slice (some ⟨x.gF, 0, none⟩) m m, .slice (some ⟨x.gB, 0, none⟩) 1 1, .slice D ord.length d, .int .i64 (js.length : Int), .slice (some ⟨x.gE, 0, none⟩) js.length js.length, .slice D ord.length d, .int .i64 (js.length : Int), .slice (some ⟨x.gP, 0, none⟩) js.length js.length, .agg (lqC (.slice A js.length c) js.length B m x), .pointer (some ⟨x.G, 0, none⟩), undef] : Array Value).getD j undef) → L.getD i true = false → L.getD 12 true = false → ∀ j, L.getD j true = true → (#[.agg (wlC (.slice A js.length c) (js.length : Int) B), .slice D ord.length d, y.L.v, .int .i64 (m : Int), .slice (some ⟨y.gF, 0, none⟩) m m, .slice (some ⟨y.gB, 0, none⟩) 1 1, .slice D ord.length d, .int .i64 (js.length : Int), .slice (some ⟨y.gE, 0, none⟩) js.length js.length, .slice D ord.length d, .int .i64 (js.length : Int), .slice (some ⟨y.gP, 0, none⟩) js.length js.length, .agg (lqC (.slice A js.length c) js.length B m y), .pointer (some ⟨y.G, 0, none⟩), undef] : Array Value).getD j undef = (#[.agg (wlC (.slice A js.length c) (js.length : Int) B), .slice D ord.length d, x.L.v, .int .i64 (m : Int), .slice (some ⟨x.gF, 0, none⟩) m m, .slice (some ⟨x.gB, 0, none⟩) 1 1, .slice D ord.length d, .int .i64 (js.length : Int), .slice (some ⟨x.gE, 0, none⟩) js.length js.length, .slice D ord.length d, .int .i64 (js.length : Int), .slice (some ⟨x.gP, 0, none⟩) js.length js.length, .agg (lqC (.slice A js.length c) js.length B m x), .pointer (some ⟨x.G, 0, none⟩), undef] : Array Value).getD j undef := fun i y _ hag hi h12 j hj => by
      by_cases h15 : j < 15
      · exact hag j h15 (fun e => by subst e; rw [hi] at hj; cases hj) (fun e => by subst e; rw [h12] at hj; cases hj)
      · have h1 : 15 ≤ j := by omega
        rw [Array.getD_eq_getD_getElem?, Array.getD_eq_getD_getElem?, Array.getElem?_eq_none (by simpa using h1), Array.getElem?_eq_none (by simpa using h1)]
    rcases (by omega : iq = 0 ∨ iq = 1 ∨ iq = 2 ∨ iq = 3 ∨ iq = 4 ∨ iq = 5 ∨ iq = 6 ∨ iq = 7 ∨ iq = 8 ∨ iq = 9 ∨ iq = 10 ∨ iq = 11 ∨ iq = 12 ∨ iq = 13 ∨ iq = 14) with rfl | rfl | rfl | rfl | rfl | rfl | rfl | rfl | rfl | rfl | rfl | rfl | rfl | rfl | rfl
    · obtain rfl := Option.some.inj hop
      have e3 : ac.tmps[3]?.getD undef = .pointer (some ⟨w.heap.size, 0, none⟩) := (Array.getD_eq_getD_getElem? ..).symm.trans (hlow 3 (by kernel_rfl))
      exact ⟨wanted_free rfl, .inl ⟨x, W, fun _ _ => rfl, exec_load10 (x := .tmp 3) rfl (hlow 3 (by kernel_rfl)) hS.2.1 rfl, ⟨hS.other (by decide) (by decide) (by decide) (by decide) (by decide) (by decide) (by decide), inv_step hI1 hI2 (fun e => absurd e (by decide)) (fun e => absurd e (by decide))⟩⟩⟩
    · obtain rfl := Option.some.inj hop
      have e2 : ac.tmps[2]?.getD undef = .slice D ord.length d := (Array.getD_eq_getD_getElem? ..).symm.trans (hlow 2 (by kernel_rfl))
      exact ⟨wanted_free rfl, .inl ⟨x, W, fun _ _ => rfl, by simp [execOp, Act.eval, e2, go_sem], ⟨hS.other (by decide) (by decide) (by decide) (by decide) (by decide) (by decide) (by decide), inv_step hI1 hI2 (fun e => absurd e (by decide)) (fun e => absurd e (by decide))⟩⟩⟩
    · obtain rfl := Option.some.inj hop
      have e10 : ac.tmps[10]?.getD undef = .slice D ord.length d := (Array.getD_eq_getD_getElem? ..).symm.trans (hdep 1 _ 10 (by kernel_rfl) rfl rfl)
      have h14 : L.getD 14 true = false := by
        cases h : L.getD 14 true
        · rfl
        · exact absurd (hI1 h) (by rw [hLn 12 (by kernel_rfl)]; decide)
      have hC := cloneL D d ord W (HO.out.below hS.1) (by rw [HOL.out]; omega)
      refine ⟨wanted_free rfl, .inr (.inl ⟨78, #[.slice D ord.length d], by simp [execOp, Act.eval, e10, go_sem], hC.mono ?_⟩)⟩
      rintro e w2 ⟨y, rfl, hy, hb2⟩
      exact ⟨{ x with L := y }, (val_eq 2 { x with L := y } (by decide) (fun j hj h1 h2 => by rcases (by omega : j = 0 ∨ j = 1 ∨ j = 3 ∨ j = 4 ∨ j = 5 ∨ j = 6 ∨ j = 7 ∨ j = 8 ∨ j = 9 ∨ j = 10 ∨ j = 11 ∨ j = 13 ∨ j = 14) with rfl | rfl | rfl | rfl | rfl | rfl | rfl | rfl | rfl | rfl | rfl | rfl | rfl <;> rfl) hLi (hLn 12 (by kernel_rfl))), rfl, ⟨hS.setL hb2 hy h14, inv_step hI1 hI2 (fun e => absurd e (by decide)) (fun e => absurd e (by decide))⟩⟩
    · obtain rfl := Option.some.inj hop
      have e1 : ac.tmps[1]?.getD undef = .int .i64 (m : Int) := (Array.getD_eq_getD_getElem? ..).symm.trans (hlow 1 (by kernel_rfl))
      exact ⟨wanted_free rfl, .inl ⟨x, W, fun _ _ => rfl, by simp [execOp, Act.eval, e1, go_sem], ⟨hS.other (by decide) (by decide) (by decide) (by decide) (by decide) (by decide) (by decide), inv_step hI1 hI2 (fun e => absurd e (by decide)) (fun e => absurd e (by decide))⟩⟩⟩
    · obtain rfl := Option.some.inj hop
      have e12 : ac.tmps[12]?.getD undef = .int .i64 (m : Int) := (Array.getD_eq_getD_getElem? ..).symm.trans (hdep 3 _ 12 (by kernel_rfl) rfl rfl)
      have h14 : L.getD 14 true = false := by
        cases h : L.getD 14 true
        · rfl
        · exact absurd (hI1 h) (by rw [hLn 12 (by kernel_rfl)]; decide)
      have hb2 := (Below.refl W.heap.size W).alloc (Nat.le_refl _) (.cells (madeCells #[.int .i64 0] m) 3)
      have hN := (BlockIs.new W 3 (madeCells #[.int .i64 0] m)).to (ic_made m)
      exact ⟨wanted_free rfl, .inl ⟨{ x with gF := W.heap.size }, _, (val_eq 4 { x with gF := W.heap.size } (by decide) (fun j hj h1 h2 => by rcases (by omega : j = 0 ∨ j = 1 ∨ j = 2 ∨ j = 3 ∨ j = 5 ∨ j = 6 ∨ j = 7 ∨ j = 8 ∨ j = 9 ∨ j = 10 ∨ j = 11 ∨ j = 13 ∨ j = 14) with rfl | rfl | rfl | rfl | rfl | rfl | rfl | rfl | rfl | rfl | rfl | rfl | rfl <;> rfl) hLi (hLn 12 (by kernel_rfl))), by simp [execOp, Act.eval, e12, HMF.out, go_sem], ⟨hS.setF hb2 (Nat.le_refl _) hN h14, inv_step hI1 hI2 (fun e => absurd e (by decide)) (fun e => absurd e (by decide))⟩⟩⟩
    · obtain rfl := Option.some.inj hop
      have h14 : L.getD 14 true = false := by
        cases h : L.getD 14 true
        · rfl
        · exact absurd (hI2 (hI1 h)).1 (by rw [hLn 8 (by kernel_rfl)]; decide)
      have hb2 := (Below.refl W.heap.size W).alloc (Nat.le_refl _) (.cells #[.int .i64 1000] 3)
      have hN := BlockIs.new W 3 #[.int .i64 1000]
      exact ⟨wanted_free rfl, .inl ⟨{ x with gB := W.heap.size }, W.alloc (.cells #[.int .i64 1000] 3), (fun j hj => by
        by_cases h15 : j < 15
        · rcases (by omega : j = 0 ∨ j = 1 ∨ j = 2 ∨ j = 3 ∨ j = 4 ∨ j = 5 ∨ j = 6 ∨ j = 7 ∨ j = 8 ∨ j = 9 ∨ j = 10 ∨ j = 11 ∨ j = 12 ∨ j = 13 ∨ j = 14) with rfl | rfl | rfl | rfl | rfl | rfl | rfl | rfl | rfl | rfl | rfl | rfl | rfl | rfl | rfl <;> first | rfl | (exact absurd hj (by rw [hLi]; decide))
        · have h1 : 15 ≤ j := by omega
          show Array.getD _ j undef = Array.getD _ j undef
          rw [Array.getD_eq_getD_getElem?, Array.getD_eq_getD_getElem?, Array.getElem?_eq_none (by simpa using h1), Array.getElem?_eq_none (by simpa using h1)]), by simp [execOp, Act.eval, go_sem], ⟨hS.setB hb2 hN h14, inv_step hI1 hI2 (fun e => absurd e (by decide)) (fun e => absurd e (by decide))⟩⟩⟩
    · obtain rfl := Option.some.inj hop
      have e2 : ac.tmps[2]?.getD undef = .slice D ord.length d := (Array.getD_eq_getD_getElem? ..).symm.trans (hlow 2 (by kernel_rfl))
      exact ⟨wanted_free rfl, .inl ⟨x, W, fun _ _ => rfl, by simp [execOp, Act.eval, e2, go_sem], ⟨hS.other (by decide) (by decide) (by decide) (by decide) (by decide) (by decide) (by decide), inv_step hI1 hI2 (fun e => absurd e (by decide)) (fun e => absurd e (by decide))⟩⟩⟩
    · obtain rfl := Option.some.inj hop
      have e15 : ac.tmps[15]?.getD undef = .slice D ord.length d := (Array.getD_eq_getD_getElem? ..).symm.trans (hdep 6 _ 15 (by kernel_rfl) rfl rfl)
      exact ⟨wanted_free rfl, .inl ⟨x, W, fun _ _ => rfl, by simp [execOp, Act.eval, e15, HOL.out, go_sem], ⟨hS.other (by decide) (by decide) (by decide) (by decide) (by decide) (by decide) (by decide), inv_step hI1 hI2 (fun e => absurd e (by decide)) (fun e => absurd e (by decide))⟩⟩⟩
    · obtain rfl := Option.some.inj hop
      have e14 : ac.tmps[14]?.getD undef = .slice (some ⟨x.gB, 0, none⟩) 1 1 := (Array.getD_eq_getD_getElem? ..).symm.trans (hdep 5 _ 14 (by kernel_rfl) rfl rfl)
      have e16 : ac.tmps[16]?.getD undef = .int .i64 (js.length : Int) := (Array.getD_eq_getD_getElem? ..).symm.trans (hdep 7 _ 16 (by kernel_rfl) rfl rfl)
      have h14 : L.getD 14 true = false := by
        cases h : L.getD 14 true
        · rfl
        · exact absurd (hI1 h) (by rw [hLn 12 (by kernel_rfl)]; decide)
      have h5 : L.getD 5 true = true := hLd 5 (by kernel_rfl)
      have hB5 := hS.2.2.2.2.1 h5
      have hRP : Calls Tryd.prog 79 #[.slice (some ⟨x.gB, 0, none⟩) 1 1, .int .i64 (js.length : Int)] W fun e w' => ∃ g, e = .returned (.slice (some ⟨g, 0, none⟩) js.length js.length) ∧ W.heap.size ≤ g ∧ BlockIs w' g 3 (ic (List.replicate js.length 1000)).toArray ∧ Below W.heap.size W w' := by
        by_cases h0 : js.length = 0
        · rw [h0]; exact repeat_none ⟨x.gB, 0, none⟩ 1 W
        · exact repeat_any ⟨x.gB, 0, none⟩ 1 js.length W (hB5.cell 0) hB5.lt (by omega) (by omega)
      refine ⟨wanted_free rfl, .inr (.inl ⟨79, #[.slice (some ⟨x.gB, 0, none⟩) 1 1, .int .i64 (js.length : Int)], by simp [execOp, Act.eval, e14, e16, go_sem], hRP.mono ?_⟩)⟩
      rintro e w2 ⟨g, rfl, hg, hN, hb2⟩
      exact ⟨{ x with gE := g }, (val_eq 8 { x with gE := g } (by decide) (fun j hj h1 h2 => by rcases (by omega : j = 0 ∨ j = 1 ∨ j = 2 ∨ j = 3 ∨ j = 4 ∨ j = 5 ∨ j = 6 ∨ j = 7 ∨ j = 9 ∨ j = 10 ∨ j = 11 ∨ j = 13 ∨ j = 14) with rfl | rfl | rfl | rfl | rfl | rfl | rfl | rfl | rfl | rfl | rfl | rfl | rfl <;> rfl) hLi (hLn 12 (by kernel_rfl))), rfl, ⟨hS.setE hb2 hg hN h14, inv_step hI1 hI2 (fun e => absurd e (by decide)) (fun e => absurd e (by decide))⟩⟩
    · obtain rfl := Option.some.inj hop
      have e2 : ac.tmps[2]?.getD undef = .slice D ord.length d := (Array.getD_eq_getD_getElem? ..).symm.trans (hlow 2 (by kernel_rfl))
      exact ⟨wanted_free rfl, .inl ⟨x, W, fun _ _ => rfl, by simp [execOp, Act.eval, e2, go_sem], ⟨hS.other (by decide) (by decide) (by decide) (by decide) (by decide) (by decide) (by decide), inv_step hI1 hI2 (fun e => absurd e (by decide)) (fun e => absurd e (by decide))⟩⟩⟩
    · obtain rfl := Option.some.inj hop
      have e18 : ac.tmps[18]?.getD undef = .slice D ord.length d := (Array.getD_eq_getD_getElem? ..).symm.trans (hdep 9 _ 18 (by kernel_rfl) rfl rfl)
      exact ⟨wanted_free rfl, .inl ⟨x, W, fun _ _ => rfl, by simp [execOp, Act.eval, e18, HOL.out, go_sem], ⟨hS.other (by decide) (by decide) (by decide) (by decide) (by decide) (by decide) (by decide), inv_step hI1 hI2 (fun e => absurd e (by decide)) (fun e => absurd e (by decide))⟩⟩⟩
    · obtain rfl := Option.some.inj hop
      have e19 : ac.tmps[19]?.getD undef = .int .i64 (js.length : Int) := (Array.getD_eq_getD_getElem? ..).symm.trans (hdep 10 _ 19 (by kernel_rfl) rfl rfl)
      have h14 : L.getD 14 true = false := by
        cases h : L.getD 14 true
        · rfl
        · exact absurd (hI1 h) (by rw [hLn 12 (by kernel_rfl)]; decide)
      have hb2 := (Below.refl W.heap.size W).alloc (Nat.le_refl _) (.cells (madeCells #[.int .i64 0, .int .i64 0, .int .i64 0] (js.length * 3)) 78)
      have hN := (BlockIs.new W 78 (madeCells #[.int .i64 0, .int .i64 0, .int .i64 0] (js.length * 3))).to (cell3 js.length)
      exact ⟨wanted_free rfl, .inl ⟨{ x with gP := W.heap.size }, _, (val_eq 11 { x with gP := W.heap.size } (by decide) (fun j hj h1 h2 => by rcases (by omega : j = 0 ∨ j = 1 ∨ j = 2 ∨ j = 3 ∨ j = 4 ∨ j = 5 ∨ j = 6 ∨ j = 7 ∨ j = 8 ∨ j = 9 ∨ j = 10 ∨ j = 13 ∨ j = 14) with rfl | rfl | rfl | rfl | rfl | rfl | rfl | rfl | rfl | rfl | rfl | rfl | rfl <;> rfl) hLi (hLn 12 (by kernel_rfl))), by simp [execOp, Act.eval, e19, HMP.out, go_sem], ⟨hS.setP hb2 (Nat.le_refl _) hN h14, inv_step hI1 hI2 (fun e => absurd e (by decide)) (fun e => absurd e (by decide))⟩⟩⟩
    · obtain rfl := Option.some.inj hop
      have e9 : ac.tmps[9]?.getD undef = .agg (wlC (.slice A js.length c) (js.length : Int) B) := (Array.getD_eq_getD_getElem? ..).symm.trans (hdep 0 _ 9 (by kernel_rfl) rfl rfl)
      have e11 : ac.tmps[11]?.getD undef = x.L.v := (Array.getD_eq_getD_getElem? ..).symm.trans (hdep 2 _ 11 (by kernel_rfl) rfl rfl)
      have e13 : ac.tmps[13]?.getD undef = .slice (some ⟨x.gF, 0, none⟩) m m := (Array.getD_eq_getD_getElem? ..).symm.trans (hdep 4 _ 13 (by kernel_rfl) rfl rfl)
      have e17 : ac.tmps[17]?.getD undef = .slice (some ⟨x.gE, 0, none⟩) js.length js.length := (Array.getD_eq_getD_getElem? ..).symm.trans (hdep 8 _ 17 (by kernel_rfl) rfl rfl)
      have e20 : ac.tmps[20]?.getD undef = .slice (some ⟨x.gP, 0, none⟩) js.length js.length := (Array.getD_eq_getD_getElem? ..).symm.trans (hdep 11 _ 20 (by kernel_rfl) rfl rfl)
      obtain ⟨AV, cV, hv⟩ := (hS.2.2.1 (hLd 2 (by kernel_rfl))).1
      rw [hv] at e11
      exact ⟨wanted_free rfl, .inl ⟨x, W, fun _ _ => rfl, by unfold wlC at e9; simp [execOp, Act.eval, e9, e11, e13, e17, e20, go_sem, lqC, hv], ⟨hS.other (by decide) (by decide) (by decide) (by decide) (by decide) (by decide) (by decide), inv_step hI1 hI2 (fun e => absurd e (by decide)) (fun _ => ⟨hLd 8 (by kernel_rfl), hLd 2 (by kernel_rfl)⟩)⟩⟩⟩
    · obtain rfl := Option.some.inj hop
      have hb2 := (Below.refl W.heap.size W).alloc (Nat.le_refl _) (.cells lqZ 108)
      have hN := BlockIs.new W 108 lqZ
      have h14 : L.getD 14 true = false := hLn 14 (by kernel_rfl)
      exact ⟨wanted_free rfl, .inl ⟨{ x with G := W.heap.size }, W.alloc (.cells lqZ 108), (fun j hj => by
        by_cases h15 : j < 15
        · rcases (by omega : j = 0 ∨ j = 1 ∨ j = 2 ∨ j = 3 ∨ j = 4 ∨ j = 5 ∨ j = 6 ∨ j = 7 ∨ j = 8 ∨ j = 9 ∨ j = 10 ∨ j = 11 ∨ j = 12 ∨ j = 13 ∨ j = 14) with rfl | rfl | rfl | rfl | rfl | rfl | rfl | rfl | rfl | rfl | rfl | rfl | rfl | rfl | rfl <;> first | rfl | (exact absurd hj (by rw [hLi]; decide))
        · have h1 : 15 ≤ j := by omega
          show Array.getD _ j undef = Array.getD _ j undef
          rw [Array.getD_eq_getD_getElem?, Array.getD_eq_getD_getElem?, Array.getElem?_eq_none (by simpa using h1), Array.getElem?_eq_none (by simpa using h1)]), by simp [execOp, Act.eval, go_sem, lqZ], ⟨hS.setG hb2 (Nat.le_refl _) hN h14, inv_step hI1 hI2 (fun e => absurd e (by decide)) (fun e => absurd e (by decide))⟩⟩⟩
    · obtain rfl := Option.some.inj hop
      have e7 : ac.tmps[7]?.getD undef = .pointer (some ⟨x.G, 0, none⟩) := (Array.getD_eq_getD_getElem? ..).symm.trans (hdep 13 _ 7 (by kernel_rfl) rfl rfl)
      have e21 : ac.tmps[21]?.getD undef = .agg (lqC (.slice A js.length c) js.length B m x) := (Array.getD_eq_getD_getElem? ..).symm.trans (hdep 12 _ 21 (by kernel_rfl) rfl rfl)
      have h13 : L.getD 13 true = true := hLd 13 (by kernel_rfl)
      obtain ⟨hG, hGB⟩ := hS.2.2.2.2.2.2.2.1 h13
      rw [if_neg (by rw [hLi]; decide)] at hGB
      obtain ⟨AV, cV, hv⟩ := (hS.2.2.1 (hI2 (hLd 12 (by kernel_rfl))).2).1
      exact ⟨wanted_free rfl, .inr (.inr ⟨W.setRow x.G (lqC (.slice A js.length c) js.length B m x), rfl, exec_store14 (X := .tmp 7) (Y := .tmp 21) rfl (hdep 13 _ 7 (by kernel_rfl) rfl rfl) (hdep 12 _ 21 (by kernel_rfl) rfl rfl) hGB rfl rfl (one14 hv), ⟨hS.store hLs h13, inv_step hI1 hI2 (fun _ => hLd 12 (by kernel_rfl)) (fun e => absurd e (by decide))⟩⟩)⟩
end Go.Proofs.YtejgpecmjfgfbaaDoor

namespace Go.Proofs.YtejgpecmjfgfbaaDoor
set_option linter.unusedSimpArgs false
open Go.RowKit
def forB (js : List J) (m : Int) (E : List Pr) (o : List Int) : Bool := goodB js m E && ordB js.length o
theorem goodB_on (js : List J) (m : Int) (E : List Pr) : goodB js m E = onB js m E := by
  unfold onB
  cases hm : inB m 1 4
  · unfold goodB; rw [hm]; simp
  · rw [wl_good m hm]; rfl
set_option maxRecDepth 100000 in
theorem l7Ordered_any (A C D : Option Addr) (c d b : Nat) (js : List J) (m : Int) (E : List Pr) (o : List Int) (w : World) (hr : Row w A (jc js)) (hq : Row w C (pc E)) (ho : Row w D (ic o)) (hn : js.length ≤ 10000000) (hl : E.length ≤ 10000000) (hm : o.length ≤ 10000000) :
    Calls Tryd.prog 43 #[.slice A js.length c, .int .i64 m, .slice C E.length d, .slice D o.length b] w fun e w' => e = .returned (.bool (forB js m E o)) ∧ Below w.heap.size w w' := by
  have HF : Hid (forB js m E o = (goodB js m E && ordB js.length o)) := rfl
  have HG := Lib.hid (l7Good_any A C c d js m E w hr hq hn hl)
  have HO := Lib.hid ho
  clear hr hq ho
  cases hg : goodB js m E
  · rw [hg] at HF HG
    clear hg
    go_enter Tryd.func43, Tryd.ntmps43
    go_wp2_with fail
    refine HG.out.mono ?_
    rintro e w1 ⟨rfl, hb1⟩
    go_wp2
    go_ret
    exact ⟨by rw [HF.out]; rfl, hb1⟩
  · rw [hg, Bool.true_and] at HF
    rw [hg] at HG
    clear hg
    go_enter Tryd.func43, Tryd.ntmps43
    go_wp2_with fail
    refine HG.out.mono ?_
    rintro e w1 ⟨rfl, hb1⟩
    have HL := Lib.hid (l2Order_any (js.length : Int) D b o w1 (HO.out.below hb1) (by omega))
    go_wp2_with fail
    refine HL.out.mono ?_
    rintro e _ ⟨rfl, rfl⟩
    go_wp2
    go_ret
    exact ⟨by rw [HF.out]; rfl, hb1⟩
theorem exec_store10 {o : Oper} {ev : Operand → Value} {X Y : Operand} {g : Nat} {cs ds : Array Value} {w : World} (ho : o.op = .store 72 X Y) (hx : ev X = .pointer (some ⟨g, 0, none⟩)) (hy : ev Y = .agg ds) (h : BlockIs w g 72 cs) (hc : cs.size = 10) (hs : ds.size = 10) (h1 : ds.all (·.oneCell') = true) :
    (execOp ev o).run Tryd.prog w = .ok .skip (w.setRow g ds) := by
  have hst := run_storeVar_row (P := Tryd.prog) w g 72 72 cs ds h (by rw [hs]; kernel_rfl) (by rw [hc, hs]) h1
  unfold execOp
  simp only [ho, hx, hy, Instr.storeAt, Instr.sureAddr, Sem.run_bind, Sem.run_pure, Result.andThen_ok, hst]
theorem one10 {AJ : Option Addr} {l k nn : Nat} {B : Nat → Nat} : (wlC (.slice AJ l k) (nn : Int) B).all (·.oneCell') = true := by
  unfold wlC
  simp [Value.oneCell']
/-- What workloadFor hands back. -/
def ForOutW (w : World) (A : Option Addr) (c : Nat) (js : List J) (E : List Pr) (ok : Bool) (e : Ending) (w' : World) : Prop := Below w.heap.size w w' ∧ ∃ (AJ : Option Addr) (l k nn : Nat) (B : Nat → Nat), e = .returned (.tuple #[.agg (wlC (.slice AJ l k) (nn : Int) B), .bool ok]) ∧ (ok = true → js.length ≤ 8 ∧ wlC (.slice AJ l k) (nn : Int) B = wlC (.slice A js.length c) (js.length : Int) (befN js.length (tabB js.length E)))
set_option maxRecDepth 100000 in
set_option maxHeartbeats 600000 in
theorem workloadFor_any (A C D : Option Addr) (c d b : Nat) (js : List J) (m : Int) (E : List Pr) (o : List Int) (w : World) (hr : Row w A (jc js)) (hq : Row w C (pc E)) (ho : Row w D (ic o)) (hn : js.length ≤ 10000000) (hl : E.length ≤ 10000000) (hm : o.length ≤ 10000000) (hT : TzTab w) :
    Calls Tryd.prog 47 #[.slice A js.length c, .int .i64 m, .slice C E.length d, .slice D o.length b] w (ForOutW w A c js E (forB js m E o)) := by
  have HF : Hid (forB js m E o = (goodB js m E && ordB js.length o)) := rfl
  rw [goodB_on] at HF
  have b0 := (Below.refl w.heap.size w).alloc (Nat.le_refl _) (.cells wlZ 72)
  have h0 := BlockIs.new w 72 wlZ
  have HWO := Lib.hid (workloadOn_any A C c d js m E _ (hr.below b0) (hq.below b0) hn hl (hT.below b0))
  have HO := Lib.hid ho
  have H0 := Lib.hid (And.intro b0 h0)
  clear b0 h0 hr hq ho hT
  go_enter Tryd.func47, Tryd.ntmps47
  go_wp2_with fail
  refine HWO.out.mono ?_
  rintro e w1 ⟨hb1, ⟨hw, h8, rfl⟩ | ⟨hw, rfl⟩⟩
  · have HD : Hid (forB js m E o = ordB js.length o) := by show _ = _; rw [HF.out, hw, Bool.true_and]
    obtain ⟨B, hB⟩ : ∃ B, B = befN js.length (tabB js.length E) := ⟨_, rfl⟩
    have HK : Hid (js.length ≤ 8 ∧ B = befN js.length (tabB js.length E)) := ⟨h8, hB⟩
    rw [← hB]
    have hb2 := H0.out.1.trans (hb1.mono H0.out.1.size)
    have hB2 := H0.out.2.below hb1
    have hb3 := hb2.alloc hb2.size (.cells (wlC (.slice A js.length c) (js.length : Int) B) 72)
    have hB3 := hB2.below ((Below.refl _ _).alloc (Nat.le_refl _) (.cells (wlC (.slice A js.length c) (js.length : Int) B) 72))
    have hN3 := BlockIs.new w1 72 (wlC (.slice A js.length c) (js.length : Int) B)
    have hne : w1.heap.size ≠ w.heap.size := by have := hB2.lt; omega
    have H4 := Lib.hid (And.intro hb3 (And.intro hN3 hB3))
    have hg8 : w.heap.size ≤ w.heap.size := Nat.le_refl _
    clear hb2 hB2 hb3 hB3 hN3 HWO H0 hb1 hw HF hB
    unfold wlC
    go_wp2
    rw [show (#[.slice A js.length c, .int .i64 (js.length : Int), .int .u64 (B 0 : Int), .int .u64 (B 1 : Int), .int .u64 (B 2 : Int), .int .u64 (B 3 : Int), .int .u64 (B 4 : Int), .int .u64 (B 5 : Int), .int .u64 (B 6 : Int), .int .u64 (B 7 : Int)] : Array Value) = wlC (.slice A js.length c) (js.length : Int) B from rfl]
    refine wp_region_detP (γ := Unit) (by kernel_rfl) (fun _ L W => (Below w.heap.size w W ∧ BlockIs W w1.heap.size 72 (wlC (.slice A js.length c) (js.length : Int) B)) ∧ (L.getD 8 true = false → BlockIs W w.heap.size 72 wlZ) ∧ (L.getD 8 true = true → BlockIs W w.heap.size 72 (wlC (.slice A js.length c) (js.length : Int) B))) (fun _ kk => (#[.agg (wlC (.slice A js.length c) (js.length : Int) B), .bool true, .bool true, .slice A js.length c, .int .i64 (js.length : Int), .slice D o.length b, .bool (ordB js.length o), .bool (ordB js.length o), undef, .bool (ordB js.length o)] : Array Value).getD kk undef) () (by kernel_rfl) (by kernel_rfl) ⟨⟨H4.out.1.drew, H4.out.2.1⟩, fun _ => H4.out.2.2, fun h => absurd (h.symm.trans (rep_getD 10 8 (by decide))) (by decide)⟩ ?_ ?_
    · intro _ L W hall hS
      have HF := Lib.hid (And.intro hS.1.1 (hS.2.2 (hall 8 (by show 8 < 10; decide))))
      clear hS hall H4
      simp only [putsL]
      go_wp2
      simp only [List.getElem_toArray, List.getElem_cons_zero, List.getElem_cons_succ, Act.put, Array.getD_eq_getD_getElem?, List.getElem?_toArray, List.getElem?_cons_zero, List.getElem?_cons_succ, Option.getD_some, List.setIfInBounds_toArray, List.set_cons_zero, List.set_cons_succ, Nat.reduceAdd]
      have hfin : ForOutW w A c js E (forB js m E o) (.returned (.tuple #[.agg (wlC (.slice A js.length c) (js.length : Int) B), .bool (ordB js.length o)])) W := ⟨HF.out.1, A, js.length, c, js.length, B, by rw [HD.out], fun _ => ⟨HK.out.1, by rw [HK.out.2]⟩⟩
      generalize ForOutW w A c js E (forB js m E o) = RR at hfin ⊢
      have hBB := HF.out.2
      have hcs : (wlC (.slice A js.length c) (js.length : Int) B).size = 10 := rfl
      clear HF HK HD HO
      generalize wlC (.slice A js.length c) (js.length : Int) B = cs at *
      generalize ordB (js.length : Int) o = bb at *
      exact bodyPost_ret (v := .tuple #[.agg cs, .bool bb]) (results_cellW (p := 8) (q := 9) rfl _ _ w.heap.size rfl hBB hcs) rfl hfin
    · intro _ L ac W iq op hLs hop hLi hLd hLn hS hlow hdep
      have hq : iq < 10 := (Array.getElem?_eq_some_iff.1 hop).1
      have K : ∀ (W2 : World), Below W.heap.size W W2 → iq ≠ 8 → (Below w.heap.size w W2 ∧ BlockIs W2 w1.heap.size 72 (wlC (.slice A js.length c) (js.length : Int) B)) ∧ ((L.setIfInBounds iq true).getD 8 true = false → BlockIs W2 w.heap.size 72 wlZ) ∧ ((L.setIfInBounds iq true).getD 8 true = true → BlockIs W2 w.heap.size 72 (wlC (.slice A js.length c) (js.length : Int) B)) := fun W2 hb h1 => by
        rw [getD_set_true, if_neg (fun h => h1 h.1)]
        exact ⟨⟨hS.1.1.trans (hb.mono hS.1.1.size), hS.1.2.below hb⟩, fun h => (hS.2.1 h).below hb, fun h => (hS.2.2 h).below hb⟩
      rcases (by omega : iq = 0 ∨ iq = 1 ∨ iq = 2 ∨ iq = 3 ∨ iq = 4 ∨ iq = 5 ∨ iq = 6 ∨ iq = 7 ∨ iq = 8 ∨ iq = 9) with rfl | rfl | rfl | rfl | rfl | rfl | rfl | rfl | rfl | rfl
      · obtain rfl := Option.some.inj hop
        have e10 : ac.tmps[10]?.getD undef = .pointer (some ⟨w1.heap.size, 0, none⟩) := (Array.getD_eq_getD_getElem? ..).symm.trans (hlow 10 (by kernel_rfl))
        exact ⟨wanted_free rfl, .inl ⟨(), W, fun _ _ => rfl, exec_load10 (x := .tmp 10) rfl (hlow 10 (by kernel_rfl)) hS.1.2 rfl, K W (Below.refl _ _) (by decide)⟩⟩
      · obtain rfl := Option.some.inj hop
        have e11 : ac.tmps[11]?.getD undef = .bool true := (Array.getD_eq_getD_getElem? ..).symm.trans (hlow 11 (by kernel_rfl))
        exact ⟨wanted_free rfl, .inl ⟨(), W, fun _ _ => rfl, by simp [execOp, Act.eval, e11, go_sem], K W (Below.refl _ _) (by decide)⟩⟩
      · obtain rfl := Option.some.inj hop
        have e20 : ac.tmps[20]?.getD undef = .bool true := (Array.getD_eq_getD_getElem? ..).symm.trans (hdep 1 _ 20 (by kernel_rfl) rfl rfl)
        exact ⟨wanted_free rfl, .inl ⟨(), W, fun _ _ => rfl, by simp [execOp, Act.eval, e20, go_sem], K W (Below.refl _ _) (by decide)⟩⟩
      · obtain rfl := Option.some.inj hop
        have e0 : ac.tmps[0]?.getD undef = .slice A js.length c := (Array.getD_eq_getD_getElem? ..).symm.trans (hlow 0 (by kernel_rfl))
        exact ⟨wanted_guard (g := 2) (d := 21) (b := true) rfl rfl rfl (hdep 2 _ 21 (by kernel_rfl) rfl rfl), .inl ⟨(), W, fun _ _ => rfl, by simp [execOp, Act.eval, e0, go_sem], K W (Below.refl _ _) (by decide)⟩⟩
      · obtain rfl := Option.some.inj hop
        have e22 : ac.tmps[22]?.getD undef = .slice A js.length c := (Array.getD_eq_getD_getElem? ..).symm.trans (hdep 3 _ 22 (by kernel_rfl) rfl rfl)
        exact ⟨wanted_guard (g := 2) (d := 21) (b := true) rfl rfl rfl (hdep 2 _ 21 (by kernel_rfl) rfl rfl), .inl ⟨(), W, fun _ _ => rfl, by simp [execOp, Act.eval, e22, go_sem], K W (Below.refl _ _) (by decide)⟩⟩
      · obtain rfl := Option.some.inj hop
        have e3 : ac.tmps[3]?.getD undef = .slice D o.length b := (Array.getD_eq_getD_getElem? ..).symm.trans (hlow 3 (by kernel_rfl))
        exact ⟨wanted_guard (g := 2) (d := 21) (b := true) rfl rfl rfl (hdep 2 _ 21 (by kernel_rfl) rfl rfl), .inl ⟨(), W, fun _ _ => rfl, by simp [execOp, Act.eval, e3, go_sem], K W (Below.refl _ _) (by decide)⟩⟩
      · obtain rfl := Option.some.inj hop
        have e23 : ac.tmps[23]?.getD undef = .int .i64 (js.length : Int) := (Array.getD_eq_getD_getElem? ..).symm.trans (hdep 4 _ 23 (by kernel_rfl) rfl rfl)
        have e24 : ac.tmps[24]?.getD undef = .slice D o.length b := (Array.getD_eq_getD_getElem? ..).symm.trans (hdep 5 _ 24 (by kernel_rfl) rfl rfl)
        refine ⟨wanted_guard (g := 2) (d := 21) (b := true) rfl rfl rfl (hdep 2 _ 21 (by kernel_rfl) rfl rfl), .inr (.inl ⟨77, #[.int .i64 (js.length : Int), .slice D o.length b], by simp [execOp, Act.eval, e23, e24, go_sem], (IsOrder_any (js.length : Int) D b o W (HO.out.below hS.1.1) (by omega)).mono ?_⟩)⟩
        rintro e w2 ⟨rfl, hb⟩
        exact ⟨(), fun _ _ => rfl, rfl, K w2 hb (by decide)⟩
      · obtain rfl := Option.some.inj hop
        have e21 : ac.tmps[21]?.getD undef = .bool true := (Array.getD_eq_getD_getElem? ..).symm.trans (hdep 2 _ 21 (by kernel_rfl) rfl rfl)
        have e25 : ac.tmps[25]?.getD undef = .bool (ordB js.length o) := (Array.getD_eq_getD_getElem? ..).symm.trans (hdep 6 _ 25 (by kernel_rfl) rfl rfl)
        exact ⟨wanted_free rfl, .inl ⟨(), W, fun _ _ => rfl, by simp [execOp, Act.eval, e21, e25, go_sem], K W (Below.refl _ _) (by decide)⟩⟩
      · obtain rfl := Option.some.inj hop
        have e8 : ac.tmps[8]?.getD undef = .pointer (some ⟨w.heap.size, 0, none⟩) := (Array.getD_eq_getD_getElem? ..).symm.trans (hlow 8 (by kernel_rfl))
        have e19 : ac.tmps[19]?.getD undef = .agg (wlC (.slice A js.length c) (js.length : Int) B) := (Array.getD_eq_getD_getElem? ..).symm.trans (hdep 0 _ 19 (by kernel_rfl) rfl rfl)
        have hB8 := hS.2.1 hLi
        refine ⟨wanted_free rfl, .inr (.inr ⟨W.setRow w.heap.size (wlC (.slice A js.length c) (js.length : Int) B), rfl, exec_store10 (X := .tmp 8) (Y := .tmp 19) rfl (hlow 8 (by kernel_rfl)) (hdep 0 _ 19 (by kernel_rfl) rfl rfl) hB8 rfl rfl one10, ⟨below_setRow hS.1.1 hg8 _, (setRow_other _ _ _ _ hne).trans hS.1.2⟩, fun h => ?_, fun _ => setRow_heap _ _ _ _ _ _ hB8⟩)⟩
        rw [getD_set_true, if_pos ⟨rfl, by rw [hLs]; decide⟩] at h
        cases h
      · obtain rfl := Option.some.inj hop
        have e26 : ac.tmps[26]?.getD undef = .bool (ordB js.length o) := (Array.getD_eq_getD_getElem? ..).symm.trans (hdep 7 _ 26 (by kernel_rfl) rfl rfl)
        exact ⟨wanted_free rfl, .inl ⟨(), W, fun _ _ => rfl, by simp [execOp, Act.eval, e26, go_sem], K W (Below.refl _ _) (by decide)⟩⟩
  · have HD : Hid (forB js m E o = false) := by show _ = _; rw [HF.out, hw, Bool.false_and]
    have hb2 := H0.out.1.trans (hb1.mono H0.out.1.size)
    have hB2 := H0.out.2.below hb1
    have hb3 := hb2.alloc hb2.size (.cells wlZ 72)
    have hB3 := hB2.below ((Below.refl _ _).alloc (Nat.le_refl _) (.cells wlZ 72))
    have hN3 := BlockIs.new w1 72 wlZ
    have H4 := Lib.hid (And.intro hb3 (And.intro hN3 hB3))
    clear hb2 hB2 hb3 hB3 hN3 HWO H0 hb1 hw HF
    have hN3 := H4.out.2.1
    have hB3 := H4.out.2.2
    have hb3 := H4.out.1
    have y0 := hN3.cell 0
    have y1 := hN3.cell 1
    have y2 := hN3.cell 2
    have y3 := hN3.cell 3
    have y4 := hN3.cell 4
    have y5 := hN3.cell 5
    have y6 := hN3.cell 6
    have y7 := hN3.cell 7
    have y8 := hN3.cell 8
    have y9 := hN3.cell 9
    have z0 := hB3.cell 0
    have z1 := hB3.cell 1
    have z2 := hB3.cell 2
    have z3 := hB3.cell 3
    have z4 := hB3.cell 4
    have z5 := hB3.cell 5
    have z6 := hB3.cell 6
    have z7 := hB3.cell 7
    have z8 := hB3.cell 8
    have z9 := hB3.cell 9
    have f0 := hB3.frozen 0
    have f1 := hB3.frozen 1
    have f2 := hB3.frozen 2
    have f3 := hB3.frozen 3
    have f4 := hB3.frozen 4
    have f5 := hB3.frozen 5
    have f6 := hB3.frozen 6
    have f7 := hB3.frozen 7
    have f8 := hB3.frozen 8
    have f9 := hB3.frozen 9
    simp only [wlZ, List.getElem?_toArray, List.getElem?_cons_zero, List.getElem?_cons_succ] at y0 y1 y2 y3 y4 y5 y6 y7 y8 y9 z0 z1 z2 z3 z4 z5 z6 z7 z8 z9
    have hSB := ((((((((((hB3.set 0 (.slice none 0 0)).set 1 (.int .i64 0)).set 2 (.int .u64 0)).set 3 (.int .u64 0)).set 4 (.int .u64 0)).set 5 (.int .u64 0)).set 6 (.int .u64 0)).set 7 (.int .u64 0)).set 8 (.int .u64 0)).set 9 (.int .u64 0)).drew
    have hSL := ((((((((((hb3.setCell (p := ⟨w.heap.size, 0, none⟩) (Nat.le_refl _) (.slice none 0 0)).setCell (p := ⟨w.heap.size, 1, none⟩) (Nat.le_refl _) (.int .i64 0)).setCell (p := ⟨w.heap.size, 2, none⟩) (Nat.le_refl _) (.int .u64 0)).setCell (p := ⟨w.heap.size, 3, none⟩) (Nat.le_refl _) (.int .u64 0)).setCell (p := ⟨w.heap.size, 4, none⟩) (Nat.le_refl _) (.int .u64 0)).setCell (p := ⟨w.heap.size, 5, none⟩) (Nat.le_refl _) (.int .u64 0)).setCell (p := ⟨w.heap.size, 6, none⟩) (Nat.le_refl _) (.int .u64 0)).setCell (p := ⟨w.heap.size, 7, none⟩) (Nat.le_refl _) (.int .u64 0)).setCell (p := ⟨w.heap.size, 8, none⟩) (Nat.le_refl _) (.int .u64 0)).setCell (p := ⟨w.heap.size, 9, none⟩) (Nat.le_refl _) (.int .u64 0)).drew
    have HS := Lib.hid (And.intro hSL (hSB.to (ds := wlZ) (by unfold wlZ; rfl)))
    clear hSB hSL
    clear hN3 hB3 hb3 H4
    unfold wlZ
    unfold wlZ at *
    go_wp2
    go_region
    go_wp2
    obtain ⟨hx1, hx2⟩ := HS.out
    generalize World.drew _ = WW at hx1 hx2 ⊢
    have hfin : ∀ W : World, Below w.heap.size w W → ForOutW w A c js E (forB js m E o) (.returned (.tuple #[.agg wlZ, .bool false])) W := fun W h => ⟨h, none, 0, 0, 0, fun _ => 0, by rw [HD.out]; rfl, fun e => by rw [HD.out] at e; cases e⟩
    generalize ForOutW w A c js E (forB js m E o) = RR at hfin ⊢
    exact bodyPost_ret (v := .tuple #[.agg wlZ, .bool false]) (results_cellW (p := 8) (q := 9) rfl _ _ w.heap.size rfl hx2 rfl) rfl (hfin _ hx1)
end Go.Proofs.YtejgpecmjfgfbaaDoor

namespace Go.Proofs.YtejgpecmjfgfbaaDoor
open Go.RowKit
theorem stepL_len (js : List J) (T : Nat → Nat → Bool) (ord : List Nat) (now : Int) (s : LsS) (k : Nat) : (stepL js T ord now s k).plan.length = s.plan.length := by
  unfold stepL
  split
  · split
    · rfl
    · simp [assignL]
  · rfl
theorem startTo_len (js : List J) (T : Nat → Nat → Bool) (ord : List Nat) (now : Int) (s : LsS) : ∀ k, (startTo js T ord now s k).plan.length = s.plan.length
  | 0 => rfl
  | k + 1 => by rw [startTo_succ, stepL_len, startTo_len js T ord now s k]
theorem runL_len (js : List J) (T : Nat → Nat → Bool) (ord : List Nat) (m : Nat) : ∀ (f : Nat) (now : Int) (s : LsS), (runL js T ord m f now s).length = s.plan.length
  | 0, _, _ => rfl
  | f + 1, now, s => by
    show (if leftL ord s.ends = [] then s.plan else runL js T ord m f (soonL (startTo js T ord now s m).ends now) (startTo js T ord now s m)).length = _
    split
    · rfl
    · rw [runL_len js T ord m f, startTo_len]
theorem listL_len (js : List J) (T : Nat → Nat → Bool) (ord : List Nat) (m : Nat) : (listL js T ord m).length = js.length := by
  unfold listL
  rw [runL_len]
  simp [initL]
def listR (js : List J) (m : Int) (E : List Pr) (o : List Int) : List Sp × Bool := if forB js m E o then (listL js (tabB js.length E) (natsOf o) m.toNat, true) else ([], false)
theorem for_parts {js : List J} {m : Int} {E : List Pr} {o : List Int} (h : forB js m E o = true) : goodB js m E = true ∧ ∃ (p : List Nat) (mm : Nat), o = natI p ∧ natsOf o = p ∧ p.Perm (List.range js.length) ∧ m = (mm : Int) ∧ m.toNat = mm ∧ 1 ≤ mm ∧ mm ≤ 4 := by
  unfold forB at h
  rw [Bool.and_eq_true] at h
  obtain ⟨_, _, _, _, hp, _, hm⟩ := good_parts h.1
  have hg : goodL js = true := plain_good hp
  obtain ⟨_, p, h1, h2, h3⟩ := two_out (js := js) (o := o) (by unfold twoB; rw [hg, h.2]; rfl)
  obtain ⟨m1, m4⟩ := inB_out hm
  exact ⟨h.1, p, m.toNat, h1, h3, h2, by omega, rfl, by omega, by omega⟩
theorem listR_len (js : List J) (m : Int) (E : List Pr) (o : List Int) : (listR js m E o).1.length ≤ 8 := by
  unfold listR
  split
  · rename_i h
    obtain ⟨hg, _⟩ := for_parts h
    obtain ⟨_, h8, _⟩ := good_parts hg
    show (listL js _ _ _).length ≤ 8
    rw [listL_len]
    exact h8
  · simp
theorem ret_plan {w w' : World} {r : List Sp × Bool} {xs : List Sp} {g : Nat} (hr : r = (xs, true)) (hg : w.heap.size ≤ g) (hB : BlockIs w' g 78 (spc xs).toArray) (hx : xs.length ≤ 1000) (hb : Below w.heap.size w w') (e : Ending) (he : e = .returned (.tuple #[.slice (some ⟨g, 0, none⟩) xs.length xs.length, .bool true])) : RetTB w r e w' := by
  subst hr he
  have hl := spc_len xs
  have h := hB.own (base := w.heap.size) (n := xs.length) (c := xs.length) (size := 3) hg (by simp [hl]; omega) (Nat.le_refl _) (by unfold maxLen; omega) (by simp [hl]; omega)
  rw [List.take_of_length_le (by simp [hl]; omega)] at h
  exact ⟨_, xs.length, rfl, Seg.of_own h, hb⟩
theorem ret_noplan {w w1 : World} {r : List Sp × Bool} (hr : r = ([], false)) (hb : Below w.heap.size w w1) (e : Ending) (he : e = .returned (.tuple #[.slice (some ⟨w1.heap.size, 0, none⟩) 0 0, .bool false])) : RetTB w r e (w1.alloc (.cells #[] 78)) := by
  subst hr he
  have h := (BlockIs.new w1 78 #[]).own (base := w.heap.size) (n := 0) (c := 0) (size := 3) hb.size (by simp) (Nat.le_refl _) (by unfold maxLen; omega) (by simp)
  exact ⟨_, 0, rfl, Seg.of_own h, hb.alloc hb.size _⟩
section
variable (A C D : Option Addr) (c d b : Nat) (js : List J) (m : Int) (E : List Pr) (o : List Int) (w : World) (hr : Row w A (jc js)) (hq : Row w C (pc E)) (ho : Row w D (ic o)) (hn : js.length ≤ 10000000) (hl : E.length ≤ 10000000) (hm : o.length ≤ 10000000)
include hr hq ho hn hl hm
set_option maxRecDepth 100000 in
set_option maxHeartbeats 400000 in
theorem spec_ListPlan : Calls Tryd.prog 13 #[.slice A js.length c, .int .i64 m, .slice C E.length d, .slice D o.length b] w (RetTB w (listR js m E o)) := by
  have HRR : Hid (listR js m E o = if forB js m E o then (listL js (tabB js.length E) (natsOf o) m.toNat, true) else ([], false)) := rfl
  have HG := Lib.hid (l7Ordered_any A C D c d b js m E o w hr hq ho hn hl hm)
  have HR := Lib.hid hr
  have HQ := Lib.hid hq
  have HO := Lib.hid ho
  clear hr hq ho
  go_enter Tryd.func13, Tryd.ntmps13
  go_wp2_with fail
  refine HG.out.mono ?_
  rintro e w1 ⟨rfl, hb1⟩
  cases hg : forB js m E o
  · rw [hg] at HRR
    have HB := Lib.hid hb1
    clear hg hb1
    go_wp2
    go_ret2
    exact ret_noplan HRR.out HB.out _ rfl
  · rw [hg, if_pos rfl] at HRR
    obtain ⟨hgo, p, mm, rfl, hnp, hp, rfl, hmt, hm1, hm4⟩ := for_parts hg
    obtain ⟨hok, h8, hirr, hE, _, _, _⟩ := good_parts hgo
    rw [hnp, hmt] at HRR
    have hnl : (natI p).length = p.length := by simp
    have HLL := Lib.hid (listL_len js (tabB js.length E) p mm)
    have HT := Lib.hid (l7List_any A C D c d b js mm E p w1 (HR.out.below hb1) (HQ.out.below hb1) (HO.out.below hb1) hl hok h8 hirr hE ⟨hm1, hm4⟩ hp)
    have HB := Lib.hid hb1
    obtain ⟨RES, hRES⟩ : ∃ RES, listL js (tabB js.length E) p mm = RES := ⟨_, rfl⟩
    rw [hRES] at HT HRR HLL
    clear hRES hg hb1 hgo hok hirr hE hp hnl hnp hmt HG
    go_wp2_with fail
    refine HT.out.mono ?_
    rintro e w2 ⟨g, rfl, hgs, hP, hb2⟩
    have HF := Lib.hid (And.intro hP (And.intro (HB.out.trans (hb2.mono HB.out.size)) (Nat.le_trans HB.out.size hgs)))
    clear hP hb2 hgs
    go_wp2
    go_ret2
    have hfin := ret_plan HRR.out HF.out.2.2 HF.out.1 (by rw [HLL.out]; omega) HF.out.2.1 _ rfl
    rw [HLL.out] at hfin
    exact hfin
set_option maxRecDepth 100000 in
set_option maxHeartbeats 400000 in
theorem impl_ListPlan (hT : TzTab w) : Calls Tryd.prog 17 #[.slice A js.length c, .int .i64 m, .slice C E.length d, .slice D o.length b] w (RetTB w (listR js m E o)) := by
  have HRR : Hid (listR js m E o = if forB js m E o then (listL js (tabB js.length E) (natsOf o) m.toNat, true) else ([], false)) := rfl
  have H := Lib.hid (workloadFor_any A C D c d b js m E o w hr hq ho hn hl hm hT)
  have HR := Lib.hid hr
  have HO := Lib.hid ho
  clear hr hq ho hT
  cases hg : forB js m E o
  · rw [hg] at HRR H
    clear hg
    go_enter Tryd.func17, Tryd.ntmps17
    go_wp2_with fail
    refine H.out.mono ?_
    rintro e w1 ⟨hb1, AJ, l, k, nn, B, rfl, _⟩
    have HB := Lib.hid (hb1.alloc hb1.size (.cells (wlC (.slice AJ l k) (nn : Int) B) 72))
    clear hb1
    unfold wlC
    unfold wlC at HB
    go_wp2
    go_ret2
    exact ret_noplan HRR.out HB.out _ (by rw [World.size_alloc]; rfl)
  · rw [hg] at HRR H
    rw [if_pos rfl] at HRR
    obtain ⟨hgo, p, mm, rfl, hnp, hp, rfl, hmt, hm1, hm4⟩ := for_parts hg
    obtain ⟨hok, h8, hirr, hE, _, _, _⟩ := good_parts hgo
    rw [hnp, hmt] at HRR
    have hnl : (natI p).length = p.length := by simp
    have HLL := Lib.hid (listL_len js (tabB js.length E) p mm)
    rw [hnl] at H
    clear hg
    go_enter Tryd.func17, Tryd.ntmps17
    go_wp2_with fail
    refine H.out.mono ?_
    rintro e w1 ⟨hb1, AJ, l, k, nn, B, rfl, hok2⟩
    rw [(hok2 rfl).2]
    have hb2 := hb1.alloc hb1.size (.cells (wlC (.slice A js.length c) (js.length : Int) (befN js.length (tabB js.length E))) 72)
    have HT := Lib.hid (listPlan_any A D c b js E mm p _ (HR.out.below hb2) (HO.out.below hb2) hok h8 hirr ⟨hm1, hm4⟩ hp)
    have HB := Lib.hid hb2
    obtain ⟨RES, hRES⟩ : ∃ RES, listL js (tabB js.length E) p mm = RES := ⟨_, rfl⟩
    rw [hRES] at HT HRR HLL
    clear hRES hb1 hb2 hgo hok hirr hE hp hnl hnp hmt H hok2
    unfold wlC
    unfold wlC at HB HT
    go_wp2_with fail
    refine HT.out.mono ?_
    rintro e w2 ⟨g, rfl, hgs, hP, hb2⟩
    have HF := Lib.hid (And.intro hP (And.intro (HB.out.trans (hb2.mono HB.out.size)) (Nat.le_trans HB.out.size hgs)))
    clear hP hb2 hgs
    go_wp2
    go_ret2
    have hfin := ret_plan HRR.out HF.out.2.2 HF.out.1 (by rw [HLL.out]; omega) HF.out.2.1 _ rfl
    rw [HLL.out] at hfin
    exact hfin
end
end Go.Proofs.YtejgpecmjfgfbaaDoor

namespace Go.Proofs.YtejgpecmjfgfbaaDoor
section
variable {P : Program} {ops : Array Oper} {Q : Exit → Act → World → Prop}
theorem wp_region_detQ {γ : Type} {id : Nat} {tm0 : Array Value} {df : List Deferred} {w : World} (hm : P.follows .mixedOrders = true) (S : γ → Array Bool → World → Prop) (val : γ → Nat → Value) (x0 : γ) (hback : backBB ops = true) (hown : ownDst ops tm0.size = true)
    (h0 : S x0 (Array.replicate ops.size false) w.drew)
    (hdone : ∀ (x : γ) (L : Array Bool) (W : World), (∀ i, i < ops.size → L.getD i true = true) → S x L W → Q .normal (putsL ops.toList (val x) 0 ⟨tm0, df⟩) W)
    (hstep : ∀ (x : γ) (L : Array Bool) (a : Act) (w : World) (i : Nat) (o : Oper), L.size = ops.size → ops[i]? = some o → L.getD i true = false → (∀ j, edgeB ops i j = true → L.getD j true = true) → (∀ j, edgeB ops j i = true → L.getD j true = false) → S x L w → (∀ t, ((List.range ops.size).all fun j => !((ops[j]?).bind (·.dst) == some t)) = true → a.tmps.getD t undef = tm0.getD t undef) →
      (∀ j oj d, edgeB ops i j = true → ops[j]? = some oj → oj.dst = some d → a.tmps.getD d undef = val x j) →
      (∀ j oj d, edgeB ops j i = true → ops[j]? = some oj → oj.dst = some d → a.tmps.getD d undef = tm0.getD d undef) → Region.wanted o (yielded ops a.tmps) = true ∧ StepA P S val x L i o a w) :
    (Code.region id ops true).wp P Q ⟨tm0, df⟩ w := by
  refine wp_region_detA hm S val x0 hback hown h0 ?_ hstep
  intro x L tm W hall hS hsz hlow hval
  have hp := puts_same ops.toList (val x) 0 ⟨tm0, df⟩
  have key : (⟨tm, df⟩ : Act) = putsL ops.toList (val x) 0 ⟨tm0, df⟩ := by
    cases hb : putsL ops.toList (val x) 0 ⟨tm0, df⟩ with | mk tm' df' => ?_
    rw [hb] at hp
    obtain ⟨hp1, hp2⟩ := hp
    simp only at hp1 hp2
    subst hp2
    have ht : tm = tm' := by
      refine arr_of _ _ (by rw [hsz, hp1]) fun t ht => ?_
      have hg : tm'.getD t undef = (putsL ops.toList (val x) 0 ⟨tm0, df'⟩).tmps.getD t undef := by rw [hb]
      rw [hg]
      by_cases hx : ∃ (j : Nat) (o : Oper), ops[j]? = some o ∧ o.dst = some t
      · obtain ⟨j, o, ho, hd⟩ := hx
        rw [hval j o t ho hd, puts_hit t ops.toList (val x) 0 ⟨tm0, df'⟩ j o (by rw [Array.getElem?_toList]; exact ho) hd (by rw [← hp1]; exact ht) (fun i' o' hi' hd' => by
          rw [Array.getElem?_toList] at hi'
          exact ownDst_inj hown ho hd hi' hd'), Nat.zero_add]
      · rw [hlow t (by
          rw [List.all_eq_true]
          intro j _
          cases ho : ops[j]? with
          | none => rfl
          | some o =>
            have : o.dst ≠ some t := fun hd => hx ⟨j, o, ho, hd⟩
            simpa using this), puts_low t ops.toList (val x) 0 ⟨tm0, df'⟩ (fun o ho hd => by
          obtain ⟨j, hj, rfl⟩ := List.getElem_of_mem ho
          exact hx ⟨j, _, by rw [← Array.getElem?_toList]; exact List.getElem?_eq_getElem hj, hd⟩)]
    rw [ht]
  rw [key]
  exact hdone x L W hall hS
end
end Go.Proofs.YtejgpecmjfgfbaaDoor

namespace Go.Proofs.YtejgpecmjfgfbaaDoor
theorem set_ne {L : Array Bool} {k j : Nat} (h : k ≠ j) (b : Bool) : (L.setIfInBounds k true).getD j b = L.getD j b := by
  rw [getD_set_true, if_neg (fun e => h e.1)]
theorem set_eq {L : Array Bool} {k : Nat} (h : k < L.size) (b : Bool) : (L.setIfInBounds k true).getD k b = true := by
  rw [getD_set_true, if_pos ⟨rfl, h⟩]
end Go.Proofs.YtejgpecmjfgfbaaDoor

namespace Go.Proofs.YtejgpecmjfgfbaaDoor
open Go.RowKit
theorem exec_slice {P : Program} {o : Oper} {ev : Operand → Value} {x : Operand} {lo hi mx : Option Operand} {t : TypeId} {v : Value} {w : World} (ho : o.op = .slice t x lo hi mx) (hr : (Instr.sliceAt t (ev x) (lo.map ev) (hi.map ev) (mx.map ev)).run P w = .ok v w) : (execOp ev o).run P w = .ok (.value v) w := by
  unfold execOp
  simp [ho, hr, Result.andThen]
theorem exec_append {P : Program} {o : Oper} {ev : Operand → Value} {s x : Operand} {t : TypeId} {v u r : Value} {w w' : World} (ho : o.op = .call { callee := .builtin .append, args := #[s, x], argTypes := #[t, t] }) (hs : ev s = v) (hx : ev x = u) (hr : (Builtin.append_ #[t, t] o.type #[v, u]).run P w = .ok r w') : (execOp ev o).run P w = .ok (.value r) w' := by
  unfold execOp
  simp only [ho, resolve, invoke, builtin, Sem.run_bind, Sem.run_pure, Result.andThen_ok, List.map_toArray, List.map_cons, List.map_nil, hs, hx, hr]
theorem slice_h (ad : Addr) (n c : Nat) (h : Nat) (w : World) (hc : h ≤ c) : (Instr.sliceAt 24 (.slice (some ad) n c) none (some (.int .i64 (h : Int))) none).run Tryd.prog w = .ok (.slice (some ad) h c) w := by
  simp [hc, go_sem]
def tailAd (ad : Addr) (l c : Nat) : Addr := if c = l then ad else ad.add l
theorem slice_l (ad : Addr) (n c : Nat) (l : Nat) (w : World) (hl : l ≤ n) : (Instr.sliceAt 24 (.slice (some ad) n c) (some (.int .i64 (l : Int))) none none).run Tryd.prog w = .ok (.slice (some (tailAd ad l c)) (n - l) (c - l)) w := by
  unfold tailAd
  simp [hl, go_sem]
  split <;> simp_all
theorem tail_src {w : World} {ad : Addr} {xs : List Int} {l c : Nat} (hr : Row w (some ad) (ic xs)) (hc : xs.length ≤ c) : ∀ j u, (ic (xs.drop l))[j]? = some u → w.cell? ((tailAd ad l c).add j) = some u := by
  intro j u hu
  have hj : j < (xs.drop l).length := by have := (List.getElem?_eq_some_iff.1 hu).1; rwa [ic_len] at this
  have hj' : l + j < xs.length := by simp at hj; omega
  have hne : c ≠ l := by omega
  unfold tailAd
  rw [if_neg hne, Addr.add_add]
  refine row_src hr _ _ ?_
  unfold ic at hu ⊢
  rw [List.getElem?_map, List.getElem?_drop] at hu
  rw [List.getElem?_map]; exact hu
theorem own_lower {w : World} {B B' e size n : Nat} {v : Value} {xs : List Value} (h : w.ownsRow B' e size v n xs) (hB : B ≤ B') : w.ownsRow B e size v n xs :=
  ⟨h.1, h.2.imp id fun ⟨g, cap, cur, hv, hb, r⟩ => ⟨g, cap, cur, hv, Nat.le_trans hB hb, r⟩⟩
theorem own_below {w w' : World} {B n : Nat} {v : Value} {xs : List Value} (h : w.ownsRow B 3 1 v n xs) (hb : Below w.heap.size w w') : w'.ownsRow B 3 1 v n xs := by
  refine ⟨h.1, h.2.imp id fun ⟨g, cap, cur, hv, hB, hg, r⟩ => ⟨g, cap, cur, hv, hB, ?_, r⟩⟩
  rw [hb.block g (Array.getElem?_eq_some_iff.1 hg).1]; exact hg
theorem row_take {w : World} {A : Option Addr} {xs : List Int} (h : Row w A (ic xs)) (k : Nat) : Row w A (ic (xs.take k)) := by
  intro h0
  rw [ic_len] at h0
  obtain ⟨ad, h1, h2, h3⟩ := h (by rw [ic_len]; simp at h0; omega)
  refine ⟨ad, h1, h2, fun j u hu => h3 j u ?_⟩
  unfold ic at hu ⊢
  rw [List.map_take, List.getElem?_take] at hu
  split at hu
  · exact hu
  · cases hu
theorem own_part {ad : Addr} {c k : Nat} {xs : List Int} {w : World} (hr : Row w (some ad) (ic xs)) (hk : k ≤ xs.length) (hn : xs.length ≤ 100000) :
    Calls Tryd.prog 85 #[.slice (some ad) k c] w fun e w' => ∃ ad' c', e = .returned (.slice (some ad') k c') ∧ w'.ownsRow w.heap.size 3 1 (.slice (some ad') k c') k (ic (xs.take k)) ∧ Below w.heap.size w w' := by
  have hl : (xs.take k).length = k := by simp; omega
  have h := l1Own_some ad c (xs.take k) w (row_take hr k) (by omega)
  rwa [hl] at h
theorem slice_some {B n : Nat} {w : World} {ad : Addr} {k c : Nat} {xs : List Value} (h : w.ownsRow B 3 1 (.slice (some ad) k c) n xs) : k = n ∧ n ≤ c := by
  rcases h.2 with ⟨hv, _⟩ | ⟨g, cap, cur, hv, _, _, hc, _⟩
  · cases hv
  · injection hv with _ e2 e3
    exact ⟨e2, by omega⟩
theorem ic_one {xs : List Int} : ∀ u ∈ ic xs, u.oneCell' = true := by intro u hu; unfold ic at hu; obtain ⟨x, _, rfl⟩ := List.mem_map.1 hu; rfl
end Go.Proofs.YtejgpecmjfgfbaaDoor

namespace Go.Proofs.YtejgpecmjfgfbaaDoor
section
variable (ob : Int) (js : List J)
def isortTo (q : List Nat) (k : Nat) : List Nat := (q.take k).foldl (fun acc x => insN ob js x acc) []
def isortL (q : List Nat) : List Nat := isortTo ob js q q.length
theorem isortTo_succ (q : List Nat) {k : Nat} (h : k < q.length) : isortTo ob js q (k + 1) = insN ob js q[k] (isortTo ob js q k) := by
  unfold isortTo
  rw [List.take_succ_eq_append_getElem h, List.foldl_append]; rfl
theorem isortTo_all (q : List Nat) {k : Nat} (h : q.length ≤ k) : isortTo ob js q k = isortL ob js q := by
  unfold isortL isortTo
  rw [List.take_of_length_le h, List.take_of_length_le (Nat.le_refl _)]
theorem isortTo_one (q : List Nat) : isortTo ob js q 1 ++ q.drop 1 = q := by
  cases q with
  | nil => rfl
  | cons x q => rfl
theorem foldl_ins_perm : ∀ (l acc : List Nat), (l.foldl (fun acc x => insN ob js x acc) acc).Perm (l ++ acc)
  | [], acc => List.Perm.refl _
  | x :: l, acc => by
    rw [List.foldl_cons]
    refine (foldl_ins_perm l _).trans ?_
    refine (List.Perm.append_left l (insN_perm ob js x acc)).trans ?_
    exact List.perm_middle
theorem isortTo_perm (q : List Nat) (k : Nat) : (isortTo ob js q k).Perm (q.take k) := by
  have := foldl_ins_perm ob js (q.take k) []
  rwa [List.append_nil] at this
theorem isortTo_len (q : List Nat) {k : Nat} (h : k ≤ q.length) : (isortTo ob js q k).length = k := by
  have := (isortTo_perm ob js q k).length_eq
  rw [this, List.length_take]; omega
theorem isortL_perm (q : List Nat) : (isortL ob js q).Perm q := by
  have := isortTo_perm ob js q q.length
  rwa [List.take_of_length_le (Nat.le_refl _)] at this
theorem isortL_len (q : List Nat) : (isortL ob js q).length = q.length := (isortL_perm ob js q).length_eq
theorem isort_ruled : ∀ (k n : Nat), k ≤ n → isortTo ob js (List.range n) k = ruledTo ob js k
  | 0, n, _ => rfl
  | k + 1, n, h => by
    rw [isortTo_succ ob js (List.range n) (k := k) (by simp; omega), isort_ruled k n (by omega)]
    simp [ruledTo]
theorem isortL_ruled : isortL ob js (List.range js.length) = ruledL ob js := by
  unfold isortL ruledL
  rw [List.length_range]; exact isort_ruled ob js _ _ (Nat.le_refl _)
end
section
variable {ob : Int} {js : List J}
theorem foldl_ins_sorted (hg : ∀ j ∈ js, okJ j = true) : ∀ (l acc : List Nat), (∀ x ∈ l, x < js.length) → (∀ x ∈ acc, x < js.length) → SortedN ob js acc → SortedN ob js (l.foldl (fun acc x => insN ob js x acc) acc)
  | [], _, _, _, h => h
  | x :: l, acc, hl, ha, h => by
    rw [List.foldl_cons]
    refine foldl_ins_sorted hg l _ (fun y hy => hl y (List.mem_cons_of_mem _ hy)) (fun y hy => ?_) (insN_sorted hg (hl x List.mem_cons_self) ha h)
    rcases List.mem_cons.1 ((insN_perm ob js x acc).mem_iff.1 hy) with e | e
    · subst e; exact hl y List.mem_cons_self
    · exact ha y e
theorem isortTo_sorted (hg : ∀ j ∈ js, okJ j = true) {q : List Nat} (hq : ∀ x ∈ q, x < js.length) (k : Nat) : SortedN ob js (isortTo ob js q k) :=
  foldl_ins_sorted hg _ _ (fun x hx => hq x (List.mem_of_mem_take hx)) (by simp) List.Pairwise.nil
theorem isortTo_lt {q : List Nat} (hq : ∀ x ∈ q, x < js.length) {k x : Nat} (hx : x ∈ isortTo ob js q k) : x < js.length := hq x (List.mem_of_mem_take ((isortTo_perm ob js q k).mem_iff.1 hx))
end
/-- The list while one job moves forward. -/
def midL (out rest : List Nat) (x j : Nat) : List Nat := out.take j ++ x :: (out.drop j ++ rest)
theorem midL_len (out rest : List Nat) (x : Nat) {j : Nat} (h : j ≤ out.length) : (midL out rest x j).length = out.length + 1 + rest.length := by unfold midL; simp; omega
theorem midL_at (out rest : List Nat) (x : Nat) {j : Nat} (h : j ≤ out.length) : (midL out rest x j)[j]? = some x := by
  unfold midL
  rw [List.getElem?_append_right (by simp; omega)]
  have : (out.take j).length = j := by simp; omega
  rw [this, Nat.sub_self]; rfl
theorem midL_prev (out rest : List Nat) (x : Nat) {j : Nat} (h : j < out.length) : (midL out rest x (j + 1))[j]? = some out[j] := by
  unfold midL
  rw [List.getElem?_append_left (by simp; omega), List.getElem?_take, if_pos (by omega), List.getElem?_eq_getElem h]
theorem midL_swap (out rest : List Nat) (x : Nat) {j : Nat} (h : j < out.length) : ((midL out rest x (j + 1)).set (j + 1) out[j]).set j x = midL out rest x j := by
  unfold midL
  have e1 : out.take (j + 1) = out.take j ++ [out[j]] := List.take_succ_eq_append_getElem h
  have e2 : out.drop j = out[j] :: out.drop (j + 1) := List.drop_eq_getElem_cons h
  have hl : (out.take j).length = j := by simp; omega
  rw [e1, List.append_assoc, List.set_append_right _ _ (by omega), List.set_append_right _ _ (by omega), hl]
  rw [show j + 1 - j = 1 by omega, Nat.sub_self, e2]
  rfl
theorem midL_start (out rest : List Nat) (x : Nat) : midL out rest x out.length = out ++ x :: rest := by unfold midL; simp
end Go.Proofs.YtejgpecmjfgfbaaDoor

namespace Go.Proofs.YtejgpecmjfgfbaaDoor
/-- What is compared: ranks, then numbers. -/
def cmpJ (rk : Nat → Int) (i k : Nat) : Int := if rk k - rk i ≠ 0 then rk k - rk i else (i : Int) - k
def fB (rk : Nat → Int) (i k : Nat) : Bool := decide (cmpJ rk i k < 0)
theorem fB_low (rk : Nat → Int) {i k : Nat} (h : k < i) : fB rk i k = decide (rk k - rk i < 0) := by
  unfold fB cmpJ
  rw [Bool.eq_iff_iff, decide_eq_true_iff, decide_eq_true_iff]
  split <;> omega
theorem fB_up (rk : Nat → Int) {i k : Nat} (h : i < k) : fB rk i k = decide (rk k ≤ rk i) := by
  unfold fB cmpJ
  rw [Bool.eq_iff_iff, decide_eq_true_iff, decide_eq_true_iff]
  split <;> omega
theorem fJ_total {rk : Nat → Int} {i k : Nat} (h : i ≠ k) (h1 : fB rk i k = false) : fB rk k i = true := by
  have h2 := of_decide_eq_false h1
  refine decide_eq_true ?_
  unfold cmpJ at *
  split at h2 <;> split <;> omega
theorem fJ_trans {rk : Nat → Int} {i k m : Nat} (h1 : fB rk i k = true) (h2 : fB rk k m = true) : fB rk i m = true := by
  have h1 := of_decide_eq_true h1
  have h2 := of_decide_eq_true h2
  refine decide_eq_true ?_
  unfold cmpJ at *
  split at h1 <;> split at h2 <;> split <;> omega
theorem fJ_asym {rk : Nat → Int} {i k : Nat} (h : fB rk i k = true) : fB rk k i = false := by
  have h1 := of_decide_eq_true h
  refine decide_eq_false ?_
  unfold cmpJ at *
  split at h1 <;> split <;> omega
/-- A job put behind all that come before it. -/
def insJ (rk : Nat → Int) (x : Nat) : List Nat → List Nat
  | [] => [x]
  | y :: ys => if fB rk y x then y :: insJ rk x ys else x :: y :: ys
def joTo (rk : Nat → Int) (l : List Nat) : Nat → List Nat
  | 0 => []
  | k + 1 => insJ rk (l.getD k 0) (joTo rk l k)
def joL (rk : Nat → Int) (l : List Nat) : List Nat := joTo rk l l.length
theorem insJ_perm (rk : Nat → Int) (x : Nat) : ∀ ys : List Nat, (insJ rk x ys).Perm (x :: ys)
  | [] => List.Perm.refl _
  | y :: ys => by
    unfold insJ
    split
    · exact ((insJ_perm rk x ys).cons y).trans (List.Perm.swap x y ys)
    · exact List.Perm.refl _
theorem insJ_at (rk : Nat → Int) (x : Nat) : ∀ (ys : List Nat) (k : Nat), k ≤ ys.length → (∀ a ∈ ys.take k, fB rk a x = true) → (∀ h : k < ys.length, fB rk ys[k] x = false) → insJ rk x ys = ys.take k ++ [x] ++ ys.drop k
  | [], k, _, _, _ => by simp [insJ]
  | y :: ys, 0, _, _, h => by
    have := h (by simp)
    simp only [List.getElem_cons_zero] at this
    unfold insJ
    rw [this]
    rfl
  | y :: ys, k + 1, hk, h1, h2 => by
    have hy : fB rk y x = true := h1 y (by simp)
    unfold insJ
    rw [if_pos hy, insJ_at rk x ys k (by simpa using hk) (fun a ha => h1 a (by simp [ha])) (fun h => by have := h2 (by simpa using h); simpa using this)]
    simp
theorem joTo_len (rk : Nat → Int) (l : List Nat) : ∀ k, (joTo rk l k).length = k
  | 0 => rfl
  | k + 1 => by
    have := (insJ_perm rk (l.getD k 0) (joTo rk l k)).length_eq
    unfold joTo
    rw [this, List.length_cons, joTo_len rk l k]
theorem joTo_perm (rk : Nat → Int) (l : List Nat) : ∀ k, k ≤ l.length → (joTo rk l k).Perm (l.take k)
  | 0, _ => by simp [joTo]
  | k + 1, h => by
    have e : l.take (k + 1) = l.take k ++ [l.getD k 0] := by
      rw [List.take_succ_eq_append_getElem (by omega)]
      congr 2
      simp [List.getD, show k < l.length by omega]
    unfold joTo
    rw [e]
    exact ((insJ_perm rk _ _).trans ((joTo_perm rk l k (by omega)).cons _)).trans (List.perm_append_singleton _ _).symm
theorem joTo_mem {rk : Nat → Int} {l : List Nat} {k x : Nat} (hk : k ≤ l.length) (h : x ∈ joTo rk l k) : x ∈ l := List.mem_of_mem_take ((joTo_perm rk l k hk).mem_iff.1 h)
theorem joL_perm (rk : Nat → Int) (l : List Nat) : (joL rk l).Perm l := by
  have := joTo_perm rk l l.length (Nat.le_refl _)
  rwa [List.take_length] at this
theorem joL_len (rk : Nat → Int) (l : List Nat) : (joL rk l).length = l.length := joTo_len _ _ _
def FirL (rk : Nat → Int) (l : List Nat) : Prop := l.Pairwise fun a b => fB rk a b = true
theorem insJ_sorted {rk : Nat → Int} {x : Nat} : ∀ {ys : List Nat}, FirL rk ys → x ∉ ys → FirL rk (insJ rk x ys)
  | [], _, _ => by unfold insJ; exact List.pairwise_singleton _ _
  | y :: ys, h, hx => by
    obtain ⟨h1, h2⟩ := List.pairwise_cons.1 h
    unfold insJ
    split
    · rename_i hy
      refine List.pairwise_cons.2 ⟨fun z hz => ?_, insJ_sorted h2 (fun e => hx (List.mem_cons_of_mem _ e))⟩
      rcases List.mem_cons.1 ((insJ_perm rk x ys).mem_iff.1 hz) with e | e
      · rw [e]; exact hy
      · exact h1 z e
    · rename_i hy
      have hxy : fB rk x y = true := fJ_total (fun e => hx (by rw [← e]; exact List.mem_cons_self)) (by simpa using hy)
      refine List.pairwise_cons.2 ⟨fun z hz => ?_, h⟩
      rcases List.mem_cons.1 hz with e | e
      · rw [e]; exact hxy
      · exact fJ_trans hxy (h1 z e)
theorem joTo_fresh {rk : Nat → Int} {l : List Nat} (hd : l.Nodup) {k : Nat} (hk : k < l.length) : l[k] ∉ joTo rk l k := fun h => by
  have h1 := (joTo_perm rk l k (by omega)).mem_iff.1 h
  obtain ⟨i, hi, he⟩ := List.mem_iff_getElem.1 h1
  rw [List.getElem_take] at he
  rw [List.length_take] at hi
  have := (List.getElem_inj hd).1 he
  omega
theorem joTo_sorted {rk : Nat → Int} {l : List Nat} (hd : l.Nodup) : ∀ k, k ≤ l.length → FirL rk (joTo rk l k)
  | 0, _ => List.Pairwise.nil
  | k + 1, h => by
    have e : l.getD k 0 = l[k] := by simp [List.getD, show k < l.length by omega]
    unfold joTo
    rw [e]
    exact insJ_sorted (joTo_sorted hd k (by omega)) (joTo_fresh hd (by omega))
theorem joTo_succ {rk : Nat → Int} {l : List Nat} {k : Nat} (hk : k < l.length) : joTo rk l (k + 1) = insJ rk l[k] (joTo rk l k) := by
  have e : l.getD k 0 = l[k] := by simp [List.getD, hk]
  rw [← e]; rfl
theorem joTo_one (rk : Nat → Int) (q : List Nat) : joTo rk q 1 ++ q.drop 1 = q ∨ q = [] := by
  cases q with
  | nil => exact .inr rfl
  | cons x q => exact .inl rfl
/-- Put in from the back. -/
theorem insJ_back {rk : Nat → Int} {x : Nat} {out : List Nat} (hs : FirL rk out) (hx : x ∉ out) {j : Nat} (hj : j ≤ out.length) (h1 : ∀ h : 0 < j, fB rk x (out[j - 1]'(by omega)) = false) (h2 : ∀ i (h : i < out.length), j ≤ i → fB rk x out[i] = true) : insJ rk x out = out.take j ++ [x] ++ out.drop j := by
  refine insJ_at rk x out j hj (fun a ha => ?_) (fun h => fJ_asym (h2 j h (Nat.le_refl _)))
  obtain ⟨i, hi, rfl⟩ := List.mem_iff_getElem.1 ha
  rw [List.length_take] at hi
  rw [List.getElem_take]
  have hj0 : 0 < j := by omega
  have hlast : fB rk (out[j - 1]'(by omega)) x = true := fJ_total (fun e => hx (by rw [e]; exact List.getElem_mem _)) (h1 hj0)
  by_cases e : i = j - 1
  · subst e; exact hlast
  · exact fJ_trans (List.pairwise_iff_getElem.1 hs i (j - 1) (by omega) (by omega) (by omega)) hlast
end Go.Proofs.YtejgpecmjfgfbaaDoor

namespace Go.Proofs.YtejgpecmjfgfbaaDoor
open Go.RowKit
theorem joTo_rangeF (rk : Nat → Int) (n i : Nat) (h : i < n) : joTo rk (List.range n) (i + 1) = insJ rk i (joTo rk (List.range n) i) := by
  have e : (List.range n).getD i 0 = i := by simp [List.getD, h]
  show insJ rk ((List.range n).getD i 0) _ = _
  rw [e]
theorem infoIf : (Tryd.prog.info? 3).map (fun i => (i.zero, i.size, i.bytes)) = some (some (.int .i64 0), 1, 8) := by kernel_rfl
/-- An append of numbers to a slice of one's own. -/
theorem app_nums {w0 W : World} {B n : Nat} {v : Value} {xs ys : List Int} {sa : Addr} {sc : Nat} (h : W.ownsRow B 3 1 v n (ic xs)) (hb : Below B w0 W) (hB : B ≤ W.heap.size) (hs : ∀ j u, (ic ys)[j]? = some u → W.cell? (sa.add j) = some u) (hl : n ≤ 1000) (hy : ys.length ≤ 1000) :
    ∃ v' w3, (Builtin.append_ #[24, 24] 24 #[v, .slice (some sa) ys.length sc]).run Tryd.prog W = .ok v' w3 ∧ w3.ownsRow B 3 1 v' (n + ys.length) (ic (xs ++ ys)) ∧ Below B w0 w3 := by
  obtain ⟨i1, hj, hy0, hy1, hy2⟩ := info_parts infoIf
  have hil := ic_len ys
  obtain ⟨v', w3, hrun, ho3, hgr, _⟩ := run_append_own (P := Tryd.prog) W B 24 24 3 i1 (.int .i64 0) 1 8 Tryd.underlying24 hj hy0 hy1 hy2 rfl (by decide) _ _ _ h sa ys.length sc (ic ys) (by rw [ic_len]; omega) hs (by intro u hu; unfold ic at hu; obtain ⟨x, _, rfl⟩ := List.mem_map.1 hu; rfl) (by unfold maxLen; omega) (by omega) hB
  refine ⟨v', w3, hrun, ?_, hb.grown hgr hB (fun j hj => (h.lt j hj).1)⟩
  rw [show ic (xs ++ ys) = ic xs ++ ic ys by unfold ic; simp]
  exact ho3
theorem rep_getDF (n i : Nat) (h : i < n) : (Array.replicate n false).getD i true = false := by simp [Array.getD_eq_getD_getElem?, h]
structure Fq where
  vO : Value
  gN : Nat
  v1 : Value
  v2 : Value
section
variable (rk : Nat → Int) (R : Option Addr) (n cR : Nat) (w : World) (hn : n ≤ 8) (hr : Row w R (ic ((List.range n).map rk)))
include hn hr
set_option maxRecDepth 100000 in
set_option maxHeartbeats 4000000 in
theorem l7Falling_any : Calls Tryd.prog 52 #[.slice R n cR] w fun e w' => ∃ v, e = .returned v ∧ w'.ownsRow w.heap.size 3 1 v n (ic (natI (joL rk (List.range n)))) ∧ Below w.heap.size w w' := by
  have hb0 := (Below.refl w.heap.size w).alloc (Nat.le_refl _) (.cells #[] 3)
  have hown0 : (w.alloc (.cells #[] 3)).ownsRow w.heap.size 3 1 (.slice (some ⟨w.heap.size, 0, none⟩) 0 0) 0 [] := World.ownsRow_made w #[] 0 (Nat.le_refl _) (by unfold maxLen; omega) rfl
  have H0 := Lib.hid (And.intro hown0 hb0)
  have HRK : Hid (∀ W, Below w.heap.size w W → ∀ j, j < n → ∃ ra, R = some ra ∧ W.cell? (ra.add j) = some (.int .i64 (rk j))) := fun W hb j hj => by
    obtain ⟨ra, h1, h2⟩ := (hr.below hb).int (k := j) (by simpa using hj)
    exact ⟨ra, h1, by rw [h2]; simp⟩
  clear hown0 hb0 hr
  go_enter Tryd.func52, Tryd.ntmps52
  go_wp2
  go_loopw [3, 4] (fun v i wr => ∃ (k : Nat) (ad : Addr) (cc : Nat), k ≤ n ∧ v = .slice (some ad) k cc ∧ i = .int .i64 (k : Int) ∧ Hid (wr.ownsRow w.heap.size 3 1 (.slice (some ad) k cc) k (ic (natI (joTo rk (List.range n) k)))) ∧ Hid (Below w.heap.size w wr)) (fun _ i _ => n - (intOf i).toNat)
  case atStart => exact ⟨0, _, 0, Nat.zero_le _, rfl, rfl, H0.out.1, H0.out.2⟩
  case round =>
    obtain ⟨i, ad, cc, hik, rfl, rfl, HO, HW⟩ := hrel
    clear H0
    by_cases hlt : i < n
    · have hi0 : (0 : Int) ≤ i := by omega
      have hi1 : (i : Int) < n := by omega
      have hol := joTo_len rk (List.range n) i
      have HINS := Lib.hid (joTo_rangeF rk n i hlt)
      have HOUT : Hid (∀ a ∈ joTo rk (List.range n) i, a < i) := fun a ha => by
        have h1 := (joTo_perm rk (List.range n) i (by rw [List.length_range]; omega)).mem_iff.1 ha
        rw [List.take_range] at h1
        have := List.mem_range.1 h1
        omega
      generalize joTo rk (List.range n) i = out0 at *
      have HOL := Lib.hid hol
      clear hol
      obtain ⟨ra, hra, _⟩ := HRK.out wr HW.out i hlt
      subst hra
      obtain ⟨wo, hwo⟩ : ∃ x, x = wr := ⟨wr, rfl⟩
      subst hwo
      go_wp2
      go_loopw [5] (fun kv wi => ∃ k : Nat, k ≤ i ∧ kv = .int .i64 (k : Int) ∧ Hid (∀ a ∈ out0.take k, fB rk a i = true) ∧ Hid (Below wo.heap.size wo wi)) (fun kv _ => i - (intOf kv).toNat)
      case atStart => exact ⟨0, Nat.zero_le _, rfl, (fun a h => by cases h), Below.refl _ _⟩
      case round =>
        obtain ⟨k, hk, rfl, HG, HI⟩ := hrel
        have HWi := Lib.hid (HW.out.trans (HI.out.mono HW.out.size))
        have HOi := Lib.hid (own_blw HO.out HI.out)
        have HRow := Lib.hid (Row.of_own HOi.out)
        by_cases hki : k < i
        · have hko : k < out0.length := by rw [HOL.out]; exact hki
          have hk0 : (0 : Int) ≤ k := by omega
          have hk1 : (k : Int) < i := by omega
          obtain ⟨ad', hA', hc0⟩ := HRow.out.nat hko
          injection hA' with hA'
          subst hA'
          have hx0 := HOUT.out _ (List.getElem_mem hko)
          obtain ⟨ra', hra, hcx⟩ := HRK.out wr HWi.out out0[k] (by omega)
          injection hra with hra
          subst hra
          obtain ⟨ra', hra, hci⟩ := HRK.out wr HWi.out i hlt
          injection hra with hra
          subst hra
          have hfb := fB_up rk hx0
          have HST : Hid (fB rk out0[k] i = true → ∀ a ∈ out0.take (k + 1), fB rk a i = true) := fun h a ha => by
            rw [List.take_succ_eq_append_getElem hko] at ha
            rcases List.mem_append.1 ha with h1 | h1
            · exact HG.out a h1
            · rw [List.mem_singleton.1 h1]; exact h
          have HSF : Hid (fB rk out0[k] i = false → joTo rk (List.range n) (i + 1) = out0.take k ++ [i] ++ out0.drop k) := fun h => HINS.out.trans (insJ_at rk i out0 k (by omega) HG.out (fun _ => h))
          obtain ⟨x0, hx0e⟩ : ∃ x0, out0[k] = x0 := ⟨_, rfl⟩
          rw [hx0e] at hc0 hx0 hcx hfb HST HSF
          have hxn : (x0 : Int) < n := by omega
          have hx00 : (0 : Int) ≤ x0 := by omega
          clear hx0e hko hx0
          generalize rk x0 = rx at *
          generalize rk i = ri at *
          by_cases hge : ri ≤ rx
          · rw [decide_eq_true hge] at hfb
            have HG2 := Lib.hid (HST.out hfb)
            clear hfb HST HSF
            go_wp2
            go_quiet (fail)
            go_wp2
            go_roundw
            case rel => exact ⟨k + 1, by omega, by go_num, HG2.out, below_drewN HI.out _⟩
            case measure => simp [intOf]; omega
          · rw [decide_eq_false hge] at hfb
            have HF := Lib.hid (HSF.out hfb)
            have hge2 : decide (ri ≤ rx) = false := decide_eq_false hge
            clear hfb HST HSF
            go_wp2
            go_quiet (fail)
            go_wp2
            generalize hw1 : World.drewN wr _ = w1
            have HI1 : Hid (Below wo.heap.size wo w1) := by rw [← hw1]; exact below_drewN HI.out _
            have HW1 := Lib.hid (HW.out.trans (HI1.out.mono HW.out.size))
            have HROW : Hid (Row w1 (some ad) (ic (natI out0))) := Row.of_own (own_blw HO.out HI1.out)
            have hcc : i ≤ cc := by have := own_slice HO.out; obtain ⟨_, _, e, h, _⟩ := this; injection e with _ _ e3; omega
            have hnl : (natI out0).length = i := by rw [List.length_map, HOL.out]
            have HNL := Lib.hid hnl
            clear hw1 HI HWi HOi HRow HI1 hnl
            refine wp_region_detQ (γ := Fq) (by kernel_rfl) (fun x L W => Below w1.heap.size w1 W ∧ (L.getD 3 true = true → L.getD 6 true = false → W.ownsRow w1.heap.size 3 1 x.vO k (ic ((natI out0).take k))) ∧ (L.getD 5 true = true → L.getD 6 true = false → BlockIs W x.gN 3 #[.int .i64 (i : Int)]) ∧ (L.getD 6 true = true → L.getD 10 true = false → W.ownsRow w1.heap.size 3 1 x.v1 (k + 1) (ic ((natI out0).take k ++ [(i : Int)]))) ∧ (L.getD 10 true = true → W.ownsRow w1.heap.size 3 1 x.v2 (i + 1) (ic ((natI out0).take k ++ [(i : Int)] ++ (natI out0).drop k)))) (fun x kk => (#[.slice (some ad) i cc, .int .i64 (k : Int), .slice (some ad) k cc, x.vO, .int .i64 (i : Int), .slice (some ⟨x.gN, 0, none⟩) 1 1, x.v1, .slice (some ad) i cc, .int .i64 (k : Int), .slice (some (tailAd ad k cc)) (i - k) (cc - k), x.v2, x.v2] : Array Value).getD kk undef) ⟨undef, 0, undef, undef⟩ (by kernel_rfl) (by kernel_rfl) ⟨(Below.refl _ _).drew, fun h => absurd (h.symm.trans (rep_getDF 12 3 (by decide))) (by decide), fun h => absurd (h.symm.trans (rep_getDF 12 5 (by decide))) (by decide), fun h => absurd (h.symm.trans (rep_getDF 12 6 (by decide))) (by decide), fun h => absurd (h.symm.trans (rep_getDF 12 10 (by decide))) (by decide)⟩ ?_ ?_
            · intro x L W hall hS
              have ho2 := hS.2.2.2.2 (hall 10 (by show 10 < 12; decide))
              have hbW := HW1.out.trans (hS.1.mono HW1.out.size)
              have hvs := own_slice ho2
              obtain ⟨A2, c2, hv2, _, _⟩ := hvs
              have hA2 : ∃ a2, A2 = some a2 := by
                obtain ⟨g2, _, e2, _⟩ := own_block (hv2 ▸ ho2) (by omega)
                exact ⟨_, e2⟩
              obtain ⟨a2, rfl⟩ := hA2
              rw [hv2] at ho2
              have HO2 := Lib.hid (And.intro (own_lower ho2 HW1.out.size) hbW)
              have HF2 : Hid ((natI out0).take k ++ [(i : Int)] ++ (natI out0).drop k = natI (joTo rk (List.range n) (i + 1))) := by show _ = _; rw [HF.out]; simp [List.map_take, List.map_drop]
              rw [HF2.out] at HO2
              clear hS hall ho2 hbW HO HW HF HG HINS HOUT
              simp only [putsL]
              rw [hv2]
              clear hv2
              go_wp2
              go_roundw
              case rel => exact ⟨i + 1, a2, c2, by omega, rfl, by go_num, HO2.out.1, HO2.out.2⟩
              case measure => simp [intOf]; omega
            · intro x L ac W iq op hLs hop hLi hLd hLn ⟨hS0, hS3, hS5, hS6, hS10⟩ hlow hdep hold
              have hq : iq < 12 := (Array.getElem?_eq_some_iff.1 hop).1
              have K : iq ≠ 3 → iq ≠ 5 → iq ≠ 6 → iq ≠ 10 → Below w1.heap.size w1 W ∧ ((L.setIfInBounds iq true).getD 3 true = true → (L.setIfInBounds iq true).getD 6 true = false → W.ownsRow w1.heap.size 3 1 x.vO k (ic ((natI out0).take k))) ∧ ((L.setIfInBounds iq true).getD 5 true = true → (L.setIfInBounds iq true).getD 6 true = false → BlockIs W x.gN 3 #[.int .i64 (i : Int)]) ∧ ((L.setIfInBounds iq true).getD 6 true = true → (L.setIfInBounds iq true).getD 10 true = false → W.ownsRow w1.heap.size 3 1 x.v1 (k + 1) (ic ((natI out0).take k ++ [(i : Int)]))) ∧ ((L.setIfInBounds iq true).getD 10 true = true → W.ownsRow w1.heap.size 3 1 x.v2 (i + 1) (ic ((natI out0).take k ++ [(i : Int)] ++ (natI out0).drop k))) := fun h3 h5 h6 h10 => by
                rw [listed_ne h3, listed_ne h5, listed_ne h6, listed_ne h10]
                exact ⟨hS0, hS3, hS5, hS6, hS10⟩
              have val_eq : ∀ (q : Nat) (y : Fq), (∀ j, j < 12 → j ≠ q → L.getD j true = true → (#[.slice (some ad) i cc, .int .i64 (k : Int), .slice (some ad) k cc, y.vO, .int .i64 (i : Int), .slice (some ⟨y.gN, 0, none⟩) 1 1, y.v1, .slice (some ad) i cc, .int .i64 (k : Int), .slice (some (tailAd ad k cc)) (i - k) (cc - k), y.v2, y.v2] : Array Value).getD j undef = (#[.slice (some ad) i cc, .int .i64 (k : Int), .slice (some ad) k cc, x.vO, .int .i64 (i : Int), .slice (some ⟨x.gN, 0, none⟩) 1 1, x.v1, .slice (some ad) i cc, .int .i64 (k : Int), .slice (some (tailAd ad k cc)) (i - k) (cc - k), x.v2, x.v2] : Array Value).getD j undef) → L.getD q true = false → ∀ j, L.getD j true = true → (#[.slice (some ad) i cc, .int .i64 (k : Int), .slice (some ad) k cc, y.vO, .int .i64 (i : Int), .slice (some ⟨y.gN, 0, none⟩) 1 1, y.v1, .slice (some ad) i cc, .int .i64 (k : Int), .slice (some (tailAd ad k cc)) (i - k) (cc - k), y.v2, y.v2] : Array Value).getD j undef = (#[.slice (some ad) i cc, .int .i64 (k : Int), .slice (some ad) k cc, x.vO, .int .i64 (i : Int), .slice (some ⟨x.gN, 0, none⟩) 1 1, x.v1, .slice (some ad) i cc, .int .i64 (k : Int), .slice (some (tailAd ad k cc)) (i - k) (cc - k), x.v2, x.v2] : Array Value).getD j undef := fun q y hag hi j hj => by
                by_cases h15 : j < 12
                · exact hag j h15 (fun e => by subst e; rw [hi] at hj; cases hj) hj
                · have h1 : 12 ≤ j := by omega
                  rw [Array.getD_eq_getD_getElem?, Array.getD_eq_getD_getElem?, Array.getElem?_eq_none (by simpa using h1), Array.getElem?_eq_none (by simpa using h1)]
              rcases (by omega : iq = 0 ∨ iq = 1 ∨ iq = 2 ∨ iq = 3 ∨ iq = 4 ∨ iq = 5 ∨ iq = 6 ∨ iq = 7 ∨ iq = 8 ∨ iq = 9 ∨ iq = 10 ∨ iq = 11) with rfl | rfl | rfl | rfl | rfl | rfl | rfl | rfl | rfl | rfl | rfl | rfl
              · obtain rfl := Option.some.inj hop
                have e3 : ac.tmps[3]?.getD undef = .slice (some ad) i cc := (Array.getD_eq_getD_getElem? ..).symm.trans (hold 11 _ 3 (by kernel_rfl) rfl rfl)
                exact ⟨wanted_free rfl, .inl ⟨x, W, fun _ _ => rfl, by simp [execOp, Act.eval, e3, go_sem], K (by decide) (by decide) (by decide) (by decide)⟩⟩
              · obtain rfl := Option.some.inj hop
                have e5 : ac.tmps[5]?.getD undef = .int .i64 (k : Int) := (Array.getD_eq_getD_getElem? ..).symm.trans (hlow 5 (by kernel_rfl))
                exact ⟨wanted_free rfl, .inl ⟨x, W, fun _ _ => rfl, by simp [execOp, Act.eval, e5, go_sem], K (by decide) (by decide) (by decide) (by decide)⟩⟩
              · obtain rfl := Option.some.inj hop
                have e33 : ac.tmps[33]?.getD undef = .slice (some ad) i cc := (Array.getD_eq_getD_getElem? ..).symm.trans (hdep 0 _ 33 (by kernel_rfl) rfl rfl)
                have e34 : ac.tmps[34]?.getD undef = .int .i64 (k : Int) := (Array.getD_eq_getD_getElem? ..).symm.trans (hdep 1 _ 34 (by kernel_rfl) rfl rfl)
                exact ⟨wanted_free rfl, .inl ⟨x, W, fun _ _ => rfl, exec_slice rfl (by simp only [Act.eval, Option.map_some, Option.map_none, Array.getD_eq_getD_getElem?, e33, e34]; exact slice_h ad _ cc k W (by omega)), K (by decide) (by decide) (by decide) (by decide)⟩⟩
              · obtain rfl := Option.some.inj hop
                have e35 : ac.tmps[35]?.getD undef = .slice (some ad) k cc := (Array.getD_eq_getD_getElem? ..).symm.trans (hdep 2 _ 35 (by kernel_rfl) rfl rfl)
                have hCL := l1Own_some ad cc ((natI out0).take k) W (row_take (HROW.out.below hS0) k) (by rw [List.length_take, HNL.out]; omega)
                rw [List.length_take, HNL.out, Nat.min_eq_left hk] at hCL
                refine ⟨wanted_free rfl, .inr (.inl ⟨85, #[.slice (some ad) k cc], by simp [execOp, Act.eval, e35, go_sem], hCL.mono ?_⟩)⟩
                rintro e w2 ⟨ad2, c2, rfl, ho2, hb2⟩
                have hN6 := hLn 6 (by kernel_rfl)
                refine ⟨{ x with vO := .slice (some ad2) k c2 }, (val_eq 3 { x with vO := .slice (some ad2) k c2 } (fun j hj h1 hl => by rcases (by omega : j = 0 ∨ j = 1 ∨ j = 2 ∨ j = 4 ∨ j = 5 ∨ j = 6 ∨ j = 7 ∨ j = 8 ∨ j = 9 ∨ j = 10 ∨ j = 11) with rfl | rfl | rfl | rfl | rfl | rfl | rfl | rfl | rfl | rfl | rfl <;> first | rfl | (exact absurd hl (by first | rw [hLn 10 (by kernel_rfl)]; decide | rw [hLn 11 (by kernel_rfl)]; decide | rw [hN11]; decide))) hLi), rfl, hS0.trans (hb2.mono hS0.size), fun _ _ => own_lower ho2 hS0.size, ?_, ?_, ?_⟩
                · rw [listed_ne (by decide), listed_ne (by decide)]; exact fun h h6 => (hS5 h h6).below hb2
                · rw [listed_ne (by decide), hN6]; exact fun h => by cases h
                · rw [listed_ne (by decide)]; exact fun h => own_blw (hS10 h) hb2
              · obtain rfl := Option.some.inj hop
                have e4 : ac.tmps[4]?.getD undef = .int .i64 (i : Int) := (Array.getD_eq_getD_getElem? ..).symm.trans (hlow 4 (by kernel_rfl))
                exact ⟨wanted_free rfl, .inl ⟨x, W, fun _ _ => rfl, by simp [execOp, Act.eval, e4, go_sem], K (by decide) (by decide) (by decide) (by decide)⟩⟩
              · obtain rfl := Option.some.inj hop
                have e37 : ac.tmps[37]?.getD undef = .int .i64 (i : Int) := (Array.getD_eq_getD_getElem? ..).symm.trans (hdep 4 _ 37 (by kernel_rfl) rfl rfl)
                have hb2 := (Below.refl W.heap.size W).alloc (Nat.le_refl _) (.cells #[.int .i64 (i : Int)] 3)
                have hN6 := hLn 6 (by kernel_rfl)
                refine ⟨wanted_free rfl, .inl ⟨{ x with gN := W.heap.size }, W.alloc (.cells #[.int .i64 (i : Int)] 3), (val_eq 5 { x with gN := W.heap.size } (fun j hj h1 hl => by rcases (by omega : j = 0 ∨ j = 1 ∨ j = 2 ∨ j = 3 ∨ j = 4 ∨ j = 6 ∨ j = 7 ∨ j = 8 ∨ j = 9 ∨ j = 10 ∨ j = 11) with rfl | rfl | rfl | rfl | rfl | rfl | rfl | rfl | rfl | rfl | rfl <;> first | rfl | (exact absurd hl (by first | rw [hLn 10 (by kernel_rfl)]; decide | rw [hLn 11 (by kernel_rfl)]; decide | rw [hN11]; decide))) hLi), by simp [execOp, Act.eval, e37, go_sem], hS0.alloc hS0.size _, ?_, fun _ _ => BlockIs.new W 3 #[.int .i64 (i : Int)], ?_, ?_⟩⟩
                · rw [listed_ne (by decide), listed_ne (by decide)]; exact fun h h6 => own_blw (hS3 h h6) hb2
                · rw [listed_ne (by decide), hN6]; exact fun h => by cases h
                · rw [listed_ne (by decide)]; exact fun h => own_blw (hS10 h) hb2
              · obtain rfl := Option.some.inj hop
                have e36 : ac.tmps[36]?.getD undef = x.vO := (Array.getD_eq_getD_getElem? ..).symm.trans (hdep 3 _ 36 (by kernel_rfl) rfl rfl)
                have e38 : ac.tmps[38]?.getD undef = .slice (some ⟨x.gN, 0, none⟩) 1 1 := (Array.getD_eq_getD_getElem? ..).symm.trans (hdep 5 _ 38 (by kernel_rfl) rfl rfl)
                have hO := hS3 (hLd 3 (by kernel_rfl)) hLi
                have hB := hS5 (hLd 5 (by kernel_rfl)) hLi
                have hN10 := hLn 10 (by kernel_rfl)
                obtain ⟨v1, w3, hrun, ho3, hb3⟩ := app_nums (ys := [(i : Int)]) (sa := ⟨x.gN, 0, none⟩) (sc := 1) hO hS0 hS0.size (row_srcS (rowOf hB)) (by omega) (by simp)
                refine ⟨wanted_free rfl, .inl ⟨{ x with v1 := v1 }, w3, (val_eq 6 { x with v1 := v1 } (fun j hj h1 hl => by rcases (by omega : j = 0 ∨ j = 1 ∨ j = 2 ∨ j = 3 ∨ j = 4 ∨ j = 5 ∨ j = 7 ∨ j = 8 ∨ j = 9 ∨ j = 10 ∨ j = 11) with rfl | rfl | rfl | rfl | rfl | rfl | rfl | rfl | rfl | rfl | rfl <;> first | rfl | (exact absurd hl (by first | rw [hLn 10 (by kernel_rfl)]; decide | rw [hLn 11 (by kernel_rfl)]; decide | rw [hN11]; decide))) hLi), exec_append rfl (by simp [Act.eval, e36]) (by simp [Act.eval, e38]) hrun, hb3, ?_, ?_, fun _ _ => ho3, ?_⟩⟩
                · intro _ h; rw [listed_at (by rw [hLs]; decide)] at h; cases h
                · intro _ h; rw [listed_at (by rw [hLs]; decide)] at h; cases h
                · rw [listed_ne (by decide), hN10]; exact fun h => by cases h
              · obtain rfl := Option.some.inj hop
                have e3 : ac.tmps[3]?.getD undef = .slice (some ad) i cc := (Array.getD_eq_getD_getElem? ..).symm.trans (hold 11 _ 3 (by kernel_rfl) rfl rfl)
                exact ⟨wanted_free rfl, .inl ⟨x, W, fun _ _ => rfl, by simp [execOp, Act.eval, e3, go_sem], K (by decide) (by decide) (by decide) (by decide)⟩⟩
              · obtain rfl := Option.some.inj hop
                have e5 : ac.tmps[5]?.getD undef = .int .i64 (k : Int) := (Array.getD_eq_getD_getElem? ..).symm.trans (hlow 5 (by kernel_rfl))
                exact ⟨wanted_free rfl, .inl ⟨x, W, fun _ _ => rfl, by simp [execOp, Act.eval, e5, go_sem], K (by decide) (by decide) (by decide) (by decide)⟩⟩
              · obtain rfl := Option.some.inj hop
                have e40 : ac.tmps[40]?.getD undef = .slice (some ad) i cc := (Array.getD_eq_getD_getElem? ..).symm.trans (hdep 7 _ 40 (by kernel_rfl) rfl rfl)
                have e41 : ac.tmps[41]?.getD undef = .int .i64 (k : Int) := (Array.getD_eq_getD_getElem? ..).symm.trans (hdep 8 _ 41 (by kernel_rfl) rfl rfl)
                exact ⟨wanted_free rfl, .inl ⟨x, W, fun _ _ => rfl, exec_slice rfl (by simp only [Act.eval, Option.map_some, Option.map_none, Array.getD_eq_getD_getElem?, e40, e41]; exact slice_l ad _ cc k W (by omega)), K (by decide) (by decide) (by decide) (by decide)⟩⟩
              · obtain rfl := Option.some.inj hop
                have e39 : ac.tmps[39]?.getD undef = x.v1 := (Array.getD_eq_getD_getElem? ..).symm.trans (hdep 6 _ 39 (by kernel_rfl) rfl rfl)
                have e42 : ac.tmps[42]?.getD undef = .slice (some (tailAd ad k cc)) (i - k) (cc - k) := (Array.getD_eq_getD_getElem? ..).symm.trans (hdep 9 _ 42 (by kernel_rfl) rfl rfl)
                have hO := hS6 (hLd 6 (by kernel_rfl)) hLi
                have h6t := hLd 6 (by kernel_rfl)
                have hN11 := hLn 11 (by kernel_rfl)
                have hyl : ((natI out0).drop k).length = i - k := by rw [List.length_drop, HNL.out]
                have hap := app_nums (ys := (natI out0).drop k) (sa := tailAd ad k cc) (sc := cc - k) hO hS0 hS0.size (tail_src (HROW.out.below hS0) (by rw [HNL.out]; exact hcc)) (by omega) (by rw [hyl]; omega)
                rw [hyl, show k + 1 + (i - k) = i + 1 by omega] at hap
                obtain ⟨v2, w3, hrun, ho3, hb3⟩ := hap
                refine ⟨wanted_free rfl, .inl ⟨{ x with v2 := v2 }, w3, (val_eq 10 { x with v2 := v2 } (fun j hj h1 hl => by rcases (by omega : j = 0 ∨ j = 1 ∨ j = 2 ∨ j = 3 ∨ j = 4 ∨ j = 5 ∨ j = 6 ∨ j = 7 ∨ j = 8 ∨ j = 9 ∨ j = 11) with rfl | rfl | rfl | rfl | rfl | rfl | rfl | rfl | rfl | rfl | rfl <;> first | rfl | (exact absurd hl (by first | rw [hLn 10 (by kernel_rfl)]; decide | rw [hLn 11 (by kernel_rfl)]; decide | rw [hN11]; decide))) hLi), exec_append rfl (by simp [Act.eval, e39]) (by simp [Act.eval, e42]) hrun, hb3, ?_, ?_, ?_, fun _ => ho3⟩⟩
                · rw [listed_ne (i := 10) (j := 6) (by decide), h6t]; exact fun _ h => by cases h
                · rw [listed_ne (i := 10) (j := 6) (by decide), h6t]; exact fun _ h => by cases h
                · intro _ h; rw [listed_at (by rw [hLs]; decide)] at h; cases h
              · obtain rfl := Option.some.inj hop
                have e43 : ac.tmps[43]?.getD undef = x.v2 := (Array.getD_eq_getD_getElem? ..).symm.trans (hdep 10 _ 43 (by kernel_rfl) rfl rfl)
                exact ⟨wanted_free rfl, .inl ⟨x, W, fun _ _ => rfl, by simp [execOp, Act.eval, e43, go_sem], K (by decide) (by decide) (by decide) (by decide)⟩⟩
        · have hki2 : i ≤ k := by omega
          have HF := Lib.hid (HINS.out.trans (insJ_at rk i out0 k (by rw [HOL.out]; omega) HG.out (fun h => by rw [HOL.out] at h; omega)))
          have hk1 : decide ((k : Int) < i) = false := decide_eq_false (by omega)
          have hk2 : decide (k < i) = false := decide_eq_false (by omega)
          go_wp2
          go_quiet (fail)
          go_wp2
          generalize hw1 : World.drewN wr _ = w1
          have HI1 : Hid (Below wo.heap.size wo w1) := by rw [← hw1]; exact below_drewN HI.out _
          have HW1 := Lib.hid (HW.out.trans (HI1.out.mono HW.out.size))
          have HROW : Hid (Row w1 (some ad) (ic (natI out0))) := Row.of_own (own_blw HO.out HI1.out)
          have hcc : i ≤ cc := by have := own_slice HO.out; obtain ⟨_, _, e, h, _⟩ := this; injection e with _ _ e3; omega
          have hnl : (natI out0).length = i := by rw [List.length_map, HOL.out]
          have HNL := Lib.hid hnl
          clear hw1 HI HWi HOi HRow HI1 hnl
          refine wp_region_detQ (γ := Fq) (by kernel_rfl) (fun x L W => Below w1.heap.size w1 W ∧ (L.getD 3 true = true → L.getD 6 true = false → W.ownsRow w1.heap.size 3 1 x.vO k (ic ((natI out0).take k))) ∧ (L.getD 5 true = true → L.getD 6 true = false → BlockIs W x.gN 3 #[.int .i64 (i : Int)]) ∧ (L.getD 6 true = true → L.getD 10 true = false → W.ownsRow w1.heap.size 3 1 x.v1 (k + 1) (ic ((natI out0).take k ++ [(i : Int)]))) ∧ (L.getD 10 true = true → W.ownsRow w1.heap.size 3 1 x.v2 (i + 1) (ic ((natI out0).take k ++ [(i : Int)] ++ (natI out0).drop k)))) (fun x kk => (#[.slice (some ad) i cc, .int .i64 (k : Int), .slice (some ad) k cc, x.vO, .int .i64 (i : Int), .slice (some ⟨x.gN, 0, none⟩) 1 1, x.v1, .slice (some ad) i cc, .int .i64 (k : Int), .slice (some (tailAd ad k cc)) (i - k) (cc - k), x.v2, x.v2] : Array Value).getD kk undef) ⟨undef, 0, undef, undef⟩ (by kernel_rfl) (by kernel_rfl) ⟨(Below.refl _ _).drew, fun h => absurd (h.symm.trans (rep_getDF 12 3 (by decide))) (by decide), fun h => absurd (h.symm.trans (rep_getDF 12 5 (by decide))) (by decide), fun h => absurd (h.symm.trans (rep_getDF 12 6 (by decide))) (by decide), fun h => absurd (h.symm.trans (rep_getDF 12 10 (by decide))) (by decide)⟩ ?_ ?_
          · intro x L W hall hS
            have ho2 := hS.2.2.2.2 (hall 10 (by show 10 < 12; decide))
            have hbW := HW1.out.trans (hS.1.mono HW1.out.size)
            have hvs := own_slice ho2
            obtain ⟨A2, c2, hv2, _, _⟩ := hvs
            have hA2 : ∃ a2, A2 = some a2 := by
              obtain ⟨g2, _, e2, _⟩ := own_block (hv2 ▸ ho2) (by omega)
              exact ⟨_, e2⟩
            obtain ⟨a2, rfl⟩ := hA2
            rw [hv2] at ho2
            have HO2 := Lib.hid (And.intro (own_lower ho2 HW1.out.size) hbW)
            have HF2 : Hid ((natI out0).take k ++ [(i : Int)] ++ (natI out0).drop k = natI (joTo rk (List.range n) (i + 1))) := by show _ = _; rw [HF.out]; simp [List.map_take, List.map_drop]
            rw [HF2.out] at HO2
            clear hS hall ho2 hbW HO HW HF HG HINS HOUT
            simp only [putsL]
            rw [hv2]
            clear hv2
            go_wp2
            go_roundw
            case rel => exact ⟨i + 1, a2, c2, by omega, rfl, by go_num, HO2.out.1, HO2.out.2⟩
            case measure => simp [intOf]; omega
          · intro x L ac W iq op hLs hop hLi hLd hLn ⟨hS0, hS3, hS5, hS6, hS10⟩ hlow hdep hold
            have hq : iq < 12 := (Array.getElem?_eq_some_iff.1 hop).1
            have K : iq ≠ 3 → iq ≠ 5 → iq ≠ 6 → iq ≠ 10 → Below w1.heap.size w1 W ∧ ((L.setIfInBounds iq true).getD 3 true = true → (L.setIfInBounds iq true).getD 6 true = false → W.ownsRow w1.heap.size 3 1 x.vO k (ic ((natI out0).take k))) ∧ ((L.setIfInBounds iq true).getD 5 true = true → (L.setIfInBounds iq true).getD 6 true = false → BlockIs W x.gN 3 #[.int .i64 (i : Int)]) ∧ ((L.setIfInBounds iq true).getD 6 true = true → (L.setIfInBounds iq true).getD 10 true = false → W.ownsRow w1.heap.size 3 1 x.v1 (k + 1) (ic ((natI out0).take k ++ [(i : Int)]))) ∧ ((L.setIfInBounds iq true).getD 10 true = true → W.ownsRow w1.heap.size 3 1 x.v2 (i + 1) (ic ((natI out0).take k ++ [(i : Int)] ++ (natI out0).drop k))) := fun h3 h5 h6 h10 => by
              rw [listed_ne h3, listed_ne h5, listed_ne h6, listed_ne h10]
              exact ⟨hS0, hS3, hS5, hS6, hS10⟩
            have val_eq : ∀ (q : Nat) (y : Fq), (∀ j, j < 12 → j ≠ q → L.getD j true = true → (#[.slice (some ad) i cc, .int .i64 (k : Int), .slice (some ad) k cc, y.vO, .int .i64 (i : Int), .slice (some ⟨y.gN, 0, none⟩) 1 1, y.v1, .slice (some ad) i cc, .int .i64 (k : Int), .slice (some (tailAd ad k cc)) (i - k) (cc - k), y.v2, y.v2] : Array Value).getD j undef = (#[.slice (some ad) i cc, .int .i64 (k : Int), .slice (some ad) k cc, x.vO, .int .i64 (i : Int), .slice (some ⟨x.gN, 0, none⟩) 1 1, x.v1, .slice (some ad) i cc, .int .i64 (k : Int), .slice (some (tailAd ad k cc)) (i - k) (cc - k), x.v2, x.v2] : Array Value).getD j undef) → L.getD q true = false → ∀ j, L.getD j true = true → (#[.slice (some ad) i cc, .int .i64 (k : Int), .slice (some ad) k cc, y.vO, .int .i64 (i : Int), .slice (some ⟨y.gN, 0, none⟩) 1 1, y.v1, .slice (some ad) i cc, .int .i64 (k : Int), .slice (some (tailAd ad k cc)) (i - k) (cc - k), y.v2, y.v2] : Array Value).getD j undef = (#[.slice (some ad) i cc, .int .i64 (k : Int), .slice (some ad) k cc, x.vO, .int .i64 (i : Int), .slice (some ⟨x.gN, 0, none⟩) 1 1, x.v1, .slice (some ad) i cc, .int .i64 (k : Int), .slice (some (tailAd ad k cc)) (i - k) (cc - k), x.v2, x.v2] : Array Value).getD j undef := fun q y hag hi j hj => by
              by_cases h15 : j < 12
              · exact hag j h15 (fun e => by subst e; rw [hi] at hj; cases hj) hj
              · have h1 : 12 ≤ j := by omega
                rw [Array.getD_eq_getD_getElem?, Array.getD_eq_getD_getElem?, Array.getElem?_eq_none (by simpa using h1), Array.getElem?_eq_none (by simpa using h1)]
            rcases (by omega : iq = 0 ∨ iq = 1 ∨ iq = 2 ∨ iq = 3 ∨ iq = 4 ∨ iq = 5 ∨ iq = 6 ∨ iq = 7 ∨ iq = 8 ∨ iq = 9 ∨ iq = 10 ∨ iq = 11) with rfl | rfl | rfl | rfl | rfl | rfl | rfl | rfl | rfl | rfl | rfl | rfl
            · obtain rfl := Option.some.inj hop
              have e3 : ac.tmps[3]?.getD undef = .slice (some ad) i cc := (Array.getD_eq_getD_getElem? ..).symm.trans (hold 11 _ 3 (by kernel_rfl) rfl rfl)
              exact ⟨wanted_free rfl, .inl ⟨x, W, fun _ _ => rfl, by simp [execOp, Act.eval, e3, go_sem], K (by decide) (by decide) (by decide) (by decide)⟩⟩
            · obtain rfl := Option.some.inj hop
              have e5 : ac.tmps[5]?.getD undef = .int .i64 (k : Int) := (Array.getD_eq_getD_getElem? ..).symm.trans (hlow 5 (by kernel_rfl))
              exact ⟨wanted_free rfl, .inl ⟨x, W, fun _ _ => rfl, by simp [execOp, Act.eval, e5, go_sem], K (by decide) (by decide) (by decide) (by decide)⟩⟩
            · obtain rfl := Option.some.inj hop
              have e33 : ac.tmps[33]?.getD undef = .slice (some ad) i cc := (Array.getD_eq_getD_getElem? ..).symm.trans (hdep 0 _ 33 (by kernel_rfl) rfl rfl)
              have e34 : ac.tmps[34]?.getD undef = .int .i64 (k : Int) := (Array.getD_eq_getD_getElem? ..).symm.trans (hdep 1 _ 34 (by kernel_rfl) rfl rfl)
              exact ⟨wanted_free rfl, .inl ⟨x, W, fun _ _ => rfl, exec_slice rfl (by simp only [Act.eval, Option.map_some, Option.map_none, Array.getD_eq_getD_getElem?, e33, e34]; exact slice_h ad _ cc k W (by omega)), K (by decide) (by decide) (by decide) (by decide)⟩⟩
            · obtain rfl := Option.some.inj hop
              have e35 : ac.tmps[35]?.getD undef = .slice (some ad) k cc := (Array.getD_eq_getD_getElem? ..).symm.trans (hdep 2 _ 35 (by kernel_rfl) rfl rfl)
              have hCL := l1Own_some ad cc ((natI out0).take k) W (row_take (HROW.out.below hS0) k) (by rw [List.length_take, HNL.out]; omega)
              rw [List.length_take, HNL.out, Nat.min_eq_left hk] at hCL
              refine ⟨wanted_free rfl, .inr (.inl ⟨85, #[.slice (some ad) k cc], by simp [execOp, Act.eval, e35, go_sem], hCL.mono ?_⟩)⟩
              rintro e w2 ⟨ad2, c2, rfl, ho2, hb2⟩
              have hN6 := hLn 6 (by kernel_rfl)
              refine ⟨{ x with vO := .slice (some ad2) k c2 }, (val_eq 3 { x with vO := .slice (some ad2) k c2 } (fun j hj h1 hl => by rcases (by omega : j = 0 ∨ j = 1 ∨ j = 2 ∨ j = 4 ∨ j = 5 ∨ j = 6 ∨ j = 7 ∨ j = 8 ∨ j = 9 ∨ j = 10 ∨ j = 11) with rfl | rfl | rfl | rfl | rfl | rfl | rfl | rfl | rfl | rfl | rfl <;> first | rfl | (exact absurd hl (by first | rw [hLn 10 (by kernel_rfl)]; decide | rw [hLn 11 (by kernel_rfl)]; decide | rw [hN11]; decide))) hLi), rfl, hS0.trans (hb2.mono hS0.size), fun _ _ => own_lower ho2 hS0.size, ?_, ?_, ?_⟩
              · rw [listed_ne (by decide), listed_ne (by decide)]; exact fun h h6 => (hS5 h h6).below hb2
              · rw [listed_ne (by decide), hN6]; exact fun h => by cases h
              · rw [listed_ne (by decide)]; exact fun h => own_blw (hS10 h) hb2
            · obtain rfl := Option.some.inj hop
              have e4 : ac.tmps[4]?.getD undef = .int .i64 (i : Int) := (Array.getD_eq_getD_getElem? ..).symm.trans (hlow 4 (by kernel_rfl))
              exact ⟨wanted_free rfl, .inl ⟨x, W, fun _ _ => rfl, by simp [execOp, Act.eval, e4, go_sem], K (by decide) (by decide) (by decide) (by decide)⟩⟩
            · obtain rfl := Option.some.inj hop
              have e37 : ac.tmps[37]?.getD undef = .int .i64 (i : Int) := (Array.getD_eq_getD_getElem? ..).symm.trans (hdep 4 _ 37 (by kernel_rfl) rfl rfl)
              have hb2 := (Below.refl W.heap.size W).alloc (Nat.le_refl _) (.cells #[.int .i64 (i : Int)] 3)
              have hN6 := hLn 6 (by kernel_rfl)
              refine ⟨wanted_free rfl, .inl ⟨{ x with gN := W.heap.size }, W.alloc (.cells #[.int .i64 (i : Int)] 3), (val_eq 5 { x with gN := W.heap.size } (fun j hj h1 hl => by rcases (by omega : j = 0 ∨ j = 1 ∨ j = 2 ∨ j = 3 ∨ j = 4 ∨ j = 6 ∨ j = 7 ∨ j = 8 ∨ j = 9 ∨ j = 10 ∨ j = 11) with rfl | rfl | rfl | rfl | rfl | rfl | rfl | rfl | rfl | rfl | rfl <;> first | rfl | (exact absurd hl (by first | rw [hLn 10 (by kernel_rfl)]; decide | rw [hLn 11 (by kernel_rfl)]; decide | rw [hN11]; decide))) hLi), by simp [execOp, Act.eval, e37, go_sem], hS0.alloc hS0.size _, ?_, fun _ _ => BlockIs.new W 3 #[.int .i64 (i : Int)], ?_, ?_⟩⟩
              · rw [listed_ne (by decide), listed_ne (by decide)]; exact fun h h6 => own_blw (hS3 h h6) hb2
              · rw [listed_ne (by decide), hN6]; exact fun h => by cases h
              · rw [listed_ne (by decide)]; exact fun h => own_blw (hS10 h) hb2
            · obtain rfl := Option.some.inj hop
              have e36 : ac.tmps[36]?.getD undef = x.vO := (Array.getD_eq_getD_getElem? ..).symm.trans (hdep 3 _ 36 (by kernel_rfl) rfl rfl)
              have e38 : ac.tmps[38]?.getD undef = .slice (some ⟨x.gN, 0, none⟩) 1 1 := (Array.getD_eq_getD_getElem? ..).symm.trans (hdep 5 _ 38 (by kernel_rfl) rfl rfl)
              have hO := hS3 (hLd 3 (by kernel_rfl)) hLi
              have hB := hS5 (hLd 5 (by kernel_rfl)) hLi
              have hN10 := hLn 10 (by kernel_rfl)
              obtain ⟨v1, w3, hrun, ho3, hb3⟩ := app_nums (ys := [(i : Int)]) (sa := ⟨x.gN, 0, none⟩) (sc := 1) hO hS0 hS0.size (row_srcS (rowOf hB)) (by omega) (by simp)
              refine ⟨wanted_free rfl, .inl ⟨{ x with v1 := v1 }, w3, (val_eq 6 { x with v1 := v1 } (fun j hj h1 hl => by rcases (by omega : j = 0 ∨ j = 1 ∨ j = 2 ∨ j = 3 ∨ j = 4 ∨ j = 5 ∨ j = 7 ∨ j = 8 ∨ j = 9 ∨ j = 10 ∨ j = 11) with rfl | rfl | rfl | rfl | rfl | rfl | rfl | rfl | rfl | rfl | rfl <;> first | rfl | (exact absurd hl (by first | rw [hLn 10 (by kernel_rfl)]; decide | rw [hLn 11 (by kernel_rfl)]; decide | rw [hN11]; decide))) hLi), exec_append rfl (by simp [Act.eval, e36]) (by simp [Act.eval, e38]) hrun, hb3, ?_, ?_, fun _ _ => ho3, ?_⟩⟩
              · intro _ h; rw [listed_at (by rw [hLs]; decide)] at h; cases h
              · intro _ h; rw [listed_at (by rw [hLs]; decide)] at h; cases h
              · rw [listed_ne (by decide), hN10]; exact fun h => by cases h
            · obtain rfl := Option.some.inj hop
              have e3 : ac.tmps[3]?.getD undef = .slice (some ad) i cc := (Array.getD_eq_getD_getElem? ..).symm.trans (hold 11 _ 3 (by kernel_rfl) rfl rfl)
              exact ⟨wanted_free rfl, .inl ⟨x, W, fun _ _ => rfl, by simp [execOp, Act.eval, e3, go_sem], K (by decide) (by decide) (by decide) (by decide)⟩⟩
            · obtain rfl := Option.some.inj hop
              have e5 : ac.tmps[5]?.getD undef = .int .i64 (k : Int) := (Array.getD_eq_getD_getElem? ..).symm.trans (hlow 5 (by kernel_rfl))
              exact ⟨wanted_free rfl, .inl ⟨x, W, fun _ _ => rfl, by simp [execOp, Act.eval, e5, go_sem], K (by decide) (by decide) (by decide) (by decide)⟩⟩
            · obtain rfl := Option.some.inj hop
              have e40 : ac.tmps[40]?.getD undef = .slice (some ad) i cc := (Array.getD_eq_getD_getElem? ..).symm.trans (hdep 7 _ 40 (by kernel_rfl) rfl rfl)
              have e41 : ac.tmps[41]?.getD undef = .int .i64 (k : Int) := (Array.getD_eq_getD_getElem? ..).symm.trans (hdep 8 _ 41 (by kernel_rfl) rfl rfl)
              exact ⟨wanted_free rfl, .inl ⟨x, W, fun _ _ => rfl, exec_slice rfl (by simp only [Act.eval, Option.map_some, Option.map_none, Array.getD_eq_getD_getElem?, e40, e41]; exact slice_l ad _ cc k W (by omega)), K (by decide) (by decide) (by decide) (by decide)⟩⟩
            · obtain rfl := Option.some.inj hop
              have e39 : ac.tmps[39]?.getD undef = x.v1 := (Array.getD_eq_getD_getElem? ..).symm.trans (hdep 6 _ 39 (by kernel_rfl) rfl rfl)
              have e42 : ac.tmps[42]?.getD undef = .slice (some (tailAd ad k cc)) (i - k) (cc - k) := (Array.getD_eq_getD_getElem? ..).symm.trans (hdep 9 _ 42 (by kernel_rfl) rfl rfl)
              have hO := hS6 (hLd 6 (by kernel_rfl)) hLi
              have h6t := hLd 6 (by kernel_rfl)
              have hN11 := hLn 11 (by kernel_rfl)
              have hyl : ((natI out0).drop k).length = i - k := by rw [List.length_drop, HNL.out]
              have hap := app_nums (ys := (natI out0).drop k) (sa := tailAd ad k cc) (sc := cc - k) hO hS0 hS0.size (tail_src (HROW.out.below hS0) (by rw [HNL.out]; exact hcc)) (by omega) (by rw [hyl]; omega)
              rw [hyl, show k + 1 + (i - k) = i + 1 by omega] at hap
              obtain ⟨v2, w3, hrun, ho3, hb3⟩ := hap
              refine ⟨wanted_free rfl, .inl ⟨{ x with v2 := v2 }, w3, (val_eq 10 { x with v2 := v2 } (fun j hj h1 hl => by rcases (by omega : j = 0 ∨ j = 1 ∨ j = 2 ∨ j = 3 ∨ j = 4 ∨ j = 5 ∨ j = 6 ∨ j = 7 ∨ j = 8 ∨ j = 9 ∨ j = 11) with rfl | rfl | rfl | rfl | rfl | rfl | rfl | rfl | rfl | rfl | rfl <;> first | rfl | (exact absurd hl (by first | rw [hLn 10 (by kernel_rfl)]; decide | rw [hLn 11 (by kernel_rfl)]; decide | rw [hN11]; decide))) hLi), exec_append rfl (by simp [Act.eval, e39]) (by simp [Act.eval, e42]) hrun, hb3, ?_, ?_, ?_, fun _ => ho3⟩⟩
              · rw [listed_ne (i := 10) (j := 6) (by decide), h6t]; exact fun _ h => by cases h
              · rw [listed_ne (i := 10) (j := 6) (by decide), h6t]; exact fun _ h => by cases h
              · intro _ h; rw [listed_at (by rw [hLs]; decide)] at h; cases h
            · obtain rfl := Option.some.inj hop
              have e43 : ac.tmps[43]?.getD undef = x.v2 := (Array.getD_eq_getD_getElem? ..).symm.trans (hdep 10 _ 43 (by kernel_rfl) rfl rfl)
              exact ⟨wanted_free rfl, .inl ⟨x, W, fun _ _ => rfl, by simp [execOp, Act.eval, e43, go_sem], K (by decide) (by decide) (by decide) (by decide)⟩⟩
    · obtain rfl : i = n := by omega
      go_wp2
      go_ret
      have h := HO.out
      rw [show joTo rk (List.range i) i = joL rk (List.range i) by unfold joL; rw [List.length_range]] at h
      exact ⟨.slice (some ad) i cc, rfl, h, HW.out⟩
end
end Go.Proofs.YtejgpecmjfgfbaaDoor

namespace Go.Proofs.YtejgpecmjfgfbaaDoor
open Go.RowKit
/-- Where the ranks lie, and the variable that holds them. -/
def RkIs (rk : Nat → Int) (n gr : Nat) (R : Option Addr) (cR : Nat) (w : World) : Prop := BlockIs w gr 24 #[.slice R n cR] ∧ Row w R (ic ((List.range n).map rk))
theorem RkIs.below {rk : Nat → Int} {n gr cR : Nat} {R : Option Addr} {w w' : World} (h : RkIs rk n gr R cR w) (hb : Below w.heap.size w w') : RkIs rk n gr R cR w' := ⟨h.1.below hb, h.2.below hb⟩
theorem RkIs.grown {rk : Nat → Int} {n gr cR g : Nat} {R : Option Addr} {w w' : World} (h : RkIs rk n gr R cR w) (hg : w.grownBy w' (some g)) (h1 : gr ≠ g) (h2 : ∀ a, R = some a → 0 < n → a.block ≠ g) : RkIs rk n gr R cR w' := by
  refine ⟨(hg.block gr h.1.lt (fun e => h1 (by injection e with e))).trans h.1, fun h0 => ?_⟩
  obtain ⟨ad, e1, e2, e3⟩ := h.2 h0
  rw [ic_len] at h0
  have hn : 0 < n := by simpa using h0
  refine ⟨ad, e1, Nat.lt_of_lt_of_le e2 hg.size, fun j u hu => ?_⟩
  have hc := e3 j u hu
  rw [← hc]
  have hbk : (ad.add j).block = ad.block := add_block ad j
  have hh := hg.block (ad.add j).block (by rw [hbk]; exact e2) (fun e => h2 ad e1 hn (by injection e with e; rw [hbk] at e; exact e))
  unfold World.cell?
  rw [hh]
set_option maxRecDepth 100000 in
theorem cmpRk_any {rk : Nat → Int} {n gr cR : Nat} {R : Option Addr} {w : World} (h : RkIs rk n gr R cR w) (hrk : ∀ i, 0 ≤ rk i ∧ rk i ≤ 1000) (x y : Nat) (hx : x < n) (hy : y < n) :
    Calls Tryd.prog 90 #[.int .i64 (x : Int), .int .i64 (y : Int), .pointer (some ⟨gr, 0, none⟩)] w fun e w' => e = .returned (.int .i64 (rk y - rk x)) ∧ Below w.heap.size w w' := by
  have d0 := h.1.cell 0
  simp only [List.getElem?_toArray, List.getElem?_cons_zero] at d0
  obtain ⟨ad, hA, hcx⟩ := h.2.at_ (k := x) (by rw [ic_len]; simpa using hx)
  subst hA
  obtain ⟨ad', hA', hcy⟩ := h.2.at_ (k := y) (by rw [ic_len]; simpa using hy)
  injection hA' with hA'
  subst hA'
  rw [ic_get _ x (by simpa using hx)] at hcx
  rw [ic_get _ y (by simpa using hy)] at hcy
  simp only [List.getElem_map, List.getElem_range] at hcx hcy
  have b1 := hrk x
  have b2 := hrk y
  have hx0 : (0 : Int) ≤ x := by omega
  have hx1 : (x : Int) < n := by omega
  have hy0 : (0 : Int) ≤ y := by omega
  have hy1 : (y : Int) < n := by omega
  have hw := IntWalk.i64_in (rk y - rk x) (by omega)
  clear h hrk
  generalize rk x = rx at *
  generalize rk y = ry at *
  go_enter Tryd.func90, Tryd.ntmps90
  go_wp2
  go_quiet (fail)
  go_wp2
  go_ret
  exact ⟨rfl, below_drewN (Below.refl _ _) _⟩
end Go.Proofs.YtejgpecmjfgfbaaDoor

namespace Go.Proofs.YtejgpecmjfgfbaaDoor
open Go.RowKit
def o1 (s : Int) : Int := IntKind.u64.wrap (bits BinOp.and IntKind.u64 (s / 2) 6148914691236517205 + bits BinOp.and IntKind.u64 s 6148914691236517205)
def o2 (x : Int) : Int := IntKind.u64.wrap (bits BinOp.and IntKind.u64 (x / 4) 3689348814741910323 + bits BinOp.and IntKind.u64 x 3689348814741910323)
def o3 (x : Int) : Int := bits BinOp.and IntKind.u64 (IntKind.u64.wrap (x / 16 + x)) 1085102592571150095
def o4 (x : Int) : Int := IntKind.u64.wrap (x + x / 256)
def o5 (x : Int) : Int := IntKind.u64.wrap (x + x / 65536)
def o6 (x : Int) : Int := IntKind.u64.wrap (x + x / 4294967296)
def onesI (s : Int) : Int := bits BinOp.and IntKind.i64 (wrap64 (o6 (o5 (o4 (o3 (o2 (o1 s))))))) 127
theorem ones_facts : ∀ s : Nat, s < 256 → 0 ≤ onesI (s : Int) ∧ onesI (s : Int) ≤ 8 := by decide +kernel
set_option maxRecDepth 100000 in
theorem ones64_any (s : Nat) (hs : s < 256) (w : World) :
    Calls Tryd.prog 155 #[.int .u64 (s : Int)] w fun e w' => ∃ n : Nat, e = .returned (.int .i64 (n : Int)) ∧ n ≤ 8 ∧ w = w' := by
  go_enter Tryd.func155, Tryd.ntmps155
  go_wp2
  go_ret
  obtain ⟨h0, h1⟩ := ones_facts s hs
  exact ⟨(onesI (s : Int)).toNat, by rw [Int.toNat_of_nonneg h0]; rfl, by omega, rfl⟩
theorem ones_any (s : Nat) (hs : s < 256) (w : World) :
    Calls Tryd.prog 138 #[.int .u64 (s : Int)] w fun e w' => ∃ n : Nat, e = .returned (.int .i64 (n : Int)) ∧ n ≤ 8 ∧ w = w' := by
  have H := Lib.hid (ones64_any s hs w)
  go_enter Tryd.func138, Tryd.ntmps138
  go_wp2_with fail
  refine H.out.mono ?_
  rintro e _ ⟨n, rfl, hn, rfl⟩
  go_wp2
  go_ret
  exact ⟨n, rfl, hn, rfl⟩
theorem size_any (s : Nat) (hs : s < 256) (w : World) :
    Calls Tryd.prog 117 #[.int .u64 (s : Int)] w fun e w' => ∃ n : Nat, e = .returned (.int .i64 (n : Int)) ∧ n ≤ 8 ∧ w = w' := by
  have H := Lib.hid (ones_any s hs w)
  go_enter Tryd.func117, Tryd.ntmps117
  go_wp2_with fail
  refine H.out.mono ?_
  rintro e _ ⟨n, rfl, hn, rfl⟩
  go_wp2
  go_ret
  exact ⟨n, rfl, hn, rfl⟩
end Go.Proofs.YtejgpecmjfgfbaaDoor

namespace Go.Proofs.YtejgpecmjfgfbaaDoor
open Go.RowKit Go.Shelf
attribute [local go_sem] Oper.semAt_some
theorem TzTab.belowB {w w' : World} {B : Nat} (h : TzTab w) (hb : Below B w w') (hg : 1 < B) : TzTab w' := by
  obtain ⟨cs, t, fr, h1, h2⟩ := h
  exact ⟨cs, t, fr, (hb.block _ hg).trans h1, h2⟩
theorem TzTab.lt {w : World} (h : TzTab w) : 1 < w.heap.size := by
  obtain ⟨cs, t, fr, h1, h2⟩ := h
  exact (Array.getElem?_eq_some_iff.1 h1).1
section
variable (B0 Bs s cc : Nat) (A : Option Addr) (w : World) (hs : s < 256) (hB : Boxed w Bs 67 (.int .u64 (s : Int))) (hT : TzTab w) (hgB : 1 < B0) (hown : w.ownsRow B0 3 1 (.slice A 0 cc) 0 []) (hB0 : B0 ≤ w.heap.size)
include hs hB hT hgB hown hB0
set_option maxRecDepth 100000 in
set_option maxHeartbeats 4000000 in
theorem appendSeq_any : Calls Tryd.prog 116 #[.slice A 0 cc, .func (.func 127) #[] #[.pointer (some ⟨Bs, 0, none⟩)]] w fun e w' => ∃ v, e = .returned v ∧ w'.ownsRow B0 3 1 v (memB s).length (ic (natI (memB s))) ∧ Below B0 w w' := by
  obtain ⟨i0, hi, hz0, hz1, hz2⟩ := info_parts infoI
  have hlB := hB.lt
  have bx := Boxed.new w 24 (.slice A 0 cc)
  have hB1 : Boxed (w.alloc (.cells #[.slice A 0 cc] 24)) Bs 67 (.int .u64 (s : Int)) := hB.alloc _
  have hr0 : (w.alloc (.cells #[.slice A 0 cc] 24)).ownsRow B0 3 1 (.slice A 0 cc) 0 [] := hown.alloc _
  have hb0 : Below B0 w (w.alloc (.cells #[.slice A 0 cc] 24)) := (Below.refl _ _).alloc hB0 _
  have hz : (w.alloc (.cells #[.slice A 0 cc] 24)).heap.size = w.heap.size + 1 := by simp
  have H0 := Lib.hid (And.intro bx (And.intro hB1 (And.intro hr0 hb0)))
  have HT := Lib.hid hT
  have hml := memB_len s
  clear bx hB1 hr0 hb0 hB hT hown
  refine (callsIn_wide (n := 6)).1 ?_
  refine callsIn_of_wp_marks Tryd.func116 rfl trivial ?_ rfl
  simp only [Tryd.ntmps116, List.size_toArray, List.length_cons, List.length_nil, Nat.reduceAdd, Nat.reduceSub, Array.replicate_succ, Array.replicate_zero, List.push_toArray, List.append_toArray, List.nil_append, List.cons_append]
  gi_wp2
  generalize w.alloc (.cells #[.slice A 0 cc] 24) = w1 at *
  obtain ⟨bx, hB1, hr0, hb0⟩ := H0.out
  refine wpIn_rangeFunc_ownG (F := Fence.wide) rfl (by omega) (gf := 127) (lb := #[.pointer (some ⟨Bs, 0, none⟩)]) rfl trivial (enters_of Tryd.func127 (by kernel_rfl) rfl)
    (members_stops 5 (by omega) Bs s hs w1 (by omega) hB1 (HT.out.belowB hb0 hgB))
    (fun h k t => k (h t)) (fun W l' o o' hl ho hc _ => KeepsTz.put ho hc) (Below.refl _ _) (fun _ => rfl)
    (fun (pre : List (Mb s)) W => (∃ v, Boxed W w.heap.size 24 v ∧ W.ownsRow B0 3 1 v pre.length (ic (natI (vals pre))) ∧ True) ∧ Below B0 w W)
    (fun _ _ _ => False)
    (OwnFrom.and (Own.from (holdsRow_own B0 w.heap.size 24 3 1 (fun pre : List (Mb s) => pre.length) (fun pre => ic (natI (vals pre))) (fun _ _ => True)) _) (ownFrom_below hB0 (by omega)))
    (fun _ _ _ _ _ h _ _ => h)
    ⟨⟨_, bx, hr0, trivial⟩, hb0⟩
    (fun x => { tmps := #[.slice A 0 cc, .func (.func 127) #[] #[.pointer (some ⟨Bs, 0, none⟩)], .pointer (some ⟨w.heap.size, 0, none⟩), undef, .slice none 0 0, .int .i64 (x.1 : Int), .func (.func 127) #[] #[.pointer (some ⟨Bs, 0, none⟩)], .int .i64 (x.1 : Int), undef, undef, undef, undef, undef], defers := [] }) ?assign ?body ?done ?stop
  case assign =>
    intro l' x W K hK
    unfold encM
    gi_wp2
    exact hK
  case body =>
    rintro l' pre ⟨x, hx⟩ W ⟨⟨v, hv, hrow, _⟩, hb⟩ hl
    have hc := hv.cell
    have hsz := hb.size
    have HV : Hid (ic (natI (vals (pre ++ [(⟨x, hx⟩ : Mb s)]))) = ic (natI (vals pre)) ++ [.int .i64 (x : Int)]) := by
      show _ = _
      rw [vals_snoc]; unfold natI ic; simp
    have hlen : (pre ++ [(⟨x, hx⟩ : Mb s)]).length = pre.length + 1 := by simp
    have HL := Lib.hid hlen
    clear hlen
    gi_wp2_with (gi_at_builtin; refine wpListIn_append_own _ rfl _ _ 24 rfl B0 3 i0 (.int .i64 0) 1 8 Tryd.underlying24 hi hz0 hz1 hz2 rfl (by decide) _ _ _ rfl (hrow.alloc _) ⟨W.heap.size, 0, none⟩ 1 1 [.int .i64 (x : Int)] rfl rfl (cell_one_new _ _ _) (by intro u hu; simp at hu; subst hu; rfl) (by unfold maxLen; omega) (by omega) (by simp; omega) ?_; intro v' w2 hown' hgrow _; obtain ⟨g', cap', rfl⟩ := ownsRow_succ hown'; obtain ⟨hv1, hv2, hr2, hk2, hb2⟩ := hv.appended (by decide) hrow (by omega) hB0 hown' hgrow; have hc1 := hv1.cell; have hf1 := hv1.frozen)
    have hbw := hb.trans hb2
    exact ⟨hk2.from _, fun _ => HT.out.belowB hbw hgB, ⟨⟨_, hv2, by rw [HL.out, HV.out]; exact hr2⟩, hbw⟩⟩
  case done =>
    rintro D ys W hD hys ⟨⟨v, hv, hrow, _⟩, hb⟩ hK
    have hc := hv.cell
    have hyl : ys.length = (memB s).length := by rw [← hys, vals_len]
    rw [hys, hyl] at hrow
    have HROW := Lib.hid hrow
    clear hrow hyl hys
    gi_wp2
    refine ⟨by simp, .inl ⟨_, _, rfl, run_takeDeferred hK, ?_⟩⟩
    exact ⟨_, results_tmp rfl _ _ _, v, rfl, ownsRow_putObj HROW.out _ hK rfl, hb.trans (belowK_b (w := w1) (by omega) W D _ _ (by omega) hK rfl rfl)⟩
  case stop =>
    rintro D cd pre W _ _ h _
    exact h.elim
end
theorem make_cap (n : Nat) (hn : n ≤ 8) (w : World) : (Instr.makeSlice 24 (.int .i64 0) (.int .i64 (n : Int))).run Tryd.prog w = .ok (.slice (some ⟨w.heap.size, 0, none⟩) 0 n) (w.alloc (.cells (madeCells #[.int .i64 0] n) 3)) := by
  obtain ⟨i0, hi, hz0, hz1, hz2⟩ := info_parts infoI
  have h := run_make (P := Tryd.prog) w 24 3 i0 (.int .i64 0) Tryd.underlying24 hi hz0 .i64 .i64 0 (n : Int) (by omega) (by omega) (by rw [hz2]; omega) (by omega)
  rw [hz1] at h
  simp at h
  exact h
theorem lst_a (w : World) (s n : Nat) (hs : s < 256) (hn : n ≤ 8) (hT : TzTab w) :
    Calls Tryd.prog 116 #[.slice (some ⟨w.heap.size, 0, none⟩) 0 n, .func (.func 127) #[] #[.pointer (some ⟨w.heap.size + 1, 0, none⟩)]] (((w.alloc (.cells (madeCells #[.int .i64 0] n) 3)).alloc (.cells #[.int .u64 (s : Int)] 67)).drew) fun e w' => ∃ v, e = .returned v ∧ w'.ownsRow w.heap.size 3 1 v (memB s).length (ic (natI (memB s))) ∧ Below w.heap.size w w' := by
  have hb : Below w.heap.size w (((w.alloc (.cells (madeCells #[.int .i64 0] n) 3)).alloc (.cells #[.int .u64 (s : Int)] 67)).drew) := (((Below.refl _ w).alloc (Nat.le_refl _) _).alloc (by simp) _).drew
  have b1 : Boxed (((w.alloc (.cells (madeCells #[.int .i64 0] n) 3)).alloc (.cells #[.int .u64 (s : Int)] 67)).drew) (w.heap.size + 1) 67 (.int .u64 (s : Int)) := by
    have h := Boxed.new (w.alloc (.cells (madeCells #[.int .i64 0] n) 3)) 67 (.int .u64 (s : Int))
    rw [World.size_alloc] at h
    exact h
  have b2 : BlockIs (((w.alloc (.cells (madeCells #[.int .i64 0] n) 3)).alloc (.cells #[.int .u64 (s : Int)] 67)).drew) w.heap.size 3 (madeCells #[.int .i64 0] n) := ((BlockIs.new w 3 (madeCells #[.int .i64 0] n)).below ((Below.refl _ _).alloc (Nat.le_refl _) (.cells #[.int .u64 (s : Int)] 67))).drew
  have ho : (((w.alloc (.cells (madeCells #[.int .i64 0] n) 3)).alloc (.cells #[.int .u64 (s : Int)] 67)).drew).ownsRow w.heap.size 3 1 (.slice (some ⟨w.heap.size, 0, none⟩) 0 n) 0 [] := by
    have h := b2.own (base := w.heap.size) (n := 0) (c := n) (size := 1) (Nat.le_refl _) (by rw [size_madeCells]; omega) (by omega) (by unfold maxLen; omega) (by omega)
    simpa using h
  refine (appendSeq_any w.heap.size (w.heap.size + 1) s n _ _ hs b1 (hT.below hb) hT.lt ho hb.size).mono ?_
  rintro e w' ⟨v, rfl, h1, h2⟩
  exact ⟨v, rfl, h1, hb.trans h2⟩
theorem lst_b (w : World) (s n : Nat) (hs : s < 256) (hn : n ≤ 8) (hT : TzTab w) :
    Calls Tryd.prog 116 #[.slice (some ⟨w.heap.size + 1, 0, none⟩) 0 n, .func (.func 127) #[] #[.pointer (some ⟨w.heap.size, 0, none⟩)]] (((w.alloc (.cells #[.int .u64 (s : Int)] 67)).alloc (.cells (madeCells #[.int .i64 0] n) 3)).drew) fun e w' => ∃ v, e = .returned v ∧ w'.ownsRow w.heap.size 3 1 v (memB s).length (ic (natI (memB s))) ∧ Below w.heap.size w w' := by
  have hb : Below w.heap.size w (((w.alloc (.cells #[.int .u64 (s : Int)] 67)).alloc (.cells (madeCells #[.int .i64 0] n) 3)).drew) := (((Below.refl _ w).alloc (Nat.le_refl _) _).alloc (by simp) _).drew
  have b1 : Boxed (((w.alloc (.cells #[.int .u64 (s : Int)] 67)).alloc (.cells (madeCells #[.int .i64 0] n) 3)).drew) w.heap.size 67 (.int .u64 (s : Int)) := (Boxed.new w 67 (.int .u64 (s : Int))).alloc (.cells (madeCells #[.int .i64 0] n) 3)
  have b2 : BlockIs (((w.alloc (.cells #[.int .u64 (s : Int)] 67)).alloc (.cells (madeCells #[.int .i64 0] n) 3)).drew) (w.heap.size + 1) 3 (madeCells #[.int .i64 0] n) := by
    have h := BlockIs.new (w.alloc (.cells #[.int .u64 (s : Int)] 67)) 3 (madeCells #[.int .i64 0] n)
    rw [World.size_alloc] at h
    exact h.drew
  have ho : (((w.alloc (.cells #[.int .u64 (s : Int)] 67)).alloc (.cells (madeCells #[.int .i64 0] n) 3)).drew).ownsRow w.heap.size 3 1 (.slice (some ⟨w.heap.size + 1, 0, none⟩) 0 n) 0 [] := by
    have h := b2.own (base := w.heap.size) (n := 0) (c := n) (size := 1) (by omega) (by rw [size_madeCells]; omega) (by omega) (by unfold maxLen; omega) (by omega)
    simpa using h
  refine (appendSeq_any w.heap.size w.heap.size s n _ _ hs b1 (hT.below hb) hT.lt ho hb.size).mono ?_
  rintro e w' ⟨v, rfl, h1, h2⟩
  exact ⟨v, rfl, h1, hb.trans h2⟩
set_option maxRecDepth 100000 in
set_option maxHeartbeats 4000000 in
theorem list_any (s : Nat) (w : World) (hs : s < 256) (hT : TzTab w) : Calls Tryd.prog 88 #[.int .u64 (s : Int)] w fun e w' => ∃ v, e = .returned v ∧ w'.ownsRow w.heap.size 3 1 v (memB s).length (ic (natI (memB s))) ∧ Below w.heap.size w w' := by
  have HA := Lib.hid (fun n hn => lst_a w s n hs hn hT)
  have HB := Lib.hid (fun n hn => lst_b w s n hs hn hT)
  clear hT
  go_enter Tryd.func88, Tryd.ntmps88
  go_wp2
  go_region_with (first
    | (go_at_call 117; refine (size_any s hs _).mono ?_; rintro e _ ⟨n, rfl, hn, rfl⟩; have hmk := make_cap n hn)
    | (go_at_call 101; refine ((callsIn_wide (n := 6)).1 (members_in 6 _ _)).mono ?_; rintro e w' ⟨rfl, rfl⟩)
    | (go_at_call 116; (first | (with_reducible refine (HA.out n hn).mono ?_) | (with_reducible refine (HB.out n hn).mono ?_)); rintro e w' ⟨v, rfl, hown, hb⟩))
  all_goals
    go_wp2
    go_ret
    exact ⟨v, rfl, hown, hb⟩
end Go.Proofs.YtejgpecmjfgfbaaDoor

namespace Go.Proofs.YtejgpecmjfgfbaaDoor
open Go.RowKit Go.Shelf
theorem cells_ofJ {w : World} {g : Nat} {cur : Array Value} {n : Nat} {l : List Nat} (hB : BlockIs w g 3 cur) (ht : cur.toList.take n = ic (natI l)) {i x : Nat} (hi : l[i]? = some x) (hn : i < n) : w.cell? ⟨g, i, none⟩ = some (.int .i64 (x : Int)) := by
  rw [hB.cell]
  have h1 : (cur.toList.take n)[i]? = some (.int .i64 (x : Int)) := by
    rw [ht]; unfold ic natI
    simp [hi]
  rw [List.getElem?_take, if_pos hn, Array.getElem?_toList] at h1
  exact h1
theorem ic_setJ (l : List Nat) (i x : Nat) : (ic (natI l)).set i (.int .i64 (x : Int)) = ic (natI (l.set i x)) := by
  unfold ic natI
  rw [List.map_set, List.map_set]; rfl
/-- What stands in the block while the sort runs; comparisons may make memory. -/
def SrtJs (w0 w : World) (g n : Nat) (sz : Nat) (l : List Nat) : Prop := ∃ cur, BlockIs w g 3 cur ∧ cur.size = sz ∧ cur.toList.take n = ic (natI l) ∧ w0.grownBy w (some g)
theorem SrtJs.below {w0 w w' : World} {g n sz : Nat} {l : List Nat} (h : SrtJs w0 w g n sz l) (hb : Below w.heap.size w w') : SrtJs w0 w' g n sz l := by
  obtain ⟨cur, h1, h2, h3, h4⟩ := h
  exact ⟨cur, h1.below hb, h2, h3, grown_then_below h4 hb⟩
theorem SrtJs.drew {w0 w : World} {g n sz : Nat} {l : List Nat} (h : SrtJs w0 w g n sz l) (m : Nat) : SrtJs w0 (w.drewN m) g n sz l := h.below (below_drewN (Below.refl _ _) m)
theorem SrtJs.drew1 {w0 w : World} {g n sz : Nat} {l : List Nat} (h : SrtJs w0 w g n sz l) : SrtJs w0 w.drew g n sz l := h.below (Below.refl _ _).drew
theorem SrtJs.set {w0 w : World} {g n sz : Nat} {l : List Nat} (h : SrtJs w0 w g n sz l) (i x : Nat) (hi : i < n) : SrtJs w0 (w.setCell ⟨g, i, none⟩ (.int .i64 (x : Int))) g n sz (l.set i x) := by
  obtain ⟨cur, h1, h2, h3, h4⟩ := h
  exact ⟨_, h1.set i _, by simpa using h2, by rw [take_setv h3 hi, ic_setJ], grown_setCell h4 i _⟩
abbrev FCD : Nat := 90
section
variable {rk : Nat → Int} {n0 gr cR : Nat} {R : Option Addr} (hrk : ∀ i, 0 ≤ rk i ∧ rk i ≤ 1000)
include hrk
set_option maxRecDepth 100000 in
set_option maxHeartbeats 4000000 in
theorem insSortJ_any (w : World) (hr : RkIs rk n0 gr R cR w) (g cs sz : Nat) (q : List Nat) (hq : ∀ x ∈ q, x < n0) (hup : ∀ k (hk : k < q.length), ∀ a ∈ q.take k, a < q[k]) (hd : q.Nodup) (hl : q.length ≤ 12) (hs : SrtJs w w g q.length sz q) (hA : gr ≠ g ∧ ∀ a, R = some a → 0 < n0 → a.block ≠ g) :
    Calls Tryd.prog 139 #[.slice (some ⟨g, 0, none⟩) q.length cs, .int .i64 0, .int .i64 (q.length : Int), .func (.func FCD) #[] #[.pointer (some ⟨gr, 0, none⟩)]] w fun e w' => e = .returned (.tuple #[]) ∧ SrtJs w w' g q.length sz (joL rk q) := by
  have HCW : Hid (∀ w' : World, w.grownBy w' (some g) → RkIs rk n0 gr R cR w') := fun w' hg => hr.grown hg hA.1 hA.2
  have HUP := Lib.hid hup
  have HS0 : Hid (SrtJs w w g q.length sz (joTo rk q 1 ++ q.drop 1) ∨ q.length = 0) := by
    show _ ∨ _
    rcases joTo_one rk q with h | h
    · rw [h]; exact .inl hs
    · exact .inr (by rw [h]; rfl)
  have hcf : ∀ (args : Array Value) (w1 : World), (callFunc FCD args).run Tryd.prog w1 = .ok (.enter FCD args) w1 := enters_of Tryd.func90 (by kernel_rfl) rfl
  have HS := Lib.hid hs
  have HD0 := Lib.hid hd
  clear hr hs hd hup
  by_cases hq0 : q.length = 0
  · have hql : q = [] := List.eq_nil_of_length_eq_zero hq0
    have HF : Hid (SrtJs w w g q.length sz (joL rk q)) := by
      show SrtJs _ _ _ _ _ _
      have h := HS.out
      rw [hql] at h ⊢
      exact h
    have hlt0 : ¬ (1 : Int) < (q.length : Int) := by omega
    have hqz : (q.length : Int) ≤ 0 := by omega
    clear hq0 hql HS0
    go_enter Tryd.func139, Tryd.ntmps139
    go_wp2
    refine wp_loop_rounds 1 ?_
    rw [rounds_succ]
    go_wp2
    go_end0
    exact ⟨rfl, HF.out⟩
  have HS1 : Hid (SrtJs w w g q.length sz (joTo rk q 1 ++ q.drop 1)) := by
    rcases HS0.out with h | h
    · exact h
    · exact absurd h hq0
  clear HS0 HS
  go_enter Tryd.func139, Tryd.ntmps139
  go_wp2
  go_loopw [8] (fun i wr => ∃ k : Nat, 1 ≤ k ∧ k ≤ q.length ∧ i = .int .i64 (k : Int) ∧ Hid (SrtJs w wr g q.length sz (joTo rk q k ++ q.drop k))) (fun i _ => q.length - (intOf i).toNat)
  case atStart => exact ⟨1, Nat.le_refl _, by omega, rfl, HS1⟩
  case round =>
    obtain ⟨k, hk1, hk2, rfl, HSk⟩ := hrel
    clear HS1
    by_cases hlt : k < q.length
    · have hol := joTo_len rk q k
      have HINS := Lib.hid (joTo_succ (rk := rk) hlt)
      have hxl := hq _ (List.getElem_mem hlt)
      have hout : ∀ a ∈ joTo rk q k, a < n0 := fun a ha => hq a (joTo_mem (by omega) ha)
      have hlow : ∀ a ∈ joTo rk q k, a < q[k] := fun a ha => HUP.out k hlt a ((joTo_perm rk q k (by omega)).mem_iff.1 ha)
      have HSO := Lib.hid (And.intro (joTo_sorted (rk := rk) HD0.out k (by omega)) (joTo_fresh (rk := rk) HD0.out hlt))
      have HD : Hid (q.drop k = q[k] :: q.drop (k + 1)) := List.drop_eq_getElem_cons hlt
      have hdl : (q.drop (k + 1)).length = q.length - (k + 1) := by simp
      generalize joTo rk q k = out at *
      generalize q[k] = x at *
      generalize hrst : q.drop (k + 1) = rest at *
      have HREST := Lib.hid hrst
      clear hrst
      have hol1 : out.length ≤ k := by omega
      have hol2 : k ≤ out.length := by omega
      have hrl : k + 1 + rest.length ≤ q.length := by omega
      have HST : Hid (SrtJs w wr g q.length sz (midL out rest x k)) := by
        show SrtJs _ _ _ _ _ _
        have h := HSk.out
        rw [HD.out] at h
        rwa [← hol, midL_start]
      clear hol hdl HSk
      obtain ⟨wo, rfl⟩ : ∃ wo : World, wo = wr := ⟨_, rfl⟩
      go_wp2
      go_loopw [9] (fun jv wi => ∃ j : Nat, j ≤ k ∧ jv = .int .i64 (j : Int) ∧ Hid (SrtJs w wi g q.length sz (midL out rest x j)) ∧ Hid (∀ i (h : i < out.length), j ≤ i → fB rk x out[i] = true)) (fun jv _ => (intOf jv).toNat)
      case atStart => exact ⟨k, Nat.le_refl _, rfl, HST, fun i h h' => absurd h (by omega)⟩
      case round =>
        obtain ⟨j, hj, rfl, HSJ, HG⟩ := hrel
        clear HST
        by_cases h0 : 0 < j
        · obtain ⟨m, hjm⟩ : ∃ m, j = m + 1 := ⟨j - 1, by omega⟩
          have hmo : m < out.length := by omega
          have hm0 : (0 : Int) ≤ m := by omega
          have hj0 : (0 : Int) ≤ j := by omega
          have hjq : (j : Int) < q.length := by omega
          have hm2 : (m : Int) < q.length := by omega
          have hjm' : (j : Int) - 1 = (m : Int) := by omega
          have dd : decide ((0 : Int) < (j : Int)) = true := decide_eq_true (by omega)
          have hw1 := IntWalk.i64_in ((j : Int) - 1) (by omega)
          obtain ⟨cur, hB, hcs, htk, hgr⟩ := HSJ.out
          have c1 := cells_ofJ hB htk (midL_at out rest x (j := j) (by omega)) (by omega)
          have c0 := cells_ofJ hB htk (by rw [hjm]; exact midL_prev out rest x (j := m) hmo) (show m < q.length by omega)
          have hym := hout _ (List.getElem_mem hmo)
          have hlm := hlow _ (List.getElem_mem hmo)
          have HCC : Hid (∀ w', Below wr.heap.size wr w' → Calls Tryd.prog FCD #[.int .i64 (x : Int), .int .i64 (out[m] : Int), .pointer (some ⟨gr, 0, none⟩)] w' fun e w'' => e = .returned (.int .i64 (rk out[m] - rk x)) ∧ Below w'.heap.size w' w'') := fun w' hb => cmpRk_any (HCW.out w' (grown_then_below hgr hb)) hrk x out[m] hxl hym
          have HSN : Hid (fB rk x out[m] = decide (rk out[m] - rk x < 0)) := fB_low rk hlm
          have HJM := Lib.hid hjm
          have HX := Lib.hid (And.intro hB (And.intro hcs (And.intro htk hgr)))
          have fz1 := hB.frozen j
          have fz0 := hB.frozen m
          have HC1 := Lib.hid c1
          have HC0 := Lib.hid c0
          have lg : g < wr.heap.size := hB.lt
          clear hB hcs htk hgr hjm hym hlm c1 c0
          by_cases hneg : (rk out[m] - rk x) < 0
          · have HSW := Lib.hid (midL_swap out rest x hmo)
            have HG2 : Hid (∀ i (h : i < out.length), m ≤ i → fB rk x out[i] = true) := fun i h hmi => by
              by_cases e : i = m
              · subst e; rw [HSN.out]; exact decide_eq_true hneg
              · exact HG.out i h (by have := HJM.out; omega)
            have dn : decide ((rk out[m] - rk x) < 0) = true := decide_eq_true hneg
            generalize (rk out[m] - rk x) = gg at *
            generalize out[m] = y at *
            go_wp2
            refine wp_region_detY (by kernel_rfl) (fun (_ : Array Bool) w' => Below wr.heap.size wr w') (fun t => (#[.int .i64 (j : Int), .int .i64 0, .bool true, .bool true, .func (.func FCD) #[] #[.pointer (some ⟨gr, 0, none⟩)], .slice (some ⟨g, 0, none⟩) q.length cs, .int .i64 (j : Int), .pointer (some ⟨g, j, none⟩), .int .i64 (x : Int), .slice (some ⟨g, 0, none⟩) q.length cs, .int .i64 (j : Int), .int .i64 (m : Int), .pointer (some ⟨g, m, none⟩), .int .i64 (y : Int), .int .i64 gg, .bool true, .bool true] : Array Value).getD t undef) (by kernel_rfl) (by kernel_rfl) (Below.refl _ _).drew ?_ ?_
            · intro L tm w' hall hS hsz hlow hval
              have ht : tm = #[.slice (some ⟨g, 0, none⟩) q.length cs, .int .i64 0, .int .i64 (q.length : Int), .func (.func FCD) #[] #[.pointer (some ⟨gr, 0, none⟩)], undef, undef, undef, undef, .int .i64 (k : Int), .int .i64 (j : Int), .int .i64 0, .int .i64 1, .int .i64 (k : Int), .int .i64 (q.length : Int), .bool true, u15, u16, .int .i64 (k : Int), .int .i64 (j : Int), .int .i64 0, .bool true, .bool true, .func (.func FCD) #[] #[.pointer (some ⟨gr, 0, none⟩)], .slice (some ⟨g, 0, none⟩) q.length cs, .int .i64 (j : Int), .pointer (some ⟨g, j, none⟩), .int .i64 (x : Int), .slice (some ⟨g, 0, none⟩) q.length cs, .int .i64 (j : Int), .int .i64 (m : Int), .pointer (some ⟨g, m, none⟩), .int .i64 (y : Int), .int .i64 gg, .bool true, .bool true, u35, u36, u37, u38, u39, u40, u41, u42, u43, u44, u45, u46, u47, u48, u49, u50, u51, u52] := by
                refine arr_of _ _ hsz fun t ht => ?_
                have ht' : t < 53 := ht
                rcases (by omega : t = 0 ∨ t = 1 ∨ t = 2 ∨ t = 3 ∨ t = 4 ∨ t = 5 ∨ t = 6 ∨ t = 7 ∨ t = 8 ∨ t = 9 ∨ t = 10 ∨ t = 11 ∨ t = 12 ∨ t = 13 ∨ t = 14 ∨ t = 15 ∨ t = 16 ∨ t = 17 ∨ t = 18 ∨ t = 19 ∨ t = 20 ∨ t = 21 ∨ t = 22 ∨ t = 23 ∨ t = 24 ∨ t = 25 ∨ t = 26 ∨ t = 27 ∨ t = 28 ∨ t = 29 ∨ t = 30 ∨ t = 31 ∨ t = 32 ∨ t = 33 ∨ t = 34 ∨ t = 35 ∨ t = 36 ∨ t = 37 ∨ t = 38 ∨ t = 39 ∨ t = 40 ∨ t = 41 ∨ t = 42 ∨ t = 43 ∨ t = 44 ∨ t = 45 ∨ t = 46 ∨ t = 47 ∨ t = 48 ∨ t = 49 ∨ t = 50 ∨ t = 51 ∨ t = 52) with rfl | rfl | rfl | rfl | rfl | rfl | rfl | rfl | rfl | rfl | rfl | rfl | rfl | rfl | rfl | rfl | rfl | rfl | rfl | rfl | rfl | rfl | rfl | rfl | rfl | rfl | rfl | rfl | rfl | rfl | rfl | rfl | rfl | rfl | rfl | rfl | rfl | rfl | rfl | rfl | rfl | rfl | rfl | rfl | rfl | rfl | rfl | rfl | rfl | rfl | rfl | rfl | rfl
                · exact hlow 0 (by kernel_rfl)
                · exact hlow 1 (by kernel_rfl)
                · exact hlow 2 (by kernel_rfl)
                · exact hlow 3 (by kernel_rfl)
                · exact hlow 4 (by kernel_rfl)
                · exact hlow 5 (by kernel_rfl)
                · exact hlow 6 (by kernel_rfl)
                · exact hlow 7 (by kernel_rfl)
                · exact hlow 8 (by kernel_rfl)
                · exact hlow 9 (by kernel_rfl)
                · exact hlow 10 (by kernel_rfl)
                · exact hlow 11 (by kernel_rfl)
                · exact hlow 12 (by kernel_rfl)
                · exact hlow 13 (by kernel_rfl)
                · exact hlow 14 (by kernel_rfl)
                · exact hlow 15 (by kernel_rfl)
                · exact hlow 16 (by kernel_rfl)
                · exact hlow 17 (by kernel_rfl)
                · exact hval 0 _ 18 rfl rfl
                · exact hval 1 _ 19 rfl rfl
                · exact hval 2 _ 20 rfl rfl
                · exact hval 3 _ 21 rfl rfl
                · exact hval 4 _ 22 rfl rfl
                · exact hval 5 _ 23 rfl rfl
                · exact hval 6 _ 24 rfl rfl
                · exact hval 7 _ 25 rfl rfl
                · exact hval 8 _ 26 rfl rfl
                · exact hval 9 _ 27 rfl rfl
                · exact hval 10 _ 28 rfl rfl
                · exact hval 11 _ 29 rfl rfl
                · exact hval 12 _ 30 rfl rfl
                · exact hval 13 _ 31 rfl rfl
                · exact hval 14 _ 32 rfl rfl
                · exact hval 15 _ 33 rfl rfl
                · exact hval 16 _ 34 rfl rfl
                · exact hlow 35 (by kernel_rfl)
                · exact hlow 36 (by kernel_rfl)
                · exact hlow 37 (by kernel_rfl)
                · exact hlow 38 (by kernel_rfl)
                · exact hlow 39 (by kernel_rfl)
                · exact hlow 40 (by kernel_rfl)
                · exact hlow 41 (by kernel_rfl)
                · exact hlow 42 (by kernel_rfl)
                · exact hlow 43 (by kernel_rfl)
                · exact hlow 44 (by kernel_rfl)
                · exact hlow 45 (by kernel_rfl)
                · exact hlow 46 (by kernel_rfl)
                · exact hlow 47 (by kernel_rfl)
                · exact hlow 48 (by kernel_rfl)
                · exact hlow 49 (by kernel_rfl)
                · exact hlow 50 (by kernel_rfl)
                · exact hlow 51 (by kernel_rfl)
                · exact hlow 52 (by kernel_rfl)
              subst ht
              clear hlow hval hsz hall
              have HSW1 := Lib.hid (HSJ.out.below hS)
              have c1w : w'.cell? ⟨g, j, none⟩ = some (.int .i64 (x : Int)) := (hS.cell (p := ⟨g, j, none⟩) lg).trans HC1.out
              have c0w : w'.cell? ⟨g, m, none⟩ = some (.int .i64 (y : Int)) := (hS.cell (p := ⟨g, m, none⟩) lg).trans HC0.out
              have f1w : w'.frozen? ⟨g, j, none⟩ = false := (hS.frozen (p := ⟨g, j, none⟩) lg).trans fz1
              have f0w : w'.frozen? ⟨g, m, none⟩ = false := (hS.frozen (p := ⟨g, m, none⟩) lg).trans fz0
              clear hS HCC HC1 HC0 fz1 fz0 HX
              go_wp2
              go_region
              all_goals
                go_wp2
                go_roundw
                case rel =>
                  have hz := (HSW1.out.set j y (by omega)).set m x (by omega)
                  rw [HJM.out, HSW.out, ← HJM.out] at hz
                  exact ⟨m, by omega, by go_num, by first | exact hz | exact hz.drew1, HG2.out⟩
                case measure => simp [intOf]; omega
            · intro L a w' t op _ hop _ _ _ hS hlow hdep _
              have ht : t < 17 := (Array.getElem?_eq_some_iff.1 hop).1
              rcases (by omega : t = 0 ∨ t = 1 ∨ t = 2 ∨ t = 3 ∨ t = 4 ∨ t = 5 ∨ t = 6 ∨ t = 7 ∨ t = 8 ∨ t = 9 ∨ t = 10 ∨ t = 11 ∨ t = 12 ∨ t = 13 ∨ t = 14 ∨ t = 15 ∨ t = 16) with rfl | rfl | rfl | rfl | rfl | rfl | rfl | rfl | rfl | rfl | rfl | rfl | rfl | rfl | rfl | rfl | rfl
              · obtain rfl := Option.some.inj hop
                have e9 : a.tmps[9]?.getD undef = .int .i64 (j : Int) := (Array.getD_eq_getD_getElem? ..).symm.trans (hlow 9 (by kernel_rfl))
                exact ⟨wanted_free rfl, .inl (.inl ⟨w', by simp [execOp, Act.eval, e9, go_sem], hS⟩)⟩
              · obtain rfl := Option.some.inj hop
                have e1 : a.tmps[1]?.getD undef = .int .i64 0 := (Array.getD_eq_getD_getElem? ..).symm.trans (hlow 1 (by kernel_rfl))
                exact ⟨wanted_free rfl, .inl (.inl ⟨w', by simp [execOp, Act.eval, e1, go_sem], hS⟩)⟩
              · obtain rfl := Option.some.inj hop
                have e18 : a.tmps[18]?.getD undef = .int .i64 (j : Int) := (Array.getD_eq_getD_getElem? ..).symm.trans (hdep 0 _ 18 (by kernel_rfl) rfl rfl)
                have e19 : a.tmps[19]?.getD undef = .int .i64 0 := (Array.getD_eq_getD_getElem? ..).symm.trans (hdep 1 _ 19 (by kernel_rfl) rfl rfl)
                exact ⟨wanted_free rfl, .inl (.inl ⟨w', by simp [execOp, Act.eval, e18, e19, h0, go_sem], hS⟩)⟩
              · obtain rfl := Option.some.inj hop
                have e20 : a.tmps[20]?.getD undef = .bool true := (Array.getD_eq_getD_getElem? ..).symm.trans (hdep 2 _ 20 (by kernel_rfl) rfl rfl)
                exact ⟨wanted_free rfl, .inl (.inl ⟨w', by simp [execOp, Act.eval, e20, go_sem], hS⟩)⟩
              · obtain rfl := Option.some.inj hop
                have e3 : a.tmps[3]?.getD undef = .func (.func FCD) #[] #[.pointer (some ⟨gr, 0, none⟩)] := (Array.getD_eq_getD_getElem? ..).symm.trans (hlow 3 (by kernel_rfl))
                exact ⟨wanted_guard (g := 3) (d := 21) (b := true) rfl rfl rfl (hdep 3 _ 21 (by kernel_rfl) rfl rfl), .inl (.inl ⟨w', by simp [execOp, Act.eval, e3, go_sem], hS⟩)⟩
              · obtain rfl := Option.some.inj hop
                have e0 : a.tmps[0]?.getD undef = .slice (some ⟨g, 0, none⟩) q.length cs := (Array.getD_eq_getD_getElem? ..).symm.trans (hlow 0 (by kernel_rfl))
                exact ⟨wanted_guard (g := 3) (d := 21) (b := true) rfl rfl rfl (hdep 3 _ 21 (by kernel_rfl) rfl rfl), .inl (.inl ⟨w', by simp [execOp, Act.eval, e0, go_sem], hS⟩)⟩
              · obtain rfl := Option.some.inj hop
                have e9 : a.tmps[9]?.getD undef = .int .i64 (j : Int) := (Array.getD_eq_getD_getElem? ..).symm.trans (hlow 9 (by kernel_rfl))
                exact ⟨wanted_guard (g := 3) (d := 21) (b := true) rfl rfl rfl (hdep 3 _ 21 (by kernel_rfl) rfl rfl), .inl (.inl ⟨w', by simp [execOp, Act.eval, e9, go_sem], hS⟩)⟩
              · obtain rfl := Option.some.inj hop
                have e23 : a.tmps[23]?.getD undef = .slice (some ⟨g, 0, none⟩) q.length cs := (Array.getD_eq_getD_getElem? ..).symm.trans (hdep 5 _ 23 (by kernel_rfl) rfl rfl)
                have e24 : a.tmps[24]?.getD undef = .int .i64 (j : Int) := (Array.getD_eq_getD_getElem? ..).symm.trans (hdep 6 _ 24 (by kernel_rfl) rfl rfl)
                exact ⟨wanted_guard (g := 3) (d := 21) (b := true) rfl rfl rfl (hdep 3 _ 21 (by kernel_rfl) rfl rfl), .inl (.inl ⟨w', by simp [execOp, Act.eval, e23, e24, hj0, hjq, go_sem], hS⟩)⟩
              · obtain rfl := Option.some.inj hop
                have e25 : a.tmps[25]?.getD undef = .pointer (some ⟨g, j, none⟩) := (Array.getD_eq_getD_getElem? ..).symm.trans (hdep 7 _ 25 (by kernel_rfl) rfl rfl)
                have cw : w'.cell? ⟨g, j, none⟩ = some (.int .i64 (x : Int)) := (hS.cell (p := ⟨g, j, none⟩) lg).trans HC1.out
                exact ⟨wanted_guard (g := 3) (d := 21) (b := true) rfl rfl rfl (hdep 3 _ 21 (by kernel_rfl) rfl rfl), .inl (.inl ⟨w', by simp [execOp, Act.eval, e25, cw, go_sem], hS⟩)⟩
              · obtain rfl := Option.some.inj hop
                have e0 : a.tmps[0]?.getD undef = .slice (some ⟨g, 0, none⟩) q.length cs := (Array.getD_eq_getD_getElem? ..).symm.trans (hlow 0 (by kernel_rfl))
                exact ⟨wanted_guard (g := 3) (d := 21) (b := true) rfl rfl rfl (hdep 3 _ 21 (by kernel_rfl) rfl rfl), .inl (.inl ⟨w', by simp [execOp, Act.eval, e0, go_sem], hS⟩)⟩
              · obtain rfl := Option.some.inj hop
                have e9 : a.tmps[9]?.getD undef = .int .i64 (j : Int) := (Array.getD_eq_getD_getElem? ..).symm.trans (hlow 9 (by kernel_rfl))
                exact ⟨wanted_guard (g := 3) (d := 21) (b := true) rfl rfl rfl (hdep 3 _ 21 (by kernel_rfl) rfl rfl), .inl (.inl ⟨w', by simp [execOp, Act.eval, e9, go_sem], hS⟩)⟩
              · obtain rfl := Option.some.inj hop
                have e28 : a.tmps[28]?.getD undef = .int .i64 (j : Int) := (Array.getD_eq_getD_getElem? ..).symm.trans (hdep 10 _ 28 (by kernel_rfl) rfl rfl)
                exact ⟨wanted_guard (g := 3) (d := 21) (b := true) rfl rfl rfl (hdep 3 _ 21 (by kernel_rfl) rfl rfl), .inl (.inl ⟨w', by simp [execOp, Act.eval, e28, hw1, go_sem] <;> omega, hS⟩)⟩
              · obtain rfl := Option.some.inj hop
                have e27 : a.tmps[27]?.getD undef = .slice (some ⟨g, 0, none⟩) q.length cs := (Array.getD_eq_getD_getElem? ..).symm.trans (hdep 9 _ 27 (by kernel_rfl) rfl rfl)
                have e29 : a.tmps[29]?.getD undef = .int .i64 (m : Int) := (Array.getD_eq_getD_getElem? ..).symm.trans (hdep 11 _ 29 (by kernel_rfl) rfl rfl)
                exact ⟨wanted_guard (g := 3) (d := 21) (b := true) rfl rfl rfl (hdep 3 _ 21 (by kernel_rfl) rfl rfl), .inl (.inl ⟨w', by simp [execOp, Act.eval, e27, e29, hm0, hm2, go_sem], hS⟩)⟩
              · obtain rfl := Option.some.inj hop
                have e30 : a.tmps[30]?.getD undef = .pointer (some ⟨g, m, none⟩) := (Array.getD_eq_getD_getElem? ..).symm.trans (hdep 12 _ 30 (by kernel_rfl) rfl rfl)
                have cw : w'.cell? ⟨g, m, none⟩ = some (.int .i64 (y : Int)) := (hS.cell (p := ⟨g, m, none⟩) lg).trans HC0.out
                exact ⟨wanted_guard (g := 3) (d := 21) (b := true) rfl rfl rfl (hdep 3 _ 21 (by kernel_rfl) rfl rfl), .inl (.inl ⟨w', by simp [execOp, Act.eval, e30, cw, go_sem], hS⟩)⟩
              · obtain rfl := Option.some.inj hop
                have e22 : a.tmps[22]?.getD undef = .func (.func FCD) #[] #[.pointer (some ⟨gr, 0, none⟩)] := (Array.getD_eq_getD_getElem? ..).symm.trans (hdep 4 _ 22 (by kernel_rfl) rfl rfl)
                have e26 : a.tmps[26]?.getD undef = .int .i64 (x : Int) := (Array.getD_eq_getD_getElem? ..).symm.trans (hdep 8 _ 26 (by kernel_rfl) rfl rfl)
                have e31 : a.tmps[31]?.getD undef = .int .i64 (y : Int) := (Array.getD_eq_getD_getElem? ..).symm.trans (hdep 13 _ 31 (by kernel_rfl) rfl rfl)
                refine ⟨wanted_guard (g := 3) (d := 21) (b := true) rfl rfl rfl (hdep 3 _ 21 (by kernel_rfl) rfl rfl), .inl (.inr ⟨FCD, #[.int .i64 (x : Int), .int .i64 (y : Int), .pointer (some ⟨gr, 0, none⟩)], by simp [execOp, Act.eval, e22, e26, e31, hcf, go_sem], (HCC.out w' hS).mono ?_⟩)⟩
                rintro e w2 ⟨rfl, hb2⟩
                exact ⟨rfl, hS.trans (hb2.mono hS.size)⟩
              · obtain rfl := Option.some.inj hop
                have e32 : a.tmps[32]?.getD undef = .int .i64 gg := (Array.getD_eq_getD_getElem? ..).symm.trans (hdep 14 _ 32 (by kernel_rfl) rfl rfl)
                exact ⟨wanted_guard (g := 3) (d := 21) (b := true) rfl rfl rfl (hdep 3 _ 21 (by kernel_rfl) rfl rfl), .inl (.inl ⟨w', by simp [execOp, Act.eval, e32, dn, go_sem], hS⟩)⟩
              · obtain rfl := Option.some.inj hop
                have e21 : a.tmps[21]?.getD undef = .bool true := (Array.getD_eq_getD_getElem? ..).symm.trans (hdep 3 _ 21 (by kernel_rfl) rfl rfl)
                have e33 : a.tmps[33]?.getD undef = .bool true := (Array.getD_eq_getD_getElem? ..).symm.trans (hdep 15 _ 33 (by kernel_rfl) rfl rfl)
                exact ⟨wanted_free rfl, .inl (.inl ⟨w', by simp [execOp, Act.eval, e21, e33, go_sem], hS⟩)⟩
          · have dn : decide ((rk out[m] - rk x) < 0) = false := decide_eq_false hneg
            have HF : Hid (joTo rk q (k + 1) ++ q.drop (k + 1) = midL out rest x j) := by
              show _ = _
              rw [HINS.out, HREST.out, insJ_back HSO.out.1 HSO.out.2 (j := j) (by omega) (fun h => by
                have e : j - 1 = m := by have := HJM.out; omega
                simp only [e]
                rw [HSN.out]; exact dn) HG.out]
              unfold midL; simp
            generalize (rk out[m] - rk x) = gg at *
            generalize out[m] = y at *
            go_wp2
            refine wp_region_detY (by kernel_rfl) (fun (_ : Array Bool) w' => Below wr.heap.size wr w') (fun t => (#[.int .i64 (j : Int), .int .i64 0, .bool true, .bool true, .func (.func FCD) #[] #[.pointer (some ⟨gr, 0, none⟩)], .slice (some ⟨g, 0, none⟩) q.length cs, .int .i64 (j : Int), .pointer (some ⟨g, j, none⟩), .int .i64 (x : Int), .slice (some ⟨g, 0, none⟩) q.length cs, .int .i64 (j : Int), .int .i64 (m : Int), .pointer (some ⟨g, m, none⟩), .int .i64 (y : Int), .int .i64 gg, .bool false, .bool false] : Array Value).getD t undef) (by kernel_rfl) (by kernel_rfl) (Below.refl _ _).drew ?_ ?_
            · intro L tm w' hall hS hsz hlow hval
              have ht : tm = #[.slice (some ⟨g, 0, none⟩) q.length cs, .int .i64 0, .int .i64 (q.length : Int), .func (.func FCD) #[] #[.pointer (some ⟨gr, 0, none⟩)], undef, undef, undef, undef, .int .i64 (k : Int), .int .i64 (j : Int), .int .i64 0, .int .i64 1, .int .i64 (k : Int), .int .i64 (q.length : Int), .bool true, u15, u16, .int .i64 (k : Int), .int .i64 (j : Int), .int .i64 0, .bool true, .bool true, .func (.func FCD) #[] #[.pointer (some ⟨gr, 0, none⟩)], .slice (some ⟨g, 0, none⟩) q.length cs, .int .i64 (j : Int), .pointer (some ⟨g, j, none⟩), .int .i64 (x : Int), .slice (some ⟨g, 0, none⟩) q.length cs, .int .i64 (j : Int), .int .i64 (m : Int), .pointer (some ⟨g, m, none⟩), .int .i64 (y : Int), .int .i64 gg, .bool false, .bool false, u35, u36, u37, u38, u39, u40, u41, u42, u43, u44, u45, u46, u47, u48, u49, u50, u51, u52] := by
                refine arr_of _ _ hsz fun t ht => ?_
                have ht' : t < 53 := ht
                rcases (by omega : t = 0 ∨ t = 1 ∨ t = 2 ∨ t = 3 ∨ t = 4 ∨ t = 5 ∨ t = 6 ∨ t = 7 ∨ t = 8 ∨ t = 9 ∨ t = 10 ∨ t = 11 ∨ t = 12 ∨ t = 13 ∨ t = 14 ∨ t = 15 ∨ t = 16 ∨ t = 17 ∨ t = 18 ∨ t = 19 ∨ t = 20 ∨ t = 21 ∨ t = 22 ∨ t = 23 ∨ t = 24 ∨ t = 25 ∨ t = 26 ∨ t = 27 ∨ t = 28 ∨ t = 29 ∨ t = 30 ∨ t = 31 ∨ t = 32 ∨ t = 33 ∨ t = 34 ∨ t = 35 ∨ t = 36 ∨ t = 37 ∨ t = 38 ∨ t = 39 ∨ t = 40 ∨ t = 41 ∨ t = 42 ∨ t = 43 ∨ t = 44 ∨ t = 45 ∨ t = 46 ∨ t = 47 ∨ t = 48 ∨ t = 49 ∨ t = 50 ∨ t = 51 ∨ t = 52) with rfl | rfl | rfl | rfl | rfl | rfl | rfl | rfl | rfl | rfl | rfl | rfl | rfl | rfl | rfl | rfl | rfl | rfl | rfl | rfl | rfl | rfl | rfl | rfl | rfl | rfl | rfl | rfl | rfl | rfl | rfl | rfl | rfl | rfl | rfl | rfl | rfl | rfl | rfl | rfl | rfl | rfl | rfl | rfl | rfl | rfl | rfl | rfl | rfl | rfl | rfl | rfl | rfl
                · exact hlow 0 (by kernel_rfl)
                · exact hlow 1 (by kernel_rfl)
                · exact hlow 2 (by kernel_rfl)
                · exact hlow 3 (by kernel_rfl)
                · exact hlow 4 (by kernel_rfl)
                · exact hlow 5 (by kernel_rfl)
                · exact hlow 6 (by kernel_rfl)
                · exact hlow 7 (by kernel_rfl)
                · exact hlow 8 (by kernel_rfl)
                · exact hlow 9 (by kernel_rfl)
                · exact hlow 10 (by kernel_rfl)
                · exact hlow 11 (by kernel_rfl)
                · exact hlow 12 (by kernel_rfl)
                · exact hlow 13 (by kernel_rfl)
                · exact hlow 14 (by kernel_rfl)
                · exact hlow 15 (by kernel_rfl)
                · exact hlow 16 (by kernel_rfl)
                · exact hlow 17 (by kernel_rfl)
                · exact hval 0 _ 18 rfl rfl
                · exact hval 1 _ 19 rfl rfl
                · exact hval 2 _ 20 rfl rfl
                · exact hval 3 _ 21 rfl rfl
                · exact hval 4 _ 22 rfl rfl
                · exact hval 5 _ 23 rfl rfl
                · exact hval 6 _ 24 rfl rfl
                · exact hval 7 _ 25 rfl rfl
                · exact hval 8 _ 26 rfl rfl
                · exact hval 9 _ 27 rfl rfl
                · exact hval 10 _ 28 rfl rfl
                · exact hval 11 _ 29 rfl rfl
                · exact hval 12 _ 30 rfl rfl
                · exact hval 13 _ 31 rfl rfl
                · exact hval 14 _ 32 rfl rfl
                · exact hval 15 _ 33 rfl rfl
                · exact hval 16 _ 34 rfl rfl
                · exact hlow 35 (by kernel_rfl)
                · exact hlow 36 (by kernel_rfl)
                · exact hlow 37 (by kernel_rfl)
                · exact hlow 38 (by kernel_rfl)
                · exact hlow 39 (by kernel_rfl)
                · exact hlow 40 (by kernel_rfl)
                · exact hlow 41 (by kernel_rfl)
                · exact hlow 42 (by kernel_rfl)
                · exact hlow 43 (by kernel_rfl)
                · exact hlow 44 (by kernel_rfl)
                · exact hlow 45 (by kernel_rfl)
                · exact hlow 46 (by kernel_rfl)
                · exact hlow 47 (by kernel_rfl)
                · exact hlow 48 (by kernel_rfl)
                · exact hlow 49 (by kernel_rfl)
                · exact hlow 50 (by kernel_rfl)
                · exact hlow 51 (by kernel_rfl)
                · exact hlow 52 (by kernel_rfl)
              subst ht
              clear hlow hval hsz hall
              have HSW1 := Lib.hid (HSJ.out.below hS)
              clear hS HCC HC1 HC0 fz1 fz0 HX
              go_wp2
              go_roundw
              case rel => exact ⟨k + 1, by omega, by omega, by go_num, by rw [HF.out]; exact HSW1.out⟩
              case measure => simp [intOf]; omega
            · intro L a w' t op _ hop _ _ _ hS hlow hdep _
              have ht : t < 17 := (Array.getElem?_eq_some_iff.1 hop).1
              rcases (by omega : t = 0 ∨ t = 1 ∨ t = 2 ∨ t = 3 ∨ t = 4 ∨ t = 5 ∨ t = 6 ∨ t = 7 ∨ t = 8 ∨ t = 9 ∨ t = 10 ∨ t = 11 ∨ t = 12 ∨ t = 13 ∨ t = 14 ∨ t = 15 ∨ t = 16) with rfl | rfl | rfl | rfl | rfl | rfl | rfl | rfl | rfl | rfl | rfl | rfl | rfl | rfl | rfl | rfl | rfl
              · obtain rfl := Option.some.inj hop
                have e9 : a.tmps[9]?.getD undef = .int .i64 (j : Int) := (Array.getD_eq_getD_getElem? ..).symm.trans (hlow 9 (by kernel_rfl))
                exact ⟨wanted_free rfl, .inl (.inl ⟨w', by simp [execOp, Act.eval, e9, go_sem], hS⟩)⟩
              · obtain rfl := Option.some.inj hop
                have e1 : a.tmps[1]?.getD undef = .int .i64 0 := (Array.getD_eq_getD_getElem? ..).symm.trans (hlow 1 (by kernel_rfl))
                exact ⟨wanted_free rfl, .inl (.inl ⟨w', by simp [execOp, Act.eval, e1, go_sem], hS⟩)⟩
              · obtain rfl := Option.some.inj hop
                have e18 : a.tmps[18]?.getD undef = .int .i64 (j : Int) := (Array.getD_eq_getD_getElem? ..).symm.trans (hdep 0 _ 18 (by kernel_rfl) rfl rfl)
                have e19 : a.tmps[19]?.getD undef = .int .i64 0 := (Array.getD_eq_getD_getElem? ..).symm.trans (hdep 1 _ 19 (by kernel_rfl) rfl rfl)
                exact ⟨wanted_free rfl, .inl (.inl ⟨w', by simp [execOp, Act.eval, e18, e19, h0, go_sem], hS⟩)⟩
              · obtain rfl := Option.some.inj hop
                have e20 : a.tmps[20]?.getD undef = .bool true := (Array.getD_eq_getD_getElem? ..).symm.trans (hdep 2 _ 20 (by kernel_rfl) rfl rfl)
                exact ⟨wanted_free rfl, .inl (.inl ⟨w', by simp [execOp, Act.eval, e20, go_sem], hS⟩)⟩
              · obtain rfl := Option.some.inj hop
                have e3 : a.tmps[3]?.getD undef = .func (.func FCD) #[] #[.pointer (some ⟨gr, 0, none⟩)] := (Array.getD_eq_getD_getElem? ..).symm.trans (hlow 3 (by kernel_rfl))
                exact ⟨wanted_guard (g := 3) (d := 21) (b := true) rfl rfl rfl (hdep 3 _ 21 (by kernel_rfl) rfl rfl), .inl (.inl ⟨w', by simp [execOp, Act.eval, e3, go_sem], hS⟩)⟩
              · obtain rfl := Option.some.inj hop
                have e0 : a.tmps[0]?.getD undef = .slice (some ⟨g, 0, none⟩) q.length cs := (Array.getD_eq_getD_getElem? ..).symm.trans (hlow 0 (by kernel_rfl))
                exact ⟨wanted_guard (g := 3) (d := 21) (b := true) rfl rfl rfl (hdep 3 _ 21 (by kernel_rfl) rfl rfl), .inl (.inl ⟨w', by simp [execOp, Act.eval, e0, go_sem], hS⟩)⟩
              · obtain rfl := Option.some.inj hop
                have e9 : a.tmps[9]?.getD undef = .int .i64 (j : Int) := (Array.getD_eq_getD_getElem? ..).symm.trans (hlow 9 (by kernel_rfl))
                exact ⟨wanted_guard (g := 3) (d := 21) (b := true) rfl rfl rfl (hdep 3 _ 21 (by kernel_rfl) rfl rfl), .inl (.inl ⟨w', by simp [execOp, Act.eval, e9, go_sem], hS⟩)⟩
              · obtain rfl := Option.some.inj hop
                have e23 : a.tmps[23]?.getD undef = .slice (some ⟨g, 0, none⟩) q.length cs := (Array.getD_eq_getD_getElem? ..).symm.trans (hdep 5 _ 23 (by kernel_rfl) rfl rfl)
                have e24 : a.tmps[24]?.getD undef = .int .i64 (j : Int) := (Array.getD_eq_getD_getElem? ..).symm.trans (hdep 6 _ 24 (by kernel_rfl) rfl rfl)
                exact ⟨wanted_guard (g := 3) (d := 21) (b := true) rfl rfl rfl (hdep 3 _ 21 (by kernel_rfl) rfl rfl), .inl (.inl ⟨w', by simp [execOp, Act.eval, e23, e24, hj0, hjq, go_sem], hS⟩)⟩
              · obtain rfl := Option.some.inj hop
                have e25 : a.tmps[25]?.getD undef = .pointer (some ⟨g, j, none⟩) := (Array.getD_eq_getD_getElem? ..).symm.trans (hdep 7 _ 25 (by kernel_rfl) rfl rfl)
                have cw : w'.cell? ⟨g, j, none⟩ = some (.int .i64 (x : Int)) := (hS.cell (p := ⟨g, j, none⟩) lg).trans HC1.out
                exact ⟨wanted_guard (g := 3) (d := 21) (b := true) rfl rfl rfl (hdep 3 _ 21 (by kernel_rfl) rfl rfl), .inl (.inl ⟨w', by simp [execOp, Act.eval, e25, cw, go_sem], hS⟩)⟩
              · obtain rfl := Option.some.inj hop
                have e0 : a.tmps[0]?.getD undef = .slice (some ⟨g, 0, none⟩) q.length cs := (Array.getD_eq_getD_getElem? ..).symm.trans (hlow 0 (by kernel_rfl))
                exact ⟨wanted_guard (g := 3) (d := 21) (b := true) rfl rfl rfl (hdep 3 _ 21 (by kernel_rfl) rfl rfl), .inl (.inl ⟨w', by simp [execOp, Act.eval, e0, go_sem], hS⟩)⟩
              · obtain rfl := Option.some.inj hop
                have e9 : a.tmps[9]?.getD undef = .int .i64 (j : Int) := (Array.getD_eq_getD_getElem? ..).symm.trans (hlow 9 (by kernel_rfl))
                exact ⟨wanted_guard (g := 3) (d := 21) (b := true) rfl rfl rfl (hdep 3 _ 21 (by kernel_rfl) rfl rfl), .inl (.inl ⟨w', by simp [execOp, Act.eval, e9, go_sem], hS⟩)⟩
              · obtain rfl := Option.some.inj hop
                have e28 : a.tmps[28]?.getD undef = .int .i64 (j : Int) := (Array.getD_eq_getD_getElem? ..).symm.trans (hdep 10 _ 28 (by kernel_rfl) rfl rfl)
                exact ⟨wanted_guard (g := 3) (d := 21) (b := true) rfl rfl rfl (hdep 3 _ 21 (by kernel_rfl) rfl rfl), .inl (.inl ⟨w', by simp [execOp, Act.eval, e28, hw1, go_sem] <;> omega, hS⟩)⟩
              · obtain rfl := Option.some.inj hop
                have e27 : a.tmps[27]?.getD undef = .slice (some ⟨g, 0, none⟩) q.length cs := (Array.getD_eq_getD_getElem? ..).symm.trans (hdep 9 _ 27 (by kernel_rfl) rfl rfl)
                have e29 : a.tmps[29]?.getD undef = .int .i64 (m : Int) := (Array.getD_eq_getD_getElem? ..).symm.trans (hdep 11 _ 29 (by kernel_rfl) rfl rfl)
                exact ⟨wanted_guard (g := 3) (d := 21) (b := true) rfl rfl rfl (hdep 3 _ 21 (by kernel_rfl) rfl rfl), .inl (.inl ⟨w', by simp [execOp, Act.eval, e27, e29, hm0, hm2, go_sem], hS⟩)⟩
              · obtain rfl := Option.some.inj hop
                have e30 : a.tmps[30]?.getD undef = .pointer (some ⟨g, m, none⟩) := (Array.getD_eq_getD_getElem? ..).symm.trans (hdep 12 _ 30 (by kernel_rfl) rfl rfl)
                have cw : w'.cell? ⟨g, m, none⟩ = some (.int .i64 (y : Int)) := (hS.cell (p := ⟨g, m, none⟩) lg).trans HC0.out
                exact ⟨wanted_guard (g := 3) (d := 21) (b := true) rfl rfl rfl (hdep 3 _ 21 (by kernel_rfl) rfl rfl), .inl (.inl ⟨w', by simp [execOp, Act.eval, e30, cw, go_sem], hS⟩)⟩
              · obtain rfl := Option.some.inj hop
                have e22 : a.tmps[22]?.getD undef = .func (.func FCD) #[] #[.pointer (some ⟨gr, 0, none⟩)] := (Array.getD_eq_getD_getElem? ..).symm.trans (hdep 4 _ 22 (by kernel_rfl) rfl rfl)
                have e26 : a.tmps[26]?.getD undef = .int .i64 (x : Int) := (Array.getD_eq_getD_getElem? ..).symm.trans (hdep 8 _ 26 (by kernel_rfl) rfl rfl)
                have e31 : a.tmps[31]?.getD undef = .int .i64 (y : Int) := (Array.getD_eq_getD_getElem? ..).symm.trans (hdep 13 _ 31 (by kernel_rfl) rfl rfl)
                refine ⟨wanted_guard (g := 3) (d := 21) (b := true) rfl rfl rfl (hdep 3 _ 21 (by kernel_rfl) rfl rfl), .inl (.inr ⟨FCD, #[.int .i64 (x : Int), .int .i64 (y : Int), .pointer (some ⟨gr, 0, none⟩)], by simp [execOp, Act.eval, e22, e26, e31, hcf, go_sem], (HCC.out w' hS).mono ?_⟩)⟩
                rintro e w2 ⟨rfl, hb2⟩
                exact ⟨rfl, hS.trans (hb2.mono hS.size)⟩
              · obtain rfl := Option.some.inj hop
                have e32 : a.tmps[32]?.getD undef = .int .i64 gg := (Array.getD_eq_getD_getElem? ..).symm.trans (hdep 14 _ 32 (by kernel_rfl) rfl rfl)
                exact ⟨wanted_guard (g := 3) (d := 21) (b := true) rfl rfl rfl (hdep 3 _ 21 (by kernel_rfl) rfl rfl), .inl (.inl ⟨w', by simp [execOp, Act.eval, e32, dn, go_sem], hS⟩)⟩
              · obtain rfl := Option.some.inj hop
                have e21 : a.tmps[21]?.getD undef = .bool true := (Array.getD_eq_getD_getElem? ..).symm.trans (hdep 3 _ 21 (by kernel_rfl) rfl rfl)
                have e33 : a.tmps[33]?.getD undef = .bool false := (Array.getD_eq_getD_getElem? ..).symm.trans (hdep 15 _ 33 (by kernel_rfl) rfl rfl)
                exact ⟨wanted_free rfl, .inl (.inl ⟨w', by simp [execOp, Act.eval, e21, e33, go_sem], hS⟩)⟩
        · have d0 : decide ((0 : Int) < (j : Int)) = false := decide_eq_false (by omega)
          have d1 : ¬ (0 : Int) < (j : Int) := by omega
          have HF : Hid (joTo rk q (k + 1) ++ q.drop (k + 1) = midL out rest x j) := by
            show _ = _
            rw [HINS.out, HREST.out, insJ_back HSO.out.1 HSO.out.2 (j := j) (by omega) (fun h => absurd h h0) HG.out]
            unfold midL; simp
          go_wp2
          go_quiet (fail)
          go_wp2
          go_roundw
          case rel => exact ⟨k + 1, by omega, by omega, by go_num, by rw [HF.out]; exact HSJ.out.drew _⟩
          case measure => simp [intOf]; omega
    · have hkq : k = q.length := by omega
      have HF : Hid (joTo rk q k ++ q.drop k = joL rk q) := by
        show _ = _
        rw [hkq, List.drop_of_length_le (Nat.le_refl _), List.append_nil]; rfl
      have hkq' : ¬ (k : Int) < (q.length : Int) := by omega
      clear hkq
      go_wp2
      go_end0
      refine ⟨rfl, ?_⟩
      rw [← HF.out]
      exact HSk.out
end
end Go.Proofs.YtejgpecmjfgfbaaDoor

namespace Go.Proofs.YtejgpecmjfgfbaaDoor
open Go.RowKit
theorem insSort0 (B : Option Addr) (d : Nat) (fv : Value) (w : World) :
    Calls Tryd.prog 139 #[.slice B 0 d, .int .i64 0, .int .i64 0, fv] w fun e w' => e = .returned (.tuple #[]) ∧ w = w' := by
  go_enter Tryd.func139, Tryd.ntmps139
  go_wp2
  refine wp_loop_rounds 1 ?_
  rw [rounds_succ]
  go_wp2
  go_end0
  exact ⟨rfl, rfl⟩
theorem stable_any (P : World → Prop) (B : Option Addr) (n d : Nat) (fv : Value) (w : World) (hn : n ≤ 12)
    (hI : Calls Tryd.prog 139 #[.slice B n d, .int .i64 0, .int .i64 (n : Int), fv] w fun e w' => e = .returned (.tuple #[]) ∧ P w') :
    Calls Tryd.prog 118 #[.slice B n d, .int .i64 (n : Int), fv] w fun e w' => e = .returned (.tuple #[]) ∧ P w' := by
  have HI := Lib.hid hI
  clear hI
  have h1 : ¬ (20 : Int) ≤ n := by omega
  have h2 : ¬ (20 : Int) < n := by omega
  go_enter Tryd.func118, Tryd.ntmps118
  go_wp2
  refine wp_loop_rounds 1 ?_
  rw [rounds_succ]
  go_wp2_with fail
  refine HI.out.mono ?_
  rintro e w' ⟨rfl, hp⟩
  have HP := Lib.hid hp
  clear hp
  go_wp2
  refine wp_loop_rounds 1 ?_
  rw [rounds_succ]
  go_wp2
  first
    | (refine bodyPost_ret (results_none rfl _ _ _) rfl ?_; exact ⟨rfl, HP.out⟩)
    | (go_end0; exact ⟨rfl, HP.out⟩)
theorem sortStable_any (P : World → Prop) (B : Option Addr) (n d : Nat) (fv : Value) (w : World) (hn : n ≤ 12)
    (hI : Calls Tryd.prog 139 #[.slice B n d, .int .i64 0, .int .i64 (n : Int), fv] w fun e w' => e = .returned (.tuple #[]) ∧ P w') :
    Calls Tryd.prog 89 #[.slice B n d, fv] w fun e w' => e = .returned (.tuple #[]) ∧ P w' := by
  have HI := Lib.hid (stable_any P B n d fv w hn hI)
  clear hI
  go_enter Tryd.func89, Tryd.ntmps89
  go_wp2_with fail
  refine HI.out.mono ?_
  rintro e w' ⟨rfl, hp⟩
  have HP := Lib.hid hp
  clear hp
  go_wp2
  go_end0
  exact ⟨rfl, HP.out⟩
theorem sortJ_own {rk : Nat → Int} {n0 gr cR : Nat} {R : Option Addr} (hrk : ∀ i, 0 ≤ rk i ∧ rk i ≤ 1000) (B0 : Nat) (w : World) (hr : RkIs rk n0 gr R cR w) (B : Option Addr) (d : Nat) (q : List Nat) (hown : w.ownsRow B0 3 1 (.slice B q.length d) q.length (ic (natI q))) (hq : ∀ x ∈ q, x < n0) (hup : ∀ k (hk : k < q.length), ∀ a ∈ q.take k, a < q[k]) (hd : q.Nodup) (hl : q.length ≤ 12) (hA : gr < B0 ∧ ∀ a, R = some a → 0 < n0 → a.block < B0) :
    Calls Tryd.prog 89 #[.slice B q.length d, .func (.func 90) #[] #[.pointer (some ⟨gr, 0, none⟩)]] w fun e w' => e = .returned (.tuple #[]) ∧ (w'.ownsRow B0 3 1 (.slice B q.length d) q.length (ic (natI (joL rk q))) ∧ Below B0 w w') := by
  refine sortStable_any (fun w' => w'.ownsRow B0 3 1 (.slice B q.length d) q.length (ic (natI (joL rk q))) ∧ Below B0 w w') B q.length d _ w hl ?_
  by_cases h0 : q.length = 0
  · have hq0 : q = [] := List.eq_nil_of_length_eq_zero h0
    subst hq0
    refine (insSort0 B d _ w).mono ?_
    rintro e w' ⟨rfl, rfl⟩
    exact ⟨rfl, hown, Below.refl _ _⟩
  · obtain ⟨g, cur, rfl, hg, hB, h1, h2, h3, h4⟩ := own_block hown (by omega)
    refine (insSortJ_any hrk w hr g d cur.size q hq hup hd hl ⟨cur, hB, rfl, by rw [Nat.mul_one] at h4; exact h4, World.grownBy.refl _ _⟩ ⟨by have := hA.1; omega, fun a ha hp => by have := hA.2 a ha hp; omega⟩).mono ?_
    rintro e w' ⟨rfl, cur', hB', hs', ht', hG⟩
    refine ⟨rfl, ?_, ⟨hG.os, hG.tape, hG.output, hG.size, fun k hk => hG.block k (by have := hB.lt; omega) (fun e => by injection e; omega)⟩⟩
    have h := hB'.own (base := B0) (n := q.length) (c := d) (size := 1) hg (by rw [hs']; exact h3) h1 h2 (by rw [hs', h3]; omega)
    rw [Nat.mul_one, ht'] at h
    exact h
theorem memB_allJ : ∀ n, n < 9 → memB (2 ^ n - 1) = List.range n := by decide +kernel
set_option maxRecDepth 100000 in
theorem fallingOrder_any (rk : Nat → Int) (hrk : ∀ i, 0 ≤ rk i ∧ rk i ≤ 1000) (R : Option Addr) (n cR : Nat) (w : World) (hn : n ≤ 8) (hr : Row w R (ic ((List.range n).map rk))) (hT : TzTab w) :
    Calls Tryd.prog 56 #[.slice R n cR] w fun e w' => ∃ v, e = .returned v ∧ w'.ownsRow w.heap.size 3 1 v n (ic (natI (joL rk (List.range n)))) ∧ Below w.heap.size w w' := by
  have hpow : 2 ^ n - 1 < 256 := by
    have : 2 ^ n ≤ 2 ^ 8 := Nat.pow_le_pow_right (by omega) hn
    omega
  have hb0 := (Below.refl w.heap.size w).alloc (Nat.le_refl _) (.cells #[.slice R n cR] 24)
  have hT0 := hT.below hb0
  have hsz : (w.alloc (.cells #[.slice R n cR] 24)).heap.size = w.heap.size + 1 := by simp
  have hRk : RkIs rk n w.heap.size R cR (w.alloc (.cells #[.slice R n cR] 24)) := ⟨BlockIs.new _ _ _, hr.below hb0⟩
  have hRb : ∀ a, R = some a → 0 < n → a.block < w.heap.size := fun a ha hp => by
    obtain ⟨ad, e, hb', _⟩ := hr (by rw [ic_len]; simpa using hp)
    rw [ha] at e
    injection e with e
    rw [e]; exact hb'
  have HL : Hid (∀ w1 : World, w1 = w.alloc (.cells #[.slice R n cR] 24) → Calls Tryd.prog 88 #[.int .u64 ((2 ^ n - 1 : Nat) : Int)] w1 fun e w' => ∃ v, e = .returned v ∧ w'.ownsRow (w.heap.size + 1) 3 1 v n (ic (natI (List.range n))) ∧ Below (w.heap.size + 1) w1 w') := fun w1 e1 => by
    subst e1
    have h := list_any (2 ^ n - 1) _ hpow hT0
    rw [memB_allJ n (by omega), List.length_range, hsz] at h
    exact h
  have HSO : Hid (∀ (w1 : World) (B : Option Addr) (d : Nat), Below (w.heap.size + 1) (w.alloc (.cells #[.slice R n cR] 24)) w1 → w1.ownsRow (w.heap.size + 1) 3 1 (.slice B n d) n (ic (natI (List.range n))) → Calls Tryd.prog 89 #[.slice B n d, .func (.func 90) #[] #[.pointer (some ⟨w.heap.size, 0, none⟩)]] w1 fun e w' => e = .returned (.tuple #[]) ∧ (w'.ownsRow (w.heap.size + 1) 3 1 (.slice B n d) n (ic (natI (joL rk (List.range n)))) ∧ Below (w.heap.size + 1) w1 w')) := fun w1 B d hb ho => by
    have h := sortJ_own hrk (w.heap.size + 1) w1 (hRk.below (by rw [hsz]; exact hb)) B d (List.range n) (by rw [List.length_range]; exact ho) (fun x hx => List.mem_range.1 hx) (fun k hk a ha => by
      rw [List.take_range] at ha
      have := List.mem_range.1 ha
      rw [List.getElem_range]
      omega) List.nodup_range (by rw [List.length_range]; omega) ⟨by omega, fun a ha hp => by have := hRb a ha hp; omega⟩
    rw [List.length_range] at h
    exact h
  have HB := Lib.hid (And.intro hb0 hsz)
  have HAJ := Lib.hid (allJobs_any n hn)
  have HBX := Lib.hid hRk.1
  clear hr hT hT0 hRk hRb hrk hb0 hsz hpow
  go_enter Tryd.func56, Tryd.ntmps56
  go_wp2_with fail
  refine (HAJ.out _).mono ?_
  rintro e _ ⟨rfl, rfl⟩
  go_wp2_with fail
  refine (HL.out _ rfl).mono ?_
  rintro e w1 ⟨v, rfl, hown, hb1⟩
  obtain ⟨B, d, rfl, _, _⟩ := own_slice hown
  have HC := Lib.hid (HSO.out w1 B d hb1 hown)
  have HB1 := Lib.hid hb1
  clear hown hb1 HSO HL
  go_wp2_with fail
  refine HC.out.mono ?_
  rintro e w2 ⟨rfl, hown2, hb2⟩
  have HX := Lib.hid (And.intro (own_lower hown2 (Nat.le_succ w.heap.size)) (HB.out.1.trans ((HB1.out.trans hb2).mono (Nat.le_succ _))))
  clear hown2 hb2
  go_wp2
  go_ret
  exact ⟨_, rfl, HX.out.1, HX.out.2⟩
end Go.Proofs.YtejgpecmjfgfbaaDoor

namespace Go.Proofs.YtejgpecmjfgfbaaDoor
set_option linter.unusedSimpArgs false
set_option linter.unusedVariables false
open Go.RowKit
/-- The tail of a job as a rank. -/
def rkT (js : List J) (E : List Ed) (i : Nat) : Int := if i < js.length then tailF js (tabB js.length E) js.length 9 i else 0
theorem rkT_bd {js : List J} {E : List Ed} (hok : ∀ j ∈ js, okJ j = true) (i : Nat) : 0 ≤ rkT js E i ∧ rkT js E i ≤ 1000 := by
  unfold rkT
  split
  · rename_i h
    have := tailF_bd hok (tabB js.length E) 9 i h
    omega
  · omega
theorem rkT_tails (js : List J) (E : List Ed) : tailsL js E = (List.range js.length).map (rkT js E) := by
  unfold tailsL
  refine List.map_congr_left fun i hi => ?_
  unfold rkT
  rw [if_pos (List.mem_range.1 hi)]
def ordT (js : List J) (E : List Ed) : List Nat := joL (rkT js E) (List.range js.length)
theorem ordT_perm (js : List J) (E : List Ed) : (ordT js E).Perm (List.range js.length) := joL_perm _ _
theorem ordT_len (js : List J) (E : List Ed) : (ordT js E).length = js.length := by unfold ordT; rw [joL_len, List.length_range]
def tfR (js : List J) (m : Int) (E : List Pr) : List Sp × Bool := if goodB js m E then (listL js (tabB js.length E) (ordT js E) m.toNat, true) else ([], false)
theorem tfR_len (js : List J) (m : Int) (E : List Pr) : (tfR js m E).1.length ≤ 8 := by
  unfold tfR
  split
  · rename_i h
    obtain ⟨_, h8, _⟩ := good_parts h
    show (listL js _ _ _).length ≤ 8
    rw [listL_len]
    exact h8
  · simp
structure Tq where
  gT : Nat
  v : Value
  gP : Nat
section
variable (A C : Option Addr) (c d : Nat) (js : List J) (m : Int) (E : List Pr) (w : World) (hr : Row w A (jc js)) (hq : Row w C (pc E)) (hn : js.length ≤ 10000000) (hl : E.length ≤ 10000000)
include hr hq hn hl
set_option maxRecDepth 100000 in
set_option maxHeartbeats 1000000 in
theorem spec_TailsFirst : Calls Tryd.prog 29 #[.slice A js.length c, .int .i64 m, .slice C E.length d] w (RetTB w (tfR js m E)) := by
  have HRR : Hid (tfR js m E = if goodB js m E then (listL js (tabB js.length E) (ordT js E) m.toNat, true) else ([], false)) := rfl
  have HG := Lib.hid (l7Good_any A C c d js m E w hr hq hn hl)
  have HR := Lib.hid hr
  have HQ := Lib.hid hq
  clear hr hq
  cases hg : goodB js m E
  · rw [hg] at HRR HG
    clear hg
    go_enter Tryd.func29, Tryd.ntmps29
    go_wp2_with fail
    refine HG.out.mono ?_
    rintro e w1 ⟨rfl, hb1⟩
    have HB := Lib.hid hb1
    clear hb1
    go_wp2
    go_ret2
    exact ret_noplan HRR.out HB.out _ rfl
  · rw [hg] at HRR HG
    rw [if_pos rfl] at HRR
    obtain ⟨hok, h8, hirr, hE, _, _, hmm⟩ := good_parts hg
    obtain ⟨m1, m4⟩ := inB_out hmm
    obtain ⟨mm, rfl⟩ : ∃ mm : Nat, m = (mm : Int) := ⟨m.toNat, by omega⟩
    have HOT := Lib.hid (ordT_perm js E)
    have HOL := Lib.hid (ordT_len js E)
    have HLL := Lib.hid (listL_len js (tabB js.length E) (ordT js E) mm)
    have HTL := Lib.hid (fun W (hb : Below w.heap.size w W) => l7Tails_any A C c d js E W (HR.out.below hb) (HQ.out.below hb) hl hok h8 hirr hE)
    have HLI := Lib.hid (fun D b W (hb : Below w.heap.size w W) (ho : Row W D (ic (natI (ordT js E)))) => l7List_any A C D c d b js mm E (ordT js E) W (HR.out.below hb) (HQ.out.below hb) ho hl hok h8 hirr hE ⟨by omega, by omega⟩ (ordT_perm js E))
    have HFA := Lib.hid (fun R cR W => l7Falling_any (rkT js E) R js.length cR W h8)
    rw [← rkT_tails] at HFA
    obtain ⟨RES, hRES⟩ : ∃ RES, listL js (tabB js.length E) (ordT js E) mm = RES := ⟨_, rfl⟩
    rw [show ((mm : Int)).toNat = mm from rfl, hRES] at HRR
    rw [hRES] at HLL HLI
    have htl := tailsL_len js E
    clear hg hRES hok hirr hE hmm
    go_enter Tryd.func29, Tryd.ntmps29
    go_wp2_with fail
    refine HG.out.mono ?_
    rintro e w1 ⟨rfl, hb1⟩
    have HT1 := Lib.hid (HTL.out w1 hb1)
    have HB1 := Lib.hid hb1
    clear hb1 HG HTL
    go_wp2_with fail
    refine HT1.out.mono ?_
    rintro e w2 ⟨v, rfl, ho2, hb2⟩
    obtain ⟨Av, cv, rfl, _, hrow⟩ := own_slice ho2
    rw [htl]
    have HB2 := Lib.hid (HB1.out.trans (hb2.mono HB1.out.size))
    have HF1 := Lib.hid (HFA.out Av cv w2 hrow)
    clear hb2 ho2 hrow HT1 HB1 HFA htl
    go_wp2_with fail
    refine HF1.out.mono ?_
    rintro e w3 ⟨v3, rfl, ho3, hb3⟩
    obtain ⟨A3, c3, rfl, _, hrow3⟩ := own_slice ho3
    have HB3 := Lib.hid (HB2.out.trans (hb3.mono HB2.out.size))
    have hL3 := HLI.out A3 c3 w3 HB3.out hrow3
    rw [HOL.out] at hL3
    have HL3 := Lib.hid hL3
    clear hb3 ho3 hrow3 hL3 HF1 HB2 HLI
    go_wp2_with fail
    refine HL3.out.mono ?_
    rintro e w4 ⟨g, rfl, hgs, hP, hb4⟩
    have HF := Lib.hid (And.intro hP (And.intro (HB3.out.trans (hb4.mono HB3.out.size)) (Nat.le_trans HB3.out.size hgs)))
    clear hP hb4 hgs HL3
    go_wp2
    go_ret2
    have hfin := ret_plan HRR.out HF.out.2.2 HF.out.1 (by rw [HLL.out]; omega) HF.out.2.1 _ rfl
    rw [HLL.out] at hfin
    exact hfin
set_option maxRecDepth 100000 in
set_option maxHeartbeats 2000000 in
theorem impl_TailsFirst (hT : TzTab w) : Calls Tryd.prog 30 #[.slice A js.length c, .int .i64 m, .slice C E.length d] w (RetTB w (tfR js m E)) := by
  have HRR : Hid (tfR js m E = if goodB js m E then (listL js (tabB js.length E) (ordT js E) m.toNat, true) else ([], false)) := rfl
  have H := Lib.hid (workloadOn_any A C c d js m E w hr hq hn hl hT)
  have HON := goodB_on js m E
  have HR := Lib.hid hr
  have HT := Lib.hid hT
  clear hr hq hT
  cases hg : goodB js m E
  · rw [hg] at HRR HON
    rw [← HON] at H
    clear hg HON
    go_enter Tryd.func30, Tryd.ntmps30
    go_wp2_with fail
    refine H.out.mono ?_
    rintro e w1 ⟨hb1, ⟨hw, _, _⟩ | ⟨_, rfl⟩⟩
    · cases hw
    have HB := Lib.hid (hb1.alloc hb1.size (.cells wlZ 72))
    clear hb1
    unfold wlZ
    unfold wlZ at HB
    go_wp2
    go_ret2
    exact ret_noplan HRR.out HB.out _ (by rw [World.size_alloc]; rfl)
  · rw [hg] at HRR HON
    rw [if_pos rfl] at HRR
    rw [← HON] at H
    obtain ⟨hok, h8, hirr, hE, _, _, hmm⟩ := good_parts hg
    obtain ⟨m1, m4⟩ := inB_out hmm
    obtain ⟨mm, rfl⟩ : ∃ mm : Nat, m = (mm : Int) := ⟨m.toNat, by omega⟩
    have HOL := Lib.hid (ordT_len js E)
    have HLL := Lib.hid (listL_len js (tabB js.length E) (ordT js E) mm)
    have HTA := Lib.hid (fun W (hb : Below w.heap.size w W) => tails_any A c js E W (HR.out.below hb) hok h8 hirr (HT.out.below hb))
    have HLI := Lib.hid (fun D b W (hb : Below w.heap.size w W) (ho : Row W D (ic (natI (ordT js E)))) => listPlan_any A D c b js E mm (ordT js E) W (HR.out.below hb) ho hok h8 hirr ⟨by omega, by omega⟩ (ordT_perm js E))
    have HFA := Lib.hid (fun R cR W (hb : Below w.heap.size w W) hr => fallingOrder_any (rkT js E) (rkT_bd hok) R js.length cR W h8 hr (HT.out.below hb))
    rw [← rkT_tails] at HFA
    obtain ⟨RES, hRES⟩ : ∃ RES, listL js (tabB js.length E) (ordT js E) mm = RES := ⟨_, rfl⟩
    rw [show ((mm : Int)).toNat = mm from rfl, hRES] at HRR
    rw [hRES] at HLL HLI
    rw [HOL.out] at HLI
    obtain ⟨TL, hTL⟩ : ∃ TL, tailsL js E = TL := ⟨_, rfl⟩
    rw [hTL] at HTA HFA
    have htl := tailsL_len js E
    rw [hTL] at htl
    obtain ⟨B, hB⟩ : ∃ B, befN js.length (tabB js.length E) = B := ⟨_, rfl⟩
    have HB0 := Lib.hid hB
    clear hg hRES hok hirr hE hmm HON hTL
    go_enter Tryd.func30, Tryd.ntmps30
    go_wp2_with fail
    refine H.out.mono ?_
    rintro e w1 ⟨hb1, ⟨_, _, rfl⟩ | ⟨hw, _⟩⟩
    · rw [hB] at HTA HLI ⊢
      clear hB
      have hb2 := hb1.alloc hb1.size (.cells (wlC (.slice A js.length c) (js.length : Int) B) 72)
      have hN2 := BlockIs.new w1 72 (wlC (.slice A js.length c) (js.length : Int) B)
      have H2 := Lib.hid (And.intro hb2.drew hN2.drew)
      clear hb1 hb2 hN2 H
      unfold wlC
      go_wp2
      rw [show (#[.slice A js.length c, .int .i64 (js.length : Int), .int .u64 (B 0 : Int), .int .u64 (B 1 : Int), .int .u64 (B 2 : Int), .int .u64 (B 3 : Int), .int .u64 (B 4 : Int), .int .u64 (B 5 : Int), .int .u64 (B 6 : Int), .int .u64 (B 7 : Int)] : Array Value) = wlC (.slice A js.length c) (js.length : Int) B from rfl]
      refine wp_region_detP (γ := Tq) (by kernel_rfl) (fun x L W => (Below w.heap.size w W ∧ BlockIs W w1.heap.size 72 (wlC (.slice A js.length c) (js.length : Int) B)) ∧ (L.getD 3 true = true → BlockIs W x.gT 3 (ic TL).toArray) ∧ (L.getD 4 true = true → W.ownsRow w.heap.size 3 1 x.v js.length (ic (natI (ordT js E)))) ∧ (L.getD 5 true = true → w.heap.size ≤ x.gP ∧ BlockIs W x.gP 78 (spc RES).toArray)) (fun x kk => (#[.agg (wlC (.slice A js.length c) (js.length : Int) B), .int .i64 (mm : Int), .agg (wlC (.slice A js.length c) (js.length : Int) B), .slice (some ⟨x.gT, 0, none⟩) js.length js.length, x.v, .slice (some ⟨x.gP, 0, none⟩) js.length js.length, .slice (some ⟨x.gP, 0, none⟩) js.length js.length, .bool true] : Array Value).getD kk undef) ⟨0, undef, 0⟩ (by kernel_rfl) (by kernel_rfl) ⟨H2.out, fun h => absurd (h.symm.trans (rep_getD 8 3 (by decide))) (by decide), fun h => absurd (h.symm.trans (rep_getD 8 4 (by decide))) (by decide), fun h => absurd (h.symm.trans (rep_getD 8 5 (by decide))) (by decide)⟩ ?_ ?_
      · intro x L W hall hS
        have HF := Lib.hid (And.intro hS.1.1 (hS.2.2.2 (hall 5 (by show 5 < 8; decide))))
        clear hS hall H2
        simp only [putsL]
        go_wp2
        simp only [List.getElem_toArray, List.getElem_cons_zero, List.getElem_cons_succ, Act.put, Array.getD_eq_getD_getElem?, List.getElem?_toArray, List.getElem?_cons_zero, List.getElem?_cons_succ, Option.getD_some, List.setIfInBounds_toArray, List.set_cons_zero, List.set_cons_succ, Nat.reduceAdd]
        have hfin := ret_plan HRR.out HF.out.2.1 HF.out.2.2 (by rw [HLL.out]; omega) HF.out.1 _ rfl
        rw [HLL.out] at hfin
        go_ret2
        exact hfin
      · intro x L ac W iq op hLs hop hLi hLd hLn ⟨hS0, hS3, hS4, hS5⟩ hlow hdep
        have hq : iq < 8 := (Array.getElem?_eq_some_iff.1 hop).1
        have K : iq ≠ 3 → iq ≠ 4 → iq ≠ 5 → (Below w.heap.size w W ∧ BlockIs W w1.heap.size 72 (wlC (.slice A js.length c) (js.length : Int) B)) ∧ ((L.setIfInBounds iq true).getD 3 true = true → BlockIs W x.gT 3 (ic TL).toArray) ∧ ((L.setIfInBounds iq true).getD 4 true = true → W.ownsRow w.heap.size 3 1 x.v js.length (ic (natI (ordT js E)))) ∧ ((L.setIfInBounds iq true).getD 5 true = true → w.heap.size ≤ x.gP ∧ BlockIs W x.gP 78 (spc RES).toArray) := fun h3 h4 h5 => by
          rw [listed_ne h3, listed_ne h4, listed_ne h5]
          exact ⟨hS0, hS3, hS4, hS5⟩
        have val_eq : ∀ (q : Nat) (y : Tq), (∀ j, j < 8 → j ≠ q → L.getD j true = true → (#[.agg (wlC (.slice A js.length c) (js.length : Int) B), .int .i64 (mm : Int), .agg (wlC (.slice A js.length c) (js.length : Int) B), .slice (some ⟨y.gT, 0, none⟩) js.length js.length, y.v, .slice (some ⟨y.gP, 0, none⟩) js.length js.length, .slice (some ⟨y.gP, 0, none⟩) js.length js.length, .bool true] : Array Value).getD j undef = (#[.agg (wlC (.slice A js.length c) (js.length : Int) B), .int .i64 (mm : Int), .agg (wlC (.slice A js.length c) (js.length : Int) B), .slice (some ⟨x.gT, 0, none⟩) js.length js.length, x.v, .slice (some ⟨x.gP, 0, none⟩) js.length js.length, .slice (some ⟨x.gP, 0, none⟩) js.length js.length, .bool true] : Array Value).getD j undef) → L.getD q true = false → ∀ j, L.getD j true = true → (#[.agg (wlC (.slice A js.length c) (js.length : Int) B), .int .i64 (mm : Int), .agg (wlC (.slice A js.length c) (js.length : Int) B), .slice (some ⟨y.gT, 0, none⟩) js.length js.length, y.v, .slice (some ⟨y.gP, 0, none⟩) js.length js.length, .slice (some ⟨y.gP, 0, none⟩) js.length js.length, .bool true] : Array Value).getD j undef = (#[.agg (wlC (.slice A js.length c) (js.length : Int) B), .int .i64 (mm : Int), .agg (wlC (.slice A js.length c) (js.length : Int) B), .slice (some ⟨x.gT, 0, none⟩) js.length js.length, x.v, .slice (some ⟨x.gP, 0, none⟩) js.length js.length, .slice (some ⟨x.gP, 0, none⟩) js.length js.length, .bool true] : Array Value).getD j undef := fun q y hag hi j hj => by
          by_cases h15 : j < 8
          · exact hag j h15 (fun e => by subst e; rw [hi] at hj; cases hj) hj
          · have h1 : 8 ≤ j := by omega
            rw [Array.getD_eq_getD_getElem?, Array.getD_eq_getD_getElem?, Array.getElem?_eq_none (by simpa using h1), Array.getElem?_eq_none (by simpa using h1)]
        rcases (by omega : iq = 0 ∨ iq = 1 ∨ iq = 2 ∨ iq = 3 ∨ iq = 4 ∨ iq = 5 ∨ iq = 6 ∨ iq = 7) with rfl | rfl | rfl | rfl | rfl | rfl | rfl | rfl
        · obtain rfl := Option.some.inj hop
          have e8 : ac.tmps[8]?.getD undef = .pointer (some ⟨w1.heap.size, 0, none⟩) := (Array.getD_eq_getD_getElem? ..).symm.trans (hlow 8 (by kernel_rfl))
          exact ⟨wanted_free rfl, .inl ⟨x, W, fun _ _ => rfl, exec_load10 (x := .tmp 8) rfl (hlow 8 (by kernel_rfl)) hS0.2 rfl, K (by decide) (by decide) (by decide)⟩⟩
        · obtain rfl := Option.some.inj hop
          have e1 : ac.tmps[1]?.getD undef = .int .i64 (mm : Int) := (Array.getD_eq_getD_getElem? ..).symm.trans (hlow 1 (by kernel_rfl))
          exact ⟨wanted_free rfl, .inl ⟨x, W, fun _ _ => rfl, by simp [execOp, Act.eval, e1, go_sem], K (by decide) (by decide) (by decide)⟩⟩
        · obtain rfl := Option.some.inj hop
          have e8 : ac.tmps[8]?.getD undef = .pointer (some ⟨w1.heap.size, 0, none⟩) := (Array.getD_eq_getD_getElem? ..).symm.trans (hlow 8 (by kernel_rfl))
          exact ⟨wanted_free rfl, .inl ⟨x, W, fun _ _ => rfl, exec_load10 (x := .tmp 8) rfl (hlow 8 (by kernel_rfl)) hS0.2 rfl, K (by decide) (by decide) (by decide)⟩⟩
        · obtain rfl := Option.some.inj hop
          have e22 : ac.tmps[22]?.getD undef = .agg (wlC (.slice A js.length c) (js.length : Int) B) := (Array.getD_eq_getD_getElem? ..).symm.trans (hdep 2 _ 22 (by kernel_rfl) rfl rfl)
          refine ⟨wanted_free rfl, .inr (.inl ⟨57, #[.agg (wlC (.slice A js.length c) (js.length : Int) B)], by simp [execOp, Act.eval, e22, go_sem], (HTA.out W hS0.1).mono ?_⟩)⟩
          rintro e w2 ⟨g, rfl, hg, hG, hb2⟩
          refine ⟨{ x with gT := g }, (val_eq 3 { x with gT := g } (fun j hj h1 hl => by rcases (by omega : j = 0 ∨ j = 1 ∨ j = 2 ∨ j = 4 ∨ j = 5 ∨ j = 6 ∨ j = 7) with rfl | rfl | rfl | rfl | rfl | rfl | rfl <;> first | rfl | (exact absurd hl (by rw [hLn 6 (by kernel_rfl)]; decide))) hLi), rfl, ⟨hS0.1.trans (hb2.mono hS0.1.size), hS0.2.below hb2⟩, fun _ => hG, ?_, ?_⟩
          · rw [listed_ne (by decide)]; exact fun h => own_blw (hS4 h) hb2
          · rw [listed_ne (by decide)]; exact fun h => ⟨(hS5 h).1, (hS5 h).2.below hb2⟩
        · obtain rfl := Option.some.inj hop
          have e23 : ac.tmps[23]?.getD undef = .slice (some ⟨x.gT, 0, none⟩) js.length js.length := (Array.getD_eq_getD_getElem? ..).symm.trans (hdep 3 _ 23 (by kernel_rfl) rfl rfl)
          have hTB := hS3 (hLd 3 (by kernel_rfl))
          refine ⟨wanted_free rfl, .inr (.inl ⟨56, #[.slice (some ⟨x.gT, 0, none⟩) js.length js.length], by simp [execOp, Act.eval, e23, go_sem], (HFA.out (some ⟨x.gT, 0, none⟩) js.length W hS0.1 (rowOf hTB)).mono ?_⟩)⟩
          rintro e w2 ⟨v, rfl, ho, hb2⟩
          refine ⟨{ x with v := v }, (val_eq 4 { x with v := v } (fun j hj h1 hl => by rcases (by omega : j = 0 ∨ j = 1 ∨ j = 2 ∨ j = 3 ∨ j = 5 ∨ j = 6 ∨ j = 7) with rfl | rfl | rfl | rfl | rfl | rfl | rfl <;> first | rfl | (exact absurd hl (by rw [hLn 6 (by kernel_rfl)]; decide))) hLi), rfl, ⟨hS0.1.trans (hb2.mono hS0.1.size), hS0.2.below hb2⟩, ?_, fun _ => own_lower ho hS0.1.size, ?_⟩
          · rw [listed_ne (by decide)]; exact fun h => (hS3 h).below hb2
          · rw [listed_ne (by decide)]; exact fun h => ⟨(hS5 h).1, (hS5 h).2.below hb2⟩
        · obtain rfl := Option.some.inj hop
          have e20 : ac.tmps[20]?.getD undef = .agg (wlC (.slice A js.length c) (js.length : Int) B) := (Array.getD_eq_getD_getElem? ..).symm.trans (hdep 0 _ 20 (by kernel_rfl) rfl rfl)
          have e21 : ac.tmps[21]?.getD undef = .int .i64 (mm : Int) := (Array.getD_eq_getD_getElem? ..).symm.trans (hdep 1 _ 21 (by kernel_rfl) rfl rfl)
          have e24 : ac.tmps[24]?.getD undef = x.v := (Array.getD_eq_getD_getElem? ..).symm.trans (hdep 4 _ 24 (by kernel_rfl) rfl rfl)
          have hO := hS4 (hLd 4 (by kernel_rfl))
          obtain ⟨Ao, co, hvo, _, hro⟩ := own_slice hO
          rw [hvo] at e24
          refine ⟨wanted_free rfl, .inr (.inl ⟨48, #[.agg (wlC (.slice A js.length c) (js.length : Int) B), .int .i64 (mm : Int), .slice Ao js.length co], by simp [execOp, Act.eval, e20, e21, e24, go_sem], (HLI.out Ao co W hS0.1 hro).mono ?_⟩)⟩
          rintro e w2 ⟨g, rfl, hg, hG, hb2⟩
          refine ⟨{ x with gP := g }, (val_eq 5 { x with gP := g } (fun j hj h1 hl => by rcases (by omega : j = 0 ∨ j = 1 ∨ j = 2 ∨ j = 3 ∨ j = 4 ∨ j = 6 ∨ j = 7) with rfl | rfl | rfl | rfl | rfl | rfl | rfl <;> first | rfl | (exact absurd hl (by rw [hLn 6 (by kernel_rfl)]; decide))) hLi), rfl, ⟨hS0.1.trans (hb2.mono hS0.1.size), hS0.2.below hb2⟩, ?_, ?_, fun _ => ⟨Nat.le_trans hS0.1.size hg, hG⟩⟩
          · rw [listed_ne (by decide)]; exact fun h => (hS3 h).below hb2
          · rw [listed_ne (by decide)]; exact fun h => own_blw (hS4 h) hb2
        · obtain rfl := Option.some.inj hop
          have e25 : ac.tmps[25]?.getD undef = .slice (some ⟨x.gP, 0, none⟩) js.length js.length := (Array.getD_eq_getD_getElem? ..).symm.trans (hdep 5 _ 25 (by kernel_rfl) rfl rfl)
          exact ⟨wanted_free rfl, .inl ⟨x, W, fun _ _ => rfl, by simp [execOp, Act.eval, e25, go_sem], K (by decide) (by decide) (by decide)⟩⟩
        · obtain rfl := Option.some.inj hop
          exact ⟨wanted_free rfl, .inl ⟨x, W, fun _ _ => rfl, by simp [execOp, Act.eval, go_sem], K (by decide) (by decide) (by decide)⟩⟩
    · cases hw
end
end Go.Proofs.YtejgpecmjfgfbaaDoor

namespace Go.Proofs.YtejgpecmjfgfbaaDoor
set_option linter.unusedSimpArgs false
set_option linter.unusedVariables false
open Go.RowKit
theorem tabTo_nil : ∀ (k i j : Nat), tabTo [] k i j = false
  | 0, i, j => by simp [tabTo, edB]
  | k + 1, i, j => by
    show (tabTo [] k i j || (tabTo [] k i k && tabTo [] k k j)) = false
    rw [tabTo_nil k i j, tabTo_nil k i k]; rfl
theorem mostTo_no (g : Nat → Int) (p : Nat → Bool) (h : ∀ i, p i = false) : ∀ k, mostTo g p k = 0
  | 0 => rfl
  | k + 1 => by rw [mostTo_succ, h k, mostTo_no g p h k]; rfl
def timesF (js : List J) : List Int := js.map (·.t)
theorem timesF_len (js : List J) : (timesF js).length = js.length := by unfold timesF; simp
theorem times_rk (js : List J) : timesF js = (List.range js.length).map (rkT js []) := by
  apply List.ext_getElem (by rw [timesF_len]; simp)
  intro i h1 h2
  have hi : i < js.length := by rw [timesF_len] at h1; exact h1
  have e1 : (timesF js)[i] = js[i].t := by simp [timesF]
  have e2 : ((List.range js.length).map (rkT js []))[i] = rkT js [] i := by simp
  rw [e1, e2]
  unfold rkT
  rw [if_pos hi]
  show _ = (js.getD i j0).t + mostTo _ _ _
  rw [mostTo_no _ (tabB js.length [] i) (fun k => tabTo_nil js.length i k), getD_at js j0 hi]
  omega
theorem times_step (js : List J) {k : Nat} (hk : k < js.length) : (timesF js).take (k + 1) = (timesF js).take k ++ [js[k].t] := by
  rw [List.take_succ_eq_append_getElem (by rw [timesF_len]; exact hk)]
  unfold timesF
  simp
set_option maxRecDepth 100000 in
set_option maxHeartbeats 2000000 in
theorem l5RestsF_any (A : Option Addr) (c : Nat) (js : List J) (w : World) (hr : Row w A (jc js)) (hn : js.length ≤ 1000) : Calls Tryd.prog 53 #[.slice A js.length c] w fun e w' => ∃ v, e = .returned v ∧ w'.ownsRow w.heap.size 3 1 v js.length (ic (timesF js)) ∧ Below w.heap.size w w' := by
  have hb0 := (Below.refl w.heap.size w).alloc (Nat.le_refl _) (.cells #[] 3)
  have h0 : (w.alloc (.cells #[] 3)).ownsRow w.heap.size 3 1 (.slice (some ⟨w.heap.size, 0, none⟩) 0 0) 0 (ic []) := World.ownsRow_made w #[] 0 (Nat.le_refl _) (by unfold maxLen; omega) rfl
  have H0 := Lib.hid (And.intro h0 hb0)
  have HR := Lib.hid hr
  have HTL : Hid (∀ k, k ≤ js.length → ((timesF js).take k).length = k) := fun k hk => by rw [List.length_take, timesF_len]; omega
  clear h0 hb0 hr
  go_enter Tryd.func53, Tryd.ntmps53
  go_wp2
  go_loopw [3, 4] (fun u i wr => ∃ (k : Nat) (U : Value), k ≤ js.length ∧ i = .int .i64 (k : Int) ∧ U = u ∧ Hid (wr.ownsRow w.heap.size 3 1 U ((timesF js).take k).length (ic ((timesF js).take k))) ∧ Hid (Below w.heap.size w wr)) (fun _ i _ => js.length - (intOf i).toNat)
  case atStart => exact ⟨0, _, Nat.zero_le _, rfl, rfl, H0.out.1, H0.out.2⟩
  case round =>
    obtain ⟨k, U, hk, rfl, rfl, hO, hb⟩ := hrel
    clear H0
    by_cases hlt : k < js.length
    · obtain ⟨ad, hA, _, hc, hx1, hx2, hx3⟩ := (HR.out.below hb.out).job hlt
      subst hA
      clear hx1 hx2 hx3
      obtain ⟨v', w3, hrun, hO3, hb3, _⟩ := pushI (w0 := w) hO.out hb.out js[k].t (by rw [HTL.out k hk]; omega)
      have HRUN := Lib.hid hrun
      rw [← times_step js hlt] at hO3
      have HY := Lib.hid (And.intro hO3 hb3)
      have hk0 : (0 : Int) ≤ k := by omega
      have hk1 : (k : Int) < js.length := by omega
      clear hrun hO3 hb3 hO hb
      generalize js[k].t = tk at *
      go_wp2_with (at_builtin; refine wpList_app rfl _ _ _ rfl _ _ _ rfl rfl HRUN.out ?_; clear HRUN)
      go_roundw
      case rel => exact ⟨k + 1, _, by omega, by go_num, rfl, HY.out.1, HY.out.2⟩
      case measure => simp [intOf]; omega
    · obtain rfl : k = js.length := by omega
      go_wp2
      go_ret
      have h := hO.out
      rw [HTL.out _ hk, List.take_of_length_le (by rw [timesF_len]; exact Nat.le_refl _)] at h
      exact ⟨U, rfl, h, hb.out⟩
theorem good_nil (js : List J) (m : Int) (h : goodL js = true) : precB js.length ([] : List Pr) = true → True := fun _ => trivial
def lfR (js : List J) (m : Int) : List Sp × Bool := tfR js m []
theorem lfR_len (js : List J) (m : Int) : (lfR js m).1.length ≤ 8 := tfR_len js m []
section
variable (A : Option Addr) (c : Nat) (js : List J) (m : Int) (w : World) (hr : Row w A (jc js)) (hn : js.length ≤ 10000000)
include hr hn
set_option maxRecDepth 100000 in
set_option maxHeartbeats 1000000 in
theorem spec_LongestFirst : Calls Tryd.prog 27 #[.slice A js.length c, .int .i64 m] w (RetTB w (lfR js m)) := by
  have HRR : Hid (lfR js m = if goodB js m [] then (listL js (tabB js.length []) (ordT js []) m.toNat, true) else ([], false)) := rfl
  have hb0 := (Below.refl w.heap.size w).alloc (Nat.le_refl _) (.cells #[] 50)
  have HG := Lib.hid (l7Good_any A (some ⟨w.heap.size, 0, none⟩) c 0 js m [] _ (hr.below hb0) (Row.nil _) hn (Nat.zero_le _))
  have HR := Lib.hid hr
  have HB0 := Lib.hid hb0
  clear hr hb0
  cases hg : goodB js m []
  · rw [hg] at HRR HG
    clear hg
    go_enter Tryd.func27, Tryd.ntmps27
    go_wp2_with fail
    refine HG.out.mono ?_
    rintro e w1 ⟨rfl, hb1⟩
    have HB := Lib.hid (HB0.out.trans (hb1.mono HB0.out.size))
    clear hb1
    go_wp2
    go_ret2
    exact ret_noplan HRR.out HB.out _ rfl
  · rw [hg] at HRR HG
    rw [if_pos rfl] at HRR
    obtain ⟨hok, h8, hirr, hE, _, _, hmm⟩ := good_parts hg
    obtain ⟨m1, m4⟩ := inB_out hmm
    obtain ⟨mm, rfl⟩ : ∃ mm : Nat, m = (mm : Int) := ⟨m.toNat, by omega⟩
    have HOL := Lib.hid (ordT_len js [])
    have HLL := Lib.hid (listL_len js (tabB js.length []) (ordT js []) mm)
    have HTL := Lib.hid (fun W (hb : Below w.heap.size w W) => l5RestsF_any A c js W (HR.out.below hb) (by omega))
    have HLI := Lib.hid (fun D b W (hb : Below w.heap.size w W) (ho : Row W D (ic (natI (ordT js [])))) => l7List_any A (some ⟨w.heap.size, 0, none⟩) D c 0 b js mm [] (ordT js []) W (HR.out.below hb) (Row.nil _) ho (Nat.zero_le _) hok h8 hirr hE ⟨by omega, by omega⟩ (ordT_perm js []))
    have HFA := Lib.hid (fun R cR W => l7Falling_any (rkT js []) R js.length cR W h8)
    rw [← times_rk] at HFA
    obtain ⟨RES, hRES⟩ : ∃ RES, listL js (tabB js.length []) (ordT js []) mm = RES := ⟨_, rfl⟩
    rw [show ((mm : Int)).toNat = mm from rfl, hRES] at HRR
    rw [hRES] at HLL HLI
    clear hg hRES hok hirr hE hmm
    go_enter Tryd.func27, Tryd.ntmps27
    go_wp2_with fail
    refine HG.out.mono ?_
    rintro e w1 ⟨rfl, hb1⟩
    have hbA := HB0.out.trans (hb1.mono HB0.out.size)
    have HT1 := Lib.hid (HTL.out w1 hbA)
    have HB1 := Lib.hid hbA
    clear hb1 hbA HG HTL
    go_wp2_with fail
    refine HT1.out.mono ?_
    rintro e w2 ⟨v, rfl, ho2, hb2⟩
    obtain ⟨Av, cv, rfl, _, hrow⟩ := own_slice ho2
    have HB2 := Lib.hid (HB1.out.trans (hb2.mono HB1.out.size))
    have HF1 := Lib.hid (HFA.out Av cv w2 hrow)
    clear hb2 ho2 hrow HT1 HB1 HFA
    go_wp2_with fail
    refine HF1.out.mono ?_
    rintro e w3 ⟨v3, rfl, ho3, hb3⟩
    obtain ⟨A3, c3, rfl, _, hrow3⟩ := own_slice ho3
    have HB3 := Lib.hid (HB2.out.trans (hb3.mono HB2.out.size))
    have hL3 := HLI.out A3 c3 w3 HB3.out hrow3
    rw [HOL.out] at hL3
    have HL3 := Lib.hid hL3
    clear hb3 ho3 hrow3 hL3 HF1 HB2 HLI
    go_wp2_with fail
    refine HL3.out.mono ?_
    rintro e w4 ⟨g, rfl, hgs, hP, hb4⟩
    have HF := Lib.hid (And.intro hP (And.intro (HB3.out.trans (hb4.mono HB3.out.size)) (Nat.le_trans HB3.out.size hgs)))
    clear hP hb4 hgs HL3
    go_wp2
    go_ret2
    have hfin := ret_plan HRR.out HF.out.2.2 HF.out.1 (by rw [HLL.out]; omega) HF.out.2.1 _ rfl
    rw [HLL.out] at hfin
    exact hfin
set_option maxRecDepth 100000 in
set_option maxHeartbeats 1000000 in
theorem impl_LongestFirst (hT : TzTab w) : Calls Tryd.prog 28 #[.slice A js.length c, .int .i64 m] w (RetTB w (lfR js m)) := by
  have HC := Lib.hid (impl_TailsFirst A none c 0 js m [] w hr (Row.nil _) hn (Nat.zero_le _) hT)
  have HRR : Hid (lfR js m = tfR js m []) := rfl
  clear hr hT
  generalize tfR js m [] = rr at *
  go_enter Tryd.func28, Tryd.ntmps28
  go_wp2_with fail
  refine HC.out.mono ?_
  rintro e w1 ⟨A1, c1, rfl, hs, hb⟩
  have HS := Lib.hid (And.intro hs hb)
  clear hs hb
  go_wp2
  go_ret2
  rw [HRR.out]
  exact ⟨A1, c1, rfl, HS.out.1, HS.out.2⟩
end
end Go.Proofs.YtejgpecmjfgfbaaDoor

namespace Go.Proofs.YtejgpecmjfgfbaaDoor
open Go.RowKit Go.ChangeShapes Go.WideShapes Go.Deep

section
variable {H : Type} {enc : TypeId × Value → H} {P : Program} {w : World} {base : Nat} {spare : Nat → Bool} {held : Bool}
theorem open_slice_array2 {t e k : TypeId} {fuel : Nat} {cs : List Value} {x : DataW H × List MemPlace} (ht : P.underlying t = some (.slice e)) (he : P.underlying e = some (.array 2 k))
    (hC : P.cellsOf e = 2) (hk : P.cellsOf k = 1) (h : DataW.trod enc P w base spare held fuel t cs = some x) :
    (cs = [.slice none 0 0]) ∨
    ∃ (a : Addr) (len cap m : Nat), cs = [.slice (some a) len cap] ∧ len ≤ cap ∧ cap ≤ maxLen ∧ len ≤ m ∧
      ∀ i, i < m → ∃ n : Nat, ∀ (j : Nat), j < 2 → ∃ (v : Value) (y : DataW H × List MemPlace), w.cell? (a.add (i * 2 + j)) = some v ∧ DataW.trod enc P w base spare held n k [v] = some y := by
  rcases open_slice ht h with ⟨h0, _⟩ | ⟨a, len, cap, m, n, D, Pl, hcs, hb, hl, hm, hmm, hx, hi⟩
  · exact .inl h0
  · refine .inr ⟨a, len, cap, m, hcs, hl, hm, by rw [hmm]; split <;> omega, fun i him => ?_⟩
    obtain ⟨cs', hc, ht'⟩ := hi i him
    rw [hC] at hc
    obtain ⟨ys, n', hn', hy, hlen, hyl, hf⟩ := DataW.trod_array he ht'
    obtain ⟨_, hcl, hat⟩ := World.cells?_some hc
    refine ⟨n', fun j hj => ?_⟩
    have hcell := hat j hj
    have hv : cs'[j]? = some (cs'[j]'(by omega)) := List.getElem?_eq_getElem (by omega)
    have h1 := hf j hj
    rw [hk, Nat.mul_one] at h1
    have hone' : (cs'.drop j).take 1 = [cs'[j]'(by omega)] := by
      rw [List.drop_eq_getElem_cons (by omega)]
      rfl
    rw [hone'] at h1
    have hys : ys[j]? = some (ys[j]'(by omega)) := List.getElem?_eq_getElem (by omega)
    refine ⟨_, _, ?_, h1.trans hys⟩
    rw [← Go.Deep.add_add, hcell, hv]
def wfPr (x : Pr) : Prop := (Lit.int .i64 x.1).wf = true ∧ (Lit.int .i64 x.2).wf = true
/-- A slice of pairs that came in. -/
def IsPairsA (w : World) (A : Option Addr) (len cap : Nat) (xs : List Pr) : Prop := xs.length = len ∧ len ≤ cap ∧ cap ≤ maxLen ∧ Row w A (pc xs) ∧ ∀ x ∈ xs, wfPr x
theorem pc_range (f : Nat → Pr) (n : Nat) (u : Value) (i : Nat) (h : (pc ((List.range n).map f))[i]? = some u) : i < n * 2 ∧ (cellsP (f (i / 2)))[i % 2]? = some u := by
  have hi : i < 2 * n := by
    have := (List.getElem?_eq_some_iff.1 h).1
    rw [pc_len] at this; simpa using this
  have hk : i / 2 < ((List.range n).map f).length := by simp; omega
  have := pc_get ((List.range n).map f) (i / 2) (i % 2) hk (by omega)
  rw [show i / 2 * 2 + i % 2 = i by omega, h] at this
  refine ⟨by omega, ?_⟩
  rw [this]
  simp
theorem open_pairs {t e k : TypeId} {fuel : Nat} {cs : List Value} {x : DataW H × List MemPlace} (ht : P.underlying t = some (.slice e)) (he : P.underlying e = some (.array 2 k))
    (hC : P.cellsOf e = 2) (hk : P.cellsOf k = 1) (i0 : P.underlying k = some (.int .i64))
    (h : DataW.trod enc P w base spare held fuel t cs = some x) : ∃ A len cap js, cs = [.slice A len cap] ∧ IsPairsA w A len cap js := by
  rcases open_slice_array2 ht he hC hk h with rfl | ⟨a, len, cap, m, rfl, hl, hm, hlm, hi⟩
  · exact ⟨none, 0, 0, [], rfl, rfl, Nat.le_refl _, Nat.zero_le _, Row.nil _, by simp⟩
  · have key : ∀ i : Nat, ∃ j : Pr, i < m → (w.cell? (a.add (i * 2 + 0)) = some (.int .i64 j.1) ∧ w.cell? (a.add (i * 2 + 1)) = some (.int .i64 j.2)) ∧ wfPr j := by
      intro i
      by_cases him : i < m
      · obtain ⟨n, hf⟩ := hi i him
        obtain ⟨v0, y0, c0, t0⟩ := hf 0 (by omega)
        obtain ⟨v1, y1, c1, t1⟩ := hf 1 (by omega)
        obtain ⟨n0, e0, _, w0⟩ := DataW.trod_int i0 t0
        obtain ⟨n1, e1, _, w1⟩ := DataW.trod_int i0 t1
        injection e0 with e0 _
        injection e1 with e1 _
        subst e0 e1
        exact ⟨(n0, n1), fun _ => ⟨⟨c0, c1⟩, w0, w1⟩⟩
      · exact ⟨(0, 0), fun h => absurd h him⟩
    obtain ⟨f, hf⟩ := Classical.axiomOfChoice key
    refine ⟨some a, len, cap, (List.range len).map f, rfl, by simp, hl, hm, fun hn => ?_, ?_⟩
    · rw [pc_len] at hn
      have h0 : 0 < len := by simpa using hn
      have hc0 := (hf 0 (by omega)).1.1
      have hb := lt_of_cell hc0
      rw [add_block] at hb
      refine ⟨a, rfl, hb, fun j u hu => ?_⟩
      obtain ⟨hj, hu'⟩ := pc_range f len u j hu
      obtain ⟨⟨c0, c1⟩, _⟩ := hf (j / 2) (by omega)
      have ej : a.add j = a.add (j / 2 * 2 + j % 2) := by rw [show j / 2 * 2 + j % 2 = j by omega]
      rw [ej]
      have h4 : j % 2 = 0 ∨ j % 2 = 1 := by omega
      rcases h4 with h4 | h4 <;> rw [h4] at hu' ⊢ <;> simp [cellsP] at hu' <;> subst hu' <;> assumption
    · intro j hj
      obtain ⟨i, hi, rfl⟩ := List.mem_map.1 hj
      exact (hf i (by have := List.mem_range.1 hi; omega)).2
end
theorem szIntA2S_any (A : Option Addr) (n c : Nat) (left : Int) (w : World) (hn : n ≤ maxLen) (h0 : 0 ≤ left) (h1 : left ≤ 1048576) :
    Calls Tryd.prog 12 #[.slice A n c, .int .i64 left] w fun e w' => ((e = .returned (.int .i64 (left - n)) ∧ (n : Int) ≤ left) ∨ (e = .returned (.int .i64 (-1)) ∧ left < n)) ∧ w = w' := by
  unfold maxLen at hn
  by_cases h : (n : Int) ≤ left
  · go_enter Tryd.func12, Tryd.ntmps12
    go_wp2
    go_ret
    first | exact ⟨.inl ⟨rfl, h⟩, rfl⟩ | exact ⟨.inl rfl, rfl⟩
  · go_enter Tryd.func12, Tryd.ntmps12
    go_wp2
    go_ret
    first | exact ⟨.inr ⟨rfl, by omega⟩, rfl⟩ | exact ⟨.inr rfl, rfl⟩
theorem argP_kinds : Tryd.prog.underlying 23 = some (.slice 50) ∧ Tryd.prog.underlying 50 = some (.array 2 3) ∧ Tryd.prog.cellsOf 50 = 2 ∧ Tryd.prog.cellsOf 3 = 1 :=
  ⟨Tryd.underlying23, Tryd.underlying50, by kernel_rfl, by kernel_rfl⟩
end Go.Proofs.YtejgpecmjfgfbaaDoor

namespace Go.Proofs.YtejgpecmjfgfbaaDoor
open Go.RowKit
theorem infoP2 : (Tryd.prog.info? 50).map (fun i => (i.zero, i.size, i.bytes)) = some (some (.agg #[.int .i64 0, .int .i64 0]), 2, 16) := by kernel_rfl
set_option maxRecDepth 100000 in
set_option maxHeartbeats 1000000 in
theorem toIntA2_any (x : Pr) (w : World) :
    Calls Tryd.prog 46 #[.agg #[.int .i64 x.1, .int .i64 x.2]] w fun e w' => e = .returned (.agg #[.int .i64 x.1, .int .i64 x.2]) ∧ Below w.heap.size w w' := by
  have b0 := (Below.refl w.heap.size w).alloc (Nat.le_refl _) (.cells #[.int .i64 x.1, .int .i64 x.2] 50)
  have b1 := b0.alloc b0.size (.cells #[.int .i64 0, .int .i64 0] 50)
  have b2 := b1.alloc b1.size (.cells #[.int .i64 0, .int .i64 0] 50)
  have e0 : (w.alloc (.cells #[.int .i64 x.1, .int .i64 x.2] 50)).heap.size = w.heap.size + 1 := by simp
  have e1 : ((w.alloc (.cells #[.int .i64 x.1, .int .i64 x.2] 50)).alloc (.cells #[.int .i64 0, .int .i64 0] 50)).heap.size = w.heap.size + 1 + 1 := by simp
  have h0 := ((BlockIs.new w 50 #[.int .i64 x.1, .int .i64 x.2]).below ((Below.refl _ _).alloc (Nat.le_refl _) (.cells #[.int .i64 0, .int .i64 0] 50))).below ((Below.refl _ _).alloc (Nat.le_refl _) (.cells #[.int .i64 0, .int .i64 0] 50))
  have h1 := (BlockIs.new (w.alloc (.cells #[.int .i64 x.1, .int .i64 x.2] 50)) 50 #[.int .i64 0, .int .i64 0]).below ((Below.refl _ _).alloc (Nat.le_refl _) (.cells #[.int .i64 0, .int .i64 0] 50))
  have h2 := BlockIs.new ((w.alloc (.cells #[.int .i64 x.1, .int .i64 x.2] 50)).alloc (.cells #[.int .i64 0, .int .i64 0] 50)) 50 #[.int .i64 0, .int .i64 0]
  rw [e0] at h1
  rw [e1] at h2
  have H := Lib.hid (And.intro h0 (And.intro h1 (And.intro h2 b2)))
  clear b0 b1 b2 e0 e1 h0 h1 h2
  go_enter Tryd.func46, Tryd.ntmps46
  go_wp2
  go_loopw [4] (fun i wr => ∃ (k : Nat) (u v : Int), k ≤ 2 ∧ i = .int .i64 (k : Int) ∧ Hid (1 ≤ k → u = x.1) ∧ Hid (2 ≤ k → v = x.2) ∧ BlockIs wr w.heap.size 50 #[.int .i64 x.1, .int .i64 x.2] ∧ BlockIs wr (w.heap.size + 1) 50 #[.int .i64 0, .int .i64 0] ∧ BlockIs wr (w.heap.size + 1 + 1) 50 #[.int .i64 u, .int .i64 v] ∧ Below w.heap.size w wr) (fun i _ => 2 - (intOf i).toNat)
  case atStart => exact ⟨0, 0, 0, by omega, rfl, fun h => by omega, fun h => by omega, H.out⟩
  case round =>
    obtain ⟨k, u, v, hk, rfl, hu, hv, h0, h1, h2, hb⟩ := hrel
    clear H
    have a0 := h0.cell 0
    have a1 := h0.cell 1
    have c0 := h2.cell 0
    have c1 := h2.cell 1
    have f0 := h2.frozen 0
    have f1 := h2.frozen 1
    have r0 := h1.cell 0
    have r1 := h1.cell 1
    have g0 := h1.frozen 0
    have g1 := h1.frozen 1
    simp only [List.getElem?_toArray, List.getElem?_cons_zero, List.getElem?_cons_succ] at a0 a1 c0 c1 r0 r1
    rcases (by omega : k = 0 ∨ k = 1 ∨ k = 2) with rfl | rfl | rfl
    · have H2 := Lib.hid (And.intro (h0.away (g' := w.heap.size + 1 + 1) (by omega) 0 (.int .i64 x.1)) (And.intro (h1.away (g' := w.heap.size + 1 + 1) (by omega) 0 (.int .i64 x.1)) (And.intro (h2.set 0 (.int .i64 x.1)) (hb.setCell (p := ⟨w.heap.size + 1 + 1, 0, none⟩) (by simp; omega) (.int .i64 x.1)))))
      clear h0 h1 h2 hb
      go_wp2
      go_roundw
      case rel => exact ⟨1, x.1, v, by omega, by go_num, fun _ => rfl, fun h => by omega, H2.out⟩
      case measure => simp [intOf]
    · have H2 := Lib.hid (And.intro (h0.away (g' := w.heap.size + 1 + 1) (by omega) 1 (.int .i64 x.2)) (And.intro (h1.away (g' := w.heap.size + 1 + 1) (by omega) 1 (.int .i64 x.2)) (And.intro (h2.set 1 (.int .i64 x.2)) (hb.setCell (p := ⟨w.heap.size + 1 + 1, 1, none⟩) (by simp; omega) (.int .i64 x.2)))))
      clear h0 h1 h2 hb
      go_wp2
      go_roundw
      case rel => exact ⟨2, u, x.2, by omega, by go_num, fun _ => hu.out (by omega), fun _ => rfl, H2.out⟩
      case measure => simp [intOf]
    · obtain rfl := hu.out (by omega)
      obtain rfl := hv.out (by omega)
      have H2 := Lib.hid (And.intro ((h1.set 0 (.int .i64 x.1)).set 1 (.int .i64 x.2)) ((hb.setCell (p := ⟨w.heap.size + 1, 0, none⟩) (by simp) (.int .i64 x.1)).setCell (p := ⟨w.heap.size + 1, 1, none⟩) (by simp) (.int .i64 x.2)))
      clear h0 h1 h2 hb
      go_wp2
      have hZ := H2.out.1
      generalize World.setCell _ _ _ = W at *
      have q0 := hZ.cell 0
      have q1 := hZ.cell 1
      simp at q0 q1
      exact bodyPost_ret (v := .agg #[.int .i64 x.1, .int .i64 x.2]) (by simp [results, Tryd.results46, q0, q1, go_sem]) rfl ⟨rfl, H2.out.2⟩
def set2 (cs : Array Value) (p : Nat) (x : Pr) : Array Value := (cs.setIfInBounds p (.int .i64 x.1)).setIfInBounds (p + 1) (.int .i64 x.2)
theorem set2_size (cs : Array Value) (p : Nat) (x : Pr) : (set2 cs p x).size = cs.size := by unfold set2; simp
theorem Upto.step2 {xs : List Pr} {k : Nat} {cs : Array Value} (h : Upto (pc xs) (k * 2) cs) (hk : k < xs.length) : Upto (pc xs) ((k + 1) * 2) (set2 cs (k * 2) xs[k]) := by
  have hl := pc_len xs
  have g0 : (pc xs)[k * 2]'(by omega) = .int .i64 xs[k].1 := by
    have := pc_get xs k 0 hk (by omega); rw [List.getElem?_eq_getElem (by omega)] at this; exact Option.some.inj this
  have g1 : (pc xs)[k * 2 + 1]'(by omega) = .int .i64 xs[k].2 := by
    have := pc_get xs k 1 hk (by omega); rw [List.getElem?_eq_getElem (by omega)] at this; exact Option.some.inj this
  have h1 := h.step (by omega)
  rw [g0] at h1
  have h2 := h1.step (by omega)
  rw [g1] at h2
  rw [show (k + 1) * 2 = k * 2 + 1 + 1 by omega]
  exact h2
theorem BlockIs.set2 {w : World} {g : Nat} {t : TypeId} {cs : Array Value} (h : BlockIs w g t cs) (p : Nat) (x : Pr) :
    BlockIs ((w.setCell ⟨g, p, none⟩ (.int .i64 x.1)).setCell ⟨g, p + 1, none⟩ (.int .i64 x.2)) g t (set2 cs p x) := (h.set p _).set (p + 1) _
theorem toIntA2S_any (A : Option Addr) (c : Nat) (xs : List Pr) (w : World) (hr : Row w A (pc xs)) (hn : xs.length ≤ 10000000) :
    Calls Tryd.prog 15 #[.slice A xs.length c] w fun e w' => ∃ g, e = .returned (.slice (some ⟨g, 0, none⟩) xs.length xs.length) ∧ w.heap.size ≤ g ∧ w'.ownsRow w.heap.size 50 2 (.slice (some ⟨g, 0, none⟩) xs.length xs.length) xs.length (pc xs) ∧ Below w.heap.size w w' := by
  have hmk := run_make_rows (P := Tryd.prog) 23 50 (.agg #[.int .i64 0, .int .i64 0]) 2 16 Tryd.underlying23 infoP2 .i64 .i64 xs.length (by omega) (by omega)
  go_enter Tryd.func15, Tryd.ntmps15
  go_wp2
  go_loopw [4] (fun i wr => ∃ (k : Nat) (cs : Array Value), k ≤ xs.length ∧ i = .int .i64 k ∧ BlockIs wr w.heap.size 50 cs ∧ Hid (Upto (pc xs) (k * 2) cs) ∧ Below w.heap.size w wr) (fun i _ => xs.length - (intOf i).toNat)
  case atStart =>
    exact ⟨0, _, Nat.zero_le _, rfl, BlockIs.new _ _ _, ⟨by rw [size_madeCells, pc_len]; omega, by omega⟩, (Below.refl _ _).alloc (Nat.le_refl _) _⟩
  case round =>
    obtain ⟨k, cs, hk, rfl, hB, hC, hb⟩ := hrel
    clear hmk
    by_cases hlt : k < xs.length
    · obtain ⟨ad, hA, hbl, hc0, hc1⟩ := (hr.below hb).pair hlt
      subst hA
      go_wp2_with fail
      refine (toIntA2_any xs[k] _).mono ?_
      rintro e w1 ⟨rfl, hb1⟩
      have hz : cs.size = 2 * xs.length := by rw [hC.out.1, pc_len]
      have hB1 := hB.below hb1
      obtain ⟨v0, hk0⟩ := hB1.has (i := k * 2) (by omega)
      obtain ⟨v1, hk1⟩ := hB1.has (i := k * 2 + 1) (by omega)
      have hf0 := hB1.frozen (k * 2)
      have hf1 := hB1.frozen (k * 2 + 1)
      have HC := Lib.hid (hC.out.step2 hlt)
      have HB := Lib.hid (hB1.set2 (k * 2) xs[k])
      have Hb := Lib.hid (hb.trans (hb1.mono hb.size))
      clear hz hB1 hB hC hb hb1 hr hc0 hc1
      generalize xs[k] = j at *
      go_wp2
      go_roundw
      case rel => exact ⟨k + 1, _, by omega, by go_num, HB.out, HC.out, (Hb.out.setCell (Nat.le_refl _) _).setCell (Nat.le_refl _) _⟩
      case measure => simp [intOf]; omega
    · go_wp2
      go_ret
      obtain rfl : k = xs.length := by omega
      refine ⟨_, rfl, Nat.le_refl _, ?_, hb⟩
      have hC' := hC.out
      rw [show xs.length * 2 = (pc xs).length by rw [pc_len]; omega] at hC'
      have hsz : cs.size = xs.length * 2 := by rw [hC'.1, pc_len]; omega
      have := hB.own (base := w.heap.size) (n := xs.length) (c := xs.length) (size := 2) (Nat.le_refl _) (by omega) (Nat.le_refl _) (by unfold maxLen; omega) (by omega)
      rwa [List.take_of_length_le (by simp [hsz]), hC'.all] at this
theorem toIntA2S_seg (A : Option Addr) (c : Nat) (xs : List Pr) (w : World) (hr : Row w A (pc xs)) (hn : xs.length ≤ 10000000) :
    Calls Tryd.prog 15 #[.slice A xs.length c] w fun e w' => ∃ g, e = .returned (.slice (some ⟨g, 0, none⟩) xs.length xs.length) ∧ Seg w' 50 2 w.heap.size w'.heap.size (some ⟨g, 0, none⟩) xs.length xs.length (pc xs) ∧ Below w.heap.size w w' :=
  (toIntA2S_any A c xs w hr hn).mono fun _ _ ⟨g, he, _, ho, hb⟩ => ⟨g, he, Seg.of_own ho, hb⟩
end Go.Proofs.YtejgpecmjfgfbaaDoor
