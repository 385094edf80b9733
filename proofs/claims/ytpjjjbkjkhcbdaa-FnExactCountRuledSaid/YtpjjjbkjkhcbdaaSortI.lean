/- Sorting by a rule: the library's insertion sort. -/
import Derived.Test.YtpjjjbkjkhcbdaaWrong
import Derived.Test.YtpjjjbkjkhcbdaaSortM
import Derived.Test.YtpjjjbkjkhcbdaaOwnSS
import Derived.RegionTactic
import Derived.BigRegion
namespace Go.Proofs.Ytpjjjbkjkhcbdaa
open Go.RowKit
theorem cells_of {w : World} {g : Nat} {cur : Array Value} {n : Nat} {l : List Nat} (hB : BlockIs w g 3 cur) (ht : cur.toList.take n = ic (natI l)) {i x : Nat} (hi : l[i]? = some x) (hn : i < n) : w.cell? ⟨g, i, none⟩ = some (.int .i64 (x : Int)) := by
  rw [hB.cell]
  have h1 : (cur.toList.take n)[i]? = some (.int .i64 (x : Int)) := by
    rw [ht]; unfold ic natI
    simp [hi]
  rw [List.getElem?_take, if_pos hn, Array.getElem?_toList] at h1
  exact h1
theorem ic_setN (l : List Nat) (i x : Nat) : (ic (natI l)).set i (.int .i64 (x : Int)) = ic (natI (l.set i x)) := by
  unfold ic natI
  rw [List.map_set, List.map_set]; rfl
theorem grown_set {w w' : World} {g : Nat} (h : w.grownBy w' (some g)) (i : Nat) (v : Value) : w.grownBy (w'.setCell ⟨g, i, none⟩ v) (some g) := grown_setCell h i v
theorem grown_drew {w w' : World} {r : Option Nat} (h : w.grownBy w' r) (n : Nat) : w.grownBy (w'.drewN n) r := ⟨h.os, h.tape, h.output, h.size, h.block⟩
/-- What stands in the block while the sort runs. -/
def SortIs (w0 w : World) (g n : Nat) (sz : Nat) (l : List Nat) : Prop := ∃ cur, BlockIs w g 3 cur ∧ cur.size = sz ∧ cur.toList.take n = ic (natI l) ∧ w0.grownBy w (some g) ∧ w.heap.size = w0.heap.size
theorem SortIs.drew {w0 w : World} {g n sz : Nat} {l : List Nat} (h : SortIs w0 w g n sz l) (m : Nat) : SortIs w0 (w.drewN m) g n sz l := by
  obtain ⟨cur, h1, h2, h3, h4, h5⟩ := h
  exact ⟨cur, h1.drewN m, h2, h3, grown_drew h4 m, h5⟩
theorem SortIs.drew1 {w0 w : World} {g n sz : Nat} {l : List Nat} (h : SortIs w0 w g n sz l) : SortIs w0 w.drew g n sz l := by
  obtain ⟨cur, h1, h2, h3, h4, h5⟩ := h
  exact ⟨cur, h1.drew, h2, h3, ⟨h4.os, h4.tape, h4.output, h4.size, h4.block⟩, h5⟩
theorem SortIs.set {w0 w : World} {g n sz : Nat} {l : List Nat} (h : SortIs w0 w g n sz l) (i x : Nat) (hi : i < n) : SortIs w0 (w.setCell ⟨g, i, none⟩ (.int .i64 (x : Int))) g n sz (l.set i x) := by
  obtain ⟨cur, h1, h2, h3, h4, h5⟩ := h
  refine ⟨_, h1.set i _, by simpa using h2, ?_, grown_set h4 i _, by rw [← h5]; simp [World.setCell]⟩
  rw [take_setv h3 hi, ic_setN]
section
variable {ob : Int} {js : List J} {f : Nat} {b : Nat} {A : Option Addr} {c : Nat} (hcf : ∀ (args : Array Value) (w1 : World), (callFunc f args).run Try.prog w1 = .ok (.enter f args) w1)
  (hcall : ∀ (w : World) (i k : Nat), BlockIs w b 28 #[.slice A js.length c] → Row w A (jc js) → i < js.length → k < js.length → Calls Try.prog f #[.int .i64 (i : Int), .int .i64 (k : Int), .pointer (some ⟨b, 0, none⟩)] w fun e w' => e = .returned (.int .i64 (gapN ob js i k)) ∧ ∃ m, w' = w.drewN m) (hok : ∀ j ∈ js, okJ j = true)
include hcf hcall hok
set_option maxRecDepth 100000 in
set_option maxHeartbeats 4000000 in
theorem insSort_any (w : World) (hB : BlockIs w b 28 #[.slice A js.length c]) (hr : Row w A (jc js)) (g cs sz : Nat) (q : List Nat) (hq : ∀ x ∈ q, x < js.length) (hl : q.length ≤ 12) (hs : SortIs w w g q.length sz q) (hA : 0 < js.length → ∀ a, A = some a → a.block ≠ g) :
    Calls Try.prog 156 #[.slice (some ⟨g, 0, none⟩) q.length cs, .int .i64 0, .int .i64 (q.length : Int), .func (.func f) #[] #[.pointer (some ⟨b, 0, none⟩)]] w fun e w' => e = .returned (.tuple #[]) ∧ SortIs w w' g q.length sz (isortL ob js q) := by
  have hbg : b ≠ g := by
    obtain ⟨cur, h1, _⟩ := hs
    exact type_ne hB h1 (by decide)
  have HCW : Hid (∀ w' : World, w.grownBy w' (some g) → w'.heap.size = w.heap.size → BlockIs w' b 28 #[.slice A js.length c] ∧ Row w' A (jc js)) := fun w' hg hsz => by
    refine ⟨(hg.block b hB.lt (fun e => hbg (by injection e))).trans hB, fun h0 => ?_⟩
    obtain ⟨ad, h1, h2, h3⟩ := hr h0
    refine ⟨ad, h1, by omega, fun j u hu => ?_⟩
    have hc := h3 j u hu
    rw [← hc]
    have hbk : (ad.add j).block = ad.block := add_block ad j
    have hh := hg.block (ad.add j).block (by rw [hbk]; exact h2) (fun e => hA (by rw [jc_len] at h0; omega) ad h1 (by injection e with e; rw [hbk] at e; exact e))
    unfold World.cell?
    rw [hh]
  have HS0 : Hid (SortIs w w g q.length sz (isortTo ob js q 1 ++ q.drop 1)) := by show SortIs _ _ _ _ _ _; rw [isortTo_one]; exact hs
  have hcf' := hcf
  clear hcf hB hr hs
  go_enter Try.func156, Try.ntmps156
  go_wp2
  go_loopw [8] (fun i wr => ∃ k : Nat, 1 ≤ k ∧ k ≤ max q.length 1 ∧ i = .int .i64 (k : Int) ∧ Hid (SortIs w wr g q.length sz (isortTo ob js q k ++ q.drop k))) (fun i _ => q.length - (intOf i).toNat)
  case atStart => exact ⟨1, Nat.le_refl _, by omega, rfl, HS0⟩
  case round =>
    obtain ⟨k, hk1, hk2, rfl, HSk⟩ := hrel
    clear HS0
    by_cases hlt : k < q.length
    · have hol := isortTo_len ob js q (k := k) (by omega)
      have HINS := Lib.hid (isortTo_succ ob js q hlt)
      have hxl := hq _ (List.getElem_mem hlt)
      have hout : ∀ a ∈ isortTo ob js q k, a < js.length := fun a ha => isortTo_lt hq ha
      have HSO := Lib.hid (isortTo_sorted (ob := ob) hok hq k)
      have HD : Hid (q.drop k = q[k] :: q.drop (k + 1)) := List.drop_eq_getElem_cons hlt
      have hdl : (q.drop (k + 1)).length = q.length - (k + 1) := by simp
      generalize isortTo ob js q k = out at *
      generalize q[k] = x at *
      generalize hrst : q.drop (k + 1) = rest at *
      have HREST := Lib.hid hrst
      clear hrst
      have hol1 : out.length ≤ k := by omega
      have hol2 : k ≤ out.length := by omega
      have hrl : k + 1 + rest.length ≤ q.length := by omega
      have HST : Hid (SortIs w wr g q.length sz (midL out rest x k)) := by
        show SortIs _ _ _ _ _ _
        have h := HSk.out
        rw [HD.out] at h
        rwa [← hol, midL_start]
      have HOL := Lib.hid hol
      clear hol hdl HSk
      obtain ⟨wo, rfl⟩ : ∃ wo : World, wo = wr := ⟨_, rfl⟩
      go_wp2
      go_loopw [9] (fun jv wi => ∃ j : Nat, j ≤ k ∧ jv = .int .i64 (j : Int) ∧ Hid (SortIs w wi g q.length sz (midL out rest x j)) ∧ Hid (∀ i (h : i < out.length), j ≤ i → 0 < gapN ob js out[i] x)) (fun jv _ => (intOf jv).toNat)
      case atStart => exact ⟨k, Nat.le_refl _, rfl, HST, fun i h h' => absurd h (by omega)⟩
      case round =>
        obtain ⟨j, hj, rfl, HSJ, HG⟩ := hrel
        clear HST
        by_cases h0 : 0 < j
        · obtain ⟨m, rfl⟩ : ∃ m, j = m + 1 := ⟨j - 1, by omega⟩
          have hmo : m < out.length := by omega
          have hm0 : (0 : Int) ≤ m := by omega
          have hm1 : (m : Int) + 1 < q.length := by omega
          have hm2 : (m : Int) < q.length := by omega
          have hm3 : (0 : Int) ≤ (m : Int) + 1 := by omega
          have dd : decide ((0 : Int) < (m : Int) + 1) = true := decide_eq_true (by omega)
          have hw1 := IntWalk.i64_in (m : Int) (by omega)
          obtain ⟨cur, hB, hcs, htk, hgr, hhs⟩ := HSJ.out
          have c1 := cells_of hB htk (midL_at out rest x (j := m + 1) (by omega)) (by omega)
          have c0 := cells_of hB htk (midL_prev out rest x (j := m) hmo) (by omega)
          have HCC : Hid (∀ a, Calls Try.prog f #[.int .i64 (x : Int), .int .i64 (out[m] : Int), .pointer (some ⟨b, 0, none⟩)] (wr.drewN a) fun e w' => e = .returned (.int .i64 (gapN ob js x out[m])) ∧ ∃ q, w' = (wr.drewN a).drewN q) := fun a => hcall (wr.drewN a) x out[m] ((HCW.out wr hgr hhs).1.drewN a) ((HCW.out wr hgr hhs).2.drewN a) hxl (hout _ (List.getElem_mem hmo))
          have hgb : -2500 ≤ gapN ob js x out[m] ∧ gapN ob js x out[m] ≤ 2500 := gapJ_bd (getD_ok hok hxl) (getD_ok hok (hout _ (List.getElem_mem hmo)))
          by_cases hneg : gapN ob js x out[m] < 0
          · have HSW := Lib.hid (midL_swap out rest x hmo)
            have HG2 : Hid (∀ i (h : i < out.length), m ≤ i → 0 < gapN ob js out[i] x) := fun i h hmi => by
              by_cases e : i = m
              · subst e; have := gapN_anti ob js x out[i]; omega
              · exact HG.out i h (by omega)
            have hf1 := hB.frozen (m + 1)
            have hf0 := hB.frozen m
            clear hB hcs htk hgr hhs
            generalize gapN ob js x out[m] = gg at *
            generalize out[m] = y at *
            go_wp2
            go_quiet ((exact Calls.quiet_of (HCC.out _)))
            go_wp2
            go_region
            all_goals
              go_wp2
              go_roundw
              case rel =>
                have hz := ((HSJ.out.drew nq).set (m + 1) y (by omega)).set m x (by omega)
                rw [HSW.out] at hz
                exact ⟨m, by omega, by go_num, by first | exact hz | exact hz.drew1, HG2.out⟩
              case measure => simp [intOf]
          · have HF : Hid (isortTo ob js q (k + 1) ++ q.drop (k + 1) = midL out rest x (m + 1)) := by
              show _ = _
              rw [HINS.out, HREST.out, insN_back hok hxl hout HSO.out (k := m + 1) (by omega) (fun _ => by have := gapN_anti ob js x out[m]; show gapN ob js out[m] x ≤ 0; omega) HG.out]
              unfold midL; simp
            clear hB hcs htk hgr hhs
            generalize gapN ob js x out[m] = gg at *
            generalize out[m] = y at *
            go_wp2
            go_quiet ((exact Calls.quiet_of (HCC.out _)))
            go_wp2
            go_roundw
            case rel => exact ⟨k + 1, by omega, by omega, by go_num, by rw [HF.out]; exact HSJ.out.drew _⟩
            case measure => simp [intOf]; omega
        · have d0 : decide ((0 : Int) < (j : Int)) = false := decide_eq_false (by omega)
          have d1 : ¬ (0 : Int) < (j : Int) := by omega
          have HF : Hid (isortTo ob js q (k + 1) ++ q.drop (k + 1) = midL out rest x j) := by
            show _ = _
            rw [HINS.out, HREST.out, insN_back hok hxl hout HSO.out (k := j) (by omega) (fun h => absurd h h0) HG.out]
            unfold midL; simp
          go_wp2
          go_quiet (fail)
          go_wp2
          go_roundw
          case rel => exact ⟨k + 1, by omega, by omega, by go_num, by rw [HF.out]; exact HSJ.out.drew _⟩
          case measure => simp [intOf]; omega
    · go_wp2
      go_end0
      refine ⟨rfl, ?_⟩
      have h := HSk.out
      rwa [isortTo_all ob js q (by omega), List.drop_of_length_le (by omega), List.append_nil] at h
theorem stable_any (w : World) (hB : BlockIs w b 28 #[.slice A js.length c]) (hr : Row w A (jc js)) (g cs sz : Nat) (q : List Nat) (hq : ∀ x ∈ q, x < js.length) (hl : q.length ≤ 12) (hs : SortIs w w g q.length sz q) (hA : 0 < js.length → ∀ a, A = some a → a.block ≠ g) :
    Calls Try.prog 153 #[.slice (some ⟨g, 0, none⟩) q.length cs, .func (.func f) #[] #[.pointer (some ⟨b, 0, none⟩)]] w fun e w' => e = .returned (.tuple #[]) ∧ SortIs w w' g q.length sz (isortL ob js q) := by
  have HI := Lib.hid (insSort_any hcf hcall hok w hB hr g cs sz q hq hl hs hA)
  have hcf' := hcf
  clear hcf hB hr hs
  go_enter Try.func153, Try.ntmps153
  go_wp2
  refine wp_loop_rounds 1 ?_
  rw [rounds_succ]
  go_wp2_with fail
  refine HI.out.mono ?_
  rintro e w1 ⟨rfl, hs1⟩
  have HS := Lib.hid hs1
  clear hs1
  go_wp2
  refine wp_loop_rounds 1 ?_
  rw [rounds_succ]
  go_wp2
  go_end0
  go_wp2
  go_end0
  exact ⟨rfl, HS.out⟩
end
end Go.Proofs.Ytpjjjbkjkhcbdaa
