/- Inversions: the model's. -/
import Derived.Test.YtgiecjcgidgpfabWrongO
import Derived.Test.YtgiecjcgidgpfabGrpP
import Derived.Test.YtgiecjcgidgpfabPairs
import Derived.Test.YtgiecjcgidgpfabOwnSS
import Derived.Test.YtgiecjcgidgpfabOwnM
import Derived.Deep.RegionLaw
import Derived.Deep.RegionWith
namespace Go.Proofs.Ytgiecjcgidgpfab
open Go.RowKit
theorem step_append_run {P : Program} {ops : Array Oper} {o : Oper} {a : Act} {w w' : World} {K : Act → World → Prop} {Q : Exit → Act → World → Prop} {E : Prop} (hg : o.guard = none) (s x : Operand) (t : TypeId)
    (hop : o.op = Op.call { callee := Callee.builtin Builtin.append, args := #[s, x], argTypes := #[t, t] }) (v u r : Value) (hs : a.eval s = v) (hx : a.eval x = u) (hr : (Builtin.append_ #[t, t] o.type #[v, u]).run P w = .ok r w') (hK : K (a.put o.dst r) w') :
    if Region.wanted o (yielded ops a.tmps) = true then Oper.wp P o a w K Q else E := by
  have hw : Region.wanted o (yielded ops a.tmps) = true := by simp [Region.wanted, hg]
  rw [if_pos hw]
  unfold Oper.wp
  simp [execOp, hop, resolve, invoke, builtin, hs, hx, hr, Result.andThen]
  exact hK
theorem infoP : (Try.prog.info? 86).map (fun i => (i.zero, i.size, i.bytes)) = some (some (.agg #[.int .i64 0, .int .i64 0]), 2, 16) := by kernel_rfl
def prN (xs : List (Nat × Nat)) : List Pr := xs.map fun x => ((x.1 : Int), (x.2 : Int))
theorem prN_len (xs : List (Nat × Nat)) : (prN xs).length = xs.length := by unfold prN; simp
theorem prN_snoc (xs : List (Nat × Nat)) (x y : Nat) : pc (prN (xs ++ [(x, y)])) = pc (prN xs) ++ [.int .i64 (x : Int), .int .i64 (y : Int)] := by unfold prN; rw [List.map_append, List.map_cons, List.map_nil, pc_snoc]; rfl
/-- The inversions so far: those of the jobs ahead of place i, and of its own with the places ahead of k. -/
def invMid (ob : Int) (js : List J) (p : List Nat) (i k : Nat) : List (Nat × Nat) := invTo ob js p i ++ invAt ob js p i k
theorem invMid_start (ob : Int) (js : List J) (p : List Nat) (i : Nat) : invMid ob js p i (i + 1) = invTo ob js p i := by unfold invMid; rw [invAt_zero ob js p i (i + 1) (Nat.le_refl _), List.append_nil]
theorem invMid_end (ob : Int) (js : List J) (p : List Nat) (i : Nat) : invMid ob js p i p.length = invTo ob js p (i + 1) := by unfold invMid; rw [invTo_succ]
theorem invMid_yes {ob : Int} {js : List J} {p : List Nat} {i k : Nat} (h : i < k) (hg : 0 < gapN ob js (p.getD i 0) (p.getD k 0)) : invMid ob js p i (k + 1) = invMid ob js p i k ++ [(p.getD i 0, p.getD k 0)] := by unfold invMid; rw [invAt_succ ob js p i k h, if_pos hg, List.append_assoc]
theorem invMid_no {ob : Int} {js : List J} {p : List Nat} {i k : Nat} (h : i < k) (hg : ¬ 0 < gapN ob js (p.getD i 0) (p.getD k 0)) : invMid ob js p i (k + 1) = invMid ob js p i k := by unfold invMid; rw [invAt_succ ob js p i k h, if_neg hg]
theorem invMid_len (ob : Int) (js : List J) (p : List Nat) (i k : Nat) (hi : i ≤ 8) (hk : k ≤ 8) (hp : p.length ≤ 8) : (invMid ob js p i k).length ≤ 72 := by
  have h1 := invTo_len ob js p i
  have h2 := invAt_len ob js p i k
  have h3 : i * p.length ≤ 8 * 8 := Nat.mul_le_mul hi hp
  unfold invMid
  rw [List.length_append]; omega
section
variable (A B : Option Addr) (c d : Nat) (js : List J) (p : List Nat) (ob : Int) (w : World) (hr : Row w A (jc js)) (hq : Row w B (ic (natI p))) (hok : ∀ j ∈ js, okJ j = true) (ho : isRule ob = true) (hp : ∀ j ∈ p, j < js.length) (hm : p.length ≤ 8)
include hr hq hok ho hp hm
set_option maxRecDepth 100000 in
set_option maxHeartbeats 4000000 in
theorem l3Inversions_any : Calls Try.prog 73 #[.slice A js.length c, .slice B p.length d, .int .i64 ob] w fun e w' => ∃ v, e = .returned v ∧ w'.ownsRow w.heap.size 86 2 v (invL ob js p).length (pc (prN (invL ob js p))) ∧ Below w.heap.size w w' := by
  obtain ⟨i0, hi, hz0, hz1, hz2⟩ := info_parts infoP
  have hb0 := (Below.refl w.heap.size w).alloc (Nat.le_refl _) (.cells #[] 86)
  have hown0 : (w.alloc (.cells #[] 86)).ownsRow w.heap.size 86 2 (.slice (some ⟨w.heap.size, 0, none⟩) 0 0) 0 [] := World.ownsRow_made w #[] 0 (Nat.le_refl _) (by unfold maxLen; omega) rfl
  have H0 := Lib.hid (And.intro hown0 hb0)
  clear hown0 hb0
  go_enter Try.func73, Try.ntmps73
  go_wp2
  go_loopw [7, 8] (fun v iv wr => ∃ i : Nat, i ≤ p.length ∧ iv = .int .i64 (i : Int) ∧ Hid (wr.ownsRow w.heap.size 86 2 v (invTo ob js p i).length (pc (prN (invTo ob js p i)))) ∧ Hid (Below w.heap.size w wr)) (fun _ iv _ => p.length - (intOf iv).toNat)
  case atStart => exact ⟨0, Nat.zero_le _, rfl, H0.out.1, H0.out.2⟩
  case round =>
    obtain ⟨i, hil, rfl, HO, HW⟩ := hrel
    clear H0
    by_cases hlt : i < p.length
    · have hi0 : (0 : Int) ≤ i := by omega
      have hi1 : (i : Int) < p.length := by omega
      have HO1 : Hid (wr.ownsRow w.heap.size 86 2 u7 (invMid ob js p i (i + 1)).length (pc (prN (invMid ob js p i (i + 1))))) := by
        show World.ownsRow _ _ _ _ _ _ _
        rw [invMid_start]; exact HO.out
      clear HO
      obtain ⟨wo, rfl⟩ : ∃ wo : World, wo = wr := ⟨_, rfl⟩
      go_wp2
      go_loopw [7, 9] (fun v kv wi => ∃ k : Nat, i < k ∧ k ≤ p.length ∧ kv = .int .i64 (k : Int) ∧ Hid (wi.ownsRow w.heap.size 86 2 v (invMid ob js p i k).length (pc (prN (invMid ob js p i k)))) ∧ Hid (Below w.heap.size w wi)) (fun _ kv _ => p.length - (intOf kv).toNat)
      case atStart => exact ⟨i + 1, by omega, by omega, by go_num, HO1, HW⟩
      case round =>
        obtain ⟨k, hik, hkl, rfl, HOk, HWk⟩ := hrel
        clear HO1
        by_cases hlk : k < p.length
        · have hk0 : (0 : Int) ≤ k := by omega
          have hk1 : (k : Int) < p.length := by omega
          obtain ⟨ad, hB', hc0⟩ := (hq.below HWk.out).nat hlt
          obtain ⟨ad', hB2, hc1⟩ := (hq.below HWk.out).nat hlk
          subst hB'
          injection hB2 with hB2
          subst hB2
          have e0 := getD_at p 0 hlt
          have e1 := getD_at p 0 hlk
          have l0 := hp _ (List.getElem_mem hlt)
          have l1 := hp _ (List.getElem_mem hlk)
          have hgb : -2500 ≤ gapN ob js p[i] p[k] ∧ gapN ob js p[i] p[k] ≤ 2500 := gapJ_bd (getD_ok hok l0) (getD_ok hok l1)
          have HC := Lib.hid (l3Gap_any A c js ob wr.drew (hr.below HWk.out).drew hok p[i] p[k] l0 l1 ho)
          have hlen := invMid_len ob js p i k (by omega) (by omega) hm
          have hadb : ad.block < wr.heap.size := by
            obtain ⟨a', h1, h2, _⟩ := (hq.below HWk.out) (by rw [ic_len]; simp; omega)
            injection h1 with h1; subst h1; exact h2
          have hbi : (ad.add i).block < wr.heap.size := by rw [add_block]; exact hadb
          have hbk : (ad.add k).block < wr.heap.size := by rw [add_block]; exact hadb
          by_cases hg : 0 < gapN ob js p[i] p[k]
          · have HN := Lib.hid (invMid_yes (ob := ob) (js := js) (p := p) hik (by rw [e0, e1]; exact hg))
            rw [e0, e1] at HN
            clear e0 e1 l0 l1
            generalize gapN ob js p[i] p[k] = gg at *
            generalize p[i] = x at *
            generalize p[k] = y at *
            go_wp2
            go_region_with (go_at_call 63; refine HC.out.mono ?_; rintro e w5 ⟨rfl, hb5⟩)
            all_goals
              have hb5' : Below wr.heap.size wr w5 := ⟨hb5.os, hb5.tape, hb5.output, hb5.size, hb5.block⟩
              have hd0 : w5.cell? (ad.add i) = some (.int .i64 (x : Int)) := by rw [hb5'.cell hbi]; exact hc0
              have hd1 : w5.cell? (ad.add k) = some (.int .i64 (y : Int)) := by rw [hb5'.cell hbk]; exact hc1
              have hbi5 : (ad.add i).block < w5.heap.size := Nat.lt_of_lt_of_le hbi hb5'.size
              have hbk5 : (ad.add k).block < w5.heap.size := Nat.lt_of_lt_of_le hbk hb5'.size
              have ho5 := own_blw HOk.out hb5'
              have hw5 := HWk.out.trans (hb5'.mono HWk.out.size)
              have ho6 := ho5.alloc (.cells #[.int .i64 (x : Int), .int .i64 (y : Int)] 86)
              have hsrc := row_src (Row.new w5 86 #[.int .i64 (x : Int), .int .i64 (y : Int)])
              have hsz5 : w.heap.size ≤ w5.heap.size := hw5.size
              obtain ⟨v6, w6, hrun, hown6, hgr6, _⟩ := append_at (P := Try.prog) (w5.alloc (.cells #[.int .i64 (x : Int), .int .i64 (y : Int)] 86)).drew w.heap.size 49 49 86 i0 (.agg #[.int .i64 0, .int .i64 0]) 2 16 Try.underlying49 hi hz0 hz1 hz2 rfl (by decide) _ _ _ ho6.drew ⟨w5.heap.size, 0, none⟩ 1 1 [.int .i64 (x : Int), .int .i64 (y : Int)] rfl hsrc (by intro u hu; simp at hu; rcases hu with rfl | rfl <;> rfl) (by omega) (by unfold maxLen; omega) (by omega) (by simp; omega)
              have HRUN := Lib.hid hrun
              rw [← prN_snoc, ← HN.out] at hown6
              have hb6 : Below w.heap.size w w6 := (hw5.alloc hsz5 (.cells #[.int .i64 (x : Int), .int .i64 (y : Int)] 86)).drew.grown hgr6 (by simp; omega) (fun j hj => (ho5.lt j hj).1)
              have hln : (invMid ob js p i (k + 1)).length = (invMid ob js p i k).length + 1 := by rw [HN.out]; simp
              rw [← hln] at hown6
              have HF := Lib.hid (And.intro hown6 hb6)
              clear hrun hown6 hgr6 hb6 hln ho5 ho6 hw5 hb5 hb5' hc0 hc1 HC hsrc HOk
              go_wp2
              go_region_law (refine step_append_run rfl _ _ _ rfl _ _ _ rfl rfl HRUN.out ?_)
              all_goals
                go_wp2
                go_roundw
                case rel => exact ⟨k + 1, by omega, by omega, by go_num, HF.out.1, HF.out.2⟩
                case measure => simp [intOf]; omega
          · have HN := Lib.hid (invMid_no (ob := ob) (js := js) (p := p) hik (by rw [e0, e1]; exact hg))
            clear e0 e1 l0 l1
            generalize gapN ob js p[i] p[k] = gg at *
            generalize p[i] = x at *
            generalize p[k] = y at *
            go_wp2
            go_region_with (go_at_call 63; refine HC.out.mono ?_; rintro e w5 ⟨rfl, hb5⟩)
            all_goals
              have hb5' : Below wr.heap.size wr w5 := ⟨hb5.os, hb5.tape, hb5.output, hb5.size, hb5.block⟩
              have HF := Lib.hid (And.intro (own_blw HOk.out hb5') (HWk.out.trans (hb5'.mono HWk.out.size)))
              clear hb5 hb5' HOk HC
              go_wp2
              go_roundw
              case rel => exact ⟨k + 1, by omega, by omega, by go_num, by rw [HN.out]; exact HF.out.1, HF.out.2⟩
              case measure => simp [intOf]; omega
        · obtain rfl : k = p.length := by omega
          have HF : Hid (wr.ownsRow w.heap.size 86 2 u7 (invTo ob js p (i + 1)).length (pc (prN (invTo ob js p (i + 1))))) := by
            show World.ownsRow _ _ _ _ _ _ _
            rw [← invMid_end]; exact HOk.out
          go_wp2
          go_roundw
          case rel => exact ⟨i + 1, by omega, by go_num, HF, HWk⟩
          case measure => simp [intOf]; omega
    · obtain rfl : i = p.length := by omega
      go_wp2
      go_ret
      exact ⟨_, rfl, HO.out, HW.out⟩
end
end Go.Proofs.Ytgiecjcgidgpfab
