/- A list without one of its elements: the model's. -/
import Derived.Test.YtjnaicgmfnhjeaaOwnM
import Derived.Deep.RegionLaw
import Derived.Deep.RegionWith
namespace Go.Proofs.Ytjnaicgmfnhjeaa
open Go.RowKit
theorem step_append_at {P : Program} {ops : Array Oper} {o : Oper} {a : Act} {w w' : World} {K : Act → World → Prop} {Q : Exit → Act → World → Prop} {E : Prop} (hg : o.guard = none) (s x : Operand) (t : TypeId)
    (hop : o.op = Op.call { callee := Callee.builtin Builtin.append, args := #[s, x], argTypes := #[t, t] }) (v u r : Value) (hs : a.eval s = v) (hx : a.eval x = u) (hr : (Builtin.append_ #[t, t] o.type #[v, u]).run P w = .ok r w') (hK : K (a.put o.dst r) w') :
    if Region.wanted o (yielded ops a.tmps) = true then Oper.wp P o a w K Q else E := by
  have hw : Region.wanted o (yielded ops a.tmps) = true := by simp [Region.wanted, hg]
  rw [if_pos hw]
  unfold Oper.wp
  simp [execOp, hop, resolve, invoke, builtin, hs, hx, hr, Result.andThen]
  exact hK
theorem erase_cat (xs : List Int) (k : Nat) : ic (xs.take k) ++ ic (xs.drop (k + 1)) = ic (xs.eraseIdx k) := by
  unfold ic; rw [List.eraseIdx_eq_take_drop_succ, List.map_append]
section
variable (ad : Addr) (c : Nat) (xs : List Int) (k : Nat) (w : World) (hr : Row w (some ad) (ic xs)) (hn : xs.length ≤ 1000) (hc : xs.length ≤ c) (hk : k < xs.length)
include hr hn hc hk
set_option maxRecDepth 100000 in
set_option maxHeartbeats 1000000 in
theorem l3Without_any : Calls Try.prog 121 #[.slice (some ad) xs.length c, .int .i64 (k : Int)] w fun e w' => ∃ v, e = .returned v ∧ w'.ownsRow w.heap.size 3 1 v (xs.length - 1) (ic (xs.eraseIdx k)) ∧ Below w.heap.size w w' := by
  obtain ⟨i0, hi, hz0, hz1, hz2⟩ := info_parts infoI
  have hk0 : (0 : Int) ≤ k := by omega
  have hk1 : (k : Int) < xs.length := by omega
  have hk2 : (k : Int) ≤ (c : Int) := by omega
  have hk3 : k ≤ c := by omega
  have hk5 : (k : Int) ≤ (k : Int) + 1 := by omega
  have hk6 : k ≤ k + 1 := by omega
  have hk4 : k + 1 ≤ xs.length := by omega
  have hs := IntWalk.i64_in ((k : Int) + 1) (by omega)
  have HRUN : Hid (∀ (w1 : World) (ad' : Addr) (c' : Nat), Below w.heap.size w w1 → w1.ownsRow w.heap.size 3 1 (.slice (some ad') k c') k (ic (xs.take k)) → ∃ v w2, (Builtin.append_ #[23, 23] 23 #[.slice (some ad') k c', .slice (some (tailAd ad (k + 1) c)) (xs.length - (k + 1)) (c - (k + 1))]).run Try.prog w1 = .ok v w2 ∧ w2.ownsRow w.heap.size 3 1 v (xs.length - 1) (ic (xs.eraseIdx k)) ∧ Below w.heap.size w w2) := by
    intro w1 ad' c' hb hown
    obtain ⟨v, w2, hrun, hown2, hgr, _⟩ := run_append_own (P := Try.prog) w1 w.heap.size 23 23 3 i0 (.int .i64 0) 1 8 Try.underlying23 hi hz0 hz1 hz2 rfl (by decide) _ _ _ hown (tailAd ad (k + 1) c) (xs.length - (k + 1)) (c - (k + 1)) (ic (xs.drop (k + 1))) (by rw [ic_len]; simp) (tail_src (hr.below hb) hc) ic_one (by unfold maxLen; omega) (by omega) hb.size
    refine ⟨v, w2, hrun, ?_, hb.grown hgr hb.size (fun j hj => (hown.lt j hj).1)⟩
    rw [← erase_cat, show xs.length - 1 = k + (xs.length - (k + 1)) by omega]
    exact hown2
  have hk7 : (0 : Int) ≤ (k : Int) + 1 := by omega
  have hk8 : (k : Int) + 1 ≤ xs.length := by omega
  by_cases hcc : c = k + 1
  · have hta : tailAd ad (k + 1) c = ad := by unfold tailAd; rw [if_pos hcc]
    rw [hta, hcc, Nat.sub_self, show xs.length - (k + 1) = 0 by omega] at HRUN
    clear hta
    subst hcc
    go_enter Try.func121, Try.ntmps121
    go_wp2
    go_region_law (first
      | (refine step_append_at (by rfl) _ _ _ (by rfl) _ _ _ (by rfl) (by rfl) hrun ?_)
      | (go_simp; go_at_call 109; refine (own_part (w := w.drew) (k := k) (c := k + 1) hr.drew (by omega) (by omega)).mono ?_; rintro e w1 ⟨ad', c', rfl, hown, hb1⟩; obtain ⟨v2, w2, hrun, hown2, hb2⟩ := HRUN.out w1 ad' c' ⟨hb1.os, hb1.tape, hb1.output, hb1.size, hb1.block⟩ hown; have HF := Lib.hid (And.intro hown2 hb2); clear hown hb1 hown2 hb2))
    all_goals
      go_wp2
      go_ret
      exact ⟨_, rfl, HF.out⟩
  · have hta : tailAd ad (k + 1) c = ad.add (k + 1) := by unfold tailAd; rw [if_neg hcc]
    rw [hta] at HRUN
    clear hta
    go_enter Try.func121, Try.ntmps121
    go_wp2
    go_region_law (first
      | (refine step_append_at (by rfl) _ _ _ (by rfl) _ _ _ (by rfl) (by rfl) hrun ?_)
      | (go_simp; go_at_call 109; refine (own_part (w := w.drew) (k := k) (c := c) hr.drew (by omega) (by omega)).mono ?_; rintro e w1 ⟨ad', c', rfl, hown, hb1⟩; obtain ⟨v2, w2, hrun, hown2, hb2⟩ := HRUN.out w1 ad' c' ⟨hb1.os, hb1.tape, hb1.output, hb1.size, hb1.block⟩ hown; have HF := Lib.hid (And.intro hown2 hb2); clear hown hb1 hown2 hb2))
    all_goals
      go_wp2
      go_ret
      exact ⟨_, rfl, HF.out⟩
end
end Go.Proofs.Ytjnaicgmfnhjeaa
