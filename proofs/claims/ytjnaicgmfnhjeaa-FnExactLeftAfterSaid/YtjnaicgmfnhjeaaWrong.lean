/- IsRuledOrder: the model's and the program's. -/
import Derived.Test.YtjnaicgmfnhjeaaRuleS
import Derived.Test.YtjnaicgmfnhjeaaGrpP
namespace Go.Proofs.Ytjnaicgmfnhjeaa
open Go.RowKit
theorem isRule_of {js : List J} {ob : Int} (h : ruledB js ob = true) : isRule ob = true := by
  unfold ruledB at h
  simp only [Bool.and_eq_true] at h
  exact h.2.1
theorem wfind_none {p : Nat → Bool} {n : Nat} (h : ∀ i, i < n → p i = false) : (List.range n).find? p = none := by
  rw [List.find?_eq_none]
  intro i hi
  rw [h i (List.mem_range.1 hi)]; simp
theorem wfind_some {p : Nat → Bool} {k : Nat} (hp : p k = true) (hb : ∀ i, i < k → p i = false) : ∀ n, k < n → (List.range n).find? p = some k
  | 0, h => by omega
  | n + 1, h => by
    rw [List.range_succ, List.find?_append]
    by_cases e : k = n
    · subst e
      rw [wfind_none hb]
      simp [hp]
    · rw [wfind_some hp hb n (by omega)]; rfl
theorem wrong_none {ob : Int} {js : List J} {p : List Nat} (h : ∀ i, i < p.length - 1 → gapN ob js (p.getD i 0) (p.getD (i + 1) 0) ≤ 0) : wrongV ob js p = none :=
  wfind_none fun i hi => decide_eq_false (by have := h i hi; omega)
theorem wrong_some {ob : Int} {js : List J} {p : List Nat} {k : Nat} (hk : k < p.length - 1) (hp : 0 < gapN ob js (p.getD k 0) (p.getD (k + 1) 0)) (h : ∀ i, i < k → gapN ob js (p.getD i 0) (p.getD (i + 1) 0) ≤ 0) : wrongV ob js p = some k :=
  wfind_some (decide_eq_true hp) (fun i hi => decide_eq_false (by have := h i hi; omega)) _ hk
theorem noWrong_step {ob : Int} {js : List J} {p : List Nat} {k : Nat} (h : ∀ i, i < k → gapN ob js (p.getD i 0) (p.getD (i + 1) 0) ≤ 0) (hk : gapN ob js (p.getD k 0) (p.getD (k + 1) 0) ≤ 0) : ∀ i, i < k + 1 → gapN ob js (p.getD i 0) (p.getD (i + 1) 0) ≤ 0 := by
  intro i hi
  by_cases e : i = k
  · subst e; exact hk
  · exact h i (by omega)
def wrongN (ob : Int) (js : List J) (p : List Nat) : Int := match wrongV ob js p with
  | some k => (k : Int)
  | none => -1
def wrongP (ob : Int) (js : List J) (p : List Nat) : Int × Bool := match wrongV ob js p with
  | some k => ((k : Int), true)
  | none => (0, false)
set_option maxRecDepth 100000 in
set_option maxHeartbeats 1000000 in
theorem l3Wrong_any (A B : Option Addr) (c d : Nat) (js : List J) (p : List Nat) (ob : Int) (w : World) (hr : Row w A (jc js)) (hq : Row w B (ic (natI p))) (hok : ∀ j ∈ js, okJ j = true) (ho : isRule ob = true) (hp : ∀ j ∈ p, j < js.length) (hm : p.length ≤ 100000) :
    Calls Try.prog 151 #[.slice A js.length c, .slice B p.length d, .int .i64 ob] w fun e w' => e = .returned (.int .i64 (wrongN ob js p)) ∧ Below w.heap.size w w' := by
  go_enter Try.func151, Try.ntmps151
  go_wp2
  go_loopw [7] (fun i wr => ∃ k : Nat, k ≤ p.length ∧ i = .int .i64 k ∧ Hid (∀ i, i < k → gapN ob js (p.getD i 0) (p.getD (i + 1) 0) ≤ 0) ∧ Below w.heap.size w wr) (fun i _ => p.length - (intOf i).toNat)
  case atStart => exact ⟨0, Nat.zero_le _, rfl, fun _ h => absurd h (by omega), Below.refl _ _⟩
  case round =>
    obtain ⟨k, hk, rfl, hA, hb⟩ := hrel
    have HB := Lib.hid hb
    by_cases hlt : k + 1 < p.length
    · have hi0 : (0 : Int) ≤ k := by omega
      have hi1 : (k : Int) + 1 < p.length := by omega
      have hs := IntWalk.i64_in ((k : Int) + 1) (by omega)
      obtain ⟨ad, hB', hc0⟩ := (hq.below hb).nat (show k < p.length by omega)
      obtain ⟨ad', hB2, hc1⟩ := (hq.below hb).nat hlt
      subst hB'
      injection hB2 with hB2
      subst hB2
      rw [show ad.add (k + 1) = ⟨ad.block, ad.off + (k + 1), none⟩ by unfold Addr.add; simp] at hc1
      have e0 := getD_at p 0 (show k < p.length by omega)
      have e1 := getD_at p 0 hlt
      have l0 := hp _ (List.getElem_mem (show k < p.length by omega))
      have l1 := hp _ (List.getElem_mem hlt)
      have hgb : -2500 ≤ gapN ob js p[k] p[k + 1] ∧ gapN ob js p[k] p[k + 1] ≤ 2500 := gapJ_bd (getD_ok hok l0) (getD_ok hok l1)
      have HC := Lib.hid (l3Gap_any A c js ob wr.drew (hr.below hb).drew hok p[k] p[k + 1] l0 l1 ho)
      by_cases hg : 0 < gapN ob js p[k] p[k + 1]
      · have HN : Hid (wrongN ob js p = k) := by
          show _ = _
          unfold wrongN; rw [wrong_some (by omega) (by rw [e0, e1]; exact hg) hA.out]
        clear hA hr hq hb e0 e1 l0 l1
        generalize gapN ob js p[k] p[k + 1] = gg at *
        generalize p[k] = x at *
        generalize p[k + 1] = y at *
        go_wp2
        go_region_with (go_at_call 155; refine HC.out.mono ?_; rintro e w1 ⟨rfl, hb1⟩)
        all_goals
          go_wp2
          go_ret
          exact ⟨by rw [HN.out]; rfl, HB.out.trans ((⟨hb1.os, hb1.tape, hb1.output, hb1.size, hb1.block⟩ : Below wr.heap.size wr w1).mono HB.out.size)⟩
      · have HA := Lib.hid (noWrong_step hA.out (show gapN ob js (p.getD k 0) (p.getD (k + 1) 0) ≤ 0 by rw [e0, e1]; omega))
        clear hA hr hq hb e0 e1 l0 l1
        generalize gapN ob js p[k] p[k + 1] = gg at *
        generalize p[k] = x at *
        generalize p[k + 1] = y at *
        go_wp2
        go_region_with (go_at_call 155; refine HC.out.mono ?_; rintro e w1 ⟨rfl, hb1⟩)
        all_goals
          go_wp2
          go_roundw
          case rel => exact ⟨k + 1, by omega, by go_num, HA.out, HB.out.trans ((⟨hb1.os, hb1.tape, hb1.output, hb1.size, hb1.block⟩ : Below wr.heap.size wr w1).mono HB.out.size)⟩
          case measure => simp [intOf]; omega
    · have HN : Hid (wrongN ob js p = -1) := by
        show _ = _
        unfold wrongN; rw [wrong_none (fun i hi => hA.out i (by omega))]
      clear hA
      go_wp2
      go_ret
      exact ⟨by rw [HN.out]; rfl, HB.out⟩
section
variable {b : Nat} {A : Option Addr} {c : Nat} {js : List J} {ob : Int} (ho : isRule ob = true) (hg : goodL js = true)
include ho hg
theorem inverts_any (w : World) (hB : BlockIs w b 28 #[.slice A js.length c]) (hr : Row w A (jc js)) (x y : Nat) (hx : x < js.length) (hy : y < js.length) :
    Calls Try.prog 187 #[fRule ob b, .int .i64 (x : Int), .int .i64 (y : Int)] w fun e w' => e = .returned (.bool (decide (0 < gapN ob js x y))) ∧ ∃ m, w' = w.drewN m := by
  obtain ⟨f, hf, hcf, hcall⟩ := rule_call (b := b) (A := A) (c := c) ho hg
  have HC := Lib.hid (hcall w y x hB hr hy hx)
  have HD : Hid (decide (gapN ob js y x < 0) = decide (0 < gapN ob js x y)) := by
    show _ = _
    have := gapN_anti ob js x y
    rw [decide_eq_decide]; omega
  have hcf' := hcf #[.int .i64 (y : Int), .int .i64 (x : Int), .pointer (some ⟨b, 0, none⟩)]
  rw [hf]
  clear hB hcall hf hcf hr
  go_enter Try.func187, Try.ntmps187
  go_wp2_with fail
  refine HC.out.mono ?_
  rintro e w2 ⟨rfl, m2, rfl⟩
  go_wp2
  go_ret
  exact ⟨by rw [← HD.out]; rfl, _, rfl⟩
set_option maxRecDepth 100000 in
set_option maxHeartbeats 1000000 in
theorem nextInversion_any (w : World) (hB : BlockIs w b 28 #[.slice A js.length c]) (hr : Row w A (jc js)) (B : Option Addr) (d : Nat) (p : List Nat) (hq : Row w B (ic (natI p))) (hp : ∀ j ∈ p, j < js.length) (hm : p.length ≤ 100000) :
    Calls Try.prog 149 #[fRule ob b, .slice B p.length d] w fun e w' => e = .returned (.tuple #[.int .i64 (wrongP ob js p).1, .bool (wrongP ob js p).2]) ∧ ∃ m, w' = w.drewN m := by
  have HI : Hid (∀ (a : Nat) (x y : Nat), x < js.length → y < js.length → Calls Try.prog 187 #[fRule ob b, .int .i64 (x : Int), .int .i64 (y : Int)] (w.drewN a) fun e w' => e = .returned (.bool (decide (0 < gapN ob js x y))) ∧ ∃ m, w' = (w.drewN a).drewN m) := fun a x y hx hy => inverts_any ho hg (w.drewN a) (hB.drewN a) (hr.drewN a) x y hx hy
  clear hB hr
  generalize fRule ob b = fr at *
  go_enter Try.func149, Try.ntmps149
  go_wp2
  go_loopw [10] (fun i wr => ∃ k n : Nat, k ≤ p.length ∧ i = .int .i64 k ∧ Hid (∀ i, i < k → gapN ob js (p.getD i 0) (p.getD (i + 1) 0) ≤ 0) ∧ wr = w.drewN n) (fun i _ => p.length - (intOf i).toNat)
  case atStart => exact ⟨0, 0, Nat.zero_le _, rfl, fun _ h => absurd h (by omega), rfl⟩
  case round =>
    obtain ⟨k, n, hk, rfl, hA, rfl⟩ := hrel
    by_cases hlt : k + 1 < p.length
    · have hi0 : (0 : Int) ≤ k := by omega
      have hi1 : (k : Int) < (p.length : Int) - 1 := by omega
      have hi2 : (k : Int) + 1 < p.length := by omega
      have hi3 : (k : Int) < p.length := by omega
      have hi4 : (0 : Int) ≤ (k : Int) + 1 := by omega
      have hs := IntWalk.i64_in ((k : Int) + 1) (by omega)
      obtain ⟨ad, hB', hc0⟩ := hq.nat (show k < p.length by omega)
      obtain ⟨ad', hB2, hc1⟩ := hq.nat hlt
      subst hB'
      injection hB2 with hB2
      subst hB2
      rw [show ad.add (k + 1) = ⟨ad.block, ad.off + (k + 1), none⟩ by unfold Addr.add; simp] at hc1
      have hd0 : (w.drewN n).cell? (ad.add k) = some (.int .i64 ((p[k] : Nat) : Int)) := hc0
      have hd1 : (w.drewN n).cell? ⟨ad.block, ad.off + (k + 1), none⟩ = some (.int .i64 ((p[k + 1] : Nat) : Int)) := hc1
      have e0 := getD_at p 0 (show k < p.length by omega)
      have e1 := getD_at p 0 hlt
      have l0 := hp _ (List.getElem_mem (show k < p.length by omega))
      have l1 := hp _ (List.getElem_mem hlt)
      have HC : Hid (∀ a, Calls Try.prog 187 #[fr, .int .i64 (p[k] : Int), .int .i64 (p[k + 1] : Int)] (w.drewN a) fun e w' => e = .returned (.bool (decide (0 < gapN ob js p[k] p[k + 1]))) ∧ ∃ m, w' = (w.drewN a).drewN m) := fun a => HI.out a _ _ l0 l1
      by_cases hg' : 0 < gapN ob js p[k] p[k + 1]
      · have HN : Hid (wrongP ob js p = ((k : Int), true)) := by
          show _ = _
          unfold wrongP; rw [wrong_some (by omega) (by rw [e0, e1]; exact hg') hA.out]
        rw [decide_eq_true hg'] at HC
        clear hA hq e0 e1 l0 l1 hg'
        generalize p[k] = x at *
        generalize p[k + 1] = y at *
        go_wp2
        go_quiet ((go_at_call 187; exact quiet_in (HC.out _)))
        go_wp2
        go_ret2
        exact ⟨by rw [HN.out]; rfl, _, by rw [World.drewN_drewN]⟩
      · have HA := Lib.hid (noWrong_step hA.out (show gapN ob js (p.getD k 0) (p.getD (k + 1) 0) ≤ 0 by rw [e0, e1]; omega))
        rw [decide_eq_false hg'] at HC
        clear hA hq e0 e1 l0 l1 hg'
        generalize p[k] = x at *
        generalize p[k + 1] = y at *
        go_wp2
        go_quiet ((go_at_call 187; exact quiet_in (HC.out _)))
        go_wp2
        go_roundw
        case rel => exact ⟨k + 1, _, by omega, by go_num, HA.out, by first | rfl | rw [World.drewN_drewN]⟩
        case measure => simp [intOf]; omega
    · have HN : Hid (wrongP ob js p = (0, false)) := by
        show _ = _
        unfold wrongP; rw [wrong_none (fun i hi => hA.out i (by omega))]
      have hi1 : ¬ (k : Int) < (p.length : Int) - 1 := by omega
      clear hA
      go_wp2
      go_ret2
      exact ⟨by rw [HN.out]; rfl, _, rfl⟩
end
end Go.Proofs.Ytjnaicgmfnhjeaa
