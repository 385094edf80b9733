/- Rules: what the program makes of an objective's number, and what its rule tells of two jobs. -/
import Derived.Test.YtpjjjbkjkhcbdaaPlain
import Derived.Test.YtpjjjbkjkhcbdaaEndsO
import Derived.IntWalk
namespace Go.Proofs.Ytpjjjbkjkhcbdaa
open Go.RowKit
def fRuleN (ob : Int) : Nat := if ob = 1 then 141 else if ob = 2 then 143 else if ob = 3 then 144 else 145
def fRule (ob : Int) (b : Nat) : Value := .func (.func (fRuleN ob)) #[] #[.pointer (some ⟨b, 0, none⟩)]
section
variable (b : Nat) (A : Option Addr) (c : Nat) (js : List J) (w : World) (hB : BlockIs w b 28 #[.slice A js.length c]) (hr : Row w A (jc js)) (hg : ∀ j ∈ js, okJ j = true) (i k : Nat) (hi : i < js.length) (hk : k < js.length)
include hB hr hg hi hk
theorem gap1_call : Calls Try.prog 141 #[.int .i64 (i : Int), .int .i64 (k : Int), .pointer (some ⟨b, 0, none⟩)] w fun e w' => e = .returned (.int .i64 (gapN 1 js i k)) ∧ ∃ m, w' = w.drewN m := by
  obtain ⟨ad, rfl, _, a0, a1, a2, a3⟩ := hr.job hi
  obtain ⟨ad', hA', _, b0, b1, b2, b3⟩ := hr.job hk
  injection hA' with hA'
  subst hA'
  have hc := hB.cell 0
  simp at hc
  obtain ⟨_, _, _, _, x5, x6, _, _⟩ := okJ_out (hg _ (List.getElem_mem hi))
  obtain ⟨_, _, _, _, y5, y6, _, _⟩ := okJ_out (hg _ (List.getElem_mem hk))
  have HG : Hid (gapN 1 js i k = js[i].r - js[k].r) := by show _ = _; unfold gapN gapJ; rw [getD_at js j0 hi, getD_at js j0 hk]; rfl
  have hi0 : (0 : Int) ≤ i := by omega
  have hi1 : (i : Int) < js.length := by omega
  have hk0 : (0 : Int) ≤ k := by omega
  have hk1 : (k : Int) < js.length := by omega
  clear hB hr hg
  generalize js[i] = x at *
  generalize js[k] = y at *
  have hs := IntWalk.i64_in (x.r - y.r) (by omega)
  go_enter Try.func141, Try.ntmps141
  go_wp2
  go_quiet (fail)
  go_wp2
  go_ret
  exact ⟨by rw [HG.out]; rfl, _, rfl⟩
theorem gap2_call : Calls Try.prog 143 #[.int .i64 (i : Int), .int .i64 (k : Int), .pointer (some ⟨b, 0, none⟩)] w fun e w' => e = .returned (.int .i64 (gapN 2 js i k)) ∧ ∃ m, w' = w.drewN m := by
  obtain ⟨ad, rfl, _, a0, a1, a2, a3⟩ := hr.job hi
  obtain ⟨ad', hA', _, b0, b1, b2, b3⟩ := hr.job hk
  injection hA' with hA'
  subst hA'
  have hc := hB.cell 0
  simp at hc
  obtain ⟨x1, x2, _, _, _, _, _, _⟩ := okJ_out (hg _ (List.getElem_mem hi))
  obtain ⟨y1, y2, _, _, _, _, _, _⟩ := okJ_out (hg _ (List.getElem_mem hk))
  have HG : Hid (gapN 2 js i k = js[i].t - js[k].t) := by show _ = _; unfold gapN gapJ; rw [getD_at js j0 hi, getD_at js j0 hk]; rfl
  have hi0 : (0 : Int) ≤ i := by omega
  have hi1 : (i : Int) < js.length := by omega
  have hk0 : (0 : Int) ≤ k := by omega
  have hk1 : (k : Int) < js.length := by omega
  clear hB hr hg
  generalize js[i] = x at *
  generalize js[k] = y at *
  have hs := IntWalk.i64_in (x.t - y.t) (by omega)
  go_enter Try.func143, Try.ntmps143
  go_wp2
  go_quiet (fail)
  go_wp2
  go_ret
  exact ⟨by rw [HG.out]; rfl, _, rfl⟩
theorem gap3_call : Calls Try.prog 144 #[.int .i64 (i : Int), .int .i64 (k : Int), .pointer (some ⟨b, 0, none⟩)] w fun e w' => e = .returned (.int .i64 (gapN 3 js i k)) ∧ ∃ m, w' = w.drewN m := by
  obtain ⟨ad, rfl, _, a0, a1, a2, a3⟩ := hr.job hi
  obtain ⟨ad', hA', _, b0, b1, b2, b3⟩ := hr.job hk
  injection hA' with hA'
  subst hA'
  have hc := hB.cell 0
  simp at hc
  obtain ⟨x1, x2, x3, x4, _, _, _, _⟩ := okJ_out (hg _ (List.getElem_mem hi))
  obtain ⟨y1, y2, y3, y4, _, _, _, _⟩ := okJ_out (hg _ (List.getElem_mem hk))
  have HG : Hid (gapN 3 js i k = js[i].t * js[k].w - js[k].t * js[i].w) := by show _ = _; unfold gapN gapJ; rw [getD_at js j0 hi, getD_at js j0 hk]; rfl
  have hi0 : (0 : Int) ≤ i := by omega
  have hi1 : (i : Int) < js.length := by omega
  have hk0 : (0 : Int) ≤ k := by omega
  have hk1 : (k : Int) < js.length := by omega
  clear hB hr hg
  generalize js[i] = x at *
  generalize js[k] = y at *
  have m1 := mul50 (by omega) x2 y3 y4
  have m2 := mul50 (by omega) y2 x3 x4
  have hs := IntWalk.i64_in (x.t * y.w - y.t * x.w) (by omega)
  have hs1 := IntWalk.i64_in (x.t * y.w) (by omega)
  have hs2 := IntWalk.i64_in (y.t * x.w) (by omega)
  go_enter Try.func144, Try.ntmps144
  go_wp2
  go_quiet (fail)
  go_wp2
  go_ret
  exact ⟨by rw [HG.out]; rfl, _, rfl⟩
theorem gap4_call : Calls Try.prog 145 #[.int .i64 (i : Int), .int .i64 (k : Int), .pointer (some ⟨b, 0, none⟩)] w fun e w' => e = .returned (.int .i64 (gapN 4 js i k)) ∧ ∃ m, w' = w.drewN m := by
  obtain ⟨ad, rfl, _, a0, a1, a2, a3⟩ := hr.job hi
  obtain ⟨ad', hA', _, b0, b1, b2, b3⟩ := hr.job hk
  injection hA' with hA'
  subst hA'
  have hc := hB.cell 0
  simp at hc
  obtain ⟨_, _, _, _, _, _, x7, x8⟩ := okJ_out (hg _ (List.getElem_mem hi))
  obtain ⟨_, _, _, _, _, _, y7, y8⟩ := okJ_out (hg _ (List.getElem_mem hk))
  have HG : Hid (gapN 4 js i k = js[i].d - js[k].d) := by show _ = _; unfold gapN gapJ; rw [getD_at js j0 hi, getD_at js j0 hk]; rfl
  have hi0 : (0 : Int) ≤ i := by omega
  have hi1 : (i : Int) < js.length := by omega
  have hk0 : (0 : Int) ≤ k := by omega
  have hk1 : (k : Int) < js.length := by omega
  clear hB hr hg
  generalize js[i] = x at *
  generalize js[k] = y at *
  have hs := IntWalk.i64_in (x.d - y.d) (by omega)
  go_enter Try.func145, Try.ntmps145
  go_wp2
  go_quiet (fail)
  go_wp2
  go_ret
  exact ⟨by rw [HG.out]; rfl, _, rfl⟩
end
theorem isRule_out {o : Int} (h : isRule o = true) : o = 1 ∨ o = 2 ∨ o = 3 ∨ o = 4 := by
  have := of_decide_eq_true h
  omega
/-- What a rule's function is, and what it tells of two jobs. -/
theorem rule_call {b : Nat} {A : Option Addr} {c : Nat} {js : List J} {ob : Int} (ho : isRule ob = true) (hg : goodL js = true) :
    ∃ (f : Nat), fRule ob b = .func (.func f) #[] #[.pointer (some ⟨b, 0, none⟩)] ∧ (∀ (args : Array Value) (w1 : World), (callFunc f args).run Try.prog w1 = .ok (.enter f args) w1) ∧
      ∀ (w : World) (i k : Nat), BlockIs w b 28 #[.slice A js.length c] → Row w A (jc js) → i < js.length → k < js.length →
        Calls Try.prog f #[.int .i64 (i : Int), .int .i64 (k : Int), .pointer (some ⟨b, 0, none⟩)] w fun e w' => e = .returned (.int .i64 (gapN ob js i k)) ∧ ∃ m, w' = w.drewN m := by
  obtain ⟨_, hok⟩ := good_out hg
  rcases isRule_out ho with rfl | rfl | rfl | rfl
  · exact ⟨_, rfl, fun _ _ => by kernel_rfl, fun w i k hB hr hi hk => gap1_call b A c js w hB hr hok i k hi hk⟩
  · exact ⟨_, rfl, fun _ _ => by kernel_rfl, fun w i k hB hr hi hk => gap2_call b A c js w hB hr hok i k hi hk⟩
  · exact ⟨_, rfl, fun _ _ => by kernel_rfl, fun w i k hB hr hi hk => gap3_call b A c js w hB hr hok i k hi hk⟩
  · exact ⟨_, rfl, fun _ _ => by kernel_rfl, fun w i k hB hr hi hk => gap4_call b A c js w hB hr hok i k hi hk⟩
/-- What ruleOf hands back. -/
def RuleOut (A : Option Addr) (c : Nat) (js : List J) (ob : Int) (w : World) (e : Ending) (w' : World) : Prop :=
  Below w.heap.size w w' ∧ ((ruledB js ob = false ∧ e = .returned (.tuple #[.nilFunc, .bool false])) ∨ (ruledB js ob = true ∧ ∃ b, e = .returned (.tuple #[fRule ob b, .bool true]) ∧ BlockIs w' b 28 #[.slice A js.length c] ∧ w.heap.size ≤ b))
theorem ruled_bad {js : List J} {ob : Int} (h : goodL js = false) : ruledB js ob = false := by unfold ruledB; rw [h]; rfl
theorem ruled_one {js : List J} (h : goodL js = true) : ruledB js 1 = true := by unfold ruledB; rw [h]; rfl
theorem ruled_not {js : List J} {ob : Int} (h : isRule ob = false) : ruledB js ob = false := by unfold ruledB; rw [h, Bool.false_and, Bool.and_false]
theorem ruled_ne {js : List J} {ob : Int} (h : ob ≠ 1) (hp : plainL js = false) : ruledB js ob = false := by
  unfold plainL at hp
  unfold ruledB
  rw [decide_eq_false h, Bool.false_or]
  cases hg : goodL js
  · rfl
  · rw [hg, Bool.true_and] at hp; rw [hp, Bool.and_false]; rfl
section
variable (A : Option Addr) (c : Nat) (js : List J) (ob : Int) (w : World) (hr : Row w A (jc js)) (hn : js.length ≤ 10000000)
include hr hn
set_option maxRecDepth 100000 in
set_option maxHeartbeats 1000000 in
theorem ruleOf_any : Calls Try.prog 99 #[.slice A js.length c, .int .i64 ob] w (RuleOut A c js ob w) := by
  have hB0 := BlockIs.new w 28 #[.slice A js.length c]
  have hb0 := (Below.refl w.heap.size w).alloc (Nat.le_refl _) (.cells #[.slice A js.length c] 28)
  have hc0 := hB0.cell 0
  simp at hc0
  have H0 := Lib.hid (And.intro hB0 (And.intro hb0 (hr.below hb0)))
  clear hB0 hb0
  by_cases h1 : ob = 1
  · subst h1
    cases hgd : goodL js
    · have hpl : plainL js = false := by unfold plainL; rw [hgd]; rfl
      have HR := Lib.hid (ruled_bad (ob := 1) hgd)
      go_enter Try.func99, Try.ntmps99
      go_wp2_with fail
      refine (IsJobs_any A c js _ H0.out.2.2 (by omega)).mono ?_
      rintro e w1 ⟨rfl, hb1⟩
      rw [hgd]
      have H1 := Lib.hid (And.intro (H0.out.1.below hb1) (And.intro (H0.out.2.1.trans (hb1.mono H0.out.2.1.size)) (H0.out.2.2.below hb1)))
      have hc1 := H1.out.1.cell 0
      simp at hc1
      clear H0 hb1 hc0 hgd
      go_wp2_with fail
      refine (impl_IsPlain A c js _ H1.out.2.2 (by omega)).mono ?_
      rintro e w2 ⟨rfl, hb2⟩
      rw [hpl]
      have H2 := Lib.hid (H1.out.2.1.trans (hb2.mono H1.out.2.1.size))
      clear H1 hb2 hc1 hpl
      go_wp2
      go_ret2
      exact ⟨H2.out, .inl ⟨HR.out, rfl⟩⟩
    · have HR := Lib.hid (ruled_one hgd)
      go_enter Try.func99, Try.ntmps99
      go_wp2_with fail
      refine (IsJobs_any A c js _ H0.out.2.2 (by omega)).mono ?_
      rintro e w1 ⟨rfl, hb1⟩
      rw [hgd]
      have H1 := Lib.hid (And.intro (H0.out.1.below hb1) (H0.out.2.1.trans (hb1.mono H0.out.2.1.size)))
      clear H0 hb1 hc0 hgd
      go_wp2
      go_ret2
      exact ⟨H1.out.2, .inr ⟨HR.out, w.heap.size, rfl, H1.out.1, Nat.le_refl _⟩⟩
  · cases hpl : plainL js
    · have HR := Lib.hid (ruled_ne h1 hpl)
      go_enter Try.func99, Try.ntmps99
      go_wp2_with fail
      refine (impl_IsPlain A c js _ H0.out.2.2 (by omega)).mono ?_
      rintro e w1 ⟨rfl, hb1⟩
      rw [hpl]
      have H1 := Lib.hid (H0.out.2.1.trans (hb1.mono H0.out.2.1.size))
      clear H0 hb1 hc0 hpl
      go_wp2
      go_ret2
      exact ⟨H1.out, .inl ⟨HR.out, rfl⟩⟩
    · by_cases hru : isRule ob = true
      · have HR := Lib.hid (plain_ruled hpl hru)
        rcases isRule_out hru with rfl | rfl | rfl | rfl
        · exact absurd rfl h1
        all_goals
          clear hru h1
          go_enter Try.func99, Try.ntmps99
          go_wp2_with fail
          refine (impl_IsPlain A c js _ H0.out.2.2 (by omega)).mono ?_
          rintro e w1 ⟨rfl, hb1⟩
          rw [hpl]
          have H1 := Lib.hid (And.intro (H0.out.1.below hb1) (H0.out.2.1.trans (hb1.mono H0.out.2.1.size)))
          clear H0 hb1 hc0 hpl
          go_wp2
          go_ret2
          exact ⟨H1.out.2, .inr ⟨HR.out, w.heap.size, rfl, H1.out.1, Nat.le_refl _⟩⟩
      · have hru' : isRule ob = false := by simpa using hru
        have HR := Lib.hid (ruled_not (js := js) hru')
        have hne : ¬ ob = 2 ∧ ¬ ob = 3 ∧ ¬ ob = 4 := by
          have := of_decide_eq_false (show decide _ = false from hru')
          omega
        obtain ⟨h2, h3, h4⟩ := hne
        clear hru hru'
        go_enter Try.func99, Try.ntmps99
        go_wp2_with fail
        refine (impl_IsPlain A c js _ H0.out.2.2 (by omega)).mono ?_
        rintro e w1 ⟨rfl, hb1⟩
        rw [hpl]
        have H1 := Lib.hid (H0.out.2.1.trans (hb1.mono H0.out.2.1.size))
        clear H0 hb1 hc0 hpl
        go_wp2
        go_ret2
        exact ⟨H1.out, .inl ⟨HR.out, rfl⟩⟩
end
end Go.Proofs.Ytpjjjbkjkhcbdaa
