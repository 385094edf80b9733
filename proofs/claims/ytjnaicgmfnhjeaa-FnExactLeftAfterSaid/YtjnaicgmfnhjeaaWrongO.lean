/- IsRuledOrder of both: the model's and the program's. -/
import Derived.Test.YtjnaicgmfnhjeaaWrong
import Derived.Test.YtjnaicgmfnhjeaaOrd
import Derived.Test.YtjnaicgmfnhjeaaSortP
namespace Go.Proofs.Ytjnaicgmfnhjeaa
open Go.RowKit
def RetBB (w : World) (r : Bool × Bool) (e : Ending) (w' : World) : Prop := e = .returned (.tuple #[.bool r.1, .bool r.2]) ∧ Below w.heap.size w w'
def bothB (js : List J) (o : List Int) (ob : Int) : Bool := ruledB js ob && ordB js.length o
theorem both_out {js : List J} {o : List Int} {ob : Int} (h : bothB js o ob = true) : ruledB js ob = true ∧ ∃ p : List Nat, o = natI p ∧ p.Perm (List.range js.length) ∧ p.length = js.length ∧ js.length ≤ 8 ∧ ∀ j ∈ p, j < js.length := by
  unfold bothB at h
  simp only [Bool.and_eq_true] at h
  obtain ⟨p, h1, h2, h3, h4⟩ := ord_nat h.2
  exact ⟨h.1, p, h1, h2, h3, h4, fun j hj => perm_lt h2 hj⟩
theorem natI_inj : ∀ {p q : List Nat}, natI p = natI q → p = q
  | [], [], _ => rfl
  | [], _ :: _, h => by cases h
  | _ :: _, [], h => by cases h
  | a :: p, b :: q, h => by
    simp only [natI, List.map_cons, List.cons.injEq] at h
    have := Int.ofNat.inj h.1
    subst this
    rw [natI_inj (p := p) (q := q) h.2]
def noWrongB (js : List J) (o : List Int) (ob : Int) : Bool := decide (wrongN ob js (natsOf o) < 0)
def isRuledR (js : List J) (o : List Int) (ob : Int) : Bool × Bool := if bothB js o ob then (noWrongB js o ob, true) else (false, false)
theorem wrong_cases (ob : Int) (js : List J) (p : List Nat) : (wrongV ob js p = none ∧ wrongN ob js p = -1 ∧ wrongP ob js p = (0, false)) ∨ ∃ k : Nat, wrongV ob js p = some k ∧ wrongN ob js p = k ∧ wrongP ob js p = ((k : Int), true) := by
  unfold wrongN wrongP
  cases wrongV ob js p with
  | none => exact .inl ⟨rfl, rfl, rfl⟩
  | some k => exact .inr ⟨k, rfl, rfl, rfl⟩
theorem noWrong_not (ob : Int) (js : List J) (p : List Nat) : noWrongB js (natI p) ob = !(wrongP ob js p).2 := by
  unfold noWrongB
  rw [natsOf_natI]
  rcases wrong_cases ob js p with ⟨_, h2, h3⟩ | ⟨k, _, h2, h3⟩
  · rw [h2, h3]; rfl
  · rw [h2, h3]; exact decide_eq_false (by omega)
theorem wrong_bd (ob : Int) (js : List J) (p : List Nat) : -1 ≤ wrongN ob js p ∧ wrongN ob js p ≤ p.length := by
  rcases wrong_cases ob js p with ⟨_, h2, _⟩ | ⟨k, h1, h2, _⟩
  · omega
  · have := (wrong_out ob js h1).1; omega
section
variable (A B : Option Addr) (c d n : Nat) (js : List J) (o : List Int) (ob : Int) (w : World) (hno : n = o.length) (hr : Row w A (jc js)) (hq : Row w B (ic o)) (hn : js.length ≤ 10000000) (hm : o.length ≤ 10000000)
include hno hr hq hn hm
theorem l3Both_any : Calls Try.prog 150 #[.slice A js.length c, .slice B n d, .int .i64 ob] w fun e w' => e = .returned (.bool (bothB js o ob)) ∧ Below w.heap.size w w' := by
  have HNO := Lib.hid hno
  clear hno
  have HT : Hid (bothB js o ob = (ruledB js ob && ordB js.length o)) := rfl
  cases hu : ruledB js ob
  · go_enter Try.func150, Try.ntmps150
    go_wp2_with fail
    refine (l3Ruled_any A c js ob _ hr hn).mono ?_
    rintro e w1 ⟨rfl, hb1⟩
    rw [hu]
    go_wp2
    go_ret
    exact ⟨by rw [HT.out, hu]; rfl, hb1⟩
  · go_enter Try.func150, Try.ntmps150
    go_wp2_with fail
    refine (l3Ruled_any A c js ob _ hr hn).mono ?_
    rintro e w1 ⟨rfl, hb1⟩
    rw [hu]
    go_wp2_with fail
    have hlo := l2Order_any (js.length : Int) B d o w1 (hq.below hb1) (by omega)
    rw [← HNO.out] at hlo
    refine hlo.mono ?_
    rintro e w2 ⟨rfl, rfl⟩
    go_wp2
    go_ret
    exact ⟨by rw [HT.out, hu]; rfl, hb1⟩
/-- What ruleFor hands back. -/
def ForOut (A : Option Addr) (c : Nat) (js : List J) (o : List Int) (ob : Int) (w : World) (e : Ending) (w' : World) : Prop :=
  Below w.heap.size w w' ∧ ((bothB js o ob = false ∧ ∃ v, e = .returned (.tuple #[v, .bool false])) ∨ (bothB js o ob = true ∧ ∃ b, e = .returned (.tuple #[fRule ob b, .bool true]) ∧ BlockIs w' b 28 #[.slice A js.length c] ∧ w.heap.size ≤ b))
theorem ruleFor_any : Calls Try.prog 148 #[.slice A js.length c, .slice B n d, .int .i64 ob] w (ForOut A c js o ob w) := by
  have HNO := Lib.hid hno
  clear hno
  have HT : Hid (bothB js o ob = (ruledB js ob && ordB js.length o)) := rfl
  go_enter Try.func148, Try.ntmps148
  go_wp2_with fail
  refine (ruleOf_any A c js ob w hr hn).mono ?_
  rintro e w1 ⟨hb1, ⟨hu, rfl⟩ | ⟨hu, b, rfl, hB, hbs⟩⟩
  · go_wp2
    go_ret2
    exact ⟨hb1, .inl ⟨by rw [HT.out, hu]; rfl, _, rfl⟩⟩
  · unfold fRule
    generalize hf : fRuleN ob = f at *
    have HF := Lib.hid hf
    clear hf
    have HB := Lib.hid (And.intro hB (And.intro hb1 hbs))
    clear hB hb1 hbs
    go_wp2_with fail
    have hlo := IsOrder_any (js.length : Int) B d o w1 (hq.below HB.out.2.1) (by omega)
    rw [← HNO.out] at hlo
    refine hlo.mono ?_
    rintro e w2 ⟨rfl, hb2⟩
    cases hod : ordB js.length o
    · have HB2 := Lib.hid (HB.out.2.1.trans (hb2.mono HB.out.2.1.size))
      have HE : Hid (bothB js o ob = false) := by show _ = _; rw [HT.out, hu, hod]; rfl
      clear hb2 hod hu
      go_wp2
      go_ret2
      exact ⟨HB2.out, .inl ⟨HE.out, _, rfl⟩⟩
    · have HB2 := Lib.hid (And.intro (HB.out.2.1.trans (hb2.mono HB.out.2.1.size)) (HB.out.1.below hb2))
      have HE : Hid (bothB js o ob = true) := by show _ = _; rw [HT.out, hu, hod]; rfl
      clear hb2 hod hu
      go_wp2
      go_ret2
      exact ⟨HB2.out.1, .inr ⟨HE.out, b, by unfold fRule; rw [HF.out]; rfl, HB2.out.2, HB.out.2.2⟩⟩
theorem spec_IsRuledOrder' : Calls Try.prog 80 #[.slice A js.length c, .slice B n d, .int .i64 ob] w (RetBB w (isRuledR js o ob)) := by
  have HNO := Lib.hid hno
  clear hno
  have HR : Hid (isRuledR js o ob = if bothB js o ob then (noWrongB js o ob, true) else (false, false)) := rfl
  cases hbo : bothB js o ob
  · rw [hbo] at HR
    go_enter Try.func80, Try.ntmps80
    go_wp2_with fail
    refine (l3Both_any A B c d n js o ob _ HNO.out hr hq hn hm).mono ?_
    rintro e w1 ⟨rfl, hb1⟩
    rw [hbo]
    go_wp2
    go_ret2
    exact ⟨by rw [HR.out]; rfl, hb1⟩
  · rw [hbo] at HR
    have hbo' := hbo
    obtain ⟨hu, p, rfl, _, hpl, h8, hlt⟩ := both_out hbo'
    have hpl' : p.length ≤ js.length := by omega
    clear hpl
    have hwb := wrong_bd ob js p
    have HW : Hid (noWrongB js (natI p) ob = decide (wrongN ob js p < 0)) := by show _ = _; unfold noWrongB; rw [natsOf_natI]
    obtain rfl : n = p.length := by rw [HNO.out]; simp
    have HU := Lib.hid hu
    have HL3 := Lib.hid (l3Both_any A B c d p.length js (natI p) ob _ HNO.out hr hq hn hm)
    clear hbo' hu
    go_enter Try.func80, Try.ntmps80
    go_wp2_with fail
    refine HL3.out.mono ?_
    rintro e w1 ⟨rfl, hb1⟩
    rw [hbo]
    go_wp2_with fail
    refine (l3Wrong_any A B c d js p ob _ (hr.below hb1) (hq.below hb1) (good_out (ruled_good HU.out)).2 (isRule_of HU.out) hlt (by omega)).mono ?_
    rintro e w2 ⟨rfl, hb2⟩
    generalize wrongN ob js p = q at *
    go_wp2
    go_ret2
    exact ⟨by rw [HR.out]; simp only [if_true]; rw [HW.out]; rfl, hb1.trans (hb2.mono hb1.size)⟩
theorem impl_IsRuledOrder' : Calls Try.prog 79 #[.slice A js.length c, .slice B n d, .int .i64 ob] w (RetBB w (isRuledR js o ob)) := by
  have HNO := Lib.hid hno
  clear hno
  have HR : Hid (isRuledR js o ob = if bothB js o ob then (noWrongB js o ob, true) else (false, false)) := rfl
  cases hbx : bothB js o ob
  · rw [hbx] at HR
    go_enter Try.func79, Try.ntmps79
    go_wp2_with fail
    refine (ruleFor_any A B c d n js o ob w HNO.out hr hq hn hm).mono ?_
    rintro e w1 ⟨hb1, ⟨_, v, rfl⟩ | ⟨hbo, _⟩⟩
    · go_wp2
      go_ret2
      exact ⟨by rw [HR.out]; rfl, hb1⟩
    · rw [hbx] at hbo; cases hbo
  · rw [hbx] at HR
    have hbo' := hbx
    obtain ⟨hu, p, rfl, _, hpl, h8, hlt⟩ := both_out hbo'
    have hpl' : p.length ≤ js.length := by omega
    clear hpl
    have HW := Lib.hid (noWrong_not ob js p)
    obtain rfl : n = p.length := by rw [HNO.out]; simp
    have HRF := Lib.hid (ruleFor_any A B c d p.length js (natI p) ob w HNO.out hr hq hn hm)
    have HU := Lib.hid hu
    clear hbo' hu
    go_enter Try.func79, Try.ntmps79
    go_wp2_with fail
    refine HRF.out.mono ?_
    rintro e w1 ⟨hb1, ⟨hbo, v, rfl⟩ | ⟨hbo, b, rfl, hB, hbs⟩⟩
    · rw [hbx] at hbo; cases hbo
    have HC := Lib.hid (nextInversion_any (isRule_of HU.out) (ruled_good HU.out) w1 hB (hr.below hb1) B d p (hq.below hb1) hlt (by omega))
    clear hbo hB
    generalize fRule ob b = fr at *
    generalize wrongP ob js p = q at *
    go_wp2_with fail
    refine HC.out.mono ?_
    rintro e w2 ⟨rfl, m2, rfl⟩
    go_wp2
    go_ret2
    exact ⟨by rw [HR.out]; simp only [if_true]; rw [HW.out]; rfl, below_drewN hb1 _⟩
end
section
variable (A B : Option Addr) (c d : Nat) (js : List J) (o : List Int) (ob : Int) (w : World) (hr : Row w A (jc js)) (hq : Row w B (ic o)) (hn : js.length ≤ 10000000) (hm : o.length ≤ 10000000)
include hr hq hn hm
theorem spec_IsRuledOrder : Calls Try.prog 80 #[.slice A js.length c, .slice B o.length d, .int .i64 ob] w (RetBB w (isRuledR js o ob)) := spec_IsRuledOrder' A B c d _ js o ob w rfl hr hq hn hm
theorem impl_IsRuledOrder : Calls Try.prog 79 #[.slice A js.length c, .slice B o.length d, .int .i64 ob] w (RetBB w (isRuledR js o ob)) := impl_IsRuledOrder' A B c d _ js o ob w rfl hr hq hn hm
end
end Go.Proofs.Ytjnaicgmfnhjeaa
