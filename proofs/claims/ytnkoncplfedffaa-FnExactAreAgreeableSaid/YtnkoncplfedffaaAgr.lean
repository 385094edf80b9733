/- AreAgreeable: the model's and the program's. -/
import Derived.Test.YtnkoncplfedffaaPln
import Derived.Test.YtnkoncplfedffaaRetBB
namespace Go.Proofs.Ytnkoncplfedffaa
open Go.RowKit
/-- A job with a less Time has a greater date. -/
def wrgJ (x y : J) : Prop := x.t < y.t ∧ y.d < x.d
def agrL (js : List J) : Bool := js.all fun x => js.all fun y => !(decide (x.t < y.t) && decide (y.d < x.d))
def AgrRow (js : List J) (i k : Nat) : Prop := ∀ (hi : i < js.length), ∀ k' (hk : k' < js.length), k' < k → ¬ wrgJ js[i] js[k']
def AgrTo (js : List J) (i : Nat) : Prop := ∀ i', i' < i → AgrRow js i' js.length
theorem agr_bad {js : List J} {i k : Nat} (hi : i < js.length) (hk : k < js.length) (h : wrgJ js[i] js[k]) : agrL js = false := by
  unfold agrL
  rw [List.all_eq_false]
  refine ⟨_, List.getElem_mem hi, ?_⟩
  rw [Bool.not_eq_true, List.all_eq_false]
  refine ⟨_, List.getElem_mem hk, ?_⟩
  rw [decide_eq_true h.1, decide_eq_true h.2]; decide
theorem agr_zero (js : List J) (i : Nat) : AgrRow js i 0 := fun _ _ _ h => absurd h (by omega)
theorem agr_none (js : List J) : AgrTo js 0 := fun _ h => absurd h (by omega)
theorem agr_step {js : List J} {i k : Nat} (h : AgrRow js i k) (hi : i < js.length) (hk : k < js.length) (hw : ¬ wrgJ js[i] js[k]) : AgrRow js i (k + 1) := by
  intro _ k' hk' hlt
  by_cases e : k' = k
  · subst e; exact hw
  · exact h hi k' hk' (by omega)
theorem agr_next {js : List J} {i : Nat} (h : AgrTo js i) (hr : AgrRow js i js.length) : AgrTo js (i + 1) := by
  intro i' hlt
  by_cases e : i' = i
  · subst e; exact hr
  · exact h i' (by omega)
theorem agr_all {js : List J} (h : AgrTo js js.length) : agrL js = true := by
  unfold agrL
  rw [List.all_eq_true]
  intro x hx
  rw [List.all_eq_true]
  intro y hy
  obtain ⟨i, hi, rfl⟩ := List.mem_iff_getElem.1 hx
  obtain ⟨k, hk, rfl⟩ := List.mem_iff_getElem.1 hy
  have := h i hi hi k hk hk
  unfold wrgJ at this
  by_cases h1 : js[i].t < js[k].t
  · rw [decide_eq_false (fun h2 => this ⟨h1, h2⟩)]; simp
  · rw [decide_eq_false h1]; simp
def agreeR (js : List J) : Bool × Bool := if plainL js then (agrL js, true) else (false, false)
section
variable (A : Option Addr) (c : Nat) (js : List J) (w : World) (hr : Row w A (jc js)) (hn : js.length ≤ 100000000)
include hr hn
set_option maxRecDepth 100000 in
set_option maxHeartbeats 1000000 in
theorem spec_AreAgreeable : Calls Try.prog 16 #[.slice A js.length c] w (RetBB w (agreeR js)) := by
  have HR : Hid (agreeR js = if plainL js then (agrL js, true) else (false, false)) := rfl
  cases hp : plainL js
  · rw [hp] at HR
    go_enter Try.func16, Try.ntmps16
    go_wp2_with fail
    refine (l6Good_any A c js _ hr hn).mono ?_
    rintro e w1 ⟨rfl, hb1⟩
    rw [hp]
    go_wp2
    go_ret2
    exact ⟨by rw [HR.out]; rfl, hb1⟩
  · rw [hp] at HR
    go_enter Try.func16, Try.ntmps16
    go_wp2_with fail
    refine (l6Good_any A c js _ hr hn).mono ?_
    rintro e w1 ⟨rfl, hb1⟩
    rw [hp]
    go_wp2
    go_loopw [4] (fun i wr => ∃ k : Nat, k ≤ js.length ∧ i = .int .i64 k ∧ Hid (AgrTo js k) ∧ Below w.heap.size w wr) (fun i _ => js.length - (intOf i).toNat)
    case atStart => exact ⟨0, Nat.zero_le _, rfl, agr_none js, hb1⟩
    case round =>
      obtain ⟨i, hi, rfl, hA, hb⟩ := hrel
      by_cases hlt : i < js.length
      · have hi0 : (0 : Int) ≤ i := by omega
        have hi1 : (i : Int) < js.length := by omega
        obtain ⟨wo, rfl⟩ : ∃ wo : World, wo = wr := ⟨_, rfl⟩
        go_wp2
        go_loopw [5] (fun kv wi => ∃ k : Nat, k ≤ js.length ∧ kv = .int .i64 k ∧ Hid (AgrRow js i k) ∧ Below w.heap.size w wi) (fun kv _ => js.length - (intOf kv).toNat)
        case atStart => exact ⟨0, Nat.zero_le _, rfl, agr_zero js i, hb⟩
        case round =>
          obtain ⟨k, hk, rfl, hB, hb⟩ := hrel
          by_cases hltk : k < js.length
          · have hk0 : (0 : Int) ≤ k := by omega
            have hk1 : (k : Int) < js.length := by omega
            obtain ⟨ad, hAe, hadb, a0, a1, a2, a3⟩ := (hr.below hb).job hlt
            subst hAe
            obtain ⟨ad', hA', _, b0, b1, b2, b3⟩ := (hr.below hb).job hltk
            injection hA' with hA'
            subst hA'
            have HB := Lib.hid hb
            have HN := Lib.hid (agr_step hB.out hlt hltk)
            have HX := Lib.hid (agr_bad hlt hltk)
            clear hr hb hb1 hB hA
            generalize js[i] = x at *
            generalize js[k] = y at *
            by_cases h1 : x.t < y.t
            · have d1 : decide (x.t < y.t) = true := decide_eq_true h1
              by_cases h2 : y.d < x.d
              · have HG := Lib.hid (HX.out ⟨h1, h2⟩)
                clear HN HX
                go_wp2
                go_quiet (fail)
                all_goals
                  go_wp2
                  go_ret2
                  exact ⟨by rw [HR.out, HG.out]; rfl, below_drewN HB.out _⟩
              · have HG := Lib.hid (HN.out (fun e => h2 e.2))
                clear HN HX
                go_wp2
                go_quiet (fail)
                all_goals
                  go_wp2
                  go_roundw
                  case rel => exact ⟨k + 1, by omega, by go_num, HG.out, below_drewN HB.out _⟩
                  case measure => simp [intOf]; omega
            · have d1 : decide (x.t < y.t) = false := decide_eq_false h1
              have HG := Lib.hid (HN.out (fun e => h1 e.1))
              clear HN HX
              go_wp2
              go_quiet (fail)
              all_goals
                go_wp2
                go_roundw
                case rel => exact ⟨k + 1, by omega, by go_num, HG.out, below_drewN HB.out _⟩
                case measure => simp [intOf]; omega
          · obtain rfl : k = js.length := by omega
            have HG := Lib.hid (agr_next hA.out hB.out)
            clear hA hB
            go_wp2
            go_roundw
            case rel => exact ⟨i + 1, by omega, by go_num, HG.out, hb⟩
            case measure => simp [intOf]; omega
      · obtain rfl : i = js.length := by omega
        have HG := Lib.hid (agr_all hA.out)
        clear hA
        go_wp2
        go_ret2
        exact ⟨by rw [HR.out, HG.out]; rfl, hb⟩
end
section
variable (A : Option Addr) (c : Nat) (js : List J) (w : World) (hr : Row w A (jc js)) (hn : js.length ≤ 100000000)
include hr hn
set_option maxRecDepth 100000 in
set_option maxHeartbeats 1000000 in
theorem areAgreeable_any : Calls Try.prog 42 #[.slice A js.length c] w fun e w' => e = .returned (.bool (agrL js)) ∧ Below w.heap.size w w' := by
  go_enter Try.func42, Try.ntmps42
  go_wp2
  go_loopw [9] (fun i wr => ∃ k : Nat, k ≤ js.length ∧ i = .int .i64 k ∧ Hid (AgrTo js k) ∧ Below w.heap.size w wr) (fun i _ => js.length - (intOf i).toNat)
  case atStart => exact ⟨0, Nat.zero_le _, rfl, agr_none js, Below.refl _ _⟩
  case round =>
    obtain ⟨i, hi, rfl, hA, hb⟩ := hrel
    by_cases hlt : i < js.length
    · have hi0 : (0 : Int) ≤ i := by omega
      have hi1 : (i : Int) < js.length := by omega
      obtain ⟨wo, rfl⟩ : ∃ wo : World, wo = wr := ⟨_, rfl⟩
      obtain ⟨ad, hAe, hadb, a0, a1, a2, a3⟩ := (hr.below hb).job hlt
      subst hAe
      obtain ⟨x, hx⟩ : ∃ x, x = js[i] := ⟨_, rfl⟩
      rw [← hx] at a0 a1 a2 a3
      have HX := Lib.hid hx
      clear hx
      have hbo : Below w.heap.size w (wo.alloc (.cells #[.int .i64 x.t, .int .i64 x.w, .int .i64 x.r, .int .i64 x.d] 52)) := hb.alloc hb.size _
      have HO := Lib.hid (And.intro hbo (BlockIs.new wo 52 #[.int .i64 x.t, .int .i64 x.w, .int .i64 x.r, .int .i64 x.d]))
      clear hbo
      have HBo := Lib.hid hb
      clear hb
      go_wp2
      go_loopw [15] (fun kv wi => ∃ k : Nat, k ≤ js.length ∧ kv = .int .i64 k ∧ Hid (AgrRow js i k) ∧ Hid (BlockIs wi wo.heap.size 52 #[.int .i64 x.t, .int .i64 x.w, .int .i64 x.r, .int .i64 x.d]) ∧ Below w.heap.size w wi) (fun kv _ => js.length - (intOf kv).toNat)
      case atStart => exact ⟨0, Nat.zero_le _, rfl, agr_zero js i, HO.out.2, HO.out.1⟩
      case round =>
        obtain ⟨k, hk, rfl, hB, hBk, hb⟩ := hrel
        by_cases hltk : k < js.length
        · have hk0 : (0 : Int) ≤ k := by omega
          have hk1 : (k : Int) < js.length := by omega
          obtain ⟨ad', hA', _, b0, b1, b2, b3⟩ := (hr.below hb).job hltk
          injection hA' with hA'
          subst hA'
          have HN := Lib.hid (agr_step hB.out hlt hltk)
          have HX2 := Lib.hid (agr_bad hlt hltk)
          rw [← HX.out] at HN HX2
          have HB := Lib.hid (hb.alloc hb.size (.cells #[.int .i64 js[k].t, .int .i64 js[k].w, .int .i64 js[k].r, .int .i64 js[k].d] 52))
          have HK2 := Lib.hid (hBk.out.below ((Below.refl _ _).alloc (Nat.le_refl _) (.cells #[.int .i64 js[k].t, .int .i64 js[k].w, .int .i64 js[k].r, .int .i64 js[k].d] 52)))
          have hlo := hBk.out.lt
          have p0 := HK2.out.cell 0
          have p3 := HK2.out.cell 3
          simp only [List.getElem?_toArray, List.getElem?_cons_zero, List.getElem?_cons_succ] at p0 p3
          clear hr hb hB hA HO HX HBo hBk
          generalize js[k] = y at *
          by_cases h1 : x.t < y.t
          · have d1 : decide (x.t < y.t) = true := decide_eq_true h1
            by_cases h2 : y.d < x.d
            · have HG := Lib.hid (HX2.out ⟨h1, h2⟩)
              clear HN HX2
              go_wp2
              go_ret
              exact ⟨by rw [HG.out]; rfl, HB.out⟩
            · have HG := Lib.hid (HN.out (fun e => h2 e.2))
              clear HN HX2
              go_wp2
              go_roundw
              case rel => exact ⟨k + 1, by omega, by go_num, HG.out, HK2.out, HB.out⟩
              case measure => simp [intOf]; omega
          · have d1 : decide (x.t < y.t) = false := decide_eq_false h1
            have HG := Lib.hid (HN.out (fun e => h1 e.1))
            clear HN HX2
            go_wp2
            go_roundw
            case rel => exact ⟨k + 1, by omega, by go_num, HG.out, HK2.out, HB.out⟩
            case measure => simp [intOf]; omega
        · obtain rfl : k = js.length := by omega
          have HG := Lib.hid (agr_next hA.out hB.out)
          clear hA hB
          go_wp2
          go_roundw
          case rel => exact ⟨i + 1, by omega, by go_num, HG.out, hb⟩
          case measure => simp [intOf]; omega
    · obtain rfl : i = js.length := by omega
      have HG := Lib.hid (agr_all hA.out)
      clear hA
      go_wp2
      go_ret
      exact ⟨by rw [HG.out]; rfl, hb⟩
theorem impl_AreAgreeable : Calls Try.prog 17 #[.slice A js.length c] w (RetBB w (agreeR js)) := by
  have HR : Hid (agreeR js = if plainL js then (agrL js, true) else (false, false)) := rfl
  go_enter Try.func17, Try.ntmps17
  go_wp2_with fail
  refine (plainListOf_any A c js w hr hn).mono ?_
  rintro e w1 ⟨hb1, ⟨hp, rfl⟩ | ⟨hp, rfl⟩⟩
  · rw [hp] at HR
    go_wp2_with fail
    refine (areAgreeable_any A c js _ (hr.below hb1) hn).mono ?_
    rintro e w2 ⟨rfl, hb2⟩
    go_wp2
    go_ret2
    exact ⟨by rw [HR.out]; rfl, hb1.trans (hb2.mono hb1.size)⟩
  · rw [hp] at HR
    go_wp2
    go_ret2
    exact ⟨by rw [HR.out]; rfl, hb1⟩
end
end Go.Proofs.Ytnkoncplfedffaa
