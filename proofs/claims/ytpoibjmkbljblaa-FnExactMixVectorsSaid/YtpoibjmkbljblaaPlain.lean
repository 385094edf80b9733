/- IsPlain: the model's and the program's. -/
import Derived.Test.YtpoibjmkbljblaaGood
import Derived.Test.YtpoibjmkbljblaaRulP
namespace Go.Proofs.Ytpoibjmkbljblaa
open Go.RowKit
theorem plain_bad {js : List J} {j : J} (hj : j ∈ js) (h : j.r ≠ 0) : plain0 js = false := by
  unfold plain0; rw [List.all_eq_false]; exact ⟨j, hj, by simpa using h⟩
theorem plain_step {js : List J} {k : Nat} (h : ∀ i (hi : i < js.length), i < k → js[i].r = 0) (hk : k < js.length) (ho : js[k].r = 0) : ∀ i (hi : i < js.length), i < k + 1 → js[i].r = 0 := by
  intro i hi hik
  by_cases e : i = k
  · subst e; exact ho
  · exact h i hi (by omega)
theorem plain_all {js : List J} (h : ∀ i (hi : i < js.length), i < js.length → js[i].r = 0) : plain0 js = true := by
  unfold plain0; rw [List.all_eq_true]
  intro j hj
  obtain ⟨i, hi, rfl⟩ := List.mem_iff_getElem.1 hj
  exact decide_eq_true (h i hi hi)
theorem posRel_any (j : J) (w : World) :
    Calls Try.prog 31 #[.agg #[.int .i64 j.t, .int .i64 j.w, .int .i64 j.r, .int .i64 j.d]] w fun e w' => e = .returned (.bool (decide (0 < j.r))) ∧ Below w.heap.size w w' := by
  go_enter Try.func31, Try.ntmps31
  go_wp2
  go_ret
  exact ⟨rfl, (Below.refl _ _).alloc (Nat.le_refl _) _⟩
def lowR (js : List J) : Bool := js.all fun j => decide (j.r ≤ 0)
theorem low_bad {js : List J} {j : J} (hj : j ∈ js) (h : ¬ j.r ≤ 0) : lowR js = false := by
  unfold lowR; rw [List.all_eq_false]; exact ⟨j, hj, by simpa using h⟩
theorem lowR_step {js : List J} {k : Nat} (h : ∀ i (hi : i < js.length), i < k → js[i].r ≤ 0) (hk : k < js.length) (ho : js[k].r ≤ 0) : ∀ i (hi : i < js.length), i < k + 1 → js[i].r ≤ 0 := by
  intro i hi hik
  by_cases e : i = k
  · subst e; exact ho
  · exact h i hi (by omega)
theorem low_all {js : List J} (h : ∀ i (hi : i < js.length), i < js.length → js[i].r ≤ 0) : lowR js = true := by
  unfold lowR; rw [List.all_eq_true]
  intro j hj
  obtain ⟨i, hi, rfl⟩ := List.mem_iff_getElem.1 hj
  exact decide_eq_true (h i hi hi)
theorem low_plain {js : List J} (hg : goodL js = true) : lowR js = plain0 js := by
  obtain ⟨_, hok⟩ := good_out hg
  unfold lowR plain0
  rw [Bool.eq_iff_iff, List.all_eq_true, List.all_eq_true]
  constructor
  · intro h j hj
    have h1 := okJ_out (hok j hj)
    have := of_decide_eq_true (h j hj)
    exact decide_eq_true (by omega)
  · intro h j hj
    have := of_decide_eq_true (h j hj)
    exact decide_eq_true (by omega)
def IdxP (js : List J) (w : World) (e : Ending) (w' : World) : Prop := ∃ r : Int, e = .returned (.int .i64 r) ∧ (0 ≤ r ↔ lowR js = false) ∧ Below w.heap.size w w'
theorem indexPos_any (A : Option Addr) (c : Nat) (js : List J) (w : World) (hr : Row w A (jc js)) (hn : js.length ≤ 100000000) :
    Calls Try.prog 34 #[.slice A js.length c, .func (.func 31) #[] #[]] w (IdxP js w) := by
  go_enter Try.func34, Try.ntmps34
  go_wp2
  go_loopw [8] (fun i wr => ∃ k : Nat, k ≤ js.length ∧ i = .int .i64 k ∧ Hid (∀ i (hi : i < js.length), i < k → js[i].r ≤ 0) ∧ Below w.heap.size w wr) (fun i _ => js.length - (intOf i).toNat)
  case atStart => exact ⟨0, Nat.zero_le _, rfl, fun _ _ h => absurd h (by omega), Below.refl _ _⟩
  case round =>
    obtain ⟨k, hk, rfl, hA, hb⟩ := hrel
    by_cases hlt : k < js.length
    · obtain ⟨a, hA', _, hc0, hc1, hc2, hc3⟩ := (hr.below hb).job hlt
      subst hA'
      have HB := Lib.hid hb
      have hi : (0 : Int) ≤ k := by omega
      have hi' : (k : Int) < js.length := by omega
      by_cases ho : js[k].r ≤ 0
      · have HA := Lib.hid (lowR_step hA.out hlt ho)
        have ho' : decide (0 < js[k].r) = false := decide_eq_false (by omega)
        clear hr hb hA
        generalize js[k] = j at *
        go_wp2_with fail
        refine (posRel_any j _).mono ?_
        rintro e w1 ⟨rfl, hb1⟩
        rw [ho']
        go_wp2
        go_roundw
        case rel => exact ⟨k + 1, by omega, by go_num, HA.out, HB.out.trans (hb1.mono HB.out.size)⟩
        case measure => simp [intOf]; omega
      · have HG := Lib.hid (low_bad (List.getElem_mem hlt) ho)
        have ho' : decide (0 < js[k].r) = true := decide_eq_true (by omega)
        clear hr hb hA
        generalize js[k] = j at *
        go_wp2_with fail
        refine (posRel_any j _).mono ?_
        rintro e w1 ⟨rfl, hb1⟩
        rw [ho']
        go_wp2
        go_ret
        exact ⟨k, rfl, ⟨fun _ => HG.out, fun _ => by omega⟩, HB.out.trans (hb1.mono HB.out.size)⟩
    · obtain rfl : k = js.length := by omega
      have HG := Lib.hid (low_all hA.out)
      clear hA
      go_wp2
      go_ret
      exact ⟨-1, rfl, ⟨fun h => by omega, fun h => by rw [HG.out] at h; cases h⟩, hb⟩
theorem containsPos_any (A : Option Addr) (c : Nat) (js : List J) (w : World) (hr : Row w A (jc js)) (hn : js.length ≤ 100000000) :
    Calls Try.prog 30 #[.slice A js.length c, .func (.func 31) #[] #[]] w fun e w' => e = .returned (.bool (!lowR js)) ∧ Below w.heap.size w w' := by
  go_enter Try.func30, Try.ntmps30
  go_wp2_with fail
  refine (indexPos_any A c js _ hr hn).mono ?_
  rintro e w1 ⟨r, rfl, hr1, hb1⟩
  by_cases h0 : 0 ≤ r
  · have H := Lib.hid (hr1.1 h0)
    clear hr1
    go_wp2
    go_ret
    exact ⟨by rw [H.out]; rfl, hb1⟩
  · have H : Hid (lowR js = true) := by
      show _ = _
      cases h : lowR js
      · exact absurd (hr1.2 h) h0
      · rfl
    clear hr1
    go_wp2
    go_ret
    exact ⟨by rw [H.out]; exact congrArg (fun b => Ending.returned (Value.bool b)) (decide_eq_false (by omega)), hb1⟩
theorem impl_IsPlain (A : Option Addr) (c : Nat) (js : List J) (w : World) (hr : Row w A (jc js)) (hn : js.length ≤ 100000000) :
    Calls Try.prog 27 #[.slice A js.length c] w fun e w' => e = .returned (.bool (plainL js)) ∧ Below w.heap.size w w' := by
  have HP : Hid (plainL js = (goodL js && plain0 js)) := rfl
  cases hg : goodL js
  · go_enter Try.func27, Try.ntmps27
    go_wp2_with fail
    refine (IsJobs_any A c js _ hr hn).mono ?_
    rintro e w1 ⟨rfl, hb1⟩
    rw [hg]
    go_wp2
    go_ret
    exact ⟨by rw [HP.out, hg]; rfl, hb1⟩
  · have HL := Lib.hid (low_plain hg)
    go_enter Try.func27, Try.ntmps27
    go_wp2_with fail
    refine (IsJobs_any A c js _ hr hn).mono ?_
    rintro e w1 ⟨rfl, hb1⟩
    rw [hg]
    go_wp2_with fail
    refine (containsPos_any A c js _ (hr.below hb1) hn).mono ?_
    rintro e w2 ⟨rfl, hb2⟩
    go_wp2
    go_ret
    exact ⟨by rw [HP.out, hg, ← HL.out]; simp, hb1.trans (hb2.mono hb1.size)⟩
end Go.Proofs.Ytpoibjmkbljblaa
