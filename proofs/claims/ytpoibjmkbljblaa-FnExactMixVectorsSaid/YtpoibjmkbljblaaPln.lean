/- Lists of jobs without releases: the model's l4Free and l6Good, the program's plainListOf. -/
import Derived.Test.YtpoibjmkbljblaaPlain
namespace Go.Proofs.Ytpoibjmkbljblaa
open Go.RowKit
section
variable (A : Option Addr) (c : Nat) (js : List J) (w : World) (hr : Row w A (jc js)) (hn : js.length ≤ 100000000)
include hr hn
theorem l4Free_any : Calls Try.prog 22 #[.slice A js.length c] w fun e w' => e = .returned (.bool (lowR js)) ∧ Below w.heap.size w w' := by
  go_enter Try.func22, Try.ntmps22
  go_wp2
  go_loopw [3] (fun i wr => ∃ k : Nat, k ≤ js.length ∧ i = .int .i64 k ∧ Hid (∀ i (hi : i < js.length), i < k → js[i].r ≤ 0) ∧ Below w.heap.size w wr) (fun i _ => js.length - (intOf i).toNat)
  case atStart => exact ⟨0, Nat.zero_le _, rfl, fun _ _ h => absurd h (by omega), Below.refl _ _⟩
  case round =>
    obtain ⟨k, hk, rfl, hA, hb⟩ := hrel
    by_cases hlt : k < js.length
    · obtain ⟨a, hA', _, hc0, hc1, hc2, hc3⟩ := (hr.below hb).job hlt
      subst hA'
      have HB := Lib.hid hb
      have hi : (0 : Int) ≤ k := by omega
      have hi' : (k : Int) < js.length := by omega
      by_cases ho : js[k].r ≤ 0
      · have HA := Lib.hid (lowR_step hA.out hlt ho)
        have ho' : ¬ (0 < js[k].r) := by omega
        clear hr hb hA
        generalize js[k] = j at *
        go_wp2
        go_roundw
        case rel => exact ⟨k + 1, by omega, by go_num, HA.out, HB.out⟩
        case measure => simp [intOf]; omega
      · have HG := Lib.hid (low_bad (List.getElem_mem hlt) ho)
        have ho' : 0 < js[k].r := by omega
        clear hr hb hA
        generalize js[k] = j at *
        go_wp2
        go_ret
        exact ⟨by rw [HG.out]; rfl, HB.out⟩
    · obtain rfl : k = js.length := by omega
      have HG := Lib.hid (low_all hA.out)
      clear hA
      go_wp2
      go_ret
      exact ⟨by rw [HG.out]; rfl, hb⟩
theorem l6Good_any : Calls Try.prog 14 #[.slice A js.length c] w fun e w' => e = .returned (.bool (plainL js)) ∧ Below w.heap.size w w' := by
  have HP : Hid (plainL js = (goodL js && plain0 js)) := rfl
  cases hg : goodL js
  · go_enter Try.func14, Try.ntmps14
    go_wp2_with fail
    refine (l2Good_any A c js _ hr hn).mono ?_
    rintro e w1 ⟨rfl, hb1⟩
    rw [hg]
    go_wp2
    go_ret
    exact ⟨by rw [HP.out, hg]; rfl, hb1⟩
  · have HL := Lib.hid (low_plain hg)
    go_enter Try.func14, Try.ntmps14
    go_wp2_with fail
    refine (l2Good_any A c js _ hr hn).mono ?_
    rintro e w1 ⟨rfl, hb1⟩
    rw [hg]
    go_wp2_with fail
    refine (l4Free_any A c js _ (hr.below hb1) hn).mono ?_
    rintro e w2 ⟨rfl, hb2⟩
    go_wp2
    go_ret
    exact ⟨by rw [HP.out, hg, ← HL.out]; rfl, hb1.trans (hb2.mono hb1.size)⟩
/-- A list that is not plain is handed on as none. -/
def PlnIs (A : Option Addr) (c : Nat) (js : List J) (w : World) (e : Ending) (w' : World) : Prop :=
  Below w.heap.size w w' ∧ ((plainL js = true ∧ e = .returned (.tuple #[.slice A js.length c, .bool true])) ∨ (plainL js = false ∧ e = .returned (.tuple #[.slice none 0 0, .bool false])))
theorem plainListOf_any : Calls Try.prog 23 #[.slice A js.length c] w (PlnIs A c js w) := by
  cases hp : plainL js
  · go_enter Try.func23, Try.ntmps23
    go_wp2_with fail
    refine (impl_IsPlain A c js _ hr hn).mono ?_
    rintro e w1 ⟨rfl, hb1⟩
    rw [hp]
    go_wp2
    go_ret2
    exact ⟨hb1, .inr ⟨hp, rfl⟩⟩
  · go_enter Try.func23, Try.ntmps23
    go_wp2_with fail
    refine (impl_IsPlain A c js _ hr hn).mono ?_
    rintro e w1 ⟨rfl, hb1⟩
    rw [hp]
    go_wp2
    go_ret2
    exact ⟨hb1, .inl ⟨hp, rfl⟩⟩
end
end Go.Proofs.Ytpoibjmkbljblaa
