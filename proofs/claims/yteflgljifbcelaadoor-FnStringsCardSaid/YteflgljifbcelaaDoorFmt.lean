/- FormatInt of the program and of the model: the library's plain decimal numeral, within the limits. -/
import Derived.Test.YteflgljifbcelaaDoorBase
import Derived.Test.YteflgljifbcelaaDoorNum
import Derived.Test.YteflgljifbcelaaDoorShelf
import Derived.Lib.LaidTab
namespace Go.Proofs.YteflgljifbcelaaDoor
open Go.RowKit Go.Sort

theorem tabIs_laidVars {P : Program} {W : World} {name : String} {k : IntKind} {zs : List Int} {g : Nat} {t e : TypeId} {n : Nat}
    (hg : P.globalNamed name = some g) (hty : (P.globals[g]?).map (·.type) = some t) (ht : P.underlying t = some (.array n e)) (he : P.underlying e = some (.int k)) (hce : P.cellsOf e = 1) (hct : P.cellsOf t = n) :
    ∀ (i : Nat) (laid : List (String × DataW Unit)) (ps : List MemPlace), DataW.LaidVars P W laid ps → laid[i]? = some (name, Lib.tabData k zs) → Lib.TabIs P W name k zs
  | _, [], _, _, h => by simp at h
  | 0, x :: rest, ps, hL, h => by
    obtain rfl : x = (name, Lib.tabData k zs) := by simpa using h
    obtain ⟨g', t', cs, fuel, p, q, hg', ht', hvar, hd, _, _⟩ := hL
    obtain rfl := Option.some.inj (hg.symm.trans hg')
    obtain rfl := Option.some.inj (hty.symm.trans ht')
    unfold Lib.TabIs
    rw [hvar, ← Lib.cells_of_tab ht he hce hct hd]
  | i + 1, x :: rest, ps, hL, h => by
    obtain ⟨g', t', cs, fuel, p, q, hg', ht', hvar, hd, hr, _⟩ := hL
    exact tabIs_laidVars hg hty ht he hce hct i rest q hr (by simpa using h)

theorem below_grown (w : World) (k : Nat) (os : Array Obj) : Below w.heap.size w (grow (w.drewN k) os) :=
  ⟨rfl, rfl, rfl, by simp [grow, World.drewN], fun i hi => by simp only [grow, World.drewN]; rw [Array.getElem?_append_left hi]⟩
/-- The library's table of powers of ten, as the row lists it. -/
def PowTab (w : World) : Prop := Lib.TabIs Tryd.prog w "internal/strconv.uint64pow10" .u64 Lib.pow10Tab
theorem powTab_laid {W : World} {laid : List (String × DataW Unit)} (i : Nat) (h : laidMet Tryd.prog laid W) (hi : laid[i]? = some ("internal/strconv.uint64pow10", Lib.tabData .u64 Lib.pow10Tab)) : PowTab W := by
  obtain ⟨ps, hL, _⟩ := h
  exact tabIs_laidVars (g := 1) (t := 64) (e := 35) (n := 20) (by kernel_rfl) (by kernel_rfl) Tryd.underlying64 Tryd.underlying35 (by kernel_rfl) (by kernel_rfl) i laid ps hL hi
theorem PowTab.below {w w' : World} (h : PowTab w) (hb : Below w.heap.size w w') : PowTab w' := by
  unfold PowTab Lib.TabIs World.var? at *
  cases hg : (Tryd.prog).globalNamed "internal/strconv.uint64pow10" with
  | none => simp [hg] at h
  | some g =>
    simp only [hg, Option.bind_some] at h ⊢
    have hlt : g < w.heap.size := by
      cases hh : w.heap[g]? with
      | none => rw [hh] at h; cases h
      | some o => exact (Array.getElem?_eq_some_iff.1 hh).1
    rw [hb.block g hlt]; exact h
theorem PowTab.drewN {w : World} (h : PowTab w) (n : Nat) : PowTab (w.drewN n) := h
theorem PowTab.drew {w : World} (h : PowTab w) : PowTab w.drew := h

theorem l1In_any (x a b : Int) (w : World) :
    Calls Tryd.prog 24 #[.int .i64 x, .int .i64 a, .int .i64 b] w fun e w' => e = .returned (.bool (decide (a ≤ x ∧ x ≤ b))) ∧ w = w' := by
  by_cases h1 : a ≤ x <;> by_cases h2 : x ≤ b
  all_goals
    go_enter Tryd.func24, Tryd.ntmps24
    go_wp2
    go_ret
    exact ⟨by simp [h1, h2] <;> omega, rfl⟩

theorem spec_FormatInt_yes (n : Int) (w : World) (h0 : -999999 ≤ n) (h1 : n ≤ 999999) :
    Calls Tryd.prog 11 #[.int .i64 n] w fun e w' => e = .returned (.tuple #[.string ⟨(Lib.itoa n).toArray⟩, .bool true]) ∧ ∃ m, w' = w.drewN m := by
  have hin : decide (-999999 ≤ n ∧ n ≤ 999999) = true := by simp [h0, h1]
  have H := l1In_any n (-999999) 999999 w
  rw [hin] at H
  have H' := Lib.hid H; clear H hin
  go_enter Tryd.func11, Tryd.ntmps11
  go_wp2_with (first | (go_at_call 24; refine (H'.out).mono ?_; rintro e w' ⟨rfl, rfl⟩) | (go_at_call 25; refine (l1Num_any _ _ (by omega) (by omega)).mono ?_; rintro e w' ⟨rfl, m, rfl⟩))
  go_ret2
  exact ⟨rfl, _, rfl⟩
theorem spec_FormatInt_no (n : Int) (w : World) (h : n < -999999 ∨ 999999 < n) :
    Calls Tryd.prog 11 #[.int .i64 n] w fun e w' => e = .returned (.tuple #[.string ⟨#[]⟩, .bool false]) ∧ ∃ m, w' = w.drewN m := by
  have hin : decide (-999999 ≤ n ∧ n ≤ 999999) = false := by simp; omega
  have H := l1In_any n (-999999) 999999 w
  rw [hin] at H
  have H' := Lib.hid H; clear H hin h
  go_enter Tryd.func11, Tryd.ntmps11
  go_wp2_with (go_at_call 24; refine (H'.out).mono ?_; rintro e w' ⟨rfl, rfl⟩)
  go_ret2
  exact ⟨rfl, 0, rfl⟩

theorem impl_FormatInt_yes (n : Int) (w : World) (h0 : -999999 ≤ n) (h1 : n ≤ 999999) (htab : PowTab w) :
    Calls Tryd.prog 10 #[.int .i64 n] w fun e w' => e = .returned (.tuple #[.string ⟨(Lib.itoa n).toArray⟩, .bool true]) ∧ Below w.heap.size w w' := by
  go_enter Tryd.func10, Tryd.ntmps10
  go_wp2_with (go_at_call 23; refine (Tryd.strconv_Itoa n (by omega) (by omega) _ htab).mono ?_; rintro e w' ⟨rfl, k, os, rfl⟩)
  go_ret2
  exact ⟨rfl, below_grown _ _ _⟩
theorem impl_FormatInt_no (n : Int) (w : World) (h : n < -999999 ∨ 999999 < n) :
    Calls Tryd.prog 10 #[.int .i64 n] w fun e w' => e = .returned (.tuple #[.string ⟨#[]⟩, .bool false]) ∧ Below w.heap.size w w' := by
  rcases h with h | h
  · go_enter Tryd.func10, Tryd.ntmps10
    go_wp2
    go_ret2
    exact ⟨rfl, Below.refl _ _⟩
  · have h' : ¬ n < -999999 := by omega
    go_enter Tryd.func10, Tryd.ntmps10
    go_wp2
    go_ret2
    exact ⟨rfl, Below.refl _ _⟩
end Go.Proofs.YteflgljifbcelaaDoor
