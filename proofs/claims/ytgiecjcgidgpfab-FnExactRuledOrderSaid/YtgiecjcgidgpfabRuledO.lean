/- RuledOrder of both. -/
import Derived.Test.YtgiecjcgidgpfabRuled
import Derived.Test.YtgiecjcgidgpfabOrdS
namespace Go.Proofs.Ytgiecjcgidgpfab
open Go.RowKit
def ruledR (js : List J) (o : Int) : List Int × Bool := if ruledB js o then (natI (ruledL o js), true) else ([], false)
theorem ruledR_len (js : List J) (o : Int) : (ruledR js o).1.length ≤ 8 := by
  unfold ruledR
  split
  · rename_i h
    have := (good_out (ruled_good h)).1
    simp only [List.length_map]
    rw [ruledL_len]; exact this
  · simp
section
variable (A : Option Addr) (c : Nat) (js : List J) (o : Int) (w : World) (hr : Row w A (jc js)) (hn : js.length ≤ 10000000)
include hr hn
set_option maxRecDepth 100000 in
theorem spec_RuledOrder : Calls Try.prog 22 #[.slice A js.length c, .int .i64 o] w (RetIB w (ruledR js o)) := by
  have HR : Hid (ruledR js o = if ruledB js o then (natI (ruledL o js), true) else ([], false)) := rfl
  have HL := Lib.hid (ruledL_len o js)
  cases hu : ruledB js o
  · rw [hu] at HR
    go_enter Try.func22, Try.ntmps22
    go_wp2_with fail
    refine (l3Ruled_any A c js o _ hr hn).mono ?_
    rintro e w1 ⟨rfl, hb1⟩
    rw [hu]
    go_wp2
    go_ret2
    exact ret_empty HR.out hb1 _ rfl
  · rw [hu] at HR
    have HU := Lib.hid hu
    go_enter Try.func22, Try.ntmps22
    go_wp2_with fail
    refine (l3Ruled_any A c js o _ hr hn).mono ?_
    rintro e w1 ⟨rfl, hb1⟩
    rw [hu]
    go_wp2_with fail
    refine (l3Order_any A c js o _ (hr.below hb1) (ruled_good HU.out) (isRule_of HU.out)).mono ?_
    rintro e w2 ⟨v, rfl, hown, hb2⟩
    obtain ⟨A2, c2, rfl, _⟩ := own_slice hown
    have HO := Lib.hid (And.intro hown (hb1.trans (hb2.mono hb1.size)))
    have HZ := Lib.hid hb1.size
    clear hown hb1 hb2 hu
    go_wp2
    go_ret2
    refine ⟨A2, c2, ?_, ?_, HO.out.2⟩
    · rw [HR.out]; simp only [if_true, List.length_map]; rw [HL.out]; rfl
    · rw [HR.out]; simp only [if_true, List.length_map]; rw [HL.out]; exact Seg.of_own (own_lower HO.out.1 HZ.out)
set_option maxRecDepth 100000 in
theorem impl_RuledOrder : Calls Try.prog 23 #[.slice A js.length c, .int .i64 o] w (RetIB w (ruledR js o)) := by
  have HR : Hid (ruledR js o = if ruledB js o then (natI (ruledL o js), true) else ([], false)) := rfl
  have HL := Lib.hid (ruledL_len o js)
  go_enter Try.func23, Try.ntmps23
  go_wp2_with fail
  refine (ruleOf_any A c js o w hr hn).mono ?_
  rintro e w1 ⟨hb1, ⟨hu, rfl⟩ | ⟨hu, b, rfl, hB, hbs⟩⟩
  · rw [hu] at HR
    go_wp2
    go_ret2
    exact ret_empty HR.out hb1 _ rfl
  · rw [hu] at HR
    have HC := Lib.hid (ruledOrder_any (b := b) (A := A) (c := c) (isRule_of hu) (ruled_good hu) w1 hB (hr.below hb1))
    have HB := Lib.hid hb1
    clear hB hu hb1
    unfold fRule at *
    generalize fRuleN o = f at *
    go_wp2_with fail
    refine HC.out.mono ?_
    rintro e w2 ⟨g, rfl, hown, hb2⟩
    rw [HL.out] at hown ⊢
    have HO := Lib.hid (And.intro hown (HB.out.trans (hb2.mono HB.out.size)))
    clear hown hb2
    go_wp2
    go_ret2
    refine ⟨some ⟨g, 0, none⟩, js.length, ?_, ?_, HO.out.2⟩
    · rw [HR.out]; simp only [if_true, List.length_map]; rw [HL.out]; rfl
    · rw [HR.out]; simp only [if_true, List.length_map]; rw [HL.out]; exact Seg.of_own (own_lower HO.out.1 HB.out.size)
end
end Go.Proofs.Ytgiecjcgidgpfab
