/- TieGroups: the model's. -/
import Derived.Test.YtpjjjbkjkhcbdaaGrpS
import Derived.Test.YtpjjjbkjkhcbdaaRuledO
import Derived.Test.YtpjjjbkjkhcbdaaBlkO
namespace Go.Proofs.Ytpjjjbkjkhcbdaa
open Go.RowKit
def groupR (js : List J) (o : Int) : List (List Int) × Bool := if ruledB js o then ((groupsL o js).map fun g => g.map Int.ofNat, true) else ([], false)
theorem groupR_bd (js : List J) (o : Int) : (groupR js o).1.length ≤ 1000 ∧ ((groupR js o).1.map ic).length ≤ 1000 ∧ totC ((groupR js o).1.map ic) ≤ 1000 ∧ (((groupR js o).1.map ic).map List.length).length ≤ 1000 ∧ (((groupR js o).1.map ic).map List.length).sum ≤ 1000 := by
  have h0 : (groupR js o).1.length ≤ 1000 ∧ (((groupR js o).1.map ic).map List.length).sum ≤ 1000 := by
    unfold groupR
    split
    · rename_i h
      have h8 := (good_out (ruled_good h)).1
      have hf := congrArg List.length (groups_flat o js)
      rw [List.length_flatten, ruledL_len] at hf
      have e : ((((groupsL o js).map fun g => g.map Int.ofNat).map ic).map List.length) = (groupsL o js).map List.length := by
        rw [List.map_map, List.map_map]
        congr 1
        funext g
        simp [ic_len]
      refine ⟨?_, by rw [e]; omega⟩
      show ((groupsL o js).map _).length ≤ 1000
      rw [List.length_map]
      rcases grpTo_shape o js js.length (Nat.le_refl _) with ⟨e2, _⟩ | ⟨pre, h, t, e2, _, hs⟩
      · rw [← grpTo_all, e2]; simp
      · rw [← grpTo_all, e2]
        simp only [List.length_append, List.length_cons, List.length_nil] at hs ⊢
        omega
    · simp
  obtain ⟨h1, h2⟩ := h0
  exact ⟨h1, by rw [List.length_map]; exact h1, h2, by rw [List.length_map, List.length_map]; exact h1, h2⟩
theorem OwnV.lowB {vs : List (Option Addr × Nat)} {B B' C : Nat} {w : World} {v : Value} {css : List (List Value)} (h : OwnV vs B' C w v css) (hB : B ≤ B') : OwnV vs B C w v css := ⟨h.1, own_low h.2.1 hB, h.2.2⟩
section
variable (A : Option Addr) (c : Nat) (js : List J) (o : Int) (w : World) (hr : Row w A (jc js)) (hn : js.length ≤ 10000000)
include hr hn
set_option maxRecDepth 100000 in
theorem spec_TieGroups : Calls Try.prog 54 #[.slice A js.length c, .int .i64 o] w (RetSSB w (groupR js o)) := by
  have HR : Hid (groupR js o = if ruledB js o then ((groupsL o js).map fun g => g.map Int.ofNat, true) else ([], false)) := rfl
  cases hu : ruledB js o
  · rw [hu] at HR
    go_enter Try.func54, Try.ntmps54
    go_wp2_with fail
    refine (l3Ruled_any A c js o _ hr hn).mono ?_
    rintro e w1 ⟨rfl, hb1⟩
    rw [hu]
    go_wp2
    go_ret2
    exact ret_emptySS HR.out hb1 _ rfl
  · rw [hu] at HR
    have HU := Lib.hid hu
    go_enter Try.func54, Try.ntmps54
    go_wp2_with fail
    refine (l3Ruled_any A c js o _ hr hn).mono ?_
    rintro e w1 ⟨rfl, hb1⟩
    rw [hu]
    go_wp2_with fail
    refine (l3Groups_any A c js o _ (hr.below hb1) (ruled_good HU.out) (isRule_of HU.out)).mono ?_
    rintro e w2 ⟨v, vs, C, rfl, hC, hV, hb2⟩
    have HO := Lib.hid (And.intro (hV.lowB hb1.size) (And.intro (Nat.le_trans hb1.size hC) (hb1.trans (hb2.mono hb1.size))))
    clear hV hC hb1 hb2 hu
    go_wp2
    go_ret2
    exact ret_ownSS HR.out HO.out.2.1 HO.out.1 HO.out.2.2 _ rfl
end
end Go.Proofs.Ytpjjjbkjkhcbdaa
