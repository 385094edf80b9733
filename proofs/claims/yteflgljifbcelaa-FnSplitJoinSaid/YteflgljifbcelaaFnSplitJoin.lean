/- SplitString and JoinStrings are inverse, JoinStrings and LessString of the program and of the model agree, and LessString is a strict order, at whatever the law draws: the law's function returns true. No condition. -/
import Derived.Test.YteflgljifbcelaaRows
import Derived.Test.YteflgljifbcelaaBase
import Derived.Test.YteflgljifbcelaaSplitJoin
import Derived.WalkKit
import Derived.ProofKit
import Derived.HandedShaped
import Derived.OpenShut
import Derived.ShutString
namespace Go.Proofs.Yteflgljifbcelaa.fnSplitJoin
open Go.ChangeShapes Go.WideShapes Go.ChangeAt Go.RowKit Go.WideMaps Go.WideElems
open Go.ChangeMaps (open_string shut_string)
set_option linter.unusedVariables false

theorem own : ownKnob Try.prog.godebug = none := by kernel_rfl
theorem laidOut : laidOutB Try.prog = true := by kernel_rfl

theorem own_below {w w' : World} {B e size n : Nat} {v : Value} {xs : List Value} (h : w.ownsRow B e size v n xs) (hb : Below w.heap.size w w') : w'.ownsRow B e size v n xs :=
  h.kept (row := none) ⟨hb.os, hb.tape, hb.output, hb.size, fun k hk _ => hb.block k hk⟩ (by cases hv : v.ownBlock <;> simp)
theorem part_le (c : UInt8) : ∀ l : List UInt8, ∀ p ∈ splitL c l, p.length ≤ l.length
  | [], p, h => by simp [splitL] at h; subst h; simp
  | x :: l, p, h => by
    have ih := part_le c l
    unfold splitL at h
    by_cases hx : x = c
    · rw [if_pos hx] at h
      rcases List.mem_cons.1 h with rfl | h
      · simp
      · have := ih p h; simp; omega
    · rw [if_neg hx] at h
      cases hs : splitL c l with
      | nil => exact absurd hs (splitL_ne c l)
      | cons q qs =>
        rw [hs] at h
        simp only at h
        rcases List.mem_cons.1 h with rfl | h
        · have := ih q (by rw [hs]; exact List.mem_cons_self); simp; omega
        · have := ih p (by rw [hs]; exact List.mem_cons_of_mem _ h); simp; omega

set_option maxRecDepth 100000 in
set_option maxHeartbeats 2000000 in
/-- THE WALK: the law's function returns true and leaves what was there as it was. -/
theorem walk (a0 : Option Addr) (l0 c0 : Nat) (z0 : List Int) (w : World) (w0 : IsInts .u8 w a0 l0 c0 z0)  :
    Calls Try.prog 3 #[.slice a0 l0 c0] w fun e w' => e = .returned (.bool true) ∧ Below w.heap.size w w' := by
  have hmax : l0 ≤ maxLen := by
    rcases w0 with ⟨_, rfl, _, _⟩ | ⟨x, _, h1, h2, _⟩
    · exact Nat.zero_le _
    · omega
  by_cases hbig : 65536 < l0
  · have hv := vBig_any a0 l0 c0 w hmax
    rw [show decide (65536 < l0) = true by simpa using hbig] at hv
    have HV := Lib.hid hv
    clear hv
    go_enter Try.func3, Try.ntmps3
    go_wp2_with (go_at_call 8; refine (HV.out).mono ?_; rintro e w' ⟨rfl, rfl⟩)
    go_ret
    exact ⟨rfl, Below.refl _ _⟩
  · have hv := vBig_any a0 l0 c0 w hmax
    rw [show decide (65536 < l0) = false by simpa using hbig] at hv
    have HV := Lib.hid hv
    have HC := Lib.hid (code_of w0 (by omega))
    generalize z0.take l0 = zs at HC
    clear hv w0
    go_enter Try.func3, Try.ntmps3
    go_wp2_with (go_at_call 8; refine (HV.out).mono ?_; rintro e w' ⟨rfl, rfl⟩)
    refine (DrawSplitString_any a0 l0 c0 zs _ HC.out).mono ?_
    rintro e w1 ⟨s, sep, rfl, hs, hsep, hb1⟩
    have HB1 := Lib.hid hb1
    obtain ⟨ps, ok, _, hI, hlen, hcase⟩ := split_both s sep (by omega) (by omega)
    have HI := Lib.hid hI; have HCASE := Lib.hid hcase
    clear hb1 hI hcase
    go_wp2_with fail
    refine (HI.out _).mono ?_
    rintro e w2 ⟨v2, rfl, hown2, hbel2⟩
    obtain ⟨A2, c2, rfl, _, hr2⟩ := own_slice hown2
    have HO2 := Lib.hid hown2
    have HB2 := Lib.hid (HB1.out.trans (hbel2.mono HB1.out.size))
    clear hown2 hbel2 hr2
    go_wp2_with fail
    refine (DrawJoinStrings_any a0 l0 c0 zs _ (HC.out.below HB2.out)).mono ?_
    rintro e w3 ⟨v3, xs, y, rfl, hxl, hxs, hy, hown3, hbel3⟩
    obtain ⟨A3, c3, rfl, _, hr3⟩ := own_slice hown3
    have HO3 := Lib.hid hown3
    have HR3 := Lib.hid hr3
    have HX3 := Lib.hid hxs
    have HO2' := Lib.hid (own_below HO2.out hbel3)
    have HB3 := Lib.hid (HB2.out.trans (hbel3.mono HB2.out.size))
    clear hown3 hbel3 hr3 hxs
    go_wp2_with fail
    refine (impl_Join_own A3 c3 _ xs y _ HO3.out (by omega) (fun x hx => by have := HX3.out x hx; omega) (by omega)).mono ?_
    rintro e4 w4 ⟨hans4, hbel4⟩
    obtain ⟨j, fine, rfl⟩ : ∃ j b, e4 = .returned (.tuple #[.string j, .bool b]) := by
      obtain ⟨j, b, h, _⟩ := hans4.same hans4; exact ⟨j, b, h⟩
    have HA4 := Lib.hid hans4
    have HO4 := Lib.hid (own_below HO2'.out hbel4)
    have HB4 := Lib.hid (HB3.out.trans (hbel4.mono HB3.out.size))
    have HR4 := Lib.hid (HR3.out.below hbel4)
    clear hans4 hbel4
    go_wp2_with fail
    refine (spec_Join A3 c3 xs y _ HR4.out (by omega) (fun x hx => by have := HX3.out x hx; omega) (by omega)).mono ?_
    rintro e5 w5 ⟨hans5, hbel5⟩
    obtain ⟨j', fine', h1, rfl⟩ := HA4.out.same hans5
    obtain ⟨rfl, rfl⟩ : j = j' ∧ fine = fine' := by simpa using h1
    have HO5 := Lib.hid (own_below HO4.out hbel5)
    have HB5 := Lib.hid (HB4.out.trans (hbel5.mono HB4.out.size))
    clear hans5 hbel5 h1
    go_wp2_with fail
    refine (DrawLessString_any a0 l0 c0 zs _ (HC.out.below HB5.out)).mono ?_
    rintro e w6 ⟨a, b, rfl, ha, hb, hbel6⟩
    have HO6 := Lib.hid (own_below HO5.out hbel6)
    have HB6 := Lib.hid (HB5.out.trans (hbel6.mono HB5.out.size))
    clear hbel6 HI HO2 HO2' HO3 HR3 HR4 HA4 HO4 HO5 HB1 HB2 HB3 HB4 HB5
    have L1 : ∀ w, Calls Try.prog 15 #[.string a, .string b] w fun e w' => e = .returned (.bool (lessB a b)) ∧ w = w' := fun w => impl_Less a b w
    have L2 : ∀ w, Calls Try.prog 16 #[.string a, .string b] w fun e w' => e = .returned (.bool (lessB a b)) ∧ w = w' := fun w => spec_Less a b w
    have L3 : ∀ w, Calls Try.prog 15 #[.string b, .string a] w fun e w' => e = .returned (.bool (lessB b a)) ∧ w = w' := fun w => impl_Less b a w
    have hasym := lessB_asymm a b
    generalize lessB a b = ab at *
    generalize lessB b a = ba at *
    have K1 := Lib.hid L1; have K2 := Lib.hid L2; have K3 := Lib.hid L3
    clear L1 L2 L3
    have hab : ab = false ∨ (ab = true ∧ ba = false) := by
      cases ab with
      | false => exact .inl rfl
      | true => exact .inr ⟨rfl, hasym rfl⟩
    clear hasym
    rcases HCASE.out with ⟨rfl, c, rfl, _, hps⟩ | ⟨rfl, rfl, hbad⟩
    · have hjb : ∀ w, w.ownsRow w1.heap.size 9 1 (.slice A2 ps.length c2) ps.length (ps.map Value.string) → Calls Try.prog 12 #[.slice A2 ps.length c2, .string ⟨#[c]⟩] w fun e w' => e = .returned (.tuple #[.string s, .bool true]) ∧ Below w.heap.size w w' := fun w h =>
        (impl_Join_own A2 c2 _ ps ⟨#[c]⟩ w h (by omega) (fun x hx => by
          rw [hps] at hx
          obtain ⟨p, hp, rfl⟩ := List.mem_map.1 hx
          have := part_le c s.data.toList p hp
          rw [size_toList] at this
          show Array.size _ ≤ _
          simp
          omega) (by omega)).mono fun e w' ⟨g1, g2⟩ => ⟨joined_back (by omega) (hps ▸ g1), g2⟩
      have HJB := Lib.hid hjb
      clear hjb hps HCASE
      rcases hab with rfl | ⟨rfl, rfl⟩
      all_goals
        go_wp2_with fail
        refine (K1.out _).mono ?_
        rintro e w' ⟨rfl, rfl⟩
        go_wp2_with fail
        refine (K2.out _).mono ?_
        rintro e w' ⟨rfl, rfl⟩
        go_wp2_with fail
        refine (K1.out _).mono ?_
        rintro e w' ⟨rfl, rfl⟩
        go_wp2_with fail
        try (refine (K3.out _).mono ?_; rintro e w' ⟨rfl, rfl⟩; go_wp2_with fail)
        refine (HJB.out _ HO6.out).mono ?_
        rintro e w7 ⟨rfl, hbel7⟩
        go_wp2
        go_ret
        exact ⟨rfl, HB6.out.trans (hbel7.mono HB6.out.size)⟩
    · have hne : sep.size ≠ 1 := by rcases hbad with h | h; omega; exact h
      have hne1 : ((sep.size : Int) != 1) = true := by simp; omega
      clear hbad HCASE hne
      rcases hab with rfl | ⟨rfl, rfl⟩
      all_goals
        go_wp2_with fail
        refine (K1.out _).mono ?_
        rintro e w' ⟨rfl, rfl⟩
        go_wp2_with fail
        refine (K2.out _).mono ?_
        rintro e w' ⟨rfl, rfl⟩
        go_wp2_with fail
        refine (K1.out _).mono ?_
        rintro e w' ⟨rfl, rfl⟩
        go_wp2_with fail
        try (refine (K3.out _).mono ?_; rintro e w' ⟨rfl, rfl⟩; go_wp2)
        go_ret
        exact ⟨rfl, HB6.out⟩

/-- What the walk gives, for every argument that can be read and every world. -/
theorem contract (H : Type) (enc : TypeId × Value → H) (W : World) (base : Nat) (args : Array Value) (ds gs : List (DataW H)) (before : List MemPlace)
    (hval : ∀ (j : Nat) t v, Try.f3.params[j]? = some t → args[j]? = some v → Value.okWide Try.prog W .any base t v)
    (hW : DataW.Whole enc Try.prog Try.f3.params.toList Rows.fnSplitJoinSpec.vars false W args.toList ds gs before) (hsh : W.ShapedOpen Try.prog) :
    Calls Try.prog 3 args W fun e W' => ∃ v, e = .returned v ∧ Rows.fnSplitJoinSpec.post enc Try.prog Try.f3 false true false false W args v W' := by
  have hW' := hW
  obtain ⟨p, q, hA0, hV, rfl, hfz, hnd⟩ := hW
  have hA : DataW.TrodAll enc Try.prog W 0 (fun _ => true) true Try.f3.params.toList args.toList ds p := hA0
  rw [Try.params3] at hA hval
  obtain ⟨v0, vs0, d0, ds0, p0, q0, hargs, rfl, rfl, h0, r0⟩ := trodAll_cons hA
  obtain ⟨rfl, rfl, rfl⟩ := trodAll_nil r0
  obtain rfl : args = #[v0] := by cases args; simp_all
  obtain ⟨rfl, rfl⟩ := trodVars_none hV
  have k0 := h0
  have lt0 : ∀ x ∈ p0, x.block < W.heap.size := by obtain ⟨m, hm⟩ := k0; exact DataW.trod_lt m _ _ _ hm
  obtain ⟨a0, l0, c0, rfl⟩ := okWide_slice Try.underlying22 (hval 0 22 v0 rfl rfl)
  obtain ⟨z0, w0⟩ : ∃ zs, IsInts .u8 W a0 l0 c0 zs := by
    obtain ⟨fuel, hf⟩ := h0
    rcases open_ints Try.underlying22 Try.underlying5 (by kernel_rfl) hf with ⟨hcs, _⟩ | ⟨x, l, c, zs, hcs, _, hl, hm, hz, _, hcell, hwz⟩
    · simp [Value.cells] at hcs
      obtain ⟨rfl, rfl, rfl⟩ := hcs
      exact ⟨[], .inl ⟨rfl, rfl, rfl, rfl⟩⟩
    · simp [Value.cells] at hcs
      obtain ⟨rfl, rfl, rfl⟩ := hcs
      exact ⟨zs, .inr ⟨_, rfl, hl, hm, by simpa using hz, hcell, hwz⟩⟩

  clear hA0
  refine (walk a0 l0 c0 z0 W w0 ).mono fun e W' ⟨he, bel⟩ => ?_
  subst he
  exact ⟨_, rfl, _, _, _, [], _, [], hW', trodAll_mk1 (shut_bool Try.underlying4 _), (trodAll_cons_mk (Below.trod laidOut (by kernel_rfl) (of_decide_eq_true (by kernel_rfl)) k0 bel lt0) trodAll_mk0), rfl, bel.frame _, fun h => by cases h⟩

set_option maxRecDepth 100000 in
theorem lifted (os : Os) (started : os.Started) (H : Type) (enc : TypeId × Value → H) :
    ReturnsInHanded {} Try.checked os 3 .any (Rows.fnSplitJoinSpec.pre6 enc Try.prog Try.f3 Rows.fnSplitJoinRow.domain false) (Rows.fnSplitJoinSpec.post enc Try.prog Try.f3 false true false false) := by
  refine returnsInHanded_of_change_shaped (C := Try.checked) own started (by kernel_rfl) Try.func3
    (ChangeSpec.witness6 (enc := enc) (C := Try.checked) false ⟨#[], #[.slice none 0 0], []⟩ 8 (by kernel_rfl) (by kernel_rfl) (by kernel_rfl) (by kernel_rfl)) ?_
  intro W base args ds gs before hval hW _ _ hsh _
  exact contract H enc W base args ds gs before hval hW hsh

theorem proved : Rows.FnSplitJoinSaid :=
  OpenClaim.holds_of_wide 3 Try.f3 rfl rfl rfl rfl rfl rfl rfl ⟨rfl, rfl, rfl, rfl, rfl⟩ rfl rfl rfl rfl rfl (by kernel_rfl) Try.func3 (by kernel_rfl)
    (of_decide_eq_true (by kernel_rfl)) (by unfold Func.isWrapper; first | (rw [if_pos (by decide +kernel)]; kernel_rfl) | (rw [if_neg (by decide +kernel)]; exact ⟨rfl, rfl⟩))
    (fun os started H enc _ => lifted os started H enc)
end Go.Proofs.Yteflgljifbcelaa.fnSplitJoin
