/- JoinStrings of the program and of the model agree at every list of strings and every separator, the argument is left as it was, and the law's function returns true. No condition. -/
import Derived.Test.YteflgljifbcelaaRows
import Derived.Test.YteflgljifbcelaaBase
import Derived.Test.YteflgljifbcelaaJoin
import Derived.WalkKit
import Derived.ProofKit
import Derived.HandedShaped
import Derived.OpenShut
import Derived.ShutString
namespace Go.Proofs.Yteflgljifbcelaa.fnExactJoinStrings
open Go.ChangeShapes Go.WideShapes Go.ChangeAt Go.RowKit Go.WideMaps Go.WideElems
open Go.ChangeMaps (open_string shut_string)
set_option linter.unusedVariables false

theorem own : ownKnob Try.prog.godebug = none := by kernel_rfl
theorem laidOut : laidOutB Try.prog = true := by kernel_rfl

theorem mem_lenSum {xs : List ByteArray} {s : ByteArray} (h : s ∈ xs) : s.size ≤ lenSum xs := by
  induction xs with
  | nil => cases h
  | cons x xs ih =>
    unfold lenSum at *
    rw [List.map_cons, List.sum_cons]
    rcases List.mem_cons.1 h with rfl | h
    · omega
    · have := ih h; omega

/-- THE WALK: the law's function returns true and leaves what was there as it was. -/
theorem walk (a0 : Option Addr) (l0 c0 : Nat) (z0 : List ByteArray) (a1 : ByteArray) (w1 : a1.size ≤ maxLen) (w : World) (w0 : IsStrs w a0 l0 c0 z0)  :
    Calls Try.prog 5 #[.slice a0 l0 c0, .string a1] w fun e w' => e = .returned (.bool true) ∧ Below w.heap.size w w' := by
  obtain ⟨hr, hlen, hmax, hsz⟩ := w0.row
  generalize z0.take l0 = xs at hr hlen hsz
  subst hlen
  clear w0
  have hm1 := w1
  unfold maxLen at hm1
  by_cases hbig : 1048576 < a1.size
  · go_enter Try.func5, Try.ntmps5
    go_wp2
    go_ret
    exact ⟨rfl, Below.refl _ _⟩
  · go_enter Try.func5, Try.ntmps5
    go_wp2_with fail
    refine (szStringS_any a0 c0 xs 1048576 _ hr hmax hsz (by omega) (by omega)).mono ?_
    rintro e w1 ⟨⟨r, rfl, hr0, hsum⟩ | rfl, rfl⟩
    · have hn : xs.length ≤ 100000000 := by omega
      have hss : ∀ s ∈ xs, s.size ≤ 100000000 := fun s hm => by have := mem_lenSum hm; omega
      have HSZ := Lib.hid hss
      have HR := Lib.hid hr
      have hz : a1.size ≤ 100000000 := by omega
      have hr1 : ¬ r < 0 := by omega
      clear hss hsum hsz hmax hr
      go_wp2_with fail
      refine (toStringS_any a0 c0 xs _ HR.out hn).mono ?_
      rintro e w1 ⟨g1, rfl, hg1, hown1, hb1⟩
      have HO1 := Lib.hid hown1; clear hown1
      go_wp2_with fail
      refine (spec_Join _ _ xs a1 _ (Row.of_own HO1.out) hn HSZ.out hz).mono ?_
      rintro e1 w2 ⟨hans1, hb2⟩
      have hB2 := hb1.trans (hb2.mono hb1.size)
      clear HO1
      obtain ⟨s, b, rfl⟩ : ∃ s b, e1 = .returned (.tuple #[.string s, .bool b]) := by
        obtain ⟨s, b, h, _⟩ := hans1.same hans1; exact ⟨s, b, h⟩
      have HA1 := Lib.hid hans1; clear hans1
      go_wp2_with fail
      refine (toStringS_any a0 c0 xs _ (HR.out.below hB2) hn).mono ?_
      rintro e w3 ⟨g3, rfl, hg3, hown3, hb3⟩
      have HO3 := Lib.hid hown3; clear hown3
      go_wp2_with fail
      refine (impl_Join g3 0 _ xs a1 _ (Row.of_own HO3.out) hn HSZ.out hz (Nat.le_refl _)).mono ?_
      rintro e2 w4 ⟨hans2, hb4⟩
      obtain ⟨s', b', h1, rfl⟩ := HA1.out.same hans2
      obtain ⟨rfl, rfl⟩ : s = s' ∧ b = b' := by simpa using h1
      clear hans2 h1
      have hB3 := hB2.trans (hb3.mono hB2.size)
      have hB4 := hB3.trans (hb4.mono hB3.size)
      have HB4 := Lib.hid hB4
      go_wp2_with fail
      refine (toStringS_any a0 c0 xs _ (HR.out.below HB4.out) hn).mono ?_
      rintro e w5 ⟨g5, rfl, hg5, hown5, hb5⟩
      have HO5 := Lib.hid hown5; clear hown5
      go_wp2_with fail
      refine (eqStringS_same _ _ _ _ xs _ (((Row.of_own HO3.out).below hb4).below hb5) (Row.of_own HO5.out) hn).mono ?_
      rintro e w6 ⟨rfl, m, rfl⟩
      go_wp2
      go_ret
      exact ⟨rfl, below_drewN (HB4.out.trans (hb5.mono HB4.out.size)) _⟩
    · go_wp2
      go_ret
      exact ⟨rfl, Below.refl _ _⟩

/-- What the walk gives, for every argument that can be read and every world. -/
theorem contract (H : Type) (enc : TypeId × Value → H) (W : World) (base : Nat) (args : Array Value) (ds gs : List (DataW H)) (before : List MemPlace)
    (hval : ∀ (j : Nat) t v, Try.f5.params[j]? = some t → args[j]? = some v → Value.okWide Try.prog W .any base t v)
    (hW : DataW.Whole enc Try.prog Try.f5.params.toList Rows.fnExactJoinStringsSpec.vars false W args.toList ds gs before) (hsh : W.ShapedOpen Try.prog) :
    Calls Try.prog 5 args W fun e W' => ∃ v, e = .returned v ∧ Rows.fnExactJoinStringsSpec.post enc Try.prog Try.f5 false true false false W args v W' := by
  have hW' := hW
  obtain ⟨p, q, hA0, hV, rfl, hfz, hnd⟩ := hW
  have hA : DataW.TrodAll enc Try.prog W 0 (fun _ => true) true Try.f5.params.toList args.toList ds p := hA0
  rw [Try.params5] at hA hval
  obtain ⟨v0, vs0, d0, ds0, p0, q0, hargs, rfl, rfl, h0, r0⟩ := trodAll_cons hA
  obtain ⟨v1, vs1, d1, ds1, p1, q1, rfl, rfl, rfl, h1, r1⟩ := trodAll_cons r0
  obtain ⟨rfl, rfl, rfl⟩ := trodAll_nil r1
  obtain rfl : args = #[v0, v1] := by cases args; simp_all
  obtain ⟨rfl, rfl⟩ := trodVars_none hV
  have k0 := h0
  have lt0 : ∀ x ∈ p0, x.block < W.heap.size := by obtain ⟨m, hm⟩ := k0; exact DataW.trod_lt m _ _ _ hm
  have k1 := h1
  have lt1 : ∀ x ∈ p1, x.block < W.heap.size := by obtain ⟨m, hm⟩ := k1; exact DataW.trod_lt m _ _ _ hm
  obtain ⟨a0, l0, c0, rfl⟩ := okWide_slice Try.underlying26 (hval 0 26 v0 rfl rfl)
  obtain ⟨z0, w0⟩ : ∃ zs, IsStrs W a0 l0 c0 zs := by
    obtain ⟨fuel, hf⟩ := h0
    rcases open_strings Try.underlying26 Try.underlying9 (by kernel_rfl) hf with ⟨hcs, _⟩ | ⟨x, l, c, zs, hcs, _, hl, hm, hz, _, hcell, hwz⟩
    · simp [Value.cells] at hcs
      obtain ⟨rfl, rfl, rfl⟩ := hcs
      exact ⟨[], .inl ⟨rfl, rfl, rfl, rfl⟩⟩
    · simp [Value.cells] at hcs
      obtain ⟨rfl, rfl, rfl⟩ := hcs
      exact ⟨zs, .inr ⟨_, rfl, hl, hm, by simpa using hz, hcell, hwz⟩⟩
  obtain ⟨a1, rfl, rfl, rfl, w1⟩ := open_string Try.underlying9 (hval 1 9 v1 rfl rfl) h1

  clear hA0
  refine (walk a0 l0 c0 z0 a1 w1 W w0 ).mono fun e W' ⟨he, bel⟩ => ?_
  subst he
  exact ⟨_, rfl, _, _, _, [], _, [], hW', trodAll_mk1 (shut_bool Try.underlying4 _), (trodAll_cons_mk (Below.trod laidOut (by kernel_rfl) (of_decide_eq_true (by kernel_rfl)) k0 bel lt0) (trodAll_cons_mk (Below.trod laidOut (by kernel_rfl) (of_decide_eq_true (by kernel_rfl)) k1 bel lt1) trodAll_mk0)), rfl, bel.frame _, fun h => by cases h⟩

set_option maxRecDepth 100000 in
theorem lifted (os : Os) (started : os.Started) (H : Type) (enc : TypeId × Value → H) :
    ReturnsInHanded {} Try.checked os 5 .any (Rows.fnExactJoinStringsSpec.pre6 enc Try.prog Try.f5 Rows.fnExactJoinStringsRow.domain false) (Rows.fnExactJoinStringsSpec.post enc Try.prog Try.f5 false true false false) := by
  refine returnsInHanded_of_change_shaped (C := Try.checked) own started (by kernel_rfl) Try.func5
    (ChangeSpec.witness6 (enc := enc) (C := Try.checked) false ⟨#[], #[.slice none 0 0, .string ByteArray.empty], []⟩ 8 (by kernel_rfl) (by kernel_rfl) (by kernel_rfl) (by kernel_rfl)) ?_
  intro W base args ds gs before hval hW _ _ hsh _
  exact contract H enc W base args ds gs before hval hW hsh

theorem proved : Rows.FnExactJoinStringsSaid :=
  OpenClaim.holds_of_wide 5 Try.f5 rfl rfl rfl rfl rfl rfl rfl ⟨rfl, rfl, rfl, rfl, rfl⟩ rfl rfl rfl rfl rfl (by kernel_rfl) Try.func5 (by kernel_rfl)
    (of_decide_eq_true (by kernel_rfl)) (by unfold Func.isWrapper; first | (rw [if_pos (by decide +kernel)]; kernel_rfl) | (rw [if_neg (by decide +kernel)]; exact ⟨rfl, rfl⟩))
    (fun os started H enc _ => lifted os started H enc)
end Go.Proofs.Yteflgljifbcelaa.fnExactJoinStrings
