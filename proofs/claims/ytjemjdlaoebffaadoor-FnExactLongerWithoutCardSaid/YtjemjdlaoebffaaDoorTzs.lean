/- bits.TrailingZeros where it stands in this program, at sets of at most eight jobs; the library's table as the row lists it. -/
import Derived.Test.YtjemjdlaoebffaaDoorBitP
import Derived.Test.YtjemjdlaoebffaaDoorMem
import Derived.Shelf.Spec.TrailingZeros
import Derived.Lib.LaidTab
namespace Go.Proofs
open Go.Shelf
def Tryd.laysTz_ren : Go.Shelf.Ren := ⟨fun | 29 => 212 | n => n, fun | 0 => 0 | 3 => 3 | 4 => 4 | 5 => 5 | 22 => 199 | 25 => 68 | 54 => 243 | n => n, fun | 1 => 1 | n => n⟩
theorem Tryd.laysTz : Go.Proofs.Lays7.n29 Tryd.prog Tryd.laysTz_ren := {
  mixed := by kernel_rfl
  f29 := Tryd.func212.trans (congrArg some (by kernel_rfl))
  t0 := Tryd.underlying0
  a0 := Tryd.isAgg0
  z0 := Tryd.sizeOf0
  v0 := Tryd.zeroValue0
  i0 := by kernel_rfl
  t3 := Tryd.underlying3
  a3 := Tryd.isAgg3
  z3 := Tryd.sizeOf3
  v3 := Tryd.zeroValue3
  i3 := by kernel_rfl
  t4 := Tryd.underlying4
  a4 := Tryd.isAgg4
  z4 := Tryd.sizeOf4
  v4 := Tryd.zeroValue4
  i4 := by kernel_rfl
  t5 := Tryd.underlying5
  a5 := Tryd.isAgg5
  z5 := Tryd.sizeOf5
  v5 := Tryd.zeroValue5
  i5 := by kernel_rfl
  t22 := Tryd.underlying199
  a22 := Tryd.isAgg199
  z22 := Tryd.sizeOf199
  v22 := Tryd.zeroValue199
  i22 := by kernel_rfl
  t25 := Tryd.underlying68
  a25 := Tryd.isAgg68
  z25 := Tryd.sizeOf68
  v25 := Tryd.zeroValue68
  i25 := by kernel_rfl
  t54 := Tryd.underlying243
  a54 := Tryd.isAgg243
  z54 := Tryd.sizeOf243
  g1 := by kernel_rfl }
end Go.Proofs
namespace Go.Proofs.YtjemjdlaoebffaaDoor
open Go.RowKit
/-- The library's table of places, as the row lists it. -/
def TzTab (w : World) : Prop := ∃ (cs : Array Value) (t : TypeId) (fr : Nat × Nat), w.heap[1]? = some (.cells cs t fr) ∧ ∀ j, j < 64 → cs[j]? = some (.int .u8 (Lib.deBruijn64tab.getD j 0))
theorem TzTab.below {w w' : World} (h : TzTab w) (hb : Below w.heap.size w w') : TzTab w' := by
  obtain ⟨cs, t, fr, h1, h2⟩ := h
  exact ⟨cs, t, fr, (hb.block _ (Array.getElem?_eq_some_iff.1 h1).1).trans h1, h2⟩
theorem TzTab.drewN {w : World} (h : TzTab w) (n : Nat) : TzTab (w.drewN n) := h
theorem TzTab.drew {w : World} (h : TzTab w) : TzTab w.drew := h
theorem TzTab.at_ {w : World} (h : TzTab w) : TabAt 1 Lib.deBruijn64tab w := by
  obtain ⟨cs, t, fr, h1, h2⟩ := h
  intro j hj
  have hl : Lib.deBruijn64tab.length = 64 := by decide
  have := h2 j (by omega)
  simp only [World.cell?, h1]
  exact this
theorem tabIs_laidV {P : Program} {W : World} {name : String} {k : IntKind} {zs : List Int} {g : Nat} {t e : TypeId} {n : Nat}
    (hg : P.globalNamed name = some g) (hty : (P.globals[g]?).map (·.type) = some t) (ht : P.underlying t = some (.array n e)) (he : P.underlying e = some (.int k)) (hce : P.cellsOf e = 1) (hct : P.cellsOf t = n) :
    ∀ (i : Nat) (laid : List (String × DataW Unit)) (ps : List MemPlace), DataW.LaidVars P W laid ps → laid[i]? = some (name, Lib.tabData k zs) → Lib.TabIs P W name k zs
  | _, [], _, _, h => by simp at h
  | 0, x :: rest, ps, hL, h => by
    obtain rfl : x = (name, Lib.tabData k zs) := by simpa using h
    obtain ⟨g', t', cs, fuel, p, q, hg', ht', hvar, hd, _, _⟩ := hL
    obtain rfl := Option.some.inj (hg.symm.trans hg')
    obtain rfl := Option.some.inj (hty.symm.trans ht')
    unfold Lib.TabIs
    rw [hvar, ← Lib.cells_of_tab ht he hce hct hd]
  | i + 1, x :: rest, ps, hL, h => by
    obtain ⟨g', t', cs, fuel, p, q, hg', ht', hvar, hd, hr, _⟩ := hL
    exact tabIs_laidV hg hty ht he hce hct i rest q hr (by simpa using h)
theorem tzTab_laid {W : World} {laid : List (String × DataW Unit)} (i : Nat) (h : laidMet Tryd.prog laid W) (hi : laid[i]? = some ("math/bits.deBruijn64tab", Lib.tabData .u8 (Lib.deBruijn64tab.map Int.ofNat))) : TzTab W := by
  obtain ⟨ps, hL, _⟩ := h
  have hv := tabIs_laidV (g := 1) (t := 243) (e := 5) (n := 64) (by kernel_rfl) (by kernel_rfl) Tryd.underlying243 Tryd.underlying5 (by kernel_rfl) (by kernel_rfl) i laid ps hL hi
  unfold Lib.TabIs World.var? at hv
  rw [show (Tryd.prog).globalNamed "math/bits.deBruijn64tab" = some 1 by kernel_rfl, Option.bind_some] at hv
  cases hh : W.heap[1]? with
  | none => rw [hh] at hv; cases hv
  | some o =>
    cases o with
    | cells cs t fr =>
      rw [hh] at hv
      injection hv with hv
      refine ⟨cs, t, fr, hh, fun j hj => ?_⟩
      have hl : Lib.deBruijn64tab.length = 64 := by decide
      have hj' : j < Lib.deBruijn64tab.length := by omega
      rw [hv]
      simp [List.getD, hj']
    | _ => rw [hh] at hv; cases hv
/-- The least job of a set. -/
def ctzB (s : Nat) : Nat := Lib.ctz 64 s
theorem ctz_facts : ∀ s, s < 256 → s ≠ 0 → ctzB s < 8 ∧ s.testBit (ctzB s) = true ∧ memB s = ctzB s :: memB (subB s (ctzB s)) ∧ subB s (ctzB s) < s := by decide +kernel
theorem tz64_any (s : Nat) (hs : s < 256) (w : World) (hT : TzTab w) :
    Calls Tryd.prog 212 #[.int .u64 (s : Int)] w fun e w' => e = .returned (.int .i64 (ctzB s : Int)) ∧ w = w' :=
  (Any7.bits_TrailingZeros64 Tryd.laysTz s (by omega) w (fun _ => hT.at_)).mono fun _ _ h => ⟨h.1, h.2.symm⟩
theorem tz_any (s : Nat) (hs : s < 256) (w : World) (hT : TzTab w) :
    Calls Tryd.prog 187 #[.int .u64 (s : Int)] w fun e w' => e = .returned (.int .i64 (ctzB s : Int)) ∧ w = w' := by
  have H := Lib.hid (tz64_any s hs w hT)
  go_enter Tryd.func187, Tryd.ntmps187
  go_wp2_with fail
  refine H.out.mono ?_
  rintro e _ ⟨rfl, rfl⟩
  go_wp2
  go_ret
  exact ⟨rfl, rfl⟩
theorem least_any (s : Nat) (hs : s < 256) (w : World) (hT : TzTab w) :
    Calls Tryd.prog 146 #[.int .u64 (s : Int)] w fun e w' => e = .returned (.int .i64 (ctzB s : Int)) ∧ w = w' := by
  have H := Lib.hid (tz_any s hs w hT)
  go_enter Tryd.func146, Tryd.ntmps146
  go_wp2_with fail
  refine H.out.mono ?_
  rintro e _ ⟨rfl, rfl⟩
  go_wp2
  go_ret
  exact ⟨rfl, rfl⟩
end Go.Proofs.YtjemjdlaoebffaaDoor
