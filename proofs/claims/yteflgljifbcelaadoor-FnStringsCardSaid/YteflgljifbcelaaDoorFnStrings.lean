/- FormatInt and ParseInt are inverse, AppendChecksum and VerifyChecksum are inverse, and no text with one byte of a sealed text changed is accepted, at whatever the law draws: the law's function returns true. No condition but the row's own list of the library's tables (the card ties them). -/
import Derived.Test.YteflgljifbcelaaDoorCards
import Derived.Test.YteflgljifbcelaaDoorTie
import Derived.Deep.DeepHandedRow
import Derived.Lib.LaidTab
import Derived.Test.YteflgljifbcelaaDoorBase
import Derived.Test.YteflgljifbcelaaDoorTop1
import Derived.WalkKit
import Derived.ProofKit
import Derived.HandedShaped
import Derived.OpenShut
import Derived.ShutString
namespace Go.Proofs.YteflgljifbcelaaDoor.fnStrings
open Go.ChangeShapes Go.WideShapes Go.ChangeAt Go.RowKit Go.WideMaps Go.WideElems
open Go.ChangeMaps (open_string shut_string)
set_option linter.unusedVariables false

theorem own : ownKnob Tryd.prog.godebug = none := by kernel_rfl
theorem laidOut : laidOutB Tryd.prog = true := by kernel_rfl

theorem code_of {w : World} {a : Option Addr} {len cap : Nat} {zs : List Int} (h : IsInts .u8 w a len cap zs) (hl : len ≤ 65536) : Code w a len (zs.take len) := by
  rcases h with ⟨rfl, rfl, rfl, rfl⟩ | ⟨x, rfl, h1, h2, h3, hc, hwf⟩
  · exact ⟨Row.nil _, rfl, by simp, by omega⟩
  · refine ⟨fun hn => ⟨x, rfl, ?_, fun j u hu => ?_⟩, by simp; omega, fun z hz => bytes_bd hwf z (List.mem_of_mem_take hz), hl⟩
    · have := lt_of_cell (hc 0 (by simp at hn; omega))
      rwa [add_block] at this
    · rw [List.getElem?_map, Option.map_eq_some_iff] at hu
      obtain ⟨z, g1, rfl⟩ := hu
      obtain ⟨g2, g3⟩ := List.getElem?_eq_some_iff.1 g1
      have hj : j < zs.length := by simp at g2; omega
      rw [hc j hj]
      rw [List.getElem_take] at g3
      subst g3
      simp [List.getD, hj]
theorem code_drew {w w' : World} {A : Option Addr} {len : Nat} {zs : List Int} (h : Code w A len zs) (hb : Below w.heap.size w w') {n : Nat} : Code (w'.drewN n) A len zs := (h.below hb).below (below_drewN (Below.refl _ _) n)

set_option maxRecDepth 100000 in
set_option maxHeartbeats 2000000 in
/-- THE WALK: the law's function returns true and leaves what was there as it was. -/
theorem walk (a0 : Option Addr) (l0 c0 : Nat) (z0 : List Int) (w : World) (w0 : IsInts .u8 w a0 l0 c0 z0) (htab : PowTab w) (hshp : w.ShapedOpen Tryd.prog) :
    Calls Tryd.prog 3 #[.slice a0 l0 c0] w fun e w' => e = .returned (.bool true) ∧ Below w.heap.size w w' := by
  have hmax : l0 ≤ maxLen := by
    rcases w0 with ⟨_, rfl, _, _⟩ | ⟨x, _, h1, h2, _⟩
    · exact Nat.zero_le _
    · omega
  by_cases hbig : 65536 < l0
  · have hv := vBig_any a0 l0 c0 w hmax
    rw [show decide (65536 < l0) = true by simpa using hbig] at hv
    have HV := Lib.hid hv
    clear hv
    go_enter Tryd.func3, Tryd.ntmps3
    go_wp2_with (go_at_call 8; refine (HV.out).mono ?_; rintro e w' ⟨rfl, rfl⟩)
    go_ret
    exact ⟨rfl, Below.refl _ _⟩
  · have hv := vBig_any a0 l0 c0 w hmax
    rw [show decide (65536 < l0) = false by simpa using hbig] at hv
    have HV := Lib.hid hv
    have HC := Lib.hid (code_of w0 (by omega))
    generalize z0.take l0 = zs at HC
    clear hv w0
    go_enter Tryd.func3, Tryd.ntmps3
    go_wp2_with (go_at_call 8; refine (HV.out).mono ?_; rintro e w' ⟨rfl, rfl⟩)
    refine (DrawFormatInt_any a0 l0 c0 zs _ HC.out).mono ?_
    rintro e w1 ⟨n, rfl, hn0, hn1, hb1⟩
    obtain ⟨s, ok, hF1, hF2, hss, hF3⟩ := fmt_both n
    have G1 := Lib.hid hF1; have G2 := Lib.hid hF2; have G3 := Lib.hid hF3; have HB1 := Lib.hid hb1
    clear hF1 hF2 hF3 hb1
    go_wp2_with fail
    refine (G2.out _ (htab.below HB1.out)).mono ?_
    rintro e w2 ⟨rfl, hb2⟩
    have HB2 := Lib.hid (HB1.out.trans (hb2.mono HB1.out.size))
    clear hb2
    go_wp2_with fail
    refine (G1.out _).mono ?_
    rintro e w3 ⟨rfl, m3, rfl⟩
    have HB3 := Lib.hid (below_drewN HB2.out m3)
    go_wp2_with fail
    refine (DrawParseInt_any a0 l0 c0 zs _ (HC.out.below HB3.out)).mono ?_
    rintro e w4 ⟨t, rfl, ht, hb4⟩
    have HB4 := Lib.hid (HB3.out.trans (hb4.mono HB3.out.size))
    obtain ⟨m, fine, hP1, hP2, _⟩ := parse_both t (by unfold maxLen; omega)
    have P1 := Lib.hid hP1; have P2 := Lib.hid hP2
    clear hP1 hP2 hb4
    go_wp2_with fail
    refine (P2.out _ (htab.below HB4.out)).mono ?_
    rintro e w5 ⟨rfl, hb5⟩
    have HB5 := Lib.hid (HB4.out.trans (hb5.mono HB4.out.size))
    clear hb5
    go_wp2_with fail
    refine (P1.out _).mono ?_
    rintro e w6 ⟨rfl, m6, rfl⟩
    have HB6 := Lib.hid (below_drewN HB5.out m6)
    go_wp2_with fail
    refine (DrawAppendChecksum_any a0 l0 c0 zs _ (HC.out.below HB6.out)).mono ?_
    rintro e w7 ⟨x, rfl, hx, hb7⟩
    have HB7 := Lib.hid (HB6.out.trans (hb7.mono HB6.out.size))
    obtain ⟨y, sealed, hA1, hA2, hA3⟩ := append_both x (by unfold maxLen; omega)
    have A1 := Lib.hid hA1; have A2 := Lib.hid hA2; have A3 := Lib.hid hA3
    clear hA1 hA2 hA3 hb7
    go_wp2_with fail
    refine (A2.out _ (htab.below HB7.out)).mono ?_
    rintro e w8 ⟨rfl, hb8⟩
    have HB8 := Lib.hid (HB7.out.trans (hb8.mono HB7.out.size))
    clear hb8
    go_wp2_with fail
    refine (A1.out _).mono ?_
    rintro e w9 ⟨rfl, m9, rfl⟩
    have HB9 := Lib.hid (below_drewN HB8.out m9)
    obtain ⟨m', fine', _, hQ2, hQ3⟩ := parse_both s (by unfold maxLen; omega)
    have Q2 := Lib.hid hQ2
    have HQ : Hid (ok = true → m' = n ∧ fine' = true) := fun h => hQ3 n (G3.out h).2 (G3.out h).1
    clear hQ2 hQ3
    go_wp2_with fail
    refine (Q2.out _ (htab.below HB9.out)).mono ?_
    rintro e w10 ⟨rfl, hb10⟩
    have HB10 := Lib.hid (HB9.out.trans (hb10.mono HB9.out.size))
    clear hb10
    have back : ok = false ∨ (ok = true ∧ m' = n ∧ fine' = true) := by
      cases ok with
      | false => exact .inl rfl
      | true => exact .inr ⟨rfl, HQ.out rfl⟩
    rcases A3.out with ⟨rfl, hcan, rfl⟩ | ⟨rfl, rfl⟩
    · have HCAN := Lib.hid hcan
      clear hcan A3 A1 A2 G1 G2 G3 P1 P2 Q2 HQ
      rcases back with rfl | ⟨rfl, rfl, rfl⟩
      all_goals
        go_wp2_with fail
        refine (impl_Verify_ok x _ (shaped_below hshp HB10.out) (htab.below HB10.out) HCAN.out).mono ?_
        rintro e w11 ⟨rfl, hb11⟩
        have HB11 := Lib.hid (HB10.out.trans (hb11.mono HB10.out.size))
        clear hb11
        obtain ⟨g, cap, wb, hconv, hbw, hg, hcell, hfz⟩ := bytes_of w11 (sealB x)
        have HB12 := Lib.hid (HB11.out.trans (hbw.mono HB11.out.size))
        have HCELL := Lib.hid hcell
        have HFZ := Lib.hid hfz
        clear hbw hcell hfz
        go_wp2_with fail
        clear hconv
        refine (vAt_any a0 l0 c0 zs _ 9 (HC.out.below HB12.out) (by omega) (by omega)).mono ?_
        rintro e w13 ⟨r, rfl, hr0, hr1, rfl⟩
        have hpos : 0 < (sealB x).size := by rw [sealB_size]; omega
        have hup : (sealB x).size ≤ 4000 := HCAN.out.2.2
        have hz : (((sealB x).size : Int) == 0) = false := by rw [beq_eq_false_iff_ne]; omega
        have hm0 := Int.emod_nonneg r (show ((sealB x).size : Int) ≠ 0 by omega)
        have hm1 := Int.emod_lt_of_pos r (show (0 : Int) < (sealB x).size by omega)
        go_wp2_with fail
        obtain ⟨k, hk⟩ := Int.eq_ofNat_of_zero_le hm0
        rw [hk] at hm1 ⊢
        clear hk hm0
        have hk1 : k < (sealB x).size := by omega
        have ck := HCELL.out k hk1
        have fk := HFZ.out k hk1
        have zb : ((sealB x)[k].toNat : Int) ≤ 255 := by have := (sealB x)[k].toNat_lt; omega
        have hi : (0 : Int) ≤ k := by omega
        go_region_with (go_at_call 19; refine (vAt_any a0 l0 c0 zs _ 10 (code_drew HC.out HB12.out) (by omega) (by omega)).mono ?_; rintro e w14 ⟨r2, rfl, hr20, hr21, rfl⟩)
        all_goals
          have hbk := changed_back wb x HCAN.out g cap k 1 hk1 r2 hr20 hr21 HCELL.out
          obtain ⟨y, hys, hno, hrun⟩ := hbk
          have HB14 := Lib.hid ((below_drewN HB12.out 1).setCell (p := ⟨g, k, none⟩) (Nat.le_trans HB11.out.size hg) (.int .u8 (bits BinOp.xor IntKind.u8 ((sealB x)[k].toNat : Int) (IntKind.u8.wrap (IntKind.i64.wrap (1 + r2.tmod 255))))))
          generalize (wb.drewN 1).setCell ⟨g, k, none⟩ (.int .u8 (bits BinOp.xor IntKind.u8 ((sealB x)[k].toNat : Int) (IntKind.u8.wrap (IntKind.i64.wrap (1 + r2.tmod 255))))) = W at *
          have HNO := Lib.hid hno
          have hy1 : y.size ≤ 1048576 := by omega
          clear hno hys ck fk
          go_wp2_with fail
          refine (impl_Verify_no y _ hy1 (shaped_below hshp HB14.out) (htab.below HB14.out) HNO.out).mono ?_
          rintro e w15 ⟨rfl, hb15⟩
          clear hrun
          go_wp2
          go_ret
          exact ⟨rfl, HB14.out.trans (hb15.mono HB14.out.size)⟩
    · clear A3 A1 A2 G1 G2 G3 P1 P2 Q2 HQ
      rcases back with rfl | ⟨rfl, rfl, rfl⟩
      all_goals
        go_wp2
        go_ret
        exact ⟨rfl, HB10.out⟩

/-- What the walk gives, for every argument that can be read and every world. -/
theorem contract (H : Type) (enc : TypeId × Value → H) (W : World) (base : Nat) (args : Array Value) (ds gs : List (DataW H)) (before : List MemPlace)
    (hval : ∀ (j : Nat) t v, Tryd.f3.params[j]? = some t → args[j]? = some v → Value.okWide Tryd.prog W .any base t v)
    (hW : DataW.Whole enc Tryd.prog Tryd.f3.params.toList Rows.fnStringsSpec.vars false W args.toList ds gs before) (hsh : W.ShapedOpen Tryd.prog) (hL : laidMetH Tryd.prog Rows.fnStringsRow.laid W) :
    Calls Tryd.prog 3 args W fun e W' => ∃ v, e = .returned v ∧ Rows.fnStringsSpec.post enc Tryd.prog Tryd.f3 false true false false W args v W' := by
  have hW' := hW
  obtain ⟨p, q, hA0, hV, rfl, hfz, hnd⟩ := hW
  have hA : DataW.TrodAll enc Tryd.prog W 0 (fun _ => true) true Tryd.f3.params.toList args.toList ds p := hA0
  rw [Tryd.params3] at hA hval
  obtain ⟨v0, vs0, d0, ds0, p0, q0, hargs, rfl, rfl, h0, r0⟩ := trodAll_cons hA
  obtain ⟨rfl, rfl, rfl⟩ := trodAll_nil r0
  obtain rfl : args = #[v0] := by cases args; simp_all
  obtain ⟨rfl, rfl⟩ := trodVars_none hV
  have k0 := h0
  have lt0 : ∀ x ∈ p0, x.block < W.heap.size := by obtain ⟨m, hm⟩ := k0; exact DataW.trod_lt m _ _ _ hm
  obtain ⟨a0, l0, c0, rfl⟩ := okWide_slice Tryd.underlying22 (hval 0 22 v0 rfl rfl)
  obtain ⟨z0, w0⟩ : ∃ zs, IsInts .u8 W a0 l0 c0 zs := by
    obtain ⟨fuel, hf⟩ := h0
    rcases open_ints Tryd.underlying22 Tryd.underlying5 (by kernel_rfl) hf with ⟨hcs, _⟩ | ⟨x, l, c, zs, hcs, _, hl, hm, hz, _, hcell, hwz⟩
    · simp [Value.cells] at hcs
      obtain ⟨rfl, rfl, rfl⟩ := hcs
      exact ⟨[], .inl ⟨rfl, rfl, rfl, rfl⟩⟩
    · simp [Value.cells] at hcs
      obtain ⟨rfl, rfl, rfl⟩ := hcs
      exact ⟨zs, .inr ⟨_, rfl, hl, hm, by simpa using hz, hcell, hwz⟩⟩
  have htab : PowTab W := powTab_laid 2 hL (by kernel_rfl)
  have hshp : W.ShapedOpen Tryd.prog := hsh
  clear hA0
  refine (walk a0 l0 c0 z0 W w0 htab hshp).mono fun e W' ⟨he, bel⟩ => ?_
  subst he
  exact ⟨_, rfl, _, _, _, [], _, [], hW', trodAll_mk1 (shut_bool Tryd.underlying4 _), (trodAll_cons_mk (Below.trod laidOut (by kernel_rfl) (of_decide_eq_true (by kernel_rfl)) k0 bel lt0) trodAll_mk0), rfl, bel.frame _, fun h => by cases h⟩

/-- A world for the witness: the settled one, the listed variables holding what their initialisers lay. -/
noncomputable def laidWorld (os : Os) : World :=
  { World.holding Tryd.prog os ⟨#[], #[], []⟩ with heap := ((((World.holding Tryd.prog os ⟨#[], #[], []⟩).heap.modify 2 fun
      | .cells _ t frozen => .cells #[.int .u8 0, .int .u8 1, .int .u8 28, .int .u8 2, .int .u8 29, .int .u8 14, .int .u8 24, .int .u8 3, .int .u8 30, .int .u8 22, .int .u8 20, .int .u8 15, .int .u8 25, .int .u8 17, .int .u8 4, .int .u8 8, .int .u8 31, .int .u8 27, .int .u8 13, .int .u8 23, .int .u8 21, .int .u8 19, .int .u8 16, .int .u8 7, .int .u8 26, .int .u8 12, .int .u8 18, .int .u8 6, .int .u8 11, .int .u8 5, .int .u8 10, .int .u8 9] t frozen
      | o => o).modify 3 fun
      | .cells _ t frozen => .cells #[.int .u8 0, .int .u8 1, .int .u8 56, .int .u8 2, .int .u8 57, .int .u8 49, .int .u8 28, .int .u8 3, .int .u8 61, .int .u8 58, .int .u8 42, .int .u8 50, .int .u8 38, .int .u8 29, .int .u8 17, .int .u8 4, .int .u8 62, .int .u8 47, .int .u8 59, .int .u8 36, .int .u8 45, .int .u8 43, .int .u8 51, .int .u8 22, .int .u8 53, .int .u8 39, .int .u8 33, .int .u8 30, .int .u8 24, .int .u8 18, .int .u8 12, .int .u8 5, .int .u8 63, .int .u8 55, .int .u8 48, .int .u8 27, .int .u8 60, .int .u8 41, .int .u8 37, .int .u8 16, .int .u8 46, .int .u8 35, .int .u8 44, .int .u8 21, .int .u8 52, .int .u8 32, .int .u8 23, .int .u8 11, .int .u8 54, .int .u8 26, .int .u8 40, .int .u8 15, .int .u8 34, .int .u8 20, .int .u8 31, .int .u8 10, .int .u8 25, .int .u8 14, .int .u8 19, .int .u8 9, .int .u8 13, .int .u8 8, .int .u8 7, .int .u8 6] t frozen
      | o => o).modify 1 fun
      | .cells _ t frozen => .cells #[.int .u64 1, .int .u64 10, .int .u64 100, .int .u64 1000, .int .u64 10000, .int .u64 100000, .int .u64 1000000, .int .u64 10000000, .int .u64 100000000, .int .u64 1000000000, .int .u64 10000000000, .int .u64 100000000000, .int .u64 1000000000000, .int .u64 10000000000000, .int .u64 100000000000000, .int .u64 1000000000000000, .int .u64 10000000000000000, .int .u64 100000000000000000, .int .u64 1000000000000000000, .int .u64 10000000000000000000] t frozen
      | o => o) }
theorem laid_met (os : Os) : laidMet Tryd.prog Rows.fnStringsRow.laid ((laidWorld os).forCall (fun _ _ => 0) ⟨#[], #[.slice none 0 0], []⟩).memory :=
  laidMet_of_run' 8 (by kernel_rfl) (by kernel_rfl)
theorem reads (os : Os) {H : Type} (enc : TypeId × Value → H) : ∃ places, DataW.whole enc Tryd.prog ((laidWorld os).forCall (fun _ _ => 0) ⟨#[], #[.slice none 0 0], []⟩).memory Tryd.f3.params.toList Rows.fnStringsSpec.vars false #[(.slice none 0 0 : Value)].toList 8 = some ([.nil], [], places) :=
  ⟨[], by kernel_rfl⟩

set_option maxRecDepth 100000 in
theorem lifted (os : Os) (started : os.Started) (H : Type) (enc : TypeId × Value → H) (F : Stop.Interp) :
    ReturnsInHanded {} Tryd.checked os 3 .any ((OpenSpec.ofChange Rows.fnStringsSpec).preRow enc Tryd.prog Tryd.f3 Rows.fnStringsRow.domain false Rows.fnStringsRow.laid) (((OpenSpec.ofChange Rows.fnStringsSpec).at F).post enc Tryd.prog Tryd.f3 false true false false) := by
  obtain ⟨places, hx⟩ := reads os enc
  refine returnsInHanded_of_row (C := Tryd.checked) (s := (OpenSpec.ofChange Rows.fnStringsSpec)) own started (by kernel_rfl) Tryd.func3
    (witness_row_at (enc := enc) (C := Tryd.checked) false (laidWorld os) #[.slice none 0 0] rfl (by kernel_rfl) (by kernel_rfl) (by kernel_rfl)
      (OpenSpec.preRow_of_cond 8 hx (by kernel_rfl) (fun k hk => by cases hk) (by kernel_rfl) (laid_met os))) ?_
  intro W base args ds gs before hval hW _ _ _ hL hsh _
  exact contract H enc W base args ds gs before hval hW hsh hL

theorem said : Rows.FnStringsSaid :=
  OpenClaim.holds_of_cond 3 Tryd.f3 rfl rfl rfl rfl rfl rfl rfl ⟨rfl, rfl, rfl, rfl, rfl⟩ rfl rfl rfl rfl rfl (by kernel_rfl) Tryd.func3 (by kernel_rfl)
    (of_decide_eq_true (by kernel_rfl)) (by unfold Func.isWrapper; first | (rw [if_pos (by decide +kernel)]; kernel_rfl) | (rw [if_neg (by decide +kernel)]; exact ⟨rfl, rfl⟩))
    (fun os started H enc _ F => by rw [OpenClaim.pre_eq_preRow]; exact lifted os started H enc F)

/-- No parameter wants a stand-in; the program's own looks are off: what the card asks. -/
theorem plain (f : FuncId) (fn : Func) (hf : Tryd.pinned.checked.prog.funcNamed "loop.example/g01103/laws.FnStrings" = some f) (hfn : Tryd.pinned.checked.prog.funcs[f]? = some fn) :
    false = Tryd.pinned.checked.prog.looks [] ∧ ∀ (j : Nat) t, fn.params[j]? = some t → Tryd.pinned.checked.prog.wantsStandIn t = false := by
  obtain rfl : f = 3 := Option.some.inj ((show Tryd.prog.funcNamed "loop.example/g01103/laws.FnStrings" = some 3 by kernel_rfl).symm.trans hf) |>.symm
  obtain rfl : fn = Tryd.f3 := (Option.some.inj (Tryd.func3.symm.trans hfn)).symm
  refine ⟨by kernel_rfl, fun j t ht => ?_⟩
  rw [Tryd.params3] at ht
  have hm := Array.mem_of_getElem? ht
  simp only [List.mem_toArray, List.mem_cons, List.not_mem_nil, or_false] at hm
  subst hm
  exact (show Tryd.prog.wantsStandIn 22 = false by kernel_rfl)

theorem proved : Rows.FnStringsCardSaid :=
  Claim7.holds_tied_plain_at .later [] _ _ _ _ said (fun _ h => by cases h) (by kernel_rfl) (fun _ h => by cases h) fnStrings_row_tie rfl ⟨rfl, rfl⟩ (by kernel_rfl) rfl plain (by kernel_rfl)
end Go.Proofs.YteflgljifbcelaaDoor.fnStrings
