/- MixVectors: the model's. -/
import Derived.Test.YtpoibjmkbljblaaMvP
import Derived.Test.YtpoibjmkbljblaaAppW
import Derived.Test.YtpoibjmkbljblaaOwnSS
namespace Go.Proofs.Ytpoibjmkbljblaa
set_option linter.unusedSimpArgs false
set_option linter.unusedVariables false
set_option linter.unusedSectionVars false
open Go.RowKit
theorem infoM : (Try.prog.info? 3).map (fun i => (i.zero, i.size, i.bytes)) = some (some (.int .i64 0), 1, 8) := by kernel_rfl
theorem ret_ownM {w w' : World} {r : List Int × Bool} {p : List Int} {n : Nat} {v : Value} {b : Bool} (hr : r = (p, b)) (hn : p.length = n) (ho : w'.ownsRow w.heap.size 3 1 v n (ic p)) (hb : Below w.heap.size w w') (e : Ending) (he : e = .returned (.tuple #[v, .bool b])) : RetIB w r e w' := by
  subst hr hn
  obtain ⟨A, c, rfl, hs⟩ := seg_out ho
  subst he
  exact ⟨A, c, rfl, hs, hb⟩
theorem row_srcM {w : World} {g : Nat} {x : Int} (h : BlockIs w g 3 #[.int .i64 x]) : ∀ j u, (ic [x])[j]? = some u → w.cell? ((⟨g, 0, none⟩ : Addr).add j) = some u := fun j u hu => by
  rw [Addr.add_lit, Nat.zero_add, h.cell, ← Array.getElem?_toList]; exact hu
theorem mix_no {js : List J} {a b : List Int} {x y : Int} (h : (((plainL js && vecB js.length a) && vecB js.length b) && facB x y) = false) : mixR js a b x y = ([], false) := by unfold mixR; rw [h]; rfl
section
variable (A C D : Option Addr) (c d e0 : Nat) (js : List J) (a b : List Int) (x y : Int) (w : World) (hr : Row w A (jc js)) (ha : Row w C (ic a)) (hb : Row w D (ic b)) (hn : js.length ≤ 10000000) (hm : a.length ≤ 10000000) (hl : b.length ≤ 10000000)
include hr ha hb hn hm hl
set_option maxRecDepth 100000 in
set_option maxHeartbeats 4000000 in
theorem spec_MixVectors : Calls Try.prog 5 #[.slice A js.length c, .slice C a.length d, .slice D b.length e0, .int .i64 x, .int .i64 y] w (RetIB w (mixR js a b x y)) := by
  obtain ⟨i0, hi, hz0, hz1, hz2⟩ := info_parts infoM
  have hb0 := (Below.refl w.heap.size w).alloc (Nat.le_refl _) (.cells #[] 3)
  have hown0 : (w.alloc (.cells #[] 3)).ownsRow w.heap.size 3 1 (.slice (some ⟨w.heap.size, 0, none⟩) 0 0) 0 [] := World.ownsRow_made w #[] 0 (Nat.le_refl _) (by unfold maxLen; omega) rfl
  have H0 := Lib.hid (And.intro hown0 hb0)
  have HA := Lib.hid ha
  have HB := Lib.hid hb
  have HG := Lib.hid (l6Good_any A c js (w.alloc (.cells #[] 3)) (hr.below hb0) (by omega))
  clear hown0 hb0 hr ha hb
  go_enter Try.func5, Try.ntmps5
  go_wp2_with fail
  refine HG.out.mono ?_
  rintro e w1 ⟨rfl, hb1⟩
  have H1 := Lib.hid (And.intro (own_blw H0.out.1 hb1) (H0.out.2.trans (hb1.mono H0.out.2.size)))
  clear hb1 HG H0
  cases hp : plainL js
  · have HR := Lib.hid (mix_no (js := js) (a := a) (b := b) (x := x) (y := y) (by rw [hp]; rfl))
    go_wp2
    go_ret2
    exact ret_ownM HR.out rfl H1.out.1 H1.out.2 _ rfl
  · go_wp2_with fail
    refine (l10Vector_any A C c d js a w1 (HA.out.below H1.out.2) (by omega) (by omega)).mono ?_
    rintro e w2 ⟨rfl, hb2⟩
    have H2 := Lib.hid (And.intro (own_blw H1.out.1 hb2) (H1.out.2.trans (hb2.mono H1.out.2.size)))
    clear hb2 H1
    cases hva : vecB js.length a
    · have HR := Lib.hid (mix_no (js := js) (a := a) (b := b) (x := x) (y := y) (by rw [hp, hva]; rfl))
      go_wp2
      go_ret2
      exact ret_ownM HR.out rfl H2.out.1 H2.out.2 _ rfl
    · go_wp2_with fail
      refine (l10Vector_any A D c e0 js b w2 (HB.out.below H2.out.2) (by omega) (by omega)).mono ?_
      rintro e w3 ⟨rfl, hb3⟩
      have H3 := Lib.hid (And.intro (own_blw H2.out.1 hb3) (H2.out.2.trans (hb3.mono H2.out.2.size)))
      clear hb3 H2
      cases hvb : vecB js.length b
      · have HR := Lib.hid (mix_no (js := js) (a := a) (b := b) (x := x) (y := y) (by rw [hp, hva, hvb]; rfl))
        go_wp2
        go_ret2
        exact ret_ownM HR.out rfl H3.out.1 H3.out.2 _ rfl
      · go_wp2_with fail
        refine (l1In_any x 0 9 _).mono ?_
        rintro e _ ⟨rfl, rfl⟩
        cases hfx : inB x 0 9
        · have HR := Lib.hid (mix_no (js := js) (a := a) (b := b) (x := x) (y := y) (by rw [hp, hva, hvb]; unfold facB; rw [show decide (0 ≤ x ∧ x ≤ 9) = false from hfx]; rfl))
          go_wp2
          go_ret2
          exact ret_ownM HR.out rfl H3.out.1 H3.out.2 _ rfl
        · go_wp2_with fail
          refine (l1In_any y 0 9 _).mono ?_
          rintro e _ ⟨rfl, rfl⟩
          have hxx := inB_out hfx
          cases hfy : inB y 0 9
          · have HR := Lib.hid (mix_no (js := js) (a := a) (b := b) (x := x) (y := y) (by rw [hp, hva, hvb]; unfold facB; rw [show decide (0 ≤ x ∧ x ≤ 9) = true from hfx, show decide (0 ≤ y ∧ y ≤ 9) = false from hfy]; rfl))
            go_wp2
            go_ret2
            exact ret_ownM HR.out rfl H3.out.1 H3.out.2 _ rfl
          · have hyy := inB_out hfy
            have hwd := IntWalk.i64_in (x + y) (by omega)
            by_cases hxy : x + y = 0
            · have HR := Lib.hid (mix_no (js := js) (a := a) (b := b) (x := x) (y := y) (by rw [hp, hva, hvb]; unfold facB; rw [hxy]; simp))
              have hq : (x + y == 0) = true := by rw [hxy]; rfl
              clear hxy
              go_wp2
              go_ret2
              exact ret_ownM HR.out rfl H3.out.1 H3.out.2 _ rfl
            · have hq : (x + y == 0) = false := by simpa using hxy
              have hf : facB x y = true := by unfold facB; rw [show decide (0 ≤ x ∧ x ≤ 9) = true from hfx, show decide (0 ≤ y ∧ y ≤ 9) = true from hfy, decide_eq_false hxy]; rfl
              have hR : mixR js a b x y = mixL js.length a b x y := by unfold mixR; rw [hp, hva, hvb, hf]; rfl
              have h8 := (good_out (plain_good hp)).1
              have HBD := Lib.hid (fun i => mxS_bd hva hvb hf i)
              have hla := (vec_out hva).1
              have hlb := (vec_out hvb).1
              rw [← hla] at hR h8
              have HLB : Hid (∀ k, k < a.length → k < b.length) := fun k hk => by omega
              have HR := Lib.hid hR
              have HBAD := Lib.hid (fun k (hk : k < a.length) (h : mxS a b x y k % (x + y) ≠ 0) => mix_bad hk h)
              have HALL := Lib.hid (fun (h : ∀ k, k < a.length → mxS a b x y k % (x + y) = 0) => mix_all h)
              have HSX : Hid (∀ k, mxS a b x y k = x * a.getD k 0 + y * b.getD k 0) := fun _ => rfl
              have HLN := Lib.hid (mxTo_len a b x y)
              have HTS := Lib.hid (mxTo_succ a b x y)
              clear hla hlb hR hf hva hvb hp hfx hfy
              go_wp2
              go_loopw [12, 13] (fun v iv wr => ∃ (k : Nat) (ad : Addr) (cc : Nat), k ≤ a.length ∧ v = .slice (some ad) k cc ∧ iv = .int .i64 (k : Int) ∧ Hid (∀ i, i < k → mxS a b x y i % (x + y) = 0) ∧ Hid (wr.ownsRow w.heap.size 3 1 (.slice (some ad) k cc) k (ic (mxTo a b x y k)) ∧ Below w.heap.size w wr)) (fun _ iv _ => a.length - (intOf iv).toNat)
              case atStart => exact ⟨0, _, 0, Nat.zero_le _, rfl, rfl, fun _ h => absurd h (by omega), H3⟩
              case round =>
                obtain ⟨k, ad, cc, hk, rfl, rfl, HM, HK⟩ := hrel
                clear H3
                by_cases hlt : k < a.length
                · have hk0 : (0 : Int) ≤ k := by omega
                  have hk1 : (k : Int) < a.length := by omega
                  have hlt2 := HLB.out k hlt
                  have hk2 : (k : Int) < b.length := by omega
                  obtain ⟨pa, rfl, hca⟩ := (HA.out.below HK.out.2).int hlt
                  obtain ⟨pb, rfl, hcb⟩ := (HB.out.below HK.out.2).int hlt2
                  rw [← getD_at a 0] at hca
                  rw [← getD_at b 0] at hcb
                  have hbd := HBD.out k
                  have HS := Lib.hid (HTS.out k)
                  have HL := Lib.hid (HLN.out k)
                  have HSK := Lib.hid (HSX.out k)
                  have HBK := Lib.hid (HBAD.out k hlt)
                  have HM2 : Hid (mxS a b x y k % (x + y) = 0 → ∀ i, i < k + 1 → mxS a b x y i % (x + y) = 0) := fun h0 i hi => by
                    by_cases e1 : i = k
                    · subst e1; exact h0
                    · exact HM.out i (by omega)
                  rw [HSK.out] at HS HBK HM2
                  clear HSK HBAD HALL HBD HSX HTS HLN HM HLB
                  generalize a.getD k 0 = av at *
                  generalize b.getD k 0 = bv at *
                  obtain ⟨qa, hqa⟩ : ∃ q, q = x * av := ⟨_, rfl⟩
                  obtain ⟨qb, hqb⟩ : ∃ q, q = y * bv := ⟨_, rfl⟩
                  rw [← hqa, ← hqb] at HS HBK HM2 hbd
                  have hwa : IntKind.i64.wrap (x * av) = qa := by rw [← hqa]; exact IntWalk.i64_in qa (by omega)
                  have hwb : IntKind.i64.wrap (y * bv) = qb := by rw [← hqb]; exact IntWalk.i64_in qb (by omega)
                  have hws := IntWalk.i64_in (qa + qb) (by omega)
                  obtain ⟨sm, hsm⟩ : ∃ s, s = qa + qb := ⟨_, rfl⟩
                  rw [← hsm] at HS HBK HM2 hws
                  have hsb : 0 ≤ sm ∧ sm ≤ 36000 := by omega
                  have hws2 : IntKind.i64.wrap (qa + qb) = sm := by rw [← hsm]; exact hws
                  have hdp : 0 < x + y ∧ x + y ≤ 18 := by omega
                  obtain ⟨dd, hdd⟩ : ∃ s, s = x + y := ⟨_, rfl⟩
                  rw [← hdd] at HS HBK HM2 hdp hwd hq
                  have HDD := Lib.hid hdd
                  have hwd2 : IntKind.i64.wrap (x + y) = dd := by rw [← hdd]; exact hwd
                  have hmb := Int.emod_nonneg sm (show dd ≠ 0 by omega)
                  have hmb2 := Int.emod_lt_of_pos sm (show 0 < dd by omega)
                  have hqb0 := Int.ediv_nonneg hsb.1 (show 0 ≤ dd by omega)
                  have hqb1 := Int.ediv_le_self dd hsb.1
                  have hrm : IntKind.i64.wrap (sm.tmod dd) = sm % dd := by rw [Int.tmod_eq_emod_of_nonneg hsb.1]; exact IntWalk.i64_in _ (by omega)
                  have hqm : IntKind.i64.wrap (sm.tdiv dd) = sm / dd := by rw [Int.tdiv_eq_ediv_of_nonneg hsb.1]; exact IntWalk.i64_in _ (by omega)
                  have hdz : ¬ dd = 0 := by omega
                  clear hqa hqb hsm hdd hws hwd
                  generalize sm / dd = qt at *
                  by_cases hz : sm % dd = 0
                  · have hnz : (sm % dd != 0) = false := by rw [hz]; rfl
                    have HM3 := Lib.hid (HM2.out hz)
                    clear hz HM2 HBK
                    go_wp2
                    go_quiet (fail)
                    generalize hw9 : World.drewN wr _ = w9
                    have hb9 : Below wr.heap.size wr w9 := by rw [← hw9]; exact below_drewN (Below.refl _ _) _
                    have HK9 := Lib.hid (And.intro (own_blw HK.out.1 hb9) (HK.out.2.trans (hb9.mono HK.out.2.size)))
                    clear hb9 HK hw9
                    have HO := Lib.hid (HK9.out.1.alloc (.cells #[.int .i64 qt] 3))
                    have HSR := Lib.hid (row_srcM (BlockIs.new w9 3 #[.int .i64 qt]))
                    have hbs := HK9.out.2.size
                    go_wp2_with (at_builtin; refine wpList_append_own _ rfl _ _ 23 rfl w.heap.size 3 i0 (.int .i64 0) 1 8 Try.underlying23 hi hz0 hz1 hz2 rfl (by decide) _ _ _ rfl HO.out ⟨w9.heap.size, 0, none⟩ 1 1 [.int .i64 qt] rfl rfl HSR.out (by intro u hu; rw [List.mem_singleton.1 hu]; rfl) (by unfold maxLen; omega) (by omega) (by simp; omega) ?_; intro v' w4 hown' hgrow hnil)
                    have hap : ic (mxTo a b x y k) ++ [.int .i64 qt] = ic (mxTo a b x y (k + 1)) := by rw [HS.out]; unfold ic; simp
                    rw [hap] at hown'
                    have HB4 := Lib.hid ((HK9.out.2.alloc hbs (.cells #[.int .i64 qt] 3)).grown hgrow (by simp; omega) (fun j hj => (HO.out.lt j hj).1))
                    obtain ⟨A4, c4, rfl, _, _⟩ := own_slice hown'
                    obtain ⟨g4, _, hA4, _⟩ := own_block hown' (by simp)
                    subst hA4
                    have HO4 := Lib.hid hown'
                    clear hown' hap hgrow hnil HO HSR
                    go_roundw
                    case rel => exact ⟨k + 1, _, c4, by omega, rfl, by go_num, Lib.hid (by rw [← HDD.out]; exact HM3.out), HO4.out, HB4.out⟩
                    case measure => simp [intOf]; omega
                  · have hnz : (sm % dd != 0) = true := by simpa using hz
                    have HR2 := Lib.hid (HR.out.trans (HBK.out hz))
                    clear hz HM2 HBK HR
                    go_wp2
                    go_quiet (fail)
                    go_wp2
                    go_ret2
                    exact ret_empty HR2.out (below_drewN HK.out.2 _) _ rfl
                · obtain rfl : k = a.length := by omega
                  have HR2 := Lib.hid (HR.out.trans (HALL.out HM.out))
                  have HL := Lib.hid (HLN.out a.length)
                  clear HR HALL HBAD HBD
                  go_wp2
                  go_ret2
                  exact ret_ownM HR2.out HL.out HK.out.1 HK.out.2 _ rfl
end
end Go.Proofs.Ytpoibjmkbljblaa
