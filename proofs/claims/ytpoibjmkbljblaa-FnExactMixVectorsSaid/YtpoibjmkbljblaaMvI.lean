/- MixVectors: the program's. -/
import Derived.Test.YtpoibjmkbljblaaMvS
import Derived.Deep.OwnRows
import Derived.Test.YtpoibjmkbljblaaBlo
namespace Go.Proofs.Ytpoibjmkbljblaa
set_option linter.unusedSimpArgs false
set_option linter.unusedVariables false
set_option linter.unusedSectionVars false
open Go.RowKit
theorem row_blkM {w : World} {g : Nat} {t : TypeId} {cs : Array Value} (h : BlockIs w g t cs) : Row w (some ⟨g, 0, none⟩) cs.toList := fun _ =>
  ⟨_, rfl, h.lt, fun j u hu => by rw [Addr.add_lit, Nat.zero_add, h.cell, ← Array.getElem?_toList]; exact hu⟩
/-- The ranks of the first jobs. -/
def rkTo (rk : Nat → Int) (n k : Nat) : List Int := (List.range n).map fun j => if j < k then rk j else 0
theorem rkTo_len (rk : Nat → Int) (n k : Nat) : (rkTo rk n k).length = n := by unfold rkTo; simp
theorem rkTo_get (rk : Nat → Int) (n k i : Nat) (h : i < (rkTo rk n k).length) : (rkTo rk n k)[i] = if i < k then rk i else 0 := by
  have e : (rkTo rk n k)[i] = ((List.range n).map fun j => if j < k then rk j else 0)[i]'(by simpa [rkTo] using h) := rfl
  rw [e, List.getElem_map, List.getElem_range]
theorem rkTo_zero (rk : Nat → Int) (n : Nat) : List.replicate n 0 = rkTo rk n 0 := by
  apply List.ext_getElem
  · rw [rkTo_len]; simp
  · intro i h1 h2
    rw [rkTo_get]
    simp
theorem rkTo_step (rk : Nat → Int) (n k : Nat) : (rkTo rk n k).set k (rk k) = rkTo rk n (k + 1) := by
  apply List.ext_getElem
  · rw [List.length_set, rkTo_len, rkTo_len]
  · intro i h1 h2
    rw [List.getElem_set, rkTo_get, rkTo_get]
    by_cases e : k = i
    · subst e; rw [if_pos rfl, if_pos (by omega)]
    · rw [if_neg e]
      by_cases h : i < k
      · rw [if_pos h, if_pos (by omega)]
      · rw [if_neg h, if_neg (by omega)]
theorem rkTo_all (rk : Nat → Int) (n : Nat) : rkTo rk n n = (List.range n).map rk := by
  unfold rkTo
  apply List.map_congr_left
  intro i hi
  rw [if_pos (List.mem_range.1 hi)]
theorem areFactors_any (x y : Int) (w : World) : Calls Try.prog 19 #[.int .i64 x, .int .i64 y] w fun e w' => e = .returned (.bool (facB x y)) ∧ w = w' := by
  have HF : Hid (facB x y = (decide (0 ≤ min x y) && decide (max x y ≤ 9) && decide (0 < max x y))) := by
    show _ = _
    unfold facB
    rw [Bool.eq_iff_iff]
    simp only [Bool.and_eq_true, decide_eq_true_eq, Bool.not_eq_true', decide_eq_false_iff_not]
    omega
  rw [HF.out]
  clear HF
  by_cases h1 : x < y
  · have e1 : min x y = x := by omega
    have e2 : max x y = y := by omega
    rw [e1, e2]
    have h2 : ¬ y < x := by omega
    clear e1 e2
    by_cases h3 : 0 ≤ x <;> by_cases h4 : y ≤ 9 <;> by_cases h5 : 0 < y
    all_goals
      go_enter Try.func19, Try.ntmps19
      go_wp2
      all_goals
        go_ret
        exact ⟨by simp [h3, h4, h5] <;> omega, rfl⟩
  · have e1 : min x y = y := by omega
    have e2 : max x y = x := by omega
    rw [e1, e2]
    clear e1 e2
    by_cases h2 : y < x <;> by_cases h3 : 0 ≤ y <;> by_cases h4 : x ≤ 9 <;> by_cases h5 : 0 < x
    all_goals
      go_enter Try.func19, Try.ntmps19
      go_wp2
      all_goals
        go_ret
        exact ⟨by simp [h3, h4, h5] <;> omega, rfl⟩
section
variable (A C D : Option Addr) (c d e0 : Nat) (js : List J) (a b : List Int) (x y : Int) (w : World) (hr : Row w A (jc js)) (ha : Row w C (ic a)) (hb : Row w D (ic b)) (hn : js.length ≤ 10000000) (hm : a.length ≤ 10000000) (hl : b.length ≤ 10000000)
include hr ha hb hn hm hl
set_option maxRecDepth 100000 in
set_option maxHeartbeats 4000000 in
theorem impl_MixVectors : Calls Try.prog 8 #[.slice A js.length c, .slice C a.length d, .slice D b.length e0, .int .i64 x, .int .i64 y] w (RetIB w (mixR js a b x y)) := by
  have HRJ := Lib.hid hr
  have HA := Lib.hid ha
  have HB := Lib.hid hb
  have HE1 := Lib.hid (endVectorOf_any A C c d js a w hr ha hn hm)
  have hmk := run_make_row' (P := Try.prog) 23 3 (.int .i64 0) 8 Try.underlying23 infoM rfl .i64 .i64 js.length (by omega) (by omega)
  clear hr ha hb
  go_enter Try.func8, Try.ntmps8
  go_wp2_with fail
  refine HE1.out.mono ?_
  rintro e1 w1 ⟨hb1, ⟨hp, hva, rfl⟩ | ⟨hp, rfl⟩⟩
  · have H1 := Lib.hid (And.intro (hb1.alloc hb1.size (.cells #[.slice A js.length c, .slice C a.length d] 44)) (BlockIs.new w1 44 #[.slice A js.length c, .slice C a.length d]))
    have HE2 := Lib.hid (endVectorOf_any A D c e0 js b _ (HRJ.out.below H1.out.1) (HB.out.below H1.out.1) hn hl)
    have hgw := hb1.size
    clear hb1 HE1
    go_wp2_with fail
    refine HE2.out.mono ?_
    rintro e2 w2 ⟨hb2, ⟨_, hvb, rfl⟩ | ⟨hpb, rfl⟩⟩
    · have hb2w := H1.out.1.trans (hb2.mono H1.out.1.size)
      have hbn := (Below.refl w2.heap.size w2).alloc (Nat.le_refl _) (.cells #[.slice A js.length c, .slice D b.length e0] 44)
      have H2 := Lib.hid (And.intro (hb2w.alloc hb2w.size (.cells #[.slice A js.length c, .slice D b.length e0] 44)) (And.intro ((H1.out.2.below hb2).below hbn) (BlockIs.new w2 44 #[.slice A js.length c, .slice D b.length e0])))
      have hgz : (w2.alloc (.cells #[.slice A js.length c, .slice D b.length e0] 44)).heap.size = w2.heap.size + 1 := by simp
      have hg12 : w1.heap.size < w2.heap.size := by have := (H1.out.2.below hb2).lt; exact this
      clear hb2 hb2w hbn HE2 H1
      go_wp2_with fail
      refine (areFactors_any x y _).mono ?_
      rintro e _ ⟨rfl, rfl⟩
      cases hf : facB x y
      · have HR := Lib.hid (mix_no (js := js) (a := a) (b := b) (x := x) (y := y) (by rw [hp, hva, hvb, hf]; rfl))
        clear hmk
        go_wp2
        go_ret2
        exact ret_empty HR.out H2.out.1 _ (by simp only [World.size_alloc]; rfl)
      · have hR : mixR js a b x y = mixL js.length a b x y := by unfold mixR; rw [hp, hva, hvb, hf]; rfl
        have h8 := (good_out (plain_good hp)).1
        have HBD := Lib.hid (fun i => mxS_bd hva hvb hf i)
        have hla := (vec_out hva).1
        have hlb := (vec_out hvb).1
        have HLA : Hid (∀ k, k < js.length → k < a.length ∧ k < b.length) := fun k hk => by omega
        have HR := Lib.hid hR
        have HBAD := Lib.hid (fun k (hk : k < js.length) (h : mxS a b x y k % (x + y) ≠ 0) => mix_bad hk h)
        have HALL := Lib.hid (fun (h : ∀ k, k < js.length → mxS a b x y k % (x + y) = 0) => mix_all h)
        have HSX : Hid (∀ k, mxS a b x y k = x * a.getD k 0 + y * b.getD k 0) := fun _ => rfl
        have HFD := Lib.hid (fac_out hf)
        obtain ⟨qf, hqf⟩ : ∃ qf : Nat → Int, qf = fun i => mxS a b x y i / (x + y) := ⟨_, rfl⟩
        have HQF : Hid (∀ k, mxS a b x y k / (x + y) = qf k) := fun k => by rw [hqf]
        have HMT : Hid (mxTo a b x y js.length = (List.range js.length).map qf) := by show _ = _; rw [hqf]; rfl
        have HBM := Lib.hid (And.intro (BlockIs.new (w2.alloc (.cells #[.slice A js.length c, .slice D b.length e0] 44)) 3 (madeCells #[.int .i64 0] js.length)) (And.intro ((H2.out.1).alloc H2.out.1.size (.cells (madeCells #[.int .i64 0] js.length) 3)) (And.intro (H2.out.2.1.below ((Below.refl _ _).alloc (Nat.le_refl _) (.cells (madeCells #[.int .i64 0] js.length) 3))) (H2.out.2.2.below ((Below.refl _ _).alloc (Nat.le_refl _) (.cells (madeCells #[.int .i64 0] js.length) 3))))))
        have hww := H2.out.1.size
        rw [hgz] at HBM hww
        clear hla hlb hR hf hva hvb hp hqf H2 hgz
        go_wp2
        go_loopw [49] (fun iv wr => ∃ k : Nat, k ≤ js.length ∧ iv = .int .i64 (k : Int) ∧ Hid (∀ i, i < k → mxS a b x y i % (x + y) = 0) ∧ Hid (BlockIs wr (w2.heap.size + 1) 3 (ic (rkTo qf js.length k)).toArray ∧ Below w.heap.size w wr ∧ BlockIs wr w1.heap.size 44 #[.slice A js.length c, .slice C a.length d] ∧ BlockIs wr w2.heap.size 44 #[.slice A js.length c, .slice D b.length e0])) (fun iv _ => js.length - (intOf iv).toNat)
        case atStart => exact ⟨0, Nat.zero_le _, rfl, fun _ h => absurd h (by omega), Lib.hid ⟨by rw [← rkTo_zero, ← ic_made]; exact HBM.out.1, HBM.out.2⟩⟩
        case round =>
          obtain ⟨k, hk, rfl, HM, HI⟩ := hrel
          clear hmk HBM
          by_cases hlt : k < js.length
          · have hk0 : (0 : Int) ≤ k := by omega
            have hkj : (k : Int) < js.length := by omega
            obtain ⟨hla, hlb⟩ := HLA.out k hlt
            have hk1 : (k : Int) < a.length := by omega
            have hk2 : (k : Int) < b.length := by omega
            obtain ⟨pa, rfl, hca⟩ := (HA.out.below HI.out.2.1).int hla
            obtain ⟨pb, rfl, hcb⟩ := (HB.out.below HI.out.2.1).int hlb
            rw [← getD_at a 0] at hca
            rw [← getD_at b 0] at hcb
            have u1 := HI.out.2.2.1.cell 1
            have v1 := HI.out.2.2.2.cell 1
            simp only [List.getElem?_toArray, List.getElem?_cons_zero, List.getElem?_cons_succ] at u1 v1
            have hbd := HBD.out k
            have HSK := Lib.hid (HSX.out k)
            have HBK := Lib.hid (HBAD.out k hlt)
            have HQK := Lib.hid (HQF.out k)
            have HFDK := HFD.out
            have HM2 : Hid (mxS a b x y k % (x + y) = 0 → ∀ i, i < k + 1 → mxS a b x y i % (x + y) = 0) := fun h0 i hi => by
              by_cases e1 : i = k
              · subst e1; exact h0
              · exact HM.out i (by omega)
            rw [HSK.out] at HQK HBK HM2
            clear HSK HBAD HALL HBD HSX HQF HM HLA HFD
            generalize a.getD k 0 = av at *
            generalize b.getD k 0 = bv at *
            obtain ⟨qa, hqa⟩ : ∃ q, q = x * av := ⟨_, rfl⟩
            obtain ⟨qb, hqb⟩ : ∃ q, q = y * bv := ⟨_, rfl⟩
            rw [← hqa, ← hqb] at HQK HBK HM2 hbd
            have hwa : IntKind.i64.wrap (x * av) = qa := by rw [← hqa]; exact IntWalk.i64_in qa (by omega)
            have hwb : IntKind.i64.wrap (y * bv) = qb := by rw [← hqb]; exact IntWalk.i64_in qb (by omega)
            have hws := IntWalk.i64_in (qa + qb) (by omega)
            obtain ⟨sm, hsm⟩ : ∃ s, s = qa + qb := ⟨_, rfl⟩
            rw [← hsm] at HQK HBK HM2 hws
            have hsb : 0 ≤ sm ∧ sm ≤ 36000 := by omega
            have hws2 : IntKind.i64.wrap (qa + qb) = sm := by rw [← hsm]; exact hws
            have hdp : 0 < x + y ∧ x + y ≤ 18 := by omega
            obtain ⟨dd, hdd⟩ : ∃ s, s = x + y := ⟨_, rfl⟩
            have hwd := IntWalk.i64_in (x + y) (by omega)
            rw [← hdd] at HQK HBK HM2 hdp hwd
            have HDD := Lib.hid hdd
            have hwd2 : IntKind.i64.wrap (x + y) = dd := by rw [← hdd]; exact hwd
            have hmb := Int.emod_nonneg sm (show dd ≠ 0 by omega)
            have hmb2 := Int.emod_lt_of_pos sm (show 0 < dd by omega)
            have hqb0 := Int.ediv_nonneg hsb.1 (show 0 ≤ dd by omega)
            have hqb1 := Int.ediv_le_self dd hsb.1
            have hrm : IntKind.i64.wrap (sm.tmod dd) = sm % dd := by rw [Int.tmod_eq_emod_of_nonneg hsb.1]; exact IntWalk.i64_in _ (by omega)
            have hqm : IntKind.i64.wrap (sm.tdiv dd) = sm / dd := by rw [Int.tdiv_eq_ediv_of_nonneg hsb.1]; exact IntWalk.i64_in _ (by omega)
            have hdz : ¬ dd = 0 := by omega
            have hq0 : (dd == 0) = false := by simpa using hdz
            clear hqa hqb hsm hdd hws hwd HFDK
            obtain ⟨qt, hqt⟩ : ∃ q, qf k = q := ⟨_, rfl⟩
            rw [HQK.out, hqt] at hqm hqb0 hqb1
            have HQT := Lib.hid hqt
            clear hqt HQK
            by_cases hz : sm % dd = 0
            · have hnz : (sm % dd != 0) = false := by rw [hz]; rfl
              have HM3 := Lib.hid (HM2.out hz)
              clear hz HM2 HBK
              go_wp2
              go_quiet (fail)
              generalize hw9 : World.drewN wr _ = w9
              have hb9 : Below wr.heap.size wr w9 := by rw [← hw9]; exact below_drewN (Below.refl _ _) _
              have HK9 := Lib.hid (And.intro (HI.out.1.below hb9) (And.intro (HI.out.2.1.trans (hb9.mono HI.out.2.1.size)) (And.intro (HI.out.2.2.1.below hb9) (HI.out.2.2.2.below hb9))))
              clear hb9 HI hw9 u1 v1 hca hcb
              have f0 := HK9.out.1.frozen k
              have c0 := HK9.out.1.cell k
              have hS := HK9.out.1.set k (.int .i64 qt)
              rw [ic_set, show (rkTo qf js.length k).set k qt = rkTo qf js.length (k + 1) by rw [← HQT.out, rkTo_step]] at hS
              have HS := Lib.hid hS
              have HT2 := Lib.hid (And.intro (HK9.out.2.1.setCell (p := ⟨w2.heap.size + 1, k, none⟩) (by show _ ≤ w2.heap.size + 1; omega) (.int .i64 qt)) (And.intro (HK9.out.2.2.1.away (g' := w2.heap.size + 1) (by omega) k (.int .i64 qt)) (HK9.out.2.2.2.away (g' := w2.heap.size + 1) (by omega) k (.int .i64 qt))))
              clear hS
              have hg : ∃ u, (ic (rkTo qf js.length k)).toArray[k]? = some u := ⟨_, by rw [List.getElem?_toArray]; exact List.getElem?_eq_getElem (by rw [ic_len, rkTo_len]; exact hlt)⟩
              obtain ⟨u, hu⟩ := hg
              rw [hu] at c0
              clear hu
              go_wp2
              go_roundw
              case rel => exact ⟨k + 1, by omega, by go_num, Lib.hid (by rw [← HDD.out]; exact HM3.out), Lib.hid ⟨HS.out, HT2.out⟩⟩
              case measure => simp [intOf]; omega
            · have hnz : (sm % dd != 0) = true := by simpa using hz
              have HR2 := Lib.hid (HR.out.trans (HBK.out hz))
              clear hz HM2 HBK HR
              go_wp2
              go_quiet (fail)
              go_wp2
              go_ret2
              exact ret_empty HR2.out (below_drewN HI.out.2.1 _) _ rfl
          · obtain rfl : k = js.length := by omega
            have HR2 := Lib.hid (HR.out.trans (HALL.out HM.out))
            have hB := HI.out.1
            rw [rkTo_all, ← HMT.out] at hB
            have HBF := Lib.hid hB
            have hln := mxTo_len a b x y js.length
            have HLN := Lib.hid hln
            have hg3 : w.heap.size ≤ w2.heap.size + 1 := by omega
            clear hB hln HR HALL HBAD HBD
            go_wp2
            go_ret2
            exact ret_block HR2.out hg3 HBF.out (by rw [HLN.out]; omega) HI.out.2.1 _ (by rw [HLN.out]; rfl)
    · have HR := Lib.hid (mix_no (js := js) (a := a) (b := b) (x := x) (y := y) (by rw [hp] at hpb; rw [hp, show vecB js.length b = false from hpb, Bool.and_false, Bool.false_and]))
      have hb2w := H1.out.1.trans (hb2.mono H1.out.1.size)
      have H2 := Lib.hid (hb2w.alloc hb2w.size (.cells #[.slice none 0 0, .slice none 0 0] 44))
      clear hmk hb2 hb2w HE2 H1
      go_wp2
      go_ret2
      exact ret_empty HR.out H2.out _ (by simp only [World.size_alloc]; rfl)
  · have HR := Lib.hid (mix_no (js := js) (a := a) (b := b) (x := x) (y := y) (by rw [hp]; rfl))
    have H1 := Lib.hid (hb1.alloc hb1.size (.cells #[.slice none 0 0, .slice none 0 0] 44))
    have HE2 := Lib.hid (endVectorOf_any A D c e0 js b _ (HRJ.out.below H1.out) (HB.out.below H1.out) hn hl)
    clear hb1 HE1 hmk
    go_wp2_with fail
    refine HE2.out.mono ?_
    rintro e2 w2 ⟨hb2, ⟨_, hvb, rfl⟩ | ⟨hpb, rfl⟩⟩
    · have hb2w := H1.out.trans (hb2.mono H1.out.size)
      have H2 := Lib.hid (hb2w.alloc hb2w.size (.cells #[.slice A js.length c, .slice D b.length e0] 44))
      clear hb2 hb2w HE2 H1
      go_wp2
      go_ret2
      exact ret_empty HR.out H2.out _ (by simp only [World.size_alloc]; rfl)
    · have hb2w := H1.out.trans (hb2.mono H1.out.size)
      have H2 := Lib.hid (hb2w.alloc hb2w.size (.cells #[.slice none 0 0, .slice none 0 0] 44))
      clear hb2 hb2w HE2 H1
      go_wp2
      go_ret2
      exact ret_empty HR.out H2.out _ (by simp only [World.size_alloc]; rfl)
end
end Go.Proofs.Ytpoibjmkbljblaa
