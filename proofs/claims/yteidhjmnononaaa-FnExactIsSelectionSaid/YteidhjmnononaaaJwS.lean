/- IsJobShop: the model's. -/
import Derived.Test.YteidhjmnononaaaJwP
import Derived.Test.YteidhjmnononaaaAppW
import Derived.Test.YteidhjmnononaaaOwnSS
import Derived.Test.YteidhjmnononaaaArgW
namespace Go.Proofs.Yteidhjmnononaaa
set_option linter.unusedSimpArgs false
set_option linter.unusedVariables false
open Go.RowKit
theorem row_srcW {w : World} {g : Nat} {x : Int} (h : BlockIs w g 3 #[.int .i64 x]) : ∀ j u, (ic [x])[j]? = some u → w.cell? ((⟨g, 0, none⟩ : Addr).add j) = some u := fun j u hu => by
  rw [Addr.add_lit, Nat.zero_add, h.cell, ← Array.getElem?_toList]; exact hu
theorem info_partsW {α β γ δ : Type} {o : Option α} {f : α → β} {g : α → γ} {h : α → δ} {x : β} {y : γ} {z : δ} (e : o.map (fun i => (f i, g i, h i)) = some (x, y, z)) : ∃ i, o = some i ∧ f i = x ∧ g i = y ∧ h i = z := by
  obtain ⟨i, hi, hz⟩ := Option.map_eq_some_iff.1 e
  injection hz with hz0 hz
  injection hz with hz1 hz2
  exact ⟨i, hi, hz0, hz1, hz2⟩
set_option maxRecDepth 100000 in
set_option maxHeartbeats 2000000 in
theorem l9Route_any (A : Option Addr) (c : Nat) (m : Int) (r : List Pr) (w : World) (hm : 1 ≤ m ∧ m ≤ 4) (hr : Row w A (pc r)) (hn : r.length ≤ 10000000) :
    Calls Try.prog 24 #[.int .i64 m, .slice A r.length c] w fun e w' => e = .returned (.bool (routeB m r)) ∧ Below w.heap.size w w' := by
  obtain ⟨i0, hi, hz0, hz1, hz2⟩ := info_partsW infoI
  have hown0 : (w.alloc (.cells #[] 3)).ownsRow w.heap.size 3 1 (.slice (some ⟨w.heap.size, 0, none⟩) 0 0) 0 [] := World.ownsRow_made w #[] 0 (Nat.le_refl _) (by unfold maxLen; omega) rfl
  have hb0 := (Below.refl w.heap.size w).alloc (Nat.le_refl _) (.cells #[] 3)
  have H0 := Lib.hid (And.intro hown0 hb0)
  have HR := Lib.hid hr
  have HBAD := Lib.hid (fun i hi h => @route_bad m r i hi h)
  have HALL := Lib.hid (fun h => @route_all m r h)
  have hwm := IntWalk.i64_in (m - 1) (by omega)
  clear hown0 hb0 hr
  go_enter Try.func24, Try.ntmps24
  go_wp2
  go_loopw [5, 6] (fun v iv wr => ∃ (k : Nat) (ad : Addr) (cc : Nat), k ≤ r.length ∧ v = .slice (some ad) k cc ∧ iv = .int .i64 (k : Int) ∧ Hid (∀ i, i < k → opB m r i = true) ∧ Hid (wr.ownsRow w.heap.size 3 1 (.slice (some ad) k cc) k (ic (machs (r.take k))) ∧ Below w.heap.size w wr)) (fun _ iv _ => r.length - (intOf iv).toNat)
  case atStart => exact ⟨0, _, 0, Nat.zero_le _, rfl, rfl, fun _ h => absurd h (by omega), H0.out⟩
  case round =>
    obtain ⟨k, ad, cc, hk, rfl, rfl, HM, HK⟩ := hrel
    clear H0
    by_cases hlt : k < r.length
    · have hk0 : (0 : Int) ≤ k := by omega
      have hk1 : (k : Int) < r.length := by omega
      obtain ⟨pa, rfl, hpb, hc0, hc1⟩ := (HR.out.below HK.out.2).pair hlt
      have HOP := Lib.hid (op_at (m := m) hlt)
      have HS := Lib.hid (machs_step hlt)
      have HBK := Lib.hid (HBAD.out k hlt)
      have HL := Lib.hid (machs_len (r := r) hk)
      have HM2 := Lib.hid (fun h => upto_step HM.out h)
      have hbs := HK.out.2.size
      have hb1 := (Below.refl wr.heap.size wr).alloc (Nat.le_refl _) (.cells #[.int .i64 r[k].1, .int .i64 r[k].2] 65)
      have hx := BlockIs.new wr 65 #[.int .i64 r[k].1, .int .i64 r[k].2]
      have ho1 := own_blw HK.out.1 hb1
      have hh := l1Has_any (some ad) cc (machs (r.take k)) r[k].1 _ (Row.of_own ho1) (by rw [HL.out]; omega)
      rw [HL.out] at hh
      have HHAS := Lib.hid hh
      have HK1 := Lib.hid (And.intro ho1 (HK.out.2.trans (hb1.mono hbs)))
      have HX := Lib.hid hx
      have hpb2 : pa.block ≠ wr.heap.size := by omega
      clear HM HBAD HALL hb1 hx ho1 hh HK hpb
      generalize r[k] = x at *
      obtain ⟨x1, x2⟩ := x
      have d0 := HX.out.cell 0
      have d1 := HX.out.cell 1
      simp only [List.getElem?_toArray, List.getElem?_cons_zero, List.getElem?_cons_succ] at d0 d1
      have hI1 := fun W => l1In_any x1 0 (m - 1) W
      have hI2 := fun W => l1In_any x2 1 20 W
      cases h1 : inB x1 0 (m - 1)
      · rw [h1] at hI1
        have HI1 := Lib.hid hI1
        have HV : Hid (opB m r k = false) := by show _ = _; rw [HOP.out, h1]; rfl
        clear hI1 hI2 HOP h1
        go_wp2_with fail
        refine (HI1.out _).mono ?_
        rintro e _ ⟨rfl, rfl⟩
        have HR2 := Lib.hid (HBK.out HV.out)
        clear HM2
        go_wp2
        go_ret
        exact ⟨by rw [HR2.out]; rfl, HK1.out.2⟩
      · rw [h1] at hI1
        have HI1 := Lib.hid hI1
        cases h2 : inB x2 1 20
        · rw [h2] at hI2
          have HI2 := Lib.hid hI2
          have HV : Hid (opB m r k = false) := by show _ = _; rw [HOP.out, h1, h2]; rfl
          clear hI1 hI2 HOP h1 h2
          go_wp2_with fail
          refine (HI1.out _).mono ?_
          rintro e _ ⟨rfl, rfl⟩
          go_wp2_with fail
          refine (HI2.out _).mono ?_
          rintro e _ ⟨rfl, rfl⟩
          have HR2 := Lib.hid (HBK.out HV.out)
          clear HM2
          go_wp2
          go_ret
          exact ⟨by rw [HR2.out]; rfl, HK1.out.2⟩
        · rw [h2] at hI2
          have HI2 := Lib.hid hI2
          cases h3 : hasI (machs (r.take k)) x1
          · have HV : Hid (opB m r k = true) := by show _ = _; rw [HOP.out, h1, h2, h3]; rfl
            rw [h3] at HHAS
            have HM3 := Lib.hid (HM2.out HV.out)
            clear hI1 hI2 HOP h1 h2 h3 HM2 HBK
            go_wp2_with fail
            refine (HI1.out _).mono ?_
            rintro e _ ⟨rfl, rfl⟩
            go_wp2_with fail
            refine (HI2.out _).mono ?_
            rintro e _ ⟨rfl, rfl⟩
            go_wp2_with fail
            refine HHAS.out.mono ?_
            rintro e _ ⟨rfl, rfl⟩
            have hzz : (wr.alloc (.cells #[.int .i64 x1, .int .i64 x2] 65)).heap.size = wr.heap.size + 1 := by simp
            have HO := Lib.hid (HK1.out.1.alloc (.cells #[.int .i64 x1] 3))
            have hsr := row_srcW (BlockIs.new (wr.alloc (.cells #[.int .i64 x1, .int .i64 x2] 65)) 3 #[.int .i64 x1])
            rw [hzz] at hsr
            have HSR := Lib.hid hsr
            have hbs9 := HK1.out.2.size
            clear hsr
            go_wp2_with (at_builtin; refine wpList_append_own _ rfl _ _ 40 rfl w.heap.size 3 i0 (.int .i64 0) 1 8 Try.underlying40 hi hz0 hz1 hz2 rfl (by decide) _ _ _ rfl HO.out ⟨wr.heap.size + 1, 0, none⟩ 1 1 [.int .i64 x1] rfl rfl HSR.out (by intro u hu; rw [List.mem_singleton.1 hu]; rfl) (by unfold maxLen; omega) (by omega) (by simp; omega) ?_; intro v' w4 hown' hgrow hnil)
            have hap : ic (machs (r.take k)) ++ [.int .i64 x1] = ic (machs (r.take (k + 1))) := by rw [HS.out]; unfold ic; simp
            rw [hap] at hown'
            have HB4 := Lib.hid ((HK1.out.2.alloc hbs9 (.cells #[.int .i64 x1] 3)).grown hgrow (by simp; omega) (fun j hj => (HO.out.lt j hj).1))
            obtain ⟨A4, c4, rfl, _, _⟩ := own_slice hown'
            obtain ⟨g4, _, hA4, _⟩ := own_block hown' (by simp)
            subst hA4
            have HO4 := Lib.hid hown'
            clear hown' hap hgrow hnil HO HSR
            go_roundw
            case rel => exact ⟨k + 1, _, c4, by omega, rfl, by go_num, HM3.out, HO4.out, HB4.out⟩
            case measure => simp [intOf]; omega
          · have HV : Hid (opB m r k = false) := by show _ = _; rw [HOP.out, h1, h2, h3]; rfl
            rw [h3] at HHAS
            clear hI1 hI2 HOP h1 h2 h3
            go_wp2_with fail
            refine (HI1.out _).mono ?_
            rintro e _ ⟨rfl, rfl⟩
            go_wp2_with fail
            refine (HI2.out _).mono ?_
            rintro e _ ⟨rfl, rfl⟩
            go_wp2_with fail
            refine HHAS.out.mono ?_
            rintro e _ ⟨rfl, rfl⟩
            have HR2 := Lib.hid (HBK.out HV.out)
            clear HM2
            go_wp2
            go_ret
            exact ⟨by rw [HR2.out]; rfl, HK1.out.2⟩
    · obtain rfl : k = r.length := by omega
      have HR2 := Lib.hid (HALL.out HM.out)
      clear HALL HBAD
      go_wp2
      go_ret
      exact ⟨by rw [HR2.out]; rfl, HK.out.2⟩
theorem l9Count_any (m : Int) (A : Option Addr) (c n : Nat) (xss : List (List Pr)) (w : World) (hl : n = xss.length) (hr : RowX pc w A xss) (hn : xss.length ≤ 10000000 ∧ (lensX xss).sum ≤ 10000000) :
    Calls Try.prog 25 #[.agg #[.int .i64 m, .slice A n c]] w fun e w' => e = .returned (.int .i64 ((lensX xss).sum : Nat)) ∧ Below w.heap.size w w' := by
  subst hl
  have HSUM := Lib.hid (fun i => sum_take_le (lensX xss) i)
  have HSS := Lib.hid (fun i hi => sum_take_succ (lensX xss) i hi)
  have hb0 := (Below.refl w.heap.size w).alloc (Nat.le_refl _) (.cells #[.int .i64 m, .slice A xss.length c] 32)
  have hx := BlockIs.new w 32 #[.int .i64 m, .slice A xss.length c]
  have H0 := Lib.hid (And.intro hx hb0)
  have HR := Lib.hid (hr.below hb0)
  clear hb0 hx hr
  go_enter Try.func25, Try.ntmps25
  go_wp2
  go_loopw [3, 4] (fun nv iv wr => ∃ k : Nat, k ≤ xss.length ∧ nv = .int .i64 (((lensX xss).take k).sum : Nat) ∧ iv = .int .i64 (k : Int) ∧ wr = w.alloc (.cells #[.int .i64 m, .slice A xss.length c] 32)) (fun _ iv _ => xss.length - (intOf iv).toNat)
  case atStart => exact ⟨0, Nat.zero_le _, rfl, rfl, rfl⟩
  case round =>
    obtain ⟨k, hk, rfl, rfl, rfl⟩ := hrel
    have d0 := H0.out.1.cell 0
    have d1 := H0.out.1.cell 1
    simp only [List.getElem?_toArray, List.getElem?_cons_zero, List.getElem?_cons_succ] at d0 d1
    by_cases hlt : k < xss.length
    · have hk0 : (0 : Int) ≤ k := by omega
      have hk1 : (k : Int) < xss.length := by omega
      obtain ⟨ad, B, d, rfl, _, hc, _, _⟩ := HR.out.at_ hlt
      have h1 := HSS.out k (by rw [lensX_len]; exact hlt)
      have h2 := HSUM.out (k + 1)
      have hx : (lensX xss)[k]'(by rw [lensX_len]; exact hlt) = xss[k].length := lensX_get xss k hlt
      rw [hx] at h1
      have HE : Hid ((((lensX xss).take (k + 1)).sum : Int) = (((lensX xss).take k).sum : Int) + (xss[k].length : Int)) := by show _ = _; omega
      have hb : (((lensX xss).take k).sum : Int) + (xss[k].length : Int) ≤ 10000000 := by omega
      have hp : (0 : Int) ≤ (((lensX xss).take k).sum : Int) + (xss[k].length : Int) := by omega
      have hw := IntWalk.i64_in ((((lensX xss).take k).sum : Int) + (xss[k].length : Int)) (by omega)
      clear h1 h2 hx
      generalize xss[k].length = l at *
      generalize ((lensX xss).take k).sum = s at *
      go_wp2
      go_roundw
      case rel => exact ⟨k + 1, by omega, by rw [HE.out], by go_num, trivial⟩
      case measure => simp [intOf]; omega
    · obtain rfl : k = xss.length := by omega
      have HF : Hid (((lensX xss).take xss.length).sum = (lensX xss).sum) := by show _ = _; rw [List.take_of_length_le (by rw [lensX_len]; exact Nat.le_refl _)]
      go_wp2
      go_ret
      exact ⟨by rw [HF.out]; rfl, H0.out.2⟩
end Go.Proofs.Yteidhjmnononaaa
