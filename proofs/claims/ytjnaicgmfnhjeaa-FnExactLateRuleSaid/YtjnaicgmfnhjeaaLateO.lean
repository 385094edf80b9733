/- The late rule's order: the program's and the model's. -/
import Derived.Test.YtjnaicgmfnhjeaaLateI
import Derived.Test.YtjnaicgmfnhjeaaSorO
import Derived.Test.YtjnaicgmfnhjeaaOrd
import Derived.Test.YtjnaicgmfnhjeaaAppK
import Derived.Laws.AppendOwnNone
namespace Go.Proofs.Ytjnaicgmfnhjeaa
open Go.RowKit
def lateOR (js : List J) : List Int × Bool := if plainL js then (natI (lateRuleL js), true) else ([], false)
theorem lateRest_len (l : List Nat) (k : Nat) : (lateRestTo l k).length ≤ k := by
  unfold lateRestTo
  have := List.length_filter_le (fun i => decide (i ∉ l)) (List.range k)
  rwa [List.length_range] at this
theorem lateOR_len (js : List J) : (lateOR js).1.length ≤ 1000 := by
  unfold lateOR
  cases h : plainL js
  · simp
  · have h1 := (good_out (plain_good h)).1
    have h2 := (late_lens js).2
    have h3 := lateRest_len (lateGo js js.length).left js.length
    unfold lateRuleL
    simp only [if_true, List.length_map, List.length_append]; omega
set_option maxRecDepth 100000 in
theorem l1Own_own {w : World} {B n c : Nat} {A : Option Addr} {l : List Nat} (h : w.ownsRow B 3 1 (.slice A n c) n (ic (natI l))) (hl : l.length = n) (hn : n ≤ 100000) :
    Calls Try.prog 109 #[.slice A n c] w fun e w' => ∃ ad' c', e = .returned (.slice (some ad') n c') ∧ w'.ownsRow w.heap.size 3 1 (.slice (some ad') n c') n (ic (natI l)) ∧ Below w.heap.size w w' := by
  rcases h.2 with ⟨hv, h0⟩ | ⟨g, cap, cur, hv, hb, hg, h1, h2, h3, h4⟩
  · injection hv with e1 e2 e3
    have hln : l = [] := List.eq_nil_of_length_eq_zero (by omega)
    subst hln e1 e3
    obtain rfl : n = 0 := by simpa using hl.symm
    obtain ⟨i0, hi, hz0, hz1, hz2⟩ := info_parts infoI
    have hb0 := (Below.refl w.heap.size w).alloc (Nat.le_refl _) (.cells #[] 3)
    have hown0 : (w.alloc (.cells #[] 3)).ownsRow w.heap.size 3 1 (.slice (some ⟨w.heap.size, 0, none⟩) 0 0) 0 [] := World.ownsRow_made w #[] 0 (Nat.le_refl _) (by unfold maxLen; omega) rfl
    go_enter Try.func109, Try.ntmps109
    go_wp2_with (at_builtin; refine wpList_append_own_none rfl _ _ 23 rfl w.heap.size 3 i0 1 Try.underlying23 hi _ 0 _ rfl hown0 rfl ?_)
    go_ret
    exact ⟨_, _, rfl, hown0, hb0⟩
  · injection hv with e1 e2 e3
    subst e1 hl
    have hr : Row w (some ⟨g, 0, none⟩) (ic (natI l)) := Row.of_own h
    have hln : (natI l).length = l.length := by simp
    have H := l1Own_some ⟨g, 0, none⟩ c (natI l) w hr (by omega)
    rw [hln] at H
    exact H
theorem rest_hit {l : List Nat} {k : Nat} (h : k ∉ l) : lateRestTo l (k + 1) = lateRestTo l k ++ [k] := by rw [lateRest_succ, if_neg h]
theorem rest_skip {l : List Nat} {k : Nat} (h : k ∈ l) : lateRestTo l (k + 1) = lateRestTo l k := by rw [lateRest_succ, if_pos h]
section
variable (A : Option Addr) (c : Nat) (js : List J) (w : World) (hr : Row w A (jc js)) (hn : js.length ≤ 10000000)
include hr hn
set_option maxRecDepth 100000 in
set_option maxHeartbeats 1000000 in
theorem spec_LateRule : Calls Try.prog 33 #[.slice A js.length c] w (RetIB w (lateOR js)) := by
  have HR : Hid (lateOR js = if plainL js then (natI (lateRuleL js), true) else ([], false)) := rfl
  cases hp : plainL js
  · rw [hp] at HR
    go_enter Try.func33, Try.ntmps33
    go_wp2_with fail
    refine (spec_IsPlain A c js _ hr (by omega)).mono ?_
    rintro e w1 ⟨rfl, hb1⟩
    rw [hp]
    go_wp2
    go_ret2
    exact ret_empty (by rw [HR.out]; rfl) hb1 _ rfl
  · rw [hp] at HR
    have hg := plain_good hp
    have h8 := (good_out hg).1
    have HLN := late_lens js
    have HDR := Lib.hid (fun (i : Nat) (hi : i < js.length) => late_drop_iff js hi)
    have HLR : Hid (lateRuleL js = (lateGo js js.length).left ++ lateRestTo (lateGo js js.length).left js.length) := rfl
    obtain ⟨i0, hi, hz0, hz1, hz2⟩ := info_parts infoI
    go_enter Try.func33, Try.ntmps33
    go_wp2_with fail
    refine (spec_IsPlain A c js _ hr (by omega)).mono ?_
    rintro e w1 ⟨rfl, hb1⟩
    rw [hp]
    go_wp2_with fail
    refine (l3Rule_any A c js _ (hr.below hb1) hg).mono ?_
    rintro e w2 ⟨vt, vd, vs, rfl, ht, hd, hs, hap, hb2⟩
    obtain ⟨At, ct, rfl, _⟩ := own_slice ht
    obtain ⟨Ad, cd, rfl, _⟩ := own_slice hd
    obtain ⟨As, cs, rfl, _⟩ := own_slice hs
    obtain ⟨lf, hlf⟩ : ∃ lf, lf = (lateGo js js.length).left := ⟨_, rfl⟩
    obtain ⟨dr, hdr⟩ : ∃ dr, dr = (lateGo js js.length).drop := ⟨_, rfl⟩
    rw [← hlf] at HLR
    rw [← hlf, ← hdr] at HDR
    rw [← hlf] at ht hap ⊢
    rw [← hdr] at hd hap ⊢
    rw [← hlf, ← hdr] at HLN
    obtain ⟨hln1, hln2⟩ := HLN
    clear hln1 hs
    generalize (lateGo js js.length).steps = st0 at *
    generalize st0.length = sn at *
    clear hlf hdr
    have hK := BlockIs.new w2 96 #[.slice At lf.length ct, .slice Ad dr.length cd, .slice As sn cs]
    have hbW := (Below.refl w2.heap.size w2).alloc (Nat.le_refl _) (.cells #[.slice At lf.length ct, .slice Ad dr.length cd, .slice As sn cs] 96)
    have hc0 := hK.cell 0
    simp only [List.getElem?_toArray, List.getElem?_cons_zero] at hc0
    have HOWN := Lib.hid (l1Own_own (own_blw ht hbW) rfl (by omega))
    have hsz2 := hb2.size
    have hsz1 := hb1.size
    have hszW := hbW.size
    have HD2 := Lib.hid (And.intro (own_blw (own_low hd hb1.size) hbW) (And.intro ((hb1.trans (hb2.mono hb1.size)).trans (hbW.mono (by omega))) hK))
    have HSZ := Lib.hid (And.intro hsz1 (And.intro hsz2 hszW))
    obtain ⟨gx, hgx⟩ : ∃ gx, gx = w2.heap.size := ⟨_, rfl⟩
    clear ht hd hap hb1 hb2 hsz1 hsz2 hszW hK hbW
    go_wp2_with fail
    refine HOWN.out.mono ?_
    rintro e w3 ⟨ad3, c3, rfl, ho3, hb3⟩
    have H3 : Hid (w3.ownsRow w.heap.size 3 1 (.slice (some ad3) lf.length c3) (lf ++ lateRestTo lf 0).length (ic (natI (lf ++ lateRestTo lf 0))) ∧ w3.ownsRow w.heap.size 3 1 (.slice Ad dr.length cd) dr.length (ic (natI dr)) ∧ Apart (.slice Ad dr.length cd) (.slice (some ad3) lf.length c3) ∧ Below w.heap.size w w3 ∧ BlockIs w3 gx 96 #[.slice At lf.length ct, .slice Ad dr.length cd, .slice As sn cs]) := by
      have e0 : lf ++ lateRestTo lf 0 = lf := by unfold lateRestTo; simp
      rw [e0]
      have s := HSZ.out
      rw [hgx]
      exact ⟨own_low ho3 (by omega), own_blw HD2.out.1 hb3, apart_new HD2.out.1 ho3 (Nat.le_refl _), HD2.out.2.1.trans (hb3.mono HD2.out.2.1.size), HD2.out.2.2.below hb3⟩
    rw [← hgx]
    clear ho3 hb3 HOWN HD2 HSZ hc0 hgx
    go_wp2
    go_loopw [5, 6] (fun v i wr => ∃ k : Nat, k ≤ js.length ∧ i = .int .i64 (k : Int) ∧ Hid (wr.ownsRow w.heap.size 3 1 v (lf ++ lateRestTo lf k).length (ic (natI (lf ++ lateRestTo lf k))) ∧ wr.ownsRow w.heap.size 3 1 (.slice Ad dr.length cd) dr.length (ic (natI dr)) ∧ Apart (.slice Ad dr.length cd) v ∧ Below w.heap.size w wr ∧ BlockIs wr gx 96 #[.slice At lf.length ct, .slice Ad dr.length cd, .slice As sn cs])) (fun _ i _ => js.length - (intOf i).toNat)
    case atStart => exact ⟨0, Nat.zero_le _, rfl, H3⟩
    case round =>
      obtain ⟨k, hk, rfl, HK⟩ := hrel
      clear H3
      by_cases hlt : k < js.length
      · have hk0 : (0 : Int) ≤ k := by omega
        have hk1 : (k : Int) < js.length := by omega
        have hrl := lateRest_len lf k
        have hc1 := HK.out.2.2.2.2.cell 1
        simp only [List.getElem?_toArray, List.getElem?_cons_zero, List.getElem?_cons_succ] at hc1
        have hH := l1Has_any Ad cd (natI dr) (k : Int) wr (Row.of_own HK.out.2.1) (by rw [List.length_map]; omega)
        rw [List.length_map] at hH
        have hiff : hasI (natI dr) (k : Int) = decide (k ∉ lf) := by
          unfold hasI
          rw [decide_eq_decide, ← HDR.out k hlt]
          unfold natI
          rw [List.mem_map]
          constructor
          · rintro ⟨y, hy, e⟩
            have : y = k := Int.ofNat.inj e
            subst this; exact hy
          · intro hm; exact ⟨k, hm, rfl⟩
        rw [hiff] at hH
        by_cases hin : k ∈ lf
        · rw [decide_eq_false (by simpa using hin)] at hH
          have HH := Lib.hid hH
          have HS := Lib.hid (rest_skip hin)
          clear hH hiff
          go_wp2_with fail
          refine HH.out.mono ?_
          rintro e _ ⟨rfl, rfl⟩
          go_wp2
          go_roundw
          case rel => exact ⟨k + 1, by omega, by go_num, by rw [HS.out]; exact HK.out⟩
          case measure => simp [intOf]; omega
        · rw [decide_eq_true hin] at hH
          have HH := Lib.hid hH
          have HS := Lib.hid (rest_hit hin)
          clear hH hiff
          have hll : (lf ++ lateRestTo lf k).length ≤ 100 := by rw [List.length_append]; omega
          have HLL : Hid ((lf ++ lateRestTo lf (k + 1)).length = (lf ++ lateRestTo lf k).length + 1) := by show _ = _; rw [HS.out]; simp; omega
          have HIC : Hid (ic (natI (lf ++ lateRestTo lf k)) ++ [.int .i64 (k : Int)] = ic (natI (lf ++ lateRestTo lf (k + 1)))) := by show _ = _; rw [HS.out]; unfold ic natI; simp
          have HO := Lib.hid (HK.out.1.alloc (.cells #[.int .i64 (k : Int)] 3))
          have HSR := Lib.hid (row_src (Row.new wr 3 #[.int .i64 (k : Int)]))
          have hbs := HK.out.2.2.2.1.size
          clear hrl
          go_wp2_with fail
          refine HH.out.mono ?_
          rintro e _ ⟨rfl, rfl⟩
          go_wp2_with (at_builtin; refine wpList_append_at _ rfl _ _ 23 rfl w.heap.size 3 i0 (.int .i64 0) 1 8 Try.underlying23 hi hz0 hz1 hz2 rfl (by decide) _ _ _ rfl HO.out ⟨wr.heap.size, 0, none⟩ 1 1 [.int .i64 (k : Int)] rfl rfl HSR.out (by intro u hu; rw [List.mem_singleton.1 hu]; rfl) (by omega) (by unfold maxLen; omega) (by omega) (by simp; omega) ?_; intro v' w4 hown' hgrow hob)
          have HK2 : Hid (w4.ownsRow w.heap.size 3 1 v' (lf ++ lateRestTo lf (k + 1)).length (ic (natI (lf ++ lateRestTo lf (k + 1)))) ∧ w4.ownsRow w.heap.size 3 1 (.slice Ad dr.length cd) dr.length (ic (natI dr)) ∧ Apart (.slice Ad dr.length cd) v' ∧ Below w.heap.size w w4 ∧ BlockIs w4 gx 96 #[.slice At lf.length ct, .slice Ad dr.length cd, .slice As sn cs]) := by
            rw [HLL.out, ← HIC.out]
            exact ⟨hown', own_apart (alloc_own HK.out.2.1 _) HK.out.2.2.1 hgrow, apart_app HK.out.2.1 HK.out.2.2.1 (by simp) hob, (HK.out.2.2.2.1.alloc hbs _).grown hgrow (by simp; omega) (fun j hj => (HO.out.lt j hj).1), block_apart (HK.out.2.2.2.2.below ((Below.refl _ _).alloc (Nat.le_refl _) _)) HO.out (by decide) hgrow⟩
          clear hown' hgrow hob HK HO HSR hc1
          go_roundw
          case rel => exact ⟨k + 1, by omega, by go_num, HK2⟩
          case measure => simp [intOf]; omega
      · obtain rfl : k = js.length := by omega
        have HF := Lib.hid (And.intro HK.out.1 HK.out.2.2.2.1)
        clear HK
        go_wp2
        go_ret2
        exact ret_ownR (by rw [HR.out, HLR.out]; rfl) rfl HF.out.1 HF.out.2 _ rfl
set_option maxRecDepth 100000 in
set_option maxHeartbeats 1000000 in
theorem impl_LateRule : Calls Try.prog 34 #[.slice A js.length c] w (RetIB w (lateOR js)) := by
  have HR : Hid (lateOR js = if plainL js then (natI (lateRuleL js), true) else ([], false)) := rfl
  have HRA := Lib.hid (runR_all js)
  have HLR : Hid (lateRuleL js = (lateGo js js.length).left ++ lateRestTo (lateGo js js.length).left js.length) := rfl
  have HC := Lib.hid (lateRun_any A c js w hr hn (js.length : Int))
  obtain ⟨i0, hi, hz0, hz1, hz2⟩ := info_parts infoI
  go_enter Try.func34, Try.ntmps34
  go_wp2_with fail
  refine HC.out.mono ?_
  rintro e w1 ⟨hb1, ⟨hx, rfl⟩ | ⟨hx, vt, vs, rfl, ho1, ho2⟩⟩
  · rw [← HRA.out, hx] at HR
    have hbW := (Below.refl w1.heap.size w1).alloc (Nat.le_refl _) (.cells #[.slice none 0 0, .slice none 0 0] 99)
    have HB := Lib.hid (hb1.trans (hbW.mono hb1.size))
    clear hb1 HC hx HRA hbW
    go_wp2
    go_ret2
    exact ret_emptyZ (by rw [HR.out]; rfl) HB.out (by simp) _ rfl
  · have hgd : goodL js = true := by
      have h := hx
      unfold runR at h
      rw [Bool.and_eq_true] at h
      exact ruled_good h.1
    have h8 := (good_out hgd).1
    have HLN := (late_lens js).2
    rw [← HRA.out, hx] at HR
    rw [Int.toNat_natCast] at ho1 ho2
    obtain ⟨lf, hlf⟩ : ∃ lf, lf = (lateGo js js.length).left := ⟨_, rfl⟩
    rw [← hlf] at ho1 HLR HLN
    obtain ⟨At, ct, rfl, _⟩ := own_slice ho1
    obtain ⟨As, cs, rfl, _⟩ := own_slice ho2
    have hl8 : lf.length ≤ 8 := by omega
    generalize (lateGo js js.length).steps.length = sn at *
    have hK := BlockIs.new w1 99 #[.slice At lf.length ct, .slice As sn cs]
    have hbW := (Below.refl w1.heap.size w1).alloc (Nat.le_refl _) (.cells #[.slice At lf.length ct, .slice As sn cs] 99)
    have hc0 := hK.cell 0
    simp only [List.getElem?_toArray, List.getElem?_cons_zero] at hc0
    obtain ⟨gx, hgx⟩ : ∃ gx, gx = w1.heap.size := ⟨_, rfl⟩
    have H1 : Hid ((w1.alloc (.cells #[.slice At lf.length ct, .slice As sn cs] 99)).ownsRow w.heap.size 3 1 (.slice At lf.length ct) (lf ++ lateRestTo lf 0).length (ic (natI (lf ++ lateRestTo lf 0))) ∧ (w1.alloc (.cells #[.slice At lf.length ct, .slice As sn cs] 99)).ownsRow w.heap.size 3 1 (.slice At lf.length ct) lf.length (ic (natI lf)) ∧ Below w.heap.size w (w1.alloc (.cells #[.slice At lf.length ct, .slice As sn cs] 99)) ∧ BlockIs (w1.alloc (.cells #[.slice At lf.length ct, .slice As sn cs] 99)) gx 99 #[.slice At lf.length ct, .slice As sn cs]) := by
      have e0 : lf ++ lateRestTo lf 0 = lf := by unfold lateRestTo; simp
      rw [e0, hgx]
      exact ⟨own_blw ho1 hbW, own_blw ho1 hbW, hb1.trans (hbW.mono hb1.size), hK⟩
    clear hb1 ho1 ho2 HC hx HRA hlf HLN hK hbW
    go_wp2
    rw [← hgx]
    clear hgx hc0
    go_loopw [6, 22] (fun v i wr => ∃ k : Nat, k ≤ js.length ∧ i = .int .i64 (k : Int) ∧ Hid (wr.ownsRow w.heap.size 3 1 v (lf ++ lateRestTo lf k).length (ic (natI (lf ++ lateRestTo lf k))) ∧ wr.ownsRow w.heap.size 3 1 (.slice At lf.length ct) lf.length (ic (natI lf)) ∧ Below w.heap.size w wr ∧ BlockIs wr gx 99 #[.slice At lf.length ct, .slice As sn cs])) (fun _ i _ => js.length - (intOf i).toNat)
    case atStart => exact ⟨0, Nat.zero_le _, rfl, H1⟩
    case round =>
      obtain ⟨k, hk, rfl, HK⟩ := hrel
      clear H1
      by_cases hlt : k < js.length
      · have hk0 : (0 : Int) ≤ k := by omega
        have hk1 : (k : Int) < js.length := by omega
        have hrl := lateRest_len lf k
        have hc0 := HK.out.2.2.2.cell 0
        simp only [List.getElem?_toArray, List.getElem?_cons_zero] at hc0
        have hH := contains_own HK.out.2.1 rfl (by omega) k
        by_cases hin : k ∈ lf
        · rw [decide_eq_true hin] at hH
          have HH := Lib.hid hH
          have HS := Lib.hid (rest_skip hin)
          clear hH
          go_wp2_with fail
          refine HH.out.mono ?_
          rintro e _ ⟨rfl, rfl⟩
          go_wp2
          go_roundw
          case rel => exact ⟨k + 1, by omega, by go_num, by rw [HS.out]; exact HK.out⟩
          case measure => simp [intOf]; omega
        · rw [decide_eq_false hin] at hH
          have HH := Lib.hid hH
          have HS := Lib.hid (rest_hit hin)
          clear hH
          have hll : (lf ++ lateRestTo lf k).length ≤ 100 := by rw [List.length_append]; omega
          have HO := HK.out.1.alloc (.cells #[.int .i64 (k : Int)] 3)
          have HSR := row_src (Row.new wr 3 #[.int .i64 (k : Int)])
          have hbs := HK.out.2.2.1.size
          obtain ⟨v', w4, hrun, hown', hgrow, hob, hkeep⟩ := append_keep (P := Try.prog) (wr.alloc (.cells #[.int .i64 (k : Int)] 3)) w.heap.size 23 23 3 i0 (.int .i64 0) 1 8 Try.underlying23 hi hz0 hz1 hz2 rfl (by decide) _ _ _ HO ⟨wr.heap.size, 0, none⟩ 1 1 [.int .i64 (k : Int)] rfl HSR (by intro u hu; rw [List.mem_singleton.1 hu]; rfl) (by omega) (by unfold maxLen; omega) (by omega) (by simp; omega)
          have HK2 : Hid (w4.ownsRow w.heap.size 3 1 v' (lf ++ lateRestTo lf (k + 1)).length (ic (natI (lf ++ lateRestTo lf (k + 1)))) ∧ w4.ownsRow w.heap.size 3 1 (.slice At lf.length ct) lf.length (ic (natI lf)) ∧ Below w.heap.size w w4 ∧ BlockIs w4 gx 99 #[.slice At lf.length ct, .slice As sn cs]) := by
            have e1 : (lf ++ lateRestTo lf (k + 1)).length = (lf ++ lateRestTo lf k).length + 1 := by rw [HS.out]; simp; omega
            have e2 : ic (natI (lf ++ lateRestTo lf k)) ++ [.int .i64 (k : Int)] = ic (natI (lf ++ lateRestTo lf (k + 1))) := by rw [HS.out]; unfold ic natI; simp
            rw [e1, ← e2]
            refine ⟨hown', ?_, (HK.out.2.2.1.alloc hbs _).grown hgrow (by simp; omega) (fun j hj => (HO.lt j hj).1), block_apart (HK.out.2.2.2.below ((Below.refl _ _).alloc (Nat.le_refl _) _)) HO (by decide) hgrow⟩
            refine row_part (alloc_own HK.out.2.1 _) hgrow ?_ hkeep
            unfold ic natI
            simp
          have HRUN := Lib.hid hrun
          clear hown' hgrow hob hkeep hrun HO HSR HK hrl
          go_wp2_with fail
          refine HH.out.mono ?_
          rintro e _ ⟨rfl, rfl⟩
          go_wp2_with (at_builtin; refine wpList_app_run rfl _ _ _ rfl _ _ _ rfl rfl HRUN.out ?_)
          go_roundw
          case rel => exact ⟨k + 1, by omega, by go_num, HK2⟩
          case measure => simp [intOf]; omega
      · obtain rfl : k = js.length := by omega
        have HF := Lib.hid (And.intro HK.out.1 HK.out.2.2.1)
        clear HK
        go_wp2
        go_ret2
        exact ret_ownR (by rw [HR.out, HLR.out]; rfl) rfl HF.out.1 HF.out.2 _ rfl
end
end Go.Proofs.Ytjnaicgmfnhjeaa
