/- The schedules by the rules of choice: the model's. -/
import Derived.Test.YtnkoncplfedffaaChm
namespace Go.Proofs.Ytnkoncplfedffaa
open Go.RowKit
theorem own_upC {w' : World} {B B' : Nat} {e : TypeId} {size n : Nat} {v : Value} {xs : List Value} (h : w'.ownsRow B' e size v n xs) (hB : B ≤ B') : w'.ownsRow B e size v n xs := by
  refine ⟨h.1, ?_⟩
  rcases h.2 with h0 | ⟨g, cap, cur, rfl, hb, hg, hr⟩
  · exact .inl h0
  · exact .inr ⟨g, cap, cur, rfl, Nat.le_trans hB hb, hg, hr⟩
def timesL (js : List J) : List Int := js.map (·.t)
theorem timesL_len (js : List J) : (timesL js).length = js.length := List.length_map ..
theorem times_sum : ∀ {js : List J}, (∀ j ∈ js, okJ j = true) → 0 ≤ (timesL js).sum ∧ (timesL js).sum ≤ 50 * (js.length : Int)
  | [], _ => by simp [timesL]
  | j :: js, h => by
    have h1 := times_sum (js := js) (fun x hx => h x (List.mem_cons_of_mem _ hx))
    have h2 := okJ_out (h j List.mem_cons_self)
    unfold timesL at h1 ⊢
    simp only [List.map_cons, List.sum_cons, List.length_cons]
    omega
theorem cIn_zero {js : List J} (hg : goodL js = true) : CIn js 0 (timesL js) := by
  obtain ⟨h8, hok⟩ := good_out hg
  have := times_sum hok
  refine ⟨timesL_len js, fun x hx => ?_, by omega, by omega⟩
  obtain ⟨j, hj, rfl⟩ := List.mem_map.1 hx
  have := okJ_out (hok j hj)
  omega
def chL (js : List J) (o : Int) : List Sp := chFin js o 0 (timesL js) []
def chR (js : List J) (o : Int) : List Sp × Bool := if goodL js then (chL js o, true) else ([], false)
theorem putSp_len (out : List Sp) (k : Nat) (f t : Int) : (putSp out k f t).length ≤ out.length + 1 := by
  unfold putSp
  cases h : out.getLast? with
  | none => simp
  | some l =>
    simp only
    split
    · simp <;> omega
    · simp
theorem chGo_len (js : List J) (o : Int) : ∀ (f : Nat) (now : Int) (R : List Int) (out : List Sp), (chGo js o f now R out).length ≤ out.length + f
  | 0, _, _, out => Nat.le_refl _
  | f + 1, now, R, out => by
    unfold chGo
    split
    · split
      · have := chGo_len js o f (now + 1) R out; omega
      · have h1 := chGo_len js o f (now + 1) (R.set (chPick js o R now).toNat (R.getD (chPick js o R now).toNat 0 - 1)) (putSp out (chPick js o R now).toNat now (now + 1))
        have h2 := putSp_len out (chPick js o R now).toNat now (now + 1)
        omega
    · omega
theorem chR_len (js : List J) (o : Int) : (chR js o).1.length ≤ 900 := by
  unfold chR
  split
  · have := chGo_len js o (900 - (0 : Int)).toNat 0 (timesL js) []
    exact Nat.le_trans this (by simp)
  · simp
theorem times_take (js : List J) (k : Nat) (hk : k < js.length) : ic ((timesL js).take k) ++ [.int .i64 js[k].t] = ic ((timesL js).take (k + 1)) := by
  rw [List.take_succ_eq_append_getElem (by rw [timesL_len]; exact hk)]
  unfold ic timesL
  simp
section
variable (A : Option Addr) (c : Nat) (js : List J) (w : World) (hr : Row w A (jc js)) (hn : js.length ≤ 1000)
include hr hn
set_option maxRecDepth 100000 in
set_option maxHeartbeats 2000000 in
theorem l5Rests_any : Calls Try.prog 47 #[.slice A js.length c] w fun e w' => ∃ ad c', e = .returned (.slice (some ad) js.length c') ∧ Row w' (some ad) (ic (timesL js)) ∧ Below w.heap.size w w' := by
  obtain ⟨i0, hi, hz0, hz1, hz2⟩ := info_parts infoI
  have hown0 : (w.alloc (.cells #[] 3)).ownsRow w.heap.size 3 1 (.slice (some ⟨w.heap.size, 0, none⟩) 0 0) 0 [] := World.ownsRow_made w #[] 0 (Nat.le_refl _) (by unfold maxLen; omega) rfl
  have hb0 := (Below.refl w.heap.size w).alloc (Nat.le_refl _) (.cells #[] 3)
  go_enter Try.func47, Try.ntmps47
  go_wp2
  go_loopw [3, 4] (fun v i wr => ∃ (k : Nat), k ≤ js.length ∧ i = .int .i64 (k : Int) ∧ wr.ownsRow w.heap.size 3 1 v k (ic ((timesL js).take k)) ∧ v.ownBlock ≠ none ∧ Below w.heap.size w wr) (fun _ i _ => js.length - (intOf i).toNat)
  case atStart => exact ⟨0, Nat.zero_le _, rfl, hown0, (fun h => by cases h), hb0⟩
  case round =>
    obtain ⟨k, hk, rfl, hown, hne, hb⟩ := hrel
    clear hown0 hb0
    obtain ⟨Av, cv, rfl, hnc, hrow⟩ := own_slice hown
    by_cases hlt : k < js.length
    · obtain ⟨ad, hA, hbl, e0, e1, e2, e3⟩ := (hr.below hb).job hlt
      subst hA
      have HT := times_take js k hlt
      have hk0 : (0 : Int) ≤ k := by omega
      have hk1 : (k : Int) < js.length := by omega
      have hsz := hb.size
      generalize js[k] = j at *
      obtain ⟨v', w6, hrun, hown', hgrow, hat⟩ := append_at (P := Try.prog) (wr.alloc (.cells #[.int .i64 j.t] 3)) w.heap.size 42 42 3 i0 (.int .i64 0) 1 8 Try.underlying42 hi hz0 hz1 hz2 rfl (by decide) (.slice Av k cv) k (ic ((timesL js).take k)) (hown.alloc _) ⟨wr.heap.size, 0, none⟩ 1 1 [.int .i64 j.t] rfl (cell_one_new _ _ _) (by intro u hu; simp at hu; subst hu; rfl) (by omega) (by have hmx : (1000 : Nat) + 1 ≤ maxLen := (by unfold maxLen; omega); omega) (by omega) (by simp; omega)
      have hb6 := app_grown hb hsz hown hgrow
      rw [HT] at hown'
      have hne' : v'.ownBlock ≠ none := by
        rcases hat with h | h
        · rw [h]; exact hne
        · rw [h]; intro h; cases h
      obtain ⟨Av', cv', rfl, _⟩ := own_slice hown'
      have HX := Lib.hid (And.intro hown' (And.intro hne' hb6))
      have HRUN := Lib.hid hrun
      clear hown' hb6 hgrow hat hown hb hne hne' hrow HT hrun hr hi hz0 hz1 hz2 hnc
      go_wp2_with (at_builtin; refine wpList_appG rfl _ _ _ rfl _ _ _ rfl rfl HRUN.out ?_; clear HRUN)
      go_roundw
      case rel => exact ⟨k + 1, by omega, by go_num, HX.out.1, HX.out.2.1, HX.out.2.2⟩
      case measure => simp [intOf]; omega
    · obtain rfl : k = js.length := by omega
      rw [List.take_of_length_le (by rw [timesL_len]; exact Nat.le_refl _)] at hown hrow
      have HX : Hid (∃ ad, Av = some ad) := by
        rcases hown.2 with ⟨h0, _⟩ | ⟨g, cap, cur, h0, _⟩
        · rw [h0] at hne; exact absurd rfl hne
        · injection h0 with h0; exact ⟨_, h0⟩
      obtain ⟨ad, rfl⟩ := HX.out
      have HY := Lib.hid (And.intro hrow hb)
      clear hown hrow hb hne
      go_wp2
      go_ret
      exact ⟨ad, cv, rfl, HY.out.1, HY.out.2⟩
end
section
variable (A : Option Addr) (c : Nat) (js : List J) (w : World) (hr : Row w A (jc js)) (hn : js.length ≤ 10000000)
include hr hn
set_option maxRecDepth 100000 in
set_option maxHeartbeats 2000000 in
theorem spec_ByLeastRest : Calls Try.prog 20 #[.slice A js.length c] w (RetTB w (chR js 2)) := by
  cases hg : goodL js
  · have HR : Hid (chR js 2 = ([], false)) := by show _ = _; unfold chR; rw [hg]; rfl
    go_enter Try.func20, Try.ntmps20
    go_wp2_with fail
    refine (l2Good_any A c js _ hr (by omega)).mono ?_
    rintro e w1 ⟨rfl, hb1⟩
    rw [hg]
    go_wp2
    go_ret2
    exact ret_emptyT HR.out hb1 _ rfl
  · have HR : Hid (chR js 2 = (chL js 2, true)) := by show _ = _; unfold chR; rw [hg]; rfl
    have h8 := (good_out hg).1
    have HG := Lib.hid hg
    go_enter Try.func20, Try.ntmps20
    go_wp2_with fail
    refine (l2Good_any A c js _ hr (by omega)).mono ?_
    rintro e w1 ⟨rfl, hb1⟩
    rw [hg]
    clear hg
    go_wp2_with fail
    refine (l5Rests_any A c js _ (hr.below hb1) (by omega)).mono ?_
    rintro e w2 ⟨ad, c', rfl, hrow, hb2⟩
    have HB2 := Lib.hid (below_and hb1 hb2)
    have HRW := Lib.hid hrow
    clear hb1 hb2 hrow
    go_wp2_with fail
    refine (l5Choose_any A ad c c' js (timesL js) 0 2 _ (hr.below HB2.out) HRW.out HG.out (cIn_zero HG.out) (by omega)).mono ?_
    rintro e w3 ⟨v, rfl, hown, hb3⟩
    have HX := Lib.hid (And.intro (own_upC hown HB2.out.size) (below_and HB2.out hb3))
    clear hown hb3
    go_wp2
    go_ret2
    exact ret_ownT HR.out rfl HX.out.1 HX.out.2 _ rfl
set_option maxRecDepth 100000 in
set_option maxHeartbeats 2000000 in
theorem spec_ByEarliestDate : Calls Try.prog 26 #[.slice A js.length c] w (RetTB w (chR js 4)) := by
  cases hg : goodL js
  · have HR : Hid (chR js 4 = ([], false)) := by show _ = _; unfold chR; rw [hg]; rfl
    go_enter Try.func26, Try.ntmps26
    go_wp2_with fail
    refine (l2Good_any A c js _ hr (by omega)).mono ?_
    rintro e w1 ⟨rfl, hb1⟩
    rw [hg]
    go_wp2
    go_ret2
    exact ret_emptyT HR.out hb1 _ rfl
  · have HR : Hid (chR js 4 = (chL js 4, true)) := by show _ = _; unfold chR; rw [hg]; rfl
    have h8 := (good_out hg).1
    have HG := Lib.hid hg
    go_enter Try.func26, Try.ntmps26
    go_wp2_with fail
    refine (l2Good_any A c js _ hr (by omega)).mono ?_
    rintro e w1 ⟨rfl, hb1⟩
    rw [hg]
    clear hg
    go_wp2_with fail
    refine (l5Rests_any A c js _ (hr.below hb1) (by omega)).mono ?_
    rintro e w2 ⟨ad, c', rfl, hrow, hb2⟩
    have HB2 := Lib.hid (below_and hb1 hb2)
    have HRW := Lib.hid hrow
    clear hb1 hb2 hrow
    go_wp2_with fail
    refine (l5Choose_any A ad c c' js (timesL js) 0 4 _ (hr.below HB2.out) HRW.out HG.out (cIn_zero HG.out) (by omega)).mono ?_
    rintro e w3 ⟨v, rfl, hown, hb3⟩
    have HX := Lib.hid (And.intro (own_upC hown HB2.out.size) (below_and HB2.out hb3))
    clear hown hb3
    go_wp2
    go_ret2
    exact ret_ownT HR.out rfl HX.out.1 HX.out.2 _ rfl
end
end Go.Proofs.Ytnkoncplfedffaa
