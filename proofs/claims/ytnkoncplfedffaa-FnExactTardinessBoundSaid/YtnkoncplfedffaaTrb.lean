/- TardinessBound: the model's and the program's. -/
import Derived.Test.YtnkoncplfedffaaTrd
namespace Go.Proofs.Ytnkoncplfedffaa
open Go.RowKit
theorem below_andT {w W1 W2 : World} (h : Below w.heap.size w W1) (h2 : Below W1.heap.size W1 W2) : Below w.heap.size w W2 := h.trans (h2.mono h.size)
def tardR (js : List J) : Int × Bool := if plainL js then (tardL js, true) else (0, false)
theorem wpList_appT {P : Program} {ops : Array Oper} {rest : List Oper} {o : Oper} {a : Act} {w w' : World} {Q : Exit → Act → World → Prop} (hgd : o.guard = none) (s x : Operand) (t : TypeId)
    (ho : o.op = .call { callee := .builtin .append, args := #[s, x], argTypes := #[t, t] }) (v u r : Value) (hs : a.eval s = v) (hx : a.eval x = u) (hr : (Builtin.append_ #[t, t] o.type #[v, u]).run P w = .ok r w')
    (h : wpList P ops Q rest (a.put o.dst r) w') : wpList P ops Q (o :: rest) a w := by
  refine wpList_plain hgd fun K hK => ?_
  unfold Oper.wp execOp
  simp only [ho, resolve, invoke, builtin, Sem.run_bind, Sem.run_pure, Result.andThen_ok, List.map_toArray, List.map_cons, List.map_nil, hs, hx, hr]
  exact hK _ _ h
theorem timesJ_to (js : List J) (k : Nat) (hk : k < js.length) : (timesJ js).take (k + 1) = (timesJ js).take k ++ [js[k].t] := by
  unfold timesJ; rw [List.take_succ_eq_append_getElem (by simpa using hk)]; simp
theorem datesJ_to (js : List J) (k : Nat) (hk : k < js.length) : (datesJ js).take (k + 1) = (datesJ js).take k ++ [js[k].d] := by
  unfold datesJ; rw [List.take_succ_eq_append_getElem (by simpa using hk)]; simp
section
variable (A : Option Addr) (c : Nat) (js : List J) (w : World) (hr : Row w A (jc js)) (hn : js.length ≤ 100000000)
include hr hn
set_option maxRecDepth 100000 in
set_option maxHeartbeats 4000000 in
theorem spec_TardinessBound : Calls Try.prog 18 #[.slice A js.length c] w (RetNB w (tardR js)) := by
  have HR : Hid (tardR js = if plainL js then (tardL js, true) else (0, false)) := rfl
  cases hp : plainL js
  · rw [hp] at HR
    go_enter Try.func18, Try.ntmps18
    go_wp2_with fail
    refine (l6Good_any A c js _ hr hn).mono ?_
    rintro e w1 ⟨rfl, hb1⟩
    rw [hp]
    go_wp2
    go_ret2
    exact ⟨by rw [HR.out]; rfl, hb1⟩
  · rw [hp] at HR
    have hg := plain_good hp
    obtain ⟨h8, hok⟩ := good_out hg
    obtain ⟨i0, hi, hz0, hz1, hz2⟩ := info_parts infoI
    go_enter Try.func18, Try.ntmps18
    go_wp2_with fail
    refine (l6Good_any A c js _ hr hn).mono ?_
    rintro e w1 ⟨rfl, hb1⟩
    rw [hp]
    have hb2 : Below w.heap.size w ((w1.alloc (.cells #[] 3)).alloc (.cells #[] 3)) := (hb1.alloc hb1.size _).alloc (by simp; have := hb1.size; omega) _
    have o1 : ((w1.alloc (.cells #[] 3)).alloc (.cells #[] 3)).ownsRow w.heap.size 3 1 (.slice (some ⟨w1.heap.size, 0, none⟩) 0 0) 0 [] := (World.ownsRow_made w1 #[] 0 hb1.size (by unfold maxLen; omega) rfl).alloc _
    have o2 : ((w1.alloc (.cells #[] 3)).alloc (.cells #[] 3)).ownsRow w.heap.size 3 1 (.slice (some ⟨w1.heap.size + 1, 0, none⟩) 0 0) 0 [] := by
      have h := World.ownsRow_made (base := w.heap.size) (e := 3) (size := 1) (w1.alloc (.cells #[] 3)) #[] 0 (by simp; have := hb1.size; omega) (by unfold maxLen; omega) rfl
      rwa [World.size_alloc] at h
    have H0 := Lib.hid (And.intro o1 (And.intro o2 hb2))
    clear o1 o2 hb2 hb1
    go_wp2
    go_loopw [4, 5, 8] (fun tv dv i wr => ∃ k : Nat, k ≤ js.length ∧ i = .int .i64 k ∧ Hid (wr.ownsRow w.heap.size 3 1 tv k (ic ((timesJ js).take k)) ∧ wr.ownsRow w.heap.size 3 1 dv k (ic ((datesJ js).take k)) ∧ (∃ a b, tv.ownBlock = some a ∧ dv.ownBlock = some b ∧ a ≠ b) ∧ Below w.heap.size w wr)) (fun _ _ i _ => js.length - (intOf i).toNat)
    case atStart => exact ⟨0, Nat.zero_le _, rfl, H0.out.1, H0.out.2.1, ⟨_, _, rfl, rfl, by simp⟩, H0.out.2.2⟩
    case round =>
      obtain ⟨k, hk, rfl, HR0⟩ := hrel
      obtain ⟨howt, howd, ⟨ba, bb, eba, ebb, hab⟩, hb⟩ := HR0.out
      clear HR0 H0
      obtain ⟨At, ct, rfl, hnt, hrt⟩ := own_slice howt
      obtain ⟨Ad, cd, rfl, hnd, hrd⟩ := own_slice howd
      by_cases hlt : k < js.length
      · obtain ⟨ad, hA, hadb, _, _, _, e3w⟩ := hr.job hlt
        subst hA
        obtain ⟨ad', hA', _, e0, e1, e2, e3⟩ := (hr.below hb).job hlt
        injection hA' with hA'
        subst hA'
        have hk0 : (0 : Int) ≤ k := by omega
        have hk1 : (k : Int) < js.length := by omega
        have hsz := hb.size
        have HTT := timesJ_to js k hlt
        have HDD := datesJ_to js k hlt
        have hbbl := (howd.lt bb ebb).2
        have hbal := (howt.lt ba eba).2
        generalize js[k] = j at *
        obtain ⟨v6, w6, hrun6, hown6, hgrow6, hat6⟩ := append_at (P := Try.prog) (wr.alloc (.cells #[.int .i64 j.t] 3)) w.heap.size 42 42 3 i0 (.int .i64 0) 1 8 Try.underlying42 hi hz0 hz1 hz2 rfl (by decide) (.slice At k ct) k (ic ((timesJ js).take k)) (howt.alloc _) ⟨wr.heap.size, 0, none⟩ 1 1 [.int .i64 j.t] rfl (cell_one_new _ _ _) (by intro u hu; simp at hu; subst hu; rfl) (by omega) (by have hmx : (1000 : Nat) + 1 ≤ maxLen := (by unfold maxLen; omega); omega) (by omega) (by simp; omega)
        have hb6 := app_grown hb hsz howt hgrow6
        have hoic : ∀ (xs : List Int) (x : Int), ic xs ++ [Value.int .i64 x] = ic (xs ++ [x]) := fun xs x => by unfold ic; simp
        rw [hoic, ← HTT] at hown6
        have howd6 : w6.ownsRow w.heap.size 3 1 (.slice Ad k cd) k (ic ((datesJ js).take k)) := (howd.alloc _).kept hgrow6 (.inr (by rw [eba, ebb]; intro h; injection h with h; exact hab h.symm))
        have hsz6 := hb6.size
        have had6 : w6.cell? ⟨(ad.add (k * 4)).block, (ad.add (k * 4)).off + 3, none⟩ = some (.int .i64 j.d) := (hb6.cell (p := ⟨(ad.add (k * 4)).block, (ad.add (k * 4)).off + 3, none⟩) (by show (ad.add (k * 4)).block < _; rw [add_block]; exact hadb)).trans e3w
        obtain ⟨v7, w7, hrun7, hown7, hgrow7, hat7⟩ := append_at (P := Try.prog) (w6.alloc (.cells #[.int .i64 j.d] 3)) w.heap.size 42 42 3 i0 (.int .i64 0) 1 8 Try.underlying42 hi hz0 hz1 hz2 rfl (by decide) (.slice Ad k cd) k (ic ((datesJ js).take k)) (howd6.alloc _) ⟨w6.heap.size, 0, none⟩ 1 1 [.int .i64 j.d] rfl (cell_one_new _ _ _) (by intro u hu; simp at hu; subst hu; rfl) (by omega) (by have hmx : (1000 : Nat) + 1 ≤ maxLen := (by unfold maxLen; omega); omega) (by omega) (by simp; omega)
        have hb7 := app_grown hb6 hsz6 howd6 hgrow7
        rw [hoic, ← HDD] at hown7
        have ht6 : ∃ a6, v6.ownBlock = some a6 ∧ a6 ≠ bb := by
          rcases hat6 with h | h
          · exact ⟨ba, h.trans eba, hab⟩
          · exact ⟨_, h, by simp; omega⟩
        obtain ⟨a6, ea6, ha6⟩ := ht6
        have howt7 := (hown6.alloc (.cells #[.int .i64 j.d] 3)).kept hgrow7 (.inr (by rw [ea6, ebb]; intro h; injection h with h; exact ha6 h))
        have hap : ∃ a b, v6.ownBlock = some a ∧ v7.ownBlock = some b ∧ a ≠ b := by
          have h6l := (hown6.lt a6 ea6).2
          rcases hat7 with h | h
          · exact ⟨a6, bb, ea6, h.trans ebb, ha6⟩
          · exact ⟨a6, _, ea6, h, by simp; omega⟩
        have HX := Lib.hid (And.intro howt7 (And.intro hown7 (And.intro hap hb7)))
        have H6 := Lib.hid hrun6
        have H7 := Lib.hid hrun7
        obtain ⟨A6, c6, rfl, _⟩ := own_slice hown6
        obtain ⟨A7, c7, rfl, _⟩ := own_slice hown7
        clear e3w howt howd eba ebb hab hb hrt hrd hr hok hg HTT HDD hbbl hbal hrun6 hown6 hgrow6 hat6 hb6 hoic howd6 hrun7 hown7 hgrow7 hat7 hb7 ea6 ha6 howt7 hap hi hz0 hz1 hz2
        go_wp2_with (at_builtin; first | (refine wpList_appT rfl _ _ _ rfl _ _ _ rfl rfl H6.out ?_; clear H6) | (refine wpList_appT rfl _ _ _ rfl _ _ _ rfl rfl H7.out ?_; clear H7))
        go_roundw
        case rel => exact ⟨k + 1, by omega, by go_num, HX.out⟩
        case measure => simp [intOf]; omega
      · obtain rfl : k = js.length := by omega
        rw [List.take_of_length_le (by unfold timesJ; simp)] at howt hrt
        rw [List.take_of_length_le (by unfold datesJ; simp)] at howd hrd
        obtain ⟨at_, hat_⟩ : ∃ x, At = some x := by
          cases At with
          | none => cases eba
          | some x => exact ⟨x, rfl⟩
        obtain ⟨ad_, had_⟩ : ∃ x, Ad = some x := by
          cases Ad with
          | none => cases ebb
          | some x => exact ⟨x, rfl⟩
        subst hat_ had_
        have hlt1 : js.length = (timesJ js).length := by unfold timesJ; simp
        have hld1 : js.length = (datesJ js).length := by unfold datesJ; simp
        have HC1 := Lib.hid (l6Sorted_any (some at_) ct (timesJ js) wr hrt (by omega))
        have HC2 : Hid (∀ w', Row w' (some ad_) (ic (datesJ js)) → _) := fun w' h => l6Sorted_any (some ad_) cd (datesJ js) w' h (by omega)
        rw [← hlt1] at HC1
        rw [← hld1] at HC2
        have HB := Lib.hid hb
        have HD := Lib.hid hrd
        have hst := sortI_len (timesJ js)
        have hsd := sortI_len (datesJ js)
        have hbt := sort_times hg
        have hbd := sort_dates hg
        have HT : Hid (tardL js = bndTo (sortI (timesJ js)) (sortI (datesJ js)) js.length) := rfl
        rw [← hlt1] at hst
        rw [← hld1] at hsd
        have HN := Lib.hid (And.intro hst hsd)
        clear howt howd eba ebb hab hb hrt hrd hr hok hg hi hz0 hz1 hz2 hnt hnd hlt1 hld1
        go_wp2_with fail
        refine HC1.out.mono ?_
        rintro e w2 ⟨v1, rfl, ho1, hb1⟩
        obtain ⟨A1, c1, rfl, _, hs1⟩ := own_slice ho1
        have HB1 := Lib.hid (below_andT HB.out hb1)
        have HO1 := Lib.hid hs1
        have HC2' := Lib.hid (HC2.out w2 (HD.out.below hb1))
        clear hb1 ho1 hs1 HC1 HC2 HD HB
        go_wp2_with fail
        refine HC2'.out.mono ?_
        rintro e w3 ⟨v2, rfl, ho2, hb2⟩
        have HB2 := Lib.hid (below_andT HB1.out hb2)
        obtain ⟨A2, c2, rfl, _, hs2⟩ := own_slice ho2
        have HS1 := Lib.hid (HO1.out.below hb2)
        have HS2 := Lib.hid hs2
        clear hs2 ho2 hb2 HO1 HC2' HB1
        generalize sortI (timesJ js) = ts at *
        generalize sortI (datesJ js) = ds at *
        go_wp2
        go_loop [6, 7, 9] (fun nv sv i => ∃ k : Nat, k ≤ js.length ∧ i = .int .i64 k ∧ nv = .int .i64 (endTo ts k) ∧ sv = .int .i64 (bndTo ts ds k)) (fun _ _ i => js.length - (intOf i).toNat)
        case atStart => exact ⟨0, Nat.zero_le _, rfl, rfl, rfl⟩
        case round =>
          obtain ⟨k, hk, rfl, rfl, rfl⟩ := hrel
          by_cases hlt : k < js.length
          · have hk0 : (0 : Int) ≤ k := by omega
            have hk1 : (k : Int) < js.length := by omega
            have hkt : k < ts.length := by have := HN.out.1; omega
            have hkd : k < ds.length := by have := HN.out.2; omega
            obtain ⟨xa, hxa, hct⟩ := HS1.out.int hkt
            obtain ⟨ya, hya, hcd⟩ := HS2.out.int hkd
            subst hxa hya
            have he1 := endTo_bd ts hbt k (by omega)
            have he2 := endTo_bd ts hbt (k + 1) (by omega)
            have hb1 := bndTo_bd ts ds hbt hbd k (by omega) (by omega) (by omega)
            have hb2 := bndTo_bd ts ds hbt hbd (k + 1) (by omega) (by omega) (by omega)
            have HE := Lib.hid (endTo_succ ts k hkt)
            have HS : Hid (bndTo ts ds (k + 1) = bndTo ts ds k + max (endTo ts (k + 1) - ds[k]) 0) := by show _ = _; rw [← getD_at ds 0 hkd]; rfl
            have htb := hbt _ (List.getElem_mem hkt)
            have hdb := hbd _ (List.getElem_mem hkd)
            generalize ts[k] = tt at *
            generalize ds[k] = dd at *
            have hm0 : 0 ≤ max (endTo ts k + tt - dd) 0 := by omega
            have hm1 : max (endTo ts k + tt - dd) 0 ≤ 500 := by omega
            clear hbt hbd
            go_wp2_with fail
            refine (l1Most_any _ _ _).mono ?_
            rintro e _ ⟨rfl, rfl⟩
            go_wp2
            go_round
            case rel => exact ⟨k + 1, by omega, by go_num, by rw [HE.out], by rw [HS.out, HE.out]⟩
            case measure => simp [intOf]; omega
          · obtain rfl : k = js.length := by omega
            go_wp2
            go_ret2
            exact ⟨by rw [HR.out, HT.out]; rfl, HB2.out⟩
end
end Go.Proofs.Ytnkoncplfedffaa
