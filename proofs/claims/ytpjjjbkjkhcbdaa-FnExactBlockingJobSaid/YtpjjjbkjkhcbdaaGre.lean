/- The greedy order of the model. -/
import Derived.Test.YtpjjjbkjkhcbdaaGreP
import Derived.Test.YtpjjjbkjkhcbdaaOrd
import Derived.Test.YtpjjjbkjkhcbdaaGood
import Derived.Test.YtpjjjbkjkhcbdaaEnds
import Derived.Test.YtpjjjbkjkhcbdaaAppW
namespace Go.Proofs.Ytpjjjbkjkhcbdaa
open Go.RowKit
theorem hasI_nat (out : List Nat) (k : Nat) : hasI (natI out) (k : Int) = out.contains k := by
  unfold hasI natI
  rw [List.contains_eq_mem, decide_eq_decide]
  constructor
  · intro h
    obtain ⟨x, hx, e⟩ := List.mem_map.1 h
    rw [← Int.ofNat.inj e]; exact hx
  · intro h; exact List.mem_map.2 ⟨k, h, rfl⟩
theorem pickTo_no {ok : Nat → Bool} {rk : Nat → Int} {k : Nat} (h : ok k = false) : pickTo ok rk (k + 1) = pickTo ok rk k := by
  rw [pickTo, h, Bool.false_and, if_neg (by simp)]
theorem pickTo_first {ok : Nat → Bool} {rk : Nat → Int} {k : Nat} (h : ok k = true) (hp : pickTo ok rk k < 0) : pickTo ok rk (k + 1) = (k : Int) := by
  rw [pickTo, h, Bool.true_and, if_pos (by rw [Bool.or_eq_true]; exact .inl (decide_eq_true hp))]
theorem pickTo_less {ok : Nat → Bool} {rk : Nat → Int} {k b : Nat} (h : ok k = true) (hp : pickTo ok rk k = (b : Int)) (hr : rk k < rk b) : pickTo ok rk (k + 1) = (k : Int) := by
  rw [pickTo, h, Bool.true_and, hp, Int.toNat_natCast, if_pos (by rw [Bool.or_eq_true]; exact .inr (decide_eq_true hr))]
theorem pickTo_keep {ok : Nat → Bool} {rk : Nat → Int} {k b : Nat} (hp : pickTo ok rk k = (b : Int)) (hr : ¬ rk k < rk b) : pickTo ok rk (k + 1) = (b : Int) := by
  rw [pickTo, hp, Int.toNat_natCast, if_neg (by rw [Bool.and_eq_true, Bool.or_eq_true]; rintro ⟨_, h | h⟩; · have := of_decide_eq_true h; omega
                                                · exact hr (of_decide_eq_true h))]
theorem gOk_has {js : List J} {out : List Nat} {now : Int} {k : Nat} (h : hasI (natI out) (k : Int) = true) : gOk js out now k = false := by
  rw [hasI_nat] at h; unfold gOk; rw [h]; rfl
theorem gOk_late {js : List J} {out : List Nat} {now : Int} {k : Nat} (hk : k < js.length) (h : ¬ js[k].r ≤ now) : gOk js out now k = false := by
  unfold gOk; rw [getD_at js j0 hk, decide_eq_false h, Bool.and_false]
theorem gOk_yes {js : List J} {out : List Nat} {now : Int} {k : Nat} (hk : k < js.length) (h1 : hasI (natI out) (k : Int) = false) (h : js[k].r ≤ now) : gOk js out now k = true := by
  rw [hasI_nat] at h1; unfold gOk; rw [h1, getD_at js j0 hk, decide_eq_true h]; rfl
theorem dueN_at {js : List J} {k : Nat} (hk : k < js.length) : dueN js k = js[k].d := by unfold dueN; rw [getD_at js j0 hk]
theorem ic_natG (p : List Nat) (k : Nat) : ic (natI p) ++ [.int .i64 ((k : Nat) : Int)] = ic (natI (p ++ [k])) := by unfold ic; simp
theorem wpList_appG {P : Program} {ops : Array Oper} {rest : List Oper} {o : Oper} {a : Act} {w w' : World} {Q : Exit → Act → World → Prop} (hgd : o.guard = none) (s x : Operand) (t : TypeId)
    (ho : o.op = .call { callee := .builtin .append, args := #[s, x], argTypes := #[t, t] }) (v u r : Value) (hs : a.eval s = v) (hx : a.eval x = u) (hr : (Builtin.append_ #[t, t] o.type #[v, u]).run P w = .ok r w')
    (h : wpList P ops Q rest (a.put o.dst r) w') : wpList P ops Q (o :: rest) a w := by
  refine wpList_plain hgd fun K hK => ?_
  unfold Oper.wp execOp
  simp only [ho, resolve, invoke, builtin, Sem.run_bind, Sem.run_pure, Result.andThen_ok, List.map_toArray, List.map_cons, List.map_nil, hs, hx, hr]
  exact hK _ _ h
/-- How many elements a slice has. -/
def lenV : Value → Nat
  | .slice _ n _ => n
  | _ => 0
section
variable (A B : Option Addr) (c d : Nat) (js : List J) (out : List Nat) (now : Int) (w : World) (hr : Row w A (jc js)) (hq : Row w B (ic (natI out))) (hn : js.length ≤ 8) (hm : out.length ≤ 100000)
include hr hq hn hm
set_option maxRecDepth 100000 in
set_option maxHeartbeats 2000000 in
theorem l5Next_any : Calls Try.prog 134 #[.slice A js.length c, .slice B out.length d, .int .i64 now] w fun e w' => e = .returned (.int .i64 (gNext js out now)) ∧ ∃ m, w' = w.drewN m := by
  have hol : (natI out).length = out.length := List.length_map ..
  have HAS : ∀ (k : Int) (w' : World), Row w' B (ic (natI out)) → Calls Try.prog 131 #[.slice B out.length d, .int .i64 k] w' fun e w'' => e = .returned (.bool (hasI (natI out) k)) ∧ w' = w'' := fun k w' h => by
    have := l1Has_any B d (natI out) k w' h (by omega)
    rwa [hol] at this
  have HH := Lib.hid HAS
  have HE : Hid (gNext js out now = pickTo (gOk js out now) (dueN js) js.length) := rfl
  have HP0 : Hid (pickTo (gOk js out now) (dueN js) 0 = -1) := rfl
  clear HAS hol hm
  go_enter Try.func134, Try.ntmps134
  go_wp2
  go_loopw [7, 8] (fun b i wr => ∃ (k m : Nat) (P : Int), k ≤ js.length ∧ i = .int .i64 (k : Int) ∧ b = .int .i64 P ∧ Hid (pickTo (gOk js out now) (dueN js) k = P) ∧ wr = w.drewN m) (fun _ i _ => js.length - (intOf i).toNat)
  case atStart => exact ⟨0, 0, -1, Nat.zero_le _, rfl, rfl, HP0, rfl⟩
  case round =>
    obtain ⟨k, m, P, hk, rfl, rfl, hP, rfl⟩ := hrel
    clear HP0
    by_cases hlt : k < js.length
    · have hk0 : (0 : Int) ≤ k := by omega
      have hk1 : (k : Int) < js.length := by omega
      obtain ⟨ad, hA, hbl, e0, e1, e2, e3⟩ := hr.job hlt
      subst hA
      have HC := HH.out (k : Int)
      cases hin : hasI (natI out) (k : Int)
      · rw [hin] at HC
        by_cases hrl : js[k].r ≤ now
        · have hok := gOk_yes (out := out) hlt hin hrl
          have d1 : decide (js[k].r ≤ now) = true := decide_eq_true hrl
          rcases pickTo_spec (gOk js out now) (dueN js) k with ⟨hp, _⟩ | ⟨b, hp, hb, _, _⟩
          · have HN := Lib.hid (pickTo_first hok (by rw [hp]; omega) (rk := dueN js))
            rw [hP.out] at hp
            subst hp
            clear hP hr hok hin
            generalize js[k] = j at *
            go_wp2
            go_quiet ((go_at_call 131; (first | exact Calls.quiet_of ((HC (w.drewN _) (hq.drewN _)).mono fun _ _ ⟨he, hw⟩ => ⟨he, 0, hw.symm⟩) | exact quiet_same ((HC (w.drewN _) (hq.drewN _)).mono fun _ _ ⟨he, hw⟩ => ⟨he, hw⟩))))
            go_wp2
            go_roundw
            case rel => exact ⟨k + 1, _, (k : Int), by omega, by go_num, rfl, HN, rfl⟩
            case measure => simp [intOf]; omega
          · obtain ⟨ad', hA', _, b0, b1, b2, b3⟩ := hr.job (show b < js.length by omega)
            injection hA' with hA'
            subst hA'
            have hb0 : (0 : Int) ≤ b := by omega
            have hb1 : (b : Int) < js.length := by omega
            by_cases hd : js[k].d < js[b].d
            · have d2 : decide (js[k].d < js[b].d) = true := decide_eq_true hd
              have HN := Lib.hid (pickTo_less hok hp (by rw [dueN_at hlt, dueN_at (by omega)]; exact hd))
              rw [hP.out] at hp
              subst hp
              have d3 : decide ((b : Int) < 0) = false := decide_eq_false (by omega)
              clear hP hr hok hin
              generalize js[k] = j at *
              generalize js[b] = jb at *
              go_wp2
              go_quiet ((go_at_call 131; (first | exact Calls.quiet_of ((HC (w.drewN _) (hq.drewN _)).mono fun _ _ ⟨he, hw⟩ => ⟨he, 0, hw.symm⟩) | exact quiet_same ((HC (w.drewN _) (hq.drewN _)).mono fun _ _ ⟨he, hw⟩ => ⟨he, hw⟩))))
              go_wp2
              go_roundw
              case rel => exact ⟨k + 1, _, (k : Int), by omega, by go_num, rfl, HN, rfl⟩
              case measure => simp [intOf]; omega
            · have d2 : decide (js[k].d < js[b].d) = false := decide_eq_false hd
              have HN := Lib.hid (pickTo_keep hp (by rw [dueN_at hlt, dueN_at (by omega)]; exact hd))
              rw [hP.out] at hp
              subst hp
              have d3 : decide ((b : Int) < 0) = false := decide_eq_false (by omega)
              clear hP hr hok hin
              generalize js[k] = j at *
              generalize js[b] = jb at *
              go_wp2
              go_quiet ((go_at_call 131; (first | exact Calls.quiet_of ((HC (w.drewN _) (hq.drewN _)).mono fun _ _ ⟨he, hw⟩ => ⟨he, 0, hw.symm⟩) | exact quiet_same ((HC (w.drewN _) (hq.drewN _)).mono fun _ _ ⟨he, hw⟩ => ⟨he, hw⟩))))
              go_wp2
              go_roundw
              case rel => exact ⟨k + 1, _, (b : Int), by omega, by go_num, rfl, HN, rfl⟩
              case measure => simp [intOf]; omega
        · have d1 : decide (js[k].r ≤ now) = false := decide_eq_false hrl
          have HN : Hid (pickTo (gOk js out now) (dueN js) (k + 1) = P) := (pickTo_no (gOk_late hlt hrl)).trans hP.out
          clear hP hr hin
          generalize js[k] = j at *
          go_wp2
          go_quiet ((go_at_call 131; (first | exact Calls.quiet_of ((HC (w.drewN _) (hq.drewN _)).mono fun _ _ ⟨he, hw⟩ => ⟨he, 0, hw.symm⟩) | exact quiet_same ((HC (w.drewN _) (hq.drewN _)).mono fun _ _ ⟨he, hw⟩ => ⟨he, hw⟩))))
          go_wp2
          go_roundw
          case rel => exact ⟨k + 1, _, P, by omega, by go_num, rfl, HN, rfl⟩
          case measure => simp [intOf]; omega
      · have HN : Hid (pickTo (gOk js out now) (dueN js) (k + 1) = P) := (pickTo_no (gOk_has hin)).trans hP.out
        rw [hin] at HC
        clear hP hr hin
        generalize js[k] = j at *
        go_wp2
        go_quiet ((go_at_call 131; (first | exact Calls.quiet_of ((HC (w.drewN _) (hq.drewN _)).mono fun _ _ ⟨he, hw⟩ => ⟨he, 0, hw.symm⟩) | exact quiet_same ((HC (w.drewN _) (hq.drewN _)).mono fun _ _ ⟨he, hw⟩ => ⟨he, hw⟩))))
        go_wp2
        go_roundw
        case rel => exact ⟨k + 1, _, P, by omega, by go_num, rfl, HN, rfl⟩
        case measure => simp [intOf]; omega
    · obtain rfl : k = js.length := by omega
      have HF : Hid (gNext js out now = P) := HE.out.trans hP.out
      clear HE hP HH
      go_wp2
      go_ret
      exact ⟨by rw [HF.out]; rfl, m, rfl⟩
end
theorem gFin_in {js : List J} (hg : goodL js = true) {now : Int} {out : List Nat} (hi : GIn js now out) : out.length ≤ 8 ∧ now ≤ 900 := by
  have h8 := (good_out hg).1
  have := hi.le
  have := hi.now1
  omega
section
variable (A : Option Addr) (c : Nat) (js : List J) (w : World) (hr : Row w A (jc js))
include hr
set_option maxRecDepth 100000 in
set_option maxHeartbeats 2000000 in
theorem l5Greedy_any (hg : goodL js = true) : Calls Try.prog 92 #[.slice A js.length c] w fun e w' => ∃ v, e = .returned v ∧ w'.ownsRow w.heap.size 3 1 v js.length (ic (natI (greedyL js))) ∧ Below w.heap.size w w' := by
  obtain ⟨i0, hi, hz0, hz1, hz2⟩ := info_parts infoI
  have h8 := (good_out hg).1
  have HG := Lib.hid hg
  have HGL := Lib.hid (greedy_len hg)
  have hown0 : (w.alloc (.cells #[] 3)).ownsRow w.heap.size 3 1 (.slice (some ⟨w.heap.size, 0, none⟩) 0 0) 0 [] := World.ownsRow_made w #[] 0 (Nat.le_refl _) (by unfold maxLen; omega) rfl
  have hb0 := (Below.refl w.heap.size w).alloc (Nat.le_refl _) (.cells #[] 3)
  have hr0 := Lib.hid hr
  clear hg
  go_enter Try.func92, Try.ntmps92
  go_wp2
  go_loopw [3, 4] (fun v i wr => ∃ (out : List Nat) (now : Int), i = .int .i64 now ∧ wr.ownsRow w.heap.size 3 1 v out.length (ic (natI out)) ∧ Hid (GIn js now out) ∧ Hid (gFin js now out = greedyL js) ∧ Below w.heap.size w wr) (fun v i _ => (500 - intOf i).toNat + (js.length - lenV v))
  case atStart => exact ⟨[], 0, rfl, hown0, gIn_zero js, rfl, hb0⟩
  case round =>
    obtain ⟨out, now, rfl, hown, hI, hF, hb⟩ := hrel
    clear hown0 hb0
    obtain ⟨Av, cv, rfl, hnc, hrow⟩ := own_slice hown
    have hle := hI.out.le
    have h0 := hI.out.now0
    have h9 := (gFin_in HG.out hI.out).2
    by_cases hlt : out.length < js.length
    · go_wp2_with fail
      refine (l5Next_any A Av c cv js out now _ (hr.below hb) hrow h8 (by omega)).mono ?_
      rintro e w5 ⟨rfl, m, hw5⟩
      have hb5 : Below w.heap.size w w5 := by rw [hw5]; exact below_drewN hb m
      have hown5 : w5.ownsRow w.heap.size 3 1 (.slice Av out.length cv) out.length (ic (natI out)) := by rw [hw5]; exact hown
      clear hw5 hb hown hrow
      by_cases hn : gNext js out now < 0
      · have HI := Lib.hid (hI.out.wait HG.out hlt hn)
        have HF : Hid (gFin js (now + 1) out = greedyL js) := (gFin_wait HG.out hI.out hlt hn).symm.trans hF.out
        have h5 := gNext_none HG.out hlt hn
        clear hI hF
        generalize gNext js out now = P at *
        go_wp2
        go_roundw
        case rel => exact ⟨out, now + 1, by go_num, hown5, HI, HF, hb5⟩
        case measure => simp [intOf, lenV]; omega
      · have hn' : 0 ≤ gNext js out now := by omega
        have HI := Lib.hid (hI.out.take HG.out hn')
        have HF := Lib.hid ((gFin_take HG.out hI.out hlt hn').symm.trans hF.out)
        obtain ⟨hq, _, _⟩ := gNext_in hn'
        obtain ⟨q, hqe⟩ : ∃ q : Nat, gNext js out now = (q : Int) := ⟨_, (Int.toNat_of_nonneg hn').symm⟩
        rw [hqe, Int.toNat_natCast] at HI HF hq
        rw [hqe]
        have HJ := Lib.hid (hr.below hb5)
        have hsz := hb5.size
        have hokj := okJ_out (okD HG.out hq)
        rw [getD_at js j0 hq] at HI HF hokj
        clear hI hF hr hqe hn hn'
        have hq0 : ¬ ((q : Int) < 0) := by omega
        have hq1 : (0 : Int) ≤ q := by omega
        have hq2 : (q : Int) < js.length := by omega
        obtain ⟨v', w6, hrun, hown', hgrow, hat⟩ := append_at (P := Try.prog) (w5.alloc (.cells #[.int .i64 (q : Int)] 3)) w.heap.size 35 35 3 i0 (.int .i64 0) 1 8 Try.underlying35 hi hz0 hz1 hz2 rfl (by decide) (.slice Av out.length cv) out.length (ic (natI out)) (hown5.alloc _) ⟨w5.heap.size, 0, none⟩ 1 1 [.int .i64 (q : Int)] rfl (cell_one_new _ _ _) (by intro u hu; simp at hu; subst hu; rfl) (by omega) (by have hmx : (8 : Nat) + 1 ≤ maxLen := (by unfold maxLen; omega); omega) (by omega) (by simp; omega)
        have hb6 := app_grown hb5 hsz hown5 hgrow
        rw [ic_natG] at hown'
        obtain ⟨Av', cv', rfl, _⟩ := own_slice hown'
        obtain ⟨ad, hA, hbl, e0, e1, e2, e3⟩ := (hr0.out.below hb6).job hq
        subst hA
        have HX := Lib.hid (And.intro hown' hb6)
        have HRUN := Lib.hid hrun
        clear hown' hb6 hgrow hat hown5 hb5 HJ hi hz0 hz1 hz2 hrun
        generalize js[q] = j at *
        go_wp2_with (at_builtin; refine wpList_appG rfl _ _ _ rfl _ _ _ rfl rfl HRUN.out ?_; clear HRUN)
        go_roundw
        case rel => exact ⟨out ++ [q], now + j.t, by go_num, by rw [List.length_append]; exact HX.out.1, HI, HF, HX.out.2⟩
        case measure => simp [intOf, lenV]; omega
    · have HF' : Hid (out = greedyL js) := by show _ = _; rw [← hF.out]; exact (gFin_done (by omega)).symm
      have hol : out.length = js.length := by omega
      rw [HF'.out, HGL.out] at hown
      have HX := Lib.hid (And.intro hown hb)
      clear hown hb hI hF hrow HF'
      rw [hol]
      go_wp2
      go_ret
      exact ⟨_, rfl, HX.out.1, HX.out.2⟩
end
end Go.Proofs.Ytpjjjbkjkhcbdaa
