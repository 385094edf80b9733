/- Groups of tied jobs: the model's. -/
import Derived.Test.YtpjjjbkjkhcbdaaOrdS
import Derived.Test.YtpjjjbkjkhcbdaaRuleS
import Derived.Test.YtpjjjbkjkhcbdaaGrpP
import Derived.Test.YtpjjjbkjkhcbdaaSlsR
import Derived.Deep.RegionLaw
import Derived.Deep.RegionWith
import Derived.Deep.QuietTactic
import Derived.BigQuiet
import Derived.StillTailTactics
namespace Go.Proofs.Ytpjjjbkjkhcbdaa
open Go.RowKit
theorem own_keepI {w w' : World} {B C n : Nat} {v : Value} {xs : List Value} (h : w.ownsRow B 3 1 v n xs) (hC : ∀ g, v.ownBlock = some g → g < C) (hk : KeepInt C w w') : w'.ownsRow B 3 1 v n xs :=
  ⟨h.1, h.2.imp id fun ⟨g, cap, cur, hv, hB, hg, r⟩ => ⟨g, cap, cur, hv, hB, hk g cur (hC g (by rw [hv]; rfl)) hg, r⟩⟩
theorem wrap64_id (x : Int) (h0 : 0 ≤ x) (h1 : x ≤ 100) : wrap64 x = x := by
  unfold wrap64; omega
theorem i64_small (m : Nat) (h : m ≤ 8) : IntKind.i64.wrap (m : Int) = (m : Int) := IntWalk.i64_in (m : Int) (by omega)
theorem ic_snocM (b : List Nat) (x : Nat) : ic (b.map Int.ofNat) ++ [.int .i64 (x : Int)] = ic ((b ++ [x]).map Int.ofNat) := by unfold ic; simp
def grpTo (ob : Int) (js : List J) (k : Nat) : List (List Nat) := ((ruledL ob js).take k).foldl (grpStep ob js) []
theorem grpTo_succ (ob : Int) (js : List J) (k : Nat) (h : k < (ruledL ob js).length) : grpTo ob js (k + 1) = grpStep ob js (grpTo ob js k) (ruledL ob js)[k] := by
  unfold grpTo
  rw [List.take_succ_eq_append_getElem h, List.foldl_append]; rfl
theorem grpTo_all (ob : Int) (js : List J) : grpTo ob js js.length = groupsL ob js := by
  unfold grpTo
  rw [List.take_of_length_le (by rw [ruledL_len]; exact Nat.le_refl _)]
  exact groups_spec ob js
/-- What is known of groups that have been made so far. -/
theorem grpTo_shape (ob : Int) (js : List J) : ∀ k, k ≤ js.length → (grpTo ob js k = [] ∧ k = 0) ∨ (∃ pre h t, grpTo ob js k = pre ++ [h :: t] ∧ h < js.length ∧ pre.length + (h :: t).length ≤ k)
  | 0, _ => .inl ⟨rfl, rfl⟩
  | k + 1, hk => by
    have hx : k < (ruledL ob js).length := by rw [ruledL_len]; omega
    have hlt : (ruledL ob js)[k] < js.length := ruledTo_lt ob js (List.getElem_mem hx)
    right
    rw [grpTo_succ ob js k hx]
    rcases grpTo_shape ob js k (by omega) with ⟨h0, _⟩ | ⟨pre, h, t, h1, h2, h3⟩
    · rw [h0]
      exact ⟨[], _, [], rfl, hlt, by simp⟩
    · rw [h1, grpStep_snoc]
      simp only [List.length_cons] at h3
      split
      · exact ⟨pre, h, t ++ [(ruledL ob js)[k]], rfl, h2, by simp; omega⟩
      · exact ⟨pre ++ [h :: t], _, [], rfl, hlt, by simp; omega⟩
/-- What lies in memory between two rounds. -/
def GrpInv (w w2 : World) (xs : List Nat) (Ao : Option Addr) (m co : Nat) (vs : List (Option Addr × Nat)) (v : Value) (css : List (List Value)) (wr : World) : Prop :=
  OwnV vs w.heap.size w2.heap.size wr v css ∧ Below w.heap.size w wr ∧ w.heap.size ≤ w2.heap.size ∧ w2.heap.size ≤ wr.heap.size ∧ wr.ownsRow w.heap.size 3 1 (.slice Ao m co) m (ic (natI xs)) ∧ ∀ g, (Value.slice Ao m co).ownBlock = some g → g < w2.heap.size
theorem GrpInv.below {w w2 wr wr' : World} {xs : List Nat} {Ao : Option Addr} {m co : Nat} {vs : List (Option Addr × Nat)} {v : Value} {css : List (List Value)} (h : GrpInv w w2 xs Ao m co vs v css wr) (hb : Below wr.heap.size wr wr') : GrpInv w w2 xs Ao m co vs v css wr' := by
  obtain ⟨h1, h2, h3, h4, h5, h6⟩ := h
  exact ⟨h1.below hb, h2.trans (hb.mono h2.size), h3, Nat.le_trans h4 hb.size, own_blw h5 hb, h6⟩
section
variable (A : Option Addr) (c : Nat) (js : List J) (ob : Int) (w : World) (hr : Row w A (jc js)) (hg : goodL js = true) (ho : isRule ob = true)
include hr hg ho
set_option maxRecDepth 100000 in
set_option maxHeartbeats 8000000 in
theorem l3Groups_any : Calls Try.prog 98 #[.slice A js.length c, .int .i64 ob] w fun e w' => ∃ v vs C, e = .returned v ∧ w.heap.size ≤ C ∧ OwnV vs w.heap.size C w' v (csS (groupsL ob js)) ∧ Below w.heap.size w w' := by
  obtain ⟨h8, hok⟩ := good_out hg
  have hb0 := (Below.refl w.heap.size w).alloc (Nat.le_refl _) (.cells #[] 35)
  have hown0 : (w.alloc (.cells #[] 35)).ownsRow w.heap.size 35 1 (.slice (some ⟨w.heap.size, 0, none⟩) 0 0) 0 [] := World.ownsRow_made w #[] 0 (Nat.le_refl _) (by unfold maxLen; omega) rfl
  have H0 := Lib.hid (And.intro hown0 hb0)
  have HLO := Lib.hid (l3Order_any A c js ob _ (hr.below hb0) hg ho)
  have HRL := Lib.hid (ruledL_len ob js)
  clear hown0 hb0
  go_enter Try.func98, Try.ntmps98
  go_wp2_with fail
  refine HLO.out.mono ?_
  rintro e w2 ⟨vo, rfl, hown2, hb2⟩
  obtain ⟨Ao, co, rfl, _⟩ := own_slice hown2
  have hbw := H0.out.2.trans (hb2.mono H0.out.2.size)
  have H2 : Hid (GrpInv w w2 (ruledL ob js) Ao js.length co [] (.slice (some ⟨w.heap.size, 0, none⟩) 0 0) (csS []) w2) :=
    ⟨OwnV.nil (own_blw H0.out.1 hb2), hbw, hbw.size, Nat.le_refl _, own_low hown2 H0.out.2.size, fun g hg => (own_type hown2 hg).1⟩
  clear H0 hown2 hb2 HLO hbw
  go_wp2
  go_loopw [5, 7] (fun v i wr => ∃ (k : Nat) (vs : List (Option Addr × Nat)) (go cap : Nat), k ≤ js.length ∧ i = .int .i64 (k : Int) ∧ v = .slice (some ⟨go, 0, none⟩) (csS (grpTo ob js k)).length cap ∧ Hid (GrpInv w w2 (ruledL ob js) Ao js.length co vs (.slice (some ⟨go, 0, none⟩) (csS (grpTo ob js k)).length cap) (csS (grpTo ob js k)) wr)) (fun _ i _ => js.length - (intOf i).toNat)
  case atStart => exact ⟨0, [], w.heap.size, 0, Nat.zero_le _, rfl, rfl, H2⟩
  case round =>
    obtain ⟨k, vs, go, cap, hk, rfl, rfl, HV⟩ := hrel
    clear H2
    by_cases hlt : k < js.length
    · have hk0 : (0 : Int) ≤ k := by omega
      have hk1 : (k : Int) < js.length := by omega
      have hro : k < (ruledL ob js).length := by rw [HRL.out]; exact hlt
      obtain ⟨ao, hAo, hco⟩ := (Row.of_own HV.out.2.2.2.2.1).nat hro
      subst hAo
      have hxl : (ruledL ob js)[k] < js.length := ruledTo_lt ob js (List.getElem_mem hro)
      have HSUC := Lib.hid (grpTo_succ ob js k hro)
      have haob2 : (ao.add k).block < wr.heap.size := by rw [add_block]; exact (own_type (g := ao.block) HV.out.2.2.2.2.1 rfl).1
      generalize (ruledL ob js)[k] = x at *
      clear hro
      obtain ⟨n, hn⟩ : ∃ n, n = (csS (grpTo ob js k)).length := ⟨_, rfl⟩
      have hcsl : (csS (grpTo ob js k)).length = n := hn.symm
      have hn8 : n ≤ 8 := by
        rw [hn, csS_len]
        rcases grpTo_shape ob js k (by omega) with ⟨e, _⟩ | ⟨pre, h, t, e, _, hs⟩
        · rw [e]; simp
        · rw [e]; simp only [List.length_append, List.length_cons, List.length_nil] at hs ⊢; omega
      rw [hcsl] at HV
      rw [hcsl]
      clear hn
      rcases grpTo_shape ob js k (by omega) with ⟨hg0, hkk⟩ | ⟨pre, h, t, hg1, hhl, hsz⟩
      · obtain rfl : n = 0 := by rw [← hcsl, hg0]; rfl
        have HCS : Hid (csS (grpTo ob js (k + 1)) = csS (grpTo ob js k) ++ [ic [(x : Int)]]) := by
          show _ = _
          rw [HSUC.out, hg0]; rfl
        clear hkk hg0 HSUC
        go_wp2
        go_quiet (fail)
        have HV5 := Lib.hid (HV.out.below (below_drewN (Below.refl _ wr) nq))
        have hcw : (wr.drewN nq).cell? (ao.add k) = some (.int .i64 (x : Int)) := ((below_drewN (Below.refl wr.heap.size wr) nq).cell haob2).trans hco
        clear HV hco haob2
        generalize wr.drewN nq = w5 at *
        have HP : Hid (∃ v' wq vs', (Builtin.append_ #[58, 58] 58 #[.slice (some ⟨go, 0, none⟩) 0 cap, .slice (some ⟨w5.heap.size + 1, 0, none⟩) 1 1]).run Try.prog ((w5.alloc (.cells #[.int .i64 (x : Int)] 3)).alloc (.cells #[.slice (some ⟨w5.heap.size, 0, none⟩) 1 1] 35)) = .ok v' wq ∧ (∃ g c, v' = .slice (some ⟨g, 0, none⟩) (0 + 1) c) ∧ GrpInv w w2 (ruledL ob js) (some ao) js.length co vs' v' (csS (grpTo ob js (k + 1))) wq) := by
          obtain ⟨h1, h2, h3, h4, h5, h6⟩ := HV5.out
          have h := push_at h1 h3 h4 h2 [(x : Int)] (by simp) (by omega)
          rw [hcsl, ← HCS.out] at h
          obtain ⟨v', wq, vs', e1, e2, e3, e4, e5, e6⟩ := h
          exact ⟨v', wq, vs', e1, e3, e2, e4, h3, Nat.le_trans h4 e6, own_keepI h5 h6 e5, h6⟩
        obtain ⟨_, wq, vsq, hrun, ⟨gq, capq, rfl⟩, hVq⟩ := HP.out
        have HRUN := Lib.hid hrun
        have HL : Hid ((csS (grpTo ob js (k + 1))).length = 0 + 1) := by show _ = _; rw [HCS.out, List.length_append, hcsl]; rfl
        rw [← HL.out] at hVq
        have HVq := Lib.hid hVq
        clear HP hrun hVq HV5
        go_wp2_with (at_builtin; refine wpList_app rfl _ _ _ rfl _ _ _ rfl rfl HRUN.out ?_)
        go_roundw
        case rel => exact ⟨k + 1, vsq, gq, capq, by omega, by go_num, by rw [HL.out], HVq⟩
        case measure => simp [intOf]; omega
      · have hsz' : pre.length + (t.length + 1) ≤ 8 := by simp only [List.length_cons] at hsz; omega
        obtain ⟨m, rfl⟩ : ∃ m, n = m + 1 := ⟨pre.length, by rw [← hcsl, csS_len, hg1]; simp⟩
        have hpl : (csS pre).length = m := by rw [csS_len, hg1] at hcsl; rw [csS_len]; simp at hcsl; omega
        have hcs : csS (grpTo ob js k) = csS pre ++ [ic ((h :: t).map Int.ofNat)] := by rw [hg1, csS_snoc]
        have HV1 : Hid (GrpInv w w2 (ruledL ob js) (some ao) js.length co vs (.slice (some ⟨go, 0, none⟩) (m + 1) cap) (csS pre ++ [ic ((h :: t).map Int.ofNat)]) wr) := by rw [← hcs]; exact HV.out
        obtain ⟨v1, v2, v3, v4, v5, v6⟩ := HV1.out
        have hvl : vs.length = m + 1 := by rw [v1.1, List.length_append, hpl]; rfl
        have hat : (csS pre ++ [ic ((h :: t).map Int.ofNat)])[m]'(by rw [List.length_append, hpl]; simp) = ic ((h :: t).map Int.ofNat) := by rw [List.getElem_append_right (by omega)]; simp [hpl]
        have hvv : OwnV vs w.heap.size w2.heap.size wr (.slice (some ⟨go, 0, none⟩) (csS pre ++ [ic ((h :: t).map Int.ofNat)]).length cap) (csS pre ++ [ic ((h :: t).map Int.ofNat)]) := by rw [List.length_append, hpl]; exact v1
        have hcL := hvv.at_ (m := m) (by rw [List.length_append, hpl]; simp)
        have hself := hvv.2.2.1 m (by rw [List.length_append, hpl]; simp) (by omega)
        rw [hat] at hcL hself
        obtain ⟨ai, hai, hci⟩ := (Row.of_own hself).nat (p := h :: t) (k := 0) (by simp)
        have hail := (own_type (g := ai.block) hself (by rw [hai]; rfl)).1
        have ha0 : ai.add 0 = ai := by simp [Addr.add]
        rw [ha0] at hci
        rw [hai, ic_len, List.length_map, List.length_cons] at hcL
        have hgl := (own_type (g := go) v1.2.1 rfl).1
        generalize (vs[m]'(by omega)).2 = ci at *
        have hgb : -2500 ≤ gapN ob js h x ∧ gapN ob js h x ≤ 2500 := gapJ_bd (getD_ok hok hhl) (getD_ok hok hxl)
        have HC := Lib.hid (l3Gap_any A c js ob wr.drew (hr.below v2).drew hok h x hhl hxl ho)
        have HHV := Lib.hid (And.intro HSUC.out (And.intro hg1 (And.intro hpl hsz')))
        have hm0 : (0 : Int) ≤ m := by omega
        have hm1 : (m : Int) < (m : Int) + 1 := by omega
        have hm2 : wrap64 (m : Int) = (m : Int) := wrap64_id (m : Int) (by omega) (by omega)
        have hm3 := i64_small m (Nat.le_trans (Nat.le_of_succ_le hn8) (by decide))
        have ht8 : t.length + 1 ≤ 8 := by omega
        have ht1 : (0 : Int) < (t.length : Int) + 1 := by omega
        clear HV hself hvv hat hvl v1 v2 v3 v4 v5 v6 hai hcsl hcs hg1 hpl hsz hsz' HSUC hhl hxl ha0
        by_cases hz : gapN ob js h x = 0
        · have hz0 : (gapN ob js h x == 0) = true := by rw [hz]; rfl
          have HCS : Hid (csS (grpTo ob js (k + 1)) = csS pre ++ [ic ((h :: t).map Int.ofNat) ++ [.int .i64 (x : Int)]]) := by
            show _ = _
            rw [HHV.out.1, HHV.out.2.1, grpStep_snoc, if_pos hz, csS_snoc, ic_snocM]
          have HPL := Lib.hid HHV.out.2.2.1
          clear HHV hz
          generalize gapN ob js h x = gg at *
          go_wp2
          go_still_tail 15, (by kernel_rfl)
          change wpList _ _ _ _ _ wr.drew
          go_wp2_with fail
          refine HC.out.mono ?_
          rintro e w5 ⟨rfl, hb5⟩
          have hb5' : Below wr.heap.size wr w5 := ⟨hb5.os, hb5.tape, hb5.output, hb5.size, hb5.block⟩
          have hcw : w5.cell? (ao.add k) = some (.int .i64 (x : Int)) := (hb5'.cell haob2).trans hco
          have hak5 : (ao.add k).block < w5.heap.size := Nat.lt_of_lt_of_le haob2 hb5'.size
          obtain ⟨h1, h2, h3, h4, h5, h6⟩ := (HV1.out.below hb5').below ((Below.refl w5.heap.size w5).drew)
          obtain ⟨AL, cL, hcL5, hgL5, v6, w6, vs6, hrun, hV6, ⟨old, hold⟩, hfz, ⟨A6, n6, c6, rfl⟩, hb6, hk6, hz6⟩ := ext_last h1 h3 h4 HPL.out h2 (x : Int) (by rw [ic_len, List.length_map, List.length_cons]; omega)
          have HRUN := Lib.hid hrun
          have hcL' : w5.cell? ⟨go, m, none⟩ = some (.slice AL (ic ((h :: t).map Int.ofNat)).length cL) := hcL5
          have hgL' : go < w5.heap.size := hgL5
          have HL : Hid ((csS (grpTo ob js (k + 1))).length = m + 1) := by show _ = _; rw [HCS.out, List.length_append, HPL.out]; rfl
          have HV6 : Hid (GrpInv w w2 (ruledL ob js) (some ao) js.length co vs6 (.slice (some ⟨go, 0, none⟩) (csS (grpTo ob js (k + 1))).length cap) (csS (grpTo ob js (k + 1))) (w6.setCell ⟨go, m, none⟩ (.slice A6 n6 c6))) := by
            rw [HL.out, HCS.out]
            exact ⟨hV6, hb6, h3, Nat.le_trans h4 (by simpa [World.setCell] using hz6), own_keepI h5 h6 hk6, h6⟩
          clear hcL5 hgL5 hrun hV6 hb6 hk6 hz6 h1 h2 h3 h4 h5 h6 HV1 hb5 hb5' HC hco hcL hci
          go_wp2
          go_region_law (refine step_app rfl _ _ _ rfl _ _ _ rfl rfl HRUN.out ?_)
          all_goals
            go_wp2
            go_roundw
            case rel => exact ⟨k + 1, vs6, go, cap, by omega, by go_num, by rw [HL.out], HV6⟩
            case measure => simp [intOf]; omega
        · have hz0 : (gapN ob js h x == 0) = false := beq_eq_false_iff_ne.2 hz
          have HCS : Hid (csS (grpTo ob js (k + 1)) = (csS pre ++ [ic ((h :: t).map Int.ofNat)]) ++ [ic [(x : Int)]]) := by
            show _ = _
            rw [HHV.out.1, HHV.out.2.1, grpStep_snoc, if_neg hz, csS_snoc, csS_snoc]; rfl
          have HPL := Lib.hid HHV.out.2.2.1
          clear HHV
          generalize gapN ob js h x = gg at *
          go_wp2
          go_still_tail 15, (by kernel_rfl)
          change wpList _ _ _ _ _ wr.drew
          go_wp2_with fail
          refine HC.out.mono ?_
          rintro e w5 ⟨rfl, hb5⟩
          have hb5' : Below wr.heap.size wr w5 := ⟨hb5.os, hb5.tape, hb5.output, hb5.size, hb5.block⟩
          have HV5 := Lib.hid (HV1.out.below hb5')
          have hcw : w5.cell? (ao.add k) = some (.int .i64 (x : Int)) := (hb5'.cell haob2).trans hco
          have HP : Hid (∃ v' wq vs', (Builtin.append_ #[58, 58] 58 #[.slice (some ⟨go, 0, none⟩) (m + 1) cap, .slice (some ⟨w5.heap.size + 1, 0, none⟩) 1 1]).run Try.prog ((w5.alloc (.cells #[.int .i64 (x : Int)] 3)).alloc (.cells #[.slice (some ⟨w5.heap.size, 0, none⟩) 1 1] 35)) = .ok v' wq ∧ (∃ g c, v' = .slice (some ⟨g, 0, none⟩) (m + 1 + 1) c) ∧ GrpInv w w2 (ruledL ob js) (some ao) js.length co vs' v' (csS (grpTo ob js (k + 1))) wq) := by
            obtain ⟨h1, h2, h3, h4, h5, h6⟩ := HV5.out
            have h := push_at h1 h3 h4 h2 [(x : Int)] (by simp) (by rw [List.length_append, HPL.out]; simp; omega)
            rw [List.length_append, HPL.out, ← HCS.out] at h
            obtain ⟨v', wq, vs', e1, e2, e3, e4, e5, e6⟩ := h
            exact ⟨v', wq, vs', e1, e3, e2, e4, h3, Nat.le_trans h4 e6, own_keepI h5 h6 e5, h6⟩
          obtain ⟨_, wq, vsq, hrun, ⟨gq, capq, rfl⟩, hVq⟩ := HP.out
          have HRUN := Lib.hid hrun
          have HL : Hid ((csS (grpTo ob js (k + 1))).length = m + 1 + 1) := by show _ = _; rw [HCS.out, List.length_append, List.length_append, HPL.out]; rfl
          rw [← HL.out] at hVq
          have HVq := Lib.hid hVq
          clear HP hrun hVq HV5 HV1 hb5 hb5' HC hco hcL hci
          go_wp2_with (at_builtin; refine wpList_app rfl _ _ _ rfl _ _ _ rfl rfl HRUN.out ?_)
          go_roundw
          case rel => exact ⟨k + 1, vsq, gq, capq, by omega, by go_num, by rw [HL.out], HVq⟩
          case measure => simp [intOf]; omega
    · obtain rfl : k = js.length := by omega
      have h := HV.out
      have HGA := Lib.hid (grpTo_all ob js)
      clear HV
      go_wp2
      go_ret
      rw [HGA.out] at h
      exact ⟨_, vs, _, by rw [HGA.out]; rfl, h.2.2.1, h.1, h.2.1⟩
end
end Go.Proofs.Ytpjjjbkjkhcbdaa
