/- The critical part of the greedy order: the model's. -/
import Derived.Test.YtpjjjbkjkhcbdaaCriQ
import Derived.Test.YtpjjjbkjkhcbdaaGre
import Derived.Test.YtpjjjbkjkhcbdaaEndsO
import Derived.Test.YtpjjjbkjkhcbdaaOwnM
import Derived.Test.YtpjjjbkjkhcbdaaRst
namespace Go.Proofs.Ytpjjjbkjkhcbdaa
open Go.RowKit
theorem slice_lh (ad : Addr) (n c l h : Nat) (w : World) (hl : l ≤ h) (hh : h ≤ c) (hlc : l < c) : (Instr.sliceAt 35 (.slice (some ad) n c) (some (.int .i64 (l : Int))) (some (.int .i64 (h : Int))) none).run Try.prog w = .ok (.slice (some (ad.add l)) (h - l) (c - l)) w := by
  have hne : ¬ c = l := by omega
  simp [hl, hh, hne, go_sem]
theorem wpList_slice_lh {ops : Array Oper} {rest : List Oper} {o : Oper} {a : Act} {w : World} {Q : Exit → Act → World → Prop} (hgd : o.guard = none) (x lo hi : Operand)
    (ho : o.op = .slice 35 x (some lo) (some hi) none) (ad : Addr) (n c l h : Nat) (z y : Int) (hx : a.eval x = .slice (some ad) n c) (hlo : a.eval lo = .int .i64 z) (hhi : a.eval hi = .int .i64 y) (hz : z = (l : Int)) (hy : y = (h : Int)) (hl : l ≤ h) (hh : h ≤ c) (hlc : l < c)
    (hw : wpList Try.prog ops Q rest (a.put o.dst (.slice (some (ad.add l)) (h - l) (c - l))) w) : wpList Try.prog ops Q (o :: rest) a w := by
  subst hz hy
  refine wpList_plain hgd fun K hK => ?_
  have hr := slice_lh ad n c l h w hl hh hlc
  rw [← hx, ← hlo, ← hhi] at hr
  have he := exec_slice (P := Try.prog) (o := o) (ev := a.eval) (x := x) (lo := some lo) (hi := some hi) (mx := none) (t := 35) (w := w) ho hr
  unfold Oper.wp
  rw [he]
  exact hK _ _ hw
theorem row_sub {w : World} {ad : Addr} {xs : List Int} {l n : Nat} (hr : Row w (some ad) (ic xs)) (hn : l + n ≤ xs.length) : Row w (some (ad.add l)) (ic ((xs.drop l).take n)) := by
  intro h0
  rw [ic_len, List.length_take, List.length_drop] at h0
  obtain ⟨a', h1, h2, h3⟩ := hr (by rw [ic_len]; omega)
  obtain rfl := Option.some.inj h1
  refine ⟨_, rfl, by rw [add_block]; exact h2, fun j u hu => ?_⟩
  rw [Addr.add_add]
  refine h3 (l + j) u ?_
  have hj : j < ((xs.drop l).take n).length := by have := (List.getElem?_eq_some_iff.1 hu).1; rwa [ic_len] at this
  rw [List.length_take] at hj
  unfold ic at hu ⊢
  rw [List.getElem?_map, List.getElem?_take, if_pos (by omega), List.getElem?_drop] at hu
  rw [List.getElem?_map]; exact hu
theorem nat_sub (p : List Nat) (l n : Nat) : ((natI p).drop l).take n = natI ((p.drop l).take n) := by unfold natI; rw [← List.map_drop, ← List.map_take]
section
variable (A : Option Addr) (c : Nat) (js : List J) (w : World) (hr : Row w A (jc js))
include hr
set_option maxRecDepth 100000 in
set_option maxHeartbeats 4000000 in
theorem l5Part_any (hg : goodL js = true) (h0 : 0 < js.length) : Calls Try.prog 94 #[.slice A js.length c] w fun e w' => ∃ v, e = .returned v ∧ w'.ownsRow w.heap.size 3 1 v (critL js (greedyL js)).length (ic (natI (critL js (greedyL js)))) ∧ Below w.heap.size w w' := by
  have hp := greedy_perm hg
  have hpl := greedy_len hg
  have HGR := Lib.hid (l5Greedy_any A c js w hr hg)
  generalize greedyL js = p at *
  obtain ⟨h8, hok⟩ := good_out hg
  have HX := Lib.hid (And.intro hg (And.intro hp (And.intro hok hpl)))
  have hr0 := Lib.hid hr
  have hM : maxTo js p js.length < js.length := by
    have := maxTo_lt js p js.length h0
    exact this
  clear hg hp hok hr
  go_enter Try.func94, Try.ntmps94
  go_wp2_with fail
  refine HGR.out.mono ?_
  rintro e w1 ⟨v, rfl, ho, hb1⟩
  obtain ⟨Ao, co, rfl, hnco, hrow⟩ := own_slice ho
  obtain ⟨go, _, hAo, _⟩ := own_block ho h0
  obtain ⟨ao, hao⟩ : ∃ ao, Ao = some ao := ⟨_, hAo⟩
  subst hao
  have HO1 := Lib.hid (And.intro hrow hb1)
  have HST := l2Starts_any A (some ao) c co js p w1 (hr0.out.below hb1) hrow HX.out.1 HX.out.2.1
  rw [hpl] at HST
  have HS := Lib.hid HST
  clear ho hrow hb1 HGR hAo HST
  go_wp2_with fail
  refine HS.out.mono ?_
  rintro e w2 ⟨gs, rfl, _, hBs, hb2⟩
  have HO2 := Lib.hid (And.intro (HO1.out.1.below hb2) (And.intro hBs (below_and HO1.out.2 hb2)))
  have HEN := l2Ends_any A (some ao) c co js p w2 (hr0.out.below HO2.out.2.2) HO2.out.1 HX.out.1 HX.out.2.1
  rw [hpl] at HEN
  have HE := Lib.hid HEN
  clear hBs hb2 HO1 HS HEN
  go_wp2_with fail
  refine HE.out.mono ?_
  rintro e w3 ⟨ge, rfl, _, hBe, hb3⟩
  have HO := Lib.hid (And.intro (HO2.out.1.below hb3) (And.intro (HO2.out.2.1.below hb3) (And.intro hBe (below_and HO2.out.2.2 hb3))))
  clear hBe hb3 HO2 HE
  go_wp2
  go_loopw [6, 7] (fun l i wr => ∃ (k m : Nat), 1 ≤ k ∧ k ≤ js.length ∧ i = .int .i64 (k : Int) ∧ l = .int .i64 ((maxTo js p k : Nat) : Int) ∧ wr = w3.drewN m) (fun _ i _ => js.length - (intOf i).toNat)
  case atStart => exact ⟨1, 0, Nat.le_refl _, h0, rfl, by rw [maxTo_one]; rfl, rfl⟩
  case round =>
    obtain ⟨k, m, hk1, hk, rfl, rfl, rfl⟩ := hrel
    have hMk := maxTo_lt js p k (by omega)
    by_cases hlt : k < js.length
    · have hkp : k < p.length := by rw [HX.out.2.2.2]; exact hlt
      obtain ⟨M, hMe⟩ : ∃ M, M = maxTo js p k := ⟨_, rfl⟩
      have hMp : M < p.length := by omega
      have hL1 := late_place HX.out.2.1 hkp
      have hL2 := late_place HX.out.2.1 hMp
      have hxj : p[k] < js.length := perm_lt HX.out.2.1 (List.getElem_mem hkp)
      have hyj : p[M] < js.length := perm_lt HX.out.2.1 (List.getElem_mem hMp)
      have hxe : p[k] < (endsL js p).length := by rw [endsL_len]; exact hxj
      have hye : p[M] < (endsL js p).length := by rw [endsL_len]; exact hyj
      rw [getD_at _ 0 hxe, getD_at js j0 hxj] at hL1
      rw [getD_at _ 0 hye, getD_at js j0 hyj] at hL2
      obtain ⟨a1, hA1, o1⟩ := HO.out.1.nat hkp
      injection hA1 with hA1
      subst hA1
      obtain ⟨a2, hA2, o2⟩ := HO.out.1.nat hMp
      injection hA2 with hA2
      subst hA2
      have n1 := HO.out.2.2.1.int hxe
      have n2 := HO.out.2.2.1.int hye
      obtain ⟨ad, hA, _, e0, e1, e2, e3⟩ := (hr0.out.below HO.out.2.2.2).job hxj
      subst hA
      obtain ⟨ad2, hA, _, g0, g1, g2, g3⟩ := (hr0.out.below HO.out.2.2.2).job hyj
      injection hA with hA
      subst hA
      have b1 := endsL_bd HX.out.1 HX.out.2.1 _ (List.getElem_mem hxe)
      have b2 := endsL_bd HX.out.1 HX.out.2.1 _ (List.getElem_mem hye)
      have b3 := okJ_out (HX.out.2.2.1 _ (List.getElem_mem hxj))
      have b4 := okJ_out (HX.out.2.2.1 _ (List.getElem_mem hyj))
      have hk0 : (0 : Int) ≤ k := by omega
      have hk1' : (k : Int) < js.length := by omega
      have hM0 : (0 : Int) ≤ M := by omega
      have hM1 : (M : Int) < js.length := by omega
      have hx0 : (0 : Int) ≤ p[k] := by omega
      have hx1 : (p[k] : Int) < js.length := by omega
      have hy0 : (0 : Int) ≤ p[M] := by omega
      have hy1 : (p[M] : Int) < js.length := by omega
      rw [← hMe]
      by_cases hc : lateAt js p M < lateAt js p k
      · have HN : Hid (((maxTo js p (k + 1) : Nat) : Int) = (k : Int)) := by show _ = _; rw [maxTo_up (by rw [← hMe]; exact hc)]
        rw [hL1, hL2] at hc
        clear hL1 hL2 hMe hMk hM
        generalize (endsL js p)[p[k]] = ex at *
        generalize (endsL js p)[p[M]] = ey at *
        generalize js[p[k]] = jx at *
        generalize js[p[M]] = jy at *
        have d1 : decide (ey - jy.d < ex - jx.d) = true := decide_eq_true hc
        clear hxj hyj hxe hye
        generalize p[k] = x at *
        generalize p[M] = y at *
        go_wp2
        go_quiet (fail)
        go_wp2
        go_roundw
        case rel => exact ⟨k + 1, _, by omega, by omega, by go_num, by rw [HN.out], rfl⟩
        case measure => simp [intOf]; omega
      · have HN : Hid (((maxTo js p (k + 1) : Nat) : Int) = (M : Int)) := by show _ = _; rw [maxTo_stay (by rw [← hMe]; exact hc), ← hMe]
        rw [hL1, hL2] at hc
        clear hL1 hL2 hMe hMk hM
        generalize (endsL js p)[p[k]] = ex at *
        generalize (endsL js p)[p[M]] = ey at *
        generalize js[p[k]] = jx at *
        generalize js[p[M]] = jy at *
        have d1 : decide (ey - jy.d < ex - jx.d) = false := decide_eq_false hc
        clear hxj hyj hxe hye
        generalize p[k] = x at *
        generalize p[M] = y at *
        go_wp2
        go_quiet (fail)
        go_wp2
        go_roundw
        case rel => exact ⟨k + 1, _, by omega, by omega, by go_num, by rw [HN.out], rfl⟩
        case measure => simp [intOf]; omega
    · obtain rfl : k = js.length := by omega
      have hMp : maxTo js p js.length < p.length := by rw [HX.out.2.2.2]; exact hM
      obtain ⟨M, hMe⟩ : ∃ M, M = maxTo js p js.length := ⟨_, rfl⟩
      rw [← hMe] at hM hMp hMk ⊢
      have HME := Lib.hid hMe
      clear hMe
      go_wp2
      go_loopw [8] (fun f wr => ∃ (k m : Nat), f = .int .i64 (k : Int) ∧ k ≤ M ∧ Hid (begTo js p k = begTo js p M) ∧ wr = w3.drewN m) (fun f _ => (intOf f).toNat)
      case atStart => exact ⟨M, m, rfl, Nat.le_refl _, rfl, rfl⟩
      case round =>
        obtain ⟨k, m, rfl, hk, hB, rfl⟩ := hrel
        by_cases hk0 : 0 < k
        · obtain ⟨j, hj⟩ : ∃ j, k = j + 1 := ⟨k - 1, by omega⟩
          have hkp : k < p.length := by omega
          have hjp : j < p.length := by omega
          have hBR : brkB js p k = decide ((startsL js p).getD p[k] 0 ≠ (endsL js p).getD (p[j]'hjp) 0) := by
            subst hj; exact brk_place HX.out.2.1 hkp
          have hxj : p[k] < js.length := perm_lt HX.out.2.1 (List.getElem_mem hkp)
          have hyj : p[j] < js.length := perm_lt HX.out.2.1 (List.getElem_mem hjp)
          have hxs : p[k] < (startsL js p).length := by rw [startsL_len]; exact hxj
          have hye : p[j] < (endsL js p).length := by rw [endsL_len]; exact hyj
          rw [getD_at _ 0 hxs, getD_at _ 0 hye] at hBR
          obtain ⟨a1, hA1, o1⟩ := HO.out.1.nat hkp
          injection hA1 with hA1
          subst hA1
          obtain ⟨a2, hA2, o2⟩ := HO.out.1.nat hjp
          injection hA2 with hA2
          subst hA2
          have n1 := HO.out.2.1.int hxs
          have n2 := HO.out.2.2.1.int hye
          have hkj : (k : Int) - 1 = (j : Int) := by omega
          have hjs : begTo js p k = if brkB js p k = true then k else begTo js p j := by
            subst hj; rfl
          have hk1' : (k : Int) < js.length := by omega
          have hk0' : (0 : Int) < k := by omega
          have hk0'' : (0 : Int) ≤ k := by omega
          have hj0 : (0 : Int) ≤ j := by omega
          have hj1 : (j : Int) < js.length := by omega
          have hx0 : (0 : Int) ≤ p[k] := by omega
          have hx1 : (p[k] : Int) < js.length := by omega
          have hy0 : (0 : Int) ≤ p[j] := by omega
          have hy1 : (p[j] : Int) < js.length := by omega
          have d0 : decide ((0 : Int) < k) = true := decide_eq_true hk0'
          have HJK := Lib.hid hj
          clear hj
          by_cases he : (startsL js p)[p[k]] = (endsL js p)[p[j]]
          · have hbf : brkB js p k = false := by rw [hBR, decide_eq_false (fun h => h he)]
            rw [hbf, if_neg (by simp)] at hjs
            have HB2 : Hid (begTo js p j = begTo js p M) := hjs.symm.trans hB.out
            have hjm : j ≤ M := by have := HJK.out; omega
            have hjl : j < k := by have := HJK.out; omega
            rw [he] at n1
            clear hB hBR hjs hbf he hxs
            generalize (endsL js p)[p[j]] = ey at *
            clear hxj hyj hye
            generalize p[k] = x at *
            generalize p[j] = y at *
            go_wp2
            go_quiet (fail)
            go_wp2
            go_roundw
            case rel => exact ⟨j, _, by go_num, hjm, HB2, rfl⟩
            case measure => simp [intOf]; omega
          · have hbt : brkB js p k = true := by rw [hBR, decide_eq_true he]
            rw [hbt, if_pos rfl] at hjs
            have HKB : Hid (k = begTo js p M) := hjs.symm.trans hB.out
            have b5 : ((startsL js p)[p[k]] == (endsL js p)[p[j]]) = false := by rw [beq_eq_false_iff_ne]; exact he
            have d5 : decide ((startsL js p)[p[k]] = (endsL js p)[p[j]]) = false := decide_eq_false he
            clear hB hBR hjs hbt he
            generalize (startsL js p)[p[k]] = sx at *
            generalize (endsL js p)[p[j]] = ey at *
            clear hxj hyj hxs hye
            generalize p[k] = x at *
            generalize p[j] = y at *
            go_wp2
            go_quiet (fail)
            clear o1 o2 n1 n2 d0 b5 d5 hkj hk0'
            have hMco : M + 1 ≤ co := by omega
            have hkco : k < co := by omega
            have hM0 : (0 : Int) ≤ M := by omega
            have hM9 : (M : Int) ≤ 8 := by omega
            have hlen : (critL js p).length = M + 1 - k := by rw [critL_len js p (by omega), HX.out.2.2.2, ← HME.out, ← HKB.out]
            have hcrit : ((natI p).drop k).take (M + 1 - k) = natI (critL js p) := by rw [nat_sub]; unfold critL; rw [HX.out.2.2.2, ← HME.out, ← HKB.out]
            have hsub := row_sub (l := k) (n := M + 1 - k) HO.out.1 (by rw [List.length_map]; omega)
            rw [hcrit] at hsub
            have hncl : (natI (critL js p)).length = M + 1 - k := by rw [List.length_map, hlen]
            have HOW := fun (w' : World) (h : Row w' (some (ao.add k)) (ic (natI (critL js p)))) => l1Own_any (ao.add k) (co - k) (natI (critL js p)) w' h (by rw [hncl]; omega)
            simp only [hncl] at HOW
            have HL := Lib.hid hlen
            have HW := Lib.hid HOW
            have HSU := Lib.hid hsub
            clear hlen hcrit hsub hncl HOW
            go_wp2_with (refine wpList_slice_lh rfl _ _ _ rfl ao js.length co k (M + 1) _ _ rfl rfl rfl (by omega) (by omega) (by omega) (by omega) (by omega) ?_)
            refine (HW.out _ (HSU.out.drewN _)).mono ?_
            rintro e w9 ⟨v, rfl, hown, hb9⟩
            go_wp2
            go_ret
            refine ⟨_, rfl, ?_, below_and (below_drewN HO.out.2.2.2 _) hb9⟩
            rw [HL.out]
            exact own_lower hown HO.out.2.2.2.size
        · obtain rfl : k = 0 := by omega
          have HKB : Hid (0 = begTo js p M) := hB.out
          have d0 : decide ((0 : Int) < ((0 : Nat) : Int)) = false := by decide
          clear hB
          go_wp2
          go_quiet (fail)
          have hMco : M + 1 ≤ co := by omega
          have hM0 : (0 : Int) ≤ M := by omega
          have hM9 : (M : Int) ≤ 8 := by omega
          have hlen : (critL js p).length = M + 1 := by rw [critL_len js p (by omega), HX.out.2.2.2, ← HME.out, ← HKB.out, Nat.sub_zero]
          have hcrit : ((natI p).drop 0).take (M + 1) = natI (critL js p) := by rw [nat_sub]; unfold critL; rw [HX.out.2.2.2, ← HME.out, ← HKB.out, Nat.sub_zero]
          have hsub := row_sub (l := 0) (n := M + 1) HO.out.1 (by rw [List.length_map]; omega)
          rw [hcrit, show ao.add 0 = ao from rfl] at hsub
          have hncl : (natI (critL js p)).length = M + 1 := by rw [List.length_map, hlen]
          have HOW := fun (w' : World) (h : Row w' (some ao) (ic (natI (critL js p)))) => l1Own_any ao co (natI (critL js p)) w' h (by rw [hncl]; omega)
          simp only [hncl] at HOW
          have HL := Lib.hid hlen
          have HW := Lib.hid HOW
          have HSU := Lib.hid hsub
          clear hlen hcrit hsub hncl HOW
          go_wp2_with fail
          refine (HW.out _ (HSU.out.drewN _)).mono ?_
          rintro e w9 ⟨v, rfl, hown, hb9⟩
          go_wp2
          go_ret
          refine ⟨_, rfl, ?_, below_and (below_drewN HO.out.2.2.2 _) hb9⟩
          rw [HL.out]
          exact own_lower hown HO.out.2.2.2.size
end
end Go.Proofs.Ytpjjjbkjkhcbdaa
