/- Blocks: the program's. -/
import Derived.Test.YtjnaicgmfnhjeaaSlsR
import Derived.Test.YtjnaicgmfnhjeaaBlkP
import Derived.Test.YtjnaicgmfnhjeaaSched
import Derived.Test.YtjnaicgmfnhjeaaEndsO
namespace Go.Proofs.Ytjnaicgmfnhjeaa
open Go.RowKit
def blocksR (js : List J) (o : List Int) : List (List Int) × Bool := if twoB js o then ((blksL js (natsOf o)).map fun g => g.map Int.ofNat, true) else ([], false)
theorem blocksR_len (js : List J) (o : List Int) : (blocksR js o).1.length ≤ 1000 := by
  unfold blocksR
  cases ht : twoB js o
  · simp
  · obtain ⟨hg, p, rfl, hp, hpo⟩ := two_out ht
    have h8 := (good_out hg).1
    have hl := blksTo_len js p p.length
    have hpl : p.length = js.length := by simpa using hp.length_eq
    rw [if_pos rfl, hpo]
    show ((blksTo js p p.length).map _).length ≤ 1000
    rw [List.length_map]; omega
theorem csS_map (gs : List (List Nat)) : (gs.map fun g => g.map Int.ofNat).map ic = csS gs := by unfold csS csS.gs1; rw [List.map_map]; rfl
theorem ic_snocN (b : List Nat) (x : Nat) : ic (b.map Int.ofNat) ++ [.int .i64 (x : Int)] = ic ((b ++ [x]).map Int.ofNat) := by unfold ic; simp
/-- The blocks when one more job has come. -/
theorem blksTo_new {js : List J} {p : List Nat} {k : Nat} (hk : k < p.length) (h : k = 0 ∨ lastGo js (p.take k) 0 < (js.getD p[k] j0).r) : blksTo js p (k + 1) = blksTo js p k ++ [[p[k]]] := by
  rw [← getD_at p 0 hk] at h ⊢
  show (if _ then _ else _) = _
  rw [if_pos h]
theorem blksTo_more {js : List J} {p : List Nat} {k : Nat} (hk : k < p.length) (h : ¬ (k = 0 ∨ lastGo js (p.take k) 0 < (js.getD p[k] j0).r)) : ∃ bs b, blksTo js p k = bs ++ [b] ∧ b.length ≤ k ∧ blksTo js p (k + 1) = bs ++ [b ++ [p[k]]] := by
  have ih := blks_all js p k (by omega)
  have hne : blksTo js p k ≠ [] := fun e => by
    have := ih.flat
    rw [e] at this
    have := congrArg List.length this
    simp at this
    omega
  obtain ⟨bs, b, hbs⟩ : ∃ bs b, blksTo js p k = bs ++ [b] := by
    rcases List.eq_nil_or_concat (blksTo js p k) with h | ⟨bs, b, h⟩
    · exact absurd h hne
    · exact ⟨bs, b, by simpa using h⟩
  refine ⟨bs, b, hbs, ?_, ?_⟩
  · have := congrArg List.length ih.flat
    rw [hbs] at this
    simp at this
    omega
  · rw [← getD_at p 0 hk] at h ⊢
    show (if _ then _ else _) = _
    rw [if_neg h, hbs, snocLast_snoc]
theorem ret_emptySS {w w1 : World} {r : List (List Int) × Bool} (hr : r = ([], false)) (hb : Below w.heap.size w w1) (e : Ending) (he : e = .returned (.tuple #[.slice (some ⟨w1.heap.size, 0, none⟩) 0 0, .bool false])) : RetSSB w r e (w1.alloc (.cells #[] 23)) := by
  subst hr he
  have h : (w1.alloc (.cells #[] 23)).ownsRow w.heap.size 23 1 (.slice (some ⟨w1.heap.size, 0, none⟩) 0 0) 0 [] := World.ownsRow_made w1 #[] 0 hb.size (by unfold maxLen; omega) rfl
  obtain ⟨A, c, hA, hs⟩ := (OwnV.nil (C := w.heap.size) h).seg (Nat.le_refl _)
  injection hA with e1 e2 e3
  subst e1 e3
  exact ⟨_, _, rfl, hs, hb.alloc hb.size _⟩
theorem ret_ownSS {w w' : World} {r : List (List Int) × Bool} {gs : List (List Nat)} {vs : List (Option Addr × Nat)} {v : Value} {b : Bool} (hr : r = (gs.map fun g => g.map Int.ofNat, b)) {C : Nat} (hBC : w.heap.size ≤ C) (ho : OwnV vs w.heap.size C w' v (csS gs)) (hb : Below w.heap.size w w') (e : Ending) (he : e = .returned (.tuple #[v, .bool b])) : RetSSB w r e w' := by
  subst hr he
  obtain ⟨A, c, rfl, hs⟩ := ho.seg hBC
  rw [csS_len] at hs
  refine ⟨A, c, ?_, ?_, hb⟩
  · rw [csS_len, List.length_map]
  · show SegSS _ _ _ _ (gs.map _).length _ _
    rw [csS_map, List.length_map]; exact hs
section
variable (A B : Option Addr) (c d : Nat) (js : List J) (p : List Nat) (w : World) (hr : Row w A (jc js)) (hq : Row w B (ic (natI p))) (hg : goodL js = true) (hp : p.Perm (List.range js.length))
include hr hq hg hp
set_option maxRecDepth 100000 in
set_option maxHeartbeats 4000000 in
theorem impl_BlkYes (ht : twoB js (natI p) = true) (R : List (List Int) × Bool) (hR : R = ((blksL js p).map fun g => g.map Int.ofNat, true)) : Calls Try.prog 21 #[.slice A js.length c, .slice B p.length d] w (RetSSB w R) := by
  obtain ⟨h8, hok⟩ := good_out hg
  have hpl : p.length = js.length := by simpa using hp.length_eq
  have hp8 : p.length ≤ 8 := by omega
  clear hpl
  have HR := Lib.hid hR
  have HSC := Lib.hid (isScheduled_any A B c d js (natI p) w hr hq (by omega) (by rw [List.length_map]; omega))
  rw [show (natI p).length = p.length from List.length_map .., ht] at HSC
  clear hR
  go_enter Try.func21, Try.ntmps21
  go_wp2_with fail
  refine HSC.out.mono ?_
  rintro e w1 ⟨rfl, hb1⟩
  have H0 : Hid (OwnV [] w.heap.size w.heap.size (w1.alloc (.cells #[] 23)) (.slice (some ⟨w1.heap.size, 0, none⟩) 0 0) (csS []) ∧ Below w.heap.size w (w1.alloc (.cells #[] 23))) :=
    ⟨OwnV.nil (World.ownsRow_made w1 #[] 0 hb1.size (by unfold maxLen; omega) rfl), hb1.alloc hb1.size _⟩
  clear hb1 HSC
  go_wp2
  go_loopw [6, 7, 19] (fun v en i wr => ∃ (k : Nat) (now : Int) (vs : List (Option Addr × Nat)) (go cap : Nat), k ≤ p.length ∧ i = .int .i64 (k : Int) ∧ en = .int .i64 now ∧ 0 ≤ now ∧ now ≤ 500 + 50 * k ∧ v = .slice (some ⟨go, 0, none⟩) (csS (blksTo js p k)).length cap ∧ Hid (now = lastGo js (p.take k) 0) ∧ Hid (OwnV vs w.heap.size w.heap.size wr (.slice (some ⟨go, 0, none⟩) (csS (blksTo js p k)).length cap) (csS (blksTo js p k)) ∧ Below w.heap.size w wr)) (fun _ _ i _ => p.length - (intOf i).toNat)
  case atStart => exact ⟨0, 0, [], w1.heap.size, 0, Nat.zero_le _, rfl, rfl, by omega, by omega, rfl, rfl, H0⟩
  case round =>
    obtain ⟨k, now, vs, go, cap, hk, rfl, rfl, hn0, hn1, rfl, HN, HV⟩ := hrel
    clear H0
    by_cases hlt : k < p.length
    · obtain ⟨a, hA', hc⟩ := (hq.below HV.out.2).nat hlt
      subst hA'
      have hj : p[k] < js.length := perm_lt hp (List.getElem_mem hlt)
      obtain ⟨ad, hA, hbl, hc0, hc1, hc2, hc3⟩ := (hr.below HV.out.2).job hj
      subst hA
      have hokj := hok _ (List.getElem_mem hj)
      obtain ⟨s0, s1⟩ := step_bd hokj hn0 hn1
      have HN2 : Hid (max now js[p[k]].r + js[p[k]].t = lastGo js (p.take (k + 1)) 0) := by
        show _ = _
        rw [List.take_succ_eq_append_getElem hlt, lastGo_snoc, ← HN.out, getD_at js j0 hj]
      have hp0 : (0 : Int) ≤ p[k] := by omega
      have hp1 : (p[k] : Int) < js.length := by omega
      have hk0 : (0 : Int) ≤ k := by omega
      have hk1 : (k : Int) < p.length := by omega
      have hlen := blksTo_len js p k
      have hr0 : 0 ≤ js[p[k]].r ∧ js[p[k]].r ≤ 500 := by
        obtain ⟨_, _, _, _, r0, r1, _, _⟩ := okJ_out hokj
        exact ⟨r0, r1⟩
      have HRW := Lib.hid (And.intro hr hq)
      have hjd := getD_at js j0 hj
      obtain ⟨n, hn⟩ : ∃ n, n = (csS (blksTo js p k)).length := ⟨_, rfl⟩
      have hcsl : (csS (blksTo js p k)).length = n := hn.symm
      have hn8 : n ≤ 8 := by rw [hn, csS_len]; omega
      rw [hcsl] at HV
      rw [hcsl]
      clear hn
      by_cases hs : k = 0 ∨ now < js[p[k]].r
      · have HCS : Hid (csS (blksTo js p (k + 1)) = csS (blksTo js p k) ++ [ic [] ++ [.int .i64 (p[k] : Int)]]) := by
          show _ = _
          rw [blksTo_new hlt (by rw [← HN.out, hjd]; exact hs), csS_snoc]; rfl
        have HP : Hid (∃ v' w3 vs', (Builtin.append_ #[25, 25] 25 #[.slice (some ⟨go, 0, none⟩) n cap, .slice (some ⟨wr.heap.size + 1, 0, none⟩) 1 1]).run Try.prog ((wr.alloc (.cells #[] 3)).alloc (.cells #[.slice (some ⟨wr.heap.size, 0, none⟩) 0 0] 23)) = .ok v' w3 ∧ OwnV vs' w.heap.size w.heap.size w3 v' (csS (blksTo js p k) ++ [ic []]) ∧ (∃ g c, v' = .slice (some ⟨g, 0, none⟩) (n + 1) c) ∧ Below w.heap.size w w3) := by
          have h := push_at HV.out.1 (Nat.le_refl _) HV.out.2.size HV.out.2 [] (by simp) (by omega)
          rw [hcsl] at h
          obtain ⟨v', w3, vs', h1, h2, h3, h4, _⟩ := h
          exact ⟨v', w3, vs', h1, h2, h3, h4⟩
        obtain ⟨_, w3, vsq, hrun3, hV3, ⟨gq, capq, rfl⟩, hb3⟩ := HP.out
        have HRUN3 := Lib.hid hrun3
        have HQ := Lib.hid (And.intro hV3 hb3)
        obtain ⟨a3, hA3, hcq⟩ := (HRW.out.2.below hb3).nat hlt
        injection hA3 with hA3
        subst hA3
        clear HP hrun3 hV3 hb3 HV
        have HCL : Hid ((csS (blksTo js p k)).length = n) := hcsl
        obtain ⟨AL, cL, hcL, hgL, v5, w5, vs5, hrun, hV5, ⟨old, hold⟩, hfz, ⟨A5, n5, c5, rfl⟩, hb5, _, _⟩ := ext_last HQ.out.1 (Nat.le_refl _) HQ.out.2.size hcsl HQ.out.2 (p[k] : Int) (by simp [ic_len])
        have HRUN := Lib.hid hrun
        obtain ⟨ad5, hA5, hbl5, hd0, hd1, hd2, hd3⟩ := (HRW.out.1.below hb5).job hj
        injection hA5 with hA5
        subst hA5
        have HV5 := Lib.hid (And.intro hV5 hb5)
        have HEA := Lib.hid (endAfter_any now js[p[k]] (w5.setCell ⟨gq, n, none⟩ (.slice A5 n5 c5)) hokj hn0 (by omega))
        clear hrun hV5 hb5 HQ HRW hjd
        generalize js[p[k]] = j at *
        clear hj
        generalize p[k] = x at *
        by_cases hkz : k = 0
        · have hz1 : ((k : Int) == 0) = true := by simp; omega
          have hz2 : (k : Int) = 0 := by omega
          have hpz : 0 < p.length := by omega
          have hpz1 : (0 : Int) < p.length := by omega
          have hca : wr.cell? a = some (.int .i64 (x : Int)) := by
            have h := hc
            rw [show a.add k = a by rw [hkz]; simp [Addr.add]] at h
            exact h
          go_wp2_with (at_builtin; first | (refine wpList_app rfl _ _ _ rfl _ _ _ rfl rfl HRUN3.out ?_; clear HRUN3) | (refine wpList_app rfl _ _ _ rfl _ _ _ rfl rfl HRUN.out ?_; clear HRUN))
          refine HEA.out.mono ?_
          rintro e w6 ⟨rfl, hb6⟩
          have HV6 := Lib.hid (And.intro (HV5.out.1.below hb6) (HV5.out.2.trans (hb6.mono HV5.out.2.size)))
          have HV7 : Hid (OwnV vs5 w.heap.size w.heap.size w6 (.slice (some ⟨gq, 0, none⟩) (csS (blksTo js p (k + 1))).length capq) (csS (blksTo js p (k + 1))) ∧ Below w.heap.size w w6) := by
            have h := HV6.out
            show _ ∧ _
            rw [HCS.out, List.length_append, HCL.out]
            exact h
          go_wp2
          go_roundw
          case rel => exact ⟨k + 1, _, vs5, gq, capq, by omega, by go_num, rfl, s0, s1, by rw [HCS.out, List.length_append, HCL.out]; rfl, HN2, HV7⟩
          case measure => simp [intOf]; omega
        · have hz1 : ((k : Int) == 0) = false := by simp; omega
          have hz2 : ¬ (k : Int) = 0 := by omega
          have hz3 : now < j.r := by omega
          go_wp2_with (at_builtin; first | (refine wpList_app rfl _ _ _ rfl _ _ _ rfl rfl HRUN3.out ?_; clear HRUN3) | (refine wpList_app rfl _ _ _ rfl _ _ _ rfl rfl HRUN.out ?_; clear HRUN))
          refine HEA.out.mono ?_
          rintro e w6 ⟨rfl, hb6⟩
          have HV6 := Lib.hid (And.intro (HV5.out.1.below hb6) (HV5.out.2.trans (hb6.mono HV5.out.2.size)))
          have HV7 : Hid (OwnV vs5 w.heap.size w.heap.size w6 (.slice (some ⟨gq, 0, none⟩) (csS (blksTo js p (k + 1))).length capq) (csS (blksTo js p (k + 1))) ∧ Below w.heap.size w w6) := by
            have h := HV6.out
            show _ ∧ _
            rw [HCS.out, List.length_append, HCL.out]
            exact h
          go_wp2
          go_roundw
          case rel => exact ⟨k + 1, _, vs5, gq, capq, by omega, by go_num, rfl, s0, s1, by rw [HCS.out, List.length_append, HCL.out]; rfl, HN2, HV7⟩
          case measure => simp [intOf]; omega
      · have hz1 : ((k : Int) == 0) = false := by simp; omega
        have hz2 : ¬ (k : Int) = 0 := by omega
        have hz3 : ¬ now < js[p[k]].r := by omega
        obtain ⟨bs, b, hbs, hbk, hbs2⟩ := blksTo_more hlt (by rw [← HN.out, hjd]; exact hs)
        have HCS : Hid (csS (blksTo js p (k + 1)) = csS bs ++ [ic (b.map Int.ofNat) ++ [.int .i64 (p[k] : Int)]]) := by
          show _ = _
          rw [hbs2, csS_snoc, ic_snocN]
        obtain ⟨m, rfl⟩ : ∃ m, n = m + 1 := ⟨bs.length, by rw [← hcsl, csS_len, hbs]; simp⟩
        have hbl0 : (csS bs).length = m := by rw [hbs, csS_len] at hcsl; simp at hcsl; rw [csS_len]; omega
        have HCL : Hid ((csS bs).length = m) := hbl0
        rw [hbs, csS_snoc] at HV
        have HQ := HV
        clear HV hcsl hbs hbs2 hs
        obtain ⟨a3, hA3, hcq⟩ := (HRW.out.2.below HQ.out.2).nat hlt
        injection hA3 with hA3
        subst hA3
        clear hcq
        obtain ⟨AL, cL, hcL, hgL, v5, w5, vs5, hrun, hV5, ⟨old, hold⟩, hfz, ⟨A5, n5, c5, rfl⟩, hb5, _, _⟩ := ext_last HQ.out.1 (Nat.le_refl _) HQ.out.2.size hbl0 HQ.out.2 (p[k] : Int) (by rw [ic_len, List.length_map]; omega)
        have HRUN := Lib.hid hrun
        obtain ⟨ad5, hA5, hbl5, hd0, hd1, hd2, hd3⟩ := (HRW.out.1.below hb5).job hj
        injection hA5 with hA5
        subst hA5
        have HV5 := Lib.hid (And.intro hV5 hb5)
        have HEA := Lib.hid (endAfter_any now js[p[k]] (w5.setCell ⟨go, m, none⟩ (.slice A5 n5 c5)) hokj hn0 (by omega))
        clear hrun hV5 hb5 HQ HRW hjd
        generalize js[p[k]] = j at *
        clear hj
        generalize p[k] = x at *
        go_wp2_with (at_builtin; refine wpList_app rfl _ _ _ rfl _ _ _ rfl rfl HRUN.out ?_; clear HRUN)
        refine HEA.out.mono ?_
        rintro e w6 ⟨rfl, hb6⟩
        have HV6 := Lib.hid (And.intro (HV5.out.1.below hb6) (HV5.out.2.trans (hb6.mono HV5.out.2.size)))
        have HV7 : Hid (OwnV vs5 w.heap.size w.heap.size w6 (.slice (some ⟨go, 0, none⟩) (csS (blksTo js p (k + 1))).length cap) (csS (blksTo js p (k + 1))) ∧ Below w.heap.size w w6) := by
          have h := HV6.out
          show _ ∧ _
          rw [HCS.out, List.length_append, HCL.out]
          exact h
        go_wp2
        go_roundw
        case rel => exact ⟨k + 1, _, vs5, go, cap, by omega, by go_num, rfl, s0, s1, by rw [HCS.out, List.length_append, HCL.out]; rfl, HN2, HV7⟩
        case measure => simp [intOf]; omega
    · obtain rfl : k = p.length := by omega
      have hRR := HR.out
      have HF := Lib.hid HV.out
      clear HV HR
      go_wp2
      go_ret2
      exact ret_ownSS hRR (Nat.le_refl _) HF.out.1 HF.out.2 _ rfl
end
section
variable (A B : Option Addr) (c d : Nat) (js : List J) (o : List Int) (w : World) (hr : Row w A (jc js)) (hq : Row w B (ic o)) (hn : js.length ≤ 10000000) (hm : o.length ≤ 10000000)
include hr hq hn hm
theorem impl_BlocksOf : Calls Try.prog 21 #[.slice A js.length c, .slice B o.length d] w (RetSSB w (blocksR js o)) := by
  have HR : Hid (blocksR js o = if twoB js o then ((blksL js (natsOf o)).map fun g => g.map Int.ofNat, true) else ([], false)) := rfl
  cases ht : twoB js o
  · rw [ht] at HR
    go_enter Try.func21, Try.ntmps21
    go_wp2_with fail
    refine (isScheduled_any A B c d js o _ hr hq hn hm).mono ?_
    rintro e w1 ⟨rfl, hb1⟩
    rw [ht]
    go_wp2
    go_ret2
    exact ret_emptySS HR.out hb1 _ rfl
  · obtain ⟨hg, p, rfl, hp, hpo⟩ := two_out ht
    rw [ht, hpo] at HR
    have h := impl_BlkYes A B c d js p w hr hq hg hp ht _ HR.out
    rw [show (natI p).length = p.length from List.length_map ..]
    exact h
end
end Go.Proofs.Ytjnaicgmfnhjeaa
