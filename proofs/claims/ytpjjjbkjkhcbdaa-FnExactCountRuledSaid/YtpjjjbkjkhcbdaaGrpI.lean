/- Groups of tied jobs: the program's. -/
import Derived.Test.YtpjjjbkjkhcbdaaGrqQ
import Derived.Test.YtpjjjbkjkhcbdaaGrpT
import Derived.Test.YtpjjjbkjkhcbdaaRuled
import Derived.Test.YtpjjjbkjkhcbdaaSlsR
import Derived.Test.YtpjjjbkjkhcbdaaOwnM
import Derived.Laws.CopyOwn
namespace Go.Proofs.Ytpjjjbkjkhcbdaa
open Go.RowKit
theorem splice_allG (L cs : List Value) (h : L.length = cs.length) : splice L 0 cs = cs := by
  unfold splice
  simp [h]
theorem ic_oneG (xs : List Int) : ∀ v ∈ ic xs, v.oneCell' = true := by
  intro v hv
  obtain ⟨x, _, rfl⟩ := List.mem_map.1 hv
  rfl
theorem wpList_appG2 {P : Program} {ops : Array Oper} {rest : List Oper} {o : Oper} {a : Act} {w w' : World} {Q : Exit → Act → World → Prop} (hgd : o.guard = none) (s x : Operand) (t : TypeId)
    (ho : o.op = .call { callee := .builtin .append, args := #[s, x], argTypes := #[t, t] }) (v u r : Value) (hs : a.eval s = v) (hx : a.eval x = u) (hr : (Builtin.append_ #[t, t] o.type #[v, u]).run P w = .ok r w')
    (h : wpList P ops Q rest (a.put o.dst r) w') : wpList P ops Q (o :: rest) a w := by
  refine wpList_plain hgd fun K hK => ?_
  unfold Oper.wp execOp
  simp only [ho, resolve, invoke, builtin, Sem.run_bind, Sem.run_pure, Result.andThen_ok, List.map_toArray, List.map_cons, List.map_nil, hs, hx, hr]
  exact hK _ _ h
theorem wpList_slice_lG {ops : Array Oper} {rest : List Oper} {o : Oper} {a : Act} {w : World} {Q : Exit → Act → World → Prop} (hgd : o.guard = none) (x lo : Operand)
    (ho : o.op = .slice 35 x (some lo) none none) (ad : Addr) (n c l : Nat) (z : Int) (hx : a.eval x = .slice (some ad) n c) (hlo : a.eval lo = .int .i64 z) (hz : z = (l : Int)) (hl : l ≤ n)
    (h : wpList Try.prog ops Q rest (a.put o.dst (.slice (some (tailAd ad l c)) (n - l) (c - l))) w) : wpList Try.prog ops Q (o :: rest) a w := by
  subst hz
  refine wpList_plain hgd fun K hK => ?_
  have hr := slice_l ad n c l w hl
  rw [← hx, ← hlo] at hr
  have he := exec_slice (P := Try.prog) (o := o) (ev := a.eval) (x := x) (lo := some lo) (hi := none) (mx := none) (t := 35) (w := w) ho hr
  unfold Oper.wp
  rw [he]
  exact hK _ _ h
/-- A group that lies in a block of its own already is put behind the others. -/
theorem push_there {w0 w w6 : World} {C : Nat} {vs : List (Option Addr × Nat)} {v : Value} {css : List (List Value)} (h : OwnV vs w0.heap.size C w v css) (hC : C ≤ w.heap.size) (hb : Below w0.heap.size w0 w) (hbw : Below w.heap.size w w6) (xs : List Int) (hnew : BlockIs w6 w.heap.size 3 (ic xs).toArray) (hx : xs.length ≤ 100) (hn : css.length ≤ 100) :
    ∃ v' w8 vs', (Builtin.append_ #[58, 58] 58 #[v, .slice (some ⟨w6.heap.size, 0, none⟩) 1 1]).run Try.prog (w6.alloc (.cells #[.slice (some ⟨w.heap.size, 0, none⟩) xs.length xs.length] 35)) = .ok v' w8 ∧
      OwnV vs' w0.heap.size C w8 v' (css ++ [ic xs]) ∧ (∃ A c, v' = .slice A (css.length + 1) c) ∧ Below w0.heap.size w0 w8 ∧ KeepInt C w w8 ∧ w.heap.size ≤ w8.heap.size := by
  obtain ⟨i1, hj, hy0, hy1, hy2⟩ := info_parts infoSS
  have hsz := hb.size
  have hbw7 : Below w.heap.size w (w6.alloc (.cells #[.slice (some ⟨w.heap.size, 0, none⟩) xs.length xs.length] 35)) := hbw.alloc hbw.size _
  have hb7 := hb.trans (hbw7.mono hsz)
  have h2 := own_blw h.2.1 hbw7
  have hsrc := row_srcS (Row.new w6 35 #[.slice (some ⟨w.heap.size, 0, none⟩) xs.length xs.length])
  have hnw := (hnew.below ((Below.refl _ _).alloc (Nat.le_refl _) (.cells #[.slice (some ⟨w.heap.size, 0, none⟩) xs.length xs.length] 35))).own (base := C) (n := xs.length) (c := xs.length) (size := 1) hC (by simp [ic_len]) (Nat.le_refl _) (by unfold maxLen; omega) (by simp [ic_len])
  rw [List.take_of_length_le (by simp [ic_len])] at hnw
  obtain ⟨v', w8, hrun, ho3, hgr, _⟩ := append_at (P := Try.prog) (w6.alloc (.cells #[.slice (some ⟨w.heap.size, 0, none⟩) xs.length xs.length] 35)) w0.heap.size 58 58 35 i1 (.slice none 0 0) 1 24 Try.underlying58 hj hy0 hy1 hy2 rfl (by decide) _ _ _ h2 ⟨w6.heap.size, 0, none⟩ 1 1 [.slice (some ⟨w.heap.size, 0, none⟩) xs.length xs.length] rfl hsrc (by intro u hu; simp at hu; subst hu; rfl) (by omega) (by unfold maxLen; omega) (by omega) hb7.size
  have hL : xs.length = (ic xs).length := (ic_len xs).symm
  have hV := OwnV.push (cs := ic xs) (c := xs.length) (g := w.heap.size) h hbw7 (by rw [← hL]; exact hnw) (Nat.le_refl _) (by rw [← hL]; exact ho3) hgr
  have hb8 : Below w0.heap.size w0 w8 := hb7.grown hgr hb7.size (fun j hj => (h2.lt j hj).1)
  have hkeep : KeepInt C w w8 := fun q cs hq hB => by
    have hB2 := hB.below hbw7
    refine (hgr.block q hB2.lt fun e => ?_).trans hB2
    obtain ⟨_, _, c1, t1⟩ := own_type h2 e.symm
    exact type_ne hB2 t1 (by decide) rfl
  have hsz3 : w.heap.size ≤ w8.heap.size := Nat.le_trans hbw7.size hgr.size
  refine ⟨v', w8, _, hrun, hV, ?_, hb8, hkeep, hsz3⟩
  obtain ⟨A', c', rfl, _⟩ := own_slice ho3
  exact ⟨A', c', rfl⟩
/-- What lies in memory between two groups. -/
structure TgK (ob : Int) (js : List J) (w : World) (b : Nat) (A : Option Addr) (c C go : Nat) (vs : List (Option Addr × Nat)) (v : Value) (gs : List (List Nat)) (wr : World) : Prop where
  own : OwnV vs w.heap.size C wr v (csS gs)
  below : Below w.heap.size w wr
  hC : C ≤ wr.heap.size
  ord : BlockIs wr go 3 (ic (natI (ruledL ob js))).toArray
  lo : w.heap.size ≤ C
  goC : go < C
theorem TgK.next {ob : Int} {js : List J} {w : World} {b : Nat} {A : Option Addr} {c C go : Nat} {vs : List (Option Addr × Nat)} {v : Value} {gs : List (List Nat)} {wr w' : World} (h : TgK ob js w b A c C go vs v gs wr) (hb : Below wr.heap.size wr w') : TgK ob js w b A c C go vs v gs w' :=
  ⟨h.own.below hb, h.below.trans (hb.mono h.below.size), Nat.le_trans h.hC hb.size, h.ord.below hb, h.lo, h.goC⟩
theorem tie_bd {ob : Int} {js : List J} (hg : goodL js = true) {x y : Nat} (hx : x < js.length) (hy : y < js.length) : -2500 ≤ gapN ob js x y ∧ gapN ob js x y ≤ 2500 :=
  gapJ_bd (getD_ok (good_out hg).2 hx) (getD_ok (good_out hg).2 hy)
section
variable {b : Nat} {A : Option Addr} {c : Nat} {js : List J} {ob : Int} (ho : isRule ob = true) (hg : goodL js = true)
include ho hg
set_option maxRecDepth 100000 in
set_option maxHeartbeats 8000000 in
theorem tieGroups_any (w : World) (hB : BlockIs w b 28 #[.slice A js.length c]) (hr : Row w A (jc js)) :
    Calls Try.prog 100 #[fRule ob b, .int .i64 (js.length : Int)] w fun e w' => ∃ v vs C, e = .returned v ∧ w.heap.size ≤ C ∧ OwnV vs w.heap.size C w' v (csS (groupsL ob js)) ∧ Below w.heap.size w w' := by
  obtain ⟨h8, hok⟩ := good_out hg
  obtain ⟨i0, hi, hz0, hz1, hz2⟩ := info_parts infoI
  have hsz1 : (Try.prog.info? 3).map (·.size) = some 1 := by rw [hi]; simp [hz1]
  have hmkA := fun z : Nat => fun (h8 : z ≤ 8) => run_make_row' (P := Try.prog) 35 3 (.int .i64 0) 8 Try.underlying35 infoI rfl .i64 .i64 z (by omega) (by omega)
  obtain ⟨f, hf, hcf, hcall⟩ := rule_call (b := b) (A := A) (c := c) ho hg
  have hb0 := (Below.refl w.heap.size w).alloc (Nat.le_refl _) (.cells #[] 35)
  have hown0 : (w.alloc (.cells #[] 35)).ownsRow w.heap.size 35 1 (.slice (some ⟨w.heap.size, 0, none⟩) 0 0) 0 [] := World.ownsRow_made w #[] 0 (Nat.le_refl _) (by unfold maxLen; omega) rfl
  have HRO := ruledOrder_any (b := b) (A := A) (c := c) ho hg _ (hB.below hb0) (hr.below hb0)
  have HRL := Lib.hid (ruledL_len ob js)
  have HBR := Lib.hid (And.intro hB hr)
  rw [hf] at HRO ⊢
  have HRO' := Lib.hid HRO
  have H0 := Lib.hid (And.intro hown0 hb0)
  have HCALL := Lib.hid hcall
  have HMK := Lib.hid hmkA
  clear hb0 hown0 HRO hB hr hf hcall hi hz0 hz1 hz2 hmkA
  go_enter Try.func100, Try.ntmps100
  go_wp2_with fail
  refine HRO'.out.mono ?_
  rintro e w2 ⟨go, rfl, hownr, hb2⟩
  rw [HRL.out] at hownr ⊢
  have hbw : Below w.heap.size w w2 := H0.out.2.trans (hb2.mono H0.out.2.size)
  have hown2 := own_blw H0.out.1 hb2
  by_cases hn0 : js.length = 0
  · have hgl : Hid (groupsL ob js = []) := by
      show _ = _
      unfold groupsL
      have : ruledL ob js = [] := List.eq_nil_of_length_eq_zero (by rw [HRL.out]; exact hn0)
      rw [this]
      cases js.length <;> rfl
    have HF := Lib.hid (And.intro hown2 hbw)
    have hd : decide ((0 : Int) < (js.length : Int)) = false := decide_eq_false (by omega)
    have hd2 : decide (0 < js.length) = false := decide_eq_false (by omega)
    clear H0 hownr hb2 hbw hown2 hn0 HRO'
    go_wp2
    refine wp_loop_rounds 1 ?_
    rw [rounds_succ]
    go_wp2
    go_ret
    exact ⟨_, [], w.heap.size, rfl, Nat.le_refl _, by rw [hgl.out]; exact OwnV.nil HF.out.1, HF.out.2⟩
  have hnpos : 0 < js.length := by omega
  obtain ⟨go', cur, hA, hgo, hcur, _, _, hcs, htk⟩ := own_block hownr hnpos
  have hgg : go' = go := by injection hA with hA; injection hA with hA _; exact hA.symm
  subst hgg
  have hord : BlockIs w2 go' 3 (ic (natI (ruledL ob js))).toArray := by
    rw [Nat.mul_one] at htk hcs
    rw [List.take_of_length_le (by simp [hcs])] at htk
    rw [← htk, Array.toArray_toList]; exact hcur
  have HK0 : Hid (TgK ob js w b A c w2.heap.size go' [] (.slice (some ⟨w.heap.size, 0, none⟩) 0 0) [] w2) :=
    ⟨OwnV.nil hown2, hbw, Nat.le_refl _, hord, hbw.size, hord.lt⟩
  have HG0 : Hid ([] ++ grp ob js js.length ((ruledL ob js).drop 0) = groupsL ob js) := rfl
  clear H0 hownr hb2 hbw hown2 HRO' hA hgo hcur hcs htk hord hn0
  go_wp2
  go_loopw [5, 6] (fun v r wr => ∃ (k rem fu : Nat) (gs : List (List Nat)) (vs : List (Option Addr × Nat)) (Av : Option Addr) (nv cv : Nat) (ad : Addr), r = .slice (some ad) rem rem ∧ v = .slice Av nv cv ∧ Hid (k + rem = js.length) ∧ Hid (0 < rem → ad = ⟨go', k, none⟩) ∧ Hid (gs ++ grp ob js fu ((ruledL ob js).drop k) = groupsL ob js ∧ rem ≤ fu ∧ gs.length ≤ k) ∧ Hid (TgK ob js w b A c w2.heap.size go' vs (.slice Av nv cv) gs wr)) (fun _ r _ => match r with | .slice _ n _ => n | _ => 0)
  case atStart => exact ⟨0, js.length, js.length, [], [], _, _, _, _, rfl, rfl, Nat.zero_add _, fun _ => rfl, ⟨HG0.out, Nat.le_refl _, Nat.le_refl _⟩, HK0⟩
  case round =>
    obtain ⟨k, rem, fu, gs, vs, Av, nv, cv, ad, rfl, rfl, HN, HAD, HGS, HK⟩ := hrel
    clear HK0 HG0
    by_cases hrem : 0 < rem
    · have hrem8 : rem ≤ 8 := by have := HN.out; omega
      have hkn : k < (ruledL ob js).length := by rw [HRL.out]; have := HN.out; omega
      have hxl : (ruledL ob js)[k] < js.length := ruledTo_lt ob js (List.getElem_mem hkn)
      have hadd : Hid (∀ z, ad.add z = ⟨go', k + z, none⟩) := fun z => by
        rw [HAD.out hrem]
        unfold Addr.add
        by_cases h : z = 0
        · subst h; rfl
        · rw [if_neg h]
      have hcell : ∀ z (h : k + z < (ruledL ob js).length), wr.cell? (ad.add z) = some (.int .i64 (((ruledL ob js)[k + z] : Nat) : Int)) := fun z h => by
        rw [hadd.out z]
        have := HK.out.ord.int (k := k + z) (by rw [List.length_map]; exact h)
        rw [this]; simp
      have HCELL := Lib.hid hcell
      have hc0 := hcell 0 (by omega)
      rw [show ad.add 0 = ad from rfl] at hc0
      simp only [Nat.add_zero] at hc0
      have HX : Hid ((ruledL ob js).getD k 0 = (ruledL ob js)[k]) := getD_at _ 0 hkn
      clear hcell
      generalize hx : (ruledL ob js)[k] = x at *
      have HXX := Lib.hid hx
      clear hx
      have hr0 : (0 : Int) < (rem : Int) := by omega
      have hr00 : (0 : Int) ≤ (rem : Int) := by omega
      have hd0 : decide (0 < rem) = true := decide_eq_true hrem
      obtain ⟨wo, rfl⟩ : ∃ wo : World, wo = wr := ⟨_, rfl⟩
      go_wp2
      go_loopw [7] (fun s wi => ∃ (z m : Nat), 1 ≤ z ∧ z ≤ rem ∧ s = .int .i64 (z : Int) ∧ Hid (∀ j, 1 ≤ j → j < z → tieB ob js x ((ruledL ob js).getD (k + j) 0) = true) ∧ wi = wo.drewN m) (fun s _ => rem - (intOf s).toNat)
      case atStart => exact ⟨1, 0, Nat.le_refl _, hrem, rfl, fun j h1 h2 => absurd h1 (by omega), rfl⟩
      case round =>
        obtain ⟨z, m, hz1, hz, rfl, HT, rfl⟩ := hrel
        obtain ⟨wm, hwm⟩ : ∃ wm, wm = wo.drewN m := ⟨_, rfl⟩
        have hbm : Below wo.heap.size wo wm := by rw [hwm]; exact below_drewN (Below.refl _ _) m
        have hcm0 : wm.cell? ad = some (.int .i64 (x : Int)) := by rw [hwm]; exact hc0
        have HWM := Lib.hid hwm
        rw [← hwm]
        clear hwm
        have hz0 : (0 : Int) ≤ z := by omega
        by_cases hzl : z < rem
        · have hzi : (z : Int) < (rem : Int) := by omega
          have hkz : k + z < (ruledL ob js).length := by rw [HRL.out]; have := HN.out; omega
          have hyl : (ruledL ob js)[k + z] < js.length := ruledTo_lt ob js (List.getElem_mem hkz)
          have hcz := HCELL.out z hkz
          have hcz' : wm.cell? (ad.add z) = some (.int .i64 (((ruledL ob js)[k + z] : Nat) : Int)) := by rw [HWM.out]; exact hcz
          have HY : Hid ((ruledL ob js).getD (k + z) 0 = (ruledL ob js)[k + z]) := getD_at _ 0 hkz
          have hdz : decide (z < rem) = true := decide_eq_true hzl
          have HCC : Hid (∀ a, Calls Try.prog f #[.int .i64 (x : Int), .int .i64 ((ruledL ob js)[k + z] : Int), .pointer (some ⟨b, 0, none⟩)] (wm.drewN a) fun e w' => e = .returned (.int .i64 (gapN ob js x (ruledL ob js)[k + z])) ∧ ∃ q, w' = (wm.drewN a).drewN q) := fun a =>
            HCALL.out (wm.drewN a) x (ruledL ob js)[k + z] (((HBR.out.1.below HK.out.below).below hbm).drewN a) (((HBR.out.2.below HK.out.below).below hbm).drewN a) hxl hyl
          have hgb := tie_bd (ob := ob) hg hxl hyl
          have HTY : Hid (tieB ob js x ((ruledL ob js).getD (k + z) 0) = decide (gapN ob js x (ruledL ob js)[k + z] = 0)) := by show _ = _; rw [HY.out]; rfl
          clear hcz hbm
          generalize hgg : gapN ob js x (ruledL ob js)[k + z] = gg at *
          generalize (ruledL ob js)[k + z] = y at *
          by_cases hg0 : gg = 0
          · have HT2 : Hid (∀ j, 1 ≤ j → j < z + 1 → tieB ob js x ((ruledL ob js).getD (k + j) 0) = true) := fun j h1 h2 => by
              rcases Nat.lt_or_ge j z with h | h
              · exact HT.out j h1 h
              · rw [show j = z by omega, HTY.out]; exact decide_eq_true hg0
            have b0 : (gg == 0) = true := by rw [beq_iff_eq]; exact hg0
            have d0 : decide (gg = 0) = true := decide_eq_true hg0
            clear hg0 hgg HTY
            go_wp2
            go_quiet ((exact Calls.quiet_of (HCC.out _)))
            go_wp2
            go_roundw
            case rel => exact ⟨z + 1, m + nq, by omega, by omega, by go_num, HT2, by rw [HWM.out, World.drewN_drewN]⟩
            case measure => simp [intOf]; omega
          · have HEND : Hid (k + z = (ruledL ob js).length ∨ tieB ob js x ((ruledL ob js).getD (k + z) 0) = false) := .inr (by rw [HTY.out]; exact decide_eq_false hg0)
            have b0 : (gg == 0) = false := by rw [beq_eq_false_iff_ne]; exact hg0
            have d0 : decide (gg = 0) = false := decide_eq_false hg0
            clear hg0 hgg HTY
            go_wp2_with fail
            go_quiet ((exact Calls.quiet_of (HCC.out _)))
            have HWQ : Hid (wm.drewN nq = wo.drewN (m + nq)) := by show _ = _; rw [HWM.out, World.drewN_drewN]
            clear HCC hcm0 hdz b0 d0 hzi hyl hgb HY hcz'
            rw [HWQ.out]
            have hbq : Below wo.heap.size wo (wo.drewN (m + nq)) := below_drewN (Below.refl _ _) _
            have HKQ := Lib.hid (HK.out.next hbq)
            have HCQ : Hid (∀ j u, (ic (natI (((ruledL ob js).drop k).take z)))[j]? = some u → (wo.drewN (m + nq)).cell? (ad.add j) = some u) := fun j u hu => by
              have hj : j < (((ruledL ob js).drop k).take z).length := by have := (List.getElem?_eq_some_iff.1 hu).1; rwa [ic_len, List.length_map] at this
              have hj2 : k + j < (ruledL ob js).length := by rw [List.length_take, List.length_drop] at hj; omega
              have hjz : j < z := by rw [List.length_take] at hj; omega
              refine (HCELL.out j hj2).trans ?_
              rw [← hu]
              unfold ic
              rw [List.getElem?_map, List.getElem?_map, List.getElem?_take, if_pos hjz, List.getElem?_drop, List.getElem?_eq_getElem hj2]
              rfl
            have HGT : Hid (∀ f, grp ob js (f + 1) ((ruledL ob js).drop k) = (((ruledL ob js).drop k).take z) :: grp ob js f ((ruledL ob js).drop (k + z))) := fun f =>
              grp_take ob js hkn hz1 (by rw [HRL.out]; have := HN.out; omega) (fun j h1 h2 => by rw [HX.out]; exact HT.out j h1 h2) (by rw [HX.out]; exact HEND.out)
            have HLZ : Hid ((((ruledL ob js).drop k).take z).length = z) := by show _ = _; rw [List.length_take, List.length_drop, HRL.out]; have := HN.out; omega
            have hz8 : z ≤ 8 := by omega
            have hmk := HMK.out z hz8
            clear HWQ hbq HT HEND HCELL hc0 HXX hxl HWM
            generalize wo.drewN (m + nq) = wq at *
            clear HK
            have hLs : (madeCells #[Value.int .i64 0] z).size = z := by simp [size_madeCells]
            obtain ⟨mcl, hmcl⟩ : ∃ mcl, mcl = (madeCells #[Value.int .i64 0] z).toList := ⟨_, rfl⟩
            have hmcs : mcl.length = z := by rw [hmcl, Array.length_toList]; exact hLs
            have hmca : mcl.toArray = madeCells #[Value.int .i64 0] z := by rw [hmcl, Array.toArray_toList]
            have HMS := Lib.hid hmcs
            have HB5 : Hid ((wq.alloc (.cells (madeCells #[Value.int .i64 0] z) 3)).heap[wq.heap.size]? = some (.cells mcl.toArray 3 (0, 0))) := by
              have h := BlockIs.new wq 3 (madeCells #[Value.int .i64 0] z)
              show _ = _
              rw [hmca]; exact h
            have hb5 := (Below.refl wq.heap.size wq).alloc (Nat.le_refl _) (.cells (madeCells #[Value.int .i64 0] z) 3)
            have HSRC : Hid (∀ j u, (ic (natI (((ruledL ob js).drop k).take z)))[j]? = some u → (wq.alloc (.cells (madeCells #[Value.int .i64 0] z) 3)).cell? (ad.add j) = some u) := fun j u hu => (hb5.cell (p := ad.add j) (lt_of_cell (HCQ.out j u hu))).trans (HCQ.out j u hu)
            have HHB5 := Lib.hid hb5
            clear hmcl hmcs hmca HCQ hLs hb5
            have hzz0 : (0 : Int) ≤ z := by omega
            go_wp2_with (first
              | (refine wpList_slice_lG rfl _ _ rfl ad rem rem z _ rfl rfl rfl (by omega) ?_)
              | (at_builtin; refine wpList_appG2 rfl _ _ _ rfl _ _ _ rfl rfl HRUN.out ?_; clear HRUN)
              | (with_reducible refine wpList_copy_splice rfl _ _ _ _ rfl 3 Try.underlying35 hsz1 _ _ _ _ _ _ rfl rfl wq.heap.size 0 mcl 3 HB5.out (ic (natI (((ruledL ob js).drop k).take z))) (by rw [ic_len, List.length_map, HLZ.out]; exact (Nat.min_eq_right (by omega)).symm) (fun _ => ⟨rfl, ad, rfl, HSRC.out⟩) (by rw [ic_len, List.length_map, HLZ.out, HMS.out]; omega) (ic_oneG _) wq.heap.size wq HHB5.out (Nat.le_refl _) ?_
                 intro w6 HC6 hb6
                 have hB6 : BlockIs w6 wq.heap.size 3 (ic (natI (((ruledL ob js).drop k).take z))).toArray := by
                   have h := HC6.out
                   rw [splice_allG mcl (ic (natI (((ruledL ob js).drop k).take z))) (by rw [HMS.out, ic_len, List.length_map, HLZ.out])] at h
                   exact h
                 have hpt := push_there HKQ.out.own HKQ.out.hC HKQ.out.below hb6 (natI (((ruledL ob js).drop k).take z)) hB6 (by rw [List.length_map, HLZ.out]; omega) (by rw [csS_len]; have := HGS.out.2.2; have := HN.out; omega)
                 rw [List.length_map, HLZ.out] at hpt
                 obtain ⟨v8, w8, vs8, hrun, hV8, ⟨A8, c8, rfl⟩, hb8, hk8, hs8⟩ := hpt
                 have HK8 : Hid (TgK ob js w b A c w2.heap.size go' vs8 (.slice A8 ((csS gs).length + 1) c8) (gs ++ [((ruledL ob js).drop k).take z]) w8) :=
                   ⟨by rw [csS_snoc]; exact hV8, hb8, Nat.le_trans HKQ.out.hC hs8, hk8 go' _ HKQ.out.goC HKQ.out.ord, HKQ.out.lo, HKQ.out.goC⟩
                 have HRUN := Lib.hid hrun
                 clear hB6 hrun hV8 hb8 hk8 hs8 HC6))
            go_roundw
            case rel =>
              obtain ⟨hg1, hg2, hg3⟩ := HGS.out
              obtain ⟨f', rfl⟩ : ∃ f', fu = f' + 1 := ⟨fu - 1, by omega⟩
              rw [HGT.out f'] at hg1
              refine ⟨k + z, rem - z, f', gs ++ [((ruledL ob js).drop k).take z], vs8, A8, _, c8, tailAd ad z rem, rfl, rfl, ?_, fun h => ?_, ⟨?_, by omega, ?_⟩, HK8⟩
              · show _ = _; have := HN.out; omega
              · unfold tailAd
                rw [if_neg (by omega), hadd.out z]
              · rw [List.append_assoc]; exact hg1
              · rw [List.length_append, List.length_singleton]; omega
            case measure => simp; omega
        · have hzr : z = rem := by omega
          have HZR := Lib.hid hzr
          have hdz : decide (z < rem) = false := decide_eq_false (by omega)
          have HEND : Hid (k + z = (ruledL ob js).length ∨ tieB ob js x ((ruledL ob js).getD (k + z) 0) = false) := .inl (by rw [HRL.out]; have := HN.out; omega)
          have hzi' : ¬ ((z : Int) < (rem : Int)) := by omega
          have hdi : decide ((z : Int) < (rem : Int)) = false := decide_eq_false hzi'
          clear hzr hzl
          go_wp2_with fail
          go_quiet (fail)
          have HWQ : Hid (wm.drewN nq = wo.drewN (m + nq)) := by show _ = _; rw [HWM.out, World.drewN_drewN]
          clear hcm0 hdz hdi hzi'
          rw [HWQ.out]
          have hbq : Below wo.heap.size wo (wo.drewN (m + nq)) := below_drewN (Below.refl _ _) _
          have HKQ := Lib.hid (HK.out.next hbq)
          have HCQ : Hid (∀ j u, (ic (natI (((ruledL ob js).drop k).take z)))[j]? = some u → (wo.drewN (m + nq)).cell? (ad.add j) = some u) := fun j u hu => by
            have hj : j < (((ruledL ob js).drop k).take z).length := by have := (List.getElem?_eq_some_iff.1 hu).1; rwa [ic_len, List.length_map] at this
            have hj2 : k + j < (ruledL ob js).length := by rw [List.length_take, List.length_drop] at hj; omega
            have hjz : j < z := by rw [List.length_take] at hj; omega
            refine (HCELL.out j hj2).trans ?_
            rw [← hu]
            unfold ic
            rw [List.getElem?_map, List.getElem?_map, List.getElem?_take, if_pos hjz, List.getElem?_drop, List.getElem?_eq_getElem hj2]
            rfl
          have HGT : Hid (∀ f, grp ob js (f + 1) ((ruledL ob js).drop k) = (((ruledL ob js).drop k).take z) :: grp ob js f ((ruledL ob js).drop (k + z))) := fun f =>
            grp_take ob js hkn hz1 (by rw [HRL.out]; have := HN.out; omega) (fun j h1 h2 => by rw [HX.out]; exact HT.out j h1 h2) (by rw [HX.out]; exact HEND.out)
          have HLZ : Hid ((((ruledL ob js).drop k).take z).length = z) := by show _ = _; rw [List.length_take, List.length_drop, HRL.out]; have := HN.out; omega
          have hz8 : z ≤ 8 := by omega
          have hmk := HMK.out z hz8
          clear HWQ hbq HT HEND HCELL hc0 HXX hxl HWM
          generalize wo.drewN (m + nq) = wq at *
          clear HK
          have hLs : (madeCells #[Value.int .i64 0] z).size = z := by simp [size_madeCells]
          obtain ⟨mcl, hmcl⟩ : ∃ mcl, mcl = (madeCells #[Value.int .i64 0] z).toList := ⟨_, rfl⟩
          have hmcs : mcl.length = z := by rw [hmcl, Array.length_toList]; exact hLs
          have hmca : mcl.toArray = madeCells #[Value.int .i64 0] z := by rw [hmcl, Array.toArray_toList]
          have HMS := Lib.hid hmcs
          have HB5 : Hid ((wq.alloc (.cells (madeCells #[Value.int .i64 0] z) 3)).heap[wq.heap.size]? = some (.cells mcl.toArray 3 (0, 0))) := by
            have h := BlockIs.new wq 3 (madeCells #[Value.int .i64 0] z)
            show _ = _
            rw [hmca]; exact h
          have hb5 := (Below.refl wq.heap.size wq).alloc (Nat.le_refl _) (.cells (madeCells #[Value.int .i64 0] z) 3)
          have HSRC : Hid (∀ j u, (ic (natI (((ruledL ob js).drop k).take z)))[j]? = some u → (wq.alloc (.cells (madeCells #[Value.int .i64 0] z) 3)).cell? (ad.add j) = some u) := fun j u hu => (hb5.cell (p := ad.add j) (lt_of_cell (HCQ.out j u hu))).trans (HCQ.out j u hu)
          have HHB5 := Lib.hid hb5
          clear hmcl hmcs hmca HCQ hLs hb5
          have hzz0 : (0 : Int) ≤ z := by omega
          go_wp2_with (first
            | (refine wpList_slice_lG rfl _ _ rfl ad rem rem z _ rfl rfl rfl (by omega) ?_)
            | (at_builtin; refine wpList_appG2 rfl _ _ _ rfl _ _ _ rfl rfl HRUN.out ?_; clear HRUN)
            | (with_reducible refine wpList_copy_splice rfl _ _ _ _ rfl 3 Try.underlying35 hsz1 _ _ _ _ _ _ rfl rfl wq.heap.size 0 mcl 3 HB5.out (ic (natI (((ruledL ob js).drop k).take z))) (by rw [ic_len, List.length_map, HLZ.out]; exact (Nat.min_eq_right (by omega)).symm) (fun _ => ⟨rfl, ad, rfl, HSRC.out⟩) (by rw [ic_len, List.length_map, HLZ.out, HMS.out]; omega) (ic_oneG _) wq.heap.size wq HHB5.out (Nat.le_refl _) ?_
               intro w6 HC6 hb6
               have hB6 : BlockIs w6 wq.heap.size 3 (ic (natI (((ruledL ob js).drop k).take z))).toArray := by
                 have h := HC6.out
                 rw [splice_allG mcl (ic (natI (((ruledL ob js).drop k).take z))) (by rw [HMS.out, ic_len, List.length_map, HLZ.out])] at h
                 exact h
               have hpt := push_there HKQ.out.own HKQ.out.hC HKQ.out.below hb6 (natI (((ruledL ob js).drop k).take z)) hB6 (by rw [List.length_map, HLZ.out]; omega) (by rw [csS_len]; have := HGS.out.2.2; have := HN.out; omega)
               rw [List.length_map, HLZ.out] at hpt
               obtain ⟨v8, w8, vs8, hrun, hV8, ⟨A8, c8, rfl⟩, hb8, hk8, hs8⟩ := hpt
               have HK8 : Hid (TgK ob js w b A c w2.heap.size go' vs8 (.slice A8 ((csS gs).length + 1) c8) (gs ++ [((ruledL ob js).drop k).take z]) w8) :=
                 ⟨by rw [csS_snoc]; exact hV8, hb8, Nat.le_trans HKQ.out.hC hs8, hk8 go' _ HKQ.out.goC HKQ.out.ord, HKQ.out.lo, HKQ.out.goC⟩
               have HRUN := Lib.hid hrun
               clear hB6 hrun hV8 hb8 hk8 hs8 HC6))
          go_roundw
          case rel =>
            obtain ⟨hg1, hg2, hg3⟩ := HGS.out
            obtain ⟨f', rfl⟩ : ∃ f', fu = f' + 1 := ⟨fu - 1, by omega⟩
            rw [HGT.out f'] at hg1
            refine ⟨k + z, rem - z, f', gs ++ [((ruledL ob js).drop k).take z], vs8, A8, _, c8, tailAd ad z rem, rfl, rfl, ?_, fun h => ?_, ⟨?_, by omega, ?_⟩, HK8⟩
            · show _ = _; have := HN.out; omega
            · unfold tailAd
              rw [if_neg (by omega), hadd.out z]
            · rw [List.append_assoc]; exact hg1
            · rw [List.length_append, List.length_singleton]; omega
          case measure => simp; omega
    · obtain rfl : rem = 0 := by omega
      have hdr : (ruledL ob js).drop k = [] := List.drop_eq_nil_of_le (by rw [HRL.out]; have := HN.out; omega)
      have HGG : Hid (gs = groupsL ob js) := by
        show _ = _
        rw [← HGS.out.1, hdr]
        cases fu <;> simp [grp]
      have hd0 : decide (0 < 0) = false := rfl
      clear HGS hdr
      go_wp2
      go_ret
      exact ⟨_, vs, w2.heap.size, rfl, HK.out.lo, by rw [← HGG.out]; exact HK.out.own, HK.out.below⟩
end
end Go.Proofs.Ytpjjjbkjkhcbdaa
