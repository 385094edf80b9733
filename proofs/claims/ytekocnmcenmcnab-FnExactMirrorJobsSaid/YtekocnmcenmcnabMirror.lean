/- MirrorJobs: the model's and the program's. -/
import Derived.Test.YtekocnmcenmcnabEndsO
import Derived.Test.YtekocnmcenmcnabJobsH
import Derived.Test.YtekocnmcenmcnabSwap
import Derived.Test.YtekocnmcenmcnabRegInvG
import Derived.Test.YtekocnmcenmcnabMeasI
import Derived.IntWalk
namespace Go.Proofs.Ytekocnmcenmcnab
open Go.RowKit
def mirJ (e : Int) (j : J) : J := ⟨j.t, j.w, e - j.d, e - j.r⟩
def mirL (js : List J) (e : Int) : List J := js.map (mirJ e)
def mirrorR (js : List J) (e : Int) : List J × Bool := if (goodL js && inB e 0 1000) && goodL (mirL js e) then (mirL js e, true) else ([], false)
theorem mirL_len (js : List J) (e : Int) : (mirL js e).length = js.length := by unfold mirL; simp
theorem mirrorR_len (js : List J) (e : Int) : (mirrorR js e).1.length ≤ 8 := by
  unfold mirrorR
  cases h : (goodL js && inB e 0 1000) && goodL (mirL js e)
  · simp
  · simp only [if_true]
    rw [Bool.and_eq_true] at h
    exact (good_out h.2).1
/-- What a function hands back: a list of jobs, memory of its own, and a bool. -/
def RetJB (w : World) (r : List J × Bool) (e : Ending) (w' : World) : Prop :=
  ∃ A c, e = .returned (.tuple #[.slice A r.1.length c, .bool r.2]) ∧ Seg w' 53 4 w.heap.size w'.heap.size A r.1.length c (jc r.1) ∧ Below w.heap.size w w'
theorem ret_emptyJ {w w1 : World} {r : List J × Bool} (hr : r = ([], false)) (hb : Below w.heap.size w w1) (e : Ending) (he : e = .returned (.tuple #[.slice (some ⟨w1.heap.size, 0, none⟩) 0 0, .bool false])) : RetJB w r e (w1.alloc (.cells #[] 53)) := by
  subst hr he
  have h : (w1.alloc (.cells #[] 53)).ownsRow w.heap.size 53 4 (.slice (some ⟨w1.heap.size, 0, none⟩) 0 0) 0 (jc []) := World.ownsRow_made w1 #[] 0 hb.size (by unfold maxLen; omega) rfl
  exact ⟨_, 0, rfl, Seg.of_own h, hb.alloc hb.size _⟩
theorem eql_nilJ (w : World) (a : Addr) (l c : Nat) : (binOp .eql 26 (.slice (some a) l c) (.slice none 0 0)).run Try.prog w = .ok (.bool false) w := by
  simp [binOp, run_equal_slice_nil w 26 53 (some a) l c Try.underlying26, Result.andThen]
theorem not_nilJ {w : World} {base n : Nat} {v : Value} {cs : List Value} (h : w.ownsRow base 53 4 v n cs) (hn : v ≠ .slice none 0 0) : ∃ ad c, v = .slice (some ad) n c := by
  rcases h.2 with ⟨hv, _⟩ | ⟨g, cap, cur, hv, _⟩
  · exact absurd hv hn
  · exact ⟨_, _, hv⟩
theorem jc_one {js : List J} {u : Value} (hu : u ∈ jc js) : u.oneCell' = true := by
  unfold jc at hu
  obtain ⟨j, _, h⟩ := List.mem_flatMap.1 hu
  simp [cellsJ] at h
  rcases h with rfl | rfl | rfl | rfl <;> rfl
set_option maxRecDepth 100000 in
theorem cloneJ_some (ad : Addr) (c : Nat) (js : List J) (w : World) (hr : Row w (some ad) (jc js)) (hn : js.length ≤ 100000) :
    Calls Try.prog 62 #[.slice (some ad) js.length c] w fun e w' => ∃ ad' c', e = .returned (.slice (some ad') js.length c') ∧ w'.ownsRow w.heap.size 53 4 (.slice (some ad') js.length c') js.length (jc js) ∧ Below w.heap.size w w' := by
  obtain ⟨i0, hi, hz0, hz1, hz2⟩ := info_parts infoJ
  have hb0 := (Below.refl w.heap.size w).alloc (Nat.le_refl _) (.cells #[] 53)
  have hown0 : (w.alloc (.cells #[] 53)).ownsRow w.heap.size 53 4 (.slice (some ⟨w.heap.size, 0, none⟩) 0 0) 0 [] := World.ownsRow_made w #[] 0 (Nat.le_refl _) (by unfold maxLen; omega) rfl
  have hsrc := row_src (hr.below hb0)
  have heq := eql_nilJ w ad js.length c
  go_enter Try.func62, Try.ntmps62
  go_wp2_with (at_builtin; refine wpList_append_own _ rfl _ _ 26 rfl w.heap.size 53 i0 (.agg #[.int .i64 0, .int .i64 0, .int .i64 0, .int .i64 0]) 4 32 Try.underlying26 hi hz0 hz1 hz2 rfl (by decide) _ _ _ rfl hown0 ad js.length c (jc js) rfl (by rw [jc_len]; omega) hsrc (fun u hu => jc_one hu) (by unfold maxLen; omega) (by omega) (by simp) ?_; intro v' w3 hown' hgrow hnil)
  go_ret
  rw [Nat.zero_add, List.nil_append] at hown'
  obtain ⟨ad', c', rfl⟩ := not_nilJ hown' (fun e => by have := (hnil.1 e).1; injection this with h _ _; cases h)
  exact ⟨ad', c', rfl, hown', hb0.grown hgrow (by simp) (fun j hj => (hown0.lt j hj).1)⟩
theorem jc_set2 : ∀ (L : List J) (k : Nat) (hk : k < L.length) (x y : Int), ((jc L).set (k * 4 + 2) (.int .i64 x)).set (k * 4 + 3) (.int .i64 y) = jc (L.set k ⟨L[k].t, L[k].w, x, y⟩)
  | [], _, h, _, _ => by cases h
  | j :: L, 0, _, x, y => by simp [jc, cellsJ]
  | j :: L, k + 1, h, x, y => by
    have ih := jc_set2 L k (by simpa using h) x y
    have e : jc (j :: L) = cellsJ j ++ jc L := rfl
    rw [e, show (k + 1) * 4 + 2 = (cellsJ j).length + (k * 4 + 2) by simp [cellsJ]; omega, show (k + 1) * 4 + 3 = (cellsJ j).length + (k * 4 + 3) by simp [cellsJ]; omega]
    rw [List.set_append_right _ _ (by omega), List.set_append_right _ _ (by omega)]
    simp only [Nat.add_sub_cancel_left]
    rw [ih]; rfl
-- THE FUNCTIONS
theorem take_set4 {cur : Array Value} {m i : Nat} {cs : List Value} (h : cur.toList.take m = cs) (hi : i < m) (v : Value) : (cur.setIfInBounds i v).toList.take m = cs.set i v := take_set h hi v
theorem own_job {w : World} {B g c n : Nat} {cur : Array Value} {L : List J} (h : BlockIs w g 53 cur) (hg : B ≤ g) (hn : n ≤ c) (hc : c ≤ maxLen) (hs : cur.size = c * 4) (ht : cur.toList.take (n * 4) = jc L) :
    w.ownsRow B 53 4 (.slice (some ⟨g, 0, none⟩) n c) n (jc L) := by
  have := h.own (base := B) (n := n) (c := c) (size := 4) hg hs hn hc (by rw [hs]; omega)
  rwa [ht] at this
theorem mir_at (js : List J) (e : Int) (k : Nat) (hk : k < js.length) : (mirL js e)[k]'(by rw [mirL_len]; exact hk) = mirJ e js[k] := by unfold mirL; simp
theorem exec_append {P : Program} {o : Oper} {ev : Operand → Value} {s x : Operand} {t : TypeId} {v u r : Value} {w w' : World} (ho : o.op = .call { callee := .builtin .append, args := #[s, x], argTypes := #[t, t] }) (hs : ev s = v) (hx : ev x = u) (hr : (Builtin.append_ #[t, t] o.type #[v, u]).run P w = .ok r w') : (execOp ev o).run P w = .ok (.value r) w' := by
  unfold execOp
  simp only [ho, resolve, invoke, builtin, Sem.run_bind, Sem.run_pure, Result.andThen_ok, List.map_toArray, List.map_cons, List.map_nil, hs, hx, hr]
theorem cell_list {w : World} {g : Nat} {t : TypeId} {cs : List Value} (h : BlockIs w g t cs.toArray) {i : Nat} {u : Value} (hu : cs[i]? = some u) : w.cell? ((⟨g, 0, none⟩ : Addr).add i) = some u := by
  have := h.cell i
  unfold Addr.add
  by_cases h0 : i = 0
  · subst h0; rw [if_pos rfl, this]; simpa using hu
  · rw [if_neg h0]; simp only [Nat.zero_add]; rw [this]; simpa using hu
theorem arr_but2 {v0 v1 v2 v3 v4 v5 v6 v7 v8 v9 v10 v11 v12 v13 v14 v15 v16 v17 v18 v19 v20 v21 v22 v23 v24 v25 v26 u27 u28 v27 v28 : Value} (j : Nat) (h6 : j ≠ 27) (h7 : j ≠ 28) : (#[v0, v1, v2, v3, v4, v5, v6, v7, v8, v9, v10, v11, v12, v13, v14, v15, v16, v17, v18, v19, v20, v21, v22, v23, v24, v25, v26, u27, u28] : Array Value).getD j undef = (#[v0, v1, v2, v3, v4, v5, v6, v7, v8, v9, v10, v11, v12, v13, v14, v15, v16, v17, v18, v19, v20, v21, v22, v23, v24, v25, v26, v27, v28] : Array Value).getD j undef := by
  rcases (by omega : j = 0 ∨ j = 1 ∨ j = 2 ∨ j = 3 ∨ j = 4 ∨ j = 5 ∨ j = 6 ∨ j = 7 ∨ j = 8 ∨ j = 9 ∨ j = 10 ∨ j = 11 ∨ j = 12 ∨ j = 13 ∨ j = 14 ∨ j = 15 ∨ j = 16 ∨ j = 17 ∨ j = 18 ∨ j = 19 ∨ j = 20 ∨ j = 21 ∨ j = 22 ∨ j = 23 ∨ j = 24 ∨ j = 25 ∨ j = 26 ∨ 28 < j) with rfl | rfl | rfl | rfl | rfl | rfl | rfl | rfl | rfl | rfl | rfl | rfl | rfl | rfl | rfl | rfl | rfl | rfl | rfl | rfl | rfl | rfl | rfl | rfl | rfl | rfl | rfl | h
  all_goals first | rfl | (simp only [Array.getD_eq_getD_getElem?]; rw [Array.getElem?_eq_none (by simp; omega), Array.getElem?_eq_none (by simp; omega)])
section
variable (A : Option Addr) (ad : Addr) (c : Nat) (js : List J) (e : Int) (w : World) (hr : Row w (some ad) (jc js)) (hn : js.length ≤ 10000000)
include hr hn
set_option maxRecDepth 100000 in
set_option maxHeartbeats 4000000 in
theorem impl_MirrorJobs : Calls Try.prog 34 #[.slice (some ad) js.length c, .int .i64 e] w (RetJB w (mirrorR js e)) := by
  have HR : Hid (mirrorR js e = if (goodL js && inB e 0 1000) && goodL (mirL js e) then (mirL js e, true) else ([], false)) := rfl
  cases hg : goodL js
  · rw [hg] at HR
    go_enter Try.func34, Try.ntmps34
    go_wp2_with fail
    refine (IsJobs_any (some ad) c js _ hr (by omega)).mono ?_
    rintro e1 w1 ⟨rfl, hb1⟩
    rw [hg]
    go_wp2
    go_ret2
    exact ret_emptyJ HR.out hb1 _ rfl
  · rw [hg] at HR
    cases hi : inB e 0 1000
    · rw [hi] at HR
      have hnot := inB_not hi
      by_cases hneg : e < 0
      · go_enter Try.func34, Try.ntmps34
        go_wp2_with fail
        refine (IsJobs_any (some ad) c js _ hr (by omega)).mono ?_
        rintro e1 w1 ⟨rfl, hb1⟩
        rw [hg]
        go_wp2
        go_ret2
        exact ret_emptyJ HR.out hb1 _ rfl
      · have hbig : 1000 < e := by omega
        clear hnot
        go_enter Try.func34, Try.ntmps34
        go_wp2_with fail
        refine (IsJobs_any (some ad) c js _ hr (by omega)).mono ?_
        rintro e1 w1 ⟨rfl, hb1⟩
        rw [hg]
        go_wp2
        go_ret2
        exact ret_emptyJ HR.out hb1 _ rfl
    · rw [hi] at HR
      obtain ⟨he0, he1⟩ := inB_out hi
      obtain ⟨h8, hok⟩ := good_out hg
      have HML := Lib.hid (mirL_len js e)
      go_enter Try.func34, Try.ntmps34
      go_wp2_with fail
      refine (IsJobs_any (some ad) c js _ hr (by omega)).mono ?_
      rintro e1 w1 ⟨rfl, hb1⟩
      rw [hg]
      go_wp2_with fail
      refine (cloneJ_some ad c js _ (hr.below hb1) (by omega)).mono ?_
      rintro e1 w2 ⟨ad2, c2, rfl, hown2, hb2⟩
      have hown2' : w2.ownsRow w.heap.size 53 4 (.slice (some ad2) js.length c2) js.length (jc js) := by
        refine ⟨hown2.1, ?_⟩
        rcases hown2.2 with h | ⟨g, cap, cur, h1, h2, h3⟩
        · exact .inl h
        · exact .inr ⟨g, cap, cur, h1, Nat.le_trans hb1.size h2, h3⟩
      have hbb := hb1.trans (hb2.mono hb1.size)
      clear hown2 hb1 hb2
      go_wp2
      go_loopw [25] (fun i wr => ∃ (k : Nat), k ≤ js.length ∧ i = .int .i64 k ∧ Hid (wr.ownsRow w.heap.size 53 4 (.slice (some ad2) js.length c2) js.length (jc ((mirL js e).take k ++ js.drop k))) ∧ Below w.heap.size w wr) (fun i _ => js.length - (intOf i).toNat)
      case atStart => exact ⟨0, Nat.zero_le _, rfl, Lib.hid (show w2.ownsRow w.heap.size 53 4 (.slice (some ad2) js.length c2) js.length (jc ((mirL js e).take 0 ++ js.drop 0)) by simpa using hown2'), hbb⟩
      case round =>
        obtain ⟨k, hk, rfl, hO, hb⟩ := hrel
        clear hown2' hbb
        by_cases hlt : k < js.length
        · obtain ⟨ad', hA, hbl, hc0, hc1, hc2, hc3⟩ := (hr.below hb).job hlt
          injection hA with hA
          subst hA
          obtain ⟨g, cur, hAd, hgB, hB, hnc, hcm, hsz, htk⟩ := own_block hO.out (by omega)
          injection hAd with hAd
          subst hAd
          obtain ⟨_, _, _, _, r0, r1, d0, d1⟩ := okJ_out (hok _ (List.getElem_mem hlt))
          have hk0 : (0 : Int) ≤ k := by omega
          have hk1 : (k : Int) < js.length := by omega
          have hmix := mix_step (mirL js e) js k (mirJ e js[k]) HML.out (by rw [HML.out]; exact hlt) (mir_at js e k hlt)
          have hmat := mix_at (mirL js e) js k HML.out (by rw [HML.out]; exact hlt)
          have hml : k < ((mirL js e).take k ++ js.drop k).length := by rw [mix_len _ _ _ HML.out (by rw [HML.out]; omega)]; exact hlt
          have hset := jc_set2 ((mirL js e).take k ++ js.drop k) k hml (e - js[k].d) (e - js[k].r)
          rw [hmat] at hset
          have hset2 : ((jc ((mirL js e).take k ++ js.drop k)).set (k * 4 + 2) (.int .i64 (e - js[k].d))).set (k * 4 + 3) (.int .i64 (e - js[k].r)) = jc ((mirL js e).take (k + 1) ++ js.drop (k + 1)) := by rw [hset, ← hmix]; rfl
          have hnew : ∀ w3 : World, BlockIs w3 g 53 ((cur.setIfInBounds (k * 4 + 2) (.int .i64 (e - js[k].d))).setIfInBounds (k * 4 + 3) (.int .i64 (e - js[k].r))) → w3.ownsRow w.heap.size 53 4 (.slice (some ⟨g, 0, none⟩) js.length c2) js.length (jc ((mirL js e).take (k + 1) ++ js.drop (k + 1))) := fun w3 h3 =>
            own_job h3 hgB hnc hcm (by simpa using hsz) (by rw [← hset2]; exact take_set (take_set htk (by omega) _) (by omega) _)
          have hB3 := hB.below ((Below.refl wr.heap.size wr).alloc (Nat.le_refl _) (.cells #[.int .i64 js[k].t, .int .i64 js[k].w, .int .i64 js[k].r, .int .i64 js[k].d] 53))
          have hJ3 := BlockIs.new wr 53 #[.int .i64 js[k].t, .int .i64 js[k].w, .int .i64 js[k].r, .int .i64 js[k].d]
          have hb3 := hb.alloc hb.size (.cells #[.int .i64 js[k].t, .int .i64 js[k].w, .int .i64 js[k].r, .int .i64 js[k].d] 53)
          have HX := Lib.hid (And.intro hnew (And.intro hB3 (And.intro hJ3 hb3)))
          have hcsz : k * 4 + 3 < cur.size := by rw [hsz]; omega
          have hgne : g ≠ wr.heap.size := by have := hB.lt; omega
          clear hmix hmat hml hset hset2 hnew hB3 hJ3 hb3 hB htk hsz hO hb
          go_wp2
          obtain ⟨hnew, hB3, hJ3, hb3⟩ := HX.out
          have hgl := hB3.lt
          generalize wr.alloc (.cells #[.int .i64 js[k].t, .int .i64 js[k].w, .int .i64 js[k].r, .int .i64 js[k].d] 53) = w3 at *
          generalize js[k] = j at *
          have hjc2 := hJ3.cell 2
          have hjc3 := hJ3.cell 3
          simp at hjc2 hjc3
          obtain ⟨v2, hv2⟩ := hB3.has (i := k * 4 + 2) (by omega)
          obtain ⟨v3, hv3⟩ := hB3.has (i := k * 4 + 3) (by omega)
          have hf2 := hB3.frozen (k * 4 + 2)
          have hf3 := hB3.frozen (k * 4 + 3)
          have hv3' := (World.cell?_setCell_other (w := w3) (a := ⟨g, k * 4 + 2, none⟩) (b := ⟨g, k * 4 + 3, none⟩) (v := .int .i64 (e - j.d)) (fun e => by injection e with _ e2 _; omega)).trans hv3
          have hjc2' := (World.cell?_setCell_other (w := w3) (a := ⟨g, k * 4 + 2, none⟩) (b := ⟨wr.heap.size, 2, none⟩) (v := .int .i64 (e - j.d)) (fun e => by injection e with e1 _ _; exact hgne e1)).trans hjc2
          have hjc3' := (World.cell?_setCell_other (w := w3) (a := ⟨g, k * 4 + 2, none⟩) (b := ⟨wr.heap.size, 3, none⟩) (v := .int .i64 (e - j.d)) (fun e => by injection e with e1 _ _; exact hgne e1)).trans hjc3
          have hjc3'' := (World.cell?_setCell_other (w := w3) (a := ⟨g, k * 4 + 3, none⟩) (b := ⟨wr.heap.size, 3, none⟩) (v := .int .i64 (e - j.r)) (fun e => by injection e with e1 _ _; exact hgne e1)).trans hjc3
          have HN := Lib.hid (hnew _ (((hB3.set (k * 4 + 2) (.int .i64 (e - j.d))).set (k * 4 + 3) (.int .i64 (e - j.r))).drew))
          have HB := Lib.hid (((hb3.setCell (p := ⟨g, k * 4 + 2, none⟩) hgB (.int .i64 (e - j.d))).setCell (p := ⟨g, k * 4 + 3, none⟩) hgB (.int .i64 (e - j.r))).drew)
          clear hc0 hc1 hc2 hc3 hnew hB3 hJ3 hb3 HX
          go_region
          all_goals
            go_wp2
            go_roundw
            case rel => exact ⟨k + 1, by omega, by go_num, HN.out, HB.out⟩
            case measure => simp [intOf]; omega
        · obtain rfl : k = js.length := by omega
          have hO' := hO.out
          rw [List.take_of_length_le (by rw [HML.out]; omega), List.drop_eq_nil_of_le (by omega), List.append_nil] at hO'
          have HO := Lib.hid (And.intro hO' hb)
          have hj2 := IsJobs_any (some ad2) c2 (mirL js e) wr (Row.of_own hO') (by rw [HML.out]; omega)
          rw [HML.out] at hj2
          have HJ2 := Lib.hid hj2
          clear hO hO' hb hj2
          cases hgm : goodL (mirL js e)
          · rw [hgm] at HR HJ2
            go_wp2_with fail
            refine HJ2.out.mono ?_
            rintro e1 w4 ⟨rfl, hb4⟩
            go_wp2
            go_ret2
            exact ret_emptyJ HR.out (HO.out.2.trans (hb4.mono HO.out.2.size)) _ rfl
          · rw [hgm] at HR HJ2
            go_wp2_with fail
            refine HJ2.out.mono ?_
            rintro e1 w4 ⟨rfl, hb4⟩
            go_wp2
            go_ret2
            refine ⟨some ad2, c2, ?_, ?_, HO.out.2.trans (hb4.mono HO.out.2.size)⟩
            · rw [HR.out]; simp only [Bool.and_self, if_true]; rw [HML.out]; rfl
            · rw [HR.out]; simp only [Bool.and_self, if_true]; rw [HML.out]; exact Seg.of_own ((Seg.of_own HO.out.1).below hb4).own
set_option maxRecDepth 100000 in
set_option maxHeartbeats 4000000 in
theorem spec_MirrorJobs : Calls Try.prog 33 #[.slice (some ad) js.length c, .int .i64 e] w (RetJB w (mirrorR js e)) := by
  have HR : Hid (mirrorR js e = if (goodL js && inB e 0 1000) && goodL (mirL js e) then (mirL js e, true) else ([], false)) := rfl
  have hown0 : (w.alloc (.cells #[] 53)).ownsRow w.heap.size 53 4 (.slice (some ⟨w.heap.size, 0, none⟩) 0 0) 0 (jc []) := World.ownsRow_made w #[] 0 (Nat.le_refl _) (by unfold maxLen; omega) rfl
  have hb0 := (Below.refl w.heap.size w).alloc (Nat.le_refl _) (.cells #[] 53)
  have fin : ∀ w1 : World, Below (w.alloc (.cells #[] 53)).heap.size (w.alloc (.cells #[] 53)) w1 → mirrorR js e = ([], false) → ∀ e1, e1 = .returned (.tuple #[.slice (some ⟨w.heap.size, 0, none⟩) 0 0, .bool false]) → RetJB w (mirrorR js e) e1 w1 := fun w1 hb1 hm e1 he1 => by
    subst he1
    exact ⟨some ⟨w.heap.size, 0, none⟩, 0, by rw [hm]; rfl, by rw [hm]; exact Seg.of_own ((Seg.of_own hown0).below hb1).own, hb0.trans (hb1.mono hb0.size)⟩
  have HFIN := Lib.hid fin
  clear fin
  cases hg : goodL js
  · rw [hg] at HR
    go_enter Try.func33, Try.ntmps33
    go_wp2_with fail
    refine (l2Good_any (some ad) c js _ (hr.below hb0) (by omega)).mono ?_
    rintro e1 w1 ⟨rfl, hb1⟩
    rw [hg]
    go_wp2
    go_ret2
    exact HFIN.out _ hb1 HR.out _ rfl
  · rw [hg] at HR
    cases hin : inB e 0 1000
    · rw [hin] at HR
      go_enter Try.func33, Try.ntmps33
      go_wp2_with fail
      refine (l2Good_any (some ad) c js _ (hr.below hb0) (by omega)).mono ?_
      rintro e1 w1 ⟨rfl, hb1⟩
      rw [hg]
      go_wp2_with fail
      refine (l1In_any _ _ _ _).mono ?_
      rintro e1 _ ⟨rfl, rfl⟩
      rw [hin]
      go_wp2
      go_ret2
      exact HFIN.out _ hb1 HR.out _ rfl
    · rw [hin] at HR
      obtain ⟨he0, he1⟩ := inB_out hin
      obtain ⟨h8, hok⟩ := good_out hg
      obtain ⟨i0, hi, hz0, hz1, hz2⟩ := info_parts infoJ
      have HML := Lib.hid (mirL_len js e)
      go_enter Try.func33, Try.ntmps33
      go_wp2_with fail
      refine (l2Good_any (some ad) c js _ (hr.below hb0) (by omega)).mono ?_
      rintro e1 w1 ⟨rfl, hb1⟩
      rw [hg]
      go_wp2_with fail
      refine (l1In_any _ _ _ _).mono ?_
      rintro e1 _ ⟨rfl, rfl⟩
      rw [hin]
      have hown1 := ((Seg.of_own hown0).below hb1).own
      have hbb := hb0.trans (hb1.mono hb0.size)
      have HS := Lib.hid (And.intro hown1 hbb)
      clear hown0 hb0 hb1 hown1 hbb HFIN
      go_wp2
      go_loopw [6, 7] (fun v i wr => ∃ (k : Nat) (v' : Value), k ≤ js.length ∧ i = .int .i64 k ∧ v = v' ∧ Hid (wr.ownsRow w.heap.size 53 4 v' k (jc ((mirL js e).take k))) ∧ Hid (Below w.heap.size w wr)) (fun _ i _ => js.length - (intOf i).toNat)
      case atStart => exact ⟨0, _, Nat.zero_le _, rfl, rfl, Lib.hid HS.out.1, Lib.hid HS.out.2⟩
      case round =>
        obtain ⟨k, v, hk, rfl, rfl, HO, Hb⟩ := hrel
        clear HS
        by_cases hlt : k < js.length
        · obtain ⟨_, _, _, _, r0, r1, d0, d1⟩ := okJ_out (hok _ (List.getElem_mem hlt))
          have hk0 : (0 : Int) ≤ k := by omega
          have hk1 : (k : Int) < js.length := by omega
          go_wp2
          generalize hj : js[k] = j at *
          refine wp_region_detG (by kernel_rfl) (fun x L w' => Below w.heap.size w w' ∧ (L.getD 26 true = false → w'.heap.size = wr.heap.size) ∧ (L.getD 27 true = false → w'.ownsRow w.heap.size 53 4 u6 k (jc ((mirL js e).take k))) ∧ (L.getD 26 true = true → L.getD 27 true = false → BlockIs w' wr.heap.size 53 #[.int .i64 j.t, .int .i64 j.w, .int .i64 (e - j.d), .int .i64 (e - j.r)]) ∧ (L.getD 27 true = true → w'.ownsRow w.heap.size 53 4 x (k + 1) (jc ((mirL js e).take (k + 1)))))
            (fun x kk => #[u6, .slice (some ad) js.length c, .int .i64 (k : Int), .pointer (some (ad.add (k * 4))), .pointer (some (ad.add (k * 4))), .int .i64 j.t, .slice (some ad) js.length c, .int .i64 (k : Int), .pointer (some (ad.add (k * 4))), .pointer (some ⟨(ad.add (k * 4)).block, (ad.add (k * 4)).off + 1, none⟩), .int .i64 j.w, .int .i64 e, .slice (some ad) js.length c, .int .i64 (k : Int), .pointer (some (ad.add (k * 4))), .pointer (some ⟨(ad.add (k * 4)).block, (ad.add (k * 4)).off + 3, none⟩), .int .i64 j.d, .int .i64 (e - j.d), .int .i64 e, .slice (some ad) js.length c, .int .i64 (k : Int), .pointer (some (ad.add (k * 4))), .pointer (some ⟨(ad.add (k * 4)).block, (ad.add (k * 4)).off + 2, none⟩), .int .i64 j.r, .int .i64 (e - j.r), .agg #[.int .i64 j.t, .int .i64 j.w, .int .i64 (e - j.d), .int .i64 (e - j.r)], .slice (some ⟨wr.heap.size, 0, none⟩) 1 1, x, x].getD kk undef) undef (by kernel_rfl) (by kernel_rfl) ⟨Hb.out.drew, fun _ => rfl, fun _ => HO.out, (fun h => by cases h), fun h => by cases h⟩ ?_ ?_
          · intro x L tm w' hall hS hsz hlow hval
            have ht : tm = #[.slice (some ad) js.length c, .int .i64 e, undef, undef, .slice none 0 0, .bool false, x, .int .i64 (k : Int), .slice (some ⟨w.heap.size, 0, none⟩) 0 0, .slice (some ad) js.length c, .bool true, .bool false, .bool false, .int .i64 e, .bool true, .bool false, .bool false, undef, .int .i64 (k : Int), .slice (some ad) js.length c, .int .i64 (js.length : Int), .bool true, u22, u23, u6, .slice (some ad) js.length c, .int .i64 (k : Int), .pointer (some (ad.add (k * 4))), .pointer (some (ad.add (k * 4))), .int .i64 j.t, .slice (some ad) js.length c, .int .i64 (k : Int), .pointer (some (ad.add (k * 4))), .pointer (some ⟨(ad.add (k * 4)).block, (ad.add (k * 4)).off + 1, none⟩), .int .i64 j.w, .int .i64 e, .slice (some ad) js.length c, .int .i64 (k : Int), .pointer (some (ad.add (k * 4))), .pointer (some ⟨(ad.add (k * 4)).block, (ad.add (k * 4)).off + 3, none⟩), .int .i64 j.d, .int .i64 (e - j.d), .int .i64 e, .slice (some ad) js.length c, .int .i64 (k : Int), .pointer (some (ad.add (k * 4))), .pointer (some ⟨(ad.add (k * 4)).block, (ad.add (k * 4)).off + 2, none⟩), .int .i64 j.r, .int .i64 (e - j.r), .agg #[.int .i64 j.t, .int .i64 j.w, .int .i64 (e - j.d), .int .i64 (e - j.r)], .slice (some ⟨wr.heap.size, 0, none⟩) 1 1, x, undef, undef, undef, undef, undef] := by
              refine arr_of _ _ hsz fun t ht => ?_
              have ht' : t < 57 := ht
              rcases (by omega : t = 0 ∨ t = 1 ∨ t = 2 ∨ t = 3 ∨ t = 4 ∨ t = 5 ∨ t = 6 ∨ t = 7 ∨ t = 8 ∨ t = 9 ∨ t = 10 ∨ t = 11 ∨ t = 12 ∨ t = 13 ∨ t = 14 ∨ t = 15 ∨ t = 16 ∨ t = 17 ∨ t = 18 ∨ t = 19 ∨ t = 20 ∨ t = 21 ∨ t = 22 ∨ t = 23 ∨ t = 24 ∨ t = 25 ∨ t = 26 ∨ t = 27 ∨ t = 28 ∨ t = 29 ∨ t = 30 ∨ t = 31 ∨ t = 32 ∨ t = 33 ∨ t = 34 ∨ t = 35 ∨ t = 36 ∨ t = 37 ∨ t = 38 ∨ t = 39 ∨ t = 40 ∨ t = 41 ∨ t = 42 ∨ t = 43 ∨ t = 44 ∨ t = 45 ∨ t = 46 ∨ t = 47 ∨ t = 48 ∨ t = 49 ∨ t = 50 ∨ t = 51 ∨ t = 52 ∨ t = 53 ∨ t = 54 ∨ t = 55 ∨ t = 56) with rfl | rfl | rfl | rfl | rfl | rfl | rfl | rfl | rfl | rfl | rfl | rfl | rfl | rfl | rfl | rfl | rfl | rfl | rfl | rfl | rfl | rfl | rfl | rfl | rfl | rfl | rfl | rfl | rfl | rfl | rfl | rfl | rfl | rfl | rfl | rfl | rfl | rfl | rfl | rfl | rfl | rfl | rfl | rfl | rfl | rfl | rfl | rfl | rfl | rfl | rfl | rfl | rfl | rfl | rfl | rfl | rfl
              · exact hlow 0 (by kernel_rfl)
              · exact hlow 1 (by kernel_rfl)
              · exact hlow 2 (by kernel_rfl)
              · exact hlow 3 (by kernel_rfl)
              · exact hlow 4 (by kernel_rfl)
              · exact hlow 5 (by kernel_rfl)
              · exact hval 28 _ 6 rfl rfl
              · exact hlow 7 (by kernel_rfl)
              · exact hlow 8 (by kernel_rfl)
              · exact hlow 9 (by kernel_rfl)
              · exact hlow 10 (by kernel_rfl)
              · exact hlow 11 (by kernel_rfl)
              · exact hlow 12 (by kernel_rfl)
              · exact hlow 13 (by kernel_rfl)
              · exact hlow 14 (by kernel_rfl)
              · exact hlow 15 (by kernel_rfl)
              · exact hlow 16 (by kernel_rfl)
              · exact hlow 17 (by kernel_rfl)
              · exact hlow 18 (by kernel_rfl)
              · exact hlow 19 (by kernel_rfl)
              · exact hlow 20 (by kernel_rfl)
              · exact hlow 21 (by kernel_rfl)
              · exact hlow 22 (by kernel_rfl)
              · exact hlow 23 (by kernel_rfl)
              · exact hval 0 _ 24 rfl rfl
              · exact hval 1 _ 25 rfl rfl
              · exact hval 2 _ 26 rfl rfl
              · exact hval 3 _ 27 rfl rfl
              · exact hval 4 _ 28 rfl rfl
              · exact hval 5 _ 29 rfl rfl
              · exact hval 6 _ 30 rfl rfl
              · exact hval 7 _ 31 rfl rfl
              · exact hval 8 _ 32 rfl rfl
              · exact hval 9 _ 33 rfl rfl
              · exact hval 10 _ 34 rfl rfl
              · exact hval 11 _ 35 rfl rfl
              · exact hval 12 _ 36 rfl rfl
              · exact hval 13 _ 37 rfl rfl
              · exact hval 14 _ 38 rfl rfl
              · exact hval 15 _ 39 rfl rfl
              · exact hval 16 _ 40 rfl rfl
              · exact hval 17 _ 41 rfl rfl
              · exact hval 18 _ 42 rfl rfl
              · exact hval 19 _ 43 rfl rfl
              · exact hval 20 _ 44 rfl rfl
              · exact hval 21 _ 45 rfl rfl
              · exact hval 22 _ 46 rfl rfl
              · exact hval 23 _ 47 rfl rfl
              · exact hval 24 _ 48 rfl rfl
              · exact hval 25 _ 49 rfl rfl
              · exact hval 26 _ 50 rfl rfl
              · exact hval 27 _ 51 rfl rfl
              · exact hlow 52 (by kernel_rfl)
              · exact hlow 53 (by kernel_rfl)
              · exact hlow 54 (by kernel_rfl)
              · exact hlow 55 (by kernel_rfl)
              · exact hlow 56 (by kernel_rfl)
            subst ht
            clear hlow hval hsz
            obtain ⟨hbz, _, _, _, hS4⟩ := hS
            have HO4 := Lib.hid (hS4 (hall 27 (by decide)))
            have HB4 := Lib.hid hbz
            clear hS4 hbz hall
            go_wp2
            go_roundw
            case rel => exact ⟨k + 1, x, by omega, by go_num, rfl, HO4.out, HB4.out⟩
            case measure => simp [intOf]; omega
          · intro x L a w' kk op hLs ho hLi hLd hLn ⟨hS0, hS1, hS2, hS3, hS4⟩ hlow hdep hold
            have hkk : kk < 29 := (Array.getElem?_eq_some_iff.1 ho).1
            have l0 : a.tmps[0]?.getD undef = .slice (some ad) js.length c := by rw [← Array.getD_eq_getD_getElem?]; exact hlow 0 (by kernel_rfl)
            have l1 : a.tmps[1]?.getD undef = .int .i64 e := by rw [← Array.getD_eq_getD_getElem?]; exact hlow 1 (by kernel_rfl)
            have l7 : a.tmps[7]?.getD undef = .int .i64 (k : Int) := by rw [← Array.getD_eq_getD_getElem?]; exact hlow 7 (by kernel_rfl)
            have D : ∀ j oj d, edgeB _ kk j = true → _ → _ → a.tmps[d]?.getD undef = _ := fun j oj d h1 h2 h3 => (Array.getD_eq_getD_getElem? ..).symm.trans (hdep j oj d h1 h2 h3)
            have K : ∀ {kk : Nat}, kk ≠ 26 → kk ≠ 27 → Below w.heap.size w w' ∧ ((L.setIfInBounds kk true).getD 26 true = false → w'.heap.size = wr.heap.size) ∧ ((L.setIfInBounds kk true).getD 27 true = false → w'.ownsRow w.heap.size 53 4 u6 k (jc ((mirL js e).take k))) ∧ ((L.setIfInBounds kk true).getD 26 true = true → (L.setIfInBounds kk true).getD 27 true = false → BlockIs w' wr.heap.size 53 #[.int .i64 j.t, .int .i64 j.w, .int .i64 (e - j.d), .int .i64 (e - j.r)]) ∧ ((L.setIfInBounds kk true).getD 27 true = true → w'.ownsRow w.heap.size 53 4 x (k + 1) (jc ((mirL js e).take (k + 1)))) := fun h6 h7 => ⟨hS0, by rw [set_ne h6]; exact hS1, by rw [set_ne h7]; exact hS2, by rw [set_ne h6, set_ne h7]; exact hS3, by rw [set_ne h7]; exact hS4⟩
            obtain ⟨ad', hA', _, g0, g1, g2, g3⟩ := (hr.below hS0).job hlt
            injection hA' with hA'
            subst hA'
            rw [hj] at g0 g1 g2 g3
            rcases (by omega : kk = 0 ∨ kk = 1 ∨ kk = 2 ∨ kk = 3 ∨ kk = 4 ∨ kk = 5 ∨ kk = 6 ∨ kk = 7 ∨ kk = 8 ∨ kk = 9 ∨ kk = 10 ∨ kk = 11 ∨ kk = 12 ∨ kk = 13 ∨ kk = 14 ∨ kk = 15 ∨ kk = 16 ∨ kk = 17 ∨ kk = 18 ∨ kk = 19 ∨ kk = 20 ∨ kk = 21 ∨ kk = 22 ∨ kk = 23 ∨ kk = 24 ∨ kk = 25 ∨ kk = 26 ∨ kk = 27 ∨ kk = 28) with rfl | rfl | rfl | rfl | rfl | rfl | rfl | rfl | rfl | rfl | rfl | rfl | rfl | rfl | rfl | rfl | rfl | rfl | rfl | rfl | rfl | rfl | rfl | rfl | rfl | rfl | rfl | rfl | rfl
            · obtain rfl := Option.some.inj ho
              have l6 : a.tmps[6]?.getD undef = u6 := (Array.getD_eq_getD_getElem? ..).symm.trans (hold 28 _ 6 (by kernel_rfl) rfl rfl)
              exact ⟨rfl, .inl ⟨x, w', fun _ _ => rfl, by simp [execOp, Act.eval, l6, go_sem], K (by decide) (by decide)⟩⟩
            · obtain rfl := Option.some.inj ho
              exact ⟨rfl, .inl ⟨x, w', fun _ _ => rfl, by simp [execOp, Act.eval, l0, go_sem], K (by decide) (by decide)⟩⟩
            · obtain rfl := Option.some.inj ho
              exact ⟨rfl, .inl ⟨x, w', fun _ _ => rfl, by simp [execOp, Act.eval, l7, go_sem], K (by decide) (by decide)⟩⟩
            · obtain rfl := Option.some.inj ho
              have e25 : a.tmps[25]?.getD undef = .slice (some ad) js.length c := D 1 _ 25 (by kernel_rfl) rfl rfl
              have e26 : a.tmps[26]?.getD undef = .int .i64 (k : Int) := D 2 _ 26 (by kernel_rfl) rfl rfl
              exact ⟨rfl, .inl ⟨x, w', fun _ _ => rfl, by simp [execOp, Act.eval, e25, e26, hk0, hk1, go_sem], K (by decide) (by decide)⟩⟩
            · obtain rfl := Option.some.inj ho
              have e27 : a.tmps[27]?.getD undef = .pointer (some (ad.add (k * 4))) := D 3 _ 27 (by kernel_rfl) rfl rfl
              exact ⟨rfl, .inl ⟨x, w', fun _ _ => rfl, by simp [execOp, Act.eval, e27, go_sem], K (by decide) (by decide)⟩⟩
            · obtain rfl := Option.some.inj ho
              have e28 : a.tmps[28]?.getD undef = .pointer (some (ad.add (k * 4))) := D 4 _ 28 (by kernel_rfl) rfl rfl
              exact ⟨rfl, .inl ⟨x, w', fun _ _ => rfl, by simp [execOp, Act.eval, e28, g0, go_sem], K (by decide) (by decide)⟩⟩
            · obtain rfl := Option.some.inj ho
              exact ⟨rfl, .inl ⟨x, w', fun _ _ => rfl, by simp [execOp, Act.eval, l0, go_sem], K (by decide) (by decide)⟩⟩
            · obtain rfl := Option.some.inj ho
              exact ⟨rfl, .inl ⟨x, w', fun _ _ => rfl, by simp [execOp, Act.eval, l7, go_sem], K (by decide) (by decide)⟩⟩
            · obtain rfl := Option.some.inj ho
              have e31 : a.tmps[31]?.getD undef = .int .i64 (k : Int) := D 7 _ 31 (by kernel_rfl) rfl rfl
              have e30 : a.tmps[30]?.getD undef = .slice (some ad) js.length c := D 6 _ 30 (by kernel_rfl) rfl rfl
              exact ⟨rfl, .inl ⟨x, w', fun _ _ => rfl, by simp [execOp, Act.eval, e31, e30, hk0, hk1, go_sem], K (by decide) (by decide)⟩⟩
            · obtain rfl := Option.some.inj ho
              have e32 : a.tmps[32]?.getD undef = .pointer (some (ad.add (k * 4))) := D 8 _ 32 (by kernel_rfl) rfl rfl
              exact ⟨rfl, .inl ⟨x, w', fun _ _ => rfl, by simp [execOp, Act.eval, e32, go_sem], K (by decide) (by decide)⟩⟩
            · obtain rfl := Option.some.inj ho
              have e33 : a.tmps[33]?.getD undef = .pointer (some ⟨(ad.add (k * 4)).block, (ad.add (k * 4)).off + 1, none⟩) := D 9 _ 33 (by kernel_rfl) rfl rfl
              exact ⟨rfl, .inl ⟨x, w', fun _ _ => rfl, by simp [execOp, Act.eval, e33, g1, go_sem], K (by decide) (by decide)⟩⟩
            · obtain rfl := Option.some.inj ho
              exact ⟨rfl, .inl ⟨x, w', fun _ _ => rfl, by simp [execOp, Act.eval, l1, go_sem], K (by decide) (by decide)⟩⟩
            · obtain rfl := Option.some.inj ho
              exact ⟨rfl, .inl ⟨x, w', fun _ _ => rfl, by simp [execOp, Act.eval, l0, go_sem], K (by decide) (by decide)⟩⟩
            · obtain rfl := Option.some.inj ho
              exact ⟨rfl, .inl ⟨x, w', fun _ _ => rfl, by simp [execOp, Act.eval, l7, go_sem], K (by decide) (by decide)⟩⟩
            · obtain rfl := Option.some.inj ho
              have e37 : a.tmps[37]?.getD undef = .int .i64 (k : Int) := D 13 _ 37 (by kernel_rfl) rfl rfl
              have e36 : a.tmps[36]?.getD undef = .slice (some ad) js.length c := D 12 _ 36 (by kernel_rfl) rfl rfl
              exact ⟨rfl, .inl ⟨x, w', fun _ _ => rfl, by simp [execOp, Act.eval, e37, e36, hk0, hk1, go_sem], K (by decide) (by decide)⟩⟩
            · obtain rfl := Option.some.inj ho
              have e38 : a.tmps[38]?.getD undef = .pointer (some (ad.add (k * 4))) := D 14 _ 38 (by kernel_rfl) rfl rfl
              exact ⟨rfl, .inl ⟨x, w', fun _ _ => rfl, by simp [execOp, Act.eval, e38, go_sem], K (by decide) (by decide)⟩⟩
            · obtain rfl := Option.some.inj ho
              have e39 : a.tmps[39]?.getD undef = .pointer (some ⟨(ad.add (k * 4)).block, (ad.add (k * 4)).off + 3, none⟩) := D 15 _ 39 (by kernel_rfl) rfl rfl
              exact ⟨rfl, .inl ⟨x, w', fun _ _ => rfl, by simp [execOp, Act.eval, e39, g3, go_sem], K (by decide) (by decide)⟩⟩
            · obtain rfl := Option.some.inj ho
              have e35 : a.tmps[35]?.getD undef = .int .i64 e := D 11 _ 35 (by kernel_rfl) rfl rfl
              have e40 : a.tmps[40]?.getD undef = .int .i64 j.d := D 16 _ 40 (by kernel_rfl) rfl rfl
              exact ⟨rfl, .inl ⟨x, w', fun _ _ => rfl, by simp [execOp, Act.eval, e35, e40, go_sem]; exact IntWalk.i64_in _ (by omega), K (by decide) (by decide)⟩⟩
            · obtain rfl := Option.some.inj ho
              exact ⟨rfl, .inl ⟨x, w', fun _ _ => rfl, by simp [execOp, Act.eval, l1, go_sem], K (by decide) (by decide)⟩⟩
            · obtain rfl := Option.some.inj ho
              exact ⟨rfl, .inl ⟨x, w', fun _ _ => rfl, by simp [execOp, Act.eval, l0, go_sem], K (by decide) (by decide)⟩⟩
            · obtain rfl := Option.some.inj ho
              exact ⟨rfl, .inl ⟨x, w', fun _ _ => rfl, by simp [execOp, Act.eval, l7, go_sem], K (by decide) (by decide)⟩⟩
            · obtain rfl := Option.some.inj ho
              have e44 : a.tmps[44]?.getD undef = .int .i64 (k : Int) := D 20 _ 44 (by kernel_rfl) rfl rfl
              have e43 : a.tmps[43]?.getD undef = .slice (some ad) js.length c := D 19 _ 43 (by kernel_rfl) rfl rfl
              exact ⟨rfl, .inl ⟨x, w', fun _ _ => rfl, by simp [execOp, Act.eval, e44, e43, hk0, hk1, go_sem], K (by decide) (by decide)⟩⟩
            · obtain rfl := Option.some.inj ho
              have e45 : a.tmps[45]?.getD undef = .pointer (some (ad.add (k * 4))) := D 21 _ 45 (by kernel_rfl) rfl rfl
              exact ⟨rfl, .inl ⟨x, w', fun _ _ => rfl, by simp [execOp, Act.eval, e45, go_sem], K (by decide) (by decide)⟩⟩
            · obtain rfl := Option.some.inj ho
              have e46 : a.tmps[46]?.getD undef = .pointer (some ⟨(ad.add (k * 4)).block, (ad.add (k * 4)).off + 2, none⟩) := D 22 _ 46 (by kernel_rfl) rfl rfl
              exact ⟨rfl, .inl ⟨x, w', fun _ _ => rfl, by simp [execOp, Act.eval, e46, g2, go_sem], K (by decide) (by decide)⟩⟩
            · obtain rfl := Option.some.inj ho
              have e42 : a.tmps[42]?.getD undef = .int .i64 e := D 18 _ 42 (by kernel_rfl) rfl rfl
              have e47 : a.tmps[47]?.getD undef = .int .i64 j.r := D 23 _ 47 (by kernel_rfl) rfl rfl
              exact ⟨rfl, .inl ⟨x, w', fun _ _ => rfl, by simp [execOp, Act.eval, e42, e47, go_sem]; exact IntWalk.i64_in _ (by omega), K (by decide) (by decide)⟩⟩
            · obtain rfl := Option.some.inj ho
              have e29 : a.tmps[29]?.getD undef = .int .i64 j.t := D 5 _ 29 (by kernel_rfl) rfl rfl
              have e34 : a.tmps[34]?.getD undef = .int .i64 j.w := D 10 _ 34 (by kernel_rfl) rfl rfl
              have e41 : a.tmps[41]?.getD undef = .int .i64 (e - j.d) := D 17 _ 41 (by kernel_rfl) rfl rfl
              have e48 : a.tmps[48]?.getD undef = .int .i64 (e - j.r) := D 24 _ 48 (by kernel_rfl) rfl rfl
              exact ⟨rfl, .inl ⟨x, w', fun _ _ => rfl, by simp [execOp, Act.eval, e29, e34, e41, e48, go_sem], K (by decide) (by decide)⟩⟩
            · obtain rfl := Option.some.inj ho
              have e49 : a.tmps[49]?.getD undef = .agg #[.int .i64 j.t, .int .i64 j.w, .int .i64 (e - j.d), .int .i64 (e - j.r)] := D 25 _ 49 (by kernel_rfl) rfl rfl
              have hsz1 := hS1 hLi
              have n27 : L.getD 27 true = false := hLn 27 (by kernel_rfl)
              refine ⟨rfl, .inl ⟨x, w'.alloc (.cells #[.int .i64 j.t, .int .i64 j.w, .int .i64 (e - j.d), .int .i64 (e - j.r)] 53), fun _ _ => rfl, by simp [execOp, Act.eval, e49, go_sem] <;> exact hsz1, hS0.alloc hS0.size _, fun h => ?_, fun _ => (hS2 n27).alloc _, fun _ _ => ?_, fun h => ?_⟩⟩
              · rw [set_eq (by rw [hLs]; decide)] at h; cases h
              · have := BlockIs.new w' 53 #[.int .i64 j.t, .int .i64 j.w, .int .i64 (e - j.d), .int .i64 (e - j.r)]
                rwa [hsz1] at this
              · rw [set_ne (by decide), n27] at h; cases h
            · obtain rfl := Option.some.inj ho
              have e24 : a.tmps[24]?.getD undef = u6 := D 0 _ 24 (by kernel_rfl) rfl rfl
              have e50 : a.tmps[50]?.getD undef = .slice (some ⟨wr.heap.size, 0, none⟩) 1 1 := D 26 _ 50 (by kernel_rfl) rfl rfl
              have t26 : L.getD 26 true = true := hLd 26 (by kernel_rfl)
              have hown := hS2 hLi
              have hB3 := hS3 t26 hLi
              have x24 : a.eval (.tmp 24) = u6 := by simp [Act.eval, e24]
              have x50 : a.eval (.tmp 50) = .slice (some ⟨wr.heap.size, 0, none⟩) 1 1 := by simp [Act.eval, e50]
              obtain ⟨v', w'', hrun, hown', hgrow, _⟩ := append_at (P := Try.prog) w' w.heap.size 26 26 53 i0 (.agg #[.int .i64 0, .int .i64 0, .int .i64 0, .int .i64 0]) 4 32 Try.underlying26 hi hz0 hz1 hz2 rfl (by decide) u6 k _ hown ⟨wr.heap.size, 0, none⟩ 1 1 [.int .i64 j.t, .int .i64 j.w, .int .i64 (e - j.d), .int .i64 (e - j.r)] rfl (fun i u hu => cell_list hB3 hu) (by intro u hu; simp at hu; rcases hu with rfl | rfl | rfl | rfl <;> rfl) (by omega) (by unfold maxLen; omega) (by omega) hS0.size
              have hbz : Below w.heap.size w w'' := hS0.grown hgrow hS0.size (fun b hb => (hown.lt b hb).1)
              refine ⟨rfl, .inl ⟨v', w'', fun i hi' => ?_, exec_append rfl x24 x50 hrun, hbz, fun h => ?_, fun h => ?_, fun _ h => ?_, fun _ => ?_⟩⟩
              · have n27 : i ≠ 27 := fun e => by subst e; rw [hLi] at hi'; cases hi'
                have f28 : L.getD 28 true = false := hLn 28 (by kernel_rfl)
                have n28 : i ≠ 28 := fun e => by subst e; rw [f28] at hi'; cases hi'
                exact arr_but2 i n27 n28
              · rw [set_ne (by decide), t26] at h; cases h
              · rw [set_eq (by rw [hLs]; decide)] at h; cases h
              · rw [set_eq (by rw [hLs]; decide)] at h; cases h
              · have hx : jc ((mirL js e).take k) ++ [.int .i64 j.t, .int .i64 j.w, .int .i64 (e - j.d), .int .i64 (e - j.r)] = jc ((mirL js e).take (k + 1)) := by
                  rw [List.take_succ_eq_append_getElem (by rw [mirL_len]; exact hlt), mir_at js e k hlt, hj]; simp [jc, cellsJ, mirJ]
                rw [hx] at hown'; exact hown'
            · obtain rfl := Option.some.inj ho
              have e51 : a.tmps[51]?.getD undef = x := D 27 _ 51 (by kernel_rfl) rfl rfl
              exact ⟨rfl, .inl ⟨x, w', fun _ _ => rfl, by simp [execOp, Act.eval, e51, go_sem], K (by decide) (by decide)⟩⟩
        · obtain rfl : k = js.length := by omega
          have hO' := HO.out
          rw [List.take_of_length_le (by rw [HML.out]; omega)] at hO'
          obtain ⟨A9, c9, rfl, _, hrow⟩ := own_slice hO'
          have HO9 := Lib.hid (And.intro hO' Hb.out)
          have hj2 := l2Good_any A9 c9 (mirL js e) wr hrow (by rw [HML.out]; omega)
          rw [HML.out] at hj2
          have HJ2 := Lib.hid hj2
          clear HO hO' Hb hj2 hrow
          cases hgm : goodL (mirL js e)
          · rw [hgm] at HR HJ2
            go_wp2_with fail
            refine HJ2.out.mono ?_
            rintro e1 w4 ⟨rfl, hb4⟩
            go_wp2
            go_ret2
            exact ret_emptyJ HR.out (HO9.out.2.trans (hb4.mono HO9.out.2.size)) _ rfl
          · rw [hgm] at HR HJ2
            go_wp2_with fail
            refine HJ2.out.mono ?_
            rintro e1 w4 ⟨rfl, hb4⟩
            go_wp2
            go_ret2
            refine ⟨A9, c9, ?_, ?_, HO9.out.2.trans (hb4.mono HO9.out.2.size)⟩
            · rw [HR.out]; simp only [Bool.and_self, if_true]; rw [HML.out]; rfl
            · rw [HR.out]; simp only [Bool.and_self, if_true]; rw [HML.out]; exact Seg.of_own ((Seg.of_own HO9.out.1).below hb4).own
end
end Go.Proofs.Ytekocnmcenmcnab
