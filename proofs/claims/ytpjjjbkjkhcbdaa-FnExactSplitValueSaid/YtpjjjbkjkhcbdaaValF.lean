/- The value for all ends. -/
import Derived.Test.YtpjjjbkjkhcbdaaExt
namespace Go.Proofs.Ytpjjjbkjkhcbdaa
open Go.RowKit
set_option maxRecDepth 100000 in
set_option maxHeartbeats 4000000 in
theorem valueFor_any {B : Nat} {w : World} {o : Int} {fv : Value} (h : FnIs B w o fv) (hB : B ≤ w.heap.size) (ho : isObj o = true) (A E : Option Addr) (c d : Nat) (js : List J) (es : List Int) (hr : Row w A (jc js)) (hq : Row w E (ic es)) (hg : goodL js = true) (hl : es.length = js.length) (hes : ∀ x ∈ es, 0 ≤ x ∧ x ≤ 1000) :
    Calls Try.prog 75 #[.agg #[fv, .bool (isTop o)], .slice A js.length c, .slice E js.length d] w fun e w' => e = .returned (.int .i64 (valOf o js es)) ∧ Below w.heap.size w w' := by
  obtain ⟨h8, hok⟩ := good_out hg
  have HF := Lib.hid h
  have HL := Lib.hid hl
  have HV : Hid (valOf o js es = valOf o js es) := rfl
  obtain ⟨f, caps, rfl, _, _⟩ := cost_call h
  generalize htp : isTop o = tp at *
  clear h hl
  have hM0 := BlockIs.new w 80 #[.func (.func f) #[] caps, .bool tp]
  have hbm : Below w.heap.size w (w.alloc (.cells #[.func (.func f) #[] caps, .bool tp] 80)) := (Below.refl _ _).alloc (Nat.le_refl _) _
  go_enter Try.func75, Try.ntmps75
  go_wp2
  go_loopw [7, 12] (fun u i wr => ∃ (k : Nat) (v : Int), k ≤ js.length ∧ i = .int .i64 k ∧ u = .int .i64 v ∧ -500 ≤ v ∧ v ≤ 50000 * k ∧ Hid (valGo o (js.drop k) (es.drop k) k v = valOf o js es) ∧ BlockIs wr w.heap.size 80 #[.func (.func f) #[] caps, .bool tp] ∧ Below w.heap.size w wr) (fun _ i _ => js.length - (intOf i).toNat)
  case atStart => exact ⟨0, 0, Nat.zero_le _, rfl, rfl, by omega, by omega, rfl, hM0, hbm⟩
  case round =>
    obtain ⟨k, v, hk, rfl, rfl, hv0, hv1, hV, hM, hb⟩ := hrel
    clear hM0 hbm
    by_cases hlt : k < js.length
    · obtain ⟨ad, hA, hbl, hc0, hc1, hc2, hc3⟩ := (hr.below hb).job hlt
      subst hA
      have hk0 : (0 : Int) ≤ k := by omega
      have hk1 : (k : Int) < js.length := by omega
      obtain ⟨ae, hE, hec⟩ := (hq.below hb).int (k := k) (by rw [HL.out]; exact hlt)
      have hae := lt_of_cell hec
      rw [add_block] at hae
      subst hE
      have hx := hes _ (List.getElem_mem (l := es) (n := k) (by rw [HL.out]; exact hlt))
      have hokj := hok _ (List.getElem_mem hlt)
      have HV2 : Hid (valGo o (js.drop (k + 1)) (es.drop (k + 1)) (k + 1) (extOf o k v (costOf o js[k] (es[k]'(by rw [HL.out]; exact hlt)))) = valOf o js es) := by
        show _ = _
        rw [← valGo_drop o js es k v hlt (by rw [HL.out]; exact hlt)]; exact hV.out
      have hcb := cost_bd ho hokj hx.1 hx.2
      have heb := ext_bd (o := o) (k := k) hv0 hv1 hcb.1 hcb.2.1 hcb.2.2
      have hext : ∀ w1 : World, Below (wr.alloc (.cells #[.int .i64 js[k].t, .int .i64 js[k].w, .int .i64 js[k].r, .int .i64 js[k].d] 66)).heap.size (wr.alloc (.cells #[.int .i64 js[k].t, .int .i64 js[k].w, .int .i64 js[k].r, .int .i64 js[k].d] 66)) w1 → _ := fun w1 hb1 => by
        have hbb := hb.trans (((Below.refl _ _).alloc (Nat.le_refl _) (.cells #[.int .i64 js[k].t, .int .i64 js[k].w, .int .i64 js[k].r, .int .i64 js[k].d] 66)).mono hb.size |>.trans (hb1.mono (by have := hb.size; simp; omega)))
        exact extended_any (w := w1) (HF.out.keep (fun b hb' => hbb.block b (by omega))) (by have := hbb.size; omega) ho k (by omega) v hv0 hv1 js[k] hokj (es[k]'(by rw [HL.out]; exact hlt)) hx.1 hx.2
      have hJ3 := BlockIs.new wr 66 #[.int .i64 js[k].t, .int .i64 js[k].w, .int .i64 js[k].r, .int .i64 js[k].d]
      have hM3 := hM.below ((Below.refl wr.heap.size wr).alloc (Nat.le_refl _) (.cells #[.int .i64 js[k].t, .int .i64 js[k].w, .int .i64 js[k].r, .int .i64 js[k].d] 66))
      have Hb3 := Lib.hid (hb.trans (((Below.refl _ _).alloc (Nat.le_refl _) (.cells #[.int .i64 js[k].t, .int .i64 js[k].w, .int .i64 js[k].r, .int .i64 js[k].d] 66)).mono hb.size))
      have hec3 := (((Below.refl wr.heap.size wr).alloc (Nat.le_refl _) (.cells #[.int .i64 js[k].t, .int .i64 js[k].w, .int .i64 js[k].r, .int .i64 js[k].d] 66)).cell (p := ae.add k) (by rw [add_block]; exact hae)).trans hec
      rw [htp] at hext
      have Hx := Lib.hid (And.intro hext (And.intro hJ3 (And.intro hM3 (And.intro hec3 heb))))
      clear hext hJ3 hM3 hec3 heb hcb hV hM hb hr hq hec hes hokj hx
      go_wp2
      obtain ⟨hext, hJ3, hM, hec, he0, he1⟩ := Hx.out
      have hae : ae.block < (wr.alloc (.cells #[.int .i64 js[k].t, .int .i64 js[k].w, .int .i64 js[k].r, .int .i64 js[k].d] 66)).heap.size := by simp; omega
      generalize extOf o k v (costOf o js[k] (es[k]'(by rw [HL.out]; exact hlt))) = ev at *
      generalize es[k]'(by rw [HL.out]; exact hlt) = x at *
      generalize js[k] = j at *
      generalize hW3 : wr.alloc (.cells #[.int .i64 j.t, .int .i64 j.w, .int .i64 j.r, .int .i64 j.d] 66) = W3 at *
      clear hW3
      refine wp_region_det (by kernel_rfl) (fun w' => Below W3.heap.size W3 w')
        (fun i => #[.agg #[.func (.func f) #[] caps, .bool tp], .int .i64 (k : Int), .int .i64 v, .agg #[.int .i64 j.t, .int .i64 j.w, .int .i64 j.r, .int .i64 j.d], .slice (some ae) js.length d, .int .i64 (k : Int), .pointer (some (ae.add k)), .int .i64 x, .int .i64 ev, .int .i64 ev].getD i undef) (by kernel_rfl) (by kernel_rfl) ((Below.refl _ _).drew) ?_ ?_
      · intro tm w' hS hsz hlow hval
        have ht : tm = #[.agg #[.func (.func f) #[] caps, .bool tp], .slice (some ad) js.length c, .slice (some ae) js.length d, .pointer (some ⟨w.heap.size, 0, none⟩), undef, undef, .int .i64 0, .int .i64 ev, .int .i64 (k : Int), .pointer (some ⟨wr.heap.size, 0, none⟩), .slice (some ad) js.length c, .int .i64 (js.length : Int), .int .i64 (k : Int), .bool true, .int .i64 (k : Int), .pointer (some (ad.add (k * 4))), .agg #[.int .i64 j.t, .int .i64 j.w, .int .i64 j.r, .int .i64 j.d], .agg #[.func (.func f) #[] caps, .bool tp], .int .i64 (k : Int), .int .i64 v, .agg #[.int .i64 j.t, .int .i64 j.w, .int .i64 j.r, .int .i64 j.d], .slice (some ae) js.length d, .int .i64 (k : Int), .pointer (some (ae.add k)), .int .i64 x, .int .i64 ev, u26, undef] := by
          refine arr_of _ _ hsz fun t ht => ?_
          have ht' : t < 28 := ht
          rcases (by omega : t = 0 ∨ t = 1 ∨ t = 2 ∨ t = 3 ∨ t = 4 ∨ t = 5 ∨ t = 6 ∨ t = 7 ∨ t = 8 ∨ t = 9 ∨ t = 10 ∨ t = 11 ∨ t = 12 ∨ t = 13 ∨ t = 14 ∨ t = 15 ∨ t = 16 ∨ t = 17 ∨ t = 18 ∨ t = 19 ∨ t = 20 ∨ t = 21 ∨ t = 22 ∨ t = 23 ∨ t = 24 ∨ t = 25 ∨ t = 26 ∨ t = 27) with rfl | rfl | rfl | rfl | rfl | rfl | rfl | rfl | rfl | rfl | rfl | rfl | rfl | rfl | rfl | rfl | rfl | rfl | rfl | rfl | rfl | rfl | rfl | rfl | rfl | rfl | rfl | rfl
          · exact hlow 0 (by kernel_rfl)
          · exact hlow 1 (by kernel_rfl)
          · exact hlow 2 (by kernel_rfl)
          · exact hlow 3 (by kernel_rfl)
          · exact hlow 4 (by kernel_rfl)
          · exact hlow 5 (by kernel_rfl)
          · exact hlow 6 (by kernel_rfl)
          · exact hval 9 _ 7 rfl rfl
          · exact hlow 8 (by kernel_rfl)
          · exact hlow 9 (by kernel_rfl)
          · exact hlow 10 (by kernel_rfl)
          · exact hlow 11 (by kernel_rfl)
          · exact hlow 12 (by kernel_rfl)
          · exact hlow 13 (by kernel_rfl)
          · exact hlow 14 (by kernel_rfl)
          · exact hlow 15 (by kernel_rfl)
          · exact hlow 16 (by kernel_rfl)
          · exact hval 0 _ 17 rfl rfl
          · exact hval 1 _ 18 rfl rfl
          · exact hval 2 _ 19 rfl rfl
          · exact hval 3 _ 20 rfl rfl
          · exact hval 4 _ 21 rfl rfl
          · exact hval 5 _ 22 rfl rfl
          · exact hval 6 _ 23 rfl rfl
          · exact hval 7 _ 24 rfl rfl
          · exact hval 8 _ 25 rfl rfl
          · exact hlow 26 (by kernel_rfl)
          · exact hlow 27 (by kernel_rfl)
        subst ht
        clear hlow hval hsz
        go_wp2
        go_roundw
        case rel => exact ⟨k + 1, ev, by omega, by go_num, rfl, he0, he1, HV2, (hM.below hS), Hb3.out.trans (hS.mono Hb3.out.size)⟩
        case measure => simp [intOf]; omega
      · intro a w' i op ho hS0 hlow hdep hold
        have hi : i < 10 := (Array.getElem?_eq_some_iff.1 ho).1
        have l2 : a.tmps[2]?.getD undef = .slice (some ae) js.length d := by rw [← Array.getD_eq_getD_getElem?]; exact hlow 2 (by kernel_rfl)
        have l3 : a.tmps[3]?.getD undef = .pointer (some ⟨w.heap.size, 0, none⟩) := by rw [← Array.getD_eq_getD_getElem?]; exact hlow 3 (by kernel_rfl)
        have l8 : a.tmps[8]?.getD undef = .int .i64 (k : Int) := by rw [← Array.getD_eq_getD_getElem?]; exact hlow 8 (by kernel_rfl)
        have l9 : a.tmps[9]?.getD undef = .pointer (some ⟨wr.heap.size, 0, none⟩) := by rw [← Array.getD_eq_getD_getElem?]; exact hlow 9 (by kernel_rfl)
        have D : ∀ j oj d, edgeB _ i j = true → _ → _ → a.tmps[d]?.getD undef = _ := fun j oj d h1 h2 h3 => (Array.getD_eq_getD_getElem? ..).symm.trans (hdep j oj d h1 h2 h3)
        have hMc0 := (hM.below hS0).cell 0
        have hMc1 := (hM.below hS0).cell 1
        have hJc0 := (hJ3.below hS0).cell 0
        have hJc1 := (hJ3.below hS0).cell 1
        have hJc2 := (hJ3.below hS0).cell 2
        have hJc3 := (hJ3.below hS0).cell 3
        simp at hMc0 hMc1 hJc0 hJc1 hJc2 hJc3
        have hec' : w'.cell? (ae.add k) = some (.int .i64 x) := (hS0.cell (by rw [add_block]; exact hae)).trans hec
        rcases (by omega : i = 0 ∨ i = 1 ∨ i = 2 ∨ i = 3 ∨ i = 4 ∨ i = 5 ∨ i = 6 ∨ i = 7 ∨ i = 8 ∨ i = 9) with rfl | rfl | rfl | rfl | rfl | rfl | rfl | rfl | rfl | rfl
        · obtain rfl := Option.some.inj ho
          exact ⟨rfl, .inl ⟨w', by simp [execOp, Act.eval, l3, hMc0, hMc1, go_sem], hS0⟩⟩
        · obtain rfl := Option.some.inj ho
          exact ⟨rfl, .inl ⟨w', by simp [execOp, Act.eval, l8, go_sem], hS0⟩⟩
        · obtain rfl := Option.some.inj ho
          have l7 : a.tmps[7]?.getD undef = .int .i64 v := (Array.getD_eq_getD_getElem? ..).symm.trans (hold 9 _ 7 (by kernel_rfl) rfl rfl)
          exact ⟨rfl, .inl ⟨w', by simp [execOp, Act.eval, l7, go_sem], hS0⟩⟩
        · obtain rfl := Option.some.inj ho
          exact ⟨rfl, .inl ⟨w', by simp [execOp, Act.eval, l9, hJc0, hJc1, hJc2, hJc3, go_sem], hS0⟩⟩
        · obtain rfl := Option.some.inj ho
          exact ⟨rfl, .inl ⟨w', by simp [execOp, Act.eval, l2, go_sem], hS0⟩⟩
        · obtain rfl := Option.some.inj ho
          exact ⟨rfl, .inl ⟨w', by simp [execOp, Act.eval, l8, go_sem], hS0⟩⟩
        · obtain rfl := Option.some.inj ho
          have e21 : a.tmps[21]?.getD undef = .slice (some ae) js.length d := D 4 _ 21 (by kernel_rfl) rfl rfl
          have e22 : a.tmps[22]?.getD undef = .int .i64 (k : Int) := D 5 _ 22 (by kernel_rfl) rfl rfl
          exact ⟨rfl, .inl ⟨w', by simp [execOp, Act.eval, e21, e22, hk0, hk1, go_sem], hS0⟩⟩
        · obtain rfl := Option.some.inj ho
          have e23 : a.tmps[23]?.getD undef = .pointer (some (ae.add k)) := D 6 _ 23 (by kernel_rfl) rfl rfl
          exact ⟨rfl, .inl ⟨w', by simp [execOp, Act.eval, e23, hec', go_sem], hS0⟩⟩
        · obtain rfl := Option.some.inj ho
          have e17 : a.tmps[17]?.getD undef = .agg #[.func (.func f) #[] caps, .bool tp] := D 0 _ 17 (by kernel_rfl) rfl rfl
          have e18 : a.tmps[18]?.getD undef = .int .i64 (k : Int) := D 1 _ 18 (by kernel_rfl) rfl rfl
          have e19 : a.tmps[19]?.getD undef = .int .i64 v := D 2 _ 19 (by kernel_rfl) rfl rfl
          have e20 : a.tmps[20]?.getD undef = .agg #[.int .i64 j.t, .int .i64 j.w, .int .i64 j.r, .int .i64 j.d] := D 3 _ 20 (by kernel_rfl) rfl rfl
          have e24 : a.tmps[24]?.getD undef = .int .i64 x := D 7 _ 24 (by kernel_rfl) rfl rfl
          refine ⟨rfl, .inr ⟨118, #[.agg #[.func (.func f) #[] caps, .bool tp], .int .i64 (k : Int), .int .i64 v, .agg #[.int .i64 j.t, .int .i64 j.w, .int .i64 j.r, .int .i64 j.d], .int .i64 x], by simp [execOp, Act.eval, e17, e18, e19, e20, e24, go_sem], (hext w' hS0).mono ?_⟩⟩
          rintro e w'' ⟨rfl, hb2⟩
          exact ⟨rfl, hS0.trans (hb2.mono hS0.size)⟩
        · obtain rfl := Option.some.inj ho
          have e25 : a.tmps[25]?.getD undef = .int .i64 ev := D 8 _ 25 (by kernel_rfl) rfl rfl
          exact ⟨rfl, .inl ⟨w', by simp [execOp, Act.eval, e25, go_sem], hS0⟩⟩
    · obtain rfl : k = js.length := by omega
      have hV' := hV.out
      rw [valGo_end o js es js.length v (Nat.le_refl _)] at hV'
      have HV' := Lib.hid hV'
      clear hV hV'
      go_wp2
      go_ret
      exact ⟨by rw [← HV'.out]; rfl, hb⟩
end Go.Proofs.Ytpjjjbkjkhcbdaa
