/- StretchedJobs of both. -/
import Derived.Test.YtgiecjcgidgpfabSegH
import Derived.Test.YtgiecjcgidgpfabHeldJ
import Derived.Test.YtgiecjcgidgpfabOwnSS
import Derived.Test.YtgiecjcgidgpfabSwapS
import Derived.Test.YtgiecjcgidgpfabGood
import Derived.Laws.CopyOwn
import Derived.IntWalk
namespace Go.Proofs.Ytgiecjcgidgpfab
open Go.RowKit
def strJ (f : Int) (j : J) : J := ⟨j.t * f, j.w, j.r * f, j.d * f⟩
def strL (js : List J) (f : Int) : List J := js.map (strJ f)
def stretchR (js : List J) (f : Int) : List J × Bool := if (goodL js && inB f 1 10) && goodL (strL js f) then (strL js f, true) else ([], false)
theorem strL_len (js : List J) (f : Int) : (strL js f).length = js.length := by unfold strL; simp
theorem strL_at (js : List J) (f : Int) (k : Nat) (hk : k < js.length) : (strL js f)[k]'(by rw [strL_len]; exact hk) = strJ f js[k] := by unfold strL; simp
theorem stretchR_len (js : List J) (f : Int) : (stretchR js f).1.length ≤ 8 := by
  unfold stretchR
  cases h : (goodL js && inB f 1 10) && goodL (strL js f)
  · simp
  · simp only [if_true]
    rw [Bool.and_eq_true] at h
    exact (good_out h.2).1
def RetJB (w : World) (r : List J × Bool) (e : Ending) (w' : World) : Prop :=
  ∃ A c, e = .returned (.tuple #[.slice A r.1.length c, .bool r.2]) ∧ Seg w' 63 4 w.heap.size w'.heap.size A r.1.length c (jc r.1) ∧ Below w.heap.size w w'
theorem ret_emptyJ {w w1 : World} {r : List J × Bool} (hr : r = ([], false)) (hb : Below w.heap.size w w1) (e : Ending) (he : e = .returned (.tuple #[.slice (some ⟨w1.heap.size, 0, none⟩) 0 0, .bool false])) : RetJB w r e (w1.alloc (.cells #[] 63)) := by
  subst hr he
  have h : (w1.alloc (.cells #[] 63)).ownsRow w.heap.size 63 4 (.slice (some ⟨w1.heap.size, 0, none⟩) 0 0) 0 (jc []) := World.ownsRow_made w1 #[] 0 hb.size (by unfold maxLen; omega) rfl
  exact ⟨_, 0, rfl, Seg.of_own h, hb.alloc hb.size _⟩
theorem jc_one {js : List J} {u : Value} (hu : u ∈ jc js) : u.oneCell' = true := by
  unfold jc at hu
  obtain ⟨j, _, h⟩ := List.mem_flatMap.1 hu
  simp [cellsJ] at h
  rcases h with rfl | rfl | rfl | rfl <;> rfl
theorem cellsJ_one {j : J} {u : Value} (hu : u ∈ cellsJ j) : u.oneCell' = true := by
  simp [cellsJ] at hu
  rcases hu with rfl | rfl | rfl | rfl <;> rfl
theorem jc_snoc (js : List J) (j : J) : jc js ++ cellsJ j = jc (js ++ [j]) := by unfold jc; simp
theorem mul10 {a f : Int} (h0 : 0 ≤ a) (h1 : a ≤ 500) (h2 : 1 ≤ f) (h3 : f ≤ 10) : 0 ≤ a * f ∧ a * f ≤ 5000 :=
  ⟨Int.mul_nonneg h0 (by omega), by
    have := Int.mul_le_mul h1 h3 (by omega) (by omega)
    omega⟩
theorem jc_set3 : ∀ (L : List J) (k : Nat) (hk : k < L.length) (x y z : Int), (((jc L).set (k * 4) (.int .i64 x)).set (k * 4 + 2) (.int .i64 y)).set (k * 4 + 3) (.int .i64 z) = jc (L.set k ⟨x, L[k].w, y, z⟩)
  | [], _, h, _, _, _ => by cases h
  | j :: L, 0, _, x, y, z => by simp [jc, cellsJ]
  | j :: L, k + 1, h, x, y, z => by
    have ih := jc_set3 L k (by simpa using h) x y z
    have e : jc (j :: L) = cellsJ j ++ jc L := rfl
    rw [e, show (k + 1) * 4 = (cellsJ j).length + k * 4 by simp [cellsJ]; omega, show (cellsJ j).length + k * 4 + 2 = (cellsJ j).length + (k * 4 + 2) by omega, show (cellsJ j).length + k * 4 + 3 = (cellsJ j).length + (k * 4 + 3) by omega]
    rw [List.set_append_right _ _ (by omega), List.set_append_right _ _ (by omega), List.set_append_right _ _ (by omega)]
    simp only [Nat.add_sub_cancel_left]
    rw [ih]; rfl
/-- The builtin copy of as many elements as there is room for. -/
theorem run_copy_rows {P : Program} (w : World) (t ty elem : TypeId) (g n dCap : Nat) (A : Option Addr) (sCap : Nat) (cur : Array Value) (T : TypeId) (cs : List Value) (i : TypeInfo) (hu : P.underlying t = some (.slice elem)) (hi : P.info? elem = some i) (hs : 0 < i.size)
    (hg : w.heap[g]? = some (.cells cur T (0, 0))) (hn : cs.length = n * i.size) (hrow : Row w A cs) (hfit : cs.length = cur.size) (h1 : ∀ v ∈ cs, v.oneCell' = true) :
    ∃ w', (Builtin.copy_ #[t, t] ty #[.slice (some ⟨g, 0, none⟩) n dCap, .slice A n sCap]).run P w = .ok (goInt n) w' ∧ BlockIs w' g T cs.toArray ∧ ∀ B w0, Below B w0 w → B ≤ g → Below B w0 w' := by
  by_cases h0 : n = 0
  · subst h0
    have hcs : cs = [] := List.eq_nil_of_length_eq_zero (by simpa using hn)
    subst hcs
    have hl : ∀ (x : Addr), (loadCells x 0).run P w = .ok #[] w := fun x => by simpa using run_loadCells_list (P := P) w x [] (by simp)
    refine ⟨w, ?_, ?_, fun _ _ h _ => h⟩
    · cases A <;> simp [Builtin.copy_, run_underlying hu, Builtin.lenOf, Builtin.firstCells, sizeOf, typeInfo, hi, storeCells, hl]
    · have hc : cur = #[] := Array.eq_empty_of_size_eq_zero (by simpa using hfit.symm)
      subst hc; exact hg
  · have hpos : 0 < cs.length := by rw [hn]; exact Nat.mul_pos (by omega) hs
    obtain ⟨a, rfl, _, hc⟩ := hrow hpos
    have hl := run_loadCells_list (P := P) w a cs hc
    have hst := run_storeCells_at P g 0 T cs 0 cur w hg (by omega) h1
    simp only [Nat.add_zero] at hst
    rw [hn] at hl
    refine ⟨_, by simp [Builtin.copy_, run_underlying hu, Builtin.lenOf, Builtin.firstCells, sizeOf, typeInfo, hi, hl, hst]; rfl, ?_, fun B w0 hb hB => below_setRow hb hB _⟩
    have h := setRow_heap w g cur (cur.toList.take 0 ++ cs ++ cur.toList.drop (0 + cs.length)).toArray T (0, 0) hg
    rw [List.take_zero, List.nil_append, Nat.zero_add, List.drop_of_length_le (by simp [hfit]), List.append_nil] at h
    unfold BlockIs
    simpa [List.drop_of_length_le, hfit] using h
/-- The first k are stretched, the others not yet. -/
def strTo (js : List J) (f : Int) (k : Nat) : List J := (strL js f).take k ++ js.drop k
theorem strTo_len (js : List J) (f : Int) (k : Nat) : (strTo js f k).length = js.length := by
  unfold strTo
  rw [List.length_append, List.length_take, List.length_drop, strL_len]; omega
theorem strTo_at (js : List J) (f : Int) (k : Nat) (h : k < js.length) : (strTo js f k)[k]'(by rw [strTo_len]; exact h) = js[k] := by
  unfold strTo
  rw [List.getElem_append_right (by rw [List.length_take]; omega)]
  simp [strL_len, Nat.min_eq_left (Nat.le_of_lt h)]
theorem strTo_set (js : List J) (f : Int) (k : Nat) (h : k < js.length) : (strTo js f k).set k (strJ f js[k]) = strTo js f (k + 1) := by
  unfold strTo
  have hl : ((strL js f).take k).length = k := by rw [List.length_take, strL_len]; omega
  rw [List.set_append_right _ _ (by omega), hl, Nat.sub_self, List.drop_eq_getElem_cons h, List.set_cons_zero, List.take_succ_eq_append_getElem (by rw [strL_len]; exact h), strL_at js f k h]
  simp
theorem strTo_zero (js : List J) (f : Int) : strTo js f 0 = js := by unfold strTo; simp
theorem strTo_all (js : List J) (f : Int) : strTo js f js.length = strL js f := by unfold strTo; rw [List.take_of_length_le (by rw [strL_len]; exact Nat.le_refl _)]; simp
section
variable (A : Option Addr) (c : Nat) (js : List J) (f : Int) (w : World) (hr : Row w A (jc js)) (hn : js.length ≤ 10000000)
include hr hn
set_option maxRecDepth 100000 in
set_option maxHeartbeats 2000000 in
theorem spec_StretchedJobs : Calls Try.prog 49 #[.slice A js.length c, .int .i64 f] w (RetJB w (stretchR js f)) := by
  have HR : Hid (stretchR js f = if (goodL js && inB f 1 10) && goodL (strL js f) then (strL js f, true) else ([], false)) := rfl
  have hown0 : (w.alloc (.cells #[] 63)).ownsRow w.heap.size 63 4 (.slice (some ⟨w.heap.size, 0, none⟩) 0 0) 0 (jc []) := World.ownsRow_made w #[] 0 (Nat.le_refl _) (by unfold maxLen; omega) rfl
  have hb0 := (Below.refl w.heap.size w).alloc (Nat.le_refl _) (.cells #[] 63)
  have fin : ∀ w1 : World, Below (w.alloc (.cells #[] 63)).heap.size (w.alloc (.cells #[] 63)) w1 → stretchR js f = ([], false) → ∀ e1, e1 = .returned (.tuple #[.slice (some ⟨w.heap.size, 0, none⟩) 0 0, .bool false]) → RetJB w (stretchR js f) e1 w1 := fun w1 hb1 hm e1 he1 => by
    subst he1
    exact ⟨some ⟨w.heap.size, 0, none⟩, 0, by rw [hm]; rfl, by rw [hm]; exact Seg.of_own ((Seg.of_own hown0).below hb1).own, hb0.trans (hb1.mono hb0.size)⟩
  have HFIN := Lib.hid fin
  clear fin
  cases hg : goodL js
  · rw [hg] at HR
    go_enter Try.func49, Try.ntmps49
    go_wp2_with fail
    refine (l2Good_any A c js _ (hr.below hb0) (by omega)).mono ?_
    rintro e1 w1 ⟨rfl, hb1⟩
    rw [hg]
    go_wp2
    go_ret2
    exact HFIN.out _ hb1 HR.out _ rfl
  · rw [hg] at HR
    cases hin : inB f 1 10
    · rw [hin] at HR
      go_enter Try.func49, Try.ntmps49
      go_wp2_with fail
      refine (l2Good_any A c js _ (hr.below hb0) (by omega)).mono ?_
      rintro e1 w1 ⟨rfl, hb1⟩
      rw [hg]
      go_wp2_with fail
      refine (l1In_any _ _ _ _).mono ?_
      rintro e1 _ ⟨rfl, rfl⟩
      rw [hin]
      go_wp2
      go_ret2
      exact HFIN.out _ hb1 HR.out _ rfl
    · rw [hin] at HR
      obtain ⟨hf0, hf1⟩ := inB_out hin
      obtain ⟨h8, hok⟩ := good_out hg
      obtain ⟨i0, hi, hz0, hz1, hz2⟩ := info_parts infoJ
      have HML := Lib.hid (strL_len js f)
      go_enter Try.func49, Try.ntmps49
      go_wp2_with fail
      refine (l2Good_any A c js _ (hr.below hb0) (by omega)).mono ?_
      rintro e1 w1 ⟨rfl, hb1⟩
      rw [hg]
      go_wp2_with fail
      refine (l1In_any _ _ _ _).mono ?_
      rintro e1 _ ⟨rfl, rfl⟩
      rw [hin]
      have hown1 := ((Seg.of_own hown0).below hb1).own
      have hbb := hb0.trans (hb1.mono hb0.size)
      have HS := Lib.hid (And.intro hown1 hbb)
      clear hown0 hb0 hb1 hown1 hbb HFIN
      go_wp2
      go_loopw [6, 7] (fun v i wr => ∃ k : Nat, k ≤ js.length ∧ i = .int .i64 (k : Int) ∧ Hid (wr.ownsRow w.heap.size 63 4 v k (jc ((strL js f).take k))) ∧ Hid (Below w.heap.size w wr)) (fun _ i _ => js.length - (intOf i).toNat)
      case atStart => exact ⟨0, Nat.zero_le _, rfl, Lib.hid HS.out.1, Lib.hid HS.out.2⟩
      case round =>
        obtain ⟨k, hk, rfl, HO, Hb⟩ := hrel
        clear HS
        by_cases hlt : k < js.length
        · obtain ⟨t0, t1, _, _, r0, r1, d0, d1⟩ := okJ_out (hok _ (List.getElem_mem hlt))
          have hk0 : (0 : Int) ≤ k := by omega
          have hk1 : (k : Int) < js.length := by omega
          obtain ⟨ad, hA, _, c0, c1, c2, c3⟩ := (hr.below Hb.out).job hlt
          subst hA
          have HAT := Lib.hid (strL_at js f k hlt)
          have HTK : Hid ((strL js f).take (k + 1) = (strL js f).take k ++ [(strL js f)[k]'(by rw [strL_len]; exact hlt)]) := List.take_succ_eq_append_getElem (by rw [strL_len]; exact hlt)
          rw [HAT.out] at HTK
          clear HAT
          generalize js[k] = x at *
          have m1 := mul10 (a := x.t) (f := f) (by omega) (by omega) hf0 hf1
          have m2 := mul10 (a := x.r) (f := f) r0 r1 hf0 hf1
          have m3 := mul10 (a := x.d) (f := f) d0 d1 hf0 hf1
          have hb9 := (Below.refl wr.heap.size wr).alloc (Nat.le_refl _) (.cells #[.int .i64 x.t, .int .i64 x.w, .int .i64 x.r, .int .i64 x.d] 63)
          have ho9 := own_blw HO.out hb9
          have hb9' := Hb.out.trans (hb9.mono Hb.out.size)
          have hs9 : (wr.alloc (.cells #[.int .i64 x.t, .int .i64 x.w, .int .i64 x.r, .int .i64 x.d] 63)).heap.size = wr.heap.size + 1 := by simp
          have hsrc := row_src (Row.new (wr.alloc (.cells #[.int .i64 x.t, .int .i64 x.w, .int .i64 x.r, .int .i64 x.d] 63)) 63 #[.int .i64 (x.t * f), .int .i64 x.w, .int .i64 (x.r * f), .int .i64 (x.d * f)])
          rw [hs9] at hsrc
          have ho10 := ho9.alloc (.cells #[.int .i64 (x.t * f), .int .i64 x.w, .int .i64 (x.r * f), .int .i64 (x.d * f)] 63)
          have HZ := Lib.hid (And.intro hb9' (And.intro hs9 ho9))
          clear hb9 ho9 hb9' hs9
          go_wp2_with (at_builtin; refine wpList_append_own _ rfl _ _ 25 rfl w.heap.size 63 i0 (.agg #[.int .i64 0, .int .i64 0, .int .i64 0, .int .i64 0]) 4 32 Try.underlying25 hi hz0 hz1 hz2 rfl (by decide) _ _ _ rfl ho10 ⟨wr.heap.size + 1, 0, none⟩ 1 1 (cellsJ (strJ f x)) rfl rfl hsrc (fun u hu => cellsJ_one hu) (by unfold maxLen; omega) (by omega) (by have := Hb.out.size; simp; omega) ?_; intro v' w3 hown' hgrow hnil)
          have hx : jc ((strL js f).take k) ++ cellsJ (strJ f x) = jc ((strL js f).take (k + 1)) := by rw [jc_snoc, HTK.out]
          rw [hx] at hown'
          have hbe := (HZ.out.1.alloc HZ.out.1.size (.cells #[.int .i64 (x.t * f), .int .i64 x.w, .int .i64 (x.r * f), .int .i64 (x.d * f)] 63)).grown hgrow (Nat.le_trans HZ.out.1.size (by simp)) (fun j hj => (HO.out.lt j hj).1)
          have HF := Lib.hid (And.intro hown' hbe)
          clear hown' hbe hgrow hnil hx hsrc ho10 HZ HTK
          go_wp2
          go_roundw
          case rel => exact ⟨k + 1, by omega, by go_num, HF.out.1, HF.out.2⟩
          case measure => simp [intOf]; omega
        · obtain rfl : k = js.length := by omega
          have ho := HO.out
          rw [List.take_of_length_le (by rw [strL_len]; exact Nat.le_refl _)] at ho
          obtain ⟨A2, c2, hv, _, hrow⟩ := own_slice ho
          subst hv
          have HO2 := Lib.hid ho
          have hlg := l2Good_any A2 c2 (strL js f) wr hrow (by rw [strL_len]; omega)
          rw [HML.out] at hlg
          have HLG := Lib.hid hlg
          clear HO ho hrow hlg
          cases hg2 : goodL (strL js f)
          · rw [hg2] at HR HLG
            go_wp2_with fail
            refine HLG.out.mono ?_
            rintro e1 w4 ⟨rfl, hb4⟩
            have HB4 := Lib.hid (Hb.out.trans (hb4.mono Hb.out.size))
            clear hb4
            go_wp2
            go_ret2
            exact ret_emptyJ HR.out HB4.out _ rfl
          · rw [hg2] at HR HLG
            go_wp2_with fail
            refine HLG.out.mono ?_
            rintro e1 w4 ⟨rfl, hb4⟩
            have HB4 := Lib.hid (And.intro ((Seg.of_own HO2.out).below hb4).own (Hb.out.trans (hb4.mono Hb.out.size)))
            clear hb4
            go_wp2
            go_ret2
            refine ⟨A2, c2, ?_, ?_, HB4.out.2⟩
            · rw [HR.out]; simp only [Bool.and_self, if_true]; rw [HML.out]; rfl
            · rw [HR.out]; simp only [Bool.and_self, if_true]; rw [HML.out]; exact Seg.of_own HB4.out.1
set_option maxRecDepth 100000 in
set_option maxHeartbeats 2000000 in
theorem impl_StretchedJobs : Calls Try.prog 50 #[.slice A js.length c, .int .i64 f] w (RetJB w (stretchR js f)) := by
  have HR : Hid (stretchR js f = if (goodL js && inB f 1 10) && goodL (strL js f) then (strL js f, true) else ([], false)) := rfl
  cases hg : goodL js
  · rw [hg] at HR
    go_enter Try.func50, Try.ntmps50
    go_wp2_with fail
    refine (IsJobs_any A c js _ hr (by omega)).mono ?_
    rintro e1 w1 ⟨rfl, hb1⟩
    rw [hg]
    go_wp2
    go_ret2
    exact ret_emptyJ HR.out hb1 _ rfl
  · rw [hg] at HR
    by_cases hlo : f < 1
    · have hin : inB f 1 10 = false := inB_no (by omega)
      rw [hin] at HR
      go_enter Try.func50, Try.ntmps50
      go_wp2_with fail
      refine (IsJobs_any A c js _ hr (by omega)).mono ?_
      rintro e1 w1 ⟨rfl, hb1⟩
      rw [hg]
      go_wp2
      go_ret2
      exact ret_emptyJ HR.out hb1 _ rfl
    · by_cases hhi : 10 < f
      · have hin : inB f 1 10 = false := inB_no (by omega)
        rw [hin] at HR
        go_enter Try.func50, Try.ntmps50
        go_wp2_with fail
        refine (IsJobs_any A c js _ hr (by omega)).mono ?_
        rintro e1 w1 ⟨rfl, hb1⟩
        rw [hg]
        go_wp2
        go_ret2
        exact ret_emptyJ HR.out hb1 _ rfl
      · have hin : inB f 1 10 = true := inB_yes (by omega) (by omega)
        rw [hin] at HR
        obtain ⟨h8, hok⟩ := good_out hg
        obtain ⟨i0, hi, hz0, hz1, hz2⟩ := info_parts infoJ
        have hmk := run_make_rows (P := Try.prog) 25 63 (.agg #[.int .i64 0, .int .i64 0, .int .i64 0, .int .i64 0]) 4 32 Try.underlying25 infoJ .i64 .i64 js.length (by omega) (by omega)
        have HML := Lib.hid (strL_len js f)
        go_enter Try.func50, Try.ntmps50
        go_wp2_with fail
        refine (IsJobs_any A c js _ hr (by omega)).mono ?_
        rintro e1 w1 ⟨rfl, hb1⟩
        rw [hg]
        have H1 := Lib.hid (And.intro hb1 (hr.below hb1))
        clear hb1
        have hBn := BlockIs.new w1 63 (madeCells #[.int .i64 0, .int .i64 0, .int .i64 0, .int .i64 0] (js.length * 4))
        have hba := (Below.refl w1.heap.size w1).alloc (Nat.le_refl _) (.cells (madeCells #[.int .i64 0, .int .i64 0, .int .i64 0, .int .i64 0] (js.length * 4)) 63)
        obtain ⟨w2, hcp, hB2, hbw2⟩ := run_copy_rows (P := Try.prog) _ 25 3 63 w1.heap.size js.length js.length A c _ _ (jc js) i0 Try.underlying25 hi (by rw [hz1]; omega) hBn (by rw [jc_len, hz1]; omega) (H1.out.2.below hba) (by rw [jc_len, size_madeCells]; omega) (fun u hu => jc_one hu)
        have H2 := Lib.hid (And.intro hB2 (hbw2 _ _ hba (Nat.le_refl _)))
        clear hBn hba hB2 hbw2
        go_wp2
        go_loopw [28] (fun iv wr => ∃ k : Nat, k ≤ js.length ∧ iv = .int .i64 (k : Int) ∧ Hid (BlockIs wr w1.heap.size 63 (jc (strTo js f k)).toArray) ∧ Hid (Below w1.heap.size w1 wr)) (fun iv _ => js.length - (intOf iv).toNat)
        case atStart => exact ⟨0, Nat.zero_le _, rfl, by rw [strTo_zero]; exact H2.out.1, H2.out.2⟩
        case round =>
          obtain ⟨k, hk, rfl, HB, HW⟩ := hrel
          clear H2 hcp hmk
          by_cases hlt : k < js.length
          · obtain ⟨t0, t1, _, _, r0, r1, d0, d1⟩ := okJ_out (hok _ (List.getElem_mem hlt))
            have hk0 : (0 : Int) ≤ k := by omega
            have hk1 : (k : Int) < js.length := by omega
            have hl4 := strTo_len js f k
            have hat := strTo_at js f k hlt
            have g0 := jc_get (strTo js f k) k 0 (by omega) (by omega)
            have g2 := jc_get (strTo js f k) k 2 (by omega) (by omega)
            have g3 := jc_get (strTo js f k) k 3 (by omega) (by omega)
            rw [hat] at g0 g2 g3
            have c0 := HB.out.cell (k * 4)
            have c2 := HB.out.cell (k * 4 + 2)
            have c3 := HB.out.cell (k * 4 + 3)
            rw [List.getElem?_toArray] at c0 c2 c3
            rw [Nat.add_zero] at g0
            rw [g0] at c0
            rw [g2] at c2
            rw [g3] at c3
            simp [cellsJ] at c0 c2 c3
            have f0 := HB.out.frozen (k * 4)
            have f2 := HB.out.frozen (k * 4 + 2)
            have f3 := HB.out.frozen (k * 4 + 3)
            have hB3 := ((HB.out.set (k * 4) (.int .i64 (js[k].t * f))).set (k * 4 + 2) (.int .i64 (js[k].r * f))).set (k * 4 + 3) (.int .i64 (js[k].d * f))
            have hset := jc_set3 (strTo js f k) k (by omega) (js[k].t * f) (js[k].r * f) (js[k].d * f)
            rw [hat] at hset
            have hstr := strTo_set js f k hlt
            unfold strJ at hstr
            rw [hstr] at hset
            simp only [List.setIfInBounds_toArray] at hB3
            rw [hset] at hB3
            have HB3 := Lib.hid hB3
            clear hB3 hset hstr hat g0 g2 g3 hl4 HB
            generalize js[k] = x at *
            have m1 := mul10 (a := x.t) (f := f) (by omega) (by omega) (by omega) (by omega)
            have m2 := mul10 (a := x.r) (f := f) r0 r1 (by omega) (by omega)
            have m3 := mul10 (a := x.d) (f := f) d0 d1 (by omega) (by omega)
            go_wp2
            go_roundw
            case rel => exact ⟨k + 1, by omega, by go_num, HB3.out, ((HW.out.setCell (p := ⟨w1.heap.size, k * 4, none⟩) (Nat.le_refl _) _).setCell (p := ⟨w1.heap.size, k * 4 + 2, none⟩) (Nat.le_refl _) _).setCell (p := ⟨w1.heap.size, k * 4 + 3, none⟩) (Nat.le_refl _) _⟩
            case measure => simp [intOf]; omega
          · obtain rfl : k = js.length := by omega
            have hB := HB.out
            rw [strTo_all] at hB
            have hcl : (jc (strL js f)).length = js.length * 4 := by rw [jc_len, strL_len]; omega
            have hrow : Row wr (some ⟨w1.heap.size, 0, none⟩) (jc (strL js f)) := fun _ => ⟨_, rfl, hB.lt, fun j u hu => by rw [Addr.add_lit, Nat.zero_add, hB.cell, List.getElem?_toArray]; exact hu⟩
            have hij := IsJobs_any (some ⟨w1.heap.size, 0, none⟩) js.length (strL js f) wr hrow (by rw [strL_len]; omega)
            rw [strL_len] at hij
            have HIJ := Lib.hid hij
            have hown : wr.ownsRow w1.heap.size 63 4 (.slice (some ⟨w1.heap.size, 0, none⟩) js.length js.length) js.length (jc (strL js f)) := by
              have := hB.own (base := w1.heap.size) (n := js.length) (c := js.length) (size := 4) (Nat.le_refl _) (by simp [hcl]) (Nat.le_refl _) (by unfold maxLen; omega) (by simp [hcl])
              rwa [List.take_of_length_le (by simp [hcl])] at this
            have HO := Lib.hid (And.intro hown HW.out)
            clear hB hcl hrow hij hown HB
            cases hg2 : goodL (strL js f)
            · rw [hg2] at HR HIJ
              go_wp2_with fail
              refine HIJ.out.mono ?_
              rintro e1 w4 ⟨rfl, hb4⟩
              have HB4 := Lib.hid (H1.out.1.trans ((HW.out.trans (hb4.mono HW.out.size)).mono H1.out.1.size))
              clear hb4
              go_wp2
              go_ret2
              exact ret_emptyJ HR.out HB4.out _ rfl
            · rw [hg2] at HR HIJ
              go_wp2_with fail
              refine HIJ.out.mono ?_
              rintro e1 w4 ⟨rfl, hb4⟩
              have HB4 := Lib.hid (And.intro (own_blw HO.out.1 hb4) (H1.out.1.trans ((HW.out.trans (hb4.mono HW.out.size)).mono H1.out.1.size)))
              have HZ := Lib.hid H1.out.1.size
              clear hb4
              go_wp2
              go_ret2
              refine ⟨some ⟨w1.heap.size, 0, none⟩, js.length, ?_, ?_, HB4.out.2⟩
              · rw [HR.out]; simp only [Bool.and_self, if_true]; rw [HML.out]; rfl
              · rw [HR.out]; simp only [Bool.and_self, if_true]; rw [HML.out]; exact Seg.of_own (own_low HB4.out.1 HZ.out)
end
end Go.Proofs.Ytgiecjcgidgpfab
