/- TardinessBound: the program's. -/
import Derived.Test.YtnkoncplfedffaaTrb
import Derived.Test.YtnkoncplfedffaaRegY
import Derived.Test.YtnkoncplfedffaaShelf
import Derived.Sort.OwnSortedInts
namespace Go.Proofs.Ytnkoncplfedffaa
open Go.RowKit Go.Sort

theorem but_m2 {a2 a6 b2 b6 v0 v1 v3 v4 v5 v7 : Value} (j : Nat) (h2 : j ≠ 2) (h6 : j ≠ 6) : (#[v0, v1, a2, v3, v4, v5, a6, v7] : Array Value).getD j undef = (#[v0, v1, b2, v3, v4, v5, b6, v7] : Array Value).getD j undef := by
  rcases (by omega : j = 0 ∨ j = 1 ∨ j = 3 ∨ j = 4 ∨ j = 5 ∨ j = 7 ∨ 7 < j) with rfl | rfl | rfl | rfl | rfl | rfl | h
  all_goals first | rfl | (simp only [Array.getD_eq_getD_getElem?]; rw [Array.getElem?_eq_none (by simp; omega), Array.getElem?_eq_none (by simp; omega)])
theorem but_m5 {a5 a7 b5 b7 v0 v1 v2 v3 v4 v6 : Value} (j : Nat) (h5 : j ≠ 5) (h7 : j ≠ 7) : (#[v0, v1, v2, v3, v4, a5, v6, a7] : Array Value).getD j undef = (#[v0, v1, v2, v3, v4, b5, v6, b7] : Array Value).getD j undef := by
  rcases (by omega : j = 0 ∨ j = 1 ∨ j = 2 ∨ j = 3 ∨ j = 4 ∨ j = 6 ∨ 7 < j) with rfl | rfl | rfl | rfl | rfl | rfl | h
  all_goals first | rfl | (simp only [Array.getD_eq_getD_getElem?]; rw [Array.getElem?_eq_none (by simp; omega), Array.getElem?_eq_none (by simp; omega)])

/-- A block of numbers put in ascending order. -/
theorem sort_int_own {w : World} {B g n : Nat} {cs : Array Value} {xs : List Int} (h : BlockIs w g 3 cs) (hb : B ≤ g) (hcs : cs.toList = ic xs) (hl : xs.length = n) (hn : n ≤ 100000000) :
    Calls Try.prog 44 #[.slice (some ⟨g, 0, none⟩) n n] w fun e w' => e = .returned (.tuple #[]) ∧ w'.ownsRow B 3 1 (.slice (some ⟨g, 0, none⟩) n n) n (ic (sortI xs)) ∧ w.grownBy w' (some g) := by
  have hsz : cs.size = n := by rw [← Array.length_toList, hcs, ic_len, hl]
  have htk : cs.toList.take xs.length = xs.map (Value.int .i64) := by rw [hcs]; rw [List.take_of_length_le (by rw [ic_len]; omega)]; rfl
  have H := Try.slices_Sort_int g 0 n xs w (holds_of_blockI h htk) h.lt (by omega)
  rw [hl] at H
  refine H.mono ?_
  rintro e w' ⟨rfl, m, os, rfl⟩
  refine ⟨rfl, ?_, grownBy_sortedI _⟩
  have ho := ownsRow_sortedI (n := m) (os := os) (ss := xs) (ts := sortI xs) (by rw [sortI_len]) hb (show w.heap[g]? = _ from h) (by rw [hl]; exact Nat.le_refl _) (by unfold maxLen; omega) (by omega)
  rw [hl] at ho
  rw [sortI_merge]
  exact ho
theorem BlockIs.otherT {w : World} {g : Nat} {t : TypeId} {cs : Array Value} (h : BlockIs w g t cs) {a : Addr} (hne : g ≠ a.block) (u : Value) : BlockIs (w.setCell a u) g t cs :=
  (Below.heap_setCell w a u g hne).trans h
theorem exec_makeT {P : Program} {o : Oper} {ev : Operand → Value} {t : TypeId} {x y : Operand} {u v r : Value} {w w' : World} (ho : o.op = .makeSlice t x y) (hx : ev x = u) (hy : ev y = v) (hr : (Instr.makeSlice t u v).run P w = .ok r w') : (execOp ev o).run P w = .ok (.value r) w' := by
  unfold execOp
  simp only [ho, hx, hy, Sem.run_bind, Sem.run_pure, hr, Result.andThen_ok]
theorem below_gt {w w' : World} {g : Nat} (h : g < w.heap.size) (hb : Below w.heap.size w w') : g < w'.heap.size := Nat.lt_of_lt_of_le h hb.size
/-- What plainListOf hands on, nil or not. -/
theorem plainList_some (A : Option Addr) (c : Nat) (js : List J) (w : World) (hr : Row w A (jc js)) (hn : js.length ≤ 100000000) :
    Calls Try.prog 40 #[.slice A js.length c] w fun e w' => ∃ (A' : Option Addr) (c' : Nat) (ls : List J) (b : Bool), e = .returned (.tuple #[.slice A' ls.length c', .bool b]) ∧ Row w A' (jc ls) ∧ goodL ls = true ∧ tardR js = (tardL ls, b) ∧ Below w.heap.size w w' := by
  refine (plainListOf_any A c js w hr hn).mono ?_
  rintro e w1 ⟨hb1, ⟨hp, rfl⟩ | ⟨hp, rfl⟩⟩
  · exact ⟨A, c, js, true, rfl, hr, plain_good hp, by unfold tardR; rw [if_pos hp], hb1⟩
  · exact ⟨none, 0, [], false, rfl, Row.nil _, rfl, by unfold tardR; rw [if_neg (by rw [hp]; decide)]; rfl, hb1⟩
section
variable (A : Option Addr) (c : Nat) (js : List J) (w : World) (hr : Row w A (jc js)) (hn : js.length ≤ 100000000)
include hr hn
set_option maxRecDepth 100000 in
set_option maxHeartbeats 4000000 in
theorem impl_TardinessBound : Calls Try.prog 19 #[.slice A js.length c] w (RetNB w (tardR js)) := by
  go_enter Try.func19, Try.ntmps19
  go_wp2_with fail
  refine (plainList_some A c js w hr hn).mono ?_
  rintro e w1 ⟨A', c', ls, b, rfl, hrow, hg, hres, hb1⟩
  obtain ⟨h8, hok⟩ := good_out hg
  have HR := Lib.hid hres
  have HRW := Lib.hid hrow
  have HB1 := Lib.hid hb1
  have HG := Lib.hid hg
  clear hr hn hres hrow hb1 hok hg
  have hmk : ∀ w' : World, (Instr.makeSlice 42 (.int .i64 (ls.length : Int)) (.int .i64 (ls.length : Int))).run Try.prog w' = .ok (.slice (some ⟨w'.heap.size, 0, none⟩) ls.length ls.length) (w'.alloc (.cells (madeCells #[.int .i64 0] ls.length) 3)) := fun w' => run_make_row' (P := Try.prog) 42 3 (.int .i64 0) 8 Try.underlying42 infoI rfl .i64 .i64 ls.length (by omega) (by omega) w'
  have HMK := Lib.hid hmk
  clear hmk
  go_wp2

  refine wp_region_detG (by kernel_rfl) (fun x L w' => Below w1.heap.size w1 w' ∧ (L.getD 2 true = true → BlockIs w' x.1 3 (madeCells #[.int .i64 0] ls.length) ∧ w1.heap.size ≤ x.1) ∧ (L.getD 5 true = true → BlockIs w' x.2 3 (madeCells #[.int .i64 0] ls.length) ∧ w1.heap.size ≤ x.2) ∧ (L.getD 2 true = true → L.getD 5 true = true → x.1 ≠ x.2))
    (fun x kk => #[.slice A' ls.length c', .int .i64 (ls.length : Int), .slice (some ⟨x.1, 0, none⟩) ls.length ls.length, .slice A' ls.length c', .int .i64 (ls.length : Int), .slice (some ⟨x.2, 0, none⟩) ls.length ls.length, .slice (some ⟨x.1, 0, none⟩) ls.length ls.length, .slice (some ⟨x.2, 0, none⟩) ls.length ls.length].getD kk undef) (0, 0) (by kernel_rfl) (by kernel_rfl) ⟨(Below.refl _ _).drew, (fun h => by cases h), (fun h => by cases h), fun h => by cases h⟩ ?_ ?_
  · intro x L tm w' hall hS hsz hlow hval
    have ht : tm = #[.slice A js.length c, undef, .int .i64 0, .bool false, .slice A' ls.length c', .bool b, .slice (some ⟨x.1, 0, none⟩) ls.length ls.length, .slice (some ⟨x.2, 0, none⟩) ls.length ls.length, undef, undef, undef, undef, undef, .tuple #[.slice A' ls.length c', .bool b], .slice A js.length c, .tuple #[.slice A' ls.length c', .bool b], .slice A' ls.length c', .bool b, .slice A' ls.length c', .int .i64 (ls.length : Int), .slice (some ⟨x.1, 0, none⟩) ls.length ls.length, .slice A' ls.length c', .int .i64 (ls.length : Int), .slice (some ⟨x.2, 0, none⟩) ls.length ls.length, undef, undef, undef, undef, undef, undef, undef, undef, undef, undef, undef, undef, undef, undef, undef, undef, undef, undef, undef, undef, undef, undef, undef, undef, undef, undef, undef, undef, undef, undef, undef, undef, undef, undef, undef, undef, undef, undef, undef, undef, undef, undef, undef, undef, undef] := by
      refine arr_of _ _ hsz fun t ht => ?_
      have ht' : t < 69 := ht
      rcases (by omega : t = 0 ∨ t = 1 ∨ t = 2 ∨ t = 3 ∨ t = 4 ∨ t = 5 ∨ t = 6 ∨ t = 7 ∨ t = 8 ∨ t = 9 ∨ t = 10 ∨ t = 11 ∨ t = 12 ∨ t = 13 ∨ t = 14 ∨ t = 15 ∨ t = 16 ∨ t = 17 ∨ t = 18 ∨ t = 19 ∨ t = 20 ∨ t = 21 ∨ t = 22 ∨ t = 23 ∨ t = 24 ∨ t = 25 ∨ t = 26 ∨ t = 27 ∨ t = 28 ∨ t = 29 ∨ t = 30 ∨ t = 31 ∨ t = 32 ∨ t = 33 ∨ t = 34 ∨ t = 35 ∨ t = 36 ∨ t = 37 ∨ t = 38 ∨ t = 39 ∨ t = 40 ∨ t = 41 ∨ t = 42 ∨ t = 43 ∨ t = 44 ∨ t = 45 ∨ t = 46 ∨ t = 47 ∨ t = 48 ∨ t = 49 ∨ t = 50 ∨ t = 51 ∨ t = 52 ∨ t = 53 ∨ t = 54 ∨ t = 55 ∨ t = 56 ∨ t = 57 ∨ t = 58 ∨ t = 59 ∨ t = 60 ∨ t = 61 ∨ t = 62 ∨ t = 63 ∨ t = 64 ∨ t = 65 ∨ t = 66 ∨ t = 67 ∨ t = 68) with rfl | rfl | rfl | rfl | rfl | rfl | rfl | rfl | rfl | rfl | rfl | rfl | rfl | rfl | rfl | rfl | rfl | rfl | rfl | rfl | rfl | rfl | rfl | rfl | rfl | rfl | rfl | rfl | rfl | rfl | rfl | rfl | rfl | rfl | rfl | rfl | rfl | rfl | rfl | rfl | rfl | rfl | rfl | rfl | rfl | rfl | rfl | rfl | rfl | rfl | rfl | rfl | rfl | rfl | rfl | rfl | rfl | rfl | rfl | rfl | rfl | rfl | rfl | rfl | rfl | rfl | rfl | rfl | rfl
      · exact hlow 0 (by kernel_rfl)
      · exact hlow 1 (by kernel_rfl)
      · exact hlow 2 (by kernel_rfl)
      · exact hlow 3 (by kernel_rfl)
      · exact hlow 4 (by kernel_rfl)
      · exact hlow 5 (by kernel_rfl)
      · exact hval 6 _ 6 rfl rfl
      · exact hval 7 _ 7 rfl rfl
      · exact hlow 8 (by kernel_rfl)
      · exact hlow 9 (by kernel_rfl)
      · exact hlow 10 (by kernel_rfl)
      · exact hlow 11 (by kernel_rfl)
      · exact hlow 12 (by kernel_rfl)
      · exact hlow 13 (by kernel_rfl)
      · exact hlow 14 (by kernel_rfl)
      · exact hlow 15 (by kernel_rfl)
      · exact hlow 16 (by kernel_rfl)
      · exact hlow 17 (by kernel_rfl)
      · exact hval 0 _ 18 rfl rfl
      · exact hval 1 _ 19 rfl rfl
      · exact hval 2 _ 20 rfl rfl
      · exact hval 3 _ 21 rfl rfl
      · exact hval 4 _ 22 rfl rfl
      · exact hval 5 _ 23 rfl rfl
      · exact hlow 24 (by kernel_rfl)
      · exact hlow 25 (by kernel_rfl)
      · exact hlow 26 (by kernel_rfl)
      · exact hlow 27 (by kernel_rfl)
      · exact hlow 28 (by kernel_rfl)
      · exact hlow 29 (by kernel_rfl)
      · exact hlow 30 (by kernel_rfl)
      · exact hlow 31 (by kernel_rfl)
      · exact hlow 32 (by kernel_rfl)
      · exact hlow 33 (by kernel_rfl)
      · exact hlow 34 (by kernel_rfl)
      · exact hlow 35 (by kernel_rfl)
      · exact hlow 36 (by kernel_rfl)
      · exact hlow 37 (by kernel_rfl)
      · exact hlow 38 (by kernel_rfl)
      · exact hlow 39 (by kernel_rfl)
      · exact hlow 40 (by kernel_rfl)
      · exact hlow 41 (by kernel_rfl)
      · exact hlow 42 (by kernel_rfl)
      · exact hlow 43 (by kernel_rfl)
      · exact hlow 44 (by kernel_rfl)
      · exact hlow 45 (by kernel_rfl)
      · exact hlow 46 (by kernel_rfl)
      · exact hlow 47 (by kernel_rfl)
      · exact hlow 48 (by kernel_rfl)
      · exact hlow 49 (by kernel_rfl)
      · exact hlow 50 (by kernel_rfl)
      · exact hlow 51 (by kernel_rfl)
      · exact hlow 52 (by kernel_rfl)
      · exact hlow 53 (by kernel_rfl)
      · exact hlow 54 (by kernel_rfl)
      · exact hlow 55 (by kernel_rfl)
      · exact hlow 56 (by kernel_rfl)
      · exact hlow 57 (by kernel_rfl)
      · exact hlow 58 (by kernel_rfl)
      · exact hlow 59 (by kernel_rfl)
      · exact hlow 60 (by kernel_rfl)
      · exact hlow 61 (by kernel_rfl)
      · exact hlow 62 (by kernel_rfl)
      · exact hlow 63 (by kernel_rfl)
      · exact hlow 64 (by kernel_rfl)
      · exact hlow 65 (by kernel_rfl)
      · exact hlow 66 (by kernel_rfl)
      · exact hlow 67 (by kernel_rfl)
      · exact hlow 68 (by kernel_rfl)
    subst ht
    clear hlow hval hsz
    have y1 := hS.2.1 (hall 2 (by decide))
    have y2 := hS.2.2.1 (hall 5 (by decide))
    have y3 := hS.2.2.2 (hall 2 (by decide)) (hall 5 (by decide))
    have HZ := Lib.hid (And.intro hS.1 (And.intro y1 (And.intro y2 y3)))
    clear hS y1 y2 y3 hall
    obtain ⟨g1, g2⟩ := x
    dsimp only at HZ ⊢
    have HB2 : Hid (Below w.heap.size w w') := below_andT HB1.out HZ.out.1
    have hb1z := HB1.out.size
    go_wp2
    go_loopw [26] (fun iv wr => ∃ (k : Nat) (cs1 cs2 : Array Value), k ≤ ls.length ∧ iv = .int .i64 (k : Int) ∧ Hid (BlockIs wr g1 3 cs1 ∧ BlockIs wr g2 3 cs2 ∧ Upto (ic (timesJ ls)) k cs1 ∧ Upto (ic (datesJ ls)) k cs2 ∧ Below w.heap.size w wr)) (fun iv _ => ls.length - (intOf iv).toNat)
    case atStart => exact ⟨0, _, _, Nat.zero_le _, rfl, HZ.out.2.1.1, HZ.out.2.2.1.1, ⟨by rw [size_madeCells, ic_len]; unfold timesJ; simp, fun j h => absurd h (by omega)⟩, ⟨by rw [size_madeCells, ic_len]; unfold datesJ; simp, fun j h => absurd h (by omega)⟩, HB2.out⟩
    case round =>
      obtain ⟨k, cs1, cs2, hk, rfl, HK⟩ := hrel
      by_cases hlt : k < ls.length
      · obtain ⟨hB1, hB2, hU1, hU2, hbk⟩ := HK.out
        obtain ⟨ad, hA, _, c0, c1, c2, c3⟩ := (HRW.out.below hbk).job hlt
        subst hA
        have hk0 : (0 : Int) ≤ k := by omega
        have hk1 : (k : Int) < ls.length := by omega
        have l1 := hB1.lt
        have l2 := hB2.lt
        have hne := HZ.out.2.2.2
        have hbz := HZ.out.2.1.2
        have hbz2 := HZ.out.2.2.1.2
        have HU1 : Hid (Upto (ic (timesJ ls)) (k + 1) (cs1.setIfInBounds k (.int .i64 ls[k].t))) := by
          have h := hU1.step (by rw [ic_len]; unfold timesJ; simpa using hlt)
          rw [ic_get _ k (by unfold timesJ; simpa using hlt)] at h
          show Upto _ _ _
          simpa [timesJ] using h
        have HU2 : Hid (Upto (ic (datesJ ls)) (k + 1) (cs2.setIfInBounds k (.int .i64 ls[k].d))) := by
          have h := hU2.step (by rw [ic_len]; unfold datesJ; simpa using hlt)
          rw [ic_get _ k (by unfold datesJ; simpa using hlt)] at h
          show Upto _ _ _
          simpa [datesJ] using h
        have hs1 : k < cs1.size := by have := hU1.1; rw [ic_len] at this; unfold timesJ at this; simp at this; omega
        have hs2 : k < cs2.size := by have := hU2.1; rw [ic_len] at this; unfold datesJ at this; simp at this; omega
        generalize ls[k] = j at *
        have hbx : Below wr.heap.size wr (wr.alloc (.cells #[.int .i64 j.t, .int .i64 j.w, .int .i64 j.r, .int .i64 j.d] 52)) := (Below.refl _ _).alloc (Nat.le_refl _) _
        have X0 := BlockIs.new wr 52 #[.int .i64 j.t, .int .i64 j.w, .int .i64 j.r, .int .i64 j.d]
        have X1 := hB1.below hbx
        have X2 := hB2.below hbx
        have X3 := below_andT hbk hbx
        have HX := Lib.hid (And.intro X0 (And.intro X1 (And.intro X2 X3)))
        clear X0 X1 X2 X3 hbx hB1 hB2 hU1 hU2 hbk HK HRW
        go_wp2
        obtain ⟨X0, X1, X2, X3⟩ := HX.out
        obtain ⟨gx, hgx⟩ : ∃ gx, gx = wr.heap.size := ⟨_, rfl⟩
        rw [← hgx] at X0 l1 l2 ⊢
        have HGX := Lib.hid hgx
        clear hgx HX
        generalize wr.alloc (.cells #[.int .i64 j.t, .int .i64 j.w, .int .i64 j.r, .int .i64 j.d] 52) = W at *
        refine wp_region_detY (by kernel_rfl) (fun L w' => Below w.heap.size w w' ∧ BlockIs w' gx 52 #[.int .i64 j.t, .int .i64 j.w, .int .i64 j.r, .int .i64 j.d] ∧ ((L).getD 9 true = false → BlockIs w' g1 3 cs1) ∧ ((L).getD 9 true = true → BlockIs w' g1 3 (cs1.setIfInBounds k (.int .i64 j.t))) ∧ ((L).getD 11 true = false → BlockIs w' g2 3 cs2) ∧ ((L).getD 11 true = true → BlockIs w' g2 3 (cs2.setIfInBounds k (.int .i64 j.d)))) (fun q => (#[.slice (some ⟨g1, 0, none⟩) ls.length ls.length, .int .i64 (k : Int), .slice (some ⟨g2, 0, none⟩) ls.length ls.length, .int .i64 (k : Int), .pointer (some ⟨gx, 0, none⟩), .int .i64 j.t, .pointer (some ⟨gx, 3, none⟩), .int .i64 j.d, .pointer (some ⟨g1, k, none⟩), undef, .pointer (some ⟨g2, k, none⟩), undef] : Array Value).getD q undef) (by kernel_rfl) (by kernel_rfl) ⟨X3.drew, X0.drew, fun _ => X1.drew, fun h => (by cases h), fun _ => X2.drew, fun h => (by cases h)⟩ ?_ ?_
        · intro L tm w' hall hS hsz hlow hval
          have ht : tm = #[.slice A js.length c, undef, .int .i64 0, .bool false, .slice (some ad) ls.length c', .bool b, .slice (some ⟨g1, 0, none⟩) ls.length ls.length, .slice (some ⟨g2, 0, none⟩) ls.length ls.length, .int .i64 (k : Int), .pointer (some ⟨gx, 0, none⟩), undef, undef, undef, .tuple #[.slice (some ad) ls.length c', .bool b], .slice A js.length c, .tuple #[.slice (some ad) ls.length c', .bool b], .slice (some ad) ls.length c', .bool b, .slice (some ad) ls.length c', .int .i64 (ls.length : Int), .slice (some ⟨g1, 0, none⟩) ls.length ls.length, .slice (some ad) ls.length c', .int .i64 (ls.length : Int), .slice (some ⟨g2, 0, none⟩) ls.length ls.length, .slice (some ad) ls.length c', .int .i64 (ls.length : Int), .int .i64 (k : Int), .bool true, .int .i64 (k : Int), .pointer (some (ad.add (k * 4))), .agg #[.int .i64 j.t, .int .i64 j.w, .int .i64 j.r, .int .i64 j.d], .slice (some ⟨g1, 0, none⟩) ls.length ls.length, .int .i64 (k : Int), .slice (some ⟨g2, 0, none⟩) ls.length ls.length, .int .i64 (k : Int), .pointer (some ⟨gx, 0, none⟩), .int .i64 j.t, .pointer (some ⟨gx, 3, none⟩), .int .i64 j.d, .pointer (some ⟨g1, k, none⟩), .pointer (some ⟨g2, k, none⟩), u41, undef, undef, undef, undef, undef, undef, undef, undef, undef, undef, undef, undef, undef, undef, undef, undef, undef, undef, undef, undef, undef, undef, undef, undef, undef, undef, undef] := by
            refine arr_of _ _ hsz fun t ht => ?_
            have ht' : t < 69 := ht
            rcases (by omega : t = 0 ∨ t = 1 ∨ t = 2 ∨ t = 3 ∨ t = 4 ∨ t = 5 ∨ t = 6 ∨ t = 7 ∨ t = 8 ∨ t = 9 ∨ t = 10 ∨ t = 11 ∨ t = 12 ∨ t = 13 ∨ t = 14 ∨ t = 15 ∨ t = 16 ∨ t = 17 ∨ t = 18 ∨ t = 19 ∨ t = 20 ∨ t = 21 ∨ t = 22 ∨ t = 23 ∨ t = 24 ∨ t = 25 ∨ t = 26 ∨ t = 27 ∨ t = 28 ∨ t = 29 ∨ t = 30 ∨ t = 31 ∨ t = 32 ∨ t = 33 ∨ t = 34 ∨ t = 35 ∨ t = 36 ∨ t = 37 ∨ t = 38 ∨ t = 39 ∨ t = 40 ∨ t = 41 ∨ t = 42 ∨ t = 43 ∨ t = 44 ∨ t = 45 ∨ t = 46 ∨ t = 47 ∨ t = 48 ∨ t = 49 ∨ t = 50 ∨ t = 51 ∨ t = 52 ∨ t = 53 ∨ t = 54 ∨ t = 55 ∨ t = 56 ∨ t = 57 ∨ t = 58 ∨ t = 59 ∨ t = 60 ∨ t = 61 ∨ t = 62 ∨ t = 63 ∨ t = 64 ∨ t = 65 ∨ t = 66 ∨ t = 67 ∨ t = 68) with rfl | rfl | rfl | rfl | rfl | rfl | rfl | rfl | rfl | rfl | rfl | rfl | rfl | rfl | rfl | rfl | rfl | rfl | rfl | rfl | rfl | rfl | rfl | rfl | rfl | rfl | rfl | rfl | rfl | rfl | rfl | rfl | rfl | rfl | rfl | rfl | rfl | rfl | rfl | rfl | rfl | rfl | rfl | rfl | rfl | rfl | rfl | rfl | rfl | rfl | rfl | rfl | rfl | rfl | rfl | rfl | rfl | rfl | rfl | rfl | rfl | rfl | rfl | rfl | rfl | rfl | rfl | rfl | rfl
            · exact hlow 0 (by kernel_rfl)
            · exact hlow 1 (by kernel_rfl)
            · exact hlow 2 (by kernel_rfl)
            · exact hlow 3 (by kernel_rfl)
            · exact hlow 4 (by kernel_rfl)
            · exact hlow 5 (by kernel_rfl)
            · exact hlow 6 (by kernel_rfl)
            · exact hlow 7 (by kernel_rfl)
            · exact hlow 8 (by kernel_rfl)
            · exact hlow 9 (by kernel_rfl)
            · exact hlow 10 (by kernel_rfl)
            · exact hlow 11 (by kernel_rfl)
            · exact hlow 12 (by kernel_rfl)
            · exact hlow 13 (by kernel_rfl)
            · exact hlow 14 (by kernel_rfl)
            · exact hlow 15 (by kernel_rfl)
            · exact hlow 16 (by kernel_rfl)
            · exact hlow 17 (by kernel_rfl)
            · exact hlow 18 (by kernel_rfl)
            · exact hlow 19 (by kernel_rfl)
            · exact hlow 20 (by kernel_rfl)
            · exact hlow 21 (by kernel_rfl)
            · exact hlow 22 (by kernel_rfl)
            · exact hlow 23 (by kernel_rfl)
            · exact hlow 24 (by kernel_rfl)
            · exact hlow 25 (by kernel_rfl)
            · exact hlow 26 (by kernel_rfl)
            · exact hlow 27 (by kernel_rfl)
            · exact hlow 28 (by kernel_rfl)
            · exact hlow 29 (by kernel_rfl)
            · exact hlow 30 (by kernel_rfl)
            · exact hval 0 _ 31 rfl rfl
            · exact hval 1 _ 32 rfl rfl
            · exact hval 2 _ 33 rfl rfl
            · exact hval 3 _ 34 rfl rfl
            · exact hval 4 _ 35 rfl rfl
            · exact hval 5 _ 36 rfl rfl
            · exact hval 6 _ 37 rfl rfl
            · exact hval 7 _ 38 rfl rfl
            · exact hval 8 _ 39 rfl rfl
            · exact hval 10 _ 40 rfl rfl
            · exact hlow 41 (by kernel_rfl)
            · exact hlow 42 (by kernel_rfl)
            · exact hlow 43 (by kernel_rfl)
            · exact hlow 44 (by kernel_rfl)
            · exact hlow 45 (by kernel_rfl)
            · exact hlow 46 (by kernel_rfl)
            · exact hlow 47 (by kernel_rfl)
            · exact hlow 48 (by kernel_rfl)
            · exact hlow 49 (by kernel_rfl)
            · exact hlow 50 (by kernel_rfl)
            · exact hlow 51 (by kernel_rfl)
            · exact hlow 52 (by kernel_rfl)
            · exact hlow 53 (by kernel_rfl)
            · exact hlow 54 (by kernel_rfl)
            · exact hlow 55 (by kernel_rfl)
            · exact hlow 56 (by kernel_rfl)
            · exact hlow 57 (by kernel_rfl)
            · exact hlow 58 (by kernel_rfl)
            · exact hlow 59 (by kernel_rfl)
            · exact hlow 60 (by kernel_rfl)
            · exact hlow 61 (by kernel_rfl)
            · exact hlow 62 (by kernel_rfl)
            · exact hlow 63 (by kernel_rfl)
            · exact hlow 64 (by kernel_rfl)
            · exact hlow 65 (by kernel_rfl)
            · exact hlow 66 (by kernel_rfl)
            · exact hlow 67 (by kernel_rfl)
            · exact hlow 68 (by kernel_rfl)
          subst ht
          have HF := Lib.hid (And.intro (hS.2.2.2.1 (hall 9 (by decide))) (And.intro (hS.2.2.2.2.2 (hall 11 (by decide))) hS.1))
          clear hlow hval hsz hall hS X0 X1 X2 X3
          go_wp2
          go_roundw
          case rel => exact ⟨k + 1, _, _, by omega, by go_num, HF.out.1, HF.out.2.1, HU1.out, HU2.out, HF.out.2.2⟩
          case measure => simp [intOf]; omega
        · intro L a w' q op hLs hop hLi _ _ ⟨hS0, hS1, hS2, hS3, hS4, hS5⟩ hlow hdep _
          have hq : q < 12 := (Array.getElem?_eq_some_iff.1 hop).1
          have K : ∀ {q : Nat}, q ≠ 9 → q ≠ 11 → Below w.heap.size w w' ∧ BlockIs w' gx 52 #[.int .i64 j.t, .int .i64 j.w, .int .i64 j.r, .int .i64 j.d] ∧ ((L.setIfInBounds q true).getD 9 true = false → BlockIs w' g1 3 cs1) ∧ ((L.setIfInBounds q true).getD 9 true = true → BlockIs w' g1 3 (cs1.setIfInBounds k (.int .i64 j.t))) ∧ ((L.setIfInBounds q true).getD 11 true = false → BlockIs w' g2 3 cs2) ∧ ((L.setIfInBounds q true).getD 11 true = true → BlockIs w' g2 3 (cs2.setIfInBounds k (.int .i64 j.d))) := fun h9 h11 => by
            rw [getD_set_true, getD_set_true, if_neg (fun h => h9 h.1), if_neg (fun h => h11 h.1)]
            exact ⟨hS0, hS1, hS2, hS3, hS4, hS5⟩
          have p0 := hS1.cell 0
          have p3 := hS1.cell 3
          simp only [List.getElem?_toArray, List.getElem?_cons_zero, List.getElem?_cons_succ] at p0 p3
          rcases (by omega : q = 0 ∨ q = 1 ∨ q = 2 ∨ q = 3 ∨ q = 4 ∨ q = 5 ∨ q = 6 ∨ q = 7 ∨ q = 8 ∨ q = 9 ∨ q = 10 ∨ q = 11) with rfl | rfl | rfl | rfl | rfl | rfl | rfl | rfl | rfl | rfl | rfl | rfl
          · obtain rfl := Option.some.inj hop
            have e6 : a.tmps[6]?.getD undef = .slice (some ⟨g1, 0, none⟩) ls.length ls.length := (Array.getD_eq_getD_getElem? ..).symm.trans (hlow 6 (by kernel_rfl))
            exact ⟨wanted_free rfl, .inl (.inl ⟨w', by simp [execOp, Act.eval, e6, go_sem], K (by decide) (by decide)⟩)⟩
          · obtain rfl := Option.some.inj hop
            have e8 : a.tmps[8]?.getD undef = .int .i64 (k : Int) := (Array.getD_eq_getD_getElem? ..).symm.trans (hlow 8 (by kernel_rfl))
            exact ⟨wanted_free rfl, .inl (.inl ⟨w', by simp [execOp, Act.eval, e8, go_sem], K (by decide) (by decide)⟩)⟩
          · obtain rfl := Option.some.inj hop
            have e7 : a.tmps[7]?.getD undef = .slice (some ⟨g2, 0, none⟩) ls.length ls.length := (Array.getD_eq_getD_getElem? ..).symm.trans (hlow 7 (by kernel_rfl))
            exact ⟨wanted_free rfl, .inl (.inl ⟨w', by simp [execOp, Act.eval, e7, go_sem], K (by decide) (by decide)⟩)⟩
          · obtain rfl := Option.some.inj hop
            have e8 : a.tmps[8]?.getD undef = .int .i64 (k : Int) := (Array.getD_eq_getD_getElem? ..).symm.trans (hlow 8 (by kernel_rfl))
            exact ⟨wanted_free rfl, .inl (.inl ⟨w', by simp [execOp, Act.eval, e8, go_sem], K (by decide) (by decide)⟩)⟩
          · obtain rfl := Option.some.inj hop
            have e9 : a.tmps[9]?.getD undef = .pointer (some ⟨gx, 0, none⟩) := (Array.getD_eq_getD_getElem? ..).symm.trans (hlow 9 (by kernel_rfl))
            exact ⟨wanted_free rfl, .inl (.inl ⟨w', by simp [execOp, Act.eval, e9, go_sem], K (by decide) (by decide)⟩)⟩
          · obtain rfl := Option.some.inj hop
            have e35 : a.tmps[35]?.getD undef = .pointer (some ⟨gx, 0, none⟩) := (Array.getD_eq_getD_getElem? ..).symm.trans (hdep 4 _ 35 (by kernel_rfl) rfl rfl)
            exact ⟨wanted_free rfl, .inl (.inl ⟨w', by simp [execOp, Act.eval, e35, p0, go_sem], K (by decide) (by decide)⟩)⟩
          · obtain rfl := Option.some.inj hop
            have e9 : a.tmps[9]?.getD undef = .pointer (some ⟨gx, 0, none⟩) := (Array.getD_eq_getD_getElem? ..).symm.trans (hlow 9 (by kernel_rfl))
            exact ⟨wanted_free rfl, .inl (.inl ⟨w', by simp [execOp, Act.eval, e9, go_sem], K (by decide) (by decide)⟩)⟩
          · obtain rfl := Option.some.inj hop
            have e37 : a.tmps[37]?.getD undef = .pointer (some ⟨gx, 3, none⟩) := (Array.getD_eq_getD_getElem? ..).symm.trans (hdep 6 _ 37 (by kernel_rfl) rfl rfl)
            exact ⟨wanted_free rfl, .inl (.inl ⟨w', by simp [execOp, Act.eval, e37, p3, go_sem], K (by decide) (by decide)⟩)⟩
          · obtain rfl := Option.some.inj hop
            have e31 : a.tmps[31]?.getD undef = .slice (some ⟨g1, 0, none⟩) ls.length ls.length := (Array.getD_eq_getD_getElem? ..).symm.trans (hdep 0 _ 31 (by kernel_rfl) rfl rfl)
            have e32 : a.tmps[32]?.getD undef = .int .i64 (k : Int) := (Array.getD_eq_getD_getElem? ..).symm.trans (hdep 1 _ 32 (by kernel_rfl) rfl rfl)
            exact ⟨wanted_free rfl, .inl (.inl ⟨w', by simp [execOp, Act.eval, e31, e32, hk0, hk1, go_sem], K (by decide) (by decide)⟩)⟩
          · obtain rfl := Option.some.inj hop
            have e39 : a.tmps[39]?.getD undef = .pointer (some ⟨g1, k, none⟩) := (Array.getD_eq_getD_getElem? ..).symm.trans (hdep 8 _ 39 (by kernel_rfl) rfl rfl)
            have e36 : a.tmps[36]?.getD undef = .int .i64 j.t := (Array.getD_eq_getD_getElem? ..).symm.trans (hdep 5 _ 36 (by kernel_rfl) rfl rfl)
            have hc := hS2 hLi
            obtain ⟨v0, hv0⟩ := hc.has (i := k) (by omega)
            have fz := hc.frozen k
            have hn1 := hc.set k (.int .i64 j.t)
            refine ⟨wanted_free rfl, .inr ⟨w'.setCell ⟨g1, k, none⟩ (.int .i64 j.t), rfl, by simp [execOp, Act.eval, e39, e36, hv0, fz, go_sem], hS0.setCell (p := ⟨g1, k, none⟩) (by show _ ≤ g1; omega) _, hS1.otherT (a := ⟨g1, k, none⟩) (by show gx ≠ g1; omega) _, (fun h => (by rw [getD_set_true, if_pos ⟨rfl, by rw [hLs]; decide⟩] at h; cases h)), fun _ => hn1, fun h => (by rw [getD_set_true, if_neg (fun h => by cases h.1)] at h; exact (hS4 h).otherT (a := ⟨g1, k, none⟩) (by show g2 ≠ g1; omega) _), fun h => (by rw [getD_set_true, if_neg (fun h => by cases h.1)] at h; exact (hS5 h).otherT (a := ⟨g1, k, none⟩) (by show g2 ≠ g1; omega) _)⟩⟩
          · obtain rfl := Option.some.inj hop
            have e33 : a.tmps[33]?.getD undef = .slice (some ⟨g2, 0, none⟩) ls.length ls.length := (Array.getD_eq_getD_getElem? ..).symm.trans (hdep 2 _ 33 (by kernel_rfl) rfl rfl)
            have e34 : a.tmps[34]?.getD undef = .int .i64 (k : Int) := (Array.getD_eq_getD_getElem? ..).symm.trans (hdep 3 _ 34 (by kernel_rfl) rfl rfl)
            exact ⟨wanted_free rfl, .inl (.inl ⟨w', by simp [execOp, Act.eval, e33, e34, hk0, hk1, go_sem], K (by decide) (by decide)⟩)⟩
          · obtain rfl := Option.some.inj hop
            have e40 : a.tmps[40]?.getD undef = .pointer (some ⟨g2, k, none⟩) := (Array.getD_eq_getD_getElem? ..).symm.trans (hdep 10 _ 40 (by kernel_rfl) rfl rfl)
            have e38 : a.tmps[38]?.getD undef = .int .i64 j.d := (Array.getD_eq_getD_getElem? ..).symm.trans (hdep 7 _ 38 (by kernel_rfl) rfl rfl)
            have hc := hS4 hLi
            obtain ⟨v0, hv0⟩ := hc.has (i := k) (by omega)
            have fz := hc.frozen k
            have hn1 := hc.set k (.int .i64 j.d)
            refine ⟨wanted_free rfl, .inr ⟨w'.setCell ⟨g2, k, none⟩ (.int .i64 j.d), rfl, by simp [execOp, Act.eval, e40, e38, hv0, fz, go_sem], hS0.setCell (p := ⟨g2, k, none⟩) (by show _ ≤ g2; omega) _, hS1.otherT (a := ⟨g2, k, none⟩) (by show gx ≠ g2; omega) _, fun h => (by rw [getD_set_true, if_neg (fun h => by cases h.1)] at h; exact (hS2 h).otherT (a := ⟨g2, k, none⟩) (by show g1 ≠ g2; omega) _), fun h => (by rw [getD_set_true, if_neg (fun h => by cases h.1)] at h; exact (hS3 h).otherT (a := ⟨g2, k, none⟩) (by show g1 ≠ g2; omega) _), (fun h => (by rw [getD_set_true, if_pos ⟨rfl, by rw [hLs]; decide⟩] at h; cases h)), fun _ => hn1⟩⟩
      · obtain rfl : k = ls.length := by omega
        obtain ⟨hB1, hB2, hU1, hU2, hbk⟩ := HK.out
        have hl1 : (timesJ ls).length = ls.length := by unfold timesJ; simp
        have hl2 : (datesJ ls).length = ls.length := by unfold datesJ; simp
        have hu1 : cs1.toList = ic (timesJ ls) := by
          have h : Upto (ic (timesJ ls)) (ic (timesJ ls)).length cs1 := by rw [ic_len, hl1]; exact hU1
          exact h.all
        have hu2 : cs2.toList = ic (datesJ ls) := by
          have h : Upto (ic (datesJ ls)) (ic (datesJ ls)).length cs2 := by rw [ic_len, hl2]; exact hU2
          exact h.all
        have hbz := HZ.out.2.1.2
        have hbz2 := HZ.out.2.2.1.2
        have HNE := Lib.hid HZ.out.2.2.2
        have HC1 := Lib.hid (sort_int_own (B := w.heap.size) hB1 (by omega) hu1 hl1 (by omega))
        have HC2 : Hid (∀ w', BlockIs w' g2 3 cs2 → _) := fun w' h => sort_int_own (B := w.heap.size) h (by omega) hu2 hl2 (by omega)
        have HT : Hid (tardL ls = bndTo (sortI (timesJ ls)) (sortI (datesJ ls)) ls.length) := rfl
        have hst := sortI_len (timesJ ls)
        have hsd := sortI_len (datesJ ls)
        rw [hl1] at hst
        rw [hl2] at hsd
        have HN := Lib.hid (And.intro hst hsd)
        have hbt := sort_times HG.out
        have hbd := sort_dates HG.out
        have HB2' := Lib.hid (And.intro hB2 hbk)
        clear hB1 hB2 hU1 hU2 hbk HK hl1 hl2 hu1 hu2 hst hsd HRW HZ
        generalize sortI (timesJ ls) = ts at *
        generalize sortI (datesJ ls) = ds at *
        go_wp2_with fail
        refine HC1.out.mono ?_
        rintro e w5 ⟨rfl, ho1, hg1⟩
        have hB5 : BlockIs w5 g2 3 cs2 := (hg1.block _ HB2'.out.1.lt (fun e => HNE.out (by injection e with e; exact e.symm))).trans HB2'.out.1
        have hb5 : Below w.heap.size w w5 := HB2'.out.2.grown hg1 HB2'.out.2.size (fun b hb => by injection hb with hb; omega)
        have HC2' := Lib.hid (HC2.out w5 hB5)
        have H5 := Lib.hid (And.intro ho1 hb5)
        clear ho1 hg1 hB5 hb5 HC1 HC2 HB2'
        go_wp2_with fail
        refine HC2'.out.mono ?_
        rintro e w6 ⟨rfl, ho2, hg2⟩
        have ho1 := H5.out.1.kept hg2 (.inr (fun e => HNE.out (by injection e)))
        have hb6 : Below w.heap.size w w6 := H5.out.2.grown hg2 H5.out.2.size (fun b hb => by injection hb with hb; omega)
        have HS1 := Lib.hid (Row.of_own ho1)
        have HS2 := Lib.hid (Row.of_own ho2)
        have HB6 := Lib.hid hb6
        clear ho1 ho2 hg2 hb6 H5 HC2'
        go_wp2
        go_loop [10, 11, 48] (fun sv nv i => ∃ k : Nat, k ≤ ls.length ∧ i = .int .i64 k ∧ nv = .int .i64 (endTo ts k) ∧ sv = .int .i64 (bndTo ts ds k)) (fun _ _ i => ls.length - (intOf i).toNat)
        case atStart => exact ⟨0, Nat.zero_le _, rfl, rfl, rfl⟩
        case round =>
          obtain ⟨k, hk, rfl, rfl, rfl⟩ := hrel
          by_cases hlt : k < ls.length
          · have hk0 : (0 : Int) ≤ k := by omega
            have hk1 : (k : Int) < ls.length := by omega
            have hkt : k < ts.length := by have := HN.out.1; omega
            have hkd : k < ds.length := by have := HN.out.2; omega
            obtain ⟨xa, hxa, hct⟩ := HS1.out.int hkt
            obtain ⟨ya, hya, hcd⟩ := HS2.out.int hkd
            injection hxa with hxa
            injection hya with hya
            subst hxa hya
            have he1 := endTo_bd ts hbt k (by omega)
            have he2 := endTo_bd ts hbt (k + 1) (by omega)
            have hb1 := bndTo_bd ts ds hbt hbd k (by omega) (by omega) (by omega)
            have hb2 := bndTo_bd ts ds hbt hbd (k + 1) (by omega) (by omega) (by omega)
            have HE := Lib.hid (endTo_succ ts k hkt)
            have HS : Hid (bndTo ts ds (k + 1) = bndTo ts ds k + max (endTo ts (k + 1) - ds[k]) 0) := by show _ = _; rw [← getD_at ds 0 hkd]; rfl
            have htb := hbt _ (List.getElem_mem hkt)
            have hdb := hbd _ (List.getElem_mem hkd)
            generalize ts[k] = tt at *
            generalize ds[k] = dd at *
            clear hbt hbd
            rw [Addr.add_lit, Nat.zero_add] at hct hcd
            go_wp2
            all_goals
              go_round
              case rel => exact ⟨k + 1, by omega, by go_num, by rw [HE.out], by rw [HS.out, HE.out]; first | (congr 1; omega) | skip⟩
              case measure => simp [intOf]; omega
          · obtain rfl : k = ls.length := by omega
            go_wp2
            go_ret2
            exact ⟨by rw [HR.out, HT.out]; rfl, HB6.out⟩
  · intro x L a w' kk op hLs ho hLi hLd hLn ⟨hS0, hS1, hS2, hS3⟩ hlow hdep hold
    have hkk : kk < 8 := (Array.getElem?_eq_some_iff.1 ho).1
    have l4 : a.tmps[4]?.getD undef = .slice A' ls.length c' := by rw [← Array.getD_eq_getD_getElem?]; exact hlow 4 (by kernel_rfl)
    have D : ∀ j oj d, edgeB _ kk j = true → _ → _ → a.tmps[d]?.getD undef = _ := fun j oj d h1 h2 h3 => (Array.getD_eq_getD_getElem? ..).symm.trans (hdep j oj d h1 h2 h3)
    have K : ∀ {kk : Nat}, kk ≠ 2 → kk ≠ 5 → Below w1.heap.size w1 w' ∧ ((L.setIfInBounds kk true).getD 2 true = true → BlockIs w' x.1 3 (madeCells #[.int .i64 0] ls.length) ∧ w1.heap.size ≤ x.1) ∧ ((L.setIfInBounds kk true).getD 5 true = true → BlockIs w' x.2 3 (madeCells #[.int .i64 0] ls.length) ∧ w1.heap.size ≤ x.2) ∧ ((L.setIfInBounds kk true).getD 2 true = true → (L.setIfInBounds kk true).getD 5 true = true → x.1 ≠ x.2) := fun h2 h5 => ⟨hS0, by rw [set_ne h2]; exact hS1, by rw [set_ne h5]; exact hS2, by rw [set_ne h2, set_ne h5]; exact hS3⟩
    rcases (by omega : kk = 0 ∨ kk = 1 ∨ kk = 2 ∨ kk = 3 ∨ kk = 4 ∨ kk = 5 ∨ kk = 6 ∨ kk = 7) with rfl | rfl | rfl | rfl | rfl | rfl | rfl | rfl
    · obtain rfl := Option.some.inj ho
      exact ⟨rfl, .inl ⟨x, w', fun _ _ => rfl, by simp [execOp, Act.eval, l4, go_sem], K (by decide) (by decide)⟩⟩
    · obtain rfl := Option.some.inj ho
      have e18 : a.tmps[18]?.getD undef = .slice A' ls.length c' := D 0 _ 18 (by kernel_rfl) rfl rfl
      exact ⟨rfl, .inl ⟨x, w', fun _ _ => rfl, by simp [execOp, Act.eval, e18, go_sem], K (by decide) (by decide)⟩⟩
    · obtain rfl := Option.some.inj ho
      have e19 : a.tmps[19]?.getD undef = .int .i64 (ls.length : Int) := D 1 _ 19 (by kernel_rfl) rfl rfl
      have e19' : a.eval (.tmp 19) = .int .i64 (ls.length : Int) := by simp [Act.eval, e19]
      refine ⟨rfl, .inl ⟨(w'.heap.size, x.2), w'.alloc (.cells (madeCells #[.int .i64 0] ls.length) 3), fun j hj => ?_, exec_makeT rfl e19' e19' (HMK.out w'), hS0.alloc hS0.size _, (fun _ => ⟨BlockIs.new _ _ _, hS0.size⟩), (fun h => ?_), fun _ h => ?_⟩⟩
      · have n2 : j ≠ 2 := fun e => by subst e; rw [hLi] at hj; cases hj
        have f6 : L.getD 6 true = false := hLn 6 (by kernel_rfl)
        have n6 : j ≠ 6 := fun e => by subst e; rw [f6] at hj; cases hj
        exact but_m2 j n2 n6
      · rw [set_ne (by decide)] at h; exact ⟨(hS2 h).1.below ((Below.refl _ _).alloc (Nat.le_refl _) _), (hS2 h).2⟩
      · rw [set_ne (by decide)] at h; have := (hS2 h).1.lt; show w'.heap.size ≠ x.2; omega
    · obtain rfl := Option.some.inj ho
      exact ⟨rfl, .inl ⟨x, w', fun _ _ => rfl, by simp [execOp, Act.eval, l4, go_sem], K (by decide) (by decide)⟩⟩
    · obtain rfl := Option.some.inj ho
      have e21 : a.tmps[21]?.getD undef = .slice A' ls.length c' := D 3 _ 21 (by kernel_rfl) rfl rfl
      exact ⟨rfl, .inl ⟨x, w', fun _ _ => rfl, by simp [execOp, Act.eval, e21, go_sem], K (by decide) (by decide)⟩⟩
    · obtain rfl := Option.some.inj ho
      have e22 : a.tmps[22]?.getD undef = .int .i64 (ls.length : Int) := D 4 _ 22 (by kernel_rfl) rfl rfl
      have e22' : a.eval (.tmp 22) = .int .i64 (ls.length : Int) := by simp [Act.eval, e22]
      refine ⟨rfl, .inl ⟨(x.1, w'.heap.size), w'.alloc (.cells (madeCells #[.int .i64 0] ls.length) 3), fun j hj => ?_, exec_makeT rfl e22' e22' (HMK.out w'), hS0.alloc hS0.size _, (fun h => ?_), (fun _ => ⟨BlockIs.new _ _ _, hS0.size⟩), fun h _ => ?_⟩⟩
      · have n5 : j ≠ 5 := fun e => by subst e; rw [hLi] at hj; cases hj
        have f7 : L.getD 7 true = false := hLn 7 (by kernel_rfl)
        have n7 : j ≠ 7 := fun e => by subst e; rw [f7] at hj; cases hj
        exact but_m5 j n5 n7
      · rw [set_ne (by decide)] at h; exact ⟨(hS1 h).1.below ((Below.refl _ _).alloc (Nat.le_refl _) _), (hS1 h).2⟩
      · rw [set_ne (by decide)] at h; have := (hS1 h).1.lt; show x.1 ≠ w'.heap.size; omega
    · obtain rfl := Option.some.inj ho
      have e20 : a.tmps[20]?.getD undef = .slice (some ⟨x.1, 0, none⟩) ls.length ls.length := D 2 _ 20 (by kernel_rfl) rfl rfl
      exact ⟨rfl, .inl ⟨x, w', fun _ _ => rfl, by simp [execOp, Act.eval, e20, go_sem], K (by decide) (by decide)⟩⟩
    · obtain rfl := Option.some.inj ho
      have e23 : a.tmps[23]?.getD undef = .slice (some ⟨x.2, 0, none⟩) ls.length ls.length := D 5 _ 23 (by kernel_rfl) rfl rfl
      exact ⟨rfl, .inl ⟨x, w', fun _ _ => rfl, by simp [execOp, Act.eval, e23, go_sem], K (by decide) (by decide)⟩⟩

end
end Go.Proofs.Ytnkoncplfedffaa
