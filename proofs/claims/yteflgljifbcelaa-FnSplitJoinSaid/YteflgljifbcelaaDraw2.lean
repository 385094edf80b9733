/- What the other drawing functions of chapter 1 return: texts and lists of texts within bounds. -/
import Derived.Test.YteflgljifbcelaaDrawB
namespace Go.Proofs.Yteflgljifbcelaa
open Go.RowKit Go.ChangeShapes

theorem Cur.other {w w' : World} {g : Nat} {A : Option Addr} {len cap : Nat} {zs : List Int} {p : Int} (h : Cur w g A len cap zs p) {row : Option Nat} (hg : w.grownBy w' row) (hr : ∀ k, row = some k → g < k) : Cur w' g A len cap zs p := by
  obtain ⟨⟨sd, h0, h1, hB⟩, hrow, hl, hlow, hby, hp⟩ := h
  refine ⟨⟨sd, h0, h1, (hg.block g hB.lt (fun e => by have := hr g e.symm; omega)).trans hB⟩, fun hn => ?_, hl, hlow, hby, hp⟩
  obtain ⟨ad, e, hb, hc⟩ := hrow hn
  have hlo := hlow (by rw [List.length_map, hl] at hn; exact hn) ad e
  exact ⟨ad, e, Nat.lt_of_lt_of_le hb hg.size, fun j u hu => (World.cell?_of_block (hg.block _ (by rw [add_block]; exact hb) (fun e' => by rw [add_block] at e'; have := hr _ e'.symm; omega))).trans (hc j u hu)⟩
theorem own_base {w : World} {B B' e size n : Nat} {v : Value} {xs : List Value} (h : w.ownsRow B' e size v n xs) (hB : B ≤ B') : w.ownsRow B e size v n xs :=
  ⟨h.1, h.2.imp id (fun ⟨g, cap, cur, a, b, c⟩ => ⟨g, cap, cur, a, Nat.le_trans hB b, c⟩)⟩
theorem own_far {w w' : World} {B e size n g : Nat} {v : Value} {xs : List Value} (h : w.ownsRow B e size v n xs) (hg : w.grownBy w' (some g)) (hB : g < B) : w'.ownsRow B e size v n xs :=
  h.kept hg (.inr (fun e => by have := (h.lt g e).1; omega))

theorem DrawSplitString_any (A : Option Addr) (len cap : Nat) (zs : List Int) (w : World) (h : Code w A len zs) :
    Calls Try.prog 9 #[.slice A len cap] w fun e w' => ∃ x y : ByteArray, e = .returned (.tuple #[.string x, .string y]) ∧ x.size ≤ 100 ∧ y.size ≤ 100 ∧ Below w.heap.size w w' := by
  have HC := Lib.hid (h.cur (cap := cap))
  have hl := h.small
  clear h
  go_enter Try.func9, Try.ntmps9
  go_wp2_with fail
  refine (any1_any _ w.heap.size A len cap zs 0 HC.out (by omega) (by omega)).mono ?_
  rintro e w1 ⟨x, p1, rfl, hx, hc1, hp1, hg1⟩
  have HC1 := Lib.hid hc1
  have hb1 : Below w.heap.size w w1 := ((Below.refl _ _).alloc (Nat.le_refl _) _).trans (grown_below hg1 (Nat.le_refl _) (by simp))
  clear hc1 hg1
  go_wp2_with fail
  refine (of_new _ w.heap.size A len cap zs p1 HC1.out (by omega) (by omega) _ 5 _ 100 _ rfl (by omega) (by omega) (by kernel_rfl)).mono ?_
  rintro e w2 ⟨y, p2, rfl, hy, hc2, hp2, hg2⟩
  have hb2 : Below w.heap.size w w2 := hb1.trans (grown_below hg2 (Nat.le_refl _) hb1.size)
  clear hc2 hg2
  go_wp2
  go_ret2
  exact ⟨x, y, rfl, hx, hy, hb2⟩

theorem DrawLessString_any (A : Option Addr) (len cap : Nat) (zs : List Int) (w : World) (h : Code w A len zs) :
    Calls Try.prog 14 #[.slice A len cap] w fun e w' => ∃ x y : ByteArray, e = .returned (.tuple #[.string x, .string y]) ∧ x.size ≤ 100 ∧ y.size ≤ 100 ∧ Below w.heap.size w w' := by
  have HC := Lib.hid (h.cur (cap := cap))
  have hl := h.small
  clear h
  go_enter Try.func14, Try.ntmps14
  go_wp2_with fail
  refine (any1_any _ w.heap.size A len cap zs 0 HC.out (by omega) (by omega)).mono ?_
  rintro e w1 ⟨x, p1, rfl, hx, hc1, hp1, hg1⟩
  have HC1 := Lib.hid hc1
  have hb1 : Below w.heap.size w w1 := ((Below.refl _ _).alloc (Nat.le_refl _) _).trans (grown_below hg1 (Nat.le_refl _) (by simp))
  clear hc1 hg1
  go_wp2_with fail
  refine (any1_any _ w.heap.size A len cap zs p1 HC1.out (by omega) (by omega)).mono ?_
  rintro e w2 ⟨y, p2, rfl, hy, hc2, hp2, hg2⟩
  have hb2 : Below w.heap.size w w2 := hb1.trans (grown_below hg2 (Nat.le_refl _) hb1.size)
  clear hc2 hg2
  go_wp2
  go_ret2
  exact ⟨x, y, rfl, hx, hy, hb2⟩

theorem infoD : (Try.prog.info? 9).map (fun i => (i.zero, i.size, i.bytes)) = some (some (.string ⟨#[]⟩), 1, 16) := by kernel_rfl

/-- The list that has been drawn so far. -/
def Drawn (B : Nat) (w wr : World) (A : Option Addr) (len cap : Nat) (zs : List Int) (v : Value) (xs : List ByteArray) (b : Nat) (pmax : Int) : Prop :=
  wr.ownsRow (w.heap.size + 1) 9 1 v xs.length (xs.map Value.string) ∧ (∀ x ∈ xs, x.size ≤ b) ∧ (∃ p, p ≤ pmax ∧ Cur wr w.heap.size A len cap zs p) ∧ Below B w wr
theorem Drawn.append {w wr w1 w2 : World} {A : Option Addr} {len cap : Nat} {zs : List Int} {v v' : Value} {xs : List ByteArray} {b : Nat} {pm p2 p3 : Int} (h : Drawn w.heap.size w wr A len cap zs v xs b pm) (x : ByteArray) (hx : x.size ≤ b)
    (hg1 : wr.grownBy w1 (some w.heap.size)) (hc1 : Cur w1 w.heap.size A len cap zs p2) (hp : p2 ≤ p3) {o : Obj}
    (hown' : w2.ownsRow (w.heap.size + 1) 9 1 v' (xs.length + 1) (xs.map Value.string ++ [.string x])) (hgrow : (w1.alloc o).grownBy w2 v.ownBlock) : Drawn w.heap.size w w2 A len cap zs v' (xs ++ [x]) b p3 := by
  obtain ⟨hown, hsz, _, hB⟩ := h
  have hown1 := own_far hown hg1 (Nat.lt_succ_self _)
  have hlt : ∀ k, v.ownBlock = some k → w.heap.size < k := fun k e => by have := (hown1.lt k e).1; omega
  refine ⟨by simpa using hown', fun y hy => ?_, ⟨p2, hp, (hc1.alloc o).other hgrow hlt⟩, ?_⟩
  · rcases List.mem_append.1 hy with h | h
    · exact hsz y h
    · rw [List.mem_singleton] at h; subst h; exact hx
  · have hb1 : Below w.heap.size w w1 := hB.trans (grown_below hg1 (Nat.le_refl _) hB.size)
    exact (hb1.alloc hb1.size o).grown hgrow (by have := hb1.size; simp; omega) (fun j hj => Nat.le_of_lt (hlt j hj))

set_option maxHeartbeats 1000000 in
theorem DrawJoinStrings_any (A : Option Addr) (len cap : Nat) (zs : List Int) (w : World) (h : Code w A len zs) :
    Calls Try.prog 11 #[.slice A len cap] w fun e w' => ∃ (v : Value) (xs : List ByteArray) (y : ByteArray), e = .returned (.tuple #[v, .string y]) ∧ xs.length ≤ 10 ∧ (∀ x ∈ xs, x.size ≤ 5000) ∧ y.size ≤ 100 ∧ w'.ownsRow (w.heap.size + 1) 9 1 v xs.length (xs.map Value.string) ∧ Below w.heap.size w w' := by
  obtain ⟨i0, hi, hz0, hz1, hz2⟩ := info_parts infoD
  have HC := Lib.hid (h.cur (cap := cap))
  have hl := h.small
  clear h
  go_enter Try.func11, Try.ntmps11
  go_wp2_with fail
  refine (pick_any _ w.heap.size A len cap zs 0 4 (HC.out.alloc _) (by omega) (by omega) (by omega) (by omega)).mono ?_
  rintro e w1 ⟨r, p1, rfl, hr0, hr1, hc1, hp1, hg1⟩
  have hD0 : Drawn w.heap.size w w1 A len cap zs (.slice (some ⟨w.heap.size + 1, 0, none⟩) 0 0) [] 5000 2 := by
    have ho := World.ownsRow_made (base := w.heap.size + 1) (e := 9) (size := 1) (w.alloc (.cells #[.slice A len cap, .int .i64 0, .int .u64 0] 44)) #[] 0 (by simp) (by unfold maxLen; omega) rfl
    rw [World.size_alloc] at ho
    exact ⟨own_far ho hg1 (Nat.lt_succ_self _), by simp, ⟨p1, by omega, hc1⟩, (((Below.refl _ _).alloc (Nat.le_refl _) _).alloc (by simp) _).trans (grown_below hg1 (Nat.le_refl _) (by simp; omega))⟩
  have HD0 := Lib.hid hD0
  clear hc1 hg1 hD0
  go_wp2_with fail
  go_loopw [5, 7] (fun v i wr => ∃ (m : Nat) (xs : List ByteArray), i = .int .i64 (m : Int) ∧ (m : Int) ≤ r ∧ xs.length = m ∧ Hid (Drawn w.heap.size w wr A len cap zs v xs 5000 (2 + 2 * m))) (fun _ i _ => (r - intOf i).toNat)
  case atStart => exact ⟨0, [], rfl, by omega, rfl, HD0.out⟩
  case round =>
    obtain ⟨m, xs, rfl, hm, hxl, hD⟩ := hrel
    clear HD0
    by_cases hlt : (m : Int) < r
    · obtain ⟨hown, hsz, ⟨p, hp, hcur⟩, hB⟩ := hD.out
      have HCU := Lib.hid hcur
      have HOW := Lib.hid hown
      have HBB := Lib.hid hB
      have hbs := hB.size
      clear hcur hown hsz hB
      go_wp2_with fail
      refine (any1_any _ w.heap.size A len cap zs p HCU.out (by omega) (by omega)).mono ?_
      rintro e w2 ⟨x, p2, rfl, hx, hc2, hp2, hg2⟩
      have HC2 := Lib.hid hc2
      have HG2 := Lib.hid hg2
      have hown2 := own_far HOW.out hg2 (Nat.lt_succ_self _)
      have hs2 := hg2.size
      clear hc2 hg2
      go_wp2_with (at_builtin; refine wpList_append_own _ rfl _ _ 26 rfl (w.heap.size + 1) 9 i0 (.string ⟨#[]⟩) 1 16 Try.underlying26 hi hz0 hz1 hz2 rfl (by decide) _ _ _ rfl (hown2.alloc _) ⟨w2.heap.size, 0, none⟩ 1 1 [.string x] rfl rfl (cell_one_new _ _ _) (by intro u hu; simp at hu; subst hu; rfl) (by unfold maxLen; omega) (by omega) (by simp; have := HC2.out.lt; omega) ?_; intro v' w3 hown' hgrow _)
      have HD := Lib.hid (hD.out.append (p3 := 2 + 2 * (m : Int) + 2) x (by omega) HG2.out HC2.out (by omega) hown' hgrow)
      clear hown2 hown' hgrow
      go_roundw
      case rel => exact ⟨m + 1, xs ++ [x], by go_num, by omega, by simp [hxl], by have := HD.out; rw [show 2 + 2 * ((m + 1 : Nat) : Int) = 2 + 2 * (m : Int) + 2 by omega]; exact this⟩
      case measure => simp [intOf]; omega
    · obtain ⟨hown, hsz, ⟨p, hp, hcur⟩, hB⟩ := hD.out
      have HCU := Lib.hid hcur
      have HOW := Lib.hid hown
      have HBB := Lib.hid hB
      have HSZ := Lib.hid hsz
      have hbs := hB.size
      clear hcur hown hsz hB
      go_wp2_with fail
      refine (one_any _ w.heap.size A len cap zs p 20 HCU.out (by omega) (by omega) (by omega) (by omega)).mono ?_
      rintro e w2 ⟨b, p2, rfl, hc2, hp2, hg2⟩
      have HD2 : Hid (Drawn w.heap.size w w2 A len cap zs u5 xs 5000 p2) := ⟨own_far HOW.out hg2 (Nat.lt_succ_self _), HSZ.out, ⟨p2, Int.le_refl _, hc2⟩, HBB.out.trans (grown_below hg2 (Nat.le_refl _) hbs)⟩
      clear hc2 hg2 HCU HOW HBB HSZ hD
      cases b with
      | true =>
        obtain ⟨hown, hsz, ⟨p3, hp3, hcur⟩, hB⟩ := HD2.out
        have HCU := Lib.hid hcur
        have HOW := Lib.hid hown
        have hbs := hB.size
        clear hcur hown hsz hB
        go_wp2_with fail
        refine (pick_any _ w.heap.size A len cap zs p3 20 HCU.out (by omega) (by omega) (by omega) (by omega)).mono ?_
        rintro e w3 ⟨r3, p4, rfl, hr30, hr31, hc3, hp4, hg3⟩
        obtain ⟨k, rfl⟩ := Int.eq_ofNat_of_zero_le hr30
        have HC3 := Lib.hid hc3
        have HG3 := Lib.hid hg3
        have hown3 := own_far HOW.out hg3 (Nat.lt_succ_self _)
        have hs3 := hg3.size
        have hmk := run_make_row' (P := Try.prog) 22 5 (.int .u8 0) 1 Try.underlying22 infoU8 rfl .i64 .i64 (3990 + k) (by omega) (by omega) w3
        rw [show ((3990 + k : Nat) : Int) = 3990 + (k : Int) by omega] at hmk
        have hcv := conv_zeros w3 (3990 + k)
        have hzl : (⟨(List.replicate (3990 + k) 0).toArray⟩ : ByteArray).size ≤ 5000 := by show Array.size _ ≤ _; simp; omega
        generalize (⟨(List.replicate (3990 + k) 0).toArray⟩ : ByteArray) = zb at *
        clear hc3 hg3
        go_wp2_with (at_builtin; refine wpList_append_own _ rfl _ _ 26 rfl (w.heap.size + 1) 9 i0 (.string ⟨#[]⟩) 1 16 Try.underlying26 hi hz0 hz1 hz2 rfl (by decide) _ _ _ rfl ((hown3.alloc _).alloc _) ⟨w3.heap.size + 1, 0, none⟩ 1 1 [.string zb] rfl rfl (by simpa using cell_one_new (w3.alloc (.cells (madeCells #[.int .u8 0] (3990 + k)) 5)) (.string zb) 9) (by intro u hu; simp at hu; subst hu; rfl) (by unfold maxLen; omega) (by omega) (by simp; have := HC3.out.lt; omega) ?_; intro v' w4 hown' hgrow _)
        have HD := Lib.hid (HD2.out.append (p3 := p3 + 2) zb hzl (grown_trans HG3.out (alloc_grown w3 (.cells (madeCells #[.int .u8 0] (3990 + k)) 5) _)) (HC3.out.alloc _) hp4 hown' hgrow)
        clear hown3 hown' hgrow hmk hcv HC3 HG3 HCU HOW HD2
        obtain ⟨hown, hsz, ⟨p5, hp5, hcur⟩, hB⟩ := HD.out
        have HCU := Lib.hid hcur
        have HOW := Lib.hid hown
        have HBB := Lib.hid hB
        have HSZ := Lib.hid hsz
        have hbs' := hB.size
        clear hcur hown hsz hB
        go_wp2_with fail
        refine (of_new _ w.heap.size A len cap zs p5 HCU.out (by omega) (by omega) _ 5 _ 100 _ rfl (by omega) (by omega) (by kernel_rfl)).mono ?_
        rintro e w5 ⟨y, p6, rfl, hy, hc5, hp6, hg5⟩
        have hown5 := own_far HOW.out hg5 (Nat.lt_succ_self _)
        have hb5 : Below w.heap.size w w5 := HBB.out.trans (grown_below hg5 (Nat.le_refl _) hbs')
        clear hc5 hg5
        go_wp2
        go_ret2
        exact ⟨v', xs ++ [zb], y, rfl, by simp; omega, HSZ.out, hy, hown5, hb5⟩
      | false =>
        obtain ⟨hown, hsz, ⟨p3, hp3, hcur⟩, hB⟩ := HD2.out
        have HCU := Lib.hid hcur
        have HOW := Lib.hid hown
        have HBB := Lib.hid hB
        have HSZ := Lib.hid hsz
        have hbs := hB.size
        clear hcur hown hsz hB
        go_wp2_with fail
        refine (of_new _ w.heap.size A len cap zs p3 HCU.out (by omega) (by omega) _ 5 _ 100 _ rfl (by omega) (by omega) (by kernel_rfl)).mono ?_
        rintro e w4 ⟨y, p4, rfl, hy, hc4, hp4, hg4⟩
        have hown4 := own_far HOW.out hg4 (Nat.lt_succ_self _)
        have hb4 : Below w.heap.size w w4 := HBB.out.trans (grown_below hg4 (Nat.le_refl _) hbs)
        clear hc4 hg4
        go_wp2
        go_ret2
        exact ⟨u5, xs, y, rfl, by omega, HSZ.out, hy, hown4, hb4⟩
end Go.Proofs.Yteflgljifbcelaa
