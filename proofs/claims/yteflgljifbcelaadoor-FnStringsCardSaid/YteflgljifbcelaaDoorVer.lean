/- VerifyChecksum of the program and of the model. -/
import Derived.Test.YteflgljifbcelaaDoorChk
import Derived.Test.YteflgljifbcelaaDoorSplit
import Derived.Lib.IndexMore
namespace Go.Proofs.YteflgljifbcelaaDoor
open Go.RowKit

theorem indexByte_miss : ∀ {l : List UInt8} {c : UInt8}, hasB l c = false → Lib.indexByte l c = -1
  | [], _, _ => rfl
  | x :: l, c, h => by
    rw [hasB_cons, Bool.or_eq_false_iff] at h
    unfold Lib.indexByte
    rw [if_neg (by simpa using h.1), if_pos (by rw [indexByte_miss h.2]; rfl)]
theorem indexByte_cut (c : UInt8) (r : List UInt8) : ∀ {t : List UInt8}, hasB t c = false → Lib.indexByte (t ++ c :: r) c = t.length
  | [], _ => by show Lib.indexByte (c :: r) c = 0; unfold Lib.indexByte; simp
  | x :: t, h => by
    rw [hasB_cons, Bool.or_eq_false_iff] at h
    have ih := indexByte_cut c r h.2
    show Lib.indexByte (x :: (t ++ c :: r)) c = _
    rw [Lib.indexByte, if_neg (by simpa using h.1), ih, if_neg (by simp <;> omega)]
    simp
theorem cut_found {l t r : List UInt8} (h : l = t ++ 35 :: r) (ht : hasB t 35 = false) : Lib.cut l [35] = (t, r, true) := by
  subst h
  unfold Lib.cut
  rw [Lib.index_one, indexByte_cut 35 r ht, if_pos (by omega)]
  simp
theorem cut_miss {l : List UInt8} (h : hasB l 35 = false) : Lib.cut l [35] = (l, [], false) := by
  unfold Lib.cut
  rw [Lib.index_one, indexByte_miss h, if_neg (by omega)]
theorem exists_cut (c : UInt8) : ∀ l : List UInt8, hasB l c = true → ∃ t r, l = t ++ c :: r ∧ hasB t c = false
  | [], h => by simp [hasB] at h
  | x :: l, h => by
    by_cases hx : x = c
    · exact ⟨[], l, by simp [hx], rfl⟩
    · rw [hasB_cons] at h
      obtain ⟨t, r, h1, h2⟩ := exists_cut c l (by simpa [hx] using h)
      exact ⟨x :: t, r, by simp [h1], by rw [hasB_cons, h2]; simpa using hx⟩

theorem toList_mk (l : List UInt8) : (⟨l.toArray⟩ : ByteArray).data.toList = l := by simp
theorem mk_toList (s : ByteArray) : (⟨s.data.toList.toArray⟩ : ByteArray) = s := by apply ByteArray.ext; simp
theorem size_mk (l : List UInt8) : (⟨l.toArray⟩ : ByteArray).size = l.length := by show l.toArray.size = _; simp

theorem impl_Verify_miss (s : ByteArray) (w : World) (hs : s.size ≤ 1048576) (hsh : w.ShapedOpen Tryd.prog) (h : hasB s.data.toList 35 = false) :
    Calls Tryd.prog 18 #[.string s] w fun e w' => e = .returned (.tuple #[.string ⟨#[]⟩, .bool false]) ∧ Below w.heap.size w w' := by
  have H := Tryd.strings_Cut_shaped s ⟨#[35]⟩ w hsh (by omega)
  rw [show (⟨#[35]⟩ : ByteArray).data.toList = [35] from rfl, cut_miss h] at H
  have H' := Lib.hid H; clear H h
  go_enter Tryd.func18, Tryd.ntmps18
  go_wp2_with (go_at_call 35; refine (H'.out).mono ?_; rintro e w' ⟨rfl, m, rfl⟩)
  go_ret2
  exact ⟨rfl, below_drewN (Below.refl _ _) _⟩

theorem bytes_ne {a b : ByteArray} (h : a ≠ b) : (a.toList == b.toList) = false := by
  rw [beq_eq_false_iff_ne]
  intro e
  rw [ByteArray.toList_eq, ByteArray.toList_eq] at e
  exact h (ByteArray.ext (Array.ext' e))

theorem impl_Verify_ok (tb : ByteArray) (w : World) (hsh : w.ShapedOpen Tryd.prog) (htab : PowTab w) (hc : canSeal tb) :
    Calls Tryd.prog 18 #[.string (sealB tb)] w fun e w' => e = .returned (.tuple #[.string tb, .bool true]) ∧ Below w.heap.size w w' := by
  have hz := hc.2.2
  have H := Tryd.strings_Cut_shaped (sealB tb) ⟨#[35]⟩ w hsh (by omega)
  rw [show (⟨#[35]⟩ : ByteArray).data.toList = [35] from rfl, cut_found (t := tb.data.toList) (r := Lib.itoa (sumS tb.data.toList)) (by show (sealL tb.data.toList).toArray.toList = _; unfold sealL; simp) hc.2.1, mk_toList] at H
  have H' := Lib.hid H; clear H hz
  have HC := Lib.hid hc
  clear hc
  go_enter Tryd.func18, Tryd.ntmps18
  go_wp2_with (first | (go_at_call 35; refine (H'.out).mono ?_; rintro e w' ⟨rfl, m, rfl⟩) | (go_at_call 16; refine (impl_Append_yes _ _ HC.out (htab.drewN _)).mono ?_; rintro e w' ⟨rfl, hb⟩))
  go_ret2
  exact ⟨rfl, (below_drewN (Below.refl _ _) _).trans hb⟩

theorem impl_Verify_found (s tb : ByteArray) (r : List UInt8) (w : World) (hs : s.size ≤ 1048576) (hsh : w.ShapedOpen Tryd.prog) (htab : PowTab w) (h : s.data.toList = tb.data.toList ++ 35 :: r) (ht : hasB tb.data.toList 35 = false) (hne : canSeal tb → sealB tb ≠ s) :
    Calls Tryd.prog 18 #[.string s] w fun e w' => e = .returned (.tuple #[.string ⟨#[]⟩, .bool false]) ∧ Below w.heap.size w w' := by
  have H := Tryd.strings_Cut_shaped s ⟨#[35]⟩ w hsh (by omega)
  rw [show (⟨#[35]⟩ : ByteArray).data.toList = [35] from rfl, cut_found h ht, mk_toList] at H
  have H' := Lib.hid H; clear H
  have hl : tb.size ≤ s.size := by
    have h1 := congrArg List.length h
    rw [List.length_append, size_toList, size_toList] at h1
    omega
  have hm : tb.size ≤ maxLen := by unfold maxLen; omega
  clear h ht
  by_cases hc : canSeal tb
  · have HC := Lib.hid hc
    have HE := bytes_ne (hne hc)
    clear hc hne
    go_enter Tryd.func18, Tryd.ntmps18
    go_wp2_with (first | (go_at_call 35; refine (H'.out).mono ?_; rintro e w' ⟨rfl, m, rfl⟩) | (go_at_call 16; refine (impl_Append_yes _ _ HC.out (htab.drewN _)).mono ?_; rintro e w' ⟨rfl, hb⟩))
    go_ret2
    exact ⟨rfl, (below_drewN (Below.refl _ _) _).trans hb⟩
  · have HC := Lib.hid hc
    clear hc hne
    go_enter Tryd.func18, Tryd.ntmps18
    go_wp2_with (first | (go_at_call 35; refine (H'.out).mono ?_; rintro e w' ⟨rfl, m, rfl⟩) | (go_at_call 16; refine (impl_Append_no _ _ hm HC.out (htab.drewN _)).mono ?_; rintro e w' ⟨rfl, hb⟩))
    go_ret2
    exact ⟨rfl, (below_drewN (Below.refl _ _) _).trans hb⟩

/-- No text is sealed so. -/
def noSeal (s : ByteArray) : Prop := ∀ t, canSeal t → sealB t ≠ s
theorem impl_Verify_no (s : ByteArray) (w : World) (hs : s.size ≤ 1048576) (hsh : w.ShapedOpen Tryd.prog) (htab : PowTab w) (h : noSeal s) :
    Calls Tryd.prog 18 #[.string s] w fun e w' => e = .returned (.tuple #[.string ⟨#[]⟩, .bool false]) ∧ Below w.heap.size w w' := by
  cases hh : hasB s.data.toList 35 with
  | false => exact impl_Verify_miss s w hs hsh hh
  | true =>
    obtain ⟨t, r, h1, h2⟩ := exists_cut 35 _ hh
    exact impl_Verify_found s ⟨t.toArray⟩ r w hs hsh htab (by rw [toList_mk]; exact h1) (by rw [toList_mk]; exact h2) (h _)

/-! The model's side. -/
theorem owned_head {w : World} {B : Nat} {v : Value} {n : Nat} {x : Value} {xs : List Value} (h : w.ownsRow B 9 1 v n (x :: xs)) :
    ∃ g cap, v = .slice (some ⟨g, 0, none⟩) n cap ∧ 0 < n ∧ w.cell? ⟨g, 0, none⟩ = some x := by
  obtain ⟨hl, hv⟩ := id h
  simp at hl
  rcases hv with ⟨_, h0⟩ | ⟨g, cap, cur, rfl, _⟩
  · omega
  · refine ⟨g, cap, rfl, by omega, ?_⟩
    have := h.cells (g := g) rfl 0 x rfl
    simpa [Addr.add] using this

theorem l1Split_35 (s : ByteArray) (w : World) (hs : s.size ≤ 4000000) :
    Calls Tryd.prog 36 #[.string s, .int .u8 35] w fun e w' =>
      ∃ v, e = .returned v ∧ w'.ownsRow w.heap.size 9 1 v (splitL 35 s.data.toList).length ((splitL 35 s.data.toList).map strV) ∧ Below w.heap.size w w' := l1Split_any s 35 w hs
theorem l1Split_head (s tb : ByteArray) (ps : List (List UInt8)) (w : World) (hs : s.size ≤ 4000000) (h : splitL 35 s.data.toList = tb.data.toList :: ps) :
    Calls Tryd.prog 36 #[.string s, .int .u8 35] w fun e w' =>
      ∃ g n cap, e = .returned (.slice (some ⟨g, 0, none⟩) n cap) ∧ 0 < n ∧ w'.cell? ⟨g, 0, none⟩ = some (.string tb) ∧ Below w.heap.size w w' := by
  refine (l1Split_35 s w hs).mono ?_
  rintro e w' ⟨v, rfl, hown, hb⟩
  rw [h, List.map_cons] at hown
  obtain ⟨g, cap, rfl, hn, hc⟩ := owned_head hown
  refine ⟨g, _, cap, rfl, hn, ?_, hb⟩
  rw [hc]
  unfold strV
  rw [mk_toList]

theorem spec_Verify_ok (tb : ByteArray) (w : World) (hc : canSeal tb) :
    Calls Tryd.prog 20 #[.string (sealB tb)] w fun e w' => e = .returned (.tuple #[.string tb, .bool true]) ∧ Below w.heap.size w w' := by
  have hz := hc.2.2
  have h1 := hc.1
  have hp : splitL 35 (sealB tb).data.toList = tb.data.toList :: splitL 35 (Lib.itoa (sumS tb.data.toList)) := by
    show splitL 35 (sealL tb.data.toList).toArray.toList = _
    unfold sealL
    exact splitL_cut 35 _ _ hc.2.1
  have H := l1Split_head (sealB tb) tb _ w (by omega) hp
  have H' := Lib.hid H; clear H hp hc
  go_enter Tryd.func20, Tryd.ntmps20
  go_wp2_with (first | (go_at_call 36; refine (H'.out).mono ?_; rintro e w' ⟨g, n, cap, rfl, hn, hcell, hb⟩) | (go_at_call 34; refine (l1Seal_any _ _ (by omega)).mono ?_; rintro e w' ⟨rfl, m, rfl⟩))
  go_ret2
  exact ⟨rfl, below_drewN hb _⟩
theorem spec_Verify_no (s : ByteArray) (w : World) (hm : s.size ≤ maxLen) (h : noSeal s) :
    Calls Tryd.prog 20 #[.string s] w fun e w' => e = .returned (.tuple #[.string ⟨#[]⟩, .bool false]) ∧ Below w.heap.size w w' := by
  have hm' := hm
  unfold maxLen at hm'
  by_cases hs : s.size ≤ 4000
  · obtain ⟨t, ps, hp, hn, hlen⟩ : ∃ t ps, splitL 35 s.data.toList = t :: ps ∧ hasB t 35 = false ∧ t.length ≤ s.size := by
      cases hh : hasB s.data.toList 35 with
      | false => exact ⟨_, [], splitL_end 35 _ hh, hh, by simp⟩
      | true =>
        obtain ⟨t, r, h1, h2⟩ := exists_cut 35 _ hh
        refine ⟨t, splitL 35 r, by rw [h1]; exact splitL_cut 35 r t h2, h2, ?_⟩
        have := congrArg List.length h1
        simp at this
        omega
    have hlen' : (⟨t.toArray⟩ : ByteArray).size ≤ 4000 := by rw [size_mk]; omega
    have hne : sealB ⟨t.toArray⟩ ≠ s := by
      intro he
      refine h ⟨t.toArray⟩ ⟨hlen', by rw [toList_mk]; exact hn, by rw [he]; exact hs⟩ he
    have HE := bytes_ne hne
    have H := l1Split_head s ⟨t.toArray⟩ ps w (by omega) (by rw [toList_mk]; exact hp)
    generalize (⟨t.toArray⟩ : ByteArray) = tb at *
    have H' := Lib.hid H; clear H hp hne h hn hlen
    go_enter Tryd.func20, Tryd.ntmps20
    go_wp2_with (first | (go_at_call 36; refine (H'.out).mono ?_; rintro e w' ⟨g, n, cap, rfl, hn, hcell, hb⟩) | (go_at_call 34; refine (l1Seal_any _ _ (by omega)).mono ?_; rintro e w' ⟨rfl, m, rfl⟩))
    go_ret2
    exact ⟨rfl, below_drewN hb _⟩
  · clear h
    go_enter Tryd.func20, Tryd.ntmps20
    go_wp2
    go_ret2
    exact ⟨rfl, Below.refl _ _⟩
end Go.Proofs.YteflgljifbcelaaDoor
