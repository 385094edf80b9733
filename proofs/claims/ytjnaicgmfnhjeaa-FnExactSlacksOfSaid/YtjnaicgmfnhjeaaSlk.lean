/- SlacksOf at all lists: the model's and the program's. -/
import Derived.Test.YtjnaicgmfnhjeaaSlkI
namespace Go.Proofs.Ytjnaicgmfnhjeaa
open Go.RowKit Go.Shelf
theorem slackR_no {js : List J} {o : List Int} {l : Int} (h : ¬ (plainL js = true ∧ ordB (js.length : Int) o = true ∧ (0 ≤ l ∧ l ≤ 500))) : slackR js o l = ([], false) := by
  unfold slackR
  rw [if_neg]
  rw [Bool.and_eq_true, Bool.and_eq_true]
  exact fun e => h ⟨e.1, e.2.1, of_decide_eq_true e.2.2⟩
theorem slackR_yes {js : List J} {p : List Nat} {l : Int} (hpl : plainL js = true) (ho : ordB (js.length : Int) (natI p) = true) (h0 : 0 ≤ l) (h1 : l ≤ 500) : slackR js (natI p) l = (slk (gsL l js p), true) := by
  unfold slackR
  rw [hpl, ho, show inB l 0 500 = true from decide_eq_true ⟨h0, h1⟩, natsOf_natI]; rfl
section
variable (A B : Option Addr) (c d : Nat) (js : List J) (o : List Int) (l : Int) (w : World) (hr : Row w A (jc js)) (hq : Row w B (ic o)) (hn : js.length ≤ 10000000) (hm : o.length ≤ 10000000)
include hr hq hn hm
theorem spec_SlacksOf : Calls Try.prog 47 #[.slice A js.length c, .slice B o.length d, .int .i64 l] w (RetIB w (slackR js o l)) := by
  have HLO := Lib.hid (l2Order_any (js.length : Int) B d o)
  cases hpl : plainL js
  · have HE := Lib.hid (slackR_no (js := js) (o := o) (l := l) (fun h => by rw [hpl] at h; cases h.1))
    go_enter Try.func47, Try.ntmps47
    go_wp2_with fail
    refine (spec_IsPlain A c js _ hr (by omega)).mono ?_
    rintro e w1 ⟨rfl, hb1⟩
    rw [hpl]
    go_wp2
    go_ret2
    exact ret_empty HE.out hb1 _ rfl
  · cases ho : ordB (js.length : Int) o
    · have HE := Lib.hid (slackR_no (js := js) (o := o) (l := l) (fun h => by rw [ho] at h; cases h.2.1))
      go_enter Try.func47, Try.ntmps47
      go_wp2_with fail
      refine (spec_IsPlain A c js _ hr (by omega)).mono ?_
      rintro e w1 ⟨rfl, hb1⟩
      rw [hpl]
      go_wp2_with fail
      refine (HLO.out w1 (hq.below hb1) (by omega)).mono ?_
      rintro e _ ⟨rfl, rfl⟩
      rw [ho]
      go_wp2
      go_ret2
      exact ret_empty HE.out hb1 _ rfl
    · by_cases hl : 0 ≤ l ∧ l ≤ 500
      · obtain ⟨p, rfl, hp, _, _⟩ := ord_nat ho
        rw [slackR_yes hpl ho hl.1 hl.2, show (natI p).length = p.length from List.length_map ..]
        exact spec_SlkYes A B c d js p l w hr hq hpl hp hl.1 hl.2
      · have HE := Lib.hid (slackR_no (js := js) (o := o) (l := l) (fun h => hl h.2.2))
        have hib : inB l 0 500 = false := decide_eq_false hl
        clear hl
        go_enter Try.func47, Try.ntmps47
        go_wp2_with fail
        refine (spec_IsPlain A c js _ hr (by omega)).mono ?_
        rintro e w1 ⟨rfl, hb1⟩
        rw [hpl]
        go_wp2_with fail
        refine (HLO.out w1 (hq.below hb1) (by omega)).mono ?_
        rintro e _ ⟨rfl, rfl⟩
        rw [ho]
        go_wp2_with fail
        refine (l1In_any _ _ _ _).mono ?_
        rintro e _ ⟨rfl, rfl⟩
        rw [hib]
        go_wp2
        go_ret2
        exact ret_empty HE.out hb1 _ rfl
omit hr hq hn hm in
theorem bx3_start : Bx3 A B c d js.length o.length l w (((w.alloc (.cells #[.slice A js.length c] 28)).alloc (.cells #[.slice B o.length d] 23)).alloc (.cells #[.int .i64 l] 3)) := by
  refine ⟨((Boxed.new w _ _).alloc _).alloc _, ?_, ?_, (((Below.refl w.heap.size w).alloc (Nat.le_refl _) _).alloc (by simp) _).alloc (by simp; omega) _⟩
  · have h := (Boxed.new (w.alloc (.cells #[.slice A js.length c] 28)) 23 (.slice B o.length d)).alloc (.cells #[.int .i64 l] 3)
    rwa [World.size_alloc] at h
  · have h := Boxed.new ((w.alloc (.cells #[.slice A js.length c] 28)).alloc (.cells #[.slice B o.length d] 23)) 3 (.int .i64 l)
    rwa [World.size_alloc, World.size_alloc] at h
theorem impl_SlacksOf : Calls Try.prog 48 #[.slice A js.length c, .slice B o.length d, .int .i64 l] w (RetIB w (slackR js o l)) := by
  have H3 := Lib.hid (bx3_start A B c d js o l w)
  have HIP := Lib.hid (impl_IsPlain A c js _ (hr.below H3.out.2.2.2) (by omega))
  have HIO := Lib.hid (IsOrder_any (js.length : Int) B d o)
  cases hpl : plainL js
  · have HE := Lib.hid (slackR_no (js := js) (o := o) (l := l) (fun h => by rw [hpl] at h; cases h.1))
    rw [hpl] at HIP
    go_enter Try.func48, Try.ntmps48
    go_wp2_with fail
    refine HIP.out.mono ?_
    rintro e w1 ⟨rfl, hb1⟩
    have H1 := Lib.hid (H3.out.step hb1)
    clear H3 hb1
    go_wp2
    go_ret2
    exact ret_empty HE.out H1.out.2.2.2 _ rfl
  · rw [hpl] at HIP
    cases ho : ordB (js.length : Int) o
    · have HE := Lib.hid (slackR_no (js := js) (o := o) (l := l) (fun h => by rw [ho] at h; cases h.2.1))
      go_enter Try.func48, Try.ntmps48
      go_wp2_with fail
      refine HIP.out.mono ?_
      rintro e w1 ⟨rfl, hb1⟩
      have H1 := Lib.hid (H3.out.step hb1)
      have ca := H1.out.1.cell
      have cb := H1.out.2.1.cell
      clear H3 hb1
      go_wp2_with fail
      refine (HIO.out w1 (hq.below H1.out.2.2.2) (by omega)).mono ?_
      rintro e w2 ⟨rfl, hb2⟩
      have H2 := Lib.hid (H1.out.step hb2)
      rw [ho]
      clear H1 hb2 ca cb
      go_wp2
      go_ret2
      exact ret_empty HE.out H2.out.2.2.2 _ rfl
    · by_cases hl : 0 ≤ l ∧ l ≤ 500
      · obtain ⟨p, rfl, hp, _, _⟩ := ord_nat ho
        rw [slackR_yes hpl ho hl.1 hl.2, show (natI p).length = p.length from List.length_map ..]
        exact impl_SlkYes A B c d js p l w hr hq hpl hp hl.1 hl.2
      · have HE := Lib.hid (slackR_no (js := js) (o := o) (l := l) (fun h => hl h.2.2))
        have hl' : l < 0 ∨ 500 < l := by omega
        clear hl
        go_enter Try.func48, Try.ntmps48
        go_wp2_with fail
        refine HIP.out.mono ?_
        rintro e w1 ⟨rfl, hb1⟩
        have H1 := Lib.hid (H3.out.step hb1)
        have ca := H1.out.1.cell
        have cb := H1.out.2.1.cell
        clear H3 hb1
        go_wp2_with fail
        refine (HIO.out w1 (hq.below H1.out.2.2.2) (by omega)).mono ?_
        rintro e w2 ⟨rfl, hb2⟩
        have H2 := Lib.hid (H1.out.step hb2)
        have cc := H2.out.2.2.1.cell
        rw [ho]
        clear H1 hb2 ca cb
        rcases hl' with hl' | hl'
        · go_wp2
          go_ret2
          exact ret_empty HE.out H2.out.2.2.2 _ rfl
        · have hl2 : ¬ l < 0 := by omega
          go_wp2
          go_ret2
          exact ret_empty HE.out H2.out.2.2.2 _ rfl
end
end Go.Proofs.Ytjnaicgmfnhjeaa
