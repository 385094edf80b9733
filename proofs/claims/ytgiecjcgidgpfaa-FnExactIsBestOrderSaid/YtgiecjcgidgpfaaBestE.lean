/- The best orders for an objective: the program's. -/
import Derived.Test.YtgiecjcgidgpfaaBfO
import Derived.Test.YtgiecjcgidgpfaaGood
namespace Go.Proofs.Ytgiecjcgidgpfaa
open Go.RowKit
/-- What bestOf hands back. -/
def BestOut (js : List J) (o : Int) (w : World) (e : Ending) (w' : World) : Prop :=
  Below w.heap.size w w' ∧ (((goodL js && isObj o) = false ∧ e = .returned (.tuple #[.agg #[.int .i64 0, .slice none 0 0, .int .i64 0], .bool false])) ∨
    ((goodL js && isObj o) = true ∧ ∃ A c, e = .returned (.tuple #[.agg #[.int .i64 (bestL o js).v, .slice A (bestL o js).first.length c, .int .i64 ((bestL o js).n : Int)], .bool true]) ∧ w'.ownsRow w.heap.size 3 1 (.slice A (bestL o js).first.length c) (bestL o js).first.length (ic (natI (bestL o js).first))))
section
variable (AJ : Option Addr) (cJ : Nat) (js : List J) (o : Int) (w : World) (hr : Row w AJ (jc js)) (hn : js.length ≤ 10000000)
include hr hn
set_option maxRecDepth 100000 in
set_option maxHeartbeats 1000000 in
theorem bestOf_any : Calls Try.prog 108 #[.slice AJ js.length cJ, .int .i64 o] w (BestOut js o w) := by
  have hR0 := BlockIs.new w 101 #[.int .i64 0, .slice none 0 0, .int .i64 0]
  have hb0 := (Below.refl w.heap.size w).alloc (Nat.le_refl _) (.cells #[.int .i64 0, .slice none 0 0, .int .i64 0] 101)
  have hz0 : (w.alloc (.cells #[.int .i64 0, .slice none 0 0, .int .i64 0] 101)).heap.size = w.heap.size + 1 := by simp
  have HZ := Lib.hid (And.intro hR0 (And.intro hb0 hz0))
  clear hR0 hb0 hz0
  go_enter Try.func108, Try.ntmps108
  go_wp2_with fail
  refine (measureOf_any o _).mono ?_
  rintro e w1 ⟨hb1, hor⟩
  have hR1 := HZ.out.1.below hb1
  have hbw1 := HZ.out.2.1.trans (hb1.mono HZ.out.2.1.size)
  have hlt : w.heap.size < w1.heap.size := by have := hb1.size; have := HZ.out.2.2; omega
  rcases hor with ⟨ho, rfl⟩ | ⟨ho, fv, rfl, hF⟩
  · have hst := store_pair Try.prog w1 .nilFunc .nilFunc (.bool false) 93 rfl
    have s0 := hR1.cell 0
    have s1 := hR1.cell 1
    have s2 := hR1.cell 2
    have g0 := hR1.frozen 0
    have g1 := hR1.frozen 1
    have g2 := hR1.frozen 2
    simp at s0 s1 s2
    have HX := Lib.hid hbw1
    have HO : Hid ((goodL js && isObj o) = false) := by show _ = _; rw [ho, Bool.and_false]
    clear hR1 hbw1 hb1 ho
    go_wp2
    (try simp only [Exit.inBlock, Exit.then])
    refine bodyPost_ret (v := .tuple #[.agg #[.int .i64 0, .slice none 0 0, .int .i64 0], .bool false]) (by simp [results, Try.results108, s0, s1, s2, hlt, go_sem]) rfl ?_
    exact ⟨(((HX.out.setCell (p := ⟨w.heap.size, 0, none⟩) (Nat.le_refl _) _).setCell (p := ⟨w.heap.size, 1, none⟩) (Nat.le_refl _) _).setCell (p := ⟨w.heap.size, 2, none⟩) (Nat.le_refl _) _).alloc (by simp [World.setCell]; omega) _, .inl ⟨HO.out, rfl⟩⟩
  · have hF1 := hF
    obtain ⟨f, caps, rfl, -, -⟩ := cost_call hF
    have hst := store_pair Try.prog w1 (.func (.func f) #[] caps) .nilFunc (.bool false) 93 rfl
    have hba := (Below.refl w1.heap.size w1).alloc (Nat.le_refl _) (.cells #[.func (.func f) #[] caps, .bool (isTop o)] 93)
    have hM0 := BlockIs.new w1 93 #[.func (.func f) #[] caps, .bool (isTop o)]
    have hR2 := hR1.below hba
    have hbw2 := hbw1.trans (hba.mono hbw1.size)
    have HX := Lib.hid (And.intro hR2 (And.intro hbw2 (And.intro hM0 (And.intro (hr.below hbw2) (hF1.keep (fun b hb => hba.block b hb))))))
    clear hR1 hR2 hba hbw1 hb1 hF hF1 hM0 hbw2
    go_wp2_with fail
    refine (IsJobs_any AJ cJ js _ HX.out.2.2.2.1 (by omega)).mono ?_
    rintro e w2 ⟨rfl, hb2⟩
    obtain ⟨hR2, hbw2, hM0, hr2, hF2⟩ := HX.out
    have hR3 := hR2.below hb2
    have hbw3 := hbw2.trans (hb2.mono hbw2.size)
    have hlt2 : w1.heap.size + 1 ≤ w2.heap.size := by have := hb2.size; simp at this; omega
    cases hgd : goodL js
    · have r0 := hR3.cell 0
      have r1 := hR3.cell 1
      have r2 := hR3.cell 2
      have f0 := hR3.frozen 0
      have f1 := hR3.frozen 1
      have f2 := hR3.frozen 2
      simp at r0 r1 r2
      have HO : Hid ((goodL js && isObj o) = false) := by show _ = _; rw [hgd]; rfl
      have HB := Lib.hid hbw3
      clear hR2 hR3 hbw2 hbw3 hM0 hr2 hF2 hb2 HX hgd ho hst
      go_wp2
      (try simp only [Exit.inBlock, Exit.then])
      refine bodyPost_ret (v := .tuple #[.agg #[.int .i64 0, .slice none 0 0, .int .i64 0], .bool false]) (by simp [results, Try.results108, r0, r1, r2, go_sem]) rfl ?_
      exact ⟨((HB.out.setCell (p := ⟨w.heap.size, 0, none⟩) (Nat.le_refl _) _).setCell (p := ⟨w.heap.size, 1, none⟩) (Nat.le_refl _) _).setCell (p := ⟨w.heap.size, 2, none⟩) (Nat.le_refl _) _, .inl ⟨HO.out, rfl⟩⟩
    · have hM3 := hM0.below hb2
      have m0 := hM3.cell 0
      have m1 := hM3.cell 1
      simp at m0 m1
      have HO : Hid ((goodL js && isObj o) = true) := by show _ = _; rw [hgd, ho]; rfl
      have HC := Lib.hid (bestFor_any (w := w2) AJ cJ (hr2.below hb2) ((hF2.keep (fun b hb => hb2.block b (by simp; omega))).up (show w1.heap.size ≤ w2.heap.size by omega)) ho hgd)
      have HB := Lib.hid (And.intro hR3 hbw3)
      clear hR2 hR3 hbw2 hbw3 hM0 hr2 hF2 hb2 HX hgd ho hM3 hst
      go_wp2_with fail
      refine HC.out.mono ?_
      rintro e w3 ⟨A, c, rfl, hown, hb3⟩
      have hR4 := HB.out.1.below hb3
      have r0 := hR4.cell 0
      have r1 := hR4.cell 1
      have r2 := hR4.cell 2
      have f0 := hR4.frozen 0
      have f1 := hR4.frozen 1
      have f2 := hR4.frozen 2
      simp at r0 r1 r2
      have hbw4 := HB.out.2.trans (hb3.mono HB.out.2.size)
      have HE := Lib.hid (And.intro hR4 (And.intro hbw4 (own_lower hown HB.out.2.size)))
      generalize htt : bestL o js = tt at *
      have HT := Lib.hid htt
      clear hR4 hbw4 hown hb3 HC HB htt m0 m1
      unfold bestS
      go_wp2
      (try simp only [Exit.inBlock, Exit.then])
      refine bodyPost_ret (v := .tuple #[.agg #[.int .i64 tt.v, .slice A tt.first.length c, .int .i64 (tt.n : Int)], .bool true]) (by simp [results, Try.results108, r0, r1, r2, go_sem]) rfl ?_
      obtain ⟨hR4, hbw4, hown⟩ := HE.out
      refine ⟨((hbw4.setCell (p := ⟨w.heap.size, 0, none⟩) (Nat.le_refl _) _).setCell (p := ⟨w.heap.size, 1, none⟩) (Nat.le_refl _) _).setCell (p := ⟨w.heap.size, 2, none⟩) (Nat.le_refl _) _, .inr ⟨HO.out, A, c, by rw [HT.out], ?_⟩⟩
      rw [HT.out]
      exact own_keep (own_keep (own_keep hown hR4 (by decide) _ _) (hR4.set 0 _) (by decide) _ _) ((hR4.set 0 _).set 1 _) (by decide) _ _
end
end Go.Proofs.Ytgiecjcgidgpfaa
