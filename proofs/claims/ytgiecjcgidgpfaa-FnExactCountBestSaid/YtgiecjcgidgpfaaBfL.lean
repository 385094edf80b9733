/- A whole order, in the program's search. -/
import Derived.Test.YtgiecjcgidgpfaaBfE
namespace Go.Proofs.Ytgiecjcgidgpfaa
open Go.RowKit
section
variable {k : Bl} {AJ : Option Addr} {cJ : Nat} {js : List J} {o : Int} {fv : Value} {w : World} {b : List Nat} {t : Bst} {A : Option Addr} {c : Nat}
theorem EnvB.count (h : EnvB k AJ cJ js o fv w b t A c) (n' : Nat) : EnvB k AJ cJ js o fv (w.setCell ⟨k.best, 2, none⟩ (.int .i64 (n' : Int))) b ⟨t.v, t.first, n'⟩ A c := by
  obtain ⟨h1, h2, h3, h4, ⟨cur, h5, h6, h7⟩, h8, h9, h10, h11⟩ := h
  have K : ∀ {g : Nat} {T : TypeId} {cs : Array Value}, BlockIs w g T cs → T ≠ 101 → BlockIs (w.setCell ⟨k.best, 2, none⟩ (.int .i64 (n' : Int))) g T cs := fun hg hT => hg.keep_ne (ne_type hg h1 hT) _ _
  exact ⟨h1.set 2 _, own_keep h2 h1 (by decide) _ _, h3, K h4 (by decide), ⟨cur, K h5 (by decide), h6, h7⟩, K h8 (by decide), K h9 (by decide), K h10 (by decide), K h11 (by decide)⟩
def BfOut (k : Bl) (AJ : Option Addr) (cJ : Nat) (js : List J) (o : Int) (fv : Value) (w : World) (b : List Nat) (r : Bst) (e : Ending) (w' : World) : Prop :=
  e = .returned (.tuple #[]) ∧ (∃ A c, EnvB k AJ cJ js o fv w' b r A c) ∧ Below k.base w w'
set_option maxRecDepth 100000 in
set_option maxHeartbeats 4000000 in
theorem bf_leaf (h : EnvB k AJ cJ js o fv w b t A c) (hb0 : k.base ≤ k.best) (hbw : k.base ≤ w.heap.size) (h8 : js.length ≤ 8) (hl : b.length = js.length) (e v : Int) (hcut : ¬ (0 < t.n ∧ t.v < v)) (hC : t.n ≤ 1000000000) :
    Calls Try.prog 172 (bfArgs k e v) w (BfOut k AJ cJ js o fv w b (leafB b v t)) := by
  have h0 := h.best.cell 0
  have h1 := h.best.cell 1
  have h2 := h.best.cell 2
  have f0 := h.best.frozen 0
  have f1 := h.best.frozen 1
  have f2 := h.best.frozen 2
  have q0 := h.order.cell 0
  have j0' := h.jobs.cell 0
  simp at h0 h1 h2 q0 j0'
  rw [hl] at q0
  have HE := Lib.hid h
  have hbl : (b.length : Int) = js.length := by omega
  by_cases hnew : t.n = 0 ∨ v < t.v
  · have HL : Hid (leafB b v t = ⟨v, b, 1⟩) := by
      show _ = _
      unfold leafB; rw [if_pos hnew]
    obtain ⟨cur, hB5, hs5, ht5⟩ := h.arr
    have hrow : Row w (some ⟨k.arr, 0, none⟩) (ic (natI b)) := Row.of_own (base := 0) (e := 3) (n := js.length) (size := 1) (c := js.length) (by
      have hh := hB5.own (base := 0) (n := js.length) (c := js.length) (size := 1) (by omega) (by omega) (by omega) (by unfold maxLen; omega) (by omega)
      rw [Nat.mul_one, ← hl, ht5, hl] at hh
      exact hh)
    have hown0 := clone_some ⟨k.arr, 0, none⟩ js.length (natI b) w hrow (by rw [natI_len]; omega)
    rw [natI_len, hl] at hown0
    have HO := Lib.hid hown0
    have harr := hB5.lt
    clear hown0 hrow hB5 h
    by_cases hz : t.n = 0
    · have d0 : ¬ (0 : Int) < t.n := by omega
      have d1 : (t.n : Int) = 0 := by omega
      unfold bfArgs ptr
      go_enter Try.func172, Try.ntmps172
      go_wp2_with fail
      refine HO.out.mono ?_
      rintro e9 w2 ⟨ad', c', rfl, hown, hb2⟩
      have hE2 := HE.out.below hb2
      have g0 := hE2.best.cell 0
      have g1 := hE2.best.cell 1
      have g2 := hE2.best.cell 2
      have k0 := hE2.best.frozen 0
      have k1 := hE2.best.frozen 1
      have k2 := hE2.best.frozen 2
      simp at g0 g1 g2
      have hadn : (Value.slice (some ad') js.length c').ownBlock ≠ some k.arr := fun hh => by
        have := (hown.lt k.arr hh).1
        omega
      have HX := Lib.hid (And.intro hE2 (And.intro (own_lower hown hbw) (And.intro hadn (hb2.mono hbw))))
      clear hE2 hown hadn hb2 h0 h1 h2 f0 f1 f2
      go_wp2
      (try simp only [Exit.inBlock, Exit.then])
      refine bodyPost_ret (results_none rfl _ _ _) rfl ?_
      rw [HL.out]
      obtain ⟨hE2, hown, hadn, hbz⟩ := HX.out
      have hP := hE2.put (t' := ⟨v, b, 0⟩) (A' := some ad') (c' := c') (by simp only; rw [hl]; exact hown) (by simp only; rw [hl]; exact hadn) rfl
      have hP2 := hP.count 1
      simp only [hl] at hP2
      exact ⟨rfl, ⟨some ad', c', hP2⟩, (((hbz.setCell (p := ⟨k.best, 0, none⟩) hb0 _).setCell (p := ⟨k.best, 1, none⟩) hb0 _).setCell (p := ⟨k.best, 2, none⟩) hb0 _).setCell (p := ⟨k.best, 2, none⟩) hb0 _⟩
    · have d0 : (0 : Int) < t.n := by omega
      have d1 : ¬ (t.n : Int) = 0 := by omega
      have d2 : v < t.v := by omega
      have d3 : ¬ t.v < v := by omega
      unfold bfArgs ptr
      go_enter Try.func172, Try.ntmps172
      go_wp2_with fail
      refine HO.out.mono ?_
      rintro e9 w2 ⟨ad', c', rfl, hown, hb2⟩
      have hE2 := HE.out.below hb2
      have g0 := hE2.best.cell 0
      have g1 := hE2.best.cell 1
      have g2 := hE2.best.cell 2
      have k0 := hE2.best.frozen 0
      have k1 := hE2.best.frozen 1
      have k2 := hE2.best.frozen 2
      simp at g0 g1 g2
      have hadn : (Value.slice (some ad') js.length c').ownBlock ≠ some k.arr := fun hh => by
        have := (hown.lt k.arr hh).1
        omega
      have HX := Lib.hid (And.intro hE2 (And.intro (own_lower hown hbw) (And.intro hadn (hb2.mono hbw))))
      clear hE2 hown hadn hb2 h0 h1 h2 f0 f1 f2
      go_wp2
      (try simp only [Exit.inBlock, Exit.then])
      refine bodyPost_ret (results_none rfl _ _ _) rfl ?_
      rw [HL.out]
      obtain ⟨hE2, hown, hadn, hbz⟩ := HX.out
      have hP := hE2.put (t' := ⟨v, b, 0⟩) (A' := some ad') (c' := c') (by simp only; rw [hl]; exact hown) (by simp only; rw [hl]; exact hadn) rfl
      have hP2 := hP.count 1
      simp only [hl] at hP2
      exact ⟨rfl, ⟨some ad', c', hP2⟩, (((hbz.setCell (p := ⟨k.best, 0, none⟩) hb0 _).setCell (p := ⟨k.best, 1, none⟩) hb0 _).setCell (p := ⟨k.best, 2, none⟩) hb0 _).setCell (p := ⟨k.best, 2, none⟩) hb0 _⟩
  · have hv : v = t.v := by omega
    have HL : Hid (leafB b v t = ⟨t.v, t.first, t.n + 1⟩) := by
      show _ = _
      unfold leafB; rw [if_neg hnew, if_pos hv]
    have d0 : (0 : Int) < t.n := by omega
    have d1 : ¬ (t.n : Int) = 0 := by omega
    have HB := Lib.hid (And.intro hb0 hbw)
    clear h
    subst hv
    unfold bfArgs ptr
    go_enter Try.func172, Try.ntmps172
    go_wp2
    (try simp only [Exit.inBlock, Exit.then])
    refine bodyPost_ret (results_none rfl _ _ _) rfl ?_
    rw [HL.out]
    exact ⟨rfl, ⟨A, c, HE.out.count (t.n + 1)⟩, (Below.refl k.base w).setCell (p := ⟨k.best, 2, none⟩) HB.out.1 _⟩
end
end Go.Proofs.Ytgiecjcgidgpfaa
