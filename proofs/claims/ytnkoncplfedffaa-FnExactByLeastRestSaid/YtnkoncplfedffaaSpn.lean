/- Spans in memory: the laws' helpers over slices of spans. -/
import Derived.Test.YtnkoncplfedffaaSegH
import Derived.Test.YtnkoncplfedffaaSpP
namespace Go.Proofs.Ytnkoncplfedffaa
open Go.RowKit

def cellsSp (j : Sp) : List Value := [.int .i64 j.j, .int .i64 j.f, .int .i64 j.t]
abbrev aggSp (j : Sp) : Value := .agg #[.int .i64 j.j, .int .i64 j.f, .int .i64 j.t]
def spc (js : List Sp) : List Value := js.flatMap cellsSp
theorem spc_len : ∀ js : List Sp, (spc js).length = 3 * js.length
  | [] => rfl
  | j :: js => by
    show (cellsSp j ++ spc js).length = _
    rw [List.length_append, spc_len js]; simp [cellsSp]; omega
theorem spc_get : ∀ (js : List Sp) (k i : Nat) (hk : k < js.length), i < 3 → (spc js)[k * 3 + i]? = (cellsSp js[k])[i]?
  | [], _, _, h, _ => by cases h
  | j :: js, 0, i, _, hi => by
    show (cellsSp j ++ spc js)[0 * 3 + i]? = _
    rw [List.getElem?_append_left (by simp [cellsSp]; omega)]
    simp
  | j :: js, k + 1, i, h, hi => by
    show (cellsSp j ++ spc js)[(k + 1) * 3 + i]? = _
    rw [List.getElem?_append_right (by simp [cellsSp]; omega)]
    rw [show (k + 1) * 3 + i - (cellsSp j).length = k * 3 + i by simp [cellsSp]; omega]
    exact spc_get js k i (by simpa using h) hi
theorem Row.span {w : World} {A : Option Addr} {js : List Sp} (h : Row w A (spc js)) {k : Nat} (hk : k < js.length) : ∃ ad, A = some ad ∧ ad.block < w.heap.size ∧
    w.cell? (ad.add (k * 3)) = some (.int .i64 js[k].j) ∧ w.cell? ⟨(ad.add (k * 3)).block, (ad.add (k * 3)).off + 1, none⟩ = some (.int .i64 js[k].f) ∧ w.cell? ⟨(ad.add (k * 3)).block, (ad.add (k * 3)).off + 2, none⟩ = some (.int .i64 js[k].t) := by
  obtain ⟨ad, hA, hb, hc⟩ := h (by rw [spc_len]; omega)
  refine ⟨ad, hA, hb, ?_, ?_, ?_⟩
  · exact hc _ _ (spc_get js k 0 hk (by omega))
  · exact (congrArg w.cell? (add_add ad (k * 3) 1)).trans (hc _ _ (spc_get js k 1 hk (by omega)))
  · exact (congrArg w.cell? (add_add ad (k * 3) 2)).trans (hc _ _ (spc_get js k 2 hk (by omega)))

theorem infoSp : (Try.prog.info? 67).map (fun i => (i.zero, i.size, i.bytes)) = some (some (.agg #[.int .i64 0, .int .i64 0, .int .i64 0]), 3, 24) := by kernel_rfl
/-- Three cells of a block, from a place on, are set. -/
def set3 (cs : Array Value) (p : Nat) (j : Sp) : Array Value := ((cs.setIfInBounds p (.int .i64 j.j)).setIfInBounds (p + 1) (.int .i64 j.f)).setIfInBounds (p + 2) (.int .i64 j.t)
theorem set3_size (cs : Array Value) (p : Nat) (j : Sp) : (set3 cs p j).size = cs.size := by unfold set3; simp
theorem Upto.step3 {js : List Sp} {k : Nat} {cs : Array Value} (h : Upto (spc js) (k * 3) cs) (hk : k < js.length) : Upto (spc js) ((k + 1) * 3) (set3 cs (k * 3) js[k]) := by
  have hl := spc_len js
  have g0 : (spc js)[k * 3]'(by omega) = .int .i64 js[k].j := by
    have := spc_get js k 0 hk (by omega); rw [List.getElem?_eq_getElem (by omega)] at this; exact Option.some.inj this
  have g1 : (spc js)[k * 3 + 1]'(by omega) = .int .i64 js[k].f := by
    have := spc_get js k 1 hk (by omega); rw [List.getElem?_eq_getElem (by omega)] at this; exact Option.some.inj this
  have g2 : (spc js)[k * 3 + 2]'(by omega) = .int .i64 js[k].t := by
    have := spc_get js k 2 hk (by omega); rw [List.getElem?_eq_getElem (by omega)] at this; exact Option.some.inj this
  have h1 := h.step (by omega)
  rw [g0] at h1
  have h2 := h1.step (by omega)
  rw [g1] at h2
  have h3 := h2.step (by omega)
  rw [g2] at h3
  rw [show (k + 1) * 3 = k * 3 + 1 + 1 + 1 by omega]
  exact h3
theorem BlockIs.set3 {w : World} {g : Nat} {t : TypeId} {cs : Array Value} (h : BlockIs w g t cs) (p : Nat) (j : Sp) :
    BlockIs (((w.setCell ⟨g, p, none⟩ (.int .i64 j.j)).setCell ⟨g, p + 1, none⟩ (.int .i64 j.f)).setCell ⟨g, p + 2, none⟩ (.int .i64 j.t)) g t (set3 cs p j) :=
  ((h.set p _).set (p + 1) _).set (p + 2) _
theorem eqSpan_same (j : Sp) (w : World) :
    Calls Try.prog 49 #[.agg #[.int .i64 j.j, .int .i64 j.f, .int .i64 j.t], .agg #[.int .i64 j.j, .int .i64 j.f, .int .i64 j.t]] w fun e w' => e = .returned (.bool true) ∧ Below w.heap.size w w' := by
  go_enter Try.func49, Try.ntmps49
  go_wp2
  go_ret
  exact ⟨rfl, ((Below.refl _ _).alloc (Nat.le_refl _) _).alloc (by simp) _⟩
theorem eqSpanS_same (A B : Option Addr) (c d : Nat) (js : List Sp) (w : World) (hr : Row w A (spc js)) (hq : Row w B (spc js)) (hn : js.length ≤ 10000000) :
    Calls Try.prog 22 #[.slice A js.length c, .slice B js.length d] w fun e w' => e = .returned (.bool true) ∧ Below w.heap.size w w' := by
  go_enter Try.func22, Try.ntmps22
  go_wp2
  go_loopw [5] (fun i wr => ∃ k : Nat, k ≤ js.length ∧ i = .int .i64 k ∧ Below w.heap.size w wr) (fun i _ => js.length - (intOf i).toNat)
  case atStart => exact ⟨0, Nat.zero_le _, rfl, Below.refl _ _⟩
  case round =>
    obtain ⟨k, hk, rfl, hb⟩ := hrel
    by_cases hlt : k < js.length
    · obtain ⟨a, hA, _, hc0, hc1, hc2⟩ := (hr.below hb).span hlt
      obtain ⟨b, hB, _, hd0, hd1, hd2⟩ := (hq.below hb).span hlt
      subst hA hB
      have HB := Lib.hid hb
      clear hr hq hb
      generalize js[k] = j at *
      have hi : (0 : Int) ≤ k := by omega
      have hi' : (k : Int) < js.length := by omega
      go_wp2
      go_region_with (go_at_call 49; refine (eqSpan_same j _).mono ?_; rintro e w1 ⟨rfl, hb1⟩)
      all_goals
        go_wp2
        go_roundw
        case rel => exact ⟨k + 1, by omega, by go_num, HB.out.trans ((⟨hb1.os, hb1.tape, hb1.output, hb1.size, hb1.block⟩ : Below wr.heap.size wr w1).mono HB.out.size)⟩
        case measure => simp [intOf]; omega
    · go_wp2
      go_ret
      exact ⟨rfl, hb⟩
theorem markSpanS_none (A : Option Addr) (c : Nat) (k : Int) (w : World) :
    Calls Try.prog 24 #[.slice A 0 c, .int .i64 k] w fun e w' => e = .returned (.int .i64 k) ∧ w = w' := by
  go_enter Try.func24, Try.ntmps24
  go_wp2
  refine wp_loop_rounds 1 ?_
  rw [rounds_succ]
  go_wp2
  go_ret
  exact ⟨rfl, rfl⟩
def numSp (k : Nat) : Sp := ⟨(k : Int), (k : Int) + 1, (k : Int) + 1 + 1⟩
def numsSp (k n : Nat) : List Sp := (List.range n).map fun i => numSp (k + 3 * i)
theorem numsSp_len (k n : Nat) : (numsSp k n).length = n := by unfold numsSp; simp
theorem numsSp_get (k n i : Nat) (h : i < n) : (numsSp k n)[i]'(by rw [numsSp_len]; exact h) = numSp (k + 3 * i) := by unfold numsSp; simp
theorem PreC.step3 {js : List Sp} {k : Nat} {cs : Array Value} (h : PreC (spc js) (k * 3) cs) (hk : k < js.length) : PreC (spc js) ((k + 1) * 3) (set3 cs (k * 3) js[k]) := by
  have hl := spc_len js
  have g0 : (spc js)[k * 3]'(by omega) = .int .i64 js[k].j := by
    have := spc_get js k 0 hk (by omega); rw [List.getElem?_eq_getElem (by omega)] at this; exact Option.some.inj this
  have g1 : (spc js)[k * 3 + 1]'(by omega) = .int .i64 js[k].f := by
    have := spc_get js k 1 hk (by omega); rw [List.getElem?_eq_getElem (by omega)] at this; exact Option.some.inj this
  have g2 : (spc js)[k * 3 + 2]'(by omega) = .int .i64 js[k].t := by
    have := spc_get js k 2 hk (by omega); rw [List.getElem?_eq_getElem (by omega)] at this; exact Option.some.inj this
  have h1 := h.step (by omega)
  rw [g0] at h1
  have h2 := h1.step (by omega)
  rw [g1] at h2
  have h3 := h2.step (by omega)
  rw [g2] at h3
  rw [show (k + 1) * 3 = k * 3 + 1 + 1 + 1 by omega]
  exact h3
theorem markSpanS_some (g c n k0 : Nat) (cs0 : Array Value) (w : World) (h : BlockIs w g 67 cs0) (hn : cs0.size = c * 3) (hnc : n ≤ c) (hn1 : n ≤ 10000000) (hk1 : k0 ≤ 1000000000) :
    Calls Try.prog 24 #[.slice (some ⟨g, 0, none⟩) n c, .int .i64 (k0 : Int)] w fun e w' => e = .returned (.int .i64 ((k0 + 3 * n : Nat) : Int)) ∧ (∃ cs, cs.size = cs0.size ∧ BlockIs w' g 67 cs ∧ cs.toList.take (n * 3) = spc (numsSp k0 n)) ∧ w.grownBy w' (some g) ∧ w'.heap.size = w.heap.size := by
  go_enter Try.func24, Try.ntmps24
  go_wp2
  go_loopw [1, 5] (fun k i wr => ∃ (m : Nat) (cs : Array Value), m ≤ n ∧ i = .int .i64 (m : Int) ∧ k = .int .i64 ((k0 + 3 * m : Nat) : Int) ∧ cs.size = cs0.size ∧ BlockIs wr g 67 cs ∧ Hid (PreC (spc (numsSp k0 n)) (m * 3) cs) ∧ w.grownBy wr (some g) ∧ Hid (wr.heap.size = w.heap.size)) (fun _ i _ => n - (intOf i).toNat)
  case atStart => exact ⟨0, cs0, Nat.zero_le _, rfl, by go_num, rfl, h, ⟨by rw [spc_len, numsSp_len]; omega, by omega⟩, ⟨rfl, rfl, rfl, Nat.le_refl _, fun _ _ _ => rfl⟩, rfl⟩
  case round =>
    obtain ⟨m, cs, hm, rfl, rfl, hz, hB, hP, hG, hsz⟩ := hrel
    by_cases hlt : m < n
    · have hi : (0 : Int) ≤ m := by omega
      have hi' : (m : Int) < n := by omega
      obtain ⟨v0, hk0⟩ := hB.has (i := m * 3) (by omega)
      obtain ⟨v1, hk1⟩ := hB.has (i := m * 3 + 1) (by omega)
      obtain ⟨v2, hk2⟩ := hB.has (i := m * 3 + 2) (by omega)
      have hf0 := hB.frozen (m * 3)
      have hf1 := hB.frozen (m * 3 + 1)
      have hf2 := hB.frozen (m * 3 + 2)
      have HB := Lib.hid (hB.set3 (m * 3) (numSp (k0 + 3 * m)))
      have HG := Lib.hid (grown_setCell (grown_setCell (grown_setCell hG (m * 3) (.int .i64 (numSp (k0 + 3 * m)).j)) (m * 3 + 1) (.int .i64 (numSp (k0 + 3 * m)).f)) (m * 3 + 2) (.int .i64 (numSp (k0 + 3 * m)).t))
      have HZ := hsz
      have HZ2 := Lib.hid hz
      have hcast : ((k0 + 3 * m : Nat) : Int) = (k0 : Int) + 3 * m := by omega
      have HP := Lib.hid (hP.out.step3 (by rw [numsSp_len]; exact hlt))
      have HN := Lib.hid (numsSp_get k0 n m hlt)
      rw [HN.out] at HP
      have HS := Lib.hid (set3_size cs (m * 3) (numSp (k0 + 3 * m)))
      simp only [numSp, hcast] at HB HG
      clear hB hG h hz hsz hP
      go_wp2
      go_roundw
      case rel => exact ⟨m + 1, set3 cs (m * 3) (numSp (k0 + 3 * m)), by omega, by go_num, by go_num, by rw [HS.out]; exact HZ2.out, by simpa only [numSp, hcast] using HB.out, HP.out, HG.out, by show _ = _; simpa [World.setCell] using HZ.out⟩
      case measure => simp [intOf]; omega
    · obtain rfl : m = n := by omega
      go_wp2
      go_ret
      refine ⟨rfl, ⟨cs, hz, hB, ?_⟩, hG, hsz.out⟩
      have hP' := hP.out
      rw [show m * 3 = (spc (numsSp k0 m)).length by rw [spc_len, numsSp_len]; omega] at hP' ⊢
      exact hP'.all
theorem markSpanS_own (A : Option Addr) (c n k0 B : Nat) (cs : List Value) (w : World) (h : w.ownsRow B 67 3 (.slice A n c) n cs) (hn1 : n ≤ 10000000) (hk1 : k0 ≤ 1000000000) (hBw : B ≤ w.heap.size) :
    Calls Try.prog 24 #[.slice A n c, .int .i64 (k0 : Int)] w fun e w' => e = .returned (.int .i64 ((k0 + 3 * n : Nat) : Int)) ∧ w'.ownsRow B 67 3 (.slice A n c) n (spc (numsSp k0 n)) ∧ Below B w w' ∧ w.grownBy w' (Value.slice A n c).ownBlock ∧ w'.heap.size = w.heap.size := by
  by_cases h0 : n = 0
  · subst h0
    refine (markSpanS_none A c k0 w).mono ?_
    rintro e w' ⟨rfl, rfl⟩
    have hcs : cs = [] := List.eq_nil_of_length_eq_zero (by have := h.1; simpa using this)
    subst hcs
    exact ⟨rfl, h, Below.refl _ _, World.grownBy.refl _ _, rfl⟩
  · obtain ⟨g, cur, rfl, hg, hB, h1, h2, h3, h4⟩ := own_block h (by omega)
    refine (markSpanS_some g c n k0 cur w hB (by omega) h1 hn1 hk1).mono ?_
    rintro e w' ⟨rfl, ⟨cs', hz, hB', hm⟩, hG, hs⟩
    refine ⟨rfl, ?_, ⟨hG.os, hG.tape, hG.output, hG.size, fun k hk => hG.block k (by omega) (fun e => by injection e; omega)⟩, hG, hs⟩
    have := hB'.own (base := B) (n := n) (c := c) (size := 3) hg (by omega) h1 h2 (by omega)
    rwa [hm] at this
theorem heldSpanS_same (A : Option Addr) (c n k0 : Nat) (w : World) (hr : Row w A (spc (numsSp k0 n))) (hn1 : n ≤ 10000000) (hk1 : k0 ≤ 1000000000) :
    Calls Try.prog 25 #[.slice A n c, .int .i64 (k0 : Int)] w fun e w' => e = .returned (.int .i64 ((k0 + 3 * n : Nat) : Int)) ∧ w = w' := by
  go_enter Try.func25, Try.ntmps25
  go_wp2
  go_loop [1, 5] (fun k i => ∃ m : Nat, m ≤ n ∧ i = .int .i64 (m : Int) ∧ k = .int .i64 ((k0 + 3 * m : Nat) : Int)) (fun _ i => n - (intOf i).toNat)
  case atStart => exact ⟨0, Nat.zero_le _, rfl, by go_num⟩
  case round =>
    obtain ⟨m, hm, rfl, rfl⟩ := hrel
    by_cases hlt : m < n
    · obtain ⟨ad, hA, _, hc0, hc1, hc2⟩ := hr.span (k := m) (by rw [numsSp_len]; exact hlt)
      rw [numsSp_get k0 n m hlt] at hc0 hc1 hc2
      subst hA
      have hi : (0 : Int) ≤ m := by omega
      have hi' : (m : Int) < n := by omega
      have hcast : ((k0 + 3 * m : Nat) : Int) = (k0 : Int) + 3 * m := by omega
      simp only [numSp, hcast] at hc0 hc1 hc2
      clear hr
      go_wp2
      go_round
      case rel => exact ⟨m + 1, by omega, by go_num, by go_num⟩
      case measure => simp [intOf]; omega
    · obtain rfl : m = n := by omega
      go_wp2
      go_ret
      exact ⟨rfl, rfl⟩
theorem markSpanS_seg (A : Option Addr) (c n lo hi : Nat) (k : Int) (cs : List Value) (w : World) (h : Seg w 67 3 lo hi A n c cs) (h0 : 0 ≤ k) (h1 : k ≤ 1000000000) (hn : n ≤ 10000000) :
    Calls Try.prog 24 #[.slice A n c, .int .i64 k] w fun e w' => e = .returned (.int .i64 (k + 3 * n)) ∧ Seg w' 67 3 lo hi A n c (spc (numsSp k.toNat n)) ∧ Touch lo hi w w' := by
  have hk : k = (k.toNat : Int) := by omega
  by_cases hz : n = 0
  · subst hz
    refine (markSpanS_none A c k w).mono ?_
    rintro e w' ⟨rfl, rfl⟩
    have hcs := h.slice_nil
    subst hcs
    exact ⟨by simp, h, Touch.refl _ _ _⟩
  · have hlo : lo ≤ w.heap.size := by
      obtain ⟨g, cur, hA, a1, a2, _⟩ := h.block (by omega)
      have := h.fit; omega
    have H := markSpanS_own A c n k.toNat lo cs w h.own hn (by omega) hlo
    rw [← hk] at H
    refine H.mono ?_
    rintro e w' ⟨rfl, ho, hb, hg, hs⟩
    exact ⟨by rw [show ((k.toNat + 3 * n : Nat) : Int) = k + 3 * n by omega], ⟨ho, h.top, by rw [hs]; exact h.fit⟩, Touch.of_own hg fun ad ha => h.at_ ad ha (by omega)⟩
theorem heldSpanS_seg (A : Option Addr) (c n : Nat) (k : Int) (w : World) (hr : Row w A (spc (numsSp k.toNat n))) (h0 : 0 ≤ k) (h1 : k ≤ 1000000000) (hn : n ≤ 10000000) :
    Calls Try.prog 25 #[.slice A n c, .int .i64 k] w fun e w' => e = .returned (.int .i64 (k + 3 * n)) ∧ w = w' := by
  have hk : k = (k.toNat : Int) := by omega
  have H := heldSpanS_same A c n k.toNat w hr hn (by omega)
  rw [← hk] at H
  refine H.mono ?_
  rintro e w' ⟨rfl, rfl⟩
  exact ⟨by rw [show ((k.toNat + 3 * n : Nat) : Int) = k + 3 * n by omega], rfl⟩
/-- What a function hands back: a list of spans, memory of its own, and a bool. -/
def RetTB (w : World) (r : List Sp × Bool) (e : Ending) (w' : World) : Prop :=
  ∃ A c, e = .returned (.tuple #[.slice A r.1.length c, .bool r.2]) ∧ Seg w' 67 3 w.heap.size w'.heap.size A r.1.length c (spc r.1) ∧ Below w.heap.size w w'
end Go.Proofs.Ytnkoncplfedffaa
