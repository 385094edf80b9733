/- Texts joined: Ris Rsi Tms. -/
import Derived.Test.YtnkoncplfedffaaDoorMgt
import Derived.OwnWalk
namespace Go.Proofs.YtnkoncplfedffaaDoor
def inRis (s : List Int) (x : Nat) : Bool := s.contains (x : Int)
/-- Strictly ascending, of n jobs. -/
def risOk (n : Nat) (s : List Int) (i : Nat) : Bool := decide (0 ≤ s.getD i 0 ∧ s.getD i 0 < n) && (decide (i = 0) || decide (s.getD (i - 1) 0 < s.getD i 0))
def risTo (n : Nat) (s : List Int) (k : Nat) : Bool := (List.range k).all (risOk n s)
def risL (n : Nat) (s : List Int) : Bool := risTo n s s.length
theorem risTo_bad {n : Nat} {s : List Int} {k m : Nat} (h : k < m) (hk : risOk n s k = false) : risTo n s m = false := by
  unfold risTo; rw [List.all_eq_false]; exact ⟨k, List.mem_range.2 h, by rw [hk]; simp⟩
theorem risTo_succ (n : Nat) (s : List Int) (k : Nat) : risTo n s (k + 1) = (risTo n s k && risOk n s k) := by
  unfold risTo; rw [List.range_succ, List.all_append]; simp
theorem risTo_at {n : Nat} {s : List Int} {k m : Nat} (h : risTo n s m = true) (hk : k < m) : risOk n s k = true := by
  unfold risTo at h; exact List.all_eq_true.1 h k (List.mem_range.2 hk)
/-- Such a list is the numbers of 0..n-1 that are in it. -/
theorem ris_nat {n : Nat} {s : List Int} (h : risL n s = true) : s = ((List.range n).filter (inRis s)).map Int.ofNat := by
  have hb : ∀ k (hk : k < s.length), 0 ≤ s[k] ∧ s[k] < n := fun k hk => by
    have := risTo_at h hk
    unfold risOk at this
    simp only [Bool.and_eq_true, decide_eq_true_eq] at this
    rw [List.getD_eq_getElem?_getD, List.getElem?_eq_getElem hk] at this
    exact this.1
  have hst : ∀ k (hk : k + 1 < s.length), s[k]'(by omega) < s[k + 1] := fun k hk => by
    have := risTo_at h hk
    unfold risOk at this
    simp only [Bool.and_eq_true, Bool.or_eq_true, decide_eq_true_eq, Nat.add_sub_cancel] at this
    rw [List.getD_eq_getElem?_getD, List.getD_eq_getElem?_getD, List.getElem?_eq_getElem hk, List.getElem?_eq_getElem (show k < s.length by omega)] at this
    simp only [Option.getD_some] at this
    omega
  have hpw : s.Pairwise (· < ·) := by
    rw [List.pairwise_iff_getElem]
    intro i j hi hj hij
    have : ∀ d, ∀ (hd : i + d + 1 < s.length), s[i] < s[i + d + 1] := by
      intro d
      induction d with
      | zero => exact fun hd => hst i hd
      | succ d ih => exact fun hd => Int.lt_trans (ih (by omega)) (hst (i + d + 1) hd)
    have h2 := this (j - i - 1) (by omega)
    simp only [show i + (j - i - 1) + 1 = j by omega] at h2
    exact h2
  have hn : s = (s.map Int.toNat).map Int.ofNat := by
    rw [List.map_map]
    conv => lhs; rw [← List.map_id s]
    refine List.map_congr_left fun x hx => ?_
    obtain ⟨k, hk, rfl⟩ := List.getElem_of_mem hx
    have := hb k hk
    simp only [id, Function.comp, Int.ofNat_eq_natCast]
    omega
  conv => lhs; rw [hn]
  congr 1
  have h1 : (s.map Int.toNat).Pairwise (· < ·) := by
    rw [List.pairwise_iff_getElem]
    intro i j hi hj hij
    rw [List.length_map] at hi hj
    have a := List.pairwise_iff_getElem.1 hpw i j hi hj hij
    have b := hb i hi
    rw [List.getElem_map, List.getElem_map]
    omega
  refine strict_ext2 h1 (List.Pairwise.filter _ List.pairwise_lt_range) fun x => ?_
  rw [List.mem_filter, List.mem_range, List.mem_map]
  unfold inRis
  constructor
  · rintro ⟨y, hy, rfl⟩
    obtain ⟨k, hk, rfl⟩ := List.getElem_of_mem hy
    have b := hb k hk
    refine ⟨by omega, ?_⟩
    rw [List.contains_iff_mem, show ((s[k].toNat : Nat) : Int) = s[k] by omega]
    exact List.getElem_mem _
  · rintro ⟨h1, h2⟩
    exact ⟨(x : Int), by rwa [List.contains_iff_mem] at h2, by omega⟩
theorem risOk_bad {n : Nat} {s : List Int} {k : Nat} (hk : k < s.length) (h : ¬ (0 ≤ s[k] ∧ s[k] < n)) : risOk n s k = false := by
  unfold risOk; rw [getD_at s 0 hk, decide_eq_false h, Bool.false_and]
theorem risOk_back {n : Nat} {s : List Int} {k : Nat} (hk : k + 1 < s.length) (h : s[k + 1] ≤ s[k]'(by omega)) : risOk n s (k + 1) = false := by
  unfold risOk
  rw [getD_at s 0 hk, Nat.add_sub_cancel, getD_at s 0 (show k < s.length by omega), decide_eq_false (show ¬ k + 1 = 0 by omega), decide_eq_false (show ¬ (s[k]'(by omega) < s[k + 1]) by omega), Bool.or_false, Bool.and_false]
theorem risOk_first {n : Nat} {s : List Int} (hk : 0 < s.length) (h : (0 : Int) ≤ s[0] ∧ s[0] < n) : risOk n s 0 = true := by
  unfold risOk; rw [getD_at s 0 hk, decide_eq_true h]; rfl
theorem risOk_next {n : Nat} {s : List Int} {k : Nat} (hk : k + 1 < s.length) (h : 0 ≤ s[k + 1] ∧ s[k + 1] < n) (h2 : s[k]'(by omega) < s[k + 1]) : risOk n s (k + 1) = true := by
  unfold risOk
  rw [getD_at s 0 hk, Nat.add_sub_cancel, getD_at s 0 (show k < s.length by omega), decide_eq_true h, decide_eq_true h2, Bool.or_true]; rfl
theorem risL_step {n : Nat} {s : List Int} {k : Nat} (h : risTo n s k = true) (h2 : risOk n s k = true) : risTo n s (k + 1) = true := by rw [risTo_succ, h, h2]; rfl
theorem ris8 {n : Nat} {s : List Int} (h : risL n s = true) (hn : n ≤ 8) : risL 8 s = true := by
  unfold risL risTo at *
  rw [List.all_eq_true] at *
  intro k hk
  have h1 := h k hk
  unfold risOk at *
  simp only [Bool.and_eq_true, decide_eq_true_eq] at *
  exact ⟨⟨h1.1.1, by have := h1.1.2; omega⟩, h1.2⟩
theorem ris_at {n : Nat} {s : List Int} (h : risL n s = true) {k : Nat} (hk : k < s.length) : 0 ≤ s[k] ∧ s[k] < n := by
  have h1 := risTo_at h hk
  unfold risOk at h1
  simp only [Bool.and_eq_true, decide_eq_true_eq] at h1
  rw [getD_at s 0 hk] at h1
  exact h1.1
/-- The set of the first k numbers of a list. -/
def numTo (s : List Int) : Nat → Nat
  | 0 => 0
  | k + 1 => addB (numTo s k) (s.getD k 0).toNat
def numS (s : List Int) : Nat := numTo s s.length
theorem numTo_lt {s : List Int} (h : risL 8 s = true) : ∀ k, k ≤ s.length → numTo s k < 256
  | 0, _ => by unfold numTo; omega
  | k + 1, hk => by
    have h1 := ris_at h (show k < s.length by omega)
    unfold numTo
    rw [getD_at s 0 (by omega)]
    exact add_lt (numTo_lt h k (by omega)) (by omega)
theorem numTo_bit {s : List Int} (h : risL 8 s = true) (i : Nat) : ∀ k, k ≤ s.length → ((numTo s k).testBit i = true ↔ (i : Int) ∈ s.take k)
  | 0, _ => by unfold numTo; simp
  | k + 1, hk => by
    have h1 := ris_at h (show k < s.length by omega)
    have ih := numTo_bit h i k (by omega)
    unfold numTo
    rw [bit_add, List.take_succ_eq_append_getElem (by omega), List.mem_append, Bool.or_eq_true, ih, getD_at s 0 (by omega), List.mem_singleton, decide_eq_true_eq]
    constructor
    · rintro (g | g)
      · exact .inl g
      · exact .inr (by omega)
    · rintro (g | g)
      · exact .inl g
      · exact .inr (by omega)
theorem numS_lt {s : List Int} (h : risL 8 s = true) : numS s < 256 := numTo_lt h _ (Nat.le_refl _)
theorem numS_mem {s : List Int} (h : risL 8 s = true) : natI (memB (numS s)) = s := by
  have hs := ris_nat h
  conv => rhs; rw [hs]
  unfold natI memB
  have hf : (List.range 8).filter (fun i => (numS s).testBit i) = (List.range 8).filter (inRis s) := by
    refine List.filter_congr fun i _ => ?_
    have h1 := numTo_bit h i s.length (Nat.le_refl _)
    rw [List.take_length] at h1
    unfold inRis
    cases hb : s.contains (i : Int)
    · cases hc : (numS s).testBit i
      · rfl
      · have := h1.1 hc
        rw [← List.contains_iff_mem, hb] at this
        cases this
    · exact h1.2 (List.contains_iff_mem.1 hb)
  rw [hf]
theorem numS_in {n : Nat} {s : List Int} (h : risL n s = true) (hn : n ≤ 8) {k : Nat} (hk : (numS s).testBit k = true) : k < n := by
  have h1 := numTo_bit (ris8 h hn) k s.length (Nat.le_refl _)
  rw [List.take_length] at h1
  obtain ⟨i, hi, he⟩ := List.getElem_of_mem (h1.1 hk)
  have := ris_at h hi
  omega
theorem lats0_t (js : List J) (x : Nat) : ((latsL js 0).getD x j0).t = (js.getD x j0).t ∧ ((latsL js 0).getD x j0).d = (js.getD x j0).d := by
  by_cases hx : x < js.length
  · rw [latsL_getD js 0 x hx]; exact ⟨rfl, Int.add_zero _⟩
  · have e1 : (latsL js 0).getD x j0 = j0 := by rw [List.getD_eq_getElem?_getD, List.getElem?_eq_none (by rw [latsL_len]; omega)]; rfl
    have e2 : js.getD x j0 = j0 := by rw [List.getD_eq_getElem?_getD, List.getElem?_eq_none (by omega)]; rfl
    rw [e1, e2]; exact ⟨rfl, rfl⟩
theorem gonTo_zero (js : List J) (p : List Nat) : ∀ k, gonTo (latsL js 0) p k = gonTo js p k
  | 0 => rfl
  | k + 1 => by
    show gonTo (latsL js 0) p k + _ = gonTo js p k + _
    rw [gonTo_zero js p k, (lats0_t js _).1]
theorem timly_zero (js : List J) (p : List Nat) : timlyB (latsL js 0) p = timlyB js p := by
  unfold timlyB
  rw [decide_eq_decide]
  constructor
  · intro h k hk
    have := h k hk
    rw [gonTo_zero, (lats0_t js _).2] at this
    exact this
  · intro h k hk
    rw [gonTo_zero, (lats0_t js _).2]
    exact h k hk
theorem timly_lat {js : List J} (hok : ∀ j ∈ js, okJ j = true) (h0 : ∀ j ∈ js, j.r = 0) (l : List Nat) (hl : ∀ x ∈ l, x < js.length) : timlyB js (dueL js l) = decide (latL js (dueL js l) ≤ 0) := by
  rw [← timly_zero js (dueL js l), ← dueL_later js 0 l hl]
  rw [timly_later hok h0 (Int.le_refl 0) l hl, dueL_later js 0 l hl]
/-- IsTimely. -/
def timelyR (js : List J) (s : List Int) : Bool × Bool := if plainL js && risL js.length s then (decide (latL js (dueL js (memB (numS s))) ≤ 0), true) else (false, false)
end Go.Proofs.YtnkoncplfedffaaDoor

namespace Go.Proofs.YtnkoncplfedffaaDoor
open Go.RowKit
section
variable (B : Option Addr) (d n : Nat) (s : List Int) (w : World) (hq : Row w B (ic s)) (hm : s.length ≤ 10000000)
include hq hm
set_option maxRecDepth 100000 in
set_option maxHeartbeats 1000000 in
theorem l1Rising_any : Calls Tryd.prog 63 #[.slice B s.length d, .int .i64 0, .int .i64 ((n : Int) - 1)] w fun e w' => e = .returned (.bool (risL n s)) ∧ ∃ m, w' = w.drewN m := by
  have HB : Hid (∀ k, risOk n s k = false → k < s.length → risL n s = false) := fun k h hk => risTo_bad hk h
  have HE : Hid (risL n s = risTo n s s.length) := rfl
  have H0 : Hid (risTo n s 0 = true) := rfl
  go_enter Tryd.func63, Tryd.ntmps63
  go_wp2
  go_loopw [7] (fun i wr => ∃ k m : Nat, k ≤ s.length ∧ i = .int .i64 (k : Int) ∧ wr = w.drewN m ∧ Hid (risTo n s k = true)) (fun i _ => s.length - (intOf i).toNat)
  case atStart => exact ⟨0, 0, Nat.zero_le _, rfl, rfl, H0⟩
  case round =>
    obtain ⟨k, m, hk, rfl, rfl, HS⟩ := hrel
    clear H0
    by_cases hlt : k < s.length
    · have hk0 : (0 : Int) ≤ k := by omega
      have hk1 : (k : Int) < s.length := by omega
      obtain ⟨ad, hB, hc⟩ := hq.int hlt
      subst hB
      have hin : inB s[k] 0 ((n : Int) - 1) = decide (0 ≤ s[k] ∧ s[k] < n) := by
        unfold inB; rw [decide_eq_decide]; omega
      by_cases hr : 0 ≤ s[k] ∧ s[k] < n
      · rw [decide_eq_true hr] at hin
        cases k with
        | zero =>
          have HN := Lib.hid (risL_step HS.out (risOk_first hlt hr))
          have hc0 : w.cell? ad = some (.int .i64 s[0]) := by simpa [Addr.add] using hc
          clear HS hc
          generalize s[0] = x at *
          go_wp2
          go_quiet ((go_at_call 48; (first | exact Calls.quiet_of ((l1In_any _ _ _ _).mono fun _ _ ⟨he, hw⟩ => ⟨by rw [he, hin], 0, hw.symm⟩) | exact quiet_same ((l1In_any _ _ _ _).mono fun _ _ ⟨he, hw⟩ => ⟨by rw [he, hin], hw⟩))))
          go_wp2
          go_roundw
          case rel => exact ⟨1, _, by omega, by go_num, rfl, HN⟩
          case measure => simp [intOf]; omega
        | succ k =>
          obtain ⟨ad', hB', hc'⟩ := hq.int (show k < s.length by omega)
          injection hB' with hB'
          subst hB'
          by_cases hlt2 : s[k]'(by omega) < s[k + 1]
          · have HN := Lib.hid (risL_step HS.out (risOk_next hlt hr hlt2))
            clear HS
            generalize s[k + 1] = x at *
            generalize s[k]'(by omega) = y at *
            have hsub : IntKind.i64.wrap (((k + 1 : Nat) : Int) - 1) = (k : Int) := by rw [IntWalk.i64_in _ (by omega)]; omega
            have hkpos : 0 < k + 1 := by omega
            have hkm0 : (0 : Int) ≤ k := by omega
            have hkm1 : (k : Int) < s.length := by omega
            generalize k + 1 = kk at *
            go_wp2
            go_quiet ((go_at_call 48; (first | exact Calls.quiet_of ((l1In_any _ _ _ _).mono fun _ _ ⟨he, hw⟩ => ⟨by rw [he, hin], 0, hw.symm⟩) | exact quiet_same ((l1In_any _ _ _ _).mono fun _ _ ⟨he, hw⟩ => ⟨by rw [he, hin], hw⟩))))
            go_wp2
            go_roundw
            case rel => exact ⟨kk + 1, _, by omega, by go_num, rfl, HN⟩
            case measure => simp [intOf]; omega
          · have HF := Lib.hid (HB.out (k + 1) (risOk_back hlt (by omega)) hlt)
            clear HS
            generalize s[k + 1] = x at *
            generalize s[k]'(by omega) = y at *
            have hsub : IntKind.i64.wrap (((k + 1 : Nat) : Int) - 1) = (k : Int) := by rw [IntWalk.i64_in _ (by omega)]; omega
            have hkpos : 0 < k + 1 := by omega
            have hkm0 : (0 : Int) ≤ k := by omega
            have hkm1 : (k : Int) < s.length := by omega
            generalize k + 1 = kk at *
            go_wp2
            go_quiet ((go_at_call 48; (first | exact Calls.quiet_of ((l1In_any _ _ _ _).mono fun _ _ ⟨he, hw⟩ => ⟨by rw [he, hin], 0, hw.symm⟩) | exact quiet_same ((l1In_any _ _ _ _).mono fun _ _ ⟨he, hw⟩ => ⟨by rw [he, hin], hw⟩))))
            go_wp2
            go_ret
            exact ⟨by rw [HF.out]; rfl, _, World.drewN_drewN _ _ _⟩
      · rw [decide_eq_false hr] at hin
        have HF := Lib.hid (HB.out k (risOk_bad hlt hr) hlt)
        clear HS
        generalize s[k] = x at *
        go_wp2
        go_quiet ((go_at_call 48; (first | exact Calls.quiet_of ((l1In_any _ _ _ _).mono fun _ _ ⟨he, hw⟩ => ⟨by rw [he, hin], 0, hw.symm⟩) | exact quiet_same ((l1In_any _ _ _ _).mono fun _ _ ⟨he, hw⟩ => ⟨by rw [he, hin], hw⟩))))
        go_wp2
        go_ret
        exact ⟨by rw [HF.out]; rfl, _, World.drewN_drewN _ _ _⟩
    · obtain rfl : k = s.length := by omega
      go_wp2
      go_ret
      exact ⟨by rw [HE.out, HS.out]; rfl, m, rfl⟩
set_option maxRecDepth 100000 in
set_option maxHeartbeats 1000000 in
theorem isSetOf_any : Calls Tryd.prog 64 #[.int .i64 (n : Int), .slice B s.length d] w fun e w' => e = .returned (.bool (risL n s)) ∧ w' = w := by
  have HB : Hid (∀ k, risOk n s k = false → k < s.length → risL n s = false) := fun k h hk => risTo_bad hk h
  have HE : Hid (risL n s = risTo n s s.length) := rfl
  have H0 : Hid (risTo n s 0 = true) := rfl
  go_enter Tryd.func64, Tryd.ntmps64
  go_wp2
  go_loopw [9] (fun i wr => ∃ k : Nat, k ≤ s.length ∧ i = .int .i64 (k : Int) ∧ wr = w ∧ Hid (risTo n s k = true)) (fun i _ => s.length - (intOf i).toNat)
  case atStart => exact ⟨0, Nat.zero_le _, rfl, rfl, H0⟩
  case round =>
    obtain ⟨k, hk, rfl, rfl, HS⟩ := hrel
    clear H0
    by_cases hlt : k < s.length
    · have hk0 : (0 : Int) ≤ k := by omega
      have hk1 : (k : Int) < s.length := by omega
      obtain ⟨ad, hB, hc⟩ := hq.int hlt
      subst hB
      by_cases hneg : s[k] < 0
      · have HF := Lib.hid (HB.out k (risOk_bad hlt (by omega)) hlt)
        clear HS
        generalize s[k] = x at *
        go_wp2
        go_ret
        exact ⟨by rw [HF.out]; rfl, rfl⟩
      · by_cases hbig : (n : Int) ≤ s[k]
        · have HF := Lib.hid (HB.out k (risOk_bad hlt (by omega)) hlt)
          clear HS
          generalize s[k] = x at *
          go_wp2
          go_ret
          exact ⟨by rw [HF.out]; rfl, rfl⟩
        · have hr : 0 ≤ s[k] ∧ s[k] < n := by omega
          cases k with
          | zero =>
            have HN := Lib.hid (risL_step HS.out (risOk_first hlt hr))
            have hc0 : wr.cell? ad = some (.int .i64 s[0]) := by simpa [Addr.add] using hc
            clear HS hc
            generalize s[0] = x at *
            go_wp2
            go_roundw
            case rel => exact ⟨1, by omega, by go_num, trivial, HN⟩
            case measure => simp [intOf]; omega
          | succ k =>
            obtain ⟨ad', hB', hc'⟩ := hq.int (show k < s.length by omega)
            injection hB' with hB'
            subst hB'
            by_cases hlt2 : s[k]'(by omega) < s[k + 1]
            · have HN := Lib.hid (risL_step HS.out (risOk_next hlt hr hlt2))
              clear HS
              generalize s[k + 1] = x at *
              generalize s[k]'(by omega) = y at *
              have hsub : IntKind.i64.wrap (((k + 1 : Nat) : Int) - 1) = (k : Int) := by rw [IntWalk.i64_in _ (by omega)]; omega
              have hkpos : 0 < k + 1 := by omega
              have hkm0 : (0 : Int) ≤ k := by omega
              have hkm1 : (k : Int) < s.length := by omega
              generalize k + 1 = kk at *
              go_wp2
              go_roundw
              case rel => exact ⟨kk + 1, by omega, by go_num, trivial, HN⟩
              case measure => simp [intOf]; omega
            · have HF := Lib.hid (HB.out (k + 1) (risOk_back hlt (by omega)) hlt)
              clear HS
              generalize s[k + 1] = x at *
              generalize s[k]'(by omega) = y at *
              have hsub : IntKind.i64.wrap (((k + 1 : Nat) : Int) - 1) = (k : Int) := by rw [IntWalk.i64_in _ (by omega)]; omega
              have hkpos : 0 < k + 1 := by omega
              have hkm0 : (0 : Int) ≤ k := by omega
              have hkm1 : (k : Int) < s.length := by omega
              generalize k + 1 = kk at *
              go_wp2
              go_ret
              exact ⟨by rw [HF.out]; rfl, rfl⟩
    · obtain rfl : k = s.length := by omega
      go_wp2
      go_ret
      exact ⟨by rw [HE.out, HS.out]; rfl, rfl⟩
set_option maxRecDepth 100000 in
theorem setOfList_any (h8 : risL 8 s = true) : Calls Tryd.prog 65 #[.slice B s.length d] w fun e w' => e = .returned (.int .u64 (numS s : Int)) ∧ w' = w := by
  have HE : Hid (numS s = numTo s s.length) := rfl
  go_enter Tryd.func65, Tryd.ntmps65
  go_wp2
  go_loopw [3, 8] (fun v i wr => ∃ k : Nat, k ≤ s.length ∧ i = .int .i64 (k : Int) ∧ v = .int .u64 (numTo s k : Int) ∧ wr = w) (fun _ i _ => s.length - (intOf i).toNat)
  case atStart => exact ⟨0, Nat.zero_le _, rfl, rfl, rfl⟩
  case round =>
    obtain ⟨k, hk, rfl, rfl, rfl⟩ := hrel
    by_cases hlt : k < s.length
    · have hk0 : (0 : Int) ≤ k := by omega
      have hk1 : (k : Int) < s.length := by omega
      obtain ⟨ad, hB, hc⟩ := hq.int hlt
      subst hB
      have hx := ris_at h8 hlt
      have hxn : ((s[k].toNat : Nat) : Int) = s[k] := by omega
      have HW := Lib.hid (with_any (numTo s k) (s[k]).toNat (numTo_lt h8 k (by omega)) (by omega) wr)
      have HN : Hid (numTo s (k + 1) = addB (numTo s k) (s[k]).toNat) := by
        show addB _ _ = _
        rw [getD_at s 0 hlt]
      rw [hxn, ← HN.out] at HW
      clear hx hxn HN
      generalize s[k] = x at *
      go_wp2_with fail
      refine HW.out.mono ?_
      rintro e _ ⟨rfl, rfl⟩
      go_wp2
      go_roundw
      case rel => exact ⟨k + 1, by omega, by go_num, rfl, trivial⟩
      case measure => simp [intOf]; omega
    · obtain rfl : k = s.length := by omega
      go_wp2
      go_ret
      exact ⟨by rw [HE.out]; rfl, rfl⟩
end
end Go.Proofs.YtnkoncplfedffaaDoor

namespace Go.Proofs.YtnkoncplfedffaaDoor
open Go.RowKit
section
variable (A : Option Addr) (c : Nat) (js : List J) (w : World) (hr : Row w A (jc js)) (hok : ∀ j ∈ js, okJ j = true) (h8 : js.length ≤ 8) (h0 : ∀ j ∈ js, j.r = 0) (s : Nat) (hs : s < 256) (hlt : ∀ k, s.testBit k = true → k < js.length) (hT : TzTab w)
include hr hok h8 h0 hs hlt hT
set_option maxRecDepth 100000 in
theorem isTimely_any : Calls Tryd.prog 45 #[.slice A js.length c, .int .u64 (s : Int)] w fun e w' => e = .returned (.bool (decide (latL js (dueL js (memB s)) ≤ 0))) ∧ Below w.heap.size w w' := by
  have HL := Lib.hid (latest_any A c js w hr hok h8 h0 s hs hlt hT)
  clear hr hok h8 h0 hs hlt hT
  go_enter Tryd.func45, Tryd.ntmps45
  go_wp2_with fail
  refine HL.out.mono ?_
  rintro e w1 ⟨rfl, hb1⟩
  go_wp2
  go_ret
  exact ⟨rfl, hb1⟩
end
section
variable (A B : Option Addr) (c d : Nat) (js : List J) (s : List Int) (w : World) (hr : Row w A (jc js)) (hq : Row w B (ic s)) (hn : js.length ≤ 10000000) (hm : s.length ≤ 10000000)
include hq hn hm
set_option maxRecDepth 100000 in
theorem l6Set_any : Calls Tryd.prog 42 #[.slice A js.length c, .slice B s.length d] w fun e w' => e = .returned (.bool (risL js.length s)) ∧ ∃ m, w' = w.drewN m := by
  have hin : IntKind.i64.wrap ((js.length : Int) - 1) = (js.length : Int) - 1 := IntWalk.i64_in _ (by omega)
  have HC : Hid (∀ w' : World, Row w' B (ic s) → _) := fun w' h => l1Rising_any B d js.length s w' h hm
  go_enter Tryd.func42, Tryd.ntmps42
  go_wp2_with fail
  refine (HC.out _ hq).mono ?_
  rintro e w1 ⟨rfl, m, rfl⟩
  go_wp2
  go_ret
  exact ⟨rfl, m, rfl⟩
include hr
set_option maxRecDepth 100000 in
theorem spec_IsTimely : Calls Tryd.prog 20 #[.slice A js.length c, .slice B s.length d] w (RetBB w (timelyR js s)) := by
  have HR : Hid (timelyR js s = if plainL js && risL js.length s then (decide (latL js (dueL js (memB (numS s))) ≤ 0), true) else (false, false)) := rfl
  cases hp : plainL js
  · rw [hp] at HR
    go_enter Tryd.func20, Tryd.ntmps20
    go_wp2_with fail
    refine (l6Good_any A c js _ hr (by omega)).mono ?_
    rintro e1 w1 ⟨rfl, hb1⟩
    rw [hp]
    go_wp2
    go_ret2
    exact ⟨by rw [HR.out]; rfl, hb1⟩
  · rw [hp] at HR
    cases hs : risL js.length s
    · rw [hs] at HR
      go_enter Tryd.func20, Tryd.ntmps20
      go_wp2_with fail
      refine (l6Good_any A c js _ hr (by omega)).mono ?_
      rintro e1 w1 ⟨rfl, hb1⟩
      rw [hp]
      go_wp2_with fail
      refine (l6Set_any A B c d js s w1 (hq.below hb1) hn hm).mono ?_
      rintro e1 w2 ⟨rfl, m, rfl⟩
      rw [hs]
      have HB := Lib.hid (below_drewN hb1 m)
      clear hb1
      go_wp2
      go_ret2
      exact ⟨by rw [HR.out]; rfl, HB.out⟩
    · rw [hs] at HR
      obtain ⟨h8, hok⟩ := good_out (plain_good hp)
      have hs8 := ris8 hs h8
      have hnm := numS_mem hs8
      have hlm : (memB (numS s)).length = s.length := by
        conv => rhs; rw [← hnm]
        unfold natI; rw [List.length_map]
      have hin : ∀ x ∈ memB (numS s), x < js.length := fun x hx => numS_in hs h8 ((memB_mem (numS_lt hs8)).1 hx)
      have HTL := Lib.hid (timly_lat hok (plain_zero hp) (memB (numS s)) hin)
      have HQ : Hid (∀ w' : World, Below w.heap.size w w' → Calls Tryd.prog 43 #[.slice A js.length c, .slice B s.length d] w' fun e1 w3 => e1 = .returned (.bool (timlyB js (dueL js (memB (numS s))))) ∧ Below w'.heap.size w' w3) := fun w' hb => by
        have h := l6Timely_any A B c d js (memB (numS s)) w' (hr.below hb) (by rw [hnm]; exact hq.below hb) hin (memB_len _) (fun j hj => by have := okJ_out (hok j hj); omega)
        rw [hlm] at h
        exact h
      clear hnm hlm hin hs8 hok
      go_enter Tryd.func20, Tryd.ntmps20
      go_wp2_with fail
      refine (l6Good_any A c js _ hr (by omega)).mono ?_
      rintro e1 w1 ⟨rfl, hb1⟩
      rw [hp]
      go_wp2_with fail
      refine (l6Set_any A B c d js s w1 (hq.below hb1) hn hm).mono ?_
      rintro e1 w2 ⟨rfl, m, rfl⟩
      rw [hs]
      have HB := Lib.hid (below_drewN hb1 m)
      clear hb1
      go_wp2_with fail
      refine (HQ.out _ HB.out).mono ?_
      rintro e1 w3 ⟨rfl, hb3⟩
      have HB3 := Lib.hid (HB.out.trans (hb3.mono HB.out.size))
      clear hb3
      rw [HTL.out]
      go_wp2
      go_ret2
      exact ⟨by rw [HR.out]; rfl, HB3.out⟩
/-- What setFor hands back. -/
def SetIs (e : Ending) (w' : World) : Prop := Below w.heap.size w w' ∧
  (plainL js = true ∧ risL js.length s = true ∧ e = .returned (.tuple #[.slice A js.length c, .int .u64 (numS s : Int), .bool true]) ∨
   (plainL js && risL js.length s) = false ∧ e = .returned (.tuple #[.slice none 0 0, .int .u64 0, .bool false]))
set_option maxRecDepth 100000 in
theorem setFor_any : Calls Tryd.prog 44 #[.slice A js.length c, .slice B s.length d] w (SetIs A c js s w) := by
  go_enter Tryd.func44, Tryd.ntmps44
  go_wp2_with fail
  refine (plainListOf_any A c js w hr (by omega)).mono ?_
  rintro e1 w1 ⟨hb1, ⟨hp, rfl⟩ | ⟨hp, rfl⟩⟩
  · obtain ⟨h8, hok⟩ := good_out (plain_good hp)
    clear hok
    cases hs : risL js.length s
    · go_wp2_with fail
      refine (isSetOf_any B d js.length s w1 (hq.below hb1) hm).mono ?_
      rintro e1 _ ⟨rfl, rfl⟩
      rw [hs]
      go_wp2
      go_ret3
      exact ⟨hb1, .inr ⟨by rw [hs, Bool.and_false], rfl⟩⟩
    · have HC := Lib.hid (setOfList_any B d s w1 (hq.below hb1) hm (ris8 hs h8))
      go_wp2_with fail
      refine (isSetOf_any B d js.length s w1 (hq.below hb1) hm).mono ?_
      rintro e1 _ ⟨rfl, rfl⟩
      rw [hs]
      go_wp2_with fail
      refine HC.out.mono ?_
      rintro e1 _ ⟨rfl, rfl⟩
      go_wp2
      go_ret3
      exact ⟨hb1, .inl ⟨hp, hs, rfl⟩⟩
  · go_wp2
    go_ret3
    exact ⟨hb1, .inr ⟨by rw [hp, Bool.false_and], rfl⟩⟩
set_option maxRecDepth 100000 in
theorem impl_IsTimely (hT : TzTab w) : Calls Tryd.prog 22 #[.slice A js.length c, .slice B s.length d] w (RetBB w (timelyR js s)) := by
  have HR : Hid (timelyR js s = if plainL js && risL js.length s then (decide (latL js (dueL js (memB (numS s))) ≤ 0), true) else (false, false)) := rfl
  have HT := Lib.hid hT
  clear hT
  go_enter Tryd.func22, Tryd.ntmps22
  go_wp2_with fail
  refine (setFor_any A B c d js s w hr hq hn hm).mono ?_
  rintro e1 w1 ⟨hb1, ⟨hp, hs, rfl⟩ | ⟨hp, rfl⟩⟩
  · rw [hp, hs] at HR
    obtain ⟨h8, hok⟩ := good_out (plain_good hp)
    have hs8 := ris8 hs h8
    have hlt := numS_lt hs8
    have HI := Lib.hid (isTimely_any A c js w1 (hr.below hb1) hok h8 (plain_zero hp) (numS s) hlt (fun k hk => numS_in hs h8 hk) (HT.out.below hb1))
    clear hok hlt hs8 hs hp
    go_wp2_with fail
    refine HI.out.mono ?_
    rintro e1 w2 ⟨rfl, hb2⟩
    go_wp2
    go_ret2
    exact ⟨by rw [HR.out]; rfl, hb1.trans (hb2.mono hb1.size)⟩
  · rw [hp] at HR
    go_wp2
    go_ret2
    exact ⟨by rw [HR.out]; rfl, hb1⟩
end
end Go.Proofs.YtnkoncplfedffaaDoor
