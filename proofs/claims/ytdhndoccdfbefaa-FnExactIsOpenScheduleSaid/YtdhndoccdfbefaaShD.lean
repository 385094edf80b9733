/- Open schedules: the program's tests of numbers and of spans. -/
import Derived.Test.YtdhndoccdfbefaaShA
import Derived.Test.YtdhndoccdfbefaaSpn
import Derived.Handy
namespace Go.Proofs.Ytdhndoccdfbefaa
open Go.RowKit

theorem badS_eq (x : Int) : (!sOk x) = (decide (x < 0) || decide (1000000 < x)) := by
  unfold sOk inB
  rw [Bool.eq_iff_iff]
  simp
theorem badStart_any (x : Int) (w : World) :
    Calls Try.prog 91 #[.int .i64 x] w fun e w' => e = .returned (.bool (!sOk x)) ∧ w = w' := by
  by_cases h : x < 0
  · have H : Hid ((!sOk x) = true) := by show _ = _; rw [badS_eq, decide_eq_true h]; rfl
    go_enter Try.func91, Try.ntmps91
    go_wp2
    go_ret
    exact ⟨by rw [H.out]; rfl, rfl⟩
  · have H : Hid ((!sOk x) = decide (1000000 < x)) := by show _ = _; rw [badS_eq, decide_eq_false h]; rfl
    go_enter Try.func91, Try.ntmps91
    go_wp2
    go_ret
    exact ⟨by rw [H.out]; first | rfl | simp [results, go_sem, h], rfl⟩
/-- An index, or -1 where there is none. -/
def IdxS (xs : List Int) (w : World) (e : Ending) (w' : World) : Prop := ∃ r : Int, e = .returned (.int .i64 r) ∧ (0 ≤ r ↔ xs.all sOk = false) ∧ ∃ q, w' = w.drewN q
theorem indexS_any (A : Option Addr) (c : Nat) (xs : List Int) (w : World) (hr : Row w A (ic xs)) (hn : xs.length ≤ 100000000) :
    Calls Try.prog 87 #[.slice A xs.length c, .func (.func 91) #[] #[]] w (IdxS xs w) := by
  go_enter Try.func87, Try.ntmps87
  go_wp2
  go_loopw [8] (fun i wr => ∃ k q : Nat, k ≤ xs.length ∧ i = .int .i64 k ∧ Hid (∀ i (hi : i < xs.length), i < k → sOk xs[i] = true) ∧ wr = w.drewN q) (fun i _ => xs.length - (intOf i).toNat)
  case atStart => exact ⟨0, 0, Nat.zero_le _, rfl, fun _ _ h => absurd h (by omega), rfl⟩
  case round =>
    obtain ⟨k, q, hk, rfl, hA, rfl⟩ := hrel
    by_cases hlt : k < xs.length
    · obtain ⟨a, hA', hc0⟩ := hr.at_ (k := k) (by rw [ic_len]; exact hlt)
      subst hA'
      rw [ic_get xs k hlt] at hc0
      have hc0' : (w.drewN q).cell? (a.add k) = some (.int .i64 xs[k]) := hc0
      have hi : (0 : Int) ≤ k := by omega
      have hi' : (k : Int) < xs.length := by omega
      have HST := Lib.hid (fun h => lt_step sOk hA.out hlt h)
      have HAB := Lib.hid (fun h => la_bad sOk (List.getElem_mem hlt) h)
      clear hr hA
      generalize xs[k] = x at *
      cases ho : sOk x
      · have HG := Lib.hid (HAB.out ho)
        go_wp2_with fail
        refine (badStart_any x _).mono ?_
        rintro e _ ⟨rfl, rfl⟩
        rw [ho]
        go_wp2
        go_ret
        exact ⟨k, rfl, ⟨fun _ => HG.out, fun _ => by omega⟩, _, rfl⟩
      · have HA := Lib.hid (HST.out ho)
        go_wp2_with fail
        refine (badStart_any x _).mono ?_
        rintro e _ ⟨rfl, rfl⟩
        rw [ho]
        go_wp2
        go_roundw
        case rel => exact ⟨k + 1, _, by omega, by go_num, HA.out, rfl⟩
        case measure => simp [intOf]; omega
    · obtain rfl : k = xs.length := by omega
      have HG := Lib.hid (la_good sOk (fun i hi => hA.out i hi hi))
      clear hA
      go_wp2
      go_ret
      exact ⟨-1, rfl, ⟨fun h => by omega, fun h => by rw [HG.out] at h; cases h⟩, _, rfl⟩
theorem containsS_any (A : Option Addr) (c : Nat) (xs : List Int) (w : World) (hr : Row w A (ic xs)) (hn : xs.length ≤ 100000000) :
    Calls Try.prog 71 #[.slice A xs.length c, .func (.func 91) #[] #[]] w fun e w' => e = .returned (.bool (!xs.all sOk)) ∧ ∃ q, w' = w.drewN q := by
  go_enter Try.func71, Try.ntmps71
  go_wp2_with fail
  refine (indexS_any A c xs _ hr hn).mono ?_
  rintro e _ ⟨r, rfl, hr1, q, rfl⟩
  have H : Hid (decide (0 ≤ r) = !xs.all sOk) := by
    show _ = _
    by_cases h0 : 0 ≤ r
    · rw [decide_eq_true h0, hr1.1 h0]; rfl
    · rw [decide_eq_false h0]
      cases hc : xs.all sOk with
      | true => rfl
      | false => exact absurd (hr1.2 hc) h0
  clear hr1
  go_wp2
  go_ret
  exact ⟨by rw [← H.out]; rfl, q, rfl⟩
set_option maxRecDepth 100000 in
set_option maxHeartbeats 4000000 in
theorem areStarts_any (A : Option Addr) (c : Nat) (B : Option Addr) (d : Nat) (xss yss : List (List Int)) (w : World) (hr : RowSS w A (xss.map ic)) (hr2 : RowSS w B (yss.map ic)) (hx : xss.length ≤ 10000000 ∧ totL xss ≤ 10000000) (hn : yss.length ≤ 10000000 ∧ totL yss ≤ 10000000) :
    Calls Try.prog 83 #[.slice A xss.length c, .slice B yss.length d] w fun e w' => e = .returned (.bool (startsB xss yss)) ∧ ∃ q, w' = w.drewN q := by
  have HM := Lib.hid (fun q => machines_any A c xss (w.drewN q) hr hx)
  have HL : Hid (∀ k (hk : k < yss.length), yss[k].length ≤ 10000000) := fun k hk => by have := totL_le hk; omega
  have HR2 := Lib.hid hr2
  have hMb := mOf_le xss
  clear hr hr2
  by_cases hl : yss.length = xss.length
  · have hbb : (((yss.length : Nat) : Int) != ((xss.length : Nat) : Int)) = false := by rw [hl]; simp
    have HLL := Lib.hid hl
    have hlq : ((yss.length : Nat) : Int) = xss.length := by omega
    have HLQ := Lib.hid hlq
    clear hl hlq
    go_enter Try.func83, Try.ntmps83
    go_wp2
    go_loopw [15] (fun i wr => ∃ k q : Nat, k ≤ yss.length ∧ i = .int .i64 (k : Int) ∧ Hid (∀ i (hi : i < yss.length), i < k → rowOk (mOf xss) yss[i] = true) ∧ wr = w.drewN q) (fun i _ => yss.length - (intOf i).toNat)
    case atStart => exact ⟨0, 0, Nat.zero_le _, rfl, fun _ _ h => absurd h (by omega), rfl⟩
    case round =>
      obtain ⟨k, q, hk, rfl, hA, rfl⟩ := hrel
      by_cases hlt : k < yss.length
      · obtain ⟨bd, Y, d2, hB', hcy, hrow⟩ := HR2.out.at_ (k := k) (by simpa using hlt)
        subst hB'
        rw [List.getElem_map] at hcy hrow
        rw [ic_len] at hcy
        have hyl := HL.out k hlt
        have HS := Lib.hid (fun h => lt_step (rowOk (mOf xss)) hA.out hlt h)
        have HG := Lib.hid (fun h => starts_bad (xss := xss) (List.getElem_mem hlt) h)
        have hi0 : (0 : Int) ≤ k := by omega
        have hi1 : (k : Int) < yss.length := by omega
        clear hA
        generalize yss[k] = ys at *
        have hcy' : (w.drewN q).cell? (bd.add k) = some (.slice Y ys.length d2) := hcy
        have HROW := Lib.hid hrow
        by_cases he : ys.length = mOf xss
        · have hb2 : (((ys.length : Nat) : Int) != ((mOf xss : Nat) : Int)) = false := by rw [he]; simp
          have HOK := Lib.hid (rowOk_eq he)
          have HC := Lib.hid (fun q => containsS_any Y d2 ys (w.drewN q) HROW.out (by omega))
          clear he hrow
          generalize mOf xss = MM at *
          cases ho : ys.all sOk
          · have HB2 := Lib.hid (HG.out (HOK.out.trans ho))
            rw [ho] at HC
            clear ho
            go_wp2_with fail
            refine (HM.out _).mono ?_
            rintro e _ ⟨rfl, q1, rfl⟩
            go_wp2_with fail
            refine (HC.out _).mono ?_
            rintro e _ ⟨rfl, q2, rfl⟩
            go_wp2
            go_ret
            exact ⟨by rw [HB2.out]; rfl, _, rfl⟩
          · have HB2 := Lib.hid (HS.out (HOK.out.trans ho))
            rw [ho] at HC
            clear ho
            go_wp2_with fail
            refine (HM.out _).mono ?_
            rintro e _ ⟨rfl, q1, rfl⟩
            go_wp2_with fail
            refine (HC.out _).mono ?_
            rintro e _ ⟨rfl, q2, rfl⟩
            go_wp2
            go_roundw
            case rel => exact ⟨k + 1, _, by omega, by go_num, HB2.out, rfl⟩
            case measure => simp [intOf]; omega
        · have hb2 : (((ys.length : Nat) : Int) != ((mOf xss : Nat) : Int)) = true := by rw [bne_iff_ne]; omega
          have HB2 := Lib.hid (HG.out (rowOk_len he))
          clear he hrow
          generalize mOf xss = MM at *
          go_wp2_with fail
          refine (HM.out _).mono ?_
          rintro e _ ⟨rfl, q1, rfl⟩
          go_wp2
          go_ret
          exact ⟨by rw [HB2.out]; rfl, _, rfl⟩
      · obtain rfl : k = yss.length := by omega
        have HY := Lib.hid (starts_yes HLL.out fun i hi => hA.out i hi hi)
        clear hA
        go_wp2
        go_ret
        exact ⟨by rw [HY.out]; rfl, _, rfl⟩
  · have hbb : (((yss.length : Nat) : Int) != ((xss.length : Nat) : Int)) = true := by rw [bne_iff_ne]; omega
    have HN := Lib.hid (starts_len hl)
    clear hl
    go_enter Try.func83, Try.ntmps83
    go_wp2
    go_ret
    exact ⟨by rw [HN.out]; rfl, 0, rfl⟩
set_option maxRecDepth 100000 in
theorem overlapS_any (x y f1 t1 f2 t2 : Int) (w : World) :
    Calls Try.prog 95 #[.agg #[.int .i64 x, .int .i64 f1, .int .i64 t1], .agg #[.int .i64 y, .int .i64 f2, .int .i64 t2]] w fun e w' => e = .returned (.bool (decide (f1 < t2) && decide (f2 < t1))) ∧ Below w.heap.size w w' := by
  have HB := Lib.hid (((Below.refl w.heap.size w).alloc (Nat.le_refl _) (.cells #[.int .i64 x, .int .i64 f1, .int .i64 t1] 88)).alloc (by simp) (.cells #[.int .i64 y, .int .i64 f2, .int .i64 t2] 88))
  by_cases h1 : f1 < t2
  · by_cases h2 : f2 < t1
    · have HD := Lib.hid (congr (congrArg and (decide_eq_true h1)) (decide_eq_true h2))
      go_enter Try.func95, Try.ntmps95
      go_wp2
      go_ret
      exact ⟨by first | rfl | (rw [HD.out]; rfl), HB.out⟩
    · have HD := Lib.hid (congr (congrArg and (decide_eq_true h1)) (decide_eq_false h2))
      have h2' : decide (f2 < t1) = false := decide_eq_false h2
      go_enter Try.func95, Try.ntmps95
      go_wp2
      go_ret
      exact ⟨by first | rfl | (rw [HD.out]; rfl), HB.out⟩
  · have HD := Lib.hid (congrArg (fun q => q && decide (f2 < t1)) (decide_eq_false h1))
    have h1' : decide (f1 < t2) = false := decide_eq_false h1
    go_enter Try.func95, Try.ntmps95
    go_wp2
    go_ret
    exact ⟨by first | rfl | (rw [HD.out]; rfl), HB.out⟩
/-- Whether two spans overlap. -/
def ovB (f t : Int) (s : Sp) : Bool := decide (f < s.t) && decide (s.f < t)
set_option maxRecDepth 100000 in
theorem ovClosure_any (g : Nat) (z f t : Int) (s : Sp) (w : World) (hg : BlockIs w g 88 #[.int .i64 z, .int .i64 f, .int .i64 t]) :
    Calls Try.prog 94 #[aggSp s, .pointer (some ⟨g, 0, none⟩)] w fun e w' => e = .returned (.bool (ovB f t s)) ∧ Below w.heap.size w w' := by
  have hb := (Below.refl w.heap.size w).alloc (Nat.le_refl _) (.cells #[.int .i64 s.j, .int .i64 s.f, .int .i64 s.t] 88)
  have h1 := hg.below hb
  have d0 := h1.cell 0
  have d1 := h1.cell 1
  have d2 := h1.cell 2
  simp only [List.getElem?_toArray, List.getElem?_cons_zero, List.getElem?_cons_succ] at d0 d1 d2
  have HB := Lib.hid hb
  have HO := Lib.hid (fun w => overlapS_any z s.j f t s.f s.t w)
  have HV : Hid (ovB f t s = (decide (f < s.t) && decide (s.f < t))) := rfl
  clear hg hb h1
  go_enter Try.func94, Try.ntmps94
  go_wp2_with fail
  refine (HO.out _).mono ?_
  rintro e w2 ⟨rfl, hb2⟩
  have HB2 := Lib.hid (HB.out.trans (hb2.mono HB.out.size))
  clear hb2
  go_wp2
  go_ret
  exact ⟨by rw [HV.out]; rfl, HB2.out⟩
theorem la_none {α : Type} {l : List α} (p : α → Bool) (h : ∀ i (hi : i < l.length), p l[i] = false) : l.any p = false := by
  rw [List.any_eq_false]
  intro x hx
  obtain ⟨i, hi, rfl⟩ := List.mem_iff_getElem.1 hx
  rw [h i hi]; simp
theorem la_some {α : Type} {l : List α} (p : α → Bool) {x : α} (hx : x ∈ l) (h : p x = true) : l.any p = true := List.any_eq_true.2 ⟨x, hx, h⟩
theorem ln_step {α : Type} {l : List α} (p : α → Bool) {k : Nat} (h : ∀ i (hi : i < l.length), i < k → p l[i] = false) (hk : k < l.length) (ho : p l[k] = false) : ∀ i (hi : i < l.length), i < k + 1 → p l[i] = false := by
  intro i hi hik
  by_cases e : i = k
  · subst e; exact ho
  · exact h i hi (by omega)
set_option maxRecDepth 100000 in
set_option maxHeartbeats 2000000 in
theorem indexSp_any (A : Option Addr) (c : Nat) (sps : List Sp) (g : Nat) (z f t : Int) (w : World) (hr : Row w A (spc sps)) (hn : sps.length ≤ 1000) (hg : BlockIs w g 88 #[.int .i64 z, .int .i64 f, .int .i64 t]) :
    Calls Try.prog 97 #[.slice A sps.length c, .func (.func 94) #[] #[.pointer (some ⟨g, 0, none⟩)]] w fun e w' => (∃ r : Int, e = .returned (.int .i64 r) ∧ (0 ≤ r ↔ sps.any (ovB f t) = true)) ∧ Below w.heap.size w w' := by
  have HR := Lib.hid hr
  have HG := Lib.hid hg
  clear hr hg
  go_enter Try.func97, Try.ntmps97
  go_wp2
  go_loopw [8] (fun i wr => ∃ k : Nat, k ≤ sps.length ∧ i = .int .i64 k ∧ Hid (∀ i (hi : i < sps.length), i < k → ovB f t sps[i] = false) ∧ Hid (Below w.heap.size w wr)) (fun i _ => sps.length - (intOf i).toNat)
  case atStart => exact ⟨0, Nat.zero_le _, rfl, fun _ _ h => absurd h (by omega), Below.refl _ _⟩
  case round =>
    obtain ⟨k, hk, rfl, hA, hb⟩ := hrel
    by_cases hlt : k < sps.length
    · obtain ⟨a, hA', _, hc0, hc1, hc2⟩ := (HR.out.below hb.out).span hlt
      subst hA'
      have hi : (0 : Int) ≤ k := by omega
      have hi' : (k : Int) < sps.length := by omega
      have HST := Lib.hid (fun h => ln_step (ovB f t) hA.out hlt h)
      have HAB := Lib.hid (fun h => la_some (ovB f t) (List.getElem_mem hlt) h)
      have HC := Lib.hid (ovClosure_any g z f t sps[k] wr (HG.out.below hb.out))
      clear hA
      generalize sps[k] = s at *
      cases ho : ovB f t s
      · have HA := Lib.hid (HST.out ho)
        rw [ho] at HC
        clear ho
        go_wp2_with fail
        refine HC.out.mono ?_
        rintro e w2 ⟨rfl, hb2⟩
        have HB2 := Lib.hid (hb.out.trans (hb2.mono hb.out.size))
        clear hb2
        go_wp2
        go_roundw
        case rel => exact ⟨k + 1, by omega, by go_num, HA.out, HB2.out⟩
        case measure => simp [intOf]; omega
      · have HGo := Lib.hid (HAB.out ho)
        rw [ho] at HC
        clear ho
        go_wp2_with fail
        refine HC.out.mono ?_
        rintro e w2 ⟨rfl, hb2⟩
        have HB2 := Lib.hid (hb.out.trans (hb2.mono hb.out.size))
        clear hb2
        go_wp2
        go_ret
        exact ⟨⟨k, rfl, fun _ => HGo.out, fun _ => by omega⟩, HB2.out⟩
    · obtain rfl : k = sps.length := by omega
      have HGo := Lib.hid (la_none (ovB f t) (fun i hi => hA.out i hi hi))
      clear hA
      go_wp2
      go_ret
      exact ⟨⟨-1, rfl, fun h => by omega, fun h => by rw [HGo.out] at h; cases h⟩, hb.out⟩
theorem containsSp_any (A : Option Addr) (c : Nat) (sps : List Sp) (g : Nat) (z f t : Int) (w : World) (hr : Row w A (spc sps)) (hn : sps.length ≤ 1000) (hg : BlockIs w g 88 #[.int .i64 z, .int .i64 f, .int .i64 t]) :
    Calls Try.prog 93 #[.slice A sps.length c, .func (.func 94) #[] #[.pointer (some ⟨g, 0, none⟩)]] w fun e w' => e = .returned (.bool (sps.any (ovB f t))) ∧ Below w.heap.size w w' := by
  have HI := Lib.hid (indexSp_any A c sps g z f t w hr hn hg)
  clear hr hg
  go_enter Try.func93, Try.ntmps93
  go_wp2_with fail
  refine HI.out.mono ?_
  rintro e w1 ⟨⟨r, rfl, hr1⟩, hb⟩
  have H : Hid (decide (0 ≤ r) = sps.any (ovB f t)) := by
    show _ = _
    by_cases h0 : 0 ≤ r
    · rw [decide_eq_true h0, hr1.1 h0]
    · rw [decide_eq_false h0]
      cases hc : sps.any (ovB f t) with
      | false => rfl
      | true => exact absurd (hr1.2 hc) h0
  have HB := Lib.hid hb
  clear hr1 hb
  go_wp2
  go_ret
  exact ⟨by rw [← H.out]; rfl, HB.out⟩
end Go.Proofs.Ytdhndoccdfbefaa
