/- Lists of jobs: what the model and the program ask of them. -/
import Derived.Test.YtjemjdlaoebffaaDoorJobs
namespace Go.Proofs.YtjemjdlaoebffaaDoor
open Go.RowKit

def inB (x a b : Int) : Bool := decide (a ≤ x ∧ x ≤ b)
theorem inB_yes {x a b : Int} (h : a ≤ x) (h' : x ≤ b) : inB x a b = true := decide_eq_true ⟨h, h'⟩
theorem inB_no {x a b : Int} (h : ¬ (a ≤ x ∧ x ≤ b)) : inB x a b = false := decide_eq_false h
theorem inB_out {x a b : Int} (h : inB x a b = true) : a ≤ x ∧ x ≤ b := of_decide_eq_true h
theorem inB_not {x a b : Int} (h : inB x a b = false) : ¬ (a ≤ x ∧ x ≤ b) := of_decide_eq_false h
theorem l1In_any (x a b : Int) (w : World) :
    Calls Tryd.prog 70 #[.int .i64 x, .int .i64 a, .int .i64 b] w fun e w' => e = .returned (.bool (inB x a b)) ∧ w = w' := by
  by_cases h1 : a ≤ x
  · by_cases h2 : x ≤ b
    · have H := Lib.hid (inB_yes h1 h2)
      go_enter Tryd.func70, Tryd.ntmps70
      go_wp2
      go_ret
      exact ⟨by rw [H.out]; rfl, rfl⟩
    · have H := Lib.hid (inB_no (x := x) (a := a) (b := b) (by omega))
      go_enter Tryd.func70, Tryd.ntmps70
      go_wp2
      go_ret
      exact ⟨by rw [H.out]; rfl, rfl⟩
  · have H := Lib.hid (inB_no (x := x) (a := a) (b := b) (by omega))
    go_enter Tryd.func70, Tryd.ntmps70
    go_wp2
    go_ret
    exact ⟨by rw [H.out]; rfl, rfl⟩

theorem okJ_inB (j : J) : okJ j = (inB j.t 1 50 && inB j.w 0 50 && inB j.r 0 500 && inB j.d 0 500) := by
  rw [Bool.eq_iff_iff, okJ_iff]; unfold inB; simp only [Bool.and_eq_true, decide_eq_true_iff]; omega
set_option maxHeartbeats 1000000 in
theorem l2Job_any (j : J) (w : World) :
    Calls Tryd.prog 167 #[.agg #[.int .i64 j.t, .int .i64 j.w, .int .i64 j.r, .int .i64 j.d]] w fun e w' => e = .returned (.bool (okJ j)) ∧ Below w.heap.size w w' := by
  have HO := Lib.hid (okJ_inB j)
  cases h1 : inB j.t 1 50
  · go_enter Tryd.func167, Tryd.ntmps167
    go_wp2_with (go_at_call 70; refine (l1In_any _ _ _ _).mono ?_; rintro e w' ⟨rfl, rfl⟩)
    go_ret
    exact ⟨by rw [HO.out]; simp [h1], (Below.refl _ _).alloc (Nat.le_refl _) _⟩
  · cases h2 : inB j.w 0 50
    · go_enter Tryd.func167, Tryd.ntmps167
      go_wp2_with (go_at_call 70; refine (l1In_any _ _ _ _).mono ?_; rintro e w' ⟨rfl, rfl⟩)
      go_ret
      exact ⟨by rw [HO.out]; simp [h1, h2], (Below.refl _ _).alloc (Nat.le_refl _) _⟩
    · cases h3 : inB j.r 0 500
      · go_enter Tryd.func167, Tryd.ntmps167
        go_wp2_with (go_at_call 70; refine (l1In_any _ _ _ _).mono ?_; rintro e w' ⟨rfl, rfl⟩)
        go_ret
        exact ⟨by rw [HO.out]; simp [h1, h2, h3], (Below.refl _ _).alloc (Nat.le_refl _) _⟩
      · go_enter Tryd.func167, Tryd.ntmps167
        go_wp2_with (go_at_call 70; refine (l1In_any _ _ _ _).mono ?_; rintro e w' ⟨rfl, rfl⟩)
        go_ret
        exact ⟨by rw [HO.out]; simp [h1, h2, h3], (Below.refl _ _).alloc (Nat.le_refl _) _⟩
theorem allTo_step {js : List J} {k : Nat} (h : ∀ i (hi : i < js.length), i < k → okJ js[i] = true) (hk : k < js.length) (ho : okJ js[k] = true) : ∀ i (hi : i < js.length), i < k + 1 → okJ js[i] = true := by
  intro i hi hik
  by_cases e : i = k
  · subst e; exact ho
  · exact h i hi (by omega)
theorem allTo_all {js : List J} (h : ∀ i (hi : i < js.length), i < js.length → okJ js[i] = true) : ∀ j ∈ js, okJ j = true := by
  intro j hj
  obtain ⟨i, hi, rfl⟩ := List.mem_iff_getElem.1 hj
  exact h i hi hi
theorem l2Good_any (A : Option Addr) (c : Nat) (js : List J) (w : World) (hr : Row w A (jc js)) (hn : js.length ≤ 100000000) :
    Calls Tryd.prog 117 #[.slice A js.length c] w fun e w' => e = .returned (.bool (goodL js)) ∧ Below w.heap.size w w' := by
  go_enter Tryd.func117, Tryd.ntmps117
  go_wp2
  go_loopw [3] (fun i wr => ∃ k : Nat, k ≤ js.length ∧ i = .int .i64 k ∧ Hid (∀ i (hi : i < js.length), i < k → okJ js[i] = true) ∧ Below w.heap.size w wr) (fun i _ => js.length - (intOf i).toNat)
  case atStart => exact ⟨0, Nat.zero_le _, rfl, fun _ _ h => absurd h (by omega), Below.refl _ _⟩
  case round =>
    obtain ⟨k, hk, rfl, hA, hb⟩ := hrel
    by_cases hlt : k < js.length
    · obtain ⟨a, hA', _, hc0, hc1, hc2, hc3⟩ := (hr.below hb).job hlt
      subst hA'
      have HB := Lib.hid hb
      have hi : (0 : Int) ≤ k := by omega
      have hi' : (k : Int) < js.length := by omega
      cases ho : okJ js[k]
      · have HG := Lib.hid (good_bad (List.getElem_mem hlt) ho)
        clear hr hb hA
        generalize js[k] = j at *
        go_wp2_with fail
        refine (l2Job_any j _).mono ?_
        rintro e w1 ⟨rfl, hb1⟩
        go_wp2
        go_ret
        exact ⟨by rw [HG.out]; rfl, HB.out.trans (hb1.mono HB.out.size)⟩
      · have HA := Lib.hid (allTo_step hA.out hlt ho)
        clear hr hb hA
        generalize js[k] = j at *
        go_wp2_with fail
        refine (l2Job_any j _).mono ?_
        rintro e w1 ⟨rfl, hb1⟩
        go_wp2
        go_roundw
        case rel => exact ⟨k + 1, by omega, by go_num, HA.out, HB.out.trans (hb1.mono HB.out.size)⟩
        case measure => simp [intOf]; omega
    · obtain rfl : k = js.length := by omega
      have hall := allTo_all hA.out
      by_cases h8 : js.length ≤ 8
      · have HG := Lib.hid (good_mk h8 hall)
        clear hall hA
        go_wp2
        go_ret
        exact ⟨by rw [HG.out]; exact congrArg (fun b => Ending.returned (Value.bool b)) (decide_eq_true (by omega)), hb⟩
      · have HG := Lib.hid (good_long (js := js) (by omega))
        clear hall hA
        go_wp2
        go_ret
        exact ⟨by rw [HG.out]; exact congrArg (fun b => Ending.returned (Value.bool b)) (decide_eq_false (by omega)), hb⟩

theorem isJob_any (j : J) (w : World) :
    Calls Tryd.prog 189 #[.agg #[.int .i64 j.t, .int .i64 j.w, .int .i64 j.r, .int .i64 j.d]] w fun e w' => e = .returned (.bool (okJ j)) ∧ Below w.heap.size w w' := by
  cases ho : okJ j
  · have hn := okJ_not ho
    have HO := Lib.hid ho
    clear ho
    by_cases c1 : 1 ≤ j.t
    · by_cases c2 : j.t ≤ 50
      · by_cases c3 : 0 ≤ j.w
        · by_cases c4 : j.w ≤ 50
          · by_cases c5 : 0 ≤ j.r
            · by_cases c6 : j.r ≤ 500
              · by_cases c7 : 0 ≤ j.d
                · have c8 : ¬ j.d ≤ 500 := fun h => hn ⟨c1, c2, c3, c4, c5, c6, c7, h⟩
                  clear hn
                  go_enter Tryd.func189, Tryd.ntmps189
                  go_wp2
                  go_ret
                  exact ⟨rfl, (Below.refl _ _).alloc (Nat.le_refl _) _⟩
                · clear hn
                  go_enter Tryd.func189, Tryd.ntmps189
                  go_wp2
                  go_ret
                  exact ⟨rfl, (Below.refl _ _).alloc (Nat.le_refl _) _⟩
              · clear hn
                go_enter Tryd.func189, Tryd.ntmps189
                go_wp2
                go_ret
                exact ⟨rfl, (Below.refl _ _).alloc (Nat.le_refl _) _⟩
            · clear hn
              go_enter Tryd.func189, Tryd.ntmps189
              go_wp2
              go_ret
              exact ⟨rfl, (Below.refl _ _).alloc (Nat.le_refl _) _⟩
          · clear hn
            go_enter Tryd.func189, Tryd.ntmps189
            go_wp2
            go_ret
            exact ⟨rfl, (Below.refl _ _).alloc (Nat.le_refl _) _⟩
        · clear hn
          go_enter Tryd.func189, Tryd.ntmps189
          go_wp2
          go_ret
          exact ⟨rfl, (Below.refl _ _).alloc (Nat.le_refl _) _⟩
      · clear hn
        go_enter Tryd.func189, Tryd.ntmps189
        go_wp2
        go_ret
        exact ⟨rfl, (Below.refl _ _).alloc (Nat.le_refl _) _⟩
    · clear hn
      go_enter Tryd.func189, Tryd.ntmps189
      go_wp2
      go_ret
      exact ⟨rfl, (Below.refl _ _).alloc (Nat.le_refl _) _⟩
  · obtain ⟨c1, c2, c3, c4, c5, c6, c7, c8⟩ := okJ_out ho
    have HO := Lib.hid ho
    clear ho
    go_enter Tryd.func189, Tryd.ntmps189
    go_wp2
    go_ret
    exact ⟨rfl, (Below.refl _ _).alloc (Nat.le_refl _) _⟩
theorem badJob_any (j : J) (w : World) :
    Calls Tryd.prog 188 #[.agg #[.int .i64 j.t, .int .i64 j.w, .int .i64 j.r, .int .i64 j.d]] w fun e w' => e = .returned (.bool (!okJ j)) ∧ Below w.heap.size w w' := by
  cases ho : okJ j
  all_goals
    go_enter Tryd.func188, Tryd.ntmps188
    go_wp2_with fail
    refine (isJob_any j _).mono ?_
    rintro e w1 ⟨rfl, hb1⟩
    go_wp2
    go_ret
    exact ⟨rfl, ((Below.refl _ _).alloc (Nat.le_refl _) _).trans (hb1.mono (by simp))⟩
theorem all_of {js : List J} (h : ∀ i (hi : i < js.length), i < js.length → okJ js[i] = true) : js.all okJ = true := by
  rw [List.all_eq_true]; exact allTo_all h
theorem all_bad {js : List J} {j : J} (hj : j ∈ js) (h : okJ j = false) : js.all okJ = false := by
  rw [List.all_eq_false]; exact ⟨j, hj, by rw [h]; simp⟩
/-- An index, or -1 where there is none. -/
def IdxIs (js : List J) (w : World) (e : Ending) (w' : World) : Prop := ∃ r : Int, e = .returned (.int .i64 r) ∧ (0 ≤ r ↔ js.all okJ = false) ∧ Below w.heap.size w w'
theorem indexFunc_any (A : Option Addr) (c : Nat) (js : List J) (w : World) (hr : Row w A (jc js)) (hn : js.length ≤ 100000000) :
    Calls Tryd.prog 200 #[.slice A js.length c, .func (.func 188) #[] #[]] w (IdxIs js w) := by
  go_enter Tryd.func200, Tryd.ntmps200
  go_wp2
  go_loopw [8] (fun i wr => ∃ k : Nat, k ≤ js.length ∧ i = .int .i64 k ∧ Hid (∀ i (hi : i < js.length), i < k → okJ js[i] = true) ∧ Below w.heap.size w wr) (fun i _ => js.length - (intOf i).toNat)
  case atStart => exact ⟨0, Nat.zero_le _, rfl, fun _ _ h => absurd h (by omega), Below.refl _ _⟩
  case round =>
    obtain ⟨k, hk, rfl, hA, hb⟩ := hrel
    by_cases hlt : k < js.length
    · obtain ⟨a, hA', _, hc0, hc1, hc2, hc3⟩ := (hr.below hb).job hlt
      subst hA'
      have HB := Lib.hid hb
      have hi : (0 : Int) ≤ k := by omega
      have hi' : (k : Int) < js.length := by omega
      cases ho : okJ js[k]
      · have HG := Lib.hid (all_bad (List.getElem_mem hlt) ho)
        clear hr hb hA
        generalize js[k] = j at *
        go_wp2_with fail
        refine (badJob_any j _).mono ?_
        rintro e w1 ⟨rfl, hb1⟩
        rw [ho]
        go_wp2
        go_ret
        exact ⟨k, rfl, ⟨fun _ => HG.out, fun _ => by omega⟩, HB.out.trans (hb1.mono HB.out.size)⟩
      · have HA := Lib.hid (allTo_step hA.out hlt ho)
        clear hr hb hA
        generalize js[k] = j at *
        go_wp2_with fail
        refine (badJob_any j _).mono ?_
        rintro e w1 ⟨rfl, hb1⟩
        rw [ho]
        go_wp2
        go_roundw
        case rel => exact ⟨k + 1, by omega, by go_num, HA.out, HB.out.trans (hb1.mono HB.out.size)⟩
        case measure => simp [intOf]; omega
    · obtain rfl : k = js.length := by omega
      have HG := Lib.hid (all_of hA.out)
      clear hA
      go_wp2
      go_ret
      exact ⟨-1, rfl, ⟨fun h => by omega, fun h => by rw [HG.out] at h; cases h⟩, hb⟩
theorem containsFunc_any (A : Option Addr) (c : Nat) (js : List J) (w : World) (hr : Row w A (jc js)) (hn : js.length ≤ 100000000) :
    Calls Tryd.prog 169 #[.slice A js.length c, .func (.func 188) #[] #[]] w fun e w' => e = .returned (.bool (!js.all okJ)) ∧ Below w.heap.size w w' := by
  go_enter Tryd.func169, Tryd.ntmps169
  go_wp2_with fail
  refine (indexFunc_any A c js _ hr hn).mono ?_
  rintro e w1 ⟨r, rfl, hr1, hb1⟩
  by_cases h0 : 0 ≤ r
  · have H := Lib.hid (hr1.1 h0)
    clear hr1
    go_wp2
    go_ret
    exact ⟨by rw [H.out]; rfl, hb1⟩
  · have H : Hid (js.all okJ = true) := by
      show _ = _
      cases h : js.all okJ
      · exact absurd (hr1.2 h) h0
      · rfl
    clear hr1
    go_wp2
    go_ret
    exact ⟨by rw [H.out]; exact congrArg (fun b => Ending.returned (Value.bool b)) (decide_eq_false (by omega)), hb1⟩
theorem IsJobs_any (A : Option Addr) (c : Nat) (js : List J) (w : World) (hr : Row w A (jc js)) (hn : js.length ≤ 100000000) :
    Calls Tryd.prog 149 #[.slice A js.length c] w fun e w' => e = .returned (.bool (goodL js)) ∧ Below w.heap.size w w' := by
  by_cases h8 : js.length ≤ 8
  · have HG : Hid (goodL js = js.all okJ) := by
      show _ = _
      unfold goodL; rw [decide_eq_true h8, Bool.and_true]
    cases hb : js.all okJ
    all_goals
      rw [hb] at HG
      go_enter Tryd.func149, Tryd.ntmps149
      go_wp2_with fail
      refine (containsFunc_any A c js _ hr hn).mono ?_
      rintro e w1 ⟨rfl, hb1⟩
      rw [hb]
      go_wp2
      go_ret
      exact ⟨by rw [HG.out]; rfl, hb1⟩
  · have HG := Lib.hid (good_long (js := js) (by omega))
    go_enter Tryd.func149, Tryd.ntmps149
    go_wp2
    go_ret
    exact ⟨by rw [HG.out]; rfl, Below.refl _ _⟩
end Go.Proofs.YtjemjdlaoebffaaDoor
