/- Texts joined: Good Ord SchedE Ends EndsO Meas Cost Ext GrpP PrecP BitP Tzs Mbr. -/
import Derived.StillTailTactics
import Derived.Deep.QuietTactic
import Derived.BigQuiet
import Derived.IntWalk
import Derived.Shelf.Spec.TrailingZeros
import Derived.Lib.LaidTab
import Derived.RangeFuncNested
import Derived.RangeFuncBox
import Derived.RangeFuncLeaves
import Derived.Shelf.Abstract
import Derived.OwnWalkIn
import Derived.TacticsInMore
import Derived.LoopNIn
import Derived.LoopIn
import Derived.Test.YtnkoncplfedffaaDoorMga1
namespace Go.Proofs.YtnkoncplfedffaaDoor
open Go.RowKit

def inB (x a b : Int) : Bool := decide (a ≤ x ∧ x ≤ b)
theorem inB_yes {x a b : Int} (h : a ≤ x) (h' : x ≤ b) : inB x a b = true := decide_eq_true ⟨h, h'⟩
theorem inB_no {x a b : Int} (h : ¬ (a ≤ x ∧ x ≤ b)) : inB x a b = false := decide_eq_false h
theorem inB_out {x a b : Int} (h : inB x a b = true) : a ≤ x ∧ x ≤ b := of_decide_eq_true h
theorem inB_not {x a b : Int} (h : inB x a b = false) : ¬ (a ≤ x ∧ x ≤ b) := of_decide_eq_false h
theorem l1In_any (x a b : Int) (w : World) :
    Calls Tryd.prog 48 #[.int .i64 x, .int .i64 a, .int .i64 b] w fun e w' => e = .returned (.bool (inB x a b)) ∧ w = w' := by
  by_cases h1 : a ≤ x
  · by_cases h2 : x ≤ b
    · have H := Lib.hid (inB_yes h1 h2)
      go_enter Tryd.func48, Tryd.ntmps48
      go_wp2
      go_ret
      exact ⟨by rw [H.out]; rfl, rfl⟩
    · have H := Lib.hid (inB_no (x := x) (a := a) (b := b) (by omega))
      go_enter Tryd.func48, Tryd.ntmps48
      go_wp2
      go_ret
      exact ⟨by rw [H.out]; rfl, rfl⟩
  · have H := Lib.hid (inB_no (x := x) (a := a) (b := b) (by omega))
    go_enter Tryd.func48, Tryd.ntmps48
    go_wp2
    go_ret
    exact ⟨by rw [H.out]; rfl, rfl⟩

theorem okJ_inB (j : J) : okJ j = (inB j.t 1 50 && inB j.w 0 50 && inB j.r 0 500 && inB j.d 0 500) := by
  rw [Bool.eq_iff_iff, okJ_iff]; unfold inB; simp only [Bool.and_eq_true, decide_eq_true_iff]; omega
set_option maxHeartbeats 1000000 in
theorem l2Job_any (j : J) (w : World) :
    Calls Tryd.prog 75 #[.agg #[.int .i64 j.t, .int .i64 j.w, .int .i64 j.r, .int .i64 j.d]] w fun e w' => e = .returned (.bool (okJ j)) ∧ Below w.heap.size w w' := by
  have HO := Lib.hid (okJ_inB j)
  cases h1 : inB j.t 1 50
  · go_enter Tryd.func75, Tryd.ntmps75
    go_wp2_with (go_at_call 48; refine (l1In_any _ _ _ _).mono ?_; rintro e w' ⟨rfl, rfl⟩)
    go_ret
    exact ⟨by rw [HO.out]; simp [h1], (Below.refl _ _).alloc (Nat.le_refl _) _⟩
  · cases h2 : inB j.w 0 50
    · go_enter Tryd.func75, Tryd.ntmps75
      go_wp2_with (go_at_call 48; refine (l1In_any _ _ _ _).mono ?_; rintro e w' ⟨rfl, rfl⟩)
      go_ret
      exact ⟨by rw [HO.out]; simp [h1, h2], (Below.refl _ _).alloc (Nat.le_refl _) _⟩
    · cases h3 : inB j.r 0 500
      · go_enter Tryd.func75, Tryd.ntmps75
        go_wp2_with (go_at_call 48; refine (l1In_any _ _ _ _).mono ?_; rintro e w' ⟨rfl, rfl⟩)
        go_ret
        exact ⟨by rw [HO.out]; simp [h1, h2, h3], (Below.refl _ _).alloc (Nat.le_refl _) _⟩
      · go_enter Tryd.func75, Tryd.ntmps75
        go_wp2_with (go_at_call 48; refine (l1In_any _ _ _ _).mono ?_; rintro e w' ⟨rfl, rfl⟩)
        go_ret
        exact ⟨by rw [HO.out]; simp [h1, h2, h3], (Below.refl _ _).alloc (Nat.le_refl _) _⟩
theorem allTo_step {js : List J} {k : Nat} (h : ∀ i (hi : i < js.length), i < k → okJ js[i] = true) (hk : k < js.length) (ho : okJ js[k] = true) : ∀ i (hi : i < js.length), i < k + 1 → okJ js[i] = true := by
  intro i hi hik
  by_cases e : i = k
  · subst e; exact ho
  · exact h i hi (by omega)
theorem allTo_all {js : List J} (h : ∀ i (hi : i < js.length), i < js.length → okJ js[i] = true) : ∀ j ∈ js, okJ j = true := by
  intro j hj
  obtain ⟨i, hi, rfl⟩ := List.mem_iff_getElem.1 hj
  exact h i hi hi
theorem l2Good_any (A : Option Addr) (c : Nat) (js : List J) (w : World) (hr : Row w A (jc js)) (hn : js.length ≤ 100000000) :
    Calls Tryd.prog 53 #[.slice A js.length c] w fun e w' => e = .returned (.bool (goodL js)) ∧ Below w.heap.size w w' := by
  go_enter Tryd.func53, Tryd.ntmps53
  go_wp2
  go_loopw [3] (fun i wr => ∃ k : Nat, k ≤ js.length ∧ i = .int .i64 k ∧ Hid (∀ i (hi : i < js.length), i < k → okJ js[i] = true) ∧ Below w.heap.size w wr) (fun i _ => js.length - (intOf i).toNat)
  case atStart => exact ⟨0, Nat.zero_le _, rfl, fun _ _ h => absurd h (by omega), Below.refl _ _⟩
  case round =>
    obtain ⟨k, hk, rfl, hA, hb⟩ := hrel
    by_cases hlt : k < js.length
    · obtain ⟨a, hA', _, hc0, hc1, hc2, hc3⟩ := (hr.below hb).job hlt
      subst hA'
      have HB := Lib.hid hb
      have hi : (0 : Int) ≤ k := by omega
      have hi' : (k : Int) < js.length := by omega
      cases ho : okJ js[k]
      · have HG := Lib.hid (good_bad (List.getElem_mem hlt) ho)
        clear hr hb hA
        generalize js[k] = j at *
        go_wp2_with fail
        refine (l2Job_any j _).mono ?_
        rintro e w1 ⟨rfl, hb1⟩
        go_wp2
        go_ret
        exact ⟨by rw [HG.out]; rfl, HB.out.trans (hb1.mono HB.out.size)⟩
      · have HA := Lib.hid (allTo_step hA.out hlt ho)
        clear hr hb hA
        generalize js[k] = j at *
        go_wp2_with fail
        refine (l2Job_any j _).mono ?_
        rintro e w1 ⟨rfl, hb1⟩
        go_wp2
        go_roundw
        case rel => exact ⟨k + 1, by omega, by go_num, HA.out, HB.out.trans (hb1.mono HB.out.size)⟩
        case measure => simp [intOf]; omega
    · obtain rfl : k = js.length := by omega
      have hall := allTo_all hA.out
      by_cases h8 : js.length ≤ 8
      · have HG := Lib.hid (good_mk h8 hall)
        clear hall hA
        go_wp2
        go_ret
        exact ⟨by rw [HG.out]; exact congrArg (fun b => Ending.returned (Value.bool b)) (decide_eq_true (by omega)), hb⟩
      · have HG := Lib.hid (good_long (js := js) (by omega))
        clear hall hA
        go_wp2
        go_ret
        exact ⟨by rw [HG.out]; exact congrArg (fun b => Ending.returned (Value.bool b)) (decide_eq_false (by omega)), hb⟩

theorem isJob_any (j : J) (w : World) :
    Calls Tryd.prog 99 #[.agg #[.int .i64 j.t, .int .i64 j.w, .int .i64 j.r, .int .i64 j.d]] w fun e w' => e = .returned (.bool (okJ j)) ∧ Below w.heap.size w w' := by
  cases ho : okJ j
  · have hn := okJ_not ho
    have HO := Lib.hid ho
    clear ho
    by_cases c1 : 1 ≤ j.t
    · by_cases c2 : j.t ≤ 50
      · by_cases c3 : 0 ≤ j.w
        · by_cases c4 : j.w ≤ 50
          · by_cases c5 : 0 ≤ j.r
            · by_cases c6 : j.r ≤ 500
              · by_cases c7 : 0 ≤ j.d
                · have c8 : ¬ j.d ≤ 500 := fun h => hn ⟨c1, c2, c3, c4, c5, c6, c7, h⟩
                  clear hn
                  go_enter Tryd.func99, Tryd.ntmps99
                  go_wp2
                  go_ret
                  exact ⟨rfl, (Below.refl _ _).alloc (Nat.le_refl _) _⟩
                · clear hn
                  go_enter Tryd.func99, Tryd.ntmps99
                  go_wp2
                  go_ret
                  exact ⟨rfl, (Below.refl _ _).alloc (Nat.le_refl _) _⟩
              · clear hn
                go_enter Tryd.func99, Tryd.ntmps99
                go_wp2
                go_ret
                exact ⟨rfl, (Below.refl _ _).alloc (Nat.le_refl _) _⟩
            · clear hn
              go_enter Tryd.func99, Tryd.ntmps99
              go_wp2
              go_ret
              exact ⟨rfl, (Below.refl _ _).alloc (Nat.le_refl _) _⟩
          · clear hn
            go_enter Tryd.func99, Tryd.ntmps99
            go_wp2
            go_ret
            exact ⟨rfl, (Below.refl _ _).alloc (Nat.le_refl _) _⟩
        · clear hn
          go_enter Tryd.func99, Tryd.ntmps99
          go_wp2
          go_ret
          exact ⟨rfl, (Below.refl _ _).alloc (Nat.le_refl _) _⟩
      · clear hn
        go_enter Tryd.func99, Tryd.ntmps99
        go_wp2
        go_ret
        exact ⟨rfl, (Below.refl _ _).alloc (Nat.le_refl _) _⟩
    · clear hn
      go_enter Tryd.func99, Tryd.ntmps99
      go_wp2
      go_ret
      exact ⟨rfl, (Below.refl _ _).alloc (Nat.le_refl _) _⟩
  · obtain ⟨c1, c2, c3, c4, c5, c6, c7, c8⟩ := okJ_out ho
    have HO := Lib.hid ho
    clear ho
    go_enter Tryd.func99, Tryd.ntmps99
    go_wp2
    go_ret
    exact ⟨rfl, (Below.refl _ _).alloc (Nat.le_refl _) _⟩
theorem badJob_any (j : J) (w : World) :
    Calls Tryd.prog 98 #[.agg #[.int .i64 j.t, .int .i64 j.w, .int .i64 j.r, .int .i64 j.d]] w fun e w' => e = .returned (.bool (!okJ j)) ∧ Below w.heap.size w w' := by
  cases ho : okJ j
  all_goals
    go_enter Tryd.func98, Tryd.ntmps98
    go_wp2_with fail
    refine (isJob_any j _).mono ?_
    rintro e w1 ⟨rfl, hb1⟩
    go_wp2
    go_ret
    exact ⟨rfl, ((Below.refl _ _).alloc (Nat.le_refl _) _).trans (hb1.mono (by simp))⟩
theorem all_of {js : List J} (h : ∀ i (hi : i < js.length), i < js.length → okJ js[i] = true) : js.all okJ = true := by
  rw [List.all_eq_true]; exact allTo_all h
theorem all_bad {js : List J} {j : J} (hj : j ∈ js) (h : okJ j = false) : js.all okJ = false := by
  rw [List.all_eq_false]; exact ⟨j, hj, by rw [h]; simp⟩
/-- An index, or -1 where there is none. -/
def IdxIs (js : List J) (w : World) (e : Ending) (w' : World) : Prop := ∃ r : Int, e = .returned (.int .i64 r) ∧ (0 ≤ r ↔ js.all okJ = false) ∧ Below w.heap.size w w'
theorem indexFunc_any (A : Option Addr) (c : Nat) (js : List J) (w : World) (hr : Row w A (jc js)) (hn : js.length ≤ 100000000) :
    Calls Tryd.prog 100 #[.slice A js.length c, .func (.func 98) #[] #[]] w (IdxIs js w) := by
  go_enter Tryd.func100, Tryd.ntmps100
  go_wp2
  go_loopw [8] (fun i wr => ∃ k : Nat, k ≤ js.length ∧ i = .int .i64 k ∧ Hid (∀ i (hi : i < js.length), i < k → okJ js[i] = true) ∧ Below w.heap.size w wr) (fun i _ => js.length - (intOf i).toNat)
  case atStart => exact ⟨0, Nat.zero_le _, rfl, fun _ _ h => absurd h (by omega), Below.refl _ _⟩
  case round =>
    obtain ⟨k, hk, rfl, hA, hb⟩ := hrel
    by_cases hlt : k < js.length
    · obtain ⟨a, hA', _, hc0, hc1, hc2, hc3⟩ := (hr.below hb).job hlt
      subst hA'
      have HB := Lib.hid hb
      have hi : (0 : Int) ≤ k := by omega
      have hi' : (k : Int) < js.length := by omega
      cases ho : okJ js[k]
      · have HG := Lib.hid (all_bad (List.getElem_mem hlt) ho)
        clear hr hb hA
        generalize js[k] = j at *
        go_wp2_with fail
        refine (badJob_any j _).mono ?_
        rintro e w1 ⟨rfl, hb1⟩
        rw [ho]
        go_wp2
        go_ret
        exact ⟨k, rfl, ⟨fun _ => HG.out, fun _ => by omega⟩, HB.out.trans (hb1.mono HB.out.size)⟩
      · have HA := Lib.hid (allTo_step hA.out hlt ho)
        clear hr hb hA
        generalize js[k] = j at *
        go_wp2_with fail
        refine (badJob_any j _).mono ?_
        rintro e w1 ⟨rfl, hb1⟩
        rw [ho]
        go_wp2
        go_roundw
        case rel => exact ⟨k + 1, by omega, by go_num, HA.out, HB.out.trans (hb1.mono HB.out.size)⟩
        case measure => simp [intOf]; omega
    · obtain rfl : k = js.length := by omega
      have HG := Lib.hid (all_of hA.out)
      clear hA
      go_wp2
      go_ret
      exact ⟨-1, rfl, ⟨fun h => by omega, fun h => by rw [HG.out] at h; cases h⟩, hb⟩
theorem containsFunc_any (A : Option Addr) (c : Nat) (js : List J) (w : World) (hr : Row w A (jc js)) (hn : js.length ≤ 100000000) :
    Calls Tryd.prog 77 #[.slice A js.length c, .func (.func 98) #[] #[]] w fun e w' => e = .returned (.bool (!js.all okJ)) ∧ Below w.heap.size w w' := by
  go_enter Tryd.func77, Tryd.ntmps77
  go_wp2_with fail
  refine (indexFunc_any A c js _ hr hn).mono ?_
  rintro e w1 ⟨r, rfl, hr1, hb1⟩
  by_cases h0 : 0 ≤ r
  · have H := Lib.hid (hr1.1 h0)
    clear hr1
    go_wp2
    go_ret
    exact ⟨by rw [H.out]; rfl, hb1⟩
  · have H : Hid (js.all okJ = true) := by
      show _ = _
      cases h : js.all okJ
      · exact absurd (hr1.2 h) h0
      · rfl
    clear hr1
    go_wp2
    go_ret
    exact ⟨by rw [H.out]; exact congrArg (fun b => Ending.returned (Value.bool b)) (decide_eq_false (by omega)), hb1⟩
theorem IsJobs_any (A : Option Addr) (c : Nat) (js : List J) (w : World) (hr : Row w A (jc js)) (hn : js.length ≤ 100000000) :
    Calls Tryd.prog 76 #[.slice A js.length c] w fun e w' => e = .returned (.bool (goodL js)) ∧ Below w.heap.size w w' := by
  by_cases h8 : js.length ≤ 8
  · have HG : Hid (goodL js = js.all okJ) := by
      show _ = _
      unfold goodL; rw [decide_eq_true h8, Bool.and_true]
    cases hb : js.all okJ
    all_goals
      rw [hb] at HG
      go_enter Tryd.func76, Tryd.ntmps76
      go_wp2_with fail
      refine (containsFunc_any A c js _ hr hn).mono ?_
      rintro e w1 ⟨rfl, hb1⟩
      rw [hb]
      go_wp2
      go_ret
      exact ⟨by rw [HG.out]; rfl, hb1⟩
  · have HG := Lib.hid (good_long (js := js) (by omega))
    go_enter Tryd.func76, Tryd.ntmps76
    go_wp2
    go_ret
    exact ⟨by rw [HG.out]; rfl, Below.refl _ _⟩
end Go.Proofs.YtnkoncplfedffaaDoor

namespace Go.Proofs.YtnkoncplfedffaaDoor
open Go.RowKit

def hasI (xs : List Int) (x : Int) : Bool := decide (x ∈ xs)
theorem hasI_yes {xs : List Int} {x : Int} (h : x ∈ xs) : hasI xs x = true := decide_eq_true h
theorem hasI_no {xs : List Int} {x : Int} (h : x ∉ xs) : hasI xs x = false := decide_eq_false h
theorem hasI_out {xs : List Int} {x : Int} (h : hasI xs x = true) : x ∈ xs := of_decide_eq_true h
theorem hasI_not {xs : List Int} {x : Int} (h : hasI xs x = false) : x ∉ xs := of_decide_eq_false h
theorem notTo_step {xs : List Int} {x : Int} {k : Nat} (h : ∀ i (hi : i < xs.length), i < k → xs[i] ≠ x) (hk : k < xs.length) (ho : xs[k] ≠ x) : ∀ i (hi : i < xs.length), i < k + 1 → xs[i] ≠ x := by
  intro i hi hik
  by_cases e : i = k
  · subst e; exact ho
  · exact h i hi (by omega)
theorem notTo_all {xs : List Int} {x : Int} (h : ∀ i (hi : i < xs.length), i < xs.length → xs[i] ≠ x) : x ∉ xs := by
  intro hx
  obtain ⟨i, hi, rfl⟩ := List.mem_iff_getElem.1 hx
  exact h i hi hi rfl
theorem inAll_step {o : List Int} {k : Nat} (h : ∀ i : Nat, i < k → (i : Int) ∈ o) (hk : (k : Int) ∈ o) : ∀ i : Nat, i < k + 1 → (i : Int) ∈ o := by
  intro i hi
  by_cases e : i = k
  · subst e; exact hk
  · exact h i (by omega)
/-- What the program has seen: the numbers so far. -/
def seenM (xs : List Int) : List (Int × Value) := xs.map fun x => (x, .bool true)
theorem seen_in : ∀ {xs : List Int} {x : Int}, x ∈ xs → getM (seenM xs) x = some (.bool true)
  | y :: xs, x, h => by
    show (if y = x then _ else _) = _
    by_cases e : y = x
    · rw [if_pos e]
    · rw [if_neg e]
      rcases List.mem_cons.1 h with h | h
      · exact absurd h.symm e
      · exact seen_in h
theorem seen_out : ∀ {xs : List Int} {x : Int}, x ∉ xs → getM (seenM xs) x = none
  | [], _, _ => rfl
  | y :: xs, x, h => by
    show (if y = x then _ else _) = _
    rw [if_neg (fun e => h (by rw [e]; exact List.mem_cons_self))]
    exact seen_out (fun e => h (List.mem_cons_of_mem _ e))
theorem zeroB (w : World) : (zeroValue 4).run Tryd.prog w = .ok (.bool false) w := by kernel_rfl
def goodTo (o : List Int) (k : Nat) : Prop := (∀ x ∈ o.take k, 0 ≤ x ∧ x < o.length) ∧ (o.take k).Nodup
theorem goodTo_step {o : List Int} {k : Nat} (h : goodTo o k) (hk : k < o.length) (h0 : 0 ≤ o[k]) (h1 : o[k] < o.length) (hn : o[k] ∉ o.take k) : goodTo o (k + 1) := by
  unfold goodTo
  rw [List.take_succ_eq_append_getElem hk]
  refine ⟨fun x hx => ?_, ?_⟩
  · rcases List.mem_append.1 hx with h' | h'
    · exact h.1 x h'
    · rw [List.mem_singleton.1 h']; exact ⟨h0, h1⟩
  · rw [List.nodup_append]
    refine ⟨h.2, by simp, ?_⟩
    intro a ha b hb e
    rw [List.mem_singleton.1 hb] at e
    exact hn (e ▸ ha)
theorem seen_snoc {o : List Int} {k : Nat} (hk : k < o.length) : seenM (o.take k) ++ [(o[k], .bool true)] = seenM (o.take (k + 1)) := by
  unfold seenM; rw [List.take_succ_eq_append_getElem hk, List.map_append]; rfl
theorem ord_dup {o : List Int} {k : Nat} (hk : k < o.length) (hx : o[k] ∈ o.take k) : ordB (o.length : Int) o = false := by
  cases h : ordB (o.length : Int) o
  · rfl
  · obtain ⟨_, hn⟩ := ord_range h
    rw [← List.take_append_drop k o, List.nodup_append] at hn
    exact absurd rfl (hn.2.2 _ hx _ (List.mem_drop_iff_getElem.2 ⟨0, by simpa using hk, by simp⟩))
theorem ord_out_of {o : List Int} {k : Nat} (hk : k < o.length) (hx : ¬ (0 ≤ o[k] ∧ o[k] < o.length)) : ordB (o.length : Int) o = false := by
  cases h : ordB (o.length : Int) o
  · rfl
  · exact absurd ((ord_range h).1 _ (List.getElem_mem hk)) hx
end Go.Proofs.YtnkoncplfedffaaDoor

namespace Go.Proofs.YtnkoncplfedffaaDoor
open Go.RowKit

def twoB (js : List J) (o : List Int) : Bool := goodL js && ordB js.length o
theorem l1Most_any (x y : Int) (w : World) :
    Calls Tryd.prog 126 #[.int .i64 x, .int .i64 y] w fun e w' => e = .returned (.int .i64 (max x y)) ∧ w' = w := by
  by_cases h : y < x
  · go_enter Tryd.func126, Tryd.ntmps126
    go_wp2
    go_ret
    exact ⟨by rw [show max x y = x by omega]; rfl, rfl⟩
  · go_enter Tryd.func126, Tryd.ntmps126
    go_wp2
    go_ret
    exact ⟨by rw [show max x y = y by omega]; rfl, rfl⟩
end Go.Proofs.YtnkoncplfedffaaDoor

namespace Go.Proofs.YtnkoncplfedffaaDoor
open Go.RowKit

abbrev natI (p : List Nat) : List Int := p.map Int.ofNat
theorem Row.nat {w : World} {A : Option Addr} {p : List Nat} (h : Row w A (ic (natI p))) {k : Nat} (hk : k < p.length) : ∃ ad, A = some ad ∧ w.cell? (ad.add k) = some (.int .i64 ((p[k] : Nat) : Int)) := by
  obtain ⟨ad, hA, hc⟩ := h.int (k := k) (by simpa using hk)
  exact ⟨ad, hA, by rw [hc]; simp⟩
theorem ic_set (xs : List Int) (j : Nat) (x : Int) : (ic xs).toArray.setIfInBounds j (.int .i64 x) = (ic (xs.set j x)).toArray := by
  unfold ic; simp [List.map_set]
theorem ic_made (n : Nat) : madeCells #[.int .i64 0] n = (ic (List.replicate n 0)).toArray := by
  apply Array.ext'
  apply List.ext_getElem?
  intro i
  by_cases h : i < n
  · simp [madeCells, ic, h, Nat.mod_one]
  · simp [madeCells, ic, h]
theorem BlockIs.int {w : World} {g : Nat} {t : TypeId} {xs : List Int} (h : BlockIs w g t (ic xs).toArray) {k : Nat} (hk : k < xs.length) : w.cell? ⟨g, k, none⟩ = some (.int .i64 xs[k]) := by
  rw [h.cell]; unfold ic; simp [hk]
theorem endsGo_drop (js : List J) (p : List Nat) (k : Nat) (now : Int) (xs : List Int) (h : k < p.length) :
    endsGo js (p.drop k) now xs = endsGo js (p.drop (k + 1)) (max now (js.getD p[k] j0).r + (js.getD p[k] j0).t) (xs.set p[k] (max now (js.getD p[k] j0).r + (js.getD p[k] j0).t)) := by
  rw [List.drop_eq_getElem_cons h]; rfl
theorem startsGo_drop (js : List J) (p : List Nat) (k : Nat) (now : Int) (xs : List Int) (h : k < p.length) :
    startsGo js (p.drop k) now xs = startsGo js (p.drop (k + 1)) (max now (js.getD p[k] j0).r + (js.getD p[k] j0).t) (xs.set p[k] (max now (js.getD p[k] j0).r)) := by
  rw [List.drop_eq_getElem_cons h]; rfl
theorem mix_step {α : Type} (es ss : List α) (k : Nat) (x : α) (h : es.length = ss.length) (hk : k < es.length) (hx : es[k] = x) : (es.take k ++ ss.drop k).set k x = es.take (k + 1) ++ ss.drop (k + 1) := by
  subst hx
  apply List.ext_getElem?
  intro i
  rcases Nat.lt_trichotomy i k with hi | hi | hi
  · rw [List.getElem?_set_ne (by omega), List.getElem?_append_left (by simp; omega), List.getElem?_append_left (by simp; omega), List.getElem?_take, List.getElem?_take, if_pos hi, if_pos (by omega)]
  · subst hi
    rw [List.getElem?_set_self (by simp; omega), List.getElem?_append_left (by simp; omega), List.getElem?_take, if_pos (by omega), List.getElem?_eq_getElem hk]
  · rw [List.getElem?_set_ne (by omega), List.getElem?_append_right (by simp; omega), List.getElem?_append_right (by simp; omega), List.getElem?_drop, List.getElem?_drop]
    simp only [List.length_take]
    congr 1; omega
theorem mix_len {α : Type} (es ss : List α) (k : Nat) (h : es.length = ss.length) (hk : k ≤ es.length) : (es.take k ++ ss.drop k).length = ss.length := by simp; omega
theorem mix_at {α : Type} (es ss : List α) (k : Nat) (h : es.length = ss.length) (hk : k < es.length) : (es.take k ++ ss.drop k)[k]'(by simp; omega) = ss[k] := by
  rw [List.getElem_append_right (by simp; omega)]
  simp [Nat.min_eq_left (Nat.le_of_lt hk)]

theorem seg_of_block {w : World} {g base : Nat} {t : TypeId} {xs : List Int} (h : BlockIs w g t (ic xs).toArray) (hb : base ≤ g) (hm : xs.length ≤ maxLen) : Seg w t 1 base w.heap.size (some ⟨g, 0, none⟩) xs.length xs.length (ic xs) := by
  have := h.own (base := base) (n := xs.length) (c := xs.length) (size := 1) hb (by simp [ic_len]) (Nat.le_refl _) hm (by simp [ic_len])
  rw [List.take_of_length_le (by simp [ic_len])] at this
  exact Seg.of_own this
theorem l1Most_still (x y m : Int) (h : max x y = m) (w : World) :
    Calls Tryd.prog 126 #[.int .i64 x, .int .i64 y] w fun e w' => e = .returned (.int .i64 m) ∧ w' = w := by
  subst h; exact l1Most_any x y w
theorem max_bd {x y b : Int} (hx : 0 ≤ x) (hx' : x ≤ b) (hy : y ≤ b) : 0 ≤ max x y ∧ max x y ≤ b := by omega
set_option maxRecDepth 100000 in
set_option maxHeartbeats 1000000 in
theorem l2Starts_any (A B : Option Addr) (c d : Nat) (js : List J) (p : List Nat) (w : World) (hr : Row w A (jc js)) (hq : Row w B (ic (natI p))) (hg : goodL js = true) (hp : p.Perm (List.range js.length)) :
    Calls Tryd.prog 115 #[.slice A js.length c, .slice B p.length d] w fun e w' => ∃ g, e = .returned (.slice (some ⟨g, 0, none⟩) js.length js.length) ∧ w.heap.size ≤ g ∧ BlockIs w' g 3 (ic (startsL js p)).toArray ∧ Below w.heap.size w w' := by
  obtain ⟨h8, hok⟩ := good_out hg
  have hpl : p.length = js.length := by simpa using hp.length_eq
  have hmk := run_make_row' (P := Tryd.prog) 30 3 (.int .i64 0) 8 Tryd.underlying30 infoI rfl .i64 .i64 js.length (by omega) (by omega)
  have HPL := Lib.hid hpl
  have hp8 : p.length ≤ 8 := by omega
  clear hpl
  go_enter Tryd.func115, Tryd.ntmps115
  go_wp2
  go_loopw [6, 7] (fun v i wr => ∃ (k : Nat) (now : Int) (xs : List Int), k ≤ p.length ∧ i = .int .i64 k ∧ v = .int .i64 now ∧ 0 ≤ now ∧ now ≤ 500 + 50 * k ∧ Hid (xs.length = js.length) ∧ BlockIs wr w.heap.size 3 (ic xs).toArray ∧ Hid (startsGo js (p.drop k) now xs = startsL js p) ∧ Below w.heap.size w wr) (fun _ i _ => p.length - (intOf i).toNat)
  case atStart =>
    exact ⟨0, 0, List.replicate js.length 0, Nat.zero_le _, rfl, rfl, by omega, by omega, List.length_replicate, by rw [← ic_made]; exact BlockIs.new _ _ _, rfl, (Below.refl _ _).alloc (Nat.le_refl _) _⟩
  case round =>
    obtain ⟨k, now, xs, hk, rfl, rfl, hn0, hn1, hxl, hB, hE, hb⟩ := hrel
    clear hmk
    by_cases hlt : k < p.length
    · obtain ⟨a, hA', hc⟩ := (hq.below hb).nat hlt
      subst hA'
      have hj : p[k] < js.length := perm_lt hp (List.getElem_mem hlt)
      obtain ⟨ad, hA, hbl, hc0, hc1, hc2, hc3⟩ := (hr.below hb).job hj
      subst hA
      have hokj := hok _ (List.getElem_mem hj)
      have HE : Hid (startsGo js (p.drop (k + 1)) (max now js[p[k]].r + js[p[k]].t) (xs.set p[k] (max now js[p[k]].r)) = startsL js p) := by
        have := hE.out
        rw [startsGo_drop js p k now xs hlt, getD_at js j0 hj] at this
        exact this
      obtain ⟨s0, s1⟩ := step_bd hokj hn0 hn1
      obtain ⟨t0, t1, _, _, r0, r1, _, _⟩ := okJ_out hokj
      have hxj : p[k] < xs.length := by rw [hxl.out]; exact hj
      have hck := hB.int hxj
      have hfz := hB.frozen p[k]
      have HBS := Lib.hid ((hb.setCell (p := ⟨w.heap.size, p[k], none⟩) (Nat.le_refl _) (.int .i64 (max now js[p[k]].r))).drew)
      have HBl := Lib.hid ((hB.set p[k] (.int .i64 (max now js[p[k]].r))).drew)
      rw [ic_set] at HBl
      have HX : Hid ((xs.set p[k] (max now js[p[k]].r)).length = js.length) := by show _ = _; rw [List.length_set]; exact hxl.out
      have HC : Hid ((xs.set p[k] (max now js[p[k]].r))[p[k]]'(by rw [List.length_set]; exact hxj) = max now js[p[k]].r) := by show _ = _; simp
      have HQ := Lib.hid hq
      have HR := Lib.hid hr
      have hlk := hlt
      clear hE hr hq hb hB hokj
      have hq0 : (0 : Int) ≤ p[k] := by omega
      have hq1 : (p[k] : Int) < js.length := by omega
      have hk0 : (0 : Int) ≤ k := by omega
      have hk1 : (k : Int) < p.length := by omega
      generalize hmx : max now js[p[k]].r = mx at *
      have HM := Lib.hid hmx
      clear hmx
      go_wp2
      go_still_tail 16, (by kernel_rfl)
      still_call (l1Most_still _ _ _ HM.out _)
      repeat still_step
      refine wpStill_nil ?_
      change wpList _ _ _ _ _ wr.drew
      go_wp2
      generalize (wr.setCell ⟨w.heap.size, p[k], none⟩ (Value.int .i64 mx)).drew = w3 at *
      clear hc hc0 hc1 hc2 hc3 hck hfz hbl
      obtain ⟨a3, hA3, hc⟩ := (HQ.out.below HBS.out).nat hlk
      injection hA3 with hA3
      subst hA3
      obtain ⟨ad3, hA3, _, hc0, hc1, hc2, hc3⟩ := (HR.out.below HBS.out).job hj
      injection hA3 with hA3
      subst hA3
      have hck := HBl.out.int (k := p[k]) (by rw [List.length_set]; exact hxj)
      rw [HC.out] at hck
      have hm := max_bd (x := now) (y := js[p[k]].r) (b := 500 + 50 * k) hn0 hn1 (by omega)
      rw [HM.out] at hm
      clear HC HM HQ HR
      generalize js[p[k]] = j at *
      generalize p[k] = q at *
      go_quiet (fail)
      go_wp2
      go_roundw
      case rel => exact ⟨k + 1, mx + j.t, _, by omega, by go_num, by go_num, s0, s1, HX, HBl.out, HE, below_drewN HBS.out _⟩
      case measure => simp [intOf]; omega
    · go_wp2
      go_ret
      have hE' := hE.out
      rw [List.drop_eq_nil_of_le (by omega)] at hE'
      have hxs : xs = startsL js p := hE'
      subst hxs
      exact ⟨_, rfl, Nat.le_refl _, hB, hb⟩

theorem ends_starts_at {js : List J} {p : List Nat} (hp : p.Perm (List.range js.length)) {k : Nat} (hk : k < js.length) (h1 : k < (endsL js p).length) (h2 : k < (startsL js p).length) : (endsL js p)[k] = (startsL js p)[k] + js[k].t := by
  have := end_startL js p hp k hk
  rwa [getD_at _ _ h1, getD_at _ _ h2, getD_at js j0 hk] at this
set_option maxRecDepth 100000 in
set_option maxHeartbeats 1000000 in
theorem l2Ends_any (A B : Option Addr) (c d : Nat) (js : List J) (p : List Nat) (w : World) (hr : Row w A (jc js)) (hq : Row w B (ic (natI p))) (hg : goodL js = true) (hp : p.Perm (List.range js.length)) :
    Calls Tryd.prog 88 #[.slice A js.length c, .slice B p.length d] w fun e w' => ∃ g, e = .returned (.slice (some ⟨g, 0, none⟩) js.length js.length) ∧ w.heap.size ≤ g ∧ BlockIs w' g 3 (ic (endsL js p)).toArray ∧ Below w.heap.size w w' := by
  obtain ⟨h8, hok⟩ := good_out hg
  go_enter Tryd.func88, Tryd.ntmps88
  go_wp2_with fail
  refine (l2Starts_any A B c d js p _ hr hq hg hp).mono ?_
  rintro e w1 ⟨g, rfl, hg1, hB1, hb1⟩
  go_wp2
  go_loopw [6] (fun i wr => ∃ (k : Nat), k ≤ js.length ∧ i = .int .i64 k ∧ BlockIs wr g 3 (ic ((endsL js p).take k ++ (startsL js p).drop k)).toArray ∧ Below w.heap.size w wr) (fun i _ => js.length - (intOf i).toNat)
  case atStart => exact ⟨0, Nat.zero_le _, rfl, by simpa using hB1, hb1⟩
  case round =>
    obtain ⟨k, hk, rfl, hB, hb⟩ := hrel
    clear hB1 hb1
    have hel := endsL_len js p
    have hsl := startsL_len js p
    by_cases hlt : k < js.length
    · obtain ⟨ad, hA, hbl, hc0, hc1, hc2, hc3⟩ := (hr.below hb).job hlt
      subst hA
      have hck := hB.int (k := k) (by rw [mix_len _ _ _ (by omega) (by omega)]; omega)
      rw [mix_at _ _ _ (by omega) (by omega)] at hck
      have hfz := hB.frozen k
      have he := ends_starts_at hp hlt (by omega) (by omega)
      have hbd := endsL_bd hg hp _ (List.getElem_mem (l := endsL js p) (n := k) (by omega))
      obtain ⟨t0, t1, _, _, _, _, _, _⟩ := okJ_out (hok _ (List.getElem_mem hlt))
      have HB := Lib.hid (hB.set k (.int .i64 ((endsL js p)[k]'(by omega))))
      rw [ic_set, mix_step _ _ k _ (by omega) (by omega) rfl] at HB
      have Hb := Lib.hid hb
      rw [he] at HB hbd
      have hk0 : (0 : Int) ≤ k := by omega
      have hk1 : (k : Int) < js.length := by omega
      generalize (startsL js p)[k]'(by rw [startsL_len]; exact hlt) = s at *
      generalize js[k] = j at *
      clear hB hb hel hsl he hr hq
      go_wp2
      go_still_tail 13, (by kernel_rfl)
      change wpList _ _ _ _ _ wr.drew
      go_wp2
      go_roundw
      case rel => exact ⟨k + 1, by omega, by go_num, HB.out.drew, (Hb.out.setCell (by exact hg1) _).drew⟩
      case measure => simp [intOf]; omega
    · obtain rfl : k = js.length := by omega
      rw [List.take_of_length_le (by omega), List.drop_eq_nil_of_le (by omega), List.append_nil] at hB
      have HB := Lib.hid hB
      clear hB
      go_wp2
      go_ret
      exact ⟨g, rfl, hg1, HB.out, hb⟩
end Go.Proofs.YtnkoncplfedffaaDoor

namespace Go.Proofs.YtnkoncplfedffaaDoor
open Go.RowKit

def natsOf (o : List Int) : List Nat := o.map Int.toNat
theorem natsOf_natI (p : List Nat) : natsOf (natI p) = p := by
  unfold natsOf natI
  rw [List.map_map, show (Int.toNat ∘ Int.ofNat) = id from rfl, List.map_id]
theorem two_out {js : List J} {o : List Int} (h : twoB js o = true) : goodL js = true ∧ ∃ p : List Nat, o = natI p ∧ p.Perm (List.range js.length) ∧ natsOf o = p := by
  unfold twoB at h
  rw [Bool.and_eq_true] at h
  obtain ⟨p, rfl, hp, _, _⟩ := ord_nat h.2
  exact ⟨h.1, p, rfl, hp, natsOf_natI p⟩
/-- What a function hands back: an int and a bool. -/
def RetNB (w : World) (r : Int × Bool) (e : Ending) (w' : World) : Prop := e = .returned (.tuple #[.int .i64 r.1, .bool r.2]) ∧ Below w.heap.size w w'
theorem ret_empty {w w1 : World} {r : List Int × Bool} (hr : r = ([], false)) (hb : Below w.heap.size w w1) (e : Ending) (he : e = .returned (.tuple #[.slice (some ⟨w1.heap.size, 0, none⟩) 0 0, .bool false])) : RetIB w r e (w1.alloc (.cells #[] 3)) := by
  subst hr he
  have h := BlockIs.new w1 3 (ic []).toArray
  exact ⟨_, 0, rfl, seg_of_block h hb.size (by simp), hb.alloc hb.size _⟩
theorem ret_block {w w' : World} {r : List Int × Bool} {xs : List Int} {g : Nat} (hr : r = (xs, true)) (hg : w.heap.size ≤ g) (hB : BlockIs w' g 3 (ic xs).toArray) (hm : xs.length ≤ 100000000) (hb : Below w.heap.size w w') (e : Ending) (he : e = .returned (.tuple #[.slice (some ⟨g, 0, none⟩) xs.length xs.length, .bool true])) : RetIB w r e w' := by
  subst hr he
  exact ⟨_, xs.length, rfl, seg_of_block hB hg (by unfold maxLen; simp; omega), hb⟩

section
variable (A B : Option Addr) (c d : Nat) (js : List J) (o : List Int) (w : World) (hr : Row w A (jc js)) (hq : Row w B (ic o)) (hn : js.length ≤ 10000000) (hm : o.length ≤ 10000000)
include hr hq hn hm
omit hn hm in
theorem l2Starts_o (ht : twoB js o = true) : Calls Tryd.prog 115 #[.slice A js.length c, .slice B o.length d] w fun e w' => ∃ g, e = .returned (.slice (some ⟨g, 0, none⟩) js.length js.length) ∧ w.heap.size ≤ g ∧ BlockIs w' g 3 (ic (startsL js (natsOf o))).toArray ∧ Below w.heap.size w w' := by
  obtain ⟨hg, p, rfl, hp, hpo⟩ := two_out ht
  rw [hpo, show (natI p).length = p.length from List.length_map ..]
  exact l2Starts_any A B c d js p w hr hq hg hp
omit hn hm in
theorem l2Ends_o (ht : twoB js o = true) : Calls Tryd.prog 88 #[.slice A js.length c, .slice B o.length d] w fun e w' => ∃ g, e = .returned (.slice (some ⟨g, 0, none⟩) js.length js.length) ∧ w.heap.size ≤ g ∧ BlockIs w' g 3 (ic (endsL js (natsOf o))).toArray ∧ Below w.heap.size w w' := by
  obtain ⟨hg, p, rfl, hp, hpo⟩ := two_out ht
  rw [hpo, show (natI p).length = p.length from List.length_map ..]
  exact l2Ends_any A B c d js p w hr hq hg hp
end
end Go.Proofs.YtnkoncplfedffaaDoor

namespace Go.Proofs.YtnkoncplfedffaaDoor
open Go.RowKit
theorem store_new (P : Program) (w : World) (u v : Value) (t : TypeId) (hv : v.oneCell' = true) : (store ⟨w.heap.size, 0, none⟩ v).run P (w.alloc (.cells #[u] t)) = .ok () (w.alloc (.cells #[v] t)) := by
  have hB := BlockIs.new w t #[u]
  have hc : (w.alloc (.cells #[u] t)).cell? ⟨w.heap.size, 0, none⟩ = some u := by rw [hB.cell]; rfl
  have hf := hB.frozen 0
  rw [run_store _ _ _ _ _ hv, hc]
  simp only [hf, Bool.false_eq_true, if_false]
  rw [World.setCell_alloc_at _ _ _ _ _ rfl]
  rfl
theorem store_pair (P : Program) (w : World) (fv u v : Value) (t : TypeId) (hv : fv.oneCell' = true) : (store ⟨w.heap.size, 0, none⟩ fv).run P (w.alloc (.cells #[u, v] t)) = .ok () (w.alloc (.cells #[fv, v] t)) := by
  have hB := BlockIs.new w t #[u, v]
  have hc : (w.alloc (.cells #[u, v] t)).cell? ⟨w.heap.size, 0, none⟩ = some u := by rw [hB.cell]; rfl
  have hf := hB.frozen 0
  rw [run_store _ _ _ _ _ hv, hc]
  simp only [hf, Bool.false_eq_true, if_false]
  rw [World.setCell_alloc_at _ _ _ _ _ rfl]
  rfl
theorem store_past (P : Program) (w : World) (n : Nat) (fv u v : Value) (t : TypeId) (o : Obj) (hv : fv.oneCell' = true) (hB : BlockIs w n t #[u, v]) : (store ⟨n, 0, none⟩ fv).run P (w.alloc o) = .ok () ((w.setCell ⟨n, 0, none⟩ fv).alloc o) := by
  have hB1 : BlockIs (w.alloc o) n t #[u, v] := hB.below ((Below.refl _ _).alloc (Nat.le_refl _) o)
  have hc : (w.alloc o).cell? ⟨n, 0, none⟩ = some u := by rw [hB1.cell]; rfl
  have hf := hB1.frozen 0
  rw [run_store _ _ _ _ _ hv, hc]
  simp only [hf, Bool.false_eq_true, if_false]
  rw [World.setCell_alloc_past _ _ _ _ hB.lt]
theorem weighted_end (w : World) : Calls Tryd.prog 93 #[fEnd] w fun e w' => e = .returned (fWgt w.heap.size) ∧ w' = w.alloc (.cells #[fEnd] 90) := by
  go_enter Tryd.func93, Tryd.ntmps93
  go_wp2
  go_ret
  exact ⟨rfl, rfl⟩
theorem weighted_tar (b : Nat) (w : World) : Calls Tryd.prog 93 #[fTar b] w fun e w' => e = .returned (fWgt w.heap.size) ∧ w' = w.alloc (.cells #[fTar b] 90) := by
  go_enter Tryd.func93, Tryd.ntmps93
  go_wp2
  go_ret
  exact ⟨rfl, rfl⟩
theorem weighted_late (b : Nat) (w : World) : Calls Tryd.prog 93 #[fLate b] w fun e w' => e = .returned (fWgt w.heap.size) ∧ w' = w.alloc (.cells #[fLate b] 90) := by
  go_enter Tryd.func93, Tryd.ntmps93
  go_wp2
  go_ret
  exact ⟨rfl, rfl⟩
theorem lit46 (t : Array Value) (h : t.size = 46) : ∃ x1 x4 x5 x6 x7 x8 x10 x11 x12 x13 x14 x15 x16 x17 x18 x19 x20 x21 x22 x23 x24 x25 x26 x27 x28 x29 x30 x31 x32 x33 x34 x35 x36 x37 x38 x39 x40 x41 x42 x43 x44 x45 : Value, t = #[t.getD 0 undef, x1, t.getD 2 undef, t.getD 3 undef, x4, x5, x6, x7, x8, t.getD 9 undef, x10, x11, x12, x13, x14, x15, x16, x17, x18, x19, x20, x21, x22, x23, x24, x25, x26, x27, x28, x29, x30, x31, x32, x33, x34, x35, x36, x37, x38, x39, x40, x41, x42, x43, x44, x45] := by
  obtain ⟨l⟩ := t
  simp only [List.size_toArray] at h
  obtain _ | ⟨x0, l⟩ := l
  · cases h
  obtain _ | ⟨x1, l⟩ := l
  · cases h
  obtain _ | ⟨x2, l⟩ := l
  · cases h
  obtain _ | ⟨x3, l⟩ := l
  · cases h
  obtain _ | ⟨x4, l⟩ := l
  · cases h
  obtain _ | ⟨x5, l⟩ := l
  · cases h
  obtain _ | ⟨x6, l⟩ := l
  · cases h
  obtain _ | ⟨x7, l⟩ := l
  · cases h
  obtain _ | ⟨x8, l⟩ := l
  · cases h
  obtain _ | ⟨x9, l⟩ := l
  · cases h
  obtain _ | ⟨x10, l⟩ := l
  · cases h
  obtain _ | ⟨x11, l⟩ := l
  · cases h
  obtain _ | ⟨x12, l⟩ := l
  · cases h
  obtain _ | ⟨x13, l⟩ := l
  · cases h
  obtain _ | ⟨x14, l⟩ := l
  · cases h
  obtain _ | ⟨x15, l⟩ := l
  · cases h
  obtain _ | ⟨x16, l⟩ := l
  · cases h
  obtain _ | ⟨x17, l⟩ := l
  · cases h
  obtain _ | ⟨x18, l⟩ := l
  · cases h
  obtain _ | ⟨x19, l⟩ := l
  · cases h
  obtain _ | ⟨x20, l⟩ := l
  · cases h
  obtain _ | ⟨x21, l⟩ := l
  · cases h
  obtain _ | ⟨x22, l⟩ := l
  · cases h
  obtain _ | ⟨x23, l⟩ := l
  · cases h
  obtain _ | ⟨x24, l⟩ := l
  · cases h
  obtain _ | ⟨x25, l⟩ := l
  · cases h
  obtain _ | ⟨x26, l⟩ := l
  · cases h
  obtain _ | ⟨x27, l⟩ := l
  · cases h
  obtain _ | ⟨x28, l⟩ := l
  · cases h
  obtain _ | ⟨x29, l⟩ := l
  · cases h
  obtain _ | ⟨x30, l⟩ := l
  · cases h
  obtain _ | ⟨x31, l⟩ := l
  · cases h
  obtain _ | ⟨x32, l⟩ := l
  · cases h
  obtain _ | ⟨x33, l⟩ := l
  · cases h
  obtain _ | ⟨x34, l⟩ := l
  · cases h
  obtain _ | ⟨x35, l⟩ := l
  · cases h
  obtain _ | ⟨x36, l⟩ := l
  · cases h
  obtain _ | ⟨x37, l⟩ := l
  · cases h
  obtain _ | ⟨x38, l⟩ := l
  · cases h
  obtain _ | ⟨x39, l⟩ := l
  · cases h
  obtain _ | ⟨x40, l⟩ := l
  · cases h
  obtain _ | ⟨x41, l⟩ := l
  · cases h
  obtain _ | ⟨x42, l⟩ := l
  · cases h
  obtain _ | ⟨x43, l⟩ := l
  · cases h
  obtain _ | ⟨x44, l⟩ := l
  · cases h
  obtain _ | ⟨x45, l⟩ := l
  · cases h
  obtain _ | ⟨y, l⟩ := l
  · exact ⟨x1, x4, x5, x6, x7, x8, x10, x11, x12, x13, x14, x15, x16, x17, x18, x19, x20, x21, x22, x23, x24, x25, x26, x27, x28, x29, x30, x31, x32, x33, x34, x35, x36, x37, x38, x39, x40, x41, x42, x43, x44, x45, rfl⟩
  · simp at h
theorem zeroM (w : World) : (zeroValue 92).run Tryd.prog w = .ok (.agg #[.nilFunc, .bool false]) w := by kernel_rfl
/-- The function that tells what a job costs: its closures, in blocks below B. -/
def FnIs (B : Nat) (w : World) (o : Int) (fv : Value) : Prop :=
  ((o = 1 ∨ o = 2) ∧ fv = fEnd) ∨ (o = 4 ∧ fv = fLat) ∨ (o = 5 ∧ ∃ b, fv = fTar b ∧ b < B ∧ BlockIs w b 90 #[fLat]) ∨
  (o = 7 ∧ ∃ b c, fv = fLate b ∧ b < B ∧ BlockIs w b 90 #[fTar c] ∧ c < B ∧ BlockIs w c 90 #[fLat]) ∨
  (o = 3 ∧ ∃ b, fv = fWgt b ∧ b < B ∧ BlockIs w b 90 #[fEnd]) ∨
  (o = 6 ∧ ∃ b c, fv = fWgt b ∧ b < B ∧ BlockIs w b 90 #[fTar c] ∧ c < B ∧ BlockIs w c 90 #[fLat]) ∨
  (o = 8 ∧ ∃ b c d, fv = fWgt b ∧ b < B ∧ BlockIs w b 90 #[fLate c] ∧ c < B ∧ BlockIs w c 90 #[fTar d] ∧ d < B ∧ BlockIs w d 90 #[fLat])
theorem FnIs.keep {B : Nat} {w w' : World} {o : Int} {fv : Value} (h : FnIs B w o fv) (hk : ∀ b, b < B → w'.heap[b]? = w.heap[b]?) : FnIs B w' o fv := by
  have K : ∀ {b : Nat} {t : TypeId} {cs : Array Value}, b < B → BlockIs w b t cs → BlockIs w' b t cs := fun hb h => (hk _ hb).trans h
  rcases h with h | h | ⟨h, b, h1, h2, h3⟩ | ⟨h, b, c, h1, h2, h3, h4, h5⟩ | ⟨h, b, h1, h2, h3⟩ | ⟨h, b, c, h1, h2, h3, h4, h5⟩ | ⟨h, b, c, d, h1, h2, h3, h4, h5, h6, h7⟩
  · exact .inl h
  · exact .inr (.inl h)
  · exact .inr (.inr (.inl ⟨h, b, h1, h2, K h2 h3⟩))
  · exact .inr (.inr (.inr (.inl ⟨h, b, c, h1, h2, K h2 h3, h4, K h4 h5⟩)))
  · exact .inr (.inr (.inr (.inr (.inl ⟨h, b, h1, h2, K h2 h3⟩))))
  · exact .inr (.inr (.inr (.inr (.inr (.inl ⟨h, b, c, h1, h2, K h2 h3, h4, K h4 h5⟩)))))
  · exact .inr (.inr (.inr (.inr (.inr (.inr ⟨h, b, c, d, h1, h2, K h2 h3, h4, K h4 h5, h6, K h6 h7⟩)))))
def MeasPost (w : World) (o : Int) (e : Ending) (w' : World) : Prop := Below w.heap.size w w' ∧
  ((isObj o = false ∧ e = .returned (.tuple #[.agg #[.nilFunc, .bool false], .bool false])) ∨ (isObj o = true ∧ ∃ fv, e = .returned (.tuple #[.agg #[fv, .bool (isTop o)], .bool true]) ∧ FnIs w'.heap.size w' o fv))
theorem keyIn_not (n m b3 b6 b8 : Nat) (L : Array Bool) (o : Int) (h : isObj o = false) : keyIn n m b3 b6 b8 L o = none := by
  have h' : ¬ (1 ≤ o ∧ o ≤ 8) := by unfold isObj at h; exact of_decide_eq_false h
  unfold keyIn
  by_cases h0 : o < 0
  · rw [if_pos h0]
  · rw [if_neg h0]
    by_cases h1 : o = 0
    · subst h1; rfl
    · rw [ins_none _ (by omega)]
theorem BlockIs.set_ne {w : World} {g : Nat} {t : TypeId} {cs : Array Value} (h : BlockIs w g t cs) {n : Nat} (hn : g ≠ n) (i : Nat) (u : Value) : BlockIs (w.setCell ⟨n, i, none⟩ u) g t cs := by
  unfold BlockIs at h ⊢
  rw [← h]
  exact Below.heap_setCell _ _ _ _ hn
set_option maxRecDepth 100000 in
set_option maxHeartbeats 4000000 in
theorem measureOf_any (o : Int) (w : World) : Calls Tryd.prog 67 #[.int .i64 o] w (MeasPost w o) := by
  have hst5 := store_new Tryd.prog (w.alloc (.cells #[.nilFunc, .bool false] 92)) .nilFunc fLat 90 rfl
  have hst6 := store_new Tryd.prog ((w.alloc (.cells #[.nilFunc, .bool false] 92)).alloc (.cells #[fLat] 90)) .nilFunc (fTar (w.heap.size + 1)) 90 rfl
  simp at hst5 hst6
  have hW : ∃ W, W = (((w.alloc (.cells #[.nilFunc, .bool false] 92)).alloc (.cells #[fLat] 90)).alloc (.cells #[fTar (w.heap.size + 1)] 90)) := ⟨_, rfl⟩
  go_enter Tryd.func67, Tryd.ntmps67
  go_wp2
  refine wp_region_inv (by kernel_rfl) (fun L a w' => ∃ m b3 b6 b8, MI w.heap.size w o m b3 b6 b8 L a w') (back_of (by kernel_rfl)) ?_ ?_ ?_
  · refine ⟨0, 0, 0, 0, by simp, rfl, rfl, rfl, rfl, rfl, rfl, rfl, rfl, rfl, rfl, ?_, ?_, by simp [World.drew], ?_, ?_, ?_, ?_, ?_, ?_, ?_⟩
    · intro j d hj hl
      have := (dst_lt j d hj).1
      simp [Array.getD_eq_getD_getElem?, this] at hl
    · exact (((Below.refl _ _).alloc (Nat.le_refl _) _).alloc (by simp) _).alloc (by simp; omega) _ |>.drew
    · exact (((BlockIs.new w _ _).below ((Below.refl _ _).alloc (Nat.le_refl _) _)).below ((Below.refl _ _).alloc (Nat.le_refl _) _)).drew
    · have := BlockIs.new (w.alloc (.cells #[.nilFunc, .bool false] 92)) 90 #[fLat]
      have := (this.below ((Below.refl _ _).alloc (Nat.le_refl _) (.cells #[fTar (w.heap.size + 1)] 90))).drew
      simpa using this
    · have := (BlockIs.new ((w.alloc (.cells #[.nilFunc, .bool false] 92)).alloc (.cells #[fLat] 90)) 90 #[fTar (w.heap.size + 1)]).drew
      simpa using this
    all_goals (intro hl; simp [Array.getD_eq_getD_getElem?] at hl)
  · intro L a w' hI hall
    obtain ⟨m, b3, b6, b8, h⟩ := hI
    have a0 := hall 0 (by decide)
    have hs9 : a.tmps.getD 9 undef = .map (some m) := h.vals 32 9 rfl (hall 32 (by decide))
    obtain ⟨hm, kvs, hM, hkv⟩ := h.map a0
    have h0 := h.low0
    have h2 := h.low2
    have h3 := h.low3
    have hdf := h.defers
    have hsz := h.size
    have hlook := hM.look_ok (P := Tryd.prog) Tryd.underlying109 Tryd.underlying3 o (zeroM w')
    rw [hkv] at hlook
    obtain ⟨tm, df⟩ := a
    simp only at hs9 h0 h2 h3 hdf hsz
    subst hdf
    obtain ⟨x1, x4, x5, x6, x7, x8, x10, x11, x12, x13, x14, x15, x16, x17, x18, x19, x20, x21, x22, x23, x24, x25, x26, x27, x28, x29, x30, x31, x32, x33, x34, x35, x36, x37, x38, x39, x40, x41, x42, x43, x44, x45, hlit⟩ := lit46 tm hsz
    rw [hs9, h0, h2, h3] at hlit
    subst hlit
    cases hob : isObj o
    · rw [keyIn_not _ _ _ _ _ _ _ hob] at hlook
      simp only [Option.getD_none, Option.isSome_none] at hlook
      clear hall
      have hsA := store_pair Tryd.prog w' .nilFunc .nilFunc (.bool false) 92 rfl
      have hsB := store_past Tryd.prog w' w.heap.size .nilFunc .nilFunc (.bool false) 92 (.cells #[.nilFunc, .bool false] 92) rfl h.blk0
      have hcB := h.blk0.cell 1
      simp at hcB
      have hfB := h.blk0.frozen 1
      have hnB := h.blk0.lt
      have HX := Lib.hid h
      clear h hkv hM hs9 h0 h2 h3 hsz hst5 hst6 hW
      go_wp2
      have h := HX.out
      have hF := (((h.blk0.set 0 .nilFunc).set 1 (.bool false)).below ((Below.refl _ _).alloc (Nat.le_refl _) (.cells #[.nilFunc, .bool false] 92)))
      have hF0 := hF.cell 0
      have hF1 := hF.cell 1
      simp at hF0 hF1
      have hbF : Below w.heap.size w (((w'.setCell ⟨w.heap.size, 0, none⟩ .nilFunc).setCell ⟨w.heap.size, 1, none⟩ (.bool false)).alloc (.cells #[.nilFunc, .bool false] 92)) := ((h.below.setCell (Nat.le_refl _) _).setCell (Nat.le_refl _) _).alloc (by simp [World.setCell]; have := h.fit; omega) _
      exact bodyPost_ret (v := .tuple #[.agg #[.nilFunc, .bool false], .bool false]) (by simp [results, Tryd.results67, go_sem, hF0, hF1]) rfl ⟨hbF, .inl ⟨hob, rfl⟩⟩
    · have c3 := h.c3 (hall 9 (by decide))
      have c6 := h.c6 (hall 20 (by decide))
      have c8 := h.c8 (hall 28 (by decide))
      have d1 := h.blk1
      have d2 := h.blk2
      have HC := Lib.hid (And.intro c3 (And.intro c6 (And.intro c8 (And.intro d1 d2))))
      clear c3 c6 c8 d1 d2
      rcases obj_cases hob with rfl | rfl | rfl | rfl | rfl | rfl | rfl | rfl
      · rw [show keyIn w.heap.size m b3 b6 b8 L 1 = some (.agg #[fEnd, .bool true]) by unfold keyIn; simp [insAt, valM, hall 3 (by decide)]] at hlook
        simp only [Option.getD_some, Option.isSome_some] at hlook
        clear hall
        have hsA := store_pair Tryd.prog w' fEnd .nilFunc (.bool false) 92 rfl
        have hsB := store_past Tryd.prog w' w.heap.size fEnd .nilFunc (.bool false) 92 (.cells #[fEnd, .bool true] 92) rfl h.blk0
        have hcB := h.blk0.cell 1
        simp at hcB
        have hfB := h.blk0.frozen 1
        have hnB := h.blk0.lt
        have HX := Lib.hid h
        clear h hkv hM hs9 h0 h2 h3 hsz hst5 hst6 hW
        go_wp2
        have h := HX.out
        obtain ⟨c3, c6, c8, d1, d2⟩ := HC.out
        have hF := (((h.blk0.set 0 fEnd).set 1 (.bool true)).below ((Below.refl _ _).alloc (Nat.le_refl _) (.cells #[fEnd, .bool true] 92)))
        have hF0 := hF.cell 0
        have hF1 := hF.cell 1
        simp at hF0 hF1
        have hbF : Below w.heap.size w (((w'.setCell ⟨w.heap.size, 0, none⟩ fEnd).setCell ⟨w.heap.size, 1, none⟩ (.bool true)).alloc (.cells #[fEnd, .bool true] 92)) := ((h.below.setCell (Nat.le_refl _) _).setCell (Nat.le_refl _) _).alloc (by simp [World.setCell]; have := h.fit; omega) _
        exact bodyPost_ret (v := .tuple #[.agg #[fEnd, .bool true], .bool true]) (by simp [results, Tryd.results67, go_sem, hF0, hF1]) rfl ⟨hbF, .inr ⟨hob, _, rfl, .inl ⟨.inl rfl, rfl⟩⟩⟩
      · rw [show keyIn w.heap.size m b3 b6 b8 L 2 = some (.agg #[fEnd, .bool false]) by unfold keyIn; simp [insAt, valM, hall 6 (by decide)]] at hlook
        simp only [Option.getD_some, Option.isSome_some] at hlook
        clear hall
        have hsA := store_pair Tryd.prog w' fEnd .nilFunc (.bool false) 92 rfl
        have hsB := store_past Tryd.prog w' w.heap.size fEnd .nilFunc (.bool false) 92 (.cells #[fEnd, .bool false] 92) rfl h.blk0
        have hcB := h.blk0.cell 1
        simp at hcB
        have hfB := h.blk0.frozen 1
        have hnB := h.blk0.lt
        have HX := Lib.hid h
        clear h hkv hM hs9 h0 h2 h3 hsz hst5 hst6 hW
        go_wp2
        have h := HX.out
        obtain ⟨c3, c6, c8, d1, d2⟩ := HC.out
        have hF := (((h.blk0.set 0 fEnd).set 1 (.bool false)).below ((Below.refl _ _).alloc (Nat.le_refl _) (.cells #[fEnd, .bool false] 92)))
        have hF0 := hF.cell 0
        have hF1 := hF.cell 1
        simp at hF0 hF1
        have hbF : Below w.heap.size w (((w'.setCell ⟨w.heap.size, 0, none⟩ fEnd).setCell ⟨w.heap.size, 1, none⟩ (.bool false)).alloc (.cells #[fEnd, .bool false] 92)) := ((h.below.setCell (Nat.le_refl _) _).setCell (Nat.le_refl _) _).alloc (by simp [World.setCell]; have := h.fit; omega) _
        exact bodyPost_ret (v := .tuple #[.agg #[fEnd, .bool false], .bool true]) (by simp [results, Tryd.results67, go_sem, hF0, hF1]) rfl ⟨hbF, .inr ⟨hob, _, rfl, .inl ⟨.inr rfl, rfl⟩⟩⟩
      · rw [show keyIn w.heap.size m b3 b6 b8 L 3 = some (.agg #[(fWgt b3), .bool false]) by unfold keyIn; simp [insAt, valM, hall 11 (by decide)]] at hlook
        simp only [Option.getD_some, Option.isSome_some] at hlook
        clear hall
        have hsA := store_pair Tryd.prog w' (fWgt b3) .nilFunc (.bool false) 92 rfl
        have hsB := store_past Tryd.prog w' w.heap.size (fWgt b3) .nilFunc (.bool false) 92 (.cells #[(fWgt b3), .bool false] 92) rfl h.blk0
        have hcB := h.blk0.cell 1
        simp at hcB
        have hfB := h.blk0.frozen 1
        have hnB := h.blk0.lt
        have HX := Lib.hid h
        clear h hkv hM hs9 h0 h2 h3 hsz hst5 hst6 hW
        go_wp2
        have h := HX.out
        obtain ⟨c3, c6, c8, d1, d2⟩ := HC.out
        have hF := (((h.blk0.set 0 (fWgt b3)).set 1 (.bool false)).below ((Below.refl _ _).alloc (Nat.le_refl _) (.cells #[(fWgt b3), .bool false] 92)))
        have hF0 := hF.cell 0
        have hF1 := hF.cell 1
        simp at hF0 hF1
        have hbF : Below w.heap.size w (((w'.setCell ⟨w.heap.size, 0, none⟩ (fWgt b3)).setCell ⟨w.heap.size, 1, none⟩ (.bool false)).alloc (.cells #[(fWgt b3), .bool false] 92)) := ((h.below.setCell (Nat.le_refl _) _).setCell (Nat.le_refl _) _).alloc (by simp [World.setCell]; have := h.fit; omega) _
        exact bodyPost_ret (v := .tuple #[.agg #[(fWgt b3), .bool false], .bool true]) (by simp [results, Tryd.results67, go_sem, hF0, hF1]) rfl ⟨hbF, .inr ⟨hob, _, rfl, .inr (.inr (.inr (.inr (.inl ⟨rfl, _, rfl, (((c3.2.1.set_ne (by omega) 0 _).set_ne (by omega) 1 _).below ((Below.refl _ _).alloc (Nat.le_refl _) _)).lt, (((c3.2.1.set_ne (by omega) 0 _).set_ne (by omega) 1 _).below ((Below.refl _ _).alloc (Nat.le_refl _) _))⟩))))⟩⟩
      · rw [show keyIn w.heap.size m b3 b6 b8 L 4 = some (.agg #[fLat, .bool true]) by unfold keyIn; simp [insAt, valM, hall 14 (by decide)]] at hlook
        simp only [Option.getD_some, Option.isSome_some] at hlook
        clear hall
        have hsA := store_pair Tryd.prog w' fLat .nilFunc (.bool false) 92 rfl
        have hsB := store_past Tryd.prog w' w.heap.size fLat .nilFunc (.bool false) 92 (.cells #[fLat, .bool true] 92) rfl h.blk0
        have hcB := h.blk0.cell 1
        simp at hcB
        have hfB := h.blk0.frozen 1
        have hnB := h.blk0.lt
        have HX := Lib.hid h
        clear h hkv hM hs9 h0 h2 h3 hsz hst5 hst6 hW
        go_wp2
        have h := HX.out
        obtain ⟨c3, c6, c8, d1, d2⟩ := HC.out
        have hF := (((h.blk0.set 0 fLat).set 1 (.bool true)).below ((Below.refl _ _).alloc (Nat.le_refl _) (.cells #[fLat, .bool true] 92)))
        have hF0 := hF.cell 0
        have hF1 := hF.cell 1
        simp at hF0 hF1
        have hbF : Below w.heap.size w (((w'.setCell ⟨w.heap.size, 0, none⟩ fLat).setCell ⟨w.heap.size, 1, none⟩ (.bool true)).alloc (.cells #[fLat, .bool true] 92)) := ((h.below.setCell (Nat.le_refl _) _).setCell (Nat.le_refl _) _).alloc (by simp [World.setCell]; have := h.fit; omega) _
        exact bodyPost_ret (v := .tuple #[.agg #[fLat, .bool true], .bool true]) (by simp [results, Tryd.results67, go_sem, hF0, hF1]) rfl ⟨hbF, .inr ⟨hob, _, rfl, .inr (.inl ⟨rfl, rfl⟩)⟩⟩
      · rw [show keyIn w.heap.size m b3 b6 b8 L 5 = some (.agg #[(fTar (w.heap.size + 1)), .bool false]) by unfold keyIn; simp [insAt, valM, hall 17 (by decide)]] at hlook
        simp only [Option.getD_some, Option.isSome_some] at hlook
        clear hall
        have hsA := store_pair Tryd.prog w' (fTar (w.heap.size + 1)) .nilFunc (.bool false) 92 rfl
        have hsB := store_past Tryd.prog w' w.heap.size (fTar (w.heap.size + 1)) .nilFunc (.bool false) 92 (.cells #[(fTar (w.heap.size + 1)), .bool false] 92) rfl h.blk0
        have hcB := h.blk0.cell 1
        simp at hcB
        have hfB := h.blk0.frozen 1
        have hnB := h.blk0.lt
        have HX := Lib.hid h
        clear h hkv hM hs9 h0 h2 h3 hsz hst5 hst6 hW
        go_wp2
        have h := HX.out
        obtain ⟨c3, c6, c8, d1, d2⟩ := HC.out
        have hF := (((h.blk0.set 0 (fTar (w.heap.size + 1))).set 1 (.bool false)).below ((Below.refl _ _).alloc (Nat.le_refl _) (.cells #[(fTar (w.heap.size + 1)), .bool false] 92)))
        have hF0 := hF.cell 0
        have hF1 := hF.cell 1
        simp at hF0 hF1
        have hbF : Below w.heap.size w (((w'.setCell ⟨w.heap.size, 0, none⟩ (fTar (w.heap.size + 1))).setCell ⟨w.heap.size, 1, none⟩ (.bool false)).alloc (.cells #[(fTar (w.heap.size + 1)), .bool false] 92)) := ((h.below.setCell (Nat.le_refl _) _).setCell (Nat.le_refl _) _).alloc (by simp [World.setCell]; have := h.fit; omega) _
        exact bodyPost_ret (v := .tuple #[.agg #[(fTar (w.heap.size + 1)), .bool false], .bool true]) (by simp [results, Tryd.results67, go_sem, hF0, hF1]) rfl ⟨hbF, .inr ⟨hob, _, rfl, .inr (.inr (.inl ⟨rfl, _, rfl, (((d1.set_ne (by omega) 0 _).set_ne (by omega) 1 _).below ((Below.refl _ _).alloc (Nat.le_refl _) _)).lt, (((d1.set_ne (by omega) 0 _).set_ne (by omega) 1 _).below ((Below.refl _ _).alloc (Nat.le_refl _) _))⟩))⟩⟩
      · rw [show keyIn w.heap.size m b3 b6 b8 L 6 = some (.agg #[(fWgt b6), .bool false]) by unfold keyIn; simp [insAt, valM, hall 22 (by decide)]] at hlook
        simp only [Option.getD_some, Option.isSome_some] at hlook
        clear hall
        have hsA := store_pair Tryd.prog w' (fWgt b6) .nilFunc (.bool false) 92 rfl
        have hsB := store_past Tryd.prog w' w.heap.size (fWgt b6) .nilFunc (.bool false) 92 (.cells #[(fWgt b6), .bool false] 92) rfl h.blk0
        have hcB := h.blk0.cell 1
        simp at hcB
        have hfB := h.blk0.frozen 1
        have hnB := h.blk0.lt
        have HX := Lib.hid h
        clear h hkv hM hs9 h0 h2 h3 hsz hst5 hst6 hW
        go_wp2
        have h := HX.out
        obtain ⟨c3, c6, c8, d1, d2⟩ := HC.out
        have hF := (((h.blk0.set 0 (fWgt b6)).set 1 (.bool false)).below ((Below.refl _ _).alloc (Nat.le_refl _) (.cells #[(fWgt b6), .bool false] 92)))
        have hF0 := hF.cell 0
        have hF1 := hF.cell 1
        simp at hF0 hF1
        have hbF : Below w.heap.size w (((w'.setCell ⟨w.heap.size, 0, none⟩ (fWgt b6)).setCell ⟨w.heap.size, 1, none⟩ (.bool false)).alloc (.cells #[(fWgt b6), .bool false] 92)) := ((h.below.setCell (Nat.le_refl _) _).setCell (Nat.le_refl _) _).alloc (by simp [World.setCell]; have := h.fit; omega) _
        exact bodyPost_ret (v := .tuple #[.agg #[(fWgt b6), .bool false], .bool true]) (by simp [results, Tryd.results67, go_sem, hF0, hF1]) rfl ⟨hbF, .inr ⟨hob, _, rfl, .inr (.inr (.inr (.inr (.inr (.inl ⟨rfl, _, _, rfl, (((c6.2.1.set_ne (by omega) 0 _).set_ne (by omega) 1 _).below ((Below.refl _ _).alloc (Nat.le_refl _) _)).lt, (((c6.2.1.set_ne (by omega) 0 _).set_ne (by omega) 1 _).below ((Below.refl _ _).alloc (Nat.le_refl _) _)), (((d1.set_ne (by omega) 0 _).set_ne (by omega) 1 _).below ((Below.refl _ _).alloc (Nat.le_refl _) _)).lt, (((d1.set_ne (by omega) 0 _).set_ne (by omega) 1 _).below ((Below.refl _ _).alloc (Nat.le_refl _) _))⟩)))))⟩⟩
      · rw [show keyIn w.heap.size m b3 b6 b8 L 7 = some (.agg #[(fLate (w.heap.size + 2)), .bool false]) by unfold keyIn; simp [insAt, valM, hall 25 (by decide)]] at hlook
        simp only [Option.getD_some, Option.isSome_some] at hlook
        clear hall
        have hsA := store_pair Tryd.prog w' (fLate (w.heap.size + 2)) .nilFunc (.bool false) 92 rfl
        have hsB := store_past Tryd.prog w' w.heap.size (fLate (w.heap.size + 2)) .nilFunc (.bool false) 92 (.cells #[(fLate (w.heap.size + 2)), .bool false] 92) rfl h.blk0
        have hcB := h.blk0.cell 1
        simp at hcB
        have hfB := h.blk0.frozen 1
        have hnB := h.blk0.lt
        have HX := Lib.hid h
        clear h hkv hM hs9 h0 h2 h3 hsz hst5 hst6 hW
        go_wp2
        have h := HX.out
        obtain ⟨c3, c6, c8, d1, d2⟩ := HC.out
        have hF := (((h.blk0.set 0 (fLate (w.heap.size + 2))).set 1 (.bool false)).below ((Below.refl _ _).alloc (Nat.le_refl _) (.cells #[(fLate (w.heap.size + 2)), .bool false] 92)))
        have hF0 := hF.cell 0
        have hF1 := hF.cell 1
        simp at hF0 hF1
        have hbF : Below w.heap.size w (((w'.setCell ⟨w.heap.size, 0, none⟩ (fLate (w.heap.size + 2))).setCell ⟨w.heap.size, 1, none⟩ (.bool false)).alloc (.cells #[(fLate (w.heap.size + 2)), .bool false] 92)) := ((h.below.setCell (Nat.le_refl _) _).setCell (Nat.le_refl _) _).alloc (by simp [World.setCell]; have := h.fit; omega) _
        exact bodyPost_ret (v := .tuple #[.agg #[(fLate (w.heap.size + 2)), .bool false], .bool true]) (by simp [results, Tryd.results67, go_sem, hF0, hF1]) rfl ⟨hbF, .inr ⟨hob, _, rfl, .inr (.inr (.inr (.inl ⟨rfl, _, _, rfl, (((d2.set_ne (by omega) 0 _).set_ne (by omega) 1 _).below ((Below.refl _ _).alloc (Nat.le_refl _) _)).lt, (((d2.set_ne (by omega) 0 _).set_ne (by omega) 1 _).below ((Below.refl _ _).alloc (Nat.le_refl _) _)), (((d1.set_ne (by omega) 0 _).set_ne (by omega) 1 _).below ((Below.refl _ _).alloc (Nat.le_refl _) _)).lt, (((d1.set_ne (by omega) 0 _).set_ne (by omega) 1 _).below ((Below.refl _ _).alloc (Nat.le_refl _) _))⟩)))⟩⟩
      · rw [show keyIn w.heap.size m b3 b6 b8 L 8 = some (.agg #[(fWgt b8), .bool false]) by unfold keyIn; simp [insAt, valM, hall 30 (by decide)]] at hlook
        simp only [Option.getD_some, Option.isSome_some] at hlook
        clear hall
        have hsA := store_pair Tryd.prog w' (fWgt b8) .nilFunc (.bool false) 92 rfl
        have hsB := store_past Tryd.prog w' w.heap.size (fWgt b8) .nilFunc (.bool false) 92 (.cells #[(fWgt b8), .bool false] 92) rfl h.blk0
        have hcB := h.blk0.cell 1
        simp at hcB
        have hfB := h.blk0.frozen 1
        have hnB := h.blk0.lt
        have HX := Lib.hid h
        clear h hkv hM hs9 h0 h2 h3 hsz hst5 hst6 hW
        go_wp2
        have h := HX.out
        obtain ⟨c3, c6, c8, d1, d2⟩ := HC.out
        have hF := (((h.blk0.set 0 (fWgt b8)).set 1 (.bool false)).below ((Below.refl _ _).alloc (Nat.le_refl _) (.cells #[(fWgt b8), .bool false] 92)))
        have hF0 := hF.cell 0
        have hF1 := hF.cell 1
        simp at hF0 hF1
        have hbF : Below w.heap.size w (((w'.setCell ⟨w.heap.size, 0, none⟩ (fWgt b8)).setCell ⟨w.heap.size, 1, none⟩ (.bool false)).alloc (.cells #[(fWgt b8), .bool false] 92)) := ((h.below.setCell (Nat.le_refl _) _).setCell (Nat.le_refl _) _).alloc (by simp [World.setCell]; have := h.fit; omega) _
        exact bodyPost_ret (v := .tuple #[.agg #[(fWgt b8), .bool false], .bool true]) (by simp [results, Tryd.results67, go_sem, hF0, hF1]) rfl ⟨hbF, .inr ⟨hob, _, rfl, .inr (.inr (.inr (.inr (.inr (.inr ⟨rfl, _, _, _, rfl, (((c8.2.1.set_ne (by omega) 0 _).set_ne (by omega) 1 _).below ((Below.refl _ _).alloc (Nat.le_refl _) _)).lt, (((c8.2.1.set_ne (by omega) 0 _).set_ne (by omega) 1 _).below ((Below.refl _ _).alloc (Nat.le_refl _) _)), (((d2.set_ne (by omega) 0 _).set_ne (by omega) 1 _).below ((Below.refl _ _).alloc (Nat.le_refl _) _)).lt, (((d2.set_ne (by omega) 0 _).set_ne (by omega) 1 _).below ((Below.refl _ _).alloc (Nat.le_refl _) _)), (((d1.set_ne (by omega) 0 _).set_ne (by omega) 1 _).below ((Below.refl _ _).alloc (Nat.le_refl _) _)).lt, (((d1.set_ne (by omega) 0 _).set_ne (by omega) 1 _).below ((Below.refl _ _).alloc (Nat.le_refl _) _))⟩)))))⟩⟩
  · intro L a w' i op hC hI ho hl hd
    obtain ⟨m, b3, b6, b8, h⟩ := hI
    have hi : i < 33 := (Array.getElem?_eq_some_iff.1 ho).1
    have D := fun e => @dep_of _ L i op ho hd e
    have N := fun j e => @Closed.no _ L hC j e
    clear hC hd
    rcases (by omega : i = 0 ∨ i = 1 ∨ i = 2 ∨ i = 3 ∨ i = 4 ∨ i = 5 ∨ i = 6 ∨ i = 7 ∨ i = 8 ∨ i = 9 ∨ i = 10 ∨ i = 11 ∨ i = 12 ∨ i = 13 ∨ i = 14 ∨ i = 15 ∨ i = 16 ∨ i = 17 ∨ i = 18 ∨ i = 19 ∨ i = 20 ∨ i = 21 ∨ i = 22 ∨ i = 23 ∨ i = 24 ∨ i = 25 ∨ i = 26 ∨ i = 27 ∨ i = 28 ∨ i = 29 ∨ i = 30 ∨ i = 31 ∨ i = 32) with rfl | rfl | rfl | rfl | rfl | rfl | rfl | rfl | rfl | rfl | rfl | rfl | rfl | rfl | rfl | rfl | rfl | rfl | rfl | rfl | rfl | rfl | rfl | rfl | rfl | rfl | rfl | rfl | rfl | rfl | rfl | rfl | rfl
    · obtain rfl := Option.some.inj ho
      have n31 := N 31 0 (by kernel_rfl) hl
      refine wpOp_value ho rfl (w' := w'.alloc (.map #[] 0)) (v := .map (some w'.heap.size)) (by simp [execOp, run_makeMap, go_sem]) ?_
      exact ⟨w'.heap.size, b3, b6, b8, h.make n31 (N 32 31 (by kernel_rfl) n31) (fun key i s hi => by
        unfold insAt at hi
        split at hi
        · obtain ⟨rfl, _⟩ := Prod.mk.inj (Option.some.inj hi); exact N 3 0 (by kernel_rfl) hl
        · obtain ⟨rfl, _⟩ := Prod.mk.inj (Option.some.inj hi); exact N 6 0 (by kernel_rfl) hl
        · obtain ⟨rfl, _⟩ := Prod.mk.inj (Option.some.inj hi); exact N 11 0 (by kernel_rfl) hl
        · obtain ⟨rfl, _⟩ := Prod.mk.inj (Option.some.inj hi); exact N 14 0 (by kernel_rfl) hl
        · obtain ⟨rfl, _⟩ := Prod.mk.inj (Option.some.inj hi); exact N 17 0 (by kernel_rfl) hl
        · obtain ⟨rfl, _⟩ := Prod.mk.inj (Option.some.inj hi); exact N 22 0 (by kernel_rfl) hl
        · obtain ⟨rfl, _⟩ := Prod.mk.inj (Option.some.inj hi); exact N 25 0 (by kernel_rfl) hl
        · obtain ⟨rfl, _⟩ := Prod.mk.inj (Option.some.inj hi); exact N 30 0 (by kernel_rfl) hl
        · cases hi)⟩
    · obtain rfl := Option.some.inj ho
      have e := h.low4
      refine wpOp_value ho rfl (w' := w') (v := valM w.heap.size m b3 b6 b8 1) (by simp [execOp, Act.eval, e, valM]) ?_
      exact ⟨m, b3, b6, b8, h.pure (k := 1) rfl (by decide) (by decide) (by decide) (by decide)⟩
    · obtain rfl := Option.some.inj ho
      have e := h.vals 1 15 rfl (D 1 (by kernel_rfl))
      simp only [valM] at e
      rw [Array.getD_eq_getD_getElem?] at e
      refine wpOp_value ho rfl (w' := w') (v := valM w.heap.size m b3 b6 b8 2) (by simp [execOp, Act.eval, e, valM, go_sem]) ?_
      exact ⟨m, b3, b6, b8, h.pure (k := 2) rfl (by decide) (by decide) (by decide) (by decide)⟩
    · obtain rfl := Option.some.inj ho
      have d0 := D 0 (by kernel_rfl)
      have e1 := h.vals 0 14 rfl d0
      have e2 := h.vals 2 16 rfl (D 2 (by kernel_rfl))
      obtain ⟨_, kvs, hM, hkv⟩ := h.map d0
      obtain ⟨w'', hput, hM', hg, hs⟩ := hM.put (P := Tryd.prog) Tryd.underlying109 Tryd.underlying3 ((1 : Nat) : Int) (valM w.heap.size m b3 b6 b8 2) (ins_fresh (k := 3) (s := 2) (key := 1) rfl hl hkv)
      simp only [valM] at e1
      refine wpOp_skip ho rfl (w' := w'') (by simp at hput; simp [execOp, Act.eval, e1, e2, hput, Result.andThen, go_sem]) ?_
      exact ⟨m, b3, b6, b8, h.ins (k := 3) (s := 2) (key := 1) rfl d0 hl undef hkv hM' hg hs⟩
    · obtain rfl := Option.some.inj ho
      have e := h.low4
      refine wpOp_value ho rfl (w' := w') (v := valM w.heap.size m b3 b6 b8 4) (by simp [execOp, Act.eval, e, valM]) ?_
      exact ⟨m, b3, b6, b8, h.pure (k := 4) rfl (by decide) (by decide) (by decide) (by decide)⟩
    · obtain rfl := Option.some.inj ho
      have e := h.vals 4 17 rfl (D 4 (by kernel_rfl))
      simp only [valM] at e
      rw [Array.getD_eq_getD_getElem?] at e
      refine wpOp_value ho rfl (w' := w') (v := valM w.heap.size m b3 b6 b8 5) (by simp [execOp, Act.eval, e, valM, go_sem]) ?_
      exact ⟨m, b3, b6, b8, h.pure (k := 5) rfl (by decide) (by decide) (by decide) (by decide)⟩
    · obtain rfl := Option.some.inj ho
      have d0 := D 0 (by kernel_rfl)
      have e1 := h.vals 0 14 rfl d0
      have e2 := h.vals 5 18 rfl (D 5 (by kernel_rfl))
      obtain ⟨_, kvs, hM, hkv⟩ := h.map d0
      obtain ⟨w'', hput, hM', hg, hs⟩ := hM.put (P := Tryd.prog) Tryd.underlying109 Tryd.underlying3 ((2 : Nat) : Int) (valM w.heap.size m b3 b6 b8 5) (ins_fresh (k := 6) (s := 5) (key := 2) rfl hl hkv)
      simp only [valM] at e1
      refine wpOp_skip ho rfl (w' := w'') (by simp at hput; simp [execOp, Act.eval, e1, e2, hput, Result.andThen, go_sem]) ?_
      exact ⟨m, b3, b6, b8, h.ins (k := 6) (s := 5) (key := 2) rfl d0 hl undef hkv hM' hg hs⟩
    · obtain rfl := Option.some.inj ho
      have e := h.low8
      refine wpOp_value ho rfl (w' := w') (v := valM w.heap.size m b3 b6 b8 7) (by simp [execOp, Act.eval, e, valM]) ?_
      exact ⟨m, b3, b6, b8, h.pure (k := 7) rfl (by decide) (by decide) (by decide) (by decide)⟩
    · obtain rfl := Option.some.inj ho
      have e := h.low4
      refine wpOp_value ho rfl (w' := w') (v := valM w.heap.size m b3 b6 b8 8) (by simp [execOp, Act.eval, e, valM]) ?_
      exact ⟨m, b3, b6, b8, h.pure (k := 8) rfl (by decide) (by decide) (by decide) (by decide)⟩
    · obtain rfl := Option.some.inj ho
      have e1 := h.vals 7 19 rfl (D 7 (by kernel_rfl))
      have e2 := h.vals 8 20 rfl (D 8 (by kernel_rfl))
      simp only [valM] at e1 e2
      refine wpOp_enter ho rfl (w' := w') (f := 93) (args := #[fEnd]) (by simp [execOp, Act.eval, e1, e2, go_sem]) ((weighted_end w').mono ?_)
      rintro e w'' ⟨rfl, rfl⟩
      have n1 := N 10 9 (by kernel_rfl) hl
      exact ⟨_, rfl, m, w'.heap.size, b6, b8, h.c3_call n1 (N 11 10 (by kernel_rfl) n1)⟩
    · obtain rfl := Option.some.inj ho
      have e := h.vals 9 21 rfl (D 9 (by kernel_rfl))
      simp only [valM] at e
      rw [Array.getD_eq_getD_getElem?] at e
      refine wpOp_value ho rfl (w' := w') (v := valM w.heap.size m b3 b6 b8 10) (by simp [execOp, Act.eval, e, valM, go_sem]) ?_
      exact ⟨m, b3, b6, b8, h.pure (k := 10) rfl (by decide) (by decide) (by decide) (by decide)⟩
    · obtain rfl := Option.some.inj ho
      have d0 := D 0 (by kernel_rfl)
      have e1 := h.vals 0 14 rfl d0
      have e2 := h.vals 10 22 rfl (D 10 (by kernel_rfl))
      obtain ⟨_, kvs, hM, hkv⟩ := h.map d0
      obtain ⟨w'', hput, hM', hg, hs⟩ := hM.put (P := Tryd.prog) Tryd.underlying109 Tryd.underlying3 ((3 : Nat) : Int) (valM w.heap.size m b3 b6 b8 10) (ins_fresh (k := 11) (s := 10) (key := 3) rfl hl hkv)
      simp only [valM] at e1
      refine wpOp_skip ho rfl (w' := w'') (by simp at hput; simp [execOp, Act.eval, e1, e2, hput, Result.andThen, go_sem]) ?_
      exact ⟨m, b3, b6, b8, h.ins (k := 11) (s := 10) (key := 3) rfl d0 hl undef hkv hM' hg hs⟩
    · obtain rfl := Option.some.inj ho
      have e := h.low5
      have hc := h.blk1.cell 0
      simp at hc
      refine wpOp_value ho rfl (w' := w') (v := valM w.heap.size m b3 b6 b8 12) (by simp [execOp, Act.eval, e, valM, hc, go_sem]) ?_
      exact ⟨m, b3, b6, b8, h.pure (k := 12) rfl (by decide) (by decide) (by decide) (by decide)⟩
    · obtain rfl := Option.some.inj ho
      have e := h.vals 12 23 rfl (D 12 (by kernel_rfl))
      simp only [valM] at e
      rw [Array.getD_eq_getD_getElem?] at e
      refine wpOp_value ho rfl (w' := w') (v := valM w.heap.size m b3 b6 b8 13) (by simp [execOp, Act.eval, e, valM, go_sem]) ?_
      exact ⟨m, b3, b6, b8, h.pure (k := 13) rfl (by decide) (by decide) (by decide) (by decide)⟩
    · obtain rfl := Option.some.inj ho
      have d0 := D 0 (by kernel_rfl)
      have e1 := h.vals 0 14 rfl d0
      have e2 := h.vals 13 24 rfl (D 13 (by kernel_rfl))
      obtain ⟨_, kvs, hM, hkv⟩ := h.map d0
      obtain ⟨w'', hput, hM', hg, hs⟩ := hM.put (P := Tryd.prog) Tryd.underlying109 Tryd.underlying3 ((4 : Nat) : Int) (valM w.heap.size m b3 b6 b8 13) (ins_fresh (k := 14) (s := 13) (key := 4) rfl hl hkv)
      simp only [valM] at e1
      refine wpOp_skip ho rfl (w' := w'') (by simp at hput; simp [execOp, Act.eval, e1, e2, hput, Result.andThen, go_sem]) ?_
      exact ⟨m, b3, b6, b8, h.ins (k := 14) (s := 13) (key := 4) rfl d0 hl undef hkv hM' hg hs⟩
    · obtain rfl := Option.some.inj ho
      have e := h.low6
      have hc := h.blk2.cell 0
      simp at hc
      refine wpOp_value ho rfl (w' := w') (v := valM w.heap.size m b3 b6 b8 15) (by simp [execOp, Act.eval, e, valM, hc, go_sem]) ?_
      exact ⟨m, b3, b6, b8, h.pure (k := 15) rfl (by decide) (by decide) (by decide) (by decide)⟩
    · obtain rfl := Option.some.inj ho
      have e := h.vals 15 25 rfl (D 15 (by kernel_rfl))
      simp only [valM] at e
      rw [Array.getD_eq_getD_getElem?] at e
      refine wpOp_value ho rfl (w' := w') (v := valM w.heap.size m b3 b6 b8 16) (by simp [execOp, Act.eval, e, valM, go_sem]) ?_
      exact ⟨m, b3, b6, b8, h.pure (k := 16) rfl (by decide) (by decide) (by decide) (by decide)⟩
    · obtain rfl := Option.some.inj ho
      have d0 := D 0 (by kernel_rfl)
      have e1 := h.vals 0 14 rfl d0
      have e2 := h.vals 16 26 rfl (D 16 (by kernel_rfl))
      obtain ⟨_, kvs, hM, hkv⟩ := h.map d0
      obtain ⟨w'', hput, hM', hg, hs⟩ := hM.put (P := Tryd.prog) Tryd.underlying109 Tryd.underlying3 ((5 : Nat) : Int) (valM w.heap.size m b3 b6 b8 16) (ins_fresh (k := 17) (s := 16) (key := 5) rfl hl hkv)
      simp only [valM] at e1
      refine wpOp_skip ho rfl (w' := w'') (by simp at hput; simp [execOp, Act.eval, e1, e2, hput, Result.andThen, go_sem]) ?_
      exact ⟨m, b3, b6, b8, h.ins (k := 17) (s := 16) (key := 5) rfl d0 hl undef hkv hM' hg hs⟩
    · obtain rfl := Option.some.inj ho
      have e := h.low8
      refine wpOp_value ho rfl (w' := w') (v := valM w.heap.size m b3 b6 b8 18) (by simp [execOp, Act.eval, e, valM]) ?_
      exact ⟨m, b3, b6, b8, h.pure (k := 18) rfl (by decide) (by decide) (by decide) (by decide)⟩
    · obtain rfl := Option.some.inj ho
      have e := h.low6
      have hc := h.blk2.cell 0
      simp at hc
      refine wpOp_value ho rfl (w' := w') (v := valM w.heap.size m b3 b6 b8 19) (by simp [execOp, Act.eval, e, valM, hc, go_sem]) ?_
      exact ⟨m, b3, b6, b8, h.pure (k := 19) rfl (by decide) (by decide) (by decide) (by decide)⟩
    · obtain rfl := Option.some.inj ho
      have e1 := h.vals 18 27 rfl (D 18 (by kernel_rfl))
      have e2 := h.vals 19 28 rfl (D 19 (by kernel_rfl))
      simp only [valM] at e1 e2
      refine wpOp_enter ho rfl (w' := w') (f := 93) (args := #[fTar (w.heap.size + 1)]) (by simp [execOp, Act.eval, e1, e2, go_sem]) ((weighted_tar _ w').mono ?_)
      rintro e w'' ⟨rfl, rfl⟩
      have n1 := N 21 20 (by kernel_rfl) hl
      exact ⟨_, rfl, m, b3, w'.heap.size, b8, h.c6_call n1 (N 22 21 (by kernel_rfl) n1)⟩
    · obtain rfl := Option.some.inj ho
      have e := h.vals 20 29 rfl (D 20 (by kernel_rfl))
      simp only [valM] at e
      rw [Array.getD_eq_getD_getElem?] at e
      refine wpOp_value ho rfl (w' := w') (v := valM w.heap.size m b3 b6 b8 21) (by simp [execOp, Act.eval, e, valM, go_sem]) ?_
      exact ⟨m, b3, b6, b8, h.pure (k := 21) rfl (by decide) (by decide) (by decide) (by decide)⟩
    · obtain rfl := Option.some.inj ho
      have d0 := D 0 (by kernel_rfl)
      have e1 := h.vals 0 14 rfl d0
      have e2 := h.vals 21 30 rfl (D 21 (by kernel_rfl))
      obtain ⟨_, kvs, hM, hkv⟩ := h.map d0
      obtain ⟨w'', hput, hM', hg, hs⟩ := hM.put (P := Tryd.prog) Tryd.underlying109 Tryd.underlying3 ((6 : Nat) : Int) (valM w.heap.size m b3 b6 b8 21) (ins_fresh (k := 22) (s := 21) (key := 6) rfl hl hkv)
      simp only [valM] at e1
      refine wpOp_skip ho rfl (w' := w'') (by simp at hput; simp [execOp, Act.eval, e1, e2, hput, Result.andThen, go_sem]) ?_
      exact ⟨m, b3, b6, b8, h.ins (k := 22) (s := 21) (key := 6) rfl d0 hl undef hkv hM' hg hs⟩
    · obtain rfl := Option.some.inj ho
      have e := h.low7
      refine wpOp_value ho rfl (w' := w') (v := valM w.heap.size m b3 b6 b8 23) (by simp [execOp, Act.eval, e, valM]) ?_
      exact ⟨m, b3, b6, b8, h.pure (k := 23) rfl (by decide) (by decide) (by decide) (by decide)⟩
    · obtain rfl := Option.some.inj ho
      have e := h.vals 23 31 rfl (D 23 (by kernel_rfl))
      simp only [valM] at e
      rw [Array.getD_eq_getD_getElem?] at e
      refine wpOp_value ho rfl (w' := w') (v := valM w.heap.size m b3 b6 b8 24) (by simp [execOp, Act.eval, e, valM, go_sem]) ?_
      exact ⟨m, b3, b6, b8, h.pure (k := 24) rfl (by decide) (by decide) (by decide) (by decide)⟩
    · obtain rfl := Option.some.inj ho
      have d0 := D 0 (by kernel_rfl)
      have e1 := h.vals 0 14 rfl d0
      have e2 := h.vals 24 32 rfl (D 24 (by kernel_rfl))
      obtain ⟨_, kvs, hM, hkv⟩ := h.map d0
      obtain ⟨w'', hput, hM', hg, hs⟩ := hM.put (P := Tryd.prog) Tryd.underlying109 Tryd.underlying3 ((7 : Nat) : Int) (valM w.heap.size m b3 b6 b8 24) (ins_fresh (k := 25) (s := 24) (key := 7) rfl hl hkv)
      simp only [valM] at e1
      refine wpOp_skip ho rfl (w' := w'') (by simp at hput; simp [execOp, Act.eval, e1, e2, hput, Result.andThen, go_sem]) ?_
      exact ⟨m, b3, b6, b8, h.ins (k := 25) (s := 24) (key := 7) rfl d0 hl undef hkv hM' hg hs⟩
    · obtain rfl := Option.some.inj ho
      have e := h.low8
      refine wpOp_value ho rfl (w' := w') (v := valM w.heap.size m b3 b6 b8 26) (by simp [execOp, Act.eval, e, valM]) ?_
      exact ⟨m, b3, b6, b8, h.pure (k := 26) rfl (by decide) (by decide) (by decide) (by decide)⟩
    · obtain rfl := Option.some.inj ho
      have e := h.low7
      refine wpOp_value ho rfl (w' := w') (v := valM w.heap.size m b3 b6 b8 27) (by simp [execOp, Act.eval, e, valM]) ?_
      exact ⟨m, b3, b6, b8, h.pure (k := 27) rfl (by decide) (by decide) (by decide) (by decide)⟩
    · obtain rfl := Option.some.inj ho
      have e1 := h.vals 26 33 rfl (D 26 (by kernel_rfl))
      have e2 := h.vals 27 34 rfl (D 27 (by kernel_rfl))
      simp only [valM] at e1 e2
      refine wpOp_enter ho rfl (w' := w') (f := 93) (args := #[fLate (w.heap.size + 2)]) (by simp [execOp, Act.eval, e1, e2, go_sem]) ((weighted_late _ w').mono ?_)
      rintro e w'' ⟨rfl, rfl⟩
      have n1 := N 29 28 (by kernel_rfl) hl
      exact ⟨_, rfl, m, b3, b6, w'.heap.size, h.c8_call n1 (N 30 29 (by kernel_rfl) n1)⟩
    · obtain rfl := Option.some.inj ho
      have e := h.vals 28 35 rfl (D 28 (by kernel_rfl))
      simp only [valM] at e
      rw [Array.getD_eq_getD_getElem?] at e
      refine wpOp_value ho rfl (w' := w') (v := valM w.heap.size m b3 b6 b8 29) (by simp [execOp, Act.eval, e, valM, go_sem]) ?_
      exact ⟨m, b3, b6, b8, h.pure (k := 29) rfl (by decide) (by decide) (by decide) (by decide)⟩
    · obtain rfl := Option.some.inj ho
      have d0 := D 0 (by kernel_rfl)
      have e1 := h.vals 0 14 rfl d0
      have e2 := h.vals 29 36 rfl (D 29 (by kernel_rfl))
      obtain ⟨_, kvs, hM, hkv⟩ := h.map d0
      obtain ⟨w'', hput, hM', hg, hs⟩ := hM.put (P := Tryd.prog) Tryd.underlying109 Tryd.underlying3 ((8 : Nat) : Int) (valM w.heap.size m b3 b6 b8 29) (ins_fresh (k := 30) (s := 29) (key := 8) rfl hl hkv)
      simp only [valM] at e1
      refine wpOp_skip ho rfl (w' := w'') (by simp at hput; simp [execOp, Act.eval, e1, e2, hput, Result.andThen, go_sem]) ?_
      exact ⟨m, b3, b6, b8, h.ins (k := 30) (s := 29) (key := 8) rfl d0 hl undef hkv hM' hg hs⟩
    · obtain rfl := Option.some.inj ho
      have e := h.vals 0 14 rfl (D 0 (by kernel_rfl))
      simp only [valM] at e
      rw [Array.getD_eq_getD_getElem?] at e
      refine wpOp_value ho rfl (w' := w') (v := valM w.heap.size m b3 b6 b8 31) (by simp [execOp, Act.eval, e, valM, go_sem]) ?_
      exact ⟨m, b3, b6, b8, h.pure (k := 31) rfl (by decide) (by decide) (by decide) (by decide)⟩
    · obtain rfl := Option.some.inj ho
      have e := h.vals 31 37 rfl (D 31 (by kernel_rfl))
      simp only [valM] at e
      rw [Array.getD_eq_getD_getElem?] at e
      refine wpOp_value ho rfl (w' := w') (v := valM w.heap.size m b3 b6 b8 32) (by simp [execOp, Act.eval, e, valM, go_sem]) ?_
      exact ⟨m, b3, b6, b8, h.pure (k := 32) rfl (by decide) (by decide) (by decide) (by decide)⟩
end Go.Proofs.YtnkoncplfedffaaDoor

namespace Go.Proofs.YtnkoncplfedffaaDoor
open Go.RowKit
section
variable (j : J) (x : Int) (w : World) (hj : okJ j = true) (h0 : 0 ≤ x) (h1 : x ≤ 10000)
theorem end_call : Calls Tryd.prog 89 #[.agg #[.int .i64 j.t, .int .i64 j.w, .int .i64 j.r, .int .i64 j.d], .int .i64 x] w fun e w' => e = .returned (.int .i64 x) ∧ Below w.heap.size w w' := by
  go_enter Tryd.func89, Tryd.ntmps89
  go_wp2
  go_ret
  exact ⟨rfl, (Below.refl _ _).alloc (Nat.le_refl _) _⟩
include hj h0 h1
theorem lat_call : Calls Tryd.prog 90 #[.agg #[.int .i64 j.t, .int .i64 j.w, .int .i64 j.r, .int .i64 j.d], .int .i64 x] w fun e w' => e = .returned (.int .i64 (x - j.d)) ∧ Below w.heap.size w w' := by
  obtain ⟨_, _, _, _, _, _, d0, d1⟩ := okJ_out hj
  clear hj
  go_enter Tryd.func90, Tryd.ntmps90
  go_wp2
  go_ret
  exact ⟨rfl, (Below.refl _ _).alloc (Nat.le_refl _) _⟩
theorem tar_call (b : Nat) (hB : BlockIs w b 90 #[fLat]) : Calls Tryd.prog 91 #[.agg #[.int .i64 j.t, .int .i64 j.w, .int .i64 j.r, .int .i64 j.d], .int .i64 x, .pointer (some ⟨b, 0, none⟩)] w fun e w' => e = .returned (.int .i64 (max (x - j.d) 0)) ∧ Below w.heap.size w w' := by
  have hc := hB.cell 0
  simp at hc
  have hb := hB.lt
  clear hB
  by_cases hm : 0 ≤ x - j.d
  · have HM : Hid (max (x - j.d) 0 = x - j.d) := by show _ = _; omega
    have HJ := Lib.hid hj
    clear hj
    go_enter Tryd.func91, Tryd.ntmps91
    go_wp2_with fail
    refine (lat_call j x _ HJ.out h0 h1).mono ?_
    rintro e w1 ⟨rfl, hb1⟩
    go_wp2
    go_ret
    exact ⟨by rw [HM.out]; rfl, ((Below.refl _ _).alloc (Nat.le_refl _) _).trans (hb1.mono (by simp))⟩
  · have HM : Hid (max (x - j.d) 0 = 0) := by show _ = _; omega
    have HJ := Lib.hid hj
    clear hj
    go_enter Tryd.func91, Tryd.ntmps91
    go_wp2_with fail
    refine (lat_call j x _ HJ.out h0 h1).mono ?_
    rintro e w1 ⟨rfl, hb1⟩
    go_wp2
    go_ret
    exact ⟨by rw [HM.out]; rfl, ((Below.refl _ _).alloc (Nat.le_refl _) _).trans (hb1.mono (by simp))⟩
theorem late_call (b c : Nat) (hB : BlockIs w b 90 #[fTar c]) (hC : BlockIs w c 90 #[fLat]) : Calls Tryd.prog 92 #[.agg #[.int .i64 j.t, .int .i64 j.w, .int .i64 j.r, .int .i64 j.d], .int .i64 x, .pointer (some ⟨b, 0, none⟩)] w fun e w' => e = .returned (.int .i64 (min (max (x - j.d) 0) 1)) ∧ Below w.heap.size w w' := by
  have hc := hB.cell 0
  simp at hc
  have hb := hB.lt
  have HC := Lib.hid (hC.below ((Below.refl w.heap.size w).alloc (Nat.le_refl _) (.cells #[.int .i64 j.t, .int .i64 j.w, .int .i64 j.r, .int .i64 j.d] 50)))
  have HJ := Lib.hid hj
  clear hB hC hj
  by_cases hm : max (x - j.d) 0 ≤ 1
  · have HM : Hid (min (max (x - j.d) 0) 1 = max (x - j.d) 0) := by show _ = _; omega
    go_enter Tryd.func92, Tryd.ntmps92
    go_wp2_with fail
    refine (tar_call j x _ HJ.out h0 h1 c HC.out).mono ?_
    rintro e w1 ⟨rfl, hb1⟩
    generalize hy : max (x - j.d) 0 = y at *
    have HY := Lib.hid hy
    clear hy
    go_wp2
    go_ret
    exact ⟨by rw [HY.out, HM.out]; rfl, ((Below.refl _ _).alloc (Nat.le_refl _) _).trans (hb1.mono (by simp))⟩
  · have HM : Hid (min (max (x - j.d) 0) 1 = 1) := by show _ = _; omega
    go_enter Tryd.func92, Tryd.ntmps92
    go_wp2_with fail
    refine (tar_call j x _ HJ.out h0 h1 c HC.out).mono ?_
    rintro e w1 ⟨rfl, hb1⟩
    generalize hy : max (x - j.d) 0 = y at *
    have HY := Lib.hid hy
    clear hy
    go_wp2
    go_ret
    exact ⟨by rw [HY.out, HM.out]; rfl, ((Below.refl _ _).alloc (Nat.le_refl _) _).trans (hb1.mono (by simp))⟩
omit hj h0 h1 in
theorem mul_cost {a b : Int} (ha : 0 ≤ a) (ha' : a ≤ 50) (hb : -10000 ≤ b) (hb' : b ≤ 10000) : -500000 ≤ a * b ∧ a * b ≤ 500000 := by
  have h1 := Int.mul_le_mul_of_nonneg_left hb' ha
  have h2 := Int.mul_le_mul_of_nonneg_left hb ha
  have h3 : a * 10000 ≤ 500000 := by omega
  have h4 : -500000 ≤ a * -10000 := by omega
  omega
set_option maxRecDepth 100000 in
theorem wgt_end (b : Nat) (hB : BlockIs w b 90 #[fEnd]) :
    Calls Tryd.prog 94 #[.agg #[.int .i64 j.t, .int .i64 j.w, .int .i64 j.r, .int .i64 j.d], .int .i64 x, .pointer (some ⟨b, 0, none⟩)] w fun e w' => e = .returned (.int .i64 (j.w * x)) ∧ Below w.heap.size w w' := by
  obtain ⟨_, _, w0, w1, _, _, d0, d1⟩ := okJ_out hj
  have hm := mul_cost w0 w1 (show -10000 ≤ x by omega) (show x ≤ 10000 by omega)
  have hnew := BlockIs.new w 50 #[.int .i64 j.t, .int .i64 j.w, .int .i64 j.r, .int .i64 j.d]
  have hbel : Below w.heap.size w (w.alloc (.cells #[.int .i64 j.t, .int .i64 j.w, .int .i64 j.r, .int .i64 j.d] 50)) := (Below.refl _ _).alloc (Nat.le_refl _) _
  have HJ := Lib.hid hj
  clear hj
  go_enter Tryd.func94, Tryd.ntmps94
  go_wp2_with fail
  refine wp_region_det (by kernel_rfl) (fun w' => Below w.heap.size w w' ∧ BlockIs w' w.heap.size 50 #[.int .i64 j.t, .int .i64 j.w, .int .i64 j.r, .int .i64 j.d])
    (fun i => #[.pointer (some ⟨w.heap.size, 1, none⟩), .int .i64 j.w, fEnd, .agg #[.int .i64 j.t, .int .i64 j.w, .int .i64 j.r, .int .i64 j.d], .int .i64 x, .int .i64 (x), .int .i64 (j.w * x), .int .i64 (j.w * x)].getD i undef) (by kernel_rfl) (by kernel_rfl) ⟨hbel.drew, hnew.drew⟩ ?_ ?_
  · intro tm w' hS hsz hlow hval
    have ht : tm = #[.agg #[.int .i64 j.t, .int .i64 j.w, .int .i64 j.r, .int .i64 j.d], .int .i64 x, .pointer (some ⟨b, 0, none⟩), .pointer (some ⟨w.heap.size, 0, none⟩), undef, .int .i64 (j.w * x), .pointer (some ⟨w.heap.size, 1, none⟩), .int .i64 j.w, fEnd, .agg #[.int .i64 j.t, .int .i64 j.w, .int .i64 j.r, .int .i64 j.d], .int .i64 x, .int .i64 (x), .int .i64 (j.w * x)] := by
      refine arr_of _ _ hsz fun t ht => ?_
      have ht' : t < 13 := ht
      rcases (by omega : t = 0 ∨ t = 1 ∨ t = 2 ∨ t = 3 ∨ t = 4 ∨ t = 5 ∨ t = 6 ∨ t = 7 ∨ t = 8 ∨ t = 9 ∨ t = 10 ∨ t = 11 ∨ t = 12) with rfl | rfl | rfl | rfl | rfl | rfl | rfl | rfl | rfl | rfl | rfl | rfl | rfl
      · exact hlow 0 (by kernel_rfl)
      · exact hlow 1 (by kernel_rfl)
      · exact hlow 2 (by kernel_rfl)
      · exact hlow 3 (by kernel_rfl)
      · exact hlow 4 (by kernel_rfl)
      · exact hval 7 _ 5 rfl rfl
      · exact hval 0 _ 6 rfl rfl
      · exact hval 1 _ 7 rfl rfl
      · exact hval 2 _ 8 rfl rfl
      · exact hval 3 _ 9 rfl rfl
      · exact hval 4 _ 10 rfl rfl
      · exact hval 5 _ 11 rfl rfl
      · exact hval 6 _ 12 rfl rfl
    subst ht
    clear hlow hval
    go_wp2
    go_ret
    exact ⟨rfl, hS.1⟩
  · intro a w' i op ho ⟨hb', hJ⟩ hlow hdep _
    have hi : i < 8 := (Array.getElem?_eq_some_iff.1 ho).1
    have l1 := hlow 1 (by kernel_rfl)
    have l2 := hlow 2 (by kernel_rfl)
    have l3 := hlow 3 (by kernel_rfl)
    have hBc := (hB.below hb').cell 0
    have hJ0 := hJ.cell 0
    have hJ1 := hJ.cell 1
    have hJ2 := hJ.cell 2
    have hJ3 := hJ.cell 3
    simp at hBc hJ0 hJ1 hJ2 hJ3
    have l1 : a.tmps[1]?.getD undef = .int .i64 x := by rw [← Array.getD_eq_getD_getElem?]; exact l1
    have l2 : a.tmps[2]?.getD undef = .pointer (some ⟨b, 0, none⟩) := by rw [← Array.getD_eq_getD_getElem?]; exact l2
    have l3 : a.tmps[3]?.getD undef = .pointer (some ⟨w.heap.size, 0, none⟩) := by rw [← Array.getD_eq_getD_getElem?]; exact l3
    have D : ∀ j oj d, edgeB _ i j = true → _ → _ → a.tmps[d]?.getD undef = _ := fun j oj d h1 h2 h3 => (Array.getD_eq_getD_getElem? ..).symm.trans (hdep j oj d h1 h2 h3)
    rcases (by omega : i = 0 ∨ i = 1 ∨ i = 2 ∨ i = 3 ∨ i = 4 ∨ i = 5 ∨ i = 6 ∨ i = 7) with rfl | rfl | rfl | rfl | rfl | rfl | rfl | rfl
    · obtain rfl := Option.some.inj ho
      exact ⟨rfl, .inl ⟨w', by simp [execOp, Act.eval, l3, go_sem], hb', hJ⟩⟩
    · obtain rfl := Option.some.inj ho
      have e : a.tmps[6]?.getD undef = .pointer (some ⟨w.heap.size, 1, none⟩) := D 0 _ 6 (by kernel_rfl) rfl rfl
      exact ⟨rfl, .inl ⟨w', by simp [execOp, Act.eval, e, hJ1, go_sem], hb', hJ⟩⟩
    · obtain rfl := Option.some.inj ho
      exact ⟨rfl, .inl ⟨w', by simp [execOp, Act.eval, l2, hBc, go_sem], hb', hJ⟩⟩
    · obtain rfl := Option.some.inj ho
      exact ⟨rfl, .inl ⟨w', by simp [execOp, Act.eval, l3, hJ0, hJ1, hJ2, hJ3, go_sem], hb', hJ⟩⟩
    · obtain rfl := Option.some.inj ho
      exact ⟨rfl, .inl ⟨w', by simp [execOp, Act.eval, l1, go_sem], hb', hJ⟩⟩
    · obtain rfl := Option.some.inj ho
      have e8 : a.tmps[8]?.getD undef = fEnd := D 2 _ 8 (by kernel_rfl) rfl rfl
      have e9 : a.tmps[9]?.getD undef = .agg #[.int .i64 j.t, .int .i64 j.w, .int .i64 j.r, .int .i64 j.d] := D 3 _ 9 (by kernel_rfl) rfl rfl
      have e10 : a.tmps[10]?.getD undef = .int .i64 x := D 4 _ 10 (by kernel_rfl) rfl rfl
      refine ⟨rfl, .inr ⟨89, #[.agg #[.int .i64 j.t, .int .i64 j.w, .int .i64 j.r, .int .i64 j.d], .int .i64 x], by simp [execOp, Act.eval, e8, e9, e10, go_sem], (end_call j x _).mono ?_⟩⟩
      rintro e w'' ⟨rfl, hb2⟩
      exact ⟨rfl, hb'.trans (hb2.mono hb'.size), hJ.below hb2⟩
    · obtain rfl := Option.some.inj ho
      have e7 : a.tmps[7]?.getD undef = .int .i64 j.w := D 1 _ 7 (by kernel_rfl) rfl rfl
      have e11 : a.tmps[11]?.getD undef = .int .i64 (x) := D 5 _ 11 (by kernel_rfl) rfl rfl
      exact ⟨rfl, .inl ⟨w', by simp [execOp, Act.eval, e7, e11, go_sem]; exact IntWalk.i64_in _ (by omega), hb', hJ⟩⟩
    · obtain rfl := Option.some.inj ho
      have e12 : a.tmps[12]?.getD undef = .int .i64 (j.w * x) := D 6 _ 12 (by kernel_rfl) rfl rfl
      exact ⟨rfl, .inl ⟨w', by simp [execOp, Act.eval, e12, go_sem], hb', hJ⟩⟩
set_option maxRecDepth 100000 in
theorem wgt_tar (b c : Nat) (hB : BlockIs w b 90 #[fTar c]) (hC : BlockIs w c 90 #[fLat]) :
    Calls Tryd.prog 94 #[.agg #[.int .i64 j.t, .int .i64 j.w, .int .i64 j.r, .int .i64 j.d], .int .i64 x, .pointer (some ⟨b, 0, none⟩)] w fun e w' => e = .returned (.int .i64 (j.w * max (x - j.d) 0)) ∧ Below w.heap.size w w' := by
  obtain ⟨_, _, w0, w1, _, _, d0, d1⟩ := okJ_out hj
  have hm := mul_cost w0 w1 (show -10000 ≤ max (x - j.d) 0 by omega) (show max (x - j.d) 0 ≤ 10000 by omega)
  have hnew := BlockIs.new w 50 #[.int .i64 j.t, .int .i64 j.w, .int .i64 j.r, .int .i64 j.d]
  have hbel : Below w.heap.size w (w.alloc (.cells #[.int .i64 j.t, .int .i64 j.w, .int .i64 j.r, .int .i64 j.d] 50)) := (Below.refl _ _).alloc (Nat.le_refl _) _
  have HJ := Lib.hid hj
  clear hj
  go_enter Tryd.func94, Tryd.ntmps94
  go_wp2_with fail
  refine wp_region_det (by kernel_rfl) (fun w' => Below w.heap.size w w' ∧ BlockIs w' w.heap.size 50 #[.int .i64 j.t, .int .i64 j.w, .int .i64 j.r, .int .i64 j.d])
    (fun i => #[.pointer (some ⟨w.heap.size, 1, none⟩), .int .i64 j.w, fTar c, .agg #[.int .i64 j.t, .int .i64 j.w, .int .i64 j.r, .int .i64 j.d], .int .i64 x, .int .i64 (max (x - j.d) 0), .int .i64 (j.w * max (x - j.d) 0), .int .i64 (j.w * max (x - j.d) 0)].getD i undef) (by kernel_rfl) (by kernel_rfl) ⟨hbel.drew, hnew.drew⟩ ?_ ?_
  · intro tm w' hS hsz hlow hval
    have ht : tm = #[.agg #[.int .i64 j.t, .int .i64 j.w, .int .i64 j.r, .int .i64 j.d], .int .i64 x, .pointer (some ⟨b, 0, none⟩), .pointer (some ⟨w.heap.size, 0, none⟩), undef, .int .i64 (j.w * max (x - j.d) 0), .pointer (some ⟨w.heap.size, 1, none⟩), .int .i64 j.w, fTar c, .agg #[.int .i64 j.t, .int .i64 j.w, .int .i64 j.r, .int .i64 j.d], .int .i64 x, .int .i64 (max (x - j.d) 0), .int .i64 (j.w * max (x - j.d) 0)] := by
      refine arr_of _ _ hsz fun t ht => ?_
      have ht' : t < 13 := ht
      rcases (by omega : t = 0 ∨ t = 1 ∨ t = 2 ∨ t = 3 ∨ t = 4 ∨ t = 5 ∨ t = 6 ∨ t = 7 ∨ t = 8 ∨ t = 9 ∨ t = 10 ∨ t = 11 ∨ t = 12) with rfl | rfl | rfl | rfl | rfl | rfl | rfl | rfl | rfl | rfl | rfl | rfl | rfl
      · exact hlow 0 (by kernel_rfl)
      · exact hlow 1 (by kernel_rfl)
      · exact hlow 2 (by kernel_rfl)
      · exact hlow 3 (by kernel_rfl)
      · exact hlow 4 (by kernel_rfl)
      · exact hval 7 _ 5 rfl rfl
      · exact hval 0 _ 6 rfl rfl
      · exact hval 1 _ 7 rfl rfl
      · exact hval 2 _ 8 rfl rfl
      · exact hval 3 _ 9 rfl rfl
      · exact hval 4 _ 10 rfl rfl
      · exact hval 5 _ 11 rfl rfl
      · exact hval 6 _ 12 rfl rfl
    subst ht
    clear hlow hval
    go_wp2
    go_ret
    exact ⟨rfl, hS.1⟩
  · intro a w' i op ho ⟨hb', hJ⟩ hlow hdep _
    have hi : i < 8 := (Array.getElem?_eq_some_iff.1 ho).1
    have l1 := hlow 1 (by kernel_rfl)
    have l2 := hlow 2 (by kernel_rfl)
    have l3 := hlow 3 (by kernel_rfl)
    have hBc := (hB.below hb').cell 0
    have hJ0 := hJ.cell 0
    have hJ1 := hJ.cell 1
    have hJ2 := hJ.cell 2
    have hJ3 := hJ.cell 3
    simp at hBc hJ0 hJ1 hJ2 hJ3
    have l1 : a.tmps[1]?.getD undef = .int .i64 x := by rw [← Array.getD_eq_getD_getElem?]; exact l1
    have l2 : a.tmps[2]?.getD undef = .pointer (some ⟨b, 0, none⟩) := by rw [← Array.getD_eq_getD_getElem?]; exact l2
    have l3 : a.tmps[3]?.getD undef = .pointer (some ⟨w.heap.size, 0, none⟩) := by rw [← Array.getD_eq_getD_getElem?]; exact l3
    have D : ∀ j oj d, edgeB _ i j = true → _ → _ → a.tmps[d]?.getD undef = _ := fun j oj d h1 h2 h3 => (Array.getD_eq_getD_getElem? ..).symm.trans (hdep j oj d h1 h2 h3)
    rcases (by omega : i = 0 ∨ i = 1 ∨ i = 2 ∨ i = 3 ∨ i = 4 ∨ i = 5 ∨ i = 6 ∨ i = 7) with rfl | rfl | rfl | rfl | rfl | rfl | rfl | rfl
    · obtain rfl := Option.some.inj ho
      exact ⟨rfl, .inl ⟨w', by simp [execOp, Act.eval, l3, go_sem], hb', hJ⟩⟩
    · obtain rfl := Option.some.inj ho
      have e : a.tmps[6]?.getD undef = .pointer (some ⟨w.heap.size, 1, none⟩) := D 0 _ 6 (by kernel_rfl) rfl rfl
      exact ⟨rfl, .inl ⟨w', by simp [execOp, Act.eval, e, hJ1, go_sem], hb', hJ⟩⟩
    · obtain rfl := Option.some.inj ho
      exact ⟨rfl, .inl ⟨w', by simp [execOp, Act.eval, l2, hBc, go_sem], hb', hJ⟩⟩
    · obtain rfl := Option.some.inj ho
      exact ⟨rfl, .inl ⟨w', by simp [execOp, Act.eval, l3, hJ0, hJ1, hJ2, hJ3, go_sem], hb', hJ⟩⟩
    · obtain rfl := Option.some.inj ho
      exact ⟨rfl, .inl ⟨w', by simp [execOp, Act.eval, l1, go_sem], hb', hJ⟩⟩
    · obtain rfl := Option.some.inj ho
      have e8 : a.tmps[8]?.getD undef = fTar c := D 2 _ 8 (by kernel_rfl) rfl rfl
      have e9 : a.tmps[9]?.getD undef = .agg #[.int .i64 j.t, .int .i64 j.w, .int .i64 j.r, .int .i64 j.d] := D 3 _ 9 (by kernel_rfl) rfl rfl
      have e10 : a.tmps[10]?.getD undef = .int .i64 x := D 4 _ 10 (by kernel_rfl) rfl rfl
      refine ⟨rfl, .inr ⟨91, #[.agg #[.int .i64 j.t, .int .i64 j.w, .int .i64 j.r, .int .i64 j.d], .int .i64 x, .pointer (some ⟨c, 0, none⟩)], by simp [execOp, Act.eval, e8, e9, e10, go_sem], (tar_call j x _ HJ.out h0 h1 c (hC.below hb')).mono ?_⟩⟩
      rintro e w'' ⟨rfl, hb2⟩
      exact ⟨rfl, hb'.trans (hb2.mono hb'.size), hJ.below hb2⟩
    · obtain rfl := Option.some.inj ho
      have e7 : a.tmps[7]?.getD undef = .int .i64 j.w := D 1 _ 7 (by kernel_rfl) rfl rfl
      have e11 : a.tmps[11]?.getD undef = .int .i64 (max (x - j.d) 0) := D 5 _ 11 (by kernel_rfl) rfl rfl
      exact ⟨rfl, .inl ⟨w', by simp [execOp, Act.eval, e7, e11, go_sem]; exact IntWalk.i64_in _ (by omega), hb', hJ⟩⟩
    · obtain rfl := Option.some.inj ho
      have e12 : a.tmps[12]?.getD undef = .int .i64 (j.w * max (x - j.d) 0) := D 6 _ 12 (by kernel_rfl) rfl rfl
      exact ⟨rfl, .inl ⟨w', by simp [execOp, Act.eval, e12, go_sem], hb', hJ⟩⟩
set_option maxRecDepth 100000 in
theorem wgt_late (b c d : Nat) (hB : BlockIs w b 90 #[fLate c]) (hC : BlockIs w c 90 #[fTar d]) (hD : BlockIs w d 90 #[fLat]) :
    Calls Tryd.prog 94 #[.agg #[.int .i64 j.t, .int .i64 j.w, .int .i64 j.r, .int .i64 j.d], .int .i64 x, .pointer (some ⟨b, 0, none⟩)] w fun e w' => e = .returned (.int .i64 (j.w * min (max (x - j.d) 0) 1)) ∧ Below w.heap.size w w' := by
  obtain ⟨_, _, w0, w1, _, _, d0, d1⟩ := okJ_out hj
  have hm := mul_cost w0 w1 (show -10000 ≤ min (max (x - j.d) 0) 1 by omega) (show min (max (x - j.d) 0) 1 ≤ 10000 by omega)
  have hnew := BlockIs.new w 50 #[.int .i64 j.t, .int .i64 j.w, .int .i64 j.r, .int .i64 j.d]
  have hbel : Below w.heap.size w (w.alloc (.cells #[.int .i64 j.t, .int .i64 j.w, .int .i64 j.r, .int .i64 j.d] 50)) := (Below.refl _ _).alloc (Nat.le_refl _) _
  have HJ := Lib.hid hj
  clear hj
  go_enter Tryd.func94, Tryd.ntmps94
  go_wp2_with fail
  refine wp_region_det (by kernel_rfl) (fun w' => Below w.heap.size w w' ∧ BlockIs w' w.heap.size 50 #[.int .i64 j.t, .int .i64 j.w, .int .i64 j.r, .int .i64 j.d])
    (fun i => #[.pointer (some ⟨w.heap.size, 1, none⟩), .int .i64 j.w, fLate c, .agg #[.int .i64 j.t, .int .i64 j.w, .int .i64 j.r, .int .i64 j.d], .int .i64 x, .int .i64 (min (max (x - j.d) 0) 1), .int .i64 (j.w * min (max (x - j.d) 0) 1), .int .i64 (j.w * min (max (x - j.d) 0) 1)].getD i undef) (by kernel_rfl) (by kernel_rfl) ⟨hbel.drew, hnew.drew⟩ ?_ ?_
  · intro tm w' hS hsz hlow hval
    have ht : tm = #[.agg #[.int .i64 j.t, .int .i64 j.w, .int .i64 j.r, .int .i64 j.d], .int .i64 x, .pointer (some ⟨b, 0, none⟩), .pointer (some ⟨w.heap.size, 0, none⟩), undef, .int .i64 (j.w * min (max (x - j.d) 0) 1), .pointer (some ⟨w.heap.size, 1, none⟩), .int .i64 j.w, fLate c, .agg #[.int .i64 j.t, .int .i64 j.w, .int .i64 j.r, .int .i64 j.d], .int .i64 x, .int .i64 (min (max (x - j.d) 0) 1), .int .i64 (j.w * min (max (x - j.d) 0) 1)] := by
      refine arr_of _ _ hsz fun t ht => ?_
      have ht' : t < 13 := ht
      rcases (by omega : t = 0 ∨ t = 1 ∨ t = 2 ∨ t = 3 ∨ t = 4 ∨ t = 5 ∨ t = 6 ∨ t = 7 ∨ t = 8 ∨ t = 9 ∨ t = 10 ∨ t = 11 ∨ t = 12) with rfl | rfl | rfl | rfl | rfl | rfl | rfl | rfl | rfl | rfl | rfl | rfl | rfl
      · exact hlow 0 (by kernel_rfl)
      · exact hlow 1 (by kernel_rfl)
      · exact hlow 2 (by kernel_rfl)
      · exact hlow 3 (by kernel_rfl)
      · exact hlow 4 (by kernel_rfl)
      · exact hval 7 _ 5 rfl rfl
      · exact hval 0 _ 6 rfl rfl
      · exact hval 1 _ 7 rfl rfl
      · exact hval 2 _ 8 rfl rfl
      · exact hval 3 _ 9 rfl rfl
      · exact hval 4 _ 10 rfl rfl
      · exact hval 5 _ 11 rfl rfl
      · exact hval 6 _ 12 rfl rfl
    subst ht
    clear hlow hval
    go_wp2
    go_ret
    exact ⟨rfl, hS.1⟩
  · intro a w' i op ho ⟨hb', hJ⟩ hlow hdep _
    have hi : i < 8 := (Array.getElem?_eq_some_iff.1 ho).1
    have l1 := hlow 1 (by kernel_rfl)
    have l2 := hlow 2 (by kernel_rfl)
    have l3 := hlow 3 (by kernel_rfl)
    have hBc := (hB.below hb').cell 0
    have hJ0 := hJ.cell 0
    have hJ1 := hJ.cell 1
    have hJ2 := hJ.cell 2
    have hJ3 := hJ.cell 3
    simp at hBc hJ0 hJ1 hJ2 hJ3
    have l1 : a.tmps[1]?.getD undef = .int .i64 x := by rw [← Array.getD_eq_getD_getElem?]; exact l1
    have l2 : a.tmps[2]?.getD undef = .pointer (some ⟨b, 0, none⟩) := by rw [← Array.getD_eq_getD_getElem?]; exact l2
    have l3 : a.tmps[3]?.getD undef = .pointer (some ⟨w.heap.size, 0, none⟩) := by rw [← Array.getD_eq_getD_getElem?]; exact l3
    have D : ∀ j oj d, edgeB _ i j = true → _ → _ → a.tmps[d]?.getD undef = _ := fun j oj d h1 h2 h3 => (Array.getD_eq_getD_getElem? ..).symm.trans (hdep j oj d h1 h2 h3)
    rcases (by omega : i = 0 ∨ i = 1 ∨ i = 2 ∨ i = 3 ∨ i = 4 ∨ i = 5 ∨ i = 6 ∨ i = 7) with rfl | rfl | rfl | rfl | rfl | rfl | rfl | rfl
    · obtain rfl := Option.some.inj ho
      exact ⟨rfl, .inl ⟨w', by simp [execOp, Act.eval, l3, go_sem], hb', hJ⟩⟩
    · obtain rfl := Option.some.inj ho
      have e : a.tmps[6]?.getD undef = .pointer (some ⟨w.heap.size, 1, none⟩) := D 0 _ 6 (by kernel_rfl) rfl rfl
      exact ⟨rfl, .inl ⟨w', by simp [execOp, Act.eval, e, hJ1, go_sem], hb', hJ⟩⟩
    · obtain rfl := Option.some.inj ho
      exact ⟨rfl, .inl ⟨w', by simp [execOp, Act.eval, l2, hBc, go_sem], hb', hJ⟩⟩
    · obtain rfl := Option.some.inj ho
      exact ⟨rfl, .inl ⟨w', by simp [execOp, Act.eval, l3, hJ0, hJ1, hJ2, hJ3, go_sem], hb', hJ⟩⟩
    · obtain rfl := Option.some.inj ho
      exact ⟨rfl, .inl ⟨w', by simp [execOp, Act.eval, l1, go_sem], hb', hJ⟩⟩
    · obtain rfl := Option.some.inj ho
      have e8 : a.tmps[8]?.getD undef = fLate c := D 2 _ 8 (by kernel_rfl) rfl rfl
      have e9 : a.tmps[9]?.getD undef = .agg #[.int .i64 j.t, .int .i64 j.w, .int .i64 j.r, .int .i64 j.d] := D 3 _ 9 (by kernel_rfl) rfl rfl
      have e10 : a.tmps[10]?.getD undef = .int .i64 x := D 4 _ 10 (by kernel_rfl) rfl rfl
      refine ⟨rfl, .inr ⟨92, #[.agg #[.int .i64 j.t, .int .i64 j.w, .int .i64 j.r, .int .i64 j.d], .int .i64 x, .pointer (some ⟨c, 0, none⟩)], by simp [execOp, Act.eval, e8, e9, e10, go_sem], (late_call j x _ HJ.out h0 h1 c d (hC.below hb') (hD.below hb')).mono ?_⟩⟩
      rintro e w'' ⟨rfl, hb2⟩
      exact ⟨rfl, hb'.trans (hb2.mono hb'.size), hJ.below hb2⟩
    · obtain rfl := Option.some.inj ho
      have e7 : a.tmps[7]?.getD undef = .int .i64 j.w := D 1 _ 7 (by kernel_rfl) rfl rfl
      have e11 : a.tmps[11]?.getD undef = .int .i64 (min (max (x - j.d) 0) 1) := D 5 _ 11 (by kernel_rfl) rfl rfl
      exact ⟨rfl, .inl ⟨w', by simp [execOp, Act.eval, e7, e11, go_sem]; exact IntWalk.i64_in _ (by omega), hb', hJ⟩⟩
    · obtain rfl := Option.some.inj ho
      have e12 : a.tmps[12]?.getD undef = .int .i64 (j.w * min (max (x - j.d) 0) 1) := D 6 _ 12 (by kernel_rfl) rfl rfl
      exact ⟨rfl, .inl ⟨w', by simp [execOp, Act.eval, e12, go_sem], hb', hJ⟩⟩
end
/-- The cost, at each of the functions: one walk that meets the call by this serves them all. -/
theorem cost_call {B : Nat} {w : World} {o : Int} {fv : Value} (h : FnIs B w o fv) : ∃ (f : Nat) (caps : Array Value), fv = .func (.func f) #[] caps ∧ (∀ (args : Array Value) (w1 : World), (callFunc f args).run Tryd.prog w1 = .ok (.enter f args) w1) ∧
    ∀ (w1 : World) (j : J) (x : Int), (∀ b, b < B → w1.heap[b]? = w.heap[b]?) → okJ j = true → 0 ≤ x → x ≤ 10000 →
      Calls Tryd.prog f (#[.agg #[.int .i64 j.t, .int .i64 j.w, .int .i64 j.r, .int .i64 j.d], .int .i64 x] ++ caps) w1 fun e w2 => e = .returned (.int .i64 (costOf o j x)) ∧ Below w1.heap.size w1 w2 := by
  have K : ∀ {w1 : World} {b : Nat} {t : TypeId} {cs : Array Value}, (∀ b, b < B → w1.heap[b]? = w.heap[b]?) → b < B → BlockIs w b t cs → BlockIs w1 b t cs := fun hk hb h => (hk _ hb).trans h
  rcases h with ⟨rfl | rfl, rfl⟩ | ⟨rfl, rfl⟩ | ⟨rfl, b, rfl, h2, h3⟩ | ⟨rfl, b, c, rfl, h2, h3, h4, h5⟩ | ⟨rfl, b, rfl, h2, h3⟩ | ⟨rfl, b, c, rfl, h2, h3, h4, h5⟩ | ⟨rfl, b, c, d, rfl, h2, h3, h4, h5, h6, h7⟩
  · exact ⟨_, _, rfl, fun _ _ => by kernel_rfl, fun w1 j x hk hj h0 h1 => end_call j x w1⟩
  · exact ⟨_, _, rfl, fun _ _ => by kernel_rfl, fun w1 j x hk hj h0 h1 => end_call j x w1⟩
  · exact ⟨_, _, rfl, fun _ _ => by kernel_rfl, fun w1 j x hk hj h0 h1 => lat_call j x w1 hj h0 h1⟩
  · exact ⟨_, _, rfl, fun _ _ => by kernel_rfl, fun w1 j x hk hj h0 h1 => tar_call j x w1 hj h0 h1 b (K hk h2 h3)⟩
  · exact ⟨_, _, rfl, fun _ _ => by kernel_rfl, fun w1 j x hk hj h0 h1 => late_call j x w1 hj h0 h1 b c (K hk h2 h3) (K hk h4 h5)⟩
  · exact ⟨_, _, rfl, fun _ _ => by kernel_rfl, fun w1 j x hk hj h0 h1 => wgt_end j x w1 hj h0 h1 b (K hk h2 h3)⟩
  · exact ⟨_, _, rfl, fun _ _ => by kernel_rfl, fun w1 j x hk hj h0 h1 => wgt_tar j x w1 hj h0 h1 b c (K hk h2 h3) (K hk h4 h5)⟩
  · exact ⟨_, _, rfl, fun _ _ => by kernel_rfl, fun w1 j x hk hj h0 h1 => wgt_late j x w1 hj h0 h1 b c d (K hk h2 h3) (K hk h4 h5) (K hk h6 h7)⟩
end Go.Proofs.YtnkoncplfedffaaDoor

namespace Go.Proofs.YtnkoncplfedffaaDoor
open Go.RowKit
set_option maxRecDepth 100000 in
set_option maxHeartbeats 1000000 in
theorem extended_any {B : Nat} {w : World} {o : Int} {fv : Value} (h : FnIs B w o fv) (hB : B ≤ w.heap.size) (ho : isObj o = true) (k : Nat) (hk : k ≤ 8) (v : Int) (hv0 : -500 ≤ v) (hv1 : v ≤ 50000 * k) (j : J) (hj : okJ j = true) (x : Int) (h0 : 0 ≤ x) (h1 : x ≤ 1000) :
    Calls Tryd.prog 68 #[.agg #[fv, .bool (isTop o)], .int .i64 (k : Int), .int .i64 v, .agg #[.int .i64 j.t, .int .i64 j.w, .int .i64 j.r, .int .i64 j.d], .int .i64 x] w fun e w' => e = .returned (.int .i64 (extOf o k v (costOf o j x))) ∧ Below w.heap.size w w' := by
  obtain ⟨f, caps, rfl, hcf, hcall⟩ := cost_call h
  obtain ⟨c0, c1, _⟩ := cost_bd ho hj h0 h1
  have hc := hcall (((w.alloc (.cells #[.func (.func f) #[] caps, .bool (isTop o)] 92))).alloc (.cells #[.int .i64 j.t, .int .i64 j.w, .int .i64 j.r, .int .i64 j.d] 50)) j x (fun b hb => by
    have b1 : Below w.heap.size w ((w.alloc (.cells #[.func (.func f) #[] caps, .bool (isTop o)] 92)).alloc (.cells #[.int .i64 j.t, .int .i64 j.w, .int .i64 j.r, .int .i64 j.d] 50)) := ((Below.refl _ _).alloc (Nat.le_refl _) _).alloc (by simp) _
    exact b1.block b (by omega)) hj h0 (by omega)
  have HC := Lib.hid hc
  have HE : Hid (extOf o k v (costOf o j x) = if k = 0 then costOf o j x else if isTop o then max v (costOf o j x) else v + costOf o j x) := rfl
  clear hcall hc h hj
  generalize hev : extOf o k v (costOf o j x) = ev at *
  clear hev
  generalize costOf o j x = c at *
  cases ht : isTop o
  · rw [ht] at HC HE
    by_cases hk0 : k = 0
    · subst hk0
      go_enter Tryd.func68, Tryd.ntmps68
      go_wp2_with fail
      refine HC.out.mono ?_
      rintro e w2 ⟨rfl, hb2⟩
      have hbw : Below w.heap.size w ((w.alloc (.cells #[.func (.func f) #[] caps, .bool false] 92)).alloc (.cells #[.int .i64 j.t, .int .i64 j.w, .int .i64 j.r, .int .i64 j.d] 50)) := ((Below.refl _ _).alloc (Nat.le_refl _) _).alloc (by simp) _
      have hbx := hbw.trans (hb2.mono (by simp; omega))
      have hM := (((BlockIs.new w 92 #[.func (.func f) #[] caps, .bool false]).below ((Below.refl _ _).alloc (Nat.le_refl _) (.cells #[.int .i64 j.t, .int .i64 j.w, .int .i64 j.r, .int .i64 j.d] 50))).below hb2).cell 1
      simp at hM
      have HX := Lib.hid hbx
      clear hbx hbw hb2 HC hcf
      go_wp2
      go_ret
      exact ⟨by rw [HE.out]; rfl, HX.out⟩
    · skip
      go_enter Tryd.func68, Tryd.ntmps68
      go_wp2_with fail
      refine HC.out.mono ?_
      rintro e w2 ⟨rfl, hb2⟩
      have hbw : Below w.heap.size w ((w.alloc (.cells #[.func (.func f) #[] caps, .bool false] 92)).alloc (.cells #[.int .i64 j.t, .int .i64 j.w, .int .i64 j.r, .int .i64 j.d] 50)) := ((Below.refl _ _).alloc (Nat.le_refl _) _).alloc (by simp) _
      have hbx := hbw.trans (hb2.mono (by simp; omega))
      have hM := (((BlockIs.new w 92 #[.func (.func f) #[] caps, .bool false]).below ((Below.refl _ _).alloc (Nat.le_refl _) (.cells #[.int .i64 j.t, .int .i64 j.w, .int .i64 j.r, .int .i64 j.d] 50))).below hb2).cell 1
      simp at hM
      have HX := Lib.hid hbx
      clear hbx hbw hb2 HC hcf
      have hk1 : ((k : Int) == 0) = false := by simp; omega
      have HE' : Hid (ev = v + c) := by show _ = _; rw [HE.out, if_neg hk0]; rfl
      go_wp2
      go_ret
      exact ⟨by rw [HE'.out]; rfl, HX.out⟩
  · rw [ht] at HC HE
    by_cases hk0 : k = 0
    · subst hk0
      go_enter Tryd.func68, Tryd.ntmps68
      go_wp2_with fail
      refine HC.out.mono ?_
      rintro e w2 ⟨rfl, hb2⟩
      have hbw : Below w.heap.size w ((w.alloc (.cells #[.func (.func f) #[] caps, .bool true] 92)).alloc (.cells #[.int .i64 j.t, .int .i64 j.w, .int .i64 j.r, .int .i64 j.d] 50)) := ((Below.refl _ _).alloc (Nat.le_refl _) _).alloc (by simp) _
      have hbx := hbw.trans (hb2.mono (by simp; omega))
      have hM := (((BlockIs.new w 92 #[.func (.func f) #[] caps, .bool true]).below ((Below.refl _ _).alloc (Nat.le_refl _) (.cells #[.int .i64 j.t, .int .i64 j.w, .int .i64 j.r, .int .i64 j.d] 50))).below hb2).cell 1
      simp at hM
      have HX := Lib.hid hbx
      clear hbx hbw hb2 HC hcf
      go_wp2
      go_ret
      exact ⟨by rw [HE.out]; rfl, HX.out⟩
    · by_cases hcmp : v < c
      · skip
        go_enter Tryd.func68, Tryd.ntmps68
        go_wp2_with fail
        refine HC.out.mono ?_
        rintro e w2 ⟨rfl, hb2⟩
        have hbw : Below w.heap.size w ((w.alloc (.cells #[.func (.func f) #[] caps, .bool true] 92)).alloc (.cells #[.int .i64 j.t, .int .i64 j.w, .int .i64 j.r, .int .i64 j.d] 50)) := ((Below.refl _ _).alloc (Nat.le_refl _) _).alloc (by simp) _
        have hbx := hbw.trans (hb2.mono (by simp; omega))
        have hM := (((BlockIs.new w 92 #[.func (.func f) #[] caps, .bool true]).below ((Below.refl _ _).alloc (Nat.le_refl _) (.cells #[.int .i64 j.t, .int .i64 j.w, .int .i64 j.r, .int .i64 j.d] 50))).below hb2).cell 1
        simp at hM
        have HX := Lib.hid hbx
        clear hbx hbw hb2 HC hcf
        have hk1 : ((k : Int) == 0) = false := by simp; omega
        have HE' : Hid (ev = max v c) := by show _ = _; rw [HE.out, if_neg hk0]; rfl
        have hmx : Hid (max v c = c) := by show _ = _; omega
        go_wp2
        go_ret
        exact ⟨by rw [HE'.out, hmx.out]; rfl, HX.out⟩
      · skip
        go_enter Tryd.func68, Tryd.ntmps68
        go_wp2_with fail
        refine HC.out.mono ?_
        rintro e w2 ⟨rfl, hb2⟩
        have hbw : Below w.heap.size w ((w.alloc (.cells #[.func (.func f) #[] caps, .bool true] 92)).alloc (.cells #[.int .i64 j.t, .int .i64 j.w, .int .i64 j.r, .int .i64 j.d] 50)) := ((Below.refl _ _).alloc (Nat.le_refl _) _).alloc (by simp) _
        have hbx := hbw.trans (hb2.mono (by simp; omega))
        have hM := (((BlockIs.new w 92 #[.func (.func f) #[] caps, .bool true]).below ((Below.refl _ _).alloc (Nat.le_refl _) (.cells #[.int .i64 j.t, .int .i64 j.w, .int .i64 j.r, .int .i64 j.d] 50))).below hb2).cell 1
        simp at hM
        have HX := Lib.hid hbx
        clear hbx hbw hb2 HC hcf
        have hk1 : ((k : Int) == 0) = false := by simp; omega
        have HE' : Hid (ev = max v c) := by show _ = _; rw [HE.out, if_neg hk0]; rfl
        have hmx : Hid (max v c = v) := by show _ = _; omega
        go_wp2
        go_ret
        exact ⟨by rw [HE'.out, hmx.out]; rfl, HX.out⟩
end Go.Proofs.YtnkoncplfedffaaDoor

namespace Go.Proofs.YtnkoncplfedffaaDoor
section
variable (ob : Int) (js : List J)
def tieB (x y : Nat) : Bool := decide (gapN ob js x y = 0)
/-- The groups of a list, each the longest part whose jobs are tied with its first one. -/
def grp : Nat → List Nat → List (List Nat)
  | _, [] => []
  | 0, _ :: _ => []
  | f + 1, x :: ys => (x :: ys.takeWhile (tieB ob js x)) :: grp f (ys.dropWhile (tieB ob js x))
def groupsL : List (List Nat) := grp ob js js.length (ruledL ob js)
/-- One more job is put to the last group or into one of its own. -/
def grpStep (out : List (List Nat)) (x : Nat) : List (List Nat) :=
  match out.getLast? with
  | some (h :: t) => if gapN ob js h x = 0 then out.dropLast ++ [h :: t ++ [x]] else out ++ [[x]]
  | _ => out ++ [[x]]
theorem grpStep_snoc (out : List (List Nat)) (h : Nat) (t : List Nat) (x : Nat) : grpStep ob js (out ++ [h :: t]) x = if gapN ob js h x = 0 then out ++ [h :: t ++ [x]] else out ++ [h :: t] ++ [[x]] := by
  unfold grpStep
  simp
theorem drop_le (p : Nat → Bool) : ∀ ys : List Nat, (ys.dropWhile p).length ≤ ys.length
  | [] => Nat.le_refl _
  | y :: ys => by
    unfold List.dropWhile
    split
    · have := drop_le p ys; simp; omega
    · exact Nat.le_refl _
theorem grp_fold : ∀ (f : Nat) (ys : List Nat) (out : List (List Nat)) (h : Nat) (t : List Nat), ys.length ≤ f → ys.foldl (grpStep ob js) (out ++ [h :: t]) = out ++ [h :: t ++ ys.takeWhile (tieB ob js h)] ++ grp ob js f (ys.dropWhile (tieB ob js h))
  | f, [], out, h, t, _ => by
    simp only [List.foldl_nil, List.takeWhile_nil, List.dropWhile_nil, List.append_nil]
    cases f <;> simp [grp]
  | 0, y :: ys, _, _, _, hf => by simp at hf
  | f + 1, y :: ys, out, h, t, hf => by
    simp only [List.length_cons] at hf
    rw [List.foldl_cons, grpStep_snoc]
    by_cases e : gapN ob js h y = 0
    · rw [if_pos e]
      have e' : tieB ob js h y = true := decide_eq_true e
      rw [List.takeWhile_cons, e', List.dropWhile_cons, e']
      simp only [if_true]
      have ih := grp_fold f ys out h (t ++ [y]) (by omega)
      simp only [List.cons_append, List.append_assoc, List.nil_append] at ih ⊢
      rw [ih]
      have hm : ∀ (f : Nat) (zs : List Nat), zs.length ≤ f → grp ob js f zs = grp ob js (f + 1) zs := by
        intro f
        induction f with
        | zero => intro zs hz; have : zs = [] := List.eq_nil_of_length_eq_zero (by omega); subst this; rfl
        | succ f ih2 =>
          intro zs hz
          cases zs with
          | nil => rfl
          | cons z zs =>
            show _ :: grp ob js f _ = _ :: grp ob js (f + 1) _
            rw [ih2 _ (by have := drop_le (tieB ob js z) zs; simp at hz; omega)]
      rw [hm f _ (by have := drop_le (tieB ob js h) ys; omega)]
    · rw [if_neg e]
      have e' : tieB ob js h y = false := decide_eq_false e
      rw [List.takeWhile_cons, e', List.dropWhile_cons, e']
      simp only [Bool.false_eq_true, if_false, List.append_nil]
      rw [grp_fold f ys (out ++ [h :: t]) y [] (by omega)]
      simp [grp]
theorem grp_spec (f : Nat) (ys : List Nat) (hf : ys.length ≤ f) : ys.foldl (grpStep ob js) [] = grp ob js f ys := by
  cases ys with
  | nil => cases f <;> rfl
  | cons y ys =>
    cases f with
    | zero => simp at hf
    | succ f =>
      rw [List.foldl_cons]
      have : grpStep ob js [] y = [] ++ [[y]] := rfl
      rw [this, grp_fold ob js f ys [] y [] (by simpa using hf)]
      simp [grp]
theorem groups_spec : (ruledL ob js).foldl (grpStep ob js) [] = groupsL ob js := grp_spec ob js _ _ (by rw [ruledL_len]; exact Nat.le_refl _)
theorem takeDrop (p : Nat → Bool) : ∀ ys : List Nat, ys.takeWhile p ++ ys.dropWhile p = ys
  | [] => rfl
  | y :: ys => by
    unfold List.takeWhile List.dropWhile
    cases p y
    · rfl
    · simp [takeDrop p ys]
theorem grp_flat : ∀ (f : Nat) (ys : List Nat), ys.length ≤ f → (grp ob js f ys).flatten = ys
  | f, [], _ => by cases f <;> rfl
  | 0, y :: ys, h => by simp at h
  | f + 1, y :: ys, h => by
    simp only [List.length_cons] at h
    show (y :: ys.takeWhile _) ++ (grp ob js f _).flatten = _
    rw [grp_flat f _ (by have := drop_le (tieB ob js y) ys; omega)]
    simp
theorem groups_flat : (groupsL ob js).flatten = ruledL ob js := grp_flat ob js _ _ (by rw [ruledL_len]; exact Nat.le_refl _)
/-- n factorial. -/
def facN : Nat → Nat
  | 0 => 1
  | n + 1 => facN n * (n + 1)
theorem facN_pos : ∀ n, 1 ≤ facN n
  | 0 => Nat.le_refl _
  | n + 1 => by
    have := facN_pos n
    show 1 ≤ facN n * (n + 1)
    exact Nat.mul_le_mul this (by omega : 1 ≤ n + 1)
theorem fac_add (a : Nat) : ∀ b, facN a * facN b ≤ facN (a + b)
  | 0 => by simp [facN]
  | b + 1 => by
    show facN a * (facN b * (b + 1)) ≤ facN (a + b) * (a + b + 1)
    rw [← Nat.mul_assoc]
    exact Nat.mul_le_mul (fac_add a b) (by omega)
theorem fac_mono {a : Nat} : ∀ {b}, a ≤ b → facN a ≤ facN b
  | 0, h => by have : a = 0 := by omega
               subst this; exact Nat.le_refl _
  | b + 1, h => by
    by_cases e : a = b + 1
    · subst e; exact Nat.le_refl _
    · have := fac_mono (a := a) (b := b) (by omega)
      show facN a ≤ facN b * (b + 1)
      have h2 : facN b * 1 ≤ facN b * (b + 1) := Nat.mul_le_mul_left _ (by omega)
      omega
def prodF (gs : List (List Nat)) : Nat := gs.foldl (fun p g => p * facN g.length) 1
theorem prodF_snoc (gs : List (List Nat)) (g : List Nat) : prodF (gs ++ [g]) = prodF gs * facN g.length := by unfold prodF; rw [List.foldl_append]; rfl
theorem prodF_go : ∀ (gs : List (List Nat)) (p n : Nat), p ≤ facN n → gs.foldl (fun p g => p * facN g.length) p ≤ facN (n + gs.flatten.length)
  | [], p, n, h => by simpa using h
  | g :: gs, p, n, h => by
    rw [List.foldl_cons]
    have h1 : p * facN g.length ≤ facN (n + g.length) := Nat.le_trans (Nat.mul_le_mul_right _ h) (fac_add n g.length)
    have := prodF_go gs _ _ h1
    simpa [Nat.add_assoc] using this
theorem prodF_le (gs : List (List Nat)) : prodF gs ≤ facN gs.flatten.length := by
  have := prodF_go gs 1 0 (Nat.le_refl _)
  simpa [prodF] using this
theorem prodF_8 {gs : List (List Nat)} (h : gs.flatten.length ≤ 8) : prodF gs ≤ 40320 := Nat.le_trans (prodF_le gs) (fac_mono h)
def countRuledL : Nat := prodF (groupsL ob js)
/-- The inversions of an order whose first job stands at place i. -/
def invAt (p : List Nat) (i k : Nat) : List (Nat × Nat) := ((List.range k).filter fun m => decide (i < m ∧ 0 < gapN ob js (p.getD i 0) (p.getD m 0))).map fun m => (p.getD i 0, p.getD m 0)
def invTo (p : List Nat) (i : Nat) : List (Nat × Nat) := (List.range i).flatMap fun a => invAt ob js p a p.length
def invL (p : List Nat) : List (Nat × Nat) := invTo ob js p p.length
theorem invAt_zero (p : List Nat) (i : Nat) : ∀ k, k ≤ i + 1 → invAt ob js p i k = [] := by
  intro k hk
  unfold invAt
  rw [List.map_eq_nil_iff, List.filter_eq_nil_iff]
  intro m hm
  have := List.mem_range.1 hm
  simp
  omega
theorem invAt_succ (p : List Nat) (i k : Nat) (h : i < k) : invAt ob js p i (k + 1) = if 0 < gapN ob js (p.getD i 0) (p.getD k 0) then invAt ob js p i k ++ [(p.getD i 0, p.getD k 0)] else invAt ob js p i k := by
  unfold invAt
  rw [List.range_succ, List.filter_append, List.map_append]
  by_cases e : 0 < gapN ob js (p.getD i 0) (p.getD k 0)
  · rw [if_pos e, List.filter_cons, if_pos (by simpa using ⟨h, e⟩)]; simp
  · rw [if_neg e, List.filter_cons, if_neg (fun hh => e (of_decide_eq_true hh).2)]; simp
theorem invTo_succ (p : List Nat) (i : Nat) : invTo ob js p (i + 1) = invTo ob js p i ++ invAt ob js p i p.length := by
  unfold invTo; rw [List.range_succ, List.flatMap_append]; simp
theorem invAt_len (p : List Nat) (i k : Nat) : (invAt ob js p i k).length ≤ k := by
  unfold invAt
  rw [List.length_map]
  have := List.length_filter_le (fun m => decide (i < m ∧ 0 < gapN ob js (p.getD i 0) (p.getD m 0))) (List.range k)
  simpa using this
theorem invTo_len (p : List Nat) : ∀ i, (invTo ob js p i).length ≤ i * p.length
  | 0 => by simp [invTo]
  | i + 1 => by
    rw [invTo_succ, List.length_append]
    have h1 := invTo_len p i
    have h2 := invAt_len ob js p i p.length
    rw [Nat.add_mul]
    omega
theorem invTo_mem {p : List Nat} {i : Nat} {x : Nat × Nat} (h : x ∈ invTo ob js p i) (hi : i ≤ p.length) : x.1 ∈ p ∧ x.2 ∈ p := by
  unfold invTo at h
  rw [List.mem_flatMap] at h
  obtain ⟨a, ha, h⟩ := h
  unfold invAt at h
  rw [List.mem_map] at h
  obtain ⟨m, hm, rfl⟩ := h
  have hm' := List.mem_range.1 (List.mem_filter.1 hm).1
  have ha' := List.mem_range.1 ha
  have e1 : p.getD a 0 = p[a]'(by omega) := getD_at p 0 (by omega)
  have e2 : p.getD m 0 = p[m] := getD_at p 0 hm'
  simp only [e1, e2]
  exact ⟨List.getElem_mem _, List.getElem_mem _⟩
/-- What the inversions cost. -/
def lossTo (xs : List (Nat × Nat)) (k : Nat) : Int := ((xs.take k).map fun x => gapN 3 js x.1 x.2).sum
def lossL (p : List Nat) : Int := lossTo js (invL 3 js p) (invL 3 js p).length
theorem lossTo_succ (xs : List (Nat × Nat)) (k : Nat) (h : k < xs.length) : lossTo js xs (k + 1) = lossTo js xs k + gapN 3 js xs[k].1 xs[k].2 := by
  unfold lossTo
  rw [List.take_succ_eq_append_getElem h, List.map_append, List.sum_append]
  simp
theorem lossTo_bd {js : List J} (hg : ∀ j ∈ js, okJ j = true) {xs : List (Nat × Nat)} (hx : ∀ x ∈ xs, x.1 < js.length ∧ x.2 < js.length) : ∀ k, k ≤ xs.length → -(2500 * k : Int) ≤ lossTo js xs k ∧ lossTo js xs k ≤ 2500 * k
  | 0, _ => by simp [lossTo]
  | k + 1, h => by
    rw [lossTo_succ js xs k (by omega)]
    have h1 := lossTo_bd hg hx k (by omega)
    have h2 := hx _ (List.getElem_mem (show k < xs.length by omega))
    have h3 : -2500 ≤ gapN 3 js xs[k].1 xs[k].2 ∧ gapN 3 js xs[k].1 xs[k].2 ≤ 2500 := gapJ_bd (getD_ok hg h2.1) (getD_ok hg h2.2)
    omega
/-- The first place whose job and the next one are an inversion. -/
def wrongV (p : List Nat) : Option Nat := (List.range (p.length - 1)).find? fun i => decide (0 < gapN ob js (p.getD i 0) (p.getD (i + 1) 0))
end
end Go.Proofs.YtnkoncplfedffaaDoor

namespace Go.Proofs.YtnkoncplfedffaaDoor
abbrev Ed := Int × Int
/-- A pair is of numbers of n jobs, and comes behind the one ahead of it. -/
def edOk (n : Int) (E : List Ed) (i : Nat) : Bool := decide (0 ≤ (E.getD i (0, 0)).1 ∧ (E.getD i (0, 0)).1 < n ∧ 0 ≤ (E.getD i (0, 0)).2 ∧ (E.getD i (0, 0)).2 < n) && (decide (i = 0) || decide ((E.getD (i - 1) (0, 0)).1 < (E.getD i (0, 0)).1 ∨ (E.getD (i - 1) (0, 0)).1 = (E.getD i (0, 0)).1 ∧ (E.getD (i - 1) (0, 0)).2 < (E.getD i (0, 0)).2))
def pairsTo (n : Int) (E : List Ed) (k : Nat) : Bool := (List.range k).all (edOk n E)
theorem pairsTo_succ (n : Int) (E : List Ed) (k : Nat) : pairsTo n E (k + 1) = (pairsTo n E k && edOk n E k) := by
  unfold pairsTo; rw [List.range_succ, List.all_append]; simp
theorem pairsTo_bad {n : Int} {E : List Ed} {k m : Nat} (h : k < m) (hk : edOk n E k = false) : pairsTo n E m = false := by
  unfold pairsTo; rw [List.all_eq_false]; exact ⟨k, List.mem_range.2 h, by rw [hk]; simp⟩
theorem pairsTo_at {n : Int} {E : List Ed} {k m : Nat} (h : pairsTo n E m = true) (hk : k < m) : edOk n E k = true := by
  unfold pairsTo at h; exact List.all_eq_true.1 h k (List.mem_range.2 hk)
/-- Whether a pair is told. -/
def edB (E : List Ed) (i j : Nat) : Bool := E.contains ((i : Int), (j : Int))
/-- What is before what, when pairs lead over the first k jobs alone. -/
def tabTo (E : List Ed) : Nat → Nat → Nat → Bool
  | 0, i, j => edB E i j
  | k + 1, i, j => tabTo E k i j || (tabTo E k i k && tabTo E k k j)
def tabB (n : Nat) (E : List Ed) (i j : Nat) : Bool := tabTo E n i j
theorem tabTo_mono (E : List Ed) {k : Nat} {i j : Nat} (h : tabTo E k i j = true) : tabTo E (k + 1) i j = true := by
  show (_ || _) = true
  rw [h]; rfl
theorem tabTo_le (E : List Ed) {k m : Nat} (h : k ≤ m) {i j : Nat} (ht : tabTo E k i j = true) : tabTo E m i j = true := by
  induction m with
  | zero => have : k = 0 := by omega
            subst this; exact ht
  | succ m ih =>
    by_cases e : k = m + 1
    · subst e; exact ht
    · exact tabTo_mono E (ih (by omega))
/-- Of the first k jobs, what leads over one leads on. -/
theorem tabTo_trans (E : List Ed) : ∀ (k a b c : Nat), b < k → tabTo E k a b = true → tabTo E k b c = true → tabTo E k a c = true
  | 0, _, _, _, h, _, _ => by omega
  | k + 1, a, b, c, hb, h1, h2 => by
    have s : ∀ x y, tabTo E (k + 1) x y = true → tabTo E k x y = true ∨ (tabTo E k x k = true ∧ tabTo E k k y = true) := fun x y h => by
      have h' : (tabTo E k x y || (tabTo E k x k && tabTo E k k y)) = true := h
      simpa using h'
    have mk : ∀ x y, (tabTo E k x y = true ∨ (tabTo E k x k = true ∧ tabTo E k k y = true)) → tabTo E (k + 1) x y = true := fun x y h => by
      show (tabTo E k x y || (tabTo E k x k && tabTo E k k y)) = true
      simpa using h
    rcases s _ _ h1 with p | ⟨p1, p2⟩ <;> rcases s _ _ h2 with q | ⟨q1, q2⟩
    · by_cases e : b = k
      · subst e; exact mk _ _ (.inr ⟨p, q⟩)
      · exact mk _ _ (.inl (tabTo_trans E k a b c (by omega) p q))
    · by_cases e : b = k
      · subst e; exact mk _ _ (.inr ⟨p, q2⟩)
      · exact mk _ _ (.inr ⟨tabTo_trans E k a b k (by omega) p q1, q2⟩)
    · by_cases e : b = k
      · subst e; exact mk _ _ (.inr ⟨p1, q⟩)
      · exact mk _ _ (.inr ⟨p1, tabTo_trans E k k b c (by omega) p2 q⟩)
    · exact mk _ _ (.inr ⟨p1, q2⟩)
/-- The table in the midst of a round. -/
def tabMid (E : List Ed) (k i j a b : Nat) : Bool := if a < i ∨ (a = i ∧ b < j) then tabTo E (k + 1) a b else tabTo E k a b
theorem tabMid_zero (E : List Ed) (k a b : Nat) : tabMid E k 0 0 a b = tabTo E k a b := by
  unfold tabMid; rw [if_neg (by omega)]
theorem tabTo_col (E : List Ed) (k i : Nat) : tabTo E (k + 1) i k = tabTo E k i k := by
  show (tabTo E k i k || (tabTo E k i k && tabTo E k k k)) = _
  cases tabTo E k i k <;> simp
theorem tabTo_row (E : List Ed) (k j : Nat) : tabTo E (k + 1) k j = tabTo E k k j := by
  show (tabTo E k k j || (tabTo E k k k && tabTo E k k j)) = _
  cases tabTo E k k j <;> simp
theorem tabMid_col (E : List Ed) (k i j a : Nat) : tabMid E k i j a k = tabTo E k a k := by
  unfold tabMid; split
  · exact tabTo_col E k a
  · rfl
theorem tabMid_row (E : List Ed) (k i j b : Nat) : tabMid E k i j k b = tabTo E k k b := by
  unfold tabMid; split
  · exact tabTo_row E k b
  · rfl
theorem tabMid_end (E : List Ed) (k i n a b : Nat) (hb : b < n) : tabMid E k i n a b = tabMid E k (i + 1) 0 a b := by
  unfold tabMid
  by_cases h : a < i ∨ (a = i ∧ b < n)
  · rw [if_pos h, if_pos (by omega)]
  · rw [if_neg h, if_neg (by omega)]
theorem tabMid_all (E : List Ed) (k n a b : Nat) (ha : a < n) : tabMid E k n 0 a b = tabTo E (k + 1) a b := by
  unfold tabMid; rw [if_pos (by omega)]
theorem tabMid_yes (E : List Ed) (k i j a b : Nat) (h : (tabTo E k i k && tabTo E k k j) = true) : tabMid E k i (j + 1) a b = if a = i ∧ b = j then true else tabMid E k i j a b := by
  by_cases e : a = i ∧ b = j
  · obtain ⟨rfl, rfl⟩ := e
    rw [if_pos ⟨rfl, rfl⟩]
    unfold tabMid; rw [if_pos (by omega)]
    show (_ || _) = true
    rw [h, Bool.or_true]
  · rw [if_neg e]
    unfold tabMid
    by_cases h' : a < i ∨ (a = i ∧ b < j)
    · rw [if_pos (by omega), if_pos h']
    · rw [if_neg (by omega), if_neg h']
theorem tabMid_no (E : List Ed) (k i j a b : Nat) (h : (tabTo E k i k && tabTo E k k j) = false) : tabMid E k i (j + 1) a b = tabMid E k i j a b := by
  unfold tabMid
  by_cases e : a = i ∧ b = j
  · obtain ⟨rfl, rfl⟩ := e
    rw [if_pos (by omega), if_neg (by omega)]
    show (_ || _) = _
    rw [h, Bool.or_false]
  · by_cases h' : a < i ∨ (a = i ∧ b < j)
    · rw [if_pos (by omega), if_pos h']
    · rw [if_neg (by omega), if_neg h']
/-- What is before what by sets that grow until they stay. -/
def growB (n : Nat) (T : Nat → Nat → Bool) (i j : Nat) : Bool := T i j || (List.range n).any fun m => T i m && T m j
theorem growB_mono {n : Nat} {T : Nat → Nat → Bool} {i j : Nat} (h : T i j = true) : growB n T i j = true := by unfold growB; rw [h]; rfl
theorem growB_iff {n : Nat} {T : Nat → Nat → Bool} {i j : Nat} : growB n T i j = true ↔ T i j = true ∨ ∃ m, m < n ∧ T i m = true ∧ T m j = true := by
  unfold growB; simp [List.any_eq_true]
def growTo (n : Nat) (E : List Ed) : Nat → Nat → Nat → Bool
  | 0 => edB E
  | t + 1 => growB n (growTo n E t)
/-- All pairs are of the first n jobs. -/
def InE (n : Nat) (E : List Ed) : Prop := ∀ i j, edB E i j = true → i < n ∧ j < n
theorem growTo_in {n : Nat} {E : List Ed} (h : InE n E) : ∀ (t i j : Nat), growTo n E t i j = true → i < n ∧ j < n
  | 0, i, j, ht => h i j ht
  | t + 1, i, j, ht => by
    rcases growB_iff.1 ht with h1 | ⟨m, _, h1, h2⟩
    · exact growTo_in h t i j h1
    · exact ⟨(growTo_in h t _ _ h1).1, (growTo_in h t _ _ h2).2⟩
theorem tabTo_in {n : Nat} {E : List Ed} (h : InE n E) : ∀ (k i j : Nat), tabTo E k i j = true → i < n ∧ j < n
  | 0, i, j, ht => h i j ht
  | k + 1, i, j, ht => by
    have ht' : (tabTo E k i j || (tabTo E k i k && tabTo E k k j)) = true := ht
    simp only [Bool.or_eq_true, Bool.and_eq_true] at ht'
    rcases ht' with h1 | ⟨h1, h2⟩
    · exact tabTo_in h k i j h1
    · exact ⟨(tabTo_in h k _ _ h1).1, (tabTo_in h k _ _ h2).2⟩
theorem grow_sound {n : Nat} {E : List Ed} (h : InE n E) : ∀ (t i j : Nat), growTo n E t i j = true → tabB n E i j = true
  | 0, i, j, ht => tabTo_le E (Nat.zero_le n) ht
  | t + 1, i, j, ht => by
    rcases growB_iff.1 ht with h1 | ⟨m, hm, h1, h2⟩
    · exact grow_sound h t i j h1
    · exact tabTo_trans E n i m j hm (grow_sound h t i m h1) (grow_sound h t m j h2)
/-- When they stay, they tell what the table tells. -/
theorem grow_stop {n : Nat} {E : List Ed} (h : InE n E) {t : Nat} (hs : ∀ i j, i < n → j < n → growTo n E (t + 1) i j = growTo n E t i j) : ∀ i j, growTo n E t i j = tabB n E i j := by
  have hE : ∀ t i j, edB E i j = true → growTo n E t i j = true := by
    intro t
    induction t with
    | zero => exact fun _ _ h => h
    | succ t ih => exact fun i j h => growB_mono (ih i j h)
  have hc : ∀ k i j, tabTo E k i j = true → growTo n E t i j = true := by
    intro k
    induction k with
    | zero => exact fun i j h => hE t i j h
    | succ k ih =>
      intro i j hk
      have ht' : (tabTo E k i j || (tabTo E k i k && tabTo E k k j)) = true := hk
      simp only [Bool.or_eq_true, Bool.and_eq_true] at ht'
      rcases ht' with h1 | ⟨h1, h2⟩
      · exact ih i j h1
      · have g1 := ih _ _ h1
        have g2 := ih _ _ h2
        have b1 := growTo_in h t _ _ g1
        have b2 := growTo_in h t _ _ g2
        rw [← hs i j b1.1 b2.2]
        exact growB_iff.2 (.inr ⟨k, b1.2, g1, g2⟩)
  intro i j
  rw [Bool.eq_iff_iff]
  exact ⟨grow_sound h t i j, hc n i j⟩
/-- How many pairs are told. -/
def cntB (n : Nat) (T : Nat → Nat → Bool) : Nat := ((List.range n).map fun i => (List.range n).countP fun j => T i j).sum
theorem countP_le' {p q : Nat → Bool} (h : ∀ x, p x = true → q x = true) : ∀ l : List Nat, l.countP p ≤ l.countP q
  | [] => Nat.le_refl _
  | x :: l => by
    rw [List.countP_cons, List.countP_cons]
    have := countP_le' h l
    by_cases hp : p x = true
    · rw [if_pos hp, if_pos (h x hp)]; omega
    · rw [if_neg hp]; split <;> omega
theorem countP_lt' {p q : Nat → Bool} (h : ∀ x, p x = true → q x = true) {i : Nat} (hp : p i = false) (hq : q i = true) : ∀ l : List Nat, i ∈ l → l.countP p < l.countP q
  | x :: l, hi => by
    rw [List.countP_cons, List.countP_cons]
    rcases List.mem_cons.1 hi with rfl | hi
    · have := countP_le' h l
      rw [hp, hq]; simp; omega
    · have := countP_lt' h hp hq l hi
      by_cases hp' : p x = true
      · rw [if_pos hp', if_pos (h x hp')]; omega
      · rw [if_neg hp']; split <;> omega
theorem sum_le_map {f g : Nat → Nat} (h : ∀ x, f x ≤ g x) : ∀ l : List Nat, (l.map f).sum ≤ (l.map g).sum
  | [] => Nat.le_refl _
  | x :: l => by have := sum_le_map h l; have := h x; simp; omega
theorem sum_lt_map {f g : Nat → Nat} (h : ∀ x, f x ≤ g x) {i : Nat} (hi : f i < g i) : ∀ l : List Nat, i ∈ l → (l.map f).sum < (l.map g).sum
  | x :: l, hm => by
    simp only [List.map_cons, List.sum_cons]
    rcases List.mem_cons.1 hm with rfl | hm
    · have := sum_le_map h l; omega
    · have := sum_lt_map h hi l hm; have := h x; omega
theorem cntB_le (n : Nat) (T : Nat → Nat → Bool) : cntB n T ≤ n * n := by
  unfold cntB
  have h : ∀ l : List Nat, (l.map fun i => (List.range n).countP fun j => T i j).sum ≤ l.length * n := by
    intro l
    induction l with
    | nil => simp
    | cons x l ih =>
      have := List.countP_le_length (p := fun j => T x j) (l := List.range n)
      simp only [List.map_cons, List.sum_cons, List.length_cons, Nat.succ_mul]
      simp only [List.length_range] at this
      omega
  simpa using h (List.range n)
/-- As long as they do not stay, they grow. -/
theorem grow_more {n : Nat} {T : Nat → Nat → Bool} (h : ¬ ∀ i j, i < n → j < n → growB n T i j = T i j) : cntB n T < cntB n (growB n T) := by
  have hm : ∀ i j, T i j = true → growB n T i j = true := fun i j => growB_mono
  obtain ⟨i, hi⟩ := Classical.not_forall.1 h
  obtain ⟨j, hj⟩ := Classical.not_forall.1 hi
  have hin : i < n := by
    by_cases e : i < n
    · exact e
    · exact absurd (fun a _ => absurd a e) hj
  have hjn : j < n := by
    by_cases e : j < n
    · exact e
    · exact absurd (fun _ b => absurd b e) hj
  have hne : growB n T i j ≠ T i j := fun e => hj fun _ _ => e
  have hT : T i j = false := by
    cases ht : T i j
    · rfl
    · exact absurd ((hm i j ht).trans ht.symm) hne
  have hG : growB n T i j = true := by
    cases hg : growB n T i j
    · exact absurd (hg.trans hT.symm) hne
    · rfl
  have h2 : ((List.range n).countP fun y => T i y) < ((List.range n).countP fun y => growB n T i y) := countP_lt' (fun y => hm i y) (i := j) hT hG (List.range n) (List.mem_range.2 hjn)
  exact sum_lt_map (f := fun i => (List.range n).countP fun j => T i j) (g := fun i => (List.range n).countP fun j => growB n T i j) (fun x => countP_le' (fun y => hm x y) _) (i := i) h2 (List.range n) (List.mem_range.2 hin)
/-- A precedence of n jobs. -/
def irrB (n : Nat) (E : List Ed) (k : Nat) : Bool := (List.range k).all fun i => !tabB n E i i
theorem irrB_succ (n : Nat) (E : List Ed) (k : Nat) : irrB n E (k + 1) = (irrB n E k && !tabB n E k k) := by unfold irrB; rw [List.range_succ, List.all_append]; simp
theorem irrB_bad {n : Nat} {E : List Ed} {k m : Nat} (h : k < m) (hk : tabB n E k k = true) : irrB n E m = false := by
  unfold irrB; rw [List.all_eq_false]; exact ⟨k, List.mem_range.2 h, by rw [hk]; simp⟩
def pairsB (n : Int) (E : List Ed) : Bool := decide (0 ≤ n ∧ n ≤ 8) && (decide (E.length ≤ 28) && pairsTo n E E.length)
def precB (n : Int) (E : List Ed) : Bool := pairsB n E && irrB n.toNat E n.toNat
theorem pairs_out {n : Int} {E : List Ed} (h : pairsB n E = true) : 0 ≤ n ∧ n ≤ 8 ∧ E.length ≤ 28 ∧ pairsTo n E E.length = true := by
  unfold pairsB at h
  simp only [Bool.and_eq_true, decide_eq_true_eq] at h
  exact ⟨h.1.1, h.1.2, h.2.1, h.2.2⟩
theorem edB_iff {E : List Ed} {i j : Nat} : edB E i j = true ↔ ((i : Int), (j : Int)) ∈ E := by unfold edB; simp
theorem pairs_in {n : Int} {E : List Ed} (h : pairsB n E = true) : InE n.toNat E := by
  obtain ⟨h0, h8, hl, hp⟩ := pairs_out h
  intro i j he
  obtain ⟨k, hk, e⟩ := List.mem_iff_getElem.1 (edB_iff.1 he)
  have := pairsTo_at hp hk
  unfold edOk at this
  simp only [Bool.and_eq_true, decide_eq_true_eq] at this
  rw [getD_at E (0, 0) hk, e] at this
  simp only at this
  omega
/-- A pair of a job with itself is a cycle. -/
theorem prec_self {n : Int} {E : List Ed} {k : Nat} (hk : k < E.length) (he : E[k].1 = E[k].2) : precB n E = false := by
  cases h : pairsB n E
  · unfold precB; rw [h]; rfl
  · have hin := pairs_in h
    obtain ⟨h0, h8, hl, hp⟩ := pairs_out h
    have hk' := pairsTo_at hp hk
    unfold edOk at hk'
    simp only [Bool.and_eq_true, decide_eq_true_eq] at hk'
    rw [getD_at E (0, 0) hk] at hk'
    obtain ⟨m, hm⟩ : ∃ m : Nat, E[k].1 = (m : Int) := ⟨E[k].1.toNat, by omega⟩
    have hed : edB E m m = true := edB_iff.2 (by
      have : E[k] = ((m : Int), (m : Int)) := Prod.ext hm (by rw [← he, hm])
      rw [← this]; exact List.getElem_mem hk)
    unfold precB
    rw [irrB_bad (k := m) (hin m m hed).1 (tabTo_le E (Nat.zero_le _) hed), Bool.and_false]
end Go.Proofs.YtnkoncplfedffaaDoor

namespace Go.Proofs.YtnkoncplfedffaaDoor
def addB (s j : Nat) : Nat := s ||| 2 ^ j
def subB (s j : Nat) : Nat := s &&& (18446744073709551615 ^^^ 2 ^ j)
def minusB (s t : Nat) : Nat := s &&& (18446744073709551615 ^^^ t)
theorem bit_add (s j i : Nat) : (addB s j).testBit i = (s.testBit i || decide (i = j)) := by
  unfold addB
  rw [Nat.testBit_or, Nat.testBit_two_pow]
  congr 1
  rw [decide_eq_decide]
  exact eq_comm
theorem ones_bit (i : Nat) : (18446744073709551615 : Nat).testBit i = decide (i < 64) := by
  have : (18446744073709551615 : Nat) = 2 ^ 64 - 1 := rfl
  rw [this, Nat.testBit_two_pow_sub_one]
theorem bit_minus {s : Nat} (hs : s < 256) (t i : Nat) : (minusB s t).testBit i = (s.testBit i && !t.testBit i) := by
  unfold minusB
  rw [Nat.testBit_and, Nat.testBit_xor, ones_bit]
  by_cases h : i < 64
  · rw [decide_eq_true h, Bool.true_xor]
  · have : s.testBit i = false := Nat.testBit_lt_two_pow (Nat.lt_of_lt_of_le hs (Nat.le_trans (by decide : 256 ≤ 2 ^ 8) (Nat.pow_le_pow_right (by decide) (by omega))))
    rw [this]; rfl
theorem bit_sub {s : Nat} (hs : s < 256) (j i : Nat) : (subB s j).testBit i = (s.testBit i && decide (i ≠ j)) := by
  have := bit_minus hs (2 ^ j) i
  unfold minusB at this
  unfold subB
  rw [this, Nat.testBit_two_pow]
  congr 1
  by_cases h : j = i
  · subst h; simp
  · simp [h, Ne.symm h]
theorem lt_bit {s : Nat} (hs : s < 256) {i : Nat} (h : s.testBit i = true) : i < 8 := by
  by_cases e : i < 8
  · exact e
  · have : s.testBit i = false := Nat.testBit_lt_two_pow (Nat.lt_of_lt_of_le hs (Nat.le_trans (by decide : 256 ≤ 2 ^ 8) (Nat.pow_le_pow_right (by decide) (by omega))))
    rw [this] at h; cases h
theorem add_lt {s j : Nat} (hs : s < 256) (hj : j < 8) : addB s j < 256 := by
  unfold addB
  exact Nat.or_lt_two_pow (n := 8) hs (Nat.pow_lt_pow_right (by decide) hj)
theorem minus_lt {s : Nat} (hs : s < 256) (t : Nat) : minusB s t < 256 := Nat.lt_of_le_of_lt Nat.and_le_left hs
theorem sub_lt {s : Nat} (hs : s < 256) (j : Nat) : subB s j < 256 := Nat.lt_of_le_of_lt Nat.and_le_left hs
theorem or_lt {s t : Nat} (hs : s < 256) (ht : t < 256) : s ||| t < 256 := Nat.or_lt_two_pow (n := 8) hs ht
theorem set_ext {s t : Nat} (hs : s < 256) (ht : t < 256) (h : ∀ i, i < 8 → s.testBit i = t.testBit i) : s = t := by
  apply Nat.eq_of_testBit_eq
  intro i
  by_cases e : i < 8
  · exact h i e
  · have h1 : ∀ u : Nat, u < 256 → u.testBit i = false := fun u hu => Nat.testBit_lt_two_pow (Nat.lt_of_lt_of_le hu (Nat.le_trans (by decide : 256 ≤ 2 ^ 8) (Nat.pow_le_pow_right (by decide) (by omega))))
    rw [h1 s hs, h1 t ht]
/-- The jobs of a set, in ascending order. -/
def memB (s : Nat) : List Nat := (List.range 8).filter fun i => s.testBit i
theorem memB_mem {s i : Nat} (hs : s < 256) : i ∈ memB s ↔ s.testBit i = true := by
  unfold memB
  rw [List.mem_filter, List.mem_range]
  exact ⟨fun h => h.2, fun h => ⟨lt_bit hs h, h⟩⟩
theorem memB_zero : memB 0 = [] := by decide
/-- A set of those that something is true of. -/
def bitsN (n : Nat) (p : Nat → Bool) : Nat := (List.range n).foldl (fun s i => if p i then addB s i else s) 0
theorem bits_succ (n : Nat) (p : Nat → Bool) : bitsN (n + 1) p = if p n then addB (bitsN n p) n else bitsN n p := by
  unfold bitsN; rw [List.range_succ, List.foldl_append]; rfl
theorem bits_lt {n : Nat} (hn : n ≤ 8) (p : Nat → Bool) : bitsN n p < 256 := by
  induction n with
  | zero => exact (by decide : 0 < 256)
  | succ n ih =>
    rw [bits_succ]
    split
    · exact add_lt (ih (by omega)) (by omega)
    · exact ih (by omega)
theorem bits_bit (n : Nat) (p : Nat → Bool) (i : Nat) : (bitsN n p).testBit i = (decide (i < n) && p i) := by
  induction n with
  | zero => simp [bitsN]
  | succ n ih =>
    rw [bits_succ]
    by_cases hp : p n = true
    · rw [if_pos hp, bit_add, ih]
      by_cases e : i = n
      · subst e; simp [hp]
      · rw [decide_eq_false e, Bool.or_false]
        congr 1
        rw [decide_eq_decide]; omega
    · rw [if_neg hp, ih]
      by_cases e : i = n
      · subst e; simp [hp]
      · congr 1
        rw [decide_eq_decide]; omega
theorem bits_eq {s n : Nat} (hs : s < 256) (hn : n ≤ 8) {p : Nat → Bool} (h : ∀ i, i < 8 → s.testBit i = (decide (i < n) && p i)) : s = bitsN n p :=
  set_ext hs (bits_lt hn p) fun i hi => by rw [h i hi, bits_bit]
theorem strict_ext2 : ∀ {l l' : List Nat}, l.Pairwise (· < ·) → l'.Pairwise (· < ·) → (∀ x, x ∈ l ↔ x ∈ l') → l = l'
  | [], [], _, _, _ => rfl
  | [], y :: l', _, _, h => absurd ((h y).2 List.mem_cons_self) (by simp)
  | x :: l, [], _, _, h => absurd ((h x).1 List.mem_cons_self) (by simp)
  | x :: l, y :: l', h1, h2, h => by
    obtain ⟨a1, a2⟩ := List.pairwise_cons.1 h1
    obtain ⟨b1, b2⟩ := List.pairwise_cons.1 h2
    have e : x = y := by
      rcases List.mem_cons.1 ((h x).1 List.mem_cons_self) with e | e
      · exact e
      · rcases List.mem_cons.1 ((h y).2 List.mem_cons_self) with e' | e'
        · exact e'.symm
        · have := b1 x e; have := a1 y e'; omega
    subst e
    have : l = l' := strict_ext2 a2 b2 fun z => by
      constructor
      · intro hz
        rcases List.mem_cons.1 ((h z).1 (List.mem_cons_of_mem _ hz)) with e | e
        · have := a1 z hz; omega
        · exact e
      · intro hz
        rcases List.mem_cons.1 ((h z).2 (List.mem_cons_of_mem _ hz)) with e | e
        · have := b1 z hz; omega
        · exact e
    rw [this]
/-- The least job, and the others. -/
theorem memB_least {s : Nat} (hs : s < 256) (h0 : s ≠ 0) : ∃ j, j < 8 ∧ s.testBit j = true ∧ (∀ i, i < j → s.testBit i = false) ∧ memB s = j :: memB (subB s j) := by
  have hne : memB s ≠ [] := fun e => h0 (set_ext hs (by decide) fun i hi => by
    cases h : s.testBit i
    · simp
    · have := (memB_mem hs).2 h; rw [e] at this; cases this)
  obtain ⟨j, l, hl⟩ := List.exists_cons_of_ne_nil hne
  have hst : (memB s).Pairwise (· < ·) := List.Pairwise.filter _ List.pairwise_lt_range
  have hj : s.testBit j = true := (memB_mem hs).1 (by rw [hl]; exact List.mem_cons_self)
  rw [hl] at hst
  obtain ⟨h1, h2⟩ := List.pairwise_cons.1 hst
  refine ⟨j, lt_bit hs hj, hj, fun i hi => ?_, ?_⟩
  · cases h : s.testBit i
    · rfl
    · have := (memB_mem hs).2 h
      rw [hl] at this
      rcases List.mem_cons.1 this with e | e
      · omega
      · have := h1 i e; omega
  · rw [hl]
    congr 1
    have hs2 := sub_lt hs j
    refine strict_ext2 h2 (List.Pairwise.filter _ List.pairwise_lt_range) fun x => ?_
    rw [memB_mem hs2, bit_sub hs, Bool.and_eq_true, decide_eq_true_eq]
    constructor
    · intro hx
      exact ⟨(memB_mem hs).1 (by rw [hl]; exact List.mem_cons_of_mem _ hx), fun e => by have := h1 x hx; omega⟩
    · rintro ⟨hx, hne⟩
      have := (memB_mem hs).2 hx
      rw [hl] at this
      rcases List.mem_cons.1 this with e | e
      · exact absurd e hne
      · exact e
end Go.Proofs.YtnkoncplfedffaaDoor

namespace Go.Proofs
open Go.Shelf
def Tryd.laysTz_ren : Go.Shelf.Ren := ⟨fun | 29 => 118 | n => n, fun | 0 => 0 | 3 => 3 | 4 => 4 | 5 => 5 | 22 => 123 | 25 => 57 | 54 => 132 | n => n, fun | 1 => 1 | n => n⟩
theorem Tryd.laysTz : Go.Proofs.Lays7.n29 Tryd.prog Tryd.laysTz_ren := {
  mixed := by kernel_rfl
  f29 := Tryd.func118.trans (congrArg some (by kernel_rfl))
  t0 := Tryd.underlying0
  a0 := Tryd.isAgg0
  z0 := Tryd.sizeOf0
  v0 := Tryd.zeroValue0
  i0 := by kernel_rfl
  t3 := Tryd.underlying3
  a3 := Tryd.isAgg3
  z3 := Tryd.sizeOf3
  v3 := Tryd.zeroValue3
  i3 := by kernel_rfl
  t4 := Tryd.underlying4
  a4 := Tryd.isAgg4
  z4 := Tryd.sizeOf4
  v4 := Tryd.zeroValue4
  i4 := by kernel_rfl
  t5 := Tryd.underlying5
  a5 := Tryd.isAgg5
  z5 := Tryd.sizeOf5
  v5 := Tryd.zeroValue5
  i5 := by kernel_rfl
  t22 := Tryd.underlying123
  a22 := Tryd.isAgg123
  z22 := Tryd.sizeOf123
  v22 := Tryd.zeroValue123
  i22 := by kernel_rfl
  t25 := Tryd.underlying57
  a25 := Tryd.isAgg57
  z25 := Tryd.sizeOf57
  v25 := Tryd.zeroValue57
  i25 := by kernel_rfl
  t54 := Tryd.underlying132
  a54 := Tryd.isAgg132
  z54 := Tryd.sizeOf132
  g1 := by kernel_rfl }
end Go.Proofs
namespace Go.Proofs.YtnkoncplfedffaaDoor
open Go.RowKit
/-- The library's table of places, as the row lists it. -/
def TzTab (w : World) : Prop := ∃ (cs : Array Value) (t : TypeId) (fr : Nat × Nat), w.heap[1]? = some (.cells cs t fr) ∧ ∀ j, j < 64 → cs[j]? = some (.int .u8 (Lib.deBruijn64tab.getD j 0))
theorem TzTab.below {w w' : World} (h : TzTab w) (hb : Below w.heap.size w w') : TzTab w' := by
  obtain ⟨cs, t, fr, h1, h2⟩ := h
  exact ⟨cs, t, fr, (hb.block _ (Array.getElem?_eq_some_iff.1 h1).1).trans h1, h2⟩
theorem TzTab.drewN {w : World} (h : TzTab w) (n : Nat) : TzTab (w.drewN n) := h
theorem TzTab.drew {w : World} (h : TzTab w) : TzTab w.drew := h
theorem TzTab.at_ {w : World} (h : TzTab w) : TabAt 1 Lib.deBruijn64tab w := by
  obtain ⟨cs, t, fr, h1, h2⟩ := h
  intro j hj
  have hl : Lib.deBruijn64tab.length = 64 := by decide
  have := h2 j (by omega)
  simp only [World.cell?, h1]
  exact this
theorem tabIs_laidV {P : Program} {W : World} {name : String} {k : IntKind} {zs : List Int} {g : Nat} {t e : TypeId} {n : Nat}
    (hg : P.globalNamed name = some g) (hty : (P.globals[g]?).map (·.type) = some t) (ht : P.underlying t = some (.array n e)) (he : P.underlying e = some (.int k)) (hce : P.cellsOf e = 1) (hct : P.cellsOf t = n) :
    ∀ (i : Nat) (laid : List (String × DataW Unit)) (ps : List MemPlace), DataW.LaidVars P W laid ps → laid[i]? = some (name, Lib.tabData k zs) → Lib.TabIs P W name k zs
  | _, [], _, _, h => by simp at h
  | 0, x :: rest, ps, hL, h => by
    obtain rfl : x = (name, Lib.tabData k zs) := by simpa using h
    obtain ⟨g', t', cs, fuel, p, q, hg', ht', hvar, hd, _, _⟩ := hL
    obtain rfl := Option.some.inj (hg.symm.trans hg')
    obtain rfl := Option.some.inj (hty.symm.trans ht')
    unfold Lib.TabIs
    rw [hvar, ← Lib.cells_of_tab ht he hce hct hd]
  | i + 1, x :: rest, ps, hL, h => by
    obtain ⟨g', t', cs, fuel, p, q, hg', ht', hvar, hd, hr, _⟩ := hL
    exact tabIs_laidV hg hty ht he hce hct i rest q hr (by simpa using h)
theorem tzTab_laid {W : World} {laid : List (String × DataW Unit)} (i : Nat) (h : laidMet Tryd.prog laid W) (hi : laid[i]? = some ("math/bits.deBruijn64tab", Lib.tabData .u8 (Lib.deBruijn64tab.map Int.ofNat))) : TzTab W := by
  obtain ⟨ps, hL, _⟩ := h
  have hv := tabIs_laidV (g := 1) (t := 132) (e := 5) (n := 64) (by kernel_rfl) (by kernel_rfl) Tryd.underlying132 Tryd.underlying5 (by kernel_rfl) (by kernel_rfl) i laid ps hL hi
  unfold Lib.TabIs World.var? at hv
  rw [show (Tryd.prog).globalNamed "math/bits.deBruijn64tab" = some 1 by kernel_rfl, Option.bind_some] at hv
  cases hh : W.heap[1]? with
  | none => rw [hh] at hv; cases hv
  | some o =>
    cases o with
    | cells cs t fr =>
      rw [hh] at hv
      injection hv with hv
      refine ⟨cs, t, fr, hh, fun j hj => ?_⟩
      have hl : Lib.deBruijn64tab.length = 64 := by decide
      have hj' : j < Lib.deBruijn64tab.length := by omega
      rw [hv]
      simp [List.getD, hj']
    | _ => rw [hh] at hv; cases hv
/-- The least job of a set. -/
def ctzB (s : Nat) : Nat := Lib.ctz 64 s
theorem ctz_facts : ∀ s, s < 256 → s ≠ 0 → ctzB s < 8 ∧ s.testBit (ctzB s) = true ∧ memB s = ctzB s :: memB (subB s (ctzB s)) ∧ subB s (ctzB s) < s := by decide +kernel
theorem tz64_any (s : Nat) (hs : s < 256) (w : World) (hT : TzTab w) :
    Calls Tryd.prog 118 #[.int .u64 (s : Int)] w fun e w' => e = .returned (.int .i64 (ctzB s : Int)) ∧ w = w' :=
  (Any7.bits_TrailingZeros64 Tryd.laysTz s (by omega) w (fun _ => hT.at_)).mono fun _ _ h => ⟨h.1, h.2.symm⟩
theorem tz_any (s : Nat) (hs : s < 256) (w : World) (hT : TzTab w) :
    Calls Tryd.prog 101 #[.int .u64 (s : Int)] w fun e w' => e = .returned (.int .i64 (ctzB s : Int)) ∧ w = w' := by
  have H := Lib.hid (tz64_any s hs w hT)
  go_enter Tryd.func101, Tryd.ntmps101
  go_wp2_with fail
  refine H.out.mono ?_
  rintro e _ ⟨rfl, rfl⟩
  go_wp2
  go_ret
  exact ⟨rfl, rfl⟩
theorem least_any (s : Nat) (hs : s < 256) (w : World) (hT : TzTab w) :
    Calls Tryd.prog 81 #[.int .u64 (s : Int)] w fun e w' => e = .returned (.int .i64 (ctzB s : Int)) ∧ w = w' := by
  have H := Lib.hid (tz_any s hs w hT)
  go_enter Tryd.func81, Tryd.ntmps81
  go_wp2_with fail
  refine H.out.mono ?_
  rintro e _ ⟨rfl, rfl⟩
  go_wp2
  go_ret
  exact ⟨rfl, rfl⟩
end Go.Proofs.YtnkoncplfedffaaDoor

namespace Go.Proofs.YtnkoncplfedffaaDoor
open Go.RowKit Go.Shelf
attribute [local go_sem] Oper.semAt_some
theorem andNot_facts : ∀ s : Nat, s < 256 → ∀ j : Nat, j < 8 → bits BinOp.andNot IntKind.u64 (s : Int) (IntKind.u64.wrap (2 ^ j)) = (subB s j : Int) := by decide +kernel
theorem or_facts : ∀ s : Nat, s < 256 → ∀ j : Nat, j < 8 → bits BinOp.or IntKind.u64 (s : Int) (IntKind.u64.wrap (2 ^ j)) = (addB s j : Int) := by decide +kernel
theorem has_facts : ∀ s : Nat, s < 256 → ∀ j : Nat, j < 8 → (bits BinOp.and IntKind.u64 ((s : Int) / 2 ^ j) 1 == 1) = s.testBit j := by decide +kernel
theorem all_facts : ∀ n : Nat, n < 9 → IntKind.u64.wrap (IntKind.u64.wrap (2 ^ n) - 1) = ((2 ^ n - 1 : Nat) : Int) := by decide +kernel
theorem without_any (s j : Nat) (hs : s < 256) (hj : j < 8) (w : World) :
    Calls Tryd.prog 80 #[.int .u64 (s : Int), .int .i64 (j : Int)] w fun e w' => e = .returned (.int .u64 (subB s j : Int)) ∧ w = w' := by
  go_enter Tryd.func80, Tryd.ntmps80
  go_wp2
  go_ret
  exact ⟨by rw [← andNot_facts s hs j hj]; rfl, rfl⟩
theorem with_any (s j : Nat) (hs : s < 256) (hj : j < 8) (w : World) :
    Calls Tryd.prog 72 #[.int .u64 (s : Int), .int .i64 (j : Int)] w fun e w' => e = .returned (.int .u64 (addB s j : Int)) ∧ w = w' := by
  go_enter Tryd.func72, Tryd.ntmps72
  go_wp2
  go_ret
  exact ⟨by rw [← or_facts s hs j hj]; rfl, rfl⟩
theorem has_any (s j : Nat) (hs : s < 256) (hj : j < 8) (w : World) :
    Calls Tryd.prog 74 #[.int .u64 (s : Int), .int .i64 (j : Int)] w fun e w' => e = .returned (.bool (s.testBit j)) ∧ w = w' := by
  go_enter Tryd.func74, Tryd.ntmps74
  go_wp2
  go_ret
  exact ⟨by rw [← has_facts s hs j hj]; rfl, rfl⟩
theorem allJobs_any (n : Nat) (hn : n ≤ 8) (w : World) :
    Calls Tryd.prog 57 #[.int .i64 (n : Int)] w fun e w' => e = .returned (.int .u64 ((2 ^ n - 1 : Nat) : Int)) ∧ w = w' := by
  go_enter Tryd.func57, Tryd.ntmps57
  go_wp2
  go_ret
  exact ⟨by rw [← all_facts n (by omega)]; rfl, rfl⟩
/-- A job of a set. -/
abbrev Mb (s : Nat) : Type := { k : Nat // s.testBit k = true }
def encM (s : Nat) (x : Mb s) : Array Value := #[.int .i64 (x.1 : Int)]
def vals {s : Nat} (l : List (Mb s)) : List Nat := l.map (·.1)
theorem vals_snoc {s : Nat} (l : List (Mb s)) (x : Mb s) : vals (l ++ [x]) = vals l ++ [x.1] := by unfold vals; simp
theorem vals_len {s : Nat} (l : List (Mb s)) : (vals l).length = l.length := by unfold vals; simp
theorem memB_len (s : Nat) : (memB s).length ≤ 8 := by
  have := List.length_filter_le (fun i => s.testBit i) (List.range 8)
  unfold memB
  simpa using this
/-- What a round keeps for the iterator: the library's table. -/
def KeepsTz (W W' : World) : Prop := TzTab W → TzTab W'
theorem KeepsTz.put {W : World} {l : Nat} {o o' : Obj} (h : W.heap[l]? = some o) (hc : o.isCells = false) : KeepsTz W (W.putObj l o') := by
  rintro ⟨cs, t, fr, h1, h2⟩
  refine ⟨cs, t, fr, ?_, h2⟩
  have hne : 1 ≠ l := fun e => by
    subst e
    rw [h] at h1
    injection h1 with h1
    rw [h1] at hc
    cases hc
  exact (World.putObj_heap_other hne).trans h1
set_option maxRecDepth 100000 in
set_option maxHeartbeats 2000000 in
theorem members1_in (n : Nat) (hn : 1 ≤ n) (l Bs s : Nat) (hs : s < 256) (J Jx : List (Mb s) → World → Prop)
    (hY : ∀ pre x W, J pre W → pre.length < (memB s).length → YieldAt Fence.wide (n - 1) Tryd.prog l (encM s x) W fun e W' =>
      (e = .returned (.bool true) ∧ J (pre ++ [x]) W' ∧ KeepsTz W W') ∨ (e = .returned (.bool false) ∧ Jx (pre ++ [x]) W'))
    (W : World) (hBs : Boxed W Bs 58 (.int .u64 (s : Int))) (hT : TzTab W) (h0 : J [] W) :
    CallsIn Fence.wide n Tryd.prog 79 #[.func (.yield l) #[] #[], .pointer (some ⟨Bs, 0, none⟩)] W fun e W' => (∃ v, e = .returned v) ∧
      ((∃ ys, vals ys = memB s ∧ J ys W') ∨ (∃ pre, vals pre <+: memB s ∧ Jx pre W')) := by
  refine callsIn_of_wp Tryd.func79 rfl trivial ?_ rfl
  simp only [Tryd.ntmps79, List.size_toArray, List.length_cons, List.length_nil, Nat.reduceAdd, Nat.reduceSub, Array.replicate_succ, Array.replicate_zero, List.push_toArray, List.append_toArray, List.nil_append, List.cons_append]
  have cs := hBs.cell
  gi_wp2
  gi_loopw [3] (fun p wr => ∃ (pre : List (Mb s)) (r : Nat), p = .int .u64 (r : Int) ∧ r < 256 ∧ Hid (vals pre ++ memB r = memB s) ∧ J pre wr ∧ TzTab wr)
    (fun p _ => (intOf p).toNat)
  case atStart => exact ⟨[], s, rfl, hs, rfl, h0, hT⟩
  case round =>
    obtain ⟨pre, r, rfl, hr, hS, hJ, hT'⟩ := hrel
    by_cases hr0 : r = 0
    · have HE : Hid (vals pre = memB s) := by show _ = _; rw [← hS.out, hr0, memB_zero, List.append_nil]
      have e0 : ((r : Int) != 0) = false := by rw [hr0]; rfl
      clear hr0 hY hS
      gi_wp2
      go_end0
      exact ⟨⟨_, rfl⟩, .inl ⟨pre, HE.out, hJ⟩⟩
    · obtain ⟨hj8, hjb, hml, hjl⟩ := ctz_facts r hr hr0
      have e0 : ((r : Int) != 0) = true := by simp; omega
      have hall : vals pre ++ (ctzB r :: memB (subB r (ctzB r))) = memB s := by rw [← hml]; exact hS.out
      have hbs : s.testBit (ctzB r) = true := (memB_mem hs).1 (by rw [← hall]; simp)
      obtain ⟨fn, tmps, assign, body, hy, hR⟩ := hY pre ⟨ctzB r, hbs⟩ wr hJ (by rw [← hall]; simp [vals])
      unfold encM at hy
      dsimp only at hy
      have HA : Hid (vals (pre ++ [⟨ctzB r, hbs⟩]) ++ memB (subB r (ctzB r)) = memB s) := by show _ = _; rw [vals_snoc, ← hall]; simp
      have hsb := sub_lt hr (ctzB r)
      have HL := Lib.hid (fun W' (h : TzTab W') => (callsIn_wide (n := n - 1)).2 (least_any r hr W' h))
      have HWo := Lib.hid (fun W' => (callsIn_wide (n := n - 1)).2 (without_any r (ctzB r) hr hj8 W'))
      have HT := Lib.hid hT'
      clear hr0 hY hS hml hall hjb hT hT'
      generalize ctzB r = j at *
      generalize subB r j = r2 at *
      gi_wp2_with (refine ⟨trivial, ?_⟩; gi_at_call 81; refine (HL.out _ HT.out).mono ?_; rintro e w' ⟨rfl, rfl⟩)
      refine hR.mono ?_
      rintro e W3 (⟨rfl, hJ3, hk3⟩ | ⟨rfl, hJx3⟩)
      · have HT3 := Lib.hid (hk3 HT.out)
        clear HT hk3
        gi_wp2_with (refine ⟨trivial, ?_⟩; (first | (gi_at_call 81; refine (HL.out _ HT3.out).mono ?_; rintro e w' ⟨rfl, rfl⟩) | (gi_at_call 80; refine (HWo.out _).mono ?_; rintro e w' ⟨rfl, rfl⟩)))
        go_roundw
        case rel => exact ⟨pre ++ [⟨j, hbs⟩], r2, rfl, hsb, HA, hJ3, HT3.out⟩
        case measure => simp [intOf]; omega
      · gi_wp2
        refine bodyPost_ret (results_none rfl _ _ _) rfl ?_
        exact ⟨⟨_, rfl⟩, .inr ⟨_, by rw [← HA.out]; exact List.prefix_append _ _, hJx3⟩⟩
theorem members_in (n : Nat) (s : Int) (w : World) :
    CallsIn Fence.wide n Tryd.prog 56 #[.int .u64 s] w fun e w' => e = .returned (.func (.func 79) #[] #[.pointer (some ⟨w.heap.size, 0, none⟩)]) ∧ w' = w.alloc (.cells #[.int .u64 s] 58) := by
  refine callsIn_of_wp Tryd.func56 rfl trivial ?_ rfl
  simp only [Tryd.ntmps56, List.size_toArray, List.length_cons, List.length_nil, Nat.reduceAdd, Nat.reduceSub, Array.replicate_succ, Array.replicate_zero, List.push_toArray, List.append_toArray, List.nil_append, List.cons_append]
  gi_wp2
  go_ret
  exact ⟨rfl, rfl⟩
theorem members_stops (n : Nat) (hn : 1 ≤ n) (Bs s : Nat) (hs : s < 256) (w : World) (hl : Bs < w.heap.size) (hBs : Boxed w Bs 58 (.int .u64 (s : Int))) (hT : TzTab w) :
    SeqStopsK Fence.wide n Tryd.prog 79 #[.pointer (some ⟨Bs, 0, none⟩)] (encM s) KeepsTz (fun ys => vals ys = memB s) (fun pre => vals pre <+: memB s) (memB s).length w := fun l J Jx W hW _ _ hY h0 =>
  members1_in n hn l Bs s hs J Jx hY W ((hW.block Bs hl).trans hBs) (hT.below hW) h0
theorem all_any (A : Option Addr) (n c : Nat) (hn : n ≤ 8) (w : World) :
    Calls Tryd.prog 37 #[.slice A n c] w fun e w' => e = .returned (.int .u64 ((2 ^ n - 1 : Nat) : Int)) ∧ w = w' := by
  have H := Lib.hid (allJobs_any n hn w)
  go_enter Tryd.func37, Tryd.ntmps37
  go_wp2_with fail
  refine H.out.mono ?_
  rintro e _ ⟨rfl, rfl⟩
  go_wp2
  go_ret
  exact ⟨rfl, rfl⟩
end Go.Proofs.YtnkoncplfedffaaDoor
