/- Texts joined: Ord SchedE Plain Pln Ends EndsO TlS Tkn TkS LsS Wlo ClI RegZ TlI TlO Exp RetBB Ise LsI RegA RegP SwapB SwapS Swap. -/
import Derived.Test.YtejgpecmjfgfbaaDoorMapW
import Derived.Test.YtejgpecmjfgfbaaDoorGood
import Derived.Test.YtejgpecmjfgfbaaDoorSegH
import Derived.Test.YtejgpecmjfgfbaaDoorIdleP
import Derived.StillTailTactics
import Derived.Test.YtejgpecmjfgfbaaDoorRulP
import Derived.Deep.QuietTactic
import Derived.BigQuiet
import Derived.Test.YtejgpecmjfgfbaaDoorClS
import Derived.Test.YtejgpecmjfgfbaaDoorTlP
import Derived.Test.YtejgpecmjfgfbaaDoorSpP
import Derived.Test.YtejgpecmjfgfbaaDoorTkP
import Derived.Test.YtejgpecmjfgfbaaDoorLsP
import Derived.Test.YtejgpecmjfgfbaaDoorBlo
import Derived.Test.YtejgpecmjfgfbaaDoorPra
import Derived.Test.YtejgpecmjfgfbaaDoorRegX
import Derived.RangeFuncCalls
import Derived.Shelf.RegionOpen
import Derived.Test.YtejgpecmjfgfbaaDoorGroP
import Derived.WalkKit
import Derived.Test.YtejgpecmjfgfbaaDoorMem
import Derived.Test.YtejgpecmjfgfbaaDoorRegY
import Derived.Test.YtejgpecmjfgfbaaDoorAppW
import Derived.Laws.Cover3
import Derived.RegionTactic
import Derived.BigRegion
set_option linter.unusedSimpArgs false
set_option linter.unusedVariables false
namespace Go.Proofs.YtejgpecmjfgfbaaDoor
open Go.RowKit

def hasI (xs : List Int) (x : Int) : Bool := decide (x ∈ xs)
theorem hasI_yes {xs : List Int} {x : Int} (h : x ∈ xs) : hasI xs x = true := decide_eq_true h
theorem hasI_no {xs : List Int} {x : Int} (h : x ∉ xs) : hasI xs x = false := decide_eq_false h
theorem hasI_out {xs : List Int} {x : Int} (h : hasI xs x = true) : x ∈ xs := of_decide_eq_true h
theorem hasI_not {xs : List Int} {x : Int} (h : hasI xs x = false) : x ∉ xs := of_decide_eq_false h
theorem notTo_step {xs : List Int} {x : Int} {k : Nat} (h : ∀ i (hi : i < xs.length), i < k → xs[i] ≠ x) (hk : k < xs.length) (ho : xs[k] ≠ x) : ∀ i (hi : i < xs.length), i < k + 1 → xs[i] ≠ x := by
  intro i hi hik
  by_cases e : i = k
  · subst e; exact ho
  · exact h i hi (by omega)
theorem notTo_all {xs : List Int} {x : Int} (h : ∀ i (hi : i < xs.length), i < xs.length → xs[i] ≠ x) : x ∉ xs := by
  intro hx
  obtain ⟨i, hi, rfl⟩ := List.mem_iff_getElem.1 hx
  exact h i hi hi rfl
theorem l1Has_any (A : Option Addr) (c : Nat) (xs : List Int) (x : Int) (w : World) (hr : Row w A (ic xs)) (hn : xs.length ≤ 100000000) :
    Calls Tryd.prog 109 #[.slice A xs.length c, .int .i64 x] w fun e w' => e = .returned (.bool (hasI xs x)) ∧ w = w' := by
  go_enter Tryd.func109, Tryd.ntmps109
  go_wp2
  go_loop [5] (fun i => ∃ k : Nat, k ≤ xs.length ∧ i = .int .i64 k ∧ Hid (∀ i (hi : i < xs.length), i < k → xs[i] ≠ x)) (fun i => xs.length - (intOf i).toNat)
  case atStart => exact ⟨0, Nat.zero_le _, rfl, fun _ _ h => absurd h (by omega)⟩
  case round =>
    obtain ⟨k, hk, rfl, hA⟩ := hrel
    by_cases hlt : k < xs.length
    · obtain ⟨a, hA', hc⟩ := hr.int hlt
      subst hA'
      have hi : (0 : Int) ≤ k := by omega
      have hi' : (k : Int) < xs.length := by omega
      by_cases hx : xs[k] = x
      · have HG := Lib.hid (hasI_yes (hx ▸ List.getElem_mem hlt))
        rw [hx] at hc
        clear hr hA hx
        go_wp2
        go_ret
        exact ⟨by rw [HG.out]; rfl, rfl⟩
      · have HA := Lib.hid (notTo_step hA.out hlt hx)
        have hne : ((xs[k] : Int) == x) = false := by simpa using hx
        clear hr hA
        generalize xs[k] = y at *
        go_wp2
        go_round
        case rel => exact ⟨k + 1, by omega, by go_num, HA.out⟩
        case measure => simp [intOf]; omega
    · obtain rfl : k = xs.length := by omega
      have HG := Lib.hid (hasI_no (notTo_all hA.out))
      clear hA
      go_wp2
      go_ret
      exact ⟨by rw [HG.out]; rfl, rfl⟩

theorem inAll_step {o : List Int} {k : Nat} (h : ∀ i : Nat, i < k → (i : Int) ∈ o) (hk : (k : Int) ∈ o) : ∀ i : Nat, i < k + 1 → (i : Int) ∈ o := by
  intro i hi
  by_cases e : i = k
  · subst e; exact hk
  · exact h i (by omega)
theorem l2Order_any (n : Int) (A : Option Addr) (c : Nat) (o : List Int) (w : World) (hr : Row w A (ic o)) (hn : o.length ≤ 100000000) :
    Calls Tryd.prog 74 #[.int .i64 n, .slice A o.length c] w fun e w' => e = .returned (.bool (ordB n o)) ∧ w = w' := by
  by_cases h8 : 0 ≤ n ∧ n ≤ 8
  · have hin := inB_yes h8.1 h8.2
    obtain ⟨m, rfl⟩ : ∃ m : Nat, n = (m : Int) := ⟨n.toNat, by omega⟩
    have hm : m ≤ 8 := by omega
    by_cases hl : o.length = m
    · go_enter Tryd.func74, Tryd.ntmps74
      go_wp2_with fail
      refine (l1In_any _ _ _ _).mono ?_
      rintro e w1 ⟨rfl, rfl⟩
      rw [hin]
      subst hl
      go_wp2_with fail
      go_loop [5] (fun i => ∃ k : Nat, k ≤ o.length ∧ i = .int .i64 k ∧ Hid (∀ i : Nat, i < k → (i : Int) ∈ o)) (fun i => o.length - (intOf i).toNat)
      case atStart => exact ⟨0, Nat.zero_le _, rfl, fun _ h => absurd h (by omega)⟩
      case round =>
        obtain ⟨k, hk, rfl, hA⟩ := hrel
        have HR := Lib.hid hr
        clear hr
        by_cases hlt : k < o.length
        · have hi' : (k : Int) < o.length := by omega
          cases hx : hasI o k
          · have HG := Lib.hid (ord_not (n := (o.length : Int)) (o := o) (fun h => hasI_not hx (h.2.2.2 k (by simpa using hlt))))
            clear hA hin
            go_wp2_with fail
            refine (l1Has_any _ _ o _ _ HR.out hn).mono ?_
            rintro e w1 ⟨rfl, rfl⟩
            rw [hx]
            go_wp2
            go_ret
            exact ⟨by rw [HG.out]; rfl, rfl⟩
          · have HA := Lib.hid (inAll_step hA.out (hasI_out hx))
            clear hA hin
            go_wp2_with fail
            refine (l1Has_any _ _ o _ _ HR.out hn).mono ?_
            rintro e w1 ⟨rfl, rfl⟩
            rw [hx]
            go_wp2
            go_round
            case rel => exact ⟨k + 1, by omega, by go_num, HA.out⟩
            case measure => simp [intOf]; omega
        · obtain rfl : k = o.length := by omega
          have HG := Lib.hid (ord_mk (n := (o.length : Int)) (o := o) ⟨by omega, by omega, rfl, fun i hi => hA.out i (by simpa using hi)⟩)
          clear hA hin
          go_wp2
          go_ret
          exact ⟨by rw [HG.out]; rfl, rfl⟩
    · have HG := Lib.hid (ord_not (n := (m : Int)) (o := o) (fun h => hl (by omega)))
      have hne : (((o.length : Nat) : Int) != (m : Int)) = true := by simp; omega
      go_enter Tryd.func74, Tryd.ntmps74
      go_wp2_with fail
      refine (l1In_any _ _ _ _).mono ?_
      rintro e w1 ⟨rfl, rfl⟩
      rw [hin]
      go_wp2
      go_ret
      exact ⟨by rw [HG.out]; rfl, rfl⟩
  · have hin := inB_no (x := n) (a := 0) (b := 8) h8
    have HG := Lib.hid (ord_not (n := n) (o := o) (fun h => h8 ⟨h.1, h.2.1⟩))
    go_enter Tryd.func74, Tryd.ntmps74
    go_wp2_with fail
    refine (l1In_any _ _ _ _).mono ?_
    rintro e w1 ⟨rfl, rfl⟩
    rw [hin]
    go_wp2
    go_ret
    exact ⟨by rw [HG.out]; rfl, rfl⟩

/-- What the program has seen: the numbers so far. -/
def seenM (xs : List Int) : List (Int × Value) := xs.map fun x => (x, .bool true)
theorem seen_in : ∀ {xs : List Int} {x : Int}, x ∈ xs → getM (seenM xs) x = some (.bool true)
  | y :: xs, x, h => by
    show (if y = x then _ else _) = _
    by_cases e : y = x
    · rw [if_pos e]
    · rw [if_neg e]
      rcases List.mem_cons.1 h with h | h
      · exact absurd h.symm e
      · exact seen_in h
theorem seen_out : ∀ {xs : List Int} {x : Int}, x ∉ xs → getM (seenM xs) x = none
  | [], _, _ => rfl
  | y :: xs, x, h => by
    show (if y = x then _ else _) = _
    rw [if_neg (fun e => h (by rw [e]; exact List.mem_cons_self))]
    exact seen_out (fun e => h (List.mem_cons_of_mem _ e))
theorem zeroB (w : World) : (zeroValue 4).run Tryd.prog w = .ok (.bool false) w := by kernel_rfl
def goodTo (o : List Int) (k : Nat) : Prop := (∀ x ∈ o.take k, 0 ≤ x ∧ x < o.length) ∧ (o.take k).Nodup
theorem goodTo_step {o : List Int} {k : Nat} (h : goodTo o k) (hk : k < o.length) (h0 : 0 ≤ o[k]) (h1 : o[k] < o.length) (hn : o[k] ∉ o.take k) : goodTo o (k + 1) := by
  unfold goodTo
  rw [List.take_succ_eq_append_getElem hk]
  refine ⟨fun x hx => ?_, ?_⟩
  · rcases List.mem_append.1 hx with h' | h'
    · exact h.1 x h'
    · rw [List.mem_singleton.1 h']; exact ⟨h0, h1⟩
  · rw [List.nodup_append]
    refine ⟨h.2, by simp, ?_⟩
    intro a ha b hb e
    rw [List.mem_singleton.1 hb] at e
    exact hn (e ▸ ha)
theorem seen_snoc {o : List Int} {k : Nat} (hk : k < o.length) : seenM (o.take k) ++ [(o[k], .bool true)] = seenM (o.take (k + 1)) := by
  unfold seenM; rw [List.take_succ_eq_append_getElem hk, List.map_append]; rfl
theorem ord_dup {o : List Int} {k : Nat} (hk : k < o.length) (hx : o[k] ∈ o.take k) : ordB (o.length : Int) o = false := by
  cases h : ordB (o.length : Int) o
  · rfl
  · obtain ⟨_, hn⟩ := ord_range h
    rw [← List.take_append_drop k o, List.nodup_append] at hn
    exact absurd rfl (hn.2.2 _ hx _ (List.mem_drop_iff_getElem.2 ⟨0, by simpa using hk, by simp⟩))
theorem ord_out_of {o : List Int} {k : Nat} (hk : k < o.length) (hx : ¬ (0 ≤ o[k] ∧ o[k] < o.length)) : ordB (o.length : Int) o = false := by
  cases h : ordB (o.length : Int) o
  · rfl
  · exact absurd ((ord_range h).1 _ (List.getElem_mem hk)) hx
set_option maxRecDepth 100000 in
set_option maxHeartbeats 1000000 in
theorem IsOrder_any (n : Int) (A : Option Addr) (c : Nat) (o : List Int) (w : World) (hr : Row w A (ic o)) (hn : o.length ≤ 100000000) :
    Calls Tryd.prog 77 #[.int .i64 n, .slice A o.length c] w fun e w' => e = .returned (.bool (ordB n o)) ∧ Below w.heap.size w w' := by
  by_cases h8 : 0 ≤ n ∧ n ≤ 8
  · obtain ⟨h0, h8⟩ := h8
    obtain ⟨m, rfl⟩ : ∃ m : Nat, n = (m : Int) := ⟨n.toNat, by omega⟩
    have hm : m ≤ 8 := by omega
    by_cases hl : o.length = m
    · subst hl
      have hmm := run_makeMap_hint (P := Tryd.prog) Tryd.underlying148 .i64 (o.length : Int)
      go_enter Tryd.func77, Tryd.ntmps77
      go_wp2
      go_loopw [24] (fun i wr => ∃ k : Nat, k ≤ o.length ∧ i = .int .i64 k ∧ MapOf wr w.heap.size (seenM (o.take k)) ∧ Hid (goodTo o k) ∧ Below w.heap.size w wr) (fun i _ => o.length - (intOf i).toNat)
      case atStart => exact ⟨0, Nat.zero_le _, rfl, MapOf.new _, ⟨by simp, by simp⟩, (Below.refl _ _).alloc (Nat.le_refl _) _⟩
      case round =>
        obtain ⟨k, hk, rfl, hM, hG, hb⟩ := hrel
        clear hmm
        by_cases hlt : k < o.length
        · obtain ⟨a, hA', hc⟩ := (hr.below hb).int hlt
          subst hA'
          have hi : (0 : Int) ≤ k := by omega
          have hi' : (k : Int) < o.length := by omega
          by_cases hrg : 0 ≤ o[k] ∧ o[k] < o.length
          · obtain ⟨hr0, hr1⟩ := hrg
            by_cases hx : o[k] ∈ o.take k
            · have HG := Lib.hid (ord_dup hlt hx)
              have hlook := hM.look (P := Tryd.prog) Tryd.underlying148 Tryd.underlying3 o[k] (zeroB wr)
              rw [seen_in hx] at hlook
              simp only [Option.getD_some] at hlook
              clear hr hG hM hx
              generalize o[k] = y at *
              go_wp2
              go_ret
              exact ⟨by rw [HG.out]; rfl, hb⟩
            · have HG := Lib.hid (goodTo_step hG.out hlt hr0 hr1 hx)
              have hlook := hM.look (P := Tryd.prog) Tryd.underlying148 Tryd.underlying3 o[k] (zeroB wr)
              rw [seen_out hx] at hlook
              simp only [Option.getD_none] at hlook
              obtain ⟨w1, hput, hM1, hg1, hs1⟩ := hM.put (P := Tryd.prog) Tryd.underlying148 Tryd.underlying3 o[k] (.bool true) (seen_out hx)
              rw [seen_snoc hlt] at hM1
              have HM := Lib.hid hM1
              have HB := Lib.hid (hb.trans (⟨hg1.os, hg1.tape, hg1.output, hg1.size, fun j hj => hg1.block j (Nat.lt_of_lt_of_le hj hb.size) (fun e => by injection e; omega)⟩ : Below w.heap.size wr w1))
              clear hr hG hM hx hM1 hg1 hs1 hb
              generalize o[k] = y at *
              go_wp2
              go_roundw
              case rel => exact ⟨k + 1, by omega, by go_num, HM.out, HG.out, HB.out⟩
              case measure => simp [intOf]; omega
          · have HG := Lib.hid (ord_out_of hlt hrg)
            clear hr hG hM
            by_cases hr0 : 0 ≤ o[k]
            · have hr1 : ¬ o[k] < o.length := fun h => hrg ⟨hr0, h⟩
              clear hrg
              generalize o[k] = y at *
              go_wp2
              go_ret
              exact ⟨by rw [HG.out]; rfl, hb⟩
            · clear hrg
              generalize o[k] = y at *
              go_wp2
              go_ret
              exact ⟨by rw [HG.out]; rfl, hb⟩
        · obtain rfl : k = o.length := by omega
          have HG := Lib.hid (ord_prefix (n := o.length) (o := o) rfl hm (by simpa using hG.out.1) (by simpa using hG.out.2))
          clear hG hM
          go_wp2
          go_ret
          exact ⟨by rw [HG.out]; rfl, hb⟩
    · have HG := Lib.hid (ord_not (n := (m : Int)) (o := o) (fun h => hl (by omega)))
      have hne : (((o.length : Nat) : Int) != (m : Int)) = true := by simp; omega
      go_enter Tryd.func77, Tryd.ntmps77
      go_wp2
      go_ret
      exact ⟨by rw [HG.out]; rfl, Below.refl _ _⟩
  · have HG := Lib.hid (ord_not (n := n) (o := o) (fun h => h8 ⟨h.1, h.2.1⟩))
    by_cases h0 : 0 ≤ n
    · have h1 : ¬ n ≤ 8 := fun h => h8 ⟨h0, h⟩
      clear h8
      go_enter Tryd.func77, Tryd.ntmps77
      go_wp2
      go_ret
      exact ⟨by rw [HG.out]; rfl, Below.refl _ _⟩
    · clear h8
      go_enter Tryd.func77, Tryd.ntmps77
      go_wp2
      go_ret
      exact ⟨by rw [HG.out]; rfl, Below.refl _ _⟩
end Go.Proofs.YtejgpecmjfgfbaaDoor

namespace Go.Proofs.YtejgpecmjfgfbaaDoor
open Go.RowKit

def twoB (js : List J) (o : List Int) : Bool := goodL js && ordB js.length o
theorem l1Most_any (x y : Int) (w : World) :
    Calls Tryd.prog 92 #[.int .i64 x, .int .i64 y] w fun e w' => e = .returned (.int .i64 (max x y)) ∧ w' = w := by
  by_cases h : y < x
  · go_enter Tryd.func92, Tryd.ntmps92
    go_wp2
    go_ret
    exact ⟨by rw [show max x y = x by omega]; rfl, rfl⟩
  · go_enter Tryd.func92, Tryd.ntmps92
    go_wp2
    go_ret
    exact ⟨by rw [show max x y = y by omega]; rfl, rfl⟩
end Go.Proofs.YtejgpecmjfgfbaaDoor

namespace Go.Proofs.YtejgpecmjfgfbaaDoor
open Go.RowKit
theorem plain_bad {js : List J} {j : J} (hj : j ∈ js) (h : j.r ≠ 0) : plain0 js = false := by
  unfold plain0; rw [List.all_eq_false]; exact ⟨j, hj, by simpa using h⟩
theorem plain_step {js : List J} {k : Nat} (h : ∀ i (hi : i < js.length), i < k → js[i].r = 0) (hk : k < js.length) (ho : js[k].r = 0) : ∀ i (hi : i < js.length), i < k + 1 → js[i].r = 0 := by
  intro i hi hik
  by_cases e : i = k
  · subst e; exact ho
  · exact h i hi (by omega)
theorem plain_all {js : List J} (h : ∀ i (hi : i < js.length), i < js.length → js[i].r = 0) : plain0 js = true := by
  unfold plain0; rw [List.all_eq_true]
  intro j hj
  obtain ⟨i, hi, rfl⟩ := List.mem_iff_getElem.1 hj
  exact decide_eq_true (h i hi hi)
theorem l3Plain_any (A : Option Addr) (c : Nat) (js : List J) (w : World) (hr : Row w A (jc js)) (hn : js.length ≤ 100000000) :
    Calls Tryd.prog 83 #[.slice A js.length c] w fun e w' => e = .returned (.bool (plain0 js)) ∧ Below w.heap.size w w' := by
  go_enter Tryd.func83, Tryd.ntmps83
  go_wp2
  go_loopw [3] (fun i wr => ∃ k : Nat, k ≤ js.length ∧ i = .int .i64 k ∧ Hid (∀ i (hi : i < js.length), i < k → js[i].r = 0) ∧ Below w.heap.size w wr) (fun i _ => js.length - (intOf i).toNat)
  case atStart => exact ⟨0, Nat.zero_le _, rfl, fun _ _ h => absurd h (by omega), Below.refl _ _⟩
  case round =>
    obtain ⟨k, hk, rfl, hA, hb⟩ := hrel
    by_cases hlt : k < js.length
    · obtain ⟨a, hA', _, hc0, hc1, hc2, hc3⟩ := (hr.below hb).job hlt
      subst hA'
      have HB := Lib.hid hb
      have hi : (0 : Int) ≤ k := by omega
      have hi' : (k : Int) < js.length := by omega
      by_cases ho : js[k].r = 0
      · have HA := Lib.hid (plain_step hA.out hlt ho)
        have e0 : (js[k].r != 0) = false := by rw [ho]; rfl
        clear hr hb hA ho
        generalize js[k] = j at *
        go_wp2
        go_roundw
        case rel => exact ⟨k + 1, by omega, by go_num, HA.out, HB.out⟩
        case measure => simp [intOf]; omega
      · have HG := Lib.hid (plain_bad (List.getElem_mem hlt) ho)
        have e0 : (js[k].r != 0) = true := by simpa using ho
        clear hr hb hA ho
        generalize js[k] = j at *
        go_wp2
        go_ret
        exact ⟨by rw [HG.out]; rfl, HB.out⟩
    · obtain rfl : k = js.length := by omega
      have HG := Lib.hid (plain_all hA.out)
      clear hA
      go_wp2
      go_ret
      exact ⟨by rw [HG.out]; rfl, hb⟩
theorem posRel_any (j : J) (w : World) :
    Calls Tryd.prog 145 #[.agg #[.int .i64 j.t, .int .i64 j.w, .int .i64 j.r, .int .i64 j.d]] w fun e w' => e = .returned (.bool (decide (0 < j.r))) ∧ Below w.heap.size w w' := by
  go_enter Tryd.func145, Tryd.ntmps145
  go_wp2
  go_ret
  exact ⟨rfl, (Below.refl _ _).alloc (Nat.le_refl _) _⟩
def lowR (js : List J) : Bool := js.all fun j => decide (j.r ≤ 0)
theorem low_bad {js : List J} {j : J} (hj : j ∈ js) (h : ¬ j.r ≤ 0) : lowR js = false := by
  unfold lowR; rw [List.all_eq_false]; exact ⟨j, hj, by simpa using h⟩
theorem lowR_step {js : List J} {k : Nat} (h : ∀ i (hi : i < js.length), i < k → js[i].r ≤ 0) (hk : k < js.length) (ho : js[k].r ≤ 0) : ∀ i (hi : i < js.length), i < k + 1 → js[i].r ≤ 0 := by
  intro i hi hik
  by_cases e : i = k
  · subst e; exact ho
  · exact h i hi (by omega)
theorem low_all {js : List J} (h : ∀ i (hi : i < js.length), i < js.length → js[i].r ≤ 0) : lowR js = true := by
  unfold lowR; rw [List.all_eq_true]
  intro j hj
  obtain ⟨i, hi, rfl⟩ := List.mem_iff_getElem.1 hj
  exact decide_eq_true (h i hi hi)
theorem low_plain {js : List J} (hg : goodL js = true) : lowR js = plain0 js := by
  obtain ⟨_, hok⟩ := good_out hg
  unfold lowR plain0
  rw [Bool.eq_iff_iff, List.all_eq_true, List.all_eq_true]
  constructor
  · intro h j hj
    have h1 := okJ_out (hok j hj)
    have := of_decide_eq_true (h j hj)
    exact decide_eq_true (by omega)
  · intro h j hj
    have := of_decide_eq_true (h j hj)
    exact decide_eq_true (by omega)
def IdxP (js : List J) (w : World) (e : Ending) (w' : World) : Prop := ∃ r : Int, e = .returned (.int .i64 r) ∧ (0 ≤ r ↔ lowR js = false) ∧ Below w.heap.size w w'
theorem indexPos_any (A : Option Addr) (c : Nat) (js : List J) (w : World) (hr : Row w A (jc js)) (hn : js.length ≤ 100000000) :
    Calls Tryd.prog 157 #[.slice A js.length c, .func (.func 145) #[] #[]] w (IdxP js w) := by
  go_enter Tryd.func157, Tryd.ntmps157
  go_wp2
  go_loopw [8] (fun i wr => ∃ k : Nat, k ≤ js.length ∧ i = .int .i64 k ∧ Hid (∀ i (hi : i < js.length), i < k → js[i].r ≤ 0) ∧ Below w.heap.size w wr) (fun i _ => js.length - (intOf i).toNat)
  case atStart => exact ⟨0, Nat.zero_le _, rfl, fun _ _ h => absurd h (by omega), Below.refl _ _⟩
  case round =>
    obtain ⟨k, hk, rfl, hA, hb⟩ := hrel
    by_cases hlt : k < js.length
    · obtain ⟨a, hA', _, hc0, hc1, hc2, hc3⟩ := (hr.below hb).job hlt
      subst hA'
      have HB := Lib.hid hb
      have hi : (0 : Int) ≤ k := by omega
      have hi' : (k : Int) < js.length := by omega
      by_cases ho : js[k].r ≤ 0
      · have HA := Lib.hid (lowR_step hA.out hlt ho)
        have ho' : decide (0 < js[k].r) = false := decide_eq_false (by omega)
        clear hr hb hA
        generalize js[k] = j at *
        go_wp2_with fail
        refine (posRel_any j _).mono ?_
        rintro e w1 ⟨rfl, hb1⟩
        rw [ho']
        go_wp2
        go_roundw
        case rel => exact ⟨k + 1, by omega, by go_num, HA.out, HB.out.trans (hb1.mono HB.out.size)⟩
        case measure => simp [intOf]; omega
      · have HG := Lib.hid (low_bad (List.getElem_mem hlt) ho)
        have ho' : decide (0 < js[k].r) = true := decide_eq_true (by omega)
        clear hr hb hA
        generalize js[k] = j at *
        go_wp2_with fail
        refine (posRel_any j _).mono ?_
        rintro e w1 ⟨rfl, hb1⟩
        rw [ho']
        go_wp2
        go_ret
        exact ⟨k, rfl, ⟨fun _ => HG.out, fun _ => by omega⟩, HB.out.trans (hb1.mono HB.out.size)⟩
    · obtain rfl : k = js.length := by omega
      have HG := Lib.hid (low_all hA.out)
      clear hA
      go_wp2
      go_ret
      exact ⟨-1, rfl, ⟨fun h => by omega, fun h => by rw [HG.out] at h; cases h⟩, hb⟩
theorem containsPos_any (A : Option Addr) (c : Nat) (js : List J) (w : World) (hr : Row w A (jc js)) (hn : js.length ≤ 100000000) :
    Calls Tryd.prog 142 #[.slice A js.length c, .func (.func 145) #[] #[]] w fun e w' => e = .returned (.bool (!lowR js)) ∧ Below w.heap.size w w' := by
  go_enter Tryd.func142, Tryd.ntmps142
  go_wp2_with fail
  refine (indexPos_any A c js _ hr hn).mono ?_
  rintro e w1 ⟨r, rfl, hr1, hb1⟩
  by_cases h0 : 0 ≤ r
  · have H := Lib.hid (hr1.1 h0)
    clear hr1
    go_wp2
    go_ret
    exact ⟨by rw [H.out]; rfl, hb1⟩
  · have H : Hid (lowR js = true) := by
      show _ = _
      cases h : lowR js
      · exact absurd (hr1.2 h) h0
      · rfl
    clear hr1
    go_wp2
    go_ret
    exact ⟨by rw [H.out]; exact congrArg (fun b => Ending.returned (Value.bool b)) (decide_eq_false (by omega)), hb1⟩
theorem impl_IsPlain (A : Option Addr) (c : Nat) (js : List J) (w : World) (hr : Row w A (jc js)) (hn : js.length ≤ 100000000) :
    Calls Tryd.prog 122 #[.slice A js.length c] w fun e w' => e = .returned (.bool (plainL js)) ∧ Below w.heap.size w w' := by
  have HP : Hid (plainL js = (goodL js && plain0 js)) := rfl
  cases hg : goodL js
  · go_enter Tryd.func122, Tryd.ntmps122
    go_wp2_with fail
    refine (IsJobs_any A c js _ hr hn).mono ?_
    rintro e w1 ⟨rfl, hb1⟩
    rw [hg]
    go_wp2
    go_ret
    exact ⟨by rw [HP.out, hg]; rfl, hb1⟩
  · have HL := Lib.hid (low_plain hg)
    go_enter Tryd.func122, Tryd.ntmps122
    go_wp2_with fail
    refine (IsJobs_any A c js _ hr hn).mono ?_
    rintro e w1 ⟨rfl, hb1⟩
    rw [hg]
    go_wp2_with fail
    refine (containsPos_any A c js _ (hr.below hb1) hn).mono ?_
    rintro e w2 ⟨rfl, hb2⟩
    go_wp2
    go_ret
    exact ⟨by rw [HP.out, hg, ← HL.out]; simp, hb1.trans (hb2.mono hb1.size)⟩
end Go.Proofs.YtejgpecmjfgfbaaDoor

namespace Go.Proofs.YtejgpecmjfgfbaaDoor
open Go.RowKit
section
variable (A : Option Addr) (c : Nat) (js : List J) (w : World) (hr : Row w A (jc js)) (hn : js.length ≤ 100000000)
include hr hn
/-- A list that is not plain is handed on as none. -/
def PlnIs (A : Option Addr) (c : Nat) (js : List J) (w : World) (e : Ending) (w' : World) : Prop :=
  Below w.heap.size w w' ∧ ((plainL js = true ∧ e = .returned (.tuple #[.slice A js.length c, .bool true])) ∨ (plainL js = false ∧ e = .returned (.tuple #[.slice none 0 0, .bool false])))
theorem plainListOf_any : Calls Tryd.prog 98 #[.slice A js.length c] w (PlnIs A c js w) := by
  cases hp : plainL js
  · go_enter Tryd.func98, Tryd.ntmps98
    go_wp2_with fail
    refine (impl_IsPlain A c js _ hr hn).mono ?_
    rintro e w1 ⟨rfl, hb1⟩
    rw [hp]
    go_wp2
    go_ret2
    exact ⟨hb1, .inr ⟨hp, rfl⟩⟩
  · go_enter Tryd.func98, Tryd.ntmps98
    go_wp2_with fail
    refine (impl_IsPlain A c js _ hr hn).mono ?_
    rintro e w1 ⟨rfl, hb1⟩
    rw [hp]
    go_wp2
    go_ret2
    exact ⟨hb1, .inl ⟨hp, rfl⟩⟩
end
end Go.Proofs.YtejgpecmjfgfbaaDoor

namespace Go.Proofs.YtejgpecmjfgfbaaDoor
open Go.RowKit

abbrev natI (p : List Nat) : List Int := p.map Int.ofNat
theorem Row.nat {w : World} {A : Option Addr} {p : List Nat} (h : Row w A (ic (natI p))) {k : Nat} (hk : k < p.length) : ∃ ad, A = some ad ∧ w.cell? (ad.add k) = some (.int .i64 ((p[k] : Nat) : Int)) := by
  obtain ⟨ad, hA, hc⟩ := h.int (k := k) (by simpa using hk)
  exact ⟨ad, hA, by rw [hc]; simp⟩
theorem ic_set (xs : List Int) (j : Nat) (x : Int) : (ic xs).toArray.setIfInBounds j (.int .i64 x) = (ic (xs.set j x)).toArray := by
  unfold ic; simp [List.map_set]
theorem ic_made (n : Nat) : madeCells #[.int .i64 0] n = (ic (List.replicate n 0)).toArray := by
  apply Array.ext'
  apply List.ext_getElem?
  intro i
  by_cases h : i < n
  · simp [madeCells, ic, h, Nat.mod_one]
  · simp [madeCells, ic, h]
theorem BlockIs.int {w : World} {g : Nat} {t : TypeId} {xs : List Int} (h : BlockIs w g t (ic xs).toArray) {k : Nat} (hk : k < xs.length) : w.cell? ⟨g, k, none⟩ = some (.int .i64 xs[k]) := by
  rw [h.cell]; unfold ic; simp [hk]
theorem endsGo_drop (js : List J) (p : List Nat) (k : Nat) (now : Int) (xs : List Int) (h : k < p.length) :
    endsGo js (p.drop k) now xs = endsGo js (p.drop (k + 1)) (max now (js.getD p[k] j0).r + (js.getD p[k] j0).t) (xs.set p[k] (max now (js.getD p[k] j0).r + (js.getD p[k] j0).t)) := by
  rw [List.drop_eq_getElem_cons h]; rfl
theorem startsGo_drop (js : List J) (p : List Nat) (k : Nat) (now : Int) (xs : List Int) (h : k < p.length) :
    startsGo js (p.drop k) now xs = startsGo js (p.drop (k + 1)) (max now (js.getD p[k] j0).r + (js.getD p[k] j0).t) (xs.set p[k] (max now (js.getD p[k] j0).r)) := by
  rw [List.drop_eq_getElem_cons h]; rfl
theorem mix_step {α : Type} (es ss : List α) (k : Nat) (x : α) (h : es.length = ss.length) (hk : k < es.length) (hx : es[k] = x) : (es.take k ++ ss.drop k).set k x = es.take (k + 1) ++ ss.drop (k + 1) := by
  subst hx
  apply List.ext_getElem?
  intro i
  rcases Nat.lt_trichotomy i k with hi | hi | hi
  · rw [List.getElem?_set_ne (by omega), List.getElem?_append_left (by simp; omega), List.getElem?_append_left (by simp; omega), List.getElem?_take, List.getElem?_take, if_pos hi, if_pos (by omega)]
  · subst hi
    rw [List.getElem?_set_self (by simp; omega), List.getElem?_append_left (by simp; omega), List.getElem?_take, if_pos (by omega), List.getElem?_eq_getElem hk]
  · rw [List.getElem?_set_ne (by omega), List.getElem?_append_right (by simp; omega), List.getElem?_append_right (by simp; omega), List.getElem?_drop, List.getElem?_drop]
    simp only [List.length_take]
    congr 1; omega
theorem mix_len {α : Type} (es ss : List α) (k : Nat) (h : es.length = ss.length) (hk : k ≤ es.length) : (es.take k ++ ss.drop k).length = ss.length := by simp; omega
theorem mix_at {α : Type} (es ss : List α) (k : Nat) (h : es.length = ss.length) (hk : k < es.length) : (es.take k ++ ss.drop k)[k]'(by simp; omega) = ss[k] := by
  rw [List.getElem_append_right (by simp; omega)]
  simp [Nat.min_eq_left (Nat.le_of_lt hk)]

theorem seg_of_block {w : World} {g base : Nat} {t : TypeId} {xs : List Int} (h : BlockIs w g t (ic xs).toArray) (hb : base ≤ g) (hm : xs.length ≤ maxLen) : Seg w t 1 base w.heap.size (some ⟨g, 0, none⟩) xs.length xs.length (ic xs) := by
  have := h.own (base := base) (n := xs.length) (c := xs.length) (size := 1) hb (by simp [ic_len]) (Nat.le_refl _) hm (by simp [ic_len])
  rw [List.take_of_length_le (by simp [ic_len])] at this
  exact Seg.of_own this
theorem l1Most_still (x y m : Int) (h : max x y = m) (w : World) :
    Calls Tryd.prog 92 #[.int .i64 x, .int .i64 y] w fun e w' => e = .returned (.int .i64 m) ∧ w' = w := by
  subst h; exact l1Most_any x y w
theorem max_bd {x y b : Int} (hx : 0 ≤ x) (hx' : x ≤ b) (hy : y ≤ b) : 0 ≤ max x y ∧ max x y ≤ b := by omega
theorem ends_starts_at {js : List J} {p : List Nat} (hp : p.Perm (List.range js.length)) {k : Nat} (hk : k < js.length) (h1 : k < (endsL js p).length) (h2 : k < (startsL js p).length) : (endsL js p)[k] = (startsL js p)[k] + js[k].t := by
  have := end_startL js p hp k hk
  rwa [getD_at _ _ h1, getD_at _ _ h2, getD_at js j0 hk] at this
end Go.Proofs.YtejgpecmjfgfbaaDoor

namespace Go.Proofs.YtejgpecmjfgfbaaDoor
open Go.RowKit

def natsOf (o : List Int) : List Nat := o.map Int.toNat
theorem natsOf_natI (p : List Nat) : natsOf (natI p) = p := by
  unfold natsOf natI
  rw [List.map_map, show (Int.toNat ∘ Int.ofNat) = id from rfl, List.map_id]
theorem two_out {js : List J} {o : List Int} (h : twoB js o = true) : goodL js = true ∧ ∃ p : List Nat, o = natI p ∧ p.Perm (List.range js.length) ∧ natsOf o = p := by
  unfold twoB at h
  rw [Bool.and_eq_true] at h
  obtain ⟨p, rfl, hp, _, _⟩ := ord_nat h.2
  exact ⟨h.1, p, rfl, hp, natsOf_natI p⟩
/-- What a function hands back: an int and a bool. -/
def RetNB (w : World) (r : Int × Bool) (e : Ending) (w' : World) : Prop := e = .returned (.tuple #[.int .i64 r.1, .bool r.2]) ∧ Below w.heap.size w w'
theorem ret_empty {w w1 : World} {r : List Int × Bool} (hr : r = ([], false)) (hb : Below w.heap.size w w1) (e : Ending) (he : e = .returned (.tuple #[.slice (some ⟨w1.heap.size, 0, none⟩) 0 0, .bool false])) : RetIB w r e (w1.alloc (.cells #[] 3)) := by
  subst hr he
  have h := BlockIs.new w1 3 (ic []).toArray
  exact ⟨_, 0, rfl, seg_of_block h hb.size (by simp), hb.alloc hb.size _⟩
theorem ret_block {w w' : World} {r : List Int × Bool} {xs : List Int} {g : Nat} (hr : r = (xs, true)) (hg : w.heap.size ≤ g) (hB : BlockIs w' g 3 (ic xs).toArray) (hm : xs.length ≤ 100000000) (hb : Below w.heap.size w w') (e : Ending) (he : e = .returned (.tuple #[.slice (some ⟨g, 0, none⟩) xs.length xs.length, .bool true])) : RetIB w r e w' := by
  subst hr he
  exact ⟨_, xs.length, rfl, seg_of_block hB hg (by unfold maxLen; simp; omega), hb⟩

section
variable (A B : Option Addr) (c d : Nat) (js : List J) (o : List Int) (w : World) (hr : Row w A (jc js)) (hq : Row w B (ic o)) (hn : js.length ≤ 10000000) (hm : o.length ≤ 10000000)
include hr hq hn hm
end
end Go.Proofs.YtejgpecmjfgfbaaDoor

namespace Go.Proofs.YtejgpecmjfgfbaaDoor
open Go.RowKit
def goodB (js : List J) (m : Int) (E : List Pr) : Bool := goodL js && (plain0 js && (inB m 1 4 && precB js.length E))
set_option maxRecDepth 100000 in
set_option maxHeartbeats 1000000 in
theorem l7Good_any (A C : Option Addr) (c d : Nat) (js : List J) (m : Int) (E : List Pr) (w : World) (hr : Row w A (jc js)) (hq : Row w C (pc E)) (hn : js.length ≤ 10000000) (hl : E.length ≤ 10000000) :
    Calls Tryd.prog 51 #[.slice A js.length c, .int .i64 m, .slice C E.length d] w fun e w' => e = .returned (.bool (goodB js m E)) ∧ Below w.heap.size w w' := by
  have HD : Hid (goodB js m E = (goodL js && (plain0 js && (inB m 1 4 && precB js.length E)))) := rfl
  have H1 := Lib.hid (l2Good_any A c js w hr (by omega))
  have H2 := Lib.hid (fun W (hb : Below w.heap.size w W) => l3Plain_any A c js W (hr.below hb) (by omega))
  have H4 := Lib.hid (fun W (hb : Below w.heap.size w W) => l4Good_any C d (js.length : Int) E W (hq.below hb) hl)
  clear hr hq
  go_enter Tryd.func51, Tryd.ntmps51
  go_wp2_with fail
  refine H1.out.mono ?_
  rintro e w1 ⟨rfl, hb1⟩
  cases hg : goodL js
  · rw [hg] at HD
    clear hg
    go_wp2
    go_ret
    exact ⟨by rw [HD.out]; rfl, hb1⟩
  · rw [hg] at HD
    clear hg
    have HB1 := Lib.hid hb1
    clear hb1
    go_wp2_with fail
    refine (H2.out w1 HB1.out).mono ?_
    rintro e w2 ⟨rfl, hb2⟩
    have HB2 := Lib.hid (HB1.out.trans (hb2.mono HB1.out.size))
    clear hb2
    cases hp : plain0 js
    · rw [hp] at HD
      clear hp
      go_wp2
      go_ret
      exact ⟨by rw [HD.out]; rfl, HB2.out⟩
    · rw [hp] at HD
      clear hp
      go_wp2_with fail
      refine (l1In_any m 1 4 _).mono ?_
      rintro e _ ⟨rfl, rfl⟩
      cases hm : inB m 1 4
      · rw [hm] at HD
        clear hm
        go_wp2
        go_ret
        exact ⟨by rw [HD.out]; rfl, HB2.out⟩
      · rw [hm] at HD
        clear hm
        go_wp2_with fail
        refine (H4.out w2 HB2.out).mono ?_
        rintro e w3 ⟨rfl, hb3⟩
        have HB3 := Lib.hid (HB2.out.trans (hb3.mono HB2.out.size))
        clear hb3
        cases hq : precB js.length E
        · rw [hq] at HD
          clear hq
          go_wp2
          go_ret
          exact ⟨by rw [HD.out]; rfl, HB3.out⟩
        · rw [hq] at HD
          clear hq
          go_wp2
          go_ret
          exact ⟨by rw [HD.out]; rfl, HB3.out⟩
section
variable {Bs : Nat} {A : Option Addr} {c : Nat} {js : List J} {E : List Pr} {gs : List Nat} {g cc : Nat} {w : World}
set_option maxRecDepth 100000 in
set_option maxHeartbeats 2000000 in
theorem l7Tail_any (hr : Row w A (jc js)) (hok : ∀ j ∈ js, okJ j = true) (h8 : js.length ≤ 8) (hirr : irrB js.length E js.length = true) (hTb : TabR Bs js.length (tabB js.length E) gs (.slice (some ⟨g, 0, none⟩) gs.length cc) w) (hgl : gs.length = js.length) : ∀ (f j : Nat), f ≤ 9 → j < js.length → cntS js.length (tabB js.length E) j < f →
    Calls Tryd.prog 86 #[.slice A js.length c, .slice (some ⟨g, 0, none⟩) gs.length cc, .int .i64 (j : Int)] w fun e w' => e = .returned (.int .i64 (tailF js (tabB js.length E) js.length f j)) ∧ w = w' := by
  intro f
  induction f with
  | zero => intro j _ _ h; omega
  | succ f ih =>
    intro j hf9 hj hcj
    have HIH := Lib.hid (fun i (hi : i < js.length) (ht : tabB js.length E j i = true) => ih i (by omega) hi (by have := cntS_lt hirr hi ht; omega))
    have HTB := Lib.hid hTb
    have HGL := Lib.hid hgl
    have HRES : Hid (tailF js (tabB js.length E) js.length (f + 1) j = (js.getD j j0).t + mostTo (fun i => tailF js (tabB js.length E) js.length f i) (tabB js.length E j) js.length) := rfl
    have HBD : Hid (∀ k, k ≤ js.length → 0 ≤ mostTo (fun i => tailF js (tabB js.length E) js.length f i) (tabB js.length E j) k ∧ mostTo (fun i => tailF js (tabB js.length E) js.length f i) (tabB js.length E j) k ≤ 50 * (f : Int)) := fun k hk => most_bd (by omega) k fun i hi _ => (tailF_bd hok _ f i (by omega)).2
    have HMS := Lib.hid (mostTo_succ (fun i => tailF js (tabB js.length E) js.length f i) (tabB js.length E j))
    obtain ⟨ad, hA, _, hc0, hc1, hc2, hc3⟩ := hr.job hj
    subst hA
    have hjt := okJ_out (hok _ (List.getElem_mem hj))
    have hgj := getD_at js j0 hj
    rw [hgj] at HRES
    have hj0 : (0 : Int) ≤ j := by omega
    have hj1 : (j : Int) < js.length := by omega
    have hj2 : (j : Int) < gs.length := by rw [hgl]; omega
    generalize js[j] = jb at *
    clear ih hTb hgl hgj hr hcj
    go_enter Tryd.func86, Tryd.ntmps86
    go_wp2
    go_loop [7, 8] (fun mv iv => ∃ k : Nat, k ≤ js.length ∧ iv = .int .i64 (k : Int) ∧ mv = .int .i64 (mostTo (fun i => tailF js (tabB js.length E) js.length f i) (tabB js.length E j) k)) (fun _ iv => js.length - (intOf iv).toNat)
    case atStart => exact ⟨0, Nat.zero_le _, rfl, rfl⟩
    case round =>
      obtain ⟨k, hk, rfl, rfl⟩ := hrel
      by_cases hlt : k < js.length
      · obtain ⟨g1, c1, q, hV, hq, hcell, _, _, _, hrow⟩ := HTB.out.at_ (i := j) (by rw [HGL.out]; exact hj)
        obtain ⟨rfl, rfl⟩ : g = g1 ∧ cc = c1 := by
          injection hV with e1 _ e3
          injection e1 with e1
          injection e1 with e1 _ _
          exact ⟨e1, e3⟩
        have hck := hrow k hlt
        have hk0 : (0 : Int) ≤ k := by omega
        have hk1 : (k : Int) < js.length := by omega
        have HS := Lib.hid (HMS.out k)
        clear hrow hV hq
        cases ht : tabB js.length E j k
        · rw [ht] at hck HS
          clear ht
          generalize mostTo (fun i => tailF js (tabB js.length E) js.length f i) (tabB js.length E j) k = mk at *
          go_wp2
          go_round
          case rel => exact ⟨k + 1, by omega, by go_num, by rw [HS.out]; rfl⟩
          case measure => simp [intOf]; omega
        · have HC := Lib.hid (HIH.out k hlt ht)
          rw [ht] at hck HS
          clear ht
          generalize mostTo (fun i => tailF js (tabB js.length E) js.length f i) (tabB js.length E j) k = mk at *
          go_wp2_with fail
          refine HC.out.mono ?_
          rintro e _ ⟨rfl, rfl⟩
          go_wp2_with fail
          refine (l1Most_any _ _ _).mono ?_
          rintro e _ ⟨rfl, rfl⟩
          go_wp2
          go_round
          case rel => exact ⟨k + 1, by omega, by go_num, by rw [HS.out]; rfl⟩
          case measure => simp [intOf]; omega
      · obtain rfl : k = js.length := by omega
        have hbd := HBD.out _ (Nat.le_refl _)
        generalize mostTo (fun i => tailF js (tabB js.length E) js.length f i) (tabB js.length E j) js.length = mk at *
        go_wp2
        go_ret
        exact ⟨by rw [HRES.out]; rfl, rfl⟩
end
theorem infoIp : (Tryd.prog.info? 3).map (fun i => (i.zero, i.size, i.bytes)) = some (some (.int .i64 0), 1, 8) := by kernel_rfl
/-- Blocks that hold no ints are as they were. -/
def KeepI (w w' : World) : Prop := ∀ q t cs, t ≠ 3 → BlockIs w q t cs → BlockIs w' q t cs
theorem TabR.keepI {B n : Nat} {T : Nat → Nat → Bool} {gs : List Nat} {v : Value} {w w' : World} (h : TabR B n T gs v w) (hk : KeepI w w') : TabR B n T gs v w' := by
  refine ⟨own_to h.1 fun q hq _ _ => ?_, fun i hi => ⟨hk _ _ _ (by decide) (h.2.1 i hi).1, (h.2.1 i hi).2⟩, h.2.2⟩
  obtain ⟨_, _, c1, t1⟩ := own_type h.1 hq
  exact (hk _ _ _ (by decide) t1).trans t1.symm
theorem pushI {w0 w : World} {v : Value} {xs : List Int} (h : w.ownsRow w0.heap.size 3 1 v xs.length (ic xs)) (hb : Below w0.heap.size w0 w) (x : Int) (hl : xs.length ≤ 1000) :
    ∃ v' w3, (Builtin.append_ #[24, 24] 24 #[v, .slice (some ⟨w.heap.size, 0, none⟩) 1 1]).run Tryd.prog (w.alloc (.cells #[.int .i64 x] 3)) = .ok v' w3 ∧
      w3.ownsRow w0.heap.size 3 1 v' (xs ++ [x]).length (ic (xs ++ [x])) ∧ Below w0.heap.size w0 w3 ∧ KeepI w w3 := by
  obtain ⟨i1, hj, hy0, hy1, hy2⟩ := info_parts infoIp
  have hb1 := hb.alloc hb.size (.cells #[.int .i64 x] 3)
  have hbw : Below w.heap.size w (w.alloc (.cells #[.int .i64 x] 3)) := (Below.refl _ w).alloc (Nat.le_refl _) _
  have h2 := own_blw h hbw
  have hsrc := row_srcS (Row.new w 3 #[.int .i64 x])
  obtain ⟨v', w3, hrun, ho3, hgr, _⟩ := append_at (P := Tryd.prog) (w.alloc (.cells #[.int .i64 x] 3)) w0.heap.size 24 24 3 i1 (.int .i64 0) 1 8 Tryd.underlying24 hj hy0 hy1 hy2 rfl (by decide) _ _ _ h2 ⟨w.heap.size, 0, none⟩ 1 1 [.int .i64 x] rfl hsrc (by intro u hu; simp at hu; subst hu; rfl) (by omega) (by unfold maxLen; omega) (by omega) hb1.size
  refine ⟨v', w3, hrun, ?_, hb1.grown hgr hb1.size (fun j hj => (h2.lt j hj).1), fun q t cs ht hB => ?_⟩
  · unfold ic at ho3 ⊢
    simpa using ho3
  · have hB1 := hB.below hbw
    refine (hgr.block q hB1.lt fun e => ?_).trans hB1
    obtain ⟨_, _, c1, t1⟩ := own_type h2 e.symm
    exact type_ne hB1 t1 ht rfl
def tailsTo (js : List J) (E : List Ed) (k : Nat) : List Int := (List.range k).map fun j => tailF js (tabB js.length E) js.length 9 j
theorem tailsTo_succ (js : List J) (E : List Ed) (k : Nat) : tailsTo js E (k + 1) = tailsTo js E k ++ [tailF js (tabB js.length E) js.length 9 k] := by unfold tailsTo; rw [List.range_succ, List.map_append]; rfl
theorem tailsTo_len (js : List J) (E : List Ed) (k : Nat) : (tailsTo js E k).length = k := by unfold tailsTo; simp
set_option maxRecDepth 100000 in
set_option maxHeartbeats 2000000 in
theorem l7Tails_any (A C : Option Addr) (c d : Nat) (js : List J) (E : List Pr) (w : World) (hr : Row w A (jc js)) (hq : Row w C (pc E)) (hl : E.length ≤ 10000000) (hok : ∀ j ∈ js, okJ j = true) (h8 : js.length ≤ 8) (hirr : irrB js.length E js.length = true) (hE : EdsIn js.length E) :
    Calls Tryd.prog 54 #[.slice A js.length c, .slice C E.length d] w fun e w' => ∃ v, e = .returned v ∧ w'.ownsRow w.heap.size 3 1 v (tailsL js E).length (ic (tailsL js E)) ∧ Below w.heap.size w w' := by
  have hb0 := (Below.refl w.heap.size w).alloc (Nat.le_refl _) (.cells #[] 3)
  have h0 : (w.alloc (.cells #[] 3)).ownsRow w.heap.size 3 1 (.slice (some ⟨w.heap.size, 0, none⟩) 0 0) 0 (ic []) := World.ownsRow_made w #[] 0 (Nat.le_refl _) (by unfold maxLen; omega) rfl
  have H0 := Lib.hid (And.intro hb0 h0)
  have HTB := Lib.hid (l4Table_any C d js.length E _ (hq.below hb0) hl h8 hE)
  have HR := Lib.hid hr
  have HLL : Hid (tailsTo js E js.length = tailsL js E) := rfl
  clear hb0 h0 hr hq hE
  go_enter Tryd.func54, Tryd.ntmps54
  go_wp2_with fail
  refine HTB.out.mono ?_
  rintro e w2 ⟨gs, v, rfl, hTb, hgl, hb2⟩
  have HB2 := Lib.hid (H0.out.1.trans (hb2.mono H0.out.1.size))
  have HO2 := Lib.hid (own_blw H0.out.2 hb2)
  have hsz := H0.out.1.size
  obtain ⟨Bs, hBs⟩ : ∃ Bs, Bs = (w.alloc (.cells #[] 3)).heap.size := ⟨_, rfl⟩
  rw [← hBs] at hTb
  have HTb := Lib.hid hTb
  have HGL := Lib.hid hgl
  clear hTb hgl hb2 HTB H0 hBs
  go_wp2
  go_loopw [5, 7] (fun u i wr => ∃ (k : Nat) (U : Value), k ≤ js.length ∧ i = .int .i64 (k : Int) ∧ U = u ∧ Hid (wr.ownsRow w.heap.size 3 1 U (tailsTo js E k).length (ic (tailsTo js E k))) ∧ Hid (TabR Bs js.length (tabB js.length E) gs v wr) ∧ Hid (Below w.heap.size w wr)) (fun _ i _ => js.length - (intOf i).toNat)
  case atStart => exact ⟨0, _, Nat.zero_le _, rfl, rfl, HO2.out, HTb.out, HB2.out⟩
  case round =>
    obtain ⟨k, U, hk, rfl, rfl, hO, hTb, hb⟩ := hrel
    clear HO2 HTb HB2
    by_cases hlt : k < js.length
    · obtain ⟨g, cc, q, hV, _, _, _, _, _, _⟩ := hTb.out.at_ (i := k) (by rw [HGL.out]; exact hlt)
      subst hV
      have HC := Lib.hid (l7Tail_any (c := c) (HR.out.below hb.out) hok h8 hirr hTb.out HGL.out 9 k (by omega) hlt (by have := cntS_le js.length (tabB js.length E) k; omega))
      obtain ⟨v', w3, hrun, hO3, hb3, hk3⟩ := pushI (w0 := w) hO.out hb.out (tailF js (tabB js.length E) js.length 9 k) (by rw [tailsTo_len]; omega)
      have HRUN := Lib.hid hrun
      have HY := Lib.hid (And.intro hO3 (And.intro (hTb.out.keepI hk3) hb3))
      rw [← tailsTo_succ] at HY
      clear hrun hO3 hb3 hk3 hO hTb hb
      generalize tailF js (tabB js.length E) js.length 9 k = tk at *
      go_wp2_with (first | (at_builtin; refine wpList_app rfl _ _ _ rfl _ _ _ rfl rfl HRUN.out ?_; clear HRUN) | (go_at_call 86; refine HC.out.mono ?_; rintro e _ ⟨rfl, rfl⟩))
      go_roundw
      case rel => exact ⟨k + 1, _, by omega, by go_num, rfl, HY.out.1, HY.out.2.1, HY.out.2.2⟩
      case measure => simp [intOf]; omega
    · obtain rfl : k = js.length := by omega
      go_wp2
      go_ret
      exact ⟨U, rfl, by rw [← HLL.out]; exact hO.out, hb.out⟩
def tailsR (js : List J) (E : List Pr) : List Int × Bool := if goodB js 1 E then (tailsL js E, true) else ([], false)
theorem tailsR_len (js : List J) (E : List Pr) : (tailsR js E).1.length ≤ 8 := by
  unfold tailsR
  split
  · rename_i h
    unfold goodB at h
    rw [Bool.and_eq_true] at h
    obtain ⟨h8, _⟩ := good_out h.1
    rw [tailsL_len]; exact h8
  · simp
theorem good_parts {js : List J} {m : Int} {E : List Pr} (h : goodB js m E = true) : (∀ j ∈ js, okJ j = true) ∧ js.length ≤ 8 ∧ irrB js.length E js.length = true ∧ EdsIn js.length E ∧ plainL js = true ∧ precB js.length E = true ∧ inB m 1 4 = true := by
  unfold goodB at h
  simp only [Bool.and_eq_true] at h
  obtain ⟨h8, hok⟩ := good_out h.1
  obtain ⟨n, hn, _, hE⟩ := prec_nat h.2.2.2
  have hn' : js.length = n := by omega
  subst hn'
  refine ⟨hok, h8, ?_, hE, by unfold plainL; rw [h.1, h.2.1]; rfl, h.2.2.2, h.2.2.1⟩
  have hp := h.2.2.2
  rw [← precB_good (by unfold precB at hp; rw [Bool.and_eq_true] at hp; exact hp.1), hp]
theorem ret_ownIr {w w' : World} {r : List Int × Bool} {p : List Int} {v : Value} (hr : r = (p, true)) (ho : w'.ownsRow w.heap.size 3 1 v p.length (ic p)) (hb : Below w.heap.size w w') (e : Ending) (he : e = .returned (.tuple #[v, .bool true])) : RetIB w r e w' := by
  obtain ⟨A, c, rfl, hs⟩ := seg_out ho
  subst hr he
  exact ⟨A, c, rfl, hs, hb⟩
end Go.Proofs.YtejgpecmjfgfbaaDoor

namespace Go.Proofs.YtejgpecmjfgfbaaDoor
open Go.RowKit

def cellsSp (j : Sp) : List Value := [.int .i64 j.j, .int .i64 j.f, .int .i64 j.t]
abbrev aggSp (j : Sp) : Value := .agg #[.int .i64 j.j, .int .i64 j.f, .int .i64 j.t]
def spc (js : List Sp) : List Value := js.flatMap cellsSp
theorem spc_len : ∀ js : List Sp, (spc js).length = 3 * js.length
  | [] => rfl
  | j :: js => by
    show (cellsSp j ++ spc js).length = _
    rw [List.length_append, spc_len js]; simp [cellsSp]; omega
theorem spc_get : ∀ (js : List Sp) (k i : Nat) (hk : k < js.length), i < 3 → (spc js)[k * 3 + i]? = (cellsSp js[k])[i]?
  | [], _, _, h, _ => by cases h
  | j :: js, 0, i, _, hi => by
    show (cellsSp j ++ spc js)[0 * 3 + i]? = _
    rw [List.getElem?_append_left (by simp [cellsSp]; omega)]
    simp
  | j :: js, k + 1, i, h, hi => by
    show (cellsSp j ++ spc js)[(k + 1) * 3 + i]? = _
    rw [List.getElem?_append_right (by simp [cellsSp]; omega)]
    rw [show (k + 1) * 3 + i - (cellsSp j).length = k * 3 + i by simp [cellsSp]; omega]
    exact spc_get js k i (by simpa using h) hi
theorem Row.span {w : World} {A : Option Addr} {js : List Sp} (h : Row w A (spc js)) {k : Nat} (hk : k < js.length) : ∃ ad, A = some ad ∧ ad.block < w.heap.size ∧
    w.cell? (ad.add (k * 3)) = some (.int .i64 js[k].j) ∧ w.cell? ⟨(ad.add (k * 3)).block, (ad.add (k * 3)).off + 1, none⟩ = some (.int .i64 js[k].f) ∧ w.cell? ⟨(ad.add (k * 3)).block, (ad.add (k * 3)).off + 2, none⟩ = some (.int .i64 js[k].t) := by
  obtain ⟨ad, hA, hb, hc⟩ := h (by rw [spc_len]; omega)
  refine ⟨ad, hA, hb, ?_, ?_, ?_⟩
  · exact hc _ _ (spc_get js k 0 hk (by omega))
  · exact (congrArg w.cell? (add_add ad (k * 3) 1)).trans (hc _ _ (spc_get js k 1 hk (by omega)))
  · exact (congrArg w.cell? (add_add ad (k * 3) 2)).trans (hc _ _ (spc_get js k 2 hk (by omega)))

theorem infoSp : (Tryd.prog.info? 78).map (fun i => (i.zero, i.size, i.bytes)) = some (some (.agg #[.int .i64 0, .int .i64 0, .int .i64 0]), 3, 24) := by kernel_rfl
/-- Three cells of a block, from a place on, are set. -/
def set3 (cs : Array Value) (p : Nat) (j : Sp) : Array Value := ((cs.setIfInBounds p (.int .i64 j.j)).setIfInBounds (p + 1) (.int .i64 j.f)).setIfInBounds (p + 2) (.int .i64 j.t)
theorem set3_size (cs : Array Value) (p : Nat) (j : Sp) : (set3 cs p j).size = cs.size := by unfold set3; simp
theorem Upto.step3 {js : List Sp} {k : Nat} {cs : Array Value} (h : Upto (spc js) (k * 3) cs) (hk : k < js.length) : Upto (spc js) ((k + 1) * 3) (set3 cs (k * 3) js[k]) := by
  have hl := spc_len js
  have g0 : (spc js)[k * 3]'(by omega) = .int .i64 js[k].j := by
    have := spc_get js k 0 hk (by omega); rw [List.getElem?_eq_getElem (by omega)] at this; exact Option.some.inj this
  have g1 : (spc js)[k * 3 + 1]'(by omega) = .int .i64 js[k].f := by
    have := spc_get js k 1 hk (by omega); rw [List.getElem?_eq_getElem (by omega)] at this; exact Option.some.inj this
  have g2 : (spc js)[k * 3 + 2]'(by omega) = .int .i64 js[k].t := by
    have := spc_get js k 2 hk (by omega); rw [List.getElem?_eq_getElem (by omega)] at this; exact Option.some.inj this
  have h1 := h.step (by omega)
  rw [g0] at h1
  have h2 := h1.step (by omega)
  rw [g1] at h2
  have h3 := h2.step (by omega)
  rw [g2] at h3
  rw [show (k + 1) * 3 = k * 3 + 1 + 1 + 1 by omega]
  exact h3
theorem BlockIs.set3 {w : World} {g : Nat} {t : TypeId} {cs : Array Value} (h : BlockIs w g t cs) (p : Nat) (j : Sp) :
    BlockIs (((w.setCell ⟨g, p, none⟩ (.int .i64 j.j)).setCell ⟨g, p + 1, none⟩ (.int .i64 j.f)).setCell ⟨g, p + 2, none⟩ (.int .i64 j.t)) g t (set3 cs p j) :=
  ((h.set p _).set (p + 1) _).set (p + 2) _
theorem eqTask_same (j : Sp) (w : World) :
    Calls Tryd.prog 49 #[.agg #[.int .i64 j.j, .int .i64 j.f, .int .i64 j.t], .agg #[.int .i64 j.j, .int .i64 j.f, .int .i64 j.t]] w fun e w' => e = .returned (.bool true) ∧ Below w.heap.size w w' := by
  go_enter Tryd.func49, Tryd.ntmps49
  go_wp2
  go_ret
  exact ⟨rfl, ((Below.refl _ _).alloc (Nat.le_refl _) _).alloc (by simp) _⟩
theorem eqTaskS_same (A B : Option Addr) (c d : Nat) (js : List Sp) (w : World) (hr : Row w A (spc js)) (hq : Row w B (spc js)) (hn : js.length ≤ 10000000) :
    Calls Tryd.prog 18 #[.slice A js.length c, .slice B js.length d] w fun e w' => e = .returned (.bool true) ∧ Below w.heap.size w w' := by
  go_enter Tryd.func18, Tryd.ntmps18
  go_wp2
  go_loopw [5] (fun i wr => ∃ k : Nat, k ≤ js.length ∧ i = .int .i64 k ∧ Below w.heap.size w wr) (fun i _ => js.length - (intOf i).toNat)
  case atStart => exact ⟨0, Nat.zero_le _, rfl, Below.refl _ _⟩
  case round =>
    obtain ⟨k, hk, rfl, hb⟩ := hrel
    by_cases hlt : k < js.length
    · obtain ⟨a, hA, _, hc0, hc1, hc2⟩ := (hr.below hb).span hlt
      obtain ⟨b, hB, _, hd0, hd1, hd2⟩ := (hq.below hb).span hlt
      subst hA hB
      have HB := Lib.hid hb
      clear hr hq hb
      generalize js[k] = j at *
      have hi : (0 : Int) ≤ k := by omega
      have hi' : (k : Int) < js.length := by omega
      go_wp2
      go_region_with (go_at_call 49; refine (eqTask_same j _).mono ?_; rintro e w1 ⟨rfl, hb1⟩)
      all_goals
        go_wp2
        go_roundw
        case rel => exact ⟨k + 1, by omega, by go_num, HB.out.trans ((⟨hb1.os, hb1.tape, hb1.output, hb1.size, hb1.block⟩ : Below wr.heap.size wr w1).mono HB.out.size)⟩
        case measure => simp [intOf]; omega
    · go_wp2
      go_ret
      exact ⟨rfl, hb⟩
theorem markTaskS_none (A : Option Addr) (c : Nat) (k : Int) (w : World) :
    Calls Tryd.prog 25 #[.slice A 0 c, .int .i64 k] w fun e w' => e = .returned (.int .i64 k) ∧ w = w' := by
  go_enter Tryd.func25, Tryd.ntmps25
  go_wp2
  refine wp_loop_rounds 1 ?_
  rw [rounds_succ]
  go_wp2
  go_ret
  exact ⟨rfl, rfl⟩
def numSp (k : Nat) : Sp := ⟨(k : Int), (k : Int) + 1, (k : Int) + 1 + 1⟩
def numsSp (k n : Nat) : List Sp := (List.range n).map fun i => numSp (k + 3 * i)
theorem numsSp_len (k n : Nat) : (numsSp k n).length = n := by unfold numsSp; simp
theorem numsSp_get (k n i : Nat) (h : i < n) : (numsSp k n)[i]'(by rw [numsSp_len]; exact h) = numSp (k + 3 * i) := by unfold numsSp; simp
theorem PreC.step3 {js : List Sp} {k : Nat} {cs : Array Value} (h : PreC (spc js) (k * 3) cs) (hk : k < js.length) : PreC (spc js) ((k + 1) * 3) (set3 cs (k * 3) js[k]) := by
  have hl := spc_len js
  have g0 : (spc js)[k * 3]'(by omega) = .int .i64 js[k].j := by
    have := spc_get js k 0 hk (by omega); rw [List.getElem?_eq_getElem (by omega)] at this; exact Option.some.inj this
  have g1 : (spc js)[k * 3 + 1]'(by omega) = .int .i64 js[k].f := by
    have := spc_get js k 1 hk (by omega); rw [List.getElem?_eq_getElem (by omega)] at this; exact Option.some.inj this
  have g2 : (spc js)[k * 3 + 2]'(by omega) = .int .i64 js[k].t := by
    have := spc_get js k 2 hk (by omega); rw [List.getElem?_eq_getElem (by omega)] at this; exact Option.some.inj this
  have h1 := h.step (by omega)
  rw [g0] at h1
  have h2 := h1.step (by omega)
  rw [g1] at h2
  have h3 := h2.step (by omega)
  rw [g2] at h3
  rw [show (k + 1) * 3 = k * 3 + 1 + 1 + 1 by omega]
  exact h3
theorem markTaskS_some (g c n k0 : Nat) (cs0 : Array Value) (w : World) (h : BlockIs w g 78 cs0) (hn : cs0.size = c * 3) (hnc : n ≤ c) (hn1 : n ≤ 10000000) (hk1 : k0 ≤ 1000000000) :
    Calls Tryd.prog 25 #[.slice (some ⟨g, 0, none⟩) n c, .int .i64 (k0 : Int)] w fun e w' => e = .returned (.int .i64 ((k0 + 3 * n : Nat) : Int)) ∧ (∃ cs, cs.size = cs0.size ∧ BlockIs w' g 78 cs ∧ cs.toList.take (n * 3) = spc (numsSp k0 n)) ∧ w.grownBy w' (some g) ∧ w'.heap.size = w.heap.size := by
  go_enter Tryd.func25, Tryd.ntmps25
  go_wp2
  go_loopw [1, 5] (fun k i wr => ∃ (m : Nat) (cs : Array Value), m ≤ n ∧ i = .int .i64 (m : Int) ∧ k = .int .i64 ((k0 + 3 * m : Nat) : Int) ∧ cs.size = cs0.size ∧ BlockIs wr g 78 cs ∧ Hid (PreC (spc (numsSp k0 n)) (m * 3) cs) ∧ w.grownBy wr (some g) ∧ Hid (wr.heap.size = w.heap.size)) (fun _ i _ => n - (intOf i).toNat)
  case atStart => exact ⟨0, cs0, Nat.zero_le _, rfl, by go_num, rfl, h, ⟨by rw [spc_len, numsSp_len]; omega, by omega⟩, ⟨rfl, rfl, rfl, Nat.le_refl _, fun _ _ _ => rfl⟩, rfl⟩
  case round =>
    obtain ⟨m, cs, hm, rfl, rfl, hz, hB, hP, hG, hsz⟩ := hrel
    by_cases hlt : m < n
    · have hi : (0 : Int) ≤ m := by omega
      have hi' : (m : Int) < n := by omega
      obtain ⟨v0, hk0⟩ := hB.has (i := m * 3) (by omega)
      obtain ⟨v1, hk1⟩ := hB.has (i := m * 3 + 1) (by omega)
      obtain ⟨v2, hk2⟩ := hB.has (i := m * 3 + 2) (by omega)
      have hf0 := hB.frozen (m * 3)
      have hf1 := hB.frozen (m * 3 + 1)
      have hf2 := hB.frozen (m * 3 + 2)
      have HB := Lib.hid (hB.set3 (m * 3) (numSp (k0 + 3 * m)))
      have HG := Lib.hid (grown_setCell (grown_setCell (grown_setCell hG (m * 3) (.int .i64 (numSp (k0 + 3 * m)).j)) (m * 3 + 1) (.int .i64 (numSp (k0 + 3 * m)).f)) (m * 3 + 2) (.int .i64 (numSp (k0 + 3 * m)).t))
      have HZ := hsz
      have HZ2 := Lib.hid hz
      have hcast : ((k0 + 3 * m : Nat) : Int) = (k0 : Int) + 3 * m := by omega
      have HP := Lib.hid (hP.out.step3 (by rw [numsSp_len]; exact hlt))
      have HN := Lib.hid (numsSp_get k0 n m hlt)
      rw [HN.out] at HP
      have HS := Lib.hid (set3_size cs (m * 3) (numSp (k0 + 3 * m)))
      simp only [numSp, hcast] at HB HG
      clear hB hG h hz hsz hP
      go_wp2
      go_roundw
      case rel => exact ⟨m + 1, set3 cs (m * 3) (numSp (k0 + 3 * m)), by omega, by go_num, by go_num, by rw [HS.out]; exact HZ2.out, by simpa only [numSp, hcast] using HB.out, HP.out, HG.out, by show _ = _; simpa [World.setCell] using HZ.out⟩
      case measure => simp [intOf]; omega
    · obtain rfl : m = n := by omega
      go_wp2
      go_ret
      refine ⟨rfl, ⟨cs, hz, hB, ?_⟩, hG, hsz.out⟩
      have hP' := hP.out
      rw [show m * 3 = (spc (numsSp k0 m)).length by rw [spc_len, numsSp_len]; omega] at hP' ⊢
      exact hP'.all
theorem markTaskS_own (A : Option Addr) (c n k0 B : Nat) (cs : List Value) (w : World) (h : w.ownsRow B 78 3 (.slice A n c) n cs) (hn1 : n ≤ 10000000) (hk1 : k0 ≤ 1000000000) (hBw : B ≤ w.heap.size) :
    Calls Tryd.prog 25 #[.slice A n c, .int .i64 (k0 : Int)] w fun e w' => e = .returned (.int .i64 ((k0 + 3 * n : Nat) : Int)) ∧ w'.ownsRow B 78 3 (.slice A n c) n (spc (numsSp k0 n)) ∧ Below B w w' ∧ w.grownBy w' (Value.slice A n c).ownBlock ∧ w'.heap.size = w.heap.size := by
  by_cases h0 : n = 0
  · subst h0
    refine (markTaskS_none A c k0 w).mono ?_
    rintro e w' ⟨rfl, rfl⟩
    have hcs : cs = [] := List.eq_nil_of_length_eq_zero (by have := h.1; simpa using this)
    subst hcs
    exact ⟨rfl, h, Below.refl _ _, World.grownBy.refl _ _, rfl⟩
  · obtain ⟨g, cur, rfl, hg, hB, h1, h2, h3, h4⟩ := own_block h (by omega)
    refine (markTaskS_some g c n k0 cur w hB (by omega) h1 hn1 hk1).mono ?_
    rintro e w' ⟨rfl, ⟨cs', hz, hB', hm⟩, hG, hs⟩
    refine ⟨rfl, ?_, ⟨hG.os, hG.tape, hG.output, hG.size, fun k hk => hG.block k (by omega) (fun e => by injection e; omega)⟩, hG, hs⟩
    have := hB'.own (base := B) (n := n) (c := c) (size := 3) hg (by omega) h1 h2 (by omega)
    rwa [hm] at this
theorem heldTaskS_same (A : Option Addr) (c n k0 : Nat) (w : World) (hr : Row w A (spc (numsSp k0 n))) (hn1 : n ≤ 10000000) (hk1 : k0 ≤ 1000000000) :
    Calls Tryd.prog 26 #[.slice A n c, .int .i64 (k0 : Int)] w fun e w' => e = .returned (.int .i64 ((k0 + 3 * n : Nat) : Int)) ∧ w = w' := by
  go_enter Tryd.func26, Tryd.ntmps26
  go_wp2
  go_loop [1, 5] (fun k i => ∃ m : Nat, m ≤ n ∧ i = .int .i64 (m : Int) ∧ k = .int .i64 ((k0 + 3 * m : Nat) : Int)) (fun _ i => n - (intOf i).toNat)
  case atStart => exact ⟨0, Nat.zero_le _, rfl, by go_num⟩
  case round =>
    obtain ⟨m, hm, rfl, rfl⟩ := hrel
    by_cases hlt : m < n
    · obtain ⟨ad, hA, _, hc0, hc1, hc2⟩ := hr.span (k := m) (by rw [numsSp_len]; exact hlt)
      rw [numsSp_get k0 n m hlt] at hc0 hc1 hc2
      subst hA
      have hi : (0 : Int) ≤ m := by omega
      have hi' : (m : Int) < n := by omega
      have hcast : ((k0 + 3 * m : Nat) : Int) = (k0 : Int) + 3 * m := by omega
      simp only [numSp, hcast] at hc0 hc1 hc2
      clear hr
      go_wp2
      go_round
      case rel => exact ⟨m + 1, by omega, by go_num, by go_num⟩
      case measure => simp [intOf]; omega
    · obtain rfl : m = n := by omega
      go_wp2
      go_ret
      exact ⟨rfl, rfl⟩
theorem markTaskS_seg (A : Option Addr) (c n lo hi : Nat) (k : Int) (cs : List Value) (w : World) (h : Seg w 78 3 lo hi A n c cs) (h0 : 0 ≤ k) (h1 : k ≤ 1000000000) (hn : n ≤ 10000000) :
    Calls Tryd.prog 25 #[.slice A n c, .int .i64 k] w fun e w' => e = .returned (.int .i64 (k + 3 * n)) ∧ Seg w' 78 3 lo hi A n c (spc (numsSp k.toNat n)) ∧ Touch lo hi w w' := by
  have hk : k = (k.toNat : Int) := by omega
  by_cases hz : n = 0
  · subst hz
    refine (markTaskS_none A c k w).mono ?_
    rintro e w' ⟨rfl, rfl⟩
    have hcs := h.slice_nil
    subst hcs
    exact ⟨by simp, h, Touch.refl _ _ _⟩
  · have hlo : lo ≤ w.heap.size := by
      obtain ⟨g, cur, hA, a1, a2, _⟩ := h.block (by omega)
      have := h.fit; omega
    have H := markTaskS_own A c n k.toNat lo cs w h.own hn (by omega) hlo
    rw [← hk] at H
    refine H.mono ?_
    rintro e w' ⟨rfl, ho, hb, hg, hs⟩
    exact ⟨by rw [show ((k.toNat + 3 * n : Nat) : Int) = k + 3 * n by omega], ⟨ho, h.top, by rw [hs]; exact h.fit⟩, Touch.of_own hg fun ad ha => h.at_ ad ha (by omega)⟩
theorem heldTaskS_seg (A : Option Addr) (c n : Nat) (k : Int) (w : World) (hr : Row w A (spc (numsSp k.toNat n))) (h0 : 0 ≤ k) (h1 : k ≤ 1000000000) (hn : n ≤ 10000000) :
    Calls Tryd.prog 26 #[.slice A n c, .int .i64 k] w fun e w' => e = .returned (.int .i64 (k + 3 * n)) ∧ w = w' := by
  have hk : k = (k.toNat : Int) := by omega
  have H := heldTaskS_same A c n k.toNat w hr hn (by omega)
  rw [← hk] at H
  refine H.mono ?_
  rintro e w' ⟨rfl, rfl⟩
  exact ⟨by rw [show ((k.toNat + 3 * n : Nat) : Int) = k + 3 * n by omega], rfl⟩
/-- What a function hands back: a list of spans, memory of its own, and a bool. -/
def RetTB (w : World) (r : List Sp × Bool) (e : Ending) (w' : World) : Prop :=
  ∃ A c, e = .returned (.tuple #[.slice A r.1.length c, .bool r.2]) ∧ Seg w' 78 3 w.heap.size w'.heap.size A r.1.length c (spc r.1) ∧ Below w.heap.size w w'
end Go.Proofs.YtejgpecmjfgfbaaDoor

namespace Go.Proofs.YtejgpecmjfgfbaaDoor
set_option linter.unusedSimpArgs false
open Go.RowKit
/-- Two new blocks. -/
theorem two_blocks (wr : World) (t : TypeId) (X Y : Array Value) : Below wr.heap.size wr ((wr.alloc (.cells X t)).alloc (.cells Y t)).drew ∧ BlockIs ((wr.alloc (.cells X t)).alloc (.cells Y t)).drew wr.heap.size t X ∧ BlockIs ((wr.alloc (.cells X t)).alloc (.cells Y t)).drew (wr.heap.size + 1) t Y := by
  have h1 := (Below.refl wr.heap.size wr).alloc (Nat.le_refl _) (.cells X t)
  have e : (wr.alloc (.cells X t)).heap.size = wr.heap.size + 1 := by simp
  have h2 := BlockIs.new (wr.alloc (.cells X t)) t Y
  rw [e] at h2
  exact ⟨(h1.alloc h1.size _).drew, ((BlockIs.new wr t X).below ((Below.refl _ _).alloc (Nat.le_refl _) _)).drew, h2.drew⟩
end Go.Proofs.YtejgpecmjfgfbaaDoor

namespace Go.Proofs.YtejgpecmjfgfbaaDoor
open Go.RowKit
def soonMTo (es : List Int) (now : Int) (k : Nat) : Int := (es.take k).foldl (fun a e => if now < e ∧ (a < 0 ∨ e < a) then e else a) (-1)
theorem soonMTo_succ (es : List Int) (now : Int) {k : Nat} (hk : k < es.length) : soonMTo es now (k + 1) = if now < es[k] ∧ (soonMTo es now k < 0 ∨ es[k] < soonMTo es now k) then es[k] else soonMTo es now k := by
  unfold soonMTo
  rw [List.take_succ_eq_append_getElem hk, List.foldl_append]
  rfl
set_option maxRecDepth 100000 in
set_option maxHeartbeats 1000000 in
theorem l7Soon_any (A : Option Addr) (c : Nat) (es : List Int) (now : Int) (w : World) (hr : Row w A (ic es)) (hn : es.length ≤ 1000) :
    Calls Tryd.prog 76 #[.slice A es.length c, .int .i64 now] w fun e w' => e = .returned (.int .i64 (soonM es now)) ∧ w = w' := by
  have HS := Lib.hid (fun k (hk : k < es.length) => soonMTo_succ es now hk)
  have HF : Hid (soonMTo es now es.length = soonM es now) := by show _ = _; unfold soonMTo soonM; rw [List.take_length]
  have H0 : Hid (soonMTo es now 0 = -1) := rfl
  go_enter Tryd.func76, Tryd.ntmps76
  go_wp2
  go_loop [5, 6] (fun ov iv => ∃ k : Nat, k ≤ es.length ∧ iv = .int .i64 (k : Int) ∧ ov = .int .i64 (soonMTo es now k)) (fun _ iv => es.length - (intOf iv).toNat)
  case atStart => exact ⟨0, Nat.zero_le _, rfl, by rw [H0.out]⟩
  case round =>
    obtain ⟨k, hk, rfl, rfl⟩ := hrel
    by_cases hlt : k < es.length
    · obtain ⟨ad, rfl, hc⟩ := hr.int hlt
      have hs := HS.out k hlt
      have hk0 : (0 : Int) ≤ k := by omega
      have hk1 : (k : Int) < es.length := by omega
      generalize soonMTo es now k = a at *
      generalize es[k] = e at *
      by_cases h1 : now < e
      · by_cases h2 : a < 0
        · rw [if_pos ⟨h1, .inl h2⟩] at hs
          have HR := Lib.hid hs
          clear hs
          go_wp2
          go_round
          case rel => exact ⟨k + 1, by omega, by go_num, by rw [HR.out]⟩
          case measure => simp [intOf]; omega
        · by_cases h3 : e < a
          · rw [if_pos ⟨h1, .inr h3⟩] at hs
            have HR := Lib.hid hs
            clear hs
            go_wp2
            go_round
            case rel => exact ⟨k + 1, by omega, by go_num, by rw [HR.out]⟩
            case measure => simp [intOf]; omega
          · rw [if_neg (fun h => h.2.elim h2 h3)] at hs
            have HR := Lib.hid hs
            clear hs
            go_wp2
            go_round
            case rel => exact ⟨k + 1, by omega, by go_num, by rw [HR.out]⟩
            case measure => simp [intOf]; omega
      · rw [if_neg (fun h => h1 h.1)] at hs
        have HR := Lib.hid hs
        clear hs
        go_wp2
        go_round
        case rel => exact ⟨k + 1, by omega, by go_num, by rw [HR.out]⟩
        case measure => simp [intOf]; omega
    · obtain rfl : k = es.length := by omega
      go_wp2
      go_ret
      exact ⟨by rw [HF.out]; rfl, rfl⟩
def canTo (T : Nat → Nat → Bool) (ends : List Int) (now : Int) (j l : Nat) : Bool := (List.range l).all fun k => !(T k j) || decide (endAt ends k ≤ now)
theorem canTo_succ (T : Nat → Nat → Bool) (ends : List Int) (now : Int) (j l : Nat) : canTo T ends now j (l + 1) = (canTo T ends now j l && (!(T l j) || decide (endAt ends l ≤ now))) := by
  unfold canTo; rw [List.range_succ, List.all_append]; simp
def pickV : Option Nat → Int
  | none => -1
  | some j => (j : Int)
theorem pick_none {n : Nat} {T : Nat → Nat → Bool} {ord : List Nat} {ends : List Int} {now : Int} (h : ∀ i (hi : i < ord.length), ¬ (endAt ends ord[i] = 1000 ∧ canS n T ends now ord[i] = true)) : pickJ n T ord ends now = none := by
  unfold pickJ leftL
  rw [List.find?_filter, List.find?_eq_none]
  intro x hx
  obtain ⟨i, hi, rfl⟩ := List.getElem_of_mem hx
  have := h i hi
  cases hc : canS n T ends now ord[i]
  · simp
  · have h0 : ¬ endAt ends ord[i] = 1000 := fun e => this ⟨e, hc⟩
    simp [h0]
theorem pick_some {n : Nat} {T : Nat → Nat → Bool} {ord : List Nat} {ends : List Int} {now : Int} {k : Nat} (hk : k < ord.length) (h1 : endAt ends ord[k] = 1000) (h2 : canS n T ends now ord[k] = true) (h : ∀ i (hi : i < k), ¬ (endAt ends (ord[i]'(by omega)) = 1000 ∧ canS n T ends now (ord[i]'(by omega)) = true)) : pickJ n T ord ends now = some ord[k] := by
  unfold pickJ leftL
  rw [List.find?_filter, List.find?_eq_some_iff_getElem]
  refine ⟨by simp [h1, h2], k, hk, rfl, fun i hi => ?_⟩
  have := h i hi
  cases hc : canS n T ends now (ord[i]'(by omega))
  · simp
  · have h0 : ¬ endAt ends (ord[i]'(by omega)) = 1000 := fun e => this ⟨e, hc⟩
    simp [h0]
theorem intAt {w : World} {ad : Addr} {xs : List Int} (h : Row w (some ad) (ic xs)) {k : Nat} (hk : k < xs.length) : w.cell? (ad.add k) = some (.int .i64 xs[k]) := by
  obtain ⟨a, ha, hc⟩ := h.int hk
  injection ha with ha
  subst ha
  exact hc
section
variable {Bs n cc : Nat} {Av : Option Addr} {T : Nat → Nat → Bool} {gs : List Nat} {ord : List Nat} {ends : List Int} {w : World}
set_option maxRecDepth 100000 in
set_option maxHeartbeats 4000000 in
theorem l7Next_any (D F : Option Addr) (d f : Nat) (now : Int) (hTb : TabR Bs n T gs (.slice Av gs.length cc) w) (hgl : gs.length = n) (hn8 : n ≤ 8) (ho : Row w D (ic (natI ord))) (hol : ord.length ≤ 8) (hord : ∀ j ∈ ord, j < n)
    (he : Row w F (ic (ends.map endM))) (hel : ends.length = n) (hends : ∀ k, k < n → endAt ends k = 1000 ∨ (0 < endAt ends k ∧ endAt ends k ≤ 400)) (hn0 : 0 ≤ now ∧ now ≤ 400) :
    Calls Tryd.prog 75 #[.slice Av gs.length cc, .slice D ord.length d, .slice F n f, .int .i64 now] w fun e w' => e = .returned (.int .i64 (pickV (pickJ n T ord ends now))) ∧ Below w.heap.size w w' := by
  have HTB := Lib.hid hTb
  have HO := Lib.hid ho
  have HE := Lib.hid he
  have HGL := Lib.hid hgl
  have HORD := Lib.hid hord
  have HEND := Lib.hid hends
  have HCS := Lib.hid (fun j l => canTo_succ T ends now j l)
  have HC0 : Hid (∀ j, canTo T ends now j 0 = true) := fun j => rfl
  have HCN : Hid (∀ j, canTo T ends now j n = canS n T ends now j) := fun j => rfl
  have HEL : Hid (ends.length = n) := hel
  have HEM : Hid (∀ k (hk : k < ends.length), (ic (ends.map endM)).length = n ∧ (ends.map endM)[k]'(by simpa using hk) = endM (endAt ends k)) := fun k hk => ⟨by rw [ic_len, List.length_map, hel], by unfold endAt; simp [hk]⟩
  clear hTb ho he hgl hord hends hel
  go_enter Tryd.func75, Tryd.ntmps75
  go_wp2
  go_loopw [9] (fun iv wr => ∃ k : Nat, k ≤ ord.length ∧ iv = .int .i64 (k : Int) ∧ Hid (∀ i (hi : i < ord.length), i < k → ¬ (endAt ends ord[i] = 1000 ∧ canS n T ends now ord[i] = true)) ∧ Hid (Below w.heap.size w wr)) (fun iv _ => ord.length - (intOf iv).toNat)
  case atStart => exact ⟨0, Nat.zero_le _, rfl, fun i _ hi => absurd hi (Nat.not_lt_zero i), Below.refl _ _⟩
  case round =>
    obtain ⟨k, hk, rfl, hP, hb⟩ := hrel
    by_cases hlt : k < ord.length
    · obtain ⟨ad, rfl, hcx⟩ := (HO.out.below hb.out).int (k := k) (by unfold natI; simpa using hlt)
      clear hcx
      have hjn := HORD.out ord[k] (List.getElem_mem hlt)
      have HOC : Hid (∀ W, Below w.heap.size w W → W.cell? (ad.add k) = some (.int .i64 ((ord[k] : Nat) : Int))) := fun W hW => by
        rw [intAt (HO.out.below hW) (k := k) (by unfold natI; simpa using hlt)]
        congr 2
        unfold natI
        simp
      have hPS : Hid (endAt ends ord[k] = 1000 → canS n T ends now ord[k] = true → pickJ n T ord ends now = some ord[k]) := fun h1 h2 => pick_some hlt h1 h2 fun i hi => hP.out i (by omega) hi
      have hPN : Hid (¬ (endAt ends ord[k] = 1000 ∧ canS n T ends now ord[k] = true) → ∀ i (hi : i < ord.length), i < k + 1 → ¬ (endAt ends ord[i] = 1000 ∧ canS n T ends now ord[i] = true)) := fun h i hi hik => by
        rcases Nat.lt_succ_iff_lt_or_eq.1 hik with h1 | h1
        · exact hP.out i hi h1
        · subst h1; exact h
      obtain ⟨fa, hfa, hcx⟩ := (HE.out.below hb.out).int (k := ord[k]) (by rw [List.length_map, HEL.out]; exact hjn)
      subst hfa
      clear hcx
      have HEC : Hid (∀ W, Below w.heap.size w W → ∀ l, l < n → W.cell? (fa.add l) = some (.int .i64 (endM (endAt ends l)))) := fun W hW l hl => by
        rw [intAt (HE.out.below hW) (k := l) (by rw [List.length_map, HEL.out]; exact hl), (HEM.out l (by rw [HEL.out]; exact hl)).2]
      have hoc := HOC.out wr hb.out
      have hec := HEC.out wr hb.out _ hjn
      have hen := HEND.out ord[k] hjn
      have hk0 : (0 : Int) ≤ k := by omega
      have hk1 : (k : Int) < ord.length := by omega
      clear hP
      obtain ⟨j, hj⟩ : ∃ j, ord[k] = j := ⟨_, rfl⟩
      rw [hj] at hjn HOC hPS hPN hoc hec hen
      clear hj
      have hj0 : (0 : Int) ≤ j := by omega
      have hj1 : (j : Int) < n := by omega
      by_cases hst : endAt ends j = 1000
      · have hem : endM (endAt ends j) = -1 := by unfold endM; rw [if_pos hst]
        rw [hem] at hec
        have hPS2 := Lib.hid (hPS.out hst)
        clear hen hem hst hPS
        go_wp2
        clear hec hoc
        go_loopw [10, 11] (fun mv lv ws => ∃ l : Nat, l ≤ n ∧ lv = .int .i64 (l : Int) ∧ mv = .bool (canTo T ends now j l) ∧ Hid (Below w.heap.size w ws)) (fun _ lv _ => n - (intOf lv).toNat)
        case atStart => exact ⟨0, Nat.zero_le _, rfl, by rw [HC0.out], hb.out⟩
        case round =>
          obtain ⟨l, hl, rfl, rfl, hbs⟩ := hrel
          by_cases hll : l < n
          · obtain ⟨g1, c1, q, hV, hq, hcell, _, _, _, hrow⟩ := (HTB.out.below hbs.out).at_ (i := l) (by rw [HGL.out]; exact hll)
            injection hV with hV1 _ hV2
            subst hV1 hV2
            have hct := hrow j (by omega)
            have hoc := HOC.out wr hbs.out
            have hec := HEC.out wr hbs.out l hll
            have hen := HEND.out l hll
            have hcs := HCS.out j l
            have hl0 : (0 : Int) ≤ l := by omega
            have hl1 : (l : Int) < n := by omega
            have hlg : (l : Int) < gs.length := by rw [HGL.out]; omega
            have HB := Lib.hid (below_drewN hbs.out 1)
            clear hrow hq
            generalize canTo T ends now j l = cl at *
            generalize T l j = tlj at *
            cases tlj
            · rw [Bool.not_false, Bool.true_or, Bool.and_true] at hcs
              have HR := Lib.hid hcs
              clear hcs hen
              go_wp2
              go_quiet (fail)
              go_wp2
              go_roundw
              case rel => exact ⟨l + 1, by omega, by go_num, by rw [HR.out], below_drewN hbs.out _⟩
              case measure => simp [intOf]; omega
            · rw [Bool.not_true, Bool.false_or] at hcs
              by_cases hst2 : endAt ends l = 1000
              · have hem : endM (endAt ends l) = -1 := by unfold endM; rw [if_pos hst2]
                rw [hem] at hec
                rw [decide_eq_false (by omega), Bool.and_false] at hcs
                have HR := Lib.hid hcs
                clear hcs hen hem hst2
                go_wp2
                go_quiet (fail)
                go_wp2
                go_roundw
                case rel => exact ⟨l + 1, by omega, by go_num, by rw [HR.out], below_drewN hbs.out _⟩
                case measure => simp [intOf]; omega
              · have hem : endM (endAt ends l) = endAt ends l := by unfold endM; rw [if_neg hst2]
                rw [hem] at hec
                have he0 : decide (endAt ends l < 0) = false := decide_eq_false (by omega)
                clear hem
                generalize endAt ends l = el at *
                by_cases hne : now < el
                · rw [decide_eq_false (by omega), Bool.and_false] at hcs
                  have HR := Lib.hid hcs
                  clear hcs hen hst2
                  go_wp2
                  go_quiet (fail)
                  go_wp2
                  go_roundw
                  case rel => exact ⟨l + 1, by omega, by go_num, by rw [HR.out], below_drewN hbs.out _⟩
                  case measure => simp [intOf]; omega
                · rw [decide_eq_true (by omega), Bool.and_true] at hcs
                  have hne2 : decide (now < el) = false := decide_eq_false hne
                  have HR := Lib.hid hcs
                  clear hcs hen hst2
                  go_wp2
                  go_quiet (fail)
                  go_wp2
                  go_roundw
                  case rel => exact ⟨l + 1, by omega, by go_num, by rw [HR.out], below_drewN hbs.out _⟩
                  case measure => simp [intOf]; omega
          · obtain rfl : l = n := by omega
            rw [HCN.out]
            have hoc := HOC.out wr hbs.out
            cases hcn : canS l T ends now j
            · have HPX := Lib.hid (hPN.out (fun h => by rw [hcn] at h; cases h.2))
              clear hcn hPS2 hPN
              go_wp2
              go_roundw
              case rel => exact ⟨k + 1, by omega, by go_num, HPX.out, hbs.out⟩
              case measure => simp [intOf]; omega
            · have HPX := Lib.hid (hPS2.out hcn)
              clear hcn hPS2 hPN
              go_wp2
              go_ret
              exact ⟨by rw [HPX.out]; rfl, hbs.out⟩
      · have hem : endM (endAt ends j) = endAt ends j := by unfold endM; rw [if_neg hst]
        rw [hem] at hec
        have HPX := Lib.hid (hPN.out (fun h => hst h.1))
        have he0 : (0 : Int) ≤ endAt ends j := by omega
        clear hen hem hPS hPN
        generalize endAt ends j = ej at *
        clear hst
        go_wp2
        go_roundw
        case rel => exact ⟨k + 1, by omega, by go_num, HPX.out, hb.out⟩
        case measure => simp [intOf]; omega
    · obtain rfl : k = ord.length := by omega
      have HPN := Lib.hid (pick_none fun i hi => hP.out i hi hi)
      clear hP
      go_wp2
      go_ret
      exact ⟨by rw [HPN.out]; rfl, hb.out⟩
end

theorem rowOf {w : World} {g : Nat} {t : TypeId} {xs : List Int} (h : BlockIs w g t (ic xs).toArray) : Row w (some ⟨g, 0, none⟩) (ic xs) := fun _ => ⟨_, rfl, h.lt, fun j u hu => by
  have h2 := h.cell j
  unfold Addr.add
  by_cases hj : j = 0
  · subst hj; rw [if_pos rfl, h2, ← Array.getElem?_toList]; exact hu
  · rw [if_neg hj]; simp only [Nat.zero_add]; rw [h2, ← Array.getElem?_toList]; exact hu⟩
theorem BlockIs.to {w : World} {g : Nat} {t : TypeId} {cs ds : Array Value} (h : BlockIs w g t cs) (e : cs = ds) : BlockIs w g t ds := by subst e; exact h
theorem cell3 (n : Nat) : madeCells #[.int .i64 0, .int .i64 0, .int .i64 0] (n * 3) = (spc (List.replicate n ⟨0, 0, 0⟩)).toArray := by
  have hz : ∀ v ∈ spc (List.replicate n ⟨0, 0, 0⟩), v = .int .i64 0 := by
    intro v hv
    unfold spc at hv
    rw [List.mem_flatMap] at hv
    obtain ⟨s, hs, hv⟩ := hv
    rw [List.eq_of_mem_replicate hs] at hv
    simpa [cellsSp] using hv
  apply Array.ext
  · rw [size_madeCells]; simp [spc_len, Nat.mul_comm]
  · intro i h1 h2
    have e2 : (spc (List.replicate n ⟨0, 0, 0⟩)).toArray[i] = .int .i64 0 := by
      rw [List.getElem_toArray]
      exact hz _ (List.getElem_mem _)
    rw [e2]
    have h3 : i % 3 < 3 := Nat.mod_lt _ (by decide)
    rcases (by omega : i % 3 = 0 ∨ i % 3 = 1 ∨ i % 3 = 2) with h | h | h <;> simp [madeCells, h]
theorem neg_step {n k : Nat} (hk : k < n) : (List.replicate k (-1 : Int) ++ List.replicate (n - k) 0).set k (-1) = List.replicate (k + 1) (-1) ++ List.replicate (n - (k + 1)) 0 := by
  rw [List.set_append_right _ _ (by simp), List.length_replicate, Nat.sub_self, show n - k = (n - (k + 1)) + 1 by omega, List.replicate_succ, List.set_cons_zero, List.replicate_succ', List.append_assoc]
  rfl
theorem neg_all (n : Nat) : List.replicate n (-1 : Int) ++ List.replicate (n - n) 0 = (List.replicate n 1000).map endM := by simp [endM]
/-- The model's lists of a state: they lie in three blocks in a row. -/
def LsW (w1 : World) (s : LsS) (wr : World) : Prop := Below w1.heap.size w1 wr ∧ BlockIs wr w1.heap.size 78 (spc s.plan).toArray ∧ BlockIs wr (w1.heap.size + 1) 3 (ic (s.ends.map endM)).toArray ∧ BlockIs wr (w1.heap.size + 2) 3 (ic s.free).toArray
theorem LsW.below {w1 wr wq : World} {s : LsS} (h : LsW w1 s wr) (hb : Below wr.heap.size wr wq) : LsW w1 s wq := ⟨h.1.trans (hb.mono h.1.size), h.2.1.below hb, h.2.2.1.below hb, h.2.2.2.below hb⟩
theorem spc_set (ss : List Sp) (j : Nat) (x : Sp) (hj : j < ss.length) : set3 (spc ss).toArray (j * 3) x = (spc (ss.set j x)).toArray := by
  apply Array.ext'
  apply List.ext_getElem?
  intro i
  unfold set3
  simp only [Array.getElem?_toList, Array.getElem?_setIfInBounds, List.getElem?_toArray, Array.size_setIfInBounds, List.size_toArray, spc_len]
  have hd := Nat.div_add_mod i 3
  have h3 : i % 3 < 3 := Nat.mod_lt _ (by decide)
  by_cases hi : i < 3 * ss.length
  · have hq : i / 3 < ss.length := by omega
    have e1 := spc_get ss (i / 3) (i % 3) hq h3
    have e2 := spc_get (ss.set j x) (i / 3) (i % 3) (by simpa using hq) h3
    rw [show i / 3 * 3 + i % 3 = i by omega] at e1 e2
    rw [e1, e2, List.getElem_set]
    by_cases hji : j = i / 3
    · rw [if_pos hji]
      rcases (by omega : i % 3 = 0 ∨ i % 3 = 1 ∨ i % 3 = 2) with h | h | h
      · rw [if_neg (by omega), if_neg (by omega), if_pos (by omega), if_pos (by omega), h]; rfl
      · rw [if_neg (by omega), if_pos (by omega), if_pos (by omega), h]; rfl
      · rw [if_pos (by omega), if_pos (by omega), h]; rfl
    · rw [if_neg hji, if_neg (by omega), if_neg (by omega), if_neg (by omega)]
  · rw [if_neg (by omega), if_neg (by omega), if_neg (by omega), List.getElem?_eq_none (by rw [spc_len]; omega), List.getElem?_eq_none (by rw [spc_len, List.length_set]; omega)]

theorem LsW.assign {w1 wr : World} {s : LsS} (h : LsW w1 s wr) (js : List J) (now : Int) (k j : Nat) (hj : j < s.plan.length) (he : now + jAt js j ≠ 1000) :
    LsW w1 (assignL js s now k j) (((((wr.setCell ⟨w1.heap.size, j * 3, none⟩ (.int .i64 (j : Int))).setCell ⟨w1.heap.size, j * 3 + 1, none⟩ (.int .i64 (k : Int))).setCell ⟨w1.heap.size, j * 3 + 2, none⟩ (.int .i64 now)).setCell ⟨w1.heap.size + 1, j, none⟩ (.int .i64 (now + jAt js j))).setCell ⟨w1.heap.size + 2, k, none⟩ (.int .i64 (now + jAt js j))) := by
  have h1 := h.2.1.set3 (j * 3) ⟨(j : Int), (k : Int), now⟩
  rw [spc_set s.plan j _ hj] at h1
  have hem : endM (now + jAt js j) = now + jAt js j := by unfold endM; rw [if_neg he]
  have h2 := (((h.2.2.1.away (g' := w1.heap.size) (by omega) (j * 3) (.int .i64 (j : Int))).away (g' := w1.heap.size) (by omega) (j * 3 + 1) (.int .i64 (k : Int))).away (g' := w1.heap.size) (by omega) (j * 3 + 2) (.int .i64 now)).set j (.int .i64 (now + jAt js j))
  rw [ic_set] at h2
  have hms : (s.ends.map endM).set j (now + jAt js j) = (s.ends.set j (now + jAt js j)).map endM := by rw [List.map_set, hem]
  rw [hms] at h2
  have h3 := ((((h.2.2.2.away (g' := w1.heap.size) (by omega) (j * 3) (.int .i64 (j : Int))).away (g' := w1.heap.size) (by omega) (j * 3 + 1) (.int .i64 (k : Int))).away (g' := w1.heap.size) (by omega) (j * 3 + 2) (.int .i64 now)).away (g' := w1.heap.size + 1) (by omega) j (.int .i64 (now + jAt js j))).set k (.int .i64 (now + jAt js j))
  rw [ic_set] at h3
  have hb := ((((h.1.setCell (p := ⟨w1.heap.size, j * 3, none⟩) (Nat.le_refl _) (.int .i64 (j : Int))).setCell (p := ⟨w1.heap.size, j * 3 + 1, none⟩) (Nat.le_refl _) (.int .i64 (k : Int))).setCell (p := ⟨w1.heap.size, j * 3 + 2, none⟩) (Nat.le_refl _) (.int .i64 now)).setCell (p := ⟨w1.heap.size + 1, j, none⟩) (Nat.le_succ _) (.int .i64 (now + jAt js j))).setCell (p := ⟨w1.heap.size + 2, k, none⟩) (by show w1.heap.size ≤ w1.heap.size + 2; omega) (.int .i64 (now + jAt js j))
  exact ⟨hb, (h1.away (by omega) j _).away (by omega) k _, h2.away (by omega) k _, h3⟩
theorem perm_parts {n : Nat} {ord : List Nat} (hp : ord.Perm (List.range n)) : ord.length = n ∧ ord.Nodup ∧ (∀ j ∈ ord, j < n) ∧ ∀ j, j < n → j ∈ ord :=
  ⟨by simpa using hp.length_eq, hp.nodup_iff.2 List.nodup_range, fun j hj => List.mem_range.1 (hp.mem_iff.1 hj), fun j hj => hp.mem_iff.2 (List.mem_range.2 hj)⟩
theorem left_less {ord : List Nat} {ends : List Int} (h : ord.Nodup) {n : Nat} {T : Nat → Nat → Bool} {now : Int} {j : Nat} {e : Int} (hp : pickJ n T ord ends now = some j) (hj : j < ends.length) (he : e ≠ 1000) : (leftL ord (ends.set j e)).length + 1 = (leftL ord ends).length := by
  obtain ⟨p, hpl, hpj⟩ := List.getElem_of_mem (List.mem_of_find?_eq_some hp)
  rw [← left_erase h hj he hpl hpj, List.length_eraseIdx_of_lt hpl]
  omega
theorem step_none {js : List J} {T : Nat → Nat → Bool} {ord : List Nat} {now : Int} {s : LsS} {k : Nat} (h : pickJ js.length T ord s.ends now = none) : stepL js T ord now s k = s := by
  unfold stepL; rw [h]; split <;> rfl
theorem step_late {js : List J} {T : Nat → Nat → Bool} {ord : List Nat} {now : Int} {s : LsS} {k : Nat} (h : ¬ s.free.getD k 0 ≤ now) : stepL js T ord now s k = s := by
  unfold stepL; rw [if_neg h]
theorem step_some {js : List J} {T : Nat → Nat → Bool} {ord : List Nat} {now : Int} {s : LsS} {k j : Nat} (h : s.free.getD k 0 ≤ now) (hp : pickJ js.length T ord s.ends now = some j) : stepL js T ord now s k = assignL js s now k j := by
  unfold stepL; rw [if_pos h, hp]
set_option maxRecDepth 100000 in
set_option maxHeartbeats 4000000 in
theorem l7List_any (A C D : Option Addr) (c d b : Nat) (js : List J) (mm : Nat) (E : List Pr) (ord : List Nat) (w : World) (hr : Row w A (jc js)) (hq : Row w C (pc E)) (ho : Row w D (ic (natI ord))) (hl : E.length ≤ 10000000) (hok : ∀ j ∈ js, okJ j = true) (h8 : js.length ≤ 8) (hirr : irrB js.length E js.length = true) (hE : EdsIn js.length E) (hm : 1 ≤ mm ∧ mm ≤ 4) (hp : ord.Perm (List.range js.length)) :
    Calls Tryd.prog 44 #[.slice A js.length c, .int .i64 (mm : Int), .slice C E.length d, .slice D ord.length b] w fun e w' => ∃ g, e = .returned (.slice (some ⟨g, 0, none⟩) js.length js.length) ∧ w.heap.size ≤ g ∧ BlockIs w' g 78 (spc (listL js (tabB js.length E) ord mm)).toArray ∧ Below w.heap.size w w' := by
  obtain ⟨hol, hnd, hord, hall⟩ := perm_parts hp
  have hmkP := run_make_rows (P := Tryd.prog) 27 78 (.agg #[.int .i64 0, .int .i64 0, .int .i64 0]) 3 24 Tryd.underlying27 infoSp .i64 .i64 js.length (by omega) (by omega)
  have hmkE := run_make_row' (P := Tryd.prog) 24 3 (.int .i64 0) 8 Tryd.underlying24 infoI rfl .i64 .i64 js.length (by omega) (by omega)
  have hmkF := run_make_row' (P := Tryd.prog) 24 3 (.int .i64 0) 8 Tryd.underlying24 infoI rfl .i64 .i64 mm (by omega) (by omega)
  have HTB := Lib.hid (l4Table_any C d js.length E w hq hl h8 hE)
  have HR := Lib.hid hr
  have HO := Lib.hid ho
  have HOK := Lib.hid hok
  have HORD := Lib.hid hord
  have HND := Lib.hid hnd
  have HOL := Lib.hid hol
  have HRUNS := Lib.hid (fun (now : Int) (s : LsS) (h : OkL js mm now s) (hl : leftL ord s.ends ≠ []) => runs_after h hok h8 hord hall hirr (by omega) hl)
  clear hr hq ho hE hirr hp hall hok hord hnd hol
  obtain ⟨T, hT⟩ : ∃ T, tabB js.length E = T := ⟨_, rfl⟩
  rw [hT] at HTB HRUNS ⊢
  clear hT
  have HRES : Hid (listL js T ord mm = runL js T ord mm 1001 0 (initL js.length mm)) := rfl
  generalize listL js T ord mm = RES at HRES ⊢
  go_enter Tryd.func44, Tryd.ntmps44
  go_wp2_with fail
  refine HTB.out.mono ?_
  rintro e w1 ⟨gs, v, rfl, hT, hgl, hb1⟩
  obtain ⟨Av, cv, rfl, _, _⟩ := own_slice hT.1
  have HT := Lib.hid hT
  have HB1 := Lib.hid hb1
  have HGL := Lib.hid hgl
  have h1 := (Below.refl w1.heap.size w1).alloc (Nat.le_refl _) (.cells (madeCells #[.int .i64 0, .int .i64 0, .int .i64 0] (js.length * 3)) 78)
  have h1P := BlockIs.new w1 78 (madeCells #[.int .i64 0, .int .i64 0, .int .i64 0] (js.length * 3))
  have h2 := h1.alloc h1.size (.cells (madeCells #[.int .i64 0] js.length) 3)
  have h2P := h1P.below ((Below.refl _ _).alloc (Nat.le_refl _) (.cells (madeCells #[.int .i64 0] js.length) 3))
  have h2E := BlockIs.new (w1.alloc (.cells (madeCells #[.int .i64 0, .int .i64 0, .int .i64 0] (js.length * 3)) 78)) 3 (madeCells #[.int .i64 0] js.length)
  rw [World.size_alloc] at h2E
  have H0 := Lib.hid (And.intro h2 (And.intro (h2P.to (cell3 _)) (h2E.to (ic_made _))))
  clear hT hb1 HTB hgl h1 h1P h2 h2P h2E
  go_wp2
  go_loopw [13] (fun iv wr => ∃ k : Nat, k ≤ js.length ∧ iv = .int .i64 (k : Int) ∧ Hid (wr.heap.size = w1.heap.size + 2) ∧ Hid (Below w1.heap.size w1 wr ∧ BlockIs wr w1.heap.size 78 (spc (List.replicate js.length ⟨0, 0, 0⟩)).toArray ∧ BlockIs wr (w1.heap.size + 1) 3 (ic (List.replicate k (-1) ++ List.replicate (js.length - k) 0)).toArray)) (fun iv _ => js.length - (intOf iv).toNat)
  case atStart => exact ⟨0, Nat.zero_le _, rfl, by show _ = _; simp, by rw [List.replicate_zero, List.nil_append, Nat.sub_zero]; exact H0.out⟩
  case round =>
    obtain ⟨k, hk, rfl, HWF, HW⟩ := hrel
    clear H0 hmkP hmkE
    by_cases hlt : k < js.length
    · have hce := HW.out.2.2.int (k := k) (by simp; omega)
      have hfe := HW.out.2.2.frozen k
      have hk0 : (0 : Int) ≤ k := by omega
      have hk1 : (k : Int) < js.length := by omega
      have hB' := HW.out.2.2.set k (.int .i64 (-1))
      rw [ic_set, neg_step hlt] at hB'
      have HY := Lib.hid (And.intro (HW.out.1.setCell (p := ⟨w1.heap.size + 1, k, none⟩) (Nat.le_succ _) (.int .i64 (-1))) (And.intro (HW.out.2.1.away (g' := w1.heap.size + 1) (by omega) k (.int .i64 (-1))) hB'))
      clear hB' HW
      go_wp2
      go_roundw
      case rel => exact ⟨k + 1, by omega, by go_num, by show _ = _; rw [← HWF.out]; simp [World.setCell], HY.out⟩
      case measure => simp [intOf]; omega
    · obtain rfl : k = js.length := by omega
      have h3 := HW.out.1.alloc HW.out.1.size (.cells (madeCells #[.int .i64 0] mm) 3)
      have h3P := HW.out.2.1.below ((Below.refl _ _).alloc (Nat.le_refl _) (.cells (madeCells #[.int .i64 0] mm) 3))
      have h3E := HW.out.2.2.below ((Below.refl _ _).alloc (Nat.le_refl _) (.cells (madeCells #[.int .i64 0] mm) 3))
      have h3F := BlockIs.new wr 3 (madeCells #[.int .i64 0] mm)
      rw [neg_all] at h3E
      rw [HWF.out] at h3F
      have H1 : Hid (LsW w1 (initL js.length mm) (wr.alloc (.cells (madeCells #[.int .i64 0] mm) 3))) := ⟨h3, h3P, h3E, h3F.to (ic_made _)⟩
      have hws := HWF.out
      clear h3 h3P h3E h3F HW HWF
      obtain ⟨wz, hwz⟩ : ∃ x, x = wr := ⟨wr, rfl⟩
      subst hwz
      go_wp2
      clear hmkF
      go_loopw [15, 16] (fun nv lv wr => ∃ (i : Nat) (tt : Int) (s : LsS), Hid (OkL js mm tt s) ∧ Hid (runL js T ord mm (1001 - i) tt s = RES) ∧ Hid ((i : Int) ≤ tt) ∧ nv = .int .i64 tt ∧ lv = .int .i64 ((leftL ord s.ends).length : Int) ∧ Hid (LsW w1 s wr)) (fun nv _ _ => 1001 - (intOf nv).toNat)
      case atStart => exact ⟨0, 0, initL js.length mm, ok_init, HRES.out.symm, Int.le_refl _, rfl, by rw [show leftL ord (initL js.length mm).ends = ord from left_init, HOL.out], H1.out⟩
      case round =>
        obtain ⟨i, tt, s, hOk, hRun, hI, rfl, rfl, hW⟩ := hrel
        clear H1
        by_cases hle : leftL ord s.ends = []
        · have HP := Lib.hid (run_end hRun.out hle)
          rw [hle]
          clear hRun hI hle
          go_wp2
          go_ret
          exact ⟨w1.heap.size, rfl, HB1.out.size, hW.out.2.1.to (by rw [HP.out]), HB1.out.trans (hW.out.1.mono HB1.out.size)⟩
        · have hpos : 0 < (leftL ord s.ends).length := List.length_pos_iff.2 hle
          have hn0 := hOk.out.n0
          have hn1 := (hOk.out.bd HOK.out h8).1
          have HRA := Lib.hid (HRUNS.out tt s hOk.out hle)
          have H2 := Lib.hid hW.out
          have HMORE : Hid (∀ f, 1001 - i = f + 1 → runL js T ord mm f (soonL (startTo js T ord tt s mm).ends tt) (startTo js T ord tt s mm) = RES) := fun f hf => run_more (by rw [← hf]; exact hRun.out) hle
          clear hW hle hRun
          obtain ⟨wo, hwo⟩ : ∃ x, x = wr := ⟨wr, rfl⟩
          subst hwo
          go_wp2
          go_loopw [16, 17] (fun lv mv wr => ∃ k : Nat, k ≤ mm ∧ mv = .int .i64 (k : Int) ∧ lv = .int .i64 ((leftL ord (startTo js T ord tt s k).ends).length : Int) ∧ Hid (LsW w1 (startTo js T ord tt s k) wr)) (fun _ mv _ => mm - (intOf mv).toNat)
          case atStart => exact ⟨0, Nat.zero_le _, rfl, rfl, H2.out⟩
          case round =>
            obtain ⟨k, hk, rfl, rfl, hW⟩ := hrel
            clear H2 hpos
            by_cases hlt : k < mm
            · have HOK2 := Lib.hid (hOk.out.start (T := T) HOK.out h8 HORD.out k (by omega))
              have HST := Lib.hid (startTo_succ js T ord tt s k)
              generalize startTo js T ord tt s k = q at *
              have hcF := hW.out.2.2.2.int (k := k) (by rw [HOK2.out.lf]; exact hlt)
              have hgd : q.free.getD k 0 = q.free[k]'(by rw [HOK2.out.lf]; exact hlt) := getD_at q.free 0 (by rw [HOK2.out.lf]; exact hlt)
              have HLATE : Hid (¬ q.free.getD k 0 ≤ tt → stepL js T ord tt q k = q) := step_late
              have HSOME : Hid (∀ j, q.free.getD k 0 ≤ tt → pickJ js.length T ord q.ends tt = some j → stepL js T ord tt q k = assignL js q tt k j) := fun j => step_some
              rw [hgd] at HLATE HSOME
              clear hgd
              generalize q.free[k]'(by rw [HOK2.out.lf]; exact hlt) = fk at *
              have hk0 : (0 : Int) ≤ k := by omega
              have hk1 : (k : Int) < mm := by omega
              by_cases hf : fk ≤ tt
              · have HNX := Lib.hid (l7Next_any D (some ⟨w1.heap.size + 1, 0, none⟩) b js.length tt (HT.out.below hW.out.1) HGL.out h8 (HO.out.below (HB1.out.trans (hW.out.1.mono HB1.out.size))) (by rw [HOL.out]; exact h8) HORD.out (rowOf hW.out.2.2.1) HOK2.out.le (fun k hk => by have := HOK2.out.en k hk; have := (HOK2.out.bd HOK.out h8).2; omega) ⟨hn0, hn1⟩)
                go_wp2_with fail
                refine HNX.out.mono ?_
                rintro e w5 ⟨rfl, hb5⟩
                have HW5 := Lib.hid (hW.out.below hb5)
                cases hpk : pickJ js.length T ord q.ends tt with
                | none =>
                  have hs : stepL js T ord tt q k = q := step_none hpk
                  rw [hs] at HST
                  clear hs hpk HNX hW hb5 hcF HLATE HSOME hf
                  simp only [pickV]
                  go_wp2
                  go_roundw
                  case rel => exact ⟨k + 1, by omega, by go_num, by rw [HST.out], by rw [HST.out]; exact HW5.out⟩
                  case measure => simp [intOf]; omega
                | some j =>
                  obtain ⟨hj, hst, _⟩ := pick_out HORD.out hpk
                  have hjp : j < q.plan.length := by rw [HOK2.out.lp]; exact hj
                  have hje : j < q.ends.length := by rw [HOK2.out.le]; exact hj
                  have hjt := jAt_bd HOK.out hj
                  have hs := HSOME.out j hf hpk
                  have HLESS : Hid ((leftL ord (assignL js q tt k j).ends).length + 1 = (leftL ord q.ends).length) := left_less HND.out hpk hje (e := tt + jAt js j) (by omega)
                  have HLL : Hid ((leftL ord q.ends).length ≤ 8) := Nat.le_trans (List.length_filter_le _ _) (by rw [HOL.out]; exact h8)
                  have HAS := Lib.hid (HW5.out.assign js tt k j hjp (by omega))
                  obtain ⟨ad, hA, hbl, hcj1, hc1, hc2, hc3⟩ := (HR.out.below HB1.out).job hj
                  have hcj := (HW5.out.1.cell (p := ad.add (j * 4)) (by rw [add_block]; exact hbl)).trans hcj1
                  clear hc1 hc2 hc3 hcj1
                  subst hA
                  have e1 : jAt js j = js[j].t := congrArg J.t (getD_at js j0 hj)
                  rw [← e1] at hcj
                  obtain ⟨v0, hv0⟩ := HW5.out.2.1.has (i := j * 3) (by simp [spc_len]; omega)
                  obtain ⟨v1, hv1⟩ := HW5.out.2.1.has (i := j * 3 + 1) (by simp [spc_len]; omega)
                  obtain ⟨v2, hv2⟩ := HW5.out.2.1.has (i := j * 3 + 2) (by simp [spc_len]; omega)
                  have hf0 := HW5.out.2.1.frozen (j * 3)
                  have hf1 := HW5.out.2.1.frozen (j * 3 + 1)
                  have hf2 := HW5.out.2.1.frozen (j * 3 + 2)
                  obtain ⟨ve, hve⟩ := HW5.out.2.2.1.has (i := j) (by simpa [ic_len] using hje)
                  have hfe := HW5.out.2.2.1.frozen j
                  obtain ⟨vf, hvf⟩ := HW5.out.2.2.2.has (i := k) (by simpa [ic_len, HOK2.out.lf] using hlt)
                  have hff := HW5.out.2.2.2.frozen k
                  have hj0 : (0 : Int) ≤ j := by omega
                  have hj1 : (j : Int) < js.length := by omega
                  have hwr : IntKind.i64.wrap (tt + jAt js j) = tt + jAt js j := IntWalk.i64_in _ (by omega)
                  have hb3 := (((Below.refl w1.heap.size w5).setCell (p := ⟨w1.heap.size, j * 3, none⟩) (Nat.le_refl _) (.int .i64 (j : Int))).setCell (p := ⟨w1.heap.size, j * 3 + 1, none⟩) (Nat.le_refl _) (.int .i64 (k : Int))).setCell (p := ⟨w1.heap.size, j * 3 + 2, none⟩) (Nat.le_refl _) (.int .i64 tt)
                  have hcj3 := (hb3.cell (p := ad.add (j * 4)) (by rw [add_block]; exact hbl)).trans hcj
                  clear hb3
                  rw [hs] at HST
                  clear hs hpk HNX hW hb5 hcF HLATE HSOME hst hjp hje e1
                  simp only [pickV]
                  generalize jAt js j = tj at *
                  go_wp2
                  go_roundw
                  case rel => exact ⟨k + 1, by omega, by go_num, by rw [HST.out, ← HLESS.out]; have := HLL.out; have h2 := HLESS.out; congr 1; unfold wrap64; omega, by rw [HST.out]; exact HAS.out⟩
                  case measure => simp [intOf]; omega
              · have hs : stepL js T ord tt q k = q := HLATE.out hf
                rw [hs] at HST
                clear hs HLATE HSOME
                go_wp2
                go_roundw
                case rel => exact ⟨k + 1, by omega, by go_num, by rw [HST.out], by rw [HST.out]; exact hW.out⟩
                case measure => simp [intOf]; omega
            · obtain rfl : k = mm := by omega
              have HOK2 := Lib.hid (hOk.out.start (T := T) HOK.out h8 HORD.out k (Nat.le_refl _))
              generalize startTo js T ord tt s k = q at *
              have hSO := soon_out HOK2.out HOK.out h8 HRA.out
              have hS4 := (hSO.2.bd HOK.out h8).1
              have hSN := l7Soon_any (some ⟨w1.heap.size + 1, 0, none⟩) js.length (q.ends.map endM) tt wr (rowOf hW.out.2.2.1) (by rw [List.length_map, HOK2.out.le]; omega)
              rw [List.length_map, HOK2.out.le, soonM_eq HOK2.out HOK.out h8 HRA.out] at hSN
              have HSN := Lib.hid hSN
              have HOK3 := Lib.hid hSO.2
              have hS1 := hSO.1
              clear hSN hSO
              generalize soonL q.ends tt = tn at *
              go_wp2_with fail
              refine HSN.out.mono ?_
              rintro e _ ⟨rfl, rfl⟩
              clear HSN
              go_wp2
              go_roundw
              case rel => exact ⟨i + 1, tn, q, HOK3.out, HMORE.out _ (by have := hI.out; omega), by have := hI.out; show _ ≤ _; omega, rfl, rfl, hW.out⟩
              case measure => simp [intOf]; omega
end Go.Proofs.YtejgpecmjfgfbaaDoor

namespace Go.Proofs.YtejgpecmjfgfbaaDoor
open Go.RowKit
def wlC (J : Value) (n : Int) (B : Nat → Nat) : Array Value := #[J, .int .i64 n, .int .u64 (B 0 : Int), .int .u64 (B 1 : Int), .int .u64 (B 2 : Int), .int .u64 (B 3 : Int), .int .u64 (B 4 : Int), .int .u64 (B 5 : Int), .int .u64 (B 6 : Int), .int .u64 (B 7 : Int)]
def wlZ : Array Value := #[.slice none 0 0, .int .i64 0, .int .u64 0, .int .u64 0, .int .u64 0, .int .u64 0, .int .u64 0, .int .u64 0, .int .u64 0, .int .u64 0]
def set10 (w : World) (g : Nat) (J : Value) (n : Int) (B : Nat → Nat) : World := (((((((((w.setCell ⟨g, 0, none⟩ J).setCell ⟨g, 1, none⟩ (.int .i64 n)).setCell ⟨g, 2, none⟩ (.int .u64 (B 0 : Int))).setCell ⟨g, 3, none⟩ (.int .u64 (B 1 : Int))).setCell ⟨g, 4, none⟩ (.int .u64 (B 2 : Int))).setCell ⟨g, 5, none⟩ (.int .u64 (B 3 : Int))).setCell ⟨g, 6, none⟩ (.int .u64 (B 4 : Int))).setCell ⟨g, 7, none⟩ (.int .u64 (B 5 : Int))).setCell ⟨g, 8, none⟩ (.int .u64 (B 6 : Int))).setCell ⟨g, 9, none⟩ (.int .u64 (B 7 : Int))
theorem set10_size (w : World) (g : Nat) (J : Value) (n : Int) (B : Nat → Nat) : (set10 w g J n B).heap.size = w.heap.size := by simp [set10, World.setCell]
theorem set10_cells (cs : Array Value) (hs : cs.size = 10) (J : Value) (n : Int) (B : Nat → Nat) : (((((((((cs.setIfInBounds 0 J).setIfInBounds 1 (.int .i64 n)).setIfInBounds 2 (.int .u64 (B 0 : Int))).setIfInBounds 3 (.int .u64 (B 1 : Int))).setIfInBounds 4 (.int .u64 (B 2 : Int))).setIfInBounds 5 (.int .u64 (B 3 : Int))).setIfInBounds 6 (.int .u64 (B 4 : Int))).setIfInBounds 7 (.int .u64 (B 5 : Int))).setIfInBounds 8 (.int .u64 (B 6 : Int))).setIfInBounds 9 (.int .u64 (B 7 : Int)) = wlC J n B := by
  apply Array.ext
  · simp [hs, wlC]
  · intro i h1 h2
    have : i < 10 := h2
    rcases (by omega : i = 0 ∨ i = 1 ∨ i = 2 ∨ i = 3 ∨ i = 4 ∨ i = 5 ∨ i = 6 ∨ i = 7 ∨ i = 8 ∨ i = 9) with rfl | rfl | rfl | rfl | rfl | rfl | rfl | rfl | rfl | rfl <;> simp [wlC, hs]
theorem block_set10 {w : World} {g : Nat} {cs : Array Value} (h : BlockIs w g 72 cs) (hs : cs.size = 10) (J : Value) (n : Int) (B : Nat → Nat) : BlockIs (set10 w g J n B) g 72 (wlC J n B) := by
  have := (((((((((h.set 0 J).set 1 (.int .i64 n)).set 2 (.int .u64 (B 0 : Int))).set 3 (.int .u64 (B 1 : Int))).set 4 (.int .u64 (B 2 : Int))).set 5 (.int .u64 (B 3 : Int))).set 6 (.int .u64 (B 4 : Int))).set 7 (.int .u64 (B 5 : Int))).set 8 (.int .u64 (B 6 : Int))).set 9 (.int .u64 (B 7 : Int))
  rw [set10_cells cs hs J n B] at this
  exact this
theorem below_set10 {H : Nat} {w0 w : World} (h : Below H w0 w) {g : Nat} (hg : H ≤ g) (J : Value) (n : Int) (B : Nat → Nat) : Below H w0 (set10 w g J n B) :=
  (((((((((h.setCell (p := ⟨g, 0, none⟩) hg _).setCell (p := ⟨g, 1, none⟩) hg _).setCell (p := ⟨g, 2, none⟩) hg _).setCell (p := ⟨g, 3, none⟩) hg _).setCell (p := ⟨g, 4, none⟩) hg _).setCell (p := ⟨g, 5, none⟩) hg _).setCell (p := ⟨g, 6, none⟩) hg _).setCell (p := ⟨g, 7, none⟩) hg _).setCell (p := ⟨g, 8, none⟩) hg _).setCell (p := ⟨g, 9, none⟩) hg _
theorem load10 {g : Nat} {cs : Array Value} {w : World} (h : BlockIs w g 72 cs) (hs : cs.size = 10) : (loadVar 72 ⟨g, 0, none⟩).run Tryd.prog w = .ok (.agg cs) w :=
  run_loadVar_row w g 72 72 cs (0, 0) _ h Tryd.underlying72 rfl (by rw [hs]; kernel_rfl)
theorem results_cellW {fn : Func} {p q : Tmp} (h : fn.results = #[.cell p 72, .tmp q]) (tmps : Array Value) (w : World) (g : Nat) {cs : Array Value}
    (hp : tmps.getD p undef = .pointer (some ⟨g, 0, none⟩)) (hB : BlockIs w g 72 cs) (hs : cs.size = 10) :
    (results fn tmps).run Tryd.prog w = .ok (.tuple #[.agg cs, tmps.getD q undef]) w := by
  have hp' : tmps[p]?.getD undef = .pointer (some ⟨g, 0, none⟩) := by simpa using hp
  simp [results, h, hp', asAddr, load10 hB hs]
def precForB (js : List J) (E : List Pr) : Bool := goodL js && precB js.length E
set_option maxRecDepth 100000 in
set_option maxHeartbeats 4000000 in
theorem precedenceFor_any (A C : Option Addr) (c d : Nat) (js : List J) (E : List Pr) (w : World) (hr : Row w A (jc js)) (hq : Row w C (pc E)) (hn : js.length ≤ 10000000) (hl : E.length ≤ 10000000) (hT : TzTab w) :
    Calls Tryd.prog 99 #[.slice A js.length c, .slice C E.length d] w fun e w' => Below w.heap.size w w' ∧ ((precForB js E = true ∧ js.length ≤ 8 ∧ e = .returned (.tuple #[.agg (precC (js.length : Int) (befN js.length (tabB js.length E))), .bool true])) ∨ (precForB js E = false ∧ e = .returned (.tuple #[.agg precZ, .bool false]))) := by
  have b0 := (Below.refl w.heap.size w).alloc (Nat.le_refl _) (.cells precZ 70)
  have h0 := BlockIs.new w 70 precZ
  have HJ := Lib.hid (IsJobs_any A c js _ (hr.below b0) (by omega))
  have HPO := Lib.hid (fun W (hb : Below w.heap.size w W) => precedenceOf_any C d (js.length : Int) E W (hq.below hb) hl (hT.below hb))
  have HD : Hid (precForB js E = (goodL js && precB js.length E)) := rfl
  have H0 := Lib.hid (And.intro b0 h0)
  clear b0 h0 hr hq hT
  cases hg : goodL js
  · rw [hg] at HJ HD
    clear hg
    go_enter Tryd.func99, Tryd.ntmps99
    go_wp2_with fail
    refine HJ.out.mono ?_
    rintro e w1 ⟨rfl, hb1⟩
    have hb := H0.out.1.trans (hb1.mono H0.out.1.size)
    have hB := H0.out.2.below hb1
    have z0 := hB.cell 0
    have z1 := hB.cell 1
    have z2 := hB.cell 2
    have z3 := hB.cell 3
    have z4 := hB.cell 4
    have z5 := hB.cell 5
    have z6 := hB.cell 6
    have z7 := hB.cell 7
    have z8 := hB.cell 8
    have f0 := hB.frozen 0
    have f1 := hB.frozen 1
    have f2 := hB.frozen 2
    have f3 := hB.frozen 3
    have f4 := hB.frozen 4
    have f5 := hB.frozen 5
    have f6 := hB.frozen 6
    have f7 := hB.frozen 7
    have f8 := hB.frozen 8
    simp only [precZ, List.getElem?_toArray, List.getElem?_cons_zero, List.getElem?_cons_succ] at z0 z1 z2 z3 z4 z5 z6 z7 z8
    have HS := Lib.hid (And.intro (below_set9 hb (Nat.le_refl _) 0 fun _ => 0) (block_set9 hB rfl 0 fun _ => 0))
    clear hb hB hb1 H0 HJ
    go_wp2
    exact bodyPost_ret (v := .tuple #[.agg precZ, .bool false]) (results_cellP (p := 4) (q := 5) rfl _ _ w.heap.size rfl HS.out.2 rfl) rfl ⟨HS.out.1, .inr ⟨HD.out, rfl⟩⟩
  · rw [hg, Bool.true_and] at HD
    rw [hg] at HJ
    clear hg
    go_enter Tryd.func99, Tryd.ntmps99
    go_wp2_with fail
    refine HJ.out.mono ?_
    rintro e w1 ⟨rfl, hb1⟩
    have hb := H0.out.1.trans (hb1.mono H0.out.1.size)
    have HB1 := Lib.hid (And.intro hb (H0.out.2.below hb1))
    have HC := Lib.hid (HPO.out w1 hb)
    clear hb hb1 H0 HJ HPO
    go_wp2_with fail
    refine HC.out.mono ?_
    rintro e w2 ⟨hb2, ⟨hp, m, hm, hm8, _, _, rfl⟩ | ⟨hp, rfl⟩⟩
    · obtain rfl : js.length = m := by omega
      have hB := HB1.out.2.below hb2
      have hb := HB1.out.1.trans (hb2.mono HB1.out.1.size)
      have z0 := hB.cell 0
      have z1 := hB.cell 1
      have z2 := hB.cell 2
      have z3 := hB.cell 3
      have z4 := hB.cell 4
      have z5 := hB.cell 5
      have z6 := hB.cell 6
      have z7 := hB.cell 7
      have z8 := hB.cell 8
      have f0 := hB.frozen 0
      have f1 := hB.frozen 1
      have f2 := hB.frozen 2
      have f3 := hB.frozen 3
      have f4 := hB.frozen 4
      have f5 := hB.frozen 5
      have f6 := hB.frozen 6
      have f7 := hB.frozen 7
      have f8 := hB.frozen 8
      simp only [precZ, List.getElem?_toArray, List.getElem?_cons_zero, List.getElem?_cons_succ] at z0 z1 z2 z3 z4 z5 z6 z7 z8
      have HS := Lib.hid (And.intro (below_set9 hb (Nat.le_refl _) (js.length : Int) (befN js.length (tabB js.length E))) (block_set9 hB rfl (js.length : Int) (befN js.length (tabB js.length E))))
      have HP := Lib.hid (HD.out.trans hp)
      clear hb hB hb2 HB1 HC hp
      unfold precC
      go_wp2
      exact bodyPost_ret (v := .tuple #[.agg (precC (js.length : Int) (befN js.length (tabB js.length E))), .bool true]) (results_cellP (p := 4) (q := 5) rfl _ _ w.heap.size rfl HS.out.2 rfl) rfl ⟨HS.out.1, .inl ⟨HP.out, hm8, rfl⟩⟩
    · have hB := HB1.out.2.below hb2
      have hb := HB1.out.1.trans (hb2.mono HB1.out.1.size)
      have z0 := hB.cell 0
      have z1 := hB.cell 1
      have z2 := hB.cell 2
      have z3 := hB.cell 3
      have z4 := hB.cell 4
      have z5 := hB.cell 5
      have z6 := hB.cell 6
      have z7 := hB.cell 7
      have z8 := hB.cell 8
      have f0 := hB.frozen 0
      have f1 := hB.frozen 1
      have f2 := hB.frozen 2
      have f3 := hB.frozen 3
      have f4 := hB.frozen 4
      have f5 := hB.frozen 5
      have f6 := hB.frozen 6
      have f7 := hB.frozen 7
      have f8 := hB.frozen 8
      simp only [precZ, List.getElem?_toArray, List.getElem?_cons_zero, List.getElem?_cons_succ] at z0 z1 z2 z3 z4 z5 z6 z7 z8
      have HS := Lib.hid (And.intro (below_set9 hb (Nat.le_refl _) 0 fun _ => 0) (block_set9 hB rfl 0 fun _ => 0))
      have HP := Lib.hid (HD.out.trans hp)
      clear hb hB hb2 HB1 HC hp
      unfold precZ
      go_wp2
      exact bodyPost_ret (v := .tuple #[.agg precZ, .bool false]) (results_cellP (p := 4) (q := 5) rfl _ _ w.heap.size rfl HS.out.2 rfl) rfl ⟨HS.out.1, .inr ⟨HP.out, rfl⟩⟩
def wlB (js : List J) (E : List Pr) : Bool := plainL js && precB js.length E
/-- What workloadOf hands back. -/
def WlOut (w : World) (A : Option Addr) (c : Nat) (js : List J) (E : List Pr) (ok : Bool) (e : Ending) (w' : World) : Prop := Below w.heap.size w w' ∧
  ((ok = true ∧ js.length ≤ 8 ∧ e = .returned (.tuple #[.agg (wlC (.slice A js.length c) (js.length : Int) (befN js.length (tabB js.length E))), .bool true])) ∨ (ok = false ∧ e = .returned (.tuple #[.agg wlZ, .bool false])))
set_option maxRecDepth 100000 in
set_option maxHeartbeats 4000000 in
theorem workloadOf_any (A C : Option Addr) (c d : Nat) (js : List J) (E : List Pr) (w : World) (hr : Row w A (jc js)) (hq : Row w C (pc E)) (hn : js.length ≤ 10000000) (hl : E.length ≤ 10000000) (hT : TzTab w) :
    Calls Tryd.prog 63 #[.slice A js.length c, .slice C E.length d] w (WlOut w A c js E (wlB js E)) := by
  have b0 := (Below.refl w.heap.size w).alloc (Nat.le_refl _) (.cells wlZ 72)
  have h0 := BlockIs.new w 72 wlZ
  have HPL := Lib.hid (plainListOf_any A c js _ (hr.below b0) (by omega))
  have HPF := Lib.hid (fun W (hb : Below w.heap.size w W) => precedenceFor_any A C c d js E W (hr.below hb) (hq.below hb) hn hl (hT.below hb))
  have HD : Hid (wlB js E = (plainL js && precB js.length E)) := rfl
  have HDG : Hid (plainL js = true → goodL js = true) := plain_good
  have HDF : Hid (precForB js E = (goodL js && precB js.length E)) := rfl
  have H0 := Lib.hid (And.intro b0 h0)
  clear b0 h0 hr hq hT
  go_enter Tryd.func63, Tryd.ntmps63
  go_wp2_with fail
  refine HPL.out.mono ?_
  rintro e w1 ⟨hb1, ⟨hp, rfl⟩ | ⟨hp, rfl⟩⟩
  · have hb := H0.out.1.trans (hb1.mono H0.out.1.size)
    have HB1 := Lib.hid (And.intro hb (H0.out.2.below hb1))
    have HC := Lib.hid (HPF.out w1 hb)
    have HG := Lib.hid (HDG.out hp)
    rw [hp, Bool.true_and] at HD
    clear hb hb1 H0 HPL HPF hp HDG
    go_wp2_with fail
    refine HC.out.mono ?_
    rintro e w2 ⟨hb2, ⟨hf, h8, rfl⟩ | ⟨hf, rfl⟩⟩
    · have hwl : wlB js E = true := by
        rw [HDF.out, HG.out, Bool.true_and] at hf
        rw [HD.out, hf]
      have HWL := Lib.hid hwl
      have hb := HB1.out.1.trans (hb2.mono HB1.out.1.size)
      have hbA := hb.alloc hb.size (.cells (precC (js.length : Int) (befN js.length (tabB js.length E))) 70)
      have hB := (HB1.out.2.below hb2).below ((Below.refl _ _).alloc (Nat.le_refl _) (.cells (precC (js.length : Int) (befN js.length (tabB js.length E))) 70))
      have z0 := hB.cell 0
      have z1 := hB.cell 1
      have z2 := hB.cell 2
      have z3 := hB.cell 3
      have z4 := hB.cell 4
      have z5 := hB.cell 5
      have z6 := hB.cell 6
      have z7 := hB.cell 7
      have z8 := hB.cell 8
      have z9 := hB.cell 9
      have f0 := hB.frozen 0
      have f1 := hB.frozen 1
      have f2 := hB.frozen 2
      have f3 := hB.frozen 3
      have f4 := hB.frozen 4
      have f5 := hB.frozen 5
      have f6 := hB.frozen 6
      have f7 := hB.frozen 7
      have f8 := hB.frozen 8
      have f9 := hB.frozen 9
      simp only [wlZ, List.getElem?_toArray, List.getElem?_cons_zero, List.getElem?_cons_succ] at z0 z1 z2 z3 z4 z5 z6 z7 z8 z9
      have HS := Lib.hid (And.intro (below_set10 hbA (Nat.le_refl _) (.slice A js.length c) (js.length : Int) (befN js.length (tabB js.length E))) (block_set10 hB rfl (.slice A js.length c) (js.length : Int) (befN js.length (tabB js.length E))))
      clear hb hB hb2 HB1 HC hf hwl hbA
      unfold precC
      unfold precC at z0 z1 z2 z3 z4 z5 z6 z7 z8 z9 f0 f1 f2 f3 f4 f5 f6 f7 f8 f9
      go_wp2
      exact bodyPost_ret (v := .tuple #[.agg (wlC (.slice A js.length c) (js.length : Int) (befN js.length (tabB js.length E))), .bool true]) (results_cellW (p := 4) (q := 5) rfl _ _ w.heap.size rfl HS.out.2 rfl) rfl ⟨HS.out.1, .inl ⟨HWL.out, h8, rfl⟩⟩
    · have hwl : wlB js E = false := by
        rw [HDF.out, HG.out, Bool.true_and] at hf
        rw [HD.out, hf]
      have HWL := Lib.hid hwl
      have hb := HB1.out.1.trans (hb2.mono HB1.out.1.size)
      have hbA := hb.alloc hb.size (.cells precZ 70)
      have hB := (HB1.out.2.below hb2).below ((Below.refl _ _).alloc (Nat.le_refl _) (.cells precZ 70))
      have z0 := hB.cell 0
      have z1 := hB.cell 1
      have z2 := hB.cell 2
      have z3 := hB.cell 3
      have z4 := hB.cell 4
      have z5 := hB.cell 5
      have z6 := hB.cell 6
      have z7 := hB.cell 7
      have z8 := hB.cell 8
      have z9 := hB.cell 9
      have f0 := hB.frozen 0
      have f1 := hB.frozen 1
      have f2 := hB.frozen 2
      have f3 := hB.frozen 3
      have f4 := hB.frozen 4
      have f5 := hB.frozen 5
      have f6 := hB.frozen 6
      have f7 := hB.frozen 7
      have f8 := hB.frozen 8
      have f9 := hB.frozen 9
      simp only [wlZ, List.getElem?_toArray, List.getElem?_cons_zero, List.getElem?_cons_succ] at z0 z1 z2 z3 z4 z5 z6 z7 z8 z9
      have HS := Lib.hid (And.intro (below_set10 hbA (Nat.le_refl _) (.slice none 0 0) 0 fun _ => 0) (block_set10 hB rfl (.slice none 0 0) 0 fun _ => 0))
      clear hb hB hb2 HB1 HC hf hwl hbA
      unfold precZ
      unfold precZ at z0 z1 z2 z3 z4 z5 z6 z7 z8 z9 f0 f1 f2 f3 f4 f5 f6 f7 f8 f9
      go_wp2
      exact bodyPost_ret (v := .tuple #[.agg wlZ, .bool false]) (results_cellW (p := 4) (q := 5) rfl _ _ w.heap.size rfl HS.out.2 rfl) rfl ⟨HS.out.1, .inr ⟨HWL.out, rfl⟩⟩
  · have hb := H0.out.1.trans (hb1.mono H0.out.1.size)
    have HB1 := Lib.hid (And.intro hb (H0.out.2.below hb1))
    have HC := Lib.hid (HPF.out w1 hb)
    rw [hp, Bool.false_and] at HD
    clear hb hb1 H0 HPL HPF hp HDG HDF
    go_wp2_with fail
    refine HC.out.mono ?_
    rintro e w2 ⟨hb2, hcase⟩
    obtain ⟨P9, b9, rfl, hsz⟩ : ∃ P9 b9, e = .returned (.tuple #[.agg P9, .bool b9]) ∧ ∃ n B, P9 = precC n B := by
      rcases hcase with ⟨_, _, rfl⟩ | ⟨_, rfl⟩
      · exact ⟨_, _, rfl, _, _, rfl⟩
      · exact ⟨_, _, rfl, _, _, precZ_eq.symm⟩
    obtain ⟨n9, B9, rfl⟩ := hsz
    clear hcase
    have hb := HB1.out.1.trans (hb2.mono HB1.out.1.size)
    have hbA := hb.alloc hb.size (.cells (precC n9 B9) 70)
    have hB := (HB1.out.2.below hb2).below ((Below.refl _ _).alloc (Nat.le_refl _) (.cells (precC n9 B9) 70))
    have z0 := hB.cell 0
    have z1 := hB.cell 1
    have z2 := hB.cell 2
    have z3 := hB.cell 3
    have z4 := hB.cell 4
    have z5 := hB.cell 5
    have z6 := hB.cell 6
    have z7 := hB.cell 7
    have z8 := hB.cell 8
    have z9 := hB.cell 9
    have f0 := hB.frozen 0
    have f1 := hB.frozen 1
    have f2 := hB.frozen 2
    have f3 := hB.frozen 3
    have f4 := hB.frozen 4
    have f5 := hB.frozen 5
    have f6 := hB.frozen 6
    have f7 := hB.frozen 7
    have f8 := hB.frozen 8
    have f9 := hB.frozen 9
    simp only [wlZ, List.getElem?_toArray, List.getElem?_cons_zero, List.getElem?_cons_succ] at z0 z1 z2 z3 z4 z5 z6 z7 z8 z9
    have HS := Lib.hid (And.intro (below_set10 hbA (Nat.le_refl _) (.slice none 0 0) 0 fun _ => 0) (block_set10 hB rfl (.slice none 0 0) 0 fun _ => 0))
    clear hb hB hb2 HB1 HC hbA
    unfold precC
    unfold precC at z0 z1 z2 z3 z4 z5 z6 z7 z8 z9 f0 f1 f2 f3 f4 f5 f6 f7 f8 f9
    go_wp2
    exact bodyPost_ret (v := .tuple #[.agg wlZ, .bool false]) (results_cellW (p := 4) (q := 5) rfl _ _ w.heap.size rfl HS.out.2 rfl) rfl ⟨HS.out.1, .inr ⟨HD.out, rfl⟩⟩
def onB (js : List J) (m : Int) (E : List Pr) : Bool := inB m 1 4 && wlB js E
set_option maxRecDepth 100000 in
set_option maxHeartbeats 4000000 in
theorem workloadOn_any (A C : Option Addr) (c d : Nat) (js : List J) (m : Int) (E : List Pr) (w : World) (hr : Row w A (jc js)) (hq : Row w C (pc E)) (hn : js.length ≤ 10000000) (hl : E.length ≤ 10000000) (hT : TzTab w) :
    Calls Tryd.prog 55 #[.slice A js.length c, .int .i64 m, .slice C E.length d] w (WlOut w A c js E (onB js m E)) := by
  have b0 := (Below.refl w.heap.size w).alloc (Nat.le_refl _) (.cells wlZ 72)
  have h0 := BlockIs.new w 72 wlZ
  have HWO := Lib.hid (workloadOf_any A C c d js E _ (hr.below b0) (hq.below b0) hn hl (hT.below b0))
  have HD : Hid (onB js m E = (inB m 1 4 && wlB js E)) := rfl
  have H0 := Lib.hid (And.intro b0 h0)
  clear b0 h0 hr hq hT
  by_cases h1 : m < 1
  · have HF : Hid (onB js m E = false) := by show _ = _; rw [HD.out, inB_no (by omega)]; rfl
    clear HWO
    go_enter Tryd.func55, Tryd.ntmps55
    go_wp2
    exact bodyPost_ret (v := .tuple #[.agg wlZ, .bool false]) (results_cellW (p := 6) (q := 7) rfl _ _ w.heap.size rfl H0.out.2 rfl) rfl ⟨H0.out.1, .inr ⟨HF.out, rfl⟩⟩
  · by_cases h4 : 4 < m
    · have HF : Hid (onB js m E = false) := by show _ = _; rw [HD.out, inB_no (by omega)]; rfl
      clear HWO
      go_enter Tryd.func55, Tryd.ntmps55
      go_wp2
      exact bodyPost_ret (v := .tuple #[.agg wlZ, .bool false]) (results_cellW (p := 6) (q := 7) rfl _ _ w.heap.size rfl H0.out.2 rfl) rfl ⟨H0.out.1, .inr ⟨HF.out, rfl⟩⟩
    · have HT1 : Hid (onB js m E = wlB js E) := by show _ = _; rw [HD.out, inB_yes (by omega) (by omega)]; rfl
      go_enter Tryd.func55, Tryd.ntmps55
      go_wp2_with fail
      refine HWO.out.mono ?_
      rintro e w1 ⟨hb1, ⟨hw, h8, rfl⟩ | ⟨hw, rfl⟩⟩
      · have hb := H0.out.1.trans (hb1.mono H0.out.1.size)
        have hB := H0.out.2.below hb1
        have HW := Lib.hid (HT1.out.trans hw)
        have z0 := hB.cell 0
        have z1 := hB.cell 1
        have z2 := hB.cell 2
        have z3 := hB.cell 3
        have z4 := hB.cell 4
        have z5 := hB.cell 5
        have z6 := hB.cell 6
        have z7 := hB.cell 7
        have z8 := hB.cell 8
        have z9 := hB.cell 9
        have f0 := hB.frozen 0
        have f1 := hB.frozen 1
        have f2 := hB.frozen 2
        have f3 := hB.frozen 3
        have f4 := hB.frozen 4
        have f5 := hB.frozen 5
        have f6 := hB.frozen 6
        have f7 := hB.frozen 7
        have f8 := hB.frozen 8
        have f9 := hB.frozen 9
        simp only [wlZ, List.getElem?_toArray, List.getElem?_cons_zero, List.getElem?_cons_succ] at z0 z1 z2 z3 z4 z5 z6 z7 z8 z9
        have HS := Lib.hid (And.intro (below_set10 hb (Nat.le_refl _) (.slice A js.length c) (js.length : Int) (befN js.length (tabB js.length E))) (block_set10 hB rfl (.slice A js.length c) (js.length : Int) (befN js.length (tabB js.length E))))
        clear hb hB hb1 H0 HWO hw
        unfold wlC
        go_wp2
        exact bodyPost_ret (v := .tuple #[.agg (wlC (.slice A js.length c) (js.length : Int) (befN js.length (tabB js.length E))), .bool true]) (results_cellW (p := 6) (q := 7) rfl _ _ w.heap.size rfl HS.out.2 rfl) rfl ⟨HS.out.1, .inl ⟨HW.out, h8, rfl⟩⟩
      · have hb := H0.out.1.trans (hb1.mono H0.out.1.size)
        have hB := H0.out.2.below hb1
        have HW := Lib.hid (HT1.out.trans hw)
        have z0 := hB.cell 0
        have z1 := hB.cell 1
        have z2 := hB.cell 2
        have z3 := hB.cell 3
        have z4 := hB.cell 4
        have z5 := hB.cell 5
        have z6 := hB.cell 6
        have z7 := hB.cell 7
        have z8 := hB.cell 8
        have z9 := hB.cell 9
        have f0 := hB.frozen 0
        have f1 := hB.frozen 1
        have f2 := hB.frozen 2
        have f3 := hB.frozen 3
        have f4 := hB.frozen 4
        have f5 := hB.frozen 5
        have f6 := hB.frozen 6
        have f7 := hB.frozen 7
        have f8 := hB.frozen 8
        have f9 := hB.frozen 9
        simp only [wlZ, List.getElem?_toArray, List.getElem?_cons_zero, List.getElem?_cons_succ] at z0 z1 z2 z3 z4 z5 z6 z7 z8 z9
        have HS := Lib.hid (And.intro (below_set10 hb (Nat.le_refl _) (.slice none 0 0) 0 fun _ => 0) (block_set10 hB rfl (.slice none 0 0) 0 fun _ => 0))
        clear hb hB hb1 H0 HWO hw
        unfold wlZ
        go_wp2
        exact bodyPost_ret (v := .tuple #[.agg wlZ, .bool false]) (results_cellW (p := 6) (q := 7) rfl _ _ w.heap.size rfl HS.out.2 rfl) rfl ⟨HS.out.1, .inr ⟨HW.out, rfl⟩⟩
theorem tlB (js : List J) (E : List Pr) : wlB js E = (plainL js && precB js.length E) := rfl
end Go.Proofs.YtejgpecmjfgfbaaDoor

namespace Go.Proofs.YtejgpecmjfgfbaaDoor
open Go.RowKit
set_option maxRecDepth 100000 in
set_option maxHeartbeats 1000000 in
theorem comesBefore_any (n : Int) (B : Nat → Nat) (hB8 : ∀ j, j < 8 → B j < 256) (i j : Nat) (hi : i < 8) (hj : j < 8) (w : World) :
    Calls Tryd.prog 141 #[.agg (precC n B), .int .i64 (i : Int), .int .i64 (j : Int)] w fun e w' => e = .returned (.bool ((B j).testBit i)) ∧ Below w.heap.size w w' := by
  have hb := (Below.refl w.heap.size w).alloc (Nat.le_refl _) (.cells (precC n B) 70)
  have hc := ((BlockIs.new w 70 (precC n B)).cell (1 + j)).trans (precC_at n B hj)
  have HH := Lib.hid (has_any (B j) i (hB8 j hj) hi)
  have HB := Lib.hid hb
  have hj0 : (0 : Int) ≤ j := by omega
  have hj1 : (j : Int) < 8 := by omega
  clear hb
  go_enter Tryd.func141, Tryd.ntmps141
  go_wp2_with fail
  refine (HH.out _).mono ?_
  rintro e _ ⟨rfl, rfl⟩
  go_wp2
  go_ret
  exact ⟨rfl, HB.out⟩
def bitT (B : Nat → Nat) (i j : Nat) : Bool := (B j).testBit i
theorem clsTo_congr {n : Nat} {T U : Nat → Nat → Bool} (h : ∀ i j, i < n → j < n → T i j = U i j) : ∀ k, k ≤ n → clsTo n T k = clsTo n U k
  | 0, _ => rfl
  | k + 1, hk => by
    rw [clsTo_succ, clsTo_succ, clsTo_congr h k (by omega)]
    congr 1
    have : ∀ m, m ≤ n → rowTo T k m = rowTo U k m := by
      intro m
      induction m with
      | zero => intro _; rfl
      | succ m ih =>
        intro hm
        rw [rowTo_succ, rowTo_succ, ih (by omega), h k m (by omega) (by omega)]
    exact this n (Nat.le_refl _)
theorem bitT_tab (m : Nat) (E : List Ed) : clsTo m (bitT (befN m (tabB m E))) m = closL m E :=
  clsTo_congr (fun i j hi _ => by unfold bitT; rw [bef_bit, decide_eq_true hi, Bool.true_and]) m (Nat.le_refl _)
set_option maxRecDepth 100000 in
set_option maxHeartbeats 4000000 in
theorem pairs_any (m : Nat) (hm : m ≤ 8) (B : Nat → Nat) (hB8 : ∀ j, j < 8 → B j < 256) (w : World) :
    Calls Tryd.prog 153 #[.agg (precC (m : Int) B)] w fun e w' => ∃ v, e = .returned v ∧ w'.ownsRow w.heap.size 50 2 v (clsTo m (bitT B) m).length (pc (clsTo m (bitT B) m)) ∧ Below w.heap.size w w' := by
  have hb1 := (Below.refl w.heap.size w).alloc (Nat.le_refl _) (.cells (precC (m : Int) B) 70)
  have hB1 := BlockIs.new w 70 (precC (m : Int) B)
  have hb2 := hb1.alloc hb1.size (.cells #[] 50)
  have hB2 := hB1.below ((Below.refl _ _).alloc (Nat.le_refl _) (.cells #[] 50))
  have h0 : ((w.alloc (.cells (precC (m : Int) B) 70)).alloc (.cells #[] 50)).ownsRow w.heap.size 50 2 (.slice (some ⟨(w.alloc (.cells (precC (m : Int) B) 70)).heap.size, 0, none⟩) 0 0) 0 (pc []) := World.ownsRow_made _ #[] 0 hb1.size (by unfold maxLen; omega) rfl
  rw [World.size_alloc] at h0
  have H0 := Lib.hid (And.intro h0 (And.intro hB2 hb2))
  have hc0 := hB1.cell 0
  clear hb1 hB1 hb2 hB2 h0 hc0
  have ep : (precC (m : Int) B) = #[.int .i64 m, .int .u64 (B 0 : Int), .int .u64 (B 1 : Int), .int .u64 (B 2 : Int), .int .u64 (B 3 : Int), .int .u64 (B 4 : Int), .int .u64 (B 5 : Int), .int .u64 (B 6 : Int), .int .u64 (B 7 : Int)] := rfl
  rw [ep]
  clear ep
  go_enter Tryd.func153, Tryd.ntmps153
  go_wp2
  go_loopw [3, 9] (fun u i wr => ∃ (k : Nat) (U : Value), k ≤ m ∧ i = .int .i64 (k : Int) ∧ U = u ∧ Hid (wr.ownsRow w.heap.size 50 2 U (clsTo m (bitT B) k).length (pc (clsTo m (bitT B) k)) ∧ BlockIs wr w.heap.size 70 (precC (m : Int) B) ∧ Below w.heap.size w wr)) (fun _ i _ => m - (intOf i).toNat)
  case atStart => exact ⟨0, _, Nat.zero_le _, rfl, rfl, H0.out⟩
  case round =>
    obtain ⟨i, U, hi, rfl, rfl, HO⟩ := hrel
    clear H0
    by_cases hlti : i < m
    · have hc0 := (HO.out.2.1.cell 0).trans (precC_0 (m : Int) B)
      go_wp2
      clear hc0
      obtain ⟨wo, rfl⟩ : ∃ wo : World, wo = wr := ⟨_, rfl⟩
      go_loopw [3, 14] (fun u jv wr => ∃ (j : Nat) (U2 : Value), j ≤ m ∧ jv = .int .i64 (j : Int) ∧ U2 = u ∧ Hid (wr.ownsRow w.heap.size 50 2 U2 (clsTo m (bitT B) i ++ rowTo (bitT B) i j).length (pc (clsTo m (bitT B) i ++ rowTo (bitT B) i j)) ∧ BlockIs wr w.heap.size 70 (precC (m : Int) B) ∧ Below w.heap.size w wr)) (fun _ jv _ => m - (intOf jv).toNat)
      case atStart => exact ⟨0, _, Nat.zero_le _, rfl, rfl, by rw [show rowTo (bitT B) i 0 = [] from rfl, List.append_nil]; exact HO.out⟩
      case round =>
        clear HO
        obtain ⟨j, U2, hj, rfl, rfl, HO⟩ := hrel
        by_cases hltj : j < m
        · have hBk := HO.out.2.1
          have c0 := hBk.cell 0
          have c1 := hBk.cell 1
          have c2 := hBk.cell 2
          have c3 := hBk.cell 3
          have c4 := hBk.cell 4
          have c5 := hBk.cell 5
          have c6 := hBk.cell 6
          have c7 := hBk.cell 7
          have c8 := hBk.cell 8
          simp only [precC, List.getElem?_toArray, List.getElem?_cons_zero, List.getElem?_cons_succ] at c0 c1 c2 c3 c4 c5 c6 c7 c8
          have HCB := Lib.hid (comesBefore_any (m : Int) B hB8 i j (by omega) (by omega) wr)
          have HRW := Lib.hid (rowTo_succ (bitT B) i j)
          have HBT : Hid (bitT B i j = (B j).testBit i) := rfl
          clear hBk
          go_wp2_with fail
          refine HCB.out.mono ?_
          rintro e w5 ⟨rfl, hb5⟩
          clear c0 c1 c2 c3 c4 c5 c6 c7 c8 HCB
          have HO5 := Lib.hid (And.intro (own_blw HO.out.1 hb5) (And.intro (HO.out.2.1.below hb5) (HO.out.2.2.trans (hb5.mono HO.out.2.2.size))))
          clear HO hb5
          cases hc : (B j).testBit i
          · rw [show bitT B i j = false from HBT.out.trans hc, if_neg (by decide)] at HRW
            clear hc
            go_wp2
            go_roundw
            case rel => exact ⟨j + 1, _, by omega, by go_num, rfl, by rw [HRW.out]; exact HO5.out⟩
            case measure => simp [intOf]; omega
          · rw [show bitT B i j = true from HBT.out.trans hc, if_pos rfl] at HRW
            obtain ⟨v', w3, hrun, hO3, hb3, hk3⟩ := pushP (w0 := w) HO5.out.1 HO5.out.2.2 ((i : Int), (j : Int)) (cls_bd m (bitT B) i j hlti hltj hm)
            have HRUN := Lib.hid hrun
            have HYES := Lib.hid (And.intro hO3 (And.intro (hk3 _ _ _ (by decide) HO5.out.2.1) hb3))
            rw [List.append_assoc] at HYES
            clear hc hrun hO3 hb3 hk3 HO5
            go_wp2_with (at_builtin; refine wpList_app rfl _ _ _ rfl _ _ _ rfl rfl HRUN.out ?_; clear HRUN)
            go_roundw
            case rel => exact ⟨j + 1, _, by omega, by go_num, rfl, by rw [HRW.out]; exact HYES.out⟩
            case measure => simp [intOf]; omega
        · obtain rfl : j = m := by omega
          go_wp2
          go_roundw
          case rel => exact ⟨i + 1, _, by omega, by go_num, rfl, by rw [clsTo_succ]; exact HO.out⟩
          case measure => simp [intOf]; omega
    · obtain rfl : i = m := by omega
      go_wp2
      go_ret
      exact ⟨U, rfl, HO.out.1, HO.out.2.2⟩
end Go.Proofs.YtejgpecmjfgfbaaDoor

namespace Go.Proofs.YtejgpecmjfgfbaaDoor
section
variable {F : Fence} {n : Nat} {P : Program} {ops : Array Oper} {Q : Exit → Act → World → Prop}
theorem wpOpIn_enterZ (hF : ∀ f, F.fn f) (hdp : F.depth = none) (hCI : ∀ f args w R, Calls P f args w R → CallsIn F (n - 1) P f args w R) (hc : calmB ops = true) {i : Nat} {o : Oper} {a : Act} {w w' : World} {f : FuncId} {args : Array Value} {K : Act → World → Prop} (ho : ops[i]? = some o) (hg : Region.wanted o (yielded ops a.tmps) = true) (hr : (execOp a.eval o).run P w = .ok (.enter f args) w') (hK : Calls P f args w' fun e w'' => ∃ v, e = .returned v ∧ K (a.put o.dst v) w'') : wpOpIn F n P ops Q i K a w := by
  refine wpOpIn_step ho fun K' hKK => ?_
  rw [if_pos hg]
  refine ⟨fun f _ => hF f, ?_⟩
  rw [semAt_calm hc ho, hr]
  refine ⟨fun h => ?_, (hCI _ _ _ _ hK).mono ?_⟩
  · rw [hdp] at h; cases h
  · rintro e w'' ⟨v, rfl, h⟩
    exact hKK _ _ h
/-- As wp_region_detY, within a round. -/
theorem wpIn_region_detZ (hF : ∀ f, F.fn f) (hdp : F.depth = none) (hCI : ∀ f args w R, Calls P f args w R → CallsIn F (n - 1) P f args w R) (hcalm : calmB ops = true) {id : Nat} {tm0 : Array Value} {df : List Deferred} {w : World} (hm : P.follows .mixedOrders = true) (S : Array Bool → World → Prop) (val : Nat → Value) (hback : backBB ops = true) (hown : ownDst ops tm0.size = true)
    (h0 : S (Array.replicate ops.size false) w.drew)
    (hdone : ∀ (L : Array Bool) (tm : Array Value) (w : World), (∀ i, i < ops.size → L.getD i true = true) → S L w → tm.size = tm0.size → (∀ t, ((List.range ops.size).all fun j => !((ops[j]?).bind (·.dst) == some t)) = true → tm.getD t undef = tm0.getD t undef) → (∀ j o d, ops[j]? = some o → o.dst = some d → tm.getD d undef = val j) → Q .normal ⟨tm, df⟩ w)
    (hstep : ∀ (L : Array Bool) (a : Act) (w : World) (i : Nat) (o : Oper), L.size = ops.size → ops[i]? = some o → L.getD i true = false → (∀ j, edgeB ops i j = true → L.getD j true = true) → (∀ j, edgeB ops j i = true → L.getD j true = false) → S L w → (∀ t, ((List.range ops.size).all fun j => !((ops[j]?).bind (·.dst) == some t)) = true → a.tmps.getD t undef = tm0.getD t undef) →
      (∀ j oj d, edgeB ops i j = true → ops[j]? = some oj → oj.dst = some d → a.tmps.getD d undef = val j) →
      (∀ j oj d, edgeB ops j i = true → ops[j]? = some oj → oj.dst = some d → a.tmps.getD d undef = tm0.getD d undef) → Region.wanted o (yielded ops a.tmps) = true ∧ StepY P (S (L.setIfInBounds i true)) o a w (val i)) :
    (Code.region id ops true).wpIn F n P Q ⟨tm0, df⟩ w := by
  refine wpIn_region_invB hm (fun L a w => S L w ∧ a.defers = df ∧ a.tmps.size = tm0.size ∧ (∀ t, ((List.range ops.size).all fun j => !((ops[j]?).bind (·.dst) == some t)) = true → a.tmps.getD t undef = tm0.getD t undef) ∧ (∀ j o d, ops[j]? = some o → o.dst = some d → L.getD j true = true → a.tmps.getD d undef = val j) ∧ (∀ j o d, ops[j]? = some o → o.dst = some d → L.getD j true = false → a.tmps.getD d undef = tm0.getD d undef)) (back_ofB hback) ?_ ?_ ?_
  · refine ⟨h0, rfl, rfl, fun _ _ => rfl, fun j o d ho _ hl => ?_, fun _ _ _ _ _ _ => rfl⟩
    have hj : j < ops.size := (Array.getElem?_eq_some_iff.1 ho).1
    simp [Array.getD_eq_getD_getElem?, hj] at hl
  · intro L a w ⟨hS, hdf, hsz, hlow, hval, _⟩ hall
    obtain ⟨tm, df'⟩ := a
    simp only at hdf hsz
    subst hdf
    exact hdone L tm w hall hS hsz hlow (fun j o d ho hd => hval j o d ho hd (hall j (Array.getElem?_eq_some_iff.1 ho).1))
  · intro L a w i o hC ⟨hS, hdf, hsz, hlow, hval, hold⟩ ho hl hd
    obtain ⟨hg, hst⟩ := hstep L a w i o hC.1 ho hl (fun j he => dep_of ho hd he) (fun j he => hC.no he hl) hS hlow (fun j oj d he hoj hdj => hval j oj d hoj hdj (dep_of ho hd he)) (fun j oj d he hoj hdj => hold j oj d hoj hdj (hC.no he hl))
    have next : ∀ w', S (L.setIfInBounds i true) w' → S (L.setIfInBounds i true) w' ∧ (a.put o.dst (val i)).defers = df ∧ (a.put o.dst (val i)).tmps.size = tm0.size ∧ (∀ t, ((List.range ops.size).all fun j => !((ops[j]?).bind (·.dst) == some t)) = true → (a.put o.dst (val i)).tmps.getD t undef = tm0.getD t undef) ∧ (∀ j o' d, ops[j]? = some o' → o'.dst = some d → (L.setIfInBounds i true).getD j true = true → (a.put o.dst (val i)).tmps.getD d undef = val j) ∧ (∀ j o' d, ops[j]? = some o' → o'.dst = some d → (L.setIfInBounds i true).getD j true = false → (a.put o.dst (val i)).tmps.getD d undef = tm0.getD d undef) := by
      intro w' hS'
      cases hod : o.dst with
      | none =>
        refine ⟨hS', hdf, hsz, hlow, fun j o' d ho' hd' hl' => ?_, fun j o' d ho' hd' hl' => ?_⟩
        · have hne : i ≠ j := fun e => by subst e; rw [ho] at ho'; injection ho' with ho'; subst ho'; rw [hod] at hd'; cases hd'
          rw [getD_set_true, if_neg (fun h => hne h.1)] at hl'
          exact hval j o' d ho' hd' hl'
        · have hne : i ≠ j := fun e => by subst e; rw [ho] at ho'; injection ho' with ho'; subst ho'; rw [hod] at hd'; cases hd'
          rw [getD_set_true, if_neg (fun h => hne h.1)] at hl'
          exact hold j o' d ho' hd' hl'
      | some d0 =>
        have hput : ∀ t, (a.put (some d0) (val i)).tmps.getD t undef = if d0 = t ∧ t < a.tmps.size then val i else a.tmps.getD t undef := by
          intro t
          unfold Act.put
          simp only [Array.getD_eq_getD_getElem?, Array.getElem?_setIfInBounds]
          by_cases e : d0 = t
          · subst e
            by_cases h : d0 < a.tmps.size
            · simp [h]
            · simp [h]
          · simp [e]
        refine ⟨hS', hdf, by simp [Act.put, hsz], fun t ht => ?_, fun j o' d ho' hd' hl' => ?_, fun j o' d ho' hd' hl' => ?_⟩
        · rw [hput, if_neg (fun h => ?_)]
          · exact hlow t ht
          · have := List.all_eq_true.1 ht i (List.mem_range.2 (Array.getElem?_eq_some_iff.1 ho).1)
            rw [ho] at this
            simp [hod, h.1] at this
        · rw [hput]
          by_cases e : d0 = d
          · subst e
            have hij := ownDst_inj hown ho hod ho' hd'
            subst hij
            rw [if_pos ⟨rfl, by rw [hsz]; exact ownDst_lt hown ho hod⟩]
          · rw [if_neg (fun h => e h.1)]
            have hne : i ≠ j := fun e' => by subst e'; rw [ho] at ho'; injection ho' with ho'; subst ho'; rw [hod] at hd'; injection hd' with hd'; exact e hd'
            rw [getD_set_true, if_neg (fun h => hne h.1)] at hl'
            exact hval j o' d ho' hd' hl'
        · have hli : i ≠ j := fun e => by
            subst e
            have hC1 : i < L.size := by rw [hC.1]; exact (Array.getElem?_eq_some_iff.1 ho).1
            rw [getD_set_true, if_pos ⟨rfl, hC1⟩] at hl'; cases hl'
          rw [getD_set_true, if_neg (fun h => hli h.1)] at hl'
          have hdd : d0 ≠ d := fun e => by subst e; exact hli (ownDst_inj hown ho' hd' ho hod)
          rw [hput, if_neg (fun h => hdd h.1)]
          exact hold j o' d ho' hd' hl'
    rcases hst with (⟨w', hr, hS'⟩ | ⟨f, args, hr, hc⟩) | ⟨w', hnd, hr, hS'⟩
    · exact wpOpIn_valueX hF hcalm ho hg hr (next w' hS')
    · refine wpOpIn_enterZ hF hdp hCI hcalm ho hg hr (hc.mono ?_)
      rintro e w' ⟨rfl, hS'⟩
      exact ⟨_, rfl, next w' hS'⟩
    · refine wpOpIn_skipX hF hcalm ho hg hr ?_
      have h := next w' hS'
      rw [hnd] at h ⊢
      exact h
end
end Go.Proofs.YtejgpecmjfgfbaaDoor

namespace Go.Proofs.YtejgpecmjfgfbaaDoor
open Go.RowKit Go.Shelf
attribute [local go_sem] Oper.semAt_some
set_option maxRecDepth 100000 in
set_option maxHeartbeats 2000000 in
theorem behind_any (m : Nat) (hm : m ≤ 8) (B : Nat → Nat) (hB8 : ∀ j, j < 8 → B j < 256) (i : Nat) (hi : i < 8) (w : World) :
    Calls Tryd.prog 119 #[.agg (precC (m : Int) B), .int .i64 (i : Int)] w fun e w' => e = .returned (.int .u64 (bitsN m (bitT B i) : Nat)) ∧ Below w.heap.size w w' := by
  have H0 := Lib.hid (And.intro ((Below.refl w.heap.size w).alloc (Nat.le_refl _) (.cells (precC (m : Int) B) 70)) (BlockIs.new w 70 (precC (m : Int) B)))
  have HBT : Hid (∀ k, bitT B i k = (B k).testBit i) := fun k => rfl
  have HBS := Lib.hid (bits_succ · (bitT B i))
  have HBL : Hid (∀ k, k ≤ 8 → bitsN k (bitT B i) < 256) := fun k hk => bits_lt hk _
  have ep : (precC (m : Int) B) = #[.int .i64 m, .int .u64 (B 0 : Int), .int .u64 (B 1 : Int), .int .u64 (B 2 : Int), .int .u64 (B 3 : Int), .int .u64 (B 4 : Int), .int .u64 (B 5 : Int), .int .u64 (B 6 : Int), .int .u64 (B 7 : Int)] := rfl
  rw [ep]
  clear ep
  go_enter Tryd.func119, Tryd.ntmps119
  go_wp2
  go_loopw [5, 9] (fun sv kv wr => ∃ k : Nat, k ≤ m ∧ kv = .int .i64 (k : Int) ∧ sv = .int .u64 (bitsN k (bitT B i) : Nat) ∧ Hid (Below w.heap.size w wr ∧ BlockIs wr w.heap.size 70 (precC (m : Int) B))) (fun _ kv _ => m - (intOf kv).toNat)
  case atStart => exact ⟨0, Nat.zero_le _, rfl, rfl, H0.out⟩
  case round =>
    obtain ⟨k, hk, rfl, rfl, HW⟩ := hrel
    clear H0
    by_cases hlt : k < m
    · have hBk := HW.out.2
      have c0 := hBk.cell 0
      have c1 := hBk.cell 1
      have c2 := hBk.cell 2
      have c3 := hBk.cell 3
      have c4 := hBk.cell 4
      have c5 := hBk.cell 5
      have c6 := hBk.cell 6
      have c7 := hBk.cell 7
      have c8 := hBk.cell 8
      simp only [precC, List.getElem?_toArray, List.getElem?_cons_zero, List.getElem?_cons_succ] at c0 c1 c2 c3 c4 c5 c6 c7 c8
      have HC := Lib.hid (comesBefore_any (m : Int) B hB8 i k (by omega) (by omega) wr)
      have HS := Lib.hid (HBS.out k)
      rw [HBT.out] at HS
      have hsl := HBL.out k (by omega)
      clear hBk
      generalize bitsN k (bitT B i) = sk at *
      go_wp2_with fail
      refine HC.out.mono ?_
      rintro e w5 ⟨rfl, hb5⟩
      have HW5 := Lib.hid (And.intro (HW.out.1.trans (hb5.mono HW.out.1.size)) (HW.out.2.below hb5))
      clear HW hb5 HC c0 c1 c2 c3 c4 c5 c6 c7 c8
      cases hc : (B k).testBit i
      · rw [hc] at HS
        clear hc
        go_wp2
        go_roundw
        case rel => exact ⟨k + 1, by omega, by go_num, by rw [HS.out]; rfl, HW5.out⟩
        case measure => simp [intOf]; omega
      · rw [hc] at HS
        clear hc
        go_wp2_with fail
        refine (with_any sk k hsl (by omega) _).mono ?_
        rintro e _ ⟨rfl, rfl⟩
        go_wp2
        go_roundw
        case rel => exact ⟨k + 1, by omega, by go_num, by rw [HS.out]; rfl, HW5.out⟩
        case measure => simp [intOf]; omega
    · obtain rfl : k = m := by omega
      go_wp2
      go_ret
      exact ⟨rfl, HW.out.1⟩
theorem exec_load10 {o : Oper} {ev : Operand → Value} {x : Operand} {g : Nat} {cs : Array Value} {w : World} (ho : o.op = .load 72 x) (hx : ev x = .pointer (some ⟨g, 0, none⟩)) (h : BlockIs w g 72 cs) (hs : cs.size = 10) :
    (execOp ev o).run Tryd.prog w = .ok (.value (.agg cs)) w := by
  unfold execOp
  simp only [ho, hx, Instr.loadAt, Instr.sureAddr, Sem.run_bind, Sem.run_pure, Result.andThen_ok, load10 h hs]
theorem keepsO_below {W W' : World} (h : Below W.heap.size W W') : KeepsOthers W W' :=
  ⟨h.size, fun k _ hk _ => (h.block k (Array.getElem?_eq_some_iff.1 hk).1).trans hk⟩
-- TAIL
section
variable {A : Option Addr} {c : Nat} {js : List J} {E : List Pr}
set_option maxRecDepth 100000 in
set_option maxHeartbeats 4000000 in
theorem tail_any (hok : ∀ j ∈ js, okJ j = true) (h8 : js.length ≤ 8) (hirr : irrB js.length E js.length = true) : ∀ (f j : Nat) (w : World), f ≤ 9 → j < js.length → cntS js.length (tabB js.length E) j < f → Row w A (jc js) → TzTab w →
    Calls Tryd.prog 91 #[.agg (wlC (.slice A js.length c) (js.length : Int) (befN js.length (tabB js.length E))), .int .i64 (j : Int)] w fun e w' => e = .returned (.int .i64 (tailF js (tabB js.length E) js.length f j)) ∧ Below w.heap.size w w' := by
  intro f
  induction f with
  | zero => intro j w _ _ h; omega
  | succ f ih =>
    intro j w hf9 hj hcj hr hT
    have HIH := Lib.hid (fun i (hi : i < js.length) (ht : tabB js.length E j i = true) W => ih i W (by omega) hi (by have := cntS_lt hirr hi ht; omega))
    have HR := Lib.hid hr
    have HT := Lib.hid hT
    have HRES : Hid (tailF js (tabB js.length E) js.length (f + 1) j = js[j].t + mostL (fun i => tailF js (tabB js.length E) js.length f i) (memB (bitsN js.length (tabB js.length E j)))) := by
      show _ = _
      rw [memB_bits h8, mostL_filter, ← getD_at js j0 hj]
      rfl
    have HBT : Hid (bitsN js.length (bitT (befN js.length (tabB js.length E)) j) = bitsN js.length (tabB js.length E j)) := by
      show _ = _
      have : ∀ k, bitT (befN js.length (tabB js.length E)) j k = tabB js.length E j k := fun k => by unfold bitT; rw [bef_bit, decide_eq_true hj, Bool.true_and]
      congr 1
      funext k
      exact this k
    have HMEM : Hid (∀ x, (bitsN js.length (tabB js.length E j)).testBit x = true → x < js.length ∧ tabB js.length E j x = true) := fun x hx => by
      rw [bits_bit, Bool.and_eq_true, decide_eq_true_eq] at hx
      exact hx
    have hs : bitsN js.length (tabB js.length E j) < 256 := bits_lt h8 _
    have HGB : Hid (∀ x, x < js.length → 0 ≤ tailF js (tabB js.length E) js.length f x ∧ tailF js (tabB js.length E) js.length f x ≤ 50 * (f : Int)) := fun x hx => tailF_bd hok _ f x hx
    have HBE := Lib.hid (fun W => behind_any js.length h8 (befN js.length (tabB js.length E)) (fun k _ => bef_lt h8 _ k) j (by omega) W)
    rw [HBT.out] at HBE
    have hjt := okJ_out (hok _ (List.getElem_mem hj))
    clear ih hr hT hcj hirr HBT
    rw [HRES.out]
    clear HRES
    generalize befN js.length (tabB js.length E) = B at *
    generalize bitsN js.length (tabB js.length E j) = s at *
    generalize tailF js (tabB js.length E) js.length f = tf at *
    have hb1 := (Below.refl w.heap.size w).alloc (Nat.le_refl _) (.cells (wlC (.slice A js.length c) (js.length : Int) B) 72)
    have hB1 := BlockIs.new w 72 (wlC (.slice A js.length c) (js.length : Int) B)
    have hb2 := hb1.alloc hb1.size (.cells #[.int .i64 0] 3)
    have hB2 := hB1.below ((Below.refl _ _).alloc (Nat.le_refl _) (.cells #[.int .i64 0] 3))
    have hx2 := Boxed.new (w.alloc (.cells (wlC (.slice A js.length c) (js.length : Int) B) 72)) 3 (.int .i64 0)
    rw [World.size_alloc] at hx2
    have H2 := Lib.hid (And.intro hb2 (And.intro hB2 hx2))
    have c0 := hB2.cell 0
    have c1 := hB2.cell 1
    have c2 := hB2.cell 2
    have c3 := hB2.cell 3
    have c4 := hB2.cell 4
    have c5 := hB2.cell 5
    have c6 := hB2.cell 6
    have c7 := hB2.cell 7
    have c8 := hB2.cell 8
    have c9 := hB2.cell 9
    simp only [wlC, List.getElem?_toArray, List.getElem?_cons_zero, List.getElem?_cons_succ] at c0 c1 c2 c3 c4 c5 c6 c7 c8 c9
    clear hb1 hB1 hb2 hB2 hx2
    have ew : wlC (.slice A js.length c) (js.length : Int) B = #[.slice A js.length c, .int .i64 (js.length : Int), .int .u64 (B 0 : Int), .int .u64 (B 1 : Int), .int .u64 (B 2 : Int), .int .u64 (B 3 : Int), .int .u64 (B 4 : Int), .int .u64 (B 5 : Int), .int .u64 (B 6 : Int), .int .u64 (B 7 : Int)] := rfl
    rw [ew]
    refine (callsIn_wide (n := 6)).1 ?_
    refine callsIn_of_wp_marks Tryd.func91 rfl trivial ?_ rfl
    simp only [Tryd.ntmps91, List.size_toArray, List.length_cons, List.length_nil, Nat.reduceAdd, Nat.reduceSub, Array.replicate_succ, Array.replicate_zero, List.push_toArray, List.append_toArray, List.nil_append, List.cons_append]
    gi_wp2_with (first
      | (refine ⟨trivial, ?_⟩; gi_at_call 119; refine (callsIn_wide.2 (HBE.out _)).mono ?_; rintro e W1 ⟨rfl, hbW1⟩)
      | (refine ⟨trivial, ?_⟩; gi_at_call 101; refine (members_in 5 _ _).mono ?_; rintro e w' ⟨rfl, rfl⟩))
    clear c0 c1 c2 c3 c4 c5 c6 c7 c8 c9 HBE
    have H3 := Lib.hid (And.intro (H2.out.1.trans (hbW1.mono H2.out.1.size)) (And.intro (H2.out.2.1.below hbW1) ((show BlockIs _ (w.heap.size + 1) 3 #[.int .i64 0] from H2.out.2.2).below hbW1)))
    have hz1 : w.heap.size + 1 < W1.heap.size := by have := H3.out.2.2.lt; exact this
    clear H2 hbW1
    have b2 := Boxed.new W1 67 (.int .u64 (s : Int))
    have hbA : Below W1.heap.size W1 (W1.alloc (.cells #[.int .u64 (s : Int)] 67)) := (Below.refl _ _).alloc (Nat.le_refl _) _
    have H4 := Lib.hid (And.intro (H3.out.1.alloc H3.out.1.size (.cells #[.int .u64 (s : Int)] 67)) (And.intro (H3.out.2.1.below hbA) (And.intro (show Boxed _ (w.heap.size + 1) 3 (.int .i64 0) from H3.out.2.2.below hbA) b2)))
    have hz4 : (W1.alloc (.cells #[.int .u64 (s : Int)] 67)).heap.size = W1.heap.size + 1 := by simp
    clear H3 b2 hbA
    obtain ⟨gS, hgS⟩ : ∃ gS, gS = W1.heap.size := ⟨_, rfl⟩
    rw [← hgS] at H4 hz4 hz1 ⊢
    clear hgS
    generalize W1.alloc (.cells #[.int .u64 (s : Int)] 67) = w3 at *
    obtain ⟨hb3, hB3, hx3, b2⟩ := H4.out
    refine wpIn_rangeFunc_ownG (F := Fence.wide) rfl (by omega) (gf := 127) (lb := #[.pointer (some ⟨gS, 0, none⟩)]) rfl trivial (enters_of Tryd.func127 (by kernel_rfl) rfl)
      (members_stops 5 (by omega) gS s hs w3 (by omega) b2 (HT.out.below hb3))
      (fun h k t => k (h t)) (fun W l' o o' hl ho hc _ => KeepsTz.put ho hc) (Below.refl _ _) (fun _ => rfl)
      (fun (pre : List (Mb s)) W => (BlockIs W w.heap.size 72 (wlC (.slice A js.length c) (js.length : Int) B) ∧ Boxed W (w.heap.size + 1) 3 (.int .i64 (mostL tf (vals pre)))) ∧ Below w.heap.size w W)
      (fun _ _ _ => False)
      (OwnFrom.and (OwnFrom.and (Own.from (block_ownF _ _ _) _) (Own.from (boxed_own _ _ _) _)) (ownFrom_below (Nat.le_refl _) (by omega)))
      (fun _ _ _ _ _ h _ _ => h)
      ⟨⟨hB3, hx3⟩, hb3⟩
      (fun x => { tmps := #[.agg #[.slice A js.length c, .int .i64 (js.length : Int), .int .u64 (B 0 : Int), .int .u64 (B 1 : Int), .int .u64 (B 2 : Int), .int .u64 (B 3 : Int), .int .u64 (B 4 : Int), .int .u64 (B 5 : Int), .int .u64 (B 6 : Int), .int .u64 (B 7 : Int)], .int .i64 (j : Int), .pointer (some ⟨w.heap.size, 0, none⟩), undef, .int .i64 0, .pointer (some ⟨w.heap.size + 1, 0, none⟩), .int .i64 (x.1 : Int), .pointer (some ⟨w.heap.size, 1, none⟩), .agg #[.int .i64 (js.length : Int), .int .u64 (B 0 : Int), .int .u64 (B 1 : Int), .int .u64 (B 2 : Int), .int .u64 (B 3 : Int), .int .u64 (B 4 : Int), .int .u64 (B 5 : Int), .int .u64 (B 6 : Int), .int .u64 (B 7 : Int)], .int .i64 (j : Int), .int .u64 (s : Int), .func (.func 127) #[] #[.pointer (some ⟨gS, 0, none⟩)], .int .i64 (x.1 : Int), undef, undef, undef, undef, undef, undef, undef, undef, undef, undef, undef, undef, undef], defers := [] }) ?assign ?body ?done ?stop
    case assign =>
      intro l' x W K hK
      unfold encM
      gi_wp2
      exact hK
    case body =>
      rintro l' pre ⟨x, hx⟩ W ⟨⟨y0, y1⟩, hb⟩ hl
      obtain ⟨hxl, htx⟩ := HMEM.out x hx
      have hmo : Tryd.prog.follows .mixedOrders = true := by kernel_rfl
      have HSN : Hid (mostL tf (vals (pre ++ [(⟨x, hx⟩ : Mb s)])) = max (mostL tf (vals pre)) (tf x)) := by show _ = _; rw [vals_snoc, mostL_snoc]
      have hgx := HGB.out x hxl
      have hx0 : (0 : Int) ≤ x := by omega
      have HCX := Lib.hid (HIH.out x hxl htx)
      have hrW := HR.out
      generalize mostL tf (vals pre) = sm at *
      generalize tf x = tx at *
      dsimp only
      gi_wp2
      have hKO : KeepsOthers W W.drew := KeepsOthers.drew W
      have hmx : (if sm < tx then tx else sm) = max sm tx := by split <;> omega
      have kb : ∀ {X Y : World}, (KeepsOthers W X ∧ Below w.heap.size w X ∧ BlockIs X w.heap.size 72 (wlC (.slice A js.length c) (js.length : Int) B)) → Below X.heap.size X Y → (KeepsOthers W Y ∧ Below w.heap.size w Y ∧ BlockIs Y w.heap.size 72 (wlC (.slice A js.length c) (js.length : Int) B)) := fun h hb => ⟨h.1.trans (keepsO_below hb), h.2.1.trans (hb.mono h.2.1.size), h.2.2.below hb⟩
      have ob : ∀ {X Y : World}, (BlockIs X (w.heap.size + 1) 3 #[.int .i64 sm]) → Below X.heap.size X Y → (BlockIs Y (w.heap.size + 1) 3 #[.int .i64 sm]) := fun h hb => h.below hb
      have nb : ∀ {X Y : World}, (BlockIs X (w.heap.size + 1) 3 #[.int .i64 (max sm tx)]) → Below X.heap.size X Y → (BlockIs Y (w.heap.size + 1) 3 #[.int .i64 (max sm tx)]) := fun h hb => h.below hb
      refine wpIn_region_detZ (fun _ => trivial) rfl (fun _ _ _ _ h => (callsIn_wide.2 h).inRound l') (by kernel_rfl) hmo (fun L w' => (KeepsOthers W w' ∧ Below w.heap.size w w' ∧ BlockIs w' w.heap.size 72 (wlC (.slice A js.length c) (js.length : Int) B)) ∧ (L.getD 5 true = false → BlockIs w' (w.heap.size + 1) 3 #[.int .i64 sm]) ∧ (L.getD 5 true = true → BlockIs w' (w.heap.size + 1) 3 #[.int .i64 (max sm tx)])) (fun kk => (#[.int .i64 sm, .agg #[.slice A js.length c, .int .i64 (js.length : Int), .int .u64 (B 0 : Int), .int .u64 (B 1 : Int), .int .u64 (B 2 : Int), .int .u64 (B 3 : Int), .int .u64 (B 4 : Int), .int .u64 (B 5 : Int), .int .u64 (B 6 : Int), .int .u64 (B 7 : Int)], .int .i64 (x : Int), .int .i64 tx, .int .i64 (max sm tx), undef] : Array Value).getD kk undef) (by kernel_rfl) (by kernel_rfl) ⟨⟨hKO, hb.drew, y0⟩, fun _ => y1, fun h => by cases h⟩ ?_ ?_
      · intro L tm w' hall hS hsz hlow hval
        have ht : tm = #[.agg #[.slice A js.length c, .int .i64 (js.length : Int), .int .u64 (B 0 : Int), .int .u64 (B 1 : Int), .int .u64 (B 2 : Int), .int .u64 (B 3 : Int), .int .u64 (B 4 : Int), .int .u64 (B 5 : Int), .int .u64 (B 6 : Int), .int .u64 (B 7 : Int)], .int .i64 (j : Int), .pointer (some ⟨w.heap.size, 0, none⟩), undef, .int .i64 0, .pointer (some ⟨w.heap.size + 1, 0, none⟩), .int .i64 (x : Int), .pointer (some ⟨w.heap.size, 1, none⟩), .agg #[.int .i64 (js.length : Int), .int .u64 (B 0 : Int), .int .u64 (B 1 : Int), .int .u64 (B 2 : Int), .int .u64 (B 3 : Int), .int .u64 (B 4 : Int), .int .u64 (B 5 : Int), .int .u64 (B 6 : Int), .int .u64 (B 7 : Int)], .int .i64 (j : Int), .int .u64 (s : Int), .func (.func 127) #[] #[.pointer (some ⟨gS, 0, none⟩)], .int .i64 (x : Int), .int .i64 sm, .agg #[.slice A js.length c, .int .i64 (js.length : Int), .int .u64 (B 0 : Int), .int .u64 (B 1 : Int), .int .u64 (B 2 : Int), .int .u64 (B 3 : Int), .int .u64 (B 4 : Int), .int .u64 (B 5 : Int), .int .u64 (B 6 : Int), .int .u64 (B 7 : Int)], .int .i64 (x : Int), .int .i64 tx, .int .i64 (max sm tx), undef, undef, undef, undef, undef, undef, undef, undef] := by
          refine arr_of _ _ hsz fun t ht => ?_
          have ht' : t < 26 := ht
          rcases (by omega : t = 0 ∨ t = 1 ∨ t = 2 ∨ t = 3 ∨ t = 4 ∨ t = 5 ∨ t = 6 ∨ t = 7 ∨ t = 8 ∨ t = 9 ∨ t = 10 ∨ t = 11 ∨ t = 12 ∨ t = 13 ∨ t = 14 ∨ t = 15 ∨ t = 16 ∨ t = 17 ∨ t = 18 ∨ t = 19 ∨ t = 20 ∨ t = 21 ∨ t = 22 ∨ t = 23 ∨ t = 24 ∨ t = 25) with rfl | rfl | rfl | rfl | rfl | rfl | rfl | rfl | rfl | rfl | rfl | rfl | rfl | rfl | rfl | rfl | rfl | rfl | rfl | rfl | rfl | rfl | rfl | rfl | rfl | rfl
          · exact hlow 0 (by kernel_rfl)
          · exact hlow 1 (by kernel_rfl)
          · exact hlow 2 (by kernel_rfl)
          · exact hlow 3 (by kernel_rfl)
          · exact hlow 4 (by kernel_rfl)
          · exact hlow 5 (by kernel_rfl)
          · exact hlow 6 (by kernel_rfl)
          · exact hlow 7 (by kernel_rfl)
          · exact hlow 8 (by kernel_rfl)
          · exact hlow 9 (by kernel_rfl)
          · exact hlow 10 (by kernel_rfl)
          · exact hlow 11 (by kernel_rfl)
          · exact hlow 12 (by kernel_rfl)
          · exact hval 0 _ 13 rfl rfl
          · exact hval 1 _ 14 rfl rfl
          · exact hval 2 _ 15 rfl rfl
          · exact hval 3 _ 16 rfl rfl
          · exact hval 4 _ 17 rfl rfl
          · exact hlow 18 (by kernel_rfl)
          · exact hlow 19 (by kernel_rfl)
          · exact hlow 20 (by kernel_rfl)
          · exact hlow 21 (by kernel_rfl)
          · exact hlow 22 (by kernel_rfl)
          · exact hlow 23 (by kernel_rfl)
          · exact hlow 24 (by kernel_rfl)
          · exact hlow 25 (by kernel_rfl)
        subst ht
        have HF := Lib.hid (And.intro hS.1 (hS.2.2 (hall 5 (by decide))))
        clear hlow hval hsz hall hS
        gi_wp2
        exact ⟨HF.out.1.1.from _, fun _ => HT.out.below HF.out.1.2.1, ⟨HF.out.1.2.2, by rw [HSN.out]; exact HF.out.2⟩, HF.out.1.2.1⟩
      · intro L ac w' q op hLs hop hLi hLd hLn ⟨hS0, hS1, hS2⟩ hlow hdep _
        have hq : q < 6 := (Array.getElem?_eq_some_iff.1 hop).1
        have K : ∀ {WK : World} {q : Nat}, q ≠ 5 → (KeepsOthers W WK ∧ Below w.heap.size w WK ∧ BlockIs WK w.heap.size 72 (wlC (.slice A js.length c) (js.length : Int) B)) → (L.getD 5 true = false → BlockIs WK (w.heap.size + 1) 3 #[.int .i64 sm]) → (L.getD 5 true = true → BlockIs WK (w.heap.size + 1) 3 #[.int .i64 (max sm tx)]) → (KeepsOthers W WK ∧ Below w.heap.size w WK ∧ BlockIs WK w.heap.size 72 (wlC (.slice A js.length c) (js.length : Int) B)) ∧ ((L.setIfInBounds q true).getD 5 true = false → BlockIs WK (w.heap.size + 1) 3 #[.int .i64 sm]) ∧ ((L.setIfInBounds q true).getD 5 true = true → BlockIs WK (w.heap.size + 1) 3 #[.int .i64 (max sm tx)]) := by
          intro WK q h9 ka kb2 kc
          rw [getD_set_true, if_neg (fun h => h9 h.1)]
          exact ⟨ka, kb2, kc⟩
        rcases (by omega : q = 0 ∨ q = 1 ∨ q = 2 ∨ q = 3 ∨ q = 4 ∨ q = 5) with rfl | rfl | rfl | rfl | rfl | rfl
        · obtain rfl := Option.some.inj hop
          have e5 : ac.tmps[5]?.getD undef = .pointer (some ⟨w.heap.size + 1, 0, none⟩) := (Array.getD_eq_getD_getElem? ..).symm.trans (hlow 5 (by kernel_rfl))
          have hc := (hS1 (hLn 5 (by kernel_rfl))).cell 0
          simp only [List.getElem?_toArray, List.getElem?_cons_zero] at hc
          exact ⟨wanted_free rfl, .inl (.inl ⟨w', by simp [execOp, Act.eval, e5, hc, go_sem], K (by decide) hS0 hS1 hS2⟩)⟩
        · obtain rfl := Option.some.inj hop
          have e2 : ac.tmps[2]?.getD undef = .pointer (some ⟨w.heap.size, 0, none⟩) := (Array.getD_eq_getD_getElem? ..).symm.trans (hlow 2 (by kernel_rfl))
          exact ⟨wanted_free rfl, .inl (.inl ⟨w', exec_load10 (x := .tmp 2) rfl (hlow 2 (by kernel_rfl)) hS0.2.2 rfl, K (by decide) hS0 hS1 hS2⟩)⟩
        · obtain rfl := Option.some.inj hop
          have e6 : ac.tmps[6]?.getD undef = .int .i64 (x : Int) := (Array.getD_eq_getD_getElem? ..).symm.trans (hlow 6 (by kernel_rfl))
          exact ⟨wanted_free rfl, .inl (.inl ⟨w', by simp [execOp, Act.eval, e6, go_sem], K (by decide) hS0 hS1 hS2⟩)⟩
        · obtain rfl := Option.some.inj hop
          have e14 : ac.tmps[14]?.getD undef = .agg #[.slice A js.length c, .int .i64 (js.length : Int), .int .u64 (B 0 : Int), .int .u64 (B 1 : Int), .int .u64 (B 2 : Int), .int .u64 (B 3 : Int), .int .u64 (B 4 : Int), .int .u64 (B 5 : Int), .int .u64 (B 6 : Int), .int .u64 (B 7 : Int)] := (Array.getD_eq_getD_getElem? ..).symm.trans (hdep 1 _ 14 (by kernel_rfl) rfl rfl)
          have e15 : ac.tmps[15]?.getD undef = .int .i64 (x : Int) := (Array.getD_eq_getD_getElem? ..).symm.trans (hdep 2 _ 15 (by kernel_rfl) rfl rfl)
          refine ⟨wanted_free rfl, .inl (.inr ⟨91, #[.agg #[.slice A js.length c, .int .i64 (js.length : Int), .int .u64 (B 0 : Int), .int .u64 (B 1 : Int), .int .u64 (B 2 : Int), .int .u64 (B 3 : Int), .int .u64 (B 4 : Int), .int .u64 (B 5 : Int), .int .u64 (B 6 : Int), .int .u64 (B 7 : Int)], .int .i64 (x : Int)], by simp [execOp, Act.eval, e14, e15, go_sem], (HCX.out w' (HR.out.below hS0.2.1) (HT.out.below hS0.2.1)).mono ?_⟩)⟩
          rintro e w2 ⟨rfl, hb⟩
          exact ⟨rfl, K (by decide) (kb hS0 hb) (fun h => ob (hS1 h) hb) (fun h => nb (hS2 h) hb)⟩
        · obtain rfl := Option.some.inj hop
          have e13 : ac.tmps[13]?.getD undef = .int .i64 sm := (Array.getD_eq_getD_getElem? ..).symm.trans (hdep 0 _ 13 (by kernel_rfl) rfl rfl)
          have e16 : ac.tmps[16]?.getD undef = .int .i64 tx := (Array.getD_eq_getD_getElem? ..).symm.trans (hdep 3 _ 16 (by kernel_rfl) rfl rfl)
          exact ⟨wanted_free rfl, .inl (.inl ⟨w', by simp [execOp, Act.eval, e13, e16, hmx, go_sem], K (by decide) hS0 hS1 hS2⟩)⟩
        · obtain rfl := Option.some.inj hop
          have e5 : ac.tmps[5]?.getD undef = .pointer (some ⟨w.heap.size + 1, 0, none⟩) := (Array.getD_eq_getD_getElem? ..).symm.trans (hlow 5 (by kernel_rfl))
          have e17 : ac.tmps[17]?.getD undef = .int .i64 (max sm tx) := (Array.getD_eq_getD_getElem? ..).symm.trans (hdep 4 _ 17 (by kernel_rfl) rfl rfl)
          have hO := hS1 hLi
          have hc := hO.cell 0
          simp only [List.getElem?_toArray, List.getElem?_cons_zero] at hc
          have fz := hO.frozen 0
          refine ⟨wanted_free rfl, .inr ⟨w'.setCell ⟨w.heap.size + 1, 0, none⟩ (.int .i64 (max sm tx)), rfl, by simp [execOp, Act.eval, e5, e17, hc, fz, go_sem], ?_⟩⟩
          refine ⟨⟨hS0.1.trans (KeepsOthers.setCell _ _ _), hS0.2.1.setCell (p := ⟨w.heap.size + 1, 0, none⟩) (by show _ ≤ w.heap.size + 1; omega) _, hS0.2.2.away (g' := w.heap.size + 1) (by omega) _ _⟩, fun h => ?_, fun _ => hO.set 0 _⟩
          rw [getD_set_true, if_pos ⟨rfl, by rw [hLs]; decide⟩] at h
          cases h
    case done =>
      rintro D ys W hD hys ⟨⟨y0, y1⟩, hb⟩ hK
      have hmo : Tryd.prog.follows .mixedOrders = true := by kernel_rfl
      rw [hys] at y1
      have hml := mostL_bd (g := tf) (m := 50 * (f : Int)) (by omega) (memB s) (fun i hi => (HGB.out i (HMEM.out i ((memB_mem hs).1 hi)).1).2)
      obtain ⟨ad, rfl, _, hc0, hc1, hc2, hc3⟩ := HR.out.job hj
      have HJ := Lib.hid (fun W' (h : Below w.heap.size w W') => (HR.out.below h).job hj)
      have hj1 : (j : Int) < js.length := by omega
      have hj0 : (0 : Int) ≤ j := by omega
      obtain ⟨mm, hmm⟩ : ∃ mm, mostL tf (memB s) = mm := ⟨_, rfl⟩
      rw [hmm] at y1 hml
      have HMM := Lib.hid hmm
      clear hmm
      have hwr := IntWalk.i64_in (js[j].t + mm) (by omega)
      clear hc0 hc1 hc2 hc3
      have HJT : Hid (∀ W', Below w.heap.size w W' → W'.cell? (ad.add (j * 4)) = some (.int .i64 js[j].t)) := fun W' h => by
        obtain ⟨ad', e, _, hc, _⟩ := HJ.out W' h
        obtain rfl := Option.some.inj e
        exact hc
      clear HJ
      obtain ⟨tj, htj⟩ : ∃ tj, js[j].t = tj := ⟨_, rfl⟩
      rw [htj] at HJT hwr
      have HTJ := Lib.hid htj
      clear htj hjt
      gi_wp2
      refine wpIn_region_detZ (fun _ => trivial) rfl (fun _ _ _ _ h => callsIn_wide.2 h) (by kernel_rfl) hmo (fun L w' => w' = W.drew) (fun kk => (#[.pointer (some ⟨w.heap.size, 0, none⟩), .slice (some ad) js.length c, .int .i64 (j : Int), .pointer (some (ad.add (j * 4))), .pointer (some (ad.add (j * 4))), .int .i64 tj, .int .i64 mm, .int .i64 (tj + mm), .int .i64 (tj + mm)] : Array Value).getD kk undef) (by kernel_rfl) (by kernel_rfl) rfl ?_ ?_
      · intro L tm w' hall hS hsz hlow hval
        have ht : tm = #[.agg #[.slice (some ad) js.length c, .int .i64 (js.length : Int), .int .u64 (B 0 : Int), .int .u64 (B 1 : Int), .int .u64 (B 2 : Int), .int .u64 (B 3 : Int), .int .u64 (B 4 : Int), .int .u64 (B 5 : Int), .int .u64 (B 6 : Int), .int .u64 (B 7 : Int)], .int .i64 (j : Int), .pointer (some ⟨w.heap.size, 0, none⟩), undef, .int .i64 (tj + mm), .pointer (some ⟨w.heap.size + 1, 0, none⟩), undef, .pointer (some ⟨w.heap.size, 1, none⟩), .agg #[.int .i64 (js.length : Int), .int .u64 (B 0 : Int), .int .u64 (B 1 : Int), .int .u64 (B 2 : Int), .int .u64 (B 3 : Int), .int .u64 (B 4 : Int), .int .u64 (B 5 : Int), .int .u64 (B 6 : Int), .int .u64 (B 7 : Int)], .int .i64 (j : Int), .int .u64 (s : Int), .func (.func 127) #[] #[.pointer (some ⟨gS, 0, none⟩)], undef, undef, undef, undef, undef, undef, .pointer (some ⟨w.heap.size, 0, none⟩), .slice (some ad) js.length c, .int .i64 (j : Int), .pointer (some (ad.add (j * 4))), .pointer (some (ad.add (j * 4))), .int .i64 tj, .int .i64 mm, .int .i64 (tj + mm)] := by
          refine arr_of _ _ hsz fun t ht => ?_
          have ht' : t < 26 := ht
          rcases (by omega : t = 0 ∨ t = 1 ∨ t = 2 ∨ t = 3 ∨ t = 4 ∨ t = 5 ∨ t = 6 ∨ t = 7 ∨ t = 8 ∨ t = 9 ∨ t = 10 ∨ t = 11 ∨ t = 12 ∨ t = 13 ∨ t = 14 ∨ t = 15 ∨ t = 16 ∨ t = 17 ∨ t = 18 ∨ t = 19 ∨ t = 20 ∨ t = 21 ∨ t = 22 ∨ t = 23 ∨ t = 24 ∨ t = 25) with rfl | rfl | rfl | rfl | rfl | rfl | rfl | rfl | rfl | rfl | rfl | rfl | rfl | rfl | rfl | rfl | rfl | rfl | rfl | rfl | rfl | rfl | rfl | rfl | rfl | rfl
          · exact hlow 0 (by kernel_rfl)
          · exact hlow 1 (by kernel_rfl)
          · exact hlow 2 (by kernel_rfl)
          · exact hlow 3 (by kernel_rfl)
          · exact hval 8 _ 4 rfl rfl
          · exact hlow 5 (by kernel_rfl)
          · exact hlow 6 (by kernel_rfl)
          · exact hlow 7 (by kernel_rfl)
          · exact hlow 8 (by kernel_rfl)
          · exact hlow 9 (by kernel_rfl)
          · exact hlow 10 (by kernel_rfl)
          · exact hlow 11 (by kernel_rfl)
          · exact hlow 12 (by kernel_rfl)
          · exact hlow 13 (by kernel_rfl)
          · exact hlow 14 (by kernel_rfl)
          · exact hlow 15 (by kernel_rfl)
          · exact hlow 16 (by kernel_rfl)
          · exact hlow 17 (by kernel_rfl)
          · exact hval 0 _ 18 rfl rfl
          · exact hval 1 _ 19 rfl rfl
          · exact hval 2 _ 20 rfl rfl
          · exact hval 3 _ 21 rfl rfl
          · exact hval 4 _ 22 rfl rfl
          · exact hval 5 _ 23 rfl rfl
          · exact hval 6 _ 24 rfl rfl
          · exact hval 7 _ 25 rfl rfl
        subst ht
        have HF := Lib.hid hS
        clear hlow hval hsz hall hS
        obtain rfl : w' = W.drew := HF.out
        gi_wp2
        refine ⟨by simp, .inl ⟨_, _, rfl, run_takeDeferred hK, ?_⟩⟩
        exact ⟨_, results_tmp rfl _ _ _, by rw [HTJ.out, show mostL (fun i => tf i) (memB s) = mm from HMM.out]; rfl, hb.drew.trans (belowK_b (w := w3) (by omega) W.drew D _ _ (by omega) hK rfl rfl)⟩
      · intro L ac w' q op hLs hop hLi hLd hLn hS0 hlow hdep _
        have hq : q < 9 := (Array.getElem?_eq_some_iff.1 hop).1
        rcases (by omega : q = 0 ∨ q = 1 ∨ q = 2 ∨ q = 3 ∨ q = 4 ∨ q = 5 ∨ q = 6 ∨ q = 7 ∨ q = 8) with rfl | rfl | rfl | rfl | rfl | rfl | rfl | rfl | rfl
        · obtain rfl := Option.some.inj hop
          have e2 : ac.tmps[2]?.getD undef = .pointer (some ⟨w.heap.size, 0, none⟩) := (Array.getD_eq_getD_getElem? ..).symm.trans (hlow 2 (by kernel_rfl))
          exact ⟨wanted_free rfl, .inl (.inl ⟨w', by simp [execOp, Act.eval, e2, go_sem], hS0⟩)⟩
        · obtain rfl := Option.some.inj hop
          have e18 : ac.tmps[18]?.getD undef = .pointer (some ⟨w.heap.size, 0, none⟩) := (Array.getD_eq_getD_getElem? ..).symm.trans (hdep 0 _ 18 (by kernel_rfl) rfl rfl)
          have hc : w'.cell? ⟨w.heap.size, 0, none⟩ = some (.slice (some ad) js.length c) := by rw [hS0]; exact y0.cell 0
          exact ⟨wanted_free rfl, .inl (.inl ⟨w', by simp [execOp, Act.eval, e18, hc, go_sem], hS0⟩)⟩
        · obtain rfl := Option.some.inj hop
          have e1 : ac.tmps[1]?.getD undef = .int .i64 (j : Int) := (Array.getD_eq_getD_getElem? ..).symm.trans (hlow 1 (by kernel_rfl))
          exact ⟨wanted_free rfl, .inl (.inl ⟨w', by simp [execOp, Act.eval, e1, go_sem], hS0⟩)⟩
        · obtain rfl := Option.some.inj hop
          have e19 : ac.tmps[19]?.getD undef = .slice (some ad) js.length c := (Array.getD_eq_getD_getElem? ..).symm.trans (hdep 1 _ 19 (by kernel_rfl) rfl rfl)
          have e20 : ac.tmps[20]?.getD undef = .int .i64 (j : Int) := (Array.getD_eq_getD_getElem? ..).symm.trans (hdep 2 _ 20 (by kernel_rfl) rfl rfl)
          exact ⟨wanted_free rfl, .inl (.inl ⟨w', by simp [execOp, Act.eval, e19, e20, hj0, hj1, go_sem], hS0⟩)⟩
        · obtain rfl := Option.some.inj hop
          have e21 : ac.tmps[21]?.getD undef = .pointer (some (ad.add (j * 4))) := (Array.getD_eq_getD_getElem? ..).symm.trans (hdep 3 _ 21 (by kernel_rfl) rfl rfl)
          exact ⟨wanted_free rfl, .inl (.inl ⟨w', by simp [execOp, Act.eval, e21, go_sem], hS0⟩)⟩
        · obtain rfl := Option.some.inj hop
          have e22 : ac.tmps[22]?.getD undef = .pointer (some (ad.add (j * 4))) := (Array.getD_eq_getD_getElem? ..).symm.trans (hdep 4 _ 22 (by kernel_rfl) rfl rfl)
          have hc : w'.cell? (ad.add (j * 4)) = some (.int .i64 tj) := by rw [hS0]; exact HJT.out W.drew hb.drew
          exact ⟨wanted_free rfl, .inl (.inl ⟨w', by simp [execOp, Act.eval, e22, hc, go_sem], hS0⟩)⟩
        · obtain rfl := Option.some.inj hop
          have e5 : ac.tmps[5]?.getD undef = .pointer (some ⟨w.heap.size + 1, 0, none⟩) := (Array.getD_eq_getD_getElem? ..).symm.trans (hlow 5 (by kernel_rfl))
          have hc : w'.cell? ⟨w.heap.size + 1, 0, none⟩ = some (.int .i64 mm) := by rw [hS0]; exact y1.cell
          exact ⟨wanted_free rfl, .inl (.inl ⟨w', by simp [execOp, Act.eval, e5, hc, go_sem], hS0⟩)⟩
        · obtain rfl := Option.some.inj hop
          have e23 : ac.tmps[23]?.getD undef = .int .i64 tj := (Array.getD_eq_getD_getElem? ..).symm.trans (hdep 5 _ 23 (by kernel_rfl) rfl rfl)
          have e24 : ac.tmps[24]?.getD undef = .int .i64 mm := (Array.getD_eq_getD_getElem? ..).symm.trans (hdep 6 _ 24 (by kernel_rfl) rfl rfl)
          exact ⟨wanted_free rfl, .inl (.inl ⟨w', by simp [execOp, Act.eval, e23, e24, hwr, go_sem], hS0⟩)⟩
        · obtain rfl := Option.some.inj hop
          have e25 : ac.tmps[25]?.getD undef = .int .i64 (tj + mm) := (Array.getD_eq_getD_getElem? ..).symm.trans (hdep 7 _ 25 (by kernel_rfl) rfl rfl)
          exact ⟨wanted_free rfl, .inl (.inl ⟨w', by simp [execOp, Act.eval, e25, go_sem], hS0⟩)⟩
    case stop =>
      rintro D cd pre W _ _ h _
      exact h.elim
end
end Go.Proofs.YtejgpecmjfgfbaaDoor

namespace Go.Proofs.YtejgpecmjfgfbaaDoor
open Go.RowKit
theorem BlockIs.cast {w : World} {g : Nat} {t : TypeId} {cs ds : Array Value} (h : BlockIs w g t cs) (e : cs = ds) : BlockIs w g t ds := by subst e; exact h
theorem tailsL_at (js : List J) (E : List Ed) {k : Nat} (hk : k < js.length) : (tailsL js E)[k]'(by rw [tailsL_len]; exact hk) = tailF js (tabB js.length E) js.length 9 k := by unfold tailsL; simp
set_option maxRecDepth 100000 in
set_option maxHeartbeats 2000000 in
theorem tails_any (A : Option Addr) (c : Nat) (js : List J) (E : List Pr) (w : World) (hr : Row w A (jc js)) (hok : ∀ j ∈ js, okJ j = true) (h8 : js.length ≤ 8) (hirr : irrB js.length E js.length = true) (hT : TzTab w) :
    Calls Tryd.prog 57 #[.agg (wlC (.slice A js.length c) (js.length : Int) (befN js.length (tabB js.length E)))] w fun e w' => ∃ g, e = .returned (.slice (some ⟨g, 0, none⟩) js.length js.length) ∧ w.heap.size ≤ g ∧ BlockIs w' g 3 (ic (tailsL js E)).toArray ∧ Below w.heap.size w w' := by
  have hmk := run_make_row' (P := Tryd.prog) 24 3 (.int .i64 0) 8 Tryd.underlying24 infoI rfl .i64 .i64 js.length (by omega) (by omega)
  have HTL := Lib.hid (fun W k (hb : Below w.heap.size w W) (hk : k < js.length) => tail_any (c := c) hok h8 hirr 9 k W (by omega) hk (by have := cntS_le js.length (tabB js.length E) k; omega) (hr.below hb) (hT.below hb))
  obtain ⟨B, hB⟩ : ∃ B, befN js.length (tabB js.length E) = B := ⟨_, rfl⟩
  rw [hB] at HTL ⊢
  clear hB
  have hb1 := (Below.refl w.heap.size w).alloc (Nat.le_refl _) (.cells (wlC (.slice A js.length c) (js.length : Int) B) 72)
  have hB1 := BlockIs.new w 72 (wlC (.slice A js.length c) (js.length : Int) B)
  have c0 := hB1.cell 0
  have c1 := hB1.cell 1
  have c2 := hB1.cell 2
  have c3 := hB1.cell 3
  have c4 := hB1.cell 4
  have c5 := hB1.cell 5
  have c6 := hB1.cell 6
  have c7 := hB1.cell 7
  have c8 := hB1.cell 8
  have c9 := hB1.cell 9
  simp only [wlC, List.getElem?_toArray, List.getElem?_cons_zero, List.getElem?_cons_succ] at c0 c1 c2 c3 c4 c5 c6 c7 c8 c9
  have hb2 := hb1.alloc hb1.size (.cells (madeCells #[.int .i64 0] js.length) 3)
  have hB2 := hB1.below ((Below.refl _ _).alloc (Nat.le_refl _) (.cells (madeCells #[.int .i64 0] js.length) 3))
  have hG2 := BlockIs.new (w.alloc (.cells (wlC (.slice A js.length c) (js.length : Int) B) 72)) 3 (madeCells #[.int .i64 0] js.length)
  rw [World.size_alloc] at hG2
  have hG3 := hG2.cast (ic_made js.length)
  have H0 := Lib.hid (And.intro hb2 (And.intro hB2 hG3))
  have hTL : (tailsL js E).length = js.length := tailsL_len js E
  have HAT : Hid (∀ k (hk : k < js.length), (tailsL js E)[k]'(by rw [tailsL_len]; exact hk) = tailF js (tabB js.length E) js.length 9 k) := fun k hk => tailsL_at js E hk
  have HLEN := Lib.hid hTL
  clear hb1 hB1 hb2 hB2 hG2 hG3 hr hT hTL
  unfold wlC
  go_enter Tryd.func57, Tryd.ntmps57
  go_wp2
  clear hmk c0 c1 c2 c3 c4 c5 c6 c7 c8 c9
  go_loopw [11] (fun i wr => ∃ k : Nat, k ≤ js.length ∧ i = .int .i64 (k : Int) ∧ Hid (Below w.heap.size w wr ∧ BlockIs wr w.heap.size 72 (wlC (.slice A js.length c) (js.length : Int) B) ∧ BlockIs wr (w.heap.size + 1) 3 (ic ((tailsL js E).take k ++ (List.replicate js.length 0).drop k)).toArray)) (fun i _ => js.length - (intOf i).toNat)
  case atStart => exact ⟨0, Nat.zero_le _, rfl, by rw [List.take_zero, List.nil_append, List.drop_zero]; exact H0.out⟩
  case round =>
    obtain ⟨k, hk, rfl, HW⟩ := hrel
    clear H0
    by_cases hlt : k < js.length
    · have hBk := HW.out.2.1
      have c0 := hBk.cell 0
      have c1 := hBk.cell 1
      have c2 := hBk.cell 2
      have c3 := hBk.cell 3
      have c4 := hBk.cell 4
      have c5 := hBk.cell 5
      have c6 := hBk.cell 6
      have c7 := hBk.cell 7
      have c8 := hBk.cell 8
      have c9 := hBk.cell 9
      simp only [wlC, List.getElem?_toArray, List.getElem?_cons_zero, List.getElem?_cons_succ] at c0 c1 c2 c3 c4 c5 c6 c7 c8 c9
      have HC := Lib.hid (HTL.out wr k HW.out.1 hlt)
      have hk0 : (0 : Int) ≤ k := by omega
      have hk1 : (k : Int) < js.length := by omega
      have hrl : (List.replicate js.length (0 : Int)).length = js.length := by simp
      have HTK := Lib.hid (HAT.out k hlt)
      have HL := HLEN.out
      clear hBk
      obtain ⟨tk, htk⟩ : ∃ tk, tailF js (tabB js.length E) js.length 9 k = tk := ⟨_, rfl⟩
      rw [htk] at HC HTK
      clear htk
      unfold wlC at HC
      have HL2 := Lib.hid HL
      have HRL := Lib.hid hrl
      clear HL hrl
      go_wp2_with fail
      refine HC.out.mono ?_
      rintro e w5 ⟨rfl, hb5⟩
      have hG5 := HW.out.2.2.below hb5
      have hck := hG5.int (k := k) (by rw [mix_len _ _ _ (by have := HL2.out; have := HRL.out; omega) (by have := HL2.out; omega)]; have := HRL.out; omega)
      have hfz := hG5.frozen k
      have HG := Lib.hid (hG5.set k (.int .i64 tk))
      rw [ic_set, mix_step _ _ k tk (by have := HL2.out; have := HRL.out; omega) (by have := HL2.out; omega) HTK.out] at HG
      have HF := Lib.hid (And.intro ((HW.out.1.trans (hb5.mono HW.out.1.size)).setCell (p := ⟨w.heap.size + 1, k, none⟩) (by show _ ≤ w.heap.size + 1; omega) (.int .i64 tk)) ((HW.out.2.1.below hb5).away (g' := w.heap.size + 1) (by omega) k (.int .i64 tk)))
      clear hG5 hb5 HC HW c0 c1 c2 c3 c4 c5 c6 c7 c8 c9
      generalize ((tailsL js E).take k ++ (List.replicate js.length (0 : Int)).drop k)[k]'_ = old at *
      go_wp2
      go_roundw
      case rel => exact ⟨k + 1, by omega, by go_num, HF.out.1, HF.out.2, HG.out⟩
      case measure => simp [intOf]; omega
    · obtain rfl : k = js.length := by omega
      have hG := HW.out.2.2
      rw [List.take_of_length_le (by have := HLEN.out; omega), List.drop_eq_nil_of_le (by simp), List.append_nil] at hG
      have HG := Lib.hid hG
      clear hG
      go_wp2
      go_ret
      exact ⟨w.heap.size + 1, rfl, by omega, HG.out, HW.out.1⟩
theorem wl_good {js : List J} {E : List Pr} (m : Int) (hm : inB m 1 4 = true) : goodB js m E = wlB js E := by
  unfold goodB wlB plainL
  rw [hm, Bool.true_and, Bool.and_assoc]
theorem wl_parts {js : List J} {E : List Pr} (h : wlB js E = true) : (∀ j ∈ js, okJ j = true) ∧ js.length ≤ 8 ∧ irrB js.length E js.length = true := by
  rw [← wl_good 1 rfl] at h
  obtain ⟨a, b, c, _⟩ := good_parts h
  exact ⟨a, b, c⟩
set_option maxRecDepth 100000 in
set_option maxHeartbeats 2000000 in
/-- The tails of no jobs. -/
theorem tailsZ_any (w : World) : Calls Tryd.prog 57 #[.agg wlZ] w fun e w' => ∃ g, e = .returned (.slice (some ⟨g, 0, none⟩) 0 0) ∧ w.heap.size ≤ g ∧ BlockIs w' g 3 (ic []).toArray ∧ Below w.heap.size w w' := by
  have hmk : ∀ w : World, (Instr.makeSlice 24 (.int .i64 0) (.int .i64 0)).run Tryd.prog w = .ok (.slice (some ⟨w.heap.size, 0, none⟩) 0 0) (w.alloc (.cells (madeCells #[.int .i64 0] 0) 3)) := fun w => run_make_row' (P := Tryd.prog) 24 3 (.int .i64 0) 8 Tryd.underlying24 infoI rfl .i64 .i64 0 (by omega) (by omega) w
  have hb1 := (Below.refl w.heap.size w).alloc (Nat.le_refl _) (.cells wlZ 72)
  have hb2 := hb1.alloc hb1.size (.cells (madeCells #[.int .i64 0] 0) 3)
  have hG2 := BlockIs.new (w.alloc (.cells wlZ 72)) 3 (madeCells #[.int .i64 0] 0)
  rw [World.size_alloc] at hG2
  have hG3 := hG2.cast (ic_made 0)
  have H0 := Lib.hid (And.intro hb2 hG3)
  clear hb1 hb2 hG2 hG3
  unfold wlZ
  unfold wlZ at H0
  go_enter Tryd.func57, Tryd.ntmps57
  go_wp2
  refine wp_loop_rounds 1 ?_
  rw [rounds_succ]
  go_wp2
  go_ret
  exact ⟨w.heap.size + 1, rfl, by omega, H0.out.2, H0.out.1⟩
end Go.Proofs.YtejgpecmjfgfbaaDoor

namespace Go.Proofs.YtejgpecmjfgfbaaDoor
open Go.RowKit
/-- Where a job stands among the first k. -/
def posGo (p : List Nat) (a : Nat) : Nat → Nat
  | 0 => 0
  | k + 1 => if p.getD k 0 = a then k else posGo p a k
theorem posGo_le (p : List Nat) (a : Nat) : ∀ k, posGo p a k ≤ k
  | 0 => Nat.le_refl _
  | k + 1 => by
    show (if _ then _ else _) ≤ _
    split
    · omega
    · have := posGo_le p a k; omega
theorem posGo_at {p : List Nat} (hd : p.Nodup) {i : Nat} (hi : i < p.length) : ∀ k, i < k → k ≤ p.length → posGo p p[i] k = i
  | 0, h, _ => by omega
  | k + 1, h, hk => by
    show (if _ then _ else _) = _
    rw [getD_at p 0 (by omega : k < p.length)]
    by_cases e : i = k
    · subst e; rw [if_pos rfl]
    · rw [if_neg (fun h' => e ((List.getElem_inj hd (h₀ := hi) (h₁ := by omega)).1 h'.symm)), posGo_at hd hi k (by omega) (by omega)]
def extE (E : List Ed) (p : List Nat) (k : Nat) : Bool := (List.range k).all fun x => decide (posGo p (E.getD x (0, 0)).1.toNat p.length ≤ posGo p (E.getD x (0, 0)).2.toNat p.length)
theorem extE_succ (E : List Ed) (p : List Nat) (k : Nat) : extE E p (k + 1) = (extE E p k && decide (posGo p (E.getD k (0, 0)).1.toNat p.length ≤ posGo p (E.getD k (0, 0)).2.toNat p.length)) := by
  unfold extE; rw [List.range_succ, List.all_append]; simp
theorem extE_bad {E : List Ed} {p : List Nat} {k m : Nat} (h : k < m) (hk : ¬ posGo p (E.getD k (0, 0)).1.toNat p.length ≤ posGo p (E.getD k (0, 0)).2.toNat p.length) : extE E p m = false := by
  unfold extE; rw [List.all_eq_false]; exact ⟨k, List.mem_range.2 h, by rw [decide_eq_true_eq]; exact hk⟩
theorem ext_same {n : Nat} {E : List Ed} (hin : InE n E) (hirr : irrB n E n = true) {p : List Nat} (hp : p.Perm (List.range n)) (hE : ∀ k (h : k < E.length), ∃ a b : Nat, E[k] = ((a : Int), (b : Int)) ∧ a < n ∧ b < n) : extE E p E.length = extB n E p := by
  have hd := perm_nodup hp
  have hl : p.length = n := by simpa using hp.length_eq
  rw [Bool.eq_iff_iff, ext_edges hin hp]
  constructor
  · intro h a b he i j hi hj hia hjb
    obtain ⟨k, hk, e⟩ := List.mem_iff_getElem.1 (edB_iff.1 he)
    unfold extE at h
    have h1 := List.all_eq_true.1 h k (List.mem_range.2 hk)
    rw [decide_eq_true_eq, getD_at E (0, 0) hk, e] at h1
    simp only [Int.toNat_natCast] at h1
    rw [← hia, ← hjb, posGo_at hd hi _ hi (Nat.le_refl _), posGo_at hd hj _ hj (Nat.le_refl _)] at h1
    have hab : a ≠ b := fun e' => by
      subst e'
      have := irrB_bad (k := a) (m := n) (hin a a he).1 (tabTo_le E (Nat.zero_le n) he)
      rw [this] at hirr
      cases hirr
    have : i ≠ j := fun e' => by subst e'; exact hab (hia.symm.trans hjb)
    omega
  · intro h
    unfold extE
    refine List.all_eq_true.2 fun k hk => ?_
    have hk' := List.mem_range.1 hk
    obtain ⟨a, b, e, ha, hb⟩ := hE k hk'
    rw [decide_eq_true_eq, getD_at E (0, 0) hk', e]
    simp only [Int.toNat_natCast]
    obtain ⟨i, hi, hia⟩ := List.getElem_of_mem (perm_mem hp ha)
    obtain ⟨j, hj, hjb⟩ := List.getElem_of_mem (perm_mem hp hb)
    have := h a b (edB_iff.2 (by rw [← e]; exact List.getElem_mem hk')) i j hi hj hia hjb
    rw [← hia, ← hjb, posGo_at hd hi _ hi (Nat.le_refl _), posGo_at hd hj _ hj (Nat.le_refl _)]
    omega
/-- The set of the first k jobs of an order. -/
def setTo2 (p : List Nat) (k : Nat) : Nat := (p.take k).foldl addB 0
theorem setTo2_succ {p : List Nat} {k : Nat} (h : k < p.length) : setTo2 p (k + 1) = addB (setTo2 p k) p[k] := by
  unfold setTo2; rw [List.take_succ_eq_append_getElem h, List.foldl_append]; rfl
theorem foldl_add_bit : ∀ (l : List Nat) (s i : Nat), (l.foldl addB s).testBit i = (s.testBit i || l.contains i)
  | [], s, i => by simp
  | x :: l, s, i => by
    rw [List.foldl_cons, foldl_add_bit l, bit_add, List.contains_cons, Bool.or_assoc]
    congr 1
theorem foldl_add_lt : ∀ (l : List Nat) (s : Nat), s < 256 → (∀ x ∈ l, x < 8) → l.foldl addB s < 256
  | [], _, h, _ => h
  | x :: l, _, h, hl => foldl_add_lt l _ (add_lt h (hl x List.mem_cons_self)) fun y hy => hl y (List.mem_cons_of_mem _ hy)
def withinB (s t : Nat) : Bool := decide (minusB s t = 0)
theorem within_iff {s t : Nat} (hs : s < 256) : withinB s t = true ↔ ∀ i, s.testBit i = true → t.testBit i = true := by
  unfold withinB
  rw [decide_eq_true_iff]
  constructor
  · intro h i hi
    have := bit_minus hs t i
    rw [h, Nat.zero_testBit, hi, Bool.true_and] at this
    simpa using this.symm
  · intro h
    refine set_ext (minus_lt hs t) (by decide) fun i _ => ?_
    rw [bit_minus hs, Nat.zero_testBit]
    cases hi : s.testBit i
    · rfl
    · rw [h i hi]; rfl
theorem keeps_within {n : Nat} (hn : n ≤ 8) (E : List Ed) {p : List Nat} {k : Nat} (hk : k < p.length) : withinB (befN n (tabB n E) p[k]) (setTo2 p k) = keepsB n E p k := by
  rw [Bool.eq_iff_iff, within_iff (bef_lt hn _ _)]
  unfold keepsB
  rw [List.all_eq_true, getD_at p 0 hk]
  have hb : ∀ i, (setTo2 p k).testBit i = (p.take k).contains i := fun i => by unfold setTo2; rw [foldl_add_bit, Nat.zero_testBit, Bool.false_or]
  constructor
  · intro h i hi
    cases ht : tabB n E i p[k]
    · rfl
    · have := h i (by rw [bef_bit, decide_eq_true (List.mem_range.1 hi), ht]; rfl)
      rw [hb] at this
      rw [this]; rfl
  · intro h i hi
    rw [bef_bit, Bool.and_eq_true, decide_eq_true_eq] at hi
    have := h i (List.mem_range.2 hi.1)
    rw [hi.2] at this
    rw [hb]
    simpa using this
def extK (n : Nat) (E : List Ed) (p : List Nat) (k : Nat) : Bool := (List.range k).all (keepsB n E p)
theorem extK_succ (n : Nat) (E : List Ed) (p : List Nat) (k : Nat) : extK n E p (k + 1) = (extK n E p k && keepsB n E p k) := by unfold extK; rw [List.range_succ, List.all_append]; simp
theorem extK_bad {n : Nat} {E : List Ed} {p : List Nat} {k m : Nat} (h : k < m) (hk : keepsB n E p k = false) : extK n E p m = false := by
  unfold extK; rw [List.all_eq_false]; exact ⟨k, List.mem_range.2 h, by rw [hk]; simp⟩
theorem andNot_u64 {s t : Nat} (hs : s < 256) : bits BinOp.andNot IntKind.u64 (s : Int) (t : Int) = ((minusB s t : Nat) : Int) := by
  have h : (BitVec.ofInt 64 (s : Int) &&& ~~~ BitVec.ofInt 64 (t : Int)).toNat = minusB s t := by
    apply Nat.eq_of_testBit_eq
    intro i
    rw [bit_minus hs, BitVec.testBit_toNat, BitVec.getLsbD_and, BitVec.getLsbD_not, BitVec.ofInt_natCast, BitVec.ofInt_natCast, BitVec.getLsbD_ofNat, BitVec.getLsbD_ofNat]
    by_cases hi : i < 64
    · simp [hi]
    · have : s.testBit i = false := by
        cases hh : s.testBit i
        · rfl
        · have := lt_bit hs hh; omega
      simp [hi, this]
  show IntKind.u64.wrap ((BitVec.ofInt 64 (s : Int) &&& ~~~ BitVec.ofInt 64 (t : Int)).toNat : Int) = _
  rw [h, IntKind.wrap_u64]
  have := minus_lt hs t
  omega
end Go.Proofs.YtejgpecmjfgfbaaDoor

namespace Go.Proofs.YtejgpecmjfgfbaaDoor
open Go.RowKit
def RetBB (w : World) (r : Bool × Bool) (e : Ending) (w' : World) : Prop := e = .returned (.tuple #[.bool r.1, .bool r.2]) ∧ Below w.heap.size w w'
end Go.Proofs.YtejgpecmjfgfbaaDoor

namespace Go.Proofs.YtejgpecmjfgfbaaDoor
open Go.RowKit
def isExtR (n : Int) (E : List Pr) (o : List Int) : Bool × Bool := if precB n E && ordB n o then (extB n.toNat E (natsOf o), true) else (false, false)
theorem isWithin_any (s t : Nat) (hs : s < 256) (w : World) :
    Calls Tryd.prog 112 #[.int .u64 (s : Int), .int .u64 (t : Int)] w fun e w' => e = .returned (.bool (withinB s t)) ∧ w = w' := by
  have h1 := andNot_u64 (t := t) hs
  have HW : Hid (withinB s t = decide (minusB s t = 0)) := rfl
  generalize minusB s t = r at *
  by_cases h : r = 0
  · subst h
    have e0 : (((0 : Nat) : Int) == 0) = true := rfl
    go_enter Tryd.func112, Tryd.ntmps112
    go_wp2
    go_ret
    exact ⟨by rw [HW.out]; rfl, rfl⟩
  · have e0 : ((r : Int) == 0) = false := by simp [h]
    have HZ : Hid (withinB s t = false) := by show _ = _; rw [HW.out, decide_eq_false h]
    clear h HW
    go_enter Tryd.func112, Tryd.ntmps112
    go_wp2
    go_ret
    exact ⟨by rw [HZ.out]; rfl, rfl⟩
section
variable (A C : Option Addr) (c d : Nat) (n : Int) (E : List Pr) (o : List Int) (w : World) (hr : Row w A (pc E)) (hq : Row w C (ic o)) (hl : E.length ≤ 10000000) (hm : o.length ≤ 10000000)
include hr hq hl hm
end
end Go.Proofs.YtejgpecmjfgfbaaDoor

namespace Go.Proofs.YtejgpecmjfgfbaaDoor
open Go.RowKit
theorem intAt0 {w : World} {g : Nat} {xs : List Int} (h : Row w (some ⟨g, 0, none⟩) (ic xs)) {k : Nat} (hk : k < xs.length) : w.cell? ⟨g, k, none⟩ = some (.int .i64 xs[k]) := by
  rw [h.cell0 (k := k) (by rw [ic_len]; exact hk)]
  unfold ic
  simp
def doneP (ends : List Int) (now : Int) (i : Nat) : Bool := decide (endAt ends i ≤ now)
set_option maxRecDepth 100000 in
set_option maxHeartbeats 2000000 in
theorem done_any (G gE cE : Nat) (ends : List Int) (now : Int) (w : World) (hG : w.cell? ⟨G, 12, none⟩ = some (.slice (some ⟨gE, 0, none⟩) ends.length cE)) (he : Row w (some ⟨gE, 0, none⟩) (ic ends)) (hn : ends.length ≤ 8) :
    Calls Tryd.prog 110 #[.pointer (some ⟨G, 0, none⟩), .int .i64 now] w fun e w' => e = .returned (.int .u64 (bitsN ends.length (doneP ends now) : Nat)) ∧ Below w.heap.size w w' := by
  have HBS := Lib.hid (bits_succ · (doneP ends now))
  have HBL : Hid (∀ k, k ≤ 8 → bitsN k (doneP ends now) < 256) := fun k hk => bits_lt hk _
  have HE := Lib.hid he
  have HDP : Hid (∀ k (hk : k < ends.length), doneP ends now k = decide (ends[k] ≤ now)) := fun k hk => by unfold doneP endAt; simp [hk]
  clear he
  go_enter Tryd.func110, Tryd.ntmps110
  go_wp2
  clear hG
  go_loopw [5, 13] (fun sv kv wr => ∃ k : Nat, k ≤ ends.length ∧ kv = .int .i64 (k : Int) ∧ sv = .int .u64 (bitsN k (doneP ends now) : Nat) ∧ Hid (Below w.heap.size w wr)) (fun _ kv _ => ends.length - (intOf kv).toNat)
  case atStart => exact ⟨0, Nat.zero_le _, rfl, rfl, Below.refl _ _⟩
  case round =>
    obtain ⟨k, hk, rfl, rfl, hb⟩ := hrel
    by_cases hlt : k < ends.length
    · have hc := intAt0 (HE.out.below hb.out) hlt
      have hd := HDP.out k hlt
      have hs := HBS.out k
      have hsl := HBL.out k (by omega)
      have hk0 : (0 : Int) ≤ k := by omega
      have hk1 : (k : Int) < ends.length := by omega
      rw [hd] at hs
      clear hd
      generalize bitsN k (doneP ends now) = sk at *
      generalize ends[k] = e at *
      by_cases he : e ≤ now
      · rw [decide_eq_true he, if_pos rfl] at hs
        have HR := Lib.hid hs
        clear hs
        go_wp2_with fail
        refine (with_any sk k hsl (by omega) _).mono ?_
        rintro e _ ⟨rfl, rfl⟩
        go_wp2
        go_roundw
        case rel => exact ⟨k + 1, by omega, by go_num, by rw [HR.out], hb.out⟩
        case measure => simp [intOf]; omega
      · rw [decide_eq_false he, if_neg (by decide)] at hs
        have HR := Lib.hid hs
        clear hs
        go_wp2
        go_roundw
        case rel => exact ⟨k + 1, by omega, by go_num, by rw [HR.out], hb.out⟩
        case measure => simp [intOf]; omega
    · obtain rfl : k = ends.length := by omega
      go_wp2
      go_ret
      exact ⟨rfl, hb.out⟩
def soonTo (ends : List Int) (now : Int) (k : Nat) : Int := (ends.take k).foldl (fun a e => if now < e then min a e else a) 1000
theorem soonTo_succ (es : List Int) (now : Int) {k : Nat} (hk : k < es.length) : soonTo es now (k + 1) = if now < es[k] then min (soonTo es now k) es[k] else soonTo es now k := by
  unfold soonTo
  rw [List.take_succ_eq_append_getElem hk, List.foldl_append]
  rfl
set_option maxRecDepth 100000 in
set_option maxHeartbeats 1000000 in
theorem nextEnd_any (G gE cE : Nat) (ends : List Int) (now : Int) (w : World) (hG : w.cell? ⟨G, 12, none⟩ = some (.slice (some ⟨gE, 0, none⟩) ends.length cE)) (he : Row w (some ⟨gE, 0, none⟩) (ic ends)) (hn : ends.length ≤ 8) :
    Calls Tryd.prog 80 #[.pointer (some ⟨G, 0, none⟩), .int .i64 now] w fun e w' => e = .returned (.int .i64 (soonL ends now)) ∧ w = w' := by
  have HS := Lib.hid (fun k (hk : k < ends.length) => soonTo_succ ends now hk)
  have HF : Hid (soonTo ends now ends.length = soonL ends now) := by show _ = _; unfold soonTo soonL; rw [List.take_length]
  have H0 : Hid (soonTo ends now 0 = 1000) := rfl
  have HE := Lib.hid he
  clear he
  go_enter Tryd.func80, Tryd.ntmps80
  go_wp2
  clear hG
  go_loop [5, 13] (fun ov iv => ∃ k : Nat, k ≤ ends.length ∧ iv = .int .i64 (k : Int) ∧ ov = .int .i64 (soonTo ends now k)) (fun _ iv => ends.length - (intOf iv).toNat)
  case atStart => exact ⟨0, Nat.zero_le _, rfl, by rw [H0.out]⟩
  case round =>
    obtain ⟨k, hk, rfl, rfl⟩ := hrel
    by_cases hlt : k < ends.length
    · have hc := intAt0 HE.out hlt
      have hs := HS.out k hlt
      have hk0 : (0 : Int) ≤ k := by omega
      have hk1 : (k : Int) < ends.length := by omega
      generalize soonTo ends now k = a at *
      generalize ends[k] = e at *
      by_cases h1 : now < e
      · rw [if_pos h1] at hs
        by_cases h2 : e < a
        · have hs2 : soonTo ends now (k + 1) = e := by rw [hs]; omega
          have HR := Lib.hid hs2
          clear hs hs2
          go_wp2
          go_round
          case rel => exact ⟨k + 1, by omega, by go_num, by rw [HR.out]⟩
          case measure => simp [intOf]; omega
        · have hs2 : soonTo ends now (k + 1) = a := by rw [hs]; omega
          have HR := Lib.hid hs2
          clear hs hs2
          go_wp2
          go_round
          case rel => exact ⟨k + 1, by omega, by go_num, by rw [HR.out]⟩
          case measure => simp [intOf]; omega
      · rw [if_neg h1] at hs
        have HR := Lib.hid hs
        clear hs
        go_wp2
        go_round
        case rel => exact ⟨k + 1, by omega, by go_num, by rw [HR.out]⟩
        case measure => simp [intOf]; omega
    · obtain rfl : k = ends.length := by omega
      go_wp2
      go_ret
      exact ⟨by rw [HF.out]; rfl, rfl⟩
set_option maxRecDepth 100000 in
set_option maxHeartbeats 1000000 in
theorem canStart_any (G b0 b1 bj dn j : Nat) (hb : bj < 256) (w : World) (h0 : w.cell? ⟨b0, 0, none⟩ = some (.pointer (some ⟨G, 0, none⟩))) (h1 : w.cell? ⟨b1, 0, none⟩ = some (.int .u64 (dn : Int))) (hj : j < 8) (hG : w.cell? ⟨G, 2 + j, none⟩ = some (.int .u64 (bj : Int))) :
    Calls Tryd.prog 111 #[.int .i64 (j : Int), .pointer (some ⟨b0, 0, none⟩), .pointer (some ⟨b1, 0, none⟩)] w fun e w' => e = .returned (.bool (withinB bj dn)) ∧ Below w.heap.size w w' := by
  have HC := Lib.hid (fun W => isWithin_any bj dn hb W)
  have hj0 : (0 : Int) ≤ j := by omega
  have hj1 : (j : Int) < 8 := by omega
  go_enter Tryd.func111, Tryd.ntmps111
  go_wp2
  go_quiet ((go_at_call 112; first | exact quiet_same (HC.out _) | exact Calls.quiet_of ((HC.out _).mono fun _ _ h => ⟨h.1, 0, h.2.symm⟩)))
  go_wp2
  go_ret
  exact ⟨rfl, below_drewN (Below.refl _ _) _⟩
end Go.Proofs.YtejgpecmjfgfbaaDoor

namespace Go.Proofs.YtejgpecmjfgfbaaDoor
section
variable {P : Program} {ops : Array Oper} {Q : Exit → Act → World → Prop}
def StepA {γ : Type} (P : Program) (S : γ → Array Bool → World → Prop) (val : γ → Nat → Value) (x : γ) (L : Array Bool) (i : Nat) (o : Oper) (a : Act) (w : World) : Prop :=
  (∃ x' w', (∀ j, L.getD j true = true → val x' j = val x j) ∧ (execOp a.eval o).run P w = .ok (.value (val x' i)) w' ∧ S x' (L.setIfInBounds i true) w') ∨
  (∃ f args, (execOp a.eval o).run P w = .ok (.enter f args) w ∧ Calls P f args w fun e w' => ∃ x', (∀ j, L.getD j true = true → val x' j = val x j) ∧ e = .returned (val x' i) ∧ S x' (L.setIfInBounds i true) w') ∨
  (∃ w', o.dst = none ∧ (execOp a.eval o).run P w = .ok .skip w' ∧ S x (L.setIfInBounds i true) w')
/-- As wp_region_detY; what an operation yields may be chosen when it runs (an address). -/
theorem wp_region_detA {γ : Type} {id : Nat} {tm0 : Array Value} {df : List Deferred} {w : World} (hm : P.follows .mixedOrders = true) (S : γ → Array Bool → World → Prop) (val : γ → Nat → Value) (x0 : γ) (hback : backBB ops = true) (hown : ownDst ops tm0.size = true)
    (h0 : S x0 (Array.replicate ops.size false) w.drew)
    (hdone : ∀ (x : γ) (L : Array Bool) (tm : Array Value) (w : World), (∀ i, i < ops.size → L.getD i true = true) → S x L w → tm.size = tm0.size → (∀ t, ((List.range ops.size).all fun j => !((ops[j]?).bind (·.dst) == some t)) = true → tm.getD t undef = tm0.getD t undef) → (∀ j o d, ops[j]? = some o → o.dst = some d → tm.getD d undef = val x j) → Q .normal ⟨tm, df⟩ w)
    (hstep : ∀ (x : γ) (L : Array Bool) (a : Act) (w : World) (i : Nat) (o : Oper), L.size = ops.size → ops[i]? = some o → L.getD i true = false → (∀ j, edgeB ops i j = true → L.getD j true = true) → (∀ j, edgeB ops j i = true → L.getD j true = false) → S x L w → (∀ t, ((List.range ops.size).all fun j => !((ops[j]?).bind (·.dst) == some t)) = true → a.tmps.getD t undef = tm0.getD t undef) →
      (∀ j oj d, edgeB ops i j = true → ops[j]? = some oj → oj.dst = some d → a.tmps.getD d undef = val x j) →
      (∀ j oj d, edgeB ops j i = true → ops[j]? = some oj → oj.dst = some d → a.tmps.getD d undef = tm0.getD d undef) → Region.wanted o (yielded ops a.tmps) = true ∧ StepA P S val x L i o a w) :
    (Code.region id ops true).wp P Q ⟨tm0, df⟩ w := by
  refine wp_region_invB hm (fun L a w => ∃ x, S x L w ∧ a.defers = df ∧ a.tmps.size = tm0.size ∧ (∀ t, ((List.range ops.size).all fun j => !((ops[j]?).bind (·.dst) == some t)) = true → a.tmps.getD t undef = tm0.getD t undef) ∧ (∀ j o d, ops[j]? = some o → o.dst = some d → L.getD j true = true → a.tmps.getD d undef = val x j) ∧ (∀ j o d, ops[j]? = some o → o.dst = some d → L.getD j true = false → a.tmps.getD d undef = tm0.getD d undef)) (back_ofB hback) ?_ ?_ ?_
  · refine ⟨x0, h0, rfl, rfl, fun _ _ => rfl, fun j o d ho _ hl => ?_, fun _ _ _ _ _ _ => rfl⟩
    have hj : j < ops.size := (Array.getElem?_eq_some_iff.1 ho).1
    simp [Array.getD_eq_getD_getElem?, hj] at hl
  · intro L a w ⟨x, hS, hdf, hsz, hlow, hval, _⟩ hall
    obtain ⟨tm, df'⟩ := a
    simp only at hdf hsz
    subst hdf
    exact hdone x L tm w hall hS hsz hlow (fun j o d ho hd => hval j o d ho hd (hall j (Array.getElem?_eq_some_iff.1 ho).1))
  · intro L a w i o hC ⟨x, hS, hdf, hsz, hlow, hval, hold⟩ ho hl hd
    obtain ⟨hg, hst⟩ := hstep x L a w i o hC.1 ho hl (fun j he => dep_of ho hd he) (fun j he => hC.no he hl) hS hlow (fun j oj d he hoj hdj => hval j oj d hoj hdj (dep_of ho hd he)) (fun j oj d he hoj hdj => hold j oj d hoj hdj (hC.no he hl))
    have next : ∀ x' w', (∀ j, L.getD j true = true → val x' j = val x j) → S x' (L.setIfInBounds i true) w' → S x' (L.setIfInBounds i true) w' ∧ (a.put o.dst (val x' i)).defers = df ∧ (a.put o.dst (val x' i)).tmps.size = tm0.size ∧ (∀ t, ((List.range ops.size).all fun j => !((ops[j]?).bind (·.dst) == some t)) = true → (a.put o.dst (val x' i)).tmps.getD t undef = tm0.getD t undef) ∧ (∀ j o' d, ops[j]? = some o' → o'.dst = some d → (L.setIfInBounds i true).getD j true = true → (a.put o.dst (val x' i)).tmps.getD d undef = val x' j) ∧ (∀ j o' d, ops[j]? = some o' → o'.dst = some d → (L.setIfInBounds i true).getD j true = false → (a.put o.dst (val x' i)).tmps.getD d undef = tm0.getD d undef) := by
      intro x' w' hag hS'
      cases hod : o.dst with
      | none =>
        refine ⟨hS', hdf, hsz, hlow, fun j o' d ho' hd' hl' => ?_, fun j o' d ho' hd' hl' => ?_⟩
        · have hne : i ≠ j := fun e => by subst e; rw [ho] at ho'; injection ho' with ho'; subst ho'; rw [hod] at hd'; cases hd'
          rw [getD_set_true, if_neg (fun h => hne h.1)] at hl'
          rw [hag j hl']; exact hval j o' d ho' hd' hl'
        · have hne : i ≠ j := fun e => by subst e; rw [ho] at ho'; injection ho' with ho'; subst ho'; rw [hod] at hd'; cases hd'
          rw [getD_set_true, if_neg (fun h => hne h.1)] at hl'
          exact hold j o' d ho' hd' hl'
      | some d0 =>
        have hput : ∀ t, (a.put (some d0) (val x' i)).tmps.getD t undef = if d0 = t ∧ t < a.tmps.size then val x' i else a.tmps.getD t undef := by
          intro t
          unfold Act.put
          simp only [Array.getD_eq_getD_getElem?, Array.getElem?_setIfInBounds]
          by_cases e : d0 = t
          · subst e
            by_cases h : d0 < a.tmps.size
            · simp [h]
            · simp [h]
          · simp [e]
        refine ⟨hS', hdf, by simp [Act.put, hsz], fun t ht => ?_, fun j o' d ho' hd' hl' => ?_, fun j o' d ho' hd' hl' => ?_⟩
        · rw [hput, if_neg (fun h => ?_)]
          · exact hlow t ht
          · have := List.all_eq_true.1 ht i (List.mem_range.2 (Array.getElem?_eq_some_iff.1 ho).1)
            rw [ho] at this
            simp [hod, h.1] at this
        · rw [hput]
          by_cases e : d0 = d
          · subst e
            have hij := ownDst_inj hown ho hod ho' hd'
            subst hij
            rw [if_pos ⟨rfl, by rw [hsz]; exact ownDst_lt hown ho hod⟩]
          · rw [if_neg (fun h => e h.1)]
            have hne : i ≠ j := fun e' => by subst e'; rw [ho] at ho'; injection ho' with ho'; subst ho'; rw [hod] at hd'; injection hd' with hd'; exact e hd'
            rw [getD_set_true, if_neg (fun h => hne h.1)] at hl'
            rw [hag j hl']; exact hval j o' d ho' hd' hl'
        · have hli : i ≠ j := fun e => by
            subst e
            have hC1 : i < L.size := by rw [hC.1]; exact (Array.getElem?_eq_some_iff.1 ho).1
            rw [getD_set_true, if_pos ⟨rfl, hC1⟩] at hl'; cases hl'
          rw [getD_set_true, if_neg (fun h => hli h.1)] at hl'
          have hdd : d0 ≠ d := fun e => by subst e; exact hli (ownDst_inj hown ho' hd' ho hod)
          rw [hput, if_neg (fun h => hdd h.1)]
          exact hold j o' d ho' hd' hl'
    rcases hst with ⟨x', w', hag, hr, hS'⟩ | ⟨f, args, hr, hc⟩ | ⟨w', hnd, hr, hS'⟩
    · exact wpOp_valueW ho hg hr ⟨x', next x' w' hag hS'⟩
    · refine wpOp_enterW ho hg hr (hc.mono ?_)
      rintro e w' ⟨x', hag, rfl, hS'⟩
      exact ⟨_, rfl, x', next x' w' hag hS'⟩
    · refine wpOp_skipY ho hg hr ⟨x, ?_⟩
      have h := next x w' (fun _ _ => rfl) hS'
      rw [hnd] at h ⊢
      exact h
end
open Go.RowKit
theorem listed_ne {L : Array Bool} {i j : Nat} (h : i ≠ j) : (L.setIfInBounds i true).getD j true = L.getD j true := by rw [getD_set_true, if_neg (fun q => h q.1)]
theorem listed_at {L : Array Bool} {i : Nat} (h : i < L.size) : (L.setIfInBounds i true).getD i true = true := by rw [getD_set_true, if_pos ⟨rfl, h⟩]
/-- Two new variables of one type: where they lie, and whether they were made (a1, a2) and written (s1, s2). -/
def Two (wr : World) (t : TypeId) (Z A1 A2 : Array Value) (a1 a2 s1 s2 : Nat) (x : Nat × Nat) (L : Array Bool) (W : World) : Prop :=
  Below wr.heap.size wr W ∧ (L.getD a1 true = true → wr.heap.size ≤ x.1 ∧ BlockIs W x.1 t (if L.getD s1 true = true then A1 else Z)) ∧
  (L.getD a2 true = true → wr.heap.size ≤ x.2 ∧ BlockIs W x.2 t (if L.getD s2 true = true then A2 else Z)) ∧ (L.getD a1 true = true → L.getD a2 true = true → x.1 ≠ x.2)
section
variable {wr : World} {t : TypeId} {Z A1 A2 : Array Value} {a1 a2 s1 s2 : Nat} {x : Nat × Nat} {L : Array Bool} {W W' : World}
theorem Two.below (h : Two wr t Z A1 A2 a1 a2 s1 s2 x L W) (hb : Below W.heap.size W W') : Two wr t Z A1 A2 a1 a2 s1 s2 x L W' :=
  ⟨h.1.trans (hb.mono h.1.size), fun e => ⟨(h.2.1 e).1, (h.2.1 e).2.below hb⟩, fun e => ⟨(h.2.2.1 e).1, (h.2.2.1 e).2.below hb⟩, h.2.2.2⟩
theorem Two.other (h : Two wr t Z A1 A2 a1 a2 s1 s2 x L W) {i : Nat} (h1 : i ≠ a1) (h2 : i ≠ a2) (h3 : i ≠ s1) (h4 : i ≠ s2) : Two wr t Z A1 A2 a1 a2 s1 s2 x (L.setIfInBounds i true) W := by
  unfold Two
  rw [listed_ne h1, listed_ne h2, listed_ne h3, listed_ne h4]
  exact h
theorem Two.new1 (h : Two wr t Z A1 A2 a1 a2 s1 s2 x L W) (d2 : a1 ≠ a2) (d3 : a1 ≠ s1) (d4 : a1 ≠ s2) (hs : L.getD s1 true = false) : Two wr t Z A1 A2 a1 a2 s1 s2 (W.heap.size, x.2) (L.setIfInBounds a1 true) (W.alloc (.cells Z t)) := by
  have hb := (Below.refl W.heap.size W).alloc (Nat.le_refl _) (.cells Z t)
  refine ⟨h.1.trans (hb.mono h.1.size), fun _ => ⟨h.1.size, ?_⟩, fun e => ?_, fun _ e => ?_⟩
  · rw [listed_ne d3, hs, if_neg (by decide)]
    exact BlockIs.new W t Z
  · rw [listed_ne d2] at e
    rw [listed_ne d4]
    exact ⟨(h.2.2.1 e).1, (h.2.2.1 e).2.below hb⟩
  · rw [listed_ne d2] at e
    have := (Array.getElem?_eq_some_iff.1 (h.2.2.1 e).2).1
    show W.heap.size ≠ x.2
    omega
theorem Two.new2 (h : Two wr t Z A1 A2 a1 a2 s1 s2 x L W) (d2 : a2 ≠ a1) (d3 : a2 ≠ s1) (d4 : a2 ≠ s2) (hs : L.getD s2 true = false) : Two wr t Z A1 A2 a1 a2 s1 s2 (x.1, W.heap.size) (L.setIfInBounds a2 true) (W.alloc (.cells Z t)) := by
  have hb := (Below.refl W.heap.size W).alloc (Nat.le_refl _) (.cells Z t)
  refine ⟨h.1.trans (hb.mono h.1.size), fun e => ?_, fun _ => ⟨h.1.size, ?_⟩, fun e _ => ?_⟩
  · rw [listed_ne d2] at e
    rw [listed_ne d3]
    exact ⟨(h.2.1 e).1, (h.2.1 e).2.below hb⟩
  · rw [listed_ne d4, hs, if_neg (by decide)]
    exact BlockIs.new W t Z
  · rw [listed_ne d2] at e
    have := (Array.getElem?_eq_some_iff.1 (h.2.1 e).2).1
    show x.1 ≠ W.heap.size
    omega
theorem Two.put1 (h : Two wr t Z A1 A2 a1 a2 s1 s2 x L W) (d2 : s1 ≠ a1) (d3 : s1 ≠ a2) (d4 : s1 ≠ s2) (hsz : s1 < L.size) (ha : L.getD a1 true = true) (hb : Below wr.heap.size W W') (hB : BlockIs W' x.1 t A1) (ho : ∀ g cs, g ≠ x.1 → BlockIs W g t cs → BlockIs W' g t cs) : Two wr t Z A1 A2 a1 a2 s1 s2 x (L.setIfInBounds s1 true) W' := by
  unfold Two
  rw [listed_ne d2, listed_ne d3, listed_ne d4, listed_at hsz, if_pos rfl]
  exact ⟨h.1.trans hb, fun e => ⟨(h.2.1 e).1, hB⟩, fun e => ⟨(h.2.2.1 e).1, ho _ _ (fun q => h.2.2.2 ha e q.symm) (h.2.2.1 e).2⟩, h.2.2.2⟩
theorem Two.put2 (h : Two wr t Z A1 A2 a1 a2 s1 s2 x L W) (d2 : s2 ≠ a1) (d3 : s2 ≠ a2) (d4 : s2 ≠ s1) (hsz : s2 < L.size) (ha : L.getD a2 true = true) (hb : Below wr.heap.size W W') (hB : BlockIs W' x.2 t A2) (ho : ∀ g cs, g ≠ x.2 → BlockIs W g t cs → BlockIs W' g t cs) : Two wr t Z A1 A2 a1 a2 s1 s2 x (L.setIfInBounds s2 true) W' := by
  unfold Two
  rw [listed_ne d2, listed_ne d3, listed_ne d4, listed_at hsz, if_pos rfl]
  exact ⟨h.1.trans hb, fun e => ⟨(h.2.1 e).1, ho _ _ (fun q => h.2.2.2 e ha q) (h.2.1 e).2⟩, fun e => ⟨(h.2.2.1 e).1, hB⟩, h.2.2.2⟩
theorem three_set {B g : Nat} {y0 y1 y2 v0 v1 v2 : Value} (h : BlockIs W g t #[y0, y1, y2]) (hg : B ≤ g) :
    Below B W (((W.setCell ⟨g, 0, none⟩ v0).setCell ⟨g, 1, none⟩ v1).setCell ⟨g, 2, none⟩ v2) ∧ BlockIs (((W.setCell ⟨g, 0, none⟩ v0).setCell ⟨g, 1, none⟩ v1).setCell ⟨g, 2, none⟩ v2) g t #[v0, v1, v2] ∧
    ∀ g' cs, g' ≠ g → BlockIs W g' t cs → BlockIs (((W.setCell ⟨g, 0, none⟩ v0).setCell ⟨g, 1, none⟩ v1).setCell ⟨g, 2, none⟩ v2) g' t cs := by
  refine ⟨(((Below.refl _ _).setCell (p := ⟨g, 0, none⟩) hg _).setCell (p := ⟨g, 1, none⟩) hg _).setCell (p := ⟨g, 2, none⟩) hg _, ?_, fun g' cs hne hk => ((hk.away hne _ _).away hne _ _).away hne _ _⟩
  exact ((h.set 0 v0).set 1 v1).set 2 v2
end
end Go.Proofs.YtejgpecmjfgfbaaDoor

namespace Go.Proofs.YtejgpecmjfgfbaaDoor
def putsL : List Oper → (Nat → Value) → Nat → Act → Act
  | [], _, _, a => a
  | o :: r, v, j, a => putsL r v (j + 1) (a.put o.dst (v j))
theorem put_size (a : Act) (d : Option Nat) (u : Value) : (a.put d u).tmps.size = a.tmps.size := by
  cases d <;> simp [Act.put]
theorem put_defers (a : Act) (d : Option Nat) (u : Value) : (a.put d u).defers = a.defers := by
  cases d <;> rfl
theorem put_get (a : Act) (d t : Nat) (u : Value) : (a.put (some d) u).tmps.getD t undef = if d = t ∧ t < a.tmps.size then u else a.tmps.getD t undef := by
  unfold Act.put
  simp only [Array.getD_eq_getD_getElem?, Array.getElem?_setIfInBounds]
  by_cases e : d = t
  · subst e
    by_cases h : d < a.tmps.size
    · simp [h]
    · simp [h]
  · simp [e]
theorem puts_same : ∀ (l : List Oper) (v : Nat → Value) (j : Nat) (a : Act), (putsL l v j a).tmps.size = a.tmps.size ∧ (putsL l v j a).defers = a.defers
  | [], _, _, _ => ⟨rfl, rfl⟩
  | o :: r, v, j, a => by
    have h := puts_same r v (j + 1) (a.put o.dst (v j))
    exact ⟨h.1.trans (put_size _ _ _), h.2.trans (put_defers _ _ _)⟩
theorem puts_low (t : Nat) : ∀ (l : List Oper) (v : Nat → Value) (j : Nat) (a : Act), (∀ o ∈ l, o.dst ≠ some t) → (putsL l v j a).tmps.getD t undef = a.tmps.getD t undef
  | [], _, _, _, _ => rfl
  | o :: r, v, j, a, h => by
    have h1 := puts_low t r v (j + 1) (a.put o.dst (v j)) (fun o' ho' => h o' (List.mem_cons_of_mem _ ho'))
    refine h1.trans ?_
    cases hd : o.dst with
    | none => rfl
    | some d =>
      have := h o List.mem_cons_self
      rw [put_get, if_neg (fun q => this (by rw [hd, q.1]))]
theorem puts_hit (d : Nat) : ∀ (l : List Oper) (v : Nat → Value) (j : Nat) (a : Act) (i : Nat) (o : Oper), l[i]? = some o → o.dst = some d → d < a.tmps.size → (∀ i' o', l[i']? = some o' → o'.dst = some d → i' = i) → (putsL l v j a).tmps.getD d undef = v (j + i)
  | [], _, _, _, _, _, h, _, _, _ => by simp at h
  | o :: r, v, j, a, 0, o', h, hd, hlt, hun => by
    have e : o = o' := by simpa using h
    subst e
    have h1 := puts_low d r v (j + 1) (a.put o.dst (v j)) (fun o' ho' hd' => by
      obtain ⟨i, hi, rfl⟩ := List.getElem_of_mem ho'
      have := hun (i + 1) r[i] (by simp [hi]) hd'
      omega)
    refine h1.trans ?_
    rw [hd, put_get, if_pos ⟨rfl, hlt⟩]
    rfl
  | o :: r, v, j, a, i + 1, o', h, hd, hlt, hun => by
    have h1 := puts_hit d r v (j + 1) (a.put o.dst (v j)) i o' (by simpa using h) hd (by rw [put_size]; exact hlt) (fun i' o'' hi' hd' => by
      have := hun (i' + 1) o'' (by simpa using hi') hd'
      omega)
    refine h1.trans ?_
    congr 1
    omega
section
variable {P : Program} {ops : Array Oper} {Q : Exit → Act → World → Prop}
theorem wp_region_detP {γ : Type} {id : Nat} {tm0 : Array Value} {df : List Deferred} {w : World} (hm : P.follows .mixedOrders = true) (S : γ → Array Bool → World → Prop) (val : γ → Nat → Value) (x0 : γ) (hback : backBB ops = true) (hown : ownDst ops tm0.size = true)
    (h0 : S x0 (Array.replicate ops.size false) w.drew)
    (hdone : ∀ (x : γ) (L : Array Bool) (W : World), (∀ i, i < ops.size → L.getD i true = true) → S x L W → Q .normal (putsL ops.toList (val x) 0 ⟨tm0, df⟩) W)
    (hstep : ∀ (x : γ) (L : Array Bool) (a : Act) (w : World) (i : Nat) (o : Oper), L.size = ops.size → ops[i]? = some o → L.getD i true = false → (∀ j, edgeB ops i j = true → L.getD j true = true) → (∀ j, edgeB ops j i = true → L.getD j true = false) → S x L w → (∀ t, ((List.range ops.size).all fun j => !((ops[j]?).bind (·.dst) == some t)) = true → a.tmps.getD t undef = tm0.getD t undef) →
      (∀ j oj d, edgeB ops i j = true → ops[j]? = some oj → oj.dst = some d → a.tmps.getD d undef = val x j) → Region.wanted o (yielded ops a.tmps) = true ∧ StepA P S val x L i o a w) :
    (Code.region id ops true).wp P Q ⟨tm0, df⟩ w := by
  refine wp_region_detA hm S val x0 hback hown h0 ?_ (fun x L a w i o h1 h2 h3 h4 h5 h6 h7 h8 _ => hstep x L a w i o h1 h2 h3 h4 h5 h6 h7 h8)
  intro x L tm W hall hS hsz hlow hval
  have hp := puts_same ops.toList (val x) 0 ⟨tm0, df⟩
  have key : (⟨tm, df⟩ : Act) = putsL ops.toList (val x) 0 ⟨tm0, df⟩ := by
    cases hb : putsL ops.toList (val x) 0 ⟨tm0, df⟩ with | mk tm' df' => ?_
    rw [hb] at hp
    obtain ⟨hp1, hp2⟩ := hp
    simp only at hp1 hp2
    subst hp2
    have ht : tm = tm' := by
      refine arr_of _ _ (by rw [hsz, hp1]) fun t ht => ?_
      have hg : tm'.getD t undef = (putsL ops.toList (val x) 0 ⟨tm0, df'⟩).tmps.getD t undef := by rw [hb]
      rw [hg]
      by_cases hx : ∃ (j : Nat) (o : Oper), ops[j]? = some o ∧ o.dst = some t
      · obtain ⟨j, o, ho, hd⟩ := hx
        rw [hval j o t ho hd, puts_hit t ops.toList (val x) 0 ⟨tm0, df'⟩ j o (by rw [Array.getElem?_toList]; exact ho) hd (by rw [← hp1]; exact ht) (fun i' o' hi' hd' => by
          rw [Array.getElem?_toList] at hi'
          exact ownDst_inj hown ho hd hi' hd'), Nat.zero_add]
      · rw [hlow t (by
          rw [List.all_eq_true]
          intro j _
          cases ho : ops[j]? with
          | none => rfl
          | some o =>
            have : o.dst ≠ some t := fun hd => hx ⟨j, o, ho, hd⟩
            simpa using this), puts_low t ops.toList (val x) 0 ⟨tm0, df'⟩ (fun o ho hd => by
          obtain ⟨j, hj, rfl⟩ := List.getElem_of_mem ho
          exact hx ⟨j, _, by rw [← Array.getElem?_toList]; exact List.getElem?_eq_getElem hj, hd⟩)]
    rw [ht]
  rw [key]
  exact hdone x L W hall hS
end
end Go.Proofs.YtejgpecmjfgfbaaDoor

namespace Go.Proofs.YtejgpecmjfgfbaaDoor
open Go.RowKit
theorem own_whole {w : World} {base : Nat} {v : Value} {n : Nat} {cs : List Value} (h : w.ownsRow base 3 1 v n cs) : ∃ A c, v = .slice A n c ∧ Row w A cs := by
  obtain ⟨A, c, rfl, _, hr⟩ := own_slice h
  exact ⟨A, c, rfl, hr⟩
theorem not_nil {w : World} {base n : Nat} {v : Value} {cs : List Value} (h : w.ownsRow base 3 1 v n cs) (hn : v ≠ .slice none 0 0) : ∃ ad c, v = .slice (some ad) n c := by
  rcases h.2 with ⟨hv, _⟩ | ⟨g, cap, cur, hv, _⟩
  · exact absurd hv hn
  · exact ⟨_, _, hv⟩
theorem row_src {w : World} {ad : Addr} {cs : List Value} (h : Row w (some ad) cs) : ∀ j u, cs[j]? = some u → w.cell? (ad.add j) = some u := by
  intro j u hu
  obtain ⟨a', h1, _, h3⟩ := h (Nat.lt_of_le_of_lt (Nat.zero_le _) (List.getElem?_eq_some_iff.1 hu).1)
  obtain rfl := Option.some.inj h1
  exact h3 j u hu
set_option maxRecDepth 100000 in
theorem l1Own_some (ad : Addr) (c : Nat) (xs : List Int) (w : World) (hr : Row w (some ad) (ic xs)) (hn : xs.length ≤ 100000) :
    Calls Tryd.prog 85 #[.slice (some ad) xs.length c] w fun e w' => ∃ ad' c', e = .returned (.slice (some ad') xs.length c') ∧ w'.ownsRow w.heap.size 3 1 (.slice (some ad') xs.length c') xs.length (ic xs) ∧ Below w.heap.size w w' := by
  obtain ⟨i0, hi, hz0, hz1, hz2⟩ := info_parts infoI
  have hb0 := (Below.refl w.heap.size w).alloc (Nat.le_refl _) (.cells #[] 3)
  have hown0 : (w.alloc (.cells #[] 3)).ownsRow w.heap.size 3 1 (.slice (some ⟨w.heap.size, 0, none⟩) 0 0) 0 [] := World.ownsRow_made w #[] 0 (Nat.le_refl _) (by unfold maxLen; omega) rfl
  have hsrc := row_src (hr.below hb0)
  go_enter Tryd.func85, Tryd.ntmps85
  go_wp2_with (at_builtin; refine wpList_append_own _ rfl _ _ 24 rfl w.heap.size 3 i0 (.int .i64 0) 1 8 Tryd.underlying24 hi hz0 hz1 hz2 rfl (by decide) _ _ _ rfl hown0 ad xs.length c (ic xs) rfl (by rw [ic_len]; omega) hsrc (by intro u hu; unfold ic at hu; obtain ⟨x, _, rfl⟩ := List.mem_map.1 hu; rfl) (by unfold maxLen; omega) (by omega) (by simp) ?_; intro v' w3 hown' hgrow hnil)
  go_ret
  rw [Nat.zero_add, List.nil_append] at hown'
  obtain ⟨ad', c', rfl⟩ := not_nil hown' (fun e => by have := (hnil.1 e).1; injection this with h _ _; cases h)
  exact ⟨ad', c', rfl, hown', hb0.grown hgrow (by simp) (fun j hj => (hown0.lt j hj).1)⟩
theorem l1Own_any (ad : Addr) (c : Nat) (xs : List Int) (w : World) (hr : Row w (some ad) (ic xs)) (hn : xs.length ≤ 100000) :
    Calls Tryd.prog 85 #[.slice (some ad) xs.length c] w fun e w' => ∃ v, e = .returned v ∧ w'.ownsRow w.heap.size 3 1 v xs.length (ic xs) ∧ Below w.heap.size w w' :=
  (l1Own_some ad c xs w hr hn).mono fun _ _ ⟨_, _, he, ho, hb⟩ => ⟨_, he, ho, hb⟩
/-- Two neighbors exchanged. -/
def swI (xs : List Int) (i : Nat) : List Int := (xs.set i (xs.getD (i + 1) 0)).set (i + 1) (xs.getD i 0)
theorem swI_len (xs : List Int) (i : Nat) : (swI xs i).length = xs.length := by unfold swI; simp
theorem take_set {cur : Array Value} {n i : Nat} {cs : List Value} (h : cur.toList.take n = cs) (hi : i < n) (v : Value) : (cur.setIfInBounds i v).toList.take n = cs.set i v := by
  subst h
  apply List.ext_getElem?
  intro j
  by_cases hj : j < n
  · rw [List.getElem?_take, if_pos hj, Array.getElem?_toList, Array.getElem?_setIfInBounds, List.getElem?_set]
    by_cases e : i = j
    · subst e
      by_cases hc : i < cur.size
      · simp [hc]; omega
      · simp [hc]; omega
    · rw [if_neg e, if_neg e, List.getElem?_take, if_pos hj, Array.getElem?_toList]
  · rw [List.getElem?_eq_none (by simp; omega), List.getElem?_eq_none (by simp; omega)]
theorem ic_setv (xs : List Int) (j : Nat) (x : Int) : (ic xs).set j (.int .i64 x) = ic (xs.set j x) := by unfold ic; rw [List.map_set]
theorem own_swapped {w : World} {B g c n i : Nat} {cur : Array Value} {xs : List Int} (h : BlockIs w g 3 ((cur.setIfInBounds i (.int .i64 (xs.getD (i + 1) 0))).setIfInBounds (i + 1) (.int .i64 (xs.getD i 0)))) (hg : B ≤ g) (hn : n ≤ c) (hc : c ≤ maxLen) (hs : cur.size = c * 1) (ht : cur.toList.take (n * 1) = ic xs) (hi : i + 1 < n) :
    w.ownsRow B 3 1 (.slice (some ⟨g, 0, none⟩) n c) n (ic (swI xs i)) := by
  have := h.own (base := B) (n := n) (c := c) (size := 1) hg (by simp [hs]) hn hc (by simp; omega)
  rw [Nat.mul_one] at this ht
  rwa [take_set (take_set ht (by omega) _) (by omega) _, ic_setv, ic_setv] at this
theorem cell_take {w : World} {g : Nat} {cur : Array Value} {n : Nat} {xs : List Int} (h : BlockIs w g 3 cur) (ht : cur.toList.take (n * 1) = ic xs) {k : Nat} (hk : k < xs.length) : w.cell? ⟨g, k, none⟩ = some (.int .i64 xs[k]) := by
  rw [h.cell]
  have h1 : (cur.toList.take (n * 1))[k]? = some (.int .i64 xs[k]) := by
    rw [ht, List.getElem?_eq_getElem (by rw [ic_len]; exact hk), ic_get]
  rw [List.getElem?_take] at h1
  split at h1
  · rwa [Array.getElem?_toList] at h1
  · cases h1
end Go.Proofs.YtejgpecmjfgfbaaDoor

namespace Go.Proofs.YtejgpecmjfgfbaaDoor
open Go.RowKit
end Go.Proofs.YtejgpecmjfgfbaaDoor

namespace Go.Proofs.YtejgpecmjfgfbaaDoor
open Go.RowKit
theorem eql_nil (w : World) (a : Addr) (l c : Nat) : (binOp .eql 24 (.slice (some a) l c) (.slice none 0 0)).run Tryd.prog w = .ok (.bool false) w := by
  simp [binOp, run_equal_slice_nil w 24 3 (some a) l c Tryd.underlying24, Result.andThen]
set_option maxRecDepth 100000 in
theorem clone_some (ad : Addr) (c : Nat) (xs : List Int) (w : World) (hr : Row w (some ad) (ic xs)) (hn : xs.length ≤ 100000) :
    Calls Tryd.prog 78 #[.slice (some ad) xs.length c] w fun e w' => ∃ ad' c', e = .returned (.slice (some ad') xs.length c') ∧ w'.ownsRow w.heap.size 3 1 (.slice (some ad') xs.length c') xs.length (ic xs) ∧ Below w.heap.size w w' := by
  obtain ⟨i0, hi, hz0, hz1, hz2⟩ := info_parts infoI
  have hb0 := (Below.refl w.heap.size w).alloc (Nat.le_refl _) (.cells #[] 3)
  have hown0 : (w.alloc (.cells #[] 3)).ownsRow w.heap.size 3 1 (.slice (some ⟨w.heap.size, 0, none⟩) 0 0) 0 [] := World.ownsRow_made w #[] 0 (Nat.le_refl _) (by unfold maxLen; omega) rfl
  have hsrc := row_src (hr.below hb0)
  have heq := eql_nil w ad xs.length c
  go_enter Tryd.func78, Tryd.ntmps78
  go_wp2_with (at_builtin; refine wpList_append_own _ rfl _ _ 24 rfl w.heap.size 3 i0 (.int .i64 0) 1 8 Tryd.underlying24 hi hz0 hz1 hz2 rfl (by decide) _ _ _ rfl hown0 ad xs.length c (ic xs) rfl (by rw [ic_len]; omega) hsrc (by intro u hu; unfold ic at hu; obtain ⟨x, _, rfl⟩ := List.mem_map.1 hu; rfl) (by unfold maxLen; omega) (by omega) (by simp) ?_; intro v' w3 hown' hgrow hnil)
  go_ret
  rw [Nat.zero_add, List.nil_append] at hown'
  obtain ⟨ad', c', rfl⟩ := not_nil hown' (fun e => by have := (hnil.1 e).1; injection this with h _ _; cases h)
  exact ⟨ad', c', rfl, hown', hb0.grown hgrow (by simp) (fun j hj => (hown0.lt j hj).1)⟩
theorem clone_any (ad : Addr) (c : Nat) (xs : List Int) (w : World) (hr : Row w (some ad) (ic xs)) (hn : xs.length ≤ 100000) :
    Calls Tryd.prog 78 #[.slice (some ad) xs.length c] w fun e w' => ∃ v, e = .returned v ∧ w'.ownsRow w.heap.size 3 1 v xs.length (ic xs) ∧ Below w.heap.size w w' :=
  (clone_some ad c xs w hr hn).mono fun _ _ ⟨_, _, he, ho, hb⟩ => ⟨_, he, ho, hb⟩
end Go.Proofs.YtejgpecmjfgfbaaDoor
