/- A search down a list: what the rounds have found so far. -/
import Derived.Test.YtpjjjbkjkhcbdaaBack
import Derived.Test.YtpjjjbkjkhcbdaaBlm
namespace Go.Proofs.Ytpjjjbkjkhcbdaa
open Go.RowKit
/-- The first place so far whose job's date is later. -/
def fdB (js : List J) (l : List Nat) (pre : List { k : Nat // k < l.length }) : Option { k : Nat // k < l.length } := pre.find? fun x => decide (lastDue js l < dueN js (l[x.1]'x.2))
def vdB (js : List J) (l : List Nat) (pre : List { k : Nat // k < l.length }) : Int := match fdB js l pre with
  | some x => ((l[x.1]'x.2 : Nat) : Int)
  | none => 0
theorem fdB_miss {js : List J} {l : List Nat} {pre : List { k : Nat // k < l.length }} {x : { k : Nat // k < l.length }} (h : fdB js l pre = none) (hx : ¬ lastDue js l < dueN js (l[x.1]'x.2)) : fdB js l (pre ++ [x]) = none := by
  unfold fdB at h ⊢
  rw [List.find?_append, h]
  simp [decide_eq_false hx]
theorem fdB_hit {js : List J} {l : List Nat} {pre : List { k : Nat // k < l.length }} {x : { k : Nat // k < l.length }} (h : fdB js l pre = none) (hx : lastDue js l < dueN js (l[x.1]'x.2)) : fdB js l (pre ++ [x]) = some x := by
  unfold fdB at h ⊢
  rw [List.find?_append, h]
  simp [decide_eq_true hx]
theorem dn_at (n d : Nat) (h : d + 1 ≤ n) : dn n (d + 1) = dn n d ++ [⟨n - (d + 1), by omega⟩] := by
  show (if h : n - (d + 1) < n then _ else _) = _
  rw [dif_pos (by omega)]
theorem fdB_none {js : List J} {l : List Nat} : ∀ d, d ≤ l.length → fdB js l (dn l.length d) = none → blockTo js l (lastDue js l) l.length = blockTo js l (lastDue js l) (l.length - d)
  | 0, _, _ => rfl
  | d + 1, h, hf => by
    rw [dn_at _ d h] at hf
    by_cases h0 : fdB js l (dn l.length d) = none
    · have hx : ¬ lastDue js l < dueN js (l[l.length - (d + 1)]'(by omega)) := fun hx => by
        rw [fdB_hit h0 hx] at hf; cases hf
      rw [fdB_none d (by omega) h0, show l.length - d = (l.length - (d + 1)) + 1 by omega]
      exact blockTo_miss (by omega) hx
    · unfold fdB at h0 hf
      rw [List.find?_append] at hf
      cases hq : (dn l.length d).find? fun x => decide (lastDue js l < dueN js (l[x.1]'x.2)) with
      | none => exact absurd hq h0
      | some y => rw [hq] at hf; cases hf
theorem fdB_some {js : List J} {l : List Nat} {x : { k : Nat // k < l.length }} : ∀ d, d ≤ l.length → fdB js l (dn l.length d) = some x → blockTo js l (lastDue js l) l.length = blockTo js l (lastDue js l) (x.1 + 1) ∧ lastDue js l < dueN js (l[x.1]'x.2)
  | 0, _, hf => by cases hf
  | d + 1, h, hf => by
    rw [dn_at _ d h] at hf
    cases h0 : fdB js l (dn l.length d) with
    | none =>
      have hN := fdB_none d (by omega) h0
      by_cases hx : lastDue js l < dueN js (l[l.length - (d + 1)]'(by omega))
      · rw [fdB_hit h0 hx] at hf
        injection hf with hf
        subst hf
        exact ⟨by rw [hN]; congr 1; show _ = l.length - (d + 1) + 1; omega, hx⟩
      · rw [fdB_miss h0 hx] at hf; cases hf
    | some y =>
      have hy : y = x := by
        unfold fdB at h0 hf
        rw [List.find?_append, h0] at hf
        injection hf
      subst hy
      exact fdB_some d (by omega) h0
theorem block_none' {js : List J} (hg : goodL js = true) (h0 : 0 < js.length) (h : fdB js (critL js (greedyL js)) (dn (critL js (greedyL js)).length (critL js (greedyL js)).length) = none) : blockR js = (0, false) :=
  block_none hg h0 (by rw [fdB_none _ (Nat.le_refl _) h, Nat.sub_self])
theorem block_some' {js : List J} (hg : goodL js = true) (h0 : 0 < js.length) (pre : List { k : Nat // k < (critL js (greedyL js)).length }) (hp : ∃ d, d ≤ (critL js (greedyL js)).length ∧ pre = dn (critL js (greedyL js)).length d) (h : (fdB js (critL js (greedyL js)) pre).isSome = true) : blockR js = (vdB js (critL js (greedyL js)) pre, true) := by
  obtain ⟨d, hd, rfl⟩ := hp
  obtain ⟨x, hx⟩ := Option.isSome_iff_exists.1 h
  obtain ⟨h1, h2⟩ := fdB_some d hd hx
  rw [block_hit hg h0 x.2 h1 h2]
  unfold vdB
  rw [hx]
section
variable (A : Option Addr) (c : Nat) (js : List J) (w : World) (hr : Row w A (jc js)) (hn : js.length ≤ 10000000)
include hr hn
theorem crit_no (h : ¬ (goodL js = true ∧ 0 < js.length)) : Calls Try.prog 51 #[.slice A js.length c] w fun e w' => (∃ B d, e = .returned (.tuple #[.slice B 0 d, .bool false])) ∧ Below w.heap.size w w' := by
  refine (impl_CriticalPart A c js w hr hn).mono ?_
  rintro e w' ⟨B, d, rfl, _, hb⟩
  rw [show critR js = ([], false) by unfold critR; rw [if_neg h]]
  exact ⟨⟨B, d, rfl⟩, hb⟩
theorem crit_yes (hg : goodL js = true) (h0 : 0 < js.length) : Calls Try.prog 51 #[.slice A js.length c] w fun e w' => ∃ (b : Addr) (d : Nat), e = .returned (.tuple #[.slice (some b) (critL js (greedyL js)).length d, .bool true]) ∧ b.block < w'.heap.size ∧ (∀ k (h : k < (critL js (greedyL js)).length), w'.cell? (b.add k) = some (.int .i64 (((critL js (greedyL js))[k] : Nat) : Int))) ∧ Below w.heap.size w w' := by
  have hp := (critL_pos' hg h0).1
  refine (impl_CriticalPart A c js w hr hn).mono ?_
  rw [show critR js = (natI (critL js (greedyL js)), true) by unfold critR; rw [if_pos ⟨hg, h0⟩]]
  rintro e w' ⟨B, d, rfl, hs, hb⟩
  have hrow := hs.row
  obtain ⟨g, o, cur, rfl, h1, h2, h3, _⟩ := hs
  refine ⟨_, d, by rw [List.length_map], Nat.lt_of_lt_of_le h2 h3, fun k hk => ?_, hb⟩
  obtain ⟨ad, hA, hc⟩ := hrow.nat hk
  injection hA with hA
  subst hA
  exact hc
end
end Go.Proofs.Ytpjjjbkjkhcbdaa
