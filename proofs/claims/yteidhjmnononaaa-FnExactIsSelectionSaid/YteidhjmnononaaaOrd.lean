/- Orders: what the model and the program ask of them. -/
import Derived.Test.YteidhjmnononaaaMapW
import Derived.Test.YteidhjmnononaaaGood
namespace Go.Proofs.Yteidhjmnononaaa
open Go.RowKit

def hasI (xs : List Int) (x : Int) : Bool := decide (x ∈ xs)
theorem hasI_yes {xs : List Int} {x : Int} (h : x ∈ xs) : hasI xs x = true := decide_eq_true h
theorem hasI_no {xs : List Int} {x : Int} (h : x ∉ xs) : hasI xs x = false := decide_eq_false h
theorem hasI_out {xs : List Int} {x : Int} (h : hasI xs x = true) : x ∈ xs := of_decide_eq_true h
theorem hasI_not {xs : List Int} {x : Int} (h : hasI xs x = false) : x ∉ xs := of_decide_eq_false h
theorem notTo_step {xs : List Int} {x : Int} {k : Nat} (h : ∀ i (hi : i < xs.length), i < k → xs[i] ≠ x) (hk : k < xs.length) (ho : xs[k] ≠ x) : ∀ i (hi : i < xs.length), i < k + 1 → xs[i] ≠ x := by
  intro i hi hik
  by_cases e : i = k
  · subst e; exact ho
  · exact h i hi (by omega)
theorem notTo_all {xs : List Int} {x : Int} (h : ∀ i (hi : i < xs.length), i < xs.length → xs[i] ≠ x) : x ∉ xs := by
  intro hx
  obtain ⟨i, hi, rfl⟩ := List.mem_iff_getElem.1 hx
  exact h i hi hi rfl
theorem l1Has_any (A : Option Addr) (c : Nat) (xs : List Int) (x : Int) (w : World) (hr : Row w A (ic xs)) (hn : xs.length ≤ 100000000) :
    Calls Try.prog 27 #[.slice A xs.length c, .int .i64 x] w fun e w' => e = .returned (.bool (hasI xs x)) ∧ w = w' := by
  go_enter Try.func27, Try.ntmps27
  go_wp2
  go_loop [5] (fun i => ∃ k : Nat, k ≤ xs.length ∧ i = .int .i64 k ∧ Hid (∀ i (hi : i < xs.length), i < k → xs[i] ≠ x)) (fun i => xs.length - (intOf i).toNat)
  case atStart => exact ⟨0, Nat.zero_le _, rfl, fun _ _ h => absurd h (by omega)⟩
  case round =>
    obtain ⟨k, hk, rfl, hA⟩ := hrel
    by_cases hlt : k < xs.length
    · obtain ⟨a, hA', hc⟩ := hr.int hlt
      subst hA'
      have hi : (0 : Int) ≤ k := by omega
      have hi' : (k : Int) < xs.length := by omega
      by_cases hx : xs[k] = x
      · have HG := Lib.hid (hasI_yes (hx ▸ List.getElem_mem hlt))
        rw [hx] at hc
        clear hr hA hx
        go_wp2
        go_ret
        exact ⟨by rw [HG.out]; rfl, rfl⟩
      · have HA := Lib.hid (notTo_step hA.out hlt hx)
        have hne : ((xs[k] : Int) == x) = false := by simpa using hx
        clear hr hA
        generalize xs[k] = y at *
        go_wp2
        go_round
        case rel => exact ⟨k + 1, by omega, by go_num, HA.out⟩
        case measure => simp [intOf]; omega
    · obtain rfl : k = xs.length := by omega
      have HG := Lib.hid (hasI_no (notTo_all hA.out))
      clear hA
      go_wp2
      go_ret
      exact ⟨by rw [HG.out]; rfl, rfl⟩

theorem inAll_step {o : List Int} {k : Nat} (h : ∀ i : Nat, i < k → (i : Int) ∈ o) (hk : (k : Int) ∈ o) : ∀ i : Nat, i < k + 1 → (i : Int) ∈ o := by
  intro i hi
  by_cases e : i = k
  · subst e; exact hk
  · exact h i (by omega)
/-- What the program has seen: the numbers so far. -/
def seenM (xs : List Int) : List (Int × Value) := xs.map fun x => (x, .bool true)
theorem seen_in : ∀ {xs : List Int} {x : Int}, x ∈ xs → getM (seenM xs) x = some (.bool true)
  | y :: xs, x, h => by
    show (if y = x then _ else _) = _
    by_cases e : y = x
    · rw [if_pos e]
    · rw [if_neg e]
      rcases List.mem_cons.1 h with h | h
      · exact absurd h.symm e
      · exact seen_in h
theorem seen_out : ∀ {xs : List Int} {x : Int}, x ∉ xs → getM (seenM xs) x = none
  | [], _, _ => rfl
  | y :: xs, x, h => by
    show (if y = x then _ else _) = _
    rw [if_neg (fun e => h (by rw [e]; exact List.mem_cons_self))]
    exact seen_out (fun e => h (List.mem_cons_of_mem _ e))
theorem zeroB (w : World) : (zeroValue 4).run Try.prog w = .ok (.bool false) w := by kernel_rfl
def goodTo (o : List Int) (k : Nat) : Prop := (∀ x ∈ o.take k, 0 ≤ x ∧ x < o.length) ∧ (o.take k).Nodup
theorem goodTo_step {o : List Int} {k : Nat} (h : goodTo o k) (hk : k < o.length) (h0 : 0 ≤ o[k]) (h1 : o[k] < o.length) (hn : o[k] ∉ o.take k) : goodTo o (k + 1) := by
  unfold goodTo
  rw [List.take_succ_eq_append_getElem hk]
  refine ⟨fun x hx => ?_, ?_⟩
  · rcases List.mem_append.1 hx with h' | h'
    · exact h.1 x h'
    · rw [List.mem_singleton.1 h']; exact ⟨h0, h1⟩
  · rw [List.nodup_append]
    refine ⟨h.2, by simp, ?_⟩
    intro a ha b hb e
    rw [List.mem_singleton.1 hb] at e
    exact hn (e ▸ ha)
theorem seen_snoc {o : List Int} {k : Nat} (hk : k < o.length) : seenM (o.take k) ++ [(o[k], .bool true)] = seenM (o.take (k + 1)) := by
  unfold seenM; rw [List.take_succ_eq_append_getElem hk, List.map_append]; rfl
theorem ord_dup {o : List Int} {k : Nat} (hk : k < o.length) (hx : o[k] ∈ o.take k) : ordB (o.length : Int) o = false := by
  cases h : ordB (o.length : Int) o
  · rfl
  · obtain ⟨_, hn⟩ := ord_range h
    rw [← List.take_append_drop k o, List.nodup_append] at hn
    exact absurd rfl (hn.2.2 _ hx _ (List.mem_drop_iff_getElem.2 ⟨0, by simpa using hk, by simp⟩))
theorem ord_out_of {o : List Int} {k : Nat} (hk : k < o.length) (hx : ¬ (0 ≤ o[k] ∧ o[k] < o.length)) : ordB (o.length : Int) o = false := by
  cases h : ordB (o.length : Int) o
  · rfl
  · exact absurd ((ord_range h).1 _ (List.getElem_mem hk)) hx
end Go.Proofs.Yteidhjmnononaaa
