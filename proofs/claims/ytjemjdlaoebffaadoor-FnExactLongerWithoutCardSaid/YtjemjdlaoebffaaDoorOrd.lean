/- Orders: what the model and the program ask of them. -/
import Derived.Test.YtjemjdlaoebffaaDoorMapW
import Derived.Test.YtjemjdlaoebffaaDoorGood
namespace Go.Proofs.YtjemjdlaoebffaaDoor
open Go.RowKit

def hasI (xs : List Int) (x : Int) : Bool := decide (x ∈ xs)
theorem hasI_yes {xs : List Int} {x : Int} (h : x ∈ xs) : hasI xs x = true := decide_eq_true h
theorem hasI_no {xs : List Int} {x : Int} (h : x ∉ xs) : hasI xs x = false := decide_eq_false h
theorem hasI_out {xs : List Int} {x : Int} (h : hasI xs x = true) : x ∈ xs := of_decide_eq_true h
theorem hasI_not {xs : List Int} {x : Int} (h : hasI xs x = false) : x ∉ xs := of_decide_eq_false h
theorem notTo_step {xs : List Int} {x : Int} {k : Nat} (h : ∀ i (hi : i < xs.length), i < k → xs[i] ≠ x) (hk : k < xs.length) (ho : xs[k] ≠ x) : ∀ i (hi : i < xs.length), i < k + 1 → xs[i] ≠ x := by
  intro i hi hik
  by_cases e : i = k
  · subst e; exact ho
  · exact h i hi (by omega)
theorem notTo_all {xs : List Int} {x : Int} (h : ∀ i (hi : i < xs.length), i < xs.length → xs[i] ≠ x) : x ∉ xs := by
  intro hx
  obtain ⟨i, hi, rfl⟩ := List.mem_iff_getElem.1 hx
  exact h i hi hi rfl
theorem l1Has_any (A : Option Addr) (c : Nat) (xs : List Int) (x : Int) (w : World) (hr : Row w A (ic xs)) (hn : xs.length ≤ 100000000) :
    Calls Tryd.prog 148 #[.slice A xs.length c, .int .i64 x] w fun e w' => e = .returned (.bool (hasI xs x)) ∧ w = w' := by
  go_enter Tryd.func148, Tryd.ntmps148
  go_wp2
  go_loop [5] (fun i => ∃ k : Nat, k ≤ xs.length ∧ i = .int .i64 k ∧ Hid (∀ i (hi : i < xs.length), i < k → xs[i] ≠ x)) (fun i => xs.length - (intOf i).toNat)
  case atStart => exact ⟨0, Nat.zero_le _, rfl, fun _ _ h => absurd h (by omega)⟩
  case round =>
    obtain ⟨k, hk, rfl, hA⟩ := hrel
    by_cases hlt : k < xs.length
    · obtain ⟨a, hA', hc⟩ := hr.int hlt
      subst hA'
      have hi : (0 : Int) ≤ k := by omega
      have hi' : (k : Int) < xs.length := by omega
      by_cases hx : xs[k] = x
      · have HG := Lib.hid (hasI_yes (hx ▸ List.getElem_mem hlt))
        rw [hx] at hc
        clear hr hA hx
        go_wp2
        go_ret
        exact ⟨by rw [HG.out]; rfl, rfl⟩
      · have HA := Lib.hid (notTo_step hA.out hlt hx)
        have hne : ((xs[k] : Int) == x) = false := by simpa using hx
        clear hr hA
        generalize xs[k] = y at *
        go_wp2
        go_round
        case rel => exact ⟨k + 1, by omega, by go_num, HA.out⟩
        case measure => simp [intOf]; omega
    · obtain rfl : k = xs.length := by omega
      have HG := Lib.hid (hasI_no (notTo_all hA.out))
      clear hA
      go_wp2
      go_ret
      exact ⟨by rw [HG.out]; rfl, rfl⟩

theorem inAll_step {o : List Int} {k : Nat} (h : ∀ i : Nat, i < k → (i : Int) ∈ o) (hk : (k : Int) ∈ o) : ∀ i : Nat, i < k + 1 → (i : Int) ∈ o := by
  intro i hi
  by_cases e : i = k
  · subst e; exact hk
  · exact h i (by omega)
theorem l2Order_any (n : Int) (A : Option Addr) (c : Nat) (o : List Int) (w : World) (hr : Row w A (ic o)) (hn : o.length ≤ 100000000) :
    Calls Tryd.prog 91 #[.int .i64 n, .slice A o.length c] w fun e w' => e = .returned (.bool (ordB n o)) ∧ w = w' := by
  by_cases h8 : 0 ≤ n ∧ n ≤ 8
  · have hin := inB_yes h8.1 h8.2
    obtain ⟨m, rfl⟩ : ∃ m : Nat, n = (m : Int) := ⟨n.toNat, by omega⟩
    have hm : m ≤ 8 := by omega
    by_cases hl : o.length = m
    · go_enter Tryd.func91, Tryd.ntmps91
      go_wp2_with fail
      refine (l1In_any _ _ _ _).mono ?_
      rintro e w1 ⟨rfl, rfl⟩
      rw [hin]
      subst hl
      go_wp2_with fail
      go_loop [5] (fun i => ∃ k : Nat, k ≤ o.length ∧ i = .int .i64 k ∧ Hid (∀ i : Nat, i < k → (i : Int) ∈ o)) (fun i => o.length - (intOf i).toNat)
      case atStart => exact ⟨0, Nat.zero_le _, rfl, fun _ h => absurd h (by omega)⟩
      case round =>
        obtain ⟨k, hk, rfl, hA⟩ := hrel
        have HR := Lib.hid hr
        clear hr
        by_cases hlt : k < o.length
        · have hi' : (k : Int) < o.length := by omega
          cases hx : hasI o k
          · have HG := Lib.hid (ord_not (n := (o.length : Int)) (o := o) (fun h => hasI_not hx (h.2.2.2 k (by simpa using hlt))))
            clear hA hin
            go_wp2_with fail
            refine (l1Has_any _ _ o _ _ HR.out hn).mono ?_
            rintro e w1 ⟨rfl, rfl⟩
            rw [hx]
            go_wp2
            go_ret
            exact ⟨by rw [HG.out]; rfl, rfl⟩
          · have HA := Lib.hid (inAll_step hA.out (hasI_out hx))
            clear hA hin
            go_wp2_with fail
            refine (l1Has_any _ _ o _ _ HR.out hn).mono ?_
            rintro e w1 ⟨rfl, rfl⟩
            rw [hx]
            go_wp2
            go_round
            case rel => exact ⟨k + 1, by omega, by go_num, HA.out⟩
            case measure => simp [intOf]; omega
        · obtain rfl : k = o.length := by omega
          have HG := Lib.hid (ord_mk (n := (o.length : Int)) (o := o) ⟨by omega, by omega, rfl, fun i hi => hA.out i (by simpa using hi)⟩)
          clear hA hin
          go_wp2
          go_ret
          exact ⟨by rw [HG.out]; rfl, rfl⟩
    · have HG := Lib.hid (ord_not (n := (m : Int)) (o := o) (fun h => hl (by omega)))
      have hne : (((o.length : Nat) : Int) != (m : Int)) = true := by simp; omega
      go_enter Tryd.func91, Tryd.ntmps91
      go_wp2_with fail
      refine (l1In_any _ _ _ _).mono ?_
      rintro e w1 ⟨rfl, rfl⟩
      rw [hin]
      go_wp2
      go_ret
      exact ⟨by rw [HG.out]; rfl, rfl⟩
  · have hin := inB_no (x := n) (a := 0) (b := 8) h8
    have HG := Lib.hid (ord_not (n := n) (o := o) (fun h => h8 ⟨h.1, h.2.1⟩))
    go_enter Tryd.func91, Tryd.ntmps91
    go_wp2_with fail
    refine (l1In_any _ _ _ _).mono ?_
    rintro e w1 ⟨rfl, rfl⟩
    rw [hin]
    go_wp2
    go_ret
    exact ⟨by rw [HG.out]; rfl, rfl⟩

/-- What the program has seen: the numbers so far. -/
def seenM (xs : List Int) : List (Int × Value) := xs.map fun x => (x, .bool true)
theorem seen_in : ∀ {xs : List Int} {x : Int}, x ∈ xs → getM (seenM xs) x = some (.bool true)
  | y :: xs, x, h => by
    show (if y = x then _ else _) = _
    by_cases e : y = x
    · rw [if_pos e]
    · rw [if_neg e]
      rcases List.mem_cons.1 h with h | h
      · exact absurd h.symm e
      · exact seen_in h
theorem seen_out : ∀ {xs : List Int} {x : Int}, x ∉ xs → getM (seenM xs) x = none
  | [], _, _ => rfl
  | y :: xs, x, h => by
    show (if y = x then _ else _) = _
    rw [if_neg (fun e => h (by rw [e]; exact List.mem_cons_self))]
    exact seen_out (fun e => h (List.mem_cons_of_mem _ e))
theorem zeroB (w : World) : (zeroValue 4).run Tryd.prog w = .ok (.bool false) w := by kernel_rfl
def goodTo (o : List Int) (k : Nat) : Prop := (∀ x ∈ o.take k, 0 ≤ x ∧ x < o.length) ∧ (o.take k).Nodup
theorem goodTo_step {o : List Int} {k : Nat} (h : goodTo o k) (hk : k < o.length) (h0 : 0 ≤ o[k]) (h1 : o[k] < o.length) (hn : o[k] ∉ o.take k) : goodTo o (k + 1) := by
  unfold goodTo
  rw [List.take_succ_eq_append_getElem hk]
  refine ⟨fun x hx => ?_, ?_⟩
  · rcases List.mem_append.1 hx with h' | h'
    · exact h.1 x h'
    · rw [List.mem_singleton.1 h']; exact ⟨h0, h1⟩
  · rw [List.nodup_append]
    refine ⟨h.2, by simp, ?_⟩
    intro a ha b hb e
    rw [List.mem_singleton.1 hb] at e
    exact hn (e ▸ ha)
theorem seen_snoc {o : List Int} {k : Nat} (hk : k < o.length) : seenM (o.take k) ++ [(o[k], .bool true)] = seenM (o.take (k + 1)) := by
  unfold seenM; rw [List.take_succ_eq_append_getElem hk, List.map_append]; rfl
theorem ord_dup {o : List Int} {k : Nat} (hk : k < o.length) (hx : o[k] ∈ o.take k) : ordB (o.length : Int) o = false := by
  cases h : ordB (o.length : Int) o
  · rfl
  · obtain ⟨_, hn⟩ := ord_range h
    rw [← List.take_append_drop k o, List.nodup_append] at hn
    exact absurd rfl (hn.2.2 _ hx _ (List.mem_drop_iff_getElem.2 ⟨0, by simpa using hk, by simp⟩))
theorem ord_out_of {o : List Int} {k : Nat} (hk : k < o.length) (hx : ¬ (0 ≤ o[k] ∧ o[k] < o.length)) : ordB (o.length : Int) o = false := by
  cases h : ordB (o.length : Int) o
  · rfl
  · exact absurd ((ord_range h).1 _ (List.getElem_mem hk)) hx
set_option maxRecDepth 100000 in
set_option maxHeartbeats 1000000 in
theorem IsOrder_any (n : Int) (A : Option Addr) (c : Nat) (o : List Int) (w : World) (hr : Row w A (ic o)) (hn : o.length ≤ 100000000) :
    Calls Tryd.prog 96 #[.int .i64 n, .slice A o.length c] w fun e w' => e = .returned (.bool (ordB n o)) ∧ Below w.heap.size w w' := by
  by_cases h8 : 0 ≤ n ∧ n ≤ 8
  · obtain ⟨h0, h8⟩ := h8
    obtain ⟨m, rfl⟩ : ∃ m : Nat, n = (m : Int) := ⟨n.toNat, by omega⟩
    have hm : m ≤ 8 := by omega
    by_cases hl : o.length = m
    · subst hl
      have hmm := run_makeMap_hint (P := Tryd.prog) Tryd.underlying190 .i64 (o.length : Int)
      go_enter Tryd.func96, Tryd.ntmps96
      go_wp2
      go_loopw [24] (fun i wr => ∃ k : Nat, k ≤ o.length ∧ i = .int .i64 k ∧ MapOf wr w.heap.size (seenM (o.take k)) ∧ Hid (goodTo o k) ∧ Below w.heap.size w wr) (fun i _ => o.length - (intOf i).toNat)
      case atStart => exact ⟨0, Nat.zero_le _, rfl, MapOf.new _, ⟨by simp, by simp⟩, (Below.refl _ _).alloc (Nat.le_refl _) _⟩
      case round =>
        obtain ⟨k, hk, rfl, hM, hG, hb⟩ := hrel
        clear hmm
        by_cases hlt : k < o.length
        · obtain ⟨a, hA', hc⟩ := (hr.below hb).int hlt
          subst hA'
          have hi : (0 : Int) ≤ k := by omega
          have hi' : (k : Int) < o.length := by omega
          by_cases hrg : 0 ≤ o[k] ∧ o[k] < o.length
          · obtain ⟨hr0, hr1⟩ := hrg
            by_cases hx : o[k] ∈ o.take k
            · have HG := Lib.hid (ord_dup hlt hx)
              have hlook := hM.look (P := Tryd.prog) Tryd.underlying190 Tryd.underlying3 o[k] (zeroB wr)
              rw [seen_in hx] at hlook
              simp only [Option.getD_some] at hlook
              clear hr hG hM hx
              generalize o[k] = y at *
              go_wp2
              go_ret
              exact ⟨by rw [HG.out]; rfl, hb⟩
            · have HG := Lib.hid (goodTo_step hG.out hlt hr0 hr1 hx)
              have hlook := hM.look (P := Tryd.prog) Tryd.underlying190 Tryd.underlying3 o[k] (zeroB wr)
              rw [seen_out hx] at hlook
              simp only [Option.getD_none] at hlook
              obtain ⟨w1, hput, hM1, hg1, hs1⟩ := hM.put (P := Tryd.prog) Tryd.underlying190 Tryd.underlying3 o[k] (.bool true) (seen_out hx)
              rw [seen_snoc hlt] at hM1
              have HM := Lib.hid hM1
              have HB := Lib.hid (hb.trans (⟨hg1.os, hg1.tape, hg1.output, hg1.size, fun j hj => hg1.block j (Nat.lt_of_lt_of_le hj hb.size) (fun e => by injection e; omega)⟩ : Below w.heap.size wr w1))
              clear hr hG hM hx hM1 hg1 hs1 hb
              generalize o[k] = y at *
              go_wp2
              go_roundw
              case rel => exact ⟨k + 1, by omega, by go_num, HM.out, HG.out, HB.out⟩
              case measure => simp [intOf]; omega
          · have HG := Lib.hid (ord_out_of hlt hrg)
            clear hr hG hM
            by_cases hr0 : 0 ≤ o[k]
            · have hr1 : ¬ o[k] < o.length := fun h => hrg ⟨hr0, h⟩
              clear hrg
              generalize o[k] = y at *
              go_wp2
              go_ret
              exact ⟨by rw [HG.out]; rfl, hb⟩
            · clear hrg
              generalize o[k] = y at *
              go_wp2
              go_ret
              exact ⟨by rw [HG.out]; rfl, hb⟩
        · obtain rfl : k = o.length := by omega
          have HG := Lib.hid (ord_prefix (n := o.length) (o := o) rfl hm (by simpa using hG.out.1) (by simpa using hG.out.2))
          clear hG hM
          go_wp2
          go_ret
          exact ⟨by rw [HG.out]; rfl, hb⟩
    · have HG := Lib.hid (ord_not (n := (m : Int)) (o := o) (fun h => hl (by omega)))
      have hne : (((o.length : Nat) : Int) != (m : Int)) = true := by simp; omega
      go_enter Tryd.func96, Tryd.ntmps96
      go_wp2
      go_ret
      exact ⟨by rw [HG.out]; rfl, Below.refl _ _⟩
  · have HG := Lib.hid (ord_not (n := n) (o := o) (fun h => h8 ⟨h.1, h.2.1⟩))
    by_cases h0 : 0 ≤ n
    · have h1 : ¬ n ≤ 8 := fun h => h8 ⟨h0, h⟩
      clear h8
      go_enter Tryd.func96, Tryd.ntmps96
      go_wp2
      go_ret
      exact ⟨by rw [HG.out]; rfl, Below.refl _ _⟩
    · clear h8
      go_enter Tryd.func96, Tryd.ntmps96
      go_wp2
      go_ret
      exact ⟨by rw [HG.out]; rfl, Below.refl _ _⟩
end Go.Proofs.YtjemjdlaoebffaaDoor
