/- Splitting and joining are inverse; the order of strings is strict. -/
import Derived.Test.YteflgljifbcelaaSplit2
import Derived.Test.YteflgljifbcelaaJoin
import Derived.Test.YteflgljifbcelaaDraw2
namespace Go.Proofs.Yteflgljifbcelaa
open Go.RowKit

theorem join_split (c : UInt8) : ∀ l : List UInt8, Lib.join (splitL c l) [c] = l
  | [] => rfl
  | x :: l => by
    have ih := join_split c l
    obtain ⟨p, ps, hp⟩ : ∃ p ps, splitL c l = p :: ps := by
      cases h : splitL c l with
      | nil => exact absurd h (splitL_ne c l)
      | cons p ps => exact ⟨p, ps, rfl⟩
    rw [hp, Lib.join_cons] at ih
    unfold splitL
    by_cases hx : x = c
    · rw [if_pos hx, hp, Lib.join_cons]
      unfold Lib.joinTail at *
      simp only [List.map_cons, List.flatten_cons, List.nil_append]
      rw [List.append_assoc, ih, hx]
      rfl
    · rw [if_neg hx, hp]
      simp only
      rw [Lib.join_cons, List.cons_append, ih]
theorem split_no (c : UInt8) : ∀ l : List UInt8, ∀ p ∈ splitL c l, hasB p c = false
  | [], p, h => by simp [splitL] at h; subst h; rfl
  | x :: l, p, h => by
    have ih := split_no c l
    unfold splitL at h
    by_cases hx : x = c
    · rw [if_pos hx] at h
      rcases List.mem_cons.1 h with rfl | h
      · rfl
      · exact ih p h
    · rw [if_neg hx] at h
      cases hs : splitL c l with
      | nil => exact absurd hs (splitL_ne c l)
      | cons q qs =>
        rw [hs] at h
        simp only at h
        rcases List.mem_cons.1 h with rfl | h
        · rw [hasB_cons, ih q (by rw [hs]; exact List.mem_cons_self), beq_eq_false_iff_ne.2 hx]; rfl
        · exact ih p (by rw [hs]; exact List.mem_cons_of_mem _ h)
theorem joinL_split (c : UInt8) (l : List UInt8) : joinL c ((splitL c l).map fun p => (⟨p.toArray⟩ : ByteArray)) = l := by
  unfold joinL
  rw [List.map_map]
  have : ((fun x : ByteArray => x.data.toList) ∘ fun p : List UInt8 => (⟨p.toArray⟩ : ByteArray)) = id := by funext p; simp
  rw [this, List.map_id]
  exact join_split c l
/-- What JoinStrings answers for the parts of a text. -/
theorem joined_back {c : UInt8} {s : ByteArray} {e : Ending} (hs : s.size ≤ 4000) (h : JoinAll ⟨#[c]⟩ ((splitL c s.data.toList).map fun p => (⟨p.toArray⟩ : ByteArray)) e) : e = .returned (.tuple #[.string s, .bool true]) := by
  have hok : okJ c ((splitL c s.data.toList).map fun p => (⟨p.toArray⟩ : ByteArray)) := by
    refine ⟨fun x hx => ?_, by rw [joinL_split]; simpa using hs⟩
    obtain ⟨p, hp, rfl⟩ := List.mem_map.1 hx
    have := split_no c _ p hp
    simpa using this
  rcases h with ⟨c', hc, _, h⟩ | ⟨hb, _⟩
  · have : c = c' := by have := congrArg (fun s : ByteArray => s.data.toList) hc; simpa using this
    subst this
    rcases h with ⟨_, rfl⟩ | ⟨hn, _⟩
    · rw [joinL_split]
    · exact absurd hok hn
  · have h1 : (⟨#[c]⟩ : ByteArray).size = 1 := rfl
    have h2 := splitL_ne c s.data.toList
    rcases hb with hb | hb
    · exact absurd h1 hb
    · rw [List.length_map] at hb; exact absurd (List.eq_nil_of_length_eq_zero hb) h2
theorem impl_Join_own (A : Option Addr) (d B : Nat) (xs : List ByteArray) (sep : ByteArray) (w : World) (h : w.ownsRow B 9 1 (.slice A xs.length d) xs.length (xs.map Value.string)) (hn : xs.length ≤ 100000000) (hs : ∀ s ∈ xs, s.size ≤ 100000000) (hz : sep.size ≤ 100000000) :
    Calls Try.prog 12 #[.slice A xs.length d, .string sep] w fun e w' => JoinAll sep xs e ∧ Below w.heap.size w w' := by
  by_cases h0 : xs.length = 0
  · exact (impl_Join_bad A _ d sep w hn hz (.inr h0)).mono fun _ _ ⟨h1, h2⟩ => ⟨.inr ⟨.inr h0, h1⟩, h2 ▸ Below.refl _ _⟩
  · obtain ⟨g, cur, rfl, _, _, hd, _⟩ := own_block h (by omega)
    exact impl_Join g 0 d xs sep w (Row.of_own h) hn hs hz hd

/-- Is a string less than another one? -/
def lessB (a b : ByteArray) : Bool := Op.bytesLess a.toList b.toList
theorem impl_Less (a b : ByteArray) (w : World) : Calls Try.prog 15 #[.string a, .string b] w fun e w' => e = .returned (.bool (lessB a b)) ∧ w = w' := by
  go_enter Try.func15, Try.ntmps15
  go_wp2
  go_ret
  exact ⟨rfl, rfl⟩
theorem spec_Less (a b : ByteArray) (w : World) : Calls Try.prog 16 #[.string a, .string b] w fun e w' => e = .returned (.bool (lessB a b)) ∧ w = w' := by
  go_enter Try.func16, Try.ntmps16
  go_wp2
  go_ret
  exact ⟨rfl, rfl⟩
theorem bytesLess_asymm : ∀ a b : List UInt8, Op.bytesLess a b = true → Op.bytesLess b a = false
  | [], [], h => by simp [Op.bytesLess] at h
  | _ :: _, [], h => by simp [Op.bytesLess] at h
  | [], _ :: _, _ => rfl
  | x :: a, y :: b, h => by
    simp only [Op.bytesLess, Bool.or_eq_true, decide_eq_true_eq, Bool.and_eq_true, beq_iff_eq, Bool.or_eq_false_iff, decide_eq_false_iff_not, Bool.and_eq_false_iff] at h ⊢
    rcases h with h | ⟨rfl, h⟩
    · refine ⟨fun h' => ?_, .inl (beq_eq_false_iff_ne.2 ?_)⟩
      · rw [UInt8.lt_iff_toNat_lt] at h h'; omega
      · rintro rfl; rw [UInt8.lt_iff_toNat_lt] at h; omega
    · exact ⟨fun h' => by rw [UInt8.lt_iff_toNat_lt] at h'; omega, .inr (bytesLess_asymm a b h)⟩
theorem lessB_asymm (a b : ByteArray) (h : lessB a b = true) : lessB b a = false := bytesLess_asymm _ _ h
end Go.Proofs.Yteflgljifbcelaa
