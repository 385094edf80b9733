/- SplitString, both sides at once. -/
import Derived.Test.YteflgljifbcelaaIter
import Derived.Test.YteflgljifbcelaaMem
namespace Go.Proofs.Yteflgljifbcelaa
open Go.RowKit

theorem impl_Split_yes (s : ByteArray) (c : UInt8) (w : World) (hz : s.size ≤ 4000) :
    Calls Try.prog 10 #[.string s, .string ⟨#[c]⟩] w fun e W' => ∃ v, e = .returned (.tuple #[v, .bool true]) ∧ W'.ownsRow w.heap.size 9 1 v (splitL c s.data.toList).length ((splitL c s.data.toList).map strV) ∧ Below w.heap.size w W' :=
  callsIn_wide.1 (SplitString_in Fence.wide 6 trivial trivial trivial trivial rfl (by omega) (fun s c w => callsIn_wide.2 ((Try.strings_IndexByte s c.toNat w).mono fun _ _ ⟨h1, h2⟩ => ⟨by rw [h1]; simp, h2⟩)) s c w hz)
theorem spec_Split_yes (s : ByteArray) (c : UInt8) (w : World) (hz : s.size ≤ 4000) :
    Calls Try.prog 17 #[.string s, .string ⟨#[c]⟩] w fun e W' => ∃ v, e = .returned (.tuple #[v, .bool true]) ∧ W'.ownsRow w.heap.size 9 1 v (splitL c s.data.toList).length ((splitL c s.data.toList).map strV) ∧ Below w.heap.size w W' := by
  have H := l1Split_any s c w (by omega)
  have H' := Lib.hid H
  clear H
  go_enter Try.func17, Try.ntmps17
  go_wp2_with fail
  refine (H'.out).mono ?_
  rintro e w1 ⟨v, rfl, hown, hb⟩
  have HO := Lib.hid hown
  clear hown
  go_wp2
  go_ret2
  exact ⟨v, rfl, HO.out, hb⟩
def badSplit (s sep : ByteArray) : Prop := 4000 < s.size ∨ sep.size ≠ 1
theorem impl_Split_no (s sep : ByteArray) (w : World) (h1 : s.size ≤ 1048576) (_h2 : sep.size ≤ 1048576) (h : badSplit s sep) :
    Calls Try.prog 10 #[.string s, .string sep] w fun e W' => ∃ v, e = .returned (.tuple #[v, .bool false]) ∧ W'.ownsRow w.heap.size 9 1 v 0 [] ∧ Below w.heap.size w W' := by
  have fin := (⟨World.ownsRow_made w #[] 0 (Nat.le_refl _) (by unfold maxLen; omega) rfl, (Below.refl _ _).alloc (Nat.le_refl _) _⟩ : (w.alloc (.cells #[] 9)).ownsRow w.heap.size 9 1 (.slice (some ⟨w.heap.size, 0, none⟩) 0 0) 0 [] ∧ Below w.heap.size w (w.alloc (.cells #[] 9)))
  have FIN := Lib.hid fin
  clear fin
  by_cases g : 4000 < s.size
  · clear h
    go_enter Try.func10, Try.ntmps10
    go_wp2
    go_ret2
    exact ⟨_, rfl, FIN.out.1, FIN.out.2⟩
  · have h3 : ((sep.size : Int) != 1) = true := by rcases h with h | h; exact absurd h g; simp; omega
    clear h
    go_enter Try.func10, Try.ntmps10
    go_wp2
    go_ret2
    exact ⟨_, rfl, FIN.out.1, FIN.out.2⟩
theorem spec_Split_no (s sep : ByteArray) (w : World) (h1 : s.size ≤ 1048576) (_h2 : sep.size ≤ 1048576) (h : badSplit s sep) :
    Calls Try.prog 17 #[.string s, .string sep] w fun e W' => ∃ v, e = .returned (.tuple #[v, .bool false]) ∧ W'.ownsRow w.heap.size 9 1 v 0 [] ∧ Below w.heap.size w W' := by
  have fin := (⟨World.ownsRow_made w #[] 0 (Nat.le_refl _) (by unfold maxLen; omega) rfl, (Below.refl _ _).alloc (Nat.le_refl _) _⟩ : (w.alloc (.cells #[] 9)).ownsRow w.heap.size 9 1 (.slice (some ⟨w.heap.size, 0, none⟩) 0 0) 0 [] ∧ Below w.heap.size w (w.alloc (.cells #[] 9)))
  have FIN := Lib.hid fin
  clear fin
  by_cases g : sep.size = 1
  · have g1 : 4000 < s.size := by rcases h with h | h; exact h; exact absurd g h
    have h3 : ((sep.size : Int) != 1) = false := by simp; omega
    clear h g
    go_enter Try.func17, Try.ntmps17
    go_wp2
    go_ret2
    exact ⟨_, rfl, FIN.out.1, FIN.out.2⟩
  · have h3 : ((sep.size : Int) != 1) = true := by simp; omega
    clear h g
    go_enter Try.func17, Try.ntmps17
    go_wp2
    go_ret2
    exact ⟨_, rfl, FIN.out.1, FIN.out.2⟩
theorem one_byteS (s : ByteArray) (h : s.size = 1) : ∃ c, s = ⟨#[c]⟩ := by
  have hl : s.data.toList.length = 1 := by simpa using h
  match hd : s.data.toList, hl with
  | [c], _ => exact ⟨c, by apply ByteArray.ext; apply Array.ext'; simpa using hd⟩
/-- What both sides answer: the same parts, the same word, each in a row of its own. -/
def SplitAns (xs : List ByteArray) (b : Bool) (w : World) (e : Ending) (W' : World) : Prop :=
  ∃ v, e = .returned (.tuple #[v, .bool b]) ∧ W'.ownsRow w.heap.size 9 1 v xs.length (xs.map Value.string) ∧ Below w.heap.size w W'
theorem split_both (s sep : ByteArray) (h1 : s.size ≤ 1048576) (h2 : sep.size ≤ 1048576) : ∃ (xs : List ByteArray) (b : Bool),
    (∀ w, Calls Try.prog 17 #[.string s, .string sep] w (SplitAns xs b w)) ∧ (∀ w, Calls Try.prog 10 #[.string s, .string sep] w (SplitAns xs b w)) ∧ xs.length ≤ 4001 ∧
    ((b = true ∧ ∃ c, sep = ⟨#[c]⟩ ∧ s.size ≤ 4000 ∧ xs = (splitL c s.data.toList).map fun p => (⟨p.toArray⟩ : ByteArray)) ∨ (b = false ∧ xs = [] ∧ badSplit s sep)) := by
  by_cases h : badSplit s sep
  · exact ⟨[], false, fun w => spec_Split_no s sep w h1 h2 h, fun w => impl_Split_no s sep w h1 h2 h, Nat.zero_le _, .inr ⟨rfl, rfl, h⟩⟩
  · have hz : s.size ≤ 4000 := by unfold badSplit at h; omega
    obtain ⟨c, rfl⟩ := one_byteS sep (by unfold badSplit at h; omega)
    have hm : ((splitL c s.data.toList).map fun p => (⟨p.toArray⟩ : ByteArray)).map Value.string = (splitL c s.data.toList).map strV := by rw [List.map_map]; rfl
    have hl : ((splitL c s.data.toList).map fun p => (⟨p.toArray⟩ : ByteArray)).length = (splitL c s.data.toList).length := by simp
    have hlen := splitL_len c s.data.toList
    rw [size_listL] at hlen
    refine ⟨(splitL c s.data.toList).map fun p => (⟨p.toArray⟩ : ByteArray), true, fun w => ?_, fun w => ?_, by rw [hl]; omega, .inl ⟨rfl, c, rfl, hz, rfl⟩⟩
    · exact (spec_Split_yes s c w hz).mono fun e W' ⟨v, h1, h2, h3⟩ => ⟨v, h1, by rw [hl, hm]; exact h2, h3⟩
    · exact (impl_Split_yes s c w hz).mono fun e W' ⟨v, h1, h2, h3⟩ => ⟨v, h1, by rw [hl, hm]; exact h2, h3⟩
end Go.Proofs.Yteflgljifbcelaa
