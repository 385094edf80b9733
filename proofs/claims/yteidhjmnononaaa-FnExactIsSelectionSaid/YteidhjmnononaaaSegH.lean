/- The laws' helpers over slices of the call's own, between two marks of the heap. -/
import Derived.Test.YteidhjmnononaaaSeg
import Derived.Test.YteidhjmnononaaaJobs
import Derived.Test.YteidhjmnononaaaArgJ
namespace Go.Proofs.Yteidhjmnononaaa
open Go.RowKit

theorem IsInts.row {w : World} {a : Option Addr} {len cap : Nat} {zs : List Int} (h : IsInts .i64 w a len cap zs) : ∃ o : List Int, o.length = len ∧ Row w a (ic o) ∧ o.length ≤ maxLen ∧ ∀ n ∈ o, (Lit.int .i64 n).wf = true := by
  rcases h with ⟨rfl, rfl, rfl, rfl⟩ | ⟨x, rfl, hl, hm, hz, hc, hs⟩
  · exact ⟨[], rfl, Row.nil _, Nat.zero_le _, by simp⟩
  · refine ⟨zs.take len, by simp; omega, fun hn => ⟨x, rfl, ?_, fun j u hu => ?_⟩, by simp; omega, fun n h => hs n (List.mem_of_mem_take h)⟩
    · have h0 : 0 < zs.length := by rw [ic_len] at hn; simp at hn; omega
      have := lt_of_cell (hc 0 h0)
      rwa [add_block] at this
    · unfold ic at hu
      rw [List.getElem?_map, Option.map_eq_some_iff] at hu
      obtain ⟨s, h1, rfl⟩ := hu
      obtain ⟨h2, h3⟩ := List.getElem?_eq_some_iff.1 h1
      have hj : j < zs.length := by simp at h2; omega
      rw [hc j hj]
      rw [List.getElem_take] at h3
      subst h3
      simp [List.getD, hj]

theorem Touch.of_own {w w' : World} {lo hi : Nat} {A : Option Addr} {n c : Nat} (h : w.grownBy w' (Value.slice A n c).ownBlock) (hA : ∀ ad, A = some ad → lo ≤ ad.block ∧ ad.block < hi) : Touch lo hi w w' := by
  refine ⟨h.os, h.tape, h.output, h.size, fun k hk hne => h.block k hk ?_⟩
  cases A with
  | none => intro e; cases e
  | some ad =>
    intro e
    have := hA ad rfl
    injection e with e
    omega
theorem Seg.at_ {w : World} {e : TypeId} {size lo hi : Nat} {A : Option Addr} {n c : Nat} {cs : List Value} (h : Seg w e size lo hi A n c cs) : ∀ ad, A = some ad → 0 < n → lo ≤ ad.block ∧ ad.block < hi := by
  intro ad ha h0
  obtain ⟨g, cur, hA, h1, h2, _⟩ := h.block h0
  rw [hA] at ha
  injection ha with ha
  subst ha
  exact ⟨h1, h2⟩
theorem Touch.none {w : World} (lo hi : Nat) : Touch lo hi w w := Touch.refl _ _ _

theorem toIntS_seg (A : Option Addr) (c : Nat) (xs : List Int) (w : World) (hr : Row w A (ic xs)) (hn : xs.length ≤ 100000000) :
    Calls Try.prog 17 #[.slice A xs.length c] w fun e w' => ∃ g, e = .returned (.slice (some ⟨g, 0, none⟩) xs.length xs.length) ∧ Seg w' 3 1 w.heap.size w'.heap.size (some ⟨g, 0, none⟩) xs.length xs.length (ic xs) ∧ Below w.heap.size w w' :=
  (toIntS_any A c xs w hr hn).mono fun _ _ ⟨g, he, _, ho, hb⟩ => ⟨g, he, Seg.of_own ho, hb⟩
theorem eqIntS_seg (A B : Option Addr) (c d : Nat) (xs : List Int) (w : World) (hr : Row w A (ic xs)) (hq : Row w B (ic xs)) (hn : xs.length ≤ 100000000) :
    Calls Try.prog 21 #[.slice A xs.length c, .slice B xs.length d] w fun e w' => e = .returned (.bool true) ∧ Below w.heap.size w w' :=
  (eqIntS_same A B c d xs w hr hq hn).mono fun _ _ ⟨he, m, hm⟩ => ⟨he, hm ▸ below_drewN (Below.refl _ _) m⟩
/-- What a function hands back: a list of ints, memory of its own, and a bool. -/
def RetIB (w : World) (r : List Int × Bool) (e : Ending) (w' : World) : Prop :=
  ∃ A c, e = .returned (.tuple #[.slice A r.1.length c, .bool r.2]) ∧ Seg w' 3 1 w.heap.size w'.heap.size A r.1.length c (ic r.1) ∧ Below w.heap.size w w'
end Go.Proofs.Yteidhjmnononaaa
