/- BestOrder of the program. -/
import Derived.Test.YtgiecjcgidgpfaaBestE
import Derived.Test.YtgiecjcgidgpfaaBestOS
namespace Go.Proofs.Ytgiecjcgidgpfaa
open Go.RowKit
theorem tryB_len (o : Int) (js : List J) : ∀ (m : Nat) (b : List Nat) (t : Bst), b.length + m = js.length → t.first.length ≤ js.length → (specTry o js m b t).first.length ≤ js.length
  | 0, b, t, hl, h => by
    show (leafB b _ t).first.length ≤ _
    unfold leafB
    split
    · simp only; omega
    · split <;> exact h
  | m + 1, b, t, hl, h => by
    have hf : ∀ (l : List Nat) (t : Bst), t.first.length ≤ js.length → (l.foldl (fun t j => if j ∈ b then t else specTry o js m (b ++ [j]) t) t).first.length ≤ js.length := fun l => by
      induction l with
      | nil => intro t ht; exact ht
      | cons j l ih =>
        intro t ht
        rw [List.foldl_cons]
        refine ih _ ?_
        split
        · exact ht
        · exact tryB_len o js m _ t (by simp; omega) ht
    exact hf _ t h
theorem bestOR_len (js : List J) (o : Int) : (bestOR js o).1.length ≤ 8 := by
  unfold bestOR
  split
  · rename_i h
    simp only [Bool.and_eq_true] at h
    have h8 := (good_out h.1).1
    have := tryB_len o js js.length [] bst0 (by simp) (by simp [bst0])
    simp only [natI_len]
    unfold bestL
    omega
  · simp
section
variable (AJ : Option Addr) (cJ : Nat) (js : List J) (o : Int) (w : World) (hr : Row w AJ (jc js)) (hn : js.length ≤ 10000000)
include hr hn
set_option maxRecDepth 100000 in
theorem impl_BestOrder : Calls Try.prog 34 #[.slice AJ js.length cJ, .int .i64 o] w (RetIB w (bestOR js o)) := by
  have HR : Hid (bestOR js o = if goodL js && isObj o then (natI (bestL o js).first, true) else ([], false)) := rfl
  go_enter Try.func34, Try.ntmps34
  go_wp2_with fail
  refine (bestOf_any AJ cJ js o w hr hn).mono ?_
  rintro e w1 ⟨hb1, ⟨hf, rfl⟩ | ⟨hf, A, c, rfl, hown⟩⟩
  · rw [hf] at HR
    go_wp2
    go_ret2
    refine ⟨none, 0, by rw [HR.out]; rfl, ?_, hb1.alloc hb1.size _⟩
    rw [HR.out]
    exact ⟨⟨rfl, .inl ⟨rfl, rfl⟩⟩, (fun ad h => by cases h), Nat.le_refl _⟩
  · rw [hf] at HR
    clear hf
    have HO := Lib.hid (And.intro hb1 hown)
    clear hb1 hown
    generalize bestL o js = tt at *
    go_wp2
    go_ret2
    have hba := (Below.refl w1.heap.size w1).alloc (Nat.le_refl _) (.cells #[.int .i64 tt.v, .slice A tt.first.length c, .int .i64 (tt.n : Int)] 101)
    refine ⟨A, c, ?_, ?_, HO.out.1.alloc HO.out.1.size _⟩
    · rw [HR.out]; simp
    · rw [HR.out]; simp only [if_true]; rw [natI_len]; exact Seg.of_own (own_below HO.out.2 hba)
end
end Go.Proofs.Ytgiecjcgidgpfaa
