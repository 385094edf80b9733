/- Tails of jobs: plain words. -/
import Derived.Test.YtejgpecmjfgfbaaDoorGroP
import Derived.Test.YtejgpecmjfgfbaaDoorValP
namespace Go.Proofs.YtejgpecmjfgfbaaDoor
/-- The greatest of some, 0 at least. -/
def mostTo (g : Nat → Int) (p : Nat → Bool) (k : Nat) : Int := (List.range k).foldl (fun a i => if p i then max a (g i) else a) 0
theorem mostTo_succ (g : Nat → Int) (p : Nat → Bool) (k : Nat) : mostTo g p (k + 1) = if p k then max (mostTo g p k) (g k) else mostTo g p k := by
  unfold mostTo; rw [List.range_succ, List.foldl_append]; rfl
def mostL (g : Nat → Int) (l : List Nat) : Int := l.foldl (fun a i => max a (g i)) 0
theorem mostL_snoc (g : Nat → Int) (l : List Nat) (k : Nat) : mostL g (l ++ [k]) = max (mostL g l) (g k) := by unfold mostL; simp
theorem mostL_filter (g : Nat → Int) (p : Nat → Bool) : ∀ k, mostL g ((List.range k).filter p) = mostTo g p k
  | 0 => rfl
  | k + 1 => by
    rw [mostTo_succ, List.range_succ, List.filter_append, ← mostL_filter g p k]
    cases h : p k
    · rw [List.filter_cons_of_neg (by simp [h])]; simp
    · rw [List.filter_cons_of_pos (by simp [h]), if_pos rfl]
      exact mostL_snoc g _ k
theorem most_bd {g : Nat → Int} {p : Nat → Bool} {m : Int} (hm : 0 ≤ m) : ∀ k, (∀ i, i < k → p i = true → g i ≤ m) → 0 ≤ mostTo g p k ∧ mostTo g p k ≤ m
  | 0, _ => ⟨Int.le_refl _, hm⟩
  | k + 1, h => by
    have ih := most_bd hm k fun i hi => h i (by omega)
    rw [mostTo_succ]
    split
    · rename_i hp
      have := h k (by omega) hp
      omega
    · exact ih
theorem mostL_bd {g : Nat → Int} {m : Int} (hm : 0 ≤ m) : ∀ l : List Nat, (∀ i ∈ l, g i ≤ m) → 0 ≤ mostL g l ∧ mostL g l ≤ m := by
  intro l h
  have key : ∀ (l : List Nat) (a : Int), 0 ≤ a → a ≤ m → (∀ i ∈ l, g i ≤ m) → 0 ≤ l.foldl (fun a i => max a (g i)) a ∧ l.foldl (fun a i => max a (g i)) a ≤ m := by
    intro l
    induction l with
    | nil => intro a h0 h1 _; exact ⟨h0, h1⟩
    | cons x l ih =>
      intro a h0 h1 hl
      have := hl x List.mem_cons_self
      exact ih (max a (g x)) (by omega) (by omega) fun i hi => hl i (List.mem_cons_of_mem _ hi)
  exact key l 0 (Int.le_refl _) hm h
/-- The tail of a job, f jobs deep. -/
def tailF (js : List J) (T : Nat → Nat → Bool) (n : Nat) : Nat → Nat → Int
  | 0, _ => 0
  | f + 1, j => (js.getD j j0).t + mostTo (fun i => tailF js T n f i) (T j) n
theorem tailF_bd {js : List J} (hok : ∀ j ∈ js, okJ j = true) (T : Nat → Nat → Bool) : ∀ (f j : Nat), j < js.length → 0 ≤ tailF js T js.length f j ∧ tailF js T js.length f j ≤ 50 * (f : Int)
  | 0, _, _ => by simp [tailF]
  | f + 1, j, hj => by
    have h1 := most_bd (g := fun i => tailF js T js.length f i) (p := T j) (m := 50 * (f : Int)) (by omega) js.length (fun i hi _ => (tailF_bd hok T f i hi).2)
    have h2 := okJ_out (hok _ (List.getElem_mem hj))
    show 0 ≤ (js.getD j j0).t + mostTo (fun i => tailF js T js.length f i) (T j) js.length ∧ (js.getD j j0).t + mostTo (fun i => tailF js T js.length f i) (T j) js.length ≤ _
    rw [getD_at js j0 hj]
    omega
/-- How many jobs are behind one. -/
def cntS (n : Nat) (T : Nat → Nat → Bool) (j : Nat) : Nat := (List.range n).countP fun i => T j i
theorem cntS_le (n : Nat) (T : Nat → Nat → Bool) (j : Nat) : cntS n T j ≤ n := by
  have := List.countP_le_length (p := fun i => T j i) (l := List.range n)
  rwa [List.length_range] at this
theorem cntS_lt {n : Nat} {E : List Ed} (hirr : irrB n E n = true) {j i : Nat} (hi : i < n) (h : tabB n E j i = true) : cntS n (tabB n E) i < cntS n (tabB n E) j := by
  refine countP_lt' (fun x hx => tabTo_trans E n j i x hi h hx) (i := i) ?_ h (List.range n) (List.mem_range.2 hi)
  unfold irrB at hirr
  have := List.all_eq_true.1 hirr i (List.mem_range.2 hi)
  show tabB n E i i = false
  simpa using this
theorem range_lt : ∀ n, n < 9 → (List.range 8).filter (fun i => decide (i < n)) = List.range n := by decide
theorem memB_bits {n : Nat} (hn : n ≤ 8) (p : Nat → Bool) : memB (bitsN n p) = (List.range n).filter p := by
  unfold memB
  rw [← range_lt n (by omega), List.filter_filter]
  refine List.filter_congr fun i _ => ?_
  rw [bits_bit, Bool.and_comm]
def tailsL (js : List J) (E : List Ed) : List Int := (List.range js.length).map fun j => tailF js (tabB js.length E) js.length 9 j
theorem tailsL_len (js : List J) (E : List Ed) : (tailsL js E).length = js.length := by unfold tailsL; simp
end Go.Proofs.YtejgpecmjfgfbaaDoor
