/- Plain words for jobs sorted by rank, the greatest first. -/
import Derived.Test.YtpoibjmkbljblaaDoorKb2
namespace Go.Proofs.YtpoibjmkbljblaaDoor
/-- What is compared: ranks, then numbers. -/
def cmpJ (rk : Nat → Int) (i k : Nat) : Int := if rk k - rk i ≠ 0 then rk k - rk i else (i : Int) - k
def fB (rk : Nat → Int) (i k : Nat) : Bool := decide (cmpJ rk i k < 0)
theorem fB_low (rk : Nat → Int) {i k : Nat} (h : k < i) : fB rk i k = decide (rk k - rk i < 0) := by
  unfold fB cmpJ
  rw [Bool.eq_iff_iff, decide_eq_true_iff, decide_eq_true_iff]
  split <;> omega
theorem fB_up (rk : Nat → Int) {i k : Nat} (h : i < k) : fB rk i k = decide (rk k ≤ rk i) := by
  unfold fB cmpJ
  rw [Bool.eq_iff_iff, decide_eq_true_iff, decide_eq_true_iff]
  split <;> omega
theorem fJ_total {rk : Nat → Int} {i k : Nat} (h : i ≠ k) (h1 : fB rk i k = false) : fB rk k i = true := by
  have h2 := of_decide_eq_false h1
  refine decide_eq_true ?_
  unfold cmpJ at *
  split at h2 <;> split <;> omega
theorem fJ_trans {rk : Nat → Int} {i k m : Nat} (h1 : fB rk i k = true) (h2 : fB rk k m = true) : fB rk i m = true := by
  have h1 := of_decide_eq_true h1
  have h2 := of_decide_eq_true h2
  refine decide_eq_true ?_
  unfold cmpJ at *
  split at h1 <;> split at h2 <;> split <;> omega
theorem fJ_asym {rk : Nat → Int} {i k : Nat} (h : fB rk i k = true) : fB rk k i = false := by
  have h1 := of_decide_eq_true h
  refine decide_eq_false ?_
  unfold cmpJ at *
  split at h1 <;> split <;> omega
/-- A job put behind all that come before it. -/
def insJ (rk : Nat → Int) (x : Nat) : List Nat → List Nat
  | [] => [x]
  | y :: ys => if fB rk y x then y :: insJ rk x ys else x :: y :: ys
def joTo (rk : Nat → Int) (l : List Nat) : Nat → List Nat
  | 0 => []
  | k + 1 => insJ rk (l.getD k 0) (joTo rk l k)
def joL (rk : Nat → Int) (l : List Nat) : List Nat := joTo rk l l.length
theorem insJ_perm (rk : Nat → Int) (x : Nat) : ∀ ys : List Nat, (insJ rk x ys).Perm (x :: ys)
  | [] => List.Perm.refl _
  | y :: ys => by
    unfold insJ
    split
    · exact ((insJ_perm rk x ys).cons y).trans (List.Perm.swap x y ys)
    · exact List.Perm.refl _
theorem insJ_at (rk : Nat → Int) (x : Nat) : ∀ (ys : List Nat) (k : Nat), k ≤ ys.length → (∀ a ∈ ys.take k, fB rk a x = true) → (∀ h : k < ys.length, fB rk ys[k] x = false) → insJ rk x ys = ys.take k ++ [x] ++ ys.drop k
  | [], k, _, _, _ => by simp [insJ]
  | y :: ys, 0, _, _, h => by
    have := h (by simp)
    simp only [List.getElem_cons_zero] at this
    unfold insJ
    rw [this]
    rfl
  | y :: ys, k + 1, hk, h1, h2 => by
    have hy : fB rk y x = true := h1 y (by simp)
    unfold insJ
    rw [if_pos hy, insJ_at rk x ys k (by simpa using hk) (fun a ha => h1 a (by simp [ha])) (fun h => by have := h2 (by simpa using h); simpa using this)]
    simp
theorem joTo_len (rk : Nat → Int) (l : List Nat) : ∀ k, (joTo rk l k).length = k
  | 0 => rfl
  | k + 1 => by
    have := (insJ_perm rk (l.getD k 0) (joTo rk l k)).length_eq
    unfold joTo
    rw [this, List.length_cons, joTo_len rk l k]
theorem joTo_perm (rk : Nat → Int) (l : List Nat) : ∀ k, k ≤ l.length → (joTo rk l k).Perm (l.take k)
  | 0, _ => by simp [joTo]
  | k + 1, h => by
    have e : l.take (k + 1) = l.take k ++ [l.getD k 0] := by
      rw [List.take_succ_eq_append_getElem (by omega)]
      congr 2
      simp [List.getD, show k < l.length by omega]
    unfold joTo
    rw [e]
    exact ((insJ_perm rk _ _).trans ((joTo_perm rk l k (by omega)).cons _)).trans (List.perm_append_singleton _ _).symm
theorem joTo_mem {rk : Nat → Int} {l : List Nat} {k x : Nat} (hk : k ≤ l.length) (h : x ∈ joTo rk l k) : x ∈ l := List.mem_of_mem_take ((joTo_perm rk l k hk).mem_iff.1 h)
theorem joL_perm (rk : Nat → Int) (l : List Nat) : (joL rk l).Perm l := by
  have := joTo_perm rk l l.length (Nat.le_refl _)
  rwa [List.take_length] at this
theorem joL_len (rk : Nat → Int) (l : List Nat) : (joL rk l).length = l.length := joTo_len _ _ _
def FirL (rk : Nat → Int) (l : List Nat) : Prop := l.Pairwise fun a b => fB rk a b = true
theorem insJ_sorted {rk : Nat → Int} {x : Nat} : ∀ {ys : List Nat}, FirL rk ys → x ∉ ys → FirL rk (insJ rk x ys)
  | [], _, _ => by unfold insJ; exact List.pairwise_singleton _ _
  | y :: ys, h, hx => by
    obtain ⟨h1, h2⟩ := List.pairwise_cons.1 h
    unfold insJ
    split
    · rename_i hy
      refine List.pairwise_cons.2 ⟨fun z hz => ?_, insJ_sorted h2 (fun e => hx (List.mem_cons_of_mem _ e))⟩
      rcases List.mem_cons.1 ((insJ_perm rk x ys).mem_iff.1 hz) with e | e
      · rw [e]; exact hy
      · exact h1 z e
    · rename_i hy
      have hxy : fB rk x y = true := fJ_total (fun e => hx (by rw [← e]; exact List.mem_cons_self)) (by simpa using hy)
      refine List.pairwise_cons.2 ⟨fun z hz => ?_, h⟩
      rcases List.mem_cons.1 hz with e | e
      · rw [e]; exact hxy
      · exact fJ_trans hxy (h1 z e)
theorem joTo_fresh {rk : Nat → Int} {l : List Nat} (hd : l.Nodup) {k : Nat} (hk : k < l.length) : l[k] ∉ joTo rk l k := fun h => by
  have h1 := (joTo_perm rk l k (by omega)).mem_iff.1 h
  obtain ⟨i, hi, he⟩ := List.mem_iff_getElem.1 h1
  rw [List.getElem_take] at he
  rw [List.length_take] at hi
  have := (List.getElem_inj hd).1 he
  omega
theorem joTo_sorted {rk : Nat → Int} {l : List Nat} (hd : l.Nodup) : ∀ k, k ≤ l.length → FirL rk (joTo rk l k)
  | 0, _ => List.Pairwise.nil
  | k + 1, h => by
    have e : l.getD k 0 = l[k] := by simp [List.getD, show k < l.length by omega]
    unfold joTo
    rw [e]
    exact insJ_sorted (joTo_sorted hd k (by omega)) (joTo_fresh hd (by omega))
theorem joTo_succ {rk : Nat → Int} {l : List Nat} {k : Nat} (hk : k < l.length) : joTo rk l (k + 1) = insJ rk l[k] (joTo rk l k) := by
  have e : l.getD k 0 = l[k] := by simp [List.getD, hk]
  rw [← e]; rfl
theorem joTo_one (rk : Nat → Int) (q : List Nat) : joTo rk q 1 ++ q.drop 1 = q ∨ q = [] := by
  cases q with
  | nil => exact .inr rfl
  | cons x q => exact .inl rfl
/-- Put in from the back. -/
theorem insJ_back {rk : Nat → Int} {x : Nat} {out : List Nat} (hs : FirL rk out) (hx : x ∉ out) {j : Nat} (hj : j ≤ out.length) (h1 : ∀ h : 0 < j, fB rk x (out[j - 1]'(by omega)) = false) (h2 : ∀ i (h : i < out.length), j ≤ i → fB rk x out[i] = true) : insJ rk x out = out.take j ++ [x] ++ out.drop j := by
  refine insJ_at rk x out j hj (fun a ha => ?_) (fun h => fJ_asym (h2 j h (Nat.le_refl _)))
  obtain ⟨i, hi, rfl⟩ := List.mem_iff_getElem.1 ha
  rw [List.length_take] at hi
  rw [List.getElem_take]
  have hj0 : 0 < j := by omega
  have hlast : fB rk (out[j - 1]'(by omega)) x = true := fJ_total (fun e => hx (by rw [e]; exact List.getElem_mem _)) (h1 hj0)
  by_cases e : i = j - 1
  · subst e; exact hlast
  · exact fJ_trans (List.pairwise_iff_getElem.1 hs i (j - 1) (by omega) (by omega) (by omega)) hlast
end Go.Proofs.YtpoibjmkbljblaaDoor
