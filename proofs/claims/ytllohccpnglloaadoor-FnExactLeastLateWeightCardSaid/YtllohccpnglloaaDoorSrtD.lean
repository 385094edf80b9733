/- Plain words for sorting by due order from the back. -/
import Derived.Test.YtllohccpnglloaaDoorDueP
import Derived.Test.YtllohccpnglloaaDoorSortM
namespace Go.Proofs.YtllohccpnglloaaDoor
theorem soon_asym {js : List J} {i k : Nat} (h : soonB js i k = true) : soonB js k i = false := by
  rw [cmpD_soon] at *
  have h1 := of_decide_eq_true h
  refine decide_eq_false ?_
  unfold cmpD at *
  split at h1 <;> split <;> first | omega | (split at h1 <;> split <;> omega)
def SoonL (js : List J) (l : List Nat) : Prop := l.Pairwise fun a b => soonB js a b = true
theorem insD_sorted {js : List J} {x : Nat} : ∀ {ys : List Nat}, SoonL js ys → x ∉ ys → SoonL js (insD js x ys)
  | [], _, _ => by unfold insD; exact List.pairwise_singleton _ _
  | y :: ys, h, hx => by
    obtain ⟨h1, h2⟩ := List.pairwise_cons.1 h
    unfold insD
    split
    · rename_i hy
      refine List.pairwise_cons.2 ⟨fun z hz => ?_, insD_sorted h2 (fun e => hx (List.mem_cons_of_mem _ e))⟩
      rcases List.mem_cons.1 ((insD_perm js x ys).mem_iff.1 hz) with e | e
      · rw [e]; exact hy
      · exact h1 z e
    · rename_i hy
      have hxy : soonB js x y = true := soon_total (fun e => hx (by rw [← e]; exact List.mem_cons_self)) (by simpa using hy)
      refine List.pairwise_cons.2 ⟨fun z hz => ?_, h⟩
      rcases List.mem_cons.1 hz with e | e
      · rw [e]; exact hxy
      · exact soon_trans hxy (h1 z e)
theorem dueTo_fresh {js : List J} {l : List Nat} (hd : l.Nodup) {k : Nat} (hk : k < l.length) : l[k] ∉ dueTo js l k := fun h => by
  have h1 := (dueTo_perm js l k (by omega)).mem_iff.1 h
  obtain ⟨i, hi, he⟩ := List.mem_iff_getElem.1 h1
  rw [List.getElem_take] at he
  rw [List.length_take] at hi
  have := (List.getElem_inj hd).1 he
  omega
theorem dueTo_sorted {js : List J} {l : List Nat} (hd : l.Nodup) : ∀ k, k ≤ l.length → SoonL js (dueTo js l k)
  | 0, _ => List.Pairwise.nil
  | k + 1, h => by
    have e : l.getD k 0 = l[k] := by simp [List.getD, show k < l.length by omega]
    unfold dueTo
    rw [e]
    exact insD_sorted (dueTo_sorted hd k (by omega)) (dueTo_fresh hd (by omega))
theorem dueTo_succ {js : List J} {l : List Nat} {k : Nat} (hk : k < l.length) : dueTo js l (k + 1) = insD js l[k] (dueTo js l k) := by
  have e : l.getD k 0 = l[k] := by simp [List.getD, hk]
  rw [← e]; rfl
theorem dueTo_one (js : List J) (q : List Nat) : dueTo js q 1 ++ q.drop 1 = q ∨ q = [] := by
  cases q with
  | nil => exact .inr rfl
  | cons x q => exact .inl rfl
/-- Put in from the back. -/
theorem insD_back {js : List J} {x : Nat} {out : List Nat} (hs : SoonL js out) (hx : x ∉ out) {j : Nat} (hj : j ≤ out.length) (h1 : ∀ h : 0 < j, soonB js x (out[j - 1]'(by omega)) = false) (h2 : ∀ i (h : i < out.length), j ≤ i → soonB js x out[i] = true) : insD js x out = out.take j ++ [x] ++ out.drop j := by
  refine insD_at js x out j hj (fun a ha => ?_) (fun h => soon_asym (h2 j h (Nat.le_refl _)))
  obtain ⟨i, hi, rfl⟩ := List.mem_iff_getElem.1 ha
  rw [List.length_take] at hi
  rw [List.getElem_take]
  have hj0 : 0 < j := by omega
  have hlast : soonB js (out[j - 1]'(by omega)) x = true := soon_total (fun e => hx (by rw [e]; exact List.getElem_mem _)) (h1 hj0)
  by_cases e : i = j - 1
  · subst e; exact hlast
  · exact soon_trans (List.pairwise_iff_getElem.1 hs i (j - 1) (by omega) (by omega) (by omega)) hlast
end Go.Proofs.YtllohccpnglloaaDoor
