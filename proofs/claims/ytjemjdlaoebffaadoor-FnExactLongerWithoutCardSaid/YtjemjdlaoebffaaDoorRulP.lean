/- Plain words for rules by exchange: rule differences, ruled orders, groups, inversions. -/
import Derived.Test.YtjemjdlaoebffaaDoorIdleP
namespace Go.Proofs.YtjemjdlaoebffaaDoor

/-- The rule difference of two jobs. -/
def gapJ (ob : Int) (x y : J) : Int := if ob = 1 then x.r - y.r else if ob = 2 then x.t - y.t else if ob = 3 then x.t * y.w - y.t * x.w else x.d - y.d
def gapN (ob : Int) (js : List J) (i k : Nat) : Int := gapJ ob (js.getD i j0) (js.getD k j0)
theorem gapJ_anti (ob : Int) (x y : J) : gapJ ob y x = - gapJ ob x y := by
  unfold gapJ
  split
  · omega
  · split
    · omega
    · split
      · rw [Int.neg_sub]
      · omega
theorem gapN_anti (ob : Int) (js : List J) (i k : Nat) : gapN ob js k i = - gapN ob js i k := gapJ_anti ob _ _
theorem gapN_self (ob : Int) (js : List J) (i : Nat) : gapN ob js i i = 0 := by
  have := gapN_anti ob js i i
  omega
theorem ratio_trans {a b c x y z : Int} (ha : 1 ≤ a) (hb : 1 ≤ b) (hc : 1 ≤ c) (h1 : a * y ≤ b * x) (h2 : b * z ≤ c * y) : a * z ≤ c * x := by
  have e1 : a * y * c ≤ b * x * c := Int.mul_le_mul_of_nonneg_right h1 (by omega)
  have e2 : b * z * a ≤ c * y * a := Int.mul_le_mul_of_nonneg_right h2 (by omega)
  have e3 : b * (a * z) ≤ b * (c * x) := by
    have i1 : b * (a * z) = b * z * a := by rw [Int.mul_assoc, Int.mul_comm z a]
    have i2 : c * y * a = a * y * c := by rw [Int.mul_comm (c * y) a, Int.mul_comm c y, ← Int.mul_assoc]
    have i3 : b * x * c = b * (c * x) := by rw [Int.mul_assoc, Int.mul_comm x c]
    omega
  exact Int.le_of_mul_le_mul_left e3 (by omega)
theorem gapJ_trans {ob : Int} {x y z : J} (hx : okJ x = true) (hy : okJ y = true) (hz : okJ z = true) (h1 : gapJ ob x y ≤ 0) (h2 : gapJ ob y z ≤ 0) : gapJ ob x z ≤ 0 := by
  obtain ⟨a, _⟩ := okJ_out hx
  obtain ⟨b, _⟩ := okJ_out hy
  obtain ⟨c, _⟩ := okJ_out hz
  unfold gapJ at *
  split at h1
  · rw [if_pos ‹_›] at h2; omega
  · rw [if_neg ‹_›] at h2
    split at h1
    · rw [if_pos ‹_›] at h2; omega
    · rw [if_neg ‹_›] at h2
      split at h1
      · rw [if_pos ‹_›] at h2
        have := ratio_trans a b c (show x.t * y.w ≤ y.t * x.w by omega) (show y.t * z.w ≤ z.t * y.w by omega)
        omega
      · rw [if_neg ‹_›] at h2; omega
theorem mul50 {a b : Int} (h0 : 0 ≤ a) (h1 : a ≤ 50) (h2 : 0 ≤ b) (h3 : b ≤ 50) : 0 ≤ a * b ∧ a * b ≤ 2500 :=
  ⟨Int.mul_nonneg h0 h2, by
    have := Int.mul_le_mul h1 h3 h2 (by omega)
    omega⟩
theorem gapJ_bd {ob : Int} {x y : J} (hx : okJ x = true) (hy : okJ y = true) : -2500 ≤ gapJ ob x y ∧ gapJ ob x y ≤ 2500 := by
  obtain ⟨a1, a2, a3, a4, a5, a6, a7, a8⟩ := okJ_out hx
  obtain ⟨b1, b2, b3, b4, b5, b6, b7, b8⟩ := okJ_out hy
  have h1 := mul50 (by omega) a2 b3 b4
  have h2 := mul50 (by omega) b2 a3 a4
  unfold gapJ
  split
  · omega
  · split
    · omega
    · split <;> omega
section
variable (ob : Int) (js : List J)
/-- A job is put behind all that are not to come behind it. -/
def insN (x : Nat) : List Nat → List Nat
  | [] => [x]
  | y :: ys => if gapN ob js y x ≤ 0 then y :: insN x ys else x :: y :: ys
/-- The ruled order of the first k jobs. -/
def ruledTo : Nat → List Nat
  | 0 => []
  | k + 1 => insN ob js k (ruledTo k)
def ruledL : List Nat := ruledTo ob js js.length
theorem insN_at (x : Nat) : ∀ (ys : List Nat) (k : Nat), k ≤ ys.length → (∀ a ∈ ys.take k, gapN ob js a x ≤ 0) → (∀ h : k < ys.length, 0 < gapN ob js ys[k] x) → insN ob js x ys = ys.take k ++ x :: ys.drop k
  | [], k, _, _, _ => by simp [insN]
  | y :: ys, 0, _, _, h => by
    have := h (by simp)
    simp only [List.getElem_cons_zero] at this
    unfold insN
    rw [if_neg (by omega)]
    rfl
  | y :: ys, k + 1, hk, h1, h2 => by
    unfold insN
    rw [if_pos (h1 y (by simp))]
    rw [insN_at x ys k (by simpa using hk) (fun a ha => h1 a (by simp [ha])) (fun h => by have := h2 (by simpa using h); simpa using this)]
    rfl
theorem insN_perm (x : Nat) : ∀ ys : List Nat, (insN ob js x ys).Perm (x :: ys)
  | [] => List.Perm.refl _
  | y :: ys => by
    unfold insN
    split
    · exact ((insN_perm x ys).cons y).trans (List.Perm.swap x y ys)
    · exact List.Perm.refl _
theorem insN_len (x : Nat) (ys : List Nat) : (insN ob js x ys).length = ys.length + 1 := (insN_perm ob js x ys).length_eq
theorem ruledTo_perm : ∀ k, (ruledTo ob js k).Perm (List.range k)
  | 0 => List.Perm.refl _
  | k + 1 => by
    show (insN ob js k (ruledTo ob js k)).Perm _
    rw [List.range_succ]
    exact (insN_perm ob js k _).trans (((ruledTo_perm k).cons k).trans (List.perm_append_comm (l₁ := [k])))
theorem ruledTo_len (k : Nat) : (ruledTo ob js k).length = k := by have := (ruledTo_perm ob js k).length_eq; simpa using this
theorem ruledTo_lt {k a : Nat} (h : a ∈ ruledTo ob js k) : a < k := List.mem_range.1 ((ruledTo_perm ob js k).mem_iff.1 h)
theorem ruledL_perm : (ruledL ob js).Perm (List.range js.length) := ruledTo_perm ob js _
theorem ruledL_len : (ruledL ob js).length = js.length := ruledTo_len ob js _
def SortedN (ys : List Nat) : Prop := ys.Pairwise fun a b => gapN ob js a b ≤ 0
end
section
variable {ob : Int} {js : List J}
theorem gapN_trans (hg : ∀ j ∈ js, okJ j = true) {a b c : Nat} (ha : a < js.length) (hb : b < js.length) (hc : c < js.length) (h1 : gapN ob js a b ≤ 0) (h2 : gapN ob js b c ≤ 0) : gapN ob js a c ≤ 0 :=
  gapJ_trans (getD_ok hg ha) (getD_ok hg hb) (getD_ok hg hc) h1 h2
theorem insN_sorted (hg : ∀ j ∈ js, okJ j = true) {x : Nat} (hx : x < js.length) : ∀ {ys : List Nat}, (∀ a ∈ ys, a < js.length) → SortedN ob js ys → SortedN ob js (insN ob js x ys)
  | [], _, _ => by simp [insN, SortedN]
  | y :: ys, hl, hs => by
    obtain ⟨h1, h2⟩ := List.pairwise_cons.1 hs
    unfold insN
    split
    · rename_i hyx
      refine List.pairwise_cons.2 ⟨fun a ha => ?_, insN_sorted hg hx (fun a ha => hl a (List.mem_cons_of_mem _ ha)) h2⟩
      rcases List.mem_cons.1 ((insN_perm ob js x ys).mem_iff.1 ha) with h | h
      · subst h; exact hyx
      · exact h1 a h
    · rename_i hyx
      have hxy : gapN ob js x y ≤ 0 := by have := gapN_anti ob js x y; omega
      refine List.pairwise_cons.2 ⟨fun a ha => ?_, hs⟩
      rcases List.mem_cons.1 ha with h | h
      · subst h; exact hxy
      · exact gapN_trans hg hx (hl y List.mem_cons_self) (hl a (List.mem_cons_of_mem _ h)) hxy (h1 a h)
theorem ruledTo_sorted (hg : ∀ j ∈ js, okJ j = true) : ∀ k, k ≤ js.length → SortedN ob js (ruledTo ob js k)
  | 0, _ => List.Pairwise.nil
  | k + 1, h => insN_sorted hg (by omega) (fun a ha => by have := ruledTo_lt ob js ha; omega) (ruledTo_sorted hg k (by omega))
theorem ruledL_sorted (hg : ∀ j ∈ js, okJ j = true) : SortedN ob js (ruledL ob js) := ruledTo_sorted hg _ (Nat.le_refl _)
/-- In a sorted list it is enough to look at the one before. -/
theorem insN_back (hg : ∀ j ∈ js, okJ j = true) {x : Nat} (hx : x < js.length) {ys : List Nat} (hl : ∀ a ∈ ys, a < js.length) (hs : SortedN ob js ys) {k : Nat} (hk : k ≤ ys.length) (h1 : ∀ h : 0 < k, gapN ob js (ys[k - 1]'(by omega)) x ≤ 0) (h2 : ∀ i (h : i < ys.length), k ≤ i → 0 < gapN ob js ys[i] x) : insN ob js x ys = ys.take k ++ x :: ys.drop k := by
  refine insN_at ob js x ys k hk (fun a ha => ?_) (fun h => h2 k h (Nat.le_refl _))
  obtain ⟨i, hi, rfl⟩ := List.getElem_of_mem ha
  have hik : i < k := by simp at hi; omega
  rw [List.getElem_take]
  have hlast := h1 (by omega)
  by_cases e : i = k - 1
  · subst e; exact hlast
  · have hp := List.pairwise_iff_getElem.1 hs i (k - 1) (by omega) (by omega) (by omega)
    exact gapN_trans hg (hl _ (List.getElem_mem _)) (hl _ (List.getElem_mem _)) hx hp hlast
end
/-- Whether all releases are 0. -/
def plain0 (js : List J) : Bool := js.all fun j => decide (j.r = 0)
def plainL (js : List J) : Bool := goodL js && plain0 js
def isRule (o : Int) : Bool := decide (1 ≤ o ∧ o ≤ 4)
def ruledB (js : List J) (o : Int) : Bool := goodL js && (isRule o && (decide (o = 1) || plain0 js))
theorem ruled_good {js : List J} {o : Int} (h : ruledB js o = true) : goodL js = true := by
  unfold ruledB at h; simp only [Bool.and_eq_true] at h; exact h.1
theorem plain_good {js : List J} (h : plainL js = true) : goodL js = true := by
  unfold plainL at h; simp only [Bool.and_eq_true] at h; exact h.1
theorem plain0_out {js : List J} (h : plain0 js = true) : ∀ j ∈ js, j.r = 0 := fun j hj => by
  have := List.all_eq_true.1 h j hj
  exact of_decide_eq_true this
theorem plain_ruled {js : List J} (h : plainL js = true) {o : Int} (ho : isRule o = true) : ruledB js o = true := by
  unfold plainL at h; simp only [Bool.and_eq_true] at h
  unfold ruledB; simp [h.1, h.2, ho]
end Go.Proofs.YtjemjdlaoebffaaDoor
