/- Texts joined: LateP LeftP Rule RuleS Wrong SortP WrongO LateA LateW OrdS Put. -/
import Derived.Test.YtpoibjmkbljblaaDoorRulP
import Derived.Test.YtpoibjmkbljblaaDoorKb1
import Derived.Test.YtpoibjmkbljblaaDoorEndsO
import Derived.IntWalk
import Derived.RegionTactic
import Derived.BigRegion
import Derived.Test.YtpoibjmkbljblaaDoorGrpP
import Derived.Test.YtpoibjmkbljblaaDoorOrd
import Derived.Test.YtpoibjmkbljblaaDoorRetBB
import Derived.Test.YtpoibjmkbljblaaDoorKb2
import Derived.Deep.QuietTactic
import Derived.BigQuiet
import Derived.Deep.RegionLaw
import Derived.Deep.RegionWith
set_option linter.unusedSimpArgs false
set_option linter.unusedVariables false
section
namespace Go.Proofs.YtpoibjmkbljblaaDoor
/-- What the late rule has done: the jobs that are left, those that were dropped, the steps. -/
structure LR where
  left : List Nat
  drop : List Nat
  steps : List (Int × Int)
def timeN (js : List J) (j : Nat) : Int := (js.getD j j0).t
/-- The first one of the longest jobs among the first k of a list. -/
def longTo (js : List J) (l : List Nat) : Nat → Nat
  | 0 => 0
  | k + 1 => if timeN js (l.getD (longTo js l k) 0) < timeN js (l.getD k 0) then k else longTo js l k
theorem longTo_lt (js : List J) (l : List Nat) : ∀ k, longTo js l k ≤ k - 1
  | 0 => Nat.le_refl _
  | k + 1 => by
    unfold longTo
    split
    · omega
    · have := longTo_lt js l k; omega
theorem longTo_one (js : List J) (l : List Nat) : longTo js l 1 = 0 := by
  unfold longTo
  split <;> rfl
def longL (js : List J) (l : List Nat) : Nat := longTo js l l.length
theorem longL_lt (js : List J) {l : List Nat} (h : 0 < l.length) : longL js l < l.length := by
  have := longTo_lt js l l.length
  unfold longL
  omega
def overB (js : List J) (l : List Nat) (x : Nat) : Bool := decide ((js.getD x j0).d < timesOf js l)
def lateStep (js : List J) (s : LR) (x : Nat) : LR :=
  if overB js (s.left ++ [x]) x then ⟨(s.left ++ [x]).eraseIdx (longL js (s.left ++ [x])), s.drop ++ [(s.left ++ [x]).getD (longL js (s.left ++ [x])) 0], s.steps ++ [((x : Int), (((s.left ++ [x]).getD (longL js (s.left ++ [x])) 0 : Nat) : Int))]⟩
  else ⟨s.left ++ [x], s.drop, s.steps ++ [((x : Int), -1)]⟩
def lateGo (js : List J) (k : Nat) : LR := ((ruledL 4 js).take k).foldl (lateStep js) ⟨[], [], []⟩
theorem lateGo_zero (js : List J) : lateGo js 0 = ⟨[], [], []⟩ := rfl
theorem lateGo_succ (js : List J) (k : Nat) (h : k < (ruledL 4 js).length) : lateGo js (k + 1) = lateStep js (lateGo js k) (ruledL 4 js)[k] := by
  unfold lateGo
  rw [List.take_succ_eq_append_getElem h, List.foldl_append]; rfl
theorem times_snoc (js : List J) (l : List Nat) (x : Nat) : timesOf js (l ++ [x]) = timesOf js l + timeN js x := by
  unfold timesOf timeN; simp
theorem getD_mem {l : List Nat} {i : Nat} (h : i < l.length) : l.getD i 0 ∈ l := by rw [getD_at l 0 h]; exact List.getElem_mem _
theorem erase_perm {l : List Nat} {i : Nat} (h : i < l.length) : (l.getD i 0 :: l.eraseIdx i).Perm l := by
  rw [getD_at l 0 h, List.eraseIdx_eq_take_drop_succ]
  have h1 : l = l.take i ++ l[i] :: l.drop (i + 1) := by rw [← List.drop_eq_getElem_cons h, List.take_append_drop]
  conv => rhs; rw [h1]
  exact List.perm_middle.symm
theorem times_erase (js : List J) {l : List Nat} {i : Nat} (h : i < l.length) : timesOf js (l.eraseIdx i) = timesOf js l - timeN js (l.getD i 0) := by
  have := sum_perm ((erase_perm h).map fun j => (js.getD j j0).t)
  unfold timesOf timeN
  simp only [List.map_cons, List.sum_cons] at this
  omega
theorem lateStep_perm (js : List J) (s : LR) (x : Nat) : ((lateStep js s x).left ++ (lateStep js s x).drop).Perm (s.left ++ s.drop ++ [x]) := by
  unfold lateStep
  split
  · simp only
    have hl : longL js (s.left ++ [x]) < (s.left ++ [x]).length := longL_lt js (by simp)
    have h1 := erase_perm hl
    have h2 : (((s.left ++ [x]).eraseIdx (longL js (s.left ++ [x]))) ++ (s.drop ++ [(s.left ++ [x]).getD (longL js (s.left ++ [x])) 0])).Perm (((s.left ++ [x]).getD (longL js (s.left ++ [x])) 0 :: (s.left ++ [x]).eraseIdx (longL js (s.left ++ [x]))) ++ s.drop) := by
      rw [← List.append_assoc]
      refine (List.perm_append_comm (l₁ := _ ++ s.drop)).trans ?_
      simp
    refine h2.trans ((h1.append_right s.drop).trans ?_)
    rw [List.append_assoc, List.append_assoc]
    exact List.Perm.append_left _ List.perm_append_comm
  · simp only
    rw [List.append_assoc, List.append_assoc]
    exact List.Perm.append_left _ List.perm_append_comm
theorem lateGo_perm (js : List J) : ∀ k, k ≤ (ruledL 4 js).length → ((lateGo js k).left ++ (lateGo js k).drop).Perm ((ruledL 4 js).take k)
  | 0, _ => by simp [lateGo_zero]
  | k + 1, h => by
    rw [lateGo_succ js k (by omega), List.take_succ_eq_append_getElem (by omega)]
    exact (lateStep_perm js _ _).trans ((lateGo_perm js k (by omega)).append_right _)
theorem lateGo_steps (js : List J) : ∀ k, k ≤ (ruledL 4 js).length → (lateGo js k).steps.length = k ∧ (lateGo js k).left.length + (lateGo js k).drop.length = k
  | 0, _ => by simp [lateGo_zero]
  | k + 1, h => by
    have ih := lateGo_steps js k (by omega)
    have hp := (lateGo_perm js (k + 1) h).length_eq
    simp only [List.length_append, List.length_take] at hp
    refine ⟨?_, by omega⟩
    rw [lateGo_succ js k (by omega)]
    unfold lateStep
    split <;> simp [ih.1]
theorem lateGo_lt (js : List J) {k : Nat} (h : k ≤ (ruledL 4 js).length) {x : Nat} (hx : x ∈ (lateGo js k).left) : x < js.length :=
  ruledTo_lt 4 js (List.mem_of_mem_take ((lateGo_perm js k h).mem_iff.1 (List.mem_append_left _ hx)))
/-- The order of the late rule. -/
def lateRestTo (l : List Nat) (k : Nat) : List Nat := (List.range k).filter fun i => decide (i ∉ l)
def lateRuleL (js : List J) : List Nat := (lateGo js js.length).left ++ lateRestTo (lateGo js js.length).left js.length
theorem lateRest_succ (l : List Nat) (k : Nat) : lateRestTo l (k + 1) = if k ∈ l then lateRestTo l k else lateRestTo l k ++ [k] := by
  unfold lateRestTo
  rw [List.range_succ, List.filter_append]
  by_cases h : k ∈ l
  · rw [if_pos h, List.filter_cons, if_neg (by simpa using h)]; simp
  · rw [if_neg h, List.filter_cons, if_pos (by simpa using h)]; simp
theorem late_drop_iff (js : List J) {i : Nat} (hi : i < js.length) : i ∈ (lateGo js js.length).drop ↔ i ∉ (lateGo js js.length).left := by
  have hl := ruledL_len 4 js
  have hp := lateGo_perm js js.length (by omega)
  rw [List.take_of_length_le (by omega)] at hp
  have hp2 := hp.trans (ruledL_perm 4 js)
  have hd := hp2.nodup_iff.2 List.nodup_range
  rw [List.nodup_append] at hd
  constructor
  · intro h1 h2
    exact hd.2.2 i h2 i h1 rfl
  · intro h
    have := hp2.mem_iff.2 (List.mem_range.2 hi)
    rcases List.mem_append.1 this with h' | h'
    · exact absurd h' h
    · exact h'
end Go.Proofs.YtpoibjmkbljblaaDoor

end
section
namespace Go.Proofs.YtpoibjmkbljblaaDoor
def StrictN (l : List Nat) : Prop := l.Pairwise (· < ·)
theorem strict_ext : ∀ {l l' : List Nat}, StrictN l → StrictN l' → (∀ x, x ∈ l ↔ x ∈ l') → l = l'
  | [], [], _, _, _ => rfl
  | [], y :: l', _, _, h => absurd ((h y).2 List.mem_cons_self) (by simp)
  | x :: l, [], _, _, h => absurd ((h x).1 List.mem_cons_self) (by simp)
  | x :: l, y :: l', h1, h2, h => by
    obtain ⟨a1, a2⟩ := List.pairwise_cons.1 h1
    obtain ⟨b1, b2⟩ := List.pairwise_cons.1 h2
    have e : x = y := by
      rcases List.mem_cons.1 ((h x).1 List.mem_cons_self) with e | e
      · exact e
      · rcases List.mem_cons.1 ((h y).2 List.mem_cons_self) with e' | e'
        · exact e'.symm
        · have := b1 x e; have := a1 y e'; omega
    subst e
    have : l = l' := strict_ext a2 b2 fun z => by
      constructor
      · intro hz
        rcases List.mem_cons.1 ((h z).1 (List.mem_cons_of_mem _ hz)) with e | e
        · have := a1 z hz; omega
        · exact e
      · intro hz
        rcases List.mem_cons.1 ((h z).2 (List.mem_cons_of_mem _ hz)) with e | e
        · have := b1 z hz; omega
        · exact e
    rw [this]
/-- How many numbers of the beginning are less. -/
def lessTo (x : Nat) : List Nat → Nat
  | [] => 0
  | y :: ys => if y < x then lessTo x ys + 1 else 0
/-- A number put to its place, once. -/
def putN (x : Nat) (l : List Nat) : List Nat := if l.contains x then l else l.take (lessTo x l) ++ x :: l.drop (lessTo x l)
theorem lessTo_le (x : Nat) : ∀ l : List Nat, lessTo x l ≤ l.length
  | [] => Nat.le_refl _
  | y :: l => by unfold lessTo; split <;> have := lessTo_le x l <;> simp <;> omega
theorem lessTo_at {x : Nat} : ∀ {l : List Nat} {k : Nat} (h : k < l.length), k < lessTo x l → l[k] < x
  | y :: l, 0, _, h => by
    unfold lessTo at h
    split at h
    · assumption
    · omega
  | y :: l, k + 1, hk, h => by
    unfold lessTo at h
    split at h
    · exact lessTo_at (l := l) (by simpa using hk) (by omega)
    · omega
theorem lessTo_stop {x : Nat} : ∀ {l : List Nat} (h : lessTo x l < l.length), x ≤ l[lessTo x l]
  | y :: l, h => by
    by_cases e : y < x
    · have e1 : lessTo x (y :: l) = lessTo x l + 1 := by rw [lessTo, if_pos e]
      simp only [e1] at h ⊢
      exact lessTo_stop (l := l) (by simpa using h)
    · have e1 : lessTo x (y :: l) = 0 := by rw [lessTo, if_neg e]
      simp only [e1]
      simpa using e
theorem lessTo_next {x : Nat} {l : List Nat} {k : Nat} (h : k ≤ lessTo x l) (hk : k < l.length) : (l[k] < x ↔ k < lessTo x l) := by
  constructor
  · intro hx
    by_cases e : k = lessTo x l
    · subst e; have := lessTo_stop hk; omega
    · omega
  · exact lessTo_at hk
theorem putN_mem {x y : Nat} {l : List Nat} : y ∈ putN x l ↔ y = x ∨ y ∈ l := by
  unfold putN
  split
  · rename_i h
    have hx : x ∈ l := by simpa using h
    constructor
    · exact .inr
    · rintro (rfl | h')
      · exact hx
      · exact h'
  · rw [List.mem_append, List.mem_cons]
    conv => rhs; rw [← List.take_append_drop (lessTo x l) l, List.mem_append]
    constructor
    · rintro (h | h | h)
      · exact .inr (.inl h)
      · exact .inl h
      · exact .inr (.inr h)
    · rintro (h | h | h)
      · exact .inr (.inl h)
      · exact .inl h
      · exact .inr (.inr h)
theorem strict_get {l : List Nat} (h : StrictN l) {i j : Nat} (hi : i < j) (hj : j < l.length) : l[i]'(by omega) < l[j] := List.pairwise_iff_getElem.1 h i j (by omega) hj hi
theorem putN_strict {x : Nat} {l : List Nat} (h : StrictN l) : StrictN (putN x l) := by
  unfold putN
  split
  · exact h
  · rename_i hc
    have hx : x ∉ l := by simpa using hc
    have hle := lessTo_le x l
    unfold StrictN
    rw [List.pairwise_append]
    refine ⟨h.sublist (List.take_sublist _ _), ?_, ?_⟩
    · rw [List.pairwise_cons]
      refine ⟨fun a ha => ?_, h.sublist (List.drop_sublist _ _)⟩
      obtain ⟨i, hi, rfl⟩ := List.getElem_of_mem ha
      rw [List.getElem_drop]
      have hlt : lessTo x l < l.length := by simp at hi; omega
      have h1 := lessTo_stop hlt
      have hne : l[lessTo x l] ≠ x := fun e => hx (e ▸ List.getElem_mem _)
      have hb : lessTo x l + i < l.length := by simp at hi; omega
      by_cases e : i = 0
      · subst e; simp only [Nat.add_zero]; omega
      · have := strict_get h (i := lessTo x l) (j := lessTo x l + i) (by omega) hb
        omega
    · intro a ha b hb
      obtain ⟨i, hi, rfl⟩ := List.getElem_of_mem ha
      have hi' : i < lessTo x l := by simp at hi; omega
      have hil : i < l.length := by omega
      rw [List.getElem_take]
      have h1 := lessTo_at hil hi'
      rcases List.mem_cons.1 hb with rfl | hb
      · exact h1
      · obtain ⟨k, hk, rfl⟩ := List.getElem_of_mem hb
        rw [List.getElem_drop]
        exact strict_get h (by omega) (by simp at hk; omega)
theorem put_found {x : Nat} {l : List Nat} (h : lessTo x l < l.length) (e : l[lessTo x l] = x) : putN x l = l := by
  unfold putN
  rw [if_pos (by rw [List.contains_iff_mem]; rw [← e]; exact List.getElem_mem _)]
theorem put_not {x : Nat} {l : List Nat} (hs : StrictN l) (h : ∀ hk : lessTo x l < l.length, l[lessTo x l] ≠ x) : putN x l = l.take (lessTo x l) ++ x :: l.drop (lessTo x l) := by
  unfold putN
  rw [if_neg]
  rw [List.contains_iff_mem]
  intro hx
  obtain ⟨j, hj, e⟩ := List.getElem_of_mem hx
  by_cases hjk : j < lessTo x l
  · have := lessTo_at hj hjk; omega
  · have hk : lessTo x l < l.length := by omega
    have h1 := lessTo_stop hk
    have h2 := h hk
    by_cases hjk2 : j = lessTo x l
    · subst hjk2; exact h2 e
    · have := strict_get hs (i := lessTo x l) (j := j) (by omega) hj; omega
theorem put_len (x : Nat) (l : List Nat) : (putN x l).length ≤ l.length + 1 := by
  unfold putN
  split
  · omega
  · simp; omega
/-- A number taken out. -/
def outN (x : Int) (l : List Nat) : List Nat := l.filter fun (y : Nat) => decide ((y : Int) ≠ x)
theorem outN_mem {x : Int} {y : Nat} {l : List Nat} : y ∈ outN x l ↔ y ∈ l ∧ (y : Int) ≠ x := by unfold outN; simp
theorem outN_strict {x : Int} {l : List Nat} (h : StrictN l) : StrictN (outN x l) := h.filter _
theorem outN_none {x : Int} {l : List Nat} (h : ∀ y ∈ l, ((y : Nat) : Int) ≠ x) : outN x l = l := by
  unfold outN; rw [List.filter_eq_self]; intro y hy; simpa using h y hy
/-- Taking out by the place. -/
theorem outN_erase {l : List Nat} (h : StrictN l) {i : Nat} (hi : i < l.length) : outN (l[i] : Int) l = l.eraseIdx i := by
  refine strict_ext (outN_strict h) (h.sublist (List.eraseIdx_sublist _ _)) fun y => ?_
  rw [outN_mem]
  constructor
  · rintro ⟨h1, h2⟩
    obtain ⟨k, hk, rfl⟩ := List.getElem_of_mem h1
    have hki : k ≠ i := by rintro rfl; exact h2 rfl
    exact List.mem_eraseIdx_iff_getElem.2 ⟨k, hk, hki, rfl⟩
  · intro hy
    obtain ⟨k, hk, hki, rfl⟩ := List.mem_eraseIdx_iff_getElem.1 hy
    refine ⟨List.getElem_mem _, fun e => ?_⟩
    have e' : l[k] = l[i] := by exact_mod_cast e
    rcases Nat.lt_or_gt_of_ne hki with hlt | hlt
    · have := strict_get h hlt hi; omega
    · have := strict_get h hlt hk; omega
/-- What the model does: the jobs of the first k steps, then without those that were dropped. -/
def putTo (st : List (Int × Int)) : Nat → List Nat
  | 0 => []
  | k + 1 => putN (st.getD k (0, 0)).1.toNat (putTo st k)
def outTo (st : List (Int × Int)) (l : List Nat) : Nat → List Nat
  | 0 => l
  | k + 1 => outN (st.getD k (0, 0)).2 (outTo st l k)
theorem putTo_strict (st : List (Int × Int)) : ∀ k, StrictN (putTo st k)
  | 0 => List.Pairwise.nil
  | k + 1 => putN_strict (putTo_strict st k)
theorem outTo_strict (st : List (Int × Int)) {l : List Nat} (h : StrictN l) : ∀ k, StrictN (outTo st l k)
  | 0 => h
  | k + 1 => outN_strict (outTo_strict st h k)
theorem putTo_mem (st : List (Int × Int)) {x : Nat} : ∀ k, (x ∈ putTo st k ↔ ∃ i, i < k ∧ (st.getD i (0, 0)).1.toNat = x)
  | 0 => by simp [putTo]
  | k + 1 => by
    show x ∈ putN _ (putTo st k) ↔ _
    rw [putN_mem, putTo_mem st k]
    constructor
    · rintro (h | ⟨i, hi, h⟩)
      · exact ⟨k, by omega, h.symm⟩
      · exact ⟨i, by omega, h⟩
    · rintro ⟨i, hi, h⟩
      by_cases e : i = k
      · subst e; exact .inl h.symm
      · exact .inr ⟨i, by omega, h⟩
theorem outTo_mem (st : List (Int × Int)) {l : List Nat} {x : Nat} : ∀ k, (x ∈ outTo st l k ↔ x ∈ l ∧ ∀ i, i < k → (st.getD i (0, 0)).2 ≠ (x : Int))
  | 0 => by simp [outTo]
  | k + 1 => by
    show x ∈ outN _ (outTo st l k) ↔ _
    rw [outN_mem, outTo_mem st k]
    constructor
    · rintro ⟨⟨h1, h2⟩, h3⟩
      refine ⟨h1, fun i hi => ?_⟩
      by_cases e : i = k
      · subst e; exact fun e => h3 e.symm
      · exact h2 i (by omega)
    · rintro ⟨h1, h2⟩
      exact ⟨⟨h1, fun i hi => h2 i (by omega)⟩, fun e => h2 k (by omega) e.symm⟩
/-- The steps of a longer run begin with those of a shorter one. -/
theorem steps_take (js : List J) {k : Nat} : ∀ m, k ≤ m → m ≤ (ruledL 4 js).length → (lateGo js m).steps.take k = (lateGo js k).steps := by
  intro m
  induction m with
  | zero => intro h _; have : k = 0 := by omega
            subst this; simp [lateGo_zero]
  | succ m ih =>
    intro h1 h2
    by_cases e : k = m + 1
    · subst e; rw [List.take_of_length_le]; rw [(lateGo_steps js (m + 1) h2).1]; exact Nat.le_refl _
    · have h := ih (by omega) (by omega)
      rw [lateGo_succ js m (by omega)]
      have hl := (lateGo_steps js m (by omega)).1
      unfold lateStep
      split
      · simp only; rw [List.take_append_of_le_length (by omega), h]
      · simp only; rw [List.take_append_of_le_length (by omega), h]
/-- Of each step: the job that is taken, the one that is dropped. -/
theorem steps_fst (js : List J) : ∀ k (h : k ≤ (ruledL 4 js).length) (i : Nat) (hi : i < k), ((lateGo js k).steps.getD i (0, 0)).1 = (((ruledL 4 js)[i]'(by omega) : Nat) : Int)
  | 0, _, i, hi => absurd hi (by omega)
  | k + 1, h, i, hi => by
    rw [lateGo_succ js k (by omega)]
    have hl := (lateGo_steps js k (by omega)).1
    by_cases e : i = k
    · subst e
      unfold lateStep
      split
      · simp only [List.getD_eq_getElem?_getD]
        rw [List.getElem?_append_right (by omega), hl, Nat.sub_self]; rfl
      · simp only [List.getD_eq_getElem?_getD]
        rw [List.getElem?_append_right (by omega), hl, Nat.sub_self]; rfl
    · have ih := steps_fst js k (by omega) i (by omega)
      unfold lateStep
      split
      · simp only [List.getD_eq_getElem?_getD] at ih ⊢
        rw [List.getElem?_append_left (by omega)]; exact ih
      · simp only [List.getD_eq_getElem?_getD] at ih ⊢
        rw [List.getElem?_append_left (by omega)]; exact ih
theorem steps_snd (js : List J) (x : Nat) : ∀ k (_ : k ≤ (ruledL 4 js).length), (x ∈ (lateGo js k).drop ↔ ∃ i, i < k ∧ ((lateGo js k).steps.getD i (0, 0)).2 = (x : Int))
  | 0, _ => by simp [lateGo_zero]
  | k + 1, h => by
    rw [lateGo_succ js k (by omega)]
    have hl := (lateGo_steps js k (by omega)).1
    have ih := steps_snd js x k (by omega)
    unfold lateStep
    split
    · simp only [List.mem_append, List.mem_singleton, ih, List.getD_eq_getElem?_getD]
      constructor
      · rintro (⟨i, hi, he⟩ | he)
        · exact ⟨i, by omega, by rw [List.getElem?_append_left (by omega)]; exact he⟩
        · exact ⟨k, by omega, by rw [List.getElem?_append_right (by omega), hl, Nat.sub_self]; rw [he]; rfl⟩
      · rintro ⟨i, hi, he⟩
        by_cases e : i = k
        · subst e
          rw [List.getElem?_append_right (by omega), hl, Nat.sub_self] at he
          refine .inr ?_
          simp only [List.getElem?_cons_zero, Option.getD_some] at he
          exact (Int.ofNat.inj he).symm
        · exact .inl ⟨i, by omega, by rwa [List.getElem?_append_left (by omega)] at he⟩
    · simp only [ih, List.getD_eq_getElem?_getD]
      constructor
      · rintro ⟨i, hi, he⟩
        exact ⟨i, by omega, by rw [List.getElem?_append_left (by omega)]; exact he⟩
      · rintro ⟨i, hi, he⟩
        by_cases e : i = k
        · subst e
          rw [List.getElem?_append_right (by omega), hl, Nat.sub_self] at he
          simp only [List.getElem?_cons_zero, Option.getD_some] at he
          omega
        · exact ⟨i, by omega, by rwa [List.getElem?_append_left (by omega)] at he⟩
theorem late_nodup (js : List J) {k : Nat} (h : k ≤ (ruledL 4 js).length) : ((lateGo js k).left ++ (lateGo js k).drop).Nodup :=
  (lateGo_perm js k h).nodup_iff.2 ((perm_nodup (ruledL_perm 4 js)).sublist (List.take_sublist _ _))
/-- The numbers in ascending order. -/
def ascL (n : Nat) (l : List Nat) : List Nat := (List.range n).filter fun i => l.contains i
theorem ascL_strict (n : Nat) (l : List Nat) : StrictN (ascL n l) := List.Pairwise.filter _ List.pairwise_lt_range
theorem ascL_mem {n : Nat} {l : List Nat} {x : Nat} : x ∈ ascL n l ↔ x < n ∧ x ∈ l := by unfold ascL; simp
/-- What the model makes is what is left, in ascending order. -/
theorem left_asc (js : List J) {k : Nat} (h : k ≤ js.length) : outTo (lateGo js js.length).steps (putTo (lateGo js js.length).steps k) k = ascL js.length (lateGo js k).left := by
  have hl := ruledL_len 4 js
  have hk : k ≤ (ruledL 4 js).length := by omega
  have hst : ∀ i, i < k → (lateGo js js.length).steps.getD i (0, 0) = (lateGo js k).steps.getD i (0, 0) := fun i hi => by
    rw [← steps_take js js.length h (by omega)]
    simp only [List.getD_eq_getElem?_getD, List.getElem?_take, if_pos hi]
  refine strict_ext (outTo_strict _ (putTo_strict _ _) _) (ascL_strict _ _) fun x => ?_
  rw [outTo_mem, putTo_mem, ascL_mem]
  have hp := (lateGo_perm js k hk).mem_iff (a := x)
  have hd := late_nodup js hk
  rw [List.nodup_append] at hd
  have hdr := steps_snd js x k hk
  have h1 : (∃ i, i < k ∧ ((lateGo js js.length).steps.getD i (0, 0)).1.toNat = x) ↔ x ∈ (ruledL 4 js).take k := by
    constructor
    · rintro ⟨i, hi, he⟩
      rw [hst i hi, steps_fst js k hk i hi] at he
      have : x = (ruledL 4 js)[i] := by omega
      exact List.mem_iff_getElem.2 ⟨i, by simp; omega, by rw [List.getElem_take]; omega⟩
    · intro hx
      obtain ⟨i, hi, rfl⟩ := List.getElem_of_mem hx
      have hi' : i < k := by simp at hi; omega
      exact ⟨i, hi', by rw [hst i hi', steps_fst js k hk i hi', List.getElem_take]; rfl⟩
  rw [h1, ← hp, List.mem_append]
  constructor
  · rintro ⟨h2 | h2, h3⟩
    · exact ⟨lateGo_lt js hk h2, h2⟩
    · obtain ⟨i, hi, he⟩ := hdr.1 h2
      exact absurd (by rw [hst i hi]; exact he) (h3 i hi)
  · rintro ⟨_, h2⟩
    refine ⟨.inl h2, fun i hi he => ?_⟩
    rw [hst i hi] at he
    exact hd.2.2 x h2 x (hdr.2 ⟨i, hi, he⟩) rfl
def srtL (l : List Nat) : List Nat := ((l.map Int.ofNat).mergeSort fun x y => decide (x ≤ y)).map Int.toNat
theorem srtL_map (l : List Nat) : (srtL l).map Int.ofNat = (l.map Int.ofNat).mergeSort fun x y => decide (x ≤ y) := by
  unfold srtL
  rw [List.map_map]
  conv => rhs; rw [← List.map_id ((l.map Int.ofNat).mergeSort fun x y => decide (x ≤ y))]
  refine List.map_congr_left fun x hx => ?_
  obtain ⟨k, _, rfl⟩ := List.mem_map.1 ((List.mergeSort_perm _ _).mem_iff.1 hx)
  rfl
theorem srtL_perm (l : List Nat) : (srtL l).Perm l := by
  have h := (List.mergeSort_perm (l.map Int.ofNat) (fun x y => decide (x ≤ y))).map Int.toNat
  rw [List.map_map, show (Int.toNat ∘ Int.ofNat) = id from rfl, List.map_id] at h
  exact h
theorem srtL_len (l : List Nat) : (srtL l).length = l.length := (srtL_perm l).length_eq
theorem srtL_asc (l : List Nat) : (srtL l).Pairwise (· ≤ ·) := by
  have h := List.pairwise_mergeSort (le := fun x y : Int => decide (x ≤ y)) (fun a b c h1 h2 => by simp at *; omega) (fun a b => by simp; omega) (l.map Int.ofNat)
  rw [← srtL_map, List.pairwise_map] at h
  exact h.imp fun {a b} hab => by simpa using hab
/-- Different numbers below n, sorted: those of 0..n-1 that are among them. -/
theorem srtL_ascL {n : Nat} {l : List Nat} (hd : l.Nodup) (hl : ∀ x ∈ l, x < n) : srtL l = ascL n l := by
  refine strict_ext ?_ (ascL_strict n l) fun x => ?_
  · have h1 := srtL_asc l
    have h2 := (srtL_perm l).nodup_iff.2 hd
    exact (h1.and h2).imp fun {a b} ⟨h, h'⟩ => by omega
  · rw [(srtL_perm l).mem_iff, ascL_mem]
    exact ⟨fun h => ⟨hl x h, h⟩, fun h => h.2⟩
end Go.Proofs.YtpoibjmkbljblaaDoor

end
section
namespace Go.Proofs.YtpoibjmkbljblaaDoor
open Go.RowKit
section
variable (b : Nat) (A : Option Addr) (c : Nat) (js : List J) (w : World) (hB : BlockIs w b 27 #[.slice A js.length c]) (hr : Row w A (jc js)) (hg : ∀ j ∈ js, okJ j = true) (i k : Nat) (hi : i < js.length) (hk : k < js.length)
include hB hr hg hi hk
end
theorem isRule_out {o : Int} (h : isRule o = true) : o = 1 ∨ o = 2 ∨ o = 3 ∨ o = 4 := by
  have := of_decide_eq_true h
  omega
theorem ruled_bad {js : List J} {ob : Int} (h : goodL js = false) : ruledB js ob = false := by unfold ruledB; rw [h]; rfl
theorem ruled_one {js : List J} (h : goodL js = true) : ruledB js 1 = true := by unfold ruledB; rw [h]; rfl
theorem ruled_not {js : List J} {ob : Int} (h : isRule ob = false) : ruledB js ob = false := by unfold ruledB; rw [h, Bool.false_and, Bool.and_false]
theorem ruled_ne {js : List J} {ob : Int} (h : ob ≠ 1) (hp : plainL js = false) : ruledB js ob = false := by
  unfold plainL at hp
  unfold ruledB
  rw [decide_eq_false h, Bool.false_or]
  cases hg : goodL js
  · rfl
  · rw [hg, Bool.true_and] at hp; rw [hp, Bool.and_false]; rfl
section
variable (A : Option Addr) (c : Nat) (js : List J) (ob : Int) (w : World) (hr : Row w A (jc js)) (hn : js.length ≤ 10000000)
include hr hn
end
end Go.Proofs.YtpoibjmkbljblaaDoor

end
section
namespace Go.Proofs.YtpoibjmkbljblaaDoor
open Go.RowKit
theorem ruled_eq (js : List J) (ob : Int) : ruledB js ob = (goodL js && (inB ob 1 4 && (decide (ob = 1) || plain0 js))) := rfl
section
variable (A : Option Addr) (c : Nat) (js : List J) (ob : Int) (w : World) (hr : Row w A (jc js)) (hn : js.length ≤ 10000000)
include hr hn
end
section
variable (A : Option Addr) (c : Nat) (js : List J) (ob : Int) (w : World) (hr : Row w A (jc js)) (hg : ∀ j ∈ js, okJ j = true) (i k : Nat) (hi : i < js.length) (hk : k < js.length)
include hr hg hi hk
end
def jobB (n : Nat) (i : Int) : Bool := inB i 0 ((n : Int) - 1)
theorem job_out {n : Nat} {i : Int} (h : jobB n i = true) : ∃ k : Nat, i = (k : Int) ∧ k < n := by
  have := inB_out h
  exact ⟨i.toNat, by omega, by omega⟩
def diffR (js : List J) (ob i k : Int) : Int × Bool := if ruledB js ob && (jobB js.length i && jobB js.length k) then (gapN ob js i.toNat k.toNat, true) else (0, false)
section
variable (A : Option Addr) (c : Nat) (js : List J) (ob i k : Int) (w : World) (hr : Row w A (jc js)) (hn : js.length ≤ 10000000)
include hr hn
end
end Go.Proofs.YtpoibjmkbljblaaDoor

end
section
namespace Go.Proofs.YtpoibjmkbljblaaDoor
open Go.RowKit
theorem isRule_of {js : List J} {ob : Int} (h : ruledB js ob = true) : isRule ob = true := by
  unfold ruledB at h
  simp only [Bool.and_eq_true] at h
  exact h.2.1
theorem wfind_none {p : Nat → Bool} {n : Nat} (h : ∀ i, i < n → p i = false) : (List.range n).find? p = none := by
  rw [List.find?_eq_none]
  intro i hi
  rw [h i (List.mem_range.1 hi)]; simp
theorem wfind_some {p : Nat → Bool} {k : Nat} (hp : p k = true) (hb : ∀ i, i < k → p i = false) : ∀ n, k < n → (List.range n).find? p = some k
  | 0, h => by omega
  | n + 1, h => by
    rw [List.range_succ, List.find?_append]
    by_cases e : k = n
    · subst e
      rw [wfind_none hb]
      simp [hp]
    · rw [wfind_some hp hb n (by omega)]; rfl
theorem wrong_none {ob : Int} {js : List J} {p : List Nat} (h : ∀ i, i < p.length - 1 → gapN ob js (p.getD i 0) (p.getD (i + 1) 0) ≤ 0) : wrongV ob js p = none :=
  wfind_none fun i hi => decide_eq_false (by have := h i hi; omega)
theorem wrong_some {ob : Int} {js : List J} {p : List Nat} {k : Nat} (hk : k < p.length - 1) (hp : 0 < gapN ob js (p.getD k 0) (p.getD (k + 1) 0)) (h : ∀ i, i < k → gapN ob js (p.getD i 0) (p.getD (i + 1) 0) ≤ 0) : wrongV ob js p = some k :=
  wfind_some (decide_eq_true hp) (fun i hi => decide_eq_false (by have := h i hi; omega)) _ hk
theorem noWrong_step {ob : Int} {js : List J} {p : List Nat} {k : Nat} (h : ∀ i, i < k → gapN ob js (p.getD i 0) (p.getD (i + 1) 0) ≤ 0) (hk : gapN ob js (p.getD k 0) (p.getD (k + 1) 0) ≤ 0) : ∀ i, i < k + 1 → gapN ob js (p.getD i 0) (p.getD (i + 1) 0) ≤ 0 := by
  intro i hi
  by_cases e : i = k
  · subst e; exact hk
  · exact h i (by omega)
def wrongN (ob : Int) (js : List J) (p : List Nat) : Int := match wrongV ob js p with
  | some k => (k : Int)
  | none => -1
def wrongP (ob : Int) (js : List J) (p : List Nat) : Int × Bool := match wrongV ob js p with
  | some k => ((k : Int), true)
  | none => (0, false)
section
variable {b : Nat} {A : Option Addr} {c : Nat} {js : List J} {ob : Int} (ho : isRule ob = true) (hg : goodL js = true)
include ho hg
end
end Go.Proofs.YtpoibjmkbljblaaDoor

end
section
namespace Go.Proofs.YtpoibjmkbljblaaDoor
/-- Two neighbors exchanged. -/
def swN (p : List Nat) (i : Nat) : List Nat := (p.set i (p.getD (i + 1) 0)).set (i + 1) (p.getD i 0)
theorem swN_len (p : List Nat) (i : Nat) : (swN p i).length = p.length := by unfold swN; simp
theorem swN_zero (x y : Nat) (b : List Nat) : swN (x :: y :: b) 0 = y :: x :: b := rfl
theorem swN_succ (x : Nat) (xs : List Nat) (i : Nat) : swN (x :: xs) (i + 1) = x :: swN xs i := rfl
theorem swN_perm : ∀ (p : List Nat) (i : Nat), i + 1 < p.length → (swN p i).Perm p
  | [], _, h => by simp at h
  | [_], _, h => by simp at h
  | x :: y :: b, 0, _ => by rw [swN_zero]; exact List.Perm.swap x y b
  | x :: y :: b, i + 1, h => by
    rw [swN_succ]
    exact (swN_perm (y :: b) i (by simp at h ⊢; omega)).cons x
section
variable (ob : Int) (js : List J)
/-- How many jobs of a list are an inversion with one ahead of them. -/
def cntAt (x : Nat) (ys : List Nat) : Nat := (ys.filter fun y => decide (0 < gapN ob js x y)).length
def cntN : List Nat → Nat
  | [] => 0
  | x :: ys => cntAt ob js x ys + cntN ys
theorem cntAt_perm {xs ys : List Nat} (h : xs.Perm ys) (x : Nat) : cntAt ob js x xs = cntAt ob js x ys := (h.filter _).length_eq
theorem cntAt_cons (x y : Nat) (ys : List Nat) : cntAt ob js x (y :: ys) = (if 0 < gapN ob js x y then 1 else 0) + cntAt ob js x ys := by
  unfold cntAt
  rw [List.filter_cons]
  by_cases h : 0 < gapN ob js x y
  · rw [if_pos (decide_eq_true h), if_pos h]; simp; omega
  · rw [if_neg (fun hh => h (of_decide_eq_true hh)), if_neg h]; simp
theorem cnt_swap : ∀ (p : List Nat) (i : Nat), i + 1 < p.length → 0 < gapN ob js (p.getD i 0) (p.getD (i + 1) 0) → cntN ob js p = cntN ob js (swN p i) + 1
  | [], _, h, _ => by simp at h
  | [_], _, h, _ => by simp at h
  | x :: y :: b, 0, _, h => by
    have h' : 0 < gapN ob js x y := h
    have hn := gapN_anti ob js x y
    rw [swN_zero]
    show cntAt ob js x (y :: b) + (cntAt ob js y b + cntN ob js b) = cntAt ob js y (x :: b) + (cntAt ob js x b + cntN ob js b) + 1
    rw [cntAt_cons, cntAt_cons, if_pos h', if_neg (by omega)]
    omega
  | x :: y :: b, i + 1, h, hg => by
    rw [swN_succ]
    have ih := cnt_swap (y :: b) i (by simp at h ⊢; omega) hg
    show cntAt ob js x (y :: b) + cntN ob js (y :: b) = cntAt ob js x (swN (y :: b) i) + cntN ob js (swN (y :: b) i) + 1
    rw [cntAt_perm ob js (swN_perm (y :: b) i (by simp at h ⊢; omega)) x]
    omega
theorem cntAt_le (x : Nat) (ys : List Nat) : cntAt ob js x ys ≤ ys.length := List.length_filter_le _ _
theorem cntN_le : ∀ p : List Nat, cntN ob js p ≤ p.length * p.length
  | [] => Nat.le_refl _
  | x :: ys => by
    have h1 := cntN_le ys
    have h2 := cntAt_le ob js x ys
    show cntAt ob js x ys + cntN ob js ys ≤ (ys.length + 1) * (ys.length + 1)
    rw [Nat.add_mul, Nat.mul_add]
    omega
theorem wrong_out {p : List Nat} {k : Nat} (h : wrongV ob js p = some k) : k + 1 < p.length ∧ 0 < gapN ob js (p.getD k 0) (p.getD (k + 1) 0) := by
  unfold wrongV at h
  have h1 := List.mem_range.1 (List.mem_of_find?_eq_some h)
  have h2 : 0 < gapN ob js (p.getD k 0) (p.getD (k + 1) 0) := by simpa using List.find?_some h
  exact ⟨by omega, h2⟩
/-- The exchanges, so many at most: their places, and the order at the end. -/
def sortGo : Nat → List Nat → List Nat → List Nat × List Nat
  | 0, p, c => (c, p)
  | n + 1, p, c => match wrongV ob js p with
    | none => (c, p)
    | some i => sortGo n (swN p i) (c ++ [i])
def sortR (p : List Nat) : List Nat × List Nat := sortGo ob js (cntN ob js p + 1) p []
theorem sortGo_len : ∀ (n : Nat) (p c : List Nat), (sortGo ob js n p c).2.length = p.length ∧ (sortGo ob js n p c).1.length ≤ c.length + n
  | 0, _, _ => ⟨rfl, Nat.le_refl _⟩
  | n + 1, p, c => by
    unfold sortGo
    cases wrongV ob js p with
    | none => exact ⟨rfl, by simp⟩
    | some i =>
      have := sortGo_len n (swN p i) (c ++ [i])
      simp only
      rw [swN_len] at this
      simp at this
      exact ⟨this.1, by omega⟩
end
end Go.Proofs.YtpoibjmkbljblaaDoor

end
section
namespace Go.Proofs.YtpoibjmkbljblaaDoor
open Go.RowKit
def bothB (js : List J) (o : List Int) (ob : Int) : Bool := ruledB js ob && ordB js.length o
theorem both_out {js : List J} {o : List Int} {ob : Int} (h : bothB js o ob = true) : ruledB js ob = true ∧ ∃ p : List Nat, o = natI p ∧ p.Perm (List.range js.length) ∧ p.length = js.length ∧ js.length ≤ 8 ∧ ∀ j ∈ p, j < js.length := by
  unfold bothB at h
  simp only [Bool.and_eq_true] at h
  obtain ⟨p, h1, h2, h3, h4⟩ := ord_nat h.2
  exact ⟨h.1, p, h1, h2, h3, h4, fun j hj => perm_lt h2 hj⟩
theorem natI_inj : ∀ {p q : List Nat}, natI p = natI q → p = q
  | [], [], _ => rfl
  | [], _ :: _, h => by cases h
  | _ :: _, [], h => by cases h
  | a :: p, b :: q, h => by
    simp only [natI, List.map_cons, List.cons.injEq] at h
    have := Int.ofNat.inj h.1
    subst this
    rw [natI_inj (p := p) (q := q) h.2]
def noWrongB (js : List J) (o : List Int) (ob : Int) : Bool := decide (wrongN ob js (natsOf o) < 0)
def isRuledR (js : List J) (o : List Int) (ob : Int) : Bool × Bool := if bothB js o ob then (noWrongB js o ob, true) else (false, false)
theorem wrong_cases (ob : Int) (js : List J) (p : List Nat) : (wrongV ob js p = none ∧ wrongN ob js p = -1 ∧ wrongP ob js p = (0, false)) ∨ ∃ k : Nat, wrongV ob js p = some k ∧ wrongN ob js p = k ∧ wrongP ob js p = ((k : Int), true) := by
  unfold wrongN wrongP
  cases wrongV ob js p with
  | none => exact .inl ⟨rfl, rfl, rfl⟩
  | some k => exact .inr ⟨k, rfl, rfl, rfl⟩
theorem noWrong_not (ob : Int) (js : List J) (p : List Nat) : noWrongB js (natI p) ob = !(wrongP ob js p).2 := by
  unfold noWrongB
  rw [natsOf_natI]
  rcases wrong_cases ob js p with ⟨_, h2, h3⟩ | ⟨k, _, h2, h3⟩
  · rw [h2, h3]; rfl
  · rw [h2, h3]; exact decide_eq_false (by omega)
theorem wrong_bd (ob : Int) (js : List J) (p : List Nat) : -1 ≤ wrongN ob js p ∧ wrongN ob js p ≤ p.length := by
  rcases wrong_cases ob js p with ⟨_, h2, _⟩ | ⟨k, h1, h2, _⟩
  · omega
  · have := (wrong_out ob js h1).1; omega
section
variable (A B : Option Addr) (c d n : Nat) (js : List J) (o : List Int) (ob : Int) (w : World) (hno : n = o.length) (hr : Row w A (jc js)) (hq : Row w B (ic o)) (hn : js.length ≤ 10000000) (hm : o.length ≤ 10000000)
include hno hr hq hn hm
end
section
variable (A B : Option Addr) (c d : Nat) (js : List J) (o : List Int) (ob : Int) (w : World) (hr : Row w A (jc js)) (hq : Row w B (ic o)) (hn : js.length ≤ 10000000) (hm : o.length ≤ 10000000)
include hr hq hn hm
end
end Go.Proofs.YtpoibjmkbljblaaDoor

end
section
namespace Go.Proofs.YtpoibjmkbljblaaDoor
open Go.RowKit
theorem times_bd {js : List J} (hok : ∀ j ∈ js, okJ j = true) : ∀ (l : List Nat), (∀ j ∈ l, j < js.length) → 0 ≤ timesOf js l ∧ timesOf js l ≤ 50 * l.length
  | [], _ => by simp [timesOf]
  | x :: l, h => by
    have ih := times_bd hok l (fun j hj => h j (List.mem_cons_of_mem _ hj))
    have hx := okJ_out (getD_ok hok (h x List.mem_cons_self))
    unfold timesOf at *
    simp only [List.map_cons, List.sum_cons, List.length_cons]
    omega
theorem longTo_succ (js : List J) (l : List Nat) (k : Nat) : longTo js l (k + 1) = if timeN js (l.getD (longTo js l k) 0) < timeN js (l.getD k 0) then k else longTo js l k := rfl
section
variable (A B : Option Addr) (c d : Nat) (js : List J) (l : List Nat) (w : World) (hr : Row w A (jc js)) (hq : Row w B (ic (natI l))) (hok : ∀ j ∈ js, okJ j = true) (hl : ∀ j ∈ l, j < js.length) (hm : l.length ≤ 100)
include hr hq hok hl hm
end
/-- Two slices whose blocks are not the same. -/
def Apart (u v : Value) : Prop := ∀ g, u.ownBlock = some g → v.ownBlock ≠ some g
theorem Apart.symm {u v : Value} (h : Apart u v) : Apart v u := fun g hg e => h g e hg
section
variable {w w' w1 : World} {B n size : Nat} {e : TypeId} {u v v' : Value} {xs : List Value}
theorem own_apart (h : w.ownsRow B e size u n xs) (ha : Apart u v) (hg : w.grownBy w1 v.ownBlock) : w1.ownsRow B e size u n xs :=
  own_to h fun g hu _ hgl => hg.block g hgl fun e => ha g hu e.symm
theorem apart_app (h : w.ownsRow B e size u n xs) (ha : Apart u v) (hs : w.heap.size ≤ w'.heap.size) (hob : v'.ownBlock = v.ownBlock ∨ v'.ownBlock = some w'.heap.size) : Apart u v' := fun g hg e' => by
  rcases hob with h' | h'
  · exact ha g hg (h' ▸ e')
  · rw [h'] at e'
    injection e' with e'
    have := (own_type h hg).1
    omega
theorem apart_new (h : w.ownsRow B e size u n xs) {B' n' size' : Nat} {e' : TypeId} {ys : List Value} (h' : w'.ownsRow B' e' size' v n' ys) (hB : w.heap.size ≤ B') : Apart u v := fun g hg hg' => by
  have h1 := (own_type h hg).1
  have h2 := (own_type h' hg').2.1
  omega
theorem apart_type {B' n' size' : Nat} {e' : TypeId} {ys : List Value} (h : w.ownsRow B e size u n xs) (h' : w.ownsRow B' e' size' v n' ys) (hne : e ≠ e') : Apart u v := fun g hg hg' => by
  obtain ⟨_, _, c1, t1⟩ := own_type h hg
  obtain ⟨_, _, c2, t2⟩ := own_type h' hg'
  exact type_ne t1 t2 hne rfl
/-- A block that is of another type stays through a turn of a slice's block. -/
theorem block_apart {g : Nat} {t : TypeId} {cs : Array Value} (hb : BlockIs w g t cs) (h : w.ownsRow B e size v n xs) (hne : t ≠ e) (hg : w.grownBy w1 v.ownBlock) : BlockIs w1 g t cs :=
  (hg.block g hb.lt fun e' => by
    obtain ⟨_, _, c2, t2⟩ := own_type h e'.symm
    exact type_ne hb t2 hne rfl).trans hb
theorem own_setb {g : Nat} {t : TypeId} {cs : Array Value} (h : w.ownsRow B e size u n xs) (hb : BlockIs w g t cs) (hne : t ≠ e) (i : Nat) (x : Value) : (w.setCell ⟨g, i, none⟩ x).ownsRow B e size u n xs :=
  own_to h fun q hq _ _ => by
    obtain ⟨_, _, c1, t1⟩ := own_type h hq
    exact Below.heap_setCell _ _ _ _ (type_ne t1 hb (fun e => hne e.symm))
theorem own_row_keep {g : Nat} {t : TypeId} {cs : Array Value} (h : BlockIs w g t cs) (i : Nat) (x : Value) : BlockIs (w.setCell ⟨g, i, none⟩ x) g t (cs.setIfInBounds i x) := h.set i x
end
theorem own_succ {w : World} {B n size : Nat} {e : TypeId} {v : Value} {xs : List Value} (h : w.ownsRow B e size v (n + 1) xs) : ∃ g c, v = .slice (some ⟨g, 0, none⟩) (n + 1) c := by
  rcases h.2 with ⟨_, h0⟩ | ⟨g, cap, cur, hv, _⟩
  · omega
  · exact ⟨g, cap, hv⟩
theorem row_own {w : World} {B m n size c : Nat} {e : TypeId} {A : Option Addr} {xs : List Value} (h : w.ownsRow B e size (.slice A m c) n xs) : Row w A xs := by
  rcases id h.2 with ⟨hv, h0⟩ | ⟨g, cap, cur, hv, _⟩
  · have : xs = [] := List.eq_nil_of_length_eq_zero (by rw [h.1, h0, Nat.zero_mul])
    subst this; exact Row.nil _
  · have hm : m = n := by injection hv
    subst hm; exact Row.of_own h
theorem wpList_app_run {P : Program} {ops : Array Oper} {rest : List Oper} {o : Oper} {a : Act} {w w' : World} {Q : Exit → Act → World → Prop} (hgd : o.guard = none) (s x : Operand) (t : TypeId)
    (ho : o.op = .call { callee := .builtin .append, args := #[s, x], argTypes := #[t, t] }) (v u r : Value) (hs : a.eval s = v) (hx : a.eval x = u) (hr : (Builtin.append_ #[t, t] o.type #[v, u]).run P w = .ok r w')
    (h : wpList P ops Q rest (a.put o.dst r) w') : wpList P ops Q (o :: rest) a w := by
  refine wpList_plain hgd fun K hK => ?_
  unfold Oper.wp execOp
  simp only [ho, resolve, invoke, builtin, Sem.run_bind, Sem.run_pure, Result.andThen_ok, List.map_toArray, List.map_cons, List.map_nil, hs, hx, hr]
  exact hK _ _ h
theorem alloc_own {w : World} {B n size : Nat} {e : TypeId} {u : Value} {xs : List Value} (h : w.ownsRow B e size u n xs) (o : Obj) : (w.alloc o).ownsRow B e size u n xs := own_blw h ((Below.refl _ _).alloc (Nat.le_refl _) o)
end Go.Proofs.YtpoibjmkbljblaaDoor

end
section
namespace Go.Proofs.YtpoibjmkbljblaaDoor
open Go.RowKit
theorem step_append_at {P : Program} {ops : Array Oper} {o : Oper} {a : Act} {w w' : World} {K : Act → World → Prop} {Q : Exit → Act → World → Prop} {E : Prop} (hg : o.guard = none) (s x : Operand) (t : TypeId)
    (hop : o.op = Op.call { callee := Callee.builtin Builtin.append, args := #[s, x], argTypes := #[t, t] }) (v u r : Value) (hs : a.eval s = v) (hx : a.eval x = u) (hr : (Builtin.append_ #[t, t] o.type #[v, u]).run P w = .ok r w') (hK : K (a.put o.dst r) w') :
    if Region.wanted o (yielded ops a.tmps) = true then Oper.wp P o a w K Q else E := by
  have hw : Region.wanted o (yielded ops a.tmps) = true := by simp [Region.wanted, hg]
  rw [if_pos hw]
  unfold Oper.wp
  simp [execOp, hop, resolve, invoke, builtin, hs, hx, hr, Result.andThen]
  exact hK
theorem erase_cat (xs : List Int) (k : Nat) : ic (xs.take k) ++ ic (xs.drop (k + 1)) = ic (xs.eraseIdx k) := by
  unfold ic; rw [List.eraseIdx_eq_take_drop_succ, List.map_append]
section
variable (ad : Addr) (c : Nat) (xs : List Int) (k : Nat) (w : World) (hr : Row w (some ad) (ic xs)) (hn : xs.length ≤ 1000) (hc : xs.length ≤ c) (hk : k < xs.length)
include hr hn hc hk
end
end Go.Proofs.YtpoibjmkbljblaaDoor

end
section
namespace Go.Proofs.YtpoibjmkbljblaaDoor
open Go.RowKit
theorem but_o3 {a3 b3 v0 v1 v10 v11 v2 v4 v5 v6 v7 v8 v9 : Value} (j : Nat) (h3 : j ≠ 3) : (#[v0, v1, v2, a3, v4, v5, v6, v7, v8, v9, v10, v11] : Array Value).getD j undef = (#[v0, v1, v2, b3, v4, v5, v6, v7, v8, v9, v10, v11] : Array Value).getD j undef := by
  rcases (by omega : j = 0 ∨ j = 1 ∨ j = 2 ∨ j = 4 ∨ j = 5 ∨ j = 6 ∨ j = 7 ∨ j = 8 ∨ j = 9 ∨ j = 10 ∨ j = 11 ∨ 11 < j) with rfl | rfl | rfl | rfl | rfl | rfl | rfl | rfl | rfl | rfl | rfl | h
  all_goals first | rfl | (simp only [Array.getD_eq_getD_getElem?]; rw [Array.getElem?_eq_none (by simp; omega), Array.getElem?_eq_none (by simp; omega)])
theorem but_o5 {a5 b5 v0 v1 v10 v11 v2 v3 v4 v6 v7 v8 v9 : Value} (j : Nat) (h5 : j ≠ 5) : (#[v0, v1, v2, v3, v4, a5, v6, v7, v8, v9, v10, v11] : Array Value).getD j undef = (#[v0, v1, v2, v3, v4, b5, v6, v7, v8, v9, v10, v11] : Array Value).getD j undef := by
  rcases (by omega : j = 0 ∨ j = 1 ∨ j = 2 ∨ j = 3 ∨ j = 4 ∨ j = 6 ∨ j = 7 ∨ j = 8 ∨ j = 9 ∨ j = 10 ∨ j = 11 ∨ 11 < j) with rfl | rfl | rfl | rfl | rfl | rfl | rfl | rfl | rfl | rfl | rfl | h
  all_goals first | rfl | (simp only [Array.getD_eq_getD_getElem?]; rw [Array.getElem?_eq_none (by simp; omega), Array.getElem?_eq_none (by simp; omega)])
theorem but_o6 {a6 b6 v0 v1 v10 v11 v2 v3 v4 v5 v7 v8 v9 : Value} (j : Nat) (h6 : j ≠ 6) : (#[v0, v1, v2, v3, v4, v5, a6, v7, v8, v9, v10, v11] : Array Value).getD j undef = (#[v0, v1, v2, v3, v4, v5, b6, v7, v8, v9, v10, v11] : Array Value).getD j undef := by
  rcases (by omega : j = 0 ∨ j = 1 ∨ j = 2 ∨ j = 3 ∨ j = 4 ∨ j = 5 ∨ j = 7 ∨ j = 8 ∨ j = 9 ∨ j = 10 ∨ j = 11 ∨ 11 < j) with rfl | rfl | rfl | rfl | rfl | rfl | rfl | rfl | rfl | rfl | rfl | h
  all_goals first | rfl | (simp only [Array.getD_eq_getD_getElem?]; rw [Array.getElem?_eq_none (by simp; omega), Array.getElem?_eq_none (by simp; omega)])
theorem but_o10 {a10 a11 b10 b11 v0 v1 v2 v3 v4 v5 v6 v7 v8 v9 : Value} (j : Nat) (h10 : j ≠ 10) (h11 : j ≠ 11) : (#[v0, v1, v2, v3, v4, v5, v6, v7, v8, v9, a10, a11] : Array Value).getD j undef = (#[v0, v1, v2, v3, v4, v5, v6, v7, v8, v9, b10, b11] : Array Value).getD j undef := by
  rcases (by omega : j = 0 ∨ j = 1 ∨ j = 2 ∨ j = 3 ∨ j = 4 ∨ j = 5 ∨ j = 6 ∨ j = 7 ∨ j = 8 ∨ j = 9 ∨ 11 < j) with rfl | rfl | rfl | rfl | rfl | rfl | rfl | rfl | rfl | rfl | h
  all_goals first | rfl | (simp only [Array.getD_eq_getD_getElem?]; rw [Array.getElem?_eq_none (by simp; omega), Array.getElem?_eq_none (by simp; omega)])
theorem own_block2 {w : World} {B n : Nat} {v : Value} {cs : List Value} (h : w.ownsRow B 3 1 v n cs) (hn : 0 < n) : ∃ g, B ≤ g ∧ (∃ c, v = .slice (some ⟨g, 0, none⟩) n c) ∧ True := by
  rcases h.2 with ⟨_, h0⟩ | ⟨g, cap, cur, hv, hb, _⟩
  · omega
  · exact ⟨g, hb, ⟨cap, hv⟩, trivial⟩
section
variable (A : Option Addr) (c : Nat) (js : List J) (ob : Int) (w : World) (hr : Row w A (jc js)) (hg : goodL js = true) (ho : isRule ob = true)
include hr hg ho
end
end Go.Proofs.YtpoibjmkbljblaaDoor

end
section
namespace Go.Proofs.YtpoibjmkbljblaaDoor
open Go.RowKit
theorem empty_ne {w : World} {B g : Nat} {t : TypeId} {v : Value} (h : w.ownsRow B 3 1 (.slice (some ⟨g, 0, none⟩) 0 0) 0 []) (hb : BlockIs w g t #[v]) : False := by
  rcases h.2 with ⟨hv, _⟩ | ⟨g', cap, cur, hv, _, hg, _, _, hs, _⟩
  · cases hv
  · injection hv with e1 _ e3
    injection e1 with e1
    injection e1 with e1 _ _
    subst e1 e3
    unfold BlockIs at hb
    rw [hb] at hg
    injection hg with hg
    injection hg with hg _ _
    subst hg
    simp at hs
theorem head_src {w : World} {ad : Addr} {xs : List Int} {k : Nat} (h : Row w (some ad) (ic xs)) (_ : k ≤ xs.length) : ∀ j u, (ic (xs.take k))[j]? = some u → w.cell? (ad.add j) = some u := fun j u hu => by
  refine row_src h j u ?_
  unfold ic at hu ⊢
  rw [List.map_take, List.getElem?_take] at hu
  split at hu
  · exact hu
  · cases hu
theorem but_p0 {a0 b0 v1 v10 v11 v12 v2 v3 v4 v5 v6 v7 v8 v9 : Value} (j : Nat) (h0 : j ≠ 0) : (#[a0, v1, v2, v3, v4, v5, v6, v7, v8, v9, v10, v11, v12] : Array Value).getD j undef = (#[b0, v1, v2, v3, v4, v5, v6, v7, v8, v9, v10, v11, v12] : Array Value).getD j undef := by
  rcases (by omega : j = 1 ∨ j = 2 ∨ j = 3 ∨ j = 4 ∨ j = 5 ∨ j = 6 ∨ j = 7 ∨ j = 8 ∨ j = 9 ∨ j = 10 ∨ j = 11 ∨ j = 12 ∨ 12 < j) with rfl | rfl | rfl | rfl | rfl | rfl | rfl | rfl | rfl | rfl | rfl | rfl | h
  all_goals first | rfl | (simp only [Array.getD_eq_getD_getElem?]; rw [Array.getElem?_eq_none (by simp; omega), Array.getElem?_eq_none (by simp; omega)])
theorem but_p4 {a4 b4 v0 v1 v10 v11 v12 v2 v3 v5 v6 v7 v8 v9 : Value} (j : Nat) (h4 : j ≠ 4) : (#[v0, v1, v2, v3, a4, v5, v6, v7, v8, v9, v10, v11, v12] : Array Value).getD j undef = (#[v0, v1, v2, v3, b4, v5, v6, v7, v8, v9, v10, v11, v12] : Array Value).getD j undef := by
  rcases (by omega : j = 0 ∨ j = 1 ∨ j = 2 ∨ j = 3 ∨ j = 5 ∨ j = 6 ∨ j = 7 ∨ j = 8 ∨ j = 9 ∨ j = 10 ∨ j = 11 ∨ j = 12 ∨ 12 < j) with rfl | rfl | rfl | rfl | rfl | rfl | rfl | rfl | rfl | rfl | rfl | rfl | h
  all_goals first | rfl | (simp only [Array.getD_eq_getD_getElem?]; rw [Array.getElem?_eq_none (by simp; omega), Array.getElem?_eq_none (by simp; omega)])
theorem but_p6 {a6 b6 v0 v1 v10 v11 v12 v2 v3 v4 v5 v7 v8 v9 : Value} (j : Nat) (h6 : j ≠ 6) : (#[v0, v1, v2, v3, v4, v5, a6, v7, v8, v9, v10, v11, v12] : Array Value).getD j undef = (#[v0, v1, v2, v3, v4, v5, b6, v7, v8, v9, v10, v11, v12] : Array Value).getD j undef := by
  rcases (by omega : j = 0 ∨ j = 1 ∨ j = 2 ∨ j = 3 ∨ j = 4 ∨ j = 5 ∨ j = 7 ∨ j = 8 ∨ j = 9 ∨ j = 10 ∨ j = 11 ∨ j = 12 ∨ 12 < j) with rfl | rfl | rfl | rfl | rfl | rfl | rfl | rfl | rfl | rfl | rfl | rfl | h
  all_goals first | rfl | (simp only [Array.getD_eq_getD_getElem?]; rw [Array.getElem?_eq_none (by simp; omega), Array.getElem?_eq_none (by simp; omega)])
theorem but_p7 {a7 b7 v0 v1 v10 v11 v12 v2 v3 v4 v5 v6 v8 v9 : Value} (j : Nat) (h7 : j ≠ 7) : (#[v0, v1, v2, v3, v4, v5, v6, a7, v8, v9, v10, v11, v12] : Array Value).getD j undef = (#[v0, v1, v2, v3, v4, v5, v6, b7, v8, v9, v10, v11, v12] : Array Value).getD j undef := by
  rcases (by omega : j = 0 ∨ j = 1 ∨ j = 2 ∨ j = 3 ∨ j = 4 ∨ j = 5 ∨ j = 6 ∨ j = 8 ∨ j = 9 ∨ j = 10 ∨ j = 11 ∨ j = 12 ∨ 12 < j) with rfl | rfl | rfl | rfl | rfl | rfl | rfl | rfl | rfl | rfl | rfl | rfl | h
  all_goals first | rfl | (simp only [Array.getD_eq_getD_getElem?]; rw [Array.getElem?_eq_none (by simp; omega), Array.getElem?_eq_none (by simp; omega)])
theorem but_p11 {a11 a12 b11 b12 v0 v1 v10 v2 v3 v4 v5 v6 v7 v8 v9 : Value} (j : Nat) (h11 : j ≠ 11) (h12 : j ≠ 12) : (#[v0, v1, v2, v3, v4, v5, v6, v7, v8, v9, v10, a11, a12] : Array Value).getD j undef = (#[v0, v1, v2, v3, v4, v5, v6, v7, v8, v9, v10, b11, b12] : Array Value).getD j undef := by
  rcases (by omega : j = 0 ∨ j = 1 ∨ j = 2 ∨ j = 3 ∨ j = 4 ∨ j = 5 ∨ j = 6 ∨ j = 7 ∨ j = 8 ∨ j = 9 ∨ j = 10 ∨ 12 < j) with rfl | rfl | rfl | rfl | rfl | rfl | rfl | rfl | rfl | rfl | rfl | h
  all_goals first | rfl | (simp only [Array.getD_eq_getD_getElem?]; rw [Array.getElem?_eq_none (by simp; omega), Array.getElem?_eq_none (by simp; omega)])
section
variable (ad : Addr) (cc B : Nat) (l : List Nat) (n : Nat) (w : World) (ho : w.ownsRow B 3 1 (.slice (some ad) l.length cc) l.length (ic (natI l))) (hs : StrictN l) (hn : l.length ≤ 1000) (hB : B ≤ w.heap.size)
include ho hs hn hB
set_option maxRecDepth 100000 in
set_option maxHeartbeats 4000000 in
theorem l1Put_any : Calls Tryd.prog 72 #[.slice (some ad) l.length cc, .int .i64 (n : Int)] w fun e w' => ∃ ad' c', e = .returned (.slice (some ad') (putN n l).length c') ∧ w'.ownsRow B 3 1 (.slice (some ad') (putN n l).length c') (putN n l).length (ic (natI (putN n l))) ∧ Below w.heap.size w w' := by
  obtain ⟨i0, hi, hz0, hz1, hz2⟩ := info_parts infoI
  have hcc := (slice_some ho).2
  have HSAME : Hid (putN n l = l → ∀ w', Below w.heap.size w w' → ∃ ad' c', (Ending.returned (.slice (some ad) l.length cc)) = .returned (.slice (some ad') (putN n l).length c') ∧ w'.ownsRow B 3 1 (.slice (some ad') (putN n l).length c') (putN n l).length (ic (natI (putN n l))) ∧ Below w.heap.size w w') := fun e w' hb => by
    rw [e]
    exact ⟨ad, cc, rfl, own_blw ho hb, hb⟩
  have HRO := Lib.hid (Row.of_own ho)
  have HST := Lib.hid hs
  have hle := lessTo_le n l
  clear ho hs
  go_enter Tryd.func72, Tryd.ntmps72
  go_wp2
  go_loopw [5] (fun i wr => ∃ k m : Nat, k ≤ lessTo n l ∧ i = .int .i64 (k : Int) ∧ wr = w.drewN m) (fun i _ => l.length - (intOf i).toNat)
  case atStart => exact ⟨0, 0, Nat.zero_le _, rfl, rfl⟩
  case round =>
    obtain ⟨k, m, hk, rfl, rfl⟩ := hrel
    have hk0 : (0 : Int) ≤ k := by omega
    by_cases hkl : k < l.length
    · have hk1 : (k : Int) < l.length := by omega
      have hr' : Row (w.drewN m) (some ad) (ic (natI l)) := HRO.out
      obtain ⟨ad', hA', hc0⟩ := hr'.nat hkl
      injection hA' with hA'
      subst hA'
      have hnx := lessTo_next hk hkl
      by_cases hlt : k < lessTo n l
      · have hxn := hnx.2 hlt
        clear hr' hnx
        generalize l[k] = x at *
        go_wp2
        go_roundw
        case rel => exact ⟨k + 1, m, by omega, by go_num, rfl⟩
        case measure => simp [intOf]; omega
      · have hke : k = lessTo n l := by omega
        have hxn : n ≤ l[k] := by have := lessTo_stop (x := n) (l := l) (by omega); simp only [← hke] at this; exact this
        by_cases hex : l[k] = n
        · have HE := Lib.hid (HSAME.out (put_found (x := n) (l := l) (by omega) (by simp only [← hke]; exact hex)) (w.drewN m) (below_drewN (Below.refl _ _) m))
          rw [hex] at hc0
          have dlt : decide ((n : Int) < (n : Int)) = false := decide_eq_false (by omega)
          clear hr' hnx HSAME hxn hex hke hk hlt hle
          go_wp2
          go_ret
          exact HE.out
        · have HP := Lib.hid (put_not (x := n) HST.out (fun h => by simp only [← hke]; exact hex))
          rw [← hke] at HP
          have hoI : (natI l).length = l.length := by simp
          have HDONE : Hid (∀ (w'' : World) (g4 c4 : Nat), w''.ownsRow (w.drewN m).heap.size 3 1 (.slice (some ⟨g4, 0, none⟩) (l.length + 1) c4) (l.length + 1) (ic ((natI l).take k ++ [(n : Int)] ++ (natI l).drop k)) → Below (w.drewN m).heap.size (w.drewN m) w'' → ∃ ad' c', (Ending.returned (.slice (some ⟨g4, 0, none⟩) (l.length + 1) c4)) = .returned (.slice (some ad') (putN n l).length c') ∧ w''.ownsRow B 3 1 (.slice (some ad') (putN n l).length c') (putN n l).length (ic (natI (putN n l))) ∧ Below w.heap.size w w'') := fun w'' g4 c4 h1 h2 => by
            have e1 : (putN n l).length = l.length + 1 := by rw [HP.out]; simp; omega
            have e2 : natI (putN n l) = (natI l).take k ++ [(n : Int)] ++ (natI l).drop k := by rw [HP.out]; unfold natI; simp
            rw [e1, e2]
            exact ⟨_, _, rfl, own_low (B' := w.heap.size) h1 hB, ⟨h2.os, h2.tape, h2.output, h2.size, h2.block⟩⟩
          have hxne : ((l[k] : Nat) : Int) ≠ (n : Int) := fun e => hex (Int.ofNat.inj e)
          have hxb : (((l[k] : Nat) : Int) == (n : Int)) = false := beq_eq_false_iff_ne.2 hxne
          have HRW : Hid (Row (w.drewN m) (some ad) (ic (natI l))) := hr'
          generalize l[k] = x0 at *
          generalize natI l = oI at *
          have hoI1 : oI.length ≤ l.length := by omega
          have hoI2 : l.length ≤ oI.length := by omega
          have hkl2 : k ≤ l.length := by omega
          clear hr' hnx HSAME HP hex HST HRO hoI hke hlt hle hk
          generalize w.drewN m = w1 at *
          have dlt : decide (x0 < n) = false := decide_eq_false (by omega)
          have dl2 : ¬ x0 < n := by omega
          clear hB
          go_wp2
          refine wp_region_detG (by kernel_rfl) (fun x L w' => Below w1.heap.size w1 w' ∧ (L.getD 0 true = true → L.getD 4 true = false → w'.ownsRow w1.heap.size 3 1 (.slice (some ⟨x.1, 0, none⟩) 0 0) 0 []) ∧ (L.getD 4 true = true → L.getD 7 true = false → w'.ownsRow w1.heap.size 3 1 x.2.1 k (ic (oI.take k))) ∧ (L.getD 6 true = true → L.getD 7 true = false → BlockIs w' x.2.2.1 3 #[.int .i64 (n : Int)]) ∧ (L.getD 7 true = true → L.getD 11 true = false → w'.ownsRow w1.heap.size 3 1 x.2.2.2.1 (k + 1) (ic (oI.take k ++ [(n : Int)]))) ∧ (L.getD 11 true = true → L.getD 7 true = true ∧ w'.ownsRow w1.heap.size 3 1 x.2.2.2.2 (l.length + 1) (ic (oI.take k ++ [(n : Int)] ++ oI.drop k))) ∧ (L.getD 7 true = true → L.getD 4 true = true))
            (fun x kk => #[.slice (some ⟨x.1, 0, none⟩) 0 0, .slice (some ad) l.length cc, .int .i64 (k : Int), .slice (some ad) k cc, x.2.1, .int .i64 (n : Int), .slice (some ⟨x.2.2.1, 0, none⟩) 1 1, x.2.2.2.1, .slice (some ad) l.length cc, .int .i64 (k : Int), .slice (some (tailAd ad k cc)) (l.length - k) (cc - k), x.2.2.2.2, x.2.2.2.2].getD kk undef) (0, undef, 0, undef, undef) (by kernel_rfl) (by kernel_rfl) ⟨(Below.refl _ _).drew, (fun h => by cases h), (fun h => by cases h), (fun h => by cases h), (fun h => by cases h), (fun h => by cases h), fun h => by cases h⟩ ?_ ?_
          · intro x L tm w' hall hS hsz hlow hval
            have ht : tm = #[.slice (some ad) l.length cc, .int .i64 (n : Int), undef, undef, x.2.2.2.2, .int .i64 (k : Int), .int .i64 (k : Int), .slice (some ad) l.length cc, .int .i64 (l.length : Int), .bool true, .bool true, .slice (some ad) l.length cc, .int .i64 (k : Int), .pointer (some (ad.add k)), .int .i64 (x0 : Int), .int .i64 (n : Int), .bool false, .bool false, u18, u19, .int .i64 (k : Int), .slice (some ad) l.length cc, .int .i64 (l.length : Int), .bool true, .bool true, .slice (some ad) l.length cc, .int .i64 (k : Int), .pointer (some (ad.add k)), .int .i64 (x0 : Int), .int .i64 (n : Int), .bool false, .bool false, undef, .slice (some ⟨x.1, 0, none⟩) 0 0, .slice (some ad) l.length cc, .int .i64 (k : Int), .slice (some ad) k cc, x.2.1, .int .i64 (n : Int), .slice (some ⟨x.2.2.1, 0, none⟩) 1 1, x.2.2.2.1, .slice (some ad) l.length cc, .int .i64 (k : Int), .slice (some (tailAd ad k cc)) (l.length - k) (cc - k), x.2.2.2.2] := by
              refine arr_of _ _ hsz fun t ht => ?_
              have ht' : t < 45 := ht
              rcases (by omega : t = 0 ∨ t = 1 ∨ t = 2 ∨ t = 3 ∨ t = 4 ∨ t = 5 ∨ t = 6 ∨ t = 7 ∨ t = 8 ∨ t = 9 ∨ t = 10 ∨ t = 11 ∨ t = 12 ∨ t = 13 ∨ t = 14 ∨ t = 15 ∨ t = 16 ∨ t = 17 ∨ t = 18 ∨ t = 19 ∨ t = 20 ∨ t = 21 ∨ t = 22 ∨ t = 23 ∨ t = 24 ∨ t = 25 ∨ t = 26 ∨ t = 27 ∨ t = 28 ∨ t = 29 ∨ t = 30 ∨ t = 31 ∨ t = 32 ∨ t = 33 ∨ t = 34 ∨ t = 35 ∨ t = 36 ∨ t = 37 ∨ t = 38 ∨ t = 39 ∨ t = 40 ∨ t = 41 ∨ t = 42 ∨ t = 43 ∨ t = 44) with rfl | rfl | rfl | rfl | rfl | rfl | rfl | rfl | rfl | rfl | rfl | rfl | rfl | rfl | rfl | rfl | rfl | rfl | rfl | rfl | rfl | rfl | rfl | rfl | rfl | rfl | rfl | rfl | rfl | rfl | rfl | rfl | rfl | rfl | rfl | rfl | rfl | rfl | rfl | rfl | rfl | rfl | rfl | rfl | rfl
              · exact hlow 0 (by kernel_rfl)
              · exact hlow 1 (by kernel_rfl)
              · exact hlow 2 (by kernel_rfl)
              · exact hlow 3 (by kernel_rfl)
              · exact hval 12 _ 4 rfl rfl
              · exact hlow 5 (by kernel_rfl)
              · exact hlow 6 (by kernel_rfl)
              · exact hlow 7 (by kernel_rfl)
              · exact hlow 8 (by kernel_rfl)
              · exact hlow 9 (by kernel_rfl)
              · exact hlow 10 (by kernel_rfl)
              · exact hlow 11 (by kernel_rfl)
              · exact hlow 12 (by kernel_rfl)
              · exact hlow 13 (by kernel_rfl)
              · exact hlow 14 (by kernel_rfl)
              · exact hlow 15 (by kernel_rfl)
              · exact hlow 16 (by kernel_rfl)
              · exact hlow 17 (by kernel_rfl)
              · exact hlow 18 (by kernel_rfl)
              · exact hlow 19 (by kernel_rfl)
              · exact hlow 20 (by kernel_rfl)
              · exact hlow 21 (by kernel_rfl)
              · exact hlow 22 (by kernel_rfl)
              · exact hlow 23 (by kernel_rfl)
              · exact hlow 24 (by kernel_rfl)
              · exact hlow 25 (by kernel_rfl)
              · exact hlow 26 (by kernel_rfl)
              · exact hlow 27 (by kernel_rfl)
              · exact hlow 28 (by kernel_rfl)
              · exact hlow 29 (by kernel_rfl)
              · exact hlow 30 (by kernel_rfl)
              · exact hlow 31 (by kernel_rfl)
              · exact hlow 32 (by kernel_rfl)
              · exact hval 0 _ 33 rfl rfl
              · exact hval 1 _ 34 rfl rfl
              · exact hval 2 _ 35 rfl rfl
              · exact hval 3 _ 36 rfl rfl
              · exact hval 4 _ 37 rfl rfl
              · exact hval 5 _ 38 rfl rfl
              · exact hval 6 _ 39 rfl rfl
              · exact hval 7 _ 40 rfl rfl
              · exact hval 8 _ 41 rfl rfl
              · exact hval 9 _ 42 rfl rfl
              · exact hval 10 _ 43 rfl rfl
              · exact hval 11 _ 44 rfl rfl
            subst ht
            clear hlow hval hsz
            obtain ⟨hbz, _, _, _, _, hS5, _⟩ := hS
            have hfin := (hS5 (hall 11 (by decide))).2
            have HO4 := Lib.hid (And.intro hfin hbz)
            clear hS5 hbz hall hfin
            obtain ⟨g4, _, ⟨c4, hx4⟩, _⟩ := own_block2 HO4.out.1 (by omega)
            generalize x.2.2.2.2 = y4 at *
            subst hx4
            go_wp2
            go_ret
            exact HDONE.out _ _ _ HO4.out.1 HO4.out.2
          · intro x L a w' kk op hLs ho hLi hLd hLn ⟨hS0, hS1, hS2, hS3, hS4, hS5, hS6⟩ hlow hdep hold
            have hkk : kk < 13 := (Array.getElem?_eq_some_iff.1 ho).1
            have l0 : a.tmps[0]?.getD undef = .slice (some ad) l.length cc := by rw [← Array.getD_eq_getD_getElem?]; exact hlow 0 (by kernel_rfl)
            have l1 : a.tmps[1]?.getD undef = .int .i64 (n : Int) := by rw [← Array.getD_eq_getD_getElem?]; exact hlow 1 (by kernel_rfl)
            have l5 : a.tmps[5]?.getD undef = .int .i64 (k : Int) := by rw [← Array.getD_eq_getD_getElem?]; exact hlow 5 (by kernel_rfl)
            have D : ∀ j oj d, edgeB _ kk j = true → _ → _ → a.tmps[d]?.getD undef = _ := fun j oj d h1 h2 h3 => (Array.getD_eq_getD_getElem? ..).symm.trans (hdep j oj d h1 h2 h3)
            have K : ∀ {kk : Nat}, kk ≠ 0 → kk ≠ 4 → kk ≠ 6 → kk ≠ 7 → kk ≠ 11 → Below w1.heap.size w1 w' ∧ ((L.setIfInBounds kk true).getD 0 true = true → (L.setIfInBounds kk true).getD 4 true = false → w'.ownsRow w1.heap.size 3 1 (.slice (some ⟨x.1, 0, none⟩) 0 0) 0 []) ∧ ((L.setIfInBounds kk true).getD 4 true = true → (L.setIfInBounds kk true).getD 7 true = false → w'.ownsRow w1.heap.size 3 1 x.2.1 k (ic (oI.take k))) ∧ ((L.setIfInBounds kk true).getD 6 true = true → (L.setIfInBounds kk true).getD 7 true = false → BlockIs w' x.2.2.1 3 #[.int .i64 (n : Int)]) ∧ ((L.setIfInBounds kk true).getD 7 true = true → (L.setIfInBounds kk true).getD 11 true = false → w'.ownsRow w1.heap.size 3 1 x.2.2.2.1 (k + 1) (ic (oI.take k ++ [(n : Int)]))) ∧ ((L.setIfInBounds kk true).getD 11 true = true → (L.setIfInBounds kk true).getD 7 true = true ∧ w'.ownsRow w1.heap.size 3 1 x.2.2.2.2 (l.length + 1) (ic (oI.take k ++ [(n : Int)] ++ oI.drop k))) ∧ ((L.setIfInBounds kk true).getD 7 true = true → (L.setIfInBounds kk true).getD 4 true = true) := fun h0 h4 h6 h7 h11 => ⟨hS0, by rw [set_ne h0, set_ne h4]; exact hS1, by rw [set_ne h4, set_ne h7]; exact hS2, by rw [set_ne h6, set_ne h7]; exact hS3, by rw [set_ne h7, set_ne h11]; exact hS4, by rw [set_ne h11, set_ne h7]; exact hS5, by rw [set_ne h7, set_ne h4]; exact hS6⟩
            rcases (by omega : kk = 0 ∨ kk = 1 ∨ kk = 2 ∨ kk = 3 ∨ kk = 4 ∨ kk = 5 ∨ kk = 6 ∨ kk = 7 ∨ kk = 8 ∨ kk = 9 ∨ kk = 10 ∨ kk = 11 ∨ kk = 12) with rfl | rfl | rfl | rfl | rfl | rfl | rfl | rfl | rfl | rfl | rfl | rfl | rfl
            · obtain rfl := Option.some.inj ho
              refine ⟨rfl, .inl ⟨(w'.heap.size, x.2), w'.alloc (.cells #[] 3), fun j hj => ?_, by simp [execOp, Act.eval, go_sem], hS0.alloc hS0.size _, (fun _ _ => World.ownsRow_made w' #[] 0 hS0.size (by unfold maxLen; omega) rfl), (fun h => ?_), (fun h h' => ?_), (fun h => ?_), (fun h => ?_), fun h => ?_⟩⟩
              · have n0 : j ≠ 0 := fun e => by subst e; rw [hLi] at hj; cases hj
                exact but_p0 j n0
              · rw [set_ne (by decide), hLn 4 (by kernel_rfl)] at h; cases h
              · rw [set_ne (by decide)] at h h'; exact (hS3 h h').below ((Below.refl _ _).alloc (Nat.le_refl _) _)
              · rw [set_ne (by decide)] at h; have h4 := hS6 h; rw [hLn 4 (by kernel_rfl)] at h4; cases h4
              · rw [set_ne (by decide)] at h; have h4 := hS6 (hS5 h).1; rw [hLn 4 (by kernel_rfl)] at h4; cases h4
              · rw [set_ne (by decide)] at h ⊢; exact hS6 h
            · obtain rfl := Option.some.inj ho
              exact ⟨rfl, .inl ⟨x, w', fun _ _ => rfl, by simp [execOp, Act.eval, l0, go_sem], K (by decide) (by decide) (by decide) (by decide) (by decide)⟩⟩
            · obtain rfl := Option.some.inj ho
              exact ⟨rfl, .inl ⟨x, w', fun _ _ => rfl, by simp [execOp, Act.eval, l5, go_sem], K (by decide) (by decide) (by decide) (by decide) (by decide)⟩⟩
            · obtain rfl := Option.some.inj ho
              have e34 : a.tmps[34]?.getD undef = .slice (some ad) l.length cc := D 1 _ 34 (by kernel_rfl) rfl rfl
              have e35 : a.tmps[35]?.getD undef = .int .i64 (k : Int) := D 2 _ 35 (by kernel_rfl) rfl rfl
              have x34 : a.eval (.tmp 34) = .slice (some ad) l.length cc := by simp [Act.eval, e34]
              have x35 : a.eval (.tmp 35) = .int .i64 (k : Int) := by simp [Act.eval, e35]
              have hsl : (Instr.sliceAt 23 (a.eval (.tmp 34)) none ((some (Operand.tmp 35)).map a.eval) none).run Tryd.prog w' = .ok (.slice (some ad) k cc) w' := by
                rw [x34, Option.map_some, x35]; exact slice_h ad _ cc k w' (by omega)
              exact ⟨rfl, .inl ⟨x, w', fun _ _ => rfl, exec_slice rfl hsl, K (by decide) (by decide) (by decide) (by decide) (by decide)⟩⟩
            · obtain rfl := Option.some.inj ho
              have e33 : a.tmps[33]?.getD undef = .slice (some ⟨x.1, 0, none⟩) 0 0 := D 0 _ 33 (by kernel_rfl) rfl rfl
              have e36 : a.tmps[36]?.getD undef = .slice (some ad) k cc := D 3 _ 36 (by kernel_rfl) rfl rfl
              have x33 : a.eval (.tmp 33) = .slice (some ⟨x.1, 0, none⟩) 0 0 := by simp [Act.eval, e33]
              have x36 : a.eval (.tmp 36) = .slice (some ad) k cc := by simp [Act.eval, e36]
              have hown := hS1 (hLd 0 (by kernel_rfl)) hLi
              obtain ⟨v', w'', hrun, hown', hgrow, hnil⟩ := run_append_own (P := Tryd.prog) w' w1.heap.size 23 23 3 i0 (.int .i64 0) 1 8 Tryd.underlying23 hi hz0 hz1 hz2 rfl (by decide) (.slice (some ⟨x.1, 0, none⟩) 0 0) 0 _ hown ad k cc (ic (oI.take k)) (by rw [ic_len]; simp; omega) (head_src (HRW.out.below hS0) (by omega)) ic_one (by unfold maxLen; omega) (by omega) hS0.size
              have hbz : Below w1.heap.size w1 w'' := hS0.grown hgrow hS0.size (fun b hb => (hown.lt b hb).1)
              refine ⟨rfl, .inl ⟨(x.1, v', x.2.2), w'', fun j hj => ?_, exec_append rfl x33 x36 hrun, hbz, (fun _ h => ?_), (fun _ _ => ?_), (fun h h' => ?_), (fun h => ?_), (fun h => ?_), fun _ => ?_⟩⟩
              · have n4 : j ≠ 4 := fun e => by subst e; rw [hLi] at hj; cases hj
                exact but_p4 j n4
              · rw [set_eq (by rw [hLs]; decide)] at h; cases h
              · rw [List.nil_append, Nat.zero_add] at hown'; exact hown'
              · rw [set_ne (by decide)] at h h'
                have hB := hS3 h h'
                refine (hgrow.block _ hB.lt fun e => ?_).trans hB
                have eg : x.1 = x.2.2.1 := (Option.some.inj e).symm
                exact empty_ne hown (eg ▸ hB)
              · rw [set_ne (by decide), hLn 7 (by kernel_rfl)] at h; cases h
              · rw [set_ne (by decide)] at h; have h9 := (hS5 h).1; rw [hLn 7 (by kernel_rfl)] at h9; cases h9
              · rw [set_eq (by rw [hLs]; decide)]
            · obtain rfl := Option.some.inj ho
              exact ⟨rfl, .inl ⟨x, w', fun _ _ => rfl, by simp [execOp, Act.eval, l1, go_sem], K (by decide) (by decide) (by decide) (by decide) (by decide)⟩⟩
            · obtain rfl := Option.some.inj ho
              have e38 : a.tmps[38]?.getD undef = .int .i64 (n : Int) := D 5 _ 38 (by kernel_rfl) rfl rfl
              refine ⟨rfl, .inl ⟨(x.1, x.2.1, w'.heap.size, x.2.2.2), w'.alloc (.cells #[.int .i64 (n : Int)] 3), fun j hj => ?_, by simp [execOp, Act.eval, e38, go_sem], hS0.alloc hS0.size _, (fun h h' => ?_), (fun h h' => ?_), (fun _ _ => BlockIs.new _ _ _), (fun h => ?_), (fun h => ?_), fun h => ?_⟩⟩
              · have n6 : j ≠ 6 := fun e => by subst e; rw [hLi] at hj; cases hj
                exact but_p6 j n6
              · rw [set_ne (by decide)] at h h'; exact (hS1 h h').alloc _
              · rw [set_ne (by decide)] at h h'; exact (hS2 h h').alloc _
              · rw [set_ne (by decide), hLn 7 (by kernel_rfl)] at h; cases h
              · rw [set_ne (by decide)] at h; have h9 := (hS5 h).1; rw [hLn 7 (by kernel_rfl)] at h9; cases h9
              · rw [set_ne (by decide)] at h ⊢; exact hS6 h
            · obtain rfl := Option.some.inj ho
              have e37 : a.tmps[37]?.getD undef = x.2.1 := D 4 _ 37 (by kernel_rfl) rfl rfl
              have e39 : a.tmps[39]?.getD undef = .slice (some ⟨x.2.2.1, 0, none⟩) 1 1 := D 6 _ 39 (by kernel_rfl) rfl rfl
              have x37 : a.eval (.tmp 37) = x.2.1 := by simp [Act.eval, e37]
              have x39 : a.eval (.tmp 39) = .slice (some ⟨x.2.2.1, 0, none⟩) 1 1 := by simp [Act.eval, e39]
              have hown := hS2 (hLd 4 (by kernel_rfl)) hLi
              have hB8 := hS3 (hLd 6 (by kernel_rfl)) hLi
              have hsrc : ∀ j u, (ic [(n : Int)])[j]? = some u → w'.cell? ((⟨x.2.2.1, 0, none⟩ : Addr).add j) = some u := fun j u hu => by rw [Addr.add_lit, Nat.zero_add, hB8.cell, ← Array.getElem?_toList]; exact hu
              obtain ⟨v', w'', hrun, hown', hgrow, hnil⟩ := run_append_own (P := Tryd.prog) w' w1.heap.size 23 23 3 i0 (.int .i64 0) 1 8 Tryd.underlying23 hi hz0 hz1 hz2 rfl (by decide) x.2.1 k _ hown ⟨x.2.2.1, 0, none⟩ 1 1 (ic [(n : Int)]) rfl hsrc ic_one (by unfold maxLen; omega) (by omega) hS0.size
              have hbz : Below w1.heap.size w1 w'' := hS0.grown hgrow hS0.size (fun b hb => (hown.lt b hb).1)
              refine ⟨rfl, .inl ⟨(x.1, x.2.1, x.2.2.1, v', x.2.2.2.2), w'', fun j hj => ?_, exec_append rfl x37 x39 hrun, hbz, (fun h h' => ?_), (fun _ h => ?_), (fun _ h => ?_), (fun _ _ => ?_), (fun h => ?_), fun _ => ?_⟩⟩
              · have n7 : j ≠ 7 := fun e => by subst e; rw [hLi] at hj; cases hj
                exact but_p7 j n7
              · rw [set_ne (by decide)] at h'; have h9 := hLd 4 (by kernel_rfl); rw [h9] at h'; cases h'
              · rw [set_eq (by rw [hLs]; decide)] at h; cases h
              · rw [set_eq (by rw [hLs]; decide)] at h; cases h
              · have hx : ic (oI.take k) ++ ic [(n : Int)] = ic (oI.take k ++ [(n : Int)]) := by unfold ic; simp
                rw [hx] at hown'; exact hown'
              · rw [set_ne (by decide), hLn 11 (by kernel_rfl)] at h; cases h
              · rw [set_ne (by decide)]; exact hLd 4 (by kernel_rfl)
            · obtain rfl := Option.some.inj ho
              exact ⟨rfl, .inl ⟨x, w', fun _ _ => rfl, by simp [execOp, Act.eval, l0, go_sem], K (by decide) (by decide) (by decide) (by decide) (by decide)⟩⟩
            · obtain rfl := Option.some.inj ho
              exact ⟨rfl, .inl ⟨x, w', fun _ _ => rfl, by simp [execOp, Act.eval, l5, go_sem], K (by decide) (by decide) (by decide) (by decide) (by decide)⟩⟩
            · obtain rfl := Option.some.inj ho
              have e41 : a.tmps[41]?.getD undef = .slice (some ad) l.length cc := D 8 _ 41 (by kernel_rfl) rfl rfl
              have e42 : a.tmps[42]?.getD undef = .int .i64 (k : Int) := D 9 _ 42 (by kernel_rfl) rfl rfl
              have x41 : a.eval (.tmp 41) = .slice (some ad) l.length cc := by simp [Act.eval, e41]
              have x42 : a.eval (.tmp 42) = .int .i64 (k : Int) := by simp [Act.eval, e42]
              have hsl : (Instr.sliceAt 23 (a.eval (.tmp 41)) ((some (Operand.tmp 42)).map a.eval) none none).run Tryd.prog w' = .ok (.slice (some (tailAd ad k cc)) (l.length - k) (cc - k)) w' := by
                rw [x41, Option.map_some, x42]; exact slice_l ad _ cc k w' (by omega)
              exact ⟨rfl, .inl ⟨x, w', fun _ _ => rfl, exec_slice rfl hsl, K (by decide) (by decide) (by decide) (by decide) (by decide)⟩⟩
            · obtain rfl := Option.some.inj ho
              have e40 : a.tmps[40]?.getD undef = x.2.2.2.1 := D 7 _ 40 (by kernel_rfl) rfl rfl
              have e43 : a.tmps[43]?.getD undef = .slice (some (tailAd ad k cc)) (l.length - k) (cc - k) := D 10 _ 43 (by kernel_rfl) rfl rfl
              have x40 : a.eval (.tmp 40) = x.2.2.2.1 := by simp [Act.eval, e40]
              have x43 : a.eval (.tmp 43) = .slice (some (tailAd ad k cc)) (l.length - k) (cc - k) := by simp [Act.eval, e43]
              have t9 : L.getD 7 true = true := hLd 7 (by kernel_rfl)
              have hown := hS4 t9 hLi
              obtain ⟨v', w'', hrun, hown', hgrow, hnil⟩ := run_append_own (P := Tryd.prog) w' w1.heap.size 23 23 3 i0 (.int .i64 0) 1 8 Tryd.underlying23 hi hz0 hz1 hz2 rfl (by decide) x.2.2.2.1 (k + 1) _ hown (tailAd ad k cc) (l.length - k) (cc - k) (ic (oI.drop k)) (by rw [ic_len]; simp; omega) (tail_src (HRW.out.below hS0) (by omega)) ic_one (by unfold maxLen; omega) (by omega) hS0.size
              have hbz : Below w1.heap.size w1 w'' := hS0.grown hgrow hS0.size (fun b hb => (hown.lt b hb).1)
              refine ⟨rfl, .inl ⟨(x.1, x.2.1, x.2.2.1, x.2.2.2.1, v'), w'', fun j hj => ?_, exec_append rfl x40 x43 hrun, hbz, (fun h h' => ?_), (fun _ h => ?_), (fun _ h => ?_), (fun _ h => ?_), (fun _ => ?_), fun _ => ?_⟩⟩
              · have n11 : j ≠ 11 := fun e => by subst e; rw [hLi] at hj; cases hj
                have f12 : L.getD 12 true = false := hLn 12 (by kernel_rfl)
                have n12 : j ≠ 12 := fun e => by subst e; rw [f12] at hj; cases hj
                exact but_p11 j n11 n12
              · rw [set_ne (by decide), hS6 t9] at h'; cases h'
              · rw [set_ne (by decide), t9] at h; cases h
              · rw [set_ne (by decide), t9] at h; cases h
              · rw [set_eq (by rw [hLs]; decide)] at h; cases h
              · have hx : ic (oI.take k ++ [(n : Int)]) ++ ic (oI.drop k) = ic (oI.take k ++ [(n : Int)] ++ oI.drop k) := by unfold ic; simp
                rw [hx, show k + 1 + (l.length - k) = l.length + 1 by omega] at hown'; exact ⟨by rw [set_ne (by decide)]; exact t9, hown'⟩
              · rw [set_ne (by decide)]; exact hS6 t9
            · obtain rfl := Option.some.inj ho
              have e44 : a.tmps[44]?.getD undef = x.2.2.2.2 := D 11 _ 44 (by kernel_rfl) rfl rfl
              exact ⟨rfl, .inl ⟨x, w', fun _ _ => rfl, by simp [execOp, Act.eval, e44, go_sem], K (by decide) (by decide) (by decide) (by decide) (by decide)⟩⟩
    · have hke : k = lessTo n l := by omega
      have HP := Lib.hid (put_not (x := n) HST.out (fun h => absurd h (by omega)))
      rw [← hke] at HP
      have hoI : (natI l).length = l.length := by simp
      have HDONE : Hid (∀ (w'' : World) (g4 c4 : Nat), w''.ownsRow (w.drewN m).heap.size 3 1 (.slice (some ⟨g4, 0, none⟩) (l.length + 1) c4) (l.length + 1) (ic ((natI l).take k ++ [(n : Int)] ++ (natI l).drop k)) → Below (w.drewN m).heap.size (w.drewN m) w'' → ∃ ad' c', (Ending.returned (.slice (some ⟨g4, 0, none⟩) (l.length + 1) c4)) = .returned (.slice (some ad') (putN n l).length c') ∧ w''.ownsRow B 3 1 (.slice (some ad') (putN n l).length c') (putN n l).length (ic (natI (putN n l))) ∧ Below w.heap.size w w'') := fun w'' g4 c4 h1 h2 => by
        have e1 : (putN n l).length = l.length + 1 := by rw [HP.out]; simp; omega
        have e2 : natI (putN n l) = (natI l).take k ++ [(n : Int)] ++ (natI l).drop k := by rw [HP.out]; unfold natI; simp
        rw [e1, e2]
        exact ⟨_, _, rfl, own_low (B' := w.heap.size) h1 hB, ⟨h2.os, h2.tape, h2.output, h2.size, h2.block⟩⟩
      have HRW : Hid (Row (w.drewN m) (some ad) (ic (natI l))) := HRO.out
      generalize natI l = oI at *
      have hoI1 : oI.length ≤ l.length := by omega
      have hoI2 : l.length ≤ oI.length := by omega
      have hkl2 : k ≤ l.length := by omega
      clear HSAME HP HST HRO hoI hke hle hk
      generalize w.drewN m = w1 at *
      clear hB
      go_wp2
      refine wp_region_detG (by kernel_rfl) (fun x L w' => Below w1.heap.size w1 w' ∧ (L.getD 0 true = true → L.getD 4 true = false → w'.ownsRow w1.heap.size 3 1 (.slice (some ⟨x.1, 0, none⟩) 0 0) 0 []) ∧ (L.getD 4 true = true → L.getD 7 true = false → w'.ownsRow w1.heap.size 3 1 x.2.1 k (ic (oI.take k))) ∧ (L.getD 6 true = true → L.getD 7 true = false → BlockIs w' x.2.2.1 3 #[.int .i64 (n : Int)]) ∧ (L.getD 7 true = true → L.getD 11 true = false → w'.ownsRow w1.heap.size 3 1 x.2.2.2.1 (k + 1) (ic (oI.take k ++ [(n : Int)]))) ∧ (L.getD 11 true = true → L.getD 7 true = true ∧ w'.ownsRow w1.heap.size 3 1 x.2.2.2.2 (l.length + 1) (ic (oI.take k ++ [(n : Int)] ++ oI.drop k))) ∧ (L.getD 7 true = true → L.getD 4 true = true))
        (fun x kk => #[.slice (some ⟨x.1, 0, none⟩) 0 0, .slice (some ad) l.length cc, .int .i64 (k : Int), .slice (some ad) k cc, x.2.1, .int .i64 (n : Int), .slice (some ⟨x.2.2.1, 0, none⟩) 1 1, x.2.2.2.1, .slice (some ad) l.length cc, .int .i64 (k : Int), .slice (some (tailAd ad k cc)) (l.length - k) (cc - k), x.2.2.2.2, x.2.2.2.2].getD kk undef) (0, undef, 0, undef, undef) (by kernel_rfl) (by kernel_rfl) ⟨(Below.refl _ _).drew, (fun h => by cases h), (fun h => by cases h), (fun h => by cases h), (fun h => by cases h), (fun h => by cases h), fun h => by cases h⟩ ?_ ?_
      · intro x L tm w' hall hS hsz hlow hval
        have ht : tm = #[.slice (some ad) l.length cc, .int .i64 (n : Int), undef, undef, x.2.2.2.2, .int .i64 (k : Int), .int .i64 (k : Int), .slice (some ad) l.length cc, .int .i64 (l.length : Int), .bool false, .bool false, undef, undef, undef, undef, undef, undef, .bool false, u18, u19, .int .i64 (k : Int), .slice (some ad) l.length cc, .int .i64 (l.length : Int), .bool false, .bool false, undef, undef, undef, undef, undef, undef, .bool false, undef, .slice (some ⟨x.1, 0, none⟩) 0 0, .slice (some ad) l.length cc, .int .i64 (k : Int), .slice (some ad) k cc, x.2.1, .int .i64 (n : Int), .slice (some ⟨x.2.2.1, 0, none⟩) 1 1, x.2.2.2.1, .slice (some ad) l.length cc, .int .i64 (k : Int), .slice (some (tailAd ad k cc)) (l.length - k) (cc - k), x.2.2.2.2] := by
          refine arr_of _ _ hsz fun t ht => ?_
          have ht' : t < 45 := ht
          rcases (by omega : t = 0 ∨ t = 1 ∨ t = 2 ∨ t = 3 ∨ t = 4 ∨ t = 5 ∨ t = 6 ∨ t = 7 ∨ t = 8 ∨ t = 9 ∨ t = 10 ∨ t = 11 ∨ t = 12 ∨ t = 13 ∨ t = 14 ∨ t = 15 ∨ t = 16 ∨ t = 17 ∨ t = 18 ∨ t = 19 ∨ t = 20 ∨ t = 21 ∨ t = 22 ∨ t = 23 ∨ t = 24 ∨ t = 25 ∨ t = 26 ∨ t = 27 ∨ t = 28 ∨ t = 29 ∨ t = 30 ∨ t = 31 ∨ t = 32 ∨ t = 33 ∨ t = 34 ∨ t = 35 ∨ t = 36 ∨ t = 37 ∨ t = 38 ∨ t = 39 ∨ t = 40 ∨ t = 41 ∨ t = 42 ∨ t = 43 ∨ t = 44) with rfl | rfl | rfl | rfl | rfl | rfl | rfl | rfl | rfl | rfl | rfl | rfl | rfl | rfl | rfl | rfl | rfl | rfl | rfl | rfl | rfl | rfl | rfl | rfl | rfl | rfl | rfl | rfl | rfl | rfl | rfl | rfl | rfl | rfl | rfl | rfl | rfl | rfl | rfl | rfl | rfl | rfl | rfl | rfl | rfl
          · exact hlow 0 (by kernel_rfl)
          · exact hlow 1 (by kernel_rfl)
          · exact hlow 2 (by kernel_rfl)
          · exact hlow 3 (by kernel_rfl)
          · exact hval 12 _ 4 rfl rfl
          · exact hlow 5 (by kernel_rfl)
          · exact hlow 6 (by kernel_rfl)
          · exact hlow 7 (by kernel_rfl)
          · exact hlow 8 (by kernel_rfl)
          · exact hlow 9 (by kernel_rfl)
          · exact hlow 10 (by kernel_rfl)
          · exact hlow 11 (by kernel_rfl)
          · exact hlow 12 (by kernel_rfl)
          · exact hlow 13 (by kernel_rfl)
          · exact hlow 14 (by kernel_rfl)
          · exact hlow 15 (by kernel_rfl)
          · exact hlow 16 (by kernel_rfl)
          · exact hlow 17 (by kernel_rfl)
          · exact hlow 18 (by kernel_rfl)
          · exact hlow 19 (by kernel_rfl)
          · exact hlow 20 (by kernel_rfl)
          · exact hlow 21 (by kernel_rfl)
          · exact hlow 22 (by kernel_rfl)
          · exact hlow 23 (by kernel_rfl)
          · exact hlow 24 (by kernel_rfl)
          · exact hlow 25 (by kernel_rfl)
          · exact hlow 26 (by kernel_rfl)
          · exact hlow 27 (by kernel_rfl)
          · exact hlow 28 (by kernel_rfl)
          · exact hlow 29 (by kernel_rfl)
          · exact hlow 30 (by kernel_rfl)
          · exact hlow 31 (by kernel_rfl)
          · exact hlow 32 (by kernel_rfl)
          · exact hval 0 _ 33 rfl rfl
          · exact hval 1 _ 34 rfl rfl
          · exact hval 2 _ 35 rfl rfl
          · exact hval 3 _ 36 rfl rfl
          · exact hval 4 _ 37 rfl rfl
          · exact hval 5 _ 38 rfl rfl
          · exact hval 6 _ 39 rfl rfl
          · exact hval 7 _ 40 rfl rfl
          · exact hval 8 _ 41 rfl rfl
          · exact hval 9 _ 42 rfl rfl
          · exact hval 10 _ 43 rfl rfl
          · exact hval 11 _ 44 rfl rfl
        subst ht
        clear hlow hval hsz
        obtain ⟨hbz, _, _, _, _, hS5, _⟩ := hS
        have hfin := (hS5 (hall 11 (by decide))).2
        have HO4 := Lib.hid (And.intro hfin hbz)
        clear hS5 hbz hall hfin
        obtain ⟨g4, _, ⟨c4, hx4⟩, _⟩ := own_block2 HO4.out.1 (by omega)
        generalize x.2.2.2.2 = y4 at *
        subst hx4
        go_wp2
        go_ret
        exact HDONE.out _ _ _ HO4.out.1 HO4.out.2
      · intro x L a w' kk op hLs ho hLi hLd hLn ⟨hS0, hS1, hS2, hS3, hS4, hS5, hS6⟩ hlow hdep hold
        have hkk : kk < 13 := (Array.getElem?_eq_some_iff.1 ho).1
        have l0 : a.tmps[0]?.getD undef = .slice (some ad) l.length cc := by rw [← Array.getD_eq_getD_getElem?]; exact hlow 0 (by kernel_rfl)
        have l1 : a.tmps[1]?.getD undef = .int .i64 (n : Int) := by rw [← Array.getD_eq_getD_getElem?]; exact hlow 1 (by kernel_rfl)
        have l5 : a.tmps[5]?.getD undef = .int .i64 (k : Int) := by rw [← Array.getD_eq_getD_getElem?]; exact hlow 5 (by kernel_rfl)
        have D : ∀ j oj d, edgeB _ kk j = true → _ → _ → a.tmps[d]?.getD undef = _ := fun j oj d h1 h2 h3 => (Array.getD_eq_getD_getElem? ..).symm.trans (hdep j oj d h1 h2 h3)
        have K : ∀ {kk : Nat}, kk ≠ 0 → kk ≠ 4 → kk ≠ 6 → kk ≠ 7 → kk ≠ 11 → Below w1.heap.size w1 w' ∧ ((L.setIfInBounds kk true).getD 0 true = true → (L.setIfInBounds kk true).getD 4 true = false → w'.ownsRow w1.heap.size 3 1 (.slice (some ⟨x.1, 0, none⟩) 0 0) 0 []) ∧ ((L.setIfInBounds kk true).getD 4 true = true → (L.setIfInBounds kk true).getD 7 true = false → w'.ownsRow w1.heap.size 3 1 x.2.1 k (ic (oI.take k))) ∧ ((L.setIfInBounds kk true).getD 6 true = true → (L.setIfInBounds kk true).getD 7 true = false → BlockIs w' x.2.2.1 3 #[.int .i64 (n : Int)]) ∧ ((L.setIfInBounds kk true).getD 7 true = true → (L.setIfInBounds kk true).getD 11 true = false → w'.ownsRow w1.heap.size 3 1 x.2.2.2.1 (k + 1) (ic (oI.take k ++ [(n : Int)]))) ∧ ((L.setIfInBounds kk true).getD 11 true = true → (L.setIfInBounds kk true).getD 7 true = true ∧ w'.ownsRow w1.heap.size 3 1 x.2.2.2.2 (l.length + 1) (ic (oI.take k ++ [(n : Int)] ++ oI.drop k))) ∧ ((L.setIfInBounds kk true).getD 7 true = true → (L.setIfInBounds kk true).getD 4 true = true) := fun h0 h4 h6 h7 h11 => ⟨hS0, by rw [set_ne h0, set_ne h4]; exact hS1, by rw [set_ne h4, set_ne h7]; exact hS2, by rw [set_ne h6, set_ne h7]; exact hS3, by rw [set_ne h7, set_ne h11]; exact hS4, by rw [set_ne h11, set_ne h7]; exact hS5, by rw [set_ne h7, set_ne h4]; exact hS6⟩
        rcases (by omega : kk = 0 ∨ kk = 1 ∨ kk = 2 ∨ kk = 3 ∨ kk = 4 ∨ kk = 5 ∨ kk = 6 ∨ kk = 7 ∨ kk = 8 ∨ kk = 9 ∨ kk = 10 ∨ kk = 11 ∨ kk = 12) with rfl | rfl | rfl | rfl | rfl | rfl | rfl | rfl | rfl | rfl | rfl | rfl | rfl
        · obtain rfl := Option.some.inj ho
          refine ⟨rfl, .inl ⟨(w'.heap.size, x.2), w'.alloc (.cells #[] 3), fun j hj => ?_, by simp [execOp, Act.eval, go_sem], hS0.alloc hS0.size _, (fun _ _ => World.ownsRow_made w' #[] 0 hS0.size (by unfold maxLen; omega) rfl), (fun h => ?_), (fun h h' => ?_), (fun h => ?_), (fun h => ?_), fun h => ?_⟩⟩
          · have n0 : j ≠ 0 := fun e => by subst e; rw [hLi] at hj; cases hj
            exact but_p0 j n0
          · rw [set_ne (by decide), hLn 4 (by kernel_rfl)] at h; cases h
          · rw [set_ne (by decide)] at h h'; exact (hS3 h h').below ((Below.refl _ _).alloc (Nat.le_refl _) _)
          · rw [set_ne (by decide)] at h; have h4 := hS6 h; rw [hLn 4 (by kernel_rfl)] at h4; cases h4
          · rw [set_ne (by decide)] at h; have h4 := hS6 (hS5 h).1; rw [hLn 4 (by kernel_rfl)] at h4; cases h4
          · rw [set_ne (by decide)] at h ⊢; exact hS6 h
        · obtain rfl := Option.some.inj ho
          exact ⟨rfl, .inl ⟨x, w', fun _ _ => rfl, by simp [execOp, Act.eval, l0, go_sem], K (by decide) (by decide) (by decide) (by decide) (by decide)⟩⟩
        · obtain rfl := Option.some.inj ho
          exact ⟨rfl, .inl ⟨x, w', fun _ _ => rfl, by simp [execOp, Act.eval, l5, go_sem], K (by decide) (by decide) (by decide) (by decide) (by decide)⟩⟩
        · obtain rfl := Option.some.inj ho
          have e34 : a.tmps[34]?.getD undef = .slice (some ad) l.length cc := D 1 _ 34 (by kernel_rfl) rfl rfl
          have e35 : a.tmps[35]?.getD undef = .int .i64 (k : Int) := D 2 _ 35 (by kernel_rfl) rfl rfl
          have x34 : a.eval (.tmp 34) = .slice (some ad) l.length cc := by simp [Act.eval, e34]
          have x35 : a.eval (.tmp 35) = .int .i64 (k : Int) := by simp [Act.eval, e35]
          have hsl : (Instr.sliceAt 23 (a.eval (.tmp 34)) none ((some (Operand.tmp 35)).map a.eval) none).run Tryd.prog w' = .ok (.slice (some ad) k cc) w' := by
            rw [x34, Option.map_some, x35]; exact slice_h ad _ cc k w' (by omega)
          exact ⟨rfl, .inl ⟨x, w', fun _ _ => rfl, exec_slice rfl hsl, K (by decide) (by decide) (by decide) (by decide) (by decide)⟩⟩
        · obtain rfl := Option.some.inj ho
          have e33 : a.tmps[33]?.getD undef = .slice (some ⟨x.1, 0, none⟩) 0 0 := D 0 _ 33 (by kernel_rfl) rfl rfl
          have e36 : a.tmps[36]?.getD undef = .slice (some ad) k cc := D 3 _ 36 (by kernel_rfl) rfl rfl
          have x33 : a.eval (.tmp 33) = .slice (some ⟨x.1, 0, none⟩) 0 0 := by simp [Act.eval, e33]
          have x36 : a.eval (.tmp 36) = .slice (some ad) k cc := by simp [Act.eval, e36]
          have hown := hS1 (hLd 0 (by kernel_rfl)) hLi
          obtain ⟨v', w'', hrun, hown', hgrow, hnil⟩ := run_append_own (P := Tryd.prog) w' w1.heap.size 23 23 3 i0 (.int .i64 0) 1 8 Tryd.underlying23 hi hz0 hz1 hz2 rfl (by decide) (.slice (some ⟨x.1, 0, none⟩) 0 0) 0 _ hown ad k cc (ic (oI.take k)) (by rw [ic_len]; simp; omega) (head_src (HRW.out.below hS0) (by omega)) ic_one (by unfold maxLen; omega) (by omega) hS0.size
          have hbz : Below w1.heap.size w1 w'' := hS0.grown hgrow hS0.size (fun b hb => (hown.lt b hb).1)
          refine ⟨rfl, .inl ⟨(x.1, v', x.2.2), w'', fun j hj => ?_, exec_append rfl x33 x36 hrun, hbz, (fun _ h => ?_), (fun _ _ => ?_), (fun h h' => ?_), (fun h => ?_), (fun h => ?_), fun _ => ?_⟩⟩
          · have n4 : j ≠ 4 := fun e => by subst e; rw [hLi] at hj; cases hj
            exact but_p4 j n4
          · rw [set_eq (by rw [hLs]; decide)] at h; cases h
          · rw [List.nil_append, Nat.zero_add] at hown'; exact hown'
          · rw [set_ne (by decide)] at h h'
            have hB := hS3 h h'
            refine (hgrow.block _ hB.lt fun e => ?_).trans hB
            have eg : x.1 = x.2.2.1 := (Option.some.inj e).symm
            exact empty_ne hown (eg ▸ hB)
          · rw [set_ne (by decide), hLn 7 (by kernel_rfl)] at h; cases h
          · rw [set_ne (by decide)] at h; have h9 := (hS5 h).1; rw [hLn 7 (by kernel_rfl)] at h9; cases h9
          · rw [set_eq (by rw [hLs]; decide)]
        · obtain rfl := Option.some.inj ho
          exact ⟨rfl, .inl ⟨x, w', fun _ _ => rfl, by simp [execOp, Act.eval, l1, go_sem], K (by decide) (by decide) (by decide) (by decide) (by decide)⟩⟩
        · obtain rfl := Option.some.inj ho
          have e38 : a.tmps[38]?.getD undef = .int .i64 (n : Int) := D 5 _ 38 (by kernel_rfl) rfl rfl
          refine ⟨rfl, .inl ⟨(x.1, x.2.1, w'.heap.size, x.2.2.2), w'.alloc (.cells #[.int .i64 (n : Int)] 3), fun j hj => ?_, by simp [execOp, Act.eval, e38, go_sem], hS0.alloc hS0.size _, (fun h h' => ?_), (fun h h' => ?_), (fun _ _ => BlockIs.new _ _ _), (fun h => ?_), (fun h => ?_), fun h => ?_⟩⟩
          · have n6 : j ≠ 6 := fun e => by subst e; rw [hLi] at hj; cases hj
            exact but_p6 j n6
          · rw [set_ne (by decide)] at h h'; exact (hS1 h h').alloc _
          · rw [set_ne (by decide)] at h h'; exact (hS2 h h').alloc _
          · rw [set_ne (by decide), hLn 7 (by kernel_rfl)] at h; cases h
          · rw [set_ne (by decide)] at h; have h9 := (hS5 h).1; rw [hLn 7 (by kernel_rfl)] at h9; cases h9
          · rw [set_ne (by decide)] at h ⊢; exact hS6 h
        · obtain rfl := Option.some.inj ho
          have e37 : a.tmps[37]?.getD undef = x.2.1 := D 4 _ 37 (by kernel_rfl) rfl rfl
          have e39 : a.tmps[39]?.getD undef = .slice (some ⟨x.2.2.1, 0, none⟩) 1 1 := D 6 _ 39 (by kernel_rfl) rfl rfl
          have x37 : a.eval (.tmp 37) = x.2.1 := by simp [Act.eval, e37]
          have x39 : a.eval (.tmp 39) = .slice (some ⟨x.2.2.1, 0, none⟩) 1 1 := by simp [Act.eval, e39]
          have hown := hS2 (hLd 4 (by kernel_rfl)) hLi
          have hB8 := hS3 (hLd 6 (by kernel_rfl)) hLi
          have hsrc : ∀ j u, (ic [(n : Int)])[j]? = some u → w'.cell? ((⟨x.2.2.1, 0, none⟩ : Addr).add j) = some u := fun j u hu => by rw [Addr.add_lit, Nat.zero_add, hB8.cell, ← Array.getElem?_toList]; exact hu
          obtain ⟨v', w'', hrun, hown', hgrow, hnil⟩ := run_append_own (P := Tryd.prog) w' w1.heap.size 23 23 3 i0 (.int .i64 0) 1 8 Tryd.underlying23 hi hz0 hz1 hz2 rfl (by decide) x.2.1 k _ hown ⟨x.2.2.1, 0, none⟩ 1 1 (ic [(n : Int)]) rfl hsrc ic_one (by unfold maxLen; omega) (by omega) hS0.size
          have hbz : Below w1.heap.size w1 w'' := hS0.grown hgrow hS0.size (fun b hb => (hown.lt b hb).1)
          refine ⟨rfl, .inl ⟨(x.1, x.2.1, x.2.2.1, v', x.2.2.2.2), w'', fun j hj => ?_, exec_append rfl x37 x39 hrun, hbz, (fun h h' => ?_), (fun _ h => ?_), (fun _ h => ?_), (fun _ _ => ?_), (fun h => ?_), fun _ => ?_⟩⟩
          · have n7 : j ≠ 7 := fun e => by subst e; rw [hLi] at hj; cases hj
            exact but_p7 j n7
          · rw [set_ne (by decide)] at h'; have h9 := hLd 4 (by kernel_rfl); rw [h9] at h'; cases h'
          · rw [set_eq (by rw [hLs]; decide)] at h; cases h
          · rw [set_eq (by rw [hLs]; decide)] at h; cases h
          · have hx : ic (oI.take k) ++ ic [(n : Int)] = ic (oI.take k ++ [(n : Int)]) := by unfold ic; simp
            rw [hx] at hown'; exact hown'
          · rw [set_ne (by decide), hLn 11 (by kernel_rfl)] at h; cases h
          · rw [set_ne (by decide)]; exact hLd 4 (by kernel_rfl)
        · obtain rfl := Option.some.inj ho
          exact ⟨rfl, .inl ⟨x, w', fun _ _ => rfl, by simp [execOp, Act.eval, l0, go_sem], K (by decide) (by decide) (by decide) (by decide) (by decide)⟩⟩
        · obtain rfl := Option.some.inj ho
          exact ⟨rfl, .inl ⟨x, w', fun _ _ => rfl, by simp [execOp, Act.eval, l5, go_sem], K (by decide) (by decide) (by decide) (by decide) (by decide)⟩⟩
        · obtain rfl := Option.some.inj ho
          have e41 : a.tmps[41]?.getD undef = .slice (some ad) l.length cc := D 8 _ 41 (by kernel_rfl) rfl rfl
          have e42 : a.tmps[42]?.getD undef = .int .i64 (k : Int) := D 9 _ 42 (by kernel_rfl) rfl rfl
          have x41 : a.eval (.tmp 41) = .slice (some ad) l.length cc := by simp [Act.eval, e41]
          have x42 : a.eval (.tmp 42) = .int .i64 (k : Int) := by simp [Act.eval, e42]
          have hsl : (Instr.sliceAt 23 (a.eval (.tmp 41)) ((some (Operand.tmp 42)).map a.eval) none none).run Tryd.prog w' = .ok (.slice (some (tailAd ad k cc)) (l.length - k) (cc - k)) w' := by
            rw [x41, Option.map_some, x42]; exact slice_l ad _ cc k w' (by omega)
          exact ⟨rfl, .inl ⟨x, w', fun _ _ => rfl, exec_slice rfl hsl, K (by decide) (by decide) (by decide) (by decide) (by decide)⟩⟩
        · obtain rfl := Option.some.inj ho
          have e40 : a.tmps[40]?.getD undef = x.2.2.2.1 := D 7 _ 40 (by kernel_rfl) rfl rfl
          have e43 : a.tmps[43]?.getD undef = .slice (some (tailAd ad k cc)) (l.length - k) (cc - k) := D 10 _ 43 (by kernel_rfl) rfl rfl
          have x40 : a.eval (.tmp 40) = x.2.2.2.1 := by simp [Act.eval, e40]
          have x43 : a.eval (.tmp 43) = .slice (some (tailAd ad k cc)) (l.length - k) (cc - k) := by simp [Act.eval, e43]
          have t9 : L.getD 7 true = true := hLd 7 (by kernel_rfl)
          have hown := hS4 t9 hLi
          obtain ⟨v', w'', hrun, hown', hgrow, hnil⟩ := run_append_own (P := Tryd.prog) w' w1.heap.size 23 23 3 i0 (.int .i64 0) 1 8 Tryd.underlying23 hi hz0 hz1 hz2 rfl (by decide) x.2.2.2.1 (k + 1) _ hown (tailAd ad k cc) (l.length - k) (cc - k) (ic (oI.drop k)) (by rw [ic_len]; simp; omega) (tail_src (HRW.out.below hS0) (by omega)) ic_one (by unfold maxLen; omega) (by omega) hS0.size
          have hbz : Below w1.heap.size w1 w'' := hS0.grown hgrow hS0.size (fun b hb => (hown.lt b hb).1)
          refine ⟨rfl, .inl ⟨(x.1, x.2.1, x.2.2.1, x.2.2.2.1, v'), w'', fun j hj => ?_, exec_append rfl x40 x43 hrun, hbz, (fun h h' => ?_), (fun _ h => ?_), (fun _ h => ?_), (fun _ h => ?_), (fun _ => ?_), fun _ => ?_⟩⟩
          · have n11 : j ≠ 11 := fun e => by subst e; rw [hLi] at hj; cases hj
            have f12 : L.getD 12 true = false := hLn 12 (by kernel_rfl)
            have n12 : j ≠ 12 := fun e => by subst e; rw [f12] at hj; cases hj
            exact but_p11 j n11 n12
          · rw [set_ne (by decide), hS6 t9] at h'; cases h'
          · rw [set_ne (by decide), t9] at h; cases h
          · rw [set_ne (by decide), t9] at h; cases h
          · rw [set_eq (by rw [hLs]; decide)] at h; cases h
          · have hx : ic (oI.take k ++ [(n : Int)]) ++ ic (oI.drop k) = ic (oI.take k ++ [(n : Int)] ++ oI.drop k) := by unfold ic; simp
            rw [hx, show k + 1 + (l.length - k) = l.length + 1 by omega] at hown'; exact ⟨by rw [set_ne (by decide)]; exact t9, hown'⟩
          · rw [set_ne (by decide)]; exact hS6 t9
        · obtain rfl := Option.some.inj ho
          have e44 : a.tmps[44]?.getD undef = x.2.2.2.2 := D 11 _ 44 (by kernel_rfl) rfl rfl
          exact ⟨rfl, .inl ⟨x, w', fun _ _ => rfl, by simp [execOp, Act.eval, e44, go_sem], K (by decide) (by decide) (by decide) (by decide) (by decide)⟩⟩
end
end Go.Proofs.YtpoibjmkbljblaaDoor

end
