/- Plain words for strictly ascending lists: a number put to its place, one taken out; what the late rule has left after some jobs. -/
import Derived.Test.YtpoibjmkbljblaaDoorLateP
namespace Go.Proofs.YtpoibjmkbljblaaDoor
def StrictN (l : List Nat) : Prop := l.Pairwise (· < ·)
theorem strict_ext : ∀ {l l' : List Nat}, StrictN l → StrictN l' → (∀ x, x ∈ l ↔ x ∈ l') → l = l'
  | [], [], _, _, _ => rfl
  | [], y :: l', _, _, h => absurd ((h y).2 List.mem_cons_self) (by simp)
  | x :: l, [], _, _, h => absurd ((h x).1 List.mem_cons_self) (by simp)
  | x :: l, y :: l', h1, h2, h => by
    obtain ⟨a1, a2⟩ := List.pairwise_cons.1 h1
    obtain ⟨b1, b2⟩ := List.pairwise_cons.1 h2
    have e : x = y := by
      rcases List.mem_cons.1 ((h x).1 List.mem_cons_self) with e | e
      · exact e
      · rcases List.mem_cons.1 ((h y).2 List.mem_cons_self) with e' | e'
        · exact e'.symm
        · have := b1 x e; have := a1 y e'; omega
    subst e
    have : l = l' := strict_ext a2 b2 fun z => by
      constructor
      · intro hz
        rcases List.mem_cons.1 ((h z).1 (List.mem_cons_of_mem _ hz)) with e | e
        · have := a1 z hz; omega
        · exact e
      · intro hz
        rcases List.mem_cons.1 ((h z).2 (List.mem_cons_of_mem _ hz)) with e | e
        · have := b1 z hz; omega
        · exact e
    rw [this]
/-- How many numbers of the beginning are less. -/
def lessTo (x : Nat) : List Nat → Nat
  | [] => 0
  | y :: ys => if y < x then lessTo x ys + 1 else 0
/-- A number put to its place, once. -/
def putN (x : Nat) (l : List Nat) : List Nat := if l.contains x then l else l.take (lessTo x l) ++ x :: l.drop (lessTo x l)
theorem lessTo_le (x : Nat) : ∀ l : List Nat, lessTo x l ≤ l.length
  | [] => Nat.le_refl _
  | y :: l => by unfold lessTo; split <;> have := lessTo_le x l <;> simp <;> omega
theorem lessTo_at {x : Nat} : ∀ {l : List Nat} {k : Nat} (h : k < l.length), k < lessTo x l → l[k] < x
  | y :: l, 0, _, h => by
    unfold lessTo at h
    split at h
    · assumption
    · omega
  | y :: l, k + 1, hk, h => by
    unfold lessTo at h
    split at h
    · exact lessTo_at (l := l) (by simpa using hk) (by omega)
    · omega
theorem lessTo_stop {x : Nat} : ∀ {l : List Nat} (h : lessTo x l < l.length), x ≤ l[lessTo x l]
  | y :: l, h => by
    by_cases e : y < x
    · have e1 : lessTo x (y :: l) = lessTo x l + 1 := by rw [lessTo, if_pos e]
      simp only [e1] at h ⊢
      exact lessTo_stop (l := l) (by simpa using h)
    · have e1 : lessTo x (y :: l) = 0 := by rw [lessTo, if_neg e]
      simp only [e1]
      simpa using e
theorem lessTo_next {x : Nat} {l : List Nat} {k : Nat} (h : k ≤ lessTo x l) (hk : k < l.length) : (l[k] < x ↔ k < lessTo x l) := by
  constructor
  · intro hx
    by_cases e : k = lessTo x l
    · subst e; have := lessTo_stop hk; omega
    · omega
  · exact lessTo_at hk
theorem putN_mem {x y : Nat} {l : List Nat} : y ∈ putN x l ↔ y = x ∨ y ∈ l := by
  unfold putN
  split
  · rename_i h
    have hx : x ∈ l := by simpa using h
    constructor
    · exact .inr
    · rintro (rfl | h')
      · exact hx
      · exact h'
  · rw [List.mem_append, List.mem_cons]
    conv => rhs; rw [← List.take_append_drop (lessTo x l) l, List.mem_append]
    constructor
    · rintro (h | h | h)
      · exact .inr (.inl h)
      · exact .inl h
      · exact .inr (.inr h)
    · rintro (h | h | h)
      · exact .inr (.inl h)
      · exact .inl h
      · exact .inr (.inr h)
theorem strict_get {l : List Nat} (h : StrictN l) {i j : Nat} (hi : i < j) (hj : j < l.length) : l[i]'(by omega) < l[j] := List.pairwise_iff_getElem.1 h i j (by omega) hj hi
theorem putN_strict {x : Nat} {l : List Nat} (h : StrictN l) : StrictN (putN x l) := by
  unfold putN
  split
  · exact h
  · rename_i hc
    have hx : x ∉ l := by simpa using hc
    have hle := lessTo_le x l
    unfold StrictN
    rw [List.pairwise_append]
    refine ⟨h.sublist (List.take_sublist _ _), ?_, ?_⟩
    · rw [List.pairwise_cons]
      refine ⟨fun a ha => ?_, h.sublist (List.drop_sublist _ _)⟩
      obtain ⟨i, hi, rfl⟩ := List.getElem_of_mem ha
      rw [List.getElem_drop]
      have hlt : lessTo x l < l.length := by simp at hi; omega
      have h1 := lessTo_stop hlt
      have hne : l[lessTo x l] ≠ x := fun e => hx (e ▸ List.getElem_mem _)
      have hb : lessTo x l + i < l.length := by simp at hi; omega
      by_cases e : i = 0
      · subst e; simp only [Nat.add_zero]; omega
      · have := strict_get h (i := lessTo x l) (j := lessTo x l + i) (by omega) hb
        omega
    · intro a ha b hb
      obtain ⟨i, hi, rfl⟩ := List.getElem_of_mem ha
      have hi' : i < lessTo x l := by simp at hi; omega
      have hil : i < l.length := by omega
      rw [List.getElem_take]
      have h1 := lessTo_at hil hi'
      rcases List.mem_cons.1 hb with rfl | hb
      · exact h1
      · obtain ⟨k, hk, rfl⟩ := List.getElem_of_mem hb
        rw [List.getElem_drop]
        exact strict_get h (by omega) (by simp at hk; omega)
theorem put_found {x : Nat} {l : List Nat} (h : lessTo x l < l.length) (e : l[lessTo x l] = x) : putN x l = l := by
  unfold putN
  rw [if_pos (by rw [List.contains_iff_mem]; rw [← e]; exact List.getElem_mem _)]
theorem put_not {x : Nat} {l : List Nat} (hs : StrictN l) (h : ∀ hk : lessTo x l < l.length, l[lessTo x l] ≠ x) : putN x l = l.take (lessTo x l) ++ x :: l.drop (lessTo x l) := by
  unfold putN
  rw [if_neg]
  rw [List.contains_iff_mem]
  intro hx
  obtain ⟨j, hj, e⟩ := List.getElem_of_mem hx
  by_cases hjk : j < lessTo x l
  · have := lessTo_at hj hjk; omega
  · have hk : lessTo x l < l.length := by omega
    have h1 := lessTo_stop hk
    have h2 := h hk
    by_cases hjk2 : j = lessTo x l
    · subst hjk2; exact h2 e
    · have := strict_get hs (i := lessTo x l) (j := j) (by omega) hj; omega
theorem put_len (x : Nat) (l : List Nat) : (putN x l).length ≤ l.length + 1 := by
  unfold putN
  split
  · omega
  · simp; omega
/-- A number taken out. -/
def outN (x : Int) (l : List Nat) : List Nat := l.filter fun (y : Nat) => decide ((y : Int) ≠ x)
theorem outN_mem {x : Int} {y : Nat} {l : List Nat} : y ∈ outN x l ↔ y ∈ l ∧ (y : Int) ≠ x := by unfold outN; simp
theorem outN_strict {x : Int} {l : List Nat} (h : StrictN l) : StrictN (outN x l) := h.filter _
theorem outN_none {x : Int} {l : List Nat} (h : ∀ y ∈ l, ((y : Nat) : Int) ≠ x) : outN x l = l := by
  unfold outN; rw [List.filter_eq_self]; intro y hy; simpa using h y hy
/-- Taking out by the place. -/
theorem outN_erase {l : List Nat} (h : StrictN l) {i : Nat} (hi : i < l.length) : outN (l[i] : Int) l = l.eraseIdx i := by
  refine strict_ext (outN_strict h) (h.sublist (List.eraseIdx_sublist _ _)) fun y => ?_
  rw [outN_mem]
  constructor
  · rintro ⟨h1, h2⟩
    obtain ⟨k, hk, rfl⟩ := List.getElem_of_mem h1
    have hki : k ≠ i := by rintro rfl; exact h2 rfl
    exact List.mem_eraseIdx_iff_getElem.2 ⟨k, hk, hki, rfl⟩
  · intro hy
    obtain ⟨k, hk, hki, rfl⟩ := List.mem_eraseIdx_iff_getElem.1 hy
    refine ⟨List.getElem_mem _, fun e => ?_⟩
    have e' : l[k] = l[i] := by exact_mod_cast e
    rcases Nat.lt_or_gt_of_ne hki with hlt | hlt
    · have := strict_get h hlt hi; omega
    · have := strict_get h hlt hk; omega
/-- What the model does: the jobs of the first k steps, then without those that were dropped. -/
def putTo (st : List (Int × Int)) : Nat → List Nat
  | 0 => []
  | k + 1 => putN (st.getD k (0, 0)).1.toNat (putTo st k)
def outTo (st : List (Int × Int)) (l : List Nat) : Nat → List Nat
  | 0 => l
  | k + 1 => outN (st.getD k (0, 0)).2 (outTo st l k)
theorem putTo_strict (st : List (Int × Int)) : ∀ k, StrictN (putTo st k)
  | 0 => List.Pairwise.nil
  | k + 1 => putN_strict (putTo_strict st k)
theorem outTo_strict (st : List (Int × Int)) {l : List Nat} (h : StrictN l) : ∀ k, StrictN (outTo st l k)
  | 0 => h
  | k + 1 => outN_strict (outTo_strict st h k)
theorem putTo_mem (st : List (Int × Int)) {x : Nat} : ∀ k, (x ∈ putTo st k ↔ ∃ i, i < k ∧ (st.getD i (0, 0)).1.toNat = x)
  | 0 => by simp [putTo]
  | k + 1 => by
    show x ∈ putN _ (putTo st k) ↔ _
    rw [putN_mem, putTo_mem st k]
    constructor
    · rintro (h | ⟨i, hi, h⟩)
      · exact ⟨k, by omega, h.symm⟩
      · exact ⟨i, by omega, h⟩
    · rintro ⟨i, hi, h⟩
      by_cases e : i = k
      · subst e; exact .inl h.symm
      · exact .inr ⟨i, by omega, h⟩
theorem outTo_mem (st : List (Int × Int)) {l : List Nat} {x : Nat} : ∀ k, (x ∈ outTo st l k ↔ x ∈ l ∧ ∀ i, i < k → (st.getD i (0, 0)).2 ≠ (x : Int))
  | 0 => by simp [outTo]
  | k + 1 => by
    show x ∈ outN _ (outTo st l k) ↔ _
    rw [outN_mem, outTo_mem st k]
    constructor
    · rintro ⟨⟨h1, h2⟩, h3⟩
      refine ⟨h1, fun i hi => ?_⟩
      by_cases e : i = k
      · subst e; exact fun e => h3 e.symm
      · exact h2 i (by omega)
    · rintro ⟨h1, h2⟩
      exact ⟨⟨h1, fun i hi => h2 i (by omega)⟩, fun e => h2 k (by omega) e.symm⟩
/-- The steps of a longer run begin with those of a shorter one. -/
theorem steps_take (js : List J) {k : Nat} : ∀ m, k ≤ m → m ≤ (ruledL 4 js).length → (lateGo js m).steps.take k = (lateGo js k).steps := by
  intro m
  induction m with
  | zero => intro h _; have : k = 0 := by omega
            subst this; simp [lateGo_zero]
  | succ m ih =>
    intro h1 h2
    by_cases e : k = m + 1
    · subst e; rw [List.take_of_length_le]; rw [(lateGo_steps js (m + 1) h2).1]; exact Nat.le_refl _
    · have h := ih (by omega) (by omega)
      rw [lateGo_succ js m (by omega)]
      have hl := (lateGo_steps js m (by omega)).1
      unfold lateStep
      split
      · simp only; rw [List.take_append_of_le_length (by omega), h]
      · simp only; rw [List.take_append_of_le_length (by omega), h]
/-- Of each step: the job that is taken, the one that is dropped. -/
theorem steps_fst (js : List J) : ∀ k (h : k ≤ (ruledL 4 js).length) (i : Nat) (hi : i < k), ((lateGo js k).steps.getD i (0, 0)).1 = (((ruledL 4 js)[i]'(by omega) : Nat) : Int)
  | 0, _, i, hi => absurd hi (by omega)
  | k + 1, h, i, hi => by
    rw [lateGo_succ js k (by omega)]
    have hl := (lateGo_steps js k (by omega)).1
    by_cases e : i = k
    · subst e
      unfold lateStep
      split
      · simp only [List.getD_eq_getElem?_getD]
        rw [List.getElem?_append_right (by omega), hl, Nat.sub_self]; rfl
      · simp only [List.getD_eq_getElem?_getD]
        rw [List.getElem?_append_right (by omega), hl, Nat.sub_self]; rfl
    · have ih := steps_fst js k (by omega) i (by omega)
      unfold lateStep
      split
      · simp only [List.getD_eq_getElem?_getD] at ih ⊢
        rw [List.getElem?_append_left (by omega)]; exact ih
      · simp only [List.getD_eq_getElem?_getD] at ih ⊢
        rw [List.getElem?_append_left (by omega)]; exact ih
theorem steps_snd (js : List J) (x : Nat) : ∀ k (_ : k ≤ (ruledL 4 js).length), (x ∈ (lateGo js k).drop ↔ ∃ i, i < k ∧ ((lateGo js k).steps.getD i (0, 0)).2 = (x : Int))
  | 0, _ => by simp [lateGo_zero]
  | k + 1, h => by
    rw [lateGo_succ js k (by omega)]
    have hl := (lateGo_steps js k (by omega)).1
    have ih := steps_snd js x k (by omega)
    unfold lateStep
    split
    · simp only [List.mem_append, List.mem_singleton, ih, List.getD_eq_getElem?_getD]
      constructor
      · rintro (⟨i, hi, he⟩ | he)
        · exact ⟨i, by omega, by rw [List.getElem?_append_left (by omega)]; exact he⟩
        · exact ⟨k, by omega, by rw [List.getElem?_append_right (by omega), hl, Nat.sub_self]; rw [he]; rfl⟩
      · rintro ⟨i, hi, he⟩
        by_cases e : i = k
        · subst e
          rw [List.getElem?_append_right (by omega), hl, Nat.sub_self] at he
          refine .inr ?_
          simp only [List.getElem?_cons_zero, Option.getD_some] at he
          exact (Int.ofNat.inj he).symm
        · exact .inl ⟨i, by omega, by rwa [List.getElem?_append_left (by omega)] at he⟩
    · simp only [ih, List.getD_eq_getElem?_getD]
      constructor
      · rintro ⟨i, hi, he⟩
        exact ⟨i, by omega, by rw [List.getElem?_append_left (by omega)]; exact he⟩
      · rintro ⟨i, hi, he⟩
        by_cases e : i = k
        · subst e
          rw [List.getElem?_append_right (by omega), hl, Nat.sub_self] at he
          simp only [List.getElem?_cons_zero, Option.getD_some] at he
          omega
        · exact ⟨i, by omega, by rwa [List.getElem?_append_left (by omega)] at he⟩
theorem late_nodup (js : List J) {k : Nat} (h : k ≤ (ruledL 4 js).length) : ((lateGo js k).left ++ (lateGo js k).drop).Nodup :=
  (lateGo_perm js k h).nodup_iff.2 ((perm_nodup (ruledL_perm 4 js)).sublist (List.take_sublist _ _))
/-- The numbers in ascending order. -/
def ascL (n : Nat) (l : List Nat) : List Nat := (List.range n).filter fun i => l.contains i
theorem ascL_strict (n : Nat) (l : List Nat) : StrictN (ascL n l) := List.Pairwise.filter _ List.pairwise_lt_range
theorem ascL_mem {n : Nat} {l : List Nat} {x : Nat} : x ∈ ascL n l ↔ x < n ∧ x ∈ l := by unfold ascL; simp
/-- What the model makes is what is left, in ascending order. -/
theorem left_asc (js : List J) {k : Nat} (h : k ≤ js.length) : outTo (lateGo js js.length).steps (putTo (lateGo js js.length).steps k) k = ascL js.length (lateGo js k).left := by
  have hl := ruledL_len 4 js
  have hk : k ≤ (ruledL 4 js).length := by omega
  have hst : ∀ i, i < k → (lateGo js js.length).steps.getD i (0, 0) = (lateGo js k).steps.getD i (0, 0) := fun i hi => by
    rw [← steps_take js js.length h (by omega)]
    simp only [List.getD_eq_getElem?_getD, List.getElem?_take, if_pos hi]
  refine strict_ext (outTo_strict _ (putTo_strict _ _) _) (ascL_strict _ _) fun x => ?_
  rw [outTo_mem, putTo_mem, ascL_mem]
  have hp := (lateGo_perm js k hk).mem_iff (a := x)
  have hd := late_nodup js hk
  rw [List.nodup_append] at hd
  have hdr := steps_snd js x k hk
  have h1 : (∃ i, i < k ∧ ((lateGo js js.length).steps.getD i (0, 0)).1.toNat = x) ↔ x ∈ (ruledL 4 js).take k := by
    constructor
    · rintro ⟨i, hi, he⟩
      rw [hst i hi, steps_fst js k hk i hi] at he
      have : x = (ruledL 4 js)[i] := by omega
      exact List.mem_iff_getElem.2 ⟨i, by simp; omega, by rw [List.getElem_take]; omega⟩
    · intro hx
      obtain ⟨i, hi, rfl⟩ := List.getElem_of_mem hx
      have hi' : i < k := by simp at hi; omega
      exact ⟨i, hi', by rw [hst i hi', steps_fst js k hk i hi', List.getElem_take]; rfl⟩
  rw [h1, ← hp, List.mem_append]
  constructor
  · rintro ⟨h2 | h2, h3⟩
    · exact ⟨lateGo_lt js hk h2, h2⟩
    · obtain ⟨i, hi, he⟩ := hdr.1 h2
      exact absurd (by rw [hst i hi]; exact he) (h3 i hi)
  · rintro ⟨_, h2⟩
    refine ⟨.inl h2, fun i hi he => ?_⟩
    rw [hst i hi] at he
    exact hd.2.2 x h2 x (hdr.2 ⟨i, hi, he⟩) rfl
def srtL (l : List Nat) : List Nat := ((l.map Int.ofNat).mergeSort fun x y => decide (x ≤ y)).map Int.toNat
theorem srtL_map (l : List Nat) : (srtL l).map Int.ofNat = (l.map Int.ofNat).mergeSort fun x y => decide (x ≤ y) := by
  unfold srtL
  rw [List.map_map]
  conv => rhs; rw [← List.map_id ((l.map Int.ofNat).mergeSort fun x y => decide (x ≤ y))]
  refine List.map_congr_left fun x hx => ?_
  obtain ⟨k, _, rfl⟩ := List.mem_map.1 ((List.mergeSort_perm _ _).mem_iff.1 hx)
  rfl
theorem srtL_perm (l : List Nat) : (srtL l).Perm l := by
  have h := (List.mergeSort_perm (l.map Int.ofNat) (fun x y => decide (x ≤ y))).map Int.toNat
  rw [List.map_map, show (Int.toNat ∘ Int.ofNat) = id from rfl, List.map_id] at h
  exact h
theorem srtL_len (l : List Nat) : (srtL l).length = l.length := (srtL_perm l).length_eq
theorem srtL_asc (l : List Nat) : (srtL l).Pairwise (· ≤ ·) := by
  have h := List.pairwise_mergeSort (le := fun x y : Int => decide (x ≤ y)) (fun a b c h1 h2 => by simp at *; omega) (fun a b => by simp; omega) (l.map Int.ofNat)
  rw [← srtL_map, List.pairwise_map] at h
  exact h.imp fun {a b} hab => by simpa using hab
/-- Different numbers below n, sorted: those of 0..n-1 that are among them. -/
theorem srtL_ascL {n : Nat} {l : List Nat} (hd : l.Nodup) (hl : ∀ x ∈ l, x < n) : srtL l = ascL n l := by
  refine strict_ext ?_ (ascL_strict n l) fun x => ?_
  · have h1 := srtL_asc l
    have h2 := (srtL_perm l).nodup_iff.2 hd
    exact (h1.and h2).imp fun {a b} ⟨h, h'⟩ => by omega
  · rw [(srtL_perm l).mem_iff, ascL_mem]
    exact ⟨fun h => ⟨hl x h, h⟩, fun h => h.2⟩
end Go.Proofs.YtpoibjmkbljblaaDoor
