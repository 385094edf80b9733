/- Plain words for idle times, blocks and late jobs. -/
import Derived.Test.YteidhjmnononaaaValP
namespace Go.Proofs.Yteidhjmnononaaa

theorem getD_ok {js : List J} (hg : ∀ j ∈ js, okJ j = true) {k : Nat} (hk : k < js.length) : okJ (js.getD k j0) = true := by
  rw [List.getD_eq_getElem?_getD, List.getElem?_eq_getElem hk]; exact hg _ (List.getElem_mem hk)
theorem getD_at {α : Type} (xs : List α) (d : α) {k : Nat} (hk : k < xs.length) : xs.getD k d = xs[k] := by
  rw [List.getD_eq_getElem?_getD, List.getElem?_eq_getElem hk]; rfl
/-- How long no job is done, behind a time. -/
def idleGo (js : List J) : List Nat → Int → Int
  | [], _ => 0
  | j :: p, now => max ((js.getD j j0).r - now) 0 + idleGo js p (max now (js.getD j j0).r + (js.getD j j0).t)
def timesOf (js : List J) (p : List Nat) : Int := (p.map fun j => (js.getD j j0).t).sum
theorem last_idle (js : List J) : ∀ (p : List Nat) (now : Int), lastGo js p now = now + idleGo js p now + timesOf js p
  | [], now => by simp [lastGo, idleGo, timesOf]
  | j :: p, now => by
    unfold lastGo idleGo
    rw [last_idle js p]
    simp only [timesOf, List.map_cons, List.sum_cons]
    omega
theorem sum_perm {p q : List Int} (h : p.Perm q) : p.sum = q.sum := by
  induction h with
  | nil => rfl
  | cons x _ ih => simp only [List.sum_cons, ih]
  | swap x y l => simp only [List.sum_cons]; omega
  | trans _ _ h1 h2 => exact h1.trans h2
theorem range_getD {α β : Type} (f : α → β) (d : α) (xs : List α) : (List.range xs.length).map (fun j => f (xs.getD j d)) = xs.map f := by
  apply List.ext_getElem
  · simp
  · intro i h1 h2
    have hi : i < xs.length := by simpa using h2
    simp only [List.getElem_map, List.getElem_range]
    rw [getD_at xs d hi]
theorem times_all (js : List J) {p : List Nat} (hp : p.Perm (List.range js.length)) : timesOf js p = (js.map J.t).sum := by
  unfold timesOf
  rw [sum_perm (hp.map _), range_getD (fun j => j.t) j0 js]
theorem last_ge (js : List J) (hg : ∀ j ∈ js, okJ j = true) : ∀ (p : List Nat) (now : Int), (∀ j ∈ p, j < js.length) → now ≤ lastGo js p now
  | [], now, _ => Int.le_refl _
  | j :: p, now, hp => by
    unfold lastGo
    have := last_ge js hg p (max now (js.getD j j0).r + (js.getD j j0).t) (fun k hk => hp k (List.mem_cons_of_mem _ hk))
    have := okJ_out (getD_ok hg (hp j List.mem_cons_self))
    omega
theorem ends_le_last (js : List J) (hg : ∀ j ∈ js, okJ j = true) : ∀ (p : List Nat) (now : Int) (xs : List Int), p.Nodup → (∀ j ∈ p, j < js.length ∧ j < xs.length) → ∀ i ∈ p, (endsGo js p now xs).getD i 0 ≤ lastGo js p now
  | [], _, _, _, _, i, hi => by cases hi
  | j :: p, now, xs, hd, hl, i, hi => by
    obtain ⟨h1, h2⟩ := List.nodup_cons.1 hd
    unfold endsGo lastGo
    rcases List.mem_cons.1 hi with rfl | hi
    · rw [endsGo_out js p _ _ i h1, getD_set_eq _ _ _ _ (hl i List.mem_cons_self).2]
      exact last_ge js hg p _ (fun k hk => (hl k (List.mem_cons_of_mem _ hk)).1)
    · exact ends_le_last js hg p _ _ h2 (fun k hk => by simp only [List.length_set]; exact hl k (List.mem_cons_of_mem _ hk)) i hi
theorem ends_has_last (js : List J) : ∀ (p : List Nat) (now : Int) (xs : List Int), p.Nodup → (∀ j ∈ p, j < xs.length) → p ≠ [] → ∃ i ∈ p, (endsGo js p now xs).getD i 0 = lastGo js p now
  | [], _, _, _, _, h => absurd rfl h
  | j :: p, now, xs, hd, hl, _ => by
    obtain ⟨h1, h2⟩ := List.nodup_cons.1 hd
    unfold endsGo lastGo
    by_cases hp : p = []
    · subst hp
      exact ⟨j, List.mem_cons_self, getD_set_eq _ _ _ _ (hl j List.mem_cons_self)⟩
    · obtain ⟨i, hi, he⟩ := ends_has_last js p (max now (js.getD j j0).r + (js.getD j j0).t) (xs.set j (max now (js.getD j j0).r + (js.getD j j0).t)) h2 (fun k hk => by simp only [List.length_set]; exact hl k (List.mem_cons_of_mem _ hk)) hp
      exact ⟨i, List.mem_cons_of_mem _ hi, he⟩
/-- The greatest of some numbers, 0 if there are none. -/
def mostGo : List Int → Int → Int
  | [], m => m
  | x :: xs, m => mostGo xs (max m x)
theorem most_le {b : Int} : ∀ (xs : List Int) (m : Int), (∀ x ∈ xs, x ≤ b) → m ≤ b → mostGo xs m ≤ b
  | [], _, _, h => h
  | x :: xs, m, hx, h => most_le xs _ (fun y hy => hx y (List.mem_cons_of_mem _ hy)) (by have := hx x List.mem_cons_self; omega)
theorem most_ge : ∀ (xs : List Int) (m : Int), m ≤ mostGo xs m ∧ ∀ x ∈ xs, x ≤ mostGo xs m
  | [], _ => ⟨Int.le_refl _, by simp⟩
  | x :: xs, m => by
    obtain ⟨h1, h2⟩ := most_ge xs (max m x)
    refine ⟨by show m ≤ mostGo xs (max m x); omega, fun y hy => ?_⟩
    show y ≤ mostGo xs (max m x)
    rcases List.mem_cons.1 hy with rfl | hy
    · omega
    · exact h2 y hy
theorem mostGo_drop (xs : List Int) (k : Nat) (m : Int) (h : k < xs.length) : mostGo (xs.drop k) m = mostGo (xs.drop (k + 1)) (max m xs[k]) := by
  rw [List.drop_eq_getElem_cons h]; rfl
theorem most_last {js : List J} (hg : goodL js = true) {p : List Nat} (hp : p.Perm (List.range js.length)) : mostGo (endsL js p) 0 = lastGo js p 0 := by
  obtain ⟨h8, hok⟩ := good_out hg
  have hlt : ∀ j ∈ p, j < js.length := fun j hj => perm_lt hp hj
  have hxs : ∀ j ∈ p, j < (List.replicate js.length (0 : Int)).length := fun j hj => by simpa using hlt j hj
  refine Int.le_antisymm (most_le _ _ (fun x hx => ?_) (last_ge js hok p 0 hlt)) ?_
  · obtain ⟨i, hi, rfl⟩ := List.mem_iff_getElem.1 hx
    have hi' : i < js.length := by rw [endsL_len] at hi; exact hi
    have := ends_le_last js hok p 0 (List.replicate js.length 0) (perm_nodup hp) (fun j hj => ⟨hlt j hj, hxs j hj⟩) i (perm_mem hp hi')
    rwa [show endsGo js p 0 (List.replicate js.length 0) = endsL js p from rfl, getD_at _ _ hi] at this
  · by_cases hn : p = []
    · subst hn
      exact (most_ge _ 0).1
    · obtain ⟨i, hi, he⟩ := ends_has_last js p 0 _ (perm_nodup hp) hxs hn
      rw [← he]
      have hl : i < (endsL js p).length := by rw [endsL_len]; exact hlt i hi
      rw [show endsGo js p 0 (List.replicate js.length 0) = endsL js p from rfl, getD_at _ _ hl]
      exact (most_ge _ 0).2 _ (List.getElem_mem hl)
/-- The idle time, as the model tells it. -/
theorem idle_eq {js : List J} (hg : goodL js = true) {p : List Nat} (hp : p.Perm (List.range js.length)) : mostGo (endsL js p) 0 - (js.map J.t).sum = idleGo js p 0 := by
  rw [most_last hg hp, last_idle, times_all js hp]; omega

/-- The start and the end of the job at a place, by the end of those before it. -/
theorem lastGo_snoc (js : List J) : ∀ (p : List Nat) (j : Nat) (now : Int), lastGo js (p ++ [j]) now = max (lastGo js p now) (js.getD j j0).r + (js.getD j j0).t
  | [], _, _ => rfl
  | i :: p, j, now => by
    show lastGo js (p ++ [j]) _ = _
    rw [lastGo_snoc js p]; rfl
theorem start_at (js : List J) : ∀ (p : List Nat) (now : Int) (xs : List Int), p.Nodup → (∀ j ∈ p, j < xs.length) → ∀ (k : Nat) (hk : k < p.length), (startsGo js p now xs).getD p[k] 0 = max (lastGo js (p.take k) now) (js.getD p[k] j0).r
  | [], _, _, _, _, k, hk => by cases hk
  | j :: p, now, xs, hd, hl, k, hk => by
    obtain ⟨h1, h2⟩ := List.nodup_cons.1 hd
    unfold startsGo
    cases k with
    | zero =>
      show (startsGo js p _ _).getD j 0 = _
      rw [startsGo_out js p _ _ j h1, getD_set_eq _ _ _ _ (hl j List.mem_cons_self)]; rfl
    | succ k =>
      show (startsGo js p _ _).getD (p[k]'(by simpa using hk)) 0 = _
      rw [start_at js p _ _ h2 (fun i hi => by simp only [List.length_set]; exact hl i (List.mem_cons_of_mem _ hi)) k (by simpa using hk)]; rfl
theorem end_at (js : List J) : ∀ (p : List Nat) (now : Int) (xs : List Int), p.Nodup → (∀ j ∈ p, j < xs.length) → ∀ (k : Nat) (hk : k < p.length), (endsGo js p now xs).getD p[k] 0 = lastGo js (p.take (k + 1)) now
  | [], _, _, _, _, k, hk => by cases hk
  | j :: p, now, xs, hd, hl, k, hk => by
    obtain ⟨h1, h2⟩ := List.nodup_cons.1 hd
    unfold endsGo
    cases k with
    | zero =>
      show (endsGo js p _ _).getD j 0 = _
      rw [endsGo_out js p _ _ j h1, getD_set_eq _ _ _ _ (hl j List.mem_cons_self)]; rfl
    | succ k =>
      show (endsGo js p _ _).getD (p[k]'(by simpa using hk)) 0 = _
      rw [end_at js p _ _ h2 (fun i hi => by simp only [List.length_set]; exact hl i (List.mem_cons_of_mem _ hi)) k (by simpa using hk)]; rfl

/-- A job put behind the last block. -/
def snocLast : List (List Nat) → Nat → List (List Nat)
  | [], j => [[j]]
  | [b], j => [b ++ [j]]
  | b :: c :: bs, j => b :: snocLast (c :: bs) j
/-- The blocks of the first k jobs of an order. -/
def blksTo (js : List J) (p : List Nat) : Nat → List (List Nat)
  | 0 => []
  | k + 1 => if k = 0 ∨ lastGo js (p.take k) 0 < (js.getD (p.getD k 0) j0).r then blksTo js p k ++ [[p.getD k 0]] else snocLast (blksTo js p k) (p.getD k 0)
theorem blk_test {js : List J} {p : List Nat} (hp : p.Perm (List.range js.length)) {k : Nat} (hk : k < p.length) (h0 : 0 < k) :
    ((startsL js p).getD (p.getD k 0) 0 = (endsL js p).getD (p.getD (k - 1) 0) 0) ↔ ¬ (lastGo js (p.take k) 0 < (js.getD (p.getD k 0) j0).r) := by
  have hxs : ∀ j ∈ p, j < (List.replicate js.length (0 : Int)).length := fun j hj => by simpa using perm_lt hp hj
  unfold startsL endsL
  rw [getD_at p 0 hk, getD_at p 0 (show k - 1 < p.length by omega), start_at js p 0 _ (perm_nodup hp) hxs k hk, end_at js p 0 _ (perm_nodup hp) hxs (k - 1) (by omega)]
  rw [show k - 1 + 1 = k by omega]
  omega

/-- The late jobs among the first k. -/
def lateTo (js : List J) (es : List Int) (k : Nat) : List Nat := (List.range k).filter fun i => decide ((js.getD i j0).d < es.getD i 0)
theorem lateTo_succ (js : List J) (es : List Int) (k : Nat) : lateTo js es (k + 1) = if (js.getD k j0).d < es.getD k 0 then lateTo js es k ++ [k] else lateTo js es k := by
  unfold lateTo
  rw [List.range_succ, List.filter_append]
  by_cases h : (js.getD k j0).d < es.getD k 0
  · rw [if_pos h]; simp only [List.filter_cons, h, decide_true, if_true, List.filter_nil]
  · rw [if_neg h]; simp only [List.filter_cons, h, decide_false, Bool.false_eq_true, if_false, List.filter_nil, List.append_nil]
theorem lateTo_len (js : List J) (es : List Int) (k : Nat) : (lateTo js es k).length ≤ k := by
  unfold lateTo
  have := List.length_filter_le (fun i => decide ((js.getD i j0).d < es.getD i 0)) (List.range k)
  simpa using this
theorem lateTo_lt (js : List J) (es : List Int) (k : Nat) : ∀ i ∈ lateTo js es k, i < k := by
  intro i hi
  unfold lateTo at hi
  exact List.mem_range.1 (List.mem_filter.1 hi).1
end Go.Proofs.Yteidhjmnononaaa
