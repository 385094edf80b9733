/- Plain words for groups of tied jobs, how many ruled orders there are, inversions and what they cost. -/
import Derived.Test.YtjemjdlaoebffaaDoorRulP
namespace Go.Proofs.YtjemjdlaoebffaaDoor
section
variable (ob : Int) (js : List J)
def tieB (x y : Nat) : Bool := decide (gapN ob js x y = 0)
/-- The groups of a list, each the longest part whose jobs are tied with its first one. -/
def grp : Nat → List Nat → List (List Nat)
  | _, [] => []
  | 0, _ :: _ => []
  | f + 1, x :: ys => (x :: ys.takeWhile (tieB ob js x)) :: grp f (ys.dropWhile (tieB ob js x))
def groupsL : List (List Nat) := grp ob js js.length (ruledL ob js)
/-- One more job is put to the last group or into one of its own. -/
def grpStep (out : List (List Nat)) (x : Nat) : List (List Nat) :=
  match out.getLast? with
  | some (h :: t) => if gapN ob js h x = 0 then out.dropLast ++ [h :: t ++ [x]] else out ++ [[x]]
  | _ => out ++ [[x]]
theorem grpStep_snoc (out : List (List Nat)) (h : Nat) (t : List Nat) (x : Nat) : grpStep ob js (out ++ [h :: t]) x = if gapN ob js h x = 0 then out ++ [h :: t ++ [x]] else out ++ [h :: t] ++ [[x]] := by
  unfold grpStep
  simp
theorem drop_le (p : Nat → Bool) : ∀ ys : List Nat, (ys.dropWhile p).length ≤ ys.length
  | [] => Nat.le_refl _
  | y :: ys => by
    unfold List.dropWhile
    split
    · have := drop_le p ys; simp; omega
    · exact Nat.le_refl _
theorem grp_fold : ∀ (f : Nat) (ys : List Nat) (out : List (List Nat)) (h : Nat) (t : List Nat), ys.length ≤ f → ys.foldl (grpStep ob js) (out ++ [h :: t]) = out ++ [h :: t ++ ys.takeWhile (tieB ob js h)] ++ grp ob js f (ys.dropWhile (tieB ob js h))
  | f, [], out, h, t, _ => by
    simp only [List.foldl_nil, List.takeWhile_nil, List.dropWhile_nil, List.append_nil]
    cases f <;> simp [grp]
  | 0, y :: ys, _, _, _, hf => by simp at hf
  | f + 1, y :: ys, out, h, t, hf => by
    simp only [List.length_cons] at hf
    rw [List.foldl_cons, grpStep_snoc]
    by_cases e : gapN ob js h y = 0
    · rw [if_pos e]
      have e' : tieB ob js h y = true := decide_eq_true e
      rw [List.takeWhile_cons, e', List.dropWhile_cons, e']
      simp only [if_true]
      have ih := grp_fold f ys out h (t ++ [y]) (by omega)
      simp only [List.cons_append, List.append_assoc, List.nil_append] at ih ⊢
      rw [ih]
      have hm : ∀ (f : Nat) (zs : List Nat), zs.length ≤ f → grp ob js f zs = grp ob js (f + 1) zs := by
        intro f
        induction f with
        | zero => intro zs hz; have : zs = [] := List.eq_nil_of_length_eq_zero (by omega); subst this; rfl
        | succ f ih2 =>
          intro zs hz
          cases zs with
          | nil => rfl
          | cons z zs =>
            show _ :: grp ob js f _ = _ :: grp ob js (f + 1) _
            rw [ih2 _ (by have := drop_le (tieB ob js z) zs; simp at hz; omega)]
      rw [hm f _ (by have := drop_le (tieB ob js h) ys; omega)]
    · rw [if_neg e]
      have e' : tieB ob js h y = false := decide_eq_false e
      rw [List.takeWhile_cons, e', List.dropWhile_cons, e']
      simp only [Bool.false_eq_true, if_false, List.append_nil]
      rw [grp_fold f ys (out ++ [h :: t]) y [] (by omega)]
      simp [grp]
theorem grp_spec (f : Nat) (ys : List Nat) (hf : ys.length ≤ f) : ys.foldl (grpStep ob js) [] = grp ob js f ys := by
  cases ys with
  | nil => cases f <;> rfl
  | cons y ys =>
    cases f with
    | zero => simp at hf
    | succ f =>
      rw [List.foldl_cons]
      have : grpStep ob js [] y = [] ++ [[y]] := rfl
      rw [this, grp_fold ob js f ys [] y [] (by simpa using hf)]
      simp [grp]
theorem groups_spec : (ruledL ob js).foldl (grpStep ob js) [] = groupsL ob js := grp_spec ob js _ _ (by rw [ruledL_len]; exact Nat.le_refl _)
theorem takeDrop (p : Nat → Bool) : ∀ ys : List Nat, ys.takeWhile p ++ ys.dropWhile p = ys
  | [] => rfl
  | y :: ys => by
    unfold List.takeWhile List.dropWhile
    cases p y
    · rfl
    · simp [takeDrop p ys]
theorem grp_flat : ∀ (f : Nat) (ys : List Nat), ys.length ≤ f → (grp ob js f ys).flatten = ys
  | f, [], _ => by cases f <;> rfl
  | 0, y :: ys, h => by simp at h
  | f + 1, y :: ys, h => by
    simp only [List.length_cons] at h
    show (y :: ys.takeWhile _) ++ (grp ob js f _).flatten = _
    rw [grp_flat f _ (by have := drop_le (tieB ob js y) ys; omega)]
    simp
theorem groups_flat : (groupsL ob js).flatten = ruledL ob js := grp_flat ob js _ _ (by rw [ruledL_len]; exact Nat.le_refl _)
/-- n factorial. -/
def facN : Nat → Nat
  | 0 => 1
  | n + 1 => facN n * (n + 1)
theorem facN_pos : ∀ n, 1 ≤ facN n
  | 0 => Nat.le_refl _
  | n + 1 => by
    have := facN_pos n
    show 1 ≤ facN n * (n + 1)
    exact Nat.mul_le_mul this (by omega : 1 ≤ n + 1)
theorem fac_add (a : Nat) : ∀ b, facN a * facN b ≤ facN (a + b)
  | 0 => by simp [facN]
  | b + 1 => by
    show facN a * (facN b * (b + 1)) ≤ facN (a + b) * (a + b + 1)
    rw [← Nat.mul_assoc]
    exact Nat.mul_le_mul (fac_add a b) (by omega)
theorem fac_mono {a : Nat} : ∀ {b}, a ≤ b → facN a ≤ facN b
  | 0, h => by have : a = 0 := by omega
               subst this; exact Nat.le_refl _
  | b + 1, h => by
    by_cases e : a = b + 1
    · subst e; exact Nat.le_refl _
    · have := fac_mono (a := a) (b := b) (by omega)
      show facN a ≤ facN b * (b + 1)
      have h2 : facN b * 1 ≤ facN b * (b + 1) := Nat.mul_le_mul_left _ (by omega)
      omega
def prodF (gs : List (List Nat)) : Nat := gs.foldl (fun p g => p * facN g.length) 1
theorem prodF_snoc (gs : List (List Nat)) (g : List Nat) : prodF (gs ++ [g]) = prodF gs * facN g.length := by unfold prodF; rw [List.foldl_append]; rfl
theorem prodF_go : ∀ (gs : List (List Nat)) (p n : Nat), p ≤ facN n → gs.foldl (fun p g => p * facN g.length) p ≤ facN (n + gs.flatten.length)
  | [], p, n, h => by simpa using h
  | g :: gs, p, n, h => by
    rw [List.foldl_cons]
    have h1 : p * facN g.length ≤ facN (n + g.length) := Nat.le_trans (Nat.mul_le_mul_right _ h) (fac_add n g.length)
    have := prodF_go gs _ _ h1
    simpa [Nat.add_assoc] using this
theorem prodF_le (gs : List (List Nat)) : prodF gs ≤ facN gs.flatten.length := by
  have := prodF_go gs 1 0 (Nat.le_refl _)
  simpa [prodF] using this
theorem prodF_8 {gs : List (List Nat)} (h : gs.flatten.length ≤ 8) : prodF gs ≤ 40320 := Nat.le_trans (prodF_le gs) (fac_mono h)
def countRuledL : Nat := prodF (groupsL ob js)
/-- The inversions of an order whose first job stands at place i. -/
def invAt (p : List Nat) (i k : Nat) : List (Nat × Nat) := ((List.range k).filter fun m => decide (i < m ∧ 0 < gapN ob js (p.getD i 0) (p.getD m 0))).map fun m => (p.getD i 0, p.getD m 0)
def invTo (p : List Nat) (i : Nat) : List (Nat × Nat) := (List.range i).flatMap fun a => invAt ob js p a p.length
def invL (p : List Nat) : List (Nat × Nat) := invTo ob js p p.length
theorem invAt_zero (p : List Nat) (i : Nat) : ∀ k, k ≤ i + 1 → invAt ob js p i k = [] := by
  intro k hk
  unfold invAt
  rw [List.map_eq_nil_iff, List.filter_eq_nil_iff]
  intro m hm
  have := List.mem_range.1 hm
  simp
  omega
theorem invAt_succ (p : List Nat) (i k : Nat) (h : i < k) : invAt ob js p i (k + 1) = if 0 < gapN ob js (p.getD i 0) (p.getD k 0) then invAt ob js p i k ++ [(p.getD i 0, p.getD k 0)] else invAt ob js p i k := by
  unfold invAt
  rw [List.range_succ, List.filter_append, List.map_append]
  by_cases e : 0 < gapN ob js (p.getD i 0) (p.getD k 0)
  · rw [if_pos e, List.filter_cons, if_pos (by simpa using ⟨h, e⟩)]; simp
  · rw [if_neg e, List.filter_cons, if_neg (fun hh => e (of_decide_eq_true hh).2)]; simp
theorem invTo_succ (p : List Nat) (i : Nat) : invTo ob js p (i + 1) = invTo ob js p i ++ invAt ob js p i p.length := by
  unfold invTo; rw [List.range_succ, List.flatMap_append]; simp
theorem invAt_len (p : List Nat) (i k : Nat) : (invAt ob js p i k).length ≤ k := by
  unfold invAt
  rw [List.length_map]
  have := List.length_filter_le (fun m => decide (i < m ∧ 0 < gapN ob js (p.getD i 0) (p.getD m 0))) (List.range k)
  simpa using this
theorem invTo_len (p : List Nat) : ∀ i, (invTo ob js p i).length ≤ i * p.length
  | 0 => by simp [invTo]
  | i + 1 => by
    rw [invTo_succ, List.length_append]
    have h1 := invTo_len p i
    have h2 := invAt_len ob js p i p.length
    rw [Nat.add_mul]
    omega
theorem invTo_mem {p : List Nat} {i : Nat} {x : Nat × Nat} (h : x ∈ invTo ob js p i) (hi : i ≤ p.length) : x.1 ∈ p ∧ x.2 ∈ p := by
  unfold invTo at h
  rw [List.mem_flatMap] at h
  obtain ⟨a, ha, h⟩ := h
  unfold invAt at h
  rw [List.mem_map] at h
  obtain ⟨m, hm, rfl⟩ := h
  have hm' := List.mem_range.1 (List.mem_filter.1 hm).1
  have ha' := List.mem_range.1 ha
  have e1 : p.getD a 0 = p[a]'(by omega) := getD_at p 0 (by omega)
  have e2 : p.getD m 0 = p[m] := getD_at p 0 hm'
  simp only [e1, e2]
  exact ⟨List.getElem_mem _, List.getElem_mem _⟩
/-- What the inversions cost. -/
def lossTo (xs : List (Nat × Nat)) (k : Nat) : Int := ((xs.take k).map fun x => gapN 3 js x.1 x.2).sum
def lossL (p : List Nat) : Int := lossTo js (invL 3 js p) (invL 3 js p).length
theorem lossTo_succ (xs : List (Nat × Nat)) (k : Nat) (h : k < xs.length) : lossTo js xs (k + 1) = lossTo js xs k + gapN 3 js xs[k].1 xs[k].2 := by
  unfold lossTo
  rw [List.take_succ_eq_append_getElem h, List.map_append, List.sum_append]
  simp
theorem lossTo_bd {js : List J} (hg : ∀ j ∈ js, okJ j = true) {xs : List (Nat × Nat)} (hx : ∀ x ∈ xs, x.1 < js.length ∧ x.2 < js.length) : ∀ k, k ≤ xs.length → -(2500 * k : Int) ≤ lossTo js xs k ∧ lossTo js xs k ≤ 2500 * k
  | 0, _ => by simp [lossTo]
  | k + 1, h => by
    rw [lossTo_succ js xs k (by omega)]
    have h1 := lossTo_bd hg hx k (by omega)
    have h2 := hx _ (List.getElem_mem (show k < xs.length by omega))
    have h3 : -2500 ≤ gapN 3 js xs[k].1 xs[k].2 ∧ gapN 3 js xs[k].1 xs[k].2 ≤ 2500 := gapJ_bd (getD_ok hg h2.1) (getD_ok hg h2.2)
    omega
/-- The first place whose job and the next one are an inversion. -/
def wrongV (p : List Nat) : Option Nat := (List.range (p.length - 1)).find? fun i => decide (0 < gapN ob js (p.getD i 0) (p.getD (i + 1) 0))
end
end Go.Proofs.YtjemjdlaoebffaaDoor
