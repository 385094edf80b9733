/- Plain words for the search of best orders: the program's, which leaves out beginnings, and the model's. -/
import Derived.Test.YtjemjdlaoebffaaDoorIdleP
namespace Go.Proofs.YtjemjdlaoebffaaDoor

/-- Costs taken together: the greatest, or the sum; 0 if there are none. -/
def joinC (o : Int) (v c : Int) : Int := if isTop o then max v c else v + c
def foldC (o : Int) : List Int → Int
  | [] => 0
  | c :: cs => cs.foldl (joinC o) c
theorem joinC_comm (o a b c : Int) : joinC o (joinC o a b) c = joinC o (joinC o a c) b := by
  unfold joinC; cases isTop o <;> simp <;> omega
theorem joinC_swap (o a b : Int) : joinC o a b = joinC o b a := by
  unfold joinC; cases isTop o <;> simp <;> omega
theorem foldl_joinC_perm (o : Int) {xs ys : List Int} (h : xs.Perm ys) : ∀ c, xs.foldl (joinC o) c = ys.foldl (joinC o) c := by
  induction h with
  | nil => intro c; rfl
  | cons x _ ih => intro c; exact ih _
  | swap x y l => intro c; simp only [List.foldl_cons]; rw [joinC_comm]
  | trans _ _ h1 h2 => intro c; exact (h1 c).trans (h2 c)
theorem foldl_joinC_out (o : Int) : ∀ (xs : List Int) (a c : Int), xs.foldl (joinC o) (joinC o a c) = joinC o (xs.foldl (joinC o) a) c
  | [], _, _ => rfl
  | x :: xs, a, c => by
    simp only [List.foldl_cons]
    rw [joinC_comm, foldl_joinC_out o xs]
theorem foldC_perm (o : Int) {xs ys : List Int} (h : xs.Perm ys) : foldC o xs = foldC o ys := by
  induction h with
  | nil => rfl
  | cons x h _ => exact foldl_joinC_perm o h x
  | swap x y l => show l.foldl _ (joinC o _ _) = l.foldl _ (joinC o _ _); rw [joinC_swap]
  | trans _ _ h1 h2 => exact h1.trans h2
theorem foldC_snoc (o : Int) (xs : List Int) (c : Int) : foldC o (xs ++ [c]) = extOf o xs.length (foldC o xs) c := by
  cases xs with
  | nil => rfl
  | cons x xs =>
    show (xs ++ [c]).foldl (joinC o) x = _
    rw [List.foldl_append]
    rfl
theorem valGo_fold (o : Int) : ∀ (js : List J) (es : List Int) (k : Nat) (v : Int), 0 < k → valGo o js es k v = (List.zipWith (costOf o) js es).foldl (joinC o) v
  | [], _, _, _, _ => by simp [valGo]
  | _ :: _, [], _, _, _ => by simp [valGo]
  | j :: js, e :: es, k, v, hk => by
    show valGo o js es (k + 1) _ = _
    rw [valGo_fold o js es (k + 1) _ (by omega)]
    simp only [List.zipWith_cons_cons, List.foldl_cons]
    unfold extOf
    rw [if_neg (by omega)]
    rfl
theorem valOf_fold (o : Int) (js : List J) (es : List Int) : valOf o js es = foldC o (List.zipWith (costOf o) js es) := by
  cases js with
  | nil => simp [valOf, valGo, foldC]
  | cons j js =>
    cases es with
    | nil => simp [valOf, valGo, foldC]
    | cons e es =>
      show valGo o js es 1 _ = _
      rw [valGo_fold o js es 1 _ (by omega)]
      rfl
/-- The costs along an order, behind a time. -/
def costsGo (o : Int) (js : List J) : List Nat → Int → List Int
  | [], _ => []
  | j :: p, now => costOf o (js.getD j j0) (max now (js.getD j j0).r + (js.getD j j0).t) :: costsGo o js p (max now (js.getD j j0).r + (js.getD j j0).t)
def costsL (o : Int) (js : List J) (p : List Nat) : List Int := costsGo o js p 0
theorem costsGo_len (o : Int) (js : List J) : ∀ (p : List Nat) (now : Int), (costsGo o js p now).length = p.length
  | [], _ => rfl
  | j :: p, now => by unfold costsGo; simp [costsGo_len o js p]
theorem costsGo_snoc (o : Int) (js : List J) (j : Nat) : ∀ (p : List Nat) (now : Int), costsGo o js (p ++ [j]) now = costsGo o js p now ++ [costOf o (js.getD j j0) (max (lastGo js p now) (js.getD j j0).r + (js.getD j j0).t)]
  | [], _ => rfl
  | i :: p, now => by
    show _ :: costsGo o js (p ++ [j]) _ = _
    rw [costsGo_snoc o js j p]; rfl
theorem costs_map (o : Int) (js : List J) : ∀ (p : List Nat) (now : Int) (xs : List Int), p.Nodup → (∀ j ∈ p, j < xs.length) → costsGo o js p now = p.map fun j => costOf o (js.getD j j0) ((endsGo js p now xs).getD j 0)
  | [], _, _, _, _ => rfl
  | j :: p, now, xs, hd, hl => by
    obtain ⟨h1, h2⟩ := List.nodup_cons.1 hd
    unfold costsGo endsGo
    rw [List.map_cons, endsGo_out js p _ _ j h1, getD_set_eq _ _ _ _ (hl j List.mem_cons_self)]
    rw [costs_map o js p _ (xs.set j (max now (js.getD j j0).r + (js.getD j j0).t)) h2 (fun k hk => by simp only [List.length_set]; exact hl k (List.mem_cons_of_mem _ hk))]
theorem zip_range (o : Int) (js : List J) (es : List Int) (h : es.length = js.length) : List.zipWith (costOf o) js es = (List.range js.length).map fun j => costOf o (js.getD j j0) (es.getD j 0) := by
  apply List.ext_getElem
  · simp [h]
  · intro i h1 h2
    have hi : i < js.length := by simpa using h2
    simp only [List.getElem_zipWith, List.getElem_map, List.getElem_range]
    rw [getD_at js j0 hi, getD_at es 0 (by omega)]
/-- The value of an order, and of the beginning of one. -/
def partV (o : Int) (js : List J) (b : List Nat) : Int := foldC o (costsL o js b)
theorem partV_full (o : Int) (js : List J) {p : List Nat} (hp : p.Perm (List.range js.length)) : valOf o js (endsL js p) = partV o js p := by
  rw [valOf_fold, zip_range o js _ (endsL_len js p)]
  unfold partV costsL
  rw [costs_map o js p 0 (List.replicate js.length 0) (perm_nodup hp) (fun j hj => by simpa using perm_lt hp hj)]
  exact foldC_perm o (hp.symm.map _)
theorem partV_snoc (o : Int) (js : List J) (b : List Nat) (j : Nat) : partV o js (b ++ [j]) = extOf o b.length (partV o js b) (costOf o (js.getD j j0) (max (lastGo js b 0) (js.getD j j0).r + (js.getD j j0).t)) := by
  unfold partV costsL
  rw [costsGo_snoc, foldC_snoc, costsGo_len]
theorem lastGo_nonneg {js : List J} (hg : ∀ j ∈ js, okJ j = true) {b : List Nat} (hb : ∀ j ∈ b, j < js.length) : 0 ≤ lastGo js b 0 := last_ge js hg b 0 hb
theorem lastGo_bd {js : List J} (hg : ∀ j ∈ js, okJ j = true) : ∀ (b : List Nat) (now : Int) (m : Nat), (∀ j ∈ b, j < js.length) → 0 ≤ now → now ≤ 500 + 50 * m → lastGo js b now ≤ 500 + 50 * (m + b.length : Nat)
  | [], now, m, _, _, h => by show now ≤ _; simpa using h
  | j :: b, now, m, hb, h0, h1 => by
    obtain ⟨s0, s1⟩ := step_bd (getD_ok hg (hb j List.mem_cons_self)) h0 h1
    have := lastGo_bd hg b _ (m + 1) (fun k hk => hb k (List.mem_cons_of_mem _ hk)) s0 s1
    show lastGo js b _ ≤ _
    simp only [List.length_cons]
    omega
theorem partV_up {o : Int} (ho : isObj o = true) {js : List J} (hg : goodL js = true) {b : List Nat} (hb : ∀ j ∈ b, j < js.length) (hb8 : b.length < 8) (hne : b ≠ []) {j : Nat} (hj : j < js.length) : partV o js b ≤ partV o js (b ++ [j]) := by
  obtain ⟨h8, hok⟩ := good_out hg
  rw [partV_snoc]
  unfold extOf
  have hl : b.length ≠ 0 := fun e => hne (List.eq_nil_of_length_eq_zero e)
  rw [if_neg hl]
  have e0 := lastGo_nonneg hok hb
  have e1 := lastGo_bd hok b 0 0 hb (by omega) (by omega)
  obtain ⟨s0, s1⟩ := step_bd (m := b.length) (getD_ok hok hj) e0 (by omega)
  have hc := (cost_bd ho (getD_ok hok hj) s0 (by omega)).2.2
  cases ht : isTop o
  · have := hc ht; simp only [Bool.false_eq_true, if_false]; omega
  · simp only [if_true]; omega

/-- What is known of the best orders so far: their value, the first one, and how many there are. -/
structure Bst where
  v : Int
  first : List Nat
  n : Nat
def bst0 : Bst := ⟨0, [], 0⟩
/-- A whole order is held against the best ones. -/
def leafB (b : List Nat) (v : Int) (t : Bst) : Bst := if t.n = 0 ∨ v < t.v then ⟨v, b, 1⟩ else if v = t.v then ⟨t.v, t.first, t.n + 1⟩ else t
/-- The model's search: all orders that begin so. -/
def specTry (o : Int) (js : List J) : Nat → List Nat → Bst → Bst
  | 0, b, t => leafB b (partV o js b) t
  | m + 1, b, t => (List.range js.length).foldl (fun t j => if j ∈ b then t else specTry o js m (b ++ [j]) t) t
/-- The program's search, which leaves out beginnings whose value is too great. -/
def progTry (o : Int) (js : List J) : Nat → List Nat → Bst → Bst
  | 0, b, t => if 0 < t.n ∧ t.v < partV o js b then t else leafB b (partV o js b) t
  | m + 1, b, t => if 0 < t.n ∧ t.v < partV o js b then t else (List.range js.length).foldl (fun t j => if j ∈ b then t else progTry o js m (b ++ [j]) t) t
theorem foldl_same {α : Type} (f : α → Nat → α) (t : α) : ∀ l : List Nat, (∀ j ∈ l, f t j = t) → l.foldl f t = t
  | [], _ => rfl
  | j :: l, h => by
    rw [List.foldl_cons, h j List.mem_cons_self]
    exact foldl_same f t l fun k hk => h k (List.mem_cons_of_mem _ hk)
theorem foldl_eq {α : Type} (f g : α → Nat → α) : ∀ (l : List Nat) (t : α), (∀ j ∈ l, ∀ t, f t j = g t j) → l.foldl f t = l.foldl g t
  | [], _, _ => rfl
  | j :: l, t, h => by
    rw [List.foldl_cons, List.foldl_cons, h j List.mem_cons_self]
    exact foldl_eq f g l _ fun k hk => h k (List.mem_cons_of_mem _ hk)
theorem spec_over {o : Int} (ho : isObj o = true) {js : List J} (hg : goodL js = true) : ∀ (m : Nat) (b : List Nat) (t : Bst), b.length + m = js.length → (∀ j ∈ b, j < js.length) → b ≠ [] → 0 < t.n → t.v < partV o js b → specTry o js m b t = t
  | 0, b, t, _, _, _, hn, hv => by
    show leafB b _ t = t
    unfold leafB
    rw [if_neg (by omega), if_neg (by omega)]
  | m + 1, b, t, hl, hb, hne, hn, hv => by
    obtain ⟨h8, _⟩ := good_out hg
    refine foldl_same _ t _ fun j hj => ?_
    by_cases hjb : j ∈ b
    · rw [if_pos hjb]
    · rw [if_neg hjb]
      have hj' : j < js.length := List.mem_range.1 hj
      have := partV_up ho hg hb (by omega) hne hj'
      refine spec_over ho hg m (b ++ [j]) t (by simp; omega) ?_ (by simp) hn (by omega)
      intro k hk
      rcases List.mem_append.1 hk with h | h
      · exact hb k h
      · rw [List.mem_singleton.1 h]; exact hj'
theorem prog_spec {o : Int} (ho : isObj o = true) {js : List J} (hg : goodL js = true) : ∀ (m : Nat) (b : List Nat) (t : Bst), b.length + m = js.length → (∀ j ∈ b, j < js.length) → (b ≠ [] ∨ t.n = 0) → progTry o js m b t = specTry o js m b t
  | 0, b, t, hl, hb, hne => by
    show (if _ then _ else _) = leafB _ _ _
    by_cases h : 0 < t.n ∧ t.v < partV o js b
    · rw [if_pos h]
      unfold leafB
      rw [if_neg (by omega), if_neg (by omega)]
    · rw [if_neg h]
  | m + 1, b, t, hl, hb, hne => by
    unfold progTry
    by_cases h : 0 < t.n ∧ t.v < partV o js b
    · rw [if_pos h]
      exact (spec_over ho hg (m + 1) b t hl hb (by rcases hne with h' | h'; exact h'; omega) h.1 h.2).symm
    · rw [if_neg h]
      refine foldl_eq _ _ _ _ fun j hj t' => ?_
      by_cases hjb : j ∈ b
      · rw [if_pos hjb, if_pos hjb]
      · rw [if_neg hjb, if_neg hjb]
        have hj' : j < js.length := List.mem_range.1 hj
        refine prog_spec ho hg m (b ++ [j]) t' (by simp; omega) ?_ (.inl (by simp))
        intro k hk
        rcases List.mem_append.1 hk with h | h
        · exact hb k h
        · rw [List.mem_singleton.1 h]; exact hj'
/-- The best orders. -/
def bestL (o : Int) (js : List J) : Bst := specTry o js js.length [] bst0
theorem prog_best {o : Int} (ho : isObj o = true) {js : List J} (hg : goodL js = true) : progTry o js js.length [] bst0 = bestL o js :=
  prog_spec ho hg _ _ _ (by simp) (by simp) (.inr rfl)
/-- How often a search counts at most. -/
theorem foldl_count {m : Nat} (f : Bst → Nat → Bst) : ∀ (l : List Nat) (t : Bst), (∀ t j, (f t j).n ≤ max 1 (t.n + m)) → 1 ≤ m → (l.foldl f t).n ≤ max 1 (t.n + l.length * m)
  | [], t, _, _ => by simp; omega
  | j :: l, t, h, hm => by
    rw [List.foldl_cons]
    have h1 := foldl_count f l (f t j) h hm
    have h2 := h t j
    have : (l.length + 1) * m = l.length * m + m := by rw [Nat.add_mul, Nat.one_mul]
    simp only [List.length_cons]
    omega
end Go.Proofs.YtjemjdlaoebffaaDoor
