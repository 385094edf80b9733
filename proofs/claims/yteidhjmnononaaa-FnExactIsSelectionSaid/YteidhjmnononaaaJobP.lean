/- Plain words for jobs, orders and schedules. -/
import Init
namespace Go.Proofs.Yteidhjmnononaaa

structure J where
  t : Int
  w : Int
  r : Int
  d : Int
def j0 : J := ⟨0, 0, 0, 0⟩
/-- The numbers of a job are in their limits. -/
def okJ (j : J) : Bool := decide (1 ≤ j.t ∧ j.t ≤ 50 ∧ 0 ≤ j.w ∧ j.w ≤ 50 ∧ 0 ≤ j.r ∧ j.r ≤ 500 ∧ 0 ≤ j.d ∧ j.d ≤ 500)
theorem okJ_iff (j : J) : okJ j = true ↔ (1 ≤ j.t ∧ j.t ≤ 50 ∧ 0 ≤ j.w ∧ j.w ≤ 50 ∧ 0 ≤ j.r ∧ j.r ≤ 500 ∧ 0 ≤ j.d ∧ j.d ≤ 500) := by unfold okJ; exact decide_eq_true_iff
theorem okJ_out {j : J} (h : okJ j = true) : 1 ≤ j.t ∧ j.t ≤ 50 ∧ 0 ≤ j.w ∧ j.w ≤ 50 ∧ 0 ≤ j.r ∧ j.r ≤ 500 ∧ 0 ≤ j.d ∧ j.d ≤ 500 := (okJ_iff j).1 h
theorem okJ_not {j : J} (h : okJ j = false) : ¬ (1 ≤ j.t ∧ j.t ≤ 50 ∧ 0 ≤ j.w ∧ j.w ≤ 50 ∧ 0 ≤ j.r ∧ j.r ≤ 500 ∧ 0 ≤ j.d ∧ j.d ≤ 500) := fun h' => by rw [(okJ_iff j).2 h'] at h; cases h
/-- A list of jobs. -/
def goodL (js : List J) : Bool := js.all okJ && decide (js.length ≤ 8)
theorem good_out {js : List J} (h : goodL js = true) : js.length ≤ 8 ∧ ∀ j ∈ js, okJ j = true := by
  unfold goodL at h
  rw [Bool.and_eq_true, List.all_eq_true, decide_eq_true_iff] at h
  exact ⟨h.2, h.1⟩
theorem good_mk {js : List J} (h : js.length ≤ 8) (h' : ∀ j ∈ js, okJ j = true) : goodL js = true := by
  unfold goodL
  rw [Bool.and_eq_true, List.all_eq_true, decide_eq_true_iff]
  exact ⟨h', h⟩
theorem good_long {js : List J} (h : 8 < js.length) : goodL js = false := by
  unfold goodL; rw [decide_eq_false (by omega), Bool.and_false]
theorem good_bad {js : List J} {j : J} (hj : j ∈ js) (h : okJ j = false) : goodL js = false := by
  unfold goodL
  rw [Bool.and_eq_false_iff]
  left
  rw [List.all_eq_false]
  exact ⟨j, hj, by rw [h]; simp⟩
theorem good_at {js : List J} (h : goodL js = true) {k : Nat} (hk : k < js.length) : okJ js[k] = true := (good_out h).2 _ (List.getElem_mem hk)

/-- An order of n jobs. -/
def ordB (n : Int) (o : List Int) : Bool := decide (0 ≤ n ∧ n ≤ 8 ∧ (o.length : Int) = n ∧ ∀ i : Nat, i < n.toNat → (i : Int) ∈ o)
theorem ord_out {n : Int} {o : List Int} (h : ordB n o = true) : 0 ≤ n ∧ n ≤ 8 ∧ (o.length : Int) = n ∧ ∀ i : Nat, i < n.toNat → (i : Int) ∈ o := by
  unfold ordB at h; exact of_decide_eq_true h
theorem ord_not {n : Int} {o : List Int} (h : ¬ (0 ≤ n ∧ n ≤ 8 ∧ (o.length : Int) = n ∧ ∀ i : Nat, i < n.toNat → (i : Int) ∈ o)) : ordB n o = false := by
  unfold ordB; exact decide_eq_false h
theorem ord_mk {n : Int} {o : List Int} (h : 0 ≤ n ∧ n ≤ 8 ∧ (o.length : Int) = n ∧ ∀ i : Nat, i < n.toNat → (i : Int) ∈ o) : ordB n o = true := by
  unfold ordB; exact decide_eq_true h

theorem perm_of_subset : ∀ {l o : List Int}, l.Nodup → l ⊆ o → o.length ≤ l.length → o.Perm l
  | [], o, _, _, hl => by
    have h0 : o = [] := List.eq_nil_of_length_eq_zero (by simpa using hl)
    rw [h0]
  | a :: l, o, hd, hs, hl => by
    obtain ⟨h1, h2⟩ := List.nodup_cons.1 hd
    have ha : a ∈ o := hs List.mem_cons_self
    refine (List.perm_cons_erase ha).trans (List.Perm.cons a (perm_of_subset h2 (fun x hx => ?_) ?_))
    · exact (List.mem_erase_of_ne (fun e => h1 (by rw [← e]; exact hx))).2 (hs (List.mem_cons_of_mem _ hx))
    · have := List.length_erase_of_mem ha
      simp only [List.length_cons] at hl
      omega
/-- A list of n numbers that has each of 0..n-1 is a shuffle of these. -/
theorem perm_of_all {o : List Int} (h : ∀ i : Nat, i < o.length → (i : Int) ∈ o) : o.Perm ((List.range o.length).map Int.ofNat) := by
  have hn : ((List.range o.length).map Int.ofNat).Nodup := by
    refine List.Pairwise.map _ ?_ List.nodup_range
    intro a b hab he
    exact hab (Int.ofNat.inj he)
  have hs : ((List.range o.length).map Int.ofNat) ⊆ o := by
    intro x hx
    obtain ⟨i, hi, rfl⟩ := List.mem_map.1 hx
    exact h i (List.mem_range.1 hi)
  exact perm_of_subset hn hs (by simp)
/-- What a valid order is: some natural numbers, a shuffle of 0..n-1. -/
theorem ord_nat {n : Nat} {o : List Int} (h : ordB (n : Int) o = true) : ∃ p : List Nat, o = p.map Int.ofNat ∧ p.Perm (List.range n) ∧ p.length = n ∧ n ≤ 8 := by
  obtain ⟨_, h8, hl, ha⟩ := ord_out h
  have hl' : o.length = n := by omega
  have hp := perm_of_all (o := o) (by intro i hi; exact ha i (by omega))
  rw [hl'] at hp
  refine ⟨o.map Int.toNat, ?_, ?_, by simpa using hl', by omega⟩
  · rw [List.map_map]
    symm
    have : ∀ x ∈ o, (Int.ofNat ∘ Int.toNat) x = x := by
      intro x hx
      obtain ⟨i, _, rfl⟩ := List.mem_map.1 (hp.mem_iff.1 hx)
      rfl
    rw [List.map_congr_left this, List.map_id']
  · have := hp.map Int.toNat
    rwa [List.map_map, show (Int.toNat ∘ Int.ofNat) = id from rfl, List.map_id] at this
theorem ord_of_perm {n : Nat} {p : List Nat} (h : p.Perm (List.range n)) (h8 : n ≤ 8) : ordB (n : Int) (p.map Int.ofNat) = true := by
  have hl : p.length = n := by simpa using h.length_eq
  exact ord_mk ⟨by omega, by omega, by rw [List.length_map, hl], fun i hi => List.mem_map.2 ⟨i, h.mem_iff.2 (List.mem_range.2 (by omega)), rfl⟩⟩
theorem perm_lt {n : Nat} {p : List Nat} (h : p.Perm (List.range n)) {j : Nat} (hj : j ∈ p) : j < n := List.mem_range.1 (h.mem_iff.1 hj)
theorem perm_nodup {n : Nat} {p : List Nat} (h : p.Perm (List.range n)) : p.Nodup := h.nodup_iff.2 List.nodup_range
theorem perm_mem {n : Nat} {p : List Nat} (h : p.Perm (List.range n)) {j : Nat} (hj : j < n) : j ∈ p := h.mem_iff.2 (List.mem_range.2 hj)

/-- What the program asks of an order, number by number: in range, and none of those before. -/
theorem ord_prefix {n : Nat} {o : List Int} (hl : o.length = n) (h8 : n ≤ 8) (hr : ∀ x ∈ o, 0 ≤ x ∧ x < n) (hd : o.Nodup) : ordB (n : Int) o = true := by
  refine ord_mk ⟨by omega, by omega, by omega, fun i hi => ?_⟩
  have hs : o ⊆ (List.range n).map Int.ofNat := by
    intro x hx
    obtain ⟨h0, h1⟩ := hr x hx
    exact List.mem_map.2 ⟨x.toNat, List.mem_range.2 (by omega), by simp only [Int.ofNat_eq_natCast]; omega⟩
  have hp := perm_of_subset hd hs (by simp [hl])
  exact hp.mem_iff.1 (List.mem_map.2 ⟨i, List.mem_range.2 (by omega), rfl⟩)
theorem ord_range {n : Nat} {o : List Int} (h : ordB (n : Int) o = true) : (∀ x ∈ o, 0 ≤ x ∧ x < n) ∧ o.Nodup := by
  obtain ⟨p, rfl, hp, _, _⟩ := ord_nat h
  refine ⟨fun x hx => ?_, ?_⟩
  · obtain ⟨i, hi, rfl⟩ := List.mem_map.1 hx
    have := perm_lt hp hi
    simp only [Int.ofNat_eq_natCast]; omega
  · refine List.Pairwise.map _ ?_ (perm_nodup hp)
    intro a b hab he
    exact hab (Int.ofNat.inj he)

/-- The ends of the jobs of an order, behind a time, written into a list. -/
def endsGo (js : List J) : List Nat → Int → List Int → List Int
  | [], _, xs => xs
  | j :: p, now, xs => endsGo js p (max now (js.getD j j0).r + (js.getD j j0).t) (xs.set j (max now (js.getD j j0).r + (js.getD j j0).t))
def startsGo (js : List J) : List Nat → Int → List Int → List Int
  | [], _, xs => xs
  | j :: p, now, xs => startsGo js p (max now (js.getD j j0).r + (js.getD j j0).t) (xs.set j (max now (js.getD j j0).r))
/-- The end of the last job of an order, behind a time. -/
def lastGo (js : List J) : List Nat → Int → Int
  | [], now => now
  | j :: p, now => lastGo js p (max now (js.getD j j0).r + (js.getD j j0).t)
def endsL (js : List J) (p : List Nat) : List Int := endsGo js p 0 (List.replicate js.length 0)
def startsL (js : List J) (p : List Nat) : List Int := startsGo js p 0 (List.replicate js.length 0)
theorem endsGo_len (js : List J) : ∀ (p : List Nat) (now : Int) (xs : List Int), (endsGo js p now xs).length = xs.length
  | [], _, _ => rfl
  | j :: p, now, xs => by unfold endsGo; rw [endsGo_len js p]; simp
theorem startsGo_len (js : List J) : ∀ (p : List Nat) (now : Int) (xs : List Int), (startsGo js p now xs).length = xs.length
  | [], _, _ => rfl
  | j :: p, now, xs => by unfold startsGo; rw [startsGo_len js p]; simp
theorem endsL_len (js : List J) (p : List Nat) : (endsL js p).length = js.length := by unfold endsL; rw [endsGo_len]; simp
theorem startsL_len (js : List J) (p : List Nat) : (startsL js p).length = js.length := by unfold startsL; rw [startsGo_len]; simp
theorem getD_set_ne {α : Type} (xs : List α) (i j : Nat) (a d : α) (h : i ≠ j) : (xs.set i a).getD j d = xs.getD j d := by
  simp only [List.getD_eq_getElem?_getD, List.getElem?_set_ne h]
theorem getD_set_eq {α : Type} (xs : List α) (i : Nat) (a d : α) (h : i < xs.length) : (xs.set i a).getD i d = a := by
  simp only [List.getD_eq_getElem?_getD, List.getElem?_set_self h, Option.getD_some]
theorem endsGo_out (js : List J) : ∀ (p : List Nat) (now : Int) (xs : List Int) (i : Nat), i ∉ p → (endsGo js p now xs).getD i 0 = xs.getD i 0
  | [], _, _, _, _ => rfl
  | j :: p, now, xs, i, h => by
    unfold endsGo
    rw [endsGo_out js p _ _ i (fun e => h (List.mem_cons_of_mem _ e)), getD_set_ne _ _ _ _ _ (fun e => h (by rw [e]; exact List.mem_cons_self))]
theorem startsGo_out (js : List J) : ∀ (p : List Nat) (now : Int) (xs : List Int) (i : Nat), i ∉ p → (startsGo js p now xs).getD i 0 = xs.getD i 0
  | [], _, _, _, _ => rfl
  | j :: p, now, xs, i, h => by
    unfold startsGo
    rw [startsGo_out js p _ _ i (fun e => h (List.mem_cons_of_mem _ e)), getD_set_ne _ _ _ _ _ (fun e => h (by rw [e]; exact List.mem_cons_self))]
/-- An end is the start and the time. -/
theorem end_start (js : List J) : ∀ (p : List Nat) (now : Int) (xs ys : List Int), p.Nodup → (∀ j ∈ p, j < xs.length ∧ j < ys.length) → ∀ i ∈ p, (endsGo js p now xs).getD i 0 = (startsGo js p now ys).getD i 0 + (js.getD i j0).t
  | [], _, _, _, _, _, i, hi => by cases hi
  | j :: p, now, xs, ys, hd, hl, i, hi => by
    obtain ⟨h1, h2⟩ := List.nodup_cons.1 hd
    unfold endsGo startsGo
    by_cases e : i = j
    · subst e
      obtain ⟨l1, l2⟩ := hl i List.mem_cons_self
      rw [endsGo_out js p _ _ i h1, startsGo_out js p _ _ i h1, getD_set_eq _ _ _ _ l1, getD_set_eq _ _ _ _ l2]
    · have hi' : i ∈ p := by
        rcases List.mem_cons.1 hi with h | h
        · exact absurd h e
        · exact h
      exact end_start js p _ _ _ h2 (fun k hk => by simp only [List.length_set]; exact hl k (List.mem_cons_of_mem _ hk)) i hi'
theorem end_startL (js : List J) (p : List Nat) (hp : p.Perm (List.range js.length)) (i : Nat) (hi : i < js.length) : (endsL js p).getD i 0 = (startsL js p).getD i 0 + (js.getD i j0).t :=
  end_start js p 0 _ _ (perm_nodup hp) (fun j hj => by have := perm_lt hp hj; simp only [List.length_replicate]; omega) i (perm_mem hp hi)
end Go.Proofs.Yteidhjmnononaaa
