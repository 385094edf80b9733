/- Plain words for split schedules. -/
import Derived.Test.YtejgpecmjfgfbaaDoorJobP
namespace Go.Proofs.YtejgpecmjfgfbaaDoor

structure Sp where
  j : Int
  f : Int
  t : Int
def sp0 : Sp := ⟨0, 0, 0⟩
/-- A span may stand behind one that ends at a time and has a job. -/
def spOk (js : List J) (s : Sp) (now last : Int) : Bool :=
  decide (0 ≤ s.j ∧ s.j < js.length ∧ now ≤ s.f ∧ (js.getD s.j.toNat j0).r ≤ s.f ∧ s.f < s.t ∧ ¬ (s.j = last ∧ s.f = now) ∧ s.t ≤ 1000)
theorem spOk_out {js : List J} {s : Sp} {now last : Int} (h : spOk js s now last = true) : 0 ≤ s.j ∧ s.j < js.length ∧ now ≤ s.f ∧ (js.getD s.j.toNat j0).r ≤ s.f ∧ s.f < s.t ∧ ¬ (s.j = last ∧ s.f = now) ∧ s.t ≤ 1000 := by
  unfold spOk at h; exact of_decide_eq_true h
theorem spOk_not {js : List J} {s : Sp} {now last : Int} (h : spOk js s now last = false) : ¬ (0 ≤ s.j ∧ s.j < js.length ∧ now ≤ s.f ∧ (js.getD s.j.toNat j0).r ≤ s.f ∧ s.f < s.t ∧ ¬ (s.j = last ∧ s.f = now) ∧ s.t ≤ 1000) := by
  unfold spOk at h; exact of_decide_eq_false h
def addD (d : List Int) (s : Sp) : List Int := d.set s.j.toNat (d.getD s.j.toNat 0 + s.t - s.f)
def spGo (js : List J) : List Sp → List Int → Int → Int → Bool
  | [], d, _, _ => decide (d = js.map J.t)
  | s :: ss, d, now, last => spOk js s now last && spGo js ss (addD d s) s.t s.j
def splitB (js : List J) (ss : List Sp) : Bool := spGo js ss (List.replicate js.length 0) 0 (-1)
def spBothB (js : List J) (ss : List Sp) : Bool := goodL js && splitB js ss
theorem spGo_drop (js : List J) (ss : List Sp) (k : Nat) (d : List Int) (now last : Int) (h : k < ss.length) :
    spGo js (ss.drop k) d now last = (spOk js ss[k] now last && spGo js (ss.drop (k + 1)) (addD d ss[k]) ss[k].t ss[k].j) := by
  rw [List.drop_eq_getElem_cons h]; rfl
theorem spGo_bad {js : List J} {ss : List Sp} {k : Nat} {d : List Int} {now last : Int} {b : Bool} (h : k < ss.length) (hE : spGo js (ss.drop k) d now last = b) (ho : spOk js ss[k] now last = false) : b = false := by
  rw [spGo_drop js ss k d now last h, ho] at hE; exact hE.symm
theorem spGo_step {js : List J} {ss : List Sp} {k : Nat} {d : List Int} {now last : Int} {b : Bool} (h : k < ss.length) (hE : spGo js (ss.drop k) d now last = b) (ho : spOk js ss[k] now last = true) : spGo js (ss.drop (k + 1)) (addD d ss[k]) ss[k].t ss[k].j = b := by
  rw [spGo_drop js ss k d now last h, ho] at hE; exact hE
theorem spGo_end {js : List J} {ss : List Sp} {k : Nat} {d : List Int} {now last : Int} {b : Bool} (h : ss.length ≤ k) (hE : spGo js (ss.drop k) d now last = b) : b = decide (d = js.map J.t) := by
  rw [List.drop_eq_nil_of_le h] at hE; exact hE.symm
theorem addD_len (d : List Int) (s : Sp) : (addD d s).length = d.length := by unfold addD; simp
/-- What is done of each job is at most the time. -/
def DoneIn (d : List Int) (now : Int) : Prop := ∀ i, 0 ≤ d.getD i 0 ∧ d.getD i 0 ≤ now
theorem doneIn_zero (n : Nat) : DoneIn (List.replicate n 0) 0 := fun i => by
  simp only [List.getD_eq_getElem?_getD, List.getElem?_replicate]
  split <;> simp
theorem doneIn_step {js : List J} {d : List Int} {s : Sp} {now last : Int} (h : DoneIn d now) (ho : spOk js s now last = true) : DoneIn (addD d s) s.t := fun i => by
  obtain ⟨_, _, h1, _, h2, _, _⟩ := spOk_out ho
  have hi := h i
  have hj := h s.j.toNat
  unfold addD
  by_cases e : s.j.toNat = i
  · by_cases hl : s.j.toNat < d.length
    · subst e
      rw [getD_set_eq _ _ _ _ hl]; omega
    · rw [List.set_eq_of_length_le (by omega)]; omega
  · rw [getD_set_ne _ _ _ _ _ e]; omega

/-- What is still to be done, by eight numbers. -/
def restOf (js : List J) (d : List Int) : List Int := (List.range 8).map fun i => (js.map J.t).getD i 0 - d.getD i 0
theorem restOf_len (js : List J) (d : List Int) : (restOf js d).length = 8 := by unfold restOf; simp
theorem restOf_at (js : List J) (d : List Int) (i : Nat) (h : i < 8) : (restOf js d).getD i 0 = (js.map J.t).getD i 0 - d.getD i 0 := by
  unfold restOf; simp [List.getD_eq_getElem?_getD, h]
theorem restOf_set (js : List J) (d : List Int) (k : Nat) (x : Int) (h : k < d.length) (h8 : d.length ≤ 8) : (restOf js d).set k ((js.map J.t).getD k 0 - x) = restOf js (d.set k x) := by
  apply List.ext_getElem?
  intro i
  unfold restOf
  rw [List.getElem?_set]
  by_cases hi : i < 8
  · by_cases e : k = i
    · subst e
      simp [hi, List.getD_eq_getElem?_getD, h]
    · simp [hi, e, List.getD_eq_getElem?_getD, List.getElem?_set_ne e]
  · have : k ≠ i := by have := h8; omega
    simp [this, hi]
theorem restOf_done (js : List J) (d : List Int) (hd : d.length = js.length) (h8 : js.length ≤ 8) : restOf js d = List.replicate 8 0 ↔ d = js.map J.t := by
  constructor
  · intro h
    apply List.ext_getElem?
    intro i
    by_cases hi : i < js.length
    · have h1 := restOf_at js d i (by omega)
      rw [h] at h1
      have h2 : (List.replicate 8 (0 : Int)).getD i 0 = 0 := by rw [List.getD_eq_getElem?_getD, List.getElem?_replicate]; split <;> rfl
      rw [h2] at h1
      have hid : i < d.length := by omega
      simp only [List.getD_eq_getElem?_getD, List.getElem?_map, List.getElem?_eq_getElem hi, List.getElem?_eq_getElem hid, Option.map_some, Option.getD_some] at h1 ⊢
      rw [show d[i] = js[i].t by omega]
    · rw [List.getElem?_eq_none (by omega), List.getElem?_eq_none (by simp; omega)]
  · intro h
    subst h
    apply List.ext_getElem?
    intro i
    unfold restOf
    by_cases hi : i < 8
    · rw [List.getElem?_replicate, if_pos hi, List.getElem?_map, List.getElem?_range hi, Option.map_some, Int.sub_self]
    · rw [List.getElem?_replicate, if_neg hi, List.getElem?_eq_none (by simp; omega)]
/-- The times of the jobs and zeros: what is to be done at first. -/
def timesR (js : List J) : List Int := restOf js (List.replicate js.length 0)
/-- The same by jobs: those behind the k-th one are still to be laid. -/
def timesTo (js : List J) (k : Nat) : List Int := (List.range 8).map fun i => if i < k then (js.getD i j0).t else 0
theorem timesTo_zero (js : List J) : timesTo js 0 = List.replicate 8 0 := rfl
theorem timesTo_len (js : List J) (k : Nat) : (timesTo js k).length = 8 := by unfold timesTo; simp
theorem timesTo_succ (js : List J) (k : Nat) (hk : k < js.length) : (timesTo js k).set k js[k].t = timesTo js (k + 1) := by
  apply List.ext_getElem?
  intro i
  unfold timesTo
  rw [List.getElem?_set]
  by_cases hi : i < 8
  · by_cases e : k = i
    · subst e; simp [hi, hk]
    · simp only [e, if_false, List.getElem?_map, List.getElem?_range hi, Option.map_some]
      by_cases h : i < k
      · rw [if_pos h, if_pos (by omega)]
      · rw [if_neg h, if_neg (by omega)]
  · by_cases e : k = i
    · subst e; simp [hi]
    · simp [e, hi]
theorem timesTo_all (js : List J) : timesTo js js.length = timesR js := by
  apply List.ext_getElem?
  intro i
  unfold timesTo timesR restOf
  by_cases hi : i < 8
  · simp only [List.getElem?_map, List.getElem?_range hi, Option.map_some, List.getD_eq_getElem?_getD, List.getElem?_replicate]
    by_cases h : i < js.length
    · simp [h]
    · simp [h]
  · simp [hi]
/-- The ends of the jobs in a list of spans, written over each other. -/
def spEnds (n : Nat) : List Sp → List Int → List Int
  | [], xs => xs
  | s :: ss, xs => spEnds n ss (xs.set s.j.toNat s.t)
def spEndsL (js : List J) (ss : List Sp) : List Int := spEnds js.length ss (List.replicate js.length 0)
theorem spEnds_len (n : Nat) : ∀ (ss : List Sp) (xs : List Int), (spEnds n ss xs).length = xs.length
  | [], _ => rfl
  | s :: ss, xs => by unfold spEnds; rw [spEnds_len n ss]; simp
theorem spEndsL_len (js : List J) (ss : List Sp) : (spEndsL js ss).length = js.length := by unfold spEndsL; rw [spEnds_len]; simp
theorem spEnds_drop (n : Nat) (ss : List Sp) (k : Nat) (xs : List Int) (h : k < ss.length) : spEnds n (ss.drop k) xs = spEnds n (ss.drop (k + 1)) (xs.set ss[k].j.toNat ss[k].t) := by
  rw [List.drop_eq_getElem_cons h]; rfl
/-- Each span of a split schedule has a job and ends in time. -/
theorem spGo_mem (js : List J) : ∀ (ss : List Sp) (d : List Int) (now last : Int), spGo js ss d now last = true → 0 ≤ now → ∀ s ∈ ss, 0 ≤ s.j ∧ s.j < js.length ∧ 0 ≤ s.f ∧ s.f < s.t ∧ s.t ≤ 1000
  | [], _, _, _, _, _, s, hs => by cases hs
  | a :: ss, d, now, last, h, h0, s, hs => by
    unfold spGo at h
    rw [Bool.and_eq_true] at h
    obtain ⟨h1, h2, h3, h4, h5, h6, h7⟩ := spOk_out h.1
    rcases List.mem_cons.1 hs with e | e
    · subst e; exact ⟨h1, h2, by omega, h5, h7⟩
    · exact spGo_mem js ss _ _ _ h.2 (by omega) s e
theorem split_mem {js : List J} {ss : List Sp} (h : splitB js ss = true) : ∀ s ∈ ss, 0 ≤ s.j ∧ s.j < js.length ∧ 0 ≤ s.f ∧ s.f < s.t ∧ s.t ≤ 1000 := spGo_mem js ss _ _ _ h (Int.le_refl _)
theorem spEnds_bd (n : Nat) : ∀ (ss : List Sp) (xs : List Int), (∀ s ∈ ss, 0 ≤ s.t ∧ s.t ≤ 1000) → (∀ x ∈ xs, 0 ≤ x ∧ x ≤ 1000) → ∀ x ∈ spEnds n ss xs, 0 ≤ x ∧ x ≤ 1000
  | [], _, _, h => h
  | s :: ss, xs, hs, h => by
    unfold spEnds
    refine spEnds_bd n ss _ (fun a ha => hs a (List.mem_cons_of_mem _ ha)) fun x hx => ?_
    rcases List.mem_or_eq_of_mem_set hx with e | e
    · exact h x e
    · rw [e]; exact hs s List.mem_cons_self
theorem spEndsL_bd {js : List J} {ss : List Sp} (h : splitB js ss = true) : ∀ x ∈ spEndsL js ss, 0 ≤ x ∧ x ≤ 1000 :=
  spEnds_bd _ ss _ (fun s hs => by obtain ⟨_, _, _, _, _⟩ := split_mem h s hs; omega) (fun x hx => by rw [List.eq_of_mem_replicate hx]; omega)
/-- A split schedule is short: each span lies behind the one ahead of it. -/
theorem spGo_short (js : List J) : ∀ (ss : List Sp) (d : List Int) (now last : Int), spGo js ss d now last = true → now ≤ 1000 → (ss.length : Int) + now ≤ 1000
  | [], _, _, _, _, h => by simp; omega
  | a :: ss, d, now, last, h, h0 => by
    unfold spGo at h
    rw [Bool.and_eq_true] at h
    obtain ⟨h1, h2, h3, h4, h5, h6, h7⟩ := spOk_out h.1
    have := spGo_short js ss _ _ _ h.2 h7
    simp only [List.length_cons]; omega
theorem split_short {js : List J} {ss : List Sp} (h : splitB js ss = true) : ss.length ≤ 1000 := by
  have := spGo_short js ss _ _ _ h (by omega)
  omega
end Go.Proofs.YtejgpecmjfgfbaaDoor
