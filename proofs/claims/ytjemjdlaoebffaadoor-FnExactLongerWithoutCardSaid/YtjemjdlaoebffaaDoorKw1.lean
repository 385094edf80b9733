/- Texts joined: TlP SpP TkP LsP Pap ClS TlS Tkn TkS LsS Wlo ClI TlI TlO Exp Ise LsI. -/
import Derived.Test.YtjemjdlaoebffaaDoorGroP
import Derived.Test.YtjemjdlaoebffaaDoorValP
import Derived.Test.YtjemjdlaoebffaaDoorJobP
import Derived.Test.YtjemjdlaoebffaaDoorPrecP
import Derived.Test.YtjemjdlaoebffaaDoorTbl
import Derived.Test.YtjemjdlaoebffaaDoorPairs
import Derived.Test.YtjemjdlaoebffaaDoorPrx
import Derived.Test.YtjemjdlaoebffaaDoorSchedE
import Derived.Test.YtjemjdlaoebffaaDoorKb1
import Derived.Test.YtjemjdlaoebffaaDoorEndsO
import Derived.Test.YtjemjdlaoebffaaDoorSegH
import Derived.Test.YtjemjdlaoebffaaDoorKb3
import Derived.Test.YtjemjdlaoebffaaDoorPra
import Derived.Shelf.RegionOpen
import Derived.WalkKit
import Derived.Test.YtjemjdlaoebffaaDoorOrd
import Derived.Test.YtjemjdlaoebffaaDoorRetBB
set_option linter.unusedSimpArgs false
set_option linter.unusedVariables false
section
namespace Go.Proofs.YtjemjdlaoebffaaDoor
/-- The greatest of some, 0 at least. -/
def mostTo (g : Nat → Int) (p : Nat → Bool) (k : Nat) : Int := (List.range k).foldl (fun a i => if p i then max a (g i) else a) 0
theorem mostTo_succ (g : Nat → Int) (p : Nat → Bool) (k : Nat) : mostTo g p (k + 1) = if p k then max (mostTo g p k) (g k) else mostTo g p k := by
  unfold mostTo; rw [List.range_succ, List.foldl_append]; rfl
def mostL (g : Nat → Int) (l : List Nat) : Int := l.foldl (fun a i => max a (g i)) 0
theorem mostL_snoc (g : Nat → Int) (l : List Nat) (k : Nat) : mostL g (l ++ [k]) = max (mostL g l) (g k) := by unfold mostL; simp
theorem mostL_filter (g : Nat → Int) (p : Nat → Bool) : ∀ k, mostL g ((List.range k).filter p) = mostTo g p k
  | 0 => rfl
  | k + 1 => by
    rw [mostTo_succ, List.range_succ, List.filter_append, ← mostL_filter g p k]
    cases h : p k
    · rw [List.filter_cons_of_neg (by simp [h])]; simp
    · rw [List.filter_cons_of_pos (by simp [h]), if_pos rfl]
      exact mostL_snoc g _ k
theorem most_bd {g : Nat → Int} {p : Nat → Bool} {m : Int} (hm : 0 ≤ m) : ∀ k, (∀ i, i < k → p i = true → g i ≤ m) → 0 ≤ mostTo g p k ∧ mostTo g p k ≤ m
  | 0, _ => ⟨Int.le_refl _, hm⟩
  | k + 1, h => by
    have ih := most_bd hm k fun i hi => h i (by omega)
    rw [mostTo_succ]
    split
    · rename_i hp
      have := h k (by omega) hp
      omega
    · exact ih
theorem mostL_bd {g : Nat → Int} {m : Int} (hm : 0 ≤ m) : ∀ l : List Nat, (∀ i ∈ l, g i ≤ m) → 0 ≤ mostL g l ∧ mostL g l ≤ m := by
  intro l h
  have key : ∀ (l : List Nat) (a : Int), 0 ≤ a → a ≤ m → (∀ i ∈ l, g i ≤ m) → 0 ≤ l.foldl (fun a i => max a (g i)) a ∧ l.foldl (fun a i => max a (g i)) a ≤ m := by
    intro l
    induction l with
    | nil => intro a h0 h1 _; exact ⟨h0, h1⟩
    | cons x l ih =>
      intro a h0 h1 hl
      have := hl x List.mem_cons_self
      exact ih (max a (g x)) (by omega) (by omega) fun i hi => hl i (List.mem_cons_of_mem _ hi)
  exact key l 0 (Int.le_refl _) hm h
/-- The tail of a job, f jobs deep. -/
def tailF (js : List J) (T : Nat → Nat → Bool) (n : Nat) : Nat → Nat → Int
  | 0, _ => 0
  | f + 1, j => (js.getD j j0).t + mostTo (fun i => tailF js T n f i) (T j) n
theorem tailF_bd {js : List J} (hok : ∀ j ∈ js, okJ j = true) (T : Nat → Nat → Bool) : ∀ (f j : Nat), j < js.length → 0 ≤ tailF js T js.length f j ∧ tailF js T js.length f j ≤ 50 * (f : Int)
  | 0, _, _ => by simp [tailF]
  | f + 1, j, hj => by
    have h1 := most_bd (g := fun i => tailF js T js.length f i) (p := T j) (m := 50 * (f : Int)) (by omega) js.length (fun i hi _ => (tailF_bd hok T f i hi).2)
    have h2 := okJ_out (hok _ (List.getElem_mem hj))
    show 0 ≤ (js.getD j j0).t + mostTo (fun i => tailF js T js.length f i) (T j) js.length ∧ (js.getD j j0).t + mostTo (fun i => tailF js T js.length f i) (T j) js.length ≤ _
    rw [getD_at js j0 hj]
    omega
/-- How many jobs are behind one. -/
def cntS (n : Nat) (T : Nat → Nat → Bool) (j : Nat) : Nat := (List.range n).countP fun i => T j i
theorem cntS_le (n : Nat) (T : Nat → Nat → Bool) (j : Nat) : cntS n T j ≤ n := by
  have := List.countP_le_length (p := fun i => T j i) (l := List.range n)
  rwa [List.length_range] at this
theorem cntS_lt {n : Nat} {E : List Ed} (hirr : irrB n E n = true) {j i : Nat} (hi : i < n) (h : tabB n E j i = true) : cntS n (tabB n E) i < cntS n (tabB n E) j := by
  refine countP_lt' (fun x hx => tabTo_trans E n j i x hi h hx) (i := i) ?_ h (List.range n) (List.mem_range.2 hi)
  unfold irrB at hirr
  have := List.all_eq_true.1 hirr i (List.mem_range.2 hi)
  show tabB n E i i = false
  simpa using this
theorem range_lt : ∀ n, n < 9 → (List.range 8).filter (fun i => decide (i < n)) = List.range n := by decide
theorem memB_bits {n : Nat} (hn : n ≤ 8) (p : Nat → Bool) : memB (bitsN n p) = (List.range n).filter p := by
  unfold memB
  rw [← range_lt n (by omega), List.filter_filter]
  refine List.filter_congr fun i _ => ?_
  rw [bits_bit, Bool.and_comm]
def tailsL (js : List J) (E : List Ed) : List Int := (List.range js.length).map fun j => tailF js (tabB js.length E) js.length 9 j
theorem tailsL_len (js : List J) (E : List Ed) : (tailsL js E).length = js.length := by unfold tailsL; simp
end Go.Proofs.YtjemjdlaoebffaaDoor

end
section
namespace Go.Proofs.YtjemjdlaoebffaaDoor

structure Sp where
  j : Int
  f : Int
  t : Int
def sp0 : Sp := ⟨0, 0, 0⟩
/-- A span may stand behind one that ends at a time and has a job. -/
def spOk (js : List J) (s : Sp) (now last : Int) : Bool :=
  decide (0 ≤ s.j ∧ s.j < js.length ∧ now ≤ s.f ∧ (js.getD s.j.toNat j0).r ≤ s.f ∧ s.f < s.t ∧ ¬ (s.j = last ∧ s.f = now) ∧ s.t ≤ 1000)
theorem spOk_out {js : List J} {s : Sp} {now last : Int} (h : spOk js s now last = true) : 0 ≤ s.j ∧ s.j < js.length ∧ now ≤ s.f ∧ (js.getD s.j.toNat j0).r ≤ s.f ∧ s.f < s.t ∧ ¬ (s.j = last ∧ s.f = now) ∧ s.t ≤ 1000 := by
  unfold spOk at h; exact of_decide_eq_true h
theorem spOk_not {js : List J} {s : Sp} {now last : Int} (h : spOk js s now last = false) : ¬ (0 ≤ s.j ∧ s.j < js.length ∧ now ≤ s.f ∧ (js.getD s.j.toNat j0).r ≤ s.f ∧ s.f < s.t ∧ ¬ (s.j = last ∧ s.f = now) ∧ s.t ≤ 1000) := by
  unfold spOk at h; exact of_decide_eq_false h
def addD (d : List Int) (s : Sp) : List Int := d.set s.j.toNat (d.getD s.j.toNat 0 + s.t - s.f)
def spGo (js : List J) : List Sp → List Int → Int → Int → Bool
  | [], d, _, _ => decide (d = js.map J.t)
  | s :: ss, d, now, last => spOk js s now last && spGo js ss (addD d s) s.t s.j
def splitB (js : List J) (ss : List Sp) : Bool := spGo js ss (List.replicate js.length 0) 0 (-1)
def spBothB (js : List J) (ss : List Sp) : Bool := goodL js && splitB js ss
theorem spGo_drop (js : List J) (ss : List Sp) (k : Nat) (d : List Int) (now last : Int) (h : k < ss.length) :
    spGo js (ss.drop k) d now last = (spOk js ss[k] now last && spGo js (ss.drop (k + 1)) (addD d ss[k]) ss[k].t ss[k].j) := by
  rw [List.drop_eq_getElem_cons h]; rfl
theorem spGo_bad {js : List J} {ss : List Sp} {k : Nat} {d : List Int} {now last : Int} {b : Bool} (h : k < ss.length) (hE : spGo js (ss.drop k) d now last = b) (ho : spOk js ss[k] now last = false) : b = false := by
  rw [spGo_drop js ss k d now last h, ho] at hE; exact hE.symm
theorem spGo_step {js : List J} {ss : List Sp} {k : Nat} {d : List Int} {now last : Int} {b : Bool} (h : k < ss.length) (hE : spGo js (ss.drop k) d now last = b) (ho : spOk js ss[k] now last = true) : spGo js (ss.drop (k + 1)) (addD d ss[k]) ss[k].t ss[k].j = b := by
  rw [spGo_drop js ss k d now last h, ho] at hE; exact hE
theorem spGo_end {js : List J} {ss : List Sp} {k : Nat} {d : List Int} {now last : Int} {b : Bool} (h : ss.length ≤ k) (hE : spGo js (ss.drop k) d now last = b) : b = decide (d = js.map J.t) := by
  rw [List.drop_eq_nil_of_le h] at hE; exact hE.symm
theorem addD_len (d : List Int) (s : Sp) : (addD d s).length = d.length := by unfold addD; simp
/-- What is done of each job is at most the time. -/
def DoneIn (d : List Int) (now : Int) : Prop := ∀ i, 0 ≤ d.getD i 0 ∧ d.getD i 0 ≤ now
theorem doneIn_zero (n : Nat) : DoneIn (List.replicate n 0) 0 := fun i => by
  simp only [List.getD_eq_getElem?_getD, List.getElem?_replicate]
  split <;> simp
theorem doneIn_step {js : List J} {d : List Int} {s : Sp} {now last : Int} (h : DoneIn d now) (ho : spOk js s now last = true) : DoneIn (addD d s) s.t := fun i => by
  obtain ⟨_, _, h1, _, h2, _, _⟩ := spOk_out ho
  have hi := h i
  have hj := h s.j.toNat
  unfold addD
  by_cases e : s.j.toNat = i
  · by_cases hl : s.j.toNat < d.length
    · subst e
      rw [getD_set_eq _ _ _ _ hl]; omega
    · rw [List.set_eq_of_length_le (by omega)]; omega
  · rw [getD_set_ne _ _ _ _ _ e]; omega

/-- What is still to be done, by eight numbers. -/
def restOf (js : List J) (d : List Int) : List Int := (List.range 8).map fun i => (js.map J.t).getD i 0 - d.getD i 0
theorem restOf_len (js : List J) (d : List Int) : (restOf js d).length = 8 := by unfold restOf; simp
theorem restOf_at (js : List J) (d : List Int) (i : Nat) (h : i < 8) : (restOf js d).getD i 0 = (js.map J.t).getD i 0 - d.getD i 0 := by
  unfold restOf; simp [List.getD_eq_getElem?_getD, h]
theorem restOf_set (js : List J) (d : List Int) (k : Nat) (x : Int) (h : k < d.length) (h8 : d.length ≤ 8) : (restOf js d).set k ((js.map J.t).getD k 0 - x) = restOf js (d.set k x) := by
  apply List.ext_getElem?
  intro i
  unfold restOf
  rw [List.getElem?_set]
  by_cases hi : i < 8
  · by_cases e : k = i
    · subst e
      simp [hi, List.getD_eq_getElem?_getD, h]
    · simp [hi, e, List.getD_eq_getElem?_getD, List.getElem?_set_ne e]
  · have : k ≠ i := by have := h8; omega
    simp [this, hi]
theorem restOf_done (js : List J) (d : List Int) (hd : d.length = js.length) (h8 : js.length ≤ 8) : restOf js d = List.replicate 8 0 ↔ d = js.map J.t := by
  constructor
  · intro h
    apply List.ext_getElem?
    intro i
    by_cases hi : i < js.length
    · have h1 := restOf_at js d i (by omega)
      rw [h] at h1
      have h2 : (List.replicate 8 (0 : Int)).getD i 0 = 0 := by rw [List.getD_eq_getElem?_getD, List.getElem?_replicate]; split <;> rfl
      rw [h2] at h1
      have hid : i < d.length := by omega
      simp only [List.getD_eq_getElem?_getD, List.getElem?_map, List.getElem?_eq_getElem hi, List.getElem?_eq_getElem hid, Option.map_some, Option.getD_some] at h1 ⊢
      rw [show d[i] = js[i].t by omega]
    · rw [List.getElem?_eq_none (by omega), List.getElem?_eq_none (by simp; omega)]
  · intro h
    subst h
    apply List.ext_getElem?
    intro i
    unfold restOf
    by_cases hi : i < 8
    · rw [List.getElem?_replicate, if_pos hi, List.getElem?_map, List.getElem?_range hi, Option.map_some, Int.sub_self]
    · rw [List.getElem?_replicate, if_neg hi, List.getElem?_eq_none (by simp; omega)]
/-- The times of the jobs and zeros: what is to be done at first. -/
def timesR (js : List J) : List Int := restOf js (List.replicate js.length 0)
/-- The same by jobs: those behind the k-th one are still to be laid. -/
def timesTo (js : List J) (k : Nat) : List Int := (List.range 8).map fun i => if i < k then (js.getD i j0).t else 0
theorem timesTo_zero (js : List J) : timesTo js 0 = List.replicate 8 0 := rfl
theorem timesTo_len (js : List J) (k : Nat) : (timesTo js k).length = 8 := by unfold timesTo; simp
theorem timesTo_succ (js : List J) (k : Nat) (hk : k < js.length) : (timesTo js k).set k js[k].t = timesTo js (k + 1) := by
  apply List.ext_getElem?
  intro i
  unfold timesTo
  rw [List.getElem?_set]
  by_cases hi : i < 8
  · by_cases e : k = i
    · subst e; simp [hi, hk]
    · simp only [e, if_false, List.getElem?_map, List.getElem?_range hi, Option.map_some]
      by_cases h : i < k
      · rw [if_pos h, if_pos (by omega)]
      · rw [if_neg h, if_neg (by omega)]
  · by_cases e : k = i
    · subst e; simp [hi]
    · simp [e, hi]
theorem timesTo_all (js : List J) : timesTo js js.length = timesR js := by
  apply List.ext_getElem?
  intro i
  unfold timesTo timesR restOf
  by_cases hi : i < 8
  · simp only [List.getElem?_map, List.getElem?_range hi, Option.map_some, List.getD_eq_getElem?_getD, List.getElem?_replicate]
    by_cases h : i < js.length
    · simp [h]
    · simp [h]
  · simp [hi]
/-- The ends of the jobs in a list of spans, written over each other. -/
def spEnds (n : Nat) : List Sp → List Int → List Int
  | [], xs => xs
  | s :: ss, xs => spEnds n ss (xs.set s.j.toNat s.t)
def spEndsL (js : List J) (ss : List Sp) : List Int := spEnds js.length ss (List.replicate js.length 0)
theorem spEnds_len (n : Nat) : ∀ (ss : List Sp) (xs : List Int), (spEnds n ss xs).length = xs.length
  | [], _ => rfl
  | s :: ss, xs => by unfold spEnds; rw [spEnds_len n ss]; simp
theorem spEndsL_len (js : List J) (ss : List Sp) : (spEndsL js ss).length = js.length := by unfold spEndsL; rw [spEnds_len]; simp
theorem spEnds_drop (n : Nat) (ss : List Sp) (k : Nat) (xs : List Int) (h : k < ss.length) : spEnds n (ss.drop k) xs = spEnds n (ss.drop (k + 1)) (xs.set ss[k].j.toNat ss[k].t) := by
  rw [List.drop_eq_getElem_cons h]; rfl
/-- Each span of a split schedule has a job and ends in time. -/
theorem spGo_mem (js : List J) : ∀ (ss : List Sp) (d : List Int) (now last : Int), spGo js ss d now last = true → 0 ≤ now → ∀ s ∈ ss, 0 ≤ s.j ∧ s.j < js.length ∧ 0 ≤ s.f ∧ s.f < s.t ∧ s.t ≤ 1000
  | [], _, _, _, _, _, s, hs => by cases hs
  | a :: ss, d, now, last, h, h0, s, hs => by
    unfold spGo at h
    rw [Bool.and_eq_true] at h
    obtain ⟨h1, h2, h3, h4, h5, h6, h7⟩ := spOk_out h.1
    rcases List.mem_cons.1 hs with e | e
    · subst e; exact ⟨h1, h2, by omega, h5, h7⟩
    · exact spGo_mem js ss _ _ _ h.2 (by omega) s e
theorem split_mem {js : List J} {ss : List Sp} (h : splitB js ss = true) : ∀ s ∈ ss, 0 ≤ s.j ∧ s.j < js.length ∧ 0 ≤ s.f ∧ s.f < s.t ∧ s.t ≤ 1000 := spGo_mem js ss _ _ _ h (Int.le_refl _)
theorem spEnds_bd (n : Nat) : ∀ (ss : List Sp) (xs : List Int), (∀ s ∈ ss, 0 ≤ s.t ∧ s.t ≤ 1000) → (∀ x ∈ xs, 0 ≤ x ∧ x ≤ 1000) → ∀ x ∈ spEnds n ss xs, 0 ≤ x ∧ x ≤ 1000
  | [], _, _, h => h
  | s :: ss, xs, hs, h => by
    unfold spEnds
    refine spEnds_bd n ss _ (fun a ha => hs a (List.mem_cons_of_mem _ ha)) fun x hx => ?_
    rcases List.mem_or_eq_of_mem_set hx with e | e
    · exact h x e
    · rw [e]; exact hs s List.mem_cons_self
theorem spEndsL_bd {js : List J} {ss : List Sp} (h : splitB js ss = true) : ∀ x ∈ spEndsL js ss, 0 ≤ x ∧ x ≤ 1000 :=
  spEnds_bd _ ss _ (fun s hs => by obtain ⟨_, _, _, _, _⟩ := split_mem h s hs; omega) (fun x hx => by rw [List.eq_of_mem_replicate hx]; omega)
/-- A split schedule is short: each span lies behind the one ahead of it. -/
theorem spGo_short (js : List J) : ∀ (ss : List Sp) (d : List Int) (now last : Int), spGo js ss d now last = true → now ≤ 1000 → (ss.length : Int) + now ≤ 1000
  | [], _, _, _, _, h => by simp; omega
  | a :: ss, d, now, last, h, h0 => by
    unfold spGo at h
    rw [Bool.and_eq_true] at h
    obtain ⟨h1, h2, h3, h4, h5, h6, h7⟩ := spOk_out h.1
    have := spGo_short js ss _ _ _ h.2 h7
    simp only [List.length_cons]; omega
theorem split_short {js : List J} {ss : List Sp} (h : splitB js ss = true) : ss.length ≤ 1000 := by
  have := spGo_short js ss _ _ _ h (by omega)
  omega
end Go.Proofs.YtjemjdlaoebffaaDoor

end
section
namespace Go.Proofs.YtjemjdlaoebffaaDoor
def tkAt (ss : List Sp) (i : Nat) : Sp := ss.getD i sp0
def jAt (js : List J) (i : Nat) : Int := (js.getD i j0).t
def tkOk (m : Int) (k : Nat) (s : Sp) : Bool := decide (s.j = (k : Int) ∧ 0 ≤ s.f ∧ s.f < m ∧ 0 ≤ s.t ∧ s.t ≤ 500)
def tksB (n : Nat) (m : Int) (ss : List Sp) : Bool := decide (ss.length = n) && (List.range n).all fun k => tkOk m k (tkAt ss k)
/-- The first of a pair of jobs is not over when the second begins. -/
def runsB (js : List J) (ss : List Sp) (i k : Nat) : Bool := decide ((tkAt ss k).t < (tkAt ss i).t + jAt js i)
def clash (js : List J) (T : Nat → Nat → Bool) (ss : List Sp) (i k : Nat) : Bool :=
  (T i k && runsB js ss i k) || (decide (i < k) && (decide ((tkAt ss i).f = (tkAt ss k).f) && (runsB js ss i k && runsB js ss k i)))
def planB (js : List J) (m : Int) (T : Nat → Nat → Bool) (ss : List Sp) : Bool :=
  tksB js.length m ss && (List.range js.length).all fun i => (List.range js.length).all fun k => !clash js T ss i k
/-- As the program asks it, of a job and one before it. -/
def clash2 (js : List J) (T : Nat → Nat → Bool) (ss : List Sp) (i j : Nat) : Bool :=
  (decide ((tkAt ss i).f = (tkAt ss j).f) && (runsB js ss j i && runsB js ss i j)) || ((T i j && runsB js ss i j) || (T j i && runsB js ss j i))
theorem clash2_eq (js : List J) (T : Nat → Nat → Bool) (ss : List Sp) {i j : Nat} (h : j < i) : clash2 js T ss i j = (clash js T ss i j || clash js T ss j i) := by
  unfold clash2 clash
  have h1 : decide (i < j) = false := decide_eq_false (by omega)
  have h2 : decide (j < i) = true := decide_eq_true h
  have h3 : decide ((tkAt ss i).f = (tkAt ss j).f) = decide ((tkAt ss j).f = (tkAt ss i).f) := by
    by_cases e : (tkAt ss i).f = (tkAt ss j).f
    · rw [decide_eq_true e, decide_eq_true e.symm]
    · rw [decide_eq_false e, decide_eq_false (fun q => e q.symm)]
  rw [h1, h2, h3]
  cases T i j <;> cases T j i <;> cases runsB js ss i j <;> cases runsB js ss j i <;> cases decide ((tkAt ss j).f = (tkAt ss i).f) <;> rfl
theorem tks_no_len {n : Nat} {m : Int} {ss : List Sp} (h : ¬ ss.length = n) : tksB n m ss = false := by unfold tksB; rw [decide_eq_false h]; rfl
theorem tks_bad {n : Nat} {m : Int} {ss : List Sp} {k : Nat} (hk : k < n) (h : tkOk m k (tkAt ss k) = false) : tksB n m ss = false := by
  unfold tksB
  rw [List.all_eq_false.2 ⟨k, List.mem_range.2 hk, by rw [h]; decide⟩, Bool.and_false]
theorem tks_good {n : Nat} {m : Int} {ss : List Sp} (hl : ss.length = n) (h : ∀ k, k < n → tkOk m k (tkAt ss k) = true) : tksB n m ss = true := by
  unfold tksB
  rw [decide_eq_true hl, List.all_eq_true.2 (fun k hk => h k (List.mem_range.1 hk))]; rfl
theorem tks_out {n : Nat} {m : Int} {ss : List Sp} (h : tksB n m ss = true) : ss.length = n ∧ ∀ k, k < n → tkOk m k (tkAt ss k) = true := by
  unfold tksB at h
  rw [Bool.and_eq_true] at h
  exact ⟨of_decide_eq_true h.1, fun k hk => List.all_eq_true.1 h.2 k (List.mem_range.2 hk)⟩
theorem tkOk_out {m : Int} {k : Nat} {s : Sp} (h : tkOk m k s = true) : s.j = (k : Int) ∧ 0 ≤ s.f ∧ s.f < m ∧ 0 ≤ s.t ∧ s.t ≤ 500 := of_decide_eq_true h
theorem plan_no {js : List J} {m : Int} {T : Nat → Nat → Bool} {ss : List Sp} (h : tksB js.length m ss = false) : planB js m T ss = false := by unfold planB; rw [h]; rfl
theorem plan_bad {js : List J} {m : Int} {T : Nat → Nat → Bool} {ss : List Sp} {i k : Nat} (hi : i < js.length) (hk : k < js.length) (h : clash js T ss i k = true) : planB js m T ss = false := by
  unfold planB
  rw [List.all_eq_false.2 ⟨i, List.mem_range.2 hi, by rw [List.all_eq_false.2 ⟨k, List.mem_range.2 hk, by rw [h]; decide⟩]; decide⟩, Bool.and_false]
theorem plan_good {js : List J} {m : Int} {T : Nat → Nat → Bool} {ss : List Sp} (ht : tksB js.length m ss = true) (h : ∀ i, i < js.length → ∀ k, k < js.length → clash js T ss i k = false) : planB js m T ss = true := by
  unfold planB
  rw [ht, Bool.true_and]
  exact List.all_eq_true.2 fun i hi => List.all_eq_true.2 fun k hk => by rw [h i (List.mem_range.1 hi) k (List.mem_range.1 hk)]; rfl
theorem plan_out {js : List J} {m : Int} {T : Nat → Nat → Bool} {ss : List Sp} (h : planB js m T ss = true) : tksB js.length m ss = true := by
  unfold planB at h; rw [Bool.and_eq_true] at h; exact h.1
theorem plan_bad2 {js : List J} {m : Int} {T : Nat → Nat → Bool} {ss : List Sp} {i j : Nat} (hi : i < js.length) (hj : j < i) (h : clash2 js T ss i j = true) : planB js m T ss = false := by
  rw [clash2_eq js T ss hj, Bool.or_eq_true] at h
  rcases h with h | h
  · exact plan_bad hi (by omega) h
  · exact plan_bad (by omega) hi h
theorem plan_good2 {js : List J} {m : Int} {T : Nat → Nat → Bool} {ss : List Sp} (ht : tksB js.length m ss = true) (hirr : ∀ i, i < js.length → T i i = false) (h : ∀ i, i < js.length → ∀ j, j < i → clash2 js T ss i j = false) : planB js m T ss = true := by
  refine plan_good ht fun i hi k hk => ?_
  rcases Nat.lt_trichotomy i k with hik | hik | hik
  · have := h k hk i hik
    rw [clash2_eq js T ss hik, Bool.or_eq_false_iff] at this
    exact this.2
  · subst hik
    unfold clash
    rw [hirr i hi, decide_eq_false (Nat.lt_irrefl i)]; rfl
  · have := h i hi k hik
    rw [clash2_eq js T ss hik, Bool.or_eq_false_iff] at this
    exact this.1
theorem irr_at {n : Nat} {E : List Ed} (h : irrB n E n = true) : ∀ i, i < n → tabB n E i i = false := fun i hi => by
  have := List.all_eq_true.1 h i (List.mem_range.2 hi)
  simpa using this
def endsT (js : List J) (ss : List Sp) : List Int := (List.range js.length).map fun i => (tkAt ss i).t + jAt js i
theorem endsT_len (js : List J) (ss : List Sp) : (endsT js ss).length = js.length := by unfold endsT; simp
theorem endsT_at (js : List J) (ss : List Sp) (i : Nat) (h : i < (endsT js ss).length) : (endsT js ss)[i] = (tkAt ss i).t + jAt js i := by simp [endsT]
end Go.Proofs.YtjemjdlaoebffaaDoor

end
section
namespace Go.Proofs.YtjemjdlaoebffaaDoor
def endAt (ends : List Int) (k : Nat) : Int := ends.getD k 1000
def canS (n : Nat) (T : Nat → Nat → Bool) (ends : List Int) (now : Int) (j : Nat) : Bool := (List.range n).all fun k => !(T k j) || decide (endAt ends k ≤ now)
structure LsS where
  free : List Int
  ends : List Int
  plan : List Sp
def leftL (ord : List Nat) (ends : List Int) : List Nat := ord.filter fun j => decide (endAt ends j = 1000)
def pickJ (n : Nat) (T : Nat → Nat → Bool) (ord : List Nat) (ends : List Int) (now : Int) : Option Nat := (leftL ord ends).find? (canS n T ends now)
def assignL (js : List J) (s : LsS) (now : Int) (k j : Nat) : LsS := ⟨s.free.set k (now + jAt js j), s.ends.set j (now + jAt js j), s.plan.set j ⟨(j : Int), (k : Int), now⟩⟩
def stepL (js : List J) (T : Nat → Nat → Bool) (ord : List Nat) (now : Int) (s : LsS) (k : Nat) : LsS :=
  if s.free.getD k 0 ≤ now then (match pickJ js.length T ord s.ends now with | none => s | some j => assignL js s now k j) else s
def startTo (js : List J) (T : Nat → Nat → Bool) (ord : List Nat) (now : Int) (s : LsS) (k : Nat) : LsS := (List.range k).foldl (stepL js T ord now) s
theorem startTo_succ (js : List J) (T : Nat → Nat → Bool) (ord : List Nat) (now : Int) (s : LsS) (k : Nat) : startTo js T ord now s (k + 1) = stepL js T ord now (startTo js T ord now s k) k := by
  unfold startTo; rw [List.range_succ, List.foldl_append]; rfl
def soonL (ends : List Int) (now : Int) : Int := ends.foldl (fun a e => if now < e then min a e else a) 1000
def runL (js : List J) (T : Nat → Nat → Bool) (ord : List Nat) (m : Nat) : Nat → Int → LsS → List Sp
  | 0, _, s => s.plan
  | f + 1, now, s => if leftL ord s.ends = [] then s.plan else runL js T ord m f (soonL (startTo js T ord now s m).ends now) (startTo js T ord now s m)
def initL (n m : Nat) : LsS := ⟨List.replicate m 0, List.replicate n 1000, List.replicate n ⟨0, 0, 0⟩⟩
def listL (js : List J) (T : Nat → Nat → Bool) (ord : List Nat) (m : Nat) : List Sp := runL js T ord m 1001 0 (initL js.length m)
/-- The sum of the Times of the jobs that have started. -/
def sumS (js : List J) (ends : List Int) : Nat → Int
  | 0 => 0
  | k + 1 => sumS js ends k + if endAt ends k = 1000 then 0 else jAt js k
/-- What holds of a state at a time. -/
structure OkL (js : List J) (m : Nat) (now : Int) (s : LsS) : Prop where
  lf : s.free.length = m
  le : s.ends.length = js.length
  lp : s.plan.length = js.length
  n0 : 0 ≤ now
  n1 : now ≤ sumS js s.ends js.length
  en : ∀ k, k < js.length → endAt s.ends k = 1000 ∨ (0 < endAt s.ends k ∧ endAt s.ends k ≤ sumS js s.ends js.length)
  fr : ∀ k, k < m → s.free.getD k 0 = 0 ∨ ∃ j, j < js.length ∧ endAt s.ends j = s.free.getD k 0 ∧ endAt s.ends j ≠ 1000
theorem jAt_bd {js : List J} (hok : ∀ j ∈ js, okJ j = true) {k : Nat} (hk : k < js.length) : 1 ≤ jAt js k ∧ jAt js k ≤ 50 := by
  unfold jAt
  rw [getD_at js j0 hk]
  have := okJ_out (hok _ (List.getElem_mem hk))
  omega
theorem sumS_bd {js : List J} (hok : ∀ j ∈ js, okJ j = true) (ends : List Int) : ∀ k, k ≤ js.length → 0 ≤ sumS js ends k ∧ sumS js ends k ≤ 50 * (k : Int)
  | 0, _ => by simp [sumS]
  | k + 1, hk => by
    have h := sumS_bd hok ends k (by omega)
    have hj := jAt_bd hok (show k < js.length by omega)
    unfold sumS
    split <;> omega
theorem endAt_set {ends : List Int} {j k : Nat} {e : Int} (hj : j < ends.length) : endAt (ends.set j e) k = if j = k then e else endAt ends k := by
  unfold endAt
  simp only [List.getD_eq_getElem?_getD, List.getElem?_set]
  by_cases h : j = k
  · subst h; simp [hj]
  · simp [h]
theorem sumS_set {js : List J} {ends : List Int} {j : Nat} {e : Int} (hj : j < ends.length) (h0 : endAt ends j = 1000) (he : e ≠ 1000) : ∀ k, sumS js (ends.set j e) k = sumS js ends k + if j < k then jAt js j else 0
  | 0 => by simp [sumS]
  | k + 1 => by
    have ih := sumS_set (js := js) hj h0 he k
    unfold sumS
    rw [ih, endAt_set hj]
    by_cases h : j = k
    · subst h
      rw [if_pos rfl, if_neg he, if_pos h0, if_neg (by omega), if_pos (by omega)]
    · rw [if_neg h]
      generalize (if endAt ends k = 1000 then (0 : Int) else jAt js k) = x
      by_cases h2 : j < k
      · rw [if_pos h2, if_pos (by omega)]; omega
      · rw [if_neg h2, if_neg (by omega)]; omega
theorem left_lt {ord : List Nat} {ends : List Int} {n : Nat} (ho : ∀ j ∈ ord, j < n) {j : Nat} (h : j ∈ leftL ord ends) : j < n ∧ endAt ends j = 1000 := by
  unfold leftL at h
  rw [List.mem_filter, decide_eq_true_eq] at h
  exact ⟨ho j h.1, h.2⟩
theorem pick_out {n : Nat} {T : Nat → Nat → Bool} {ord : List Nat} {ends : List Int} {now : Int} {j : Nat} (ho : ∀ j ∈ ord, j < n) (h : pickJ n T ord ends now = some j) : j < n ∧ endAt ends j = 1000 ∧ canS n T ends now j = true := by
  unfold pickJ at h
  have h1 := left_lt ho (List.mem_of_find?_eq_some h)
  exact ⟨h1.1, h1.2, List.find?_some h⟩
section
variable {js : List J} {T : Nat → Nat → Bool} {ord : List Nat} {m : Nat} {now : Int} {s : LsS}
theorem OkL.bd (h : OkL js m now s) (hok : ∀ j ∈ js, okJ j = true) (h8 : js.length ≤ 8) : now ≤ 400 ∧ sumS js s.ends js.length ≤ 400 := by
  have := sumS_bd hok s.ends js.length (Nat.le_refl _)
  have := h.n1
  omega
theorem OkL.assign (h : OkL js m now s) (hok : ∀ j ∈ js, okJ j = true) (h8 : js.length ≤ 8) {k j : Nat} (hk : k < m) (hj : j < js.length) (h0 : endAt s.ends j = 1000) : OkL js m now (assignL js s now k j) := by
  have hb := h.bd hok h8
  have hjt := jAt_bd hok hj
  have hle : j < s.ends.length := by rw [h.le]; exact hj
  have hn0 := h.n0
  have hs := sumS_set (js := js) hle h0 (e := now + jAt js j) (by omega) js.length
  rw [if_pos hj] at hs
  have hn1 := h.n1
  refine ⟨by simp [assignL, h.lf], by simp [assignL, h.le], by simp [assignL, h.lp], hn0, ?_, fun i hi => ?_, fun i hi => ?_⟩
  · show now ≤ sumS js (s.ends.set j (now + jAt js j)) js.length
    omega
  · show endAt (s.ends.set j (now + jAt js j)) i = 1000 ∨ (0 < endAt (s.ends.set j (now + jAt js j)) i ∧ endAt (s.ends.set j (now + jAt js j)) i ≤ sumS js (s.ends.set j (now + jAt js j)) js.length)
    rw [endAt_set hle, hs]
    by_cases e : j = i
    · rw [if_pos e]; omega
    · rw [if_neg e]
      have := h.en i hi
      omega
  · show (s.free.set k (now + jAt js j)).getD i 0 = 0 ∨ ∃ q, q < js.length ∧ endAt (s.ends.set j (now + jAt js j)) q = (s.free.set k (now + jAt js j)).getD i 0 ∧ endAt (s.ends.set j (now + jAt js j)) q ≠ 1000
    have hfs : (s.free.set k (now + jAt js j)).getD i 0 = if k = i then now + jAt js j else s.free.getD i 0 := by
      simp only [List.getD_eq_getElem?_getD, List.getElem?_set]
      by_cases e : k = i
      · subst e; simp [h.lf, hk]
      · simp [e]
    rw [hfs]
    by_cases e : k = i
    · rw [if_pos e]
      refine .inr ⟨j, hj, ?_, ?_⟩
      · rw [endAt_set hle, if_pos rfl]
      · rw [endAt_set hle, if_pos rfl]; omega
    · rw [if_neg e]
      rcases h.fr i hi with h1 | ⟨q, hq, h2, h3⟩
      · exact .inl h1
      · refine .inr ⟨q, hq, ?_, ?_⟩
        · rw [endAt_set hle, if_neg (fun x => by subst x; exact h3 h0)]; exact h2
        · rw [endAt_set hle, if_neg (fun x => by subst x; exact h3 h0)]; exact h3
theorem OkL.step (h : OkL js m now s) (hok : ∀ j ∈ js, okJ j = true) (h8 : js.length ≤ 8) (ho : ∀ j ∈ ord, j < js.length) {k : Nat} (hk : k < m) : OkL js m now (stepL js T ord now s k) := by
  unfold stepL
  split
  · cases hp : pickJ js.length T ord s.ends now with
    | none => exact h
    | some j =>
      have := pick_out ho hp
      exact h.assign hok h8 hk this.1 this.2.1
  · exact h
theorem OkL.start (h : OkL js m now s) (hok : ∀ j ∈ js, okJ j = true) (h8 : js.length ≤ 8) (ho : ∀ j ∈ ord, j < js.length) : ∀ k, k ≤ m → OkL js m now (startTo js T ord now s k)
  | 0, _ => h
  | k + 1, hk => by
    rw [startTo_succ]
    exact (OkL.start h hok h8 ho k (by omega)).step hok h8 ho (by omega)
/-- Which jobs have ended does not change while jobs start. -/
theorem done_assign (h : OkL js m now s) (hok : ∀ j ∈ js, okJ j = true) (h8 : js.length ≤ 8) {k j : Nat} (hj : j < js.length) (h0 : endAt s.ends j = 1000) (i : Nat) : (endAt (assignL js s now k j).ends i ≤ now) ↔ (endAt s.ends i ≤ now) := by
  have hb := h.bd hok h8
  have hjt := jAt_bd hok hj
  show endAt (s.ends.set j (now + jAt js j)) i ≤ now ↔ _
  rw [endAt_set (by rw [h.le]; exact hj)]
  by_cases e : j = i
  · subst e; rw [if_pos rfl]; omega
  · rw [if_neg e]
theorem done_step (h : OkL js m now s) (hok : ∀ j ∈ js, okJ j = true) (h8 : js.length ≤ 8) (ho : ∀ j ∈ ord, j < js.length) (k i : Nat) : (endAt (stepL js T ord now s k).ends i ≤ now) ↔ (endAt s.ends i ≤ now) := by
  unfold stepL
  split
  · cases hp : pickJ js.length T ord s.ends now with
    | none => exact Iff.rfl
    | some j =>
      have := pick_out ho hp
      exact done_assign h hok h8 this.1 this.2.1 i
  · exact Iff.rfl
theorem done_start (h : OkL js m now s) (hok : ∀ j ∈ js, okJ j = true) (h8 : js.length ≤ 8) (ho : ∀ j ∈ ord, j < js.length) (i : Nat) : ∀ k, k ≤ m → ((endAt (startTo js T ord now s k).ends i ≤ now) ↔ (endAt s.ends i ≤ now))
  | 0, _ => Iff.rfl
  | k + 1, hk => by
    rw [startTo_succ]
    exact (done_step (h.start hok h8 ho k (by omega)) hok h8 ho k i).trans (done_start h hok h8 ho i k (by omega))
theorem canS_congr {n : Nat} {e1 e2 : List Int} (h : ∀ i, (endAt e1 i ≤ now) ↔ (endAt e2 i ≤ now)) (j : Nat) : canS n T e1 now j = canS n T e2 now j := by
  unfold canS
  congr 1
  funext k
  rw [decide_eq_decide.2 (h k)]
/-- Once no job can start, none does. -/
theorem start_stuck {k : Nat} (h : pickJ js.length T ord (startTo js T ord now s k).ends now = none) : ∀ d, startTo js T ord now s (k + d) = startTo js T ord now s k
  | 0 => rfl
  | d + 1 => by
    rw [show k + (d + 1) = (k + d) + 1 by omega, startTo_succ, start_stuck h d]
    unfold stepL
    rw [h]
    split <;> rfl
theorem stuck_all {k : Nat} (hk : k ≤ m) (h : pickJ js.length T ord (startTo js T ord now s k).ends now = none) : startTo js T ord now s m = startTo js T ord now s k := by
  have := start_stuck h (m - k)
  rwa [show k + (m - k) = m by omega] at this
/-- A job is being done at a time. -/
def runsAt (js : List J) (ends : List Int) (now : Int) : Prop := ∃ k, k < js.length ∧ now < endAt ends k ∧ endAt ends k ≠ 1000
theorem runs_step (h : OkL js m now s) (ho : ∀ j ∈ ord, j < js.length) {k : Nat} (hr : runsAt js s.ends now) : runsAt js (stepL js T ord now s k).ends now := by
  unfold stepL
  split
  · cases hp : pickJ js.length T ord s.ends now with
    | none => exact hr
    | some j =>
      have hj := pick_out ho hp
      obtain ⟨i, hi, h1, h2⟩ := hr
      have hij : ¬ j = i := fun e => by subst e; exact h2 hj.2.1
      refine ⟨i, hi, ?_, ?_⟩
      · show now < endAt (s.ends.set j _) i
        rw [endAt_set (by rw [h.le]; exact hj.1), if_neg hij]; exact h1
      · show endAt (s.ends.set j _) i ≠ 1000
        rw [endAt_set (by rw [h.le]; exact hj.1), if_neg hij]; exact h2
  · exact hr
theorem runs_start (h : OkL js m now s) (hok : ∀ j ∈ js, okJ j = true) (h8 : js.length ≤ 8) (ho : ∀ j ∈ ord, j < js.length) {a : Nat} (hr : runsAt js (startTo js T ord now s a).ends now) : ∀ d, a + d ≤ m → runsAt js (startTo js T ord now s (a + d)).ends now
  | 0, _ => hr
  | d + 1, hd => by
    rw [show a + (d + 1) = (a + d) + 1 by omega, startTo_succ]
    exact runs_step (h.start hok h8 ho (a + d) (by omega)) ho (runs_start h hok h8 ho hr d (by omega))
end
/-- Of jobs that have not started, one has nothing before it that has not. -/
theorem least_left {n : Nat} {E : List Ed} (hirr : irrB n E n = true) {p : Nat → Bool} : ∀ (f : Nat) (j : Nat), n - cntS n (tabB n E) j < f → j < n → p j = true → ∃ i, i < n ∧ p i = true ∧ ∀ k, k < n → tabB n E k i = true → p k = false
  | 0, _, h, _, _ => by omega
  | f + 1, j, h, hj, hp => by
    by_cases hx : ∃ k, k < n ∧ tabB n E k j = true ∧ p k = true
    · obtain ⟨k, hk, hT, hpk⟩ := hx
      have h1 := cntS_lt hirr hj hT
      have h2 := cntS_le n (tabB n E) k
      exact least_left hirr f k (by omega) hk hpk
    · refine ⟨j, hj, hp, fun k hk hT => ?_⟩
      cases hpk : p k
      · rfl
      · exact absurd ⟨k, hk, hT, hpk⟩ hx
/-- While jobs are left, one is being done behind the start. -/
theorem runs_after {js : List J} {E : List Ed} {ord : List Nat} {m : Nat} {now : Int} {s : LsS} (h : OkL js m now s) (hok : ∀ j ∈ js, okJ j = true) (h8 : js.length ≤ 8) (ho : ∀ j ∈ ord, j < js.length) (hall : ∀ j, j < js.length → j ∈ ord) (hirr : irrB js.length E js.length = true) (hm : 0 < m) (hl : leftL ord s.ends ≠ []) :
    runsAt js (startTo js (tabB js.length E) ord now s m).ends now := by
  by_cases hr : runsAt js s.ends now
  · have := runs_start (T := tabB js.length E) (a := 0) h hok h8 ho hr m (by omega)
    rwa [Nat.zero_add] at this
  · obtain ⟨j, hj⟩ := List.exists_mem_of_ne_nil _ hl
    have hj2 := left_lt ho hj
    obtain ⟨i, hi, hpi, hmin⟩ := least_left hirr (p := fun j => decide (endAt s.ends j = 1000)) (js.length + 1) j (by omega) hj2.1 (by simpa using hj2.2)
    have hpi' : endAt s.ends i = 1000 := by simpa using hpi
    have hcan : canS js.length (tabB js.length E) s.ends now i = true := by
      unfold canS
      rw [List.all_eq_true]
      intro k hk
      rw [List.mem_range] at hk
      cases hT : tabB js.length E k i
      · rfl
      · have h1 := hmin k hk hT
        have h1' : ¬ endAt s.ends k = 1000 := by simpa using h1
        have h2 : ¬ now < endAt s.ends k := fun h2 => hr ⟨k, hk, h2, h1'⟩
        simp; omega
    have hf : s.free.getD 0 0 ≤ now := by
      have hn := h.n0
      rcases h.fr 0 hm with h1 | ⟨q, hq, h2, h3⟩
      · omega
      · have : ¬ now < endAt s.ends q := fun h4 => hr ⟨q, hq, h4, h3⟩
        omega
    have hex : ∃ q, pickJ js.length (tabB js.length E) ord s.ends now = some q := by
      cases hp : pickJ js.length (tabB js.length E) ord s.ends now with
      | some q => exact ⟨q, rfl⟩
      | none =>
        unfold pickJ at hp
        rw [List.find?_eq_none] at hp
        exact absurd hcan (hp i (by unfold leftL; rw [List.mem_filter]; exact ⟨hall i hi, hpi⟩))
    obtain ⟨q, hq⟩ := hex
    have hq2 := pick_out ho hq
    have hs1 : startTo js (tabB js.length E) ord now s 1 = assignL js s now 0 q := by
      rw [startTo_succ]
      show stepL js _ ord now s 0 = _
      unfold stepL
      rw [if_pos hf, hq]
    have hjt := jAt_bd hok hq2.1
    have hb := h.bd hok h8
    have hr1 : runsAt js (startTo js (tabB js.length E) ord now s 1).ends now := by
      rw [hs1]
      refine ⟨q, hq2.1, ?_, ?_⟩
      · show now < endAt (s.ends.set q _) q
        rw [endAt_set (by rw [h.le]; exact hq2.1), if_pos rfl]; omega
      · show endAt (s.ends.set q _) q ≠ 1000
        rw [endAt_set (by rw [h.le]; exact hq2.1), if_pos rfl]; omega
    have := runs_start (T := tabB js.length E) (a := 1) h hok h8 ho hr1 (m - 1) (by omega)
    rwa [show 1 + (m - 1) = m by omega] at this
theorem soon_go (now : Int) : ∀ (es : List Int) (a : Int), (es.foldl (fun a e => if now < e then min a e else a) a = a ∨ (es.foldl (fun a e => if now < e then min a e else a) a ∈ es ∧ now < es.foldl (fun a e => if now < e then min a e else a) a)) ∧ es.foldl (fun a e => if now < e then min a e else a) a ≤ a ∧ ∀ e ∈ es, now < e → es.foldl (fun a e => if now < e then min a e else a) a ≤ e
  | [], a => ⟨.inl rfl, Int.le_refl _, by simp⟩
  | e :: es, a => by
    have ih := soon_go now es (if now < e then min a e else a)
    rw [List.foldl_cons]
    generalize es.foldl (fun a e => if now < e then min a e else a) (if now < e then min a e else a) = r at ih ⊢
    obtain ⟨h1, h2, h3⟩ := ih
    refine ⟨?_, ?_, ?_⟩
    · rcases h1 with h1 | ⟨h1, h4⟩
      · by_cases hn : now < e
        · rw [if_pos hn] at h1
          by_cases ha : a ≤ e
          · left; rw [h1]; omega
          · right
            have : r = e := by rw [h1]; omega
            subst this
            exact ⟨List.mem_cons_self, hn⟩
        · rw [if_neg hn] at h1; exact .inl h1
      · exact .inr ⟨List.mem_cons_of_mem _ h1, h4⟩
    · split at h2 <;> omega
    · intro x hx hn
      rcases List.mem_cons.1 hx with rfl | hx
      · rw [if_pos hn] at h2; omega
      · exact h3 x hx hn
theorem mem_endAt {ends : List Int} {e : Int} (h : e ∈ ends) : ∃ k, k < ends.length ∧ endAt ends k = e := by
  obtain ⟨k, hk, rfl⟩ := List.getElem_of_mem h
  exact ⟨k, hk, by unfold endAt; simp [hk]⟩
theorem endAt_mem {ends : List Int} {k : Nat} (h : k < ends.length) : endAt ends k ∈ ends := by
  unfold endAt; simp [h]
/-- The next time is behind this one, and a job ends then. -/
theorem soon_out {js : List J} {m : Nat} {now : Int} {s : LsS} (h : OkL js m now s) (hok : ∀ j ∈ js, okJ j = true) (h8 : js.length ≤ 8) (hr : runsAt js s.ends now) : now < soonL s.ends now ∧ OkL js m (soonL s.ends now) s := by
  obtain ⟨h1, h2, h3⟩ := soon_go now s.ends 1000
  change (soonL s.ends now = 1000 ∨ (soonL s.ends now ∈ s.ends ∧ now < soonL s.ends now)) at h1
  change soonL s.ends now ≤ 1000 at h2
  change ∀ e ∈ s.ends, now < e → soonL s.ends now ≤ e at h3
  obtain ⟨k, hk, hk1, hk2⟩ := hr
  have h4 := h3 _ (endAt_mem (by rw [h.le]; exact hk)) hk1
  have h5 := h.en k hk
  have hb := h.bd hok h8
  have hn0 := h.n0
  rcases h1 with h1 | ⟨h1, h6⟩
  · omega
  · refine ⟨h6, h.lf, h.le, h.lp, by omega, ?_, h.en, h.fr⟩
    omega
/-- The model tells jobs that have not started by -1. -/
def endM (e : Int) : Int := if e = 1000 then -1 else e
def soonM (ends : List Int) (now : Int) : Int := ends.foldl (fun a e => if now < e ∧ (a < 0 ∨ e < a) then e else a) (-1)
theorem soonM_go (now : Int) (hn : 0 ≤ now ∧ now < 1000) : ∀ (es : List Int) (a : Int), (∀ e ∈ es, e = 1000 ∨ (0 < e ∧ e < 1000)) → (a = 1000 ∨ (0 < a ∧ a < 1000)) → (es.map endM).foldl (fun a e => if now < e ∧ (a < 0 ∨ e < a) then e else a) (endM a) = endM (es.foldl (fun a e => if now < e then min a e else a) a)
  | [], _, _, _ => rfl
  | e :: es, a, he, ha => by
    have h1 := he e List.mem_cons_self
    rw [List.map_cons, List.foldl_cons, List.foldl_cons, ← soonM_go now hn es _ (fun x hx => he x (List.mem_cons_of_mem _ hx)) (by split <;> omega)]
    congr 1
    unfold endM
    by_cases e1 : e = 1000
    · rw [if_pos e1, if_neg (by omega)]
      have : min a e = a := by omega
      rw [this, ite_self]
    · rw [if_neg e1]
      by_cases a1 : a = 1000
      · rw [if_pos a1]
        by_cases hne : now < e
        · rw [if_pos ⟨hne, .inl (by decide)⟩, if_pos hne, if_neg (by omega)]; omega
        · rw [if_neg (by omega), if_neg hne, if_pos a1]
      · rw [if_neg a1]
        by_cases hne : now < e
        · rw [if_pos hne]
          by_cases hea : e < a
          · rw [if_pos ⟨hne, .inr hea⟩, if_neg (by omega)]; omega
          · rw [if_neg (by omega), if_neg (by omega)]; omega
        · rw [if_neg (by omega), if_neg hne, if_neg a1]
theorem soonM_eq {js : List J} {m : Nat} {now : Int} {s : LsS} (h : OkL js m now s) (hok : ∀ j ∈ js, okJ j = true) (h8 : js.length ≤ 8) (hr : runsAt js s.ends now) : soonM (s.ends.map endM) now = soonL s.ends now := by
  have hb := h.bd hok h8
  have hn0 := h.n0
  have h1 := soonM_go now ⟨hn0, by omega⟩ s.ends 1000 (fun e he => by
    obtain ⟨k, hk, rfl⟩ := mem_endAt he
    have := h.en k (by rw [← h.le]; exact hk)
    omega) (.inl rfl)
  have h2 := soon_out h hok h8 hr
  have h3 := h2.2.bd hok h8
  show List.foldl _ (endM 1000) _ = _
  rw [h1]
  show endM (soonL s.ends now) = _
  unfold endM
  rw [if_neg (by omega)]
theorem left_set {ord : List Nat} {ends : List Int} {j : Nat} {e : Int} (hj : j < ends.length) (he : e ≠ 1000) : leftL ord (ends.set j e) = (leftL ord ends).filter (fun i => i != j) := by
  unfold leftL
  rw [List.filter_filter]
  refine List.filter_congr fun i _ => ?_
  rw [endAt_set hj]
  by_cases h : j = i
  · subst h; simp [he]
  · have h' : ¬ i = j := fun q => h q.symm
    simp [h, h']
theorem left_nodup {ord : List Nat} {ends : List Int} (h : ord.Nodup) : (leftL ord ends).Nodup := h.filter _
theorem erase_nodup {l : List Nat} (h : l.Nodup) {p : Nat} (hp : p < l.length) : l.eraseIdx p = l.filter (fun i => i != l[p]) := by
  induction l generalizing p with
  | nil => cases hp
  | cons a l ih =>
    rw [List.nodup_cons] at h
    cases p with
    | zero =>
      rw [List.eraseIdx_cons_zero, List.filter_cons_of_neg (by simp), List.filter_eq_self.2]
      intro x hx
      simp only [List.getElem_cons_zero, bne_iff_ne, ne_eq]
      exact fun q => h.1 (q ▸ hx)
    | succ p =>
      rw [List.eraseIdx_cons_succ]
      have hp' : p < l.length := by simpa using hp
      rw [List.filter_cons_of_pos (by simp only [List.getElem_cons_succ, bne_iff_ne, ne_eq]; exact fun q => h.1 (q ▸ List.getElem_mem hp')), ih h.2 hp']
      rfl
theorem left_erase {ord : List Nat} {ends : List Int} (h : ord.Nodup) {j p : Nat} {e : Int} (hj : j < ends.length) (he : e ≠ 1000) (hp : p < (leftL ord ends).length) (hpj : (leftL ord ends)[p] = j) : (leftL ord ends).eraseIdx p = leftL ord (ends.set j e) := by
  rw [left_set hj he, erase_nodup (left_nodup h) hp, hpj]
theorem ok_init {js : List J} {m : Nat} : OkL js m 0 (initL js.length m) := by
  have h1 : ∀ k, endAt (List.replicate js.length 1000) k = 1000 := fun k => by
    unfold endAt
    simp only [List.getD_eq_getElem?_getD, List.getElem?_replicate]
    split <;> rfl
  have h2 : ∀ k, sumS js (List.replicate js.length 1000) k = 0 := by
    intro k
    induction k with
    | zero => rfl
    | succ k ih => unfold sumS; rw [ih, h1, if_pos rfl]; rfl
  refine ⟨by simp [initL], by simp [initL], by simp [initL], Int.le_refl _, ?_, fun k _ => .inl (h1 k), fun k hk => .inl ?_⟩
  · show 0 ≤ sumS js (List.replicate js.length 1000) js.length
    rw [h2]; exact Int.le_refl _
  · show (List.replicate m (0 : Int)).getD k 0 = 0
    simp only [List.getD_eq_getElem?_getD, List.getElem?_replicate]
    split <;> rfl
theorem left_init {ord : List Nat} {n : Nat} : leftL ord (List.replicate n 1000) = ord := by
  unfold leftL
  rw [List.filter_eq_self]
  intro j _
  have : endAt (List.replicate n 1000) j = 1000 := by
    unfold endAt
    simp only [List.getD_eq_getElem?_getD, List.getElem?_replicate]
    split <;> rfl
  rw [this]; rfl
/-- One more turn. -/
theorem run_more {js : List J} {T : Nat → Nat → Bool} {ord : List Nat} {m f : Nat} {now : Int} {s : LsS} {r : List Sp} (h : runL js T ord m (f + 1) now s = r) (hl : leftL ord s.ends ≠ []) : runL js T ord m f (soonL (startTo js T ord now s m).ends now) (startTo js T ord now s m) = r := by
  have h' : (if leftL ord s.ends = [] then s.plan else runL js T ord m f (soonL (startTo js T ord now s m).ends now) (startTo js T ord now s m)) = r := h
  rwa [if_neg hl] at h'
theorem run_end {js : List J} {T : Nat → Nat → Bool} {ord : List Nat} {m f : Nat} {now : Int} {s : LsS} {r : List Sp} (h : runL js T ord m f now s = r) (hl : leftL ord s.ends = []) : s.plan = r := by
  cases f with
  | zero => exact h
  | succ f =>
    have h' : (if leftL ord s.ends = [] then s.plan else runL js T ord m f (soonL (startTo js T ord now s m).ends now) (startTo js T ord now s m)) = r := h
    rwa [if_pos hl] at h'
end Go.Proofs.YtjemjdlaoebffaaDoor

end
section
namespace Go.Proofs.YtjemjdlaoebffaaDoor
open Go.RowKit
theorem infoPp : (Tryd.prog.info? 37).map (fun i => (i.zero, i.size, i.bytes)) = some (some (.agg #[.int .i64 0, .int .i64 0]), 2, 16) := by kernel_rfl
/-- Blocks that hold no pairs are as they were. -/
def KeepP (w w' : World) : Prop := ∀ q t cs, t ≠ 37 → BlockIs w q t cs → BlockIs w' q t cs
theorem KeepP.refl (w : World) : KeepP w w := fun _ _ _ _ h => h
theorem KeepP.trans {a b c : World} (h : KeepP a b) (k : KeepP b c) : KeepP a c := fun q t cs ht hB => k q t cs ht (h q t cs ht hB)
theorem KeepP.of_below {w w' : World} (h : Below w.heap.size w w') : KeepP w w' := fun _ _ _ _ hB => hB.below h
theorem TabR.keepP {B n : Nat} {T : Nat → Nat → Bool} {gs : List Nat} {v : Value} {w w' : World} (h : TabR B n T gs v w) (hk : KeepP w w') : TabR B n T gs v w' := by
  refine ⟨own_to h.1 fun q hq _ _ => ?_, fun i hi => ⟨hk _ _ _ (by decide) (h.2.1 i hi).1, (h.2.1 i hi).2⟩, h.2.2⟩
  obtain ⟨_, _, c1, t1⟩ := own_type h.1 hq
  exact (hk _ _ _ (by decide) t1).trans t1.symm
theorem pc_one (x : Pr) : pc [x] = [.int .i64 x.1, .int .i64 x.2] := rfl
theorem pushP {w0 w : World} {v : Value} {xs : List Pr} (h : w.ownsRow w0.heap.size 37 2 v xs.length (pc xs)) (hb : Below w0.heap.size w0 w) (x : Pr) (hl : xs.length ≤ 1000) :
    ∃ v' w3, (Builtin.append_ #[35, 35] 35 #[v, .slice (some ⟨w.heap.size, 0, none⟩) 1 1]).run Tryd.prog (w.alloc (.cells #[.int .i64 x.1, .int .i64 x.2] 37)) = .ok v' w3 ∧
      w3.ownsRow w0.heap.size 37 2 v' (xs ++ [x]).length (pc (xs ++ [x])) ∧ Below w0.heap.size w0 w3 ∧ KeepP w w3 := by
  obtain ⟨i1, hj, hy0, hy1, hy2⟩ := info_parts infoPp
  have hb1 := hb.alloc hb.size (.cells #[.int .i64 x.1, .int .i64 x.2] 37)
  have hbw : Below w.heap.size w (w.alloc (.cells #[.int .i64 x.1, .int .i64 x.2] 37)) := (Below.refl _ w).alloc (Nat.le_refl _) _
  have h2 := own_blw h hbw
  have hsrc := row_srcS (Row.new w 37 #[.int .i64 x.1, .int .i64 x.2])
  obtain ⟨v', w3, hrun, ho3, hgr, _⟩ := append_at (P := Tryd.prog) (w.alloc (.cells #[.int .i64 x.1, .int .i64 x.2] 37)) w0.heap.size 35 35 37 i1 (.agg #[.int .i64 0, .int .i64 0]) 2 16 Tryd.underlying35 hj hy0 hy1 hy2 rfl (by decide) _ _ _ h2 ⟨w.heap.size, 0, none⟩ 1 1 [.int .i64 x.1, .int .i64 x.2] rfl hsrc (by intro u hu; simp at hu; rcases hu with rfl | rfl <;> rfl) (by omega) (by unfold maxLen; omega) (by omega) hb1.size
  refine ⟨v', w3, hrun, ?_, hb1.grown hgr hb1.size (fun j hj => (h2.lt j hj).1), fun q t cs ht hB => ?_⟩
  · rw [pc_snoc]; simpa [cellsP] using ho3
  · have hB1 := hB.below hbw
    refine (hgr.block q hB1.lt fun e => ?_).trans hB1
    obtain ⟨_, _, c1, t1⟩ := own_type h2 e.symm
    exact type_ne hB1 t1 ht rfl
end Go.Proofs.YtjemjdlaoebffaaDoor

end
section
namespace Go.Proofs.YtjemjdlaoebffaaDoor
open Go.RowKit
def closR (n : Int) (E : List Pr) : List Pr × Bool := if precB n E then (closL n.toNat E, true) else ([], false)
def reduR (n : Int) (E : List Pr) : List Pr × Bool := if precB n E then (reduL n.toNat E, true) else ([], false)
theorem closR_len (n : Int) (E : List Pr) : (closR n E).1.length ≤ 64 := by
  unfold closR
  split
  · rename_i h
    unfold precB at h
    rw [Bool.and_eq_true] at h
    obtain ⟨h0, h8, _, _⟩ := pairs_out h.1
    have h1 := clsTo_len n.toNat (tabB n.toNat E) n.toNat
    have h3 : n.toNat * n.toNat ≤ 8 * 8 := Nat.mul_le_mul (by omega) (by omega)
    show (clsTo _ _ _).length ≤ _
    omega
  · simp
theorem reduR_len (n : Int) (E : List Pr) : (reduR n E).1.length ≤ 64 := by
  unfold reduR
  split
  · rename_i h
    unfold precB at h
    rw [Bool.and_eq_true] at h
    obtain ⟨h0, h8, _, _⟩ := pairs_out h.1
    have h1 := clsTo_len n.toNat (directB n.toNat E) n.toNat
    have h3 : n.toNat * n.toNat ≤ 8 * 8 := Nat.mul_le_mul (by omega) (by omega)
    show (clsTo _ _ _).length ≤ _
    omega
  · simp
theorem ret_ownPr {w w' : World} {r : List Pr × Bool} {p : List Pr} {v : Value} (hr : r = (p, true)) (ho : w'.ownsRow w.heap.size 37 2 v p.length (pc p)) (hb : Below w.heap.size w w') (e : Ending) (he : e = .returned (.tuple #[v, .bool true])) : RetPB w r e w' := by
  obtain ⟨A, c, rfl, hs⟩ := seg_out ho
  subst hr he
  exact ⟨A, c, rfl, hs, hb⟩
theorem cls_bd (n : Nat) (T : Nat → Nat → Bool) (i j : Nat) (hi : i < n) (hj : j < n) (hn : n ≤ 8) : (clsTo n T i ++ rowTo T i j).length ≤ 1000 := by
  have h1 := clsTo_len n T i
  have h2 := rowTo_len T i j
  have h3 : i * n ≤ 8 * 8 := Nat.mul_le_mul (by omega) hn
  rw [List.length_append]
  omega
theorem prec_nat {n : Int} {E : List Pr} (h : precB n E = true) : ∃ m : Nat, n = (m : Int) ∧ m ≤ 8 ∧ EdsIn m E := by
  unfold precB at h
  rw [Bool.and_eq_true] at h
  obtain ⟨h0, h8, _, hp⟩ := pairs_out h.1
  exact ⟨n.toNat, by omega, by omega, edsIn_of (by rw [Int.toNat_of_nonneg h0]; exact hp)⟩
set_option maxRecDepth 100000 in
set_option maxHeartbeats 1000000 in
theorem l4Through_any {B n : Nat} {E : List Pr} {gs : List Nat} {g cc : Nat} {w : World} (h : TabR B n (tabB n E) gs (.slice (some ⟨g, 0, none⟩) gs.length cc) w) (hgl : gs.length = n) (i j : Nat) (hi : i < n) (hj : j < n) (hn : n ≤ 8) :
    Calls Tryd.prog 192 #[.slice (some ⟨g, 0, none⟩) gs.length cc, .int .i64 (i : Int), .int .i64 (j : Int)] w fun e w' => e = .returned (.bool ((List.range n).any fun k => tabB n E i k && tabB n E k j)) ∧ w = w' := by
  have HTb := Lib.hid h
  have HGL := Lib.hid hgl
  have hgn : gs.length ≤ 8 := by omega
  have HAny : Hid (∀ k, ((List.range (k + 1)).any fun k => tabB n E i k && tabB n E k j) = (((List.range k).any fun k => tabB n E i k && tabB n E k j) || (tabB n E i k && tabB n E k j))) := fun k => by rw [List.range_succ, List.any_append]; simp
  clear h
  go_enter Tryd.func192, Tryd.ntmps192
  go_wp2
  go_loop [7] (fun v => ∃ k : Nat, k ≤ n ∧ v = .int .i64 (k : Int) ∧ Hid (((List.range k).any fun k => tabB n E i k && tabB n E k j) = false)) (fun v => n - (intOf v).toNat)
  case atStart => exact ⟨0, Nat.zero_le _, rfl, rfl⟩
  case round =>
    obtain ⟨k, hk, rfl, HI⟩ := hrel
    by_cases hlt : k < n
    · obtain ⟨g1, c1, q, hV, hq, hcell, _, _, _, hrow⟩ := HTb.out.at_ (i := i) (by rw [HGL.out]; exact hi)
      obtain ⟨g2, c2, q2, hV2, hq2, hcell2, _, _, _, hrow2⟩ := HTb.out.at_ (i := k) (by rw [HGL.out]; exact hlt)
      obtain ⟨rfl, rfl⟩ : g = g1 ∧ cc = c1 := by
        injection hV with e1 _ e3
        injection e1 with e1
        injection e1 with e1 _ _
        exact ⟨e1, e3⟩
      obtain rfl : g = g2 := by
        injection hV2 with e1 _ e3
        injection e1 with e1
        injection e1 with e1 _ _
      have hik := hrow k hlt
      have hkj := hrow2 j hj
      have hkl : (k : Int) < gs.length := by rw [HGL.out]; omega
      have hil : (i : Int) < gs.length := by rw [HGL.out]; omega
      have hi0 : (0 : Int) ≤ i := by omega
      have hj0 : (0 : Int) ≤ j := by omega
      have hk0 : (0 : Int) ≤ k := by omega
      have hjn : (j : Int) < n := by omega
      have hkn : (k : Int) < n := by omega
      have HS : Hid (((List.range (k + 1)).any fun k => tabB n E i k && tabB n E k j) = (tabB n E i k && tabB n E k j)) := by show _ = _; rw [HAny.out, HI.out, Bool.false_or]
      have hkg : k < gs.length := by omega
      clear hrow hrow2 hV hV2 hq hq2 hgl
      cases h1 : tabB n E i k
      · rw [h1] at hik HS
        clear h1
        go_wp2
        go_round
        case rel => exact ⟨k + 1, by omega, by go_num, by rw [HS.out]; rfl⟩
        case measure => simp [intOf]; omega
      · cases h2 : tabB n E k j
        · rw [h1] at hik HS
          rw [h2] at hkj HS
          clear h1 h2
          go_wp2
          go_round
          case rel => exact ⟨k + 1, by omega, by go_num, by rw [HS.out]; rfl⟩
          case measure => simp [intOf]; omega
        · have HT : Hid (((List.range n).any fun k => tabB n E i k && tabB n E k j) = true) := by
            show _ = _
            rw [List.any_eq_true]
            exact ⟨k, List.mem_range.2 hlt, by rw [h1, h2]; rfl⟩
          rw [h1] at hik
          rw [h2] at hkj
          clear h1 h2 HS
          go_wp2
          go_ret
          exact ⟨by rw [HT.out]; rfl, rfl⟩
    · obtain rfl : k = n := by omega
      have HGL2 : ¬ (k : Int) < gs.length := by rw [HGL.out]; omega
      clear hgl
      go_wp2
      go_ret
      exact ⟨by rw [HI.out]; rfl, rfl⟩
end Go.Proofs.YtjemjdlaoebffaaDoor

end
section
namespace Go.Proofs.YtjemjdlaoebffaaDoor
open Go.RowKit
def goodB (js : List J) (m : Int) (E : List Pr) : Bool := goodL js && (plain0 js && (inB m 1 4 && precB js.length E))
set_option maxRecDepth 100000 in
set_option maxHeartbeats 1000000 in
theorem l7Good_any (A C : Option Addr) (c d : Nat) (js : List J) (m : Int) (E : List Pr) (w : World) (hr : Row w A (jc js)) (hq : Row w C (pc E)) (hn : js.length ≤ 10000000) (hl : E.length ≤ 10000000) :
    Calls Tryd.prog 90 #[.slice A js.length c, .int .i64 m, .slice C E.length d] w fun e w' => e = .returned (.bool (goodB js m E)) ∧ Below w.heap.size w w' := by
  have HD : Hid (goodB js m E = (goodL js && (plain0 js && (inB m 1 4 && precB js.length E)))) := rfl
  have H1 := Lib.hid (l2Good_any A c js w hr (by omega))
  have H2 := Lib.hid (fun W (hb : Below w.heap.size w W) => l3Plain_any A c js W (hr.below hb) (by omega))
  have H4 := Lib.hid (fun W (hb : Below w.heap.size w W) => l4Good_any C d (js.length : Int) E W (hq.below hb) hl)
  clear hr hq
  go_enter Tryd.func90, Tryd.ntmps90
  go_wp2_with fail
  refine H1.out.mono ?_
  rintro e w1 ⟨rfl, hb1⟩
  cases hg : goodL js
  · rw [hg] at HD
    clear hg
    go_wp2
    go_ret
    exact ⟨by rw [HD.out]; rfl, hb1⟩
  · rw [hg] at HD
    clear hg
    have HB1 := Lib.hid hb1
    clear hb1
    go_wp2_with fail
    refine (H2.out w1 HB1.out).mono ?_
    rintro e w2 ⟨rfl, hb2⟩
    have HB2 := Lib.hid (HB1.out.trans (hb2.mono HB1.out.size))
    clear hb2
    cases hp : plain0 js
    · rw [hp] at HD
      clear hp
      go_wp2
      go_ret
      exact ⟨by rw [HD.out]; rfl, HB2.out⟩
    · rw [hp] at HD
      clear hp
      go_wp2_with fail
      refine (l1In_any m 1 4 _).mono ?_
      rintro e _ ⟨rfl, rfl⟩
      cases hm : inB m 1 4
      · rw [hm] at HD
        clear hm
        go_wp2
        go_ret
        exact ⟨by rw [HD.out]; rfl, HB2.out⟩
      · rw [hm] at HD
        clear hm
        go_wp2_with fail
        refine (H4.out w2 HB2.out).mono ?_
        rintro e w3 ⟨rfl, hb3⟩
        have HB3 := Lib.hid (HB2.out.trans (hb3.mono HB2.out.size))
        clear hb3
        cases hq : precB js.length E
        · rw [hq] at HD
          clear hq
          go_wp2
          go_ret
          exact ⟨by rw [HD.out]; rfl, HB3.out⟩
        · rw [hq] at HD
          clear hq
          go_wp2
          go_ret
          exact ⟨by rw [HD.out]; rfl, HB3.out⟩
section
variable {Bs : Nat} {A : Option Addr} {c : Nat} {js : List J} {E : List Pr} {gs : List Nat} {g cc : Nat} {w : World}
end
theorem infoIp : (Tryd.prog.info? 3).map (fun i => (i.zero, i.size, i.bytes)) = some (some (.int .i64 0), 1, 8) := by kernel_rfl
/-- Blocks that hold no ints are as they were. -/
def KeepI (w w' : World) : Prop := ∀ q t cs, t ≠ 3 → BlockIs w q t cs → BlockIs w' q t cs
theorem TabR.keepI {B n : Nat} {T : Nat → Nat → Bool} {gs : List Nat} {v : Value} {w w' : World} (h : TabR B n T gs v w) (hk : KeepI w w') : TabR B n T gs v w' := by
  refine ⟨own_to h.1 fun q hq _ _ => ?_, fun i hi => ⟨hk _ _ _ (by decide) (h.2.1 i hi).1, (h.2.1 i hi).2⟩, h.2.2⟩
  obtain ⟨_, _, c1, t1⟩ := own_type h.1 hq
  exact (hk _ _ _ (by decide) t1).trans t1.symm
theorem pushI {w0 w : World} {v : Value} {xs : List Int} (h : w.ownsRow w0.heap.size 3 1 v xs.length (ic xs)) (hb : Below w0.heap.size w0 w) (x : Int) (hl : xs.length ≤ 1000) :
    ∃ v' w3, (Builtin.append_ #[23, 23] 23 #[v, .slice (some ⟨w.heap.size, 0, none⟩) 1 1]).run Tryd.prog (w.alloc (.cells #[.int .i64 x] 3)) = .ok v' w3 ∧
      w3.ownsRow w0.heap.size 3 1 v' (xs ++ [x]).length (ic (xs ++ [x])) ∧ Below w0.heap.size w0 w3 ∧ KeepI w w3 := by
  obtain ⟨i1, hj, hy0, hy1, hy2⟩ := info_parts infoIp
  have hb1 := hb.alloc hb.size (.cells #[.int .i64 x] 3)
  have hbw : Below w.heap.size w (w.alloc (.cells #[.int .i64 x] 3)) := (Below.refl _ w).alloc (Nat.le_refl _) _
  have h2 := own_blw h hbw
  have hsrc := row_srcS (Row.new w 3 #[.int .i64 x])
  obtain ⟨v', w3, hrun, ho3, hgr, _⟩ := append_at (P := Tryd.prog) (w.alloc (.cells #[.int .i64 x] 3)) w0.heap.size 23 23 3 i1 (.int .i64 0) 1 8 Tryd.underlying23 hj hy0 hy1 hy2 rfl (by decide) _ _ _ h2 ⟨w.heap.size, 0, none⟩ 1 1 [.int .i64 x] rfl hsrc (by intro u hu; simp at hu; subst hu; rfl) (by omega) (by unfold maxLen; omega) (by omega) hb1.size
  refine ⟨v', w3, hrun, ?_, hb1.grown hgr hb1.size (fun j hj => (h2.lt j hj).1), fun q t cs ht hB => ?_⟩
  · unfold ic at ho3 ⊢
    simpa using ho3
  · have hB1 := hB.below hbw
    refine (hgr.block q hB1.lt fun e => ?_).trans hB1
    obtain ⟨_, _, c1, t1⟩ := own_type h2 e.symm
    exact type_ne hB1 t1 ht rfl
def tailsTo (js : List J) (E : List Ed) (k : Nat) : List Int := (List.range k).map fun j => tailF js (tabB js.length E) js.length 9 j
theorem tailsTo_succ (js : List J) (E : List Ed) (k : Nat) : tailsTo js E (k + 1) = tailsTo js E k ++ [tailF js (tabB js.length E) js.length 9 k] := by unfold tailsTo; rw [List.range_succ, List.map_append]; rfl
theorem tailsTo_len (js : List J) (E : List Ed) (k : Nat) : (tailsTo js E k).length = k := by unfold tailsTo; simp
def tailsR (js : List J) (E : List Pr) : List Int × Bool := if goodB js 1 E then (tailsL js E, true) else ([], false)
theorem tailsR_len (js : List J) (E : List Pr) : (tailsR js E).1.length ≤ 8 := by
  unfold tailsR
  split
  · rename_i h
    unfold goodB at h
    rw [Bool.and_eq_true] at h
    obtain ⟨h8, _⟩ := good_out h.1
    rw [tailsL_len]; exact h8
  · simp
theorem good_parts {js : List J} {m : Int} {E : List Pr} (h : goodB js m E = true) : (∀ j ∈ js, okJ j = true) ∧ js.length ≤ 8 ∧ irrB js.length E js.length = true ∧ EdsIn js.length E ∧ plainL js = true ∧ precB js.length E = true ∧ inB m 1 4 = true := by
  unfold goodB at h
  simp only [Bool.and_eq_true] at h
  obtain ⟨h8, hok⟩ := good_out h.1
  obtain ⟨n, hn, _, hE⟩ := prec_nat h.2.2.2
  have hn' : js.length = n := by omega
  subst hn'
  refine ⟨hok, h8, ?_, hE, by unfold plainL; rw [h.1, h.2.1]; rfl, h.2.2.2, h.2.2.1⟩
  have hp := h.2.2.2
  rw [← precB_good (by unfold precB at hp; rw [Bool.and_eq_true] at hp; exact hp.1), hp]
theorem ret_ownIr {w w' : World} {r : List Int × Bool} {p : List Int} {v : Value} (hr : r = (p, true)) (ho : w'.ownsRow w.heap.size 3 1 v p.length (ic p)) (hb : Below w.heap.size w w') (e : Ending) (he : e = .returned (.tuple #[v, .bool true])) : RetIB w r e w' := by
  obtain ⟨A, c, rfl, hs⟩ := seg_out ho
  subst hr he
  exact ⟨A, c, rfl, hs, hb⟩
end Go.Proofs.YtjemjdlaoebffaaDoor

end
section
namespace Go.Proofs.YtjemjdlaoebffaaDoor
open Go.RowKit

def cellsSp (j : Sp) : List Value := [.int .i64 j.j, .int .i64 j.f, .int .i64 j.t]
abbrev aggSp (j : Sp) : Value := .agg #[.int .i64 j.j, .int .i64 j.f, .int .i64 j.t]
def spc (js : List Sp) : List Value := js.flatMap cellsSp
theorem spc_len : ∀ js : List Sp, (spc js).length = 3 * js.length
  | [] => rfl
  | j :: js => by
    show (cellsSp j ++ spc js).length = _
    rw [List.length_append, spc_len js]; simp [cellsSp]; omega
theorem spc_get : ∀ (js : List Sp) (k i : Nat) (hk : k < js.length), i < 3 → (spc js)[k * 3 + i]? = (cellsSp js[k])[i]?
  | [], _, _, h, _ => by cases h
  | j :: js, 0, i, _, hi => by
    show (cellsSp j ++ spc js)[0 * 3 + i]? = _
    rw [List.getElem?_append_left (by simp [cellsSp]; omega)]
    simp
  | j :: js, k + 1, i, h, hi => by
    show (cellsSp j ++ spc js)[(k + 1) * 3 + i]? = _
    rw [List.getElem?_append_right (by simp [cellsSp]; omega)]
    rw [show (k + 1) * 3 + i - (cellsSp j).length = k * 3 + i by simp [cellsSp]; omega]
    exact spc_get js k i (by simpa using h) hi
theorem Row.span {w : World} {A : Option Addr} {js : List Sp} (h : Row w A (spc js)) {k : Nat} (hk : k < js.length) : ∃ ad, A = some ad ∧ ad.block < w.heap.size ∧
    w.cell? (ad.add (k * 3)) = some (.int .i64 js[k].j) ∧ w.cell? ⟨(ad.add (k * 3)).block, (ad.add (k * 3)).off + 1, none⟩ = some (.int .i64 js[k].f) ∧ w.cell? ⟨(ad.add (k * 3)).block, (ad.add (k * 3)).off + 2, none⟩ = some (.int .i64 js[k].t) := by
  obtain ⟨ad, hA, hb, hc⟩ := h (by rw [spc_len]; omega)
  refine ⟨ad, hA, hb, ?_, ?_, ?_⟩
  · exact hc _ _ (spc_get js k 0 hk (by omega))
  · exact (congrArg w.cell? (add_add ad (k * 3) 1)).trans (hc _ _ (spc_get js k 1 hk (by omega)))
  · exact (congrArg w.cell? (add_add ad (k * 3) 2)).trans (hc _ _ (spc_get js k 2 hk (by omega)))

theorem infoSp : (Tryd.prog.info? 96).map (fun i => (i.zero, i.size, i.bytes)) = some (some (.agg #[.int .i64 0, .int .i64 0, .int .i64 0]), 3, 24) := by kernel_rfl
/-- Three cells of a block, from a place on, are set. -/
def set3 (cs : Array Value) (p : Nat) (j : Sp) : Array Value := ((cs.setIfInBounds p (.int .i64 j.j)).setIfInBounds (p + 1) (.int .i64 j.f)).setIfInBounds (p + 2) (.int .i64 j.t)
theorem set3_size (cs : Array Value) (p : Nat) (j : Sp) : (set3 cs p j).size = cs.size := by unfold set3; simp
theorem Upto.step3 {js : List Sp} {k : Nat} {cs : Array Value} (h : Upto (spc js) (k * 3) cs) (hk : k < js.length) : Upto (spc js) ((k + 1) * 3) (set3 cs (k * 3) js[k]) := by
  have hl := spc_len js
  have g0 : (spc js)[k * 3]'(by omega) = .int .i64 js[k].j := by
    have := spc_get js k 0 hk (by omega); rw [List.getElem?_eq_getElem (by omega)] at this; exact Option.some.inj this
  have g1 : (spc js)[k * 3 + 1]'(by omega) = .int .i64 js[k].f := by
    have := spc_get js k 1 hk (by omega); rw [List.getElem?_eq_getElem (by omega)] at this; exact Option.some.inj this
  have g2 : (spc js)[k * 3 + 2]'(by omega) = .int .i64 js[k].t := by
    have := spc_get js k 2 hk (by omega); rw [List.getElem?_eq_getElem (by omega)] at this; exact Option.some.inj this
  have h1 := h.step (by omega)
  rw [g0] at h1
  have h2 := h1.step (by omega)
  rw [g1] at h2
  have h3 := h2.step (by omega)
  rw [g2] at h3
  rw [show (k + 1) * 3 = k * 3 + 1 + 1 + 1 by omega]
  exact h3
theorem BlockIs.set3 {w : World} {g : Nat} {t : TypeId} {cs : Array Value} (h : BlockIs w g t cs) (p : Nat) (j : Sp) :
    BlockIs (((w.setCell ⟨g, p, none⟩ (.int .i64 j.j)).setCell ⟨g, p + 1, none⟩ (.int .i64 j.f)).setCell ⟨g, p + 2, none⟩ (.int .i64 j.t)) g t (set3 cs p j) :=
  ((h.set p _).set (p + 1) _).set (p + 2) _
theorem eqTask_same (j : Sp) (w : World) :
    Calls Tryd.prog 63 #[.agg #[.int .i64 j.j, .int .i64 j.f, .int .i64 j.t], .agg #[.int .i64 j.j, .int .i64 j.f, .int .i64 j.t]] w fun e w' => e = .returned (.bool true) ∧ Below w.heap.size w w' := by
  go_enter Tryd.func63, Tryd.ntmps63
  go_wp2
  go_ret
  exact ⟨rfl, ((Below.refl _ _).alloc (Nat.le_refl _) _).alloc (by simp) _⟩
theorem eqTaskS_same (A B : Option Addr) (c d : Nat) (js : List Sp) (w : World) (hr : Row w A (spc js)) (hq : Row w B (spc js)) (hn : js.length ≤ 10000000) :
    Calls Tryd.prog 27 #[.slice A js.length c, .slice B js.length d] w fun e w' => e = .returned (.bool true) ∧ Below w.heap.size w w' := by
  go_enter Tryd.func27, Tryd.ntmps27
  go_wp2
  go_loopw [5] (fun i wr => ∃ k : Nat, k ≤ js.length ∧ i = .int .i64 k ∧ Below w.heap.size w wr) (fun i _ => js.length - (intOf i).toNat)
  case atStart => exact ⟨0, Nat.zero_le _, rfl, Below.refl _ _⟩
  case round =>
    obtain ⟨k, hk, rfl, hb⟩ := hrel
    by_cases hlt : k < js.length
    · obtain ⟨a, hA, _, hc0, hc1, hc2⟩ := (hr.below hb).span hlt
      obtain ⟨b, hB, _, hd0, hd1, hd2⟩ := (hq.below hb).span hlt
      subst hA hB
      have HB := Lib.hid hb
      clear hr hq hb
      generalize js[k] = j at *
      have hi : (0 : Int) ≤ k := by omega
      have hi' : (k : Int) < js.length := by omega
      go_wp2
      go_region_with (go_at_call 63; refine (eqTask_same j _).mono ?_; rintro e w1 ⟨rfl, hb1⟩)
      all_goals
        go_wp2
        go_roundw
        case rel => exact ⟨k + 1, by omega, by go_num, HB.out.trans ((⟨hb1.os, hb1.tape, hb1.output, hb1.size, hb1.block⟩ : Below wr.heap.size wr w1).mono HB.out.size)⟩
        case measure => simp [intOf]; omega
    · go_wp2
      go_ret
      exact ⟨rfl, hb⟩
theorem markTaskS_none (A : Option Addr) (c : Nat) (k : Int) (w : World) :
    Calls Tryd.prog 29 #[.slice A 0 c, .int .i64 k] w fun e w' => e = .returned (.int .i64 k) ∧ w = w' := by
  go_enter Tryd.func29, Tryd.ntmps29
  go_wp2
  refine wp_loop_rounds 1 ?_
  rw [rounds_succ]
  go_wp2
  go_ret
  exact ⟨rfl, rfl⟩
def numSp (k : Nat) : Sp := ⟨(k : Int), (k : Int) + 1, (k : Int) + 1 + 1⟩
def numsSp (k n : Nat) : List Sp := (List.range n).map fun i => numSp (k + 3 * i)
theorem numsSp_len (k n : Nat) : (numsSp k n).length = n := by unfold numsSp; simp
theorem numsSp_get (k n i : Nat) (h : i < n) : (numsSp k n)[i]'(by rw [numsSp_len]; exact h) = numSp (k + 3 * i) := by unfold numsSp; simp
theorem PreC.step3 {js : List Sp} {k : Nat} {cs : Array Value} (h : PreC (spc js) (k * 3) cs) (hk : k < js.length) : PreC (spc js) ((k + 1) * 3) (set3 cs (k * 3) js[k]) := by
  have hl := spc_len js
  have g0 : (spc js)[k * 3]'(by omega) = .int .i64 js[k].j := by
    have := spc_get js k 0 hk (by omega); rw [List.getElem?_eq_getElem (by omega)] at this; exact Option.some.inj this
  have g1 : (spc js)[k * 3 + 1]'(by omega) = .int .i64 js[k].f := by
    have := spc_get js k 1 hk (by omega); rw [List.getElem?_eq_getElem (by omega)] at this; exact Option.some.inj this
  have g2 : (spc js)[k * 3 + 2]'(by omega) = .int .i64 js[k].t := by
    have := spc_get js k 2 hk (by omega); rw [List.getElem?_eq_getElem (by omega)] at this; exact Option.some.inj this
  have h1 := h.step (by omega)
  rw [g0] at h1
  have h2 := h1.step (by omega)
  rw [g1] at h2
  have h3 := h2.step (by omega)
  rw [g2] at h3
  rw [show (k + 1) * 3 = k * 3 + 1 + 1 + 1 by omega]
  exact h3
theorem markTaskS_some (g c n k0 : Nat) (cs0 : Array Value) (w : World) (h : BlockIs w g 96 cs0) (hn : cs0.size = c * 3) (hnc : n ≤ c) (hn1 : n ≤ 10000000) (hk1 : k0 ≤ 1000000000) :
    Calls Tryd.prog 29 #[.slice (some ⟨g, 0, none⟩) n c, .int .i64 (k0 : Int)] w fun e w' => e = .returned (.int .i64 ((k0 + 3 * n : Nat) : Int)) ∧ (∃ cs, cs.size = cs0.size ∧ BlockIs w' g 96 cs ∧ cs.toList.take (n * 3) = spc (numsSp k0 n)) ∧ w.grownBy w' (some g) ∧ w'.heap.size = w.heap.size := by
  go_enter Tryd.func29, Tryd.ntmps29
  go_wp2
  go_loopw [1, 5] (fun k i wr => ∃ (m : Nat) (cs : Array Value), m ≤ n ∧ i = .int .i64 (m : Int) ∧ k = .int .i64 ((k0 + 3 * m : Nat) : Int) ∧ cs.size = cs0.size ∧ BlockIs wr g 96 cs ∧ Hid (PreC (spc (numsSp k0 n)) (m * 3) cs) ∧ w.grownBy wr (some g) ∧ Hid (wr.heap.size = w.heap.size)) (fun _ i _ => n - (intOf i).toNat)
  case atStart => exact ⟨0, cs0, Nat.zero_le _, rfl, by go_num, rfl, h, ⟨by rw [spc_len, numsSp_len]; omega, by omega⟩, ⟨rfl, rfl, rfl, Nat.le_refl _, fun _ _ _ => rfl⟩, rfl⟩
  case round =>
    obtain ⟨m, cs, hm, rfl, rfl, hz, hB, hP, hG, hsz⟩ := hrel
    by_cases hlt : m < n
    · have hi : (0 : Int) ≤ m := by omega
      have hi' : (m : Int) < n := by omega
      obtain ⟨v0, hk0⟩ := hB.has (i := m * 3) (by omega)
      obtain ⟨v1, hk1⟩ := hB.has (i := m * 3 + 1) (by omega)
      obtain ⟨v2, hk2⟩ := hB.has (i := m * 3 + 2) (by omega)
      have hf0 := hB.frozen (m * 3)
      have hf1 := hB.frozen (m * 3 + 1)
      have hf2 := hB.frozen (m * 3 + 2)
      have HB := Lib.hid (hB.set3 (m * 3) (numSp (k0 + 3 * m)))
      have HG := Lib.hid (grown_setCell (grown_setCell (grown_setCell hG (m * 3) (.int .i64 (numSp (k0 + 3 * m)).j)) (m * 3 + 1) (.int .i64 (numSp (k0 + 3 * m)).f)) (m * 3 + 2) (.int .i64 (numSp (k0 + 3 * m)).t))
      have HZ := hsz
      have HZ2 := Lib.hid hz
      have hcast : ((k0 + 3 * m : Nat) : Int) = (k0 : Int) + 3 * m := by omega
      have HP := Lib.hid (hP.out.step3 (by rw [numsSp_len]; exact hlt))
      have HN := Lib.hid (numsSp_get k0 n m hlt)
      rw [HN.out] at HP
      have HS := Lib.hid (set3_size cs (m * 3) (numSp (k0 + 3 * m)))
      simp only [numSp, hcast] at HB HG
      clear hB hG h hz hsz hP
      go_wp2
      go_roundw
      case rel => exact ⟨m + 1, set3 cs (m * 3) (numSp (k0 + 3 * m)), by omega, by go_num, by go_num, by rw [HS.out]; exact HZ2.out, by simpa only [numSp, hcast] using HB.out, HP.out, HG.out, by show _ = _; simpa [World.setCell] using HZ.out⟩
      case measure => simp [intOf]; omega
    · obtain rfl : m = n := by omega
      go_wp2
      go_ret
      refine ⟨rfl, ⟨cs, hz, hB, ?_⟩, hG, hsz.out⟩
      have hP' := hP.out
      rw [show m * 3 = (spc (numsSp k0 m)).length by rw [spc_len, numsSp_len]; omega] at hP' ⊢
      exact hP'.all
theorem markTaskS_own (A : Option Addr) (c n k0 B : Nat) (cs : List Value) (w : World) (h : w.ownsRow B 96 3 (.slice A n c) n cs) (hn1 : n ≤ 10000000) (hk1 : k0 ≤ 1000000000) (hBw : B ≤ w.heap.size) :
    Calls Tryd.prog 29 #[.slice A n c, .int .i64 (k0 : Int)] w fun e w' => e = .returned (.int .i64 ((k0 + 3 * n : Nat) : Int)) ∧ w'.ownsRow B 96 3 (.slice A n c) n (spc (numsSp k0 n)) ∧ Below B w w' ∧ w.grownBy w' (Value.slice A n c).ownBlock ∧ w'.heap.size = w.heap.size := by
  by_cases h0 : n = 0
  · subst h0
    refine (markTaskS_none A c k0 w).mono ?_
    rintro e w' ⟨rfl, rfl⟩
    have hcs : cs = [] := List.eq_nil_of_length_eq_zero (by have := h.1; simpa using this)
    subst hcs
    exact ⟨rfl, h, Below.refl _ _, World.grownBy.refl _ _, rfl⟩
  · obtain ⟨g, cur, rfl, hg, hB, h1, h2, h3, h4⟩ := own_block h (by omega)
    refine (markTaskS_some g c n k0 cur w hB (by omega) h1 hn1 hk1).mono ?_
    rintro e w' ⟨rfl, ⟨cs', hz, hB', hm⟩, hG, hs⟩
    refine ⟨rfl, ?_, ⟨hG.os, hG.tape, hG.output, hG.size, fun k hk => hG.block k (by omega) (fun e => by injection e; omega)⟩, hG, hs⟩
    have := hB'.own (base := B) (n := n) (c := c) (size := 3) hg (by omega) h1 h2 (by omega)
    rwa [hm] at this
theorem heldTaskS_same (A : Option Addr) (c n k0 : Nat) (w : World) (hr : Row w A (spc (numsSp k0 n))) (hn1 : n ≤ 10000000) (hk1 : k0 ≤ 1000000000) :
    Calls Tryd.prog 30 #[.slice A n c, .int .i64 (k0 : Int)] w fun e w' => e = .returned (.int .i64 ((k0 + 3 * n : Nat) : Int)) ∧ w = w' := by
  go_enter Tryd.func30, Tryd.ntmps30
  go_wp2
  go_loop [1, 5] (fun k i => ∃ m : Nat, m ≤ n ∧ i = .int .i64 (m : Int) ∧ k = .int .i64 ((k0 + 3 * m : Nat) : Int)) (fun _ i => n - (intOf i).toNat)
  case atStart => exact ⟨0, Nat.zero_le _, rfl, by go_num⟩
  case round =>
    obtain ⟨m, hm, rfl, rfl⟩ := hrel
    by_cases hlt : m < n
    · obtain ⟨ad, hA, _, hc0, hc1, hc2⟩ := hr.span (k := m) (by rw [numsSp_len]; exact hlt)
      rw [numsSp_get k0 n m hlt] at hc0 hc1 hc2
      subst hA
      have hi : (0 : Int) ≤ m := by omega
      have hi' : (m : Int) < n := by omega
      have hcast : ((k0 + 3 * m : Nat) : Int) = (k0 : Int) + 3 * m := by omega
      simp only [numSp, hcast] at hc0 hc1 hc2
      clear hr
      go_wp2
      go_round
      case rel => exact ⟨m + 1, by omega, by go_num, by go_num⟩
      case measure => simp [intOf]; omega
    · obtain rfl : m = n := by omega
      go_wp2
      go_ret
      exact ⟨rfl, rfl⟩
theorem markTaskS_seg (A : Option Addr) (c n lo hi : Nat) (k : Int) (cs : List Value) (w : World) (h : Seg w 96 3 lo hi A n c cs) (h0 : 0 ≤ k) (h1 : k ≤ 1000000000) (hn : n ≤ 10000000) :
    Calls Tryd.prog 29 #[.slice A n c, .int .i64 k] w fun e w' => e = .returned (.int .i64 (k + 3 * n)) ∧ Seg w' 96 3 lo hi A n c (spc (numsSp k.toNat n)) ∧ Touch lo hi w w' := by
  have hk : k = (k.toNat : Int) := by omega
  by_cases hz : n = 0
  · subst hz
    refine (markTaskS_none A c k w).mono ?_
    rintro e w' ⟨rfl, rfl⟩
    have hcs := h.slice_nil
    subst hcs
    exact ⟨by simp, h, Touch.refl _ _ _⟩
  · have hlo : lo ≤ w.heap.size := by
      obtain ⟨g, cur, hA, a1, a2, _⟩ := h.block (by omega)
      have := h.fit; omega
    have H := markTaskS_own A c n k.toNat lo cs w h.own hn (by omega) hlo
    rw [← hk] at H
    refine H.mono ?_
    rintro e w' ⟨rfl, ho, hb, hg, hs⟩
    exact ⟨by rw [show ((k.toNat + 3 * n : Nat) : Int) = k + 3 * n by omega], ⟨ho, h.top, by rw [hs]; exact h.fit⟩, Touch.of_own hg fun ad ha => h.at_ ad ha (by omega)⟩
theorem heldTaskS_seg (A : Option Addr) (c n : Nat) (k : Int) (w : World) (hr : Row w A (spc (numsSp k.toNat n))) (h0 : 0 ≤ k) (h1 : k ≤ 1000000000) (hn : n ≤ 10000000) :
    Calls Tryd.prog 30 #[.slice A n c, .int .i64 k] w fun e w' => e = .returned (.int .i64 (k + 3 * n)) ∧ w = w' := by
  have hk : k = (k.toNat : Int) := by omega
  have H := heldTaskS_same A c n k.toNat w hr hn (by omega)
  rw [← hk] at H
  refine H.mono ?_
  rintro e w' ⟨rfl, rfl⟩
  exact ⟨by rw [show ((k.toNat + 3 * n : Nat) : Int) = k + 3 * n by omega], rfl⟩
/-- What a function hands back: a list of spans, memory of its own, and a bool. -/
def RetTB (w : World) (r : List Sp × Bool) (e : Ending) (w' : World) : Prop :=
  ∃ A c, e = .returned (.tuple #[.slice A r.1.length c, .bool r.2]) ∧ Seg w' 96 3 w.heap.size w'.heap.size A r.1.length c (spc r.1) ∧ Below w.heap.size w w'
end Go.Proofs.YtjemjdlaoebffaaDoor

end
section
namespace Go.Proofs.YtjemjdlaoebffaaDoor
set_option linter.unusedSimpArgs false
open Go.RowKit
/-- Two new blocks. -/
theorem two_blocks (wr : World) (t : TypeId) (X Y : Array Value) : Below wr.heap.size wr ((wr.alloc (.cells X t)).alloc (.cells Y t)).drew ∧ BlockIs ((wr.alloc (.cells X t)).alloc (.cells Y t)).drew wr.heap.size t X ∧ BlockIs ((wr.alloc (.cells X t)).alloc (.cells Y t)).drew (wr.heap.size + 1) t Y := by
  have h1 := (Below.refl wr.heap.size wr).alloc (Nat.le_refl _) (.cells X t)
  have e : (wr.alloc (.cells X t)).heap.size = wr.heap.size + 1 := by simp
  have h2 := BlockIs.new (wr.alloc (.cells X t)) t Y
  rw [e] at h2
  exact ⟨(h1.alloc h1.size _).drew, ((BlockIs.new wr t X).below ((Below.refl _ _).alloc (Nat.le_refl _) _)).drew, h2.drew⟩
end Go.Proofs.YtjemjdlaoebffaaDoor

end
section
namespace Go.Proofs.YtjemjdlaoebffaaDoor
open Go.RowKit
def soonMTo (es : List Int) (now : Int) (k : Nat) : Int := (es.take k).foldl (fun a e => if now < e ∧ (a < 0 ∨ e < a) then e else a) (-1)
theorem soonMTo_succ (es : List Int) (now : Int) {k : Nat} (hk : k < es.length) : soonMTo es now (k + 1) = if now < es[k] ∧ (soonMTo es now k < 0 ∨ es[k] < soonMTo es now k) then es[k] else soonMTo es now k := by
  unfold soonMTo
  rw [List.take_succ_eq_append_getElem hk, List.foldl_append]
  rfl
set_option maxRecDepth 100000 in
set_option maxHeartbeats 1000000 in
theorem l7Soon_any (A : Option Addr) (c : Nat) (es : List Int) (now : Int) (w : World) (hr : Row w A (ic es)) (hn : es.length ≤ 1000) :
    Calls Tryd.prog 94 #[.slice A es.length c, .int .i64 now] w fun e w' => e = .returned (.int .i64 (soonM es now)) ∧ w = w' := by
  have HS := Lib.hid (fun k (hk : k < es.length) => soonMTo_succ es now hk)
  have HF : Hid (soonMTo es now es.length = soonM es now) := by show _ = _; unfold soonMTo soonM; rw [List.take_length]
  have H0 : Hid (soonMTo es now 0 = -1) := rfl
  go_enter Tryd.func94, Tryd.ntmps94
  go_wp2
  go_loop [5, 6] (fun ov iv => ∃ k : Nat, k ≤ es.length ∧ iv = .int .i64 (k : Int) ∧ ov = .int .i64 (soonMTo es now k)) (fun _ iv => es.length - (intOf iv).toNat)
  case atStart => exact ⟨0, Nat.zero_le _, rfl, by rw [H0.out]⟩
  case round =>
    obtain ⟨k, hk, rfl, rfl⟩ := hrel
    by_cases hlt : k < es.length
    · obtain ⟨ad, rfl, hc⟩ := hr.int hlt
      have hs := HS.out k hlt
      have hk0 : (0 : Int) ≤ k := by omega
      have hk1 : (k : Int) < es.length := by omega
      generalize soonMTo es now k = a at *
      generalize es[k] = e at *
      by_cases h1 : now < e
      · by_cases h2 : a < 0
        · rw [if_pos ⟨h1, .inl h2⟩] at hs
          have HR := Lib.hid hs
          clear hs
          go_wp2
          go_round
          case rel => exact ⟨k + 1, by omega, by go_num, by rw [HR.out]⟩
          case measure => simp [intOf]; omega
        · by_cases h3 : e < a
          · rw [if_pos ⟨h1, .inr h3⟩] at hs
            have HR := Lib.hid hs
            clear hs
            go_wp2
            go_round
            case rel => exact ⟨k + 1, by omega, by go_num, by rw [HR.out]⟩
            case measure => simp [intOf]; omega
          · rw [if_neg (fun h => h.2.elim h2 h3)] at hs
            have HR := Lib.hid hs
            clear hs
            go_wp2
            go_round
            case rel => exact ⟨k + 1, by omega, by go_num, by rw [HR.out]⟩
            case measure => simp [intOf]; omega
      · rw [if_neg (fun h => h1 h.1)] at hs
        have HR := Lib.hid hs
        clear hs
        go_wp2
        go_round
        case rel => exact ⟨k + 1, by omega, by go_num, by rw [HR.out]⟩
        case measure => simp [intOf]; omega
    · obtain rfl : k = es.length := by omega
      go_wp2
      go_ret
      exact ⟨by rw [HF.out]; rfl, rfl⟩
def canTo (T : Nat → Nat → Bool) (ends : List Int) (now : Int) (j l : Nat) : Bool := (List.range l).all fun k => !(T k j) || decide (endAt ends k ≤ now)
theorem canTo_succ (T : Nat → Nat → Bool) (ends : List Int) (now : Int) (j l : Nat) : canTo T ends now j (l + 1) = (canTo T ends now j l && (!(T l j) || decide (endAt ends l ≤ now))) := by
  unfold canTo; rw [List.range_succ, List.all_append]; simp
def pickV : Option Nat → Int
  | none => -1
  | some j => (j : Int)
theorem pick_none {n : Nat} {T : Nat → Nat → Bool} {ord : List Nat} {ends : List Int} {now : Int} (h : ∀ i (hi : i < ord.length), ¬ (endAt ends ord[i] = 1000 ∧ canS n T ends now ord[i] = true)) : pickJ n T ord ends now = none := by
  unfold pickJ leftL
  rw [List.find?_filter, List.find?_eq_none]
  intro x hx
  obtain ⟨i, hi, rfl⟩ := List.getElem_of_mem hx
  have := h i hi
  cases hc : canS n T ends now ord[i]
  · simp
  · have h0 : ¬ endAt ends ord[i] = 1000 := fun e => this ⟨e, hc⟩
    simp [h0]
theorem pick_some {n : Nat} {T : Nat → Nat → Bool} {ord : List Nat} {ends : List Int} {now : Int} {k : Nat} (hk : k < ord.length) (h1 : endAt ends ord[k] = 1000) (h2 : canS n T ends now ord[k] = true) (h : ∀ i (hi : i < k), ¬ (endAt ends (ord[i]'(by omega)) = 1000 ∧ canS n T ends now (ord[i]'(by omega)) = true)) : pickJ n T ord ends now = some ord[k] := by
  unfold pickJ leftL
  rw [List.find?_filter, List.find?_eq_some_iff_getElem]
  refine ⟨by simp [h1, h2], k, hk, rfl, fun i hi => ?_⟩
  have := h i hi
  cases hc : canS n T ends now (ord[i]'(by omega))
  · simp
  · have h0 : ¬ endAt ends (ord[i]'(by omega)) = 1000 := fun e => this ⟨e, hc⟩
    simp [h0]
theorem intAt {w : World} {ad : Addr} {xs : List Int} (h : Row w (some ad) (ic xs)) {k : Nat} (hk : k < xs.length) : w.cell? (ad.add k) = some (.int .i64 xs[k]) := by
  obtain ⟨a, ha, hc⟩ := h.int hk
  injection ha with ha
  subst ha
  exact hc
section
variable {Bs n cc : Nat} {Av : Option Addr} {T : Nat → Nat → Bool} {gs : List Nat} {ord : List Nat} {ends : List Int} {w : World}
set_option maxRecDepth 100000 in
set_option maxHeartbeats 4000000 in
theorem l7Next_any (D F : Option Addr) (d f : Nat) (now : Int) (hTb : TabR Bs n T gs (.slice Av gs.length cc) w) (hgl : gs.length = n) (hn8 : n ≤ 8) (ho : Row w D (ic (natI ord))) (hol : ord.length ≤ 8) (hord : ∀ j ∈ ord, j < n)
    (he : Row w F (ic (ends.map endM))) (hel : ends.length = n) (hends : ∀ k, k < n → endAt ends k = 1000 ∨ (0 < endAt ends k ∧ endAt ends k ≤ 400)) (hn0 : 0 ≤ now ∧ now ≤ 400) :
    Calls Tryd.prog 93 #[.slice Av gs.length cc, .slice D ord.length d, .slice F n f, .int .i64 now] w fun e w' => e = .returned (.int .i64 (pickV (pickJ n T ord ends now))) ∧ Below w.heap.size w w' := by
  have HTB := Lib.hid hTb
  have HO := Lib.hid ho
  have HE := Lib.hid he
  have HGL := Lib.hid hgl
  have HORD := Lib.hid hord
  have HEND := Lib.hid hends
  have HCS := Lib.hid (fun j l => canTo_succ T ends now j l)
  have HC0 : Hid (∀ j, canTo T ends now j 0 = true) := fun j => rfl
  have HCN : Hid (∀ j, canTo T ends now j n = canS n T ends now j) := fun j => rfl
  have HEL : Hid (ends.length = n) := hel
  have HEM : Hid (∀ k (hk : k < ends.length), (ic (ends.map endM)).length = n ∧ (ends.map endM)[k]'(by simpa using hk) = endM (endAt ends k)) := fun k hk => ⟨by rw [ic_len, List.length_map, hel], by unfold endAt; simp [hk]⟩
  clear hTb ho he hgl hord hends hel
  go_enter Tryd.func93, Tryd.ntmps93
  go_wp2
  go_loopw [9] (fun iv wr => ∃ k : Nat, k ≤ ord.length ∧ iv = .int .i64 (k : Int) ∧ Hid (∀ i (hi : i < ord.length), i < k → ¬ (endAt ends ord[i] = 1000 ∧ canS n T ends now ord[i] = true)) ∧ Hid (Below w.heap.size w wr)) (fun iv _ => ord.length - (intOf iv).toNat)
  case atStart => exact ⟨0, Nat.zero_le _, rfl, fun i _ hi => absurd hi (Nat.not_lt_zero i), Below.refl _ _⟩
  case round =>
    obtain ⟨k, hk, rfl, hP, hb⟩ := hrel
    by_cases hlt : k < ord.length
    · obtain ⟨ad, rfl, hcx⟩ := (HO.out.below hb.out).int (k := k) (by unfold natI; simpa using hlt)
      clear hcx
      have hjn := HORD.out ord[k] (List.getElem_mem hlt)
      have HOC : Hid (∀ W, Below w.heap.size w W → W.cell? (ad.add k) = some (.int .i64 ((ord[k] : Nat) : Int))) := fun W hW => by
        rw [intAt (HO.out.below hW) (k := k) (by unfold natI; simpa using hlt)]
        congr 2
        unfold natI
        simp
      have hPS : Hid (endAt ends ord[k] = 1000 → canS n T ends now ord[k] = true → pickJ n T ord ends now = some ord[k]) := fun h1 h2 => pick_some hlt h1 h2 fun i hi => hP.out i (by omega) hi
      have hPN : Hid (¬ (endAt ends ord[k] = 1000 ∧ canS n T ends now ord[k] = true) → ∀ i (hi : i < ord.length), i < k + 1 → ¬ (endAt ends ord[i] = 1000 ∧ canS n T ends now ord[i] = true)) := fun h i hi hik => by
        rcases Nat.lt_succ_iff_lt_or_eq.1 hik with h1 | h1
        · exact hP.out i hi h1
        · subst h1; exact h
      obtain ⟨fa, hfa, hcx⟩ := (HE.out.below hb.out).int (k := ord[k]) (by rw [List.length_map, HEL.out]; exact hjn)
      subst hfa
      clear hcx
      have HEC : Hid (∀ W, Below w.heap.size w W → ∀ l, l < n → W.cell? (fa.add l) = some (.int .i64 (endM (endAt ends l)))) := fun W hW l hl => by
        rw [intAt (HE.out.below hW) (k := l) (by rw [List.length_map, HEL.out]; exact hl), (HEM.out l (by rw [HEL.out]; exact hl)).2]
      have hoc := HOC.out wr hb.out
      have hec := HEC.out wr hb.out _ hjn
      have hen := HEND.out ord[k] hjn
      have hk0 : (0 : Int) ≤ k := by omega
      have hk1 : (k : Int) < ord.length := by omega
      clear hP
      obtain ⟨j, hj⟩ : ∃ j, ord[k] = j := ⟨_, rfl⟩
      rw [hj] at hjn HOC hPS hPN hoc hec hen
      clear hj
      have hj0 : (0 : Int) ≤ j := by omega
      have hj1 : (j : Int) < n := by omega
      by_cases hst : endAt ends j = 1000
      · have hem : endM (endAt ends j) = -1 := by unfold endM; rw [if_pos hst]
        rw [hem] at hec
        have hPS2 := Lib.hid (hPS.out hst)
        clear hen hem hst hPS
        go_wp2
        clear hec hoc
        go_loopw [10, 11] (fun mv lv ws => ∃ l : Nat, l ≤ n ∧ lv = .int .i64 (l : Int) ∧ mv = .bool (canTo T ends now j l) ∧ Hid (Below w.heap.size w ws)) (fun _ lv _ => n - (intOf lv).toNat)
        case atStart => exact ⟨0, Nat.zero_le _, rfl, by rw [HC0.out], hb.out⟩
        case round =>
          obtain ⟨l, hl, rfl, rfl, hbs⟩ := hrel
          by_cases hll : l < n
          · obtain ⟨g1, c1, q, hV, hq, hcell, _, _, _, hrow⟩ := (HTB.out.below hbs.out).at_ (i := l) (by rw [HGL.out]; exact hll)
            injection hV with hV1 _ hV2
            subst hV1 hV2
            have hct := hrow j (by omega)
            have hoc := HOC.out wr hbs.out
            have hec := HEC.out wr hbs.out l hll
            have hen := HEND.out l hll
            have hcs := HCS.out j l
            have hl0 : (0 : Int) ≤ l := by omega
            have hl1 : (l : Int) < n := by omega
            have hlg : (l : Int) < gs.length := by rw [HGL.out]; omega
            have HB := Lib.hid (below_drewN hbs.out 1)
            clear hrow hq
            generalize canTo T ends now j l = cl at *
            generalize T l j = tlj at *
            cases tlj
            · rw [Bool.not_false, Bool.true_or, Bool.and_true] at hcs
              have HR := Lib.hid hcs
              clear hcs hen
              go_wp2
              go_quiet (fail)
              go_wp2
              go_roundw
              case rel => exact ⟨l + 1, by omega, by go_num, by rw [HR.out], below_drewN hbs.out _⟩
              case measure => simp [intOf]; omega
            · rw [Bool.not_true, Bool.false_or] at hcs
              by_cases hst2 : endAt ends l = 1000
              · have hem : endM (endAt ends l) = -1 := by unfold endM; rw [if_pos hst2]
                rw [hem] at hec
                rw [decide_eq_false (by omega), Bool.and_false] at hcs
                have HR := Lib.hid hcs
                clear hcs hen hem hst2
                go_wp2
                go_quiet (fail)
                go_wp2
                go_roundw
                case rel => exact ⟨l + 1, by omega, by go_num, by rw [HR.out], below_drewN hbs.out _⟩
                case measure => simp [intOf]; omega
              · have hem : endM (endAt ends l) = endAt ends l := by unfold endM; rw [if_neg hst2]
                rw [hem] at hec
                have he0 : decide (endAt ends l < 0) = false := decide_eq_false (by omega)
                clear hem
                generalize endAt ends l = el at *
                by_cases hne : now < el
                · rw [decide_eq_false (by omega), Bool.and_false] at hcs
                  have HR := Lib.hid hcs
                  clear hcs hen hst2
                  go_wp2
                  go_quiet (fail)
                  go_wp2
                  go_roundw
                  case rel => exact ⟨l + 1, by omega, by go_num, by rw [HR.out], below_drewN hbs.out _⟩
                  case measure => simp [intOf]; omega
                · rw [decide_eq_true (by omega), Bool.and_true] at hcs
                  have hne2 : decide (now < el) = false := decide_eq_false hne
                  have HR := Lib.hid hcs
                  clear hcs hen hst2
                  go_wp2
                  go_quiet (fail)
                  go_wp2
                  go_roundw
                  case rel => exact ⟨l + 1, by omega, by go_num, by rw [HR.out], below_drewN hbs.out _⟩
                  case measure => simp [intOf]; omega
          · obtain rfl : l = n := by omega
            rw [HCN.out]
            have hoc := HOC.out wr hbs.out
            cases hcn : canS l T ends now j
            · have HPX := Lib.hid (hPN.out (fun h => by rw [hcn] at h; cases h.2))
              clear hcn hPS2 hPN
              go_wp2
              go_roundw
              case rel => exact ⟨k + 1, by omega, by go_num, HPX.out, hbs.out⟩
              case measure => simp [intOf]; omega
            · have HPX := Lib.hid (hPS2.out hcn)
              clear hcn hPS2 hPN
              go_wp2
              go_ret
              exact ⟨by rw [HPX.out]; rfl, hbs.out⟩
      · have hem : endM (endAt ends j) = endAt ends j := by unfold endM; rw [if_neg hst]
        rw [hem] at hec
        have HPX := Lib.hid (hPN.out (fun h => hst h.1))
        have he0 : (0 : Int) ≤ endAt ends j := by omega
        clear hen hem hPS hPN
        generalize endAt ends j = ej at *
        clear hst
        go_wp2
        go_roundw
        case rel => exact ⟨k + 1, by omega, by go_num, HPX.out, hb.out⟩
        case measure => simp [intOf]; omega
    · obtain rfl : k = ord.length := by omega
      have HPN := Lib.hid (pick_none fun i hi => hP.out i hi hi)
      clear hP
      go_wp2
      go_ret
      exact ⟨by rw [HPN.out]; rfl, hb.out⟩
end

theorem rowOf {w : World} {g : Nat} {t : TypeId} {xs : List Int} (h : BlockIs w g t (ic xs).toArray) : Row w (some ⟨g, 0, none⟩) (ic xs) := fun _ => ⟨_, rfl, h.lt, fun j u hu => by
  have h2 := h.cell j
  unfold Addr.add
  by_cases hj : j = 0
  · subst hj; rw [if_pos rfl, h2, ← Array.getElem?_toList]; exact hu
  · rw [if_neg hj]; simp only [Nat.zero_add]; rw [h2, ← Array.getElem?_toList]; exact hu⟩
theorem BlockIs.to {w : World} {g : Nat} {t : TypeId} {cs ds : Array Value} (h : BlockIs w g t cs) (e : cs = ds) : BlockIs w g t ds := by subst e; exact h
theorem cell3 (n : Nat) : madeCells #[.int .i64 0, .int .i64 0, .int .i64 0] (n * 3) = (spc (List.replicate n ⟨0, 0, 0⟩)).toArray := by
  have hz : ∀ v ∈ spc (List.replicate n ⟨0, 0, 0⟩), v = .int .i64 0 := by
    intro v hv
    unfold spc at hv
    rw [List.mem_flatMap] at hv
    obtain ⟨s, hs, hv⟩ := hv
    rw [List.eq_of_mem_replicate hs] at hv
    simpa [cellsSp] using hv
  apply Array.ext
  · rw [size_madeCells]; simp [spc_len, Nat.mul_comm]
  · intro i h1 h2
    have e2 : (spc (List.replicate n ⟨0, 0, 0⟩)).toArray[i] = .int .i64 0 := by
      rw [List.getElem_toArray]
      exact hz _ (List.getElem_mem _)
    rw [e2]
    have h3 : i % 3 < 3 := Nat.mod_lt _ (by decide)
    rcases (by omega : i % 3 = 0 ∨ i % 3 = 1 ∨ i % 3 = 2) with h | h | h <;> simp [madeCells, h]
theorem neg_step {n k : Nat} (hk : k < n) : (List.replicate k (-1 : Int) ++ List.replicate (n - k) 0).set k (-1) = List.replicate (k + 1) (-1) ++ List.replicate (n - (k + 1)) 0 := by
  rw [List.set_append_right _ _ (by simp), List.length_replicate, Nat.sub_self, show n - k = (n - (k + 1)) + 1 by omega, List.replicate_succ, List.set_cons_zero, List.replicate_succ', List.append_assoc]
  rfl
theorem neg_all (n : Nat) : List.replicate n (-1 : Int) ++ List.replicate (n - n) 0 = (List.replicate n 1000).map endM := by simp [endM]
/-- The model's lists of a state: they lie in three blocks in a row. -/
def LsW (w1 : World) (s : LsS) (wr : World) : Prop := Below w1.heap.size w1 wr ∧ BlockIs wr w1.heap.size 96 (spc s.plan).toArray ∧ BlockIs wr (w1.heap.size + 1) 3 (ic (s.ends.map endM)).toArray ∧ BlockIs wr (w1.heap.size + 2) 3 (ic s.free).toArray
theorem LsW.below {w1 wr wq : World} {s : LsS} (h : LsW w1 s wr) (hb : Below wr.heap.size wr wq) : LsW w1 s wq := ⟨h.1.trans (hb.mono h.1.size), h.2.1.below hb, h.2.2.1.below hb, h.2.2.2.below hb⟩
theorem spc_set (ss : List Sp) (j : Nat) (x : Sp) (hj : j < ss.length) : set3 (spc ss).toArray (j * 3) x = (spc (ss.set j x)).toArray := by
  apply Array.ext'
  apply List.ext_getElem?
  intro i
  unfold set3
  simp only [Array.getElem?_toList, Array.getElem?_setIfInBounds, List.getElem?_toArray, Array.size_setIfInBounds, List.size_toArray, spc_len]
  have hd := Nat.div_add_mod i 3
  have h3 : i % 3 < 3 := Nat.mod_lt _ (by decide)
  by_cases hi : i < 3 * ss.length
  · have hq : i / 3 < ss.length := by omega
    have e1 := spc_get ss (i / 3) (i % 3) hq h3
    have e2 := spc_get (ss.set j x) (i / 3) (i % 3) (by simpa using hq) h3
    rw [show i / 3 * 3 + i % 3 = i by omega] at e1 e2
    rw [e1, e2, List.getElem_set]
    by_cases hji : j = i / 3
    · rw [if_pos hji]
      rcases (by omega : i % 3 = 0 ∨ i % 3 = 1 ∨ i % 3 = 2) with h | h | h
      · rw [if_neg (by omega), if_neg (by omega), if_pos (by omega), if_pos (by omega), h]; rfl
      · rw [if_neg (by omega), if_pos (by omega), if_pos (by omega), h]; rfl
      · rw [if_pos (by omega), if_pos (by omega), h]; rfl
    · rw [if_neg hji, if_neg (by omega), if_neg (by omega), if_neg (by omega)]
  · rw [if_neg (by omega), if_neg (by omega), if_neg (by omega), List.getElem?_eq_none (by rw [spc_len]; omega), List.getElem?_eq_none (by rw [spc_len, List.length_set]; omega)]

theorem LsW.assign {w1 wr : World} {s : LsS} (h : LsW w1 s wr) (js : List J) (now : Int) (k j : Nat) (hj : j < s.plan.length) (he : now + jAt js j ≠ 1000) :
    LsW w1 (assignL js s now k j) (((((wr.setCell ⟨w1.heap.size, j * 3, none⟩ (.int .i64 (j : Int))).setCell ⟨w1.heap.size, j * 3 + 1, none⟩ (.int .i64 (k : Int))).setCell ⟨w1.heap.size, j * 3 + 2, none⟩ (.int .i64 now)).setCell ⟨w1.heap.size + 1, j, none⟩ (.int .i64 (now + jAt js j))).setCell ⟨w1.heap.size + 2, k, none⟩ (.int .i64 (now + jAt js j))) := by
  have h1 := h.2.1.set3 (j * 3) ⟨(j : Int), (k : Int), now⟩
  rw [spc_set s.plan j _ hj] at h1
  have hem : endM (now + jAt js j) = now + jAt js j := by unfold endM; rw [if_neg he]
  have h2 := (((h.2.2.1.away (g' := w1.heap.size) (by omega) (j * 3) (.int .i64 (j : Int))).away (g' := w1.heap.size) (by omega) (j * 3 + 1) (.int .i64 (k : Int))).away (g' := w1.heap.size) (by omega) (j * 3 + 2) (.int .i64 now)).set j (.int .i64 (now + jAt js j))
  rw [ic_set] at h2
  have hms : (s.ends.map endM).set j (now + jAt js j) = (s.ends.set j (now + jAt js j)).map endM := by rw [List.map_set, hem]
  rw [hms] at h2
  have h3 := ((((h.2.2.2.away (g' := w1.heap.size) (by omega) (j * 3) (.int .i64 (j : Int))).away (g' := w1.heap.size) (by omega) (j * 3 + 1) (.int .i64 (k : Int))).away (g' := w1.heap.size) (by omega) (j * 3 + 2) (.int .i64 now)).away (g' := w1.heap.size + 1) (by omega) j (.int .i64 (now + jAt js j))).set k (.int .i64 (now + jAt js j))
  rw [ic_set] at h3
  have hb := ((((h.1.setCell (p := ⟨w1.heap.size, j * 3, none⟩) (Nat.le_refl _) (.int .i64 (j : Int))).setCell (p := ⟨w1.heap.size, j * 3 + 1, none⟩) (Nat.le_refl _) (.int .i64 (k : Int))).setCell (p := ⟨w1.heap.size, j * 3 + 2, none⟩) (Nat.le_refl _) (.int .i64 now)).setCell (p := ⟨w1.heap.size + 1, j, none⟩) (Nat.le_succ _) (.int .i64 (now + jAt js j))).setCell (p := ⟨w1.heap.size + 2, k, none⟩) (by show w1.heap.size ≤ w1.heap.size + 2; omega) (.int .i64 (now + jAt js j))
  exact ⟨hb, (h1.away (by omega) j _).away (by omega) k _, h2.away (by omega) k _, h3⟩
theorem perm_parts {n : Nat} {ord : List Nat} (hp : ord.Perm (List.range n)) : ord.length = n ∧ ord.Nodup ∧ (∀ j ∈ ord, j < n) ∧ ∀ j, j < n → j ∈ ord :=
  ⟨by simpa using hp.length_eq, hp.nodup_iff.2 List.nodup_range, fun j hj => List.mem_range.1 (hp.mem_iff.1 hj), fun j hj => hp.mem_iff.2 (List.mem_range.2 hj)⟩
theorem left_less {ord : List Nat} {ends : List Int} (h : ord.Nodup) {n : Nat} {T : Nat → Nat → Bool} {now : Int} {j : Nat} {e : Int} (hp : pickJ n T ord ends now = some j) (hj : j < ends.length) (he : e ≠ 1000) : (leftL ord (ends.set j e)).length + 1 = (leftL ord ends).length := by
  obtain ⟨p, hpl, hpj⟩ := List.getElem_of_mem (List.mem_of_find?_eq_some hp)
  rw [← left_erase h hj he hpl hpj, List.length_eraseIdx_of_lt hpl]
  omega
theorem step_none {js : List J} {T : Nat → Nat → Bool} {ord : List Nat} {now : Int} {s : LsS} {k : Nat} (h : pickJ js.length T ord s.ends now = none) : stepL js T ord now s k = s := by
  unfold stepL; rw [h]; split <;> rfl
theorem step_late {js : List J} {T : Nat → Nat → Bool} {ord : List Nat} {now : Int} {s : LsS} {k : Nat} (h : ¬ s.free.getD k 0 ≤ now) : stepL js T ord now s k = s := by
  unfold stepL; rw [if_neg h]
theorem step_some {js : List J} {T : Nat → Nat → Bool} {ord : List Nat} {now : Int} {s : LsS} {k j : Nat} (h : s.free.getD k 0 ≤ now) (hp : pickJ js.length T ord s.ends now = some j) : stepL js T ord now s k = assignL js s now k j := by
  unfold stepL; rw [if_pos h, hp]
set_option maxRecDepth 100000 in
set_option maxHeartbeats 4000000 in
theorem l7List_any (A C D : Option Addr) (c d b : Nat) (js : List J) (mm : Nat) (E : List Pr) (ord : List Nat) (w : World) (hr : Row w A (jc js)) (hq : Row w C (pc E)) (ho : Row w D (ic (natI ord))) (hl : E.length ≤ 10000000) (hok : ∀ j ∈ js, okJ j = true) (h8 : js.length ≤ 8) (hirr : irrB js.length E js.length = true) (hE : EdsIn js.length E) (hm : 1 ≤ mm ∧ mm ≤ 4) (hp : ord.Perm (List.range js.length)) :
    Calls Tryd.prog 49 #[.slice A js.length c, .int .i64 (mm : Int), .slice C E.length d, .slice D ord.length b] w fun e w' => ∃ g, e = .returned (.slice (some ⟨g, 0, none⟩) js.length js.length) ∧ w.heap.size ≤ g ∧ BlockIs w' g 96 (spc (listL js (tabB js.length E) ord mm)).toArray ∧ Below w.heap.size w w' := by
  obtain ⟨hol, hnd, hord, hall⟩ := perm_parts hp
  have hmkP := run_make_rows (P := Tryd.prog) 44 96 (.agg #[.int .i64 0, .int .i64 0, .int .i64 0]) 3 24 Tryd.underlying44 infoSp .i64 .i64 js.length (by omega) (by omega)
  have hmkE := run_make_row' (P := Tryd.prog) 23 3 (.int .i64 0) 8 Tryd.underlying23 infoI rfl .i64 .i64 js.length (by omega) (by omega)
  have hmkF := run_make_row' (P := Tryd.prog) 23 3 (.int .i64 0) 8 Tryd.underlying23 infoI rfl .i64 .i64 mm (by omega) (by omega)
  have HTB := Lib.hid (l4Table_any C d js.length E w hq hl h8 hE)
  have HR := Lib.hid hr
  have HO := Lib.hid ho
  have HOK := Lib.hid hok
  have HORD := Lib.hid hord
  have HND := Lib.hid hnd
  have HOL := Lib.hid hol
  have HRUNS := Lib.hid (fun (now : Int) (s : LsS) (h : OkL js mm now s) (hl : leftL ord s.ends ≠ []) => runs_after h hok h8 hord hall hirr (by omega) hl)
  clear hr hq ho hE hirr hp hall hok hord hnd hol
  obtain ⟨T, hT⟩ : ∃ T, tabB js.length E = T := ⟨_, rfl⟩
  rw [hT] at HTB HRUNS ⊢
  clear hT
  have HRES : Hid (listL js T ord mm = runL js T ord mm 1001 0 (initL js.length mm)) := rfl
  generalize listL js T ord mm = RES at HRES ⊢
  go_enter Tryd.func49, Tryd.ntmps49
  go_wp2_with fail
  refine HTB.out.mono ?_
  rintro e w1 ⟨gs, v, rfl, hT, hgl, hb1⟩
  obtain ⟨Av, cv, rfl, _, _⟩ := own_slice hT.1
  have HT := Lib.hid hT
  have HB1 := Lib.hid hb1
  have HGL := Lib.hid hgl
  have h1 := (Below.refl w1.heap.size w1).alloc (Nat.le_refl _) (.cells (madeCells #[.int .i64 0, .int .i64 0, .int .i64 0] (js.length * 3)) 96)
  have h1P := BlockIs.new w1 96 (madeCells #[.int .i64 0, .int .i64 0, .int .i64 0] (js.length * 3))
  have h2 := h1.alloc h1.size (.cells (madeCells #[.int .i64 0] js.length) 3)
  have h2P := h1P.below ((Below.refl _ _).alloc (Nat.le_refl _) (.cells (madeCells #[.int .i64 0] js.length) 3))
  have h2E := BlockIs.new (w1.alloc (.cells (madeCells #[.int .i64 0, .int .i64 0, .int .i64 0] (js.length * 3)) 96)) 3 (madeCells #[.int .i64 0] js.length)
  rw [World.size_alloc] at h2E
  have H0 := Lib.hid (And.intro h2 (And.intro (h2P.to (cell3 _)) (h2E.to (ic_made _))))
  clear hT hb1 HTB hgl h1 h1P h2 h2P h2E
  go_wp2
  go_loopw [13] (fun iv wr => ∃ k : Nat, k ≤ js.length ∧ iv = .int .i64 (k : Int) ∧ Hid (wr.heap.size = w1.heap.size + 2) ∧ Hid (Below w1.heap.size w1 wr ∧ BlockIs wr w1.heap.size 96 (spc (List.replicate js.length ⟨0, 0, 0⟩)).toArray ∧ BlockIs wr (w1.heap.size + 1) 3 (ic (List.replicate k (-1) ++ List.replicate (js.length - k) 0)).toArray)) (fun iv _ => js.length - (intOf iv).toNat)
  case atStart => exact ⟨0, Nat.zero_le _, rfl, by show _ = _; simp, by rw [List.replicate_zero, List.nil_append, Nat.sub_zero]; exact H0.out⟩
  case round =>
    obtain ⟨k, hk, rfl, HWF, HW⟩ := hrel
    clear H0 hmkP hmkE
    by_cases hlt : k < js.length
    · have hce := HW.out.2.2.int (k := k) (by simp; omega)
      have hfe := HW.out.2.2.frozen k
      have hk0 : (0 : Int) ≤ k := by omega
      have hk1 : (k : Int) < js.length := by omega
      have hB' := HW.out.2.2.set k (.int .i64 (-1))
      rw [ic_set, neg_step hlt] at hB'
      have HY := Lib.hid (And.intro (HW.out.1.setCell (p := ⟨w1.heap.size + 1, k, none⟩) (Nat.le_succ _) (.int .i64 (-1))) (And.intro (HW.out.2.1.away (g' := w1.heap.size + 1) (by omega) k (.int .i64 (-1))) hB'))
      clear hB' HW
      go_wp2
      go_roundw
      case rel => exact ⟨k + 1, by omega, by go_num, by show _ = _; rw [← HWF.out]; simp [World.setCell], HY.out⟩
      case measure => simp [intOf]; omega
    · obtain rfl : k = js.length := by omega
      have h3 := HW.out.1.alloc HW.out.1.size (.cells (madeCells #[.int .i64 0] mm) 3)
      have h3P := HW.out.2.1.below ((Below.refl _ _).alloc (Nat.le_refl _) (.cells (madeCells #[.int .i64 0] mm) 3))
      have h3E := HW.out.2.2.below ((Below.refl _ _).alloc (Nat.le_refl _) (.cells (madeCells #[.int .i64 0] mm) 3))
      have h3F := BlockIs.new wr 3 (madeCells #[.int .i64 0] mm)
      rw [neg_all] at h3E
      rw [HWF.out] at h3F
      have H1 : Hid (LsW w1 (initL js.length mm) (wr.alloc (.cells (madeCells #[.int .i64 0] mm) 3))) := ⟨h3, h3P, h3E, h3F.to (ic_made _)⟩
      have hws := HWF.out
      clear h3 h3P h3E h3F HW HWF
      obtain ⟨wz, hwz⟩ : ∃ x, x = wr := ⟨wr, rfl⟩
      subst hwz
      go_wp2
      clear hmkF
      go_loopw [15, 16] (fun nv lv wr => ∃ (i : Nat) (tt : Int) (s : LsS), Hid (OkL js mm tt s) ∧ Hid (runL js T ord mm (1001 - i) tt s = RES) ∧ Hid ((i : Int) ≤ tt) ∧ nv = .int .i64 tt ∧ lv = .int .i64 ((leftL ord s.ends).length : Int) ∧ Hid (LsW w1 s wr)) (fun nv _ _ => 1001 - (intOf nv).toNat)
      case atStart => exact ⟨0, 0, initL js.length mm, ok_init, HRES.out.symm, Int.le_refl _, rfl, by rw [show leftL ord (initL js.length mm).ends = ord from left_init, HOL.out], H1.out⟩
      case round =>
        obtain ⟨i, tt, s, hOk, hRun, hI, rfl, rfl, hW⟩ := hrel
        clear H1
        by_cases hle : leftL ord s.ends = []
        · have HP := Lib.hid (run_end hRun.out hle)
          rw [hle]
          clear hRun hI hle
          go_wp2
          go_ret
          exact ⟨w1.heap.size, rfl, HB1.out.size, hW.out.2.1.to (by rw [HP.out]), HB1.out.trans (hW.out.1.mono HB1.out.size)⟩
        · have hpos : 0 < (leftL ord s.ends).length := List.length_pos_iff.2 hle
          have hn0 := hOk.out.n0
          have hn1 := (hOk.out.bd HOK.out h8).1
          have HRA := Lib.hid (HRUNS.out tt s hOk.out hle)
          have H2 := Lib.hid hW.out
          have HMORE : Hid (∀ f, 1001 - i = f + 1 → runL js T ord mm f (soonL (startTo js T ord tt s mm).ends tt) (startTo js T ord tt s mm) = RES) := fun f hf => run_more (by rw [← hf]; exact hRun.out) hle
          clear hW hle hRun
          obtain ⟨wo, hwo⟩ : ∃ x, x = wr := ⟨wr, rfl⟩
          subst hwo
          go_wp2
          go_loopw [16, 17] (fun lv mv wr => ∃ k : Nat, k ≤ mm ∧ mv = .int .i64 (k : Int) ∧ lv = .int .i64 ((leftL ord (startTo js T ord tt s k).ends).length : Int) ∧ Hid (LsW w1 (startTo js T ord tt s k) wr)) (fun _ mv _ => mm - (intOf mv).toNat)
          case atStart => exact ⟨0, Nat.zero_le _, rfl, rfl, H2.out⟩
          case round =>
            obtain ⟨k, hk, rfl, rfl, hW⟩ := hrel
            clear H2 hpos
            by_cases hlt : k < mm
            · have HOK2 := Lib.hid (hOk.out.start (T := T) HOK.out h8 HORD.out k (by omega))
              have HST := Lib.hid (startTo_succ js T ord tt s k)
              generalize startTo js T ord tt s k = q at *
              have hcF := hW.out.2.2.2.int (k := k) (by rw [HOK2.out.lf]; exact hlt)
              have hgd : q.free.getD k 0 = q.free[k]'(by rw [HOK2.out.lf]; exact hlt) := getD_at q.free 0 (by rw [HOK2.out.lf]; exact hlt)
              have HLATE : Hid (¬ q.free.getD k 0 ≤ tt → stepL js T ord tt q k = q) := step_late
              have HSOME : Hid (∀ j, q.free.getD k 0 ≤ tt → pickJ js.length T ord q.ends tt = some j → stepL js T ord tt q k = assignL js q tt k j) := fun j => step_some
              rw [hgd] at HLATE HSOME
              clear hgd
              generalize q.free[k]'(by rw [HOK2.out.lf]; exact hlt) = fk at *
              have hk0 : (0 : Int) ≤ k := by omega
              have hk1 : (k : Int) < mm := by omega
              by_cases hf : fk ≤ tt
              · have HNX := Lib.hid (l7Next_any D (some ⟨w1.heap.size + 1, 0, none⟩) b js.length tt (HT.out.below hW.out.1) HGL.out h8 (HO.out.below (HB1.out.trans (hW.out.1.mono HB1.out.size))) (by rw [HOL.out]; exact h8) HORD.out (rowOf hW.out.2.2.1) HOK2.out.le (fun k hk => by have := HOK2.out.en k hk; have := (HOK2.out.bd HOK.out h8).2; omega) ⟨hn0, hn1⟩)
                go_wp2_with fail
                refine HNX.out.mono ?_
                rintro e w5 ⟨rfl, hb5⟩
                have HW5 := Lib.hid (hW.out.below hb5)
                cases hpk : pickJ js.length T ord q.ends tt with
                | none =>
                  have hs : stepL js T ord tt q k = q := step_none hpk
                  rw [hs] at HST
                  clear hs hpk HNX hW hb5 hcF HLATE HSOME hf
                  simp only [pickV]
                  go_wp2
                  go_roundw
                  case rel => exact ⟨k + 1, by omega, by go_num, by rw [HST.out], by rw [HST.out]; exact HW5.out⟩
                  case measure => simp [intOf]; omega
                | some j =>
                  obtain ⟨hj, hst, _⟩ := pick_out HORD.out hpk
                  have hjp : j < q.plan.length := by rw [HOK2.out.lp]; exact hj
                  have hje : j < q.ends.length := by rw [HOK2.out.le]; exact hj
                  have hjt := jAt_bd HOK.out hj
                  have hs := HSOME.out j hf hpk
                  have HLESS : Hid ((leftL ord (assignL js q tt k j).ends).length + 1 = (leftL ord q.ends).length) := left_less HND.out hpk hje (e := tt + jAt js j) (by omega)
                  have HLL : Hid ((leftL ord q.ends).length ≤ 8) := Nat.le_trans (List.length_filter_le _ _) (by rw [HOL.out]; exact h8)
                  have HAS := Lib.hid (HW5.out.assign js tt k j hjp (by omega))
                  obtain ⟨ad, hA, hbl, hcj1, hc1, hc2, hc3⟩ := (HR.out.below HB1.out).job hj
                  have hcj := (HW5.out.1.cell (p := ad.add (j * 4)) (by rw [add_block]; exact hbl)).trans hcj1
                  clear hc1 hc2 hc3 hcj1
                  subst hA
                  have e1 : jAt js j = js[j].t := congrArg J.t (getD_at js j0 hj)
                  rw [← e1] at hcj
                  obtain ⟨v0, hv0⟩ := HW5.out.2.1.has (i := j * 3) (by simp [spc_len]; omega)
                  obtain ⟨v1, hv1⟩ := HW5.out.2.1.has (i := j * 3 + 1) (by simp [spc_len]; omega)
                  obtain ⟨v2, hv2⟩ := HW5.out.2.1.has (i := j * 3 + 2) (by simp [spc_len]; omega)
                  have hf0 := HW5.out.2.1.frozen (j * 3)
                  have hf1 := HW5.out.2.1.frozen (j * 3 + 1)
                  have hf2 := HW5.out.2.1.frozen (j * 3 + 2)
                  obtain ⟨ve, hve⟩ := HW5.out.2.2.1.has (i := j) (by simpa [ic_len] using hje)
                  have hfe := HW5.out.2.2.1.frozen j
                  obtain ⟨vf, hvf⟩ := HW5.out.2.2.2.has (i := k) (by simpa [ic_len, HOK2.out.lf] using hlt)
                  have hff := HW5.out.2.2.2.frozen k
                  have hj0 : (0 : Int) ≤ j := by omega
                  have hj1 : (j : Int) < js.length := by omega
                  have hwr : IntKind.i64.wrap (tt + jAt js j) = tt + jAt js j := IntWalk.i64_in _ (by omega)
                  have hb3 := (((Below.refl w1.heap.size w5).setCell (p := ⟨w1.heap.size, j * 3, none⟩) (Nat.le_refl _) (.int .i64 (j : Int))).setCell (p := ⟨w1.heap.size, j * 3 + 1, none⟩) (Nat.le_refl _) (.int .i64 (k : Int))).setCell (p := ⟨w1.heap.size, j * 3 + 2, none⟩) (Nat.le_refl _) (.int .i64 tt)
                  have hcj3 := (hb3.cell (p := ad.add (j * 4)) (by rw [add_block]; exact hbl)).trans hcj
                  clear hb3
                  rw [hs] at HST
                  clear hs hpk HNX hW hb5 hcF HLATE HSOME hst hjp hje e1
                  simp only [pickV]
                  generalize jAt js j = tj at *
                  go_wp2
                  go_roundw
                  case rel => exact ⟨k + 1, by omega, by go_num, by rw [HST.out, ← HLESS.out]; have := HLL.out; have h2 := HLESS.out; congr 1; unfold wrap64; omega, by rw [HST.out]; exact HAS.out⟩
                  case measure => simp [intOf]; omega
              · have hs : stepL js T ord tt q k = q := HLATE.out hf
                rw [hs] at HST
                clear hs HLATE HSOME
                go_wp2
                go_roundw
                case rel => exact ⟨k + 1, by omega, by go_num, by rw [HST.out], by rw [HST.out]; exact hW.out⟩
                case measure => simp [intOf]; omega
            · obtain rfl : k = mm := by omega
              have HOK2 := Lib.hid (hOk.out.start (T := T) HOK.out h8 HORD.out k (Nat.le_refl _))
              generalize startTo js T ord tt s k = q at *
              have hSO := soon_out HOK2.out HOK.out h8 HRA.out
              have hS4 := (hSO.2.bd HOK.out h8).1
              have hSN := l7Soon_any (some ⟨w1.heap.size + 1, 0, none⟩) js.length (q.ends.map endM) tt wr (rowOf hW.out.2.2.1) (by rw [List.length_map, HOK2.out.le]; omega)
              rw [List.length_map, HOK2.out.le, soonM_eq HOK2.out HOK.out h8 HRA.out] at hSN
              have HSN := Lib.hid hSN
              have HOK3 := Lib.hid hSO.2
              have hS1 := hSO.1
              clear hSN hSO
              generalize soonL q.ends tt = tn at *
              go_wp2_with fail
              refine HSN.out.mono ?_
              rintro e _ ⟨rfl, rfl⟩
              clear HSN
              go_wp2
              go_roundw
              case rel => exact ⟨i + 1, tn, q, HOK3.out, HMORE.out _ (by have := hI.out; omega), by have := hI.out; show _ ≤ _; omega, rfl, rfl, hW.out⟩
              case measure => simp [intOf]; omega
end Go.Proofs.YtjemjdlaoebffaaDoor

end
section
namespace Go.Proofs.YtjemjdlaoebffaaDoor
open Go.RowKit
def wlC (J : Value) (n : Int) (B : Nat → Nat) : Array Value := #[J, .int .i64 n, .int .u64 (B 0 : Int), .int .u64 (B 1 : Int), .int .u64 (B 2 : Int), .int .u64 (B 3 : Int), .int .u64 (B 4 : Int), .int .u64 (B 5 : Int), .int .u64 (B 6 : Int), .int .u64 (B 7 : Int)]
def wlZ : Array Value := #[.slice none 0 0, .int .i64 0, .int .u64 0, .int .u64 0, .int .u64 0, .int .u64 0, .int .u64 0, .int .u64 0, .int .u64 0, .int .u64 0]
def set10 (w : World) (g : Nat) (J : Value) (n : Int) (B : Nat → Nat) : World := (((((((((w.setCell ⟨g, 0, none⟩ J).setCell ⟨g, 1, none⟩ (.int .i64 n)).setCell ⟨g, 2, none⟩ (.int .u64 (B 0 : Int))).setCell ⟨g, 3, none⟩ (.int .u64 (B 1 : Int))).setCell ⟨g, 4, none⟩ (.int .u64 (B 2 : Int))).setCell ⟨g, 5, none⟩ (.int .u64 (B 3 : Int))).setCell ⟨g, 6, none⟩ (.int .u64 (B 4 : Int))).setCell ⟨g, 7, none⟩ (.int .u64 (B 5 : Int))).setCell ⟨g, 8, none⟩ (.int .u64 (B 6 : Int))).setCell ⟨g, 9, none⟩ (.int .u64 (B 7 : Int))
theorem set10_size (w : World) (g : Nat) (J : Value) (n : Int) (B : Nat → Nat) : (set10 w g J n B).heap.size = w.heap.size := by simp [set10, World.setCell]
theorem set10_cells (cs : Array Value) (hs : cs.size = 10) (J : Value) (n : Int) (B : Nat → Nat) : (((((((((cs.setIfInBounds 0 J).setIfInBounds 1 (.int .i64 n)).setIfInBounds 2 (.int .u64 (B 0 : Int))).setIfInBounds 3 (.int .u64 (B 1 : Int))).setIfInBounds 4 (.int .u64 (B 2 : Int))).setIfInBounds 5 (.int .u64 (B 3 : Int))).setIfInBounds 6 (.int .u64 (B 4 : Int))).setIfInBounds 7 (.int .u64 (B 5 : Int))).setIfInBounds 8 (.int .u64 (B 6 : Int))).setIfInBounds 9 (.int .u64 (B 7 : Int)) = wlC J n B := by
  apply Array.ext
  · simp [hs, wlC]
  · intro i h1 h2
    have : i < 10 := h2
    rcases (by omega : i = 0 ∨ i = 1 ∨ i = 2 ∨ i = 3 ∨ i = 4 ∨ i = 5 ∨ i = 6 ∨ i = 7 ∨ i = 8 ∨ i = 9) with rfl | rfl | rfl | rfl | rfl | rfl | rfl | rfl | rfl | rfl <;> simp [wlC, hs]
theorem block_set10 {w : World} {g : Nat} {cs : Array Value} (h : BlockIs w g 83 cs) (hs : cs.size = 10) (J : Value) (n : Int) (B : Nat → Nat) : BlockIs (set10 w g J n B) g 83 (wlC J n B) := by
  have := (((((((((h.set 0 J).set 1 (.int .i64 n)).set 2 (.int .u64 (B 0 : Int))).set 3 (.int .u64 (B 1 : Int))).set 4 (.int .u64 (B 2 : Int))).set 5 (.int .u64 (B 3 : Int))).set 6 (.int .u64 (B 4 : Int))).set 7 (.int .u64 (B 5 : Int))).set 8 (.int .u64 (B 6 : Int))).set 9 (.int .u64 (B 7 : Int))
  rw [set10_cells cs hs J n B] at this
  exact this
theorem below_set10 {H : Nat} {w0 w : World} (h : Below H w0 w) {g : Nat} (hg : H ≤ g) (J : Value) (n : Int) (B : Nat → Nat) : Below H w0 (set10 w g J n B) :=
  (((((((((h.setCell (p := ⟨g, 0, none⟩) hg _).setCell (p := ⟨g, 1, none⟩) hg _).setCell (p := ⟨g, 2, none⟩) hg _).setCell (p := ⟨g, 3, none⟩) hg _).setCell (p := ⟨g, 4, none⟩) hg _).setCell (p := ⟨g, 5, none⟩) hg _).setCell (p := ⟨g, 6, none⟩) hg _).setCell (p := ⟨g, 7, none⟩) hg _).setCell (p := ⟨g, 8, none⟩) hg _).setCell (p := ⟨g, 9, none⟩) hg _
theorem load10 {g : Nat} {cs : Array Value} {w : World} (h : BlockIs w g 83 cs) (hs : cs.size = 10) : (loadVar 83 ⟨g, 0, none⟩).run Tryd.prog w = .ok (.agg cs) w :=
  run_loadVar_row w g 83 83 cs (0, 0) _ h Tryd.underlying83 rfl (by rw [hs]; kernel_rfl)
theorem results_cellW {fn : Func} {p q : Tmp} (h : fn.results = #[.cell p 83, .tmp q]) (tmps : Array Value) (w : World) (g : Nat) {cs : Array Value}
    (hp : tmps.getD p undef = .pointer (some ⟨g, 0, none⟩)) (hB : BlockIs w g 83 cs) (hs : cs.size = 10) :
    (results fn tmps).run Tryd.prog w = .ok (.tuple #[.agg cs, tmps.getD q undef]) w := by
  have hp' : tmps[p]?.getD undef = .pointer (some ⟨g, 0, none⟩) := by simpa using hp
  simp [results, h, hp', asAddr, load10 hB hs]
def precForB (js : List J) (E : List Pr) : Bool := goodL js && precB js.length E
set_option maxRecDepth 100000 in
set_option maxHeartbeats 4000000 in
theorem precedenceFor_any (A C : Option Addr) (c d : Nat) (js : List J) (E : List Pr) (w : World) (hr : Row w A (jc js)) (hq : Row w C (pc E)) (hn : js.length ≤ 10000000) (hl : E.length ≤ 10000000) (hT : TzTab w) :
    Calls Tryd.prog 98 #[.slice A js.length c, .slice C E.length d] w fun e w' => Below w.heap.size w w' ∧ ((precForB js E = true ∧ js.length ≤ 8 ∧ e = .returned (.tuple #[.agg (precC (js.length : Int) (befN js.length (tabB js.length E))), .bool true])) ∨ (precForB js E = false ∧ e = .returned (.tuple #[.agg precZ, .bool false]))) := by
  have b0 := (Below.refl w.heap.size w).alloc (Nat.le_refl _) (.cells precZ 81)
  have h0 := BlockIs.new w 81 precZ
  have HJ := Lib.hid (IsJobs_any A c js _ (hr.below b0) (by omega))
  have HPO := Lib.hid (fun W (hb : Below w.heap.size w W) => precedenceOf_any C d (js.length : Int) E W (hq.below hb) hl (hT.below hb))
  have HD : Hid (precForB js E = (goodL js && precB js.length E)) := rfl
  have H0 := Lib.hid (And.intro b0 h0)
  clear b0 h0 hr hq hT
  cases hg : goodL js
  · rw [hg] at HJ HD
    clear hg
    go_enter Tryd.func98, Tryd.ntmps98
    go_wp2_with fail
    refine HJ.out.mono ?_
    rintro e w1 ⟨rfl, hb1⟩
    have hb := H0.out.1.trans (hb1.mono H0.out.1.size)
    have hB := H0.out.2.below hb1
    have z0 := hB.cell 0
    have z1 := hB.cell 1
    have z2 := hB.cell 2
    have z3 := hB.cell 3
    have z4 := hB.cell 4
    have z5 := hB.cell 5
    have z6 := hB.cell 6
    have z7 := hB.cell 7
    have z8 := hB.cell 8
    have f0 := hB.frozen 0
    have f1 := hB.frozen 1
    have f2 := hB.frozen 2
    have f3 := hB.frozen 3
    have f4 := hB.frozen 4
    have f5 := hB.frozen 5
    have f6 := hB.frozen 6
    have f7 := hB.frozen 7
    have f8 := hB.frozen 8
    simp only [precZ, List.getElem?_toArray, List.getElem?_cons_zero, List.getElem?_cons_succ] at z0 z1 z2 z3 z4 z5 z6 z7 z8
    have HS := Lib.hid (And.intro (below_set9 hb (Nat.le_refl _) 0 fun _ => 0) (block_set9 hB rfl 0 fun _ => 0))
    clear hb hB hb1 H0 HJ
    go_wp2
    exact bodyPost_ret (v := .tuple #[.agg precZ, .bool false]) (results_cellP (p := 4) (q := 5) rfl _ _ w.heap.size rfl HS.out.2 rfl) rfl ⟨HS.out.1, .inr ⟨HD.out, rfl⟩⟩
  · rw [hg, Bool.true_and] at HD
    rw [hg] at HJ
    clear hg
    go_enter Tryd.func98, Tryd.ntmps98
    go_wp2_with fail
    refine HJ.out.mono ?_
    rintro e w1 ⟨rfl, hb1⟩
    have hb := H0.out.1.trans (hb1.mono H0.out.1.size)
    have HB1 := Lib.hid (And.intro hb (H0.out.2.below hb1))
    have HC := Lib.hid (HPO.out w1 hb)
    clear hb hb1 H0 HJ HPO
    go_wp2_with fail
    refine HC.out.mono ?_
    rintro e w2 ⟨hb2, ⟨hp, m, hm, hm8, _, _, rfl⟩ | ⟨hp, rfl⟩⟩
    · obtain rfl : js.length = m := by omega
      have hB := HB1.out.2.below hb2
      have hb := HB1.out.1.trans (hb2.mono HB1.out.1.size)
      have z0 := hB.cell 0
      have z1 := hB.cell 1
      have z2 := hB.cell 2
      have z3 := hB.cell 3
      have z4 := hB.cell 4
      have z5 := hB.cell 5
      have z6 := hB.cell 6
      have z7 := hB.cell 7
      have z8 := hB.cell 8
      have f0 := hB.frozen 0
      have f1 := hB.frozen 1
      have f2 := hB.frozen 2
      have f3 := hB.frozen 3
      have f4 := hB.frozen 4
      have f5 := hB.frozen 5
      have f6 := hB.frozen 6
      have f7 := hB.frozen 7
      have f8 := hB.frozen 8
      simp only [precZ, List.getElem?_toArray, List.getElem?_cons_zero, List.getElem?_cons_succ] at z0 z1 z2 z3 z4 z5 z6 z7 z8
      have HS := Lib.hid (And.intro (below_set9 hb (Nat.le_refl _) (js.length : Int) (befN js.length (tabB js.length E))) (block_set9 hB rfl (js.length : Int) (befN js.length (tabB js.length E))))
      have HP := Lib.hid (HD.out.trans hp)
      clear hb hB hb2 HB1 HC hp
      unfold precC
      go_wp2
      exact bodyPost_ret (v := .tuple #[.agg (precC (js.length : Int) (befN js.length (tabB js.length E))), .bool true]) (results_cellP (p := 4) (q := 5) rfl _ _ w.heap.size rfl HS.out.2 rfl) rfl ⟨HS.out.1, .inl ⟨HP.out, hm8, rfl⟩⟩
    · have hB := HB1.out.2.below hb2
      have hb := HB1.out.1.trans (hb2.mono HB1.out.1.size)
      have z0 := hB.cell 0
      have z1 := hB.cell 1
      have z2 := hB.cell 2
      have z3 := hB.cell 3
      have z4 := hB.cell 4
      have z5 := hB.cell 5
      have z6 := hB.cell 6
      have z7 := hB.cell 7
      have z8 := hB.cell 8
      have f0 := hB.frozen 0
      have f1 := hB.frozen 1
      have f2 := hB.frozen 2
      have f3 := hB.frozen 3
      have f4 := hB.frozen 4
      have f5 := hB.frozen 5
      have f6 := hB.frozen 6
      have f7 := hB.frozen 7
      have f8 := hB.frozen 8
      simp only [precZ, List.getElem?_toArray, List.getElem?_cons_zero, List.getElem?_cons_succ] at z0 z1 z2 z3 z4 z5 z6 z7 z8
      have HS := Lib.hid (And.intro (below_set9 hb (Nat.le_refl _) 0 fun _ => 0) (block_set9 hB rfl 0 fun _ => 0))
      have HP := Lib.hid (HD.out.trans hp)
      clear hb hB hb2 HB1 HC hp
      unfold precZ
      go_wp2
      exact bodyPost_ret (v := .tuple #[.agg precZ, .bool false]) (results_cellP (p := 4) (q := 5) rfl _ _ w.heap.size rfl HS.out.2 rfl) rfl ⟨HS.out.1, .inr ⟨HP.out, rfl⟩⟩
def wlB (js : List J) (E : List Pr) : Bool := plainL js && precB js.length E
/-- What workloadOf hands back. -/
def WlOut (w : World) (A : Option Addr) (c : Nat) (js : List J) (E : List Pr) (ok : Bool) (e : Ending) (w' : World) : Prop := Below w.heap.size w w' ∧
  ((ok = true ∧ js.length ≤ 8 ∧ e = .returned (.tuple #[.agg (wlC (.slice A js.length c) (js.length : Int) (befN js.length (tabB js.length E))), .bool true])) ∨ (ok = false ∧ e = .returned (.tuple #[.agg wlZ, .bool false])))
set_option maxRecDepth 100000 in
set_option maxHeartbeats 4000000 in
theorem workloadOf_any (A C : Option Addr) (c d : Nat) (js : List J) (E : List Pr) (w : World) (hr : Row w A (jc js)) (hq : Row w C (pc E)) (hn : js.length ≤ 10000000) (hl : E.length ≤ 10000000) (hT : TzTab w) :
    Calls Tryd.prog 53 #[.slice A js.length c, .slice C E.length d] w (WlOut w A c js E (wlB js E)) := by
  have b0 := (Below.refl w.heap.size w).alloc (Nat.le_refl _) (.cells wlZ 83)
  have h0 := BlockIs.new w 83 wlZ
  have HPL := Lib.hid (plainListOf_any A c js _ (hr.below b0) (by omega))
  have HPF := Lib.hid (fun W (hb : Below w.heap.size w W) => precedenceFor_any A C c d js E W (hr.below hb) (hq.below hb) hn hl (hT.below hb))
  have HD : Hid (wlB js E = (plainL js && precB js.length E)) := rfl
  have HDG : Hid (plainL js = true → goodL js = true) := plain_good
  have HDF : Hid (precForB js E = (goodL js && precB js.length E)) := rfl
  have H0 := Lib.hid (And.intro b0 h0)
  clear b0 h0 hr hq hT
  go_enter Tryd.func53, Tryd.ntmps53
  go_wp2_with fail
  refine HPL.out.mono ?_
  rintro e w1 ⟨hb1, ⟨hp, rfl⟩ | ⟨hp, rfl⟩⟩
  · have hb := H0.out.1.trans (hb1.mono H0.out.1.size)
    have HB1 := Lib.hid (And.intro hb (H0.out.2.below hb1))
    have HC := Lib.hid (HPF.out w1 hb)
    have HG := Lib.hid (HDG.out hp)
    rw [hp, Bool.true_and] at HD
    clear hb hb1 H0 HPL HPF hp HDG
    go_wp2_with fail
    refine HC.out.mono ?_
    rintro e w2 ⟨hb2, ⟨hf, h8, rfl⟩ | ⟨hf, rfl⟩⟩
    · have hwl : wlB js E = true := by
        rw [HDF.out, HG.out, Bool.true_and] at hf
        rw [HD.out, hf]
      have HWL := Lib.hid hwl
      have hb := HB1.out.1.trans (hb2.mono HB1.out.1.size)
      have hbA := hb.alloc hb.size (.cells (precC (js.length : Int) (befN js.length (tabB js.length E))) 81)
      have hB := (HB1.out.2.below hb2).below ((Below.refl _ _).alloc (Nat.le_refl _) (.cells (precC (js.length : Int) (befN js.length (tabB js.length E))) 81))
      have z0 := hB.cell 0
      have z1 := hB.cell 1
      have z2 := hB.cell 2
      have z3 := hB.cell 3
      have z4 := hB.cell 4
      have z5 := hB.cell 5
      have z6 := hB.cell 6
      have z7 := hB.cell 7
      have z8 := hB.cell 8
      have z9 := hB.cell 9
      have f0 := hB.frozen 0
      have f1 := hB.frozen 1
      have f2 := hB.frozen 2
      have f3 := hB.frozen 3
      have f4 := hB.frozen 4
      have f5 := hB.frozen 5
      have f6 := hB.frozen 6
      have f7 := hB.frozen 7
      have f8 := hB.frozen 8
      have f9 := hB.frozen 9
      simp only [wlZ, List.getElem?_toArray, List.getElem?_cons_zero, List.getElem?_cons_succ] at z0 z1 z2 z3 z4 z5 z6 z7 z8 z9
      have HS := Lib.hid (And.intro (below_set10 hbA (Nat.le_refl _) (.slice A js.length c) (js.length : Int) (befN js.length (tabB js.length E))) (block_set10 hB rfl (.slice A js.length c) (js.length : Int) (befN js.length (tabB js.length E))))
      clear hb hB hb2 HB1 HC hf hwl hbA
      unfold precC
      unfold precC at z0 z1 z2 z3 z4 z5 z6 z7 z8 z9 f0 f1 f2 f3 f4 f5 f6 f7 f8 f9
      go_wp2
      exact bodyPost_ret (v := .tuple #[.agg (wlC (.slice A js.length c) (js.length : Int) (befN js.length (tabB js.length E))), .bool true]) (results_cellW (p := 4) (q := 5) rfl _ _ w.heap.size rfl HS.out.2 rfl) rfl ⟨HS.out.1, .inl ⟨HWL.out, h8, rfl⟩⟩
    · have hwl : wlB js E = false := by
        rw [HDF.out, HG.out, Bool.true_and] at hf
        rw [HD.out, hf]
      have HWL := Lib.hid hwl
      have hb := HB1.out.1.trans (hb2.mono HB1.out.1.size)
      have hbA := hb.alloc hb.size (.cells precZ 81)
      have hB := (HB1.out.2.below hb2).below ((Below.refl _ _).alloc (Nat.le_refl _) (.cells precZ 81))
      have z0 := hB.cell 0
      have z1 := hB.cell 1
      have z2 := hB.cell 2
      have z3 := hB.cell 3
      have z4 := hB.cell 4
      have z5 := hB.cell 5
      have z6 := hB.cell 6
      have z7 := hB.cell 7
      have z8 := hB.cell 8
      have z9 := hB.cell 9
      have f0 := hB.frozen 0
      have f1 := hB.frozen 1
      have f2 := hB.frozen 2
      have f3 := hB.frozen 3
      have f4 := hB.frozen 4
      have f5 := hB.frozen 5
      have f6 := hB.frozen 6
      have f7 := hB.frozen 7
      have f8 := hB.frozen 8
      have f9 := hB.frozen 9
      simp only [wlZ, List.getElem?_toArray, List.getElem?_cons_zero, List.getElem?_cons_succ] at z0 z1 z2 z3 z4 z5 z6 z7 z8 z9
      have HS := Lib.hid (And.intro (below_set10 hbA (Nat.le_refl _) (.slice none 0 0) 0 fun _ => 0) (block_set10 hB rfl (.slice none 0 0) 0 fun _ => 0))
      clear hb hB hb2 HB1 HC hf hwl hbA
      unfold precZ
      unfold precZ at z0 z1 z2 z3 z4 z5 z6 z7 z8 z9 f0 f1 f2 f3 f4 f5 f6 f7 f8 f9
      go_wp2
      exact bodyPost_ret (v := .tuple #[.agg wlZ, .bool false]) (results_cellW (p := 4) (q := 5) rfl _ _ w.heap.size rfl HS.out.2 rfl) rfl ⟨HS.out.1, .inr ⟨HWL.out, rfl⟩⟩
  · have hb := H0.out.1.trans (hb1.mono H0.out.1.size)
    have HB1 := Lib.hid (And.intro hb (H0.out.2.below hb1))
    have HC := Lib.hid (HPF.out w1 hb)
    rw [hp, Bool.false_and] at HD
    clear hb hb1 H0 HPL HPF hp HDG HDF
    go_wp2_with fail
    refine HC.out.mono ?_
    rintro e w2 ⟨hb2, hcase⟩
    obtain ⟨P9, b9, rfl, hsz⟩ : ∃ P9 b9, e = .returned (.tuple #[.agg P9, .bool b9]) ∧ ∃ n B, P9 = precC n B := by
      rcases hcase with ⟨_, _, rfl⟩ | ⟨_, rfl⟩
      · exact ⟨_, _, rfl, _, _, rfl⟩
      · exact ⟨_, _, rfl, _, _, precZ_eq.symm⟩
    obtain ⟨n9, B9, rfl⟩ := hsz
    clear hcase
    have hb := HB1.out.1.trans (hb2.mono HB1.out.1.size)
    have hbA := hb.alloc hb.size (.cells (precC n9 B9) 81)
    have hB := (HB1.out.2.below hb2).below ((Below.refl _ _).alloc (Nat.le_refl _) (.cells (precC n9 B9) 81))
    have z0 := hB.cell 0
    have z1 := hB.cell 1
    have z2 := hB.cell 2
    have z3 := hB.cell 3
    have z4 := hB.cell 4
    have z5 := hB.cell 5
    have z6 := hB.cell 6
    have z7 := hB.cell 7
    have z8 := hB.cell 8
    have z9 := hB.cell 9
    have f0 := hB.frozen 0
    have f1 := hB.frozen 1
    have f2 := hB.frozen 2
    have f3 := hB.frozen 3
    have f4 := hB.frozen 4
    have f5 := hB.frozen 5
    have f6 := hB.frozen 6
    have f7 := hB.frozen 7
    have f8 := hB.frozen 8
    have f9 := hB.frozen 9
    simp only [wlZ, List.getElem?_toArray, List.getElem?_cons_zero, List.getElem?_cons_succ] at z0 z1 z2 z3 z4 z5 z6 z7 z8 z9
    have HS := Lib.hid (And.intro (below_set10 hbA (Nat.le_refl _) (.slice none 0 0) 0 fun _ => 0) (block_set10 hB rfl (.slice none 0 0) 0 fun _ => 0))
    clear hb hB hb2 HB1 HC hbA
    unfold precC
    unfold precC at z0 z1 z2 z3 z4 z5 z6 z7 z8 z9 f0 f1 f2 f3 f4 f5 f6 f7 f8 f9
    go_wp2
    exact bodyPost_ret (v := .tuple #[.agg wlZ, .bool false]) (results_cellW (p := 4) (q := 5) rfl _ _ w.heap.size rfl HS.out.2 rfl) rfl ⟨HS.out.1, .inr ⟨HD.out, rfl⟩⟩
def onB (js : List J) (m : Int) (E : List Pr) : Bool := inB m 1 4 && wlB js E
set_option maxRecDepth 100000 in
set_option maxHeartbeats 4000000 in
theorem workloadOn_any (A C : Option Addr) (c d : Nat) (js : List J) (m : Int) (E : List Pr) (w : World) (hr : Row w A (jc js)) (hq : Row w C (pc E)) (hn : js.length ≤ 10000000) (hl : E.length ≤ 10000000) (hT : TzTab w) :
    Calls Tryd.prog 95 #[.slice A js.length c, .int .i64 m, .slice C E.length d] w (WlOut w A c js E (onB js m E)) := by
  have b0 := (Below.refl w.heap.size w).alloc (Nat.le_refl _) (.cells wlZ 83)
  have h0 := BlockIs.new w 83 wlZ
  have HWO := Lib.hid (workloadOf_any A C c d js E _ (hr.below b0) (hq.below b0) hn hl (hT.below b0))
  have HD : Hid (onB js m E = (inB m 1 4 && wlB js E)) := rfl
  have H0 := Lib.hid (And.intro b0 h0)
  clear b0 h0 hr hq hT
  by_cases h1 : m < 1
  · have HF : Hid (onB js m E = false) := by show _ = _; rw [HD.out, inB_no (by omega)]; rfl
    clear HWO
    go_enter Tryd.func95, Tryd.ntmps95
    go_wp2
    exact bodyPost_ret (v := .tuple #[.agg wlZ, .bool false]) (results_cellW (p := 6) (q := 7) rfl _ _ w.heap.size rfl H0.out.2 rfl) rfl ⟨H0.out.1, .inr ⟨HF.out, rfl⟩⟩
  · by_cases h4 : 4 < m
    · have HF : Hid (onB js m E = false) := by show _ = _; rw [HD.out, inB_no (by omega)]; rfl
      clear HWO
      go_enter Tryd.func95, Tryd.ntmps95
      go_wp2
      exact bodyPost_ret (v := .tuple #[.agg wlZ, .bool false]) (results_cellW (p := 6) (q := 7) rfl _ _ w.heap.size rfl H0.out.2 rfl) rfl ⟨H0.out.1, .inr ⟨HF.out, rfl⟩⟩
    · have HT1 : Hid (onB js m E = wlB js E) := by show _ = _; rw [HD.out, inB_yes (by omega) (by omega)]; rfl
      go_enter Tryd.func95, Tryd.ntmps95
      go_wp2_with fail
      refine HWO.out.mono ?_
      rintro e w1 ⟨hb1, ⟨hw, h8, rfl⟩ | ⟨hw, rfl⟩⟩
      · have hb := H0.out.1.trans (hb1.mono H0.out.1.size)
        have hB := H0.out.2.below hb1
        have HW := Lib.hid (HT1.out.trans hw)
        have z0 := hB.cell 0
        have z1 := hB.cell 1
        have z2 := hB.cell 2
        have z3 := hB.cell 3
        have z4 := hB.cell 4
        have z5 := hB.cell 5
        have z6 := hB.cell 6
        have z7 := hB.cell 7
        have z8 := hB.cell 8
        have z9 := hB.cell 9
        have f0 := hB.frozen 0
        have f1 := hB.frozen 1
        have f2 := hB.frozen 2
        have f3 := hB.frozen 3
        have f4 := hB.frozen 4
        have f5 := hB.frozen 5
        have f6 := hB.frozen 6
        have f7 := hB.frozen 7
        have f8 := hB.frozen 8
        have f9 := hB.frozen 9
        simp only [wlZ, List.getElem?_toArray, List.getElem?_cons_zero, List.getElem?_cons_succ] at z0 z1 z2 z3 z4 z5 z6 z7 z8 z9
        have HS := Lib.hid (And.intro (below_set10 hb (Nat.le_refl _) (.slice A js.length c) (js.length : Int) (befN js.length (tabB js.length E))) (block_set10 hB rfl (.slice A js.length c) (js.length : Int) (befN js.length (tabB js.length E))))
        clear hb hB hb1 H0 HWO hw
        unfold wlC
        go_wp2
        exact bodyPost_ret (v := .tuple #[.agg (wlC (.slice A js.length c) (js.length : Int) (befN js.length (tabB js.length E))), .bool true]) (results_cellW (p := 6) (q := 7) rfl _ _ w.heap.size rfl HS.out.2 rfl) rfl ⟨HS.out.1, .inl ⟨HW.out, h8, rfl⟩⟩
      · have hb := H0.out.1.trans (hb1.mono H0.out.1.size)
        have hB := H0.out.2.below hb1
        have HW := Lib.hid (HT1.out.trans hw)
        have z0 := hB.cell 0
        have z1 := hB.cell 1
        have z2 := hB.cell 2
        have z3 := hB.cell 3
        have z4 := hB.cell 4
        have z5 := hB.cell 5
        have z6 := hB.cell 6
        have z7 := hB.cell 7
        have z8 := hB.cell 8
        have z9 := hB.cell 9
        have f0 := hB.frozen 0
        have f1 := hB.frozen 1
        have f2 := hB.frozen 2
        have f3 := hB.frozen 3
        have f4 := hB.frozen 4
        have f5 := hB.frozen 5
        have f6 := hB.frozen 6
        have f7 := hB.frozen 7
        have f8 := hB.frozen 8
        have f9 := hB.frozen 9
        simp only [wlZ, List.getElem?_toArray, List.getElem?_cons_zero, List.getElem?_cons_succ] at z0 z1 z2 z3 z4 z5 z6 z7 z8 z9
        have HS := Lib.hid (And.intro (below_set10 hb (Nat.le_refl _) (.slice none 0 0) 0 fun _ => 0) (block_set10 hB rfl (.slice none 0 0) 0 fun _ => 0))
        clear hb hB hb1 H0 HWO hw
        unfold wlZ
        go_wp2
        exact bodyPost_ret (v := .tuple #[.agg wlZ, .bool false]) (results_cellW (p := 6) (q := 7) rfl _ _ w.heap.size rfl HS.out.2 rfl) rfl ⟨HS.out.1, .inr ⟨HW.out, rfl⟩⟩
theorem tlB (js : List J) (E : List Pr) : wlB js E = (plainL js && precB js.length E) := rfl
end Go.Proofs.YtjemjdlaoebffaaDoor

end
section
namespace Go.Proofs.YtjemjdlaoebffaaDoor
open Go.RowKit
set_option maxRecDepth 100000 in
set_option maxHeartbeats 1000000 in
theorem comesBefore_any (n : Int) (B : Nat → Nat) (hB8 : ∀ j, j < 8 → B j < 256) (i j : Nat) (hi : i < 8) (hj : j < 8) (w : World) :
    Calls Tryd.prog 214 #[.agg (precC n B), .int .i64 (i : Int), .int .i64 (j : Int)] w fun e w' => e = .returned (.bool ((B j).testBit i)) ∧ Below w.heap.size w w' := by
  have hb := (Below.refl w.heap.size w).alloc (Nat.le_refl _) (.cells (precC n B) 81)
  have hc := ((BlockIs.new w 81 (precC n B)).cell (1 + j)).trans (precC_at n B hj)
  have HH := Lib.hid (has_any (B j) i (hB8 j hj) hi)
  have HB := Lib.hid hb
  have hj0 : (0 : Int) ≤ j := by omega
  have hj1 : (j : Int) < 8 := by omega
  clear hb
  go_enter Tryd.func214, Tryd.ntmps214
  go_wp2_with fail
  refine (HH.out _).mono ?_
  rintro e _ ⟨rfl, rfl⟩
  go_wp2
  go_ret
  exact ⟨rfl, HB.out⟩
def bitT (B : Nat → Nat) (i j : Nat) : Bool := (B j).testBit i
theorem clsTo_congr {n : Nat} {T U : Nat → Nat → Bool} (h : ∀ i j, i < n → j < n → T i j = U i j) : ∀ k, k ≤ n → clsTo n T k = clsTo n U k
  | 0, _ => rfl
  | k + 1, hk => by
    rw [clsTo_succ, clsTo_succ, clsTo_congr h k (by omega)]
    congr 1
    have : ∀ m, m ≤ n → rowTo T k m = rowTo U k m := by
      intro m
      induction m with
      | zero => intro _; rfl
      | succ m ih =>
        intro hm
        rw [rowTo_succ, rowTo_succ, ih (by omega), h k m (by omega) (by omega)]
    exact this n (Nat.le_refl _)
theorem bitT_tab (m : Nat) (E : List Ed) : clsTo m (bitT (befN m (tabB m E))) m = closL m E :=
  clsTo_congr (fun i j hi _ => by unfold bitT; rw [bef_bit, decide_eq_true hi, Bool.true_and]) m (Nat.le_refl _)
set_option maxRecDepth 100000 in
set_option maxHeartbeats 4000000 in
theorem pairs_any (m : Nat) (hm : m ≤ 8) (B : Nat → Nat) (hB8 : ∀ j, j < 8 → B j < 256) (w : World) :
    Calls Tryd.prog 196 #[.agg (precC (m : Int) B)] w fun e w' => ∃ v, e = .returned v ∧ w'.ownsRow w.heap.size 37 2 v (clsTo m (bitT B) m).length (pc (clsTo m (bitT B) m)) ∧ Below w.heap.size w w' := by
  have hb1 := (Below.refl w.heap.size w).alloc (Nat.le_refl _) (.cells (precC (m : Int) B) 81)
  have hB1 := BlockIs.new w 81 (precC (m : Int) B)
  have hb2 := hb1.alloc hb1.size (.cells #[] 37)
  have hB2 := hB1.below ((Below.refl _ _).alloc (Nat.le_refl _) (.cells #[] 37))
  have h0 : ((w.alloc (.cells (precC (m : Int) B) 81)).alloc (.cells #[] 37)).ownsRow w.heap.size 37 2 (.slice (some ⟨(w.alloc (.cells (precC (m : Int) B) 81)).heap.size, 0, none⟩) 0 0) 0 (pc []) := World.ownsRow_made _ #[] 0 hb1.size (by unfold maxLen; omega) rfl
  rw [World.size_alloc] at h0
  have H0 := Lib.hid (And.intro h0 (And.intro hB2 hb2))
  have hc0 := hB1.cell 0
  clear hb1 hB1 hb2 hB2 h0 hc0
  have ep : (precC (m : Int) B) = #[.int .i64 m, .int .u64 (B 0 : Int), .int .u64 (B 1 : Int), .int .u64 (B 2 : Int), .int .u64 (B 3 : Int), .int .u64 (B 4 : Int), .int .u64 (B 5 : Int), .int .u64 (B 6 : Int), .int .u64 (B 7 : Int)] := rfl
  rw [ep]
  clear ep
  go_enter Tryd.func196, Tryd.ntmps196
  go_wp2
  go_loopw [3, 9] (fun u i wr => ∃ (k : Nat) (U : Value), k ≤ m ∧ i = .int .i64 (k : Int) ∧ U = u ∧ Hid (wr.ownsRow w.heap.size 37 2 U (clsTo m (bitT B) k).length (pc (clsTo m (bitT B) k)) ∧ BlockIs wr w.heap.size 81 (precC (m : Int) B) ∧ Below w.heap.size w wr)) (fun _ i _ => m - (intOf i).toNat)
  case atStart => exact ⟨0, _, Nat.zero_le _, rfl, rfl, H0.out⟩
  case round =>
    obtain ⟨i, U, hi, rfl, rfl, HO⟩ := hrel
    clear H0
    by_cases hlti : i < m
    · have hc0 := (HO.out.2.1.cell 0).trans (precC_0 (m : Int) B)
      go_wp2
      clear hc0
      obtain ⟨wo, rfl⟩ : ∃ wo : World, wo = wr := ⟨_, rfl⟩
      go_loopw [3, 14] (fun u jv wr => ∃ (j : Nat) (U2 : Value), j ≤ m ∧ jv = .int .i64 (j : Int) ∧ U2 = u ∧ Hid (wr.ownsRow w.heap.size 37 2 U2 (clsTo m (bitT B) i ++ rowTo (bitT B) i j).length (pc (clsTo m (bitT B) i ++ rowTo (bitT B) i j)) ∧ BlockIs wr w.heap.size 81 (precC (m : Int) B) ∧ Below w.heap.size w wr)) (fun _ jv _ => m - (intOf jv).toNat)
      case atStart => exact ⟨0, _, Nat.zero_le _, rfl, rfl, by rw [show rowTo (bitT B) i 0 = [] from rfl, List.append_nil]; exact HO.out⟩
      case round =>
        clear HO
        obtain ⟨j, U2, hj, rfl, rfl, HO⟩ := hrel
        by_cases hltj : j < m
        · have hBk := HO.out.2.1
          have c0 := hBk.cell 0
          have c1 := hBk.cell 1
          have c2 := hBk.cell 2
          have c3 := hBk.cell 3
          have c4 := hBk.cell 4
          have c5 := hBk.cell 5
          have c6 := hBk.cell 6
          have c7 := hBk.cell 7
          have c8 := hBk.cell 8
          simp only [precC, List.getElem?_toArray, List.getElem?_cons_zero, List.getElem?_cons_succ] at c0 c1 c2 c3 c4 c5 c6 c7 c8
          have HCB := Lib.hid (comesBefore_any (m : Int) B hB8 i j (by omega) (by omega) wr)
          have HRW := Lib.hid (rowTo_succ (bitT B) i j)
          have HBT : Hid (bitT B i j = (B j).testBit i) := rfl
          clear hBk
          go_wp2_with fail
          refine HCB.out.mono ?_
          rintro e w5 ⟨rfl, hb5⟩
          clear c0 c1 c2 c3 c4 c5 c6 c7 c8 HCB
          have HO5 := Lib.hid (And.intro (own_blw HO.out.1 hb5) (And.intro (HO.out.2.1.below hb5) (HO.out.2.2.trans (hb5.mono HO.out.2.2.size))))
          clear HO hb5
          cases hc : (B j).testBit i
          · rw [show bitT B i j = false from HBT.out.trans hc, if_neg (by decide)] at HRW
            clear hc
            go_wp2
            go_roundw
            case rel => exact ⟨j + 1, _, by omega, by go_num, rfl, by rw [HRW.out]; exact HO5.out⟩
            case measure => simp [intOf]; omega
          · rw [show bitT B i j = true from HBT.out.trans hc, if_pos rfl] at HRW
            obtain ⟨v', w3, hrun, hO3, hb3, hk3⟩ := pushP (w0 := w) HO5.out.1 HO5.out.2.2 ((i : Int), (j : Int)) (cls_bd m (bitT B) i j hlti hltj hm)
            have HRUN := Lib.hid hrun
            have HYES := Lib.hid (And.intro hO3 (And.intro (hk3 _ _ _ (by decide) HO5.out.2.1) hb3))
            rw [List.append_assoc] at HYES
            clear hc hrun hO3 hb3 hk3 HO5
            go_wp2_with (at_builtin; refine wpList_app rfl _ _ _ rfl _ _ _ rfl rfl HRUN.out ?_; clear HRUN)
            go_roundw
            case rel => exact ⟨j + 1, _, by omega, by go_num, rfl, by rw [HRW.out]; exact HYES.out⟩
            case measure => simp [intOf]; omega
        · obtain rfl : j = m := by omega
          go_wp2
          go_roundw
          case rel => exact ⟨i + 1, _, by omega, by go_num, rfl, by rw [clsTo_succ]; exact HO.out⟩
          case measure => simp [intOf]; omega
    · obtain rfl : i = m := by omega
      go_wp2
      go_ret
      exact ⟨U, rfl, HO.out.1, HO.out.2.2⟩
end Go.Proofs.YtjemjdlaoebffaaDoor

end
section
namespace Go.Proofs.YtjemjdlaoebffaaDoor
open Go.RowKit Go.Shelf
attribute [local go_sem] Oper.semAt_some
theorem exec_load10 {o : Oper} {ev : Operand → Value} {x : Operand} {g : Nat} {cs : Array Value} {w : World} (ho : o.op = .load 83 x) (hx : ev x = .pointer (some ⟨g, 0, none⟩)) (h : BlockIs w g 83 cs) (hs : cs.size = 10) :
    (execOp ev o).run Tryd.prog w = .ok (.value (.agg cs)) w := by
  unfold execOp
  simp only [ho, hx, Instr.loadAt, Instr.sureAddr, Sem.run_bind, Sem.run_pure, Result.andThen_ok, load10 h hs]
theorem keepsO_below {W W' : World} (h : Below W.heap.size W W') : KeepsOthers W W' :=
  ⟨h.size, fun k _ hk _ => (h.block k (Array.getElem?_eq_some_iff.1 hk).1).trans hk⟩
-- TAIL
section
variable {A : Option Addr} {c : Nat} {js : List J} {E : List Pr}
end
end Go.Proofs.YtjemjdlaoebffaaDoor

end
section
namespace Go.Proofs.YtjemjdlaoebffaaDoor
open Go.RowKit
theorem BlockIs.cast {w : World} {g : Nat} {t : TypeId} {cs ds : Array Value} (h : BlockIs w g t cs) (e : cs = ds) : BlockIs w g t ds := by subst e; exact h
theorem tailsL_at (js : List J) (E : List Ed) {k : Nat} (hk : k < js.length) : (tailsL js E)[k]'(by rw [tailsL_len]; exact hk) = tailF js (tabB js.length E) js.length 9 k := by unfold tailsL; simp
theorem wl_good {js : List J} {E : List Pr} (m : Int) (hm : inB m 1 4 = true) : goodB js m E = wlB js E := by
  unfold goodB wlB plainL
  rw [hm, Bool.true_and, Bool.and_assoc]
theorem wl_parts {js : List J} {E : List Pr} (h : wlB js E = true) : (∀ j ∈ js, okJ j = true) ∧ js.length ≤ 8 ∧ irrB js.length E js.length = true := by
  rw [← wl_good 1 rfl] at h
  obtain ⟨a, b, c, _⟩ := good_parts h
  exact ⟨a, b, c⟩
end Go.Proofs.YtjemjdlaoebffaaDoor

end
section
namespace Go.Proofs.YtjemjdlaoebffaaDoor
open Go.RowKit
/-- Where a job stands among the first k. -/
def posGo (p : List Nat) (a : Nat) : Nat → Nat
  | 0 => 0
  | k + 1 => if p.getD k 0 = a then k else posGo p a k
theorem posGo_le (p : List Nat) (a : Nat) : ∀ k, posGo p a k ≤ k
  | 0 => Nat.le_refl _
  | k + 1 => by
    show (if _ then _ else _) ≤ _
    split
    · omega
    · have := posGo_le p a k; omega
theorem posGo_at {p : List Nat} (hd : p.Nodup) {i : Nat} (hi : i < p.length) : ∀ k, i < k → k ≤ p.length → posGo p p[i] k = i
  | 0, h, _ => by omega
  | k + 1, h, hk => by
    show (if _ then _ else _) = _
    rw [getD_at p 0 (by omega : k < p.length)]
    by_cases e : i = k
    · subst e; rw [if_pos rfl]
    · rw [if_neg (fun h' => e ((List.getElem_inj hd (h₀ := hi) (h₁ := by omega)).1 h'.symm)), posGo_at hd hi k (by omega) (by omega)]
def extE (E : List Ed) (p : List Nat) (k : Nat) : Bool := (List.range k).all fun x => decide (posGo p (E.getD x (0, 0)).1.toNat p.length ≤ posGo p (E.getD x (0, 0)).2.toNat p.length)
theorem extE_succ (E : List Ed) (p : List Nat) (k : Nat) : extE E p (k + 1) = (extE E p k && decide (posGo p (E.getD k (0, 0)).1.toNat p.length ≤ posGo p (E.getD k (0, 0)).2.toNat p.length)) := by
  unfold extE; rw [List.range_succ, List.all_append]; simp
theorem extE_bad {E : List Ed} {p : List Nat} {k m : Nat} (h : k < m) (hk : ¬ posGo p (E.getD k (0, 0)).1.toNat p.length ≤ posGo p (E.getD k (0, 0)).2.toNat p.length) : extE E p m = false := by
  unfold extE; rw [List.all_eq_false]; exact ⟨k, List.mem_range.2 h, by rw [decide_eq_true_eq]; exact hk⟩
theorem ext_same {n : Nat} {E : List Ed} (hin : InE n E) (hirr : irrB n E n = true) {p : List Nat} (hp : p.Perm (List.range n)) (hE : ∀ k (h : k < E.length), ∃ a b : Nat, E[k] = ((a : Int), (b : Int)) ∧ a < n ∧ b < n) : extE E p E.length = extB n E p := by
  have hd := perm_nodup hp
  have hl : p.length = n := by simpa using hp.length_eq
  rw [Bool.eq_iff_iff, ext_edges hin hp]
  constructor
  · intro h a b he i j hi hj hia hjb
    obtain ⟨k, hk, e⟩ := List.mem_iff_getElem.1 (edB_iff.1 he)
    unfold extE at h
    have h1 := List.all_eq_true.1 h k (List.mem_range.2 hk)
    rw [decide_eq_true_eq, getD_at E (0, 0) hk, e] at h1
    simp only [Int.toNat_natCast] at h1
    rw [← hia, ← hjb, posGo_at hd hi _ hi (Nat.le_refl _), posGo_at hd hj _ hj (Nat.le_refl _)] at h1
    have hab : a ≠ b := fun e' => by
      subst e'
      have := irrB_bad (k := a) (m := n) (hin a a he).1 (tabTo_le E (Nat.zero_le n) he)
      rw [this] at hirr
      cases hirr
    have : i ≠ j := fun e' => by subst e'; exact hab (hia.symm.trans hjb)
    omega
  · intro h
    unfold extE
    refine List.all_eq_true.2 fun k hk => ?_
    have hk' := List.mem_range.1 hk
    obtain ⟨a, b, e, ha, hb⟩ := hE k hk'
    rw [decide_eq_true_eq, getD_at E (0, 0) hk', e]
    simp only [Int.toNat_natCast]
    obtain ⟨i, hi, hia⟩ := List.getElem_of_mem (perm_mem hp ha)
    obtain ⟨j, hj, hjb⟩ := List.getElem_of_mem (perm_mem hp hb)
    have := h a b (edB_iff.2 (by rw [← e]; exact List.getElem_mem hk')) i j hi hj hia hjb
    rw [← hia, ← hjb, posGo_at hd hi _ hi (Nat.le_refl _), posGo_at hd hj _ hj (Nat.le_refl _)]
    omega
/-- The set of the first k jobs of an order. -/
def setTo2 (p : List Nat) (k : Nat) : Nat := (p.take k).foldl addB 0
theorem setTo2_succ {p : List Nat} {k : Nat} (h : k < p.length) : setTo2 p (k + 1) = addB (setTo2 p k) p[k] := by
  unfold setTo2; rw [List.take_succ_eq_append_getElem h, List.foldl_append]; rfl
theorem foldl_add_bit : ∀ (l : List Nat) (s i : Nat), (l.foldl addB s).testBit i = (s.testBit i || l.contains i)
  | [], s, i => by simp
  | x :: l, s, i => by
    rw [List.foldl_cons, foldl_add_bit l, bit_add, List.contains_cons, Bool.or_assoc]
    congr 1
theorem foldl_add_lt : ∀ (l : List Nat) (s : Nat), s < 256 → (∀ x ∈ l, x < 8) → l.foldl addB s < 256
  | [], _, h, _ => h
  | x :: l, _, h, hl => foldl_add_lt l _ (add_lt h (hl x List.mem_cons_self)) fun y hy => hl y (List.mem_cons_of_mem _ hy)
def withinB (s t : Nat) : Bool := decide (minusB s t = 0)
theorem within_iff {s t : Nat} (hs : s < 256) : withinB s t = true ↔ ∀ i, s.testBit i = true → t.testBit i = true := by
  unfold withinB
  rw [decide_eq_true_iff]
  constructor
  · intro h i hi
    have := bit_minus hs t i
    rw [h, Nat.zero_testBit, hi, Bool.true_and] at this
    simpa using this.symm
  · intro h
    refine set_ext (minus_lt hs t) (by decide) fun i _ => ?_
    rw [bit_minus hs, Nat.zero_testBit]
    cases hi : s.testBit i
    · rfl
    · rw [h i hi]; rfl
theorem keeps_within {n : Nat} (hn : n ≤ 8) (E : List Ed) {p : List Nat} {k : Nat} (hk : k < p.length) : withinB (befN n (tabB n E) p[k]) (setTo2 p k) = keepsB n E p k := by
  rw [Bool.eq_iff_iff, within_iff (bef_lt hn _ _)]
  unfold keepsB
  rw [List.all_eq_true, getD_at p 0 hk]
  have hb : ∀ i, (setTo2 p k).testBit i = (p.take k).contains i := fun i => by unfold setTo2; rw [foldl_add_bit, Nat.zero_testBit, Bool.false_or]
  constructor
  · intro h i hi
    cases ht : tabB n E i p[k]
    · rfl
    · have := h i (by rw [bef_bit, decide_eq_true (List.mem_range.1 hi), ht]; rfl)
      rw [hb] at this
      rw [this]; rfl
  · intro h i hi
    rw [bef_bit, Bool.and_eq_true, decide_eq_true_eq] at hi
    have := h i (List.mem_range.2 hi.1)
    rw [hi.2] at this
    rw [hb]
    simpa using this
def extK (n : Nat) (E : List Ed) (p : List Nat) (k : Nat) : Bool := (List.range k).all (keepsB n E p)
theorem extK_succ (n : Nat) (E : List Ed) (p : List Nat) (k : Nat) : extK n E p (k + 1) = (extK n E p k && keepsB n E p k) := by unfold extK; rw [List.range_succ, List.all_append]; simp
theorem extK_bad {n : Nat} {E : List Ed} {p : List Nat} {k m : Nat} (h : k < m) (hk : keepsB n E p k = false) : extK n E p m = false := by
  unfold extK; rw [List.all_eq_false]; exact ⟨k, List.mem_range.2 h, by rw [hk]; simp⟩
theorem andNot_u64 {s t : Nat} (hs : s < 256) : bits BinOp.andNot IntKind.u64 (s : Int) (t : Int) = ((minusB s t : Nat) : Int) := by
  have h : (BitVec.ofInt 64 (s : Int) &&& ~~~ BitVec.ofInt 64 (t : Int)).toNat = minusB s t := by
    apply Nat.eq_of_testBit_eq
    intro i
    rw [bit_minus hs, BitVec.testBit_toNat, BitVec.getLsbD_and, BitVec.getLsbD_not, BitVec.ofInt_natCast, BitVec.ofInt_natCast, BitVec.getLsbD_ofNat, BitVec.getLsbD_ofNat]
    by_cases hi : i < 64
    · simp [hi]
    · have : s.testBit i = false := by
        cases hh : s.testBit i
        · rfl
        · have := lt_bit hs hh; omega
      simp [hi, this]
  show IntKind.u64.wrap ((BitVec.ofInt 64 (s : Int) &&& ~~~ BitVec.ofInt 64 (t : Int)).toNat : Int) = _
  rw [h, IntKind.wrap_u64]
  have := minus_lt hs t
  omega
end Go.Proofs.YtjemjdlaoebffaaDoor

end
section
namespace Go.Proofs.YtjemjdlaoebffaaDoor
open Go.RowKit
def isExtR (n : Int) (E : List Pr) (o : List Int) : Bool × Bool := if precB n E && ordB n o then (extB n.toNat E (natsOf o), true) else (false, false)
theorem isWithin_any (s t : Nat) (hs : s < 256) (w : World) :
    Calls Tryd.prog 156 #[.int .u64 (s : Int), .int .u64 (t : Int)] w fun e w' => e = .returned (.bool (withinB s t)) ∧ w = w' := by
  have h1 := andNot_u64 (t := t) hs
  have HW : Hid (withinB s t = decide (minusB s t = 0)) := rfl
  generalize minusB s t = r at *
  by_cases h : r = 0
  · subst h
    have e0 : (((0 : Nat) : Int) == 0) = true := rfl
    go_enter Tryd.func156, Tryd.ntmps156
    go_wp2
    go_ret
    exact ⟨by rw [HW.out]; rfl, rfl⟩
  · have e0 : ((r : Int) == 0) = false := by simp [h]
    have HZ : Hid (withinB s t = false) := by show _ = _; rw [HW.out, decide_eq_false h]
    clear h HW
    go_enter Tryd.func156, Tryd.ntmps156
    go_wp2
    go_ret
    exact ⟨by rw [HZ.out]; rfl, rfl⟩
section
variable (A C : Option Addr) (c d : Nat) (n : Int) (E : List Pr) (o : List Int) (w : World) (hr : Row w A (pc E)) (hq : Row w C (ic o)) (hl : E.length ≤ 10000000) (hm : o.length ≤ 10000000)
include hr hq hl hm
end
end Go.Proofs.YtjemjdlaoebffaaDoor

end
section
namespace Go.Proofs.YtjemjdlaoebffaaDoor
open Go.RowKit
theorem intAt0 {w : World} {g : Nat} {xs : List Int} (h : Row w (some ⟨g, 0, none⟩) (ic xs)) {k : Nat} (hk : k < xs.length) : w.cell? ⟨g, k, none⟩ = some (.int .i64 xs[k]) := by
  rw [h.cell0 (k := k) (by rw [ic_len]; exact hk)]
  unfold ic
  simp
def doneP (ends : List Int) (now : Int) (i : Nat) : Bool := decide (endAt ends i ≤ now)
set_option maxRecDepth 100000 in
set_option maxHeartbeats 2000000 in
theorem done_any (G gE cE : Nat) (ends : List Int) (now : Int) (w : World) (hG : w.cell? ⟨G, 12, none⟩ = some (.slice (some ⟨gE, 0, none⟩) ends.length cE)) (he : Row w (some ⟨gE, 0, none⟩) (ic ends)) (hn : ends.length ≤ 8) :
    Calls Tryd.prog 160 #[.pointer (some ⟨G, 0, none⟩), .int .i64 now] w fun e w' => e = .returned (.int .u64 (bitsN ends.length (doneP ends now) : Nat)) ∧ Below w.heap.size w w' := by
  have HBS := Lib.hid (bits_succ · (doneP ends now))
  have HBL : Hid (∀ k, k ≤ 8 → bitsN k (doneP ends now) < 256) := fun k hk => bits_lt hk _
  have HE := Lib.hid he
  have HDP : Hid (∀ k (hk : k < ends.length), doneP ends now k = decide (ends[k] ≤ now)) := fun k hk => by unfold doneP endAt; simp [hk]
  clear he
  go_enter Tryd.func160, Tryd.ntmps160
  go_wp2
  clear hG
  go_loopw [5, 13] (fun sv kv wr => ∃ k : Nat, k ≤ ends.length ∧ kv = .int .i64 (k : Int) ∧ sv = .int .u64 (bitsN k (doneP ends now) : Nat) ∧ Hid (Below w.heap.size w wr)) (fun _ kv _ => ends.length - (intOf kv).toNat)
  case atStart => exact ⟨0, Nat.zero_le _, rfl, rfl, Below.refl _ _⟩
  case round =>
    obtain ⟨k, hk, rfl, rfl, hb⟩ := hrel
    by_cases hlt : k < ends.length
    · have hc := intAt0 (HE.out.below hb.out) hlt
      have hd := HDP.out k hlt
      have hs := HBS.out k
      have hsl := HBL.out k (by omega)
      have hk0 : (0 : Int) ≤ k := by omega
      have hk1 : (k : Int) < ends.length := by omega
      rw [hd] at hs
      clear hd
      generalize bitsN k (doneP ends now) = sk at *
      generalize ends[k] = e at *
      by_cases he : e ≤ now
      · rw [decide_eq_true he, if_pos rfl] at hs
        have HR := Lib.hid hs
        clear hs
        go_wp2_with fail
        refine (with_any sk k hsl (by omega) _).mono ?_
        rintro e _ ⟨rfl, rfl⟩
        go_wp2
        go_roundw
        case rel => exact ⟨k + 1, by omega, by go_num, by rw [HR.out], hb.out⟩
        case measure => simp [intOf]; omega
      · rw [decide_eq_false he, if_neg (by decide)] at hs
        have HR := Lib.hid hs
        clear hs
        go_wp2
        go_roundw
        case rel => exact ⟨k + 1, by omega, by go_num, by rw [HR.out], hb.out⟩
        case measure => simp [intOf]; omega
    · obtain rfl : k = ends.length := by omega
      go_wp2
      go_ret
      exact ⟨rfl, hb.out⟩
def soonTo (ends : List Int) (now : Int) (k : Nat) : Int := (ends.take k).foldl (fun a e => if now < e then min a e else a) 1000
theorem soonTo_succ (es : List Int) (now : Int) {k : Nat} (hk : k < es.length) : soonTo es now (k + 1) = if now < es[k] then min (soonTo es now k) es[k] else soonTo es now k := by
  unfold soonTo
  rw [List.take_succ_eq_append_getElem hk, List.foldl_append]
  rfl
set_option maxRecDepth 100000 in
set_option maxHeartbeats 1000000 in
theorem nextEnd_any (G gE cE : Nat) (ends : List Int) (now : Int) (w : World) (hG : w.cell? ⟨G, 12, none⟩ = some (.slice (some ⟨gE, 0, none⟩) ends.length cE)) (he : Row w (some ⟨gE, 0, none⟩) (ic ends)) (hn : ends.length ≤ 8) :
    Calls Tryd.prog 109 #[.pointer (some ⟨G, 0, none⟩), .int .i64 now] w fun e w' => e = .returned (.int .i64 (soonL ends now)) ∧ w = w' := by
  have HS := Lib.hid (fun k (hk : k < ends.length) => soonTo_succ ends now hk)
  have HF : Hid (soonTo ends now ends.length = soonL ends now) := by show _ = _; unfold soonTo soonL; rw [List.take_length]
  have H0 : Hid (soonTo ends now 0 = 1000) := rfl
  have HE := Lib.hid he
  clear he
  go_enter Tryd.func109, Tryd.ntmps109
  go_wp2
  clear hG
  go_loop [5, 13] (fun ov iv => ∃ k : Nat, k ≤ ends.length ∧ iv = .int .i64 (k : Int) ∧ ov = .int .i64 (soonTo ends now k)) (fun _ iv => ends.length - (intOf iv).toNat)
  case atStart => exact ⟨0, Nat.zero_le _, rfl, by rw [H0.out]⟩
  case round =>
    obtain ⟨k, hk, rfl, rfl⟩ := hrel
    by_cases hlt : k < ends.length
    · have hc := intAt0 HE.out hlt
      have hs := HS.out k hlt
      have hk0 : (0 : Int) ≤ k := by omega
      have hk1 : (k : Int) < ends.length := by omega
      generalize soonTo ends now k = a at *
      generalize ends[k] = e at *
      by_cases h1 : now < e
      · rw [if_pos h1] at hs
        by_cases h2 : e < a
        · have hs2 : soonTo ends now (k + 1) = e := by rw [hs]; omega
          have HR := Lib.hid hs2
          clear hs hs2
          go_wp2
          go_round
          case rel => exact ⟨k + 1, by omega, by go_num, by rw [HR.out]; first | done | exact congrArg (Value.int .i64) (by omega)⟩
          case measure => simp [intOf]; omega
        · have hs2 : soonTo ends now (k + 1) = a := by rw [hs]; omega
          have HR := Lib.hid hs2
          clear hs hs2
          go_wp2
          go_round
          case rel => exact ⟨k + 1, by omega, by go_num, by rw [HR.out]; first | done | exact congrArg (Value.int .i64) (by omega)⟩
          case measure => simp [intOf]; omega
      · rw [if_neg h1] at hs
        have HR := Lib.hid hs
        clear hs
        go_wp2
        go_round
        case rel => exact ⟨k + 1, by omega, by go_num, by rw [HR.out]; first | done | exact congrArg (Value.int .i64) (by omega)⟩
        case measure => simp [intOf]; omega
    · obtain rfl : k = ends.length := by omega
      go_wp2
      go_ret
      exact ⟨by rw [HF.out]; rfl, rfl⟩
set_option maxRecDepth 100000 in
set_option maxHeartbeats 1000000 in
theorem canStart_any (G b0 b1 bj dn j : Nat) (hb : bj < 256) (w : World) (h0 : w.cell? ⟨b0, 0, none⟩ = some (.pointer (some ⟨G, 0, none⟩))) (h1 : w.cell? ⟨b1, 0, none⟩ = some (.int .u64 (dn : Int))) (hj : j < 8) (hG : w.cell? ⟨G, 2 + j, none⟩ = some (.int .u64 (bj : Int))) :
    Calls Tryd.prog 161 #[.int .i64 (j : Int), .pointer (some ⟨b0, 0, none⟩), .pointer (some ⟨b1, 0, none⟩)] w fun e w' => e = .returned (.bool (withinB bj dn)) ∧ Below w.heap.size w w' := by
  have HC := Lib.hid (fun W => isWithin_any bj dn hb W)
  have hj0 : (0 : Int) ≤ j := by omega
  have hj1 : (j : Int) < 8 := by omega
  go_enter Tryd.func161, Tryd.ntmps161
  go_wp2
  go_quiet ((go_at_call 156; first | exact quiet_same (HC.out _) | exact Calls.quiet_of ((HC.out _).mono fun _ _ h => ⟨h.1, 0, h.2.symm⟩)))
  go_wp2
  go_ret
  exact ⟨rfl, below_drewN (Below.refl _ _) _⟩
end Go.Proofs.YtjemjdlaoebffaaDoor

end
