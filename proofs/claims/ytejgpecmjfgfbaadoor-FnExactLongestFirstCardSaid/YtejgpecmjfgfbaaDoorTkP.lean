/- Plans on machines, plain: a list of tasks, what they clash in, the ends and the length. -/
import Derived.Test.YtejgpecmjfgfbaaDoorSpP
import Derived.Test.YtejgpecmjfgfbaaDoorPrecP
import Derived.Test.YtejgpecmjfgfbaaDoorGroP
namespace Go.Proofs.YtejgpecmjfgfbaaDoor
def tkAt (ss : List Sp) (i : Nat) : Sp := ss.getD i sp0
def jAt (js : List J) (i : Nat) : Int := (js.getD i j0).t
def tkOk (m : Int) (k : Nat) (s : Sp) : Bool := decide (s.j = (k : Int) ∧ 0 ≤ s.f ∧ s.f < m ∧ 0 ≤ s.t ∧ s.t ≤ 500)
def tksB (n : Nat) (m : Int) (ss : List Sp) : Bool := decide (ss.length = n) && (List.range n).all fun k => tkOk m k (tkAt ss k)
/-- The first of a pair of jobs is not over when the second begins. -/
def runsB (js : List J) (ss : List Sp) (i k : Nat) : Bool := decide ((tkAt ss k).t < (tkAt ss i).t + jAt js i)
def clash (js : List J) (T : Nat → Nat → Bool) (ss : List Sp) (i k : Nat) : Bool :=
  (T i k && runsB js ss i k) || (decide (i < k) && (decide ((tkAt ss i).f = (tkAt ss k).f) && (runsB js ss i k && runsB js ss k i)))
def planB (js : List J) (m : Int) (T : Nat → Nat → Bool) (ss : List Sp) : Bool :=
  tksB js.length m ss && (List.range js.length).all fun i => (List.range js.length).all fun k => !clash js T ss i k
/-- As the program asks it, of a job and one before it. -/
def clash2 (js : List J) (T : Nat → Nat → Bool) (ss : List Sp) (i j : Nat) : Bool :=
  (decide ((tkAt ss i).f = (tkAt ss j).f) && (runsB js ss j i && runsB js ss i j)) || ((T i j && runsB js ss i j) || (T j i && runsB js ss j i))
theorem clash2_eq (js : List J) (T : Nat → Nat → Bool) (ss : List Sp) {i j : Nat} (h : j < i) : clash2 js T ss i j = (clash js T ss i j || clash js T ss j i) := by
  unfold clash2 clash
  have h1 : decide (i < j) = false := decide_eq_false (by omega)
  have h2 : decide (j < i) = true := decide_eq_true h
  have h3 : decide ((tkAt ss i).f = (tkAt ss j).f) = decide ((tkAt ss j).f = (tkAt ss i).f) := by
    by_cases e : (tkAt ss i).f = (tkAt ss j).f
    · rw [decide_eq_true e, decide_eq_true e.symm]
    · rw [decide_eq_false e, decide_eq_false (fun q => e q.symm)]
  rw [h1, h2, h3]
  cases T i j <;> cases T j i <;> cases runsB js ss i j <;> cases runsB js ss j i <;> cases decide ((tkAt ss j).f = (tkAt ss i).f) <;> rfl
theorem tks_no_len {n : Nat} {m : Int} {ss : List Sp} (h : ¬ ss.length = n) : tksB n m ss = false := by unfold tksB; rw [decide_eq_false h]; rfl
theorem tks_bad {n : Nat} {m : Int} {ss : List Sp} {k : Nat} (hk : k < n) (h : tkOk m k (tkAt ss k) = false) : tksB n m ss = false := by
  unfold tksB
  rw [List.all_eq_false.2 ⟨k, List.mem_range.2 hk, by rw [h]; decide⟩, Bool.and_false]
theorem tks_good {n : Nat} {m : Int} {ss : List Sp} (hl : ss.length = n) (h : ∀ k, k < n → tkOk m k (tkAt ss k) = true) : tksB n m ss = true := by
  unfold tksB
  rw [decide_eq_true hl, List.all_eq_true.2 (fun k hk => h k (List.mem_range.1 hk))]; rfl
theorem tks_out {n : Nat} {m : Int} {ss : List Sp} (h : tksB n m ss = true) : ss.length = n ∧ ∀ k, k < n → tkOk m k (tkAt ss k) = true := by
  unfold tksB at h
  rw [Bool.and_eq_true] at h
  exact ⟨of_decide_eq_true h.1, fun k hk => List.all_eq_true.1 h.2 k (List.mem_range.2 hk)⟩
theorem tkOk_out {m : Int} {k : Nat} {s : Sp} (h : tkOk m k s = true) : s.j = (k : Int) ∧ 0 ≤ s.f ∧ s.f < m ∧ 0 ≤ s.t ∧ s.t ≤ 500 := of_decide_eq_true h
theorem plan_no {js : List J} {m : Int} {T : Nat → Nat → Bool} {ss : List Sp} (h : tksB js.length m ss = false) : planB js m T ss = false := by unfold planB; rw [h]; rfl
theorem plan_bad {js : List J} {m : Int} {T : Nat → Nat → Bool} {ss : List Sp} {i k : Nat} (hi : i < js.length) (hk : k < js.length) (h : clash js T ss i k = true) : planB js m T ss = false := by
  unfold planB
  rw [List.all_eq_false.2 ⟨i, List.mem_range.2 hi, by rw [List.all_eq_false.2 ⟨k, List.mem_range.2 hk, by rw [h]; decide⟩]; decide⟩, Bool.and_false]
theorem plan_good {js : List J} {m : Int} {T : Nat → Nat → Bool} {ss : List Sp} (ht : tksB js.length m ss = true) (h : ∀ i, i < js.length → ∀ k, k < js.length → clash js T ss i k = false) : planB js m T ss = true := by
  unfold planB
  rw [ht, Bool.true_and]
  exact List.all_eq_true.2 fun i hi => List.all_eq_true.2 fun k hk => by rw [h i (List.mem_range.1 hi) k (List.mem_range.1 hk)]; rfl
theorem plan_out {js : List J} {m : Int} {T : Nat → Nat → Bool} {ss : List Sp} (h : planB js m T ss = true) : tksB js.length m ss = true := by
  unfold planB at h; rw [Bool.and_eq_true] at h; exact h.1
theorem plan_bad2 {js : List J} {m : Int} {T : Nat → Nat → Bool} {ss : List Sp} {i j : Nat} (hi : i < js.length) (hj : j < i) (h : clash2 js T ss i j = true) : planB js m T ss = false := by
  rw [clash2_eq js T ss hj, Bool.or_eq_true] at h
  rcases h with h | h
  · exact plan_bad hi (by omega) h
  · exact plan_bad (by omega) hi h
theorem plan_good2 {js : List J} {m : Int} {T : Nat → Nat → Bool} {ss : List Sp} (ht : tksB js.length m ss = true) (hirr : ∀ i, i < js.length → T i i = false) (h : ∀ i, i < js.length → ∀ j, j < i → clash2 js T ss i j = false) : planB js m T ss = true := by
  refine plan_good ht fun i hi k hk => ?_
  rcases Nat.lt_trichotomy i k with hik | hik | hik
  · have := h k hk i hik
    rw [clash2_eq js T ss hik, Bool.or_eq_false_iff] at this
    exact this.2
  · subst hik
    unfold clash
    rw [hirr i hi, decide_eq_false (Nat.lt_irrefl i)]; rfl
  · have := h i hi k hik
    rw [clash2_eq js T ss hik, Bool.or_eq_false_iff] at this
    exact this.1
theorem irr_at {n : Nat} {E : List Ed} (h : irrB n E n = true) : ∀ i, i < n → tabB n E i i = false := fun i hi => by
  have := List.all_eq_true.1 h i (List.mem_range.2 hi)
  simpa using this
def endsT (js : List J) (ss : List Sp) : List Int := (List.range js.length).map fun i => (tkAt ss i).t + jAt js i
theorem endsT_len (js : List J) (ss : List Sp) : (endsT js ss).length = js.length := by unfold endsT; simp
theorem endsT_at (js : List J) (ss : List Sp) (i : Nat) (h : i < (endsT js ss).length) : (endsT js ss)[i] = (tkAt ss i).t + jAt js i := by simp [endsT]
end Go.Proofs.YtejgpecmjfgfbaaDoor
