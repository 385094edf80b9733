/- List plans in plain words: machines that are free take the first job of an order that can start. -/
import Derived.Test.YtejgpecmjfgfbaaDoorTlP
import Derived.Test.YtejgpecmjfgfbaaDoorTkP
namespace Go.Proofs.YtejgpecmjfgfbaaDoor
def endAt (ends : List Int) (k : Nat) : Int := ends.getD k 1000
def canS (n : Nat) (T : Nat → Nat → Bool) (ends : List Int) (now : Int) (j : Nat) : Bool := (List.range n).all fun k => !(T k j) || decide (endAt ends k ≤ now)
structure LsS where
  free : List Int
  ends : List Int
  plan : List Sp
def leftL (ord : List Nat) (ends : List Int) : List Nat := ord.filter fun j => decide (endAt ends j = 1000)
def pickJ (n : Nat) (T : Nat → Nat → Bool) (ord : List Nat) (ends : List Int) (now : Int) : Option Nat := (leftL ord ends).find? (canS n T ends now)
def assignL (js : List J) (s : LsS) (now : Int) (k j : Nat) : LsS := ⟨s.free.set k (now + jAt js j), s.ends.set j (now + jAt js j), s.plan.set j ⟨(j : Int), (k : Int), now⟩⟩
def stepL (js : List J) (T : Nat → Nat → Bool) (ord : List Nat) (now : Int) (s : LsS) (k : Nat) : LsS :=
  if s.free.getD k 0 ≤ now then (match pickJ js.length T ord s.ends now with | none => s | some j => assignL js s now k j) else s
def startTo (js : List J) (T : Nat → Nat → Bool) (ord : List Nat) (now : Int) (s : LsS) (k : Nat) : LsS := (List.range k).foldl (stepL js T ord now) s
theorem startTo_succ (js : List J) (T : Nat → Nat → Bool) (ord : List Nat) (now : Int) (s : LsS) (k : Nat) : startTo js T ord now s (k + 1) = stepL js T ord now (startTo js T ord now s k) k := by
  unfold startTo; rw [List.range_succ, List.foldl_append]; rfl
def soonL (ends : List Int) (now : Int) : Int := ends.foldl (fun a e => if now < e then min a e else a) 1000
def runL (js : List J) (T : Nat → Nat → Bool) (ord : List Nat) (m : Nat) : Nat → Int → LsS → List Sp
  | 0, _, s => s.plan
  | f + 1, now, s => if leftL ord s.ends = [] then s.plan else runL js T ord m f (soonL (startTo js T ord now s m).ends now) (startTo js T ord now s m)
def initL (n m : Nat) : LsS := ⟨List.replicate m 0, List.replicate n 1000, List.replicate n ⟨0, 0, 0⟩⟩
def listL (js : List J) (T : Nat → Nat → Bool) (ord : List Nat) (m : Nat) : List Sp := runL js T ord m 1001 0 (initL js.length m)
/-- The sum of the Times of the jobs that have started. -/
def sumS (js : List J) (ends : List Int) : Nat → Int
  | 0 => 0
  | k + 1 => sumS js ends k + if endAt ends k = 1000 then 0 else jAt js k
/-- What holds of a state at a time. -/
structure OkL (js : List J) (m : Nat) (now : Int) (s : LsS) : Prop where
  lf : s.free.length = m
  le : s.ends.length = js.length
  lp : s.plan.length = js.length
  n0 : 0 ≤ now
  n1 : now ≤ sumS js s.ends js.length
  en : ∀ k, k < js.length → endAt s.ends k = 1000 ∨ (0 < endAt s.ends k ∧ endAt s.ends k ≤ sumS js s.ends js.length)
  fr : ∀ k, k < m → s.free.getD k 0 = 0 ∨ ∃ j, j < js.length ∧ endAt s.ends j = s.free.getD k 0 ∧ endAt s.ends j ≠ 1000
theorem jAt_bd {js : List J} (hok : ∀ j ∈ js, okJ j = true) {k : Nat} (hk : k < js.length) : 1 ≤ jAt js k ∧ jAt js k ≤ 50 := by
  unfold jAt
  rw [getD_at js j0 hk]
  have := okJ_out (hok _ (List.getElem_mem hk))
  omega
theorem sumS_bd {js : List J} (hok : ∀ j ∈ js, okJ j = true) (ends : List Int) : ∀ k, k ≤ js.length → 0 ≤ sumS js ends k ∧ sumS js ends k ≤ 50 * (k : Int)
  | 0, _ => by simp [sumS]
  | k + 1, hk => by
    have h := sumS_bd hok ends k (by omega)
    have hj := jAt_bd hok (show k < js.length by omega)
    unfold sumS
    split <;> omega
theorem endAt_set {ends : List Int} {j k : Nat} {e : Int} (hj : j < ends.length) : endAt (ends.set j e) k = if j = k then e else endAt ends k := by
  unfold endAt
  simp only [List.getD_eq_getElem?_getD, List.getElem?_set]
  by_cases h : j = k
  · subst h; simp [hj]
  · simp [h]
theorem sumS_set {js : List J} {ends : List Int} {j : Nat} {e : Int} (hj : j < ends.length) (h0 : endAt ends j = 1000) (he : e ≠ 1000) : ∀ k, sumS js (ends.set j e) k = sumS js ends k + if j < k then jAt js j else 0
  | 0 => by simp [sumS]
  | k + 1 => by
    have ih := sumS_set (js := js) hj h0 he k
    unfold sumS
    rw [ih, endAt_set hj]
    by_cases h : j = k
    · subst h
      rw [if_pos rfl, if_neg he, if_pos h0, if_neg (by omega), if_pos (by omega)]
    · rw [if_neg h]
      generalize (if endAt ends k = 1000 then (0 : Int) else jAt js k) = x
      by_cases h2 : j < k
      · rw [if_pos h2, if_pos (by omega)]; omega
      · rw [if_neg h2, if_neg (by omega)]; omega
theorem left_lt {ord : List Nat} {ends : List Int} {n : Nat} (ho : ∀ j ∈ ord, j < n) {j : Nat} (h : j ∈ leftL ord ends) : j < n ∧ endAt ends j = 1000 := by
  unfold leftL at h
  rw [List.mem_filter, decide_eq_true_eq] at h
  exact ⟨ho j h.1, h.2⟩
theorem pick_out {n : Nat} {T : Nat → Nat → Bool} {ord : List Nat} {ends : List Int} {now : Int} {j : Nat} (ho : ∀ j ∈ ord, j < n) (h : pickJ n T ord ends now = some j) : j < n ∧ endAt ends j = 1000 ∧ canS n T ends now j = true := by
  unfold pickJ at h
  have h1 := left_lt ho (List.mem_of_find?_eq_some h)
  exact ⟨h1.1, h1.2, List.find?_some h⟩
section
variable {js : List J} {T : Nat → Nat → Bool} {ord : List Nat} {m : Nat} {now : Int} {s : LsS}
theorem OkL.bd (h : OkL js m now s) (hok : ∀ j ∈ js, okJ j = true) (h8 : js.length ≤ 8) : now ≤ 400 ∧ sumS js s.ends js.length ≤ 400 := by
  have := sumS_bd hok s.ends js.length (Nat.le_refl _)
  have := h.n1
  omega
theorem OkL.assign (h : OkL js m now s) (hok : ∀ j ∈ js, okJ j = true) (h8 : js.length ≤ 8) {k j : Nat} (hk : k < m) (hj : j < js.length) (h0 : endAt s.ends j = 1000) : OkL js m now (assignL js s now k j) := by
  have hb := h.bd hok h8
  have hjt := jAt_bd hok hj
  have hle : j < s.ends.length := by rw [h.le]; exact hj
  have hn0 := h.n0
  have hs := sumS_set (js := js) hle h0 (e := now + jAt js j) (by omega) js.length
  rw [if_pos hj] at hs
  have hn1 := h.n1
  refine ⟨by simp [assignL, h.lf], by simp [assignL, h.le], by simp [assignL, h.lp], hn0, ?_, fun i hi => ?_, fun i hi => ?_⟩
  · show now ≤ sumS js (s.ends.set j (now + jAt js j)) js.length
    omega
  · show endAt (s.ends.set j (now + jAt js j)) i = 1000 ∨ (0 < endAt (s.ends.set j (now + jAt js j)) i ∧ endAt (s.ends.set j (now + jAt js j)) i ≤ sumS js (s.ends.set j (now + jAt js j)) js.length)
    rw [endAt_set hle, hs]
    by_cases e : j = i
    · rw [if_pos e]; omega
    · rw [if_neg e]
      have := h.en i hi
      omega
  · show (s.free.set k (now + jAt js j)).getD i 0 = 0 ∨ ∃ q, q < js.length ∧ endAt (s.ends.set j (now + jAt js j)) q = (s.free.set k (now + jAt js j)).getD i 0 ∧ endAt (s.ends.set j (now + jAt js j)) q ≠ 1000
    have hfs : (s.free.set k (now + jAt js j)).getD i 0 = if k = i then now + jAt js j else s.free.getD i 0 := by
      simp only [List.getD_eq_getElem?_getD, List.getElem?_set]
      by_cases e : k = i
      · subst e; simp [h.lf, hk]
      · simp [e]
    rw [hfs]
    by_cases e : k = i
    · rw [if_pos e]
      refine .inr ⟨j, hj, ?_, ?_⟩
      · rw [endAt_set hle, if_pos rfl]
      · rw [endAt_set hle, if_pos rfl]; omega
    · rw [if_neg e]
      rcases h.fr i hi with h1 | ⟨q, hq, h2, h3⟩
      · exact .inl h1
      · refine .inr ⟨q, hq, ?_, ?_⟩
        · rw [endAt_set hle, if_neg (fun x => by subst x; exact h3 h0)]; exact h2
        · rw [endAt_set hle, if_neg (fun x => by subst x; exact h3 h0)]; exact h3
theorem OkL.step (h : OkL js m now s) (hok : ∀ j ∈ js, okJ j = true) (h8 : js.length ≤ 8) (ho : ∀ j ∈ ord, j < js.length) {k : Nat} (hk : k < m) : OkL js m now (stepL js T ord now s k) := by
  unfold stepL
  split
  · cases hp : pickJ js.length T ord s.ends now with
    | none => exact h
    | some j =>
      have := pick_out ho hp
      exact h.assign hok h8 hk this.1 this.2.1
  · exact h
theorem OkL.start (h : OkL js m now s) (hok : ∀ j ∈ js, okJ j = true) (h8 : js.length ≤ 8) (ho : ∀ j ∈ ord, j < js.length) : ∀ k, k ≤ m → OkL js m now (startTo js T ord now s k)
  | 0, _ => h
  | k + 1, hk => by
    rw [startTo_succ]
    exact (OkL.start h hok h8 ho k (by omega)).step hok h8 ho (by omega)
/-- Which jobs have ended does not change while jobs start. -/
theorem done_assign (h : OkL js m now s) (hok : ∀ j ∈ js, okJ j = true) (h8 : js.length ≤ 8) {k j : Nat} (hj : j < js.length) (h0 : endAt s.ends j = 1000) (i : Nat) : (endAt (assignL js s now k j).ends i ≤ now) ↔ (endAt s.ends i ≤ now) := by
  have hb := h.bd hok h8
  have hjt := jAt_bd hok hj
  show endAt (s.ends.set j (now + jAt js j)) i ≤ now ↔ _
  rw [endAt_set (by rw [h.le]; exact hj)]
  by_cases e : j = i
  · subst e; rw [if_pos rfl]; omega
  · rw [if_neg e]
theorem done_step (h : OkL js m now s) (hok : ∀ j ∈ js, okJ j = true) (h8 : js.length ≤ 8) (ho : ∀ j ∈ ord, j < js.length) (k i : Nat) : (endAt (stepL js T ord now s k).ends i ≤ now) ↔ (endAt s.ends i ≤ now) := by
  unfold stepL
  split
  · cases hp : pickJ js.length T ord s.ends now with
    | none => exact Iff.rfl
    | some j =>
      have := pick_out ho hp
      exact done_assign h hok h8 this.1 this.2.1 i
  · exact Iff.rfl
theorem done_start (h : OkL js m now s) (hok : ∀ j ∈ js, okJ j = true) (h8 : js.length ≤ 8) (ho : ∀ j ∈ ord, j < js.length) (i : Nat) : ∀ k, k ≤ m → ((endAt (startTo js T ord now s k).ends i ≤ now) ↔ (endAt s.ends i ≤ now))
  | 0, _ => Iff.rfl
  | k + 1, hk => by
    rw [startTo_succ]
    exact (done_step (h.start hok h8 ho k (by omega)) hok h8 ho k i).trans (done_start h hok h8 ho i k (by omega))
theorem canS_congr {n : Nat} {e1 e2 : List Int} (h : ∀ i, (endAt e1 i ≤ now) ↔ (endAt e2 i ≤ now)) (j : Nat) : canS n T e1 now j = canS n T e2 now j := by
  unfold canS
  congr 1
  funext k
  rw [decide_eq_decide.2 (h k)]
/-- Once no job can start, none does. -/
theorem start_stuck {k : Nat} (h : pickJ js.length T ord (startTo js T ord now s k).ends now = none) : ∀ d, startTo js T ord now s (k + d) = startTo js T ord now s k
  | 0 => rfl
  | d + 1 => by
    rw [show k + (d + 1) = (k + d) + 1 by omega, startTo_succ, start_stuck h d]
    unfold stepL
    rw [h]
    split <;> rfl
theorem stuck_all {k : Nat} (hk : k ≤ m) (h : pickJ js.length T ord (startTo js T ord now s k).ends now = none) : startTo js T ord now s m = startTo js T ord now s k := by
  have := start_stuck h (m - k)
  rwa [show k + (m - k) = m by omega] at this
/-- A job is being done at a time. -/
def runsAt (js : List J) (ends : List Int) (now : Int) : Prop := ∃ k, k < js.length ∧ now < endAt ends k ∧ endAt ends k ≠ 1000
theorem runs_step (h : OkL js m now s) (ho : ∀ j ∈ ord, j < js.length) {k : Nat} (hr : runsAt js s.ends now) : runsAt js (stepL js T ord now s k).ends now := by
  unfold stepL
  split
  · cases hp : pickJ js.length T ord s.ends now with
    | none => exact hr
    | some j =>
      have hj := pick_out ho hp
      obtain ⟨i, hi, h1, h2⟩ := hr
      have hij : ¬ j = i := fun e => by subst e; exact h2 hj.2.1
      refine ⟨i, hi, ?_, ?_⟩
      · show now < endAt (s.ends.set j _) i
        rw [endAt_set (by rw [h.le]; exact hj.1), if_neg hij]; exact h1
      · show endAt (s.ends.set j _) i ≠ 1000
        rw [endAt_set (by rw [h.le]; exact hj.1), if_neg hij]; exact h2
  · exact hr
theorem runs_start (h : OkL js m now s) (hok : ∀ j ∈ js, okJ j = true) (h8 : js.length ≤ 8) (ho : ∀ j ∈ ord, j < js.length) {a : Nat} (hr : runsAt js (startTo js T ord now s a).ends now) : ∀ d, a + d ≤ m → runsAt js (startTo js T ord now s (a + d)).ends now
  | 0, _ => hr
  | d + 1, hd => by
    rw [show a + (d + 1) = (a + d) + 1 by omega, startTo_succ]
    exact runs_step (h.start hok h8 ho (a + d) (by omega)) ho (runs_start h hok h8 ho hr d (by omega))
end
/-- Of jobs that have not started, one has nothing before it that has not. -/
theorem least_left {n : Nat} {E : List Ed} (hirr : irrB n E n = true) {p : Nat → Bool} : ∀ (f : Nat) (j : Nat), n - cntS n (tabB n E) j < f → j < n → p j = true → ∃ i, i < n ∧ p i = true ∧ ∀ k, k < n → tabB n E k i = true → p k = false
  | 0, _, h, _, _ => by omega
  | f + 1, j, h, hj, hp => by
    by_cases hx : ∃ k, k < n ∧ tabB n E k j = true ∧ p k = true
    · obtain ⟨k, hk, hT, hpk⟩ := hx
      have h1 := cntS_lt hirr hj hT
      have h2 := cntS_le n (tabB n E) k
      exact least_left hirr f k (by omega) hk hpk
    · refine ⟨j, hj, hp, fun k hk hT => ?_⟩
      cases hpk : p k
      · rfl
      · exact absurd ⟨k, hk, hT, hpk⟩ hx
/-- While jobs are left, one is being done behind the start. -/
theorem runs_after {js : List J} {E : List Ed} {ord : List Nat} {m : Nat} {now : Int} {s : LsS} (h : OkL js m now s) (hok : ∀ j ∈ js, okJ j = true) (h8 : js.length ≤ 8) (ho : ∀ j ∈ ord, j < js.length) (hall : ∀ j, j < js.length → j ∈ ord) (hirr : irrB js.length E js.length = true) (hm : 0 < m) (hl : leftL ord s.ends ≠ []) :
    runsAt js (startTo js (tabB js.length E) ord now s m).ends now := by
  by_cases hr : runsAt js s.ends now
  · have := runs_start (T := tabB js.length E) (a := 0) h hok h8 ho hr m (by omega)
    rwa [Nat.zero_add] at this
  · obtain ⟨j, hj⟩ := List.exists_mem_of_ne_nil _ hl
    have hj2 := left_lt ho hj
    obtain ⟨i, hi, hpi, hmin⟩ := least_left hirr (p := fun j => decide (endAt s.ends j = 1000)) (js.length + 1) j (by omega) hj2.1 (by simpa using hj2.2)
    have hpi' : endAt s.ends i = 1000 := by simpa using hpi
    have hcan : canS js.length (tabB js.length E) s.ends now i = true := by
      unfold canS
      rw [List.all_eq_true]
      intro k hk
      rw [List.mem_range] at hk
      cases hT : tabB js.length E k i
      · rfl
      · have h1 := hmin k hk hT
        have h1' : ¬ endAt s.ends k = 1000 := by simpa using h1
        have h2 : ¬ now < endAt s.ends k := fun h2 => hr ⟨k, hk, h2, h1'⟩
        simp; omega
    have hf : s.free.getD 0 0 ≤ now := by
      have hn := h.n0
      rcases h.fr 0 hm with h1 | ⟨q, hq, h2, h3⟩
      · omega
      · have : ¬ now < endAt s.ends q := fun h4 => hr ⟨q, hq, h4, h3⟩
        omega
    have hex : ∃ q, pickJ js.length (tabB js.length E) ord s.ends now = some q := by
      cases hp : pickJ js.length (tabB js.length E) ord s.ends now with
      | some q => exact ⟨q, rfl⟩
      | none =>
        unfold pickJ at hp
        rw [List.find?_eq_none] at hp
        exact absurd hcan (hp i (by unfold leftL; rw [List.mem_filter]; exact ⟨hall i hi, hpi⟩))
    obtain ⟨q, hq⟩ := hex
    have hq2 := pick_out ho hq
    have hs1 : startTo js (tabB js.length E) ord now s 1 = assignL js s now 0 q := by
      rw [startTo_succ]
      show stepL js _ ord now s 0 = _
      unfold stepL
      rw [if_pos hf, hq]
    have hjt := jAt_bd hok hq2.1
    have hb := h.bd hok h8
    have hr1 : runsAt js (startTo js (tabB js.length E) ord now s 1).ends now := by
      rw [hs1]
      refine ⟨q, hq2.1, ?_, ?_⟩
      · show now < endAt (s.ends.set q _) q
        rw [endAt_set (by rw [h.le]; exact hq2.1), if_pos rfl]; omega
      · show endAt (s.ends.set q _) q ≠ 1000
        rw [endAt_set (by rw [h.le]; exact hq2.1), if_pos rfl]; omega
    have := runs_start (T := tabB js.length E) (a := 1) h hok h8 ho hr1 (m - 1) (by omega)
    rwa [show 1 + (m - 1) = m by omega] at this
theorem soon_go (now : Int) : ∀ (es : List Int) (a : Int), (es.foldl (fun a e => if now < e then min a e else a) a = a ∨ (es.foldl (fun a e => if now < e then min a e else a) a ∈ es ∧ now < es.foldl (fun a e => if now < e then min a e else a) a)) ∧ es.foldl (fun a e => if now < e then min a e else a) a ≤ a ∧ ∀ e ∈ es, now < e → es.foldl (fun a e => if now < e then min a e else a) a ≤ e
  | [], a => ⟨.inl rfl, Int.le_refl _, by simp⟩
  | e :: es, a => by
    have ih := soon_go now es (if now < e then min a e else a)
    rw [List.foldl_cons]
    generalize es.foldl (fun a e => if now < e then min a e else a) (if now < e then min a e else a) = r at ih ⊢
    obtain ⟨h1, h2, h3⟩ := ih
    refine ⟨?_, ?_, ?_⟩
    · rcases h1 with h1 | ⟨h1, h4⟩
      · by_cases hn : now < e
        · rw [if_pos hn] at h1
          by_cases ha : a ≤ e
          · left; rw [h1]; omega
          · right
            have : r = e := by rw [h1]; omega
            subst this
            exact ⟨List.mem_cons_self, hn⟩
        · rw [if_neg hn] at h1; exact .inl h1
      · exact .inr ⟨List.mem_cons_of_mem _ h1, h4⟩
    · split at h2 <;> omega
    · intro x hx hn
      rcases List.mem_cons.1 hx with rfl | hx
      · rw [if_pos hn] at h2; omega
      · exact h3 x hx hn
theorem mem_endAt {ends : List Int} {e : Int} (h : e ∈ ends) : ∃ k, k < ends.length ∧ endAt ends k = e := by
  obtain ⟨k, hk, rfl⟩ := List.getElem_of_mem h
  exact ⟨k, hk, by unfold endAt; simp [hk]⟩
theorem endAt_mem {ends : List Int} {k : Nat} (h : k < ends.length) : endAt ends k ∈ ends := by
  unfold endAt; simp [h]
/-- The next time is behind this one, and a job ends then. -/
theorem soon_out {js : List J} {m : Nat} {now : Int} {s : LsS} (h : OkL js m now s) (hok : ∀ j ∈ js, okJ j = true) (h8 : js.length ≤ 8) (hr : runsAt js s.ends now) : now < soonL s.ends now ∧ OkL js m (soonL s.ends now) s := by
  obtain ⟨h1, h2, h3⟩ := soon_go now s.ends 1000
  change (soonL s.ends now = 1000 ∨ (soonL s.ends now ∈ s.ends ∧ now < soonL s.ends now)) at h1
  change soonL s.ends now ≤ 1000 at h2
  change ∀ e ∈ s.ends, now < e → soonL s.ends now ≤ e at h3
  obtain ⟨k, hk, hk1, hk2⟩ := hr
  have h4 := h3 _ (endAt_mem (by rw [h.le]; exact hk)) hk1
  have h5 := h.en k hk
  have hb := h.bd hok h8
  have hn0 := h.n0
  rcases h1 with h1 | ⟨h1, h6⟩
  · omega
  · refine ⟨h6, h.lf, h.le, h.lp, by omega, ?_, h.en, h.fr⟩
    omega
/-- The model tells jobs that have not started by -1. -/
def endM (e : Int) : Int := if e = 1000 then -1 else e
def soonM (ends : List Int) (now : Int) : Int := ends.foldl (fun a e => if now < e ∧ (a < 0 ∨ e < a) then e else a) (-1)
theorem soonM_go (now : Int) (hn : 0 ≤ now ∧ now < 1000) : ∀ (es : List Int) (a : Int), (∀ e ∈ es, e = 1000 ∨ (0 < e ∧ e < 1000)) → (a = 1000 ∨ (0 < a ∧ a < 1000)) → (es.map endM).foldl (fun a e => if now < e ∧ (a < 0 ∨ e < a) then e else a) (endM a) = endM (es.foldl (fun a e => if now < e then min a e else a) a)
  | [], _, _, _ => rfl
  | e :: es, a, he, ha => by
    have h1 := he e List.mem_cons_self
    rw [List.map_cons, List.foldl_cons, List.foldl_cons, ← soonM_go now hn es _ (fun x hx => he x (List.mem_cons_of_mem _ hx)) (by split <;> omega)]
    congr 1
    unfold endM
    by_cases e1 : e = 1000
    · rw [if_pos e1, if_neg (by omega)]
      have : min a e = a := by omega
      rw [this, ite_self]
    · rw [if_neg e1]
      by_cases a1 : a = 1000
      · rw [if_pos a1]
        by_cases hne : now < e
        · rw [if_pos ⟨hne, .inl (by decide)⟩, if_pos hne, if_neg (by omega)]; omega
        · rw [if_neg (by omega), if_neg hne, if_pos a1]
      · rw [if_neg a1]
        by_cases hne : now < e
        · rw [if_pos hne]
          by_cases hea : e < a
          · rw [if_pos ⟨hne, .inr hea⟩, if_neg (by omega)]; omega
          · rw [if_neg (by omega), if_neg (by omega)]; omega
        · rw [if_neg (by omega), if_neg hne, if_neg a1]
theorem soonM_eq {js : List J} {m : Nat} {now : Int} {s : LsS} (h : OkL js m now s) (hok : ∀ j ∈ js, okJ j = true) (h8 : js.length ≤ 8) (hr : runsAt js s.ends now) : soonM (s.ends.map endM) now = soonL s.ends now := by
  have hb := h.bd hok h8
  have hn0 := h.n0
  have h1 := soonM_go now ⟨hn0, by omega⟩ s.ends 1000 (fun e he => by
    obtain ⟨k, hk, rfl⟩ := mem_endAt he
    have := h.en k (by rw [← h.le]; exact hk)
    omega) (.inl rfl)
  have h2 := soon_out h hok h8 hr
  have h3 := h2.2.bd hok h8
  show List.foldl _ (endM 1000) _ = _
  rw [h1]
  show endM (soonL s.ends now) = _
  unfold endM
  rw [if_neg (by omega)]
theorem left_set {ord : List Nat} {ends : List Int} {j : Nat} {e : Int} (hj : j < ends.length) (he : e ≠ 1000) : leftL ord (ends.set j e) = (leftL ord ends).filter (fun i => i != j) := by
  unfold leftL
  rw [List.filter_filter]
  refine List.filter_congr fun i _ => ?_
  rw [endAt_set hj]
  by_cases h : j = i
  · subst h; simp [he]
  · have h' : ¬ i = j := fun q => h q.symm
    simp [h, h']
theorem left_nodup {ord : List Nat} {ends : List Int} (h : ord.Nodup) : (leftL ord ends).Nodup := h.filter _
theorem erase_nodup {l : List Nat} (h : l.Nodup) {p : Nat} (hp : p < l.length) : l.eraseIdx p = l.filter (fun i => i != l[p]) := by
  induction l generalizing p with
  | nil => cases hp
  | cons a l ih =>
    rw [List.nodup_cons] at h
    cases p with
    | zero =>
      rw [List.eraseIdx_cons_zero, List.filter_cons_of_neg (by simp), List.filter_eq_self.2]
      intro x hx
      simp only [List.getElem_cons_zero, bne_iff_ne, ne_eq]
      exact fun q => h.1 (q ▸ hx)
    | succ p =>
      rw [List.eraseIdx_cons_succ]
      have hp' : p < l.length := by simpa using hp
      rw [List.filter_cons_of_pos (by simp only [List.getElem_cons_succ, bne_iff_ne, ne_eq]; exact fun q => h.1 (q ▸ List.getElem_mem hp')), ih h.2 hp']
      rfl
theorem left_erase {ord : List Nat} {ends : List Int} (h : ord.Nodup) {j p : Nat} {e : Int} (hj : j < ends.length) (he : e ≠ 1000) (hp : p < (leftL ord ends).length) (hpj : (leftL ord ends)[p] = j) : (leftL ord ends).eraseIdx p = leftL ord (ends.set j e) := by
  rw [left_set hj he, erase_nodup (left_nodup h) hp, hpj]
theorem ok_init {js : List J} {m : Nat} : OkL js m 0 (initL js.length m) := by
  have h1 : ∀ k, endAt (List.replicate js.length 1000) k = 1000 := fun k => by
    unfold endAt
    simp only [List.getD_eq_getElem?_getD, List.getElem?_replicate]
    split <;> rfl
  have h2 : ∀ k, sumS js (List.replicate js.length 1000) k = 0 := by
    intro k
    induction k with
    | zero => rfl
    | succ k ih => unfold sumS; rw [ih, h1, if_pos rfl]; rfl
  refine ⟨by simp [initL], by simp [initL], by simp [initL], Int.le_refl _, ?_, fun k _ => .inl (h1 k), fun k hk => .inl ?_⟩
  · show 0 ≤ sumS js (List.replicate js.length 1000) js.length
    rw [h2]; exact Int.le_refl _
  · show (List.replicate m (0 : Int)).getD k 0 = 0
    simp only [List.getD_eq_getElem?_getD, List.getElem?_replicate]
    split <;> rfl
theorem left_init {ord : List Nat} {n : Nat} : leftL ord (List.replicate n 1000) = ord := by
  unfold leftL
  rw [List.filter_eq_self]
  intro j _
  have : endAt (List.replicate n 1000) j = 1000 := by
    unfold endAt
    simp only [List.getD_eq_getElem?_getD, List.getElem?_replicate]
    split <;> rfl
  rw [this]; rfl
/-- One more turn. -/
theorem run_more {js : List J} {T : Nat → Nat → Bool} {ord : List Nat} {m f : Nat} {now : Int} {s : LsS} {r : List Sp} (h : runL js T ord m (f + 1) now s = r) (hl : leftL ord s.ends ≠ []) : runL js T ord m f (soonL (startTo js T ord now s m).ends now) (startTo js T ord now s m) = r := by
  have h' : (if leftL ord s.ends = [] then s.plan else runL js T ord m f (soonL (startTo js T ord now s m).ends now) (startTo js T ord now s m)) = r := h
  rwa [if_neg hl] at h'
theorem run_end {js : List J} {T : Nat → Nat → Bool} {ord : List Nat} {m f : Nat} {now : Int} {s : LsS} {r : List Sp} (h : runL js T ord m f now s = r) (hl : leftL ord s.ends = []) : s.plan = r := by
  cases f with
  | zero => exact h
  | succ f =>
    have h' : (if leftL ord s.ends = [] then s.plan else runL js T ord m f (soonL (startTo js T ord now s m).ends now) (startTo js T ord now s m)) = r := h
    rwa [if_pos hl] at h'
end Go.Proofs.YtejgpecmjfgfbaaDoor
