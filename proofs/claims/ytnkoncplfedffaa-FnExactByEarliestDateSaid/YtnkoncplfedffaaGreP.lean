/- Plain words for the greedy order. -/
import Derived.Test.YtnkoncplfedffaaSpP
namespace Go.Proofs.Ytnkoncplfedffaa

/-- The first one of the numbers below k with the least rank, of those that may be taken; -1 if there is none. -/
def pickTo (ok : Nat → Bool) (rk : Nat → Int) : Nat → Int
  | 0 => -1
  | k + 1 => if ok k && (decide (pickTo ok rk k < 0) || decide (rk k < rk (pickTo ok rk k).toNat)) then (k : Int) else pickTo ok rk k
theorem pickTo_spec (ok : Nat → Bool) (rk : Nat → Int) : ∀ k : Nat, (pickTo ok rk k = -1 ∧ ∀ i, i < k → ok i = false) ∨ ∃ b : Nat, pickTo ok rk k = (b : Int) ∧ b < k ∧ ok b = true ∧ ∀ i, i < k → ok i = true → rk b ≤ rk i ∧ (i < b → rk b < rk i)
  | 0 => .inl ⟨rfl, fun _ h => absurd h (by omega)⟩
  | k + 1 => by
    unfold pickTo
    cases hk : ok k
    · rw [Bool.false_and, if_neg (by simp)]
      rcases pickTo_spec ok rk k with ⟨h1, h2⟩ | ⟨b, h1, h2, h3, h4⟩
      · refine .inl ⟨h1, fun i hi => ?_⟩
        rcases Nat.lt_or_ge i k with h | h
        · exact h2 i h
        · rw [show i = k by omega]; exact hk
      · refine .inr ⟨b, h1, by omega, h3, fun i hi ho => ?_⟩
        rcases Nat.lt_or_ge i k with h | h
        · exact h4 i h ho
        · rw [show i = k by omega, hk] at ho; cases ho
    · rcases pickTo_spec ok rk k with ⟨h1, h2⟩ | ⟨b, h1, h2, h3, h4⟩
      · rw [if_pos (by rw [h1]; rfl)]
        refine .inr ⟨k, rfl, by omega, hk, fun i hi ho => ?_⟩
        rcases Nat.lt_or_ge i k with h | h
        · rw [h2 i h] at ho; cases ho
        · rw [show i = k by omega]; exact ⟨Int.le_refl _, fun h => absurd h (by omega)⟩
      · rw [h1]
        by_cases hlt : rk k < rk b
        · rw [if_pos (by simp [hlt])]
          refine .inr ⟨k, rfl, by omega, hk, fun i hi ho => ?_⟩
          rcases Nat.lt_or_ge i k with h | h
          · have := (h4 i h ho).1; omega
          · rw [show i = k by omega]; exact ⟨Int.le_refl _, fun h => absurd h (by omega)⟩
        · rw [if_neg (by simp [hlt])]
          refine .inr ⟨b, rfl, by omega, h3, fun i hi ho => ?_⟩
          rcases Nat.lt_or_ge i k with h | h
          · exact h4 i h ho
          · rw [show i = k by omega]; exact ⟨by omega, fun h => absurd h (by omega)⟩
theorem pickTo_none {ok : Nat → Bool} {rk : Nat → Int} {k : Nat} (h : ∀ i, i < k → ok i = false) : pickTo ok rk k = -1 := by
  rcases pickTo_spec ok rk k with ⟨h1, _⟩ | ⟨b, _, h2, h3, _⟩
  · exact h1
  · rw [h b h2] at h3; cases h3
theorem pickTo_is {ok : Nat → Bool} {rk : Nat → Int} {k b : Nat} (h2 : b < k) (h3 : ok b = true) (h4 : ∀ i, i < k → ok i = true → rk b ≤ rk i ∧ (i < b → rk b < rk i)) : pickTo ok rk k = (b : Int) := by
  rcases pickTo_spec ok rk k with ⟨_, h⟩ | ⟨c, h1, c2, c3, c4⟩
  · rw [h b h2] at h3; cases h3
  · rw [h1]
    have a1 := h4 c c2 c3
    have a2 := c4 b h2 h3
    rcases Nat.lt_trichotomy b c with h | h | h
    · have := a2.2 h; omega
    · rw [h]
    · have := a1.2 h; omega
theorem pickTo_congr {ok ok' : Nat → Bool} {rk rk' : Nat → Int} {k : Nat} (h : ∀ i, i < k → ok i = ok' i) (hr : ∀ i, i < k → ok i = true → rk i = rk' i) : pickTo ok rk k = pickTo ok' rk' k := by
  rcases pickTo_spec ok' rk' k with ⟨h1, h2⟩ | ⟨b, h1, h2, h3, h4⟩
  · rw [h1]; exact pickTo_none fun i hi => (h i hi).trans (h2 i hi)
  · rw [h1]
    have hb := (h b h2).trans h3
    refine pickTo_is h2 hb fun i hi ho => ?_
    rw [hr b h2 hb, hr i hi ho]
    exact h4 i hi (by rw [← h i hi]; exact ho)
theorem pickTo_range (ok : Nat → Bool) (rk : Nat → Int) (k : Nat) : -1 ≤ pickTo ok rk k ∧ pickTo ok rk k < k ∧ (pickTo ok rk k < 0 ↔ ∀ i, i < k → ok i = false) := by
  rcases pickTo_spec ok rk k with ⟨h1, h2⟩ | ⟨b, h1, h2, h3, _⟩
  · exact ⟨by omega, by omega, fun _ => h2, fun _ => by omega⟩
  · exact ⟨by omega, by omega, fun h => by omega, fun h => by rw [h b h2] at h3; cases h3⟩
theorem pickTo_pos {ok : Nat → Bool} {rk : Nat → Int} {k : Nat} (h : 0 ≤ pickTo ok rk k) : (pickTo ok rk k).toNat < k ∧ ok (pickTo ok rk k).toNat = true := by
  rcases pickTo_spec ok rk k with ⟨h1, _⟩ | ⟨b, h1, h2, h3, _⟩
  · omega
  · rw [h1]; exact ⟨by simpa using h2, by simpa using h3⟩

/-- The job may be done now and is not in the list yet. -/
def gOk (js : List J) (out : List Nat) (now : Int) (i : Nat) : Bool := !out.contains i && decide ((js.getD i j0).r ≤ now)
def dueN (js : List J) (i : Nat) : Int := (js.getD i j0).d
def gNext (js : List J) (out : List Nat) (now : Int) : Int := pickTo (gOk js out now) (dueN js) js.length
def gGo (js : List J) : Nat → Int → List Nat → List Nat
  | 0, _, out => out
  | f + 1, now, out =>
    if out.length < js.length then
      if gNext js out now < 0 then gGo js f (now + 1) out
      else gGo js f (now + (js.getD (gNext js out now).toNat j0).t) (out ++ [(gNext js out now).toNat])
    else out
/-- What can be said of the jobs that the greedy order has so far. -/
structure GIn (js : List J) (now : Int) (out : List Nat) : Prop where
  nd : out.Nodup
  lt : ∀ j ∈ out, j < js.length
  now0 : 0 ≤ now
  now1 : now ≤ 500 + 50 * out.length
theorem sub_len : ∀ {l o : List Nat}, l.Nodup → l ⊆ o → l.length ≤ o.length
  | [], _, _, _ => Nat.zero_le _
  | a :: l, o, hd, hs => by
    obtain ⟨h1, h2⟩ := List.nodup_cons.1 hd
    have ha : a ∈ o := hs List.mem_cons_self
    have := sub_len h2 (o := o.erase a) (fun x hx => (List.mem_erase_of_ne (fun e => h1 (by rw [← e]; exact hx))).2 (hs (List.mem_cons_of_mem _ hx)))
    have h3 := List.length_erase_of_mem ha
    have h4 := List.length_pos_of_mem ha
    simp only [List.length_cons]
    omega
theorem perm_sub : ∀ {l o : List Nat}, l.Nodup → l ⊆ o → o.length ≤ l.length → o.Perm l
  | [], o, _, _, hl => by rw [List.eq_nil_of_length_eq_zero (by simpa using hl : o.length = 0)]
  | a :: l, o, hd, hs, hl => by
    obtain ⟨h1, h2⟩ := List.nodup_cons.1 hd
    have ha : a ∈ o := hs List.mem_cons_self
    refine (List.perm_cons_erase ha).trans (List.Perm.cons a (perm_sub h2 (fun x hx => ?_) ?_))
    · exact (List.mem_erase_of_ne (fun e => h1 (by rw [← e]; exact hx))).2 (hs (List.mem_cons_of_mem _ hx))
    · have := List.length_erase_of_mem ha
      simp only [List.length_cons] at hl
      omega
theorem okD {js : List J} (hg : goodL js = true) {i : Nat} (hi : i < js.length) : okJ (js.getD i j0) = true := by
  rw [List.getD_eq_getElem?_getD, List.getElem?_eq_getElem hi, Option.getD_some]; exact good_at hg hi
theorem le_of_sub {l : List Nat} {n : Nat} (hd : l.Nodup) (hl : ∀ j ∈ l, j < n) : l.length ≤ n := by
  have h : l ⊆ List.range n := fun x hx => List.mem_range.2 (hl x hx)
  have := sub_len hd h
  simpa using this
theorem all_in {l : List Nat} {n : Nat} (hd : l.Nodup) (hl : ∀ j ∈ l, j < n) (hn : n ≤ l.length) {i : Nat} (hi : i < n) : i ∈ l := by
  rcases Decidable.em (i ∈ l) with h | h
  · exact h
  · have := le_of_sub (l := i :: l) (n := n) (List.nodup_cons.2 ⟨h, hd⟩) (fun j hj => by
      rcases List.mem_cons.1 hj with e | e
      · omega
      · exact hl j e)
    simp only [List.length_cons] at this
    omega
theorem one_out {l : List Nat} {n : Nat} (hn : l.length < n) : ∃ i, i < n ∧ i ∉ l := by
  apply Classical.byContradiction
  intro h
  have h' : ∀ i, i < n → i ∈ l := fun i hi => Classical.byContradiction fun e => h ⟨i, hi, e⟩
  have := sub_len List.nodup_range (fun x hx => h' x (List.mem_range.1 hx) : List.range n ⊆ l)
  rw [List.length_range] at this
  omega
section
variable {js : List J} {now : Int} {out : List Nat}
theorem GIn.le (h : GIn js now out) : out.length ≤ js.length := le_of_sub h.nd h.lt
theorem gNext_in (h : 0 ≤ gNext js out now) : (gNext js out now).toNat < js.length ∧ (gNext js out now).toNat ∉ out ∧ (js.getD (gNext js out now).toNat j0).r ≤ now := by
  have := pickTo_pos (ok := gOk js out now) (rk := dueN js) (k := js.length) h
  change (gNext js out now).toNat < js.length ∧ gOk js out now (gNext js out now).toNat = true at this
  refine ⟨this.1, ?_⟩
  have h2 := this.2
  unfold gOk at h2
  rw [Bool.and_eq_true, decide_eq_true_iff, Bool.not_eq_true', List.contains_eq_mem, decide_eq_false_iff_not] at h2
  exact h2
theorem gNext_none (hg : goodL js = true) (hl : out.length < js.length) (h : gNext js out now < 0) : now < 500 := by
  obtain ⟨i, hi, hn⟩ := one_out hl
  have := (pickTo_range (gOk js out now) (dueN js) js.length).2.2.1 h i hi
  unfold gOk at this
  have hd : decide ((js.getD i j0).r ≤ now) = false := by
    rw [List.contains_eq_mem, decide_eq_false hn] at this
    simpa using this
  have h1 := of_decide_eq_false hd
  have h2 := okJ_out (good_at hg hi)
  rw [List.getD_eq_getElem?_getD, List.getElem?_eq_getElem hi, Option.getD_some] at h1
  omega
theorem GIn.wait (h : GIn js now out) (hg : goodL js = true) (hl : out.length < js.length) (hn : gNext js out now < 0) : GIn js (now + 1) out :=
  ⟨h.nd, h.lt, by have := h.now0; omega, by have := gNext_none hg hl hn; omega⟩
theorem GIn.take (h : GIn js now out) (hg : goodL js = true) (hn : 0 ≤ gNext js out now) : GIn js (now + (js.getD (gNext js out now).toNat j0).t) (out ++ [(gNext js out now).toNat]) := by
  obtain ⟨h1, h2, h3⟩ := gNext_in hn
  have h4 := okJ_out (okD hg h1)
  refine ⟨?_, ?_, by have := h.now0; omega, by have := h.now1; simp only [List.length_append, List.length_singleton]; omega⟩
  · rw [List.nodup_append]
    exact ⟨h.nd, by simp, fun a ha b hb => by rw [List.mem_singleton.1 hb]; exact fun e => h2 (e ▸ ha)⟩
  · intro j hj
    rcases List.mem_append.1 hj with e | e
    · exact h.lt j e
    · rw [List.mem_singleton.1 e]; exact h1
end
def gNeed (js : List J) (now : Int) (out : List Nat) : Nat := (500 - now).toNat + (js.length - out.length)
theorem gGo_more {js : List J} (hg : goodL js = true) : ∀ (f : Nat) (now : Int) (out : List Nat), GIn js now out → gNeed js now out ≤ f → gGo js (f + 1) now out = gGo js f now out
  | 0, now, out, hi, hf => by
    unfold gNeed at hf
    unfold gGo
    rw [if_neg (by have := hi.le; omega)]
  | f + 1, now, out, hi, hf => by
    unfold gNeed at hf
    rw [gGo]
    conv => rhs; rw [gGo]
    by_cases hl : out.length < js.length
    · rw [if_pos hl, if_pos hl]
      by_cases hn : gNext js out now < 0
      · rw [if_pos hn, if_pos hn]
        have := gNext_none hg hl hn
        exact gGo_more hg f _ _ (hi.wait hg hl hn) (by unfold gNeed; omega)
      · rw [if_neg hn, if_neg hn]
        have h4 := okJ_out (okD hg (gNext_in (js := js) (out := out) (now := now) (by omega)).1)
        refine gGo_more hg f _ _ (hi.take hg (by omega)) ?_
        unfold gNeed
        rw [List.length_append, List.length_singleton]
        have := hi.now0
        omega
    · rw [if_neg hl, if_neg hl]
theorem gGo_enough {js : List J} (hg : goodL js = true) {now : Int} {out : List Nat} (hi : GIn js now out) : ∀ (d : Nat), gGo js (gNeed js now out + d) now out = gGo js (gNeed js now out) now out
  | 0 => rfl
  | d + 1 => by rw [← Nat.add_assoc, gGo_more hg _ now out hi (by omega), gGo_enough hg hi d]
/-- What the greedy order is in the end. -/
def gFin (js : List J) (now : Int) (out : List Nat) : List Nat := gGo js (gNeed js now out) now out
theorem gGo_fin {js : List J} (hg : goodL js = true) {f : Nat} {now : Int} {out : List Nat} (hi : GIn js now out) (hf : gNeed js now out ≤ f) : gGo js f now out = gFin js now out := by
  have := gGo_enough hg hi (f - gNeed js now out)
  rw [show gNeed js now out + (f - gNeed js now out) = f by omega] at this
  exact this
section
variable {js : List J} {now : Int} {out : List Nat}
theorem gFin_done (hl : js.length ≤ out.length) : gFin js now out = out := by
  unfold gFin
  cases gNeed js now out with
  | zero => rfl
  | succ f => rw [gGo, if_neg (by omega)]
theorem gFin_wait (hg : goodL js = true) (hi : GIn js now out) (hl : out.length < js.length) (hn : gNext js out now < 0) : gFin js now out = gFin js (now + 1) out := by
  have h1 := gNext_none hg hl hn
  rw [← gGo_fin hg (f := gNeed js now out + 1) hi (by omega), gGo, if_pos hl, if_pos hn]
  exact gGo_fin hg (hi.wait hg hl hn) (by unfold gNeed; omega)
theorem gFin_take (hg : goodL js = true) (hi : GIn js now out) (hl : out.length < js.length) (hn : 0 ≤ gNext js out now) : gFin js now out = gFin js (now + (js.getD (gNext js out now).toNat j0).t) (out ++ [(gNext js out now).toNat]) := by
  have h4 := okJ_out (okD hg (gNext_in (js := js) (out := out) (now := now) (by omega)).1)
  rw [← gGo_fin hg (f := gNeed js now out + 1) hi (by omega), gGo, if_pos hl, if_neg (by omega)]
  refine gGo_fin hg (hi.take hg hn) ?_
  unfold gNeed
  rw [List.length_append, List.length_singleton]
  have := hi.now0
  omega
/-- The least Release behind a time, or 1000. -/
def nextTo (js : List J) (now : Int) : Nat → Int
  | 0 => 1000
  | k + 1 => if now < (js.getD k j0).r then min (nextTo js now k) (js.getD k j0).r else nextTo js now k
def nextR (js : List J) (now : Int) : Int := nextTo js now js.length
theorem nextTo_le (js : List J) (now : Int) : ∀ k, nextTo js now k ≤ 1000 ∧ ∀ i, i < k → now < (js.getD i j0).r → nextTo js now k ≤ (js.getD i j0).r
  | 0 => ⟨Int.le_refl _, fun _ h => absurd h (by omega)⟩
  | k + 1 => by
    obtain ⟨h1, h2⟩ := nextTo_le js now k
    unfold nextTo
    by_cases h : now < (js.getD k j0).r
    · rw [if_pos h]
      refine ⟨by omega, fun i hi hr => ?_⟩
      rcases Nat.lt_or_ge i k with e | e
      · have := h2 i e hr; omega
      · rw [show i = k by omega]; omega
    · rw [if_neg h]
      refine ⟨h1, fun i hi hr => ?_⟩
      rcases Nat.lt_or_ge i k with e | e
      · exact h2 i e hr
      · rw [show i = k by omega] at hr; exact absurd hr h
theorem nextTo_gt (js : List J) (now : Int) (hn : now < 1000) : ∀ k, now < nextTo js now k
  | 0 => hn
  | k + 1 => by
    have := nextTo_gt js now hn k
    unfold nextTo
    split
    · omega
    · exact this
theorem nextTo_or (js : List J) (now : Int) : ∀ k, nextTo js now k = 1000 ∨ ∃ i, i < k ∧ nextTo js now k = (js.getD i j0).r
  | 0 => .inl rfl
  | k + 1 => by
    unfold nextTo
    split
    · rcases nextTo_or js now k with h | ⟨i, hi, h⟩
      · rcases Int.le_total (nextTo js now k) (js.getD k j0).r with e | e
        · exact .inl (by omega)
        · exact .inr ⟨k, by omega, by omega⟩
      · rcases Int.le_total (nextTo js now k) (js.getD k j0).r with e | e
        · exact .inr ⟨i, by omega, by omega⟩
        · exact .inr ⟨k, by omega, by omega⟩
    · rcases nextTo_or js now k with h | ⟨i, hi, h⟩
      · exact .inl h
      · exact .inr ⟨i, by omega, h⟩
theorem nextTo_lo (js : List J) (now : Int) (h0 : 0 ≤ now) (hn : now < 1000) (k : Nat) : 0 ≤ nextTo js now k ∧ nextTo js now k ≤ 1000 := by
  have := nextTo_gt js now hn k; have := (nextTo_le js now k).1; omega
theorem gOk_still {i : Nat} {t : Int} (hi : i < js.length) (h0 : now ≤ t) (h1 : t < nextR js now) : gOk js out t i = gOk js out now i := by
  unfold gOk
  congr 1
  apply Bool.eq_iff_iff.2
  rw [decide_eq_true_iff, decide_eq_true_iff]
  constructor
  · intro h
    rcases Int.lt_or_le now (js.getD i j0).r with e | e
    · have := (nextTo_le js now js.length).2 i hi e
      unfold nextR at h1; omega
    · exact e
  · intro h; omega
theorem gFin_skipTo (hg : goodL js = true) (hl : out.length < js.length) (hn : gNext js out now < 0) : ∀ (d : Nat), GIn js now out → now + d ≤ nextR js now → gFin js now out = gFin js (now + d) out ∧ GIn js (now + d) out
  | 0, hi, _ => by rw [show now + ((0 : Nat) : Int) = now by omega]; exact ⟨rfl, hi⟩
  | d + 1, hi, hd => by
    obtain ⟨h1, h2⟩ := gFin_skipTo hg hl hn d hi (by omega)
    have h3 : gNext js out (now + d) < 0 := by
      have : gNext js out (now + d) = gNext js out now := pickTo_congr (fun i hi' => gOk_still hi' (by omega) (by omega)) (fun _ _ _ => rfl)
      rw [this]; exact hn
    rw [h1, gFin_wait hg h2 hl h3]
    rw [show now + ((d + 1 : Nat) : Int) = now + d + 1 by omega]
    exact ⟨rfl, h2.wait hg hl h3⟩
theorem gFin_skip (hg : goodL js = true) (hi : GIn js now out) (hl : out.length < js.length) (hn : gNext js out now < 0) : gFin js now out = gFin js (nextR js now) out ∧ GIn js (nextR js now) out := by
  have h1 := gNext_none hg hl hn
  have h2 := nextTo_gt js now (by omega) js.length
  have := gFin_skipTo hg hl hn (nextR js now - now).toNat hi (by unfold nextR; omega)
  rwa [show now + ((nextR js now - now).toNat : Int) = nextR js now by unfold nextR; omega] at this
end
def greedyL (js : List J) : List Nat := gFin js 0 []
theorem gIn_zero (js : List J) : GIn js 0 [] := ⟨List.nodup_nil, (fun _ h => by cases h), Int.le_refl _, (by simp)⟩
theorem gGo_full {js : List J} (hg : goodL js = true) : ∀ (f : Nat) (now : Int) (out : List Nat), GIn js now out → gNeed js now out ≤ f → (gGo js f now out).Nodup ∧ (∀ j ∈ gGo js f now out, j < js.length) ∧ (gGo js f now out).length = js.length
  | 0, now, out, hi, hf => ⟨hi.nd, hi.lt, by unfold gNeed at hf; have := hi.le; unfold gGo; omega⟩
  | f + 1, now, out, hi, hf => by
    unfold gNeed at hf
    rw [gGo]
    by_cases hl : out.length < js.length
    · rw [if_pos hl]
      by_cases hn : gNext js out now < 0
      · rw [if_pos hn]
        have := gNext_none hg hl hn
        exact gGo_full hg f _ _ (hi.wait hg hl hn) (by unfold gNeed; omega)
      · rw [if_neg hn]
        have h4 := okJ_out (okD hg (gNext_in (js := js) (out := out) (now := now) (by omega)).1)
        refine gGo_full hg f _ _ (hi.take hg (by omega)) ?_
        unfold gNeed
        rw [List.length_append, List.length_singleton]
        have := hi.now0
        omega
    · rw [if_neg hl]
      exact ⟨hi.nd, hi.lt, by have := hi.le; omega⟩
theorem perm_range {n : Nat} : ∀ {l : List Nat}, l.Nodup → (∀ j ∈ l, j < n) → l.length = n → l.Perm (List.range n) := by
  intro l hd hl hn
  exact (perm_sub hd (fun x hx => List.mem_range.2 (hl x hx)) (by simp [hn])).symm
theorem greedy_perm {js : List J} (hg : goodL js = true) : (greedyL js).Perm (List.range js.length) := by
  obtain ⟨h1, h2, h3⟩ := gGo_full hg _ 0 [] (gIn_zero js) (Nat.le_refl _)
  exact perm_range h1 h2 h3
theorem greedy_len {js : List J} (hg : goodL js = true) : (greedyL js).length = js.length := by
  have := (greedy_perm hg).length_eq; simpa using this
end Go.Proofs.Ytnkoncplfedffaa
