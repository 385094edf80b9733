/- Plain words for the rules of choice: time goes on by 1, or from piece to piece. -/
import Derived.Test.YtnkoncplfedffaaGreP
namespace Go.Proofs.Ytnkoncplfedffaa

def chOk (js : List J) (R : List Int) (now : Int) (i : Nat) : Bool := decide (R.getD i 0 ≠ 0) && decide ((js.getD i j0).r ≤ now)
def chRk (js : List J) (obj : Int) (R : List Int) (i : Nat) : Int := if obj = 2 then R.getD i 0 else dueN js i
def chPick (js : List J) (obj : Int) (R : List Int) (now : Int) : Int := pickTo (chOk js R now) (chRk js obj R) js.length
/-- A piece of a job is put behind the spans. -/
def putSp (out : List Sp) (j : Nat) (f t : Int) : List Sp :=
  match out.getLast? with
  | some l => if l.j = j ∧ l.t = f then out.dropLast ++ [⟨l.j, l.f, t⟩] else out ++ [⟨j, f, t⟩]
  | none => [⟨j, f, t⟩]
def chGo (js : List J) (obj : Int) : Nat → Int → List Int → List Sp → List Sp
  | 0, _, _, out => out
  | f + 1, now, R, out =>
    if 0 < R.sum then
      if chPick js obj R now < 0 then chGo js obj f (now + 1) R out
      else chGo js obj f (now + 1) (R.set (chPick js obj R now).toNat (R.getD (chPick js obj R now).toNat 0 - 1)) (putSp out (chPick js obj R now).toNat now (now + 1))
    else out
def chFin (js : List J) (obj : Int) (now : Int) (R : List Int) (out : List Sp) : List Sp := chGo js obj (900 - now).toNat now R out
theorem sum_set : ∀ (R : List Int) (k : Nat) (x : Int), k < R.length → (R.set k x).sum = R.sum - R.getD k 0 + x
  | [], _, _, h => absurd h (by simp)
  | a :: R, 0, x, _ => by simp [List.getD_eq_getElem?_getD]; omega
  | a :: R, k + 1, x, h => by
    have := sum_set R k x (by simpa using h)
    simp only [List.set_cons_succ, List.sum_cons, this, List.getD_cons_succ]
    omega
theorem sum_nonneg : ∀ {R : List Int}, (∀ x ∈ R, 0 ≤ x) → 0 ≤ R.sum
  | [], _ => Int.le_refl _
  | a :: R, h => by
    have h1 := sum_nonneg (R := R) (fun x hx => h x (List.mem_cons_of_mem _ hx))
    have h2 := h a List.mem_cons_self
    simp only [List.sum_cons]; omega
theorem le_sum : ∀ {R : List Int}, (∀ x ∈ R, 0 ≤ x) → ∀ x ∈ R, x ≤ R.sum
  | [], _, x, hx => by cases hx
  | a :: R, h, x, hx => by
    have h1 := sum_nonneg (R := R) (fun x hx => h x (List.mem_cons_of_mem _ hx))
    have h2 := h a List.mem_cons_self
    simp only [List.sum_cons]
    rcases List.mem_cons.1 hx with e | e
    · omega
    · have := le_sum (R := R) (fun x hx => h x (List.mem_cons_of_mem _ hx)) x e; omega
theorem sum_pos : ∀ {R : List Int}, (∀ x ∈ R, 0 ≤ x) → 0 < R.sum → ∃ i, i < R.length ∧ 0 < R.getD i 0
  | [], _, h => absurd h (by simp)
  | a :: R, h, hs => by
    by_cases ha : 0 < a
    · exact ⟨0, by simp, by simpa using ha⟩
    · have h2 := h a List.mem_cons_self
      simp only [List.sum_cons] at hs
      obtain ⟨i, hi, hx⟩ := sum_pos (R := R) (fun x hx => h x (List.mem_cons_of_mem _ hx)) (by omega)
      exact ⟨i + 1, by simpa using hi, by simpa using hx⟩
/-- What is known of the rests at a time. -/
structure CIn (js : List J) (now : Int) (R : List Int) : Prop where
  len : R.length = js.length
  pos : ∀ x ∈ R, 0 ≤ x
  now0 : 0 ≤ now
  bd : max now 500 + R.sum ≤ 900
section
variable {js : List J} {obj now : Int} {R : List Int} {out : List Sp}
theorem CIn.at0 (h : CIn js now R) (i : Nat) : 0 ≤ R.getD i 0 := by
  rw [List.getD_eq_getElem?_getD]
  rcases Nat.lt_or_ge i R.length with e | e
  · rw [List.getElem?_eq_getElem e]; exact h.pos _ (List.getElem_mem e)
  · rw [List.getElem?_eq_none e]; exact Int.le_refl _
theorem CIn.at1 (h : CIn js now R) {i : Nat} (hi : i < js.length) : R.getD i 0 ≤ R.sum := by
  have hi' : i < R.length := by rw [h.len]; exact hi
  rw [List.getD_eq_getElem?_getD, List.getElem?_eq_getElem hi', Option.getD_some]
  exact le_sum h.pos _ (List.getElem_mem hi')
theorem chPick_in (h : 0 ≤ chPick js obj R now) : (chPick js obj R now).toNat < js.length ∧ R.getD (chPick js obj R now).toNat 0 ≠ 0 ∧ (js.getD (chPick js obj R now).toNat j0).r ≤ now := by
  have := pickTo_pos (ok := chOk js R now) (rk := chRk js obj R) (k := js.length) h
  change (chPick js obj R now).toNat < js.length ∧ chOk js R now (chPick js obj R now).toNat = true at this
  refine ⟨this.1, ?_⟩
  have h2 := this.2
  unfold chOk at h2
  rw [Bool.and_eq_true, decide_eq_true_iff, decide_eq_true_iff] at h2
  exact h2
theorem chPick_none (h : chPick js obj R now < 0) {i : Nat} (hi : i < js.length) (hr : (js.getD i j0).r ≤ now) : R.getD i 0 = 0 := by
  have := (pickTo_range (chOk js R now) (chRk js obj R) js.length).2.2.1 h i hi
  unfold chOk at this
  rw [decide_eq_true hr, Bool.and_true] at this
  have := of_decide_eq_false this
  exact Classical.byContradiction this
theorem chPick_late (hg : goodL js = true) (hi : CIn js now R) (hs : 0 < R.sum) (h : chPick js obj R now < 0) : now < 500 := by
  obtain ⟨i, hl, hx⟩ := sum_pos hi.pos hs
  rw [hi.len] at hl
  rcases Int.lt_or_le now (js.getD i j0).r with e | e
  · have := okJ_out (okD hg hl); omega
  · have := chPick_none h hl e; omega
theorem CIn.wait (h : CIn js now R) (hg : goodL js = true) (hs : 0 < R.sum) (hn : chPick js obj R now < 0) {t : Int} (h0 : now ≤ t) (h1 : t ≤ 500) : CIn js t R :=
  ⟨h.len, h.pos, by have := h.now0; omega, by have := h.bd; have := chPick_late hg h hs hn; omega⟩
theorem CIn.take (h : CIn js now R) {k : Nat} (hk : k < js.length) {d : Int} (h0 : 0 ≤ d) (h1 : d ≤ R.getD k 0) : CIn js (now + d) (R.set k (R.getD k 0 - d)) := by
  have hs := sum_set R k (R.getD k 0 - d) (by rw [h.len]; exact hk)
  refine ⟨by rw [List.length_set]; exact h.len, fun x hx => ?_, by have := h.now0; omega, by have := h.bd; omega⟩
  rcases List.mem_or_eq_of_mem_set hx with e | e
  · exact h.pos x e
  · omega
theorem chFin_done (h : ¬ 0 < R.sum) : chFin js obj now R out = out := by
  unfold chFin
  cases (900 - now).toNat with
  | zero => rfl
  | succ f => rw [chGo, if_neg h]
theorem CIn.before (h : CIn js now R) (hs : 0 < R.sum) : now < 900 := by have := h.bd; omega
theorem chFin_wait (hi : CIn js now R) (hs : 0 < R.sum) (hn : chPick js obj R now < 0) : chFin js obj now R out = chFin js obj (now + 1) R out := by
  have := hi.before hs
  have := hi.now0
  unfold chFin
  rw [show (900 - now).toNat = (900 - (now + 1)).toNat + 1 by omega, chGo, if_pos hs, if_pos hn]
theorem chFin_take (hi : CIn js now R) (hs : 0 < R.sum) {k : Nat} (hn : chPick js obj R now = (k : Int)) : chFin js obj now R out = chFin js obj (now + 1) (R.set k (R.getD k 0 - 1)) (putSp out k now (now + 1)) := by
  have := hi.before hs
  have := hi.now0
  unfold chFin
  rw [show (900 - now).toNat = (900 - (now + 1)).toNat + 1 by omega, chGo, if_pos hs, if_neg (by omega), hn, Int.toNat_natCast]
theorem chOk_still {i : Nat} {t : Int} (hi : i < js.length) (h0 : now ≤ t) (h1 : t < nextR js now) : chOk js R t i = chOk js R now i := by
  unfold chOk
  congr 1
  apply Bool.eq_iff_iff.2
  rw [decide_eq_true_iff, decide_eq_true_iff]
  constructor
  · intro h
    rcases Int.lt_or_le now (js.getD i j0).r with e | e
    · have := (nextTo_le js now js.length).2 i hi e
      unfold nextR at h1; omega
    · exact e
  · intro h; omega
/-- Where nothing can be done, time goes on to the next release. -/
theorem next_500 (hg : goodL js = true) (hi : CIn js now R) (hs : 0 < R.sum) (hn : chPick js obj R now < 0) : now < nextR js now ∧ nextR js now ≤ 500 := by
  have h5 := chPick_late hg hi hs hn
  refine ⟨nextTo_gt js now (by omega) _, ?_⟩
  obtain ⟨i, hl, hx⟩ := sum_pos hi.pos hs
  rw [hi.len] at hl
  have hr : now < (js.getD i j0).r := by
    rcases Int.lt_or_le now (js.getD i j0).r with e | e
    · exact e
    · have := chPick_none hn hl e; omega
  have := (nextTo_le js now js.length).2 i hl hr
  have := okJ_out (okD hg hl)
  unfold nextR; omega
theorem chFin_skip (hg : goodL js = true) (hi : CIn js now R) (hs : 0 < R.sum) (hn : chPick js obj R now < 0) : chFin js obj now R out = chFin js obj (nextR js now) R out ∧ CIn js (nextR js now) R := by
  obtain ⟨h1, h2⟩ := next_500 hg hi hs hn
  have key : ∀ d : Nat, now + d ≤ nextR js now → chFin js obj now R out = chFin js obj (now + d) R out := by
    intro d
    induction d with
    | zero => intro _; rw [show now + ((0 : Nat) : Int) = now by omega]
    | succ d ih =>
      intro hd
      have h3 : chPick js obj R (now + d) < 0 := by
        have : chPick js obj R (now + d) = chPick js obj R now := pickTo_congr (fun i hi' => chOk_still hi' (by omega) (by omega)) (fun _ _ _ => rfl)
        rw [this]; exact hn
      rw [ih (by omega), chFin_wait (hi.wait hg hs hn (by omega) (by omega)) hs h3, show now + ((d + 1 : Nat) : Int) = now + d + 1 by omega]
  have := key (nextR js now - now).toNat (by omega)
  rw [show now + ((nextR js now - now).toNat : Int) = nextR js now by omega] at this
  exact ⟨this, hi.wait hg hs hn (by omega) h2⟩
theorem putSp_put (out : List Sp) (j : Nat) (f t u : Int) : putSp (putSp out j f t) j t u = putSp out j f u := by
  unfold putSp
  cases h : out.getLast? with
  | none =>
    have : out = [] := List.getLast?_eq_none_iff.1 h
    subst this
    simp
  | some l =>
    simp only
    by_cases hc : l.j = (j : Int) ∧ l.t = f
    · rw [if_pos hc, if_pos hc, List.getLast?_concat]
      simp only
      rw [if_pos ⟨hc.1, trivial⟩, List.dropLast_concat]
    · rw [if_neg hc, if_neg hc, List.getLast?_concat]
      simp
/-- The job that is chosen stays so up to the end of its piece. -/
theorem chPick_stays {k : Nat} (hn : chPick js obj R now = (k : Int)) (hi : CIn js now R) {d : Int} (h0 : 0 ≤ d) (h1 : d < R.getD k 0) (h2 : now + d < nextR js now) :
    chPick js obj (R.set k (R.getD k 0 - d)) (now + d) = (k : Int) := by
  rcases pickTo_spec (chOk js R now) (chRk js obj R) js.length with ⟨e, _⟩ | ⟨b, e, b1, b2, b3⟩
  · change chPick js obj R now = -1 at e; omega
  · change chPick js obj R now = (b : Int) at e
    obtain rfl : b = k := by omega
    have hbl : b < R.length := by rw [hi.len]; exact b1
    have hok : ∀ i, i < js.length → i ≠ b → chOk js (R.set b (R.getD b 0 - d)) (now + d) i = chOk js R now i := by
      intro i hi' hne
      rw [chOk_still hi' (by omega) h2]
      unfold chOk
      rw [getD_set_ne _ _ _ _ _ (fun e => hne e.symm)]
    have hrk : ∀ i, i ≠ b → chRk js obj (R.set b (R.getD b 0 - d)) i = chRk js obj R i := by
      intro i hne
      unfold chRk
      rw [getD_set_ne _ _ _ _ _ (fun e => hne e.symm)]
    have hrb : chRk js obj (R.set b (R.getD b 0 - d)) b ≤ chRk js obj R b := by
      unfold chRk
      rw [getD_set_eq _ _ _ _ hbl]
      split <;> omega
    refine pickTo_is b1 ?_ fun i hil ho => ?_
    · rw [chOk_still b1 (by omega) h2]
      unfold chOk at b2 ⊢
      rw [Bool.and_eq_true] at b2 ⊢
      refine ⟨decide_eq_true ?_, b2.2⟩
      rw [getD_set_eq _ _ _ _ hbl]; omega
    · by_cases hib : i = b
      · subst hib; exact ⟨Int.le_refl _, fun h => absurd h (by omega)⟩
      · rw [hok i hil hib] at ho
        have := b3 i hil ho
        rw [hrk i hib]
        exact ⟨by omega, fun h => by have := this.2 h; omega⟩
theorem chFin_piece {k : Nat} (hn : chPick js obj R now = (k : Int)) (hi : CIn js now R) : ∀ d : Nat, 0 < d → (d : Int) ≤ R.getD k 0 → now + d ≤ nextR js now →
    chFin js obj now R out = chFin js obj (now + d) (R.set k (R.getD k 0 - d)) (putSp out k now (now + d))
  | 0, h, _, _ => absurd h (by omega)
  | 1, _, h1, h2 => by
    have hk : k < js.length := by
      have := (chPick_in (js := js) (obj := obj) (R := R) (now := now) (by omega)).1
      rwa [hn, Int.toNat_natCast] at this
    have := hi.at1 hk
    exact chFin_take hi (by omega) hn
  | d + 2, _, h1, h2 => by
    have hk : k < js.length := by
      have := (chPick_in (js := js) (obj := obj) (R := R) (now := now) (by omega)).1
      rwa [hn, Int.toNat_natCast] at this
    have hkl : k < R.length := by rw [hi.len]; exact hk
    rw [chFin_piece hn hi (d + 1) (by omega) (by omega) (by omega)]
    have hp := chPick_stays hn hi (d := ((d + 1 : Nat) : Int)) (by omega) (by omega) (by omega)
    have hc := hi.take hk (d := ((d + 1 : Nat) : Int)) (by omega) (by omega)
    have h3 := hc.at1 hk
    rw [getD_set_eq _ _ _ _ hkl] at h3
    rw [chFin_take hc (by omega) hp, getD_set_eq _ _ _ _ hkl, List.set_set, putSp_put]
    rw [show now + ((d + 1 : Nat) : Int) + 1 = now + ((d + 2 : Nat) : Int) by omega, show R.getD k 0 - ((d + 1 : Nat) : Int) - 1 = R.getD k 0 - ((d + 2 : Nat) : Int) by omega]
end
/-- Where the piece of a job ends that begins now. -/
def toR (js : List J) (R : List Int) (now : Int) (k : Nat) : Int := min (now + R.getD k 0) (nextR js now)
section
variable {js : List J} {obj now : Int} {R : List Int} {out : List Sp}
theorem toR_gt (hi : CIn js now R) {k : Nat} (hn : chPick js obj R now = (k : Int)) : k < js.length ∧ now < toR js R now k ∧ toR js R now k ≤ now + R.getD k 0 ∧ toR js R now k ≤ nextR js now ∧ toR js R now k ≤ 900 := by
  have h1 := chPick_in (js := js) (obj := obj) (R := R) (now := now) (by omega)
  rw [hn, Int.toNat_natCast] at h1
  have h2 := hi.at0 k
  have h3 := hi.at1 h1.1
  have h4 := hi.bd
  have h5 := nextTo_gt js now (by omega) js.length
  unfold toR
  unfold nextR
  refine ⟨h1.1, by omega, by omega, by omega, by omega⟩
theorem chFin_to (hi : CIn js now R) {k : Nat} (hn : chPick js obj R now = (k : Int)) :
    chFin js obj now R out = chFin js obj (toR js R now k) (R.set k (R.getD k 0 - (toR js R now k - now))) (putSp out k now (toR js R now k)) ∧ CIn js (toR js R now k) (R.set k (R.getD k 0 - (toR js R now k - now))) := by
  obtain ⟨h1, h2, h3, h4, _⟩ := toR_gt hi hn
  have := chFin_piece (out := out) hn hi (toR js R now k - now).toNat (by omega) (by omega) (by omega)
  rw [show now + ((toR js R now k - now).toNat : Int) = toR js R now k by omega, show R.getD k 0 - ((toR js R now k - now).toNat : Int) = R.getD k 0 - (toR js R now k - now) by omega] at this
  refine ⟨this, ?_⟩
  have := hi.take h1 (d := toR js R now k - now) (by omega) (by omega)
  rwa [show now + (toR js R now k - now) = toR js R now k by omega] at this
/-- What is known of the spans so far: the last one ends now, or its job is done. -/
def MIn (js : List J) (now : Int) (R : List Int) (out : List Sp) : Prop := ∀ l, out.getLast? = some l → 0 ≤ l.j ∧ (l.t = now ∨ R.getD l.j.toNat 0 = 0) ∧ (js.getD l.j.toNat j0).r ≤ now ∧ l.j.toNat < js.length
theorem mIn_nil : MIn js now R [] := fun _ h => by cases h
theorem MIn.wait (h : MIn js now R out) (hn : chPick js obj R now < 0) {t : Int} (ht : now ≤ t) : MIn js t R out := fun l hl => by
  obtain ⟨h0, _, h2, h3⟩ := h l hl
  exact ⟨h0, .inr (chPick_none hn h3 h2), by omega, h3⟩
theorem putSp_last (out : List Sp) (k : Nat) (f t : Int) : ∃ l, (putSp out k f t).getLast? = some l ∧ l.j = k ∧ l.t = t := by
  unfold putSp
  cases h : out.getLast? with
  | none => exact ⟨_, rfl, rfl, rfl⟩
  | some l =>
    simp only
    by_cases hc : l.j = (k : Int) ∧ l.t = f
    · rw [if_pos hc, List.getLast?_concat]; exact ⟨_, rfl, hc.1, rfl⟩
    · rw [if_neg hc, List.getLast?_concat]; exact ⟨_, rfl, rfl, rfl⟩
theorem MIn.take {k : Nat} (hn : chPick js obj R now = (k : Int)) {t : Int} (ht : now ≤ t) (R' : List Int) : MIn js t R' (putSp out k now t) := fun l hl => by
  obtain ⟨l', e, e1, e2⟩ := putSp_last out k now t
  rw [e] at hl
  injection hl with hl
  subst hl
  have h1 := chPick_in (js := js) (obj := obj) (R := R) (now := now) (by omega)
  rw [hn, Int.toNat_natCast] at h1
  rw [e1, Int.toNat_natCast]
  exact ⟨by omega, .inl e2, by omega, h1.1⟩
/-- The program's way to put a piece: it looks at the job alone. -/
theorem putSp_job (h : MIn js now R out) {k : Nat} (hn : chPick js obj R now = (k : Int)) {l : Sp} (hl : out.getLast? = some l) : (l.j = (k : Int) ∧ l.t = now) ↔ l.j = (k : Int) := by
  obtain ⟨h0, h1, _, _⟩ := h l hl
  refine ⟨fun h => h.1, fun e => ⟨e, ?_⟩⟩
  rcases h1 with h1 | h1
  · exact h1
  · have h2 := (chPick_in (js := js) (obj := obj) (R := R) (now := now) (by omega)).2.1
    rw [hn, Int.toNat_natCast] at h2
    rw [e, Int.toNat_natCast] at h1
    exact absurd h1 h2
end
end Go.Proofs.Ytnkoncplfedffaa
