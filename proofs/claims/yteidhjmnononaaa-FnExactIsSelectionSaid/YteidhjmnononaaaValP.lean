/- Plain words for the values of orders, idle times, blocks and late jobs. -/
import Derived.Test.YteidhjmnononaaaJobP
namespace Go.Proofs.Yteidhjmnononaaa

/-- Bounds of the ends behind a time. -/
theorem step_bd {j : J} (h : okJ j = true) {now : Int} {m : Nat} (h0 : 0 ≤ now) (h1 : now ≤ 500 + 50 * m) : 0 ≤ max now j.r + j.t ∧ max now j.r + j.t ≤ 500 + 50 * (m + 1 : Nat) := by
  obtain ⟨a, b, _, _, e, f, _⟩ := okJ_out h
  omega
theorem endsGo_bd (js : List J) (hg : ∀ j ∈ js, okJ j = true) : ∀ (p : List Nat) (now : Int) (m : Nat) (xs : List Int), (∀ j ∈ p, j < js.length) → 0 ≤ now → now ≤ 500 + 50 * m → m + p.length ≤ 8 → (∀ x ∈ xs, 0 ≤ x ∧ x ≤ 1000) → ∀ x ∈ endsGo js p now xs, 0 ≤ x ∧ x ≤ 1000
  | [], _, _, xs, _, _, _, _, hx, x, h => hx x h
  | j :: p, now, m, xs, hp, h0, h1, hm, hx, x, h => by
    unfold endsGo at h
    have hj := hp j List.mem_cons_self
    have hok : okJ (js.getD j j0) = true := by
      rw [List.getD_eq_getElem?_getD, List.getElem?_eq_getElem hj]
      exact hg _ (List.getElem_mem hj)
    obtain ⟨s0, s1⟩ := step_bd hok h0 h1
    simp only [List.length_cons] at hm
    refine endsGo_bd js hg p _ (m + 1) _ (fun k hk => hp k (List.mem_cons_of_mem _ hk)) s0 s1 (by omega) ?_ x h
    intro y hy
    rcases List.mem_or_eq_of_mem_set hy with h | h
    · exact hx y h
    · subst h; exact ⟨s0, by omega⟩
theorem endsL_bd {js : List J} (hg : goodL js = true) {p : List Nat} (hp : p.Perm (List.range js.length)) : ∀ x ∈ endsL js p, 0 ≤ x ∧ x ≤ 1000 := by
  obtain ⟨h8, hok⟩ := good_out hg
  refine endsGo_bd js hok p 0 0 _ (fun j hj => perm_lt hp hj) (by omega) (by omega) (by have := hp.length_eq; simp at this; omega) ?_
  intro x hx
  rw [List.mem_replicate] at hx
  omega

/-- What a job costs by its end. -/
def costOf (o : Int) (j : J) (e : Int) : Int :=
  if o = 1 ∨ o = 2 then e else if o = 3 then j.w * e else if o = 4 then e - j.d else if o = 5 then max (e - j.d) 0
  else if o = 6 then j.w * max (e - j.d) 0 else if o = 7 then min (max (e - j.d) 0) 1 else j.w * min (max (e - j.d) 0) 1
def isObj (o : Int) : Bool := decide (1 ≤ o ∧ o ≤ 8)
def isTop (o : Int) : Bool := decide (o = 1 ∨ o = 4)
theorem costOf_1 (j : J) (e : Int) : costOf 1 j e = e := rfl
theorem costOf_2 (j : J) (e : Int) : costOf 2 j e = e := rfl
theorem costOf_3 (j : J) (e : Int) : costOf 3 j e = j.w * e := rfl
theorem costOf_4 (j : J) (e : Int) : costOf 4 j e = e - j.d := rfl
theorem costOf_5 (j : J) (e : Int) : costOf 5 j e = max (e - j.d) 0 := rfl
theorem costOf_6 (j : J) (e : Int) : costOf 6 j e = j.w * max (e - j.d) 0 := rfl
theorem costOf_7 (j : J) (e : Int) : costOf 7 j e = min (max (e - j.d) 0) 1 := rfl
theorem costOf_8 (j : J) (e : Int) : costOf 8 j e = j.w * min (max (e - j.d) 0) 1 := rfl
theorem obj_cases {o : Int} (h : isObj o = true) : o = 1 ∨ o = 2 ∨ o = 3 ∨ o = 4 ∨ o = 5 ∨ o = 6 ∨ o = 7 ∨ o = 8 := by
  unfold isObj at h
  have := of_decide_eq_true h
  omega
theorem mul_bd {a b : Int} {c : Int} (h0 : 0 ≤ a) (h1 : a ≤ 50) (h2 : 0 ≤ b) (h3 : b ≤ c) : 0 ≤ a * b ∧ a * b ≤ 50 * c := by
  refine ⟨Int.mul_nonneg h0 h2, ?_⟩
  calc a * b ≤ 50 * b := Int.mul_le_mul_of_nonneg_right h1 h2
    _ ≤ 50 * c := by omega
theorem cost_bd {o : Int} (ho : isObj o = true) {j : J} (hj : okJ j = true) {e : Int} (h0 : 0 ≤ e) (h1 : e ≤ 1000) : -500 ≤ costOf o j e ∧ costOf o j e ≤ 50000 ∧ (isTop o = false → 0 ≤ costOf o j e) := by
  obtain ⟨_, _, w0, w1, _, _, d0, d1⟩ := okJ_out hj
  rcases obj_cases ho with rfl | rfl | rfl | rfl | rfl | rfl | rfl | rfl
  · rw [costOf_1]; omega
  · rw [costOf_2]; omega
  · rw [costOf_3]; have := mul_bd w0 w1 h0 h1; omega
  · rw [costOf_4]; refine ⟨by omega, by omega, fun h => by cases h⟩
  · rw [costOf_5]; omega
  · rw [costOf_6]; have := mul_bd (b := max (e - j.d) 0) (c := 1000) w0 w1 (by omega) (by omega); omega
  · rw [costOf_7]; omega
  · rw [costOf_8]; have := mul_bd (b := min (max (e - j.d) 0) 1) (c := 1000) w0 w1 (by omega) (by omega); omega
/-- The value of so many jobs, and one more. -/
def extOf (o : Int) (k : Nat) (v c : Int) : Int := if k = 0 then c else if isTop o then max v c else v + c
/-- The value, over jobs and their ends from a place on. -/
def valGo (o : Int) : List J → List Int → Nat → Int → Int
  | j :: js, e :: es, k, v => valGo o js es (k + 1) (extOf o k v (costOf o j e))
  | _, _, _, v => v
def valOf (o : Int) (js : List J) (es : List Int) : Int := valGo o js es 0 0
theorem valGo_drop (o : Int) (js : List J) (es : List Int) (k : Nat) (v : Int) (h : k < js.length) (h' : k < es.length) :
    valGo o (js.drop k) (es.drop k) k v = valGo o (js.drop (k + 1)) (es.drop (k + 1)) (k + 1) (extOf o k v (costOf o js[k] es[k])) := by
  rw [List.drop_eq_getElem_cons h, List.drop_eq_getElem_cons h']; rfl
theorem valGo_end (o : Int) (js : List J) (es : List Int) (k : Nat) (v : Int) (h : js.length ≤ k) : valGo o (js.drop k) (es.drop k) k v = v := by
  rw [List.drop_eq_nil_of_le h]; rfl
theorem ext_bd {o : Int} {k : Nat} {v c : Int} (hv0 : -500 ≤ v) (hv1 : v ≤ 50000 * k) (h0 : -500 ≤ c) (h1 : c ≤ 50000) (h2 : isTop o = false → 0 ≤ c) : -500 ≤ extOf o k v c ∧ extOf o k v c ≤ 50000 * (k + 1 : Nat) := by
  unfold extOf
  by_cases hk : k = 0
  · rw [if_pos hk]; omega
  · rw [if_neg hk]
    cases ht : isTop o
    · have := h2 ht; simp only [Bool.false_eq_true, if_false]; omega
    · simp only [if_true]; omega
end Go.Proofs.Yteidhjmnononaaa
