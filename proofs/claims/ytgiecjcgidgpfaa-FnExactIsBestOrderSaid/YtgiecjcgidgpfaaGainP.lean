/- Plain words for exchanges of neighbors. -/
import Derived.Test.YtgiecjcgidgpfaaBestP
import Derived.Test.YtgiecjcgidgpfaaSwap
namespace Go.Proofs.Ytgiecjcgidgpfaa
theorem swI_zero (x y : Int) (b : List Int) : swI (x :: y :: b) 0 = y :: x :: b := rfl
theorem swI_succ (x : Int) (xs : List Int) (i : Nat) : swI (x :: xs) (i + 1) = x :: swI xs i := rfl
theorem swI_perm : ∀ (xs : List Int) (i : Nat), i + 1 < xs.length → (swI xs i).Perm xs
  | [], i, h => by simp at h
  | [x], i, h => by simp at h
  | x :: y :: b, 0, _ => List.Perm.swap x y b
  | x :: y :: b, i + 1, h => by
    rw [swI_succ]
    exact List.Perm.cons x (swI_perm (y :: b) i (by simpa using h))
theorem two_swap {js : List J} {o : List Int} {i : Nat} (h : twoB js o = true) (hi : i + 1 < o.length) : twoB js (swI o i) = true := by
  unfold twoB at h ⊢
  rw [Bool.and_eq_true] at h ⊢
  obtain ⟨h0, h8, hl, ha⟩ := ord_out h.2
  have hp := swI_perm o i hi
  exact ⟨h.1, ord_mk ⟨h0, h8, by rw [swI_len]; exact hl, fun k hk => hp.mem_iff.2 (ha k hk)⟩⟩
theorem valGo_bd {ob : Int} (ho : isObj ob = true) : ∀ (js : List J) (es : List Int) (k : Nat) (v : Int), (∀ j ∈ js, okJ j = true) → (∀ x ∈ es, 0 ≤ x ∧ x ≤ 900) → -500 ≤ v → v ≤ 45000 * k → -500 ≤ valGo ob js es k v ∧ valGo ob js es k v ≤ 45000 * (k + js.length : Nat)
  | [], _, k, v, _, _, h0, h1 => by simp only [valGo, List.length_nil]; omega
  | j :: js, [], k, v, _, _, h0, h1 => by simp only [valGo, List.length_cons]; omega
  | j :: js, e :: es, k, v, hj, he, h0, h1 => by
    have hx := he e List.mem_cons_self
    have hc := cost_bd ho (hj j List.mem_cons_self) hx.1 hx.2
    have hb := ext_bd (o := ob) (k := k) h0 h1 hc.1 hc.2.1 hc.2.2
    have := valGo_bd ho js es (k + 1) _ (fun x hx => hj x (List.mem_cons_of_mem _ hx)) (fun x hx => he x (List.mem_cons_of_mem _ hx)) hb.1 hb.2
    simp only [valGo, List.length_cons]
    omega
def valI (ob : Int) (js : List J) (o : List Int) : Int := valOf ob js (endsL js (natsOf o))
theorem two_bd {js : List J} {o : List Int} (ht : twoB js o = true) : ∀ x ∈ endsL js (natsOf o), 0 ≤ x ∧ x ≤ 900 := by
  obtain ⟨hg, p, _, hp, hpn⟩ := two_out ht
  rw [hpn]; exact endsL_bd hg hp
theorem valI_bd {ob : Int} (ho : isObj ob = true) {js : List J} {o : List Int} (ht : twoB js o = true) : -500 ≤ valI ob js o ∧ valI ob js o ≤ 360000 := by
  obtain ⟨h8, hok⟩ := good_out (two_out ht).1
  have := valGo_bd ho js (endsL js (natsOf o)) 0 0 hok (two_bd ht) (by omega) (by omega)
  unfold valI valOf
  omega
def gainI (ob : Int) (js : List J) (o : List Int) (i : Nat) : Int := valI ob js o - valI ob js (swI o i)
def nextV (ob : Int) (js : List J) (o : List Int) : Option Nat := (List.range (o.length - 1)).find? fun i => decide (0 < gainI ob js o i)
theorem find_none {p : Nat → Bool} {n : Nat} (h : ∀ i, i < n → p i = false) : (List.range n).find? p = none := by
  rw [List.find?_eq_none]
  intro i hi
  rw [h i (List.mem_range.1 hi)]; simp
theorem find_some {p : Nat → Bool} {k : Nat} (hp : p k = true) (hb : ∀ i, i < k → p i = false) : ∀ n, k < n → (List.range n).find? p = some k
  | 0, h => by omega
  | n + 1, h => by
    rw [List.range_succ, List.find?_append]
    by_cases e : k = n
    · subst e
      rw [find_none hb]
      simp [hp]
    · rw [find_some hp hb n (by omega)]; rfl
theorem next_none {ob : Int} {js : List J} {o : List Int} (h : ∀ i, i < o.length - 1 → gainI ob js o i ≤ 0) : nextV ob js o = none :=
  find_none fun i hi => decide_eq_false (by have := h i hi; omega)
theorem next_some {ob : Int} {js : List J} {o : List Int} {k : Nat} (hk : k < o.length - 1) (hp : 0 < gainI ob js o k) (h : ∀ i, i < k → gainI ob js o i ≤ 0) : nextV ob js o = some k :=
  find_some (decide_eq_true hp) (fun i hi => decide_eq_false (by have := h i hi; omega)) _ hk
theorem next_out {ob : Int} {js : List J} {o : List Int} {k : Nat} (h : nextV ob js o = some k) : k + 1 < o.length ∧ 0 < gainI ob js o k := by
  unfold nextV at h
  have h1 := List.mem_range.1 (List.mem_of_find?_eq_some h)
  have h2 : 0 < gainI ob js o k := by simpa using List.find?_some h
  exact ⟨by omega, h2⟩
/-- Exchanging downwards, so many times at most. -/
def downGo (ob : Int) (js : List J) : Nat → List Int → Nat → List Int × Nat
  | 0, o, c => (o, c)
  | n + 1, o, c => match nextV ob js o with
    | none => (o, c)
    | some i => downGo ob js n (swI o i) (c + 1)
def measI (ob : Int) (js : List J) (o : List Int) : Nat := (valI ob js o + 500).toNat
theorem meas_down {ob : Int} (ho : isObj ob = true) {js : List J} {o : List Int} (ht : twoB js o = true) {i : Nat} (h : nextV ob js o = some i) : measI ob js (swI o i) < measI ob js o := by
  obtain ⟨h1, h2⟩ := next_out h
  have b1 := valI_bd ho (two_swap ht h1)
  unfold gainI at h2
  unfold measI
  omega
def downR (ob : Int) (js : List J) (o : List Int) : List Int × Nat := downGo ob js (measI ob js o + 1) o 0
end Go.Proofs.Ytgiecjcgidgpfaa
