/- Texts joined: JobP ValP IdleP BestP DueP RulP EaP RegInv SetB Mem MapW MeasI Seg Ints Jobs ArgJ SegH. -/
import Init
import Derived.Orders
import Derived.OrdersHeld
import Derived.Deep.Draws
import Derived.Test.YtnkoncplfedffaaDoorBase
import Derived.Laws.OwnMore
import Derived.Laws.Rows
import Derived.Laws.MakeOwn
import Derived.Deep.OwnRows
import Derived.OwnWalk
import Derived.Maps.AppendAt
import Derived.WalkSpells
import Derived.WalkSmall
import Derived.MapKept
import Derived.Deep.RegionWith
import Derived.Deep.Slices
import Derived.Deep.Fields
import Derived.ChangeSame
namespace Go.Proofs.YtnkoncplfedffaaDoor

structure J where
  t : Int
  w : Int
  r : Int
  d : Int
def j0 : J := ⟨0, 0, 0, 0⟩
/-- The numbers of a job are in their limits. -/
def okJ (j : J) : Bool := decide (1 ≤ j.t ∧ j.t ≤ 50 ∧ 0 ≤ j.w ∧ j.w ≤ 50 ∧ 0 ≤ j.r ∧ j.r ≤ 500 ∧ 0 ≤ j.d ∧ j.d ≤ 500)
theorem okJ_iff (j : J) : okJ j = true ↔ (1 ≤ j.t ∧ j.t ≤ 50 ∧ 0 ≤ j.w ∧ j.w ≤ 50 ∧ 0 ≤ j.r ∧ j.r ≤ 500 ∧ 0 ≤ j.d ∧ j.d ≤ 500) := by unfold okJ; exact decide_eq_true_iff
theorem okJ_out {j : J} (h : okJ j = true) : 1 ≤ j.t ∧ j.t ≤ 50 ∧ 0 ≤ j.w ∧ j.w ≤ 50 ∧ 0 ≤ j.r ∧ j.r ≤ 500 ∧ 0 ≤ j.d ∧ j.d ≤ 500 := (okJ_iff j).1 h
theorem okJ_not {j : J} (h : okJ j = false) : ¬ (1 ≤ j.t ∧ j.t ≤ 50 ∧ 0 ≤ j.w ∧ j.w ≤ 50 ∧ 0 ≤ j.r ∧ j.r ≤ 500 ∧ 0 ≤ j.d ∧ j.d ≤ 500) := fun h' => by rw [(okJ_iff j).2 h'] at h; cases h
/-- A list of jobs. -/
def goodL (js : List J) : Bool := js.all okJ && decide (js.length ≤ 8)
theorem good_out {js : List J} (h : goodL js = true) : js.length ≤ 8 ∧ ∀ j ∈ js, okJ j = true := by
  unfold goodL at h
  rw [Bool.and_eq_true, List.all_eq_true, decide_eq_true_iff] at h
  exact ⟨h.2, h.1⟩
theorem good_mk {js : List J} (h : js.length ≤ 8) (h' : ∀ j ∈ js, okJ j = true) : goodL js = true := by
  unfold goodL
  rw [Bool.and_eq_true, List.all_eq_true, decide_eq_true_iff]
  exact ⟨h', h⟩
theorem good_long {js : List J} (h : 8 < js.length) : goodL js = false := by
  unfold goodL; rw [decide_eq_false (by omega), Bool.and_false]
theorem good_bad {js : List J} {j : J} (hj : j ∈ js) (h : okJ j = false) : goodL js = false := by
  unfold goodL
  rw [Bool.and_eq_false_iff]
  left
  rw [List.all_eq_false]
  exact ⟨j, hj, by rw [h]; simp⟩
theorem good_at {js : List J} (h : goodL js = true) {k : Nat} (hk : k < js.length) : okJ js[k] = true := (good_out h).2 _ (List.getElem_mem hk)

/-- An order of n jobs. -/
def ordB (n : Int) (o : List Int) : Bool := decide (0 ≤ n ∧ n ≤ 8 ∧ (o.length : Int) = n ∧ ∀ i : Nat, i < n.toNat → (i : Int) ∈ o)
theorem ord_out {n : Int} {o : List Int} (h : ordB n o = true) : 0 ≤ n ∧ n ≤ 8 ∧ (o.length : Int) = n ∧ ∀ i : Nat, i < n.toNat → (i : Int) ∈ o := by
  unfold ordB at h; exact of_decide_eq_true h
theorem ord_not {n : Int} {o : List Int} (h : ¬ (0 ≤ n ∧ n ≤ 8 ∧ (o.length : Int) = n ∧ ∀ i : Nat, i < n.toNat → (i : Int) ∈ o)) : ordB n o = false := by
  unfold ordB; exact decide_eq_false h
theorem ord_mk {n : Int} {o : List Int} (h : 0 ≤ n ∧ n ≤ 8 ∧ (o.length : Int) = n ∧ ∀ i : Nat, i < n.toNat → (i : Int) ∈ o) : ordB n o = true := by
  unfold ordB; exact decide_eq_true h

theorem perm_of_subset : ∀ {l o : List Int}, l.Nodup → l ⊆ o → o.length ≤ l.length → o.Perm l
  | [], o, _, _, hl => by
    have h0 : o = [] := List.eq_nil_of_length_eq_zero (by simpa using hl)
    rw [h0]
  | a :: l, o, hd, hs, hl => by
    obtain ⟨h1, h2⟩ := List.nodup_cons.1 hd
    have ha : a ∈ o := hs List.mem_cons_self
    refine (List.perm_cons_erase ha).trans (List.Perm.cons a (perm_of_subset h2 (fun x hx => ?_) ?_))
    · exact (List.mem_erase_of_ne (fun e => h1 (by rw [← e]; exact hx))).2 (hs (List.mem_cons_of_mem _ hx))
    · have := List.length_erase_of_mem ha
      simp only [List.length_cons] at hl
      omega
/-- A list of n numbers that has each of 0..n-1 is a shuffle of these. -/
theorem perm_of_all {o : List Int} (h : ∀ i : Nat, i < o.length → (i : Int) ∈ o) : o.Perm ((List.range o.length).map Int.ofNat) := by
  have hn : ((List.range o.length).map Int.ofNat).Nodup := by
    refine List.Pairwise.map _ ?_ List.nodup_range
    intro a b hab he
    exact hab (Int.ofNat.inj he)
  have hs : ((List.range o.length).map Int.ofNat) ⊆ o := by
    intro x hx
    obtain ⟨i, hi, rfl⟩ := List.mem_map.1 hx
    exact h i (List.mem_range.1 hi)
  exact perm_of_subset hn hs (by simp)
/-- What a valid order is: some natural numbers, a shuffle of 0..n-1. -/
theorem ord_nat {n : Nat} {o : List Int} (h : ordB (n : Int) o = true) : ∃ p : List Nat, o = p.map Int.ofNat ∧ p.Perm (List.range n) ∧ p.length = n ∧ n ≤ 8 := by
  obtain ⟨_, h8, hl, ha⟩ := ord_out h
  have hl' : o.length = n := by omega
  have hp := perm_of_all (o := o) (by intro i hi; exact ha i (by omega))
  rw [hl'] at hp
  refine ⟨o.map Int.toNat, ?_, ?_, by simpa using hl', by omega⟩
  · rw [List.map_map]
    symm
    have : ∀ x ∈ o, (Int.ofNat ∘ Int.toNat) x = x := by
      intro x hx
      obtain ⟨i, _, rfl⟩ := List.mem_map.1 (hp.mem_iff.1 hx)
      rfl
    rw [List.map_congr_left this, List.map_id']
  · have := hp.map Int.toNat
    rwa [List.map_map, show (Int.toNat ∘ Int.ofNat) = id from rfl, List.map_id] at this
theorem ord_of_perm {n : Nat} {p : List Nat} (h : p.Perm (List.range n)) (h8 : n ≤ 8) : ordB (n : Int) (p.map Int.ofNat) = true := by
  have hl : p.length = n := by simpa using h.length_eq
  exact ord_mk ⟨by omega, by omega, by rw [List.length_map, hl], fun i hi => List.mem_map.2 ⟨i, h.mem_iff.2 (List.mem_range.2 (by omega)), rfl⟩⟩
theorem perm_lt {n : Nat} {p : List Nat} (h : p.Perm (List.range n)) {j : Nat} (hj : j ∈ p) : j < n := List.mem_range.1 (h.mem_iff.1 hj)
theorem perm_nodup {n : Nat} {p : List Nat} (h : p.Perm (List.range n)) : p.Nodup := h.nodup_iff.2 List.nodup_range
theorem perm_mem {n : Nat} {p : List Nat} (h : p.Perm (List.range n)) {j : Nat} (hj : j < n) : j ∈ p := h.mem_iff.2 (List.mem_range.2 hj)

/-- What the program asks of an order, number by number: in range, and none of those before. -/
theorem ord_prefix {n : Nat} {o : List Int} (hl : o.length = n) (h8 : n ≤ 8) (hr : ∀ x ∈ o, 0 ≤ x ∧ x < n) (hd : o.Nodup) : ordB (n : Int) o = true := by
  refine ord_mk ⟨by omega, by omega, by omega, fun i hi => ?_⟩
  have hs : o ⊆ (List.range n).map Int.ofNat := by
    intro x hx
    obtain ⟨h0, h1⟩ := hr x hx
    exact List.mem_map.2 ⟨x.toNat, List.mem_range.2 (by omega), by simp only [Int.ofNat_eq_natCast]; omega⟩
  have hp := perm_of_subset hd hs (by simp [hl])
  exact hp.mem_iff.1 (List.mem_map.2 ⟨i, List.mem_range.2 (by omega), rfl⟩)
theorem ord_range {n : Nat} {o : List Int} (h : ordB (n : Int) o = true) : (∀ x ∈ o, 0 ≤ x ∧ x < n) ∧ o.Nodup := by
  obtain ⟨p, rfl, hp, _, _⟩ := ord_nat h
  refine ⟨fun x hx => ?_, ?_⟩
  · obtain ⟨i, hi, rfl⟩ := List.mem_map.1 hx
    have := perm_lt hp hi
    simp only [Int.ofNat_eq_natCast]; omega
  · refine List.Pairwise.map _ ?_ (perm_nodup hp)
    intro a b hab he
    exact hab (Int.ofNat.inj he)

/-- The ends of the jobs of an order, behind a time, written into a list. -/
def endsGo (js : List J) : List Nat → Int → List Int → List Int
  | [], _, xs => xs
  | j :: p, now, xs => endsGo js p (max now (js.getD j j0).r + (js.getD j j0).t) (xs.set j (max now (js.getD j j0).r + (js.getD j j0).t))
def startsGo (js : List J) : List Nat → Int → List Int → List Int
  | [], _, xs => xs
  | j :: p, now, xs => startsGo js p (max now (js.getD j j0).r + (js.getD j j0).t) (xs.set j (max now (js.getD j j0).r))
/-- The end of the last job of an order, behind a time. -/
def lastGo (js : List J) : List Nat → Int → Int
  | [], now => now
  | j :: p, now => lastGo js p (max now (js.getD j j0).r + (js.getD j j0).t)
def endsL (js : List J) (p : List Nat) : List Int := endsGo js p 0 (List.replicate js.length 0)
def startsL (js : List J) (p : List Nat) : List Int := startsGo js p 0 (List.replicate js.length 0)
theorem endsGo_len (js : List J) : ∀ (p : List Nat) (now : Int) (xs : List Int), (endsGo js p now xs).length = xs.length
  | [], _, _ => rfl
  | j :: p, now, xs => by unfold endsGo; rw [endsGo_len js p]; simp
theorem startsGo_len (js : List J) : ∀ (p : List Nat) (now : Int) (xs : List Int), (startsGo js p now xs).length = xs.length
  | [], _, _ => rfl
  | j :: p, now, xs => by unfold startsGo; rw [startsGo_len js p]; simp
theorem endsL_len (js : List J) (p : List Nat) : (endsL js p).length = js.length := by unfold endsL; rw [endsGo_len]; simp
theorem startsL_len (js : List J) (p : List Nat) : (startsL js p).length = js.length := by unfold startsL; rw [startsGo_len]; simp
theorem getD_set_ne {α : Type} (xs : List α) (i j : Nat) (a d : α) (h : i ≠ j) : (xs.set i a).getD j d = xs.getD j d := by
  simp only [List.getD_eq_getElem?_getD, List.getElem?_set_ne h]
theorem getD_set_eq {α : Type} (xs : List α) (i : Nat) (a d : α) (h : i < xs.length) : (xs.set i a).getD i d = a := by
  simp only [List.getD_eq_getElem?_getD, List.getElem?_set_self h, Option.getD_some]
theorem endsGo_out (js : List J) : ∀ (p : List Nat) (now : Int) (xs : List Int) (i : Nat), i ∉ p → (endsGo js p now xs).getD i 0 = xs.getD i 0
  | [], _, _, _, _ => rfl
  | j :: p, now, xs, i, h => by
    unfold endsGo
    rw [endsGo_out js p _ _ i (fun e => h (List.mem_cons_of_mem _ e)), getD_set_ne _ _ _ _ _ (fun e => h (by rw [e]; exact List.mem_cons_self))]
theorem startsGo_out (js : List J) : ∀ (p : List Nat) (now : Int) (xs : List Int) (i : Nat), i ∉ p → (startsGo js p now xs).getD i 0 = xs.getD i 0
  | [], _, _, _, _ => rfl
  | j :: p, now, xs, i, h => by
    unfold startsGo
    rw [startsGo_out js p _ _ i (fun e => h (List.mem_cons_of_mem _ e)), getD_set_ne _ _ _ _ _ (fun e => h (by rw [e]; exact List.mem_cons_self))]
/-- An end is the start and the time. -/
theorem end_start (js : List J) : ∀ (p : List Nat) (now : Int) (xs ys : List Int), p.Nodup → (∀ j ∈ p, j < xs.length ∧ j < ys.length) → ∀ i ∈ p, (endsGo js p now xs).getD i 0 = (startsGo js p now ys).getD i 0 + (js.getD i j0).t
  | [], _, _, _, _, _, i, hi => by cases hi
  | j :: p, now, xs, ys, hd, hl, i, hi => by
    obtain ⟨h1, h2⟩ := List.nodup_cons.1 hd
    unfold endsGo startsGo
    by_cases e : i = j
    · subst e
      obtain ⟨l1, l2⟩ := hl i List.mem_cons_self
      rw [endsGo_out js p _ _ i h1, startsGo_out js p _ _ i h1, getD_set_eq _ _ _ _ l1, getD_set_eq _ _ _ _ l2]
    · have hi' : i ∈ p := by
        rcases List.mem_cons.1 hi with h | h
        · exact absurd h e
        · exact h
      exact end_start js p _ _ _ h2 (fun k hk => by simp only [List.length_set]; exact hl k (List.mem_cons_of_mem _ hk)) i hi'
theorem end_startL (js : List J) (p : List Nat) (hp : p.Perm (List.range js.length)) (i : Nat) (hi : i < js.length) : (endsL js p).getD i 0 = (startsL js p).getD i 0 + (js.getD i j0).t :=
  end_start js p 0 _ _ (perm_nodup hp) (fun j hj => by have := perm_lt hp hj; simp only [List.length_replicate]; omega) i (perm_mem hp hi)
end Go.Proofs.YtnkoncplfedffaaDoor

namespace Go.Proofs.YtnkoncplfedffaaDoor

/-- Bounds of the ends behind a time. -/
theorem step_bd {j : J} (h : okJ j = true) {now : Int} {m : Nat} (h0 : 0 ≤ now) (h1 : now ≤ 500 + 50 * m) : 0 ≤ max now j.r + j.t ∧ max now j.r + j.t ≤ 500 + 50 * (m + 1 : Nat) := by
  obtain ⟨a, b, _, _, e, f, _⟩ := okJ_out h
  omega
theorem endsGo_bd (js : List J) (hg : ∀ j ∈ js, okJ j = true) : ∀ (p : List Nat) (now : Int) (m : Nat) (xs : List Int), (∀ j ∈ p, j < js.length) → 0 ≤ now → now ≤ 500 + 50 * m → m + p.length ≤ 8 → (∀ x ∈ xs, 0 ≤ x ∧ x ≤ 1000) → ∀ x ∈ endsGo js p now xs, 0 ≤ x ∧ x ≤ 1000
  | [], _, _, xs, _, _, _, _, hx, x, h => hx x h
  | j :: p, now, m, xs, hp, h0, h1, hm, hx, x, h => by
    unfold endsGo at h
    have hj := hp j List.mem_cons_self
    have hok : okJ (js.getD j j0) = true := by
      rw [List.getD_eq_getElem?_getD, List.getElem?_eq_getElem hj]
      exact hg _ (List.getElem_mem hj)
    obtain ⟨s0, s1⟩ := step_bd hok h0 h1
    simp only [List.length_cons] at hm
    refine endsGo_bd js hg p _ (m + 1) _ (fun k hk => hp k (List.mem_cons_of_mem _ hk)) s0 s1 (by omega) ?_ x h
    intro y hy
    rcases List.mem_or_eq_of_mem_set hy with h | h
    · exact hx y h
    · subst h; exact ⟨s0, by omega⟩
theorem endsL_bd {js : List J} (hg : goodL js = true) {p : List Nat} (hp : p.Perm (List.range js.length)) : ∀ x ∈ endsL js p, 0 ≤ x ∧ x ≤ 1000 := by
  obtain ⟨h8, hok⟩ := good_out hg
  refine endsGo_bd js hok p 0 0 _ (fun j hj => perm_lt hp hj) (by omega) (by omega) (by have := hp.length_eq; simp at this; omega) ?_
  intro x hx
  rw [List.mem_replicate] at hx
  omega

/-- What a job costs by its end. -/
def costOf (o : Int) (j : J) (e : Int) : Int :=
  if o = 1 ∨ o = 2 then e else if o = 3 then j.w * e else if o = 4 then e - j.d else if o = 5 then max (e - j.d) 0
  else if o = 6 then j.w * max (e - j.d) 0 else if o = 7 then min (max (e - j.d) 0) 1 else j.w * min (max (e - j.d) 0) 1
def isObj (o : Int) : Bool := decide (1 ≤ o ∧ o ≤ 8)
def isTop (o : Int) : Bool := decide (o = 1 ∨ o = 4)
theorem costOf_1 (j : J) (e : Int) : costOf 1 j e = e := rfl
theorem costOf_2 (j : J) (e : Int) : costOf 2 j e = e := rfl
theorem costOf_3 (j : J) (e : Int) : costOf 3 j e = j.w * e := rfl
theorem costOf_4 (j : J) (e : Int) : costOf 4 j e = e - j.d := rfl
theorem costOf_5 (j : J) (e : Int) : costOf 5 j e = max (e - j.d) 0 := rfl
theorem costOf_6 (j : J) (e : Int) : costOf 6 j e = j.w * max (e - j.d) 0 := rfl
theorem costOf_7 (j : J) (e : Int) : costOf 7 j e = min (max (e - j.d) 0) 1 := rfl
theorem costOf_8 (j : J) (e : Int) : costOf 8 j e = j.w * min (max (e - j.d) 0) 1 := rfl
theorem obj_cases {o : Int} (h : isObj o = true) : o = 1 ∨ o = 2 ∨ o = 3 ∨ o = 4 ∨ o = 5 ∨ o = 6 ∨ o = 7 ∨ o = 8 := by
  unfold isObj at h
  have := of_decide_eq_true h
  omega
theorem mul_bd {a b : Int} {c : Int} (h0 : 0 ≤ a) (h1 : a ≤ 50) (h2 : 0 ≤ b) (h3 : b ≤ c) : 0 ≤ a * b ∧ a * b ≤ 50 * c := by
  refine ⟨Int.mul_nonneg h0 h2, ?_⟩
  calc a * b ≤ 50 * b := Int.mul_le_mul_of_nonneg_right h1 h2
    _ ≤ 50 * c := by omega
theorem cost_bd {o : Int} (ho : isObj o = true) {j : J} (hj : okJ j = true) {e : Int} (h0 : 0 ≤ e) (h1 : e ≤ 1000) : -500 ≤ costOf o j e ∧ costOf o j e ≤ 50000 ∧ (isTop o = false → 0 ≤ costOf o j e) := by
  obtain ⟨_, _, w0, w1, _, _, d0, d1⟩ := okJ_out hj
  rcases obj_cases ho with rfl | rfl | rfl | rfl | rfl | rfl | rfl | rfl
  · rw [costOf_1]; omega
  · rw [costOf_2]; omega
  · rw [costOf_3]; have := mul_bd w0 w1 h0 h1; omega
  · rw [costOf_4]; refine ⟨by omega, by omega, fun h => by cases h⟩
  · rw [costOf_5]; omega
  · rw [costOf_6]; have := mul_bd (b := max (e - j.d) 0) (c := 1000) w0 w1 (by omega) (by omega); omega
  · rw [costOf_7]; omega
  · rw [costOf_8]; have := mul_bd (b := min (max (e - j.d) 0) 1) (c := 1000) w0 w1 (by omega) (by omega); omega
/-- The value of so many jobs, and one more. -/
def extOf (o : Int) (k : Nat) (v c : Int) : Int := if k = 0 then c else if isTop o then max v c else v + c
/-- The value, over jobs and their ends from a place on. -/
def valGo (o : Int) : List J → List Int → Nat → Int → Int
  | j :: js, e :: es, k, v => valGo o js es (k + 1) (extOf o k v (costOf o j e))
  | _, _, _, v => v
def valOf (o : Int) (js : List J) (es : List Int) : Int := valGo o js es 0 0
theorem valGo_drop (o : Int) (js : List J) (es : List Int) (k : Nat) (v : Int) (h : k < js.length) (h' : k < es.length) :
    valGo o (js.drop k) (es.drop k) k v = valGo o (js.drop (k + 1)) (es.drop (k + 1)) (k + 1) (extOf o k v (costOf o js[k] es[k])) := by
  rw [List.drop_eq_getElem_cons h, List.drop_eq_getElem_cons h']; rfl
theorem valGo_end (o : Int) (js : List J) (es : List Int) (k : Nat) (v : Int) (h : js.length ≤ k) : valGo o (js.drop k) (es.drop k) k v = v := by
  rw [List.drop_eq_nil_of_le h]; rfl
theorem ext_bd {o : Int} {k : Nat} {v c : Int} (hv0 : -500 ≤ v) (hv1 : v ≤ 50000 * k) (h0 : -500 ≤ c) (h1 : c ≤ 50000) (h2 : isTop o = false → 0 ≤ c) : -500 ≤ extOf o k v c ∧ extOf o k v c ≤ 50000 * (k + 1 : Nat) := by
  unfold extOf
  by_cases hk : k = 0
  · rw [if_pos hk]; omega
  · rw [if_neg hk]
    cases ht : isTop o
    · have := h2 ht; simp only [Bool.false_eq_true, if_false]; omega
    · simp only [if_true]; omega
end Go.Proofs.YtnkoncplfedffaaDoor

namespace Go.Proofs.YtnkoncplfedffaaDoor

theorem getD_ok {js : List J} (hg : ∀ j ∈ js, okJ j = true) {k : Nat} (hk : k < js.length) : okJ (js.getD k j0) = true := by
  rw [List.getD_eq_getElem?_getD, List.getElem?_eq_getElem hk]; exact hg _ (List.getElem_mem hk)
theorem getD_at {α : Type} (xs : List α) (d : α) {k : Nat} (hk : k < xs.length) : xs.getD k d = xs[k] := by
  rw [List.getD_eq_getElem?_getD, List.getElem?_eq_getElem hk]; rfl
/-- How long no job is done, behind a time. -/
def idleGo (js : List J) : List Nat → Int → Int
  | [], _ => 0
  | j :: p, now => max ((js.getD j j0).r - now) 0 + idleGo js p (max now (js.getD j j0).r + (js.getD j j0).t)
def timesOf (js : List J) (p : List Nat) : Int := (p.map fun j => (js.getD j j0).t).sum
theorem last_idle (js : List J) : ∀ (p : List Nat) (now : Int), lastGo js p now = now + idleGo js p now + timesOf js p
  | [], now => by simp [lastGo, idleGo, timesOf]
  | j :: p, now => by
    unfold lastGo idleGo
    rw [last_idle js p]
    simp only [timesOf, List.map_cons, List.sum_cons]
    omega
theorem sum_perm {p q : List Int} (h : p.Perm q) : p.sum = q.sum := by
  induction h with
  | nil => rfl
  | cons x _ ih => simp only [List.sum_cons, ih]
  | swap x y l => simp only [List.sum_cons]; omega
  | trans _ _ h1 h2 => exact h1.trans h2
theorem range_getD {α β : Type} (f : α → β) (d : α) (xs : List α) : (List.range xs.length).map (fun j => f (xs.getD j d)) = xs.map f := by
  apply List.ext_getElem
  · simp
  · intro i h1 h2
    have hi : i < xs.length := by simpa using h2
    simp only [List.getElem_map, List.getElem_range]
    rw [getD_at xs d hi]
theorem times_all (js : List J) {p : List Nat} (hp : p.Perm (List.range js.length)) : timesOf js p = (js.map J.t).sum := by
  unfold timesOf
  rw [sum_perm (hp.map _), range_getD (fun j => j.t) j0 js]
theorem last_ge (js : List J) (hg : ∀ j ∈ js, okJ j = true) : ∀ (p : List Nat) (now : Int), (∀ j ∈ p, j < js.length) → now ≤ lastGo js p now
  | [], now, _ => Int.le_refl _
  | j :: p, now, hp => by
    unfold lastGo
    have := last_ge js hg p (max now (js.getD j j0).r + (js.getD j j0).t) (fun k hk => hp k (List.mem_cons_of_mem _ hk))
    have := okJ_out (getD_ok hg (hp j List.mem_cons_self))
    omega
theorem ends_le_last (js : List J) (hg : ∀ j ∈ js, okJ j = true) : ∀ (p : List Nat) (now : Int) (xs : List Int), p.Nodup → (∀ j ∈ p, j < js.length ∧ j < xs.length) → ∀ i ∈ p, (endsGo js p now xs).getD i 0 ≤ lastGo js p now
  | [], _, _, _, _, i, hi => by cases hi
  | j :: p, now, xs, hd, hl, i, hi => by
    obtain ⟨h1, h2⟩ := List.nodup_cons.1 hd
    unfold endsGo lastGo
    rcases List.mem_cons.1 hi with rfl | hi
    · rw [endsGo_out js p _ _ i h1, getD_set_eq _ _ _ _ (hl i List.mem_cons_self).2]
      exact last_ge js hg p _ (fun k hk => (hl k (List.mem_cons_of_mem _ hk)).1)
    · exact ends_le_last js hg p _ _ h2 (fun k hk => by simp only [List.length_set]; exact hl k (List.mem_cons_of_mem _ hk)) i hi
theorem ends_has_last (js : List J) : ∀ (p : List Nat) (now : Int) (xs : List Int), p.Nodup → (∀ j ∈ p, j < xs.length) → p ≠ [] → ∃ i ∈ p, (endsGo js p now xs).getD i 0 = lastGo js p now
  | [], _, _, _, _, h => absurd rfl h
  | j :: p, now, xs, hd, hl, _ => by
    obtain ⟨h1, h2⟩ := List.nodup_cons.1 hd
    unfold endsGo lastGo
    by_cases hp : p = []
    · subst hp
      exact ⟨j, List.mem_cons_self, getD_set_eq _ _ _ _ (hl j List.mem_cons_self)⟩
    · obtain ⟨i, hi, he⟩ := ends_has_last js p (max now (js.getD j j0).r + (js.getD j j0).t) (xs.set j (max now (js.getD j j0).r + (js.getD j j0).t)) h2 (fun k hk => by simp only [List.length_set]; exact hl k (List.mem_cons_of_mem _ hk)) hp
      exact ⟨i, List.mem_cons_of_mem _ hi, he⟩
/-- The greatest of some numbers, 0 if there are none. -/
def mostGo : List Int → Int → Int
  | [], m => m
  | x :: xs, m => mostGo xs (max m x)
theorem most_le {b : Int} : ∀ (xs : List Int) (m : Int), (∀ x ∈ xs, x ≤ b) → m ≤ b → mostGo xs m ≤ b
  | [], _, _, h => h
  | x :: xs, m, hx, h => most_le xs _ (fun y hy => hx y (List.mem_cons_of_mem _ hy)) (by have := hx x List.mem_cons_self; omega)
theorem most_ge : ∀ (xs : List Int) (m : Int), m ≤ mostGo xs m ∧ ∀ x ∈ xs, x ≤ mostGo xs m
  | [], _ => ⟨Int.le_refl _, by simp⟩
  | x :: xs, m => by
    obtain ⟨h1, h2⟩ := most_ge xs (max m x)
    refine ⟨by show m ≤ mostGo xs (max m x); omega, fun y hy => ?_⟩
    show y ≤ mostGo xs (max m x)
    rcases List.mem_cons.1 hy with rfl | hy
    · omega
    · exact h2 y hy
theorem mostGo_drop (xs : List Int) (k : Nat) (m : Int) (h : k < xs.length) : mostGo (xs.drop k) m = mostGo (xs.drop (k + 1)) (max m xs[k]) := by
  rw [List.drop_eq_getElem_cons h]; rfl
theorem most_last {js : List J} (hg : goodL js = true) {p : List Nat} (hp : p.Perm (List.range js.length)) : mostGo (endsL js p) 0 = lastGo js p 0 := by
  obtain ⟨h8, hok⟩ := good_out hg
  have hlt : ∀ j ∈ p, j < js.length := fun j hj => perm_lt hp hj
  have hxs : ∀ j ∈ p, j < (List.replicate js.length (0 : Int)).length := fun j hj => by simpa using hlt j hj
  refine Int.le_antisymm (most_le _ _ (fun x hx => ?_) (last_ge js hok p 0 hlt)) ?_
  · obtain ⟨i, hi, rfl⟩ := List.mem_iff_getElem.1 hx
    have hi' : i < js.length := by rw [endsL_len] at hi; exact hi
    have := ends_le_last js hok p 0 (List.replicate js.length 0) (perm_nodup hp) (fun j hj => ⟨hlt j hj, hxs j hj⟩) i (perm_mem hp hi')
    rwa [show endsGo js p 0 (List.replicate js.length 0) = endsL js p from rfl, getD_at _ _ hi] at this
  · by_cases hn : p = []
    · subst hn
      exact (most_ge _ 0).1
    · obtain ⟨i, hi, he⟩ := ends_has_last js p 0 _ (perm_nodup hp) hxs hn
      rw [← he]
      have hl : i < (endsL js p).length := by rw [endsL_len]; exact hlt i hi
      rw [show endsGo js p 0 (List.replicate js.length 0) = endsL js p from rfl, getD_at _ _ hl]
      exact (most_ge _ 0).2 _ (List.getElem_mem hl)
/-- The idle time, as the model tells it. -/
theorem idle_eq {js : List J} (hg : goodL js = true) {p : List Nat} (hp : p.Perm (List.range js.length)) : mostGo (endsL js p) 0 - (js.map J.t).sum = idleGo js p 0 := by
  rw [most_last hg hp, last_idle, times_all js hp]; omega

/-- The start and the end of the job at a place, by the end of those before it. -/
theorem lastGo_snoc (js : List J) : ∀ (p : List Nat) (j : Nat) (now : Int), lastGo js (p ++ [j]) now = max (lastGo js p now) (js.getD j j0).r + (js.getD j j0).t
  | [], _, _ => rfl
  | i :: p, j, now => by
    show lastGo js (p ++ [j]) _ = _
    rw [lastGo_snoc js p]; rfl
theorem start_at (js : List J) : ∀ (p : List Nat) (now : Int) (xs : List Int), p.Nodup → (∀ j ∈ p, j < xs.length) → ∀ (k : Nat) (hk : k < p.length), (startsGo js p now xs).getD p[k] 0 = max (lastGo js (p.take k) now) (js.getD p[k] j0).r
  | [], _, _, _, _, k, hk => by cases hk
  | j :: p, now, xs, hd, hl, k, hk => by
    obtain ⟨h1, h2⟩ := List.nodup_cons.1 hd
    unfold startsGo
    cases k with
    | zero =>
      show (startsGo js p _ _).getD j 0 = _
      rw [startsGo_out js p _ _ j h1, getD_set_eq _ _ _ _ (hl j List.mem_cons_self)]; rfl
    | succ k =>
      show (startsGo js p _ _).getD (p[k]'(by simpa using hk)) 0 = _
      rw [start_at js p _ _ h2 (fun i hi => by simp only [List.length_set]; exact hl i (List.mem_cons_of_mem _ hi)) k (by simpa using hk)]; rfl
theorem end_at (js : List J) : ∀ (p : List Nat) (now : Int) (xs : List Int), p.Nodup → (∀ j ∈ p, j < xs.length) → ∀ (k : Nat) (hk : k < p.length), (endsGo js p now xs).getD p[k] 0 = lastGo js (p.take (k + 1)) now
  | [], _, _, _, _, k, hk => by cases hk
  | j :: p, now, xs, hd, hl, k, hk => by
    obtain ⟨h1, h2⟩ := List.nodup_cons.1 hd
    unfold endsGo
    cases k with
    | zero =>
      show (endsGo js p _ _).getD j 0 = _
      rw [endsGo_out js p _ _ j h1, getD_set_eq _ _ _ _ (hl j List.mem_cons_self)]; rfl
    | succ k =>
      show (endsGo js p _ _).getD (p[k]'(by simpa using hk)) 0 = _
      rw [end_at js p _ _ h2 (fun i hi => by simp only [List.length_set]; exact hl i (List.mem_cons_of_mem _ hi)) k (by simpa using hk)]; rfl

/-- A job put behind the last block. -/
def snocLast : List (List Nat) → Nat → List (List Nat)
  | [], j => [[j]]
  | [b], j => [b ++ [j]]
  | b :: c :: bs, j => b :: snocLast (c :: bs) j
/-- The blocks of the first k jobs of an order. -/
def blksTo (js : List J) (p : List Nat) : Nat → List (List Nat)
  | 0 => []
  | k + 1 => if k = 0 ∨ lastGo js (p.take k) 0 < (js.getD (p.getD k 0) j0).r then blksTo js p k ++ [[p.getD k 0]] else snocLast (blksTo js p k) (p.getD k 0)
theorem blk_test {js : List J} {p : List Nat} (hp : p.Perm (List.range js.length)) {k : Nat} (hk : k < p.length) (h0 : 0 < k) :
    ((startsL js p).getD (p.getD k 0) 0 = (endsL js p).getD (p.getD (k - 1) 0) 0) ↔ ¬ (lastGo js (p.take k) 0 < (js.getD (p.getD k 0) j0).r) := by
  have hxs : ∀ j ∈ p, j < (List.replicate js.length (0 : Int)).length := fun j hj => by simpa using perm_lt hp hj
  unfold startsL endsL
  rw [getD_at p 0 hk, getD_at p 0 (show k - 1 < p.length by omega), start_at js p 0 _ (perm_nodup hp) hxs k hk, end_at js p 0 _ (perm_nodup hp) hxs (k - 1) (by omega)]
  rw [show k - 1 + 1 = k by omega]
  omega

/-- The late jobs among the first k. -/
def lateTo (js : List J) (es : List Int) (k : Nat) : List Nat := (List.range k).filter fun i => decide ((js.getD i j0).d < es.getD i 0)
theorem lateTo_succ (js : List J) (es : List Int) (k : Nat) : lateTo js es (k + 1) = if (js.getD k j0).d < es.getD k 0 then lateTo js es k ++ [k] else lateTo js es k := by
  unfold lateTo
  rw [List.range_succ, List.filter_append]
  by_cases h : (js.getD k j0).d < es.getD k 0
  · rw [if_pos h]; simp only [List.filter_cons, h, decide_true, if_true, List.filter_nil]
  · rw [if_neg h]; simp only [List.filter_cons, h, decide_false, Bool.false_eq_true, if_false, List.filter_nil, List.append_nil]
theorem lateTo_len (js : List J) (es : List Int) (k : Nat) : (lateTo js es k).length ≤ k := by
  unfold lateTo
  have := List.length_filter_le (fun i => decide ((js.getD i j0).d < es.getD i 0)) (List.range k)
  simpa using this
theorem lateTo_lt (js : List J) (es : List Int) (k : Nat) : ∀ i ∈ lateTo js es k, i < k := by
  intro i hi
  unfold lateTo at hi
  exact List.mem_range.1 (List.mem_filter.1 hi).1
end Go.Proofs.YtnkoncplfedffaaDoor

namespace Go.Proofs.YtnkoncplfedffaaDoor

/-- Costs taken together: the greatest, or the sum; 0 if there are none. -/
def joinC (o : Int) (v c : Int) : Int := if isTop o then max v c else v + c
def foldC (o : Int) : List Int → Int
  | [] => 0
  | c :: cs => cs.foldl (joinC o) c
theorem joinC_comm (o a b c : Int) : joinC o (joinC o a b) c = joinC o (joinC o a c) b := by
  unfold joinC; cases isTop o <;> simp <;> omega
theorem joinC_swap (o a b : Int) : joinC o a b = joinC o b a := by
  unfold joinC; cases isTop o <;> simp <;> omega
theorem foldl_joinC_perm (o : Int) {xs ys : List Int} (h : xs.Perm ys) : ∀ c, xs.foldl (joinC o) c = ys.foldl (joinC o) c := by
  induction h with
  | nil => intro c; rfl
  | cons x _ ih => intro c; exact ih _
  | swap x y l => intro c; simp only [List.foldl_cons]; rw [joinC_comm]
  | trans _ _ h1 h2 => intro c; exact (h1 c).trans (h2 c)
theorem foldl_joinC_out (o : Int) : ∀ (xs : List Int) (a c : Int), xs.foldl (joinC o) (joinC o a c) = joinC o (xs.foldl (joinC o) a) c
  | [], _, _ => rfl
  | x :: xs, a, c => by
    simp only [List.foldl_cons]
    rw [joinC_comm, foldl_joinC_out o xs]
theorem foldC_perm (o : Int) {xs ys : List Int} (h : xs.Perm ys) : foldC o xs = foldC o ys := by
  induction h with
  | nil => rfl
  | cons x h _ => exact foldl_joinC_perm o h x
  | swap x y l => show l.foldl _ (joinC o _ _) = l.foldl _ (joinC o _ _); rw [joinC_swap]
  | trans _ _ h1 h2 => exact h1.trans h2
theorem foldC_snoc (o : Int) (xs : List Int) (c : Int) : foldC o (xs ++ [c]) = extOf o xs.length (foldC o xs) c := by
  cases xs with
  | nil => rfl
  | cons x xs =>
    show (xs ++ [c]).foldl (joinC o) x = _
    rw [List.foldl_append]
    rfl
theorem valGo_fold (o : Int) : ∀ (js : List J) (es : List Int) (k : Nat) (v : Int), 0 < k → valGo o js es k v = (List.zipWith (costOf o) js es).foldl (joinC o) v
  | [], _, _, _, _ => by simp [valGo]
  | _ :: _, [], _, _, _ => by simp [valGo]
  | j :: js, e :: es, k, v, hk => by
    show valGo o js es (k + 1) _ = _
    rw [valGo_fold o js es (k + 1) _ (by omega)]
    simp only [List.zipWith_cons_cons, List.foldl_cons]
    unfold extOf
    rw [if_neg (by omega)]
    rfl
theorem valOf_fold (o : Int) (js : List J) (es : List Int) : valOf o js es = foldC o (List.zipWith (costOf o) js es) := by
  cases js with
  | nil => simp [valOf, valGo, foldC]
  | cons j js =>
    cases es with
    | nil => simp [valOf, valGo, foldC]
    | cons e es =>
      show valGo o js es 1 _ = _
      rw [valGo_fold o js es 1 _ (by omega)]
      rfl
/-- The costs along an order, behind a time. -/
def costsGo (o : Int) (js : List J) : List Nat → Int → List Int
  | [], _ => []
  | j :: p, now => costOf o (js.getD j j0) (max now (js.getD j j0).r + (js.getD j j0).t) :: costsGo o js p (max now (js.getD j j0).r + (js.getD j j0).t)
def costsL (o : Int) (js : List J) (p : List Nat) : List Int := costsGo o js p 0
theorem costsGo_len (o : Int) (js : List J) : ∀ (p : List Nat) (now : Int), (costsGo o js p now).length = p.length
  | [], _ => rfl
  | j :: p, now => by unfold costsGo; simp [costsGo_len o js p]
theorem costsGo_snoc (o : Int) (js : List J) (j : Nat) : ∀ (p : List Nat) (now : Int), costsGo o js (p ++ [j]) now = costsGo o js p now ++ [costOf o (js.getD j j0) (max (lastGo js p now) (js.getD j j0).r + (js.getD j j0).t)]
  | [], _ => rfl
  | i :: p, now => by
    show _ :: costsGo o js (p ++ [j]) _ = _
    rw [costsGo_snoc o js j p]; rfl
theorem costs_map (o : Int) (js : List J) : ∀ (p : List Nat) (now : Int) (xs : List Int), p.Nodup → (∀ j ∈ p, j < xs.length) → costsGo o js p now = p.map fun j => costOf o (js.getD j j0) ((endsGo js p now xs).getD j 0)
  | [], _, _, _, _ => rfl
  | j :: p, now, xs, hd, hl => by
    obtain ⟨h1, h2⟩ := List.nodup_cons.1 hd
    unfold costsGo endsGo
    rw [List.map_cons, endsGo_out js p _ _ j h1, getD_set_eq _ _ _ _ (hl j List.mem_cons_self)]
    rw [costs_map o js p _ (xs.set j (max now (js.getD j j0).r + (js.getD j j0).t)) h2 (fun k hk => by simp only [List.length_set]; exact hl k (List.mem_cons_of_mem _ hk))]
theorem zip_range (o : Int) (js : List J) (es : List Int) (h : es.length = js.length) : List.zipWith (costOf o) js es = (List.range js.length).map fun j => costOf o (js.getD j j0) (es.getD j 0) := by
  apply List.ext_getElem
  · simp [h]
  · intro i h1 h2
    have hi : i < js.length := by simpa using h2
    simp only [List.getElem_zipWith, List.getElem_map, List.getElem_range]
    rw [getD_at js j0 hi, getD_at es 0 (by omega)]
/-- The value of an order, and of the beginning of one. -/
def partV (o : Int) (js : List J) (b : List Nat) : Int := foldC o (costsL o js b)
theorem partV_full (o : Int) (js : List J) {p : List Nat} (hp : p.Perm (List.range js.length)) : valOf o js (endsL js p) = partV o js p := by
  rw [valOf_fold, zip_range o js _ (endsL_len js p)]
  unfold partV costsL
  rw [costs_map o js p 0 (List.replicate js.length 0) (perm_nodup hp) (fun j hj => by simpa using perm_lt hp hj)]
  exact foldC_perm o (hp.symm.map _)
theorem partV_snoc (o : Int) (js : List J) (b : List Nat) (j : Nat) : partV o js (b ++ [j]) = extOf o b.length (partV o js b) (costOf o (js.getD j j0) (max (lastGo js b 0) (js.getD j j0).r + (js.getD j j0).t)) := by
  unfold partV costsL
  rw [costsGo_snoc, foldC_snoc, costsGo_len]
theorem lastGo_nonneg {js : List J} (hg : ∀ j ∈ js, okJ j = true) {b : List Nat} (hb : ∀ j ∈ b, j < js.length) : 0 ≤ lastGo js b 0 := last_ge js hg b 0 hb
theorem lastGo_bd {js : List J} (hg : ∀ j ∈ js, okJ j = true) : ∀ (b : List Nat) (now : Int) (m : Nat), (∀ j ∈ b, j < js.length) → 0 ≤ now → now ≤ 500 + 50 * m → lastGo js b now ≤ 500 + 50 * (m + b.length : Nat)
  | [], now, m, _, _, h => by show now ≤ _; simpa using h
  | j :: b, now, m, hb, h0, h1 => by
    obtain ⟨s0, s1⟩ := step_bd (getD_ok hg (hb j List.mem_cons_self)) h0 h1
    have := lastGo_bd hg b _ (m + 1) (fun k hk => hb k (List.mem_cons_of_mem _ hk)) s0 s1
    show lastGo js b _ ≤ _
    simp only [List.length_cons]
    omega
theorem partV_up {o : Int} (ho : isObj o = true) {js : List J} (hg : goodL js = true) {b : List Nat} (hb : ∀ j ∈ b, j < js.length) (hb8 : b.length < 8) (hne : b ≠ []) {j : Nat} (hj : j < js.length) : partV o js b ≤ partV o js (b ++ [j]) := by
  obtain ⟨h8, hok⟩ := good_out hg
  rw [partV_snoc]
  unfold extOf
  have hl : b.length ≠ 0 := fun e => hne (List.eq_nil_of_length_eq_zero e)
  rw [if_neg hl]
  have e0 := lastGo_nonneg hok hb
  have e1 := lastGo_bd hok b 0 0 hb (by omega) (by omega)
  obtain ⟨s0, s1⟩ := step_bd (m := b.length) (getD_ok hok hj) e0 (by omega)
  have hc := (cost_bd ho (getD_ok hok hj) s0 (by omega)).2.2
  cases ht : isTop o
  · have := hc ht; simp only [Bool.false_eq_true, if_false]; omega
  · simp only [if_true]; omega

/-- What is known of the best orders so far: their value, the first one, and how many there are. -/
structure Bst where
  v : Int
  first : List Nat
  n : Nat
def bst0 : Bst := ⟨0, [], 0⟩
/-- A whole order is held against the best ones. -/
def leafB (b : List Nat) (v : Int) (t : Bst) : Bst := if t.n = 0 ∨ v < t.v then ⟨v, b, 1⟩ else if v = t.v then ⟨t.v, t.first, t.n + 1⟩ else t
/-- The model's search: all orders that begin so. -/
def specTry (o : Int) (js : List J) : Nat → List Nat → Bst → Bst
  | 0, b, t => leafB b (partV o js b) t
  | m + 1, b, t => (List.range js.length).foldl (fun t j => if j ∈ b then t else specTry o js m (b ++ [j]) t) t
/-- The program's search, which leaves out beginnings whose value is too great. -/
def progTry (o : Int) (js : List J) : Nat → List Nat → Bst → Bst
  | 0, b, t => if 0 < t.n ∧ t.v < partV o js b then t else leafB b (partV o js b) t
  | m + 1, b, t => if 0 < t.n ∧ t.v < partV o js b then t else (List.range js.length).foldl (fun t j => if j ∈ b then t else progTry o js m (b ++ [j]) t) t
theorem foldl_same {α : Type} (f : α → Nat → α) (t : α) : ∀ l : List Nat, (∀ j ∈ l, f t j = t) → l.foldl f t = t
  | [], _ => rfl
  | j :: l, h => by
    rw [List.foldl_cons, h j List.mem_cons_self]
    exact foldl_same f t l fun k hk => h k (List.mem_cons_of_mem _ hk)
theorem foldl_eq {α : Type} (f g : α → Nat → α) : ∀ (l : List Nat) (t : α), (∀ j ∈ l, ∀ t, f t j = g t j) → l.foldl f t = l.foldl g t
  | [], _, _ => rfl
  | j :: l, t, h => by
    rw [List.foldl_cons, List.foldl_cons, h j List.mem_cons_self]
    exact foldl_eq f g l _ fun k hk => h k (List.mem_cons_of_mem _ hk)
theorem spec_over {o : Int} (ho : isObj o = true) {js : List J} (hg : goodL js = true) : ∀ (m : Nat) (b : List Nat) (t : Bst), b.length + m = js.length → (∀ j ∈ b, j < js.length) → b ≠ [] → 0 < t.n → t.v < partV o js b → specTry o js m b t = t
  | 0, b, t, _, _, _, hn, hv => by
    show leafB b _ t = t
    unfold leafB
    rw [if_neg (by omega), if_neg (by omega)]
  | m + 1, b, t, hl, hb, hne, hn, hv => by
    obtain ⟨h8, _⟩ := good_out hg
    refine foldl_same _ t _ fun j hj => ?_
    by_cases hjb : j ∈ b
    · rw [if_pos hjb]
    · rw [if_neg hjb]
      have hj' : j < js.length := List.mem_range.1 hj
      have := partV_up ho hg hb (by omega) hne hj'
      refine spec_over ho hg m (b ++ [j]) t (by simp; omega) ?_ (by simp) hn (by omega)
      intro k hk
      rcases List.mem_append.1 hk with h | h
      · exact hb k h
      · rw [List.mem_singleton.1 h]; exact hj'
theorem prog_spec {o : Int} (ho : isObj o = true) {js : List J} (hg : goodL js = true) : ∀ (m : Nat) (b : List Nat) (t : Bst), b.length + m = js.length → (∀ j ∈ b, j < js.length) → (b ≠ [] ∨ t.n = 0) → progTry o js m b t = specTry o js m b t
  | 0, b, t, hl, hb, hne => by
    show (if _ then _ else _) = leafB _ _ _
    by_cases h : 0 < t.n ∧ t.v < partV o js b
    · rw [if_pos h]
      unfold leafB
      rw [if_neg (by omega), if_neg (by omega)]
    · rw [if_neg h]
  | m + 1, b, t, hl, hb, hne => by
    unfold progTry
    by_cases h : 0 < t.n ∧ t.v < partV o js b
    · rw [if_pos h]
      exact (spec_over ho hg (m + 1) b t hl hb (by rcases hne with h' | h'; exact h'; omega) h.1 h.2).symm
    · rw [if_neg h]
      refine foldl_eq _ _ _ _ fun j hj t' => ?_
      by_cases hjb : j ∈ b
      · rw [if_pos hjb, if_pos hjb]
      · rw [if_neg hjb, if_neg hjb]
        have hj' : j < js.length := List.mem_range.1 hj
        refine prog_spec ho hg m (b ++ [j]) t' (by simp; omega) ?_ (.inl (by simp))
        intro k hk
        rcases List.mem_append.1 hk with h | h
        · exact hb k h
        · rw [List.mem_singleton.1 h]; exact hj'
/-- The best orders. -/
def bestL (o : Int) (js : List J) : Bst := specTry o js js.length [] bst0
theorem prog_best {o : Int} (ho : isObj o = true) {js : List J} (hg : goodL js = true) : progTry o js js.length [] bst0 = bestL o js :=
  prog_spec ho hg _ _ _ (by simp) (by simp) (.inr rfl)
/-- How often a search counts at most. -/
theorem foldl_count {m : Nat} (f : Bst → Nat → Bst) : ∀ (l : List Nat) (t : Bst), (∀ t j, (f t j).n ≤ max 1 (t.n + m)) → 1 ≤ m → (l.foldl f t).n ≤ max 1 (t.n + l.length * m)
  | [], t, _, _ => by simp; omega
  | j :: l, t, h, hm => by
    rw [List.foldl_cons]
    have h1 := foldl_count f l (f t j) h hm
    have h2 := h t j
    have : (l.length + 1) * m = l.length * m + m := by rw [Nat.add_mul, Nat.one_mul]
    simp only [List.length_cons]
    omega
end Go.Proofs.YtnkoncplfedffaaDoor

namespace Go.Proofs.YtnkoncplfedffaaDoor
/-- A job comes before another one in due order. -/
def soonB (js : List J) (i k : Nat) : Bool :=
  if (js.getD i j0).d ≠ (js.getD k j0).d then decide ((js.getD i j0).d < (js.getD k j0).d)
  else if (js.getD i j0).t ≠ (js.getD k j0).t then decide ((js.getD i j0).t < (js.getD k j0).t) else decide (i < k)
/-- A job put behind all that come before it. -/
def insD (js : List J) (x : Nat) : List Nat → List Nat
  | [] => [x]
  | y :: ys => if soonB js y x then y :: insD js x ys else x :: y :: ys
def dueTo (js : List J) (l : List Nat) : Nat → List Nat
  | 0 => []
  | k + 1 => insD js (l.getD k 0) (dueTo js l k)
def dueL (js : List J) (l : List Nat) : List Nat := dueTo js l l.length
theorem insD_perm (js : List J) (x : Nat) : ∀ ys : List Nat, (insD js x ys).Perm (x :: ys)
  | [] => List.Perm.refl _
  | y :: ys => by
    unfold insD
    split
    · exact ((insD_perm js x ys).cons y).trans (List.Perm.swap x y ys)
    · exact List.Perm.refl _
theorem insD_at (js : List J) (x : Nat) : ∀ (ys : List Nat) (k : Nat), k ≤ ys.length → (∀ a ∈ ys.take k, soonB js a x = true) → (∀ h : k < ys.length, soonB js ys[k] x = false) → insD js x ys = ys.take k ++ [x] ++ ys.drop k
  | [], k, _, _, _ => by simp [insD]
  | y :: ys, 0, _, _, h => by
    have := h (by simp)
    simp only [List.getElem_cons_zero] at this
    unfold insD
    rw [this]
    rfl
  | y :: ys, k + 1, hk, h1, h2 => by
    have hy : soonB js y x = true := h1 y (by simp)
    unfold insD
    rw [if_pos hy, insD_at js x ys k (by simpa using hk) (fun a ha => h1 a (by simp [ha])) (fun h => by have := h2 (by simpa using h); simpa using this)]
    simp
theorem dueTo_len (js : List J) (l : List Nat) : ∀ k, (dueTo js l k).length = k
  | 0 => rfl
  | k + 1 => by
    have := (insD_perm js (l.getD k 0) (dueTo js l k)).length_eq
    unfold dueTo
    rw [this, List.length_cons, dueTo_len js l k]
theorem dueTo_perm (js : List J) (l : List Nat) : ∀ k, k ≤ l.length → (dueTo js l k).Perm (l.take k)
  | 0, _ => by simp [dueTo]
  | k + 1, h => by
    have e : l.take (k + 1) = l.take k ++ [l.getD k 0] := by
      rw [List.take_succ_eq_append_getElem (by omega)]
      congr 2
      simp [List.getD, show k < l.length by omega]
    unfold dueTo
    rw [e]
    exact ((insD_perm js _ _).trans ((dueTo_perm js l k (by omega)).cons _)).trans (List.perm_append_singleton _ _).symm
theorem dueTo_mem {js : List J} {l : List Nat} {k x : Nat} (hk : k ≤ l.length) (h : x ∈ dueTo js l k) : x ∈ l := List.mem_of_mem_take ((dueTo_perm js l k hk).mem_iff.1 h)
theorem dueL_perm (js : List J) (l : List Nat) : (dueL js l).Perm l := by
  have := dueTo_perm js l l.length (Nat.le_refl _)
  rwa [List.take_length] at this
theorem dueL_len (js : List J) (l : List Nat) : (dueL js l).length = l.length := dueTo_len _ _ _
/-- What the program compares. -/
def cmpD (js : List J) (i k : Nat) : Int :=
  if (js.getD i j0).d - (js.getD k j0).d ≠ 0 then (js.getD i j0).d - (js.getD k j0).d
  else if (js.getD i j0).t - (js.getD k j0).t ≠ 0 then (js.getD i j0).t - (js.getD k j0).t else (i : Int) - k
theorem soon_gen (a b c d : Int) (i k : Nat) : (if a ≠ b then decide (a < b) else if c ≠ d then decide (c < d) else decide (i < k)) = decide ((if a - b ≠ 0 then a - b else if c - d ≠ 0 then c - d else (i : Int) - k) < 0) := by
  by_cases h1 : a = b
  · subst h1
    by_cases h2 : c = d
    · subst h2
      simp
      omega
    · have h3 : ¬ c - d = 0 := by omega
      simp [h2, h3]
      omega
  · have h3 : ¬ a - b = 0 := by omega
    simp [h1, h3]
    omega
theorem cmpD_soon (js : List J) (i k : Nat) : soonB js i k = decide (cmpD js i k < 0) := soon_gen _ _ _ _ i k
theorem soon_total {js : List J} {i k : Nat} (h : i ≠ k) (h1 : soonB js i k = false) : soonB js k i = true := by
  rw [cmpD_soon] at *
  have h2 := of_decide_eq_false h1
  refine decide_eq_true ?_
  unfold cmpD at *
  split at h2 <;> split <;> first | omega | (split at h2 <;> split <;> omega)
theorem soon_trans {js : List J} {i k m : Nat} (h1 : soonB js i k = true) (h2 : soonB js k m = true) : soonB js i m = true := by
  rw [cmpD_soon] at *
  have h1 := of_decide_eq_true h1
  have h2 := of_decide_eq_true h2
  refine decide_eq_true ?_
  unfold cmpD at *
  (repeat' split at h1) <;> (repeat' split at h2) <;> (repeat' split) <;> omega
end Go.Proofs.YtnkoncplfedffaaDoor

namespace Go.Proofs.YtnkoncplfedffaaDoor

/-- The rule difference of two jobs. -/
def gapJ (ob : Int) (x y : J) : Int := if ob = 1 then x.r - y.r else if ob = 2 then x.t - y.t else if ob = 3 then x.t * y.w - y.t * x.w else x.d - y.d
def gapN (ob : Int) (js : List J) (i k : Nat) : Int := gapJ ob (js.getD i j0) (js.getD k j0)
theorem gapJ_anti (ob : Int) (x y : J) : gapJ ob y x = - gapJ ob x y := by
  unfold gapJ
  split
  · omega
  · split
    · omega
    · split
      · rw [Int.neg_sub]
      · omega
theorem gapN_anti (ob : Int) (js : List J) (i k : Nat) : gapN ob js k i = - gapN ob js i k := gapJ_anti ob _ _
theorem gapN_self (ob : Int) (js : List J) (i : Nat) : gapN ob js i i = 0 := by
  have := gapN_anti ob js i i
  omega
theorem ratio_trans {a b c x y z : Int} (ha : 1 ≤ a) (hb : 1 ≤ b) (hc : 1 ≤ c) (h1 : a * y ≤ b * x) (h2 : b * z ≤ c * y) : a * z ≤ c * x := by
  have e1 : a * y * c ≤ b * x * c := Int.mul_le_mul_of_nonneg_right h1 (by omega)
  have e2 : b * z * a ≤ c * y * a := Int.mul_le_mul_of_nonneg_right h2 (by omega)
  have e3 : b * (a * z) ≤ b * (c * x) := by
    have i1 : b * (a * z) = b * z * a := by rw [Int.mul_assoc, Int.mul_comm z a]
    have i2 : c * y * a = a * y * c := by rw [Int.mul_comm (c * y) a, Int.mul_comm c y, ← Int.mul_assoc]
    have i3 : b * x * c = b * (c * x) := by rw [Int.mul_assoc, Int.mul_comm x c]
    omega
  exact Int.le_of_mul_le_mul_left e3 (by omega)
theorem gapJ_trans {ob : Int} {x y z : J} (hx : okJ x = true) (hy : okJ y = true) (hz : okJ z = true) (h1 : gapJ ob x y ≤ 0) (h2 : gapJ ob y z ≤ 0) : gapJ ob x z ≤ 0 := by
  obtain ⟨a, _⟩ := okJ_out hx
  obtain ⟨b, _⟩ := okJ_out hy
  obtain ⟨c, _⟩ := okJ_out hz
  unfold gapJ at *
  split at h1
  · rw [if_pos ‹_›] at h2; omega
  · rw [if_neg ‹_›] at h2
    split at h1
    · rw [if_pos ‹_›] at h2; omega
    · rw [if_neg ‹_›] at h2
      split at h1
      · rw [if_pos ‹_›] at h2
        have := ratio_trans a b c (show x.t * y.w ≤ y.t * x.w by omega) (show y.t * z.w ≤ z.t * y.w by omega)
        omega
      · rw [if_neg ‹_›] at h2; omega
theorem mul50 {a b : Int} (h0 : 0 ≤ a) (h1 : a ≤ 50) (h2 : 0 ≤ b) (h3 : b ≤ 50) : 0 ≤ a * b ∧ a * b ≤ 2500 :=
  ⟨Int.mul_nonneg h0 h2, by
    have := Int.mul_le_mul h1 h3 h2 (by omega)
    omega⟩
theorem gapJ_bd {ob : Int} {x y : J} (hx : okJ x = true) (hy : okJ y = true) : -2500 ≤ gapJ ob x y ∧ gapJ ob x y ≤ 2500 := by
  obtain ⟨a1, a2, a3, a4, a5, a6, a7, a8⟩ := okJ_out hx
  obtain ⟨b1, b2, b3, b4, b5, b6, b7, b8⟩ := okJ_out hy
  have h1 := mul50 (by omega) a2 b3 b4
  have h2 := mul50 (by omega) b2 a3 a4
  unfold gapJ
  split
  · omega
  · split
    · omega
    · split <;> omega
section
variable (ob : Int) (js : List J)
/-- A job is put behind all that are not to come behind it. -/
def insN (x : Nat) : List Nat → List Nat
  | [] => [x]
  | y :: ys => if gapN ob js y x ≤ 0 then y :: insN x ys else x :: y :: ys
/-- The ruled order of the first k jobs. -/
def ruledTo : Nat → List Nat
  | 0 => []
  | k + 1 => insN ob js k (ruledTo k)
def ruledL : List Nat := ruledTo ob js js.length
theorem insN_at (x : Nat) : ∀ (ys : List Nat) (k : Nat), k ≤ ys.length → (∀ a ∈ ys.take k, gapN ob js a x ≤ 0) → (∀ h : k < ys.length, 0 < gapN ob js ys[k] x) → insN ob js x ys = ys.take k ++ x :: ys.drop k
  | [], k, _, _, _ => by simp [insN]
  | y :: ys, 0, _, _, h => by
    have := h (by simp)
    simp only [List.getElem_cons_zero] at this
    unfold insN
    rw [if_neg (by omega)]
    rfl
  | y :: ys, k + 1, hk, h1, h2 => by
    unfold insN
    rw [if_pos (h1 y (by simp))]
    rw [insN_at x ys k (by simpa using hk) (fun a ha => h1 a (by simp [ha])) (fun h => by have := h2 (by simpa using h); simpa using this)]
    rfl
theorem insN_perm (x : Nat) : ∀ ys : List Nat, (insN ob js x ys).Perm (x :: ys)
  | [] => List.Perm.refl _
  | y :: ys => by
    unfold insN
    split
    · exact ((insN_perm x ys).cons y).trans (List.Perm.swap x y ys)
    · exact List.Perm.refl _
theorem insN_len (x : Nat) (ys : List Nat) : (insN ob js x ys).length = ys.length + 1 := (insN_perm ob js x ys).length_eq
theorem ruledTo_perm : ∀ k, (ruledTo ob js k).Perm (List.range k)
  | 0 => List.Perm.refl _
  | k + 1 => by
    show (insN ob js k (ruledTo ob js k)).Perm _
    rw [List.range_succ]
    exact (insN_perm ob js k _).trans (((ruledTo_perm k).cons k).trans (List.perm_append_comm (l₁ := [k])))
theorem ruledTo_len (k : Nat) : (ruledTo ob js k).length = k := by have := (ruledTo_perm ob js k).length_eq; simpa using this
theorem ruledTo_lt {k a : Nat} (h : a ∈ ruledTo ob js k) : a < k := List.mem_range.1 ((ruledTo_perm ob js k).mem_iff.1 h)
theorem ruledL_perm : (ruledL ob js).Perm (List.range js.length) := ruledTo_perm ob js _
theorem ruledL_len : (ruledL ob js).length = js.length := ruledTo_len ob js _
def SortedN (ys : List Nat) : Prop := ys.Pairwise fun a b => gapN ob js a b ≤ 0
end
section
variable {ob : Int} {js : List J}
theorem gapN_trans (hg : ∀ j ∈ js, okJ j = true) {a b c : Nat} (ha : a < js.length) (hb : b < js.length) (hc : c < js.length) (h1 : gapN ob js a b ≤ 0) (h2 : gapN ob js b c ≤ 0) : gapN ob js a c ≤ 0 :=
  gapJ_trans (getD_ok hg ha) (getD_ok hg hb) (getD_ok hg hc) h1 h2
theorem insN_sorted (hg : ∀ j ∈ js, okJ j = true) {x : Nat} (hx : x < js.length) : ∀ {ys : List Nat}, (∀ a ∈ ys, a < js.length) → SortedN ob js ys → SortedN ob js (insN ob js x ys)
  | [], _, _ => by simp [insN, SortedN]
  | y :: ys, hl, hs => by
    obtain ⟨h1, h2⟩ := List.pairwise_cons.1 hs
    unfold insN
    split
    · rename_i hyx
      refine List.pairwise_cons.2 ⟨fun a ha => ?_, insN_sorted hg hx (fun a ha => hl a (List.mem_cons_of_mem _ ha)) h2⟩
      rcases List.mem_cons.1 ((insN_perm ob js x ys).mem_iff.1 ha) with h | h
      · subst h; exact hyx
      · exact h1 a h
    · rename_i hyx
      have hxy : gapN ob js x y ≤ 0 := by have := gapN_anti ob js x y; omega
      refine List.pairwise_cons.2 ⟨fun a ha => ?_, hs⟩
      rcases List.mem_cons.1 ha with h | h
      · subst h; exact hxy
      · exact gapN_trans hg hx (hl y List.mem_cons_self) (hl a (List.mem_cons_of_mem _ h)) hxy (h1 a h)
theorem ruledTo_sorted (hg : ∀ j ∈ js, okJ j = true) : ∀ k, k ≤ js.length → SortedN ob js (ruledTo ob js k)
  | 0, _ => List.Pairwise.nil
  | k + 1, h => insN_sorted hg (by omega) (fun a ha => by have := ruledTo_lt ob js ha; omega) (ruledTo_sorted hg k (by omega))
theorem ruledL_sorted (hg : ∀ j ∈ js, okJ j = true) : SortedN ob js (ruledL ob js) := ruledTo_sorted hg _ (Nat.le_refl _)
/-- In a sorted list it is enough to look at the one before. -/
theorem insN_back (hg : ∀ j ∈ js, okJ j = true) {x : Nat} (hx : x < js.length) {ys : List Nat} (hl : ∀ a ∈ ys, a < js.length) (hs : SortedN ob js ys) {k : Nat} (hk : k ≤ ys.length) (h1 : ∀ h : 0 < k, gapN ob js (ys[k - 1]'(by omega)) x ≤ 0) (h2 : ∀ i (h : i < ys.length), k ≤ i → 0 < gapN ob js ys[i] x) : insN ob js x ys = ys.take k ++ x :: ys.drop k := by
  refine insN_at ob js x ys k hk (fun a ha => ?_) (fun h => h2 k h (Nat.le_refl _))
  obtain ⟨i, hi, rfl⟩ := List.getElem_of_mem ha
  have hik : i < k := by simp at hi; omega
  rw [List.getElem_take]
  have hlast := h1 (by omega)
  by_cases e : i = k - 1
  · subst e; exact hlast
  · have hp := List.pairwise_iff_getElem.1 hs i (k - 1) (by omega) (by omega) (by omega)
    exact gapN_trans hg (hl _ (List.getElem_mem _)) (hl _ (List.getElem_mem _)) hx hp hlast
end
/-- Whether all releases are 0. -/
def plain0 (js : List J) : Bool := js.all fun j => decide (j.r = 0)
def plainL (js : List J) : Bool := goodL js && plain0 js
def isRule (o : Int) : Bool := decide (1 ≤ o ∧ o ≤ 4)
def ruledB (js : List J) (o : Int) : Bool := goodL js && (isRule o && (decide (o = 1) || plain0 js))
theorem ruled_good {js : List J} {o : Int} (h : ruledB js o = true) : goodL js = true := by
  unfold ruledB at h; simp only [Bool.and_eq_true] at h; exact h.1
theorem plain_good {js : List J} (h : plainL js = true) : goodL js = true := by
  unfold plainL at h; simp only [Bool.and_eq_true] at h; exact h.1
theorem plain0_out {js : List J} (h : plain0 js = true) : ∀ j ∈ js, j.r = 0 := fun j hj => by
  have := List.all_eq_true.1 h j hj
  exact of_decide_eq_true this
theorem plain_ruled {js : List J} (h : plainL js = true) {o : Int} (ho : isRule o = true) : ruledB js o = true := by
  unfold plainL at h; simp only [Bool.and_eq_true] at h
  unfold ruledB; simp [h.1, h.2, ho]
end Go.Proofs.YtnkoncplfedffaaDoor

namespace Go.Proofs.YtnkoncplfedffaaDoor
/-- The value, and the end, of the first k jobs of an order. -/
def latTo (js : List J) (p : List Nat) (k : Nat) : Int := partV 4 js (p.take k)
def nowTo (js : List J) (p : List Nat) (k : Nat) : Int := lastGo js (p.take k) 0
section
variable {js : List J} {p : List Nat} (hok : ∀ j ∈ js, okJ j = true) (h0 : ∀ j ∈ js, j.r = 0) (hp : ∀ x ∈ p, x < js.length)
include hok h0 hp
theorem nowTo_bd : ∀ k, k ≤ p.length → 0 ≤ nowTo js p k ∧ nowTo js p k ≤ 50 * (k : Int)
  | 0, _ => by unfold nowTo; simp [lastGo]
  | k + 1, hk => by
    have h1 := nowTo_bd k (by omega)
    have hx := hp _ (List.getElem_mem (show k < p.length by omega))
    have hj := okJ_out (hok _ (List.getElem_mem hx))
    have hr := h0 _ (List.getElem_mem hx)
    unfold nowTo at *
    rw [List.take_succ_eq_append_getElem (by omega), lastGo_snoc, getD_at js j0 hx]
    omega
theorem nowTo_succ {k : Nat} (hk : k < p.length) : nowTo js p (k + 1) = nowTo js p k + (js[p[k]]'(hp _ (List.getElem_mem hk))).t := by
  have h1 := nowTo_bd hok h0 hp k (by omega)
  have hx := hp _ (List.getElem_mem hk)
  have hr := h0 _ (List.getElem_mem hx)
  unfold nowTo at *
  rw [List.take_succ_eq_append_getElem hk, lastGo_snoc, getD_at js j0 hx]
  omega
omit hok h0 in
theorem latTo_succ {k : Nat} (hk : k < p.length) : latTo js p (k + 1) = extOf 4 k (latTo js p k) (costOf 4 (js[p[k]]'(hp _ (List.getElem_mem hk))) (nowTo js p (k + 1))) := by
  have hx := hp _ (List.getElem_mem hk)
  unfold latTo nowTo
  rw [List.take_succ_eq_append_getElem hk, partV_snoc, lastGo_snoc, List.length_take, Nat.min_eq_left (by omega), getD_at js j0 hx]
theorem latTo_bd (h8 : p.length ≤ 8) : ∀ k, k ≤ p.length → -500 ≤ latTo js p k ∧ latTo js p k ≤ 50000 * (k : Int)
  | 0, _ => by unfold latTo; simp [partV, costsL, costsGo, foldC]
  | k + 1, hk => by
    have h1 := latTo_bd h8 k (by omega)
    have h2 := nowTo_bd hok h0 hp (k + 1) hk
    have hx := hp _ (List.getElem_mem (show k < p.length by omega))
    have hj := hok _ (List.getElem_mem hx)
    obtain ⟨c0, c1, c2⟩ := cost_bd (o := 4) rfl hj h2.1 (by omega : nowTo js p (k + 1) ≤ 1000)
    have h3 := ext_bd (o := 4) (k := k) h1.1 h1.2 c0 c1 c2
    rw [latTo_succ hp (by omega)]
    exact h3
end
theorem latTo_all (js : List J) (p : List Nat) : latTo js p p.length = partV 4 js p := by unfold latTo; rw [List.take_length]
def latL (js : List J) (p : List Nat) : Int := partV 4 js p
theorem plain_zero {js : List J} (h : plainL js = true) : ∀ j ∈ js, j.r = 0 := by
  unfold plainL at h
  rw [Bool.and_eq_true] at h
  have h2 := h.2
  unfold plain0 at h2
  rw [List.all_eq_true] at h2
  intro j hj
  simpa using h2 j hj
end Go.Proofs.YtnkoncplfedffaaDoor

namespace Go.Proofs.YtnkoncplfedffaaDoor
section
variable {P : Program} {ops : Array Oper} {Q : Exit → Act → World → Prop}
theorem countP_lt {p p' : Nat → Bool} (h : ∀ x, p' x = true → p x = true) {i : Nat} (hi : p i = true) (hi' : p' i = false) : ∀ l : List Nat, i ∈ l → l.countP p' < l.countP p
  | [], hm => by cases hm
  | x :: l, hm => by
    have hle : l.countP p' ≤ l.countP p := List.countP_mono_left fun x _ hx => h x hx
    rcases List.mem_cons.1 hm with rfl | hm
    · rw [List.countP_cons, List.countP_cons, hi, hi']
      simp only [Bool.false_eq_true, if_false, if_true]; omega
    · have ih := countP_lt h hi hi' l hm
      rw [List.countP_cons, List.countP_cons]
      by_cases hx : p' x = true
      · rw [if_pos hx, if_pos (h x hx)]; omega
      · rw [if_neg hx]; split <;> omega
/-- Operations that are not through. -/
def unl (ops : Array Oper) (listed : Array Bool) : Nat := (List.range ops.size).countP fun i => !listed.getD i true
theorem getD_set_true (listed : Array Bool) (i j : Nat) (b : Bool) : (listed.setIfInBounds i true).getD j b = if i = j ∧ j < listed.size then true else listed.getD j b := by
  simp only [Array.getD_eq_getD_getElem?, Array.getElem?_setIfInBounds]
  by_cases e : i = j
  · subst e
    by_cases h : i < listed.size
    · simp [h]
    · simp [h]
  · simp [e]
/-- What is through has all its edges behind it. -/
def Closed (ops : Array Oper) (listed : Array Bool) : Prop := listed.size = ops.size ∧ ∀ (j : Nat) (o : Oper), ops[j]? = some o → listed.getD j true = true → ∀ e ∈ o.after, Region.binds .any e = true → listed.getD e.on false = true
theorem Closed.start : Closed ops (Array.replicate ops.size false) := ⟨by simp, fun j o ho h => by
  have hj : j < ops.size := (Array.getElem?_eq_some_iff.1 ho).1
  simp [Array.getD_eq_getD_getElem?, hj] at h⟩
theorem Closed.step {listed : Array Bool} {i : Nat} (h : Closed ops listed) (hr : i ∈ Region.ready .any ops listed) : Closed ops (listed.setIfInBounds i true) := by
  refine ⟨by simp [h.1], fun j o ho hl e he hb => ?_⟩
  rw [getD_set_true] at hl ⊢
  obtain ⟨_, oi, hoi, hall⟩ := mem_ready.1 hr
  by_cases hij : i = j
  · subst hij
    rw [hoi] at ho; injection ho with ho; subst ho
    rw [hall e he hb]; split <;> rfl
  · rw [if_neg (fun h => hij h.1)] at hl
    rw [h.2 j o ho hl e he hb]; split <;> rfl
theorem all_of_ready {listed : Array Bool} (hs : listed.size = ops.size) (hback : ∀ (i : Nat) (o : Oper), ops[i]? = some o → ∀ e ∈ o.after, e.on < i) (hr : Region.ready .any ops listed = []) : ∀ i, i < ops.size → listed.getD i true = true := by
  intro i
  induction i using Nat.strongRecOn with
  | _ i ih =>
    intro hi
    cases hl : listed.getD i true with
    | true => rfl
    | false =>
      have : i ∈ Region.ready .any ops listed := mem_ready.2 ⟨hl, ops[i], Array.getElem?_eq_getElem hi, fun e he _ => by
        have h1 := hback i _ (Array.getElem?_eq_getElem hi) e he
        have h2 := ih e.on h1 (by omega)
        have h3 : e.on < listed.size := by omega
        simp only [Array.getD_eq_getD_getElem?, Array.getElem?_eq_getElem h3, Option.getD_some] at h2 ⊢
        exact h2⟩
      rw [hr] at this; cases this
theorem wpAny_inv (Inv : Array Bool → Act → World → Prop) (hback : ∀ (i : Nat) (o : Oper), ops[i]? = some o → ∀ e ∈ o.after, e.on < i)
    (hdone : ∀ listed a w, Inv listed a w → (∀ i, i < ops.size → listed.getD i true = true) → Q .normal a w)
    (hstep : ∀ listed a w (i : Nat) (o : Oper), Closed ops listed → Inv listed a w → ops[i]? = some o → listed.getD i true = false → (∀ e ∈ o.after, Region.binds .any e = true → listed.getD e.on false = true) → wpOp P ops Q i (fun a' w' => Inv (listed.setIfInBounds i true) a' w') a w) :
    ∀ (fuel : Nat) (listed : Array Bool) (a : Act) (w : World), Closed ops listed → unl ops listed ≤ fuel → Inv listed a w → wpAny P .any ops Q fuel listed a w
  | 0, listed, a, w, hc, hf, hi => by
    have hr : Region.ready .any ops listed = [] := by
      apply List.eq_nil_iff_forall_not_mem.2
      intro i hm
      obtain ⟨hl, o, ho, _⟩ := mem_ready.1 hm
      have hpos : 0 < unl ops listed := List.countP_pos_iff.2 ⟨i, List.mem_range.2 (Array.getElem?_eq_some_iff.1 ho).1, by rw [hl]; rfl⟩
      omega
    exact ⟨hr, hdone listed a w hi (all_of_ready hc.1 hback hr)⟩
  | fuel + 1, listed, a, w, hc, hf, hi => by
    refine ⟨fun hr => hdone listed a w hi (all_of_ready hc.1 hback hr), fun i hm => ?_⟩
    obtain ⟨hl, o, ho, hall⟩ := mem_ready.1 hm
    have hlt : i < ops.size := (Array.getElem?_eq_some_iff.1 ho).1
    refine wpOp_mono (fun a' w' hi' => wpAny_inv Inv hback hdone hstep fuel _ a' w' (hc.step hm) ?_ hi') (hstep listed a w i o hc hi ho hl hall)
    have : unl ops (listed.setIfInBounds i true) < unl ops listed := by
      refine countP_lt (i := i) (fun x hx => ?_) (by rw [hl]; rfl) ?_ _ (List.mem_range.2 hlt)
      · rw [getD_set_true] at hx
        by_cases h : i = x ∧ x < listed.size
        · rw [if_pos h] at hx; cases hx
        · rwa [if_neg h] at hx
      · rw [getD_set_true, if_pos ⟨rfl, by rw [hc.1]; exact hlt⟩]; rfl
    omega
theorem wp_region_inv {id : Nat} {a : Act} {w : World} (hm : P.follows .mixedOrders = true) (Inv : Array Bool → Act → World → Prop) (hback : ∀ (i : Nat) (o : Oper), ops[i]? = some o → ∀ e ∈ o.after, e.on < i)
    (h0 : Inv (Array.replicate ops.size false) a w.drew)
    (hdone : ∀ listed a w, Inv listed a w → (∀ i, i < ops.size → listed.getD i true = true) → Q .normal a w)
    (hstep : ∀ listed a w (i : Nat) (o : Oper), Closed ops listed → Inv listed a w → ops[i]? = some o → listed.getD i true = false → (∀ e ∈ o.after, Region.binds .any e = true → listed.getD e.on false = true) → wpOp P ops Q i (fun a' w' => Inv (listed.setIfInBounds i true) a' w') a w) :
    (Code.region id ops true).wp P Q a w :=
  wp_region_any hm (wpAny_inv Inv hback hdone hstep _ _ _ _ Closed.start (Nat.le_trans List.countP_le_length (by simp)) h0)
/-- One operation that hands a value on, or a word of it that writes. -/
theorem wpOp_value {i : Nat} {o : Oper} {a : Act} {w w' : World} {v : Value} {K : Act → World → Prop} (ho : ops[i]? = some o) (hg : o.guard = none) (hr : (execOp a.eval o).run P w = .ok (.value v) w') (hK : K (a.put o.dst v) w') : wpOp P ops Q i K a w := by
  unfold wpOp
  rw [ho]
  simp only [Region.wanted, hg, if_true]
  left
  unfold Oper.wp
  rw [hr]
  exact hK
theorem wpOp_skip {i : Nat} {o : Oper} {a : Act} {w w' : World} {K : Act → World → Prop} (ho : ops[i]? = some o) (hg : o.guard = none) (hr : (execOp a.eval o).run P w = .ok .skip w') (hK : K (a.put o.dst undef) w') : wpOp P ops Q i K a w := by
  unfold wpOp
  rw [ho]
  simp only [Region.wanted, hg, if_true]
  left
  unfold Oper.wp
  rw [hr]
  exact hK
theorem wpOp_enter {i : Nat} {o : Oper} {a : Act} {w w' : World} {f : FuncId} {args : Array Value} {K : Act → World → Prop} (ho : ops[i]? = some o) (hg : o.guard = none) (hr : (execOp a.eval o).run P w = .ok (.enter f args) w') (hK : Calls P f args w' fun e w'' => ∃ v, e = .returned v ∧ K (a.put o.dst v) w'') : wpOp P ops Q i K a w := by
  unfold wpOp
  rw [ho]
  simp only [Region.wanted, hg, if_true]
  left
  unfold Oper.wp
  rw [hr]
  refine Calls.mono hK ?_
  rintro e w'' ⟨v, rfl, h⟩
  exact h
theorem getD_ft {L : Array Bool} {e : Nat} (h : L.getD e false = true) : L.getD e true = true := by
  simp only [Array.getD_eq_getD_getElem?] at h ⊢
  cases hx : L[e]? with
  | none => rfl
  | some b => rw [hx] at h; exact h
def backB (ops : Array Oper) : Bool := (List.range ops.size).all fun i => match ops[i]? with
  | some o => o.after.all fun e => decide (e.on < i)
  | none => true
theorem back_of (h : backB ops = true) : ∀ (i : Nat) (o : Oper), ops[i]? = some o → ∀ e ∈ o.after, e.on < i := by
  intro i o ho e he
  unfold backB at h
  have h1 := List.all_eq_true.1 h i (List.mem_range.2 (Array.getElem?_eq_some_iff.1 ho).1)
  rw [ho] at h1
  simp only at h1
  rw [Array.all_eq_true_iff_forall_mem] at h1
  exact of_decide_eq_true (h1 e he)
def edgeB (ops : Array Oper) (j e : Nat) : Bool := match ops[j]? with
  | some o => o.after.any fun x => x.on == e && Region.binds .any x
  | none => false
theorem edge_of {j e : Nat} (h : edgeB ops j e = true) : ∃ o x, ops[j]? = some o ∧ x ∈ o.after ∧ x.on = e ∧ Region.binds .any x = true := by
  unfold edgeB at h
  cases ho : ops[j]? with
  | none => rw [ho] at h; cases h
  | some o =>
    rw [ho] at h
    simp only at h
    rw [Array.any_eq_true'] at h
    obtain ⟨x, hx, hb⟩ := h
    rw [Bool.and_eq_true] at hb
    exact ⟨o, x, rfl, hx, by simpa using hb.1, hb.2⟩
theorem Closed.no {listed : Array Bool} (h : Closed ops listed) {j e : Nat} (he : edgeB ops j e = true) (hl : listed.getD e true = false) : listed.getD j true = false := by
  cases hj : listed.getD j true with
  | false => rfl
  | true =>
    obtain ⟨o, x, ho, hx, rfl, hb⟩ := edge_of he
    have := getD_ft (h.2 j o ho hj x hx hb)
    rw [hl] at this; cases this
theorem dep_of {listed : Array Bool} {i : Nat} {o : Oper} (ho : ops[i]? = some o) (hd : ∀ e ∈ o.after, Region.binds .any e = true → listed.getD e.on false = true) {e : Nat} (he : edgeB ops i e = true) : listed.getD e true = true := by
  obtain ⟨o', x, ho', hx, rfl, hb⟩ := edge_of he
  rw [ho] at ho'; injection ho' with ho'; subst ho'
  exact getD_ft (hd x hx hb)
/-- Each operation's slot is its own. -/
def ownDst (ops : Array Oper) (n : Nat) : Bool := (List.range ops.size).all fun i => match (ops[i]?).bind (·.dst) with
  | some d => decide (d < n) && (List.range ops.size).all fun j => j == i || !((ops[j]?).bind (·.dst) == some d)
  | none => true
theorem ownDst_lt {n : Nat} (h : ownDst ops n = true) {i : Nat} {o : Oper} {d : Nat} (ho : ops[i]? = some o) (hd : o.dst = some d) : d < n := by
  unfold ownDst at h
  have h1 := List.all_eq_true.1 h i (List.mem_range.2 (Array.getElem?_eq_some_iff.1 ho).1)
  simp only [ho, Option.bind_some, hd, Bool.and_eq_true] at h1
  exact of_decide_eq_true h1.1
theorem ownDst_inj {n : Nat} (h : ownDst ops n = true) {i j : Nat} {o o' : Oper} {d : Nat} (ho : ops[i]? = some o) (hd : o.dst = some d) (ho' : ops[j]? = some o') (hd' : o'.dst = some d) : j = i := by
  unfold ownDst at h
  have h1 := List.all_eq_true.1 h i (List.mem_range.2 (Array.getElem?_eq_some_iff.1 ho).1)
  simp only [ho, Option.bind_some, hd, Bool.and_eq_true] at h1
  have h2 := List.all_eq_true.1 h1.2 j (List.mem_range.2 (Array.getElem?_eq_some_iff.1 ho').1)
  simp only [ho', Option.bind_some, hd'] at h2
  simpa using h2
/-- One operation yields a value, the world still being of a kind. -/
def StepTo (P : Program) (S : World → Prop) (o : Oper) (a : Act) (w : World) (v : Value) : Prop :=
  (∃ w', (execOp a.eval o).run P w = .ok (.value v) w' ∧ S w') ∨ (∃ f args, (execOp a.eval o).run P w = .ok (.enter f args) w ∧ Calls P f args w fun e w' => e = .returned v ∧ S w')
/-- A region all of whose operations yield one value each, in whatever order they come up. -/
theorem wp_region_detL {id : Nat} {tm0 : Array Value} {df : List Deferred} {w : World} (hm : P.follows .mixedOrders = true) (S : Array Bool → World → Prop) (val : Nat → Value) (hback : backB ops = true) (hown : ownDst ops tm0.size = true)
    (h0 : S (Array.replicate ops.size false) w.drew)
    (hdone : ∀ (L : Array Bool) (tm : Array Value) (w : World), (∀ i, i < ops.size → L.getD i true = true) → S L w → tm.size = tm0.size → (∀ t, ((List.range ops.size).all fun j => !((ops[j]?).bind (·.dst) == some t)) = true → tm.getD t undef = tm0.getD t undef) → (∀ j o d, ops[j]? = some o → o.dst = some d → tm.getD d undef = val j) → Q .normal ⟨tm, df⟩ w)
    (hstep : ∀ (L : Array Bool) (a : Act) (w : World) (i : Nat) (o : Oper), L.size = ops.size → ops[i]? = some o → L.getD i true = false → (∀ j, edgeB ops i j = true → L.getD j true = true) → (∀ j, edgeB ops j i = true → L.getD j true = false) → S L w → (∀ t, ((List.range ops.size).all fun j => !((ops[j]?).bind (·.dst) == some t)) = true → a.tmps.getD t undef = tm0.getD t undef) →
      (∀ j oj d, edgeB ops i j = true → ops[j]? = some oj → oj.dst = some d → a.tmps.getD d undef = val j) →
      (∀ j oj d, edgeB ops j i = true → ops[j]? = some oj → oj.dst = some d → a.tmps.getD d undef = tm0.getD d undef) → o.guard = none ∧ StepTo P (S (L.setIfInBounds i true)) o a w (val i)) :
    (Code.region id ops true).wp P Q ⟨tm0, df⟩ w := by
  refine wp_region_inv hm (fun L a w => S L w ∧ a.defers = df ∧ a.tmps.size = tm0.size ∧ (∀ t, ((List.range ops.size).all fun j => !((ops[j]?).bind (·.dst) == some t)) = true → a.tmps.getD t undef = tm0.getD t undef) ∧ (∀ j o d, ops[j]? = some o → o.dst = some d → L.getD j true = true → a.tmps.getD d undef = val j) ∧ (∀ j o d, ops[j]? = some o → o.dst = some d → L.getD j true = false → a.tmps.getD d undef = tm0.getD d undef)) (back_of hback) ?_ ?_ ?_
  · refine ⟨h0, rfl, rfl, fun _ _ => rfl, fun j o d ho _ hl => ?_, fun _ _ _ _ _ _ => rfl⟩
    have hj : j < ops.size := (Array.getElem?_eq_some_iff.1 ho).1
    simp [Array.getD_eq_getD_getElem?, hj] at hl
  · intro L a w ⟨hS, hdf, hsz, hlow, hval, _⟩ hall
    obtain ⟨tm, df'⟩ := a
    simp only at hdf hsz
    subst hdf
    exact hdone L tm w hall hS hsz hlow (fun j o d ho hd => hval j o d ho hd (hall j (Array.getElem?_eq_some_iff.1 ho).1))
  · intro L a w i o hC ⟨hS, hdf, hsz, hlow, hval, hold⟩ ho hl hd
    obtain ⟨hg, hst⟩ := hstep L a w i o hC.1 ho hl (fun j he => dep_of ho hd he) (fun j he => hC.no he hl) hS hlow (fun j oj d he hoj hdj => hval j oj d hoj hdj (dep_of ho hd he)) (fun j oj d he hoj hdj => hold j oj d hoj hdj (hC.no he hl))
    have next : ∀ w', S (L.setIfInBounds i true) w' → S (L.setIfInBounds i true) w' ∧ (a.put o.dst (val i)).defers = df ∧ (a.put o.dst (val i)).tmps.size = tm0.size ∧ (∀ t, ((List.range ops.size).all fun j => !((ops[j]?).bind (·.dst) == some t)) = true → (a.put o.dst (val i)).tmps.getD t undef = tm0.getD t undef) ∧ (∀ j o' d, ops[j]? = some o' → o'.dst = some d → (L.setIfInBounds i true).getD j true = true → (a.put o.dst (val i)).tmps.getD d undef = val j) ∧ (∀ j o' d, ops[j]? = some o' → o'.dst = some d → (L.setIfInBounds i true).getD j true = false → (a.put o.dst (val i)).tmps.getD d undef = tm0.getD d undef) := by
      intro w' hS'
      cases hod : o.dst with
      | none =>
        refine ⟨hS', hdf, hsz, hlow, fun j o' d ho' hd' hl' => ?_, fun j o' d ho' hd' hl' => ?_⟩
        · have hne : i ≠ j := fun e => by subst e; rw [ho] at ho'; injection ho' with ho'; subst ho'; rw [hod] at hd'; cases hd'
          rw [getD_set_true, if_neg (fun h => hne h.1)] at hl'
          exact hval j o' d ho' hd' hl'
        · have hne : i ≠ j := fun e => by subst e; rw [ho] at ho'; injection ho' with ho'; subst ho'; rw [hod] at hd'; cases hd'
          rw [getD_set_true, if_neg (fun h => hne h.1)] at hl'
          exact hold j o' d ho' hd' hl'
      | some d0 =>
        have hput : ∀ t, (a.put (some d0) (val i)).tmps.getD t undef = if d0 = t ∧ t < a.tmps.size then val i else a.tmps.getD t undef := by
          intro t
          unfold Act.put
          simp only [Array.getD_eq_getD_getElem?, Array.getElem?_setIfInBounds]
          by_cases e : d0 = t
          · subst e
            by_cases h : d0 < a.tmps.size
            · simp [h]
            · simp [h]
          · simp [e]
        refine ⟨hS', hdf, by simp [Act.put, hsz], fun t ht => ?_, fun j o' d ho' hd' hl' => ?_, fun j o' d ho' hd' hl' => ?_⟩
        · rw [hput, if_neg (fun h => ?_)]
          · exact hlow t ht
          · have := List.all_eq_true.1 ht i (List.mem_range.2 (Array.getElem?_eq_some_iff.1 ho).1)
            rw [ho] at this
            simp [hod, h.1] at this
        · rw [hput]
          by_cases e : d0 = d
          · subst e
            have hij := ownDst_inj hown ho hod ho' hd'
            subst hij
            rw [if_pos ⟨rfl, by rw [hsz]; exact ownDst_lt hown ho hod⟩]
          · rw [if_neg (fun h => e h.1)]
            have hne : i ≠ j := fun e' => by subst e'; rw [ho] at ho'; injection ho' with ho'; subst ho'; rw [hod] at hd'; injection hd' with hd'; exact e hd'
            rw [getD_set_true, if_neg (fun h => hne h.1)] at hl'
            exact hval j o' d ho' hd' hl'
        · have hli : i ≠ j := fun e => by
            subst e
            have hC1 : i < L.size := by rw [hC.1]; exact (Array.getElem?_eq_some_iff.1 ho).1
            rw [getD_set_true, if_pos ⟨rfl, hC1⟩] at hl'; cases hl'
          rw [getD_set_true, if_neg (fun h => hli h.1)] at hl'
          have hdd : d0 ≠ d := fun e => by subst e; exact hli (ownDst_inj hown ho' hd' ho hod)
          rw [hput, if_neg (fun h => hdd h.1)]
          exact hold j o' d ho' hd' hl'
    rcases hst with ⟨w', hr, hS'⟩ | ⟨f, args, hr, hc⟩
    · exact wpOp_value ho hg hr (next w' hS')
    · refine wpOp_enter ho hg hr (hc.mono ?_)
      rintro e w' ⟨rfl, hS'⟩
      exact ⟨_, rfl, next w' hS'⟩
/-- A region all of whose operations yield one value each, in whatever order they come up. -/
theorem wp_region_det {id : Nat} {tm0 : Array Value} {df : List Deferred} {w : World} (hm : P.follows .mixedOrders = true) (S : World → Prop) (val : Nat → Value) (hback : backB ops = true) (hown : ownDst ops tm0.size = true)
    (h0 : S w.drew)
    (hdone : ∀ (tm : Array Value) (w : World), S w → tm.size = tm0.size → (∀ t, ((List.range ops.size).all fun j => !((ops[j]?).bind (·.dst) == some t)) = true → tm.getD t undef = tm0.getD t undef) → (∀ j o d, ops[j]? = some o → o.dst = some d → tm.getD d undef = val j) → Q .normal ⟨tm, df⟩ w)
    (hstep : ∀ (a : Act) (w : World) (i : Nat) (o : Oper), ops[i]? = some o → S w → (∀ t, ((List.range ops.size).all fun j => !((ops[j]?).bind (·.dst) == some t)) = true → a.tmps.getD t undef = tm0.getD t undef) →
      (∀ j oj d, edgeB ops i j = true → ops[j]? = some oj → oj.dst = some d → a.tmps.getD d undef = val j) →
      (∀ j oj d, edgeB ops j i = true → ops[j]? = some oj → oj.dst = some d → a.tmps.getD d undef = tm0.getD d undef) → o.guard = none ∧ StepTo P S o a w (val i)) :
    (Code.region id ops true).wp P Q ⟨tm0, df⟩ w :=
  wp_region_detL hm (fun _ w => S w) val hback hown h0 (fun _ tm w _ hS hsz hl hv => hdone tm w hS hsz hl hv) (fun _ a w i o _ ho _ _ _ hS hl hd hh => hstep a w i o ho hS hl hd hh)
theorem arr_of (tm lit : Array Value) (h : tm.size = lit.size) (hall : ∀ t, t < lit.size → tm.getD t undef = lit.getD t undef) : tm = lit := by
  apply Array.ext h
  intro t h1 h2
  have := hall t h2
  simp only [Array.getD_eq_getD_getElem?, Array.getElem?_eq_getElem h1, Array.getElem?_eq_getElem h2, Option.getD_some] at this
  exact this
end
end Go.Proofs.YtnkoncplfedffaaDoor

namespace Go.Proofs.YtnkoncplfedffaaDoor
theorem set_ne {L : Array Bool} {k j : Nat} (h : k ≠ j) (b : Bool) : (L.setIfInBounds k true).getD j b = L.getD j b := by
  rw [getD_set_true, if_neg (fun e => h e.1)]
theorem set_eq {L : Array Bool} {k : Nat} (h : k < L.size) (b : Bool) : (L.setIfInBounds k true).getD k b = true := by
  rw [getD_set_true, if_pos ⟨rfl, h⟩]
end Go.Proofs.YtnkoncplfedffaaDoor

namespace Go.Proofs.YtnkoncplfedffaaDoor
open Go.RowKit

/-- The cells from the address on are just these. (Nothing is asked where there are none.) -/
def Row (w : World) (A : Option Addr) (cs : List Value) : Prop :=
  0 < cs.length → ∃ ad, A = some ad ∧ ad.block < w.heap.size ∧ ∀ j u, cs[j]? = some u → w.cell? (ad.add j) = some u
theorem add_block (a : Addr) (n : Nat) : (a.add n).block = a.block := by unfold Addr.add; split <;> rfl
section
variable {w w' : World} {A : Option Addr} {cs : List Value}
theorem Row.at_ (h : Row w A cs) {k : Nat} (hk : k < cs.length) : ∃ ad, A = some ad ∧ w.cell? (ad.add k) = some cs[k] := by
  obtain ⟨ad, e, _, hc⟩ := h (by omega)
  exact ⟨ad, e, hc k _ (List.getElem?_eq_getElem hk)⟩
theorem Row.keep (h : Row w A cs) (hs : w.heap.size ≤ w'.heap.size) (hk : ∀ p : Addr, p.block < w.heap.size → w'.cell? p = w.cell? p) : Row w' A cs := fun hn => by
  obtain ⟨ad, e, hb, hc⟩ := h hn
  exact ⟨ad, e, by omega, fun j u hu => (hk _ (by rw [add_block]; exact hb)).trans (hc j u hu)⟩
theorem Row.below (h : Row w A cs) (hb : Below w.heap.size w w') : Row w' A cs := h.keep hb.size fun _ hp => hb.cell hp
theorem Row.drewN (h : Row w A cs) (n : Nat) : Row (w.drewN n) A cs := h
theorem Row.drew (h : Row w A cs) : Row w.drew A cs := h
theorem Row.alloc (h : Row w A cs) (o : Obj) : Row (w.alloc o) A cs := h.below ((Below.refl _ _).alloc (Nat.le_refl _) o)
theorem Row.nil (A : Option Addr) : Row w A [] := fun h => absurd h (by simp)
theorem Row.of_own {base : Nat} {e : TypeId} {c n size : Nat} (h : w.ownsRow base e size (.slice A n c) n cs) : Row w A cs := fun hn => by
  rcases h.2 with ⟨hv, h0⟩ | ⟨g, cap, cur, hv, hb, hg, _⟩
  · have := h.1; rw [h0] at this; omega
  · have hA : A = some ⟨g, 0, none⟩ := by injection hv
    subst hA
    have hlt : g < w.heap.size := (Array.getElem?_eq_some_iff.1 hg).1
    exact ⟨_, rfl, hlt, h.cells (g := g) rfl⟩
theorem own_slice {base : Nat} {e : TypeId} {n size : Nat} {v : Value} (h : w.ownsRow base e size v n cs) : ∃ A c, v = .slice A n c ∧ n ≤ c ∧ Row w A cs := by
  rcases id h.2 with ⟨hv, h0⟩ | ⟨g, cap, cur, hv, hb, hg, hc, _⟩
  · subst hv; subst h0; exact ⟨none, 0, rfl, Nat.le_refl _, Row.of_own h⟩
  · subst hv; exact ⟨_, cap, rfl, hc, Row.of_own h⟩
end
theorem Row.cells {w : World} {b o : Nat} {cs : List Value} (h : Row w (some ⟨b, o, none⟩) cs) (h0 : 0 < cs.length) : b < w.heap.size ∧ ∀ j u, cs[j]? = some u → w.cell? ⟨b, o + j, none⟩ = some u := by
  obtain ⟨ad, e, hb, hc⟩ := h h0
  injection e with e
  subst e
  refine ⟨hb, fun j u hu => ?_⟩
  have := hc j u hu
  unfold Addr.add at this
  by_cases hj : j = 0
  · subst hj; simpa using this
  · simpa [hj] using this
theorem Row.cell0 {w : World} {b : Nat} {cs : List Value} (h : Row w (some ⟨b, 0, none⟩) cs) {k : Nat} (hk : k < cs.length) : w.cell? ⟨b, k, none⟩ = some cs[k] := by
  have := (h.cells (by omega)).2 k _ (List.getElem?_eq_getElem hk)
  rwa [Nat.zero_add] at this
theorem lt_of_cell {w : World} {a : Addr} {v : Value} (h : w.cell? a = some v) : a.block < w.heap.size := by
  rcases Nat.lt_or_ge a.block w.heap.size with g | g
  · exact g
  · simp [World.cell?, Array.getElem?_eq_none g] at h
theorem IsStrs.row {w : World} {a : Option Addr} {len cap : Nat} {zs : List ByteArray} (h : IsStrs w a len cap zs) : Row w a ((zs.take len).map Value.string) ∧ (zs.take len).length = len ∧ len ≤ maxLen ∧ ∀ s ∈ zs.take len, s.size ≤ maxLen := by
  rcases h with ⟨rfl, rfl, rfl, rfl⟩ | ⟨x, rfl, hl, hm, hz, hc, hs⟩
  · exact ⟨Row.nil _, rfl, Nat.zero_le _, by simp⟩
  · refine ⟨fun hn => ⟨x, rfl, ?_, fun j u hu => ?_⟩, by simp; omega, by omega, fun s h => hs s (List.mem_of_mem_take h)⟩
    · have h0 : 0 < zs.length := by simp at hn; omega
      have := lt_of_cell (hc 0 h0)
      rwa [add_block] at this
    · rw [List.getElem?_map, Option.map_eq_some_iff] at hu
      obtain ⟨s, h1, rfl⟩ := hu
      obtain ⟨h2, h3⟩ := List.getElem?_eq_some_iff.1 h1
      have hj : j < zs.length := by simp at h2; omega
      rw [hc j hj]
      rw [List.getElem_take] at h3
      subst h3
      simp [List.getD, hj]

/-- A block that holds just these cells, none frozen. -/
def BlockIs (w : World) (g : Nat) (t : TypeId) (cs : Array Value) : Prop := w.heap[g]? = some (.cells cs t (0, 0))
section
variable {w w' : World} {g : Nat} {t : TypeId} {cs : Array Value}
theorem BlockIs.lt (h : BlockIs w g t cs) : g < w.heap.size := (Array.getElem?_eq_some_iff.1 h).1
theorem BlockIs.cell (h : BlockIs w g t cs) (i : Nat) : w.cell? ⟨g, i, none⟩ = cs[i]? := cell_of_row w g i cs t (0, 0) h
theorem BlockIs.frozen (h : BlockIs w g t cs) (i : Nat) : w.frozen? ⟨g, i, none⟩ = false := by unfold BlockIs at h; simp [World.frozen?, h]
theorem BlockIs.new (w : World) (t : TypeId) (cs : Array Value) : BlockIs (w.alloc (.cells cs t)) w.heap.size t cs := heap_alloc_new w _
theorem BlockIs.drew (h : BlockIs w g t cs) : BlockIs w.drew g t cs := h
theorem BlockIs.drewN (h : BlockIs w g t cs) (n : Nat) : BlockIs (w.drewN n) g t cs := h
theorem BlockIs.below (h : BlockIs w g t cs) (hb : Below w.heap.size w w') : BlockIs w' g t cs := (hb.block g h.lt).trans h
theorem BlockIs.set (h : BlockIs w g t cs) (i : Nat) (u : Value) : BlockIs (w.setCell ⟨g, i, none⟩ u) g t (cs.setIfInBounds i u) := by
  unfold BlockIs at h ⊢
  simp [World.setCell, Array.getElem?_modify, h]
theorem BlockIs.own (h : BlockIs w g t cs) {base n c size : Nat} (hb : base ≤ g) (hs : cs.size = c * size) (hn : n ≤ c) (hm : c ≤ maxLen) (hsz : n * size ≤ cs.size) : w.ownsRow base t size (.slice (some ⟨g, 0, none⟩) n c) n (cs.toList.take (n * size)) :=
  ⟨by simp; omega, .inr ⟨g, c, cs, rfl, hb, h, hn, hm, hs, rfl⟩⟩
end
theorem own_block {w : World} {base : Nat} {e : TypeId} {n size : Nat} {A : Option Addr} {c : Nat} {cs : List Value} (h : w.ownsRow base e size (.slice A n c) n cs) (hn : 0 < n) :
    ∃ g cur, A = some ⟨g, 0, none⟩ ∧ base ≤ g ∧ BlockIs w g e cur ∧ n ≤ c ∧ c ≤ maxLen ∧ cur.size = c * size ∧ cur.toList.take (n * size) = cs := by
  rcases h.2 with ⟨hv, h0⟩ | ⟨g, cap, cur, hv, hb, hg, h1, h2, h3, h4⟩
  · omega
  · injection hv with e1 e2 e3
    subst e1; subst e3
    exact ⟨g, cur, rfl, hb, hg, h1, h2, h3, h4⟩
theorem Row.new (w : World) (t : TypeId) (cs : Array Value) : Row (w.alloc (.cells cs t)) (some ⟨w.heap.size, 0, none⟩) cs.toList := fun _ =>
  ⟨_, rfl, by simp, fun j u hu => by
    have h := (BlockIs.new w t cs).cell j
    unfold Addr.add
    by_cases hj : j = 0
    · subst hj; rw [if_pos rfl, h, ← Array.getElem?_toList]; exact hu
    · rw [if_neg hj]; simp only [Nat.zero_add]; rw [h, ← Array.getElem?_toList]; exact hu⟩
theorem alloc_grown (w : World) (o : Obj) (r : Option Nat) : w.grownBy (w.alloc o) r := World.grownBy_alloc w o r
end Go.Proofs.YtnkoncplfedffaaDoor

namespace Go.Proofs.YtnkoncplfedffaaDoor
open Go.RowKit

/-- A block is a map that holds just these keys with these values, in the order in which they came. -/
def MapOf (w : World) (g : Nat) (kvs : List (Int × Value)) : Prop :=
  ∃ es clock, w.heap[g]? = some (.map es clock) ∧ es.toList.map (fun e => (e.key, e.val)) = kvs.map fun p => (Value.int .i64 p.1, p.2)
def getM : List (Int × Value) → Int → Option Value
  | [], _ => none
  | p :: kvs, x => if p.1 = x then some p.2 else getM kvs x
theorem find_getM (x : Int) : ∀ (es : List MapEntry) (kvs : List (Int × Value)) (i : Nat), es.map (fun e => (e.key, e.val)) = kvs.map (fun p => (Value.int .i64 p.1, p.2)) → ∃ r, Instr.findNow (.int .i64) (.int .i64 x) es i = some r ∧ r.map (·.2) = getM kvs x
  | [], [], _, _ => ⟨none, rfl, rfl⟩
  | [], _ :: _, _, h => by cases h
  | _ :: _, [], _, h => by cases h
  | e :: es, p :: kvs, i, h => by
    simp only [List.map_cons, List.cons.injEq, Prod.mk.injEq] at h
    obtain ⟨⟨hk, hv⟩, ht⟩ := h
    by_cases hx : p.1 = x
    · refine ⟨some (i, e.val), ?_, ?_⟩
      · simp [Instr.findNow, Instr.sameNow, hk, hx]
      · simp [getM, hx, hv]
    · obtain ⟨r, h1, h2⟩ := find_getM x es kvs (i + 1) ht
      refine ⟨r, ?_, ?_⟩
      · have hne : (x == p.1) = false := by simp; exact fun e => hx e.symm
        simp [Instr.findNow, Instr.sameNow, hk, h1, hne]
      · simp [getM, hx, h2]
section
variable {P : Program} {w w' : World} {g : Nat} {kvs : List (Int × Value)} {t k e : TypeId}
theorem MapOf.lt (h : MapOf w g kvs) : g < w.heap.size := by
  obtain ⟨es, clock, hb, _⟩ := h
  exact (Array.getElem?_eq_some_iff.1 hb).1
theorem MapOf.new (w : World) : MapOf (w.alloc (.map #[] 0)) w.heap.size [] := ⟨#[], 0, heap_alloc_new w _, rfl⟩
theorem MapOf.below (h : MapOf w g kvs) (hb : Below w.heap.size w w') : MapOf w' g kvs := by
  have hlt := h.lt
  obtain ⟨es, clock, h1, h2⟩ := h
  exact ⟨es, clock, (hb.block g hlt).trans h1, h2⟩
theorem MapOf.drew (h : MapOf w g kvs) : MapOf w.drew g kvs := h
theorem MapOf.grown {r : Option Nat} (h : MapOf w g kvs) (hg : w.grownBy w' r) (hne : some g ≠ r) : MapOf w' g kvs := by
  have hlt := h.lt
  obtain ⟨es, clock, h1, h2⟩ := h
  exact ⟨es, clock, (hg.block g hlt hne).trans h1, h2⟩
theorem MapOf.look (h : MapOf w g kvs) (ht : P.underlying t = some (.map k e)) (hk : P.underlying k = some (.int .i64)) (x : Int) {z : Value} (hz : (zeroValue e).run P w = .ok z w) :
    (Instr.lookup t (.map (some g)) (.int .i64 x) false).run P w = .ok ((getM kvs x).getD z) w := by
  obtain ⟨es, clock, hb, he⟩ := h
  obtain ⟨r, h1, h2⟩ := find_getM x es.toList kvs 0 he
  have h3 := MapKept.run_findKey (P := P) (w := w) hk h1
  have h4 := MapKept.run_checkKey (P := P) (w := w) (kt := k) (k := .int .i64 x) hk (by simp [MapKept.IsKey]) es.isEmpty 9999
  rw [← h2]
  cases r with
  | none => simp [Instr.lookup, run_underlying ht, MapKept.run_getObj_map hb, h4, h3, hz, Result.andThen]
  | some r => simp [Instr.lookup, run_underlying ht, MapKept.run_getObj_map hb, h4, h3, Result.andThen]
theorem MapOf.look_ok (h : MapOf w g kvs) (ht : P.underlying t = some (.map k e)) (hk : P.underlying k = some (.int .i64)) (x : Int) {z : Value} (hz : (zeroValue e).run P w = .ok z w) :
    (Instr.lookup t (.map (some g)) (.int .i64 x) true).run P w = .ok (.tuple #[(getM kvs x).getD z, .bool (getM kvs x).isSome]) w := by
  obtain ⟨es, clock, hb, he⟩ := h
  obtain ⟨r, h1, h2⟩ := find_getM x es.toList kvs 0 he
  have h3 := MapKept.run_findKey (P := P) (w := w) hk h1
  have h4 := MapKept.run_checkKey (P := P) (w := w) (kt := k) (k := .int .i64 x) hk (by simp [MapKept.IsKey]) es.isEmpty 9999
  rw [← h2]
  cases r with
  | none => simp [Instr.lookup, run_underlying ht, MapKept.run_getObj_map hb, h4, h3, hz, Result.andThen]
  | some r => simp [Instr.lookup, run_underlying ht, MapKept.run_getObj_map hb, h4, h3, Result.andThen]
theorem MapOf.put (h : MapOf w g kvs) (ht : P.underlying t = some (.map k e)) (hk : P.underlying k = some (.int .i64)) (x : Int) (v : Value) (hx : getM kvs x = none) :
    ∃ w', (Instr.mapUpdate t (.map (some g)) (.int .i64 x) v).run P w = .ok () w' ∧ MapOf w' g (kvs ++ [(x, v)]) ∧ w.grownBy w' (some g) ∧ w'.heap.size = w.heap.size := by
  obtain ⟨es, clock, hb, he⟩ := h
  obtain ⟨r, h1, h2⟩ := find_getM x es.toList kvs 0 he
  have h3 := MapKept.run_findKey (P := P) (w := w) hk h1
  have h4 := MapKept.run_checkKey (P := P) (w := w) (kt := k) (k := .int .i64 x) hk (by simp [MapKept.IsKey]) false 9999
  cases r with
  | some r => rw [hx] at h2; cases h2
  | none =>
    refine ⟨{ w with heap := w.heap.setIfInBounds g (.map (es.push { key := .int .i64 x, val := v, born := clock }) (clock + 1)) }, by simp [Instr.mapUpdate, run_underlying ht, MapKept.run_getObj_map hb, h4, h3, MapKept.run_setObj_map _ hb, Result.andThen], ⟨_, _, (MapKept.heap_set hb).1, ?_⟩, ⟨rfl, rfl, rfl, by simp, fun i _ hi => (MapKept.heap_set hb).2 i (fun e => hi (by rw [e]))⟩, by simp⟩
    simp [he]
theorem run_makeMap_hint (ht : P.underlying t = some (.map k e)) (q : IntKind) (n : Int) (w : World) : (Instr.makeMap t (some (.int q n))).run P w = .ok (.map (some w.heap.size)) (w.alloc (.map #[] 0)) := by
  simp [Instr.makeMap, run_underlying ht, asInt, asIntOf, Result.andThen]
end
end Go.Proofs.YtnkoncplfedffaaDoor

namespace Go.Proofs.YtnkoncplfedffaaDoor
open Go.RowKit
abbrev fEnd : Value := .func (.func 89) #[] #[]
abbrev fLat : Value := .func (.func 90) #[] #[]
abbrev fTar (b : Nat) : Value := .func (.func 91) #[] #[.pointer (some ⟨b, 0, none⟩)]
abbrev fLate (b : Nat) : Value := .func (.func 92) #[] #[.pointer (some ⟨b, 0, none⟩)]
abbrev fMk : Value := .func (.func 93) #[] #[]
abbrev fWgt (b : Nat) : Value := .func (.func 94) #[] #[.pointer (some ⟨b, 0, none⟩)]
/-- The slot that an operation of the table fills. -/
def dstM : Nat → Option Nat
  | 0 => some 14 | 1 => some 15 | 2 => some 16 | 4 => some 17 | 5 => some 18 | 7 => some 19 | 8 => some 20 | 9 => some 21 | 10 => some 22
  | 12 => some 23 | 13 => some 24 | 15 => some 25 | 16 => some 26 | 18 => some 27 | 19 => some 28 | 20 => some 29 | 21 => some 30 | 23 => some 31
  | 24 => some 32 | 26 => some 33 | 27 => some 34 | 28 => some 35 | 29 => some 36 | 31 => some 37 | 32 => some 9
  | _ => none
/-- What it fills it with. -/
def valM (n m b3 b6 b8 : Nat) : Nat → Value
  | 0 => .map (some m) | 1 => fEnd | 2 => .agg #[fEnd, .bool true] | 4 => fEnd | 5 => .agg #[fEnd, .bool false] | 7 => fMk | 8 => fEnd
  | 9 => fWgt b3 | 10 => .agg #[fWgt b3, .bool false] | 12 => fLat | 13 => .agg #[fLat, .bool true] | 15 => fTar (n + 1) | 16 => .agg #[fTar (n + 1), .bool false]
  | 18 => fMk | 19 => fTar (n + 1) | 20 => fWgt b6 | 21 => .agg #[fWgt b6, .bool false] | 23 => fLate (n + 2) | 24 => .agg #[fLate (n + 2), .bool false]
  | 26 => fMk | 27 => fLate (n + 2) | 28 => fWgt b8 | 29 => .agg #[fWgt b8, .bool false] | 31 => .map (some m) | 32 => .map (some m)
  | _ => undef
/-- The operation that puts a key in, and the operation that makes what it puts. -/
def insAt : Nat → Option (Nat × Nat)
  | 1 => some (3, 2) | 2 => some (6, 5) | 3 => some (11, 10) | 4 => some (14, 13) | 5 => some (17, 16) | 6 => some (22, 21) | 7 => some (25, 24) | 8 => some (30, 29)
  | _ => none
theorem dst_inj : ∀ j, j < 33 → ∀ k, k < 33 → (dstM j).isSome = true → dstM j = dstM k → j = k := by decide +kernel
theorem dst_lt (j d : Nat) (h : dstM j = some d) : j < 33 ∧ 9 ≤ d ∧ d < 46 := by
  unfold dstM at h
  split at h <;> first | (injection h with h; omega) | cases h
theorem ins_lt (key i s : Nat) (h : insAt key = some (i, s)) : 1 ≤ key ∧ key ≤ 8 ∧ i < 33 ∧ dstM i = none := by
  unfold insAt at h
  split at h <;> first | (injection h with h; injection h with h1 h2; subst h1; exact ⟨by omega, by omega, by omega, rfl⟩) | cases h
theorem ins_inj : ∀ j, j < 9 → ∀ k, k < 9 → (insAt j).isSome = true → (insAt j).map (·.1) = (insAt k).map (·.1) → j = k := by decide +kernel
theorem ins_none (key : Nat) (h : 8 < key) : insAt key = none := by
  unfold insAt; split <;> first | omega | rfl
def keyIn (n m b3 b6 b8 : Nat) (L : Array Bool) (key : Int) : Option Value :=
  if key < 0 then none else match insAt key.toNat with
    | some (i, s) => if L.getD i true = true then some (valM n m b3 b6 b8 s) else none
    | none => none
structure MI (n : Nat) (w : World) (o : Int) (m b3 b6 b8 : Nat) (L : Array Bool) (a : Act) (w' : World) : Prop where
  len : L.size = 33
  defers : a.defers = []
  size : a.tmps.size = 46
  low0 : a.tmps.getD 0 undef = .int .i64 o
  low2 : a.tmps.getD 2 undef = .pointer (some ⟨n, 0, none⟩)
  low3 : a.tmps.getD 3 undef = .bool false
  low4 : a.tmps.getD 4 undef = fEnd
  low5 : a.tmps.getD 5 undef = .pointer (some ⟨n + 1, 0, none⟩)
  low6 : a.tmps.getD 6 undef = .pointer (some ⟨n + 2, 0, none⟩)
  low7 : a.tmps.getD 7 undef = fLate (n + 2)
  low8 : a.tmps.getD 8 undef = fMk
  vals : ∀ j d, dstM j = some d → L.getD j true = true → a.tmps.getD d undef = valM n m b3 b6 b8 j
  below : Below n w w'
  fit : n + 3 ≤ w'.heap.size
  blk0 : BlockIs w' n 92 #[.nilFunc, .bool false]
  blk1 : BlockIs w' (n + 1) 90 #[fLat]
  blk2 : BlockIs w' (n + 2) 90 #[fTar (n + 1)]
  map : L.getD 0 true = true → n + 3 ≤ m ∧ ∃ kvs, MapOf w' m kvs ∧ ∀ key, getM kvs key = keyIn n m b3 b6 b8 L key
  c3 : L.getD 9 true = true → n + 3 ≤ b3 ∧ BlockIs w' b3 90 #[fEnd] ∧ (L.getD 0 true = true → b3 ≠ m)
  c6 : L.getD 20 true = true → n + 3 ≤ b6 ∧ BlockIs w' b6 90 #[fTar (n + 1)] ∧ (L.getD 0 true = true → b6 ≠ m)
  c8 : L.getD 28 true = true → n + 3 ≤ b8 ∧ BlockIs w' b8 90 #[fLate (n + 2)] ∧ (L.getD 0 true = true → b8 ≠ m)
theorem getD_put (a : Act) (d t : Nat) (v : Value) : (a.put (some d) v).tmps.getD t undef = if d = t ∧ t < a.tmps.size then v else a.tmps.getD t undef := by
  unfold Act.put
  simp only [Array.getD_eq_getD_getElem?, Array.getElem?_setIfInBounds]
  by_cases e : d = t
  · subst e
    by_cases h : d < a.tmps.size
    · simp [h]
    · simp [h]
  · simp [e]
theorem keyIn_same {n m b3 b6 b8 : Nat} {L : Array Bool} {k : Nat} (hk : ∀ key i s, insAt key = some (i, s) → i ≠ k) (key : Int) : keyIn n m b3 b6 b8 (L.setIfInBounds k true) key = keyIn n m b3 b6 b8 L key := by
  unfold keyIn
  by_cases h0 : key < 0
  · rw [if_pos h0, if_pos h0]
  · rw [if_neg h0, if_neg h0]
    cases hi : insAt key.toNat with
    | none => rfl
    | some p =>
      obtain ⟨i, s⟩ := p
      simp only
      rw [set_ne (fun e => hk _ i s hi e.symm)]
section
variable {n : Nat} {w : World} {o : Int} {m b3 b6 b8 : Nat} {L : Array Bool} {a : Act} {w' : World}
/-- The slots, when one operation fills its own. -/
theorem vals_step {m' b3' b6' b8' : Nat} (h : MI n w o m b3 b6 b8 L a w') {k d : Nat} (hk : dstM k = some d)
    (hsame : ∀ j, j ≠ k → j < 33 → L.getD j true = true → valM n m' b3' b6' b8' j = valM n m b3 b6 b8 j) :
    ∀ j d', dstM j = some d' → (L.setIfInBounds k true).getD j true = true → (a.put (some d) (valM n m' b3' b6' b8' k)).tmps.getD d' undef = valM n m' b3' b6' b8' j := by
  intro j d' hj hL
  have hkl := dst_lt k d hk
  have hjl := dst_lt j d' hj
  rw [getD_put, h.size]
  by_cases e : j = k
  · subst e
    rw [hk] at hj; injection hj with hj; subst hj
    rw [if_pos ⟨rfl, hkl.2.2⟩]
  · have hd : d ≠ d' := fun e' => e (dst_inj j hjl.1 k hkl.1 (by rw [hj]; rfl) (by rw [hj, hk, e']))
    rw [if_neg (fun h' => hd h'.1)]
    rw [set_ne (fun e' => e e'.symm)] at hL
    rw [hsame j e hjl.1 hL]
    exact h.vals j d' hj hL
theorem low_step {k d : Nat} (hk : dstM k = some d) {t : Nat} (ht : t < 9) (v : Value) : (a.put (some d) v).tmps.getD t undef = a.tmps.getD t undef := by
  have := dst_lt k d hk
  rw [getD_put, if_neg (by omega)]
theorem MI.pure (h : MI n w o m b3 b6 b8 L a w') {k d : Nat} (hk : dstM k = some d) (h0 : k ≠ 0) (h9 : k ≠ 9) (h20 : k ≠ 20) (h28 : k ≠ 28) :
    MI n w o m b3 b6 b8 (L.setIfInBounds k true) (a.put (some d) (valM n m b3 b6 b8 k)) w' := by
  have hi : ∀ key i s, insAt key = some (i, s) → i ≠ k := fun key i s hi e => by
    have := (ins_lt key i s hi).2.2.2
    rw [e, hk] at this; cases this
  refine ⟨by simp [h.len], h.defers, by simp [Act.put, h.size], ?_, ?_, ?_, ?_, ?_, ?_, ?_, ?_, vals_step h hk (fun _ _ _ _ => rfl), h.below, h.fit, h.blk0, h.blk1, h.blk2, ?_, ?_, ?_, ?_⟩
  · rw [low_step hk (by omega)]; exact h.low0
  · rw [low_step hk (by omega)]; exact h.low2
  · rw [low_step hk (by omega)]; exact h.low3
  · rw [low_step hk (by omega)]; exact h.low4
  · rw [low_step hk (by omega)]; exact h.low5
  · rw [low_step hk (by omega)]; exact h.low6
  · rw [low_step hk (by omega)]; exact h.low7
  · rw [low_step hk (by omega)]; exact h.low8
  · rw [set_ne h0]
    intro hl
    obtain ⟨h1, kvs, h2, h3⟩ := h.map hl
    exact ⟨h1, kvs, h2, fun key => by rw [keyIn_same hi, h3]⟩
  · rw [set_ne h9, set_ne h0]; exact h.c3
  · rw [set_ne h20, set_ne h0]; exact h.c6
  · rw [set_ne h28, set_ne h0]; exact h.c8
theorem getM_snoc (kvs : List (Int × Value)) (x : Int) (v : Value) (y : Int) : getM (kvs ++ [(x, v)]) y = match getM kvs y with | some u => some u | none => if x = y then some v else none := by
  induction kvs with
  | nil => rfl
  | cons p kvs ih =>
    simp only [List.cons_append, getM]
    by_cases e : p.1 = y
    · simp [e]
    · simp [e, ih]
theorem ins_fresh {k s key : Nat} (hk : insAt key = some (k, s)) (hlk : L.getD k true = false) {kvs : List (Int × Value)} (hkv : ∀ key, getM kvs key = keyIn n m b3 b6 b8 L key) : getM kvs (key : Int) = none := by
  rw [hkv]; unfold keyIn
  rw [if_neg (by omega), Int.toNat_natCast, hk]
  simp only [hlk, Bool.false_eq_true, if_false]
theorem MI.ins (h : MI n w o m b3 b6 b8 L a w') {k s key : Nat} (hk : insAt key = some (k, s)) (hl0 : L.getD 0 true = true) (hlk : L.getD k true = false) {w'' : World} (v : Value)
    {kvs : List (Int × Value)} (hkv : ∀ key, getM kvs key = keyIn n m b3 b6 b8 L key) (hM' : MapOf w'' m (kvs ++ [((key : Int), valM n m b3 b6 b8 s)])) (hg : w'.grownBy w'' (some m)) (hs : w''.heap.size = w'.heap.size) :
    MI n w o m b3 b6 b8 (L.setIfInBounds k true) (a.put none v) w'' := by
  obtain ⟨hk1, hk8, hk33, hkd⟩ := ins_lt key k s hk
  obtain ⟨hm, _, _, _⟩ := h.map hl0
  have n0 : k ≠ 0 := fun e => by rw [e] at hkd; cases hkd
  have n9 : k ≠ 9 := fun e => by rw [e] at hkd; cases hkd
  have n20 : k ≠ 20 := fun e => by rw [e] at hkd; cases hkd
  have n28 : k ≠ 28 := fun e => by rw [e] at hkd; cases hkd
  have keep : ∀ {g : Nat} {t : TypeId} {cs : Array Value}, BlockIs w' g t cs → g ≠ m → BlockIs w'' g t cs := fun hb hne => (hg.block _ hb.lt (fun e => hne (by injection e))).trans hb
  refine ⟨by simp [h.len], h.defers, h.size, h.low0, h.low2, h.low3, h.low4, h.low5, h.low6, h.low7, h.low8, ?_, ?_, by rw [hs]; exact h.fit, keep h.blk0 (by omega), keep h.blk1 (by omega), keep h.blk2 (by omega), ?_, ?_, ?_, ?_⟩
  · intro j d hj hl
    have : k ≠ j := fun e => by rw [← e, hkd] at hj; cases hj
    rw [set_ne this] at hl
    exact h.vals j d hj hl
  · exact h.below.trans ⟨hg.os, hg.tape, hg.output, hg.size, fun j hj => hg.block j (by have := h.fit; omega) (fun e => by injection e; omega)⟩
  · intro _
    refine ⟨hm, _, hM', fun y => ?_⟩
    rw [getM_snoc, hkv]
    unfold keyIn
    by_cases hy : y < 0
    · rw [if_pos hy, if_pos hy]
      simp only
      rw [if_neg (by omega)]
    · rw [if_neg hy, if_neg hy]
      by_cases e : y = (key : Int)
      · subst e
        rw [Int.toNat_natCast, hk]
        simp only [hlk, Bool.false_eq_true, if_false, if_true]
        rw [set_eq (by rw [h.len]; exact hk33)]
        simp
      · cases hi : insAt y.toNat with
        | none => simp only; rw [if_neg (fun e' => e e'.symm)]
        | some p =>
          obtain ⟨i, s'⟩ := p
          have hil := ins_lt _ _ _ hi
          have hik : k ≠ i := fun e' => e (by
            have := ins_inj y.toNat (by omega) key (by omega) (by rw [hi]; rfl) (by rw [hi, hk, e']; rfl)
            omega)
          simp only
          rw [set_ne hik]
          by_cases hli : L.getD i true = true
          · rw [if_pos hli]
          · rw [if_neg hli]
            simp only
            rw [if_neg (fun e' => e e'.symm)]
  · rw [set_ne n9, set_ne n0]
    intro hl
    obtain ⟨h1, h2, h3⟩ := h.c3 hl
    exact ⟨h1, keep h2 (h3 hl0), h3⟩
  · rw [set_ne n20, set_ne n0]
    intro hl
    obtain ⟨h1, h2, h3⟩ := h.c6 hl
    exact ⟨h1, keep h2 (h3 hl0), h3⟩
  · rw [set_ne n28, set_ne n0]
    intro hl
    obtain ⟨h1, h2, h3⟩ := h.c8 hl
    exact ⟨h1, keep h2 (h3 hl0), h3⟩
theorem val_m {m' j : Nat} (h0 : j ≠ 0) (h1 : j ≠ 31) (h2 : j ≠ 32) : valM n m' b3 b6 b8 j = valM n m b3 b6 b8 j := by
  unfold valM; split <;> first | rfl | omega
theorem MI.make (h : MI n w o m b3 b6 b8 L a w') (h31 : L.getD 31 true = false) (h32 : L.getD 32 true = false) (hun : ∀ key i s, insAt key = some (i, s) → L.getD i true = false) :
    MI n w o w'.heap.size b3 b6 b8 (L.setIfInBounds 0 true) (a.put (some 14) (.map (some w'.heap.size))) (w'.alloc (.map #[] 0)) := by
  have hk : dstM 0 = some 14 := rfl
  have hb1 : Below w'.heap.size w' (w'.alloc (.map #[] 0)) := (Below.refl _ _).alloc (Nat.le_refl _) _
  have hv := vals_step (m' := w'.heap.size) (b3' := b3) (b6' := b6) (b8' := b8) h hk (fun j hj _ hl => val_m hj (fun e => by rw [e, h31] at hl; cases hl) (fun e => by rw [e, h32] at hl; cases hl))
  have hfit := h.fit
  refine ⟨by simp [h.len], h.defers, by simp [Act.put, h.size], ?_, ?_, ?_, ?_, ?_, ?_, ?_, ?_, hv, h.below.trans (hb1.mono (by omega)), by simp; omega, h.blk0.below hb1, h.blk1.below hb1, h.blk2.below hb1, ?_, ?_, ?_, ?_⟩
  · rw [low_step hk (by omega)]; exact h.low0
  · rw [low_step hk (by omega)]; exact h.low2
  · rw [low_step hk (by omega)]; exact h.low3
  · rw [low_step hk (by omega)]; exact h.low4
  · rw [low_step hk (by omega)]; exact h.low5
  · rw [low_step hk (by omega)]; exact h.low6
  · rw [low_step hk (by omega)]; exact h.low7
  · rw [low_step hk (by omega)]; exact h.low8
  · intro _
    refine ⟨hfit, [], MapOf.new _, fun key => ?_⟩
    rw [keyIn_same (fun key i s hi e => by have := (ins_lt key i s hi).2.2.2; rw [e] at this; cases this)]
    unfold keyIn
    by_cases hy : key < 0
    · rw [if_pos hy]; rfl
    · rw [if_neg hy]
      cases hi : insAt key.toNat with
      | none => rfl
      | some p =>
        obtain ⟨i, s⟩ := p
        simp only [hun _ i s hi, Bool.false_eq_true, if_false]; rfl
  · rw [set_ne (by omega)]
    intro hl
    obtain ⟨h1, h2, _⟩ := h.c3 hl
    exact ⟨h1, h2.below hb1, fun _ e => by have := h2.lt; omega⟩
  · rw [set_ne (by omega)]
    intro hl
    obtain ⟨h1, h2, _⟩ := h.c6 hl
    exact ⟨h1, h2.below hb1, fun _ e => by have := h2.lt; omega⟩
  · rw [set_ne (by omega)]
    intro hl
    obtain ⟨h1, h2, _⟩ := h.c8 hl
    exact ⟨h1, h2.below hb1, fun _ e => by have := h2.lt; omega⟩
theorem val_c3 {b3' j : Nat} (h0 : j ≠ 9) (h1 : j ≠ 10) : valM n m b3' b6 b8 j = valM n m b3 b6 b8 j := by
  unfold valM; split <;> first | rfl | omega
theorem keyIn_c3 {b3' : Nat} (hl : L.getD 11 true = false) (key : Int) : keyIn n m b3' b6 b8 L key = keyIn n m b3 b6 b8 L key := by
  unfold keyIn
  by_cases hy : key < 0
  · rw [if_pos hy, if_pos hy]
  · rw [if_neg hy, if_neg hy]
    cases hi : insAt key.toNat with
    | none => rfl
    | some p =>
      obtain ⟨i, s⟩ := p
      simp only
      by_cases e : i = 11
      · subst e
        simp only [hl, Bool.false_eq_true, if_false]
      · have hs : s ≠ 9 ∧ s ≠ 10 := by
          unfold insAt at hi
          split at hi <;> first | (injection hi with hi; injection hi with h1 h2; subst h1; subst h2; first | exact ⟨by omega, by omega⟩ | exact absurd rfl e) | cases hi
        rw [val_c3 hs.1 hs.2]
theorem MI.c3_call (h : MI n w o m b3 b6 b8 L a w') (hb : L.getD 10 true = false) (hi : L.getD 11 true = false) :
    MI n w o m w'.heap.size b6 b8 (L.setIfInBounds 9 true) (a.put (some 21) (fWgt w'.heap.size)) (w'.alloc (.cells #[fEnd] 90)) := by
  have hk : dstM 9 = some 21 := rfl
  have hb1 : Below w'.heap.size w' (w'.alloc (.cells #[fEnd] 90)) := (Below.refl _ _).alloc (Nat.le_refl _) _
  have hv := vals_step (m' := m) (b3' := w'.heap.size) (b6' := b6) (b8' := b8) h hk (fun j hj _ hl => val_c3 hj (fun e => by rw [e, hb] at hl; cases hl))
  have hfit := h.fit
  refine ⟨by simp [h.len], h.defers, by simp [Act.put, h.size], ?_, ?_, ?_, ?_, ?_, ?_, ?_, ?_, hv, h.below.trans (hb1.mono (by omega)), by simp; omega, h.blk0.below hb1, h.blk1.below hb1, h.blk2.below hb1, ?_, ?_, ?_, ?_⟩
  · rw [low_step hk (by omega)]; exact h.low0
  · rw [low_step hk (by omega)]; exact h.low2
  · rw [low_step hk (by omega)]; exact h.low3
  · rw [low_step hk (by omega)]; exact h.low4
  · rw [low_step hk (by omega)]; exact h.low5
  · rw [low_step hk (by omega)]; exact h.low6
  · rw [low_step hk (by omega)]; exact h.low7
  · rw [low_step hk (by omega)]; exact h.low8
  · rw [set_ne (by omega)]
    intro hl
    obtain ⟨h1, kvs, h2, h3⟩ := h.map hl
    refine ⟨h1, kvs, h2.below hb1, fun key => ?_⟩
    rw [keyIn_same (fun key i s hi e => by have := (ins_lt key i s hi).2.2.2; rw [e] at this; cases this), keyIn_c3 hi, h3]
  · rw [set_ne (show 9 ≠ 0 by omega)]
    intro _
    exact ⟨hfit, BlockIs.new _ _ _, fun hl e => by obtain ⟨_, kvs, h2, _⟩ := h.map hl; have := h2.lt; omega⟩
  · rw [set_ne (by omega), set_ne (by omega)]
    intro hl
    obtain ⟨h1, h2, h3⟩ := h.c6 hl
    exact ⟨h1, h2.below hb1, h3⟩
  · rw [set_ne (by omega), set_ne (by omega)]
    intro hl
    obtain ⟨h1, h2, h3⟩ := h.c8 hl
    exact ⟨h1, h2.below hb1, h3⟩
theorem val_c6 {b6' j : Nat} (h0 : j ≠ 20) (h1 : j ≠ 21) : valM n m b3 b6' b8 j = valM n m b3 b6 b8 j := by
  unfold valM; split <;> first | rfl | omega
theorem keyIn_c6 {b6' : Nat} (hl : L.getD 22 true = false) (key : Int) : keyIn n m b3 b6' b8 L key = keyIn n m b3 b6 b8 L key := by
  unfold keyIn
  by_cases hy : key < 0
  · rw [if_pos hy, if_pos hy]
  · rw [if_neg hy, if_neg hy]
    cases hi : insAt key.toNat with
    | none => rfl
    | some p =>
      obtain ⟨i, s⟩ := p
      simp only
      by_cases e : i = 22
      · subst e
        simp only [hl, Bool.false_eq_true, if_false]
      · have hs : s ≠ 20 ∧ s ≠ 21 := by
          unfold insAt at hi
          split at hi <;> first | (injection hi with hi; injection hi with h1 h2; subst h1; subst h2; first | exact ⟨by omega, by omega⟩ | exact absurd rfl e) | cases hi
        rw [val_c6 hs.1 hs.2]
theorem MI.c6_call (h : MI n w o m b3 b6 b8 L a w') (hb : L.getD 21 true = false) (hi : L.getD 22 true = false) :
    MI n w o m b3 w'.heap.size b8 (L.setIfInBounds 20 true) (a.put (some 29) (fWgt w'.heap.size)) (w'.alloc (.cells #[fTar (n + 1)] 90)) := by
  have hk : dstM 20 = some 29 := rfl
  have hb1 : Below w'.heap.size w' (w'.alloc (.cells #[fTar (n + 1)] 90)) := (Below.refl _ _).alloc (Nat.le_refl _) _
  have hv := vals_step (m' := m) (b3' := b3) (b6' := w'.heap.size) (b8' := b8) h hk (fun j hj _ hl => val_c6 hj (fun e => by rw [e, hb] at hl; cases hl))
  have hfit := h.fit
  refine ⟨by simp [h.len], h.defers, by simp [Act.put, h.size], ?_, ?_, ?_, ?_, ?_, ?_, ?_, ?_, hv, h.below.trans (hb1.mono (by omega)), by simp; omega, h.blk0.below hb1, h.blk1.below hb1, h.blk2.below hb1, ?_, ?_, ?_, ?_⟩
  · rw [low_step hk (by omega)]; exact h.low0
  · rw [low_step hk (by omega)]; exact h.low2
  · rw [low_step hk (by omega)]; exact h.low3
  · rw [low_step hk (by omega)]; exact h.low4
  · rw [low_step hk (by omega)]; exact h.low5
  · rw [low_step hk (by omega)]; exact h.low6
  · rw [low_step hk (by omega)]; exact h.low7
  · rw [low_step hk (by omega)]; exact h.low8
  · rw [set_ne (by omega)]
    intro hl
    obtain ⟨h1, kvs, h2, h3⟩ := h.map hl
    refine ⟨h1, kvs, h2.below hb1, fun key => ?_⟩
    rw [keyIn_same (fun key i s hi e => by have := (ins_lt key i s hi).2.2.2; rw [e] at this; cases this), keyIn_c6 hi, h3]
  · rw [set_ne (by omega), set_ne (by omega)]
    intro hl
    obtain ⟨h1, h2, h3⟩ := h.c3 hl
    exact ⟨h1, h2.below hb1, h3⟩
  · rw [set_ne (show 20 ≠ 0 by omega)]
    intro _
    exact ⟨hfit, BlockIs.new _ _ _, fun hl e => by obtain ⟨_, kvs, h2, _⟩ := h.map hl; have := h2.lt; omega⟩
  · rw [set_ne (by omega), set_ne (by omega)]
    intro hl
    obtain ⟨h1, h2, h3⟩ := h.c8 hl
    exact ⟨h1, h2.below hb1, h3⟩
theorem val_c8 {b8' j : Nat} (h0 : j ≠ 28) (h1 : j ≠ 29) : valM n m b3 b6 b8' j = valM n m b3 b6 b8 j := by
  unfold valM; split <;> first | rfl | omega
theorem keyIn_c8 {b8' : Nat} (hl : L.getD 30 true = false) (key : Int) : keyIn n m b3 b6 b8' L key = keyIn n m b3 b6 b8 L key := by
  unfold keyIn
  by_cases hy : key < 0
  · rw [if_pos hy, if_pos hy]
  · rw [if_neg hy, if_neg hy]
    cases hi : insAt key.toNat with
    | none => rfl
    | some p =>
      obtain ⟨i, s⟩ := p
      simp only
      by_cases e : i = 30
      · subst e
        simp only [hl, Bool.false_eq_true, if_false]
      · have hs : s ≠ 28 ∧ s ≠ 29 := by
          unfold insAt at hi
          split at hi <;> first | (injection hi with hi; injection hi with h1 h2; subst h1; subst h2; first | exact ⟨by omega, by omega⟩ | exact absurd rfl e) | cases hi
        rw [val_c8 hs.1 hs.2]
theorem MI.c8_call (h : MI n w o m b3 b6 b8 L a w') (hb : L.getD 29 true = false) (hi : L.getD 30 true = false) :
    MI n w o m b3 b6 w'.heap.size (L.setIfInBounds 28 true) (a.put (some 35) (fWgt w'.heap.size)) (w'.alloc (.cells #[fLate (n + 2)] 90)) := by
  have hk : dstM 28 = some 35 := rfl
  have hb1 : Below w'.heap.size w' (w'.alloc (.cells #[fLate (n + 2)] 90)) := (Below.refl _ _).alloc (Nat.le_refl _) _
  have hv := vals_step (m' := m) (b3' := b3) (b6' := b6) (b8' := w'.heap.size) h hk (fun j hj _ hl => val_c8 hj (fun e => by rw [e, hb] at hl; cases hl))
  have hfit := h.fit
  refine ⟨by simp [h.len], h.defers, by simp [Act.put, h.size], ?_, ?_, ?_, ?_, ?_, ?_, ?_, ?_, hv, h.below.trans (hb1.mono (by omega)), by simp; omega, h.blk0.below hb1, h.blk1.below hb1, h.blk2.below hb1, ?_, ?_, ?_, ?_⟩
  · rw [low_step hk (by omega)]; exact h.low0
  · rw [low_step hk (by omega)]; exact h.low2
  · rw [low_step hk (by omega)]; exact h.low3
  · rw [low_step hk (by omega)]; exact h.low4
  · rw [low_step hk (by omega)]; exact h.low5
  · rw [low_step hk (by omega)]; exact h.low6
  · rw [low_step hk (by omega)]; exact h.low7
  · rw [low_step hk (by omega)]; exact h.low8
  · rw [set_ne (by omega)]
    intro hl
    obtain ⟨h1, kvs, h2, h3⟩ := h.map hl
    refine ⟨h1, kvs, h2.below hb1, fun key => ?_⟩
    rw [keyIn_same (fun key i s hi e => by have := (ins_lt key i s hi).2.2.2; rw [e] at this; cases this), keyIn_c8 hi, h3]
  · rw [set_ne (by omega), set_ne (by omega)]
    intro hl
    obtain ⟨h1, h2, h3⟩ := h.c3 hl
    exact ⟨h1, h2.below hb1, h3⟩
  · rw [set_ne (by omega), set_ne (by omega)]
    intro hl
    obtain ⟨h1, h2, h3⟩ := h.c6 hl
    exact ⟨h1, h2.below hb1, h3⟩
  · rw [set_ne (show 28 ≠ 0 by omega)]
    intro _
    exact ⟨hfit, BlockIs.new _ _ _, fun hl e => by obtain ⟨_, kvs, h2, _⟩ := h.map hl; have := h2.lt; omega⟩
end
end Go.Proofs.YtnkoncplfedffaaDoor

namespace Go.Proofs.YtnkoncplfedffaaDoor
open Go.RowKit

/-- Of the blocks that were there, only those from lo to hi may have changed. -/
structure Touch (lo hi : Nat) (w w' : World) : Prop where
  os : w'.os = w.os
  tape : w'.tape = w.tape
  output : w'.output = w.output
  size : w.heap.size ≤ w'.heap.size
  block : ∀ k, k < w.heap.size → (k < lo ∨ hi ≤ k) → w'.heap[k]? = w.heap[k]?
section
variable {w w' w'' : World} {lo hi : Nat}
theorem Touch.refl (lo hi : Nat) (w : World) : Touch lo hi w w := ⟨rfl, rfl, rfl, Nat.le_refl _, fun _ _ _ => rfl⟩
theorem Touch.of_below (lo hi : Nat) (h : Below w.heap.size w w') : Touch lo hi w w' := ⟨h.os, h.tape, h.output, h.size, fun k hk _ => h.block k hk⟩
theorem Touch.drewN (h : Touch lo hi w w') (n : Nat) : Touch lo hi w (w'.drewN n) := ⟨h.os, h.tape, h.output, h.size, h.block⟩
theorem Touch.trans (h : Touch lo hi w w') (k : Touch lo hi w' w'') : Touch lo hi w w'' :=
  ⟨k.os.trans h.os, k.tape.trans h.tape, k.output.trans h.output, Nat.le_trans h.size k.size, fun i hi hne => (k.block i (Nat.lt_of_lt_of_le hi h.size) hne).trans (h.block i hi hne)⟩
theorem Touch.below (h : Touch lo hi w w') {B : Nat} (hB : B ≤ lo) (hw : B ≤ w.heap.size) : Below B w w' :=
  ⟨h.os, h.tape, h.output, h.size, fun k hk => h.block k (by omega) (.inl (by omega))⟩
theorem Touch.of_grown {g : Nat} (h : w.grownBy w' (some g)) (h0 : lo ≤ g) (h1 : g < hi) : Touch lo hi w w' :=
  ⟨h.os, h.tape, h.output, h.size, fun k hk hne => h.block k hk (fun e => by injection e; omega)⟩
theorem Touch.more (h : Touch lo hi w w') {lo' hi' : Nat} (h0 : lo' ≤ lo) (h1 : hi ≤ hi') : Touch lo' hi' w w' :=
  ⟨h.os, h.tape, h.output, h.size, fun k hk hne => h.block k hk (by omega)⟩
end
/-- A slice of n elements (its cells cs) that lies in a block of its own, from lo on and below hi. -/
structure Seg (w : World) (e : TypeId) (size lo hi : Nat) (A : Option Addr) (n c : Nat) (cs : List Value) : Prop where
  own : w.ownsRow lo e size (.slice A n c) n cs
  top : ∀ ad, A = some ad → ad.block < hi
  fit : hi ≤ w.heap.size
section
variable {w w' : World} {e : TypeId} {size lo hi : Nat} {A : Option Addr} {n c : Nat} {cs : List Value}
theorem Seg.row (h : Seg w e size lo hi A n c cs) : Row w A cs := Row.of_own h.own
theorem Seg.len (h : Seg w e size lo hi A n c cs) : cs.length = n * size := h.own.1
theorem Seg.of_own (h : w.ownsRow lo e size (.slice A n c) n cs) : Seg w e size lo w.heap.size A n c cs :=
  ⟨h, fun ad ha => by subst ha; exact (h.lt _ rfl).2, Nat.le_refl _⟩
theorem Seg.keep {a b : Nat} (h : Seg w e size lo hi A n c cs) (ht : Touch a b w w') (hd : hi ≤ a ∨ b ≤ lo) : Seg w' e size lo hi A n c cs := by
  refine ⟨⟨h.own.1, ?_⟩, h.top, Nat.le_trans h.fit ht.size⟩
  rcases h.own.2 with ⟨hv, h0⟩ | ⟨g, cap, cur, hv, hb, hg, hr⟩
  · exact .inl ⟨hv, h0⟩
  · have hA : A = some ⟨g, 0, none⟩ := by injection hv
    have hg2 := h.top _ hA
    have hf := h.fit
    simp only at hg2
    exact .inr ⟨g, cap, cur, hv, hb, (ht.block g (by omega) (by omega)).trans hg, hr⟩
theorem Seg.below (h : Seg w e size lo hi A n c cs) (hb : Below w.heap.size w w') : Seg w' e size lo hi A n c cs :=
  h.keep (Touch.of_below hi hi hb) (.inl (Nat.le_refl _))
theorem Seg.drewN (h : Seg w e size lo hi A n c cs) (m : Nat) : Seg (w.drewN m) e size lo hi A n c cs := ⟨h.own, h.top, h.fit⟩
theorem Seg.bound (h : Seg w e size lo hi A n c cs) : n ≤ maxLen := by
  rcases h.own.2 with ⟨_, h0⟩ | ⟨g, cap, cur, hv, hb, hg, h1, h2, _⟩
  · omega
  · omega
theorem Seg.nlec (h : Seg w e size lo hi A n c cs) : n ≤ c := by
  rcases h.own.2 with ⟨hv, h0⟩ | ⟨g, cap, cur, hv, hb, hg, h1, h2, _⟩
  · omega
  · injection hv with _ _ e3; omega
/-- Its block, where there is an element. -/
theorem Seg.block (h : Seg w e size lo hi A n c cs) (hn : 0 < n) : ∃ g cur, A = some ⟨g, 0, none⟩ ∧ lo ≤ g ∧ g < hi ∧ BlockIs w g e cur ∧ n ≤ c ∧ c ≤ maxLen ∧ cur.size = c * size ∧ cur.toList.take (n * size) = cs := by
  obtain ⟨g, cur, hA, h1, h2, h3, h4, h5, h6⟩ := own_block h.own hn
  exact ⟨g, cur, hA, h1, h.top _ hA, h2, h3, h4, h5, h6⟩
theorem Seg.slice_nil (h : Seg w e size lo hi A 0 c cs) : cs = [] := List.eq_nil_of_length_eq_zero (by have := h.own.1; simpa using this)
end
theorem seg_out {w : World} {e : TypeId} {size lo n : Nat} {v : Value} {cs : List Value} (h : w.ownsRow lo e size v n cs) : ∃ A c, v = .slice A n c ∧ Seg w e size lo w.heap.size A n c cs := by
  obtain ⟨A, c, rfl, _, _⟩ := own_slice h
  exact ⟨A, c, rfl, Seg.of_own h⟩
end Go.Proofs.YtnkoncplfedffaaDoor

namespace Go.Proofs.YtnkoncplfedffaaDoor
open Go.RowKit

def ic (xs : List Int) : List Value := xs.map (Value.int .i64)
theorem ic_len (xs : List Int) : (ic xs).length = xs.length := by unfold ic; simp
theorem ic_get (xs : List Int) (k : Nat) (h : k < xs.length) : (ic xs)[k]'(by rw [ic_len]; exact h) = .int .i64 xs[k] := by unfold ic; simp
theorem infoI : (Tryd.prog.info? 3).map (fun i => (i.zero, i.size, i.bytes)) = some (some (.int .i64 0), 1, 8) := by kernel_rfl
theorem Row.int {w : World} {A : Option Addr} {xs : List Int} (h : Row w A (ic xs)) {k : Nat} (hk : k < xs.length) : ∃ ad, A = some ad ∧ w.cell? (ad.add k) = some (.int .i64 xs[k]) := by
  obtain ⟨ad, hA, hc⟩ := h.at_ (k := k) (by rw [ic_len]; exact hk)
  exact ⟨ad, hA, by rw [hc, ic_get]⟩
/-- The first k cells are those of a list. -/
def Upto (cs0 : List Value) (k : Nat) (cs : Array Value) : Prop := cs.size = cs0.length ∧ ∀ j, j < k → cs[j]? = cs0[j]?
theorem Upto.step {cs0 : List Value} {k : Nat} {cs : Array Value} (h : Upto cs0 k cs) (hk : k < cs0.length) : Upto cs0 (k + 1) (cs.setIfInBounds k cs0[k]) := by
  refine ⟨by simpa using h.1, fun j hj => ?_⟩
  rw [Array.getElem?_setIfInBounds]
  by_cases e : k = j
  · subst e; rw [if_pos rfl, if_pos (by rw [h.1]; exact hk), List.getElem?_eq_getElem hk]
  · rw [if_neg e]; exact h.2 j (by omega)
theorem Upto.all {cs0 : List Value} {cs : Array Value} (h : Upto cs0 cs0.length cs) : cs.toList = cs0 := by
  apply List.ext_getElem?
  intro j
  by_cases hj : j < cs0.length
  · rw [Array.getElem?_toList, h.2 j hj]
  · rw [List.getElem?_eq_none (by simp [h.1]; omega), List.getElem?_eq_none (by omega)]
theorem grown_setCell {w w' : World} {g : Nat} (h : w.grownBy w' (some g)) (i : Nat) (v : Value) : w.grownBy (w'.setCell ⟨g, i, none⟩ v) (some g) :=
  ⟨h.os, h.tape, h.output, by simpa [World.setCell] using h.size, fun k hk hne => (Below.heap_setCell _ _ _ _ (by rintro rfl; exact hne rfl)).trans (h.block k hk hne)⟩
theorem grown_then_below {w w1 w2 : World} {r : Option Nat} (h : w.grownBy w1 r) (hb : Below w1.heap.size w1 w2) : w.grownBy w2 r :=
  ⟨hb.os.trans h.os, hb.tape.trans h.tape, hb.output.trans h.output, Nat.le_trans h.size hb.size, fun k hk hne => (hb.block k (Nat.lt_of_lt_of_le hk h.size)).trans (h.block k hk hne)⟩

theorem toIntS_any (A : Option Addr) (c : Nat) (xs : List Int) (w : World) (hr : Row w A (ic xs)) (hn : xs.length ≤ 100000000) :
    Calls Tryd.prog 21 #[.slice A xs.length c] w fun e w' => ∃ g, e = .returned (.slice (some ⟨g, 0, none⟩) xs.length xs.length) ∧ w.heap.size ≤ g ∧ w'.ownsRow w.heap.size 3 1 (.slice (some ⟨g, 0, none⟩) xs.length xs.length) xs.length (ic xs) ∧ Below w.heap.size w w' := by
  have hmk := run_make_row' (P := Tryd.prog) 30 3 (.int .i64 0) 8 Tryd.underlying30 infoI rfl .i64 .i64 xs.length (by omega) (by omega)
  go_enter Tryd.func21, Tryd.ntmps21
  go_wp2
  go_loopw [4] (fun i wr => ∃ (k : Nat) (cs : Array Value), k ≤ xs.length ∧ i = .int .i64 k ∧ BlockIs wr w.heap.size 3 cs ∧ Hid (Upto (ic xs) k cs) ∧ Below w.heap.size w wr) (fun i _ => xs.length - (intOf i).toNat)
  case atStart =>
    exact ⟨0, _, Nat.zero_le _, rfl, BlockIs.new _ _ _, ⟨by rw [size_madeCells, ic_len], by omega⟩, (Below.refl _ _).alloc (Nat.le_refl _) _⟩
  case round =>
    obtain ⟨k, cs, hk, rfl, hB, hC, hb⟩ := hrel
    clear hmk
    by_cases hlt : k < xs.length
    · obtain ⟨ad, hA, hc⟩ := (hr.below hb).int hlt
      subst hA
      obtain ⟨v0, hv0⟩ : ∃ v, cs[k]? = some v := ⟨_, Array.getElem?_eq_getElem (by have := hC.out.1; rw [ic_len] at this; omega)⟩
      have hck : wr.cell? ⟨w.heap.size, k, none⟩ = some v0 := by rw [hB.cell, hv0]
      have hfz := hB.frozen k
      have HC := Lib.hid (hC.out.step (by rw [ic_len]; exact hlt))
      rw [ic_get xs k hlt] at HC
      have HB := Lib.hid (hB.set k (.int .i64 xs[k]))
      clear hv0 hB hC hr
      generalize xs[k] = s at *
      go_wp2
      go_roundw
      case rel => exact ⟨k + 1, _, by omega, by go_num, HB.out, HC.out, hb.setCell (Nat.le_refl _) _⟩
      case measure => simp [intOf]; omega
    · go_wp2
      go_ret
      obtain rfl : k = xs.length := by omega
      refine ⟨_, rfl, Nat.le_refl _, ?_, hb⟩
      have hC' := hC.out
      rw [← ic_len] at hC'
      have hsz : cs.size = xs.length := by rw [hC'.1, ic_len]
      have := hB.own (base := w.heap.size) (n := xs.length) (c := xs.length) (size := 1) (Nat.le_refl _) (by omega) (Nat.le_refl _) (by unfold maxLen; omega) (by omega)
      rwa [List.take_of_length_le (by simp [hsz]), hC'.all] at this

theorem eqIntS_same (A B : Option Addr) (c d : Nat) (xs : List Int) (w : World) (hr : Row w A (ic xs)) (hq : Row w B (ic xs)) (hn : xs.length ≤ 100000000) :
    Calls Tryd.prog 16 #[.slice A xs.length c, .slice B xs.length d] w fun e w' => e = .returned (.bool true) ∧ ∃ m, w' = w.drewN m := by
  go_enter Tryd.func16, Tryd.ntmps16
  go_wp2
  go_loopw [5] (fun i wr => ∃ (k m : Nat), k ≤ xs.length ∧ i = .int .i64 k ∧ wr = w.drewN m) (fun i _ => xs.length - (intOf i).toNat)
  case atStart => exact ⟨0, 0, Nat.zero_le _, rfl, rfl⟩
  case round =>
    obtain ⟨k, m, hk, rfl, rfl⟩ := hrel
    by_cases hlt : k < xs.length
    · obtain ⟨a, hA, hc⟩ := hr.int hlt
      obtain ⟨b, hB, hd⟩ := hq.int hlt
      subst hA hB
      clear hr hq
      generalize xs[k] = s at *
      have hc' : (w.drewN m).cell? (a.add k) = some (.int .i64 s) := hc
      have hd' : (w.drewN m).cell? (b.add k) = some (.int .i64 s) := hd
      have hi : (0 : Int) ≤ k := by omega
      have hi' : (k : Int) < xs.length := by omega
      go_wp2
      go_quiet (fail)
      go_wp2
      go_roundw
      case rel => exact ⟨k + 1, _, by omega, by go_num, rfl⟩
      case measure => simp [intOf]; omega
    · go_wp2
      go_ret
      exact ⟨rfl, m, rfl⟩

/-- The numbers from k on. -/
def nums (k n : Nat) : List Int := (List.range n).map fun i => ((k + i : Nat) : Int)
theorem nums_len (k n : Nat) : (nums k n).length = n := by unfold nums; simp
theorem nums_get (k n i : Nat) (h : i < n) : (nums k n)[i]'(by rw [nums_len]; exact h) = ((k + i : Nat) : Int) := by unfold nums; simp
def marksI (k n : Nat) : List Value := ic (nums k n)
theorem marksI_len (k n : Nat) : (marksI k n).length = n := by unfold marksI; rw [ic_len, nums_len]
theorem marksI_get (k n i : Nat) (h : i < n) : (marksI k n)[i]'(by rw [marksI_len]; exact h) = .int .i64 ((k + i : Nat) : Int) := by
  unfold marksI; rw [ic_get _ _ (by rw [nums_len]; exact h), nums_get k n i h]
/-- What marking has done when i cells are through. -/
def MarkedI (k n i : Nat) (cs : Array Value) : Prop := n ≤ cs.size ∧ ∀ j, j < i → cs[j]? = some (.int .i64 ((k + j : Nat) : Int))
theorem MarkedI.step {k n i : Nat} {cs : Array Value} (h : MarkedI k n i cs) (hi : i < n) : MarkedI k n (i + 1) (cs.setIfInBounds i (.int .i64 ((k + i : Nat) : Int))) := by
  refine ⟨by simpa using h.1, fun j hj => ?_⟩
  rw [Array.getElem?_setIfInBounds]
  by_cases e : i = j
  · subst e; rw [if_pos rfl, if_pos (by have := h.1; omega)]
  · rw [if_neg e]; exact h.2 j (by omega)
theorem MarkedI.all {k n : Nat} {cs : Array Value} (h : MarkedI k n n cs) : cs.toList.take n = marksI k n := by
  apply List.ext_getElem?
  intro j
  by_cases hj : j < n
  · rw [List.getElem?_take, if_pos hj, Array.getElem?_toList, h.2 j hj, List.getElem?_eq_getElem (by rw [marksI_len]; exact hj), marksI_get k n j hj]
  · rw [List.getElem?_eq_none (by simp; omega), List.getElem?_eq_none (by rw [marksI_len]; omega)]

theorem markIntS_none (A : Option Addr) (c : Nat) (k : Int) (w : World) :
    Calls Tryd.prog 18 #[.slice A 0 c, .int .i64 k] w fun e w' => e = .returned (.int .i64 k) ∧ w = w' := by
  go_enter Tryd.func18, Tryd.ntmps18
  go_wp2
  refine wp_loop_rounds 1 ?_
  rw [rounds_succ]
  go_wp2
  go_ret
  exact ⟨rfl, rfl⟩
theorem markIntS_some (g c n k0 : Nat) (cs0 : Array Value) (w : World) (h : BlockIs w g 3 cs0) (hn : n ≤ cs0.size) (hn1 : n ≤ 100000000) (hk1 : k0 ≤ 1000000000) :
    Calls Tryd.prog 18 #[.slice (some ⟨g, 0, none⟩) n c, .int .i64 (k0 : Int)] w fun e w' => e = .returned (.int .i64 ((k0 + n : Nat) : Int)) ∧ (∃ cs, cs.size = cs0.size ∧ BlockIs w' g 3 cs ∧ cs.toList.take n = marksI k0 n) ∧ w.grownBy w' (some g) ∧ w'.heap.size = w.heap.size := by
  go_enter Tryd.func18, Tryd.ntmps18
  go_wp2
  go_loopw [1, 5] (fun k i wr => ∃ (m : Nat) (cs : Array Value), m ≤ n ∧ i = .int .i64 (m : Int) ∧ k = .int .i64 ((k0 + m : Nat) : Int) ∧ cs.size = cs0.size ∧ BlockIs wr g 3 cs ∧ Hid (MarkedI k0 n m cs) ∧ w.grownBy wr (some g) ∧ Hid (wr.heap.size = w.heap.size)) (fun _ i _ => n - (intOf i).toNat)
  case atStart => exact ⟨0, cs0, Nat.zero_le _, rfl, by go_num, rfl, h, ⟨hn, by omega⟩, ⟨rfl, rfl, rfl, Nat.le_refl _, fun _ _ _ => rfl⟩, rfl⟩
  case round =>
    obtain ⟨m, cs, hm, rfl, rfl, hz, hB, hM, hG, hsz⟩ := hrel
    by_cases hlt : m < n
    · have HM := Lib.hid (hM.out.step hlt)
      have hi : (0 : Int) ≤ m := by omega
      have hi' : (m : Int) < n := by omega
      obtain ⟨v0, hv0⟩ : ∃ v, cs[m]? = some v := ⟨_, Array.getElem?_eq_getElem (by omega)⟩
      have hck : wr.cell? ⟨g, m, none⟩ = some v0 := by rw [hB.cell, hv0]
      have hfz := hB.frozen m
      have HS := Lib.hid (hB.set m (.int .i64 ((k0 + m : Nat) : Int)))
      have HG := Lib.hid (grown_setCell hG m (.int .i64 ((k0 + m : Nat) : Int)))
      have HZ := Lib.hid (show (wr.setCell ⟨g, m, none⟩ (.int .i64 ((k0 + m : Nat) : Int))).heap.size = w.heap.size by rw [← hsz.out]; simp [World.setCell])
      have HZ2 := Lib.hid hz
      rw [show ((k0 + m : Nat) : Int) = (k0 : Int) + m by omega] at HS HG HZ
      have hcast : ((k0 + m : Nat) : Int) = (k0 : Int) + m := by omega
      clear hv0 hB hM hG h hz hsz
      go_wp2
      go_roundw
      case rel => exact ⟨m + 1, _, by omega, by go_num, by go_num, by simpa using HZ2.out, HS.out, HM.out, HG.out, HZ.out⟩
      case measure => simp [intOf]; omega
    · obtain rfl : m = n := by omega
      go_wp2
      go_ret
      exact ⟨rfl, ⟨cs, hz, hB, hM.out.all⟩, hG, hsz.out⟩

theorem heldIntS_same (A : Option Addr) (c n k0 : Nat) (w : World) (hr : Row w A (marksI k0 n)) (hn1 : n ≤ 100000000) (hk1 : k0 ≤ 1000000000) :
    Calls Tryd.prog 19 #[.slice A n c, .int .i64 (k0 : Int)] w fun e w' => e = .returned (.int .i64 ((k0 + n : Nat) : Int)) ∧ w = w' := by
  go_enter Tryd.func19, Tryd.ntmps19
  go_wp2
  go_loop [1, 5] (fun k i => ∃ m : Nat, m ≤ n ∧ i = .int .i64 (m : Int) ∧ k = .int .i64 ((k0 + m : Nat) : Int)) (fun _ i => n - (intOf i).toNat)
  case atStart => exact ⟨0, Nat.zero_le _, rfl, by go_num⟩
  case round =>
    obtain ⟨m, hm, rfl, rfl⟩ := hrel
    by_cases hlt : m < n
    · obtain ⟨ad, hA, hc⟩ := hr.at_ (k := m) (by rw [marksI_len]; exact hlt)
      rw [marksI_get k0 n m hlt] at hc
      subst hA
      have hi : (0 : Int) ≤ m := by omega
      have hi' : (m : Int) < n := by omega
      have hcast : ((k0 + m : Nat) : Int) = (k0 : Int) + m := by omega
      rw [hcast] at hc
      clear hr
      go_wp2
      go_round
      case rel => exact ⟨m + 1, by omega, by go_num, by go_num⟩
      case measure => simp [intOf]; omega
    · obtain rfl : m = n := by omega
      go_wp2
      go_ret
      exact ⟨rfl, rfl⟩

theorem markIntS_own (A : Option Addr) (c n k0 B : Nat) (cs : List Value) (w : World) (h : w.ownsRow B 3 1 (.slice A n c) n cs) (hn1 : n ≤ 100000000) (hk1 : k0 ≤ 1000000000) (hBw : B ≤ w.heap.size) :
    Calls Tryd.prog 18 #[.slice A n c, .int .i64 (k0 : Int)] w fun e w' => e = .returned (.int .i64 ((k0 + n : Nat) : Int)) ∧ w'.ownsRow B 3 1 (.slice A n c) n (marksI k0 n) ∧ Below B w w' ∧ w.grownBy w' (Value.slice A n c).ownBlock ∧ w'.heap.size = w.heap.size := by
  by_cases h0 : n = 0
  · subst h0
    refine (markIntS_none A c k0 w).mono ?_
    rintro e w' ⟨rfl, rfl⟩
    have hcs : cs = [] := List.eq_nil_of_length_eq_zero (by have := h.1; simpa using this)
    subst hcs
    exact ⟨rfl, h, Below.refl _ _, World.grownBy.refl _ _, rfl⟩
  · obtain ⟨g, cur, rfl, hg, hB, h1, h2, h3, h4⟩ := own_block h (by omega)
    refine (markIntS_some g c n k0 cur w hB (by omega) hn1 hk1).mono ?_
    rintro e w' ⟨rfl, ⟨cs', hz, hB', hm⟩, hG, hs⟩
    refine ⟨rfl, ?_, ⟨hG.os, hG.tape, hG.output, hG.size, fun k hk => hG.block k (by omega) (fun e => by injection e; omega)⟩, hG, hs⟩
    have := hB'.own (base := B) (n := n) (c := c) (size := 1) hg (by omega) h1 h2 (by omega)
    rwa [Nat.mul_one, hm] at this
end Go.Proofs.YtnkoncplfedffaaDoor

namespace Go.Proofs.YtnkoncplfedffaaDoor
open Go.RowKit

def fieldJ (j : J) : Nat → Int
  | 0 => j.t
  | 1 => j.w
  | 2 => j.r
  | _ => j.d
def cellsJ (j : J) : List Value := [.int .i64 j.t, .int .i64 j.w, .int .i64 j.r, .int .i64 j.d]
abbrev aggJ (j : J) : Value := .agg #[.int .i64 j.t, .int .i64 j.w, .int .i64 j.r, .int .i64 j.d]
def jc (js : List J) : List Value := js.flatMap cellsJ
theorem jc_len : ∀ js : List J, (jc js).length = 4 * js.length
  | [] => rfl
  | j :: js => by
    show (cellsJ j ++ jc js).length = _
    rw [List.length_append, jc_len js]; simp [cellsJ]; omega
theorem jc_get : ∀ (js : List J) (k i : Nat) (hk : k < js.length), i < 4 → (jc js)[k * 4 + i]? = (cellsJ js[k])[i]?
  | [], _, _, h, _ => by cases h
  | j :: js, 0, i, _, hi => by
    show (cellsJ j ++ jc js)[0 * 4 + i]? = _
    rw [List.getElem?_append_left (by simp [cellsJ]; omega)]
    simp
  | j :: js, k + 1, i, h, hi => by
    show (cellsJ j ++ jc js)[(k + 1) * 4 + i]? = _
    rw [List.getElem?_append_right (by simp [cellsJ]; omega)]
    rw [show (k + 1) * 4 + i - (cellsJ j).length = k * 4 + i by simp [cellsJ]; omega]
    exact jc_get js k i (by simpa using h) hi
theorem add_add (a : Addr) (i j : Nat) : (a.add i).add j = a.add (i + j) := by
  unfold Addr.add
  by_cases hi : i = 0 <;> by_cases hj : j = 0 <;> simp [hi, hj, Nat.add_assoc]
theorem Row.job {w : World} {A : Option Addr} {js : List J} (h : Row w A (jc js)) {k : Nat} (hk : k < js.length) : ∃ ad, A = some ad ∧ ad.block < w.heap.size ∧
    w.cell? (ad.add (k * 4)) = some (.int .i64 js[k].t) ∧ w.cell? ⟨(ad.add (k * 4)).block, (ad.add (k * 4)).off + 1, none⟩ = some (.int .i64 js[k].w) ∧ w.cell? ⟨(ad.add (k * 4)).block, (ad.add (k * 4)).off + 2, none⟩ = some (.int .i64 js[k].r) ∧ w.cell? ⟨(ad.add (k * 4)).block, (ad.add (k * 4)).off + 3, none⟩ = some (.int .i64 js[k].d) := by
  obtain ⟨ad, hA, hb, hc⟩ := h (by rw [jc_len]; omega)
  refine ⟨ad, hA, hb, ?_, ?_, ?_, ?_⟩
  · exact hc _ _ (jc_get js k 0 hk (by omega))
  · exact (congrArg w.cell? (add_add ad (k * 4) 1)).trans (hc _ _ (jc_get js k 1 hk (by omega)))
  · exact (congrArg w.cell? (add_add ad (k * 4) 2)).trans (hc _ _ (jc_get js k 2 hk (by omega)))
  · exact (congrArg w.cell? (add_add ad (k * 4) 3)).trans (hc _ _ (jc_get js k 3 hk (by omega)))

theorem toJob_any (j : J) (w : World) :
    Calls Tryd.prog 34 #[.agg #[.int .i64 j.t, .int .i64 j.w, .int .i64 j.r, .int .i64 j.d]] w fun e w' => e = .returned (.agg #[.int .i64 j.t, .int .i64 j.w, .int .i64 j.r, .int .i64 j.d]) ∧ Below w.heap.size w w' := by
  go_enter Tryd.func34, Tryd.ntmps34
  go_wp2
  exact bodyPost_ret (v := .agg #[.int .i64 j.t, .int .i64 j.w, .int .i64 j.r, .int .i64 j.d]) (by simp [results, Tryd.results34, go_sem]) rfl ⟨rfl, by
    repeat (first | exact Below.refl _ _ | refine Below.setCell ?_ (by simp; try omega) _ | refine Below.alloc ?_ (by simp; try omega) _)⟩
theorem infoJ : (Tryd.prog.info? 50).map (fun i => (i.zero, i.size, i.bytes)) = some (some (.agg #[.int .i64 0, .int .i64 0, .int .i64 0, .int .i64 0]), 4, 32) := by kernel_rfl
/-- 'make([]T, n)', T of any number of cells. -/
theorem run_make_rows {P : Program} (t e : TypeId) (z : Value) (s bytes : Nat) (ht : P.underlying t = some (.slice e)) (hinfo : (P.info? e).map (fun i => (i.zero, i.size, i.bytes)) = some (some z, s, bytes))
    (kl kc : IntKind) (n : Nat) (hbytes : bytes * n ≤ 281474976710656) (h63 : n ≤ 9223372036854775807) (w : World) :
    (Instr.makeSlice t (.int kl (n : Int)) (.int kc (n : Int))).run P w = .ok (.slice (some ⟨w.heap.size, 0, none⟩) n n) (w.alloc (.cells (madeCells z.cells (n * s)) e)) := by
  obtain ⟨i, hi, hzz⟩ := Option.map_eq_some_iff.1 hinfo
  simp only [Prod.mk.injEq] at hzz
  obtain ⟨hz, hs, hb⟩ := hzz
  have hb' : (i.bytes : Int) * (n : Int) ≤ 281474976710656 := by
    have h : ((i.bytes * n : Nat) : Int) ≤ 281474976710656 := by rw [hb]; omega
    rwa [Int.natCast_mul] at h
  have hr := run_make (P := P) w t e i z ht hi hz kl kc n n (by omega) (Int.le_refl _) hb' (by omega)
  simp only [Int.toNat_natCast, hs] at hr
  exact hr
/-- Four cells of a block, from a place on, are set. -/
def set4 (cs : Array Value) (p : Nat) (j : J) : Array Value := (((cs.setIfInBounds p (.int .i64 j.t)).setIfInBounds (p + 1) (.int .i64 j.w)).setIfInBounds (p + 2) (.int .i64 j.r)).setIfInBounds (p + 3) (.int .i64 j.d)
theorem set4_size (cs : Array Value) (p : Nat) (j : J) : (set4 cs p j).size = cs.size := by unfold set4; simp
theorem Upto.step4 {js : List J} {k : Nat} {cs : Array Value} (h : Upto (jc js) (k * 4) cs) (hk : k < js.length) : Upto (jc js) ((k + 1) * 4) (set4 cs (k * 4) js[k]) := by
  have hl := jc_len js
  have g0 : (jc js)[k * 4]'(by omega) = .int .i64 js[k].t := by
    have := jc_get js k 0 hk (by omega); rw [List.getElem?_eq_getElem (by omega)] at this; exact Option.some.inj this
  have g1 : (jc js)[k * 4 + 1]'(by omega) = .int .i64 js[k].w := by
    have := jc_get js k 1 hk (by omega); rw [List.getElem?_eq_getElem (by omega)] at this; exact Option.some.inj this
  have g2 : (jc js)[k * 4 + 2]'(by omega) = .int .i64 js[k].r := by
    have := jc_get js k 2 hk (by omega); rw [List.getElem?_eq_getElem (by omega)] at this; exact Option.some.inj this
  have g3 : (jc js)[k * 4 + 3]'(by omega) = .int .i64 js[k].d := by
    have := jc_get js k 3 hk (by omega); rw [List.getElem?_eq_getElem (by omega)] at this; exact Option.some.inj this
  have h1 := h.step (by omega)
  rw [g0] at h1
  have h2 := h1.step (by omega)
  rw [g1] at h2
  have h3 := h2.step (by omega)
  rw [g2] at h3
  have h4 := h3.step (by omega)
  rw [g3] at h4
  rw [show (k + 1) * 4 = k * 4 + 1 + 1 + 1 + 1 by omega]
  exact h4
theorem BlockIs.set4 {w : World} {g : Nat} {t : TypeId} {cs : Array Value} (h : BlockIs w g t cs) (p : Nat) (j : J) :
    BlockIs ((((w.setCell ⟨g, p, none⟩ (.int .i64 j.t)).setCell ⟨g, p + 1, none⟩ (.int .i64 j.w)).setCell ⟨g, p + 2, none⟩ (.int .i64 j.r)).setCell ⟨g, p + 3, none⟩ (.int .i64 j.d)) g t (set4 cs p j) :=
  (((h.set p _).set (p + 1) _).set (p + 2) _).set (p + 3) _
theorem BlockIs.has {w : World} {g : Nat} {t : TypeId} {cs : Array Value} (h : BlockIs w g t cs) {i : Nat} (hi : i < cs.size) : ∃ v, w.cell? ⟨g, i, none⟩ = some v :=
  ⟨cs[i], by rw [h.cell, Array.getElem?_eq_getElem hi]⟩
theorem toJobS_any (A : Option Addr) (c : Nat) (js : List J) (w : World) (hr : Row w A (jc js)) (hn : js.length ≤ 10000000) :
    Calls Tryd.prog 11 #[.slice A js.length c] w fun e w' => ∃ g, e = .returned (.slice (some ⟨g, 0, none⟩) js.length js.length) ∧ w.heap.size ≤ g ∧ w'.ownsRow w.heap.size 50 4 (.slice (some ⟨g, 0, none⟩) js.length js.length) js.length (jc js) ∧ Below w.heap.size w w' := by
  have hmk := run_make_rows (P := Tryd.prog) 26 50 (.agg #[.int .i64 0, .int .i64 0, .int .i64 0, .int .i64 0]) 4 32 Tryd.underlying26 infoJ .i64 .i64 js.length (by omega) (by omega)
  go_enter Tryd.func11, Tryd.ntmps11
  go_wp2
  go_loopw [4] (fun i wr => ∃ (k : Nat) (cs : Array Value), k ≤ js.length ∧ i = .int .i64 k ∧ BlockIs wr w.heap.size 50 cs ∧ Hid (Upto (jc js) (k * 4) cs) ∧ Below w.heap.size w wr) (fun i _ => js.length - (intOf i).toNat)
  case atStart =>
    exact ⟨0, _, Nat.zero_le _, rfl, BlockIs.new _ _ _, ⟨by rw [size_madeCells, jc_len]; omega, by omega⟩, (Below.refl _ _).alloc (Nat.le_refl _) _⟩
  case round =>
    obtain ⟨k, cs, hk, rfl, hB, hC, hb⟩ := hrel
    clear hmk
    by_cases hlt : k < js.length
    · obtain ⟨ad, hA, hbl, hc0, hc1, hc2, hc3⟩ := (hr.below hb).job hlt
      subst hA
      go_wp2_with fail
      refine (toJob_any js[k] _).mono ?_
      rintro e w1 ⟨rfl, hb1⟩
      have hz : cs.size = 4 * js.length := by rw [hC.out.1, jc_len]
      have hB1 := hB.below hb1
      obtain ⟨v0, hk0⟩ := hB1.has (i := k * 4) (by omega)
      obtain ⟨v1, hk1⟩ := hB1.has (i := k * 4 + 1) (by omega)
      obtain ⟨v2, hk2⟩ := hB1.has (i := k * 4 + 2) (by omega)
      obtain ⟨v3, hk3⟩ := hB1.has (i := k * 4 + 3) (by omega)
      have hf0 := hB1.frozen (k * 4)
      have hf1 := hB1.frozen (k * 4 + 1)
      have hf2 := hB1.frozen (k * 4 + 2)
      have hf3 := hB1.frozen (k * 4 + 3)
      have HC := Lib.hid (hC.out.step4 hlt)
      have HB := Lib.hid (hB1.set4 (k * 4) js[k])
      have Hb := Lib.hid (hb.trans (hb1.mono hb.size))
      clear hz hB1 hB hC hb hb1 hr hc0 hc1 hc2 hc3
      generalize js[k] = j at *
      go_wp2
      go_roundw
      case rel => exact ⟨k + 1, _, by omega, by go_num, HB.out, HC.out, (((Hb.out.setCell (Nat.le_refl _) _).setCell (Nat.le_refl _) _).setCell (Nat.le_refl _) _).setCell (Nat.le_refl _) _⟩
      case measure => simp [intOf]; omega
    · go_wp2
      go_ret
      obtain rfl : k = js.length := by omega
      refine ⟨_, rfl, Nat.le_refl _, ?_, hb⟩
      have hC' := hC.out
      rw [show js.length * 4 = (jc js).length by rw [jc_len]; omega] at hC'
      have hsz : cs.size = js.length * 4 := by rw [hC'.1, jc_len]; omega
      have := hB.own (base := w.heap.size) (n := js.length) (c := js.length) (size := 4) (Nat.le_refl _) (by omega) (Nat.le_refl _) (by unfold maxLen; omega) (by omega)
      rwa [List.take_of_length_le (by simp [hsz]), hC'.all] at this

theorem szJobS_any (A : Option Addr) (n c : Nat) (w : World) (hn : n ≤ maxLen) :
    Calls Tryd.prog 9 #[.slice A n c, .int .i64 1048576] w fun e w' => ((e = .returned (.int .i64 (1048576 - n)) ∧ n ≤ 1048576) ∨ (e = .returned (.int .i64 (-1)) ∧ 1048576 < n)) ∧ w = w' := by
  unfold maxLen at hn
  by_cases h : n ≤ 1048576
  · go_enter Tryd.func9, Tryd.ntmps9
    go_wp2
    go_ret
    exact ⟨.inl ⟨rfl, h⟩, rfl⟩
  · go_enter Tryd.func9, Tryd.ntmps9
    go_wp2
    go_ret
    exact ⟨.inr ⟨rfl, by omega⟩, rfl⟩
theorem eqJob_same (j : J) (w : World) :
    Calls Tryd.prog 38 #[.agg #[.int .i64 j.t, .int .i64 j.w, .int .i64 j.r, .int .i64 j.d], .agg #[.int .i64 j.t, .int .i64 j.w, .int .i64 j.r, .int .i64 j.d]] w fun e w' => e = .returned (.bool true) ∧ Below w.heap.size w w' := by
  go_enter Tryd.func38, Tryd.ntmps38
  go_wp2
  go_ret
  exact ⟨rfl, ((Below.refl _ _).alloc (Nat.le_refl _) _).alloc (by simp) _⟩
theorem eqJobS_same (A B : Option Addr) (c d : Nat) (js : List J) (w : World) (hr : Row w A (jc js)) (hq : Row w B (jc js)) (hn : js.length ≤ 10000000) :
    Calls Tryd.prog 13 #[.slice A js.length c, .slice B js.length d] w fun e w' => e = .returned (.bool true) ∧ Below w.heap.size w w' := by
  go_enter Tryd.func13, Tryd.ntmps13
  go_wp2
  go_loopw [5] (fun i wr => ∃ k : Nat, k ≤ js.length ∧ i = .int .i64 k ∧ Below w.heap.size w wr) (fun i _ => js.length - (intOf i).toNat)
  case atStart => exact ⟨0, Nat.zero_le _, rfl, Below.refl _ _⟩
  case round =>
    obtain ⟨k, hk, rfl, hb⟩ := hrel
    by_cases hlt : k < js.length
    · obtain ⟨a, hA, _, hc0, hc1, hc2, hc3⟩ := (hr.below hb).job hlt
      obtain ⟨b, hB, _, hd0, hd1, hd2, hd3⟩ := (hq.below hb).job hlt
      subst hA hB
      have HB := Lib.hid hb
      clear hr hq hb
      generalize js[k] = j at *
      have hi : (0 : Int) ≤ k := by omega
      have hi' : (k : Int) < js.length := by omega
      go_wp2
      go_region_with (go_at_call 38; refine (eqJob_same j _).mono ?_; rintro e w1 ⟨rfl, hb1⟩)
      all_goals
        go_wp2
        go_roundw
        case rel => exact ⟨k + 1, by omega, by go_num, HB.out.trans ((⟨hb1.os, hb1.tape, hb1.output, hb1.size, hb1.block⟩ : Below wr.heap.size wr w1).mono HB.out.size)⟩
        case measure => simp [intOf]; omega
    · go_wp2
      go_ret
      exact ⟨rfl, hb⟩
theorem markJobS_none (A : Option Addr) (c : Nat) (k : Int) (w : World) :
    Calls Tryd.prog 17 #[.slice A 0 c, .int .i64 k] w fun e w' => e = .returned (.int .i64 k) ∧ w = w' := by
  go_enter Tryd.func17, Tryd.ntmps17
  go_wp2
  refine wp_loop_rounds 1 ?_
  rw [rounds_succ]
  go_wp2
  go_ret
  exact ⟨rfl, rfl⟩
def numJ (k : Nat) : J := ⟨(k : Int), (k : Int) + 1, (k : Int) + 1 + 1, (k : Int) + 1 + 1 + 1⟩
def numsJ (k n : Nat) : List J := (List.range n).map fun i => numJ (k + 4 * i)
theorem numsJ_len (k n : Nat) : (numsJ k n).length = n := by unfold numsJ; simp
theorem numsJ_get (k n i : Nat) (h : i < n) : (numsJ k n)[i]'(by rw [numsJ_len]; exact h) = numJ (k + 4 * i) := by unfold numsJ; simp
/-- The first k cells of a block are those of a list, which it has room for. -/
def PreC (cs0 : List Value) (k : Nat) (cs : Array Value) : Prop := cs0.length ≤ cs.size ∧ ∀ j, j < k → cs[j]? = cs0[j]?
theorem PreC.step {cs0 : List Value} {k : Nat} {cs : Array Value} (h : PreC cs0 k cs) (hk : k < cs0.length) : PreC cs0 (k + 1) (cs.setIfInBounds k cs0[k]) := by
  refine ⟨by simpa using h.1, fun j hj => ?_⟩
  rw [Array.getElem?_setIfInBounds]
  by_cases e : k = j
  · subst e; rw [if_pos rfl, if_pos (by have := h.1; omega), List.getElem?_eq_getElem hk]
  · rw [if_neg e]; exact h.2 j (by omega)
theorem PreC.all {cs0 : List Value} {cs : Array Value} (h : PreC cs0 cs0.length cs) : cs.toList.take cs0.length = cs0 := by
  apply List.ext_getElem?
  intro j
  by_cases hj : j < cs0.length
  · rw [List.getElem?_take, if_pos hj, Array.getElem?_toList, h.2 j hj]
  · rw [List.getElem?_eq_none (by simp; omega), List.getElem?_eq_none (by omega)]
theorem PreC.step4 {js : List J} {k : Nat} {cs : Array Value} (h : PreC (jc js) (k * 4) cs) (hk : k < js.length) : PreC (jc js) ((k + 1) * 4) (set4 cs (k * 4) js[k]) := by
  have hl := jc_len js
  have g0 : (jc js)[k * 4]'(by omega) = .int .i64 js[k].t := by
    have := jc_get js k 0 hk (by omega); rw [List.getElem?_eq_getElem (by omega)] at this; exact Option.some.inj this
  have g1 : (jc js)[k * 4 + 1]'(by omega) = .int .i64 js[k].w := by
    have := jc_get js k 1 hk (by omega); rw [List.getElem?_eq_getElem (by omega)] at this; exact Option.some.inj this
  have g2 : (jc js)[k * 4 + 2]'(by omega) = .int .i64 js[k].r := by
    have := jc_get js k 2 hk (by omega); rw [List.getElem?_eq_getElem (by omega)] at this; exact Option.some.inj this
  have g3 : (jc js)[k * 4 + 3]'(by omega) = .int .i64 js[k].d := by
    have := jc_get js k 3 hk (by omega); rw [List.getElem?_eq_getElem (by omega)] at this; exact Option.some.inj this
  have h1 := h.step (by omega)
  rw [g0] at h1
  have h2 := h1.step (by omega)
  rw [g1] at h2
  have h3 := h2.step (by omega)
  rw [g2] at h3
  have h4 := h3.step (by omega)
  rw [g3] at h4
  rw [show (k + 1) * 4 = k * 4 + 1 + 1 + 1 + 1 by omega]
  exact h4
theorem markJobS_some (g c n k0 : Nat) (cs0 : Array Value) (w : World) (h : BlockIs w g 50 cs0) (hn : cs0.size = c * 4) (hnc : n ≤ c) (hn1 : n ≤ 10000000) (hk1 : k0 ≤ 1000000000) :
    Calls Tryd.prog 17 #[.slice (some ⟨g, 0, none⟩) n c, .int .i64 (k0 : Int)] w fun e w' => e = .returned (.int .i64 ((k0 + 4 * n : Nat) : Int)) ∧ (∃ cs, cs.size = cs0.size ∧ BlockIs w' g 50 cs ∧ cs.toList.take (n * 4) = jc (numsJ k0 n)) ∧ w.grownBy w' (some g) ∧ w'.heap.size = w.heap.size := by
  go_enter Tryd.func17, Tryd.ntmps17
  go_wp2
  go_loopw [1, 5] (fun k i wr => ∃ (m : Nat) (cs : Array Value), m ≤ n ∧ i = .int .i64 (m : Int) ∧ k = .int .i64 ((k0 + 4 * m : Nat) : Int) ∧ cs.size = cs0.size ∧ BlockIs wr g 50 cs ∧ Hid (PreC (jc (numsJ k0 n)) (m * 4) cs) ∧ w.grownBy wr (some g) ∧ Hid (wr.heap.size = w.heap.size)) (fun _ i _ => n - (intOf i).toNat)
  case atStart => exact ⟨0, cs0, Nat.zero_le _, rfl, by go_num, rfl, h, ⟨by rw [jc_len, numsJ_len]; omega, by omega⟩, ⟨rfl, rfl, rfl, Nat.le_refl _, fun _ _ _ => rfl⟩, rfl⟩
  case round =>
    obtain ⟨m, cs, hm, rfl, rfl, hz, hB, hP, hG, hsz⟩ := hrel
    by_cases hlt : m < n
    · have hi : (0 : Int) ≤ m := by omega
      have hi' : (m : Int) < n := by omega
      obtain ⟨v0, hk0⟩ := hB.has (i := m * 4) (by omega)
      obtain ⟨v1, hk1⟩ := hB.has (i := m * 4 + 1) (by omega)
      obtain ⟨v2, hk2⟩ := hB.has (i := m * 4 + 2) (by omega)
      obtain ⟨v3, hk3⟩ := hB.has (i := m * 4 + 3) (by omega)
      have hf0 := hB.frozen (m * 4)
      have hf1 := hB.frozen (m * 4 + 1)
      have hf2 := hB.frozen (m * 4 + 2)
      have hf3 := hB.frozen (m * 4 + 3)
      have HB := Lib.hid (hB.set4 (m * 4) (numJ (k0 + 4 * m)))
      have HG := Lib.hid (grown_setCell (grown_setCell (grown_setCell (grown_setCell hG (m * 4) (.int .i64 (numJ (k0 + 4 * m)).t)) (m * 4 + 1) (.int .i64 (numJ (k0 + 4 * m)).w)) (m * 4 + 2) (.int .i64 (numJ (k0 + 4 * m)).r)) (m * 4 + 3) (.int .i64 (numJ (k0 + 4 * m)).d))
      have HZ := hsz
      have HZ2 := Lib.hid hz
      have hcast : ((k0 + 4 * m : Nat) : Int) = (k0 : Int) + 4 * m := by omega
      have HP := Lib.hid (hP.out.step4 (by rw [numsJ_len]; exact hlt))
      have HN := Lib.hid (numsJ_get k0 n m hlt)
      rw [HN.out] at HP
      have HS := Lib.hid (set4_size cs (m * 4) (numJ (k0 + 4 * m)))
      simp only [numJ, hcast] at HB HG
      clear hB hG h hz hsz hP
      go_wp2
      go_roundw
      case rel => exact ⟨m + 1, set4 cs (m * 4) (numJ (k0 + 4 * m)), by omega, by go_num, by go_num, by rw [HS.out]; exact HZ2.out, by simpa only [numJ, hcast] using HB.out, HP.out, HG.out, by show _ = _; simpa [World.setCell] using HZ.out⟩
      case measure => simp [intOf]; omega
    · obtain rfl : m = n := by omega
      go_wp2
      go_ret
      refine ⟨rfl, ⟨cs, hz, hB, ?_⟩, hG, hsz.out⟩
      have hP' := hP.out
      rw [show m * 4 = (jc (numsJ k0 m)).length by rw [jc_len, numsJ_len]; omega] at hP' ⊢
      exact hP'.all
theorem markJobS_own (A : Option Addr) (c n k0 B : Nat) (cs : List Value) (w : World) (h : w.ownsRow B 50 4 (.slice A n c) n cs) (hn1 : n ≤ 10000000) (hk1 : k0 ≤ 1000000000) (hBw : B ≤ w.heap.size) :
    Calls Tryd.prog 17 #[.slice A n c, .int .i64 (k0 : Int)] w fun e w' => e = .returned (.int .i64 ((k0 + 4 * n : Nat) : Int)) ∧ w'.ownsRow B 50 4 (.slice A n c) n (jc (numsJ k0 n)) ∧ Below B w w' ∧ w.grownBy w' (Value.slice A n c).ownBlock ∧ w'.heap.size = w.heap.size := by
  by_cases h0 : n = 0
  · subst h0
    refine (markJobS_none A c k0 w).mono ?_
    rintro e w' ⟨rfl, rfl⟩
    have hcs : cs = [] := List.eq_nil_of_length_eq_zero (by have := h.1; simpa using this)
    subst hcs
    exact ⟨rfl, h, Below.refl _ _, World.grownBy.refl _ _, rfl⟩
  · obtain ⟨g, cur, rfl, hg, hB, h1, h2, h3, h4⟩ := own_block h (by omega)
    refine (markJobS_some g c n k0 cur w hB (by omega) h1 hn1 hk1).mono ?_
    rintro e w' ⟨rfl, ⟨cs', hz, hB', hm⟩, hG, hs⟩
    refine ⟨rfl, ?_, ⟨hG.os, hG.tape, hG.output, hG.size, fun k hk => hG.block k (by omega) (fun e => by injection e; omega)⟩, hG, hs⟩
    have := hB'.own (base := B) (n := n) (c := c) (size := 4) hg (by omega) h1 h2 (by omega)
    rwa [hm] at this
end Go.Proofs.YtnkoncplfedffaaDoor

namespace Go.Proofs.YtnkoncplfedffaaDoor
open Go.RowKit Go.ChangeShapes Go.WideShapes Go.Deep

section
variable {H : Type} {enc : TypeId × Value → H} {P : Program} {w : World} {base : Nat} {spare : Nat → Bool} {held : Bool}
theorem open_slice_fields {t e : TypeId} {fs : Array Field} {fuel : Nat} {cs : List Value} {x : DataW H × List MemPlace} (ht : P.underlying t = some (.slice e)) (he : P.underlying e = some (.struct fs))
    (hone : oneCellFields P fs = true) (hC : P.cellsOf e = fs.size) (h : DataW.trod enc P w base spare held fuel t cs = some x) :
    (cs = [.slice none 0 0]) ∨
    ∃ (a : Addr) (len cap m : Nat), cs = [.slice (some a) len cap] ∧ len ≤ cap ∧ cap ≤ maxLen ∧ len ≤ m ∧
      ∀ i, i < m → ∃ n : Nat, ∀ (j : Nat) (f : Field), fs[j]? = some f → ∃ (v : Value) (y : DataW H × List MemPlace), w.cell? (a.add (i * fs.size + j)) = some v ∧ DataW.trod enc P w base spare held n f.type [v] = some y := by
  rcases open_slice ht h with ⟨h0, _⟩ | ⟨a, len, cap, m, n, D, Pl, hcs, hb, hl, hm, hmm, hx, hi⟩
  · exact .inl h0
  · refine .inr ⟨a, len, cap, m, hcs, hl, hm, by rw [hmm]; split <;> omega, fun i him => ?_⟩
    obtain ⟨cs', hc, ht'⟩ := hi i him
    rw [hC] at hc
    obtain ⟨ys, n', hn', hy, hlen, hyl, hf⟩ := DataW.trod_struct he ht'
    obtain ⟨_, hcl, hat⟩ := World.cells?_some hc
    refine ⟨n', fun j f hj => ?_⟩
    obtain ⟨ho, hk⟩ := hone_of hone j f hj
    have hjl : j < fs.size := (Array.getElem?_eq_some_iff.1 hj).1
    have hcell := hat j hjl
    have hv : cs'[j]? = some (cs'[j]'(by omega)) := List.getElem?_eq_getElem (by omega)
    have h1 := hf j f hj
    rw [ho, hk] at h1
    have hone' : (cs'.drop j).take 1 = [cs'[j]'(by omega)] := by
      rw [List.drop_eq_getElem_cons (by omega)]
      rfl
    rw [hone'] at h1
    have hys : ys[j]? = some (ys[j]'(by omega)) := List.getElem?_eq_getElem (by omega)
    refine ⟨_, _, ?_, h1.trans hys⟩
    rw [← Go.Deep.add_add, hcell, hv]

def wfJ (j : J) : Prop := (Lit.int .i64 j.t).wf = true ∧ (Lit.int .i64 j.w).wf = true ∧ (Lit.int .i64 j.r).wf = true ∧ (Lit.int .i64 j.d).wf = true
/-- A slice of jobs that came in. -/
def IsJobsA (w : World) (A : Option Addr) (len cap : Nat) (js : List J) : Prop := js.length = len ∧ len ≤ cap ∧ cap ≤ maxLen ∧ Row w A (jc js) ∧ ∀ j ∈ js, wfJ j
theorem jc_range (f : Nat → J) (n : Nat) (u : Value) (i : Nat) (h : (jc ((List.range n).map f))[i]? = some u) : i < n * 4 ∧ (cellsJ (f (i / 4)))[i % 4]? = some u := by
  have hi : i < 4 * n := by
    have := (List.getElem?_eq_some_iff.1 h).1
    rw [jc_len] at this; simpa using this
  have hk : i / 4 < ((List.range n).map f).length := by simp; omega
  have := jc_get ((List.range n).map f) (i / 4) (i % 4) hk (by omega)
  rw [show i / 4 * 4 + i % 4 = i by omega, h] at this
  refine ⟨by omega, ?_⟩
  rw [this]
  simp
theorem open_jobs {t e : TypeId} {f0 f1 f2 f3 : Field} {fuel : Nat} {cs : List Value} {x : DataW H × List MemPlace} (ht : P.underlying t = some (.slice e)) (he : P.underlying e = some (.struct #[f0, f1, f2, f3]))
    (hone : oneCellFields P #[f0, f1, f2, f3] = true) (hC : P.cellsOf e = 4) (i0 : P.underlying f0.type = some (.int .i64)) (i1 : P.underlying f1.type = some (.int .i64)) (i2 : P.underlying f2.type = some (.int .i64)) (i3 : P.underlying f3.type = some (.int .i64))
    (h : DataW.trod enc P w base spare held fuel t cs = some x) : ∃ A len cap js, cs = [.slice A len cap] ∧ IsJobsA w A len cap js := by
  rcases open_slice_fields ht he hone hC h with rfl | ⟨a, len, cap, m, rfl, hl, hm, hlm, hi⟩
  · exact ⟨none, 0, 0, [], rfl, rfl, Nat.le_refl _, Nat.zero_le _, Row.nil _, by simp⟩
  · have key : ∀ i : Nat, ∃ j : J, i < m → (w.cell? (a.add (i * 4 + 0)) = some (.int .i64 j.t) ∧ w.cell? (a.add (i * 4 + 1)) = some (.int .i64 j.w) ∧ w.cell? (a.add (i * 4 + 2)) = some (.int .i64 j.r) ∧ w.cell? (a.add (i * 4 + 3)) = some (.int .i64 j.d)) ∧ wfJ j := by
      intro i
      by_cases him : i < m
      · obtain ⟨n, hf⟩ := hi i him
        obtain ⟨v0, y0, c0, t0⟩ := hf 0 f0 rfl
        obtain ⟨v1, y1, c1, t1⟩ := hf 1 f1 rfl
        obtain ⟨v2, y2, c2, t2⟩ := hf 2 f2 rfl
        obtain ⟨v3, y3, c3, t3⟩ := hf 3 f3 rfl
        obtain ⟨n0, e0, _, w0⟩ := DataW.trod_int i0 t0
        obtain ⟨n1, e1, _, w1⟩ := DataW.trod_int i1 t1
        obtain ⟨n2, e2, _, w2⟩ := DataW.trod_int i2 t2
        obtain ⟨n3, e3, _, w3⟩ := DataW.trod_int i3 t3
        injection e0 with e0 _
        injection e1 with e1 _
        injection e2 with e2 _
        injection e3 with e3 _
        subst e0 e1 e2 e3
        exact ⟨⟨n0, n1, n2, n3⟩, fun _ => ⟨⟨c0, c1, c2, c3⟩, w0, w1, w2, w3⟩⟩
      · exact ⟨j0, fun h => absurd h him⟩
    obtain ⟨f, hf⟩ := Classical.axiomOfChoice key
    refine ⟨some a, len, cap, (List.range len).map f, rfl, by simp, hl, hm, fun hn => ?_, ?_⟩
    · rw [jc_len] at hn
      have h0 : 0 < len := by simpa using hn
      have hc0 := (hf 0 (by omega)).1.1
      have hb := lt_of_cell hc0
      rw [add_block] at hb
      refine ⟨a, rfl, hb, fun j u hu => ?_⟩
      obtain ⟨hj, hu'⟩ := jc_range f len u j hu
      obtain ⟨⟨c0, c1, c2, c3⟩, _⟩ := hf (j / 4) (by omega)
      have ej : a.add j = a.add (j / 4 * 4 + j % 4) := by rw [show j / 4 * 4 + j % 4 = j by omega]
      rw [ej]
      have h4 : j % 4 = 0 ∨ j % 4 = 1 ∨ j % 4 = 2 ∨ j % 4 = 3 := by omega
      rcases h4 with h4 | h4 | h4 | h4 <;> rw [h4] at hu' ⊢ <;> simp [cellsJ] at hu' <;> subst hu' <;> assumption
    · intro j hj
      obtain ⟨i, hi, rfl⟩ := List.mem_map.1 hj
      exact (hf i (by have := List.mem_range.1 hi; omega)).2
end
end Go.Proofs.YtnkoncplfedffaaDoor

namespace Go.Proofs.YtnkoncplfedffaaDoor
open Go.RowKit

theorem IsInts.row {w : World} {a : Option Addr} {len cap : Nat} {zs : List Int} (h : IsInts .i64 w a len cap zs) : ∃ o : List Int, o.length = len ∧ Row w a (ic o) ∧ o.length ≤ maxLen ∧ ∀ n ∈ o, (Lit.int .i64 n).wf = true := by
  rcases h with ⟨rfl, rfl, rfl, rfl⟩ | ⟨x, rfl, hl, hm, hz, hc, hs⟩
  · exact ⟨[], rfl, Row.nil _, Nat.zero_le _, by simp⟩
  · refine ⟨zs.take len, by simp; omega, fun hn => ⟨x, rfl, ?_, fun j u hu => ?_⟩, by simp; omega, fun n h => hs n (List.mem_of_mem_take h)⟩
    · have h0 : 0 < zs.length := by rw [ic_len] at hn; simp at hn; omega
      have := lt_of_cell (hc 0 h0)
      rwa [add_block] at this
    · unfold ic at hu
      rw [List.getElem?_map, Option.map_eq_some_iff] at hu
      obtain ⟨s, h1, rfl⟩ := hu
      obtain ⟨h2, h3⟩ := List.getElem?_eq_some_iff.1 h1
      have hj : j < zs.length := by simp at h2; omega
      rw [hc j hj]
      rw [List.getElem_take] at h3
      subst h3
      simp [List.getD, hj]

theorem Touch.of_own {w w' : World} {lo hi : Nat} {A : Option Addr} {n c : Nat} (h : w.grownBy w' (Value.slice A n c).ownBlock) (hA : ∀ ad, A = some ad → lo ≤ ad.block ∧ ad.block < hi) : Touch lo hi w w' := by
  refine ⟨h.os, h.tape, h.output, h.size, fun k hk hne => h.block k hk ?_⟩
  cases A with
  | none => intro e; cases e
  | some ad =>
    intro e
    have := hA ad rfl
    injection e with e
    omega
theorem Seg.at_ {w : World} {e : TypeId} {size lo hi : Nat} {A : Option Addr} {n c : Nat} {cs : List Value} (h : Seg w e size lo hi A n c cs) : ∀ ad, A = some ad → 0 < n → lo ≤ ad.block ∧ ad.block < hi := by
  intro ad ha h0
  obtain ⟨g, cur, hA, h1, h2, _⟩ := h.block h0
  rw [hA] at ha
  injection ha with ha
  subst ha
  exact ⟨h1, h2⟩
theorem Touch.none {w : World} (lo hi : Nat) : Touch lo hi w w := Touch.refl _ _ _

theorem toJobS_seg (A : Option Addr) (c : Nat) (js : List J) (w : World) (hr : Row w A (jc js)) (hn : js.length ≤ 10000000) :
    Calls Tryd.prog 11 #[.slice A js.length c] w fun e w' => ∃ g, e = .returned (.slice (some ⟨g, 0, none⟩) js.length js.length) ∧ Seg w' 50 4 w.heap.size w'.heap.size (some ⟨g, 0, none⟩) js.length js.length (jc js) ∧ Below w.heap.size w w' :=
  (toJobS_any A c js w hr hn).mono fun _ _ ⟨g, he, _, ho, hb⟩ => ⟨g, he, Seg.of_own ho, hb⟩
theorem toIntS_seg (A : Option Addr) (c : Nat) (xs : List Int) (w : World) (hr : Row w A (ic xs)) (hn : xs.length ≤ 100000000) :
    Calls Tryd.prog 21 #[.slice A xs.length c] w fun e w' => ∃ g, e = .returned (.slice (some ⟨g, 0, none⟩) xs.length xs.length) ∧ Seg w' 3 1 w.heap.size w'.heap.size (some ⟨g, 0, none⟩) xs.length xs.length (ic xs) ∧ Below w.heap.size w w' :=
  (toIntS_any A c xs w hr hn).mono fun _ _ ⟨g, he, _, ho, hb⟩ => ⟨g, he, Seg.of_own ho, hb⟩
theorem eqIntS_seg (A B : Option Addr) (c d : Nat) (xs : List Int) (w : World) (hr : Row w A (ic xs)) (hq : Row w B (ic xs)) (hn : xs.length ≤ 100000000) :
    Calls Tryd.prog 16 #[.slice A xs.length c, .slice B xs.length d] w fun e w' => e = .returned (.bool true) ∧ Below w.heap.size w w' :=
  (eqIntS_same A B c d xs w hr hq hn).mono fun _ _ ⟨he, m, hm⟩ => ⟨he, hm ▸ below_drewN (Below.refl _ _) m⟩
theorem markIntS_seg (A : Option Addr) (c n lo hi : Nat) (k : Int) (cs : List Value) (w : World) (h : Seg w 3 1 lo hi A n c cs) (h0 : 0 ≤ k) (h1 : k ≤ 1000000000) (hn : n ≤ 100000000) :
    Calls Tryd.prog 18 #[.slice A n c, .int .i64 k] w fun e w' => e = .returned (.int .i64 (k + n)) ∧ Seg w' 3 1 lo hi A n c (marksI k.toNat n) ∧ Touch lo hi w w' := by
  have hk : k = (k.toNat : Int) := by omega
  by_cases hz : n = 0
  · subst hz
    refine (markIntS_none A c k w).mono ?_
    rintro e w' ⟨rfl, rfl⟩
    have hcs := h.slice_nil
    subst hcs
    exact ⟨by simp, h, Touch.refl _ _ _⟩
  · have hlo : lo ≤ w.heap.size := by
      obtain ⟨g, cur, hA, a1, a2, _⟩ := h.block (by omega)
      have := h.fit; omega
    have H := markIntS_own A c n k.toNat lo cs w h.own hn (by omega) hlo
    rw [← hk] at H
    refine H.mono ?_
    rintro e w' ⟨rfl, ho, hb, hg, hs⟩
    exact ⟨by rw [show ((k.toNat + n : Nat) : Int) = k + n by omega], ⟨ho, h.top, by rw [hs]; exact h.fit⟩, Touch.of_own hg fun ad ha => h.at_ ad ha (by omega)⟩
theorem markJobS_seg (A : Option Addr) (c n lo hi : Nat) (k : Int) (cs : List Value) (w : World) (h : Seg w 50 4 lo hi A n c cs) (h0 : 0 ≤ k) (h1 : k ≤ 1000000000) (hn : n ≤ 10000000) :
    Calls Tryd.prog 17 #[.slice A n c, .int .i64 k] w fun e w' => e = .returned (.int .i64 (k + 4 * n)) ∧ Seg w' 50 4 lo hi A n c (jc (numsJ k.toNat n)) ∧ Touch lo hi w w' := by
  have hk : k = (k.toNat : Int) := by omega
  by_cases hz : n = 0
  · subst hz
    refine (markJobS_none A c k w).mono ?_
    rintro e w' ⟨rfl, rfl⟩
    have hcs := h.slice_nil
    subst hcs
    exact ⟨by simp, h, Touch.refl _ _ _⟩
  · have hlo : lo ≤ w.heap.size := by
      obtain ⟨g, cur, hA, a1, a2, _⟩ := h.block (by omega)
      have := h.fit; omega
    have H := markJobS_own A c n k.toNat lo cs w h.own hn (by omega) hlo
    rw [← hk] at H
    refine H.mono ?_
    rintro e w' ⟨rfl, ho, hb, hg, hs⟩
    exact ⟨by rw [show ((k.toNat + 4 * n : Nat) : Int) = k + 4 * n by omega], ⟨ho, h.top, by rw [hs]; exact h.fit⟩, Touch.of_own hg fun ad ha => h.at_ ad ha (by omega)⟩
theorem heldIntS_seg (A : Option Addr) (c n : Nat) (k : Int) (w : World) (hr : Row w A (marksI k.toNat n)) (h0 : 0 ≤ k) (h1 : k ≤ 1000000000) (hn : n ≤ 100000000) :
    Calls Tryd.prog 19 #[.slice A n c, .int .i64 k] w fun e w' => e = .returned (.int .i64 (k + n)) ∧ w = w' := by
  have hk : k = (k.toNat : Int) := by omega
  have H := heldIntS_same A c n k.toNat w hr hn (by omega)
  rw [← hk] at H
  refine H.mono ?_
  rintro e w' ⟨rfl, rfl⟩
  exact ⟨by rw [show ((k.toNat + n : Nat) : Int) = k + n by omega], rfl⟩

/-- What a function hands back: a list of ints, memory of its own, and a bool. -/
def RetIB (w : World) (r : List Int × Bool) (e : Ending) (w' : World) : Prop :=
  ∃ A c, e = .returned (.tuple #[.slice A r.1.length c, .bool r.2]) ∧ Seg w' 3 1 w.heap.size w'.heap.size A r.1.length c (ic r.1) ∧ Below w.heap.size w w'
end Go.Proofs.YtnkoncplfedffaaDoor
