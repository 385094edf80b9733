/- Slices of slices of ints, all of one's own: equality, marks. -/
import Derived.Test.YteidhjmnononaaaSegH
namespace Go.Proofs.Yteidhjmnononaaa
open Go.RowKit

/-- The cells of a slice of slices: where each one lies. -/
def slC (vs : List (Option Addr × Nat)) (css : List (List Value)) : List Value := List.zipWith (fun v cs => Value.slice v.1 cs.length v.2) vs css
theorem slC_len {vs : List (Option Addr × Nat)} {css : List (List Value)} (h : vs.length = css.length) : (slC vs css).length = css.length := by unfold slC; simp [h]
theorem slC_get {vs : List (Option Addr × Nat)} {css : List (List Value)} (h : vs.length = css.length) {i : Nat} (hi : i < css.length) : (slC vs css)[i]'(by rw [slC_len h]; exact hi) = .slice (vs[i]'(by omega)).1 css[i].length (vs[i]'(by omega)).2 := by unfold slC; simp
/-- What lies where a slice of slices is read. -/
def RowSS (w : World) (A : Option Addr) (css : List (List Value)) : Prop := ∃ vs : List (Option Addr × Nat), vs.length = css.length ∧ Row w A (slC vs css) ∧ ∀ (i : Nat) (h : i < css.length) (h' : i < vs.length), Row w vs[i].1 css[i]
/-- A slice of slices of one's own, from lo on and below hi, no two of them in one block. -/
def SegSS (w : World) (lo hi : Nat) (A : Option Addr) (n c : Nat) (css : List (List Value)) : Prop := n = css.length ∧ ∃ vs : List (Option Addr × Nat), vs.length = css.length ∧ Seg w 40 1 lo hi A n c (slC vs css) ∧
  (∀ (i : Nat) (h : i < css.length) (h' : i < vs.length), Seg w 3 1 lo hi vs[i].1 css[i].length vs[i].2 css[i]) ∧
  ∀ (i j : Nat) (h : i < vs.length) (h' : j < vs.length) (a b : Addr), i ≠ j → vs[i].1 = some a → vs[j].1 = some b → a.block ≠ b.block
def totC (css : List (List Value)) : Nat := (css.map List.length).sum
section
variable {w w' : World} {lo hi : Nat} {A : Option Addr} {n c : Nat} {css : List (List Value)}
theorem SegSS.row (h : SegSS w lo hi A n c css) : RowSS w A css := by
  obtain ⟨_, vs, h1, h2, h3, _⟩ := h
  exact ⟨vs, h1, h2.row, fun i a b => (h3 i a b).row⟩
theorem SegSS.keep {a b : Nat} (h : SegSS w lo hi A n c css) (ht : Touch a b w w') (hd : hi ≤ a ∨ b ≤ lo) : SegSS w' lo hi A n c css := by
  obtain ⟨h0, vs, h1, h2, h3, h4⟩ := h
  exact ⟨h0, vs, h1, h2.keep ht hd, fun i a b => (h3 i a b).keep ht hd, h4⟩
theorem SegSS.below (h : SegSS w lo hi A n c css) (hb : Below w.heap.size w w') : SegSS w' lo hi A n c css := by
  obtain ⟨h0, vs, h1, h2, h3, h4⟩ := h
  exact ⟨h0, vs, h1, h2.below hb, fun i a b => (h3 i a b).below hb, h4⟩
theorem SegSS.fit (h : SegSS w lo hi A n c css) : hi ≤ w.heap.size := by
  obtain ⟨_, vs, _, h2, _⟩ := h
  exact h2.fit
theorem RowSS.below (h : RowSS w A css) (hb : Below w.heap.size w w') : RowSS w' A css := by
  obtain ⟨vs, h1, h2, h3⟩ := h
  exact ⟨vs, h1, h2.below hb, fun i a b => (h3 i a b).below hb⟩
theorem RowSS.at_ {w : World} {A : Option Addr} {css : List (List Value)} (h : RowSS w A css) {k : Nat} (hk : k < css.length) : ∃ ad B d, A = some ad ∧ w.cell? (ad.add k) = some (.slice B css[k].length d) ∧ Row w B css[k] := by
  obtain ⟨vs, h1, h2, h3⟩ := h
  obtain ⟨ad, e, hc⟩ := h2.at_ (k := k) (by rw [slC_len h1]; exact hk)
  rw [slC_get h1 hk] at hc
  exact ⟨ad, _, _, e, hc, h3 k hk (by omega)⟩
end
theorem eqIntSS_seg (A B : Option Addr) (c d : Nat) (xss : List (List Int)) (w : World) (hr : RowSS w A (xss.map ic)) (hq : RowSS w B (xss.map ic)) (hn : (xss.map ic).length ≤ 10000000 ∧ totC (xss.map ic) ≤ 10000000) :
    Calls Try.prog 11 #[.slice A xss.length c, .slice B xss.length d] w fun e w' => e = .returned (.bool true) ∧ Below w.heap.size w w' := by
  have hl : (xss.map ic).length = xss.length := by simp
  have HTOT : ∀ k (hk : k < xss.length), xss[k].length ≤ 10000000 := fun k hk => by
    have h1 : (ic xss[k]).length ∈ (xss.map ic).map List.length := List.mem_map.2 ⟨ic xss[k], List.mem_map.2 ⟨_, List.getElem_mem hk, rfl⟩, rfl⟩
    have h2 : ∀ (l : List Nat) (a : Nat), a ∈ l → a ≤ l.sum := fun l => by
      induction l with
      | nil => intro a ha; cases ha
      | cons x l ih =>
        intro a ha
        rcases List.mem_cons.1 ha with e | e
        · subst e; simp
        · have := ih a e; simp; omega
    have h3 := h2 _ _ h1
    rw [ic_len] at h3
    have := hn.2
    unfold totC at this
    omega
  have HT := Lib.hid HTOT
  clear HTOT
  go_enter Try.func11, Try.ntmps11
  go_wp2
  go_loopw [5] (fun i wr => ∃ k n : Nat, k ≤ xss.length ∧ i = .int .i64 k ∧ wr = w.drewN n) (fun i _ => xss.length - (intOf i).toNat)
  case atStart => exact ⟨0, 0, Nat.zero_le _, rfl, rfl⟩
  case round =>
    obtain ⟨k, n, hk, rfl, rfl⟩ := hrel
    by_cases hlt : k < xss.length
    · obtain ⟨a, a1, a2, hA, hc0, hra⟩ := hr.at_ (k := k) (by omega)
      obtain ⟨b, b1, b2, hB, hd0, hrb⟩ := hq.at_ (k := k) (by omega)
      subst hA hB
      have e0 : ((xss.map ic)[k]'(by omega)) = ic xss[k] := by simp
      rw [e0] at hc0 hra hd0 hrb
      rw [ic_len] at hc0 hd0
      have hc0' : (w.drewN n).cell? (a.add k) = some (.slice a1 xss[k].length a2) := hc0
      have hd0' : (w.drewN n).cell? (b.add k) = some (.slice b1 xss[k].length b2) := hd0
      have HE : Hid (∀ m, Calls Try.prog 21 #[.slice a1 xss[k].length a2, .slice b1 xss[k].length b2] (w.drewN m) fun e w' => e = .returned (.bool true) ∧ ∃ q, w' = (w.drewN m).drewN q) := fun m => eqIntS_same a1 b1 a2 b2 xss[k] (w.drewN m) (hra.drewN m) (hrb.drewN m) (by have := HT.out k hlt; omega)
      clear hr hq hra hrb e0
      generalize xss[k] = xs at *
      have hi : (0 : Int) ≤ k := by omega
      have hi' : (k : Int) < xss.length := by omega
      go_wp2
      go_quiet ((go_at_call 21; exact quiet_in (HE.out _)))
      go_wp2
      go_roundw
      case rel => exact ⟨k + 1, _, by omega, by go_num, rfl⟩
      case measure => simp [intOf]; omega
    · go_wp2
      go_ret
      exact ⟨rfl, below_drewN (Below.refl _ _) _⟩
/-- The marks of a slice of slices, from a number on. -/
def marksSS : Nat → List Nat → List (List Value)
  | _, [] => []
  | k, n :: ns => marksI k n :: marksSS (k + n) ns
theorem marksSS_len : ∀ (k : Nat) (ns : List Nat), (marksSS k ns).length = ns.length
  | _, [] => rfl
  | k, n :: ns => by simp [marksSS, marksSS_len (k + n) ns]
theorem marksSS_get : ∀ (k : Nat) (ns : List Nat) (i : Nat) (h : i < ns.length), (marksSS k ns)[i]'(by rw [marksSS_len]; exact h) = marksI (k + (ns.take i).sum) ns[i]
  | k, n :: ns, 0, _ => by simp [marksSS]
  | k, n :: ns, i + 1, h => by
    simp only [marksSS, List.getElem_cons_succ, List.take_succ_cons, List.sum_cons]
    rw [marksSS_get (k + n) ns i (by simpa using h), Nat.add_assoc]
theorem take_sum (ns : List Nat) : ∀ i, (ns.take i).sum ≤ ns.sum := by
  induction ns with
  | nil => intro i; simp
  | cons n ns ih =>
    intro i
    cases i with
    | zero => simp
    | succ i => have := ih i; simp; omega
theorem take_sum_succ (ns : List Nat) (i : Nat) (h : i < ns.length) : (ns.take (i + 1)).sum = (ns.take i).sum + ns[i] := by
  rw [List.take_succ_eq_append_getElem h, List.sum_append]; simp
/-- The first k are marked, the others are as they were. -/
def mixSS (k0 m : Nat) (css : List (List Value)) : List (List Value) := (marksSS k0 (css.map List.length)).take m ++ css.drop m
theorem mixSS_len (k0 m : Nat) (css : List (List Value)) (h : m ≤ css.length) : (mixSS k0 m css).length = css.length := by
  unfold mixSS; simp [marksSS_len]; omega
theorem mixSS_get {k0 m : Nat} {css : List (List Value)} (hm : m ≤ css.length) {i : Nat} (hi : i < css.length) : (mixSS k0 m css)[i]'(by rw [mixSS_len _ _ _ hm]; exact hi) = if i < m then marksI (k0 + ((css.map List.length).take i).sum) css[i].length else css[i] := by
  have hl : (marksSS k0 (css.map List.length)).length = css.length := by rw [marksSS_len]; simp
  by_cases h : i < m
  · rw [if_pos h]
    unfold mixSS
    rw [List.getElem_append_left (by simp [hl]; omega), List.getElem_take, marksSS_get _ _ _ (by simpa using hi)]
    simp
  · rw [if_neg h]
    unfold mixSS
    have h2 : ((marksSS k0 (css.map List.length)).take m).length = m := by simp [hl]; omega
    rw [List.getElem_append_right (by omega)]
    simp only [h2, List.getElem_drop]
    congr 1
    omega
theorem mixSS_zero (k0 : Nat) (css : List (List Value)) : mixSS k0 0 css = css := by unfold mixSS; simp
theorem mixSS_all (k0 : Nat) (css : List (List Value)) : mixSS k0 css.length css = marksSS k0 (css.map List.length) := by
  unfold mixSS
  rw [List.take_of_length_le (by rw [marksSS_len]; simp), List.drop_length, List.append_nil]
theorem mixSS_lens (k0 m : Nat) (css : List (List Value)) (hm : m ≤ css.length) : ∀ i (hi : i < css.length), ((mixSS k0 m css)[i]'(by rw [mixSS_len _ _ _ hm]; exact hi)).length = css[i].length := by
  intro i hi
  rw [mixSS_get hm hi]
  split
  · rw [marksI_len]
  · rfl
theorem Seg.keep_block {w w' : World} {e : TypeId} {size lo hi : Nat} {A : Option Addr} {n c : Nat} {cs : List Value} (h : Seg w e size lo hi A n c cs) (hs : hi ≤ w'.heap.size) (hk : ∀ g cur, A = some ⟨g, 0, none⟩ → BlockIs w g e cur → w'.heap[g]? = w.heap[g]?) : Seg w' e size lo hi A n c cs := by
  refine ⟨⟨h.own.1, ?_⟩, h.top, hs⟩
  rcases h.own.2 with ⟨hv, h0⟩ | ⟨g, cap, cur, hv, hb, hg, hr⟩
  · exact .inl ⟨hv, h0⟩
  · have hA : A = some ⟨g, 0, none⟩ := by injection hv
    exact .inr ⟨g, cap, cur, hv, hb, (hk g cur hA hg).trans hg, hr⟩
/-- As SegSS, where each one lies being known. -/
def SegV (vs : List (Option Addr × Nat)) (w : World) (lo hi : Nat) (A : Option Addr) (n c : Nat) (css : List (List Value)) : Prop := n = css.length ∧ vs.length = css.length ∧ Seg w 40 1 lo hi A n c (slC vs css) ∧
  (∀ (i : Nat) (h : i < css.length) (h' : i < vs.length), Seg w 3 1 lo hi vs[i].1 css[i].length vs[i].2 css[i]) ∧
  ∀ (i j : Nat) (h : i < vs.length) (h' : j < vs.length) (a b : Addr), i ≠ j → vs[i].1 = some a → vs[j].1 = some b → a.block ≠ b.block
theorem slC_same {vs : List (Option Addr × Nat)} {css dss : List (List Value)} (h : vs.length = css.length) (hl : dss.length = css.length) (he : ∀ i (hi : i < css.length), (dss[i]'(by omega)).length = css[i].length) : slC vs dss = slC vs css := by
  apply List.ext_getElem
  · rw [slC_len (by omega), slC_len h, hl]
  · intro i h1 h2
    rw [slC_len h] at h2
    rw [slC_get (by omega) (by omega), slC_get h h2, he i h2]
theorem segV_mark {vs : List (Option Addr × Nat)} {w w' : World} {lo hi : Nat} {A : Option Addr} {n c : Nat} {css : List (List Value)} {k0 m : Nat} (hm : m < css.length) (h : SegV vs w lo hi A n c (mixSS k0 m css)) (hv : vs.length = css.length)
    (ho : w'.ownsRow lo 3 1 (.slice (vs[m]'(by omega)).1 css[m].length (vs[m]'(by omega)).2) css[m].length (marksI (k0 + ((css.map List.length).take m).sum) css[m].length)) (hg : w.grownBy w' (Value.slice (vs[m]'(by omega)).1 css[m].length (vs[m]'(by omega)).2).ownBlock) (hs : w'.heap.size = w.heap.size) : SegV vs w' lo hi A n c (mixSS k0 (m + 1) css) := by
  obtain ⟨h0, h1, h2, h3, h4⟩ := h
  have e0 := mixSS_len k0 m css (by omega)
  have e1 := mixSS_len k0 (m + 1) css (by omega)
  have hfit := h2.fit
  have hself := h3 m (by omega) (by omega)
  have hE : slC vs (mixSS k0 (m + 1) css) = slC vs (mixSS k0 m css) := slC_same (by omega) (by omega) fun i hi => by
    rw [mixSS_lens k0 (m + 1) css (by omega) i (by omega), mixSS_lens k0 m css (by omega) i (by omega)]
  have hown : ∀ g, g < w.heap.size → (∀ a, (vs[m]'(by omega)).1 = some a → a.block ≠ g) → w'.heap[g]? = w.heap[g]? := fun g hgl hne => by
    refine hg.block g hgl fun e => ?_
    cases ha : (vs[m]'(by omega)).1 with
    | none => rw [ha] at e; cases e
    | some a =>
      rw [ha] at e
      have : a.block = g := by injection e with e; exact e.symm
      exact hne a ha this
  refine ⟨by omega, by omega, ?_, ?_, h4⟩
  · rw [hE]
    refine h2.keep_block (by omega) fun g cur hA hB => hown g hB.lt fun a ha e => ?_
    subst e
    rcases hself.own.2 with ⟨hv0, _⟩ | ⟨g', cap, cur', hv0, _, hg', _⟩
    · injection hv0 with hv0; rw [ha] at hv0; cases hv0
    · injection hv0 with hv0
      rw [ha] at hv0
      injection hv0 with hv0
      subst hv0
      unfold BlockIs at hB
      simp only at hB
      rw [hg'] at hB
      injection hB with hB
      injection hB with _ h5 _
      exact absurd h5 (by decide)
  · intro i hi' hiv
    by_cases e : i = m
    · subst e
      have := mixSS_get (k0 := k0) (m := i + 1) (css := css) (by omega) (i := i) (by omega)
      rw [if_pos (by omega)] at this
      have hl := mixSS_lens k0 (i + 1) css (by omega) i (by omega)
      rw [this]
      rw [this, marksI_len] at hl
      simp only [marksI_len]
      exact ⟨ho, (by
        intro ad ha
        exact hself.top ad ha), by omega⟩
    · have g1 := mixSS_get (k0 := k0) (m := m + 1) (css := css) (by omega) (i := i) (by omega)
      have g2 := mixSS_get (k0 := k0) (m := m) (css := css) (by omega) (i := i) (by omega)
      have hsame : (mixSS k0 (m + 1) css)[i]'(by omega) = (mixSS k0 m css)[i]'(by omega) := by
        rw [g1, g2]
        by_cases hh : i < m
        · rw [if_pos hh, if_pos (by omega)]
        · rw [if_neg hh, if_neg (by omega)]
      rw [hsame]
      refine (h3 i (by omega) hiv).keep_block (by omega) fun g cur hA hB => hown g hB.lt fun a ha e' => ?_
      exact h4 m i (by omega) hiv a ⟨g, 0, none⟩ (fun e2 => e e2.symm) ha hA e'
/-- What a function hands back: a list of lists of ints, memory of its own, and a bool. -/
def RetSSB (w : World) (r : List (List Int) × Bool) (e : Ending) (w' : World) : Prop :=
  ∃ A c, e = .returned (.tuple #[.slice A r.1.length c, .bool r.2]) ∧ SegSS w' w.heap.size w'.heap.size A r.1.length c (r.1.map ic) ∧ Below w.heap.size w w'
end Go.Proofs.Yteidhjmnononaaa
