/- Slices of slices of anything: where each one lies; one of them written, one more made. -/
import Derived.Test.YteidhjmnononaaaSegH
namespace Go.Proofs.Yteidhjmnononaaa
open Go.RowKit
/-- The cells of a slice of slices: where each one lies, and how long it is. -/
def slN (vs : List (Option Addr × Nat)) (ns : List Nat) : List Value := List.zipWith (fun v n => Value.slice v.1 n v.2) vs ns
theorem slN_len {vs : List (Option Addr × Nat)} {ns : List Nat} (h : vs.length = ns.length) : (slN vs ns).length = ns.length := by unfold slN; simp [h]
theorem slN_get {vs : List (Option Addr × Nat)} {ns : List Nat} (h : vs.length = ns.length) {i : Nat} (hi : i < ns.length) : (slN vs ns)[i]'(by rw [slN_len h]; exact hi) = .slice (vs[i]'(by omega)).1 ns[i] (vs[i]'(by omega)).2 := by unfold slN; simp
theorem sum_take_le (ns : List Nat) : ∀ i, (ns.take i).sum ≤ ns.sum := by
  induction ns with
  | nil => intro i; simp
  | cons n ns ih =>
    intro i
    cases i with
    | zero => simp
    | succ i => have := ih i; simp; omega
theorem sum_take_succ (ns : List Nat) (i : Nat) (h : i < ns.length) : (ns.take (i + 1)).sum = (ns.take i).sum + ns[i] := by
  rw [List.take_succ_eq_append_getElem h, List.sum_append]; simp
theorem sum_get_le (ns : List Nat) (i : Nat) (h : i < ns.length) : ns[i] ≤ ns.sum := by
  have h1 := sum_take_succ ns i h
  have h2 := sum_take_le ns (i + 1)
  omega
section
variable {X : Type}
def lensX (xss : List (List X)) : List Nat := xss.map List.length
theorem lensX_len (xss : List (List X)) : (lensX xss).length = xss.length := by simp [lensX]
theorem lensX_get (xss : List (List X)) (i : Nat) (h : i < xss.length) : (lensX xss)[i]'(by rw [lensX_len]; exact h) = xss[i].length := by simp [lensX]
/-- What lies where a slice of slices is read. -/
def RowX (cel : List X → List Value) (w : World) (A : Option Addr) (xss : List (List X)) : Prop := ∃ vs : List (Option Addr × Nat), vs.length = xss.length ∧ Row w A (slN vs (lensX xss)) ∧ ∀ (i : Nat) (h : i < xss.length) (h' : i < vs.length), Row w vs[i].1 (cel xss[i]) ∧ xss[i].length ≤ vs[i].2
/-- A slice of slices of one's own, from lo on and below hi, no two of them in one block. -/
def SegX (T e : TypeId) (s : Nat) (cel : List X → List Value) (w : World) (lo hi : Nat) (A : Option Addr) (n c : Nat) (xss : List (List X)) : Prop := n = xss.length ∧ ∃ vs : List (Option Addr × Nat), vs.length = xss.length ∧ Seg w T 1 lo hi A n c (slN vs (lensX xss)) ∧
  (∀ (i : Nat) (h : i < xss.length) (h' : i < vs.length), Seg w e s lo hi vs[i].1 xss[i].length vs[i].2 (cel xss[i])) ∧
  ∀ (i j : Nat) (h : i < vs.length) (h' : j < vs.length) (a b : Addr), i ≠ j → vs[i].1 = some a → vs[j].1 = some b → a.block ≠ b.block
section
variable {w w' : World} {lo hi : Nat} {A : Option Addr} {n c : Nat} {xss : List (List X)} {T e : TypeId} {s : Nat} {cel : List X → List Value}
theorem SegX.row (h : SegX T e s cel w lo hi A n c xss) : RowX cel w A xss := by
  obtain ⟨_, vs, h1, h2, h3, _⟩ := h
  exact ⟨vs, h1, h2.row, fun i a b => ⟨(h3 i a b).row, (h3 i a b).nlec⟩⟩
theorem SegX.nlec (h : SegX T e s cel w lo hi A n c xss) : n ≤ c := by
  obtain ⟨_, vs, h1, h2, h3, _⟩ := h
  exact h2.nlec
theorem SegX.keep {a b : Nat} (h : SegX T e s cel w lo hi A n c xss) (ht : Touch a b w w') (hd : hi ≤ a ∨ b ≤ lo) : SegX T e s cel w' lo hi A n c xss := by
  obtain ⟨h0, vs, h1, h2, h3, h4⟩ := h
  exact ⟨h0, vs, h1, h2.keep ht hd, fun i a b => (h3 i a b).keep ht hd, h4⟩
theorem SegX.below (h : SegX T e s cel w lo hi A n c xss) (hb : Below w.heap.size w w') : SegX T e s cel w' lo hi A n c xss := by
  obtain ⟨h0, vs, h1, h2, h3, h4⟩ := h
  exact ⟨h0, vs, h1, h2.below hb, fun i a b => (h3 i a b).below hb, h4⟩
theorem SegX.fit (h : SegX T e s cel w lo hi A n c xss) : hi ≤ w.heap.size := by
  obtain ⟨_, vs, _, h2, _⟩ := h
  exact h2.fit
theorem RowX.below (h : RowX cel w A xss) (hb : Below w.heap.size w w') : RowX cel w' A xss := by
  obtain ⟨vs, h1, h2, h3⟩ := h
  exact ⟨vs, h1, h2.below hb, fun i a b => ⟨(h3 i a b).1.below hb, (h3 i a b).2⟩⟩
theorem RowX.drewN (h : RowX cel w A xss) (m : Nat) : RowX cel (w.drewN m) A xss := h
theorem RowX.at_ (h : RowX cel w A xss) {k : Nat} (hk : k < xss.length) : ∃ ad B d, A = some ad ∧ ad.block < w.heap.size ∧ w.cell? (ad.add k) = some (.slice B xss[k].length d) ∧ Row w B (cel xss[k]) ∧ xss[k].length ≤ d := by
  obtain ⟨vs, h1, h2, h3⟩ := h
  have hl : (slN vs (lensX xss)).length = xss.length := by rw [slN_len (by rw [lensX_len]; exact h1), lensX_len]
  obtain ⟨ad, e, hc⟩ := h2.at_ (k := k) (by rw [hl]; exact hk)
  rw [slN_get (by rw [lensX_len]; exact h1) (by rw [lensX_len]; exact hk), lensX_get xss k hk] at hc
  have hb := lt_of_cell hc
  rw [add_block] at hb
  exact ⟨ad, _, _, e, hb, hc, (h3 k hk (by omega)).1, (h3 k hk (by omega)).2⟩
end
/-- Marks: the slices lie as they lay, whatever they hold. -/
def KeptX (T e : TypeId) (s : Nat) (vs : List (Option Addr × Nat)) (ns : List Nat) (w : World) (lo hi : Nat) (A : Option Addr) (n c : Nat) : Prop := n = ns.length ∧ vs.length = ns.length ∧ Seg w T 1 lo hi A n c (slN vs ns) ∧
  (∀ (i : Nat) (h : i < ns.length) (h' : i < vs.length), ∃ cs, Seg w e s lo hi vs[i].1 ns[i] vs[i].2 cs) ∧
  ∀ (i j : Nat) (h : i < vs.length) (h' : j < vs.length) (a b : Addr), i ≠ j → vs[i].1 = some a → vs[j].1 = some b → a.block ≠ b.block
theorem SegX.kept {w : World} {lo hi : Nat} {A : Option Addr} {n c : Nat} {xss : List (List X)} {T e : TypeId} {s : Nat} {cel : List X → List Value} (h : SegX T e s cel w lo hi A n c xss) : ∃ vs, KeptX T e s vs (lensX xss) w lo hi A n c := by
  obtain ⟨h0, vs, h1, h2, h3, h4⟩ := h
  refine ⟨vs, by rw [lensX_len]; exact h0, by rw [lensX_len]; exact h1, h2, fun i h h' => ?_, h4⟩
  rw [lensX_len] at h
  rw [lensX_get xss i h]
  exact ⟨_, h3 i h h'⟩
theorem seg_keepb {w w' : World} {e : TypeId} {size lo hi : Nat} {A : Option Addr} {n c : Nat} {cs : List Value} (h : Seg w e size lo hi A n c cs) (hs : hi ≤ w'.heap.size) (hk : ∀ g cur, A = some ⟨g, 0, none⟩ → BlockIs w g e cur → w'.heap[g]? = w.heap[g]?) : Seg w' e size lo hi A n c cs := by
  refine ⟨⟨h.own.1, ?_⟩, h.top, hs⟩
  rcases h.own.2 with ⟨hv, h0⟩ | ⟨g, cap, cur, hv, hb, hg, hr⟩
  · exact .inl ⟨hv, h0⟩
  · have hA : A = some ⟨g, 0, none⟩ := by injection hv
    exact .inr ⟨g, cap, cur, hv, hb, (hk g cur hA hg).trans hg, hr⟩
theorem keptX_mark {T e : TypeId} {s : Nat} (hTe : T ≠ e) {vs : List (Option Addr × Nat)} {ns : List Nat} {w w' : World} {lo hi : Nat} {A : Option Addr} {n c : Nat} {m : Nat} (hm : m < ns.length) (h : KeptX T e s vs ns w lo hi A n c) (hv : m < vs.length) {cs : List Value}
    (ho : w'.ownsRow lo e s (.slice vs[m].1 ns[m] vs[m].2) ns[m] cs) (hg : w.grownBy w' (Value.slice vs[m].1 ns[m] vs[m].2).ownBlock) (hs : w'.heap.size = w.heap.size) : KeptX T e s vs ns w' lo hi A n c := by
  obtain ⟨h0, h1, h2, h3, h4⟩ := h
  have hfit := h2.fit
  obtain ⟨cs0, hself⟩ := h3 m hm hv
  have hown : ∀ g, g < w.heap.size → (∀ a, vs[m].1 = some a → a.block ≠ g) → w'.heap[g]? = w.heap[g]? := fun g hgl hne => by
    refine hg.block g hgl fun e => ?_
    cases ha : vs[m].1 with
    | none => rw [ha] at e; cases e
    | some a =>
      rw [ha] at e
      have : a.block = g := by injection e with e; exact e.symm
      exact hne a ha this
  refine ⟨h0, h1, ?_, ?_, h4⟩
  · refine seg_keepb h2 (by omega) fun g cur hA hB => hown g hB.lt fun a ha e => ?_
    subst e
    rcases hself.own.2 with ⟨hv0, _⟩ | ⟨g', cap, cur', hv0, _, hg', _⟩
    · injection hv0 with hv0; rw [ha] at hv0; cases hv0
    · injection hv0 with hv0
      rw [ha] at hv0
      injection hv0 with hv0
      subst hv0
      unfold BlockIs at hB
      simp only at hB
      rw [hg'] at hB
      injection hB with hB
      injection hB with _ h5 _
      exact absurd h5.symm hTe
  · intro i hi' hiv
    by_cases e : i = m
    · subst e
      exact ⟨cs, ho, hself.top, by omega⟩
    · obtain ⟨ci, hci⟩ := h3 i hi' hiv
      refine ⟨ci, seg_keepb hci (by omega) fun g cur hA hB => hown g hB.lt fun a ha e' => ?_⟩
      exact h4 m i hv hiv a ⟨g, 0, none⟩ (fun e2 => e e2.symm) ha hA e'
/-- The first k rows are copied. -/
def upCells (vf : Nat → Option Addr × Nat) (ns : List Nat) (k : Nat) : Array Value := ((List.range ns.length).map fun i => if i < k then Value.slice (vf i).1 (ns.getD i 0) (vf i).2 else .slice none 0 0).toArray
def UpX (T e : TypeId) (s : Nat) (cel : List X → List Value) (xss : List (List X)) (w : World) (g0 lo k : Nat) : Prop := ∃ vf : Nat → Option Addr × Nat, BlockIs w g0 T (upCells vf (lensX xss) k) ∧ lo ≤ g0 ∧
  (∀ i (h : i < xss.length), i < k → ∃ g, (vf i).1 = some ⟨g, 0, none⟩ ∧ Seg w e s lo w.heap.size (vf i).1 xss[i].length (vf i).2 (cel xss[i])) ∧
  ∀ i j a b, i < k → j < k → i ≠ j → (vf i).1 = some a → (vf j).1 = some b → a.block ≠ b.block
theorem UpX.zero {T e : TypeId} {s : Nat} {cel : List X → List Value} {xss : List (List X)} {w : World} {g lo : Nat} (hB : BlockIs w g T (madeCells #[.slice none 0 0] xss.length)) (hg : lo ≤ g) : UpX T e s cel xss w g lo 0 := by
  refine ⟨fun _ => (none, 0), ?_, hg, fun i _ h => absurd h (Nat.not_lt_zero _), fun i _ _ _ h => absurd h (Nat.not_lt_zero _)⟩
  have : upCells (fun _ => (none, 0)) (lensX xss) 0 = madeCells #[.slice none 0 0] xss.length := by
    apply Array.ext'
    rw [toList_madeCells_one]
    unfold upCells
    rw [lensX_len]
    simp only [Nat.not_lt_zero, if_false]
    apply List.ext_getElem
    · simp
    · intro i h1 h2; simp
  rw [this]; exact hB
theorem UpX.step {T e : TypeId} {s : Nat} {cel : List X → List Value} {xss : List (List X)} {w w1 : World} {g0 lo k g c : Nat} (hTe : T ≠ e) (h : UpX T e s cel xss w g0 lo k) (hk : k < xss.length) (hb : Below w.heap.size w w1) (hgg : w.heap.size ≤ g) (hlo : lo ≤ w.heap.size)
    (hs : Seg w1 e s w.heap.size w1.heap.size (some ⟨g, 0, none⟩) xss[k].length c (cel xss[k])) :
    UpX T e s cel xss (w1.setCell ⟨g0, k, none⟩ (.slice (some ⟨g, 0, none⟩) xss[k].length c)) g0 lo (k + 1) ∧ (∃ u, w1.cell? ⟨g0, k, none⟩ = some u) ∧ w1.frozen? ⟨g0, k, none⟩ = false := by
  obtain ⟨vf, hB, hg0, hS, hD⟩ := h
  have hB1 := hB.below hb
  have hsz : (w1.setCell ⟨g0, k, none⟩ (.slice (some ⟨g, 0, none⟩) xss[k].length c)).heap.size = w1.heap.size := by simp [World.setCell]
  have hkeep : ∀ {A : Option Addr} {n c' : Nat} {cs : List Value} {l : Nat}, Seg w1 e s l w1.heap.size A n c' cs → Seg (w1.setCell ⟨g0, k, none⟩ (.slice (some ⟨g, 0, none⟩) xss[k].length c)) e s l (w1.setCell ⟨g0, k, none⟩ (.slice (some ⟨g, 0, none⟩) xss[k].length c)).heap.size A n c' cs := fun {A n c' cs l} hx => by
    have := seg_keepb hx (w' := w1.setCell ⟨g0, k, none⟩ (.slice (some ⟨g, 0, none⟩) xss[k].length c)) (by omega) fun q cur hA hq => Below.heap_setCell _ _ _ _ (fun e' => by
      subst e'
      unfold BlockIs at hB1 hq
      rw [hB1] at hq
      injection hq with hq
      injection hq with _ h5 _
      exact hTe h5)
    rw [hsz]; exact this
  refine ⟨⟨fun i => if i = k then (some ⟨g, 0, none⟩, c) else vf i, ?_, hg0, ?_, ?_⟩, ⟨_, (hB1.cell k).trans (Array.getElem?_eq_getElem (by unfold upCells; simp [lensX_len]; exact hk))⟩, hB1.frozen k⟩
  · have hc := hB1.set k (.slice (some ⟨g, 0, none⟩) xss[k].length c)
    have : (upCells vf (lensX xss) k).setIfInBounds k (.slice (some ⟨g, 0, none⟩) xss[k].length c) = upCells (fun i => if i = k then (some ⟨g, 0, none⟩, c) else vf i) (lensX xss) (k + 1) := by
      apply Array.ext
      · simp [upCells]
      · intro i h1 h2
        rw [Array.getElem_setIfInBounds (by simpa using h1)]
        have hi : i < xss.length := by simpa [upCells, lensX_len] using h2
        unfold upCells
        by_cases e' : k = i
        · subst e'
          simp [lensX, List.getD, hi]
        · simp only [if_neg e', List.getElem_toArray, List.getElem_map, List.getElem_range]
          have e2 : ¬ i = k := fun x => e' x.symm
          by_cases h3 : i < k
          · rw [if_pos h3, if_pos (by omega), if_neg e2]
          · rw [if_neg h3, if_neg (by omega)]
    rw [this] at hc; exact hc
  · intro i hi hik
    by_cases e' : i = k
    · subst e'
      simp only [if_true]
      refine ⟨g, rfl, ?_⟩
      have h9 : Seg w1 e s lo w1.heap.size (some ⟨g, 0, none⟩) xss[i].length c (cel xss[i]) := by
        refine ⟨⟨hs.own.1, hs.own.2.imp id ?_⟩, hs.top, hs.fit⟩
        rintro ⟨g', cap, cur, h1, h2, h3⟩
        exact ⟨g', cap, cur, h1, by omega, h3⟩
      exact hkeep h9
    · simp only [if_neg e']
      obtain ⟨g', h1, h2⟩ := hS i hi (by omega)
      refine ⟨g', h1, hkeep ?_⟩
      have h3 := h2.below hb
      exact ⟨h3.own, fun ad ha => by have := h2.top ad ha; have := hb.size; omega, Nat.le_refl _⟩
  · intro i j a b hi hj hne ha hb'
    have hlt : ∀ q (hq : q < k) z, (vf q).1 = some z → z.block < w.heap.size := fun q hq z hz => by
      obtain ⟨g', h1, h2⟩ := hS q (by omega) hq
      exact h2.top z hz
    by_cases ei : i = k
    · subst ei
      have ej : ¬ j = i := fun x => hne x.symm
      simp only [if_true] at ha
      simp only [if_neg ej] at hb'
      injection ha with ha
      subst ha
      have := hlt j (by omega) b hb'
      show g ≠ b.block
      omega
    · simp only [if_neg ei] at ha
      by_cases ej : j = k
      · subst ej
        simp only [if_true] at hb'
        injection hb' with hb'
        subst hb'
        have := hlt i (by omega) a ha
        show a.block ≠ g
        omega
      · simp only [if_neg ej] at hb'
        exact hD i j a b (by omega) (by omega) hne ha hb'
theorem UpX.all {T e : TypeId} {s : Nat} {cel : List X → List Value} {xss : List (List X)} {w : World} {g0 lo : Nat} (h : UpX T e s cel xss w g0 lo xss.length) (hn : xss.length ≤ maxLen) : SegX T e s cel w lo w.heap.size (some ⟨g0, 0, none⟩) xss.length xss.length xss := by
  obtain ⟨vf, hB, hg0, hS, hD⟩ := h
  have hl : ((List.range xss.length).map vf).length = xss.length := by simp
  have he : (upCells vf (lensX xss) xss.length).toList = slN ((List.range xss.length).map vf) (lensX xss) := by
    apply List.ext_getElem
    · rw [slN_len (by rw [lensX_len]; exact hl)]; simp [upCells]
    · intro i h1 h2
      have hi : i < xss.length := by rw [slN_len (by rw [lensX_len]; exact hl), lensX_len] at h2; exact h2
      rw [slN_get (by rw [lensX_len]; exact hl) (by rw [lensX_len]; exact hi)]
      simp [upCells, hi, lensX, List.getD]
  refine ⟨rfl, (List.range xss.length).map vf, hl, ?_, ?_, ?_⟩
  · have hz : (upCells vf (lensX xss) xss.length).size = xss.length := by simp [upCells, lensX_len]
    have := hB.own (base := lo) (n := xss.length) (c := xss.length) (size := 1) hg0 (by omega) (Nat.le_refl _) hn (by omega)
    rw [he, List.take_of_length_le (by rw [slN_len (by rw [lensX_len]; exact hl), lensX_len]; omega)] at this
    exact Seg.of_own this
  · intro i hi h'
    simp only [List.getElem_map, List.getElem_range]
    exact (hS i hi hi).elim fun g hg => hg.2
  · intro i j hi hj a b hne ha hb
    simp only [List.getElem_map, List.getElem_range] at ha hb
    rw [hl] at hi hj
    exact hD i j a b hi hj hne ha hb
end
end Go.Proofs.Yteidhjmnononaaa
