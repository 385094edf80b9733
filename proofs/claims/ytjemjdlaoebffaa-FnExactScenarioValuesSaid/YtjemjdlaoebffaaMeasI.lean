/- What holds in measureOf's table of measures while its operations come up in whatever order. -/
import Derived.Test.YtjemjdlaoebffaaRegInv
import Derived.Test.YtjemjdlaoebffaaSetB
import Derived.Test.YtjemjdlaoebffaaMapW
namespace Go.Proofs.Ytjemjdlaoebffaa
open Go.RowKit
abbrev fEnd : Value := .func (.func 121) #[] #[]
abbrev fLat : Value := .func (.func 122) #[] #[]
abbrev fTar (b : Nat) : Value := .func (.func 123) #[] #[.pointer (some ⟨b, 0, none⟩)]
abbrev fLate (b : Nat) : Value := .func (.func 124) #[] #[.pointer (some ⟨b, 0, none⟩)]
abbrev fMk : Value := .func (.func 125) #[] #[]
abbrev fWgt (b : Nat) : Value := .func (.func 126) #[] #[.pointer (some ⟨b, 0, none⟩)]
/-- The slot that an operation of the table fills. -/
def dstM : Nat → Option Nat
  | 0 => some 14 | 1 => some 15 | 2 => some 16 | 4 => some 17 | 5 => some 18 | 7 => some 19 | 8 => some 20 | 9 => some 21 | 10 => some 22
  | 12 => some 23 | 13 => some 24 | 15 => some 25 | 16 => some 26 | 18 => some 27 | 19 => some 28 | 20 => some 29 | 21 => some 30 | 23 => some 31
  | 24 => some 32 | 26 => some 33 | 27 => some 34 | 28 => some 35 | 29 => some 36 | 31 => some 37 | 32 => some 9
  | _ => none
/-- What it fills it with. -/
def valM (n m b3 b6 b8 : Nat) : Nat → Value
  | 0 => .map (some m) | 1 => fEnd | 2 => .agg #[fEnd, .bool true] | 4 => fEnd | 5 => .agg #[fEnd, .bool false] | 7 => fMk | 8 => fEnd
  | 9 => fWgt b3 | 10 => .agg #[fWgt b3, .bool false] | 12 => fLat | 13 => .agg #[fLat, .bool true] | 15 => fTar (n + 1) | 16 => .agg #[fTar (n + 1), .bool false]
  | 18 => fMk | 19 => fTar (n + 1) | 20 => fWgt b6 | 21 => .agg #[fWgt b6, .bool false] | 23 => fLate (n + 2) | 24 => .agg #[fLate (n + 2), .bool false]
  | 26 => fMk | 27 => fLate (n + 2) | 28 => fWgt b8 | 29 => .agg #[fWgt b8, .bool false] | 31 => .map (some m) | 32 => .map (some m)
  | _ => undef
/-- The operation that puts a key in, and the operation that makes what it puts. -/
def insAt : Nat → Option (Nat × Nat)
  | 1 => some (3, 2) | 2 => some (6, 5) | 3 => some (11, 10) | 4 => some (14, 13) | 5 => some (17, 16) | 6 => some (22, 21) | 7 => some (25, 24) | 8 => some (30, 29)
  | _ => none
theorem dst_inj : ∀ j, j < 33 → ∀ k, k < 33 → (dstM j).isSome = true → dstM j = dstM k → j = k := by decide +kernel
theorem dst_lt (j d : Nat) (h : dstM j = some d) : j < 33 ∧ 9 ≤ d ∧ d < 46 := by
  unfold dstM at h
  split at h <;> first | (injection h with h; omega) | cases h
theorem ins_lt (key i s : Nat) (h : insAt key = some (i, s)) : 1 ≤ key ∧ key ≤ 8 ∧ i < 33 ∧ dstM i = none := by
  unfold insAt at h
  split at h <;> first | (injection h with h; injection h with h1 h2; subst h1; exact ⟨by omega, by omega, by omega, rfl⟩) | cases h
theorem ins_inj : ∀ j, j < 9 → ∀ k, k < 9 → (insAt j).isSome = true → (insAt j).map (·.1) = (insAt k).map (·.1) → j = k := by decide +kernel
theorem ins_none (key : Nat) (h : 8 < key) : insAt key = none := by
  unfold insAt; split <;> first | omega | rfl
def keyIn (n m b3 b6 b8 : Nat) (L : Array Bool) (key : Int) : Option Value :=
  if key < 0 then none else match insAt key.toNat with
    | some (i, s) => if L.getD i true = true then some (valM n m b3 b6 b8 s) else none
    | none => none
structure MI (n : Nat) (w : World) (o : Int) (m b3 b6 b8 : Nat) (L : Array Bool) (a : Act) (w' : World) : Prop where
  len : L.size = 33
  defers : a.defers = []
  size : a.tmps.size = 46
  low0 : a.tmps.getD 0 undef = .int .i64 o
  low2 : a.tmps.getD 2 undef = .pointer (some ⟨n, 0, none⟩)
  low3 : a.tmps.getD 3 undef = .bool false
  low4 : a.tmps.getD 4 undef = fEnd
  low5 : a.tmps.getD 5 undef = .pointer (some ⟨n + 1, 0, none⟩)
  low6 : a.tmps.getD 6 undef = .pointer (some ⟨n + 2, 0, none⟩)
  low7 : a.tmps.getD 7 undef = fLate (n + 2)
  low8 : a.tmps.getD 8 undef = fMk
  vals : ∀ j d, dstM j = some d → L.getD j true = true → a.tmps.getD d undef = valM n m b3 b6 b8 j
  below : Below n w w'
  fit : n + 3 ≤ w'.heap.size
  blk0 : BlockIs w' n 140 #[.nilFunc, .bool false]
  blk1 : BlockIs w' (n + 1) 138 #[fLat]
  blk2 : BlockIs w' (n + 2) 138 #[fTar (n + 1)]
  map : L.getD 0 true = true → n + 3 ≤ m ∧ ∃ kvs, MapOf w' m kvs ∧ ∀ key, getM kvs key = keyIn n m b3 b6 b8 L key
  c3 : L.getD 9 true = true → n + 3 ≤ b3 ∧ BlockIs w' b3 138 #[fEnd] ∧ (L.getD 0 true = true → b3 ≠ m)
  c6 : L.getD 20 true = true → n + 3 ≤ b6 ∧ BlockIs w' b6 138 #[fTar (n + 1)] ∧ (L.getD 0 true = true → b6 ≠ m)
  c8 : L.getD 28 true = true → n + 3 ≤ b8 ∧ BlockIs w' b8 138 #[fLate (n + 2)] ∧ (L.getD 0 true = true → b8 ≠ m)
theorem getD_put (a : Act) (d t : Nat) (v : Value) : (a.put (some d) v).tmps.getD t undef = if d = t ∧ t < a.tmps.size then v else a.tmps.getD t undef := by
  unfold Act.put
  simp only [Array.getD_eq_getD_getElem?, Array.getElem?_setIfInBounds]
  by_cases e : d = t
  · subst e
    by_cases h : d < a.tmps.size
    · simp [h]
    · simp [h]
  · simp [e]
theorem keyIn_same {n m b3 b6 b8 : Nat} {L : Array Bool} {k : Nat} (hk : ∀ key i s, insAt key = some (i, s) → i ≠ k) (key : Int) : keyIn n m b3 b6 b8 (L.setIfInBounds k true) key = keyIn n m b3 b6 b8 L key := by
  unfold keyIn
  by_cases h0 : key < 0
  · rw [if_pos h0, if_pos h0]
  · rw [if_neg h0, if_neg h0]
    cases hi : insAt key.toNat with
    | none => rfl
    | some p =>
      obtain ⟨i, s⟩ := p
      simp only
      rw [set_ne (fun e => hk _ i s hi e.symm)]
section
variable {n : Nat} {w : World} {o : Int} {m b3 b6 b8 : Nat} {L : Array Bool} {a : Act} {w' : World}
/-- The slots, when one operation fills its own. -/
theorem vals_step {m' b3' b6' b8' : Nat} (h : MI n w o m b3 b6 b8 L a w') {k d : Nat} (hk : dstM k = some d)
    (hsame : ∀ j, j ≠ k → j < 33 → L.getD j true = true → valM n m' b3' b6' b8' j = valM n m b3 b6 b8 j) :
    ∀ j d', dstM j = some d' → (L.setIfInBounds k true).getD j true = true → (a.put (some d) (valM n m' b3' b6' b8' k)).tmps.getD d' undef = valM n m' b3' b6' b8' j := by
  intro j d' hj hL
  have hkl := dst_lt k d hk
  have hjl := dst_lt j d' hj
  rw [getD_put, h.size]
  by_cases e : j = k
  · subst e
    rw [hk] at hj; injection hj with hj; subst hj
    rw [if_pos ⟨rfl, hkl.2.2⟩]
  · have hd : d ≠ d' := fun e' => e (dst_inj j hjl.1 k hkl.1 (by rw [hj]; rfl) (by rw [hj, hk, e']))
    rw [if_neg (fun h' => hd h'.1)]
    rw [set_ne (fun e' => e e'.symm)] at hL
    rw [hsame j e hjl.1 hL]
    exact h.vals j d' hj hL
theorem low_step {k d : Nat} (hk : dstM k = some d) {t : Nat} (ht : t < 9) (v : Value) : (a.put (some d) v).tmps.getD t undef = a.tmps.getD t undef := by
  have := dst_lt k d hk
  rw [getD_put, if_neg (by omega)]
theorem MI.pure (h : MI n w o m b3 b6 b8 L a w') {k d : Nat} (hk : dstM k = some d) (h0 : k ≠ 0) (h9 : k ≠ 9) (h20 : k ≠ 20) (h28 : k ≠ 28) :
    MI n w o m b3 b6 b8 (L.setIfInBounds k true) (a.put (some d) (valM n m b3 b6 b8 k)) w' := by
  have hi : ∀ key i s, insAt key = some (i, s) → i ≠ k := fun key i s hi e => by
    have := (ins_lt key i s hi).2.2.2
    rw [e, hk] at this; cases this
  refine ⟨by simp [h.len], h.defers, by simp [Act.put, h.size], ?_, ?_, ?_, ?_, ?_, ?_, ?_, ?_, vals_step h hk (fun _ _ _ _ => rfl), h.below, h.fit, h.blk0, h.blk1, h.blk2, ?_, ?_, ?_, ?_⟩
  · rw [low_step hk (by omega)]; exact h.low0
  · rw [low_step hk (by omega)]; exact h.low2
  · rw [low_step hk (by omega)]; exact h.low3
  · rw [low_step hk (by omega)]; exact h.low4
  · rw [low_step hk (by omega)]; exact h.low5
  · rw [low_step hk (by omega)]; exact h.low6
  · rw [low_step hk (by omega)]; exact h.low7
  · rw [low_step hk (by omega)]; exact h.low8
  · rw [set_ne h0]
    intro hl
    obtain ⟨h1, kvs, h2, h3⟩ := h.map hl
    exact ⟨h1, kvs, h2, fun key => by rw [keyIn_same hi, h3]⟩
  · rw [set_ne h9, set_ne h0]; exact h.c3
  · rw [set_ne h20, set_ne h0]; exact h.c6
  · rw [set_ne h28, set_ne h0]; exact h.c8
theorem getM_snoc (kvs : List (Int × Value)) (x : Int) (v : Value) (y : Int) : getM (kvs ++ [(x, v)]) y = match getM kvs y with | some u => some u | none => if x = y then some v else none := by
  induction kvs with
  | nil => rfl
  | cons p kvs ih =>
    simp only [List.cons_append, getM]
    by_cases e : p.1 = y
    · simp [e]
    · simp [e, ih]
theorem ins_fresh {k s key : Nat} (hk : insAt key = some (k, s)) (hlk : L.getD k true = false) {kvs : List (Int × Value)} (hkv : ∀ key, getM kvs key = keyIn n m b3 b6 b8 L key) : getM kvs (key : Int) = none := by
  rw [hkv]; unfold keyIn
  rw [if_neg (by omega), Int.toNat_natCast, hk]
  simp only [hlk, Bool.false_eq_true, if_false]
theorem MI.ins (h : MI n w o m b3 b6 b8 L a w') {k s key : Nat} (hk : insAt key = some (k, s)) (hl0 : L.getD 0 true = true) (hlk : L.getD k true = false) {w'' : World} (v : Value)
    {kvs : List (Int × Value)} (hkv : ∀ key, getM kvs key = keyIn n m b3 b6 b8 L key) (hM' : MapOf w'' m (kvs ++ [((key : Int), valM n m b3 b6 b8 s)])) (hg : w'.grownBy w'' (some m)) (hs : w''.heap.size = w'.heap.size) :
    MI n w o m b3 b6 b8 (L.setIfInBounds k true) (a.put none v) w'' := by
  obtain ⟨hk1, hk8, hk33, hkd⟩ := ins_lt key k s hk
  obtain ⟨hm, _, _, _⟩ := h.map hl0
  have n0 : k ≠ 0 := fun e => by rw [e] at hkd; cases hkd
  have n9 : k ≠ 9 := fun e => by rw [e] at hkd; cases hkd
  have n20 : k ≠ 20 := fun e => by rw [e] at hkd; cases hkd
  have n28 : k ≠ 28 := fun e => by rw [e] at hkd; cases hkd
  have keep : ∀ {g : Nat} {t : TypeId} {cs : Array Value}, BlockIs w' g t cs → g ≠ m → BlockIs w'' g t cs := fun hb hne => (hg.block _ hb.lt (fun e => hne (by injection e))).trans hb
  refine ⟨by simp [h.len], h.defers, h.size, h.low0, h.low2, h.low3, h.low4, h.low5, h.low6, h.low7, h.low8, ?_, ?_, by rw [hs]; exact h.fit, keep h.blk0 (by omega), keep h.blk1 (by omega), keep h.blk2 (by omega), ?_, ?_, ?_, ?_⟩
  · intro j d hj hl
    have : k ≠ j := fun e => by rw [← e, hkd] at hj; cases hj
    rw [set_ne this] at hl
    exact h.vals j d hj hl
  · exact h.below.trans ⟨hg.os, hg.tape, hg.output, hg.size, fun j hj => hg.block j (by have := h.fit; omega) (fun e => by injection e; omega)⟩
  · intro _
    refine ⟨hm, _, hM', fun y => ?_⟩
    rw [getM_snoc, hkv]
    unfold keyIn
    by_cases hy : y < 0
    · rw [if_pos hy, if_pos hy]
      simp only
      rw [if_neg (by omega)]
    · rw [if_neg hy, if_neg hy]
      by_cases e : y = (key : Int)
      · subst e
        rw [Int.toNat_natCast, hk]
        simp only [hlk, Bool.false_eq_true, if_false, if_true]
        rw [set_eq (by rw [h.len]; exact hk33)]
        simp
      · cases hi : insAt y.toNat with
        | none => simp only; rw [if_neg (fun e' => e e'.symm)]
        | some p =>
          obtain ⟨i, s'⟩ := p
          have hil := ins_lt _ _ _ hi
          have hik : k ≠ i := fun e' => e (by
            have := ins_inj y.toNat (by omega) key (by omega) (by rw [hi]; rfl) (by rw [hi, hk, e']; rfl)
            omega)
          simp only
          rw [set_ne hik]
          by_cases hli : L.getD i true = true
          · rw [if_pos hli]
          · rw [if_neg hli]
            simp only
            rw [if_neg (fun e' => e e'.symm)]
  · rw [set_ne n9, set_ne n0]
    intro hl
    obtain ⟨h1, h2, h3⟩ := h.c3 hl
    exact ⟨h1, keep h2 (h3 hl0), h3⟩
  · rw [set_ne n20, set_ne n0]
    intro hl
    obtain ⟨h1, h2, h3⟩ := h.c6 hl
    exact ⟨h1, keep h2 (h3 hl0), h3⟩
  · rw [set_ne n28, set_ne n0]
    intro hl
    obtain ⟨h1, h2, h3⟩ := h.c8 hl
    exact ⟨h1, keep h2 (h3 hl0), h3⟩
theorem val_m {m' j : Nat} (h0 : j ≠ 0) (h1 : j ≠ 31) (h2 : j ≠ 32) : valM n m' b3 b6 b8 j = valM n m b3 b6 b8 j := by
  unfold valM; split <;> first | rfl | omega
theorem MI.make (h : MI n w o m b3 b6 b8 L a w') (h31 : L.getD 31 true = false) (h32 : L.getD 32 true = false) (hun : ∀ key i s, insAt key = some (i, s) → L.getD i true = false) :
    MI n w o w'.heap.size b3 b6 b8 (L.setIfInBounds 0 true) (a.put (some 14) (.map (some w'.heap.size))) (w'.alloc (.map #[] 0)) := by
  have hk : dstM 0 = some 14 := rfl
  have hb1 : Below w'.heap.size w' (w'.alloc (.map #[] 0)) := (Below.refl _ _).alloc (Nat.le_refl _) _
  have hv := vals_step (m' := w'.heap.size) (b3' := b3) (b6' := b6) (b8' := b8) h hk (fun j hj _ hl => val_m hj (fun e => by rw [e, h31] at hl; cases hl) (fun e => by rw [e, h32] at hl; cases hl))
  have hfit := h.fit
  refine ⟨by simp [h.len], h.defers, by simp [Act.put, h.size], ?_, ?_, ?_, ?_, ?_, ?_, ?_, ?_, hv, h.below.trans (hb1.mono (by omega)), by simp; omega, h.blk0.below hb1, h.blk1.below hb1, h.blk2.below hb1, ?_, ?_, ?_, ?_⟩
  · rw [low_step hk (by omega)]; exact h.low0
  · rw [low_step hk (by omega)]; exact h.low2
  · rw [low_step hk (by omega)]; exact h.low3
  · rw [low_step hk (by omega)]; exact h.low4
  · rw [low_step hk (by omega)]; exact h.low5
  · rw [low_step hk (by omega)]; exact h.low6
  · rw [low_step hk (by omega)]; exact h.low7
  · rw [low_step hk (by omega)]; exact h.low8
  · intro _
    refine ⟨hfit, [], MapOf.new _, fun key => ?_⟩
    rw [keyIn_same (fun key i s hi e => by have := (ins_lt key i s hi).2.2.2; rw [e] at this; cases this)]
    unfold keyIn
    by_cases hy : key < 0
    · rw [if_pos hy]; rfl
    · rw [if_neg hy]
      cases hi : insAt key.toNat with
      | none => rfl
      | some p =>
        obtain ⟨i, s⟩ := p
        simp only [hun _ i s hi, Bool.false_eq_true, if_false]; rfl
  · rw [set_ne (by omega)]
    intro hl
    obtain ⟨h1, h2, _⟩ := h.c3 hl
    exact ⟨h1, h2.below hb1, fun _ e => by have := h2.lt; omega⟩
  · rw [set_ne (by omega)]
    intro hl
    obtain ⟨h1, h2, _⟩ := h.c6 hl
    exact ⟨h1, h2.below hb1, fun _ e => by have := h2.lt; omega⟩
  · rw [set_ne (by omega)]
    intro hl
    obtain ⟨h1, h2, _⟩ := h.c8 hl
    exact ⟨h1, h2.below hb1, fun _ e => by have := h2.lt; omega⟩
theorem val_c3 {b3' j : Nat} (h0 : j ≠ 9) (h1 : j ≠ 10) : valM n m b3' b6 b8 j = valM n m b3 b6 b8 j := by
  unfold valM; split <;> first | rfl | omega
theorem keyIn_c3 {b3' : Nat} (hl : L.getD 11 true = false) (key : Int) : keyIn n m b3' b6 b8 L key = keyIn n m b3 b6 b8 L key := by
  unfold keyIn
  by_cases hy : key < 0
  · rw [if_pos hy, if_pos hy]
  · rw [if_neg hy, if_neg hy]
    cases hi : insAt key.toNat with
    | none => rfl
    | some p =>
      obtain ⟨i, s⟩ := p
      simp only
      by_cases e : i = 11
      · subst e
        simp only [hl, Bool.false_eq_true, if_false]
      · have hs : s ≠ 9 ∧ s ≠ 10 := by
          unfold insAt at hi
          split at hi <;> first | (injection hi with hi; injection hi with h1 h2; subst h1; subst h2; first | exact ⟨by omega, by omega⟩ | exact absurd rfl e) | cases hi
        rw [val_c3 hs.1 hs.2]
theorem MI.c3_call (h : MI n w o m b3 b6 b8 L a w') (hb : L.getD 10 true = false) (hi : L.getD 11 true = false) :
    MI n w o m w'.heap.size b6 b8 (L.setIfInBounds 9 true) (a.put (some 21) (fWgt w'.heap.size)) (w'.alloc (.cells #[fEnd] 138)) := by
  have hk : dstM 9 = some 21 := rfl
  have hb1 : Below w'.heap.size w' (w'.alloc (.cells #[fEnd] 138)) := (Below.refl _ _).alloc (Nat.le_refl _) _
  have hv := vals_step (m' := m) (b3' := w'.heap.size) (b6' := b6) (b8' := b8) h hk (fun j hj _ hl => val_c3 hj (fun e => by rw [e, hb] at hl; cases hl))
  have hfit := h.fit
  refine ⟨by simp [h.len], h.defers, by simp [Act.put, h.size], ?_, ?_, ?_, ?_, ?_, ?_, ?_, ?_, hv, h.below.trans (hb1.mono (by omega)), by simp; omega, h.blk0.below hb1, h.blk1.below hb1, h.blk2.below hb1, ?_, ?_, ?_, ?_⟩
  · rw [low_step hk (by omega)]; exact h.low0
  · rw [low_step hk (by omega)]; exact h.low2
  · rw [low_step hk (by omega)]; exact h.low3
  · rw [low_step hk (by omega)]; exact h.low4
  · rw [low_step hk (by omega)]; exact h.low5
  · rw [low_step hk (by omega)]; exact h.low6
  · rw [low_step hk (by omega)]; exact h.low7
  · rw [low_step hk (by omega)]; exact h.low8
  · rw [set_ne (by omega)]
    intro hl
    obtain ⟨h1, kvs, h2, h3⟩ := h.map hl
    refine ⟨h1, kvs, h2.below hb1, fun key => ?_⟩
    rw [keyIn_same (fun key i s hi e => by have := (ins_lt key i s hi).2.2.2; rw [e] at this; cases this), keyIn_c3 hi, h3]
  · rw [set_ne (show 9 ≠ 0 by omega)]
    intro _
    exact ⟨hfit, BlockIs.new _ _ _, fun hl e => by obtain ⟨_, kvs, h2, _⟩ := h.map hl; have := h2.lt; omega⟩
  · rw [set_ne (by omega), set_ne (by omega)]
    intro hl
    obtain ⟨h1, h2, h3⟩ := h.c6 hl
    exact ⟨h1, h2.below hb1, h3⟩
  · rw [set_ne (by omega), set_ne (by omega)]
    intro hl
    obtain ⟨h1, h2, h3⟩ := h.c8 hl
    exact ⟨h1, h2.below hb1, h3⟩
theorem val_c6 {b6' j : Nat} (h0 : j ≠ 20) (h1 : j ≠ 21) : valM n m b3 b6' b8 j = valM n m b3 b6 b8 j := by
  unfold valM; split <;> first | rfl | omega
theorem keyIn_c6 {b6' : Nat} (hl : L.getD 22 true = false) (key : Int) : keyIn n m b3 b6' b8 L key = keyIn n m b3 b6 b8 L key := by
  unfold keyIn
  by_cases hy : key < 0
  · rw [if_pos hy, if_pos hy]
  · rw [if_neg hy, if_neg hy]
    cases hi : insAt key.toNat with
    | none => rfl
    | some p =>
      obtain ⟨i, s⟩ := p
      simp only
      by_cases e : i = 22
      · subst e
        simp only [hl, Bool.false_eq_true, if_false]
      · have hs : s ≠ 20 ∧ s ≠ 21 := by
          unfold insAt at hi
          split at hi <;> first | (injection hi with hi; injection hi with h1 h2; subst h1; subst h2; first | exact ⟨by omega, by omega⟩ | exact absurd rfl e) | cases hi
        rw [val_c6 hs.1 hs.2]
theorem MI.c6_call (h : MI n w o m b3 b6 b8 L a w') (hb : L.getD 21 true = false) (hi : L.getD 22 true = false) :
    MI n w o m b3 w'.heap.size b8 (L.setIfInBounds 20 true) (a.put (some 29) (fWgt w'.heap.size)) (w'.alloc (.cells #[fTar (n + 1)] 138)) := by
  have hk : dstM 20 = some 29 := rfl
  have hb1 : Below w'.heap.size w' (w'.alloc (.cells #[fTar (n + 1)] 138)) := (Below.refl _ _).alloc (Nat.le_refl _) _
  have hv := vals_step (m' := m) (b3' := b3) (b6' := w'.heap.size) (b8' := b8) h hk (fun j hj _ hl => val_c6 hj (fun e => by rw [e, hb] at hl; cases hl))
  have hfit := h.fit
  refine ⟨by simp [h.len], h.defers, by simp [Act.put, h.size], ?_, ?_, ?_, ?_, ?_, ?_, ?_, ?_, hv, h.below.trans (hb1.mono (by omega)), by simp; omega, h.blk0.below hb1, h.blk1.below hb1, h.blk2.below hb1, ?_, ?_, ?_, ?_⟩
  · rw [low_step hk (by omega)]; exact h.low0
  · rw [low_step hk (by omega)]; exact h.low2
  · rw [low_step hk (by omega)]; exact h.low3
  · rw [low_step hk (by omega)]; exact h.low4
  · rw [low_step hk (by omega)]; exact h.low5
  · rw [low_step hk (by omega)]; exact h.low6
  · rw [low_step hk (by omega)]; exact h.low7
  · rw [low_step hk (by omega)]; exact h.low8
  · rw [set_ne (by omega)]
    intro hl
    obtain ⟨h1, kvs, h2, h3⟩ := h.map hl
    refine ⟨h1, kvs, h2.below hb1, fun key => ?_⟩
    rw [keyIn_same (fun key i s hi e => by have := (ins_lt key i s hi).2.2.2; rw [e] at this; cases this), keyIn_c6 hi, h3]
  · rw [set_ne (by omega), set_ne (by omega)]
    intro hl
    obtain ⟨h1, h2, h3⟩ := h.c3 hl
    exact ⟨h1, h2.below hb1, h3⟩
  · rw [set_ne (show 20 ≠ 0 by omega)]
    intro _
    exact ⟨hfit, BlockIs.new _ _ _, fun hl e => by obtain ⟨_, kvs, h2, _⟩ := h.map hl; have := h2.lt; omega⟩
  · rw [set_ne (by omega), set_ne (by omega)]
    intro hl
    obtain ⟨h1, h2, h3⟩ := h.c8 hl
    exact ⟨h1, h2.below hb1, h3⟩
theorem val_c8 {b8' j : Nat} (h0 : j ≠ 28) (h1 : j ≠ 29) : valM n m b3 b6 b8' j = valM n m b3 b6 b8 j := by
  unfold valM; split <;> first | rfl | omega
theorem keyIn_c8 {b8' : Nat} (hl : L.getD 30 true = false) (key : Int) : keyIn n m b3 b6 b8' L key = keyIn n m b3 b6 b8 L key := by
  unfold keyIn
  by_cases hy : key < 0
  · rw [if_pos hy, if_pos hy]
  · rw [if_neg hy, if_neg hy]
    cases hi : insAt key.toNat with
    | none => rfl
    | some p =>
      obtain ⟨i, s⟩ := p
      simp only
      by_cases e : i = 30
      · subst e
        simp only [hl, Bool.false_eq_true, if_false]
      · have hs : s ≠ 28 ∧ s ≠ 29 := by
          unfold insAt at hi
          split at hi <;> first | (injection hi with hi; injection hi with h1 h2; subst h1; subst h2; first | exact ⟨by omega, by omega⟩ | exact absurd rfl e) | cases hi
        rw [val_c8 hs.1 hs.2]
theorem MI.c8_call (h : MI n w o m b3 b6 b8 L a w') (hb : L.getD 29 true = false) (hi : L.getD 30 true = false) :
    MI n w o m b3 b6 w'.heap.size (L.setIfInBounds 28 true) (a.put (some 35) (fWgt w'.heap.size)) (w'.alloc (.cells #[fLate (n + 2)] 138)) := by
  have hk : dstM 28 = some 35 := rfl
  have hb1 : Below w'.heap.size w' (w'.alloc (.cells #[fLate (n + 2)] 138)) := (Below.refl _ _).alloc (Nat.le_refl _) _
  have hv := vals_step (m' := m) (b3' := b3) (b6' := b6) (b8' := w'.heap.size) h hk (fun j hj _ hl => val_c8 hj (fun e => by rw [e, hb] at hl; cases hl))
  have hfit := h.fit
  refine ⟨by simp [h.len], h.defers, by simp [Act.put, h.size], ?_, ?_, ?_, ?_, ?_, ?_, ?_, ?_, hv, h.below.trans (hb1.mono (by omega)), by simp; omega, h.blk0.below hb1, h.blk1.below hb1, h.blk2.below hb1, ?_, ?_, ?_, ?_⟩
  · rw [low_step hk (by omega)]; exact h.low0
  · rw [low_step hk (by omega)]; exact h.low2
  · rw [low_step hk (by omega)]; exact h.low3
  · rw [low_step hk (by omega)]; exact h.low4
  · rw [low_step hk (by omega)]; exact h.low5
  · rw [low_step hk (by omega)]; exact h.low6
  · rw [low_step hk (by omega)]; exact h.low7
  · rw [low_step hk (by omega)]; exact h.low8
  · rw [set_ne (by omega)]
    intro hl
    obtain ⟨h1, kvs, h2, h3⟩ := h.map hl
    refine ⟨h1, kvs, h2.below hb1, fun key => ?_⟩
    rw [keyIn_same (fun key i s hi e => by have := (ins_lt key i s hi).2.2.2; rw [e] at this; cases this), keyIn_c8 hi, h3]
  · rw [set_ne (by omega), set_ne (by omega)]
    intro hl
    obtain ⟨h1, h2, h3⟩ := h.c3 hl
    exact ⟨h1, h2.below hb1, h3⟩
  · rw [set_ne (by omega), set_ne (by omega)]
    intro hl
    obtain ⟨h1, h2, h3⟩ := h.c6 hl
    exact ⟨h1, h2.below hb1, h3⟩
  · rw [set_ne (show 28 ≠ 0 by omega)]
    intro _
    exact ⟨hfit, BlockIs.new _ _ _, fun hl e => by obtain ⟨_, kvs, h2, _⟩ := h.map hl; have := h2.lt; omega⟩
end
end Go.Proofs.Ytjemjdlaoebffaa
