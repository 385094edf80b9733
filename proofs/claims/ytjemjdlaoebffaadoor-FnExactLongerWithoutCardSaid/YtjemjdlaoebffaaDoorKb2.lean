/- Texts joined: MeasI Meas Cost Ext Cmd SortM SrtD SegS OwnSS Srt Onc Lst Srf Ear Tms. -/
import Derived.Test.YtjemjdlaoebffaaDoorKb1
import Derived.Test.YtjemjdlaoebffaaDoorMapW
import Derived.Test.YtjemjdlaoebffaaDoorEndsO
import Derived.Test.YtjemjdlaoebffaaDoorValP
import Derived.IntWalk
import Derived.Test.YtjemjdlaoebffaaDoorBestP
import Derived.Test.YtjemjdlaoebffaaDoorDueP
import Derived.StillTailTactics
import Derived.Test.YtjemjdlaoebffaaDoorRulP
import Derived.Test.YtjemjdlaoebffaaDoorSegH
import Derived.RegionTactic
import Derived.BigRegion
import Derived.RangeFuncNested
import Derived.Test.YtjemjdlaoebffaaDoorMbr
import Derived.Test.YtjemjdlaoebffaaDoorShelf
import Derived.Test.YtjemjdlaoebffaaDoorEaP
import Derived.Test.YtjemjdlaoebffaaDoorRetBB
import Derived.OwnWalk
set_option linter.unusedSimpArgs false
set_option linter.unusedVariables false
section
namespace Go.Proofs.YtjemjdlaoebffaaDoor
open Go.RowKit
abbrev fEnd : Value := .func (.func 179) #[] #[]
abbrev fLat : Value := .func (.func 180) #[] #[]
abbrev fTar (b : Nat) : Value := .func (.func 181) #[] #[.pointer (some ⟨b, 0, none⟩)]
abbrev fLate (b : Nat) : Value := .func (.func 182) #[] #[.pointer (some ⟨b, 0, none⟩)]
abbrev fMk : Value := .func (.func 183) #[] #[]
abbrev fWgt (b : Nat) : Value := .func (.func 184) #[] #[.pointer (some ⟨b, 0, none⟩)]
/-- The slot that an operation of the table fills. -/
def dstM : Nat → Option Nat
  | 0 => some 14 | 1 => some 15 | 2 => some 16 | 4 => some 17 | 5 => some 18 | 7 => some 19 | 8 => some 20 | 9 => some 21 | 10 => some 22
  | 12 => some 23 | 13 => some 24 | 15 => some 25 | 16 => some 26 | 18 => some 27 | 19 => some 28 | 20 => some 29 | 21 => some 30 | 23 => some 31
  | 24 => some 32 | 26 => some 33 | 27 => some 34 | 28 => some 35 | 29 => some 36 | 31 => some 37 | 32 => some 9
  | _ => none
/-- What it fills it with. -/
def valM (n m b3 b6 b8 : Nat) : Nat → Value
  | 0 => .map (some m) | 1 => fEnd | 2 => .agg #[fEnd, .bool true] | 4 => fEnd | 5 => .agg #[fEnd, .bool false] | 7 => fMk | 8 => fEnd
  | 9 => fWgt b3 | 10 => .agg #[fWgt b3, .bool false] | 12 => fLat | 13 => .agg #[fLat, .bool true] | 15 => fTar (n + 1) | 16 => .agg #[fTar (n + 1), .bool false]
  | 18 => fMk | 19 => fTar (n + 1) | 20 => fWgt b6 | 21 => .agg #[fWgt b6, .bool false] | 23 => fLate (n + 2) | 24 => .agg #[fLate (n + 2), .bool false]
  | 26 => fMk | 27 => fLate (n + 2) | 28 => fWgt b8 | 29 => .agg #[fWgt b8, .bool false] | 31 => .map (some m) | 32 => .map (some m)
  | _ => undef
/-- The operation that puts a key in, and the operation that makes what it puts. -/
def insAt : Nat → Option (Nat × Nat)
  | 1 => some (3, 2) | 2 => some (6, 5) | 3 => some (11, 10) | 4 => some (14, 13) | 5 => some (17, 16) | 6 => some (22, 21) | 7 => some (25, 24) | 8 => some (30, 29)
  | _ => none
theorem dst_inj : ∀ j, j < 33 → ∀ k, k < 33 → (dstM j).isSome = true → dstM j = dstM k → j = k := by decide +kernel
theorem dst_lt (j d : Nat) (h : dstM j = some d) : j < 33 ∧ 9 ≤ d ∧ d < 46 := by
  unfold dstM at h
  split at h <;> first | (injection h with h; omega) | cases h
theorem ins_lt (key i s : Nat) (h : insAt key = some (i, s)) : 1 ≤ key ∧ key ≤ 8 ∧ i < 33 ∧ dstM i = none := by
  unfold insAt at h
  split at h <;> first | (injection h with h; injection h with h1 h2; subst h1; exact ⟨by omega, by omega, by omega, rfl⟩) | cases h
theorem ins_inj : ∀ j, j < 9 → ∀ k, k < 9 → (insAt j).isSome = true → (insAt j).map (·.1) = (insAt k).map (·.1) → j = k := by decide +kernel
theorem ins_none (key : Nat) (h : 8 < key) : insAt key = none := by
  unfold insAt; split <;> first | omega | rfl
def keyIn (n m b3 b6 b8 : Nat) (L : Array Bool) (key : Int) : Option Value :=
  if key < 0 then none else match insAt key.toNat with
    | some (i, s) => if L.getD i true = true then some (valM n m b3 b6 b8 s) else none
    | none => none
structure MI (n : Nat) (w : World) (o : Int) (m b3 b6 b8 : Nat) (L : Array Bool) (a : Act) (w' : World) : Prop where
  len : L.size = 33
  defers : a.defers = []
  size : a.tmps.size = 46
  low0 : a.tmps.getD 0 undef = .int .i64 o
  low2 : a.tmps.getD 2 undef = .pointer (some ⟨n, 0, none⟩)
  low3 : a.tmps.getD 3 undef = .bool false
  low4 : a.tmps.getD 4 undef = fEnd
  low5 : a.tmps.getD 5 undef = .pointer (some ⟨n + 1, 0, none⟩)
  low6 : a.tmps.getD 6 undef = .pointer (some ⟨n + 2, 0, none⟩)
  low7 : a.tmps.getD 7 undef = fLate (n + 2)
  low8 : a.tmps.getD 8 undef = fMk
  vals : ∀ j d, dstM j = some d → L.getD j true = true → a.tmps.getD d undef = valM n m b3 b6 b8 j
  below : Below n w w'
  fit : n + 3 ≤ w'.heap.size
  blk0 : BlockIs w' n 183 #[.nilFunc, .bool false]
  blk1 : BlockIs w' (n + 1) 181 #[fLat]
  blk2 : BlockIs w' (n + 2) 181 #[fTar (n + 1)]
  map : L.getD 0 true = true → n + 3 ≤ m ∧ ∃ kvs, MapOf w' m kvs ∧ ∀ key, getM kvs key = keyIn n m b3 b6 b8 L key
  c3 : L.getD 9 true = true → n + 3 ≤ b3 ∧ BlockIs w' b3 181 #[fEnd] ∧ (L.getD 0 true = true → b3 ≠ m)
  c6 : L.getD 20 true = true → n + 3 ≤ b6 ∧ BlockIs w' b6 181 #[fTar (n + 1)] ∧ (L.getD 0 true = true → b6 ≠ m)
  c8 : L.getD 28 true = true → n + 3 ≤ b8 ∧ BlockIs w' b8 181 #[fLate (n + 2)] ∧ (L.getD 0 true = true → b8 ≠ m)
theorem getD_put (a : Act) (d t : Nat) (v : Value) : (a.put (some d) v).tmps.getD t undef = if d = t ∧ t < a.tmps.size then v else a.tmps.getD t undef := by
  unfold Act.put
  simp only [Array.getD_eq_getD_getElem?, Array.getElem?_setIfInBounds]
  by_cases e : d = t
  · subst e
    by_cases h : d < a.tmps.size
    · simp [h]
    · simp [h]
  · simp [e]
theorem keyIn_same {n m b3 b6 b8 : Nat} {L : Array Bool} {k : Nat} (hk : ∀ key i s, insAt key = some (i, s) → i ≠ k) (key : Int) : keyIn n m b3 b6 b8 (L.setIfInBounds k true) key = keyIn n m b3 b6 b8 L key := by
  unfold keyIn
  by_cases h0 : key < 0
  · rw [if_pos h0, if_pos h0]
  · rw [if_neg h0, if_neg h0]
    cases hi : insAt key.toNat with
    | none => rfl
    | some p =>
      obtain ⟨i, s⟩ := p
      simp only
      rw [set_ne (fun e => hk _ i s hi e.symm)]
section
variable {n : Nat} {w : World} {o : Int} {m b3 b6 b8 : Nat} {L : Array Bool} {a : Act} {w' : World}
/-- The slots, when one operation fills its own. -/
theorem vals_step {m' b3' b6' b8' : Nat} (h : MI n w o m b3 b6 b8 L a w') {k d : Nat} (hk : dstM k = some d)
    (hsame : ∀ j, j ≠ k → j < 33 → L.getD j true = true → valM n m' b3' b6' b8' j = valM n m b3 b6 b8 j) :
    ∀ j d', dstM j = some d' → (L.setIfInBounds k true).getD j true = true → (a.put (some d) (valM n m' b3' b6' b8' k)).tmps.getD d' undef = valM n m' b3' b6' b8' j := by
  intro j d' hj hL
  have hkl := dst_lt k d hk
  have hjl := dst_lt j d' hj
  rw [getD_put, h.size]
  by_cases e : j = k
  · subst e
    rw [hk] at hj; injection hj with hj; subst hj
    rw [if_pos ⟨rfl, hkl.2.2⟩]
  · have hd : d ≠ d' := fun e' => e (dst_inj j hjl.1 k hkl.1 (by rw [hj]; rfl) (by rw [hj, hk, e']))
    rw [if_neg (fun h' => hd h'.1)]
    rw [set_ne (fun e' => e e'.symm)] at hL
    rw [hsame j e hjl.1 hL]
    exact h.vals j d' hj hL
theorem low_step {k d : Nat} (hk : dstM k = some d) {t : Nat} (ht : t < 9) (v : Value) : (a.put (some d) v).tmps.getD t undef = a.tmps.getD t undef := by
  have := dst_lt k d hk
  rw [getD_put, if_neg (by omega)]
theorem MI.pure (h : MI n w o m b3 b6 b8 L a w') {k d : Nat} (hk : dstM k = some d) (h0 : k ≠ 0) (h9 : k ≠ 9) (h20 : k ≠ 20) (h28 : k ≠ 28) :
    MI n w o m b3 b6 b8 (L.setIfInBounds k true) (a.put (some d) (valM n m b3 b6 b8 k)) w' := by
  have hi : ∀ key i s, insAt key = some (i, s) → i ≠ k := fun key i s hi e => by
    have := (ins_lt key i s hi).2.2.2
    rw [e, hk] at this; cases this
  refine ⟨by simp [h.len], h.defers, by simp [Act.put, h.size], ?_, ?_, ?_, ?_, ?_, ?_, ?_, ?_, vals_step h hk (fun _ _ _ _ => rfl), h.below, h.fit, h.blk0, h.blk1, h.blk2, ?_, ?_, ?_, ?_⟩
  · rw [low_step hk (by omega)]; exact h.low0
  · rw [low_step hk (by omega)]; exact h.low2
  · rw [low_step hk (by omega)]; exact h.low3
  · rw [low_step hk (by omega)]; exact h.low4
  · rw [low_step hk (by omega)]; exact h.low5
  · rw [low_step hk (by omega)]; exact h.low6
  · rw [low_step hk (by omega)]; exact h.low7
  · rw [low_step hk (by omega)]; exact h.low8
  · rw [set_ne h0]
    intro hl
    obtain ⟨h1, kvs, h2, h3⟩ := h.map hl
    exact ⟨h1, kvs, h2, fun key => by rw [keyIn_same hi, h3]⟩
  · rw [set_ne h9, set_ne h0]; exact h.c3
  · rw [set_ne h20, set_ne h0]; exact h.c6
  · rw [set_ne h28, set_ne h0]; exact h.c8
theorem getM_snoc (kvs : List (Int × Value)) (x : Int) (v : Value) (y : Int) : getM (kvs ++ [(x, v)]) y = match getM kvs y with | some u => some u | none => if x = y then some v else none := by
  induction kvs with
  | nil => rfl
  | cons p kvs ih =>
    simp only [List.cons_append, getM]
    by_cases e : p.1 = y
    · simp [e]
    · simp [e, ih]
theorem ins_fresh {k s key : Nat} (hk : insAt key = some (k, s)) (hlk : L.getD k true = false) {kvs : List (Int × Value)} (hkv : ∀ key, getM kvs key = keyIn n m b3 b6 b8 L key) : getM kvs (key : Int) = none := by
  rw [hkv]; unfold keyIn
  rw [if_neg (by omega), Int.toNat_natCast, hk]
  simp only [hlk, Bool.false_eq_true, if_false]
theorem MI.ins (h : MI n w o m b3 b6 b8 L a w') {k s key : Nat} (hk : insAt key = some (k, s)) (hl0 : L.getD 0 true = true) (hlk : L.getD k true = false) {w'' : World} (v : Value)
    {kvs : List (Int × Value)} (hkv : ∀ key, getM kvs key = keyIn n m b3 b6 b8 L key) (hM' : MapOf w'' m (kvs ++ [((key : Int), valM n m b3 b6 b8 s)])) (hg : w'.grownBy w'' (some m)) (hs : w''.heap.size = w'.heap.size) :
    MI n w o m b3 b6 b8 (L.setIfInBounds k true) (a.put none v) w'' := by
  obtain ⟨hk1, hk8, hk33, hkd⟩ := ins_lt key k s hk
  obtain ⟨hm, _, _, _⟩ := h.map hl0
  have n0 : k ≠ 0 := fun e => by rw [e] at hkd; cases hkd
  have n9 : k ≠ 9 := fun e => by rw [e] at hkd; cases hkd
  have n20 : k ≠ 20 := fun e => by rw [e] at hkd; cases hkd
  have n28 : k ≠ 28 := fun e => by rw [e] at hkd; cases hkd
  have keep : ∀ {g : Nat} {t : TypeId} {cs : Array Value}, BlockIs w' g t cs → g ≠ m → BlockIs w'' g t cs := fun hb hne => (hg.block _ hb.lt (fun e => hne (by injection e))).trans hb
  refine ⟨by simp [h.len], h.defers, h.size, h.low0, h.low2, h.low3, h.low4, h.low5, h.low6, h.low7, h.low8, ?_, ?_, by rw [hs]; exact h.fit, keep h.blk0 (by omega), keep h.blk1 (by omega), keep h.blk2 (by omega), ?_, ?_, ?_, ?_⟩
  · intro j d hj hl
    have : k ≠ j := fun e => by rw [← e, hkd] at hj; cases hj
    rw [set_ne this] at hl
    exact h.vals j d hj hl
  · exact h.below.trans ⟨hg.os, hg.tape, hg.output, hg.size, fun j hj => hg.block j (by have := h.fit; omega) (fun e => by injection e; omega)⟩
  · intro _
    refine ⟨hm, _, hM', fun y => ?_⟩
    rw [getM_snoc, hkv]
    unfold keyIn
    by_cases hy : y < 0
    · rw [if_pos hy, if_pos hy]
      simp only
      rw [if_neg (by omega)]
    · rw [if_neg hy, if_neg hy]
      by_cases e : y = (key : Int)
      · subst e
        rw [Int.toNat_natCast, hk]
        simp only [hlk, Bool.false_eq_true, if_false, if_true]
        rw [set_eq (by rw [h.len]; exact hk33)]
        simp
      · cases hi : insAt y.toNat with
        | none => simp only; rw [if_neg (fun e' => e e'.symm)]
        | some p =>
          obtain ⟨i, s'⟩ := p
          have hil := ins_lt _ _ _ hi
          have hik : k ≠ i := fun e' => e (by
            have := ins_inj y.toNat (by omega) key (by omega) (by rw [hi]; rfl) (by rw [hi, hk, e']; rfl)
            omega)
          simp only
          rw [set_ne hik]
          by_cases hli : L.getD i true = true
          · rw [if_pos hli]
          · rw [if_neg hli]
            simp only
            rw [if_neg (fun e' => e e'.symm)]
  · rw [set_ne n9, set_ne n0]
    intro hl
    obtain ⟨h1, h2, h3⟩ := h.c3 hl
    exact ⟨h1, keep h2 (h3 hl0), h3⟩
  · rw [set_ne n20, set_ne n0]
    intro hl
    obtain ⟨h1, h2, h3⟩ := h.c6 hl
    exact ⟨h1, keep h2 (h3 hl0), h3⟩
  · rw [set_ne n28, set_ne n0]
    intro hl
    obtain ⟨h1, h2, h3⟩ := h.c8 hl
    exact ⟨h1, keep h2 (h3 hl0), h3⟩
theorem val_m {m' j : Nat} (h0 : j ≠ 0) (h1 : j ≠ 31) (h2 : j ≠ 32) : valM n m' b3 b6 b8 j = valM n m b3 b6 b8 j := by
  unfold valM; split <;> first | rfl | omega
theorem MI.make (h : MI n w o m b3 b6 b8 L a w') (h31 : L.getD 31 true = false) (h32 : L.getD 32 true = false) (hun : ∀ key i s, insAt key = some (i, s) → L.getD i true = false) :
    MI n w o w'.heap.size b3 b6 b8 (L.setIfInBounds 0 true) (a.put (some 14) (.map (some w'.heap.size))) (w'.alloc (.map #[] 0)) := by
  have hk : dstM 0 = some 14 := rfl
  have hb1 : Below w'.heap.size w' (w'.alloc (.map #[] 0)) := (Below.refl _ _).alloc (Nat.le_refl _) _
  have hv := vals_step (m' := w'.heap.size) (b3' := b3) (b6' := b6) (b8' := b8) h hk (fun j hj _ hl => val_m hj (fun e => by rw [e, h31] at hl; cases hl) (fun e => by rw [e, h32] at hl; cases hl))
  have hfit := h.fit
  refine ⟨by simp [h.len], h.defers, by simp [Act.put, h.size], ?_, ?_, ?_, ?_, ?_, ?_, ?_, ?_, hv, h.below.trans (hb1.mono (by omega)), by simp; omega, h.blk0.below hb1, h.blk1.below hb1, h.blk2.below hb1, ?_, ?_, ?_, ?_⟩
  · rw [low_step hk (by omega)]; exact h.low0
  · rw [low_step hk (by omega)]; exact h.low2
  · rw [low_step hk (by omega)]; exact h.low3
  · rw [low_step hk (by omega)]; exact h.low4
  · rw [low_step hk (by omega)]; exact h.low5
  · rw [low_step hk (by omega)]; exact h.low6
  · rw [low_step hk (by omega)]; exact h.low7
  · rw [low_step hk (by omega)]; exact h.low8
  · intro _
    refine ⟨hfit, [], MapOf.new _, fun key => ?_⟩
    rw [keyIn_same (fun key i s hi e => by have := (ins_lt key i s hi).2.2.2; rw [e] at this; cases this)]
    unfold keyIn
    by_cases hy : key < 0
    · rw [if_pos hy]; rfl
    · rw [if_neg hy]
      cases hi : insAt key.toNat with
      | none => rfl
      | some p =>
        obtain ⟨i, s⟩ := p
        simp only [hun _ i s hi, Bool.false_eq_true, if_false]; rfl
  · rw [set_ne (by omega)]
    intro hl
    obtain ⟨h1, h2, _⟩ := h.c3 hl
    exact ⟨h1, h2.below hb1, fun _ e => by have := h2.lt; omega⟩
  · rw [set_ne (by omega)]
    intro hl
    obtain ⟨h1, h2, _⟩ := h.c6 hl
    exact ⟨h1, h2.below hb1, fun _ e => by have := h2.lt; omega⟩
  · rw [set_ne (by omega)]
    intro hl
    obtain ⟨h1, h2, _⟩ := h.c8 hl
    exact ⟨h1, h2.below hb1, fun _ e => by have := h2.lt; omega⟩
theorem val_c3 {b3' j : Nat} (h0 : j ≠ 9) (h1 : j ≠ 10) : valM n m b3' b6 b8 j = valM n m b3 b6 b8 j := by
  unfold valM; split <;> first | rfl | omega
theorem keyIn_c3 {b3' : Nat} (hl : L.getD 11 true = false) (key : Int) : keyIn n m b3' b6 b8 L key = keyIn n m b3 b6 b8 L key := by
  unfold keyIn
  by_cases hy : key < 0
  · rw [if_pos hy, if_pos hy]
  · rw [if_neg hy, if_neg hy]
    cases hi : insAt key.toNat with
    | none => rfl
    | some p =>
      obtain ⟨i, s⟩ := p
      simp only
      by_cases e : i = 11
      · subst e
        simp only [hl, Bool.false_eq_true, if_false]
      · have hs : s ≠ 9 ∧ s ≠ 10 := by
          unfold insAt at hi
          split at hi <;> first | (injection hi with hi; injection hi with h1 h2; subst h1; subst h2; first | exact ⟨by omega, by omega⟩ | exact absurd rfl e) | cases hi
        rw [val_c3 hs.1 hs.2]
theorem MI.c3_call (h : MI n w o m b3 b6 b8 L a w') (hb : L.getD 10 true = false) (hi : L.getD 11 true = false) :
    MI n w o m w'.heap.size b6 b8 (L.setIfInBounds 9 true) (a.put (some 21) (fWgt w'.heap.size)) (w'.alloc (.cells #[fEnd] 181)) := by
  have hk : dstM 9 = some 21 := rfl
  have hb1 : Below w'.heap.size w' (w'.alloc (.cells #[fEnd] 181)) := (Below.refl _ _).alloc (Nat.le_refl _) _
  have hv := vals_step (m' := m) (b3' := w'.heap.size) (b6' := b6) (b8' := b8) h hk (fun j hj _ hl => val_c3 hj (fun e => by rw [e, hb] at hl; cases hl))
  have hfit := h.fit
  refine ⟨by simp [h.len], h.defers, by simp [Act.put, h.size], ?_, ?_, ?_, ?_, ?_, ?_, ?_, ?_, hv, h.below.trans (hb1.mono (by omega)), by simp; omega, h.blk0.below hb1, h.blk1.below hb1, h.blk2.below hb1, ?_, ?_, ?_, ?_⟩
  · rw [low_step hk (by omega)]; exact h.low0
  · rw [low_step hk (by omega)]; exact h.low2
  · rw [low_step hk (by omega)]; exact h.low3
  · rw [low_step hk (by omega)]; exact h.low4
  · rw [low_step hk (by omega)]; exact h.low5
  · rw [low_step hk (by omega)]; exact h.low6
  · rw [low_step hk (by omega)]; exact h.low7
  · rw [low_step hk (by omega)]; exact h.low8
  · rw [set_ne (by omega)]
    intro hl
    obtain ⟨h1, kvs, h2, h3⟩ := h.map hl
    refine ⟨h1, kvs, h2.below hb1, fun key => ?_⟩
    rw [keyIn_same (fun key i s hi e => by have := (ins_lt key i s hi).2.2.2; rw [e] at this; cases this), keyIn_c3 hi, h3]
  · rw [set_ne (show 9 ≠ 0 by omega)]
    intro _
    exact ⟨hfit, BlockIs.new _ _ _, fun hl e => by obtain ⟨_, kvs, h2, _⟩ := h.map hl; have := h2.lt; omega⟩
  · rw [set_ne (by omega), set_ne (by omega)]
    intro hl
    obtain ⟨h1, h2, h3⟩ := h.c6 hl
    exact ⟨h1, h2.below hb1, h3⟩
  · rw [set_ne (by omega), set_ne (by omega)]
    intro hl
    obtain ⟨h1, h2, h3⟩ := h.c8 hl
    exact ⟨h1, h2.below hb1, h3⟩
theorem val_c6 {b6' j : Nat} (h0 : j ≠ 20) (h1 : j ≠ 21) : valM n m b3 b6' b8 j = valM n m b3 b6 b8 j := by
  unfold valM; split <;> first | rfl | omega
theorem keyIn_c6 {b6' : Nat} (hl : L.getD 22 true = false) (key : Int) : keyIn n m b3 b6' b8 L key = keyIn n m b3 b6 b8 L key := by
  unfold keyIn
  by_cases hy : key < 0
  · rw [if_pos hy, if_pos hy]
  · rw [if_neg hy, if_neg hy]
    cases hi : insAt key.toNat with
    | none => rfl
    | some p =>
      obtain ⟨i, s⟩ := p
      simp only
      by_cases e : i = 22
      · subst e
        simp only [hl, Bool.false_eq_true, if_false]
      · have hs : s ≠ 20 ∧ s ≠ 21 := by
          unfold insAt at hi
          split at hi <;> first | (injection hi with hi; injection hi with h1 h2; subst h1; subst h2; first | exact ⟨by omega, by omega⟩ | exact absurd rfl e) | cases hi
        rw [val_c6 hs.1 hs.2]
theorem MI.c6_call (h : MI n w o m b3 b6 b8 L a w') (hb : L.getD 21 true = false) (hi : L.getD 22 true = false) :
    MI n w o m b3 w'.heap.size b8 (L.setIfInBounds 20 true) (a.put (some 29) (fWgt w'.heap.size)) (w'.alloc (.cells #[fTar (n + 1)] 181)) := by
  have hk : dstM 20 = some 29 := rfl
  have hb1 : Below w'.heap.size w' (w'.alloc (.cells #[fTar (n + 1)] 181)) := (Below.refl _ _).alloc (Nat.le_refl _) _
  have hv := vals_step (m' := m) (b3' := b3) (b6' := w'.heap.size) (b8' := b8) h hk (fun j hj _ hl => val_c6 hj (fun e => by rw [e, hb] at hl; cases hl))
  have hfit := h.fit
  refine ⟨by simp [h.len], h.defers, by simp [Act.put, h.size], ?_, ?_, ?_, ?_, ?_, ?_, ?_, ?_, hv, h.below.trans (hb1.mono (by omega)), by simp; omega, h.blk0.below hb1, h.blk1.below hb1, h.blk2.below hb1, ?_, ?_, ?_, ?_⟩
  · rw [low_step hk (by omega)]; exact h.low0
  · rw [low_step hk (by omega)]; exact h.low2
  · rw [low_step hk (by omega)]; exact h.low3
  · rw [low_step hk (by omega)]; exact h.low4
  · rw [low_step hk (by omega)]; exact h.low5
  · rw [low_step hk (by omega)]; exact h.low6
  · rw [low_step hk (by omega)]; exact h.low7
  · rw [low_step hk (by omega)]; exact h.low8
  · rw [set_ne (by omega)]
    intro hl
    obtain ⟨h1, kvs, h2, h3⟩ := h.map hl
    refine ⟨h1, kvs, h2.below hb1, fun key => ?_⟩
    rw [keyIn_same (fun key i s hi e => by have := (ins_lt key i s hi).2.2.2; rw [e] at this; cases this), keyIn_c6 hi, h3]
  · rw [set_ne (by omega), set_ne (by omega)]
    intro hl
    obtain ⟨h1, h2, h3⟩ := h.c3 hl
    exact ⟨h1, h2.below hb1, h3⟩
  · rw [set_ne (show 20 ≠ 0 by omega)]
    intro _
    exact ⟨hfit, BlockIs.new _ _ _, fun hl e => by obtain ⟨_, kvs, h2, _⟩ := h.map hl; have := h2.lt; omega⟩
  · rw [set_ne (by omega), set_ne (by omega)]
    intro hl
    obtain ⟨h1, h2, h3⟩ := h.c8 hl
    exact ⟨h1, h2.below hb1, h3⟩
theorem val_c8 {b8' j : Nat} (h0 : j ≠ 28) (h1 : j ≠ 29) : valM n m b3 b6 b8' j = valM n m b3 b6 b8 j := by
  unfold valM; split <;> first | rfl | omega
theorem keyIn_c8 {b8' : Nat} (hl : L.getD 30 true = false) (key : Int) : keyIn n m b3 b6 b8' L key = keyIn n m b3 b6 b8 L key := by
  unfold keyIn
  by_cases hy : key < 0
  · rw [if_pos hy, if_pos hy]
  · rw [if_neg hy, if_neg hy]
    cases hi : insAt key.toNat with
    | none => rfl
    | some p =>
      obtain ⟨i, s⟩ := p
      simp only
      by_cases e : i = 30
      · subst e
        simp only [hl, Bool.false_eq_true, if_false]
      · have hs : s ≠ 28 ∧ s ≠ 29 := by
          unfold insAt at hi
          split at hi <;> first | (injection hi with hi; injection hi with h1 h2; subst h1; subst h2; first | exact ⟨by omega, by omega⟩ | exact absurd rfl e) | cases hi
        rw [val_c8 hs.1 hs.2]
theorem MI.c8_call (h : MI n w o m b3 b6 b8 L a w') (hb : L.getD 29 true = false) (hi : L.getD 30 true = false) :
    MI n w o m b3 b6 w'.heap.size (L.setIfInBounds 28 true) (a.put (some 35) (fWgt w'.heap.size)) (w'.alloc (.cells #[fLate (n + 2)] 181)) := by
  have hk : dstM 28 = some 35 := rfl
  have hb1 : Below w'.heap.size w' (w'.alloc (.cells #[fLate (n + 2)] 181)) := (Below.refl _ _).alloc (Nat.le_refl _) _
  have hv := vals_step (m' := m) (b3' := b3) (b6' := b6) (b8' := w'.heap.size) h hk (fun j hj _ hl => val_c8 hj (fun e => by rw [e, hb] at hl; cases hl))
  have hfit := h.fit
  refine ⟨by simp [h.len], h.defers, by simp [Act.put, h.size], ?_, ?_, ?_, ?_, ?_, ?_, ?_, ?_, hv, h.below.trans (hb1.mono (by omega)), by simp; omega, h.blk0.below hb1, h.blk1.below hb1, h.blk2.below hb1, ?_, ?_, ?_, ?_⟩
  · rw [low_step hk (by omega)]; exact h.low0
  · rw [low_step hk (by omega)]; exact h.low2
  · rw [low_step hk (by omega)]; exact h.low3
  · rw [low_step hk (by omega)]; exact h.low4
  · rw [low_step hk (by omega)]; exact h.low5
  · rw [low_step hk (by omega)]; exact h.low6
  · rw [low_step hk (by omega)]; exact h.low7
  · rw [low_step hk (by omega)]; exact h.low8
  · rw [set_ne (by omega)]
    intro hl
    obtain ⟨h1, kvs, h2, h3⟩ := h.map hl
    refine ⟨h1, kvs, h2.below hb1, fun key => ?_⟩
    rw [keyIn_same (fun key i s hi e => by have := (ins_lt key i s hi).2.2.2; rw [e] at this; cases this), keyIn_c8 hi, h3]
  · rw [set_ne (by omega), set_ne (by omega)]
    intro hl
    obtain ⟨h1, h2, h3⟩ := h.c3 hl
    exact ⟨h1, h2.below hb1, h3⟩
  · rw [set_ne (by omega), set_ne (by omega)]
    intro hl
    obtain ⟨h1, h2, h3⟩ := h.c6 hl
    exact ⟨h1, h2.below hb1, h3⟩
  · rw [set_ne (show 28 ≠ 0 by omega)]
    intro _
    exact ⟨hfit, BlockIs.new _ _ _, fun hl e => by obtain ⟨_, kvs, h2, _⟩ := h.map hl; have := h2.lt; omega⟩
end
end Go.Proofs.YtjemjdlaoebffaaDoor

end
section
namespace Go.Proofs.YtjemjdlaoebffaaDoor
open Go.RowKit
theorem store_new (P : Program) (w : World) (u v : Value) (t : TypeId) (hv : v.oneCell' = true) : (store ⟨w.heap.size, 0, none⟩ v).run P (w.alloc (.cells #[u] t)) = .ok () (w.alloc (.cells #[v] t)) := by
  have hB := BlockIs.new w t #[u]
  have hc : (w.alloc (.cells #[u] t)).cell? ⟨w.heap.size, 0, none⟩ = some u := by rw [hB.cell]; rfl
  have hf := hB.frozen 0
  rw [run_store _ _ _ _ _ hv, hc]
  simp only [hf, Bool.false_eq_true, if_false]
  rw [World.setCell_alloc_at _ _ _ _ _ rfl]
  rfl
theorem store_pair (P : Program) (w : World) (fv u v : Value) (t : TypeId) (hv : fv.oneCell' = true) : (store ⟨w.heap.size, 0, none⟩ fv).run P (w.alloc (.cells #[u, v] t)) = .ok () (w.alloc (.cells #[fv, v] t)) := by
  have hB := BlockIs.new w t #[u, v]
  have hc : (w.alloc (.cells #[u, v] t)).cell? ⟨w.heap.size, 0, none⟩ = some u := by rw [hB.cell]; rfl
  have hf := hB.frozen 0
  rw [run_store _ _ _ _ _ hv, hc]
  simp only [hf, Bool.false_eq_true, if_false]
  rw [World.setCell_alloc_at _ _ _ _ _ rfl]
  rfl
theorem store_past (P : Program) (w : World) (n : Nat) (fv u v : Value) (t : TypeId) (o : Obj) (hv : fv.oneCell' = true) (hB : BlockIs w n t #[u, v]) : (store ⟨n, 0, none⟩ fv).run P (w.alloc o) = .ok () ((w.setCell ⟨n, 0, none⟩ fv).alloc o) := by
  have hB1 : BlockIs (w.alloc o) n t #[u, v] := hB.below ((Below.refl _ _).alloc (Nat.le_refl _) o)
  have hc : (w.alloc o).cell? ⟨n, 0, none⟩ = some u := by rw [hB1.cell]; rfl
  have hf := hB1.frozen 0
  rw [run_store _ _ _ _ _ hv, hc]
  simp only [hf, Bool.false_eq_true, if_false]
  rw [World.setCell_alloc_past _ _ _ _ hB.lt]
theorem weighted_end (w : World) : Calls Tryd.prog 183 #[fEnd] w fun e w' => e = .returned (fWgt w.heap.size) ∧ w' = w.alloc (.cells #[fEnd] 181) := by
  go_enter Tryd.func183, Tryd.ntmps183
  go_wp2
  go_ret
  exact ⟨rfl, rfl⟩
theorem weighted_tar (b : Nat) (w : World) : Calls Tryd.prog 183 #[fTar b] w fun e w' => e = .returned (fWgt w.heap.size) ∧ w' = w.alloc (.cells #[fTar b] 181) := by
  go_enter Tryd.func183, Tryd.ntmps183
  go_wp2
  go_ret
  exact ⟨rfl, rfl⟩
theorem weighted_late (b : Nat) (w : World) : Calls Tryd.prog 183 #[fLate b] w fun e w' => e = .returned (fWgt w.heap.size) ∧ w' = w.alloc (.cells #[fLate b] 181) := by
  go_enter Tryd.func183, Tryd.ntmps183
  go_wp2
  go_ret
  exact ⟨rfl, rfl⟩
theorem lit46 (t : Array Value) (h : t.size = 46) : ∃ x1 x4 x5 x6 x7 x8 x10 x11 x12 x13 x14 x15 x16 x17 x18 x19 x20 x21 x22 x23 x24 x25 x26 x27 x28 x29 x30 x31 x32 x33 x34 x35 x36 x37 x38 x39 x40 x41 x42 x43 x44 x45 : Value, t = #[t.getD 0 undef, x1, t.getD 2 undef, t.getD 3 undef, x4, x5, x6, x7, x8, t.getD 9 undef, x10, x11, x12, x13, x14, x15, x16, x17, x18, x19, x20, x21, x22, x23, x24, x25, x26, x27, x28, x29, x30, x31, x32, x33, x34, x35, x36, x37, x38, x39, x40, x41, x42, x43, x44, x45] := by
  obtain ⟨l⟩ := t
  simp only [List.size_toArray] at h
  obtain _ | ⟨x0, l⟩ := l
  · cases h
  obtain _ | ⟨x1, l⟩ := l
  · cases h
  obtain _ | ⟨x2, l⟩ := l
  · cases h
  obtain _ | ⟨x3, l⟩ := l
  · cases h
  obtain _ | ⟨x4, l⟩ := l
  · cases h
  obtain _ | ⟨x5, l⟩ := l
  · cases h
  obtain _ | ⟨x6, l⟩ := l
  · cases h
  obtain _ | ⟨x7, l⟩ := l
  · cases h
  obtain _ | ⟨x8, l⟩ := l
  · cases h
  obtain _ | ⟨x9, l⟩ := l
  · cases h
  obtain _ | ⟨x10, l⟩ := l
  · cases h
  obtain _ | ⟨x11, l⟩ := l
  · cases h
  obtain _ | ⟨x12, l⟩ := l
  · cases h
  obtain _ | ⟨x13, l⟩ := l
  · cases h
  obtain _ | ⟨x14, l⟩ := l
  · cases h
  obtain _ | ⟨x15, l⟩ := l
  · cases h
  obtain _ | ⟨x16, l⟩ := l
  · cases h
  obtain _ | ⟨x17, l⟩ := l
  · cases h
  obtain _ | ⟨x18, l⟩ := l
  · cases h
  obtain _ | ⟨x19, l⟩ := l
  · cases h
  obtain _ | ⟨x20, l⟩ := l
  · cases h
  obtain _ | ⟨x21, l⟩ := l
  · cases h
  obtain _ | ⟨x22, l⟩ := l
  · cases h
  obtain _ | ⟨x23, l⟩ := l
  · cases h
  obtain _ | ⟨x24, l⟩ := l
  · cases h
  obtain _ | ⟨x25, l⟩ := l
  · cases h
  obtain _ | ⟨x26, l⟩ := l
  · cases h
  obtain _ | ⟨x27, l⟩ := l
  · cases h
  obtain _ | ⟨x28, l⟩ := l
  · cases h
  obtain _ | ⟨x29, l⟩ := l
  · cases h
  obtain _ | ⟨x30, l⟩ := l
  · cases h
  obtain _ | ⟨x31, l⟩ := l
  · cases h
  obtain _ | ⟨x32, l⟩ := l
  · cases h
  obtain _ | ⟨x33, l⟩ := l
  · cases h
  obtain _ | ⟨x34, l⟩ := l
  · cases h
  obtain _ | ⟨x35, l⟩ := l
  · cases h
  obtain _ | ⟨x36, l⟩ := l
  · cases h
  obtain _ | ⟨x37, l⟩ := l
  · cases h
  obtain _ | ⟨x38, l⟩ := l
  · cases h
  obtain _ | ⟨x39, l⟩ := l
  · cases h
  obtain _ | ⟨x40, l⟩ := l
  · cases h
  obtain _ | ⟨x41, l⟩ := l
  · cases h
  obtain _ | ⟨x42, l⟩ := l
  · cases h
  obtain _ | ⟨x43, l⟩ := l
  · cases h
  obtain _ | ⟨x44, l⟩ := l
  · cases h
  obtain _ | ⟨x45, l⟩ := l
  · cases h
  obtain _ | ⟨y, l⟩ := l
  · exact ⟨x1, x4, x5, x6, x7, x8, x10, x11, x12, x13, x14, x15, x16, x17, x18, x19, x20, x21, x22, x23, x24, x25, x26, x27, x28, x29, x30, x31, x32, x33, x34, x35, x36, x37, x38, x39, x40, x41, x42, x43, x44, x45, rfl⟩
  · simp at h
theorem zeroM (w : World) : (zeroValue 183).run Tryd.prog w = .ok (.agg #[.nilFunc, .bool false]) w := by kernel_rfl
/-- The function that tells what a job costs: its closures, in blocks below B. -/
def FnIs (B : Nat) (w : World) (o : Int) (fv : Value) : Prop :=
  ((o = 1 ∨ o = 2) ∧ fv = fEnd) ∨ (o = 4 ∧ fv = fLat) ∨ (o = 5 ∧ ∃ b, fv = fTar b ∧ b < B ∧ BlockIs w b 181 #[fLat]) ∨
  (o = 7 ∧ ∃ b c, fv = fLate b ∧ b < B ∧ BlockIs w b 181 #[fTar c] ∧ c < B ∧ BlockIs w c 181 #[fLat]) ∨
  (o = 3 ∧ ∃ b, fv = fWgt b ∧ b < B ∧ BlockIs w b 181 #[fEnd]) ∨
  (o = 6 ∧ ∃ b c, fv = fWgt b ∧ b < B ∧ BlockIs w b 181 #[fTar c] ∧ c < B ∧ BlockIs w c 181 #[fLat]) ∨
  (o = 8 ∧ ∃ b c d, fv = fWgt b ∧ b < B ∧ BlockIs w b 181 #[fLate c] ∧ c < B ∧ BlockIs w c 181 #[fTar d] ∧ d < B ∧ BlockIs w d 181 #[fLat])
theorem FnIs.keep {B : Nat} {w w' : World} {o : Int} {fv : Value} (h : FnIs B w o fv) (hk : ∀ b, b < B → w'.heap[b]? = w.heap[b]?) : FnIs B w' o fv := by
  have K : ∀ {b : Nat} {t : TypeId} {cs : Array Value}, b < B → BlockIs w b t cs → BlockIs w' b t cs := fun hb h => (hk _ hb).trans h
  rcases h with h | h | ⟨h, b, h1, h2, h3⟩ | ⟨h, b, c, h1, h2, h3, h4, h5⟩ | ⟨h, b, h1, h2, h3⟩ | ⟨h, b, c, h1, h2, h3, h4, h5⟩ | ⟨h, b, c, d, h1, h2, h3, h4, h5, h6, h7⟩
  · exact .inl h
  · exact .inr (.inl h)
  · exact .inr (.inr (.inl ⟨h, b, h1, h2, K h2 h3⟩))
  · exact .inr (.inr (.inr (.inl ⟨h, b, c, h1, h2, K h2 h3, h4, K h4 h5⟩)))
  · exact .inr (.inr (.inr (.inr (.inl ⟨h, b, h1, h2, K h2 h3⟩))))
  · exact .inr (.inr (.inr (.inr (.inr (.inl ⟨h, b, c, h1, h2, K h2 h3, h4, K h4 h5⟩)))))
  · exact .inr (.inr (.inr (.inr (.inr (.inr ⟨h, b, c, d, h1, h2, K h2 h3, h4, K h4 h5, h6, K h6 h7⟩)))))
def MeasPost (w : World) (o : Int) (e : Ending) (w' : World) : Prop := Below w.heap.size w w' ∧
  ((isObj o = false ∧ e = .returned (.tuple #[.agg #[.nilFunc, .bool false], .bool false])) ∨ (isObj o = true ∧ ∃ fv, e = .returned (.tuple #[.agg #[fv, .bool (isTop o)], .bool true]) ∧ FnIs w'.heap.size w' o fv))
theorem keyIn_not (n m b3 b6 b8 : Nat) (L : Array Bool) (o : Int) (h : isObj o = false) : keyIn n m b3 b6 b8 L o = none := by
  have h' : ¬ (1 ≤ o ∧ o ≤ 8) := by unfold isObj at h; exact of_decide_eq_false h
  unfold keyIn
  by_cases h0 : o < 0
  · rw [if_pos h0]
  · rw [if_neg h0]
    by_cases h1 : o = 0
    · subst h1; rfl
    · rw [ins_none _ (by omega)]
theorem BlockIs.set_ne {w : World} {g : Nat} {t : TypeId} {cs : Array Value} (h : BlockIs w g t cs) {n : Nat} (hn : g ≠ n) (i : Nat) (u : Value) : BlockIs (w.setCell ⟨n, i, none⟩ u) g t cs := by
  unfold BlockIs at h ⊢
  rw [← h]
  exact Below.heap_setCell _ _ _ _ hn
set_option maxRecDepth 100000 in
set_option maxHeartbeats 4000000 in
theorem measureOf_any (o : Int) (w : World) : Calls Tryd.prog 140 #[.int .i64 o] w (MeasPost w o) := by
  have hst5 := store_new Tryd.prog (w.alloc (.cells #[.nilFunc, .bool false] 183)) .nilFunc fLat 181 rfl
  have hst6 := store_new Tryd.prog ((w.alloc (.cells #[.nilFunc, .bool false] 183)).alloc (.cells #[fLat] 181)) .nilFunc (fTar (w.heap.size + 1)) 181 rfl
  simp at hst5 hst6
  have hW : ∃ W, W = (((w.alloc (.cells #[.nilFunc, .bool false] 183)).alloc (.cells #[fLat] 181)).alloc (.cells #[fTar (w.heap.size + 1)] 181)) := ⟨_, rfl⟩
  go_enter Tryd.func140, Tryd.ntmps140
  go_wp2
  refine wp_region_inv (by kernel_rfl) (fun L a w' => ∃ m b3 b6 b8, MI w.heap.size w o m b3 b6 b8 L a w') (back_of (by kernel_rfl)) ?_ ?_ ?_
  · refine ⟨0, 0, 0, 0, by simp, rfl, rfl, rfl, rfl, rfl, rfl, rfl, rfl, rfl, rfl, ?_, ?_, by simp [World.drew], ?_, ?_, ?_, ?_, ?_, ?_, ?_⟩
    · intro j d hj hl
      have := (dst_lt j d hj).1
      simp [Array.getD_eq_getD_getElem?, this] at hl
    · exact (((Below.refl _ _).alloc (Nat.le_refl _) _).alloc (by simp) _).alloc (by simp; omega) _ |>.drew
    · exact (((BlockIs.new w _ _).below ((Below.refl _ _).alloc (Nat.le_refl _) _)).below ((Below.refl _ _).alloc (Nat.le_refl _) _)).drew
    · have := BlockIs.new (w.alloc (.cells #[.nilFunc, .bool false] 183)) 181 #[fLat]
      have := (this.below ((Below.refl _ _).alloc (Nat.le_refl _) (.cells #[fTar (w.heap.size + 1)] 181))).drew
      simpa using this
    · have := (BlockIs.new ((w.alloc (.cells #[.nilFunc, .bool false] 183)).alloc (.cells #[fLat] 181)) 181 #[fTar (w.heap.size + 1)]).drew
      simpa using this
    all_goals (intro hl; simp [Array.getD_eq_getD_getElem?] at hl)
  · intro L a w' hI hall
    obtain ⟨m, b3, b6, b8, h⟩ := hI
    have a0 := hall 0 (by decide)
    have hs9 : a.tmps.getD 9 undef = .map (some m) := h.vals 32 9 rfl (hall 32 (by decide))
    obtain ⟨hm, kvs, hM, hkv⟩ := h.map a0
    have h0 := h.low0
    have h2 := h.low2
    have h3 := h.low3
    have hdf := h.defers
    have hsz := h.size
    have hlook := hM.look_ok (P := Tryd.prog) Tryd.underlying216 Tryd.underlying3 o (zeroM w')
    rw [hkv] at hlook
    obtain ⟨tm, df⟩ := a
    simp only at hs9 h0 h2 h3 hdf hsz
    subst hdf
    obtain ⟨x1, x4, x5, x6, x7, x8, x10, x11, x12, x13, x14, x15, x16, x17, x18, x19, x20, x21, x22, x23, x24, x25, x26, x27, x28, x29, x30, x31, x32, x33, x34, x35, x36, x37, x38, x39, x40, x41, x42, x43, x44, x45, hlit⟩ := lit46 tm hsz
    rw [hs9, h0, h2, h3] at hlit
    subst hlit
    cases hob : isObj o
    · rw [keyIn_not _ _ _ _ _ _ _ hob] at hlook
      simp only [Option.getD_none, Option.isSome_none] at hlook
      clear hall
      have hsA := store_pair Tryd.prog w' .nilFunc .nilFunc (.bool false) 183 rfl
      have hsB := store_past Tryd.prog w' w.heap.size .nilFunc .nilFunc (.bool false) 183 (.cells #[.nilFunc, .bool false] 183) rfl h.blk0
      have hcB := h.blk0.cell 1
      simp at hcB
      have hfB := h.blk0.frozen 1
      have hnB := h.blk0.lt
      have HX := Lib.hid h
      clear h hkv hM hs9 h0 h2 h3 hsz hst5 hst6 hW
      go_wp2
      have h := HX.out
      have hF := (((h.blk0.set 0 .nilFunc).set 1 (.bool false)).below ((Below.refl _ _).alloc (Nat.le_refl _) (.cells #[.nilFunc, .bool false] 183)))
      have hF0 := hF.cell 0
      have hF1 := hF.cell 1
      simp at hF0 hF1
      have hbF : Below w.heap.size w (((w'.setCell ⟨w.heap.size, 0, none⟩ .nilFunc).setCell ⟨w.heap.size, 1, none⟩ (.bool false)).alloc (.cells #[.nilFunc, .bool false] 183)) := ((h.below.setCell (Nat.le_refl _) _).setCell (Nat.le_refl _) _).alloc (by simp [World.setCell]; have := h.fit; omega) _
      exact bodyPost_ret (v := .tuple #[.agg #[.nilFunc, .bool false], .bool false]) (by simp [results, Tryd.results140, go_sem, hF0, hF1]) rfl ⟨hbF, .inl ⟨hob, rfl⟩⟩
    · have c3 := h.c3 (hall 9 (by decide))
      have c6 := h.c6 (hall 20 (by decide))
      have c8 := h.c8 (hall 28 (by decide))
      have d1 := h.blk1
      have d2 := h.blk2
      have HC := Lib.hid (And.intro c3 (And.intro c6 (And.intro c8 (And.intro d1 d2))))
      clear c3 c6 c8 d1 d2
      rcases obj_cases hob with rfl | rfl | rfl | rfl | rfl | rfl | rfl | rfl
      · rw [show keyIn w.heap.size m b3 b6 b8 L 1 = some (.agg #[fEnd, .bool true]) by unfold keyIn; simp [insAt, valM, hall 3 (by decide)]] at hlook
        simp only [Option.getD_some, Option.isSome_some] at hlook
        clear hall
        have hsA := store_pair Tryd.prog w' fEnd .nilFunc (.bool false) 183 rfl
        have hsB := store_past Tryd.prog w' w.heap.size fEnd .nilFunc (.bool false) 183 (.cells #[fEnd, .bool true] 183) rfl h.blk0
        have hcB := h.blk0.cell 1
        simp at hcB
        have hfB := h.blk0.frozen 1
        have hnB := h.blk0.lt
        have HX := Lib.hid h
        clear h hkv hM hs9 h0 h2 h3 hsz hst5 hst6 hW
        go_wp2
        have h := HX.out
        obtain ⟨c3, c6, c8, d1, d2⟩ := HC.out
        have hF := (((h.blk0.set 0 fEnd).set 1 (.bool true)).below ((Below.refl _ _).alloc (Nat.le_refl _) (.cells #[fEnd, .bool true] 183)))
        have hF0 := hF.cell 0
        have hF1 := hF.cell 1
        simp at hF0 hF1
        have hbF : Below w.heap.size w (((w'.setCell ⟨w.heap.size, 0, none⟩ fEnd).setCell ⟨w.heap.size, 1, none⟩ (.bool true)).alloc (.cells #[fEnd, .bool true] 183)) := ((h.below.setCell (Nat.le_refl _) _).setCell (Nat.le_refl _) _).alloc (by simp [World.setCell]; have := h.fit; omega) _
        exact bodyPost_ret (v := .tuple #[.agg #[fEnd, .bool true], .bool true]) (by simp [results, Tryd.results140, go_sem, hF0, hF1]) rfl ⟨hbF, .inr ⟨hob, _, rfl, .inl ⟨.inl rfl, rfl⟩⟩⟩
      · rw [show keyIn w.heap.size m b3 b6 b8 L 2 = some (.agg #[fEnd, .bool false]) by unfold keyIn; simp [insAt, valM, hall 6 (by decide)]] at hlook
        simp only [Option.getD_some, Option.isSome_some] at hlook
        clear hall
        have hsA := store_pair Tryd.prog w' fEnd .nilFunc (.bool false) 183 rfl
        have hsB := store_past Tryd.prog w' w.heap.size fEnd .nilFunc (.bool false) 183 (.cells #[fEnd, .bool false] 183) rfl h.blk0
        have hcB := h.blk0.cell 1
        simp at hcB
        have hfB := h.blk0.frozen 1
        have hnB := h.blk0.lt
        have HX := Lib.hid h
        clear h hkv hM hs9 h0 h2 h3 hsz hst5 hst6 hW
        go_wp2
        have h := HX.out
        obtain ⟨c3, c6, c8, d1, d2⟩ := HC.out
        have hF := (((h.blk0.set 0 fEnd).set 1 (.bool false)).below ((Below.refl _ _).alloc (Nat.le_refl _) (.cells #[fEnd, .bool false] 183)))
        have hF0 := hF.cell 0
        have hF1 := hF.cell 1
        simp at hF0 hF1
        have hbF : Below w.heap.size w (((w'.setCell ⟨w.heap.size, 0, none⟩ fEnd).setCell ⟨w.heap.size, 1, none⟩ (.bool false)).alloc (.cells #[fEnd, .bool false] 183)) := ((h.below.setCell (Nat.le_refl _) _).setCell (Nat.le_refl _) _).alloc (by simp [World.setCell]; have := h.fit; omega) _
        exact bodyPost_ret (v := .tuple #[.agg #[fEnd, .bool false], .bool true]) (by simp [results, Tryd.results140, go_sem, hF0, hF1]) rfl ⟨hbF, .inr ⟨hob, _, rfl, .inl ⟨.inr rfl, rfl⟩⟩⟩
      · rw [show keyIn w.heap.size m b3 b6 b8 L 3 = some (.agg #[(fWgt b3), .bool false]) by unfold keyIn; simp [insAt, valM, hall 11 (by decide)]] at hlook
        simp only [Option.getD_some, Option.isSome_some] at hlook
        clear hall
        have hsA := store_pair Tryd.prog w' (fWgt b3) .nilFunc (.bool false) 183 rfl
        have hsB := store_past Tryd.prog w' w.heap.size (fWgt b3) .nilFunc (.bool false) 183 (.cells #[(fWgt b3), .bool false] 183) rfl h.blk0
        have hcB := h.blk0.cell 1
        simp at hcB
        have hfB := h.blk0.frozen 1
        have hnB := h.blk0.lt
        have HX := Lib.hid h
        clear h hkv hM hs9 h0 h2 h3 hsz hst5 hst6 hW
        go_wp2
        have h := HX.out
        obtain ⟨c3, c6, c8, d1, d2⟩ := HC.out
        have hF := (((h.blk0.set 0 (fWgt b3)).set 1 (.bool false)).below ((Below.refl _ _).alloc (Nat.le_refl _) (.cells #[(fWgt b3), .bool false] 183)))
        have hF0 := hF.cell 0
        have hF1 := hF.cell 1
        simp at hF0 hF1
        have hbF : Below w.heap.size w (((w'.setCell ⟨w.heap.size, 0, none⟩ (fWgt b3)).setCell ⟨w.heap.size, 1, none⟩ (.bool false)).alloc (.cells #[(fWgt b3), .bool false] 183)) := ((h.below.setCell (Nat.le_refl _) _).setCell (Nat.le_refl _) _).alloc (by simp [World.setCell]; have := h.fit; omega) _
        exact bodyPost_ret (v := .tuple #[.agg #[(fWgt b3), .bool false], .bool true]) (by simp [results, Tryd.results140, go_sem, hF0, hF1]) rfl ⟨hbF, .inr ⟨hob, _, rfl, .inr (.inr (.inr (.inr (.inl ⟨rfl, _, rfl, (((c3.2.1.set_ne (by omega) 0 _).set_ne (by omega) 1 _).below ((Below.refl _ _).alloc (Nat.le_refl _) _)).lt, (((c3.2.1.set_ne (by omega) 0 _).set_ne (by omega) 1 _).below ((Below.refl _ _).alloc (Nat.le_refl _) _))⟩))))⟩⟩
      · rw [show keyIn w.heap.size m b3 b6 b8 L 4 = some (.agg #[fLat, .bool true]) by unfold keyIn; simp [insAt, valM, hall 14 (by decide)]] at hlook
        simp only [Option.getD_some, Option.isSome_some] at hlook
        clear hall
        have hsA := store_pair Tryd.prog w' fLat .nilFunc (.bool false) 183 rfl
        have hsB := store_past Tryd.prog w' w.heap.size fLat .nilFunc (.bool false) 183 (.cells #[fLat, .bool true] 183) rfl h.blk0
        have hcB := h.blk0.cell 1
        simp at hcB
        have hfB := h.blk0.frozen 1
        have hnB := h.blk0.lt
        have HX := Lib.hid h
        clear h hkv hM hs9 h0 h2 h3 hsz hst5 hst6 hW
        go_wp2
        have h := HX.out
        obtain ⟨c3, c6, c8, d1, d2⟩ := HC.out
        have hF := (((h.blk0.set 0 fLat).set 1 (.bool true)).below ((Below.refl _ _).alloc (Nat.le_refl _) (.cells #[fLat, .bool true] 183)))
        have hF0 := hF.cell 0
        have hF1 := hF.cell 1
        simp at hF0 hF1
        have hbF : Below w.heap.size w (((w'.setCell ⟨w.heap.size, 0, none⟩ fLat).setCell ⟨w.heap.size, 1, none⟩ (.bool true)).alloc (.cells #[fLat, .bool true] 183)) := ((h.below.setCell (Nat.le_refl _) _).setCell (Nat.le_refl _) _).alloc (by simp [World.setCell]; have := h.fit; omega) _
        exact bodyPost_ret (v := .tuple #[.agg #[fLat, .bool true], .bool true]) (by simp [results, Tryd.results140, go_sem, hF0, hF1]) rfl ⟨hbF, .inr ⟨hob, _, rfl, .inr (.inl ⟨rfl, rfl⟩)⟩⟩
      · rw [show keyIn w.heap.size m b3 b6 b8 L 5 = some (.agg #[(fTar (w.heap.size + 1)), .bool false]) by unfold keyIn; simp [insAt, valM, hall 17 (by decide)]] at hlook
        simp only [Option.getD_some, Option.isSome_some] at hlook
        clear hall
        have hsA := store_pair Tryd.prog w' (fTar (w.heap.size + 1)) .nilFunc (.bool false) 183 rfl
        have hsB := store_past Tryd.prog w' w.heap.size (fTar (w.heap.size + 1)) .nilFunc (.bool false) 183 (.cells #[(fTar (w.heap.size + 1)), .bool false] 183) rfl h.blk0
        have hcB := h.blk0.cell 1
        simp at hcB
        have hfB := h.blk0.frozen 1
        have hnB := h.blk0.lt
        have HX := Lib.hid h
        clear h hkv hM hs9 h0 h2 h3 hsz hst5 hst6 hW
        go_wp2
        have h := HX.out
        obtain ⟨c3, c6, c8, d1, d2⟩ := HC.out
        have hF := (((h.blk0.set 0 (fTar (w.heap.size + 1))).set 1 (.bool false)).below ((Below.refl _ _).alloc (Nat.le_refl _) (.cells #[(fTar (w.heap.size + 1)), .bool false] 183)))
        have hF0 := hF.cell 0
        have hF1 := hF.cell 1
        simp at hF0 hF1
        have hbF : Below w.heap.size w (((w'.setCell ⟨w.heap.size, 0, none⟩ (fTar (w.heap.size + 1))).setCell ⟨w.heap.size, 1, none⟩ (.bool false)).alloc (.cells #[(fTar (w.heap.size + 1)), .bool false] 183)) := ((h.below.setCell (Nat.le_refl _) _).setCell (Nat.le_refl _) _).alloc (by simp [World.setCell]; have := h.fit; omega) _
        exact bodyPost_ret (v := .tuple #[.agg #[(fTar (w.heap.size + 1)), .bool false], .bool true]) (by simp [results, Tryd.results140, go_sem, hF0, hF1]) rfl ⟨hbF, .inr ⟨hob, _, rfl, .inr (.inr (.inl ⟨rfl, _, rfl, (((d1.set_ne (by omega) 0 _).set_ne (by omega) 1 _).below ((Below.refl _ _).alloc (Nat.le_refl _) _)).lt, (((d1.set_ne (by omega) 0 _).set_ne (by omega) 1 _).below ((Below.refl _ _).alloc (Nat.le_refl _) _))⟩))⟩⟩
      · rw [show keyIn w.heap.size m b3 b6 b8 L 6 = some (.agg #[(fWgt b6), .bool false]) by unfold keyIn; simp [insAt, valM, hall 22 (by decide)]] at hlook
        simp only [Option.getD_some, Option.isSome_some] at hlook
        clear hall
        have hsA := store_pair Tryd.prog w' (fWgt b6) .nilFunc (.bool false) 183 rfl
        have hsB := store_past Tryd.prog w' w.heap.size (fWgt b6) .nilFunc (.bool false) 183 (.cells #[(fWgt b6), .bool false] 183) rfl h.blk0
        have hcB := h.blk0.cell 1
        simp at hcB
        have hfB := h.blk0.frozen 1
        have hnB := h.blk0.lt
        have HX := Lib.hid h
        clear h hkv hM hs9 h0 h2 h3 hsz hst5 hst6 hW
        go_wp2
        have h := HX.out
        obtain ⟨c3, c6, c8, d1, d2⟩ := HC.out
        have hF := (((h.blk0.set 0 (fWgt b6)).set 1 (.bool false)).below ((Below.refl _ _).alloc (Nat.le_refl _) (.cells #[(fWgt b6), .bool false] 183)))
        have hF0 := hF.cell 0
        have hF1 := hF.cell 1
        simp at hF0 hF1
        have hbF : Below w.heap.size w (((w'.setCell ⟨w.heap.size, 0, none⟩ (fWgt b6)).setCell ⟨w.heap.size, 1, none⟩ (.bool false)).alloc (.cells #[(fWgt b6), .bool false] 183)) := ((h.below.setCell (Nat.le_refl _) _).setCell (Nat.le_refl _) _).alloc (by simp [World.setCell]; have := h.fit; omega) _
        exact bodyPost_ret (v := .tuple #[.agg #[(fWgt b6), .bool false], .bool true]) (by simp [results, Tryd.results140, go_sem, hF0, hF1]) rfl ⟨hbF, .inr ⟨hob, _, rfl, .inr (.inr (.inr (.inr (.inr (.inl ⟨rfl, _, _, rfl, (((c6.2.1.set_ne (by omega) 0 _).set_ne (by omega) 1 _).below ((Below.refl _ _).alloc (Nat.le_refl _) _)).lt, (((c6.2.1.set_ne (by omega) 0 _).set_ne (by omega) 1 _).below ((Below.refl _ _).alloc (Nat.le_refl _) _)), (((d1.set_ne (by omega) 0 _).set_ne (by omega) 1 _).below ((Below.refl _ _).alloc (Nat.le_refl _) _)).lt, (((d1.set_ne (by omega) 0 _).set_ne (by omega) 1 _).below ((Below.refl _ _).alloc (Nat.le_refl _) _))⟩)))))⟩⟩
      · rw [show keyIn w.heap.size m b3 b6 b8 L 7 = some (.agg #[(fLate (w.heap.size + 2)), .bool false]) by unfold keyIn; simp [insAt, valM, hall 25 (by decide)]] at hlook
        simp only [Option.getD_some, Option.isSome_some] at hlook
        clear hall
        have hsA := store_pair Tryd.prog w' (fLate (w.heap.size + 2)) .nilFunc (.bool false) 183 rfl
        have hsB := store_past Tryd.prog w' w.heap.size (fLate (w.heap.size + 2)) .nilFunc (.bool false) 183 (.cells #[(fLate (w.heap.size + 2)), .bool false] 183) rfl h.blk0
        have hcB := h.blk0.cell 1
        simp at hcB
        have hfB := h.blk0.frozen 1
        have hnB := h.blk0.lt
        have HX := Lib.hid h
        clear h hkv hM hs9 h0 h2 h3 hsz hst5 hst6 hW
        go_wp2
        have h := HX.out
        obtain ⟨c3, c6, c8, d1, d2⟩ := HC.out
        have hF := (((h.blk0.set 0 (fLate (w.heap.size + 2))).set 1 (.bool false)).below ((Below.refl _ _).alloc (Nat.le_refl _) (.cells #[(fLate (w.heap.size + 2)), .bool false] 183)))
        have hF0 := hF.cell 0
        have hF1 := hF.cell 1
        simp at hF0 hF1
        have hbF : Below w.heap.size w (((w'.setCell ⟨w.heap.size, 0, none⟩ (fLate (w.heap.size + 2))).setCell ⟨w.heap.size, 1, none⟩ (.bool false)).alloc (.cells #[(fLate (w.heap.size + 2)), .bool false] 183)) := ((h.below.setCell (Nat.le_refl _) _).setCell (Nat.le_refl _) _).alloc (by simp [World.setCell]; have := h.fit; omega) _
        exact bodyPost_ret (v := .tuple #[.agg #[(fLate (w.heap.size + 2)), .bool false], .bool true]) (by simp [results, Tryd.results140, go_sem, hF0, hF1]) rfl ⟨hbF, .inr ⟨hob, _, rfl, .inr (.inr (.inr (.inl ⟨rfl, _, _, rfl, (((d2.set_ne (by omega) 0 _).set_ne (by omega) 1 _).below ((Below.refl _ _).alloc (Nat.le_refl _) _)).lt, (((d2.set_ne (by omega) 0 _).set_ne (by omega) 1 _).below ((Below.refl _ _).alloc (Nat.le_refl _) _)), (((d1.set_ne (by omega) 0 _).set_ne (by omega) 1 _).below ((Below.refl _ _).alloc (Nat.le_refl _) _)).lt, (((d1.set_ne (by omega) 0 _).set_ne (by omega) 1 _).below ((Below.refl _ _).alloc (Nat.le_refl _) _))⟩)))⟩⟩
      · rw [show keyIn w.heap.size m b3 b6 b8 L 8 = some (.agg #[(fWgt b8), .bool false]) by unfold keyIn; simp [insAt, valM, hall 30 (by decide)]] at hlook
        simp only [Option.getD_some, Option.isSome_some] at hlook
        clear hall
        have hsA := store_pair Tryd.prog w' (fWgt b8) .nilFunc (.bool false) 183 rfl
        have hsB := store_past Tryd.prog w' w.heap.size (fWgt b8) .nilFunc (.bool false) 183 (.cells #[(fWgt b8), .bool false] 183) rfl h.blk0
        have hcB := h.blk0.cell 1
        simp at hcB
        have hfB := h.blk0.frozen 1
        have hnB := h.blk0.lt
        have HX := Lib.hid h
        clear h hkv hM hs9 h0 h2 h3 hsz hst5 hst6 hW
        go_wp2
        have h := HX.out
        obtain ⟨c3, c6, c8, d1, d2⟩ := HC.out
        have hF := (((h.blk0.set 0 (fWgt b8)).set 1 (.bool false)).below ((Below.refl _ _).alloc (Nat.le_refl _) (.cells #[(fWgt b8), .bool false] 183)))
        have hF0 := hF.cell 0
        have hF1 := hF.cell 1
        simp at hF0 hF1
        have hbF : Below w.heap.size w (((w'.setCell ⟨w.heap.size, 0, none⟩ (fWgt b8)).setCell ⟨w.heap.size, 1, none⟩ (.bool false)).alloc (.cells #[(fWgt b8), .bool false] 183)) := ((h.below.setCell (Nat.le_refl _) _).setCell (Nat.le_refl _) _).alloc (by simp [World.setCell]; have := h.fit; omega) _
        exact bodyPost_ret (v := .tuple #[.agg #[(fWgt b8), .bool false], .bool true]) (by simp [results, Tryd.results140, go_sem, hF0, hF1]) rfl ⟨hbF, .inr ⟨hob, _, rfl, .inr (.inr (.inr (.inr (.inr (.inr ⟨rfl, _, _, _, rfl, (((c8.2.1.set_ne (by omega) 0 _).set_ne (by omega) 1 _).below ((Below.refl _ _).alloc (Nat.le_refl _) _)).lt, (((c8.2.1.set_ne (by omega) 0 _).set_ne (by omega) 1 _).below ((Below.refl _ _).alloc (Nat.le_refl _) _)), (((d2.set_ne (by omega) 0 _).set_ne (by omega) 1 _).below ((Below.refl _ _).alloc (Nat.le_refl _) _)).lt, (((d2.set_ne (by omega) 0 _).set_ne (by omega) 1 _).below ((Below.refl _ _).alloc (Nat.le_refl _) _)), (((d1.set_ne (by omega) 0 _).set_ne (by omega) 1 _).below ((Below.refl _ _).alloc (Nat.le_refl _) _)).lt, (((d1.set_ne (by omega) 0 _).set_ne (by omega) 1 _).below ((Below.refl _ _).alloc (Nat.le_refl _) _))⟩)))))⟩⟩
  · intro L a w' i op hC hI ho hl hd
    obtain ⟨m, b3, b6, b8, h⟩ := hI
    have hi : i < 33 := (Array.getElem?_eq_some_iff.1 ho).1
    have D := fun e => @dep_of _ L i op ho hd e
    have N := fun j e => @Closed.no _ L hC j e
    clear hC hd
    rcases (by omega : i = 0 ∨ i = 1 ∨ i = 2 ∨ i = 3 ∨ i = 4 ∨ i = 5 ∨ i = 6 ∨ i = 7 ∨ i = 8 ∨ i = 9 ∨ i = 10 ∨ i = 11 ∨ i = 12 ∨ i = 13 ∨ i = 14 ∨ i = 15 ∨ i = 16 ∨ i = 17 ∨ i = 18 ∨ i = 19 ∨ i = 20 ∨ i = 21 ∨ i = 22 ∨ i = 23 ∨ i = 24 ∨ i = 25 ∨ i = 26 ∨ i = 27 ∨ i = 28 ∨ i = 29 ∨ i = 30 ∨ i = 31 ∨ i = 32) with rfl | rfl | rfl | rfl | rfl | rfl | rfl | rfl | rfl | rfl | rfl | rfl | rfl | rfl | rfl | rfl | rfl | rfl | rfl | rfl | rfl | rfl | rfl | rfl | rfl | rfl | rfl | rfl | rfl | rfl | rfl | rfl | rfl
    · obtain rfl := Option.some.inj ho
      have n31 := N 31 0 (by kernel_rfl) hl
      refine wpOp_value ho rfl (w' := w'.alloc (.map #[] 0)) (v := .map (some w'.heap.size)) (by simp [execOp, run_makeMap, go_sem]) ?_
      exact ⟨w'.heap.size, b3, b6, b8, h.make n31 (N 32 31 (by kernel_rfl) n31) (fun key i s hi => by
        unfold insAt at hi
        split at hi
        · obtain ⟨rfl, _⟩ := Prod.mk.inj (Option.some.inj hi); exact N 3 0 (by kernel_rfl) hl
        · obtain ⟨rfl, _⟩ := Prod.mk.inj (Option.some.inj hi); exact N 6 0 (by kernel_rfl) hl
        · obtain ⟨rfl, _⟩ := Prod.mk.inj (Option.some.inj hi); exact N 11 0 (by kernel_rfl) hl
        · obtain ⟨rfl, _⟩ := Prod.mk.inj (Option.some.inj hi); exact N 14 0 (by kernel_rfl) hl
        · obtain ⟨rfl, _⟩ := Prod.mk.inj (Option.some.inj hi); exact N 17 0 (by kernel_rfl) hl
        · obtain ⟨rfl, _⟩ := Prod.mk.inj (Option.some.inj hi); exact N 22 0 (by kernel_rfl) hl
        · obtain ⟨rfl, _⟩ := Prod.mk.inj (Option.some.inj hi); exact N 25 0 (by kernel_rfl) hl
        · obtain ⟨rfl, _⟩ := Prod.mk.inj (Option.some.inj hi); exact N 30 0 (by kernel_rfl) hl
        · cases hi)⟩
    · obtain rfl := Option.some.inj ho
      have e := h.low4
      refine wpOp_value ho rfl (w' := w') (v := valM w.heap.size m b3 b6 b8 1) (by simp [execOp, Act.eval, e, valM]) ?_
      exact ⟨m, b3, b6, b8, h.pure (k := 1) rfl (by decide) (by decide) (by decide) (by decide)⟩
    · obtain rfl := Option.some.inj ho
      have e := h.vals 1 15 rfl (D 1 (by kernel_rfl))
      simp only [valM] at e
      rw [Array.getD_eq_getD_getElem?] at e
      refine wpOp_value ho rfl (w' := w') (v := valM w.heap.size m b3 b6 b8 2) (by simp [execOp, Act.eval, e, valM, go_sem]) ?_
      exact ⟨m, b3, b6, b8, h.pure (k := 2) rfl (by decide) (by decide) (by decide) (by decide)⟩
    · obtain rfl := Option.some.inj ho
      have d0 := D 0 (by kernel_rfl)
      have e1 := h.vals 0 14 rfl d0
      have e2 := h.vals 2 16 rfl (D 2 (by kernel_rfl))
      obtain ⟨_, kvs, hM, hkv⟩ := h.map d0
      obtain ⟨w'', hput, hM', hg, hs⟩ := hM.put (P := Tryd.prog) Tryd.underlying216 Tryd.underlying3 ((1 : Nat) : Int) (valM w.heap.size m b3 b6 b8 2) (ins_fresh (k := 3) (s := 2) (key := 1) rfl hl hkv)
      simp only [valM] at e1
      refine wpOp_skip ho rfl (w' := w'') (by simp at hput; simp [execOp, Act.eval, e1, e2, hput, Result.andThen, go_sem]) ?_
      exact ⟨m, b3, b6, b8, h.ins (k := 3) (s := 2) (key := 1) rfl d0 hl undef hkv hM' hg hs⟩
    · obtain rfl := Option.some.inj ho
      have e := h.low4
      refine wpOp_value ho rfl (w' := w') (v := valM w.heap.size m b3 b6 b8 4) (by simp [execOp, Act.eval, e, valM]) ?_
      exact ⟨m, b3, b6, b8, h.pure (k := 4) rfl (by decide) (by decide) (by decide) (by decide)⟩
    · obtain rfl := Option.some.inj ho
      have e := h.vals 4 17 rfl (D 4 (by kernel_rfl))
      simp only [valM] at e
      rw [Array.getD_eq_getD_getElem?] at e
      refine wpOp_value ho rfl (w' := w') (v := valM w.heap.size m b3 b6 b8 5) (by simp [execOp, Act.eval, e, valM, go_sem]) ?_
      exact ⟨m, b3, b6, b8, h.pure (k := 5) rfl (by decide) (by decide) (by decide) (by decide)⟩
    · obtain rfl := Option.some.inj ho
      have d0 := D 0 (by kernel_rfl)
      have e1 := h.vals 0 14 rfl d0
      have e2 := h.vals 5 18 rfl (D 5 (by kernel_rfl))
      obtain ⟨_, kvs, hM, hkv⟩ := h.map d0
      obtain ⟨w'', hput, hM', hg, hs⟩ := hM.put (P := Tryd.prog) Tryd.underlying216 Tryd.underlying3 ((2 : Nat) : Int) (valM w.heap.size m b3 b6 b8 5) (ins_fresh (k := 6) (s := 5) (key := 2) rfl hl hkv)
      simp only [valM] at e1
      refine wpOp_skip ho rfl (w' := w'') (by simp at hput; simp [execOp, Act.eval, e1, e2, hput, Result.andThen, go_sem]) ?_
      exact ⟨m, b3, b6, b8, h.ins (k := 6) (s := 5) (key := 2) rfl d0 hl undef hkv hM' hg hs⟩
    · obtain rfl := Option.some.inj ho
      have e := h.low8
      refine wpOp_value ho rfl (w' := w') (v := valM w.heap.size m b3 b6 b8 7) (by simp [execOp, Act.eval, e, valM]) ?_
      exact ⟨m, b3, b6, b8, h.pure (k := 7) rfl (by decide) (by decide) (by decide) (by decide)⟩
    · obtain rfl := Option.some.inj ho
      have e := h.low4
      refine wpOp_value ho rfl (w' := w') (v := valM w.heap.size m b3 b6 b8 8) (by simp [execOp, Act.eval, e, valM]) ?_
      exact ⟨m, b3, b6, b8, h.pure (k := 8) rfl (by decide) (by decide) (by decide) (by decide)⟩
    · obtain rfl := Option.some.inj ho
      have e1 := h.vals 7 19 rfl (D 7 (by kernel_rfl))
      have e2 := h.vals 8 20 rfl (D 8 (by kernel_rfl))
      simp only [valM] at e1 e2
      refine wpOp_enter ho rfl (w' := w') (f := 183) (args := #[fEnd]) (by simp [execOp, Act.eval, e1, e2, go_sem]) ((weighted_end w').mono ?_)
      rintro e w'' ⟨rfl, rfl⟩
      have n1 := N 10 9 (by kernel_rfl) hl
      exact ⟨_, rfl, m, w'.heap.size, b6, b8, h.c3_call n1 (N 11 10 (by kernel_rfl) n1)⟩
    · obtain rfl := Option.some.inj ho
      have e := h.vals 9 21 rfl (D 9 (by kernel_rfl))
      simp only [valM] at e
      rw [Array.getD_eq_getD_getElem?] at e
      refine wpOp_value ho rfl (w' := w') (v := valM w.heap.size m b3 b6 b8 10) (by simp [execOp, Act.eval, e, valM, go_sem]) ?_
      exact ⟨m, b3, b6, b8, h.pure (k := 10) rfl (by decide) (by decide) (by decide) (by decide)⟩
    · obtain rfl := Option.some.inj ho
      have d0 := D 0 (by kernel_rfl)
      have e1 := h.vals 0 14 rfl d0
      have e2 := h.vals 10 22 rfl (D 10 (by kernel_rfl))
      obtain ⟨_, kvs, hM, hkv⟩ := h.map d0
      obtain ⟨w'', hput, hM', hg, hs⟩ := hM.put (P := Tryd.prog) Tryd.underlying216 Tryd.underlying3 ((3 : Nat) : Int) (valM w.heap.size m b3 b6 b8 10) (ins_fresh (k := 11) (s := 10) (key := 3) rfl hl hkv)
      simp only [valM] at e1
      refine wpOp_skip ho rfl (w' := w'') (by simp at hput; simp [execOp, Act.eval, e1, e2, hput, Result.andThen, go_sem]) ?_
      exact ⟨m, b3, b6, b8, h.ins (k := 11) (s := 10) (key := 3) rfl d0 hl undef hkv hM' hg hs⟩
    · obtain rfl := Option.some.inj ho
      have e := h.low5
      have hc := h.blk1.cell 0
      simp at hc
      refine wpOp_value ho rfl (w' := w') (v := valM w.heap.size m b3 b6 b8 12) (by simp [execOp, Act.eval, e, valM, hc, go_sem]) ?_
      exact ⟨m, b3, b6, b8, h.pure (k := 12) rfl (by decide) (by decide) (by decide) (by decide)⟩
    · obtain rfl := Option.some.inj ho
      have e := h.vals 12 23 rfl (D 12 (by kernel_rfl))
      simp only [valM] at e
      rw [Array.getD_eq_getD_getElem?] at e
      refine wpOp_value ho rfl (w' := w') (v := valM w.heap.size m b3 b6 b8 13) (by simp [execOp, Act.eval, e, valM, go_sem]) ?_
      exact ⟨m, b3, b6, b8, h.pure (k := 13) rfl (by decide) (by decide) (by decide) (by decide)⟩
    · obtain rfl := Option.some.inj ho
      have d0 := D 0 (by kernel_rfl)
      have e1 := h.vals 0 14 rfl d0
      have e2 := h.vals 13 24 rfl (D 13 (by kernel_rfl))
      obtain ⟨_, kvs, hM, hkv⟩ := h.map d0
      obtain ⟨w'', hput, hM', hg, hs⟩ := hM.put (P := Tryd.prog) Tryd.underlying216 Tryd.underlying3 ((4 : Nat) : Int) (valM w.heap.size m b3 b6 b8 13) (ins_fresh (k := 14) (s := 13) (key := 4) rfl hl hkv)
      simp only [valM] at e1
      refine wpOp_skip ho rfl (w' := w'') (by simp at hput; simp [execOp, Act.eval, e1, e2, hput, Result.andThen, go_sem]) ?_
      exact ⟨m, b3, b6, b8, h.ins (k := 14) (s := 13) (key := 4) rfl d0 hl undef hkv hM' hg hs⟩
    · obtain rfl := Option.some.inj ho
      have e := h.low6
      have hc := h.blk2.cell 0
      simp at hc
      refine wpOp_value ho rfl (w' := w') (v := valM w.heap.size m b3 b6 b8 15) (by simp [execOp, Act.eval, e, valM, hc, go_sem]) ?_
      exact ⟨m, b3, b6, b8, h.pure (k := 15) rfl (by decide) (by decide) (by decide) (by decide)⟩
    · obtain rfl := Option.some.inj ho
      have e := h.vals 15 25 rfl (D 15 (by kernel_rfl))
      simp only [valM] at e
      rw [Array.getD_eq_getD_getElem?] at e
      refine wpOp_value ho rfl (w' := w') (v := valM w.heap.size m b3 b6 b8 16) (by simp [execOp, Act.eval, e, valM, go_sem]) ?_
      exact ⟨m, b3, b6, b8, h.pure (k := 16) rfl (by decide) (by decide) (by decide) (by decide)⟩
    · obtain rfl := Option.some.inj ho
      have d0 := D 0 (by kernel_rfl)
      have e1 := h.vals 0 14 rfl d0
      have e2 := h.vals 16 26 rfl (D 16 (by kernel_rfl))
      obtain ⟨_, kvs, hM, hkv⟩ := h.map d0
      obtain ⟨w'', hput, hM', hg, hs⟩ := hM.put (P := Tryd.prog) Tryd.underlying216 Tryd.underlying3 ((5 : Nat) : Int) (valM w.heap.size m b3 b6 b8 16) (ins_fresh (k := 17) (s := 16) (key := 5) rfl hl hkv)
      simp only [valM] at e1
      refine wpOp_skip ho rfl (w' := w'') (by simp at hput; simp [execOp, Act.eval, e1, e2, hput, Result.andThen, go_sem]) ?_
      exact ⟨m, b3, b6, b8, h.ins (k := 17) (s := 16) (key := 5) rfl d0 hl undef hkv hM' hg hs⟩
    · obtain rfl := Option.some.inj ho
      have e := h.low8
      refine wpOp_value ho rfl (w' := w') (v := valM w.heap.size m b3 b6 b8 18) (by simp [execOp, Act.eval, e, valM]) ?_
      exact ⟨m, b3, b6, b8, h.pure (k := 18) rfl (by decide) (by decide) (by decide) (by decide)⟩
    · obtain rfl := Option.some.inj ho
      have e := h.low6
      have hc := h.blk2.cell 0
      simp at hc
      refine wpOp_value ho rfl (w' := w') (v := valM w.heap.size m b3 b6 b8 19) (by simp [execOp, Act.eval, e, valM, hc, go_sem]) ?_
      exact ⟨m, b3, b6, b8, h.pure (k := 19) rfl (by decide) (by decide) (by decide) (by decide)⟩
    · obtain rfl := Option.some.inj ho
      have e1 := h.vals 18 27 rfl (D 18 (by kernel_rfl))
      have e2 := h.vals 19 28 rfl (D 19 (by kernel_rfl))
      simp only [valM] at e1 e2
      refine wpOp_enter ho rfl (w' := w') (f := 183) (args := #[fTar (w.heap.size + 1)]) (by simp [execOp, Act.eval, e1, e2, go_sem]) ((weighted_tar _ w').mono ?_)
      rintro e w'' ⟨rfl, rfl⟩
      have n1 := N 21 20 (by kernel_rfl) hl
      exact ⟨_, rfl, m, b3, w'.heap.size, b8, h.c6_call n1 (N 22 21 (by kernel_rfl) n1)⟩
    · obtain rfl := Option.some.inj ho
      have e := h.vals 20 29 rfl (D 20 (by kernel_rfl))
      simp only [valM] at e
      rw [Array.getD_eq_getD_getElem?] at e
      refine wpOp_value ho rfl (w' := w') (v := valM w.heap.size m b3 b6 b8 21) (by simp [execOp, Act.eval, e, valM, go_sem]) ?_
      exact ⟨m, b3, b6, b8, h.pure (k := 21) rfl (by decide) (by decide) (by decide) (by decide)⟩
    · obtain rfl := Option.some.inj ho
      have d0 := D 0 (by kernel_rfl)
      have e1 := h.vals 0 14 rfl d0
      have e2 := h.vals 21 30 rfl (D 21 (by kernel_rfl))
      obtain ⟨_, kvs, hM, hkv⟩ := h.map d0
      obtain ⟨w'', hput, hM', hg, hs⟩ := hM.put (P := Tryd.prog) Tryd.underlying216 Tryd.underlying3 ((6 : Nat) : Int) (valM w.heap.size m b3 b6 b8 21) (ins_fresh (k := 22) (s := 21) (key := 6) rfl hl hkv)
      simp only [valM] at e1
      refine wpOp_skip ho rfl (w' := w'') (by simp at hput; simp [execOp, Act.eval, e1, e2, hput, Result.andThen, go_sem]) ?_
      exact ⟨m, b3, b6, b8, h.ins (k := 22) (s := 21) (key := 6) rfl d0 hl undef hkv hM' hg hs⟩
    · obtain rfl := Option.some.inj ho
      have e := h.low7
      refine wpOp_value ho rfl (w' := w') (v := valM w.heap.size m b3 b6 b8 23) (by simp [execOp, Act.eval, e, valM]) ?_
      exact ⟨m, b3, b6, b8, h.pure (k := 23) rfl (by decide) (by decide) (by decide) (by decide)⟩
    · obtain rfl := Option.some.inj ho
      have e := h.vals 23 31 rfl (D 23 (by kernel_rfl))
      simp only [valM] at e
      rw [Array.getD_eq_getD_getElem?] at e
      refine wpOp_value ho rfl (w' := w') (v := valM w.heap.size m b3 b6 b8 24) (by simp [execOp, Act.eval, e, valM, go_sem]) ?_
      exact ⟨m, b3, b6, b8, h.pure (k := 24) rfl (by decide) (by decide) (by decide) (by decide)⟩
    · obtain rfl := Option.some.inj ho
      have d0 := D 0 (by kernel_rfl)
      have e1 := h.vals 0 14 rfl d0
      have e2 := h.vals 24 32 rfl (D 24 (by kernel_rfl))
      obtain ⟨_, kvs, hM, hkv⟩ := h.map d0
      obtain ⟨w'', hput, hM', hg, hs⟩ := hM.put (P := Tryd.prog) Tryd.underlying216 Tryd.underlying3 ((7 : Nat) : Int) (valM w.heap.size m b3 b6 b8 24) (ins_fresh (k := 25) (s := 24) (key := 7) rfl hl hkv)
      simp only [valM] at e1
      refine wpOp_skip ho rfl (w' := w'') (by simp at hput; simp [execOp, Act.eval, e1, e2, hput, Result.andThen, go_sem]) ?_
      exact ⟨m, b3, b6, b8, h.ins (k := 25) (s := 24) (key := 7) rfl d0 hl undef hkv hM' hg hs⟩
    · obtain rfl := Option.some.inj ho
      have e := h.low8
      refine wpOp_value ho rfl (w' := w') (v := valM w.heap.size m b3 b6 b8 26) (by simp [execOp, Act.eval, e, valM]) ?_
      exact ⟨m, b3, b6, b8, h.pure (k := 26) rfl (by decide) (by decide) (by decide) (by decide)⟩
    · obtain rfl := Option.some.inj ho
      have e := h.low7
      refine wpOp_value ho rfl (w' := w') (v := valM w.heap.size m b3 b6 b8 27) (by simp [execOp, Act.eval, e, valM]) ?_
      exact ⟨m, b3, b6, b8, h.pure (k := 27) rfl (by decide) (by decide) (by decide) (by decide)⟩
    · obtain rfl := Option.some.inj ho
      have e1 := h.vals 26 33 rfl (D 26 (by kernel_rfl))
      have e2 := h.vals 27 34 rfl (D 27 (by kernel_rfl))
      simp only [valM] at e1 e2
      refine wpOp_enter ho rfl (w' := w') (f := 183) (args := #[fLate (w.heap.size + 2)]) (by simp [execOp, Act.eval, e1, e2, go_sem]) ((weighted_late _ w').mono ?_)
      rintro e w'' ⟨rfl, rfl⟩
      have n1 := N 29 28 (by kernel_rfl) hl
      exact ⟨_, rfl, m, b3, b6, w'.heap.size, h.c8_call n1 (N 30 29 (by kernel_rfl) n1)⟩
    · obtain rfl := Option.some.inj ho
      have e := h.vals 28 35 rfl (D 28 (by kernel_rfl))
      simp only [valM] at e
      rw [Array.getD_eq_getD_getElem?] at e
      refine wpOp_value ho rfl (w' := w') (v := valM w.heap.size m b3 b6 b8 29) (by simp [execOp, Act.eval, e, valM, go_sem]) ?_
      exact ⟨m, b3, b6, b8, h.pure (k := 29) rfl (by decide) (by decide) (by decide) (by decide)⟩
    · obtain rfl := Option.some.inj ho
      have d0 := D 0 (by kernel_rfl)
      have e1 := h.vals 0 14 rfl d0
      have e2 := h.vals 29 36 rfl (D 29 (by kernel_rfl))
      obtain ⟨_, kvs, hM, hkv⟩ := h.map d0
      obtain ⟨w'', hput, hM', hg, hs⟩ := hM.put (P := Tryd.prog) Tryd.underlying216 Tryd.underlying3 ((8 : Nat) : Int) (valM w.heap.size m b3 b6 b8 29) (ins_fresh (k := 30) (s := 29) (key := 8) rfl hl hkv)
      simp only [valM] at e1
      refine wpOp_skip ho rfl (w' := w'') (by simp at hput; simp [execOp, Act.eval, e1, e2, hput, Result.andThen, go_sem]) ?_
      exact ⟨m, b3, b6, b8, h.ins (k := 30) (s := 29) (key := 8) rfl d0 hl undef hkv hM' hg hs⟩
    · obtain rfl := Option.some.inj ho
      have e := h.vals 0 14 rfl (D 0 (by kernel_rfl))
      simp only [valM] at e
      rw [Array.getD_eq_getD_getElem?] at e
      refine wpOp_value ho rfl (w' := w') (v := valM w.heap.size m b3 b6 b8 31) (by simp [execOp, Act.eval, e, valM, go_sem]) ?_
      exact ⟨m, b3, b6, b8, h.pure (k := 31) rfl (by decide) (by decide) (by decide) (by decide)⟩
    · obtain rfl := Option.some.inj ho
      have e := h.vals 31 37 rfl (D 31 (by kernel_rfl))
      simp only [valM] at e
      rw [Array.getD_eq_getD_getElem?] at e
      refine wpOp_value ho rfl (w' := w') (v := valM w.heap.size m b3 b6 b8 32) (by simp [execOp, Act.eval, e, valM, go_sem]) ?_
      exact ⟨m, b3, b6, b8, h.pure (k := 32) rfl (by decide) (by decide) (by decide) (by decide)⟩
end Go.Proofs.YtjemjdlaoebffaaDoor

end
section
namespace Go.Proofs.YtjemjdlaoebffaaDoor
open Go.RowKit
section
variable (j : J) (x : Int) (w : World) (hj : okJ j = true) (h0 : 0 ≤ x) (h1 : x ≤ 10000)
theorem end_call : Calls Tryd.prog 179 #[.agg #[.int .i64 j.t, .int .i64 j.w, .int .i64 j.r, .int .i64 j.d], .int .i64 x] w fun e w' => e = .returned (.int .i64 x) ∧ Below w.heap.size w w' := by
  go_enter Tryd.func179, Tryd.ntmps179
  go_wp2
  go_ret
  exact ⟨rfl, (Below.refl _ _).alloc (Nat.le_refl _) _⟩
include hj h0 h1
theorem lat_call : Calls Tryd.prog 180 #[.agg #[.int .i64 j.t, .int .i64 j.w, .int .i64 j.r, .int .i64 j.d], .int .i64 x] w fun e w' => e = .returned (.int .i64 (x - j.d)) ∧ Below w.heap.size w w' := by
  obtain ⟨_, _, _, _, _, _, d0, d1⟩ := okJ_out hj
  clear hj
  go_enter Tryd.func180, Tryd.ntmps180
  go_wp2
  go_ret
  exact ⟨rfl, (Below.refl _ _).alloc (Nat.le_refl _) _⟩
theorem tar_call (b : Nat) (hB : BlockIs w b 181 #[fLat]) : Calls Tryd.prog 181 #[.agg #[.int .i64 j.t, .int .i64 j.w, .int .i64 j.r, .int .i64 j.d], .int .i64 x, .pointer (some ⟨b, 0, none⟩)] w fun e w' => e = .returned (.int .i64 (max (x - j.d) 0)) ∧ Below w.heap.size w w' := by
  have hc := hB.cell 0
  simp at hc
  have hb := hB.lt
  clear hB
  by_cases hm : 0 ≤ x - j.d
  · have HM : Hid (max (x - j.d) 0 = x - j.d) := by show _ = _; omega
    have HJ := Lib.hid hj
    clear hj
    go_enter Tryd.func181, Tryd.ntmps181
    go_wp2_with fail
    refine (lat_call j x _ HJ.out h0 h1).mono ?_
    rintro e w1 ⟨rfl, hb1⟩
    go_wp2
    go_ret
    exact ⟨by rw [HM.out]; rfl, ((Below.refl _ _).alloc (Nat.le_refl _) _).trans (hb1.mono (by simp))⟩
  · have HM : Hid (max (x - j.d) 0 = 0) := by show _ = _; omega
    have HJ := Lib.hid hj
    clear hj
    go_enter Tryd.func181, Tryd.ntmps181
    go_wp2_with fail
    refine (lat_call j x _ HJ.out h0 h1).mono ?_
    rintro e w1 ⟨rfl, hb1⟩
    go_wp2
    go_ret
    exact ⟨by rw [HM.out]; rfl, ((Below.refl _ _).alloc (Nat.le_refl _) _).trans (hb1.mono (by simp))⟩
theorem late_call (b c : Nat) (hB : BlockIs w b 181 #[fTar c]) (hC : BlockIs w c 181 #[fLat]) : Calls Tryd.prog 182 #[.agg #[.int .i64 j.t, .int .i64 j.w, .int .i64 j.r, .int .i64 j.d], .int .i64 x, .pointer (some ⟨b, 0, none⟩)] w fun e w' => e = .returned (.int .i64 (min (max (x - j.d) 0) 1)) ∧ Below w.heap.size w w' := by
  have hc := hB.cell 0
  simp at hc
  have hb := hB.lt
  have HC := Lib.hid (hC.below ((Below.refl w.heap.size w).alloc (Nat.le_refl _) (.cells #[.int .i64 j.t, .int .i64 j.w, .int .i64 j.r, .int .i64 j.d] 63)))
  have HJ := Lib.hid hj
  clear hB hC hj
  by_cases hm : max (x - j.d) 0 ≤ 1
  · have HM : Hid (min (max (x - j.d) 0) 1 = max (x - j.d) 0) := by show _ = _; omega
    go_enter Tryd.func182, Tryd.ntmps182
    go_wp2_with fail
    refine (tar_call j x _ HJ.out h0 h1 c HC.out).mono ?_
    rintro e w1 ⟨rfl, hb1⟩
    generalize hy : max (x - j.d) 0 = y at *
    have HY := Lib.hid hy
    clear hy
    go_wp2
    go_ret
    exact ⟨by rw [HY.out, HM.out]; rfl, ((Below.refl _ _).alloc (Nat.le_refl _) _).trans (hb1.mono (by simp))⟩
  · have HM : Hid (min (max (x - j.d) 0) 1 = 1) := by show _ = _; omega
    go_enter Tryd.func182, Tryd.ntmps182
    go_wp2_with fail
    refine (tar_call j x _ HJ.out h0 h1 c HC.out).mono ?_
    rintro e w1 ⟨rfl, hb1⟩
    generalize hy : max (x - j.d) 0 = y at *
    have HY := Lib.hid hy
    clear hy
    go_wp2
    go_ret
    exact ⟨by rw [HY.out, HM.out]; rfl, ((Below.refl _ _).alloc (Nat.le_refl _) _).trans (hb1.mono (by simp))⟩
omit hj h0 h1 in
theorem mul_cost {a b : Int} (ha : 0 ≤ a) (ha' : a ≤ 50) (hb : -10000 ≤ b) (hb' : b ≤ 10000) : -500000 ≤ a * b ∧ a * b ≤ 500000 := by
  have h1 := Int.mul_le_mul_of_nonneg_left hb' ha
  have h2 := Int.mul_le_mul_of_nonneg_left hb ha
  have h3 : a * 10000 ≤ 500000 := by omega
  have h4 : -500000 ≤ a * -10000 := by omega
  omega
set_option maxRecDepth 100000 in
theorem wgt_end (b : Nat) (hB : BlockIs w b 181 #[fEnd]) :
    Calls Tryd.prog 184 #[.agg #[.int .i64 j.t, .int .i64 j.w, .int .i64 j.r, .int .i64 j.d], .int .i64 x, .pointer (some ⟨b, 0, none⟩)] w fun e w' => e = .returned (.int .i64 (j.w * x)) ∧ Below w.heap.size w w' := by
  obtain ⟨_, _, w0, w1, _, _, d0, d1⟩ := okJ_out hj
  have hm := mul_cost w0 w1 (show -10000 ≤ x by omega) (show x ≤ 10000 by omega)
  have hnew := BlockIs.new w 63 #[.int .i64 j.t, .int .i64 j.w, .int .i64 j.r, .int .i64 j.d]
  have hbel : Below w.heap.size w (w.alloc (.cells #[.int .i64 j.t, .int .i64 j.w, .int .i64 j.r, .int .i64 j.d] 63)) := (Below.refl _ _).alloc (Nat.le_refl _) _
  have HJ := Lib.hid hj
  clear hj
  go_enter Tryd.func184, Tryd.ntmps184
  go_wp2_with fail
  refine wp_region_det (by kernel_rfl) (fun w' => Below w.heap.size w w' ∧ BlockIs w' w.heap.size 63 #[.int .i64 j.t, .int .i64 j.w, .int .i64 j.r, .int .i64 j.d])
    (fun i => #[.pointer (some ⟨w.heap.size, 1, none⟩), .int .i64 j.w, fEnd, .agg #[.int .i64 j.t, .int .i64 j.w, .int .i64 j.r, .int .i64 j.d], .int .i64 x, .int .i64 (x), .int .i64 (j.w * x), .int .i64 (j.w * x)].getD i undef) (by kernel_rfl) (by kernel_rfl) ⟨hbel.drew, hnew.drew⟩ ?_ ?_
  · intro tm w' hS hsz hlow hval
    have ht : tm = #[.agg #[.int .i64 j.t, .int .i64 j.w, .int .i64 j.r, .int .i64 j.d], .int .i64 x, .pointer (some ⟨b, 0, none⟩), .pointer (some ⟨w.heap.size, 0, none⟩), undef, .int .i64 (j.w * x), .pointer (some ⟨w.heap.size, 1, none⟩), .int .i64 j.w, fEnd, .agg #[.int .i64 j.t, .int .i64 j.w, .int .i64 j.r, .int .i64 j.d], .int .i64 x, .int .i64 (x), .int .i64 (j.w * x)] := by
      refine arr_of _ _ hsz fun t ht => ?_
      have ht' : t < 13 := ht
      rcases (by omega : t = 0 ∨ t = 1 ∨ t = 2 ∨ t = 3 ∨ t = 4 ∨ t = 5 ∨ t = 6 ∨ t = 7 ∨ t = 8 ∨ t = 9 ∨ t = 10 ∨ t = 11 ∨ t = 12) with rfl | rfl | rfl | rfl | rfl | rfl | rfl | rfl | rfl | rfl | rfl | rfl | rfl
      · exact hlow 0 (by kernel_rfl)
      · exact hlow 1 (by kernel_rfl)
      · exact hlow 2 (by kernel_rfl)
      · exact hlow 3 (by kernel_rfl)
      · exact hlow 4 (by kernel_rfl)
      · exact hval 7 _ 5 rfl rfl
      · exact hval 0 _ 6 rfl rfl
      · exact hval 1 _ 7 rfl rfl
      · exact hval 2 _ 8 rfl rfl
      · exact hval 3 _ 9 rfl rfl
      · exact hval 4 _ 10 rfl rfl
      · exact hval 5 _ 11 rfl rfl
      · exact hval 6 _ 12 rfl rfl
    subst ht
    clear hlow hval
    go_wp2
    go_ret
    exact ⟨rfl, hS.1⟩
  · intro a w' i op ho ⟨hb', hJ⟩ hlow hdep _
    have hi : i < 8 := (Array.getElem?_eq_some_iff.1 ho).1
    have l1 := hlow 1 (by kernel_rfl)
    have l2 := hlow 2 (by kernel_rfl)
    have l3 := hlow 3 (by kernel_rfl)
    have hBc := (hB.below hb').cell 0
    have hJ0 := hJ.cell 0
    have hJ1 := hJ.cell 1
    have hJ2 := hJ.cell 2
    have hJ3 := hJ.cell 3
    simp at hBc hJ0 hJ1 hJ2 hJ3
    have l1 : a.tmps[1]?.getD undef = .int .i64 x := by rw [← Array.getD_eq_getD_getElem?]; exact l1
    have l2 : a.tmps[2]?.getD undef = .pointer (some ⟨b, 0, none⟩) := by rw [← Array.getD_eq_getD_getElem?]; exact l2
    have l3 : a.tmps[3]?.getD undef = .pointer (some ⟨w.heap.size, 0, none⟩) := by rw [← Array.getD_eq_getD_getElem?]; exact l3
    have D : ∀ j oj d, edgeB _ i j = true → _ → _ → a.tmps[d]?.getD undef = _ := fun j oj d h1 h2 h3 => (Array.getD_eq_getD_getElem? ..).symm.trans (hdep j oj d h1 h2 h3)
    rcases (by omega : i = 0 ∨ i = 1 ∨ i = 2 ∨ i = 3 ∨ i = 4 ∨ i = 5 ∨ i = 6 ∨ i = 7) with rfl | rfl | rfl | rfl | rfl | rfl | rfl | rfl
    · obtain rfl := Option.some.inj ho
      exact ⟨rfl, .inl ⟨w', by simp [execOp, Act.eval, l3, go_sem], hb', hJ⟩⟩
    · obtain rfl := Option.some.inj ho
      have e : a.tmps[6]?.getD undef = .pointer (some ⟨w.heap.size, 1, none⟩) := D 0 _ 6 (by kernel_rfl) rfl rfl
      exact ⟨rfl, .inl ⟨w', by simp [execOp, Act.eval, e, hJ1, go_sem], hb', hJ⟩⟩
    · obtain rfl := Option.some.inj ho
      exact ⟨rfl, .inl ⟨w', by simp [execOp, Act.eval, l2, hBc, go_sem], hb', hJ⟩⟩
    · obtain rfl := Option.some.inj ho
      exact ⟨rfl, .inl ⟨w', by simp [execOp, Act.eval, l3, hJ0, hJ1, hJ2, hJ3, go_sem], hb', hJ⟩⟩
    · obtain rfl := Option.some.inj ho
      exact ⟨rfl, .inl ⟨w', by simp [execOp, Act.eval, l1, go_sem], hb', hJ⟩⟩
    · obtain rfl := Option.some.inj ho
      have e8 : a.tmps[8]?.getD undef = fEnd := D 2 _ 8 (by kernel_rfl) rfl rfl
      have e9 : a.tmps[9]?.getD undef = .agg #[.int .i64 j.t, .int .i64 j.w, .int .i64 j.r, .int .i64 j.d] := D 3 _ 9 (by kernel_rfl) rfl rfl
      have e10 : a.tmps[10]?.getD undef = .int .i64 x := D 4 _ 10 (by kernel_rfl) rfl rfl
      refine ⟨rfl, .inr ⟨179, #[.agg #[.int .i64 j.t, .int .i64 j.w, .int .i64 j.r, .int .i64 j.d], .int .i64 x], by simp [execOp, Act.eval, e8, e9, e10, go_sem], (end_call j x _).mono ?_⟩⟩
      rintro e w'' ⟨rfl, hb2⟩
      exact ⟨rfl, hb'.trans (hb2.mono hb'.size), hJ.below hb2⟩
    · obtain rfl := Option.some.inj ho
      have e7 : a.tmps[7]?.getD undef = .int .i64 j.w := D 1 _ 7 (by kernel_rfl) rfl rfl
      have e11 : a.tmps[11]?.getD undef = .int .i64 (x) := D 5 _ 11 (by kernel_rfl) rfl rfl
      exact ⟨rfl, .inl ⟨w', by simp [execOp, Act.eval, e7, e11, go_sem]; exact IntWalk.i64_in _ (by omega), hb', hJ⟩⟩
    · obtain rfl := Option.some.inj ho
      have e12 : a.tmps[12]?.getD undef = .int .i64 (j.w * x) := D 6 _ 12 (by kernel_rfl) rfl rfl
      exact ⟨rfl, .inl ⟨w', by simp [execOp, Act.eval, e12, go_sem], hb', hJ⟩⟩
set_option maxRecDepth 100000 in
theorem wgt_tar (b c : Nat) (hB : BlockIs w b 181 #[fTar c]) (hC : BlockIs w c 181 #[fLat]) :
    Calls Tryd.prog 184 #[.agg #[.int .i64 j.t, .int .i64 j.w, .int .i64 j.r, .int .i64 j.d], .int .i64 x, .pointer (some ⟨b, 0, none⟩)] w fun e w' => e = .returned (.int .i64 (j.w * max (x - j.d) 0)) ∧ Below w.heap.size w w' := by
  obtain ⟨_, _, w0, w1, _, _, d0, d1⟩ := okJ_out hj
  have hm := mul_cost w0 w1 (show -10000 ≤ max (x - j.d) 0 by omega) (show max (x - j.d) 0 ≤ 10000 by omega)
  have hnew := BlockIs.new w 63 #[.int .i64 j.t, .int .i64 j.w, .int .i64 j.r, .int .i64 j.d]
  have hbel : Below w.heap.size w (w.alloc (.cells #[.int .i64 j.t, .int .i64 j.w, .int .i64 j.r, .int .i64 j.d] 63)) := (Below.refl _ _).alloc (Nat.le_refl _) _
  have HJ := Lib.hid hj
  clear hj
  go_enter Tryd.func184, Tryd.ntmps184
  go_wp2_with fail
  refine wp_region_det (by kernel_rfl) (fun w' => Below w.heap.size w w' ∧ BlockIs w' w.heap.size 63 #[.int .i64 j.t, .int .i64 j.w, .int .i64 j.r, .int .i64 j.d])
    (fun i => #[.pointer (some ⟨w.heap.size, 1, none⟩), .int .i64 j.w, fTar c, .agg #[.int .i64 j.t, .int .i64 j.w, .int .i64 j.r, .int .i64 j.d], .int .i64 x, .int .i64 (max (x - j.d) 0), .int .i64 (j.w * max (x - j.d) 0), .int .i64 (j.w * max (x - j.d) 0)].getD i undef) (by kernel_rfl) (by kernel_rfl) ⟨hbel.drew, hnew.drew⟩ ?_ ?_
  · intro tm w' hS hsz hlow hval
    have ht : tm = #[.agg #[.int .i64 j.t, .int .i64 j.w, .int .i64 j.r, .int .i64 j.d], .int .i64 x, .pointer (some ⟨b, 0, none⟩), .pointer (some ⟨w.heap.size, 0, none⟩), undef, .int .i64 (j.w * max (x - j.d) 0), .pointer (some ⟨w.heap.size, 1, none⟩), .int .i64 j.w, fTar c, .agg #[.int .i64 j.t, .int .i64 j.w, .int .i64 j.r, .int .i64 j.d], .int .i64 x, .int .i64 (max (x - j.d) 0), .int .i64 (j.w * max (x - j.d) 0)] := by
      refine arr_of _ _ hsz fun t ht => ?_
      have ht' : t < 13 := ht
      rcases (by omega : t = 0 ∨ t = 1 ∨ t = 2 ∨ t = 3 ∨ t = 4 ∨ t = 5 ∨ t = 6 ∨ t = 7 ∨ t = 8 ∨ t = 9 ∨ t = 10 ∨ t = 11 ∨ t = 12) with rfl | rfl | rfl | rfl | rfl | rfl | rfl | rfl | rfl | rfl | rfl | rfl | rfl
      · exact hlow 0 (by kernel_rfl)
      · exact hlow 1 (by kernel_rfl)
      · exact hlow 2 (by kernel_rfl)
      · exact hlow 3 (by kernel_rfl)
      · exact hlow 4 (by kernel_rfl)
      · exact hval 7 _ 5 rfl rfl
      · exact hval 0 _ 6 rfl rfl
      · exact hval 1 _ 7 rfl rfl
      · exact hval 2 _ 8 rfl rfl
      · exact hval 3 _ 9 rfl rfl
      · exact hval 4 _ 10 rfl rfl
      · exact hval 5 _ 11 rfl rfl
      · exact hval 6 _ 12 rfl rfl
    subst ht
    clear hlow hval
    go_wp2
    go_ret
    exact ⟨rfl, hS.1⟩
  · intro a w' i op ho ⟨hb', hJ⟩ hlow hdep _
    have hi : i < 8 := (Array.getElem?_eq_some_iff.1 ho).1
    have l1 := hlow 1 (by kernel_rfl)
    have l2 := hlow 2 (by kernel_rfl)
    have l3 := hlow 3 (by kernel_rfl)
    have hBc := (hB.below hb').cell 0
    have hJ0 := hJ.cell 0
    have hJ1 := hJ.cell 1
    have hJ2 := hJ.cell 2
    have hJ3 := hJ.cell 3
    simp at hBc hJ0 hJ1 hJ2 hJ3
    have l1 : a.tmps[1]?.getD undef = .int .i64 x := by rw [← Array.getD_eq_getD_getElem?]; exact l1
    have l2 : a.tmps[2]?.getD undef = .pointer (some ⟨b, 0, none⟩) := by rw [← Array.getD_eq_getD_getElem?]; exact l2
    have l3 : a.tmps[3]?.getD undef = .pointer (some ⟨w.heap.size, 0, none⟩) := by rw [← Array.getD_eq_getD_getElem?]; exact l3
    have D : ∀ j oj d, edgeB _ i j = true → _ → _ → a.tmps[d]?.getD undef = _ := fun j oj d h1 h2 h3 => (Array.getD_eq_getD_getElem? ..).symm.trans (hdep j oj d h1 h2 h3)
    rcases (by omega : i = 0 ∨ i = 1 ∨ i = 2 ∨ i = 3 ∨ i = 4 ∨ i = 5 ∨ i = 6 ∨ i = 7) with rfl | rfl | rfl | rfl | rfl | rfl | rfl | rfl
    · obtain rfl := Option.some.inj ho
      exact ⟨rfl, .inl ⟨w', by simp [execOp, Act.eval, l3, go_sem], hb', hJ⟩⟩
    · obtain rfl := Option.some.inj ho
      have e : a.tmps[6]?.getD undef = .pointer (some ⟨w.heap.size, 1, none⟩) := D 0 _ 6 (by kernel_rfl) rfl rfl
      exact ⟨rfl, .inl ⟨w', by simp [execOp, Act.eval, e, hJ1, go_sem], hb', hJ⟩⟩
    · obtain rfl := Option.some.inj ho
      exact ⟨rfl, .inl ⟨w', by simp [execOp, Act.eval, l2, hBc, go_sem], hb', hJ⟩⟩
    · obtain rfl := Option.some.inj ho
      exact ⟨rfl, .inl ⟨w', by simp [execOp, Act.eval, l3, hJ0, hJ1, hJ2, hJ3, go_sem], hb', hJ⟩⟩
    · obtain rfl := Option.some.inj ho
      exact ⟨rfl, .inl ⟨w', by simp [execOp, Act.eval, l1, go_sem], hb', hJ⟩⟩
    · obtain rfl := Option.some.inj ho
      have e8 : a.tmps[8]?.getD undef = fTar c := D 2 _ 8 (by kernel_rfl) rfl rfl
      have e9 : a.tmps[9]?.getD undef = .agg #[.int .i64 j.t, .int .i64 j.w, .int .i64 j.r, .int .i64 j.d] := D 3 _ 9 (by kernel_rfl) rfl rfl
      have e10 : a.tmps[10]?.getD undef = .int .i64 x := D 4 _ 10 (by kernel_rfl) rfl rfl
      refine ⟨rfl, .inr ⟨181, #[.agg #[.int .i64 j.t, .int .i64 j.w, .int .i64 j.r, .int .i64 j.d], .int .i64 x, .pointer (some ⟨c, 0, none⟩)], by simp [execOp, Act.eval, e8, e9, e10, go_sem], (tar_call j x _ HJ.out h0 h1 c (hC.below hb')).mono ?_⟩⟩
      rintro e w'' ⟨rfl, hb2⟩
      exact ⟨rfl, hb'.trans (hb2.mono hb'.size), hJ.below hb2⟩
    · obtain rfl := Option.some.inj ho
      have e7 : a.tmps[7]?.getD undef = .int .i64 j.w := D 1 _ 7 (by kernel_rfl) rfl rfl
      have e11 : a.tmps[11]?.getD undef = .int .i64 (max (x - j.d) 0) := D 5 _ 11 (by kernel_rfl) rfl rfl
      exact ⟨rfl, .inl ⟨w', by simp [execOp, Act.eval, e7, e11, go_sem]; exact IntWalk.i64_in _ (by omega), hb', hJ⟩⟩
    · obtain rfl := Option.some.inj ho
      have e12 : a.tmps[12]?.getD undef = .int .i64 (j.w * max (x - j.d) 0) := D 6 _ 12 (by kernel_rfl) rfl rfl
      exact ⟨rfl, .inl ⟨w', by simp [execOp, Act.eval, e12, go_sem], hb', hJ⟩⟩
set_option maxRecDepth 100000 in
theorem wgt_late (b c d : Nat) (hB : BlockIs w b 181 #[fLate c]) (hC : BlockIs w c 181 #[fTar d]) (hD : BlockIs w d 181 #[fLat]) :
    Calls Tryd.prog 184 #[.agg #[.int .i64 j.t, .int .i64 j.w, .int .i64 j.r, .int .i64 j.d], .int .i64 x, .pointer (some ⟨b, 0, none⟩)] w fun e w' => e = .returned (.int .i64 (j.w * min (max (x - j.d) 0) 1)) ∧ Below w.heap.size w w' := by
  obtain ⟨_, _, w0, w1, _, _, d0, d1⟩ := okJ_out hj
  have hm := mul_cost w0 w1 (show -10000 ≤ min (max (x - j.d) 0) 1 by omega) (show min (max (x - j.d) 0) 1 ≤ 10000 by omega)
  have hnew := BlockIs.new w 63 #[.int .i64 j.t, .int .i64 j.w, .int .i64 j.r, .int .i64 j.d]
  have hbel : Below w.heap.size w (w.alloc (.cells #[.int .i64 j.t, .int .i64 j.w, .int .i64 j.r, .int .i64 j.d] 63)) := (Below.refl _ _).alloc (Nat.le_refl _) _
  have HJ := Lib.hid hj
  clear hj
  go_enter Tryd.func184, Tryd.ntmps184
  go_wp2_with fail
  refine wp_region_det (by kernel_rfl) (fun w' => Below w.heap.size w w' ∧ BlockIs w' w.heap.size 63 #[.int .i64 j.t, .int .i64 j.w, .int .i64 j.r, .int .i64 j.d])
    (fun i => #[.pointer (some ⟨w.heap.size, 1, none⟩), .int .i64 j.w, fLate c, .agg #[.int .i64 j.t, .int .i64 j.w, .int .i64 j.r, .int .i64 j.d], .int .i64 x, .int .i64 (min (max (x - j.d) 0) 1), .int .i64 (j.w * min (max (x - j.d) 0) 1), .int .i64 (j.w * min (max (x - j.d) 0) 1)].getD i undef) (by kernel_rfl) (by kernel_rfl) ⟨hbel.drew, hnew.drew⟩ ?_ ?_
  · intro tm w' hS hsz hlow hval
    have ht : tm = #[.agg #[.int .i64 j.t, .int .i64 j.w, .int .i64 j.r, .int .i64 j.d], .int .i64 x, .pointer (some ⟨b, 0, none⟩), .pointer (some ⟨w.heap.size, 0, none⟩), undef, .int .i64 (j.w * min (max (x - j.d) 0) 1), .pointer (some ⟨w.heap.size, 1, none⟩), .int .i64 j.w, fLate c, .agg #[.int .i64 j.t, .int .i64 j.w, .int .i64 j.r, .int .i64 j.d], .int .i64 x, .int .i64 (min (max (x - j.d) 0) 1), .int .i64 (j.w * min (max (x - j.d) 0) 1)] := by
      refine arr_of _ _ hsz fun t ht => ?_
      have ht' : t < 13 := ht
      rcases (by omega : t = 0 ∨ t = 1 ∨ t = 2 ∨ t = 3 ∨ t = 4 ∨ t = 5 ∨ t = 6 ∨ t = 7 ∨ t = 8 ∨ t = 9 ∨ t = 10 ∨ t = 11 ∨ t = 12) with rfl | rfl | rfl | rfl | rfl | rfl | rfl | rfl | rfl | rfl | rfl | rfl | rfl
      · exact hlow 0 (by kernel_rfl)
      · exact hlow 1 (by kernel_rfl)
      · exact hlow 2 (by kernel_rfl)
      · exact hlow 3 (by kernel_rfl)
      · exact hlow 4 (by kernel_rfl)
      · exact hval 7 _ 5 rfl rfl
      · exact hval 0 _ 6 rfl rfl
      · exact hval 1 _ 7 rfl rfl
      · exact hval 2 _ 8 rfl rfl
      · exact hval 3 _ 9 rfl rfl
      · exact hval 4 _ 10 rfl rfl
      · exact hval 5 _ 11 rfl rfl
      · exact hval 6 _ 12 rfl rfl
    subst ht
    clear hlow hval
    go_wp2
    go_ret
    exact ⟨rfl, hS.1⟩
  · intro a w' i op ho ⟨hb', hJ⟩ hlow hdep _
    have hi : i < 8 := (Array.getElem?_eq_some_iff.1 ho).1
    have l1 := hlow 1 (by kernel_rfl)
    have l2 := hlow 2 (by kernel_rfl)
    have l3 := hlow 3 (by kernel_rfl)
    have hBc := (hB.below hb').cell 0
    have hJ0 := hJ.cell 0
    have hJ1 := hJ.cell 1
    have hJ2 := hJ.cell 2
    have hJ3 := hJ.cell 3
    simp at hBc hJ0 hJ1 hJ2 hJ3
    have l1 : a.tmps[1]?.getD undef = .int .i64 x := by rw [← Array.getD_eq_getD_getElem?]; exact l1
    have l2 : a.tmps[2]?.getD undef = .pointer (some ⟨b, 0, none⟩) := by rw [← Array.getD_eq_getD_getElem?]; exact l2
    have l3 : a.tmps[3]?.getD undef = .pointer (some ⟨w.heap.size, 0, none⟩) := by rw [← Array.getD_eq_getD_getElem?]; exact l3
    have D : ∀ j oj d, edgeB _ i j = true → _ → _ → a.tmps[d]?.getD undef = _ := fun j oj d h1 h2 h3 => (Array.getD_eq_getD_getElem? ..).symm.trans (hdep j oj d h1 h2 h3)
    rcases (by omega : i = 0 ∨ i = 1 ∨ i = 2 ∨ i = 3 ∨ i = 4 ∨ i = 5 ∨ i = 6 ∨ i = 7) with rfl | rfl | rfl | rfl | rfl | rfl | rfl | rfl
    · obtain rfl := Option.some.inj ho
      exact ⟨rfl, .inl ⟨w', by simp [execOp, Act.eval, l3, go_sem], hb', hJ⟩⟩
    · obtain rfl := Option.some.inj ho
      have e : a.tmps[6]?.getD undef = .pointer (some ⟨w.heap.size, 1, none⟩) := D 0 _ 6 (by kernel_rfl) rfl rfl
      exact ⟨rfl, .inl ⟨w', by simp [execOp, Act.eval, e, hJ1, go_sem], hb', hJ⟩⟩
    · obtain rfl := Option.some.inj ho
      exact ⟨rfl, .inl ⟨w', by simp [execOp, Act.eval, l2, hBc, go_sem], hb', hJ⟩⟩
    · obtain rfl := Option.some.inj ho
      exact ⟨rfl, .inl ⟨w', by simp [execOp, Act.eval, l3, hJ0, hJ1, hJ2, hJ3, go_sem], hb', hJ⟩⟩
    · obtain rfl := Option.some.inj ho
      exact ⟨rfl, .inl ⟨w', by simp [execOp, Act.eval, l1, go_sem], hb', hJ⟩⟩
    · obtain rfl := Option.some.inj ho
      have e8 : a.tmps[8]?.getD undef = fLate c := D 2 _ 8 (by kernel_rfl) rfl rfl
      have e9 : a.tmps[9]?.getD undef = .agg #[.int .i64 j.t, .int .i64 j.w, .int .i64 j.r, .int .i64 j.d] := D 3 _ 9 (by kernel_rfl) rfl rfl
      have e10 : a.tmps[10]?.getD undef = .int .i64 x := D 4 _ 10 (by kernel_rfl) rfl rfl
      refine ⟨rfl, .inr ⟨182, #[.agg #[.int .i64 j.t, .int .i64 j.w, .int .i64 j.r, .int .i64 j.d], .int .i64 x, .pointer (some ⟨c, 0, none⟩)], by simp [execOp, Act.eval, e8, e9, e10, go_sem], (late_call j x _ HJ.out h0 h1 c d (hC.below hb') (hD.below hb')).mono ?_⟩⟩
      rintro e w'' ⟨rfl, hb2⟩
      exact ⟨rfl, hb'.trans (hb2.mono hb'.size), hJ.below hb2⟩
    · obtain rfl := Option.some.inj ho
      have e7 : a.tmps[7]?.getD undef = .int .i64 j.w := D 1 _ 7 (by kernel_rfl) rfl rfl
      have e11 : a.tmps[11]?.getD undef = .int .i64 (min (max (x - j.d) 0) 1) := D 5 _ 11 (by kernel_rfl) rfl rfl
      exact ⟨rfl, .inl ⟨w', by simp [execOp, Act.eval, e7, e11, go_sem]; exact IntWalk.i64_in _ (by omega), hb', hJ⟩⟩
    · obtain rfl := Option.some.inj ho
      have e12 : a.tmps[12]?.getD undef = .int .i64 (j.w * min (max (x - j.d) 0) 1) := D 6 _ 12 (by kernel_rfl) rfl rfl
      exact ⟨rfl, .inl ⟨w', by simp [execOp, Act.eval, e12, go_sem], hb', hJ⟩⟩
end
/-- The cost, at each of the functions: one walk that meets the call by this serves them all. -/
theorem cost_call {B : Nat} {w : World} {o : Int} {fv : Value} (h : FnIs B w o fv) : ∃ (f : Nat) (caps : Array Value), fv = .func (.func f) #[] caps ∧ (∀ (args : Array Value) (w1 : World), (callFunc f args).run Tryd.prog w1 = .ok (.enter f args) w1) ∧
    ∀ (w1 : World) (j : J) (x : Int), (∀ b, b < B → w1.heap[b]? = w.heap[b]?) → okJ j = true → 0 ≤ x → x ≤ 10000 →
      Calls Tryd.prog f (#[.agg #[.int .i64 j.t, .int .i64 j.w, .int .i64 j.r, .int .i64 j.d], .int .i64 x] ++ caps) w1 fun e w2 => e = .returned (.int .i64 (costOf o j x)) ∧ Below w1.heap.size w1 w2 := by
  have K : ∀ {w1 : World} {b : Nat} {t : TypeId} {cs : Array Value}, (∀ b, b < B → w1.heap[b]? = w.heap[b]?) → b < B → BlockIs w b t cs → BlockIs w1 b t cs := fun hk hb h => (hk _ hb).trans h
  rcases h with ⟨rfl | rfl, rfl⟩ | ⟨rfl, rfl⟩ | ⟨rfl, b, rfl, h2, h3⟩ | ⟨rfl, b, c, rfl, h2, h3, h4, h5⟩ | ⟨rfl, b, rfl, h2, h3⟩ | ⟨rfl, b, c, rfl, h2, h3, h4, h5⟩ | ⟨rfl, b, c, d, rfl, h2, h3, h4, h5, h6, h7⟩
  · exact ⟨_, _, rfl, fun _ _ => by kernel_rfl, fun w1 j x hk hj h0 h1 => end_call j x w1⟩
  · exact ⟨_, _, rfl, fun _ _ => by kernel_rfl, fun w1 j x hk hj h0 h1 => end_call j x w1⟩
  · exact ⟨_, _, rfl, fun _ _ => by kernel_rfl, fun w1 j x hk hj h0 h1 => lat_call j x w1 hj h0 h1⟩
  · exact ⟨_, _, rfl, fun _ _ => by kernel_rfl, fun w1 j x hk hj h0 h1 => tar_call j x w1 hj h0 h1 b (K hk h2 h3)⟩
  · exact ⟨_, _, rfl, fun _ _ => by kernel_rfl, fun w1 j x hk hj h0 h1 => late_call j x w1 hj h0 h1 b c (K hk h2 h3) (K hk h4 h5)⟩
  · exact ⟨_, _, rfl, fun _ _ => by kernel_rfl, fun w1 j x hk hj h0 h1 => wgt_end j x w1 hj h0 h1 b (K hk h2 h3)⟩
  · exact ⟨_, _, rfl, fun _ _ => by kernel_rfl, fun w1 j x hk hj h0 h1 => wgt_tar j x w1 hj h0 h1 b c (K hk h2 h3) (K hk h4 h5)⟩
  · exact ⟨_, _, rfl, fun _ _ => by kernel_rfl, fun w1 j x hk hj h0 h1 => wgt_late j x w1 hj h0 h1 b c d (K hk h2 h3) (K hk h4 h5) (K hk h6 h7)⟩
end Go.Proofs.YtjemjdlaoebffaaDoor

end
section
namespace Go.Proofs.YtjemjdlaoebffaaDoor
open Go.RowKit
set_option maxRecDepth 100000 in
set_option maxHeartbeats 1000000 in
theorem extended_any {B : Nat} {w : World} {o : Int} {fv : Value} (h : FnIs B w o fv) (hB : B ≤ w.heap.size) (ho : isObj o = true) (k : Nat) (hk : k ≤ 8) (v : Int) (hv0 : -500 ≤ v) (hv1 : v ≤ 50000 * k) (j : J) (hj : okJ j = true) (x : Int) (h0 : 0 ≤ x) (h1 : x ≤ 1000) :
    Calls Tryd.prog 141 #[.agg #[fv, .bool (isTop o)], .int .i64 (k : Int), .int .i64 v, .agg #[.int .i64 j.t, .int .i64 j.w, .int .i64 j.r, .int .i64 j.d], .int .i64 x] w fun e w' => e = .returned (.int .i64 (extOf o k v (costOf o j x))) ∧ Below w.heap.size w w' := by
  obtain ⟨f, caps, rfl, hcf, hcall⟩ := cost_call h
  obtain ⟨c0, c1, _⟩ := cost_bd ho hj h0 h1
  have hc := hcall (((w.alloc (.cells #[.func (.func f) #[] caps, .bool (isTop o)] 183))).alloc (.cells #[.int .i64 j.t, .int .i64 j.w, .int .i64 j.r, .int .i64 j.d] 63)) j x (fun b hb => by
    have b1 : Below w.heap.size w ((w.alloc (.cells #[.func (.func f) #[] caps, .bool (isTop o)] 183)).alloc (.cells #[.int .i64 j.t, .int .i64 j.w, .int .i64 j.r, .int .i64 j.d] 63)) := ((Below.refl _ _).alloc (Nat.le_refl _) _).alloc (by simp) _
    exact b1.block b (by omega)) hj h0 (by omega)
  have HC := Lib.hid hc
  have HE : Hid (extOf o k v (costOf o j x) = if k = 0 then costOf o j x else if isTop o then max v (costOf o j x) else v + costOf o j x) := rfl
  clear hcall hc h hj
  generalize hev : extOf o k v (costOf o j x) = ev at *
  clear hev
  generalize costOf o j x = c at *
  cases ht : isTop o
  · rw [ht] at HC HE
    by_cases hk0 : k = 0
    · subst hk0
      go_enter Tryd.func141, Tryd.ntmps141
      go_wp2_with fail
      refine HC.out.mono ?_
      rintro e w2 ⟨rfl, hb2⟩
      have hbw : Below w.heap.size w ((w.alloc (.cells #[.func (.func f) #[] caps, .bool false] 183)).alloc (.cells #[.int .i64 j.t, .int .i64 j.w, .int .i64 j.r, .int .i64 j.d] 63)) := ((Below.refl _ _).alloc (Nat.le_refl _) _).alloc (by simp) _
      have hbx := hbw.trans (hb2.mono (by simp; omega))
      have hM := (((BlockIs.new w 183 #[.func (.func f) #[] caps, .bool false]).below ((Below.refl _ _).alloc (Nat.le_refl _) (.cells #[.int .i64 j.t, .int .i64 j.w, .int .i64 j.r, .int .i64 j.d] 63))).below hb2).cell 1
      simp at hM
      have HX := Lib.hid hbx
      clear hbx hbw hb2 HC hcf
      go_wp2
      go_ret
      exact ⟨by rw [HE.out]; rfl, HX.out⟩
    · skip
      go_enter Tryd.func141, Tryd.ntmps141
      go_wp2_with fail
      refine HC.out.mono ?_
      rintro e w2 ⟨rfl, hb2⟩
      have hbw : Below w.heap.size w ((w.alloc (.cells #[.func (.func f) #[] caps, .bool false] 183)).alloc (.cells #[.int .i64 j.t, .int .i64 j.w, .int .i64 j.r, .int .i64 j.d] 63)) := ((Below.refl _ _).alloc (Nat.le_refl _) _).alloc (by simp) _
      have hbx := hbw.trans (hb2.mono (by simp; omega))
      have hM := (((BlockIs.new w 183 #[.func (.func f) #[] caps, .bool false]).below ((Below.refl _ _).alloc (Nat.le_refl _) (.cells #[.int .i64 j.t, .int .i64 j.w, .int .i64 j.r, .int .i64 j.d] 63))).below hb2).cell 1
      simp at hM
      have HX := Lib.hid hbx
      clear hbx hbw hb2 HC hcf
      have hk1 : ((k : Int) == 0) = false := by simp; omega
      have HE' : Hid (ev = v + c) := by show _ = _; rw [HE.out, if_neg hk0]; rfl
      go_wp2
      go_ret
      exact ⟨by rw [HE'.out]; rfl, HX.out⟩
  · rw [ht] at HC HE
    by_cases hk0 : k = 0
    · subst hk0
      go_enter Tryd.func141, Tryd.ntmps141
      go_wp2_with fail
      refine HC.out.mono ?_
      rintro e w2 ⟨rfl, hb2⟩
      have hbw : Below w.heap.size w ((w.alloc (.cells #[.func (.func f) #[] caps, .bool true] 183)).alloc (.cells #[.int .i64 j.t, .int .i64 j.w, .int .i64 j.r, .int .i64 j.d] 63)) := ((Below.refl _ _).alloc (Nat.le_refl _) _).alloc (by simp) _
      have hbx := hbw.trans (hb2.mono (by simp; omega))
      have hM := (((BlockIs.new w 183 #[.func (.func f) #[] caps, .bool true]).below ((Below.refl _ _).alloc (Nat.le_refl _) (.cells #[.int .i64 j.t, .int .i64 j.w, .int .i64 j.r, .int .i64 j.d] 63))).below hb2).cell 1
      simp at hM
      have HX := Lib.hid hbx
      clear hbx hbw hb2 HC hcf
      go_wp2
      go_ret
      exact ⟨by rw [HE.out]; rfl, HX.out⟩
    · by_cases hcmp : v < c
      · skip
        go_enter Tryd.func141, Tryd.ntmps141
        go_wp2_with fail
        refine HC.out.mono ?_
        rintro e w2 ⟨rfl, hb2⟩
        have hbw : Below w.heap.size w ((w.alloc (.cells #[.func (.func f) #[] caps, .bool true] 183)).alloc (.cells #[.int .i64 j.t, .int .i64 j.w, .int .i64 j.r, .int .i64 j.d] 63)) := ((Below.refl _ _).alloc (Nat.le_refl _) _).alloc (by simp) _
        have hbx := hbw.trans (hb2.mono (by simp; omega))
        have hM := (((BlockIs.new w 183 #[.func (.func f) #[] caps, .bool true]).below ((Below.refl _ _).alloc (Nat.le_refl _) (.cells #[.int .i64 j.t, .int .i64 j.w, .int .i64 j.r, .int .i64 j.d] 63))).below hb2).cell 1
        simp at hM
        have HX := Lib.hid hbx
        clear hbx hbw hb2 HC hcf
        have hk1 : ((k : Int) == 0) = false := by simp; omega
        have HE' : Hid (ev = max v c) := by show _ = _; rw [HE.out, if_neg hk0]; rfl
        have hmx : Hid (max v c = c) := by show _ = _; omega
        go_wp2
        go_ret
        exact ⟨by rw [HE'.out, hmx.out]; rfl, HX.out⟩
      · skip
        go_enter Tryd.func141, Tryd.ntmps141
        go_wp2_with fail
        refine HC.out.mono ?_
        rintro e w2 ⟨rfl, hb2⟩
        have hbw : Below w.heap.size w ((w.alloc (.cells #[.func (.func f) #[] caps, .bool true] 183)).alloc (.cells #[.int .i64 j.t, .int .i64 j.w, .int .i64 j.r, .int .i64 j.d] 63)) := ((Below.refl _ _).alloc (Nat.le_refl _) _).alloc (by simp) _
        have hbx := hbw.trans (hb2.mono (by simp; omega))
        have hM := (((BlockIs.new w 183 #[.func (.func f) #[] caps, .bool true]).below ((Below.refl _ _).alloc (Nat.le_refl _) (.cells #[.int .i64 j.t, .int .i64 j.w, .int .i64 j.r, .int .i64 j.d] 63))).below hb2).cell 1
        simp at hM
        have HX := Lib.hid hbx
        clear hbx hbw hb2 HC hcf
        have hk1 : ((k : Int) == 0) = false := by simp; omega
        have HE' : Hid (ev = max v c) := by show _ = _; rw [HE.out, if_neg hk0]; rfl
        have hmx : Hid (max v c = v) := by show _ = _; omega
        go_wp2
        go_ret
        exact ⟨by rw [HE'.out, hmx.out]; rfl, HX.out⟩
end Go.Proofs.YtjemjdlaoebffaaDoor

end
section
namespace Go.Proofs.YtjemjdlaoebffaaDoor
open Go.RowKit
/-- The first number that is not 0. -/
def orL : List Int → Int
  | [] => 0
  | x :: l => if x ≠ 0 then x else orL l
theorem orL_hit : ∀ (l : List Int) (k : Nat) (h : k < l.length), (∀ i (hi : i < l.length), i < k → l[i] = 0) → l[k] ≠ 0 → orL l = l[k]
  | x :: l, 0, _, _, h0 => by simp only [List.getElem_cons_zero] at h0 ⊢; unfold orL; rw [if_pos h0]
  | x :: l, k + 1, h, ha, h0 => by
    have hx := ha 0 (by simp) (by omega)
    simp only [List.getElem_cons_zero] at hx
    unfold orL
    rw [if_neg (fun e => e hx)]
    simp only [List.getElem_cons_succ] at h0 ⊢
    exact orL_hit l k (by simpa using h) (fun i hi hik => by have := ha (i + 1) (by simpa using hi) (by omega); simpa using this) h0
theorem orL_none : ∀ (l : List Int), (∀ i (hi : i < l.length), l[i] = 0) → orL l = 0
  | [], _ => rfl
  | x :: l, ha => by
    have hx := ha 0 (by simp)
    simp only [List.getElem_cons_zero] at hx
    unfold orL
    rw [if_neg (fun e => e hx)]
    exact orL_none l (fun i hi => by have := ha (i + 1) (by simpa using hi); simpa using this)
theorem cmpOr_any (B : Option Addr) (d : Nat) (xs : List Int) (w : World) (hr : Row w B (ic xs)) (hn : xs.length ≤ 1000) :
    Calls Tryd.prog 172 #[.slice B xs.length d] w fun e w' => e = .returned (.int .i64 (orL xs)) ∧ w = w' := by
  go_enter Tryd.func172, Tryd.ntmps172
  go_wp2
  go_loop [8] (fun i => ∃ k : Nat, k ≤ xs.length ∧ i = .int .i64 k ∧ Hid (∀ i (hi : i < xs.length), i < k → xs[i] = 0)) (fun i => xs.length - (intOf i).toNat)
  case atStart => exact ⟨0, Nat.zero_le _, rfl, fun _ _ h => absurd h (by omega)⟩
  case round =>
    obtain ⟨k, hk, rfl, hA⟩ := hrel
    by_cases hlt : k < xs.length
    · obtain ⟨ad, hB, hc⟩ := hr.int hlt
      subst hB
      have hk0 : (0 : Int) ≤ k := by omega
      have hk1 : (k : Int) < xs.length := by omega
      by_cases h0 : xs[k] = 0
      · have HA : Hid (∀ i (hi : i < xs.length), i < k + 1 → xs[i] = 0) := fun i hi hik => by
          by_cases e : i = k
          · subst e; exact h0
          · exact hA.out i hi (by omega)
        have e0 : (xs[k] != 0) = false := by rw [h0]; rfl
        clear h0 hA hr
        generalize xs[k] = x at *
        go_wp2
        go_round
        case rel => exact ⟨k + 1, by omega, by go_num, HA.out⟩
        case measure => simp [intOf]; omega
      · have HO := Lib.hid (orL_hit xs k hlt hA.out h0)
        have e0 : (xs[k] != 0) = true := by simpa using h0
        clear h0 hA hr
        generalize xs[k] = x at *
        go_wp2
        go_ret
        exact ⟨by rw [HO.out]; rfl, rfl⟩
    · obtain rfl : k = xs.length := by omega
      have HO := Lib.hid (orL_none xs (fun i hi => hA.out i hi hi))
      clear hA
      go_wp2
      go_ret
      exact ⟨by rw [HO.out]; rfl, rfl⟩
section
variable (A : Option Addr) (c : Nat) (js : List J) (w : World) (hr : Row w A (jc js)) (hok : ∀ j ∈ js, okJ j = true) (h8 : js.length ≤ 8) (i k : Nat) (hi : i < js.length) (hk : k < js.length)
include hr hok h8 hi hk
set_option maxRecDepth 100000 in
set_option maxHeartbeats 4000000 in
theorem compareDue_any : Calls Tryd.prog 144 #[.slice A js.length c, .int .i64 (i : Int), .int .i64 (k : Int)] w fun e w' => e = .returned (.int .i64 (cmpD js i k)) ∧ Below w.heap.size w w' := by
  obtain ⟨ad, rfl, hadb, a0, a1, a2, a3⟩ := hr.job hi
  obtain ⟨ad', hA', _, b0, b1, b2, b3⟩ := hr.job hk
  injection hA' with hA'
  subst hA'
  have HS : Hid (cmpD js i k = orL [js[i].d - js[k].d, js[i].t - js[k].t, (i : Int) - k]) := by
    show _ = _
    unfold cmpD
    rw [getD_at js j0 hi, getD_at js j0 hk]
    unfold orL orL orL orL
    split
    · rfl
    · split
      · rfl
      · split
        · rfl
        · omega
  obtain ⟨x1, x2, x3, x4, x5, x6, x7, x8⟩ := okJ_out (hok _ (List.getElem_mem hi))
  obtain ⟨y1, y2, y3, y4, y5, y6, y7, y8⟩ := okJ_out (hok _ (List.getElem_mem hk))
  have hi0 : (0 : Int) ≤ i := by omega
  have hi1 : (i : Int) < js.length := by omega
  have hk0 : (0 : Int) ≤ k := by omega
  have hk1 : (k : Int) < js.length := by omega
  clear hr hok
  generalize js[i] = x at *
  generalize js[k] = y at *
  have hbA : Below w.heap.size w (w.alloc (.cells #[.int .i64 (x.d - y.d), .int .i64 (x.t - y.t), .int .i64 ((i : Int) - k)] 3)) := (Below.refl _ _).alloc (Nat.le_refl _) _
  have HR : Hid (Row (w.alloc (.cells #[.int .i64 (x.d - y.d), .int .i64 (x.t - y.t), .int .i64 ((i : Int) - k)] 3)).drew (some ⟨w.heap.size, 0, none⟩) (ic [x.d - y.d, x.t - y.t, (i : Int) - k])) := (Row.new w 3 #[.int .i64 (x.d - y.d), .int .i64 (x.t - y.t), .int .i64 ((i : Int) - k)]).drew
  have HBA := Lib.hid hbA.drew
  clear hbA
  have wr1 := IntWalk.i64_in (x.d - y.d) (by omega)
  have wr2 := IntWalk.i64_in (x.t - y.t) (by omega)
  have wr3 := IntWalk.i64_in ((i : Int) - k) (by omega)
  go_enter Tryd.func144, Tryd.ntmps144
  go_wp2
  go_still_tail 25, (by kernel_rfl)
  go_wp2_with fail
  refine (cmpOr_any _ 3 [x.d - y.d, x.t - y.t, (i : Int) - k] _ HR.out (by simp)).mono ?_
  rintro e _ ⟨rfl, rfl⟩
  go_wp2
  go_ret
  exact ⟨by rw [HS.out]; rfl, HBA.out⟩
end
end Go.Proofs.YtjemjdlaoebffaaDoor

end
section
namespace Go.Proofs.YtjemjdlaoebffaaDoor
section
variable (ob : Int) (js : List J)
def isortTo (q : List Nat) (k : Nat) : List Nat := (q.take k).foldl (fun acc x => insN ob js x acc) []
def isortL (q : List Nat) : List Nat := isortTo ob js q q.length
theorem isortTo_succ (q : List Nat) {k : Nat} (h : k < q.length) : isortTo ob js q (k + 1) = insN ob js q[k] (isortTo ob js q k) := by
  unfold isortTo
  rw [List.take_succ_eq_append_getElem h, List.foldl_append]; rfl
theorem isortTo_all (q : List Nat) {k : Nat} (h : q.length ≤ k) : isortTo ob js q k = isortL ob js q := by
  unfold isortL isortTo
  rw [List.take_of_length_le h, List.take_of_length_le (Nat.le_refl _)]
theorem isortTo_one (q : List Nat) : isortTo ob js q 1 ++ q.drop 1 = q := by
  cases q with
  | nil => rfl
  | cons x q => rfl
theorem foldl_ins_perm : ∀ (l acc : List Nat), (l.foldl (fun acc x => insN ob js x acc) acc).Perm (l ++ acc)
  | [], acc => List.Perm.refl _
  | x :: l, acc => by
    rw [List.foldl_cons]
    refine (foldl_ins_perm l _).trans ?_
    refine (List.Perm.append_left l (insN_perm ob js x acc)).trans ?_
    exact List.perm_middle
theorem isortTo_perm (q : List Nat) (k : Nat) : (isortTo ob js q k).Perm (q.take k) := by
  have := foldl_ins_perm ob js (q.take k) []
  rwa [List.append_nil] at this
theorem isortTo_len (q : List Nat) {k : Nat} (h : k ≤ q.length) : (isortTo ob js q k).length = k := by
  have := (isortTo_perm ob js q k).length_eq
  rw [this, List.length_take]; omega
theorem isortL_perm (q : List Nat) : (isortL ob js q).Perm q := by
  have := isortTo_perm ob js q q.length
  rwa [List.take_of_length_le (Nat.le_refl _)] at this
theorem isortL_len (q : List Nat) : (isortL ob js q).length = q.length := (isortL_perm ob js q).length_eq
theorem isort_ruled : ∀ (k n : Nat), k ≤ n → isortTo ob js (List.range n) k = ruledTo ob js k
  | 0, n, _ => rfl
  | k + 1, n, h => by
    rw [isortTo_succ ob js (List.range n) (k := k) (by simp; omega), isort_ruled k n (by omega)]
    simp [ruledTo]
theorem isortL_ruled : isortL ob js (List.range js.length) = ruledL ob js := by
  unfold isortL ruledL
  rw [List.length_range]; exact isort_ruled ob js _ _ (Nat.le_refl _)
end
section
variable {ob : Int} {js : List J}
theorem foldl_ins_sorted (hg : ∀ j ∈ js, okJ j = true) : ∀ (l acc : List Nat), (∀ x ∈ l, x < js.length) → (∀ x ∈ acc, x < js.length) → SortedN ob js acc → SortedN ob js (l.foldl (fun acc x => insN ob js x acc) acc)
  | [], _, _, _, h => h
  | x :: l, acc, hl, ha, h => by
    rw [List.foldl_cons]
    refine foldl_ins_sorted hg l _ (fun y hy => hl y (List.mem_cons_of_mem _ hy)) (fun y hy => ?_) (insN_sorted hg (hl x List.mem_cons_self) ha h)
    rcases List.mem_cons.1 ((insN_perm ob js x acc).mem_iff.1 hy) with e | e
    · subst e; exact hl y List.mem_cons_self
    · exact ha y e
theorem isortTo_sorted (hg : ∀ j ∈ js, okJ j = true) {q : List Nat} (hq : ∀ x ∈ q, x < js.length) (k : Nat) : SortedN ob js (isortTo ob js q k) :=
  foldl_ins_sorted hg _ _ (fun x hx => hq x (List.mem_of_mem_take hx)) (by simp) List.Pairwise.nil
theorem isortTo_lt {q : List Nat} (hq : ∀ x ∈ q, x < js.length) {k x : Nat} (hx : x ∈ isortTo ob js q k) : x < js.length := hq x (List.mem_of_mem_take ((isortTo_perm ob js q k).mem_iff.1 hx))
end
/-- The list while one job moves forward. -/
def midL (out rest : List Nat) (x j : Nat) : List Nat := out.take j ++ x :: (out.drop j ++ rest)
theorem midL_len (out rest : List Nat) (x : Nat) {j : Nat} (h : j ≤ out.length) : (midL out rest x j).length = out.length + 1 + rest.length := by unfold midL; simp; omega
theorem midL_at (out rest : List Nat) (x : Nat) {j : Nat} (h : j ≤ out.length) : (midL out rest x j)[j]? = some x := by
  unfold midL
  rw [List.getElem?_append_right (by simp; omega)]
  have : (out.take j).length = j := by simp; omega
  rw [this, Nat.sub_self]; rfl
theorem midL_prev (out rest : List Nat) (x : Nat) {j : Nat} (h : j < out.length) : (midL out rest x (j + 1))[j]? = some out[j] := by
  unfold midL
  rw [List.getElem?_append_left (by simp; omega), List.getElem?_take, if_pos (by omega), List.getElem?_eq_getElem h]
theorem midL_swap (out rest : List Nat) (x : Nat) {j : Nat} (h : j < out.length) : ((midL out rest x (j + 1)).set (j + 1) out[j]).set j x = midL out rest x j := by
  unfold midL
  have e1 : out.take (j + 1) = out.take j ++ [out[j]] := List.take_succ_eq_append_getElem h
  have e2 : out.drop j = out[j] :: out.drop (j + 1) := List.drop_eq_getElem_cons h
  have hl : (out.take j).length = j := by simp; omega
  rw [e1, List.append_assoc, List.set_append_right _ _ (by omega), List.set_append_right _ _ (by omega), hl]
  rw [show j + 1 - j = 1 by omega, Nat.sub_self, e2]
  rfl
theorem midL_start (out rest : List Nat) (x : Nat) : midL out rest x out.length = out ++ x :: rest := by unfold midL; simp
end Go.Proofs.YtjemjdlaoebffaaDoor

end
section
namespace Go.Proofs.YtjemjdlaoebffaaDoor
theorem soon_asym {js : List J} {i k : Nat} (h : soonB js i k = true) : soonB js k i = false := by
  rw [cmpD_soon] at *
  have h1 := of_decide_eq_true h
  refine decide_eq_false ?_
  unfold cmpD at *
  split at h1 <;> split <;> first | omega | (split at h1 <;> split <;> omega)
def SoonL (js : List J) (l : List Nat) : Prop := l.Pairwise fun a b => soonB js a b = true
theorem insD_sorted {js : List J} {x : Nat} : ∀ {ys : List Nat}, SoonL js ys → x ∉ ys → SoonL js (insD js x ys)
  | [], _, _ => by unfold insD; exact List.pairwise_singleton _ _
  | y :: ys, h, hx => by
    obtain ⟨h1, h2⟩ := List.pairwise_cons.1 h
    unfold insD
    split
    · rename_i hy
      refine List.pairwise_cons.2 ⟨fun z hz => ?_, insD_sorted h2 (fun e => hx (List.mem_cons_of_mem _ e))⟩
      rcases List.mem_cons.1 ((insD_perm js x ys).mem_iff.1 hz) with e | e
      · rw [e]; exact hy
      · exact h1 z e
    · rename_i hy
      have hxy : soonB js x y = true := soon_total (fun e => hx (by rw [← e]; exact List.mem_cons_self)) (by simpa using hy)
      refine List.pairwise_cons.2 ⟨fun z hz => ?_, h⟩
      rcases List.mem_cons.1 hz with e | e
      · rw [e]; exact hxy
      · exact soon_trans hxy (h1 z e)
theorem dueTo_fresh {js : List J} {l : List Nat} (hd : l.Nodup) {k : Nat} (hk : k < l.length) : l[k] ∉ dueTo js l k := fun h => by
  have h1 := (dueTo_perm js l k (by omega)).mem_iff.1 h
  obtain ⟨i, hi, he⟩ := List.mem_iff_getElem.1 h1
  rw [List.getElem_take] at he
  rw [List.length_take] at hi
  have := (List.getElem_inj hd).1 he
  omega
theorem dueTo_sorted {js : List J} {l : List Nat} (hd : l.Nodup) : ∀ k, k ≤ l.length → SoonL js (dueTo js l k)
  | 0, _ => List.Pairwise.nil
  | k + 1, h => by
    have e : l.getD k 0 = l[k] := by simp [List.getD, show k < l.length by omega]
    unfold dueTo
    rw [e]
    exact insD_sorted (dueTo_sorted hd k (by omega)) (dueTo_fresh hd (by omega))
theorem dueTo_succ {js : List J} {l : List Nat} {k : Nat} (hk : k < l.length) : dueTo js l (k + 1) = insD js l[k] (dueTo js l k) := by
  have e : l.getD k 0 = l[k] := by simp [List.getD, hk]
  rw [← e]; rfl
theorem dueTo_one (js : List J) (q : List Nat) : dueTo js q 1 ++ q.drop 1 = q ∨ q = [] := by
  cases q with
  | nil => exact .inr rfl
  | cons x q => exact .inl rfl
/-- Put in from the back. -/
theorem insD_back {js : List J} {x : Nat} {out : List Nat} (hs : SoonL js out) (hx : x ∉ out) {j : Nat} (hj : j ≤ out.length) (h1 : ∀ h : 0 < j, soonB js x (out[j - 1]'(by omega)) = false) (h2 : ∀ i (h : i < out.length), j ≤ i → soonB js x out[i] = true) : insD js x out = out.take j ++ [x] ++ out.drop j := by
  refine insD_at js x out j hj (fun a ha => ?_) (fun h => soon_asym (h2 j h (Nat.le_refl _)))
  obtain ⟨i, hi, rfl⟩ := List.mem_iff_getElem.1 ha
  rw [List.length_take] at hi
  rw [List.getElem_take]
  have hj0 : 0 < j := by omega
  have hlast : soonB js (out[j - 1]'(by omega)) x = true := soon_total (fun e => hx (by rw [e]; exact List.getElem_mem _)) (h1 hj0)
  by_cases e : i = j - 1
  · subst e; exact hlast
  · exact soon_trans (List.pairwise_iff_getElem.1 hs i (j - 1) (by omega) (by omega) (by omega)) hlast
end Go.Proofs.YtjemjdlaoebffaaDoor

end
section
namespace Go.Proofs.YtjemjdlaoebffaaDoor
open Go.RowKit

/-- The cells of a slice of slices: where each one lies. -/
def slC (vs : List (Option Addr × Nat)) (css : List (List Value)) : List Value := List.zipWith (fun v cs => Value.slice v.1 cs.length v.2) vs css
theorem slC_len {vs : List (Option Addr × Nat)} {css : List (List Value)} (h : vs.length = css.length) : (slC vs css).length = css.length := by unfold slC; simp [h]
theorem slC_get {vs : List (Option Addr × Nat)} {css : List (List Value)} (h : vs.length = css.length) {i : Nat} (hi : i < css.length) : (slC vs css)[i]'(by rw [slC_len h]; exact hi) = .slice (vs[i]'(by omega)).1 css[i].length (vs[i]'(by omega)).2 := by unfold slC; simp
/-- What lies where a slice of slices is read. -/
def RowSS (w : World) (A : Option Addr) (css : List (List Value)) : Prop := ∃ vs : List (Option Addr × Nat), vs.length = css.length ∧ Row w A (slC vs css) ∧ ∀ (i : Nat) (h : i < css.length) (h' : i < vs.length), Row w vs[i].1 css[i]
/-- A slice of slices of one's own, from lo on and below hi, no two of them in one block. -/
def SegSS (w : World) (lo hi : Nat) (A : Option Addr) (n c : Nat) (css : List (List Value)) : Prop := n = css.length ∧ ∃ vs : List (Option Addr × Nat), vs.length = css.length ∧ Seg w 23 1 lo hi A n c (slC vs css) ∧
  (∀ (i : Nat) (h : i < css.length) (h' : i < vs.length), Seg w 3 1 lo hi vs[i].1 css[i].length vs[i].2 css[i]) ∧
  ∀ (i j : Nat) (h : i < vs.length) (h' : j < vs.length) (a b : Addr), i ≠ j → vs[i].1 = some a → vs[j].1 = some b → a.block ≠ b.block
def totC (css : List (List Value)) : Nat := (css.map List.length).sum
section
variable {w w' : World} {lo hi : Nat} {A : Option Addr} {n c : Nat} {css : List (List Value)}
theorem SegSS.row (h : SegSS w lo hi A n c css) : RowSS w A css := by
  obtain ⟨_, vs, h1, h2, h3, _⟩ := h
  exact ⟨vs, h1, h2.row, fun i a b => (h3 i a b).row⟩
theorem SegSS.keep {a b : Nat} (h : SegSS w lo hi A n c css) (ht : Touch a b w w') (hd : hi ≤ a ∨ b ≤ lo) : SegSS w' lo hi A n c css := by
  obtain ⟨h0, vs, h1, h2, h3, h4⟩ := h
  exact ⟨h0, vs, h1, h2.keep ht hd, fun i a b => (h3 i a b).keep ht hd, h4⟩
theorem SegSS.below (h : SegSS w lo hi A n c css) (hb : Below w.heap.size w w') : SegSS w' lo hi A n c css := by
  obtain ⟨h0, vs, h1, h2, h3, h4⟩ := h
  exact ⟨h0, vs, h1, h2.below hb, fun i a b => (h3 i a b).below hb, h4⟩
theorem SegSS.fit (h : SegSS w lo hi A n c css) : hi ≤ w.heap.size := by
  obtain ⟨_, vs, _, h2, _⟩ := h
  exact h2.fit
theorem RowSS.below (h : RowSS w A css) (hb : Below w.heap.size w w') : RowSS w' A css := by
  obtain ⟨vs, h1, h2, h3⟩ := h
  exact ⟨vs, h1, h2.below hb, fun i a b => (h3 i a b).below hb⟩
theorem RowSS.at_ {w : World} {A : Option Addr} {css : List (List Value)} (h : RowSS w A css) {k : Nat} (hk : k < css.length) : ∃ ad B d, A = some ad ∧ w.cell? (ad.add k) = some (.slice B css[k].length d) ∧ Row w B css[k] := by
  obtain ⟨vs, h1, h2, h3⟩ := h
  obtain ⟨ad, e, hc⟩ := h2.at_ (k := k) (by rw [slC_len h1]; exact hk)
  rw [slC_get h1 hk] at hc
  exact ⟨ad, _, _, e, hc, h3 k hk (by omega)⟩
end
/-- The marks of a slice of slices, from a number on. -/
def marksSS : Nat → List Nat → List (List Value)
  | _, [] => []
  | k, n :: ns => marksI k n :: marksSS (k + n) ns
theorem marksSS_len : ∀ (k : Nat) (ns : List Nat), (marksSS k ns).length = ns.length
  | _, [] => rfl
  | k, n :: ns => by simp [marksSS, marksSS_len (k + n) ns]
theorem marksSS_get : ∀ (k : Nat) (ns : List Nat) (i : Nat) (h : i < ns.length), (marksSS k ns)[i]'(by rw [marksSS_len]; exact h) = marksI (k + (ns.take i).sum) ns[i]
  | k, n :: ns, 0, _ => by simp [marksSS]
  | k, n :: ns, i + 1, h => by
    simp only [marksSS, List.getElem_cons_succ, List.take_succ_cons, List.sum_cons]
    rw [marksSS_get (k + n) ns i (by simpa using h), Nat.add_assoc]
theorem take_sum (ns : List Nat) : ∀ i, (ns.take i).sum ≤ ns.sum := by
  induction ns with
  | nil => intro i; simp
  | cons n ns ih =>
    intro i
    cases i with
    | zero => simp
    | succ i => have := ih i; simp; omega
theorem take_sum_succ (ns : List Nat) (i : Nat) (h : i < ns.length) : (ns.take (i + 1)).sum = (ns.take i).sum + ns[i] := by
  rw [List.take_succ_eq_append_getElem h, List.sum_append]; simp
/-- The first k are marked, the others are as they were. -/
def mixSS (k0 m : Nat) (css : List (List Value)) : List (List Value) := (marksSS k0 (css.map List.length)).take m ++ css.drop m
theorem mixSS_len (k0 m : Nat) (css : List (List Value)) (h : m ≤ css.length) : (mixSS k0 m css).length = css.length := by
  unfold mixSS; simp [marksSS_len]; omega
theorem mixSS_get {k0 m : Nat} {css : List (List Value)} (hm : m ≤ css.length) {i : Nat} (hi : i < css.length) : (mixSS k0 m css)[i]'(by rw [mixSS_len _ _ _ hm]; exact hi) = if i < m then marksI (k0 + ((css.map List.length).take i).sum) css[i].length else css[i] := by
  have hl : (marksSS k0 (css.map List.length)).length = css.length := by rw [marksSS_len]; simp
  by_cases h : i < m
  · rw [if_pos h]
    unfold mixSS
    rw [List.getElem_append_left (by simp [hl]; omega), List.getElem_take, marksSS_get _ _ _ (by simpa using hi)]
    simp
  · rw [if_neg h]
    unfold mixSS
    have h2 : ((marksSS k0 (css.map List.length)).take m).length = m := by simp [hl]; omega
    rw [List.getElem_append_right (by omega)]
    simp only [h2, List.getElem_drop]
    congr 1
    omega
theorem mixSS_zero (k0 : Nat) (css : List (List Value)) : mixSS k0 0 css = css := by unfold mixSS; simp
theorem mixSS_all (k0 : Nat) (css : List (List Value)) : mixSS k0 css.length css = marksSS k0 (css.map List.length) := by
  unfold mixSS
  rw [List.take_of_length_le (by rw [marksSS_len]; simp), List.drop_length, List.append_nil]
theorem mixSS_lens (k0 m : Nat) (css : List (List Value)) (hm : m ≤ css.length) : ∀ i (hi : i < css.length), ((mixSS k0 m css)[i]'(by rw [mixSS_len _ _ _ hm]; exact hi)).length = css[i].length := by
  intro i hi
  rw [mixSS_get hm hi]
  split
  · rw [marksI_len]
  · rfl
theorem Seg.keep_block {w w' : World} {e : TypeId} {size lo hi : Nat} {A : Option Addr} {n c : Nat} {cs : List Value} (h : Seg w e size lo hi A n c cs) (hs : hi ≤ w'.heap.size) (hk : ∀ g cur, A = some ⟨g, 0, none⟩ → BlockIs w g e cur → w'.heap[g]? = w.heap[g]?) : Seg w' e size lo hi A n c cs := by
  refine ⟨⟨h.own.1, ?_⟩, h.top, hs⟩
  rcases h.own.2 with ⟨hv, h0⟩ | ⟨g, cap, cur, hv, hb, hg, hr⟩
  · exact .inl ⟨hv, h0⟩
  · have hA : A = some ⟨g, 0, none⟩ := by injection hv
    exact .inr ⟨g, cap, cur, hv, hb, (hk g cur hA hg).trans hg, hr⟩
/-- As SegSS, where each one lies being known. -/
def SegV (vs : List (Option Addr × Nat)) (w : World) (lo hi : Nat) (A : Option Addr) (n c : Nat) (css : List (List Value)) : Prop := n = css.length ∧ vs.length = css.length ∧ Seg w 23 1 lo hi A n c (slC vs css) ∧
  (∀ (i : Nat) (h : i < css.length) (h' : i < vs.length), Seg w 3 1 lo hi vs[i].1 css[i].length vs[i].2 css[i]) ∧
  ∀ (i j : Nat) (h : i < vs.length) (h' : j < vs.length) (a b : Addr), i ≠ j → vs[i].1 = some a → vs[j].1 = some b → a.block ≠ b.block
theorem slC_same {vs : List (Option Addr × Nat)} {css dss : List (List Value)} (h : vs.length = css.length) (hl : dss.length = css.length) (he : ∀ i (hi : i < css.length), (dss[i]'(by omega)).length = css[i].length) : slC vs dss = slC vs css := by
  apply List.ext_getElem
  · rw [slC_len (by omega), slC_len h, hl]
  · intro i h1 h2
    rw [slC_len h] at h2
    rw [slC_get (by omega) (by omega), slC_get h h2, he i h2]
theorem segV_mark {vs : List (Option Addr × Nat)} {w w' : World} {lo hi : Nat} {A : Option Addr} {n c : Nat} {css : List (List Value)} {k0 m : Nat} (hm : m < css.length) (h : SegV vs w lo hi A n c (mixSS k0 m css)) (hv : vs.length = css.length)
    (ho : w'.ownsRow lo 3 1 (.slice (vs[m]'(by omega)).1 css[m].length (vs[m]'(by omega)).2) css[m].length (marksI (k0 + ((css.map List.length).take m).sum) css[m].length)) (hg : w.grownBy w' (Value.slice (vs[m]'(by omega)).1 css[m].length (vs[m]'(by omega)).2).ownBlock) (hs : w'.heap.size = w.heap.size) : SegV vs w' lo hi A n c (mixSS k0 (m + 1) css) := by
  obtain ⟨h0, h1, h2, h3, h4⟩ := h
  have e0 := mixSS_len k0 m css (by omega)
  have e1 := mixSS_len k0 (m + 1) css (by omega)
  have hfit := h2.fit
  have hself := h3 m (by omega) (by omega)
  have hE : slC vs (mixSS k0 (m + 1) css) = slC vs (mixSS k0 m css) := slC_same (by omega) (by omega) fun i hi => by
    rw [mixSS_lens k0 (m + 1) css (by omega) i (by omega), mixSS_lens k0 m css (by omega) i (by omega)]
  have hown : ∀ g, g < w.heap.size → (∀ a, (vs[m]'(by omega)).1 = some a → a.block ≠ g) → w'.heap[g]? = w.heap[g]? := fun g hgl hne => by
    refine hg.block g hgl fun e => ?_
    cases ha : (vs[m]'(by omega)).1 with
    | none => rw [ha] at e; cases e
    | some a =>
      rw [ha] at e
      have : a.block = g := by injection e with e; exact e.symm
      exact hne a ha this
  refine ⟨by omega, by omega, ?_, ?_, h4⟩
  · rw [hE]
    refine h2.keep_block (by omega) fun g cur hA hB => hown g hB.lt fun a ha e => ?_
    subst e
    rcases hself.own.2 with ⟨hv0, _⟩ | ⟨g', cap, cur', hv0, _, hg', _⟩
    · injection hv0 with hv0; rw [ha] at hv0; cases hv0
    · injection hv0 with hv0
      rw [ha] at hv0
      injection hv0 with hv0
      subst hv0
      unfold BlockIs at hB
      simp only at hB
      rw [hg'] at hB
      injection hB with hB
      injection hB with _ h5 _
      exact absurd h5 (by decide)
  · intro i hi' hiv
    by_cases e : i = m
    · subst e
      have := mixSS_get (k0 := k0) (m := i + 1) (css := css) (by omega) (i := i) (by omega)
      rw [if_pos (by omega)] at this
      have hl := mixSS_lens k0 (i + 1) css (by omega) i (by omega)
      rw [this]
      rw [this, marksI_len] at hl
      simp only [marksI_len]
      exact ⟨ho, (by
        intro ad ha
        exact hself.top ad ha), by omega⟩
    · have g1 := mixSS_get (k0 := k0) (m := m + 1) (css := css) (by omega) (i := i) (by omega)
      have g2 := mixSS_get (k0 := k0) (m := m) (css := css) (by omega) (i := i) (by omega)
      have hsame : (mixSS k0 (m + 1) css)[i]'(by omega) = (mixSS k0 m css)[i]'(by omega) := by
        rw [g1, g2]
        by_cases hh : i < m
        · rw [if_pos hh, if_pos (by omega)]
        · rw [if_neg hh, if_neg (by omega)]
      rw [hsame]
      refine (h3 i (by omega) hiv).keep_block (by omega) fun g cur hA hB => hown g hB.lt fun a ha e' => ?_
      exact h4 m i (by omega) hiv a ⟨g, 0, none⟩ (fun e2 => e e2.symm) ha hA e'
/-- What a function hands back: a list of lists of ints, memory of its own, and a bool. -/
def RetSSB (w : World) (r : List (List Int) × Bool) (e : Ending) (w' : World) : Prop :=
  ∃ A c, e = .returned (.tuple #[.slice A r.1.length c, .bool r.2]) ∧ SegSS w' w.heap.size w'.heap.size A r.1.length c (r.1.map ic) ∧ Below w.heap.size w w'
end Go.Proofs.YtjemjdlaoebffaaDoor

end
section
namespace Go.Proofs.YtjemjdlaoebffaaDoor
open Go.RowKit
section
variable {w w' w1 : World} {B : Nat} {e : TypeId} {size : Nat} {v : Value} {n : Nat} {xs : List Value}
theorem own_to (h : w.ownsRow B e size v n xs) (hk : ∀ g, v.ownBlock = some g → B ≤ g → g < w.heap.size → w'.heap[g]? = w.heap[g]?) : w'.ownsRow B e size v n xs := by
  refine ⟨h.1, ?_⟩
  rcases h.2 with hn | ⟨g, cap, cur, hv, hB, hg, r⟩
  · exact .inl hn
  · exact .inr ⟨g, cap, cur, hv, hB, (hk g (by rw [hv]; rfl) hB (Array.getElem?_eq_some_iff.1 hg).1).trans hg, r⟩
theorem own_blw (h : w.ownsRow B e size v n xs) (hb : Below w.heap.size w w') : w'.ownsRow B e size v n xs := own_to h fun g _ _ hg => hb.block g hg
theorem own_low {B' : Nat} (h : w.ownsRow B' e size v n xs) (hB : B ≤ B') : w.ownsRow B e size v n xs :=
  ⟨h.1, h.2.imp id fun ⟨g, cap, cur, hv, hb, r⟩ => ⟨g, cap, cur, hv, Nat.le_trans hB hb, r⟩⟩
/-- The type of the block that a slice owns. -/
theorem own_type (h : w.ownsRow B e size v n xs) {g : Nat} (hg : v.ownBlock = some g) : g < w.heap.size ∧ B ≤ g ∧ ∃ cur, BlockIs w g e cur := by
  rcases h.2 with ⟨hv, _⟩ | ⟨g', cap, cur, hv, hB, hk, _⟩
  · rw [hv] at hg; cases hg
  · rw [hv] at hg
    have : g' = g := by injection hg
    subst this
    exact ⟨(Array.getElem?_eq_some_iff.1 hk).1, hB, cur, hk⟩
theorem type_ne {g g' : Nat} {t t' : TypeId} {cs cs' : Array Value} (h : BlockIs w g t cs) (h' : BlockIs w g' t' cs') (ht : t ≠ t') : g ≠ g' := fun e => by
  subst e
  unfold BlockIs at h h'
  rw [h] at h'
  injection h' with h'
  injection h' with _ h2 _
  exact ht h2
end
/-- A slice of slices of the call's own: where each one lies is known. -/
def OwnV (vs : List (Option Addr × Nat)) (B C : Nat) (w : World) (v : Value) (css : List (List Value)) : Prop := vs.length = css.length ∧ w.ownsRow B 23 1 v css.length (slC vs css) ∧
  (∀ (i : Nat) (h : i < css.length) (h' : i < vs.length), w.ownsRow C 3 1 (.slice vs[i].1 css[i].length vs[i].2) css[i].length css[i]) ∧
  ∀ (i j : Nat) (h : i < vs.length) (h' : j < vs.length) (a b : Addr), i ≠ j → vs[i].1 = some a → vs[j].1 = some b → a.block ≠ b.block
theorem OwnV.nil {B C : Nat} {w : World} {v : Value} (h : w.ownsRow B 23 1 v 0 []) : OwnV [] B C w v [] := ⟨rfl, h, (fun i h => by cases h), fun i j h => by cases h⟩
section
variable {vs : List (Option Addr × Nat)} {B C : Nat} {w w' w1 : World} {v v' : Value} {css : List (List Value)}
theorem OwnV.below (h : OwnV vs B C w v css) (hb : Below w.heap.size w w') : OwnV vs B C w' v css := by
  obtain ⟨h1, h2, h3, h4⟩ := h
  exact ⟨h1, own_blw h2 hb, fun i a b => own_blw (h3 i a b) hb, h4⟩
theorem OwnV.lower {C' : Nat} (h : OwnV vs B C' w v css) (hB : C ≤ C') : OwnV vs B C w v css := by
  obtain ⟨h1, h2, h3, h4⟩ := h
  exact ⟨h1, h2, fun i a b => own_low (h3 i a b) hB, h4⟩
theorem OwnV.seg (h : OwnV vs B C w v css) (hBC : B ≤ C) : ∃ A c, v = .slice A css.length c ∧ SegSS w B w.heap.size A css.length c css := by
  obtain ⟨h1, h2, h3, h4⟩ := h
  obtain ⟨A, c, rfl, hs⟩ := seg_out h2
  exact ⟨A, c, rfl, rfl, vs, h1, hs, fun i a b => Seg.of_own (own_low (h3 i a b) hBC), h4⟩
theorem OwnV.lt (h : OwnV vs B C w v css) (i : Nat) (hi : i < vs.length) {a : Addr} (ha : vs[i].1 = some a) : a.block < w.heap.size ∧ C ≤ a.block := by
  obtain ⟨h1, h2, h3, h4⟩ := h
  have := own_type (g := a.block) (h3 i (by omega) hi) (by rw [ha]; rfl)
  exact ⟨this.1, this.2.1⟩
theorem slC_snoc (vs : List (Option Addr × Nat)) (css : List (List Value)) (A : Option Addr) (c : Nat) (cs : List Value) (h : vs.length = css.length) : slC (vs ++ [(A, c)]) (css ++ [cs]) = slC vs css ++ [.slice A cs.length c] := by
  unfold slC
  rw [List.zipWith_append h]
  rfl
/-- One more slice, which lies where nothing lay, behind them. -/
theorem OwnV.push (h : OwnV vs B C w v css) (hb : Below w.heap.size w w') {g c : Nat} {cs : List Value} (hnew : w'.ownsRow C 3 1 (.slice (some ⟨g, 0, none⟩) cs.length c) cs.length cs) (hg : w.heap.size ≤ g)
    (ho : w1.ownsRow B 23 1 v' (css.length + 1) (slC vs css ++ [.slice (some ⟨g, 0, none⟩) cs.length c])) (hgr : w'.grownBy w1 v.ownBlock) : OwnV (vs ++ [(some ⟨g, 0, none⟩, c)]) B C w1 v' (css ++ [cs]) := by
  have h' := h.below hb
  have hlt := fun i hi a ha => h.lt i hi (a := a) ha
  obtain ⟨h1, h2, h3, h4⟩ := h'
  have hkeep : ∀ {u : Value} {n : Nat} {xs : List Value}, w'.ownsRow C 3 1 u n xs → w1.ownsRow C 3 1 u n xs := fun hu => own_to hu fun q hq _ hql => hgr.block q hql fun e => by
    obtain ⟨_, _, c1, t1⟩ := own_type hu hq
    obtain ⟨_, _, c2, t2⟩ := own_type h2 e.symm
    exact type_ne t1 t2 (by decide) rfl
  refine ⟨by simp [h1], ?_, ?_, ?_⟩
  · rw [slC_snoc _ _ _ _ _ h1]; simpa using ho
  · intro i hi hiv
    by_cases e : i < css.length
    · rw [List.getElem_append_left (by omega), List.getElem_append_left e]
      exact hkeep (h3 i e (by omega))
    · have : i = css.length := by simp at hi; omega
      subst this
      rw [List.getElem_append_right (by omega), List.getElem_append_right (by omega)]
      simp only [h1, Nat.sub_self, List.getElem_cons_zero]
      exact hkeep hnew
  · intro i j hi hj a b hne ha hb'
    by_cases ei : i < vs.length
    · rw [List.getElem_append_left ei] at ha
      by_cases ej : j < vs.length
      · rw [List.getElem_append_left ej] at hb'
        exact h4 i j ei ej a b hne ha hb'
      · have : j = vs.length := by simp at hj; omega
        subst this
        rw [List.getElem_append_right (by omega)] at hb'
        simp only [Nat.sub_self, List.getElem_cons_zero] at hb'
        injection hb' with hb'
        subst hb'
        have := (hlt i ei a ha).1
        show a.block ≠ g
        omega
    · have : i = vs.length := by simp at hi; omega
      subst this
      rw [List.getElem_append_right (by omega)] at ha
      simp only [Nat.sub_self, List.getElem_cons_zero] at ha
      injection ha with ha
      subst ha
      have ej : j < vs.length := by simp at hj; omega
      rw [List.getElem_append_left ej] at hb'
      have := (hlt j ej b hb').1
      show g ≠ b.block
      omega
theorem slC_set (vs : List (Option Addr × Nat)) (css : List (List Value)) (h : vs.length = css.length) (m : Nat) (A : Option Addr) (c : Nat) (cs : List Value) : (slC vs css).set m (.slice A cs.length c) = slC (vs.set m (A, c)) (css.set m cs) := by
  apply List.ext_getElem
  · rw [List.length_set, slC_len h, slC_len (by simpa using h)]; simp
  · intro i h1 h2
    rw [List.length_set, slC_len h] at h1
    rw [slC_get (by simpa using h) (by simpa using h1), List.getElem_set]
    by_cases e : m = i
    · subst e; simp
    · rw [if_neg e, slC_get h h1]
      simp [e]
theorem take_setv {cur : Array Value} {n i : Nat} {cs : List Value} (h : cur.toList.take n = cs) (hi : i < n) (v : Value) : (cur.setIfInBounds i v).toList.take n = cs.set i v := by
  subst h
  apply List.ext_getElem?
  intro j
  by_cases hj : j < n
  · rw [List.getElem?_take, if_pos hj, Array.getElem?_toList, Array.getElem?_setIfInBounds, List.getElem?_set]
    by_cases e : i = j
    · subst e
      by_cases hc : i < cur.size
      · simp [hc]; omega
      · simp [hc]; omega
    · rw [if_neg e, if_neg e, List.getElem?_take, if_pos hj, Array.getElem?_toList]
  · rw [List.getElem?_eq_none (by simp; omega), List.getElem?_eq_none (by simp; omega)]
/-- One of them is made longer, and stored where it stood. -/
theorem OwnV.ext (h : OwnV vs B C w v css) {g cap : Nat} (hv : v = .slice (some ⟨g, 0, none⟩) css.length cap) {m : Nat} (hm : m < css.length) (o : Obj) {A' : Option Addr} {c' : Nat} {cs : List Value}
    (ho : w1.ownsRow C 3 1 (.slice A' cs.length c') cs.length cs) (hgr : (w.alloc o).grownBy w1 (Value.slice (vs[m]'(by have := h.1; omega)).1 css[m].length (vs[m]'(by have := h.1; omega)).2).ownBlock)
    (hob : (Value.slice A' cs.length c').ownBlock = (Value.slice (vs[m]'(by have := h.1; omega)).1 css[m].length (vs[m]'(by have := h.1; omega)).2).ownBlock ∨ (Value.slice A' cs.length c').ownBlock = some (w.alloc o).heap.size) :
    OwnV (vs.set m (A', c')) B C (w1.setCell ⟨g, m, none⟩ (.slice A' cs.length c')) v (css.set m cs) ∧ w1.cell? ⟨g, m, none⟩ = some (.slice (vs[m]'(by have := h.1; omega)).1 css[m].length (vs[m]'(by have := h.1; omega)).2) ∧ w1.frozen? ⟨g, m, none⟩ = false ∧ B ≤ g := by
  have hlt := fun i hi a ha => h.lt i hi (a := a) ha
  obtain ⟨h1, h2, h3, h4⟩ := h
  have hself := h3 m hm (by omega)
  subst hv
  obtain ⟨hgl, hgB, _, htp⟩ := own_type (g := g) h2 rfl
  -- the outer block stays through the append
  have hkeep : ∀ q, q < w.heap.size → (∀ a, (vs[m]'(by omega)).1 = some a → a.block ≠ q) → w1.heap[q]? = w.heap[q]? := fun q hq hne => by
    have hq' : q < (w.alloc o).heap.size := by simp; omega
    have e1 : (w.alloc o).heap[q]? = w.heap[q]? := ((Below.refl w.heap.size w).alloc (Nat.le_refl _) o).block q hq
    refine (hgr.block q hq' fun e => ?_).trans e1
    cases ha : (vs[m]'(by omega)).1 with
    | none => rw [ha] at e; cases e
    | some a =>
      rw [ha] at e
      exact hne a ha (by injection e with e; exact e.symm)
  have hgo : w1.heap[g]? = w.heap[g]? := hkeep g hgl fun a ha e => by
    obtain ⟨_, _, c1, t1⟩ := own_type (g := a.block) hself (by rw [ha]; rfl)
    rw [e] at t1
    exact type_ne t1 htp (by decide) rfl
  have h2' : w1.ownsRow B 23 1 (.slice (some ⟨g, 0, none⟩) css.length cap) css.length (slC vs css) := own_to h2 fun q hq _ _ => by
    have : g = q := by injection hq
    rw [← this]; exact hgo
  obtain ⟨g', cur, hA, hgb, hB, hn, hc, hs, ht⟩ := own_block h2' (by omega)
  injection hA with hA
  injection hA with hA _ _
  subst hA
  have hcell : cur[m]? = some (.slice (vs[m]'(by omega)).1 css[m].length (vs[m]'(by omega)).2) := by
    have := congrArg (fun l : List Value => l[m]?) ht
    simp only [Nat.mul_one] at this
    rw [List.getElem?_take, if_pos hm, Array.getElem?_toList, List.getElem?_eq_getElem (by rw [slC_len h1]; exact hm), slC_get h1 hm] at this
    exact this
  refine ⟨⟨by simp [h1], ?_, ?_, ?_⟩, ?_, hB.frozen m, hgB⟩
  · rw [← slC_set vs css h1 m]
    have hset := hB.set m (.slice A' cs.length c')
    have := hset.own (base := B) (n := css.length) (c := cap) (size := 1) hgb (by simpa using hs) hn hc (by simp only [Array.size_setIfInBounds]; omega)
    rw [Nat.mul_one, take_setv (cs := slC vs css) (show cur.toList.take css.length = slC vs css by rw [Nat.mul_one] at ht; exact ht) hm] at this
    simpa using this
  · intro i hi hiv
    simp only [List.length_set] at hi hiv
    have hstep : ∀ {u : Value} {n : Nat} {xs : List Value}, w1.ownsRow C 3 1 u n xs → (w1.setCell ⟨g, m, none⟩ (.slice A' cs.length c')).ownsRow C 3 1 u n xs := fun hu => own_to hu fun q hq _ _ => by
      obtain ⟨_, _, c1, t1⟩ := own_type hu hq
      exact Below.heap_setCell _ _ _ _ (type_ne t1 hB (by decide))
    by_cases e : m = i
    · subst e
      simp only [List.getElem_set_self]
      exact hstep ho
    · rw [List.getElem_set_ne e, List.getElem_set_ne e]
      refine hstep (own_to (h3 i hi hiv) fun q hq _ hql => hkeep q hql fun a ha e' => ?_)
      cases hb : vs[i].1 with
      | none => rw [hb] at hq; cases hq
      | some b =>
        rw [hb] at hq
        have : b.block = q := by injection hq
        exact h4 m i (by omega) hiv a b e ha hb (by omega)
  · intro i j hi hj a b hne ha hb
    simp only [List.length_set] at hi hj
    have hnew : ∀ q (hq : q < vs.length) (b : Addr), q ≠ m → vs[q].1 = some b → ∀ a', A' = some a' → a'.block ≠ b.block := fun q hq b hqm hb a' ha' e' => by
      rcases hob with e | e
      · rw [ha'] at e
        cases hm' : (vs[m]'(by omega)).1 with
        | none => rw [hm'] at e; cases e
        | some am =>
          rw [hm'] at e
          have : a'.block = am.block := by injection e
          exact h4 m q (by omega) hq am b (fun x => hqm x.symm) hm' hb (by omega)
      · rw [ha'] at e
        have : a'.block = (w.alloc o).heap.size := by injection e
        have := (hlt q hq b hb).1
        simp at *
        omega
    by_cases ei : m = i
    · subst ei
      rw [List.getElem_set_self] at ha
      rw [List.getElem_set_ne hne] at hb
      exact hnew j hj b (fun x => hne x.symm) hb a ha
    · rw [List.getElem_set_ne ei] at ha
      by_cases ej : m = j
      · subst ej
        rw [List.getElem_set_self] at hb
        exact fun e' => hnew i hi a (fun x => hne x) ha b hb e'.symm
      · rw [List.getElem_set_ne ej] at hb
        exact h4 i j hi hj a b hne ha hb
  · rw [hB.cell]; exact hcell
end
end Go.Proofs.YtjemjdlaoebffaaDoor

end
section
namespace Go.Proofs.YtjemjdlaoebffaaDoor
open Go.RowKit Go.Shelf
theorem cells_ofD {w : World} {g : Nat} {cur : Array Value} {n : Nat} {l : List Nat} (hB : BlockIs w g 3 cur) (ht : cur.toList.take n = ic (natI l)) {i x : Nat} (hi : l[i]? = some x) (hn : i < n) : w.cell? ⟨g, i, none⟩ = some (.int .i64 (x : Int)) := by
  rw [hB.cell]
  have h1 : (cur.toList.take n)[i]? = some (.int .i64 (x : Int)) := by
    rw [ht]; unfold ic natI
    simp [hi]
  rw [List.getElem?_take, if_pos hn, Array.getElem?_toList] at h1
  exact h1
theorem ic_setD (l : List Nat) (i x : Nat) : (ic (natI l)).set i (.int .i64 (x : Int)) = ic (natI (l.set i x)) := by
  unfold ic natI
  rw [List.map_set, List.map_set]; rfl
/-- What stands in the block while the sort runs; comparisons may make memory. -/
def SrtIs (w0 w : World) (g n : Nat) (sz : Nat) (l : List Nat) : Prop := ∃ cur, BlockIs w g 3 cur ∧ cur.size = sz ∧ cur.toList.take n = ic (natI l) ∧ w0.grownBy w (some g)
theorem SrtIs.below {w0 w w' : World} {g n sz : Nat} {l : List Nat} (h : SrtIs w0 w g n sz l) (hb : Below w.heap.size w w') : SrtIs w0 w' g n sz l := by
  obtain ⟨cur, h1, h2, h3, h4⟩ := h
  exact ⟨cur, h1.below hb, h2, h3, grown_then_below h4 hb⟩
theorem SrtIs.drew {w0 w : World} {g n sz : Nat} {l : List Nat} (h : SrtIs w0 w g n sz l) (m : Nat) : SrtIs w0 (w.drewN m) g n sz l := h.below (below_drewN (Below.refl _ _) m)
theorem SrtIs.drew1 {w0 w : World} {g n sz : Nat} {l : List Nat} (h : SrtIs w0 w g n sz l) : SrtIs w0 w.drew g n sz l := h.below (Below.refl _ _).drew
theorem SrtIs.set {w0 w : World} {g n sz : Nat} {l : List Nat} (h : SrtIs w0 w g n sz l) (i x : Nat) (hi : i < n) : SrtIs w0 (w.setCell ⟨g, i, none⟩ (.int .i64 (x : Int))) g n sz (l.set i x) := by
  obtain ⟨cur, h1, h2, h3, h4⟩ := h
  exact ⟨_, h1.set i _, by simpa using h2, by rw [take_setv h3 hi, ic_setD], grown_setCell h4 i _⟩
abbrev FCD : Nat := 144
section
variable {js : List J} {A : Option Addr} {c : Nat} (hok : ∀ j ∈ js, okJ j = true) (h8 : js.length ≤ 8)
include hok h8
set_option maxRecDepth 100000 in
set_option maxHeartbeats 4000000 in
theorem insSortD_any (w : World) (hr : Row w A (jc js)) (g cs sz : Nat) (q : List Nat) (hq : ∀ x ∈ q, x < js.length) (hd : q.Nodup) (hl : q.length ≤ 12) (hs : SrtIs w w g q.length sz q) (hA : 0 < js.length → ∀ a, A = some a → a.block ≠ g) :
    Calls Tryd.prog 198 #[.slice (some ⟨g, 0, none⟩) q.length cs, .int .i64 0, .int .i64 (q.length : Int), .func (.func FCD) #[.slice A js.length c] #[]] w fun e w' => e = .returned (.tuple #[]) ∧ SrtIs w w' g q.length sz (dueL js q) := by
  have HCW : Hid (∀ w' : World, w.grownBy w' (some g) → Row w' A (jc js)) := fun w' hg => fun h0 => by
    obtain ⟨ad, h1, h2, h3⟩ := hr h0
    refine ⟨ad, h1, Nat.lt_of_lt_of_le h2 hg.size, fun j u hu => ?_⟩
    have hc := h3 j u hu
    rw [← hc]
    have hbk : (ad.add j).block = ad.block := add_block ad j
    have hh := hg.block (ad.add j).block (by rw [hbk]; exact h2) (fun e => hA (by rw [jc_len] at h0; omega) ad h1 (by injection e with e; rw [hbk] at e; exact e))
    unfold World.cell?
    rw [hh]
  have HS0 : Hid (SrtIs w w g q.length sz (dueTo js q 1 ++ q.drop 1) ∨ q.length = 0) := by
    show _ ∨ _
    rcases dueTo_one js q with h | h
    · rw [h]; exact .inl hs
    · exact .inr (by rw [h]; rfl)
  have hcf : ∀ (args : Array Value) (w1 : World), (callFunc FCD args).run Tryd.prog w1 = .ok (.enter FCD args) w1 := enters_of Tryd.func144 (by kernel_rfl) rfl
  have HS := Lib.hid hs
  have HD0 := Lib.hid hd
  clear hr hs hd
  by_cases hq0 : q.length = 0
  · have hql : q = [] := List.eq_nil_of_length_eq_zero hq0
    have HF : Hid (SrtIs w w g q.length sz (dueL js q)) := by
      show SrtIs _ _ _ _ _ _
      have h := HS.out
      rw [hql] at h ⊢
      exact h
    have hlt0 : ¬ (1 : Int) < (q.length : Int) := by omega
    have hqz : (q.length : Int) ≤ 0 := by omega
    clear hq0 hql HS0
    go_enter Tryd.func198, Tryd.ntmps198
    go_wp2
    refine wp_loop_rounds 1 ?_
    rw [rounds_succ]
    go_wp2
    go_end0
    exact ⟨rfl, HF.out⟩
  have HS1 : Hid (SrtIs w w g q.length sz (dueTo js q 1 ++ q.drop 1)) := by
    rcases HS0.out with h | h
    · exact h
    · exact absurd h hq0
  clear HS0 HS
  go_enter Tryd.func198, Tryd.ntmps198
  go_wp2
  go_loopw [8] (fun i wr => ∃ k : Nat, 1 ≤ k ∧ k ≤ q.length ∧ i = .int .i64 (k : Int) ∧ Hid (SrtIs w wr g q.length sz (dueTo js q k ++ q.drop k))) (fun i _ => q.length - (intOf i).toNat)
  case atStart => exact ⟨1, Nat.le_refl _, by omega, rfl, HS1⟩
  case round =>
    obtain ⟨k, hk1, hk2, rfl, HSk⟩ := hrel
    clear HS1
    by_cases hlt : k < q.length
    · have hol := dueTo_len js q k
      have HINS := Lib.hid (dueTo_succ (js := js) hlt)
      have hxl := hq _ (List.getElem_mem hlt)
      have hout : ∀ a ∈ dueTo js q k, a < js.length := fun a ha => hq a (dueTo_mem (by omega) ha)
      have HSO := Lib.hid (And.intro (dueTo_sorted (js := js) HD0.out k (by omega)) (dueTo_fresh (js := js) HD0.out hlt))
      have HD : Hid (q.drop k = q[k] :: q.drop (k + 1)) := List.drop_eq_getElem_cons hlt
      have hdl : (q.drop (k + 1)).length = q.length - (k + 1) := by simp
      generalize dueTo js q k = out at *
      generalize q[k] = x at *
      generalize hrst : q.drop (k + 1) = rest at *
      have HREST := Lib.hid hrst
      clear hrst
      have hol1 : out.length ≤ k := by omega
      have hol2 : k ≤ out.length := by omega
      have hrl : k + 1 + rest.length ≤ q.length := by omega
      have HST : Hid (SrtIs w wr g q.length sz (midL out rest x k)) := by
        show SrtIs _ _ _ _ _ _
        have h := HSk.out
        rw [HD.out] at h
        rwa [← hol, midL_start]
      clear hol hdl HSk
      obtain ⟨wo, rfl⟩ : ∃ wo : World, wo = wr := ⟨_, rfl⟩
      go_wp2
      go_loopw [9] (fun jv wi => ∃ j : Nat, j ≤ k ∧ jv = .int .i64 (j : Int) ∧ Hid (SrtIs w wi g q.length sz (midL out rest x j)) ∧ Hid (∀ i (h : i < out.length), j ≤ i → soonB js x out[i] = true)) (fun jv _ => (intOf jv).toNat)
      case atStart => exact ⟨k, Nat.le_refl _, rfl, HST, fun i h h' => absurd h (by omega)⟩
      case round =>
        obtain ⟨j, hj, rfl, HSJ, HG⟩ := hrel
        clear HST
        by_cases h0 : 0 < j
        · obtain ⟨m, hjm⟩ : ∃ m, j = m + 1 := ⟨j - 1, by omega⟩
          have hmo : m < out.length := by omega
          have hm0 : (0 : Int) ≤ m := by omega
          have hj0 : (0 : Int) ≤ j := by omega
          have hjq : (j : Int) < q.length := by omega
          have hm2 : (m : Int) < q.length := by omega
          have hjm' : (j : Int) - 1 = (m : Int) := by omega
          have dd : decide ((0 : Int) < (j : Int)) = true := decide_eq_true (by omega)
          have hw1 := IntWalk.i64_in ((j : Int) - 1) (by omega)
          obtain ⟨cur, hB, hcs, htk, hgr⟩ := HSJ.out
          have c1 := cells_ofD hB htk (midL_at out rest x (j := j) (by omega)) (by omega)
          have c0 := cells_ofD hB htk (by rw [hjm]; exact midL_prev out rest x (j := m) hmo) (show m < q.length by omega)
          have hym := hout _ (List.getElem_mem hmo)
          have HCC : Hid (∀ w', Below wr.heap.size wr w' → Calls Tryd.prog FCD #[.slice A js.length c, .int .i64 (x : Int), .int .i64 (out[m] : Int)] w' fun e w'' => e = .returned (.int .i64 (cmpD js x out[m])) ∧ Below w'.heap.size w' w'') := fun w' hb => compareDue_any A c js w' (HCW.out w' (grown_then_below hgr hb)) hok h8 x out[m] hxl hym
          have HSN : Hid (soonB js x out[m] = decide (cmpD js x out[m] < 0)) := cmpD_soon js x out[m]
          have HJM := Lib.hid hjm
          have HX := Lib.hid (And.intro hB (And.intro hcs (And.intro htk hgr)))
          have fz1 := hB.frozen j
          have fz0 := hB.frozen m
          have HC1 := Lib.hid c1
          have HC0 := Lib.hid c0
          have lg : g < wr.heap.size := hB.lt
          clear hB hcs htk hgr hjm hym c1 c0
          by_cases hneg : cmpD js x out[m] < 0
          · have HSW := Lib.hid (midL_swap out rest x hmo)
            have HG2 : Hid (∀ i (h : i < out.length), m ≤ i → soonB js x out[i] = true) := fun i h hmi => by
              by_cases e : i = m
              · subst e; rw [HSN.out]; exact decide_eq_true hneg
              · exact HG.out i h (by have := HJM.out; omega)
            have dn : decide (cmpD js x out[m] < 0) = true := decide_eq_true hneg
            generalize cmpD js x out[m] = gg at *
            generalize out[m] = y at *
            go_wp2
            refine wp_region_detY (by kernel_rfl) (fun (_ : Array Bool) w' => Below wr.heap.size wr w') (fun t => (#[.int .i64 (j : Int), .int .i64 0, .bool true, .bool true, .func (.func FCD) #[.slice A js.length c] #[], .slice (some ⟨g, 0, none⟩) q.length cs, .int .i64 (j : Int), .pointer (some ⟨g, j, none⟩), .int .i64 (x : Int), .slice (some ⟨g, 0, none⟩) q.length cs, .int .i64 (j : Int), .int .i64 (m : Int), .pointer (some ⟨g, m, none⟩), .int .i64 (y : Int), .int .i64 gg, .bool true, .bool true] : Array Value).getD t undef) (by kernel_rfl) (by kernel_rfl) (Below.refl _ _).drew ?_ ?_
            · intro L tm w' hall hS hsz hlow hval
              have ht : tm = #[.slice (some ⟨g, 0, none⟩) q.length cs, .int .i64 0, .int .i64 (q.length : Int), .func (.func FCD) #[.slice A js.length c] #[], undef, undef, undef, undef, .int .i64 (k : Int), .int .i64 (j : Int), .int .i64 0, .int .i64 1, .int .i64 (k : Int), .int .i64 (q.length : Int), .bool true, u15, u16, .int .i64 (k : Int), .int .i64 (j : Int), .int .i64 0, .bool true, .bool true, .func (.func FCD) #[.slice A js.length c] #[], .slice (some ⟨g, 0, none⟩) q.length cs, .int .i64 (j : Int), .pointer (some ⟨g, j, none⟩), .int .i64 (x : Int), .slice (some ⟨g, 0, none⟩) q.length cs, .int .i64 (j : Int), .int .i64 (m : Int), .pointer (some ⟨g, m, none⟩), .int .i64 (y : Int), .int .i64 gg, .bool true, .bool true, u35, u36, u37, u38, u39, u40, u41, u42, u43, u44, u45, u46, u47, u48, u49, u50, u51, u52] := by
                refine arr_of _ _ hsz fun t ht => ?_
                have ht' : t < 53 := ht
                rcases (by omega : t = 0 ∨ t = 1 ∨ t = 2 ∨ t = 3 ∨ t = 4 ∨ t = 5 ∨ t = 6 ∨ t = 7 ∨ t = 8 ∨ t = 9 ∨ t = 10 ∨ t = 11 ∨ t = 12 ∨ t = 13 ∨ t = 14 ∨ t = 15 ∨ t = 16 ∨ t = 17 ∨ t = 18 ∨ t = 19 ∨ t = 20 ∨ t = 21 ∨ t = 22 ∨ t = 23 ∨ t = 24 ∨ t = 25 ∨ t = 26 ∨ t = 27 ∨ t = 28 ∨ t = 29 ∨ t = 30 ∨ t = 31 ∨ t = 32 ∨ t = 33 ∨ t = 34 ∨ t = 35 ∨ t = 36 ∨ t = 37 ∨ t = 38 ∨ t = 39 ∨ t = 40 ∨ t = 41 ∨ t = 42 ∨ t = 43 ∨ t = 44 ∨ t = 45 ∨ t = 46 ∨ t = 47 ∨ t = 48 ∨ t = 49 ∨ t = 50 ∨ t = 51 ∨ t = 52) with rfl | rfl | rfl | rfl | rfl | rfl | rfl | rfl | rfl | rfl | rfl | rfl | rfl | rfl | rfl | rfl | rfl | rfl | rfl | rfl | rfl | rfl | rfl | rfl | rfl | rfl | rfl | rfl | rfl | rfl | rfl | rfl | rfl | rfl | rfl | rfl | rfl | rfl | rfl | rfl | rfl | rfl | rfl | rfl | rfl | rfl | rfl | rfl | rfl | rfl | rfl | rfl | rfl
                · exact hlow 0 (by kernel_rfl)
                · exact hlow 1 (by kernel_rfl)
                · exact hlow 2 (by kernel_rfl)
                · exact hlow 3 (by kernel_rfl)
                · exact hlow 4 (by kernel_rfl)
                · exact hlow 5 (by kernel_rfl)
                · exact hlow 6 (by kernel_rfl)
                · exact hlow 7 (by kernel_rfl)
                · exact hlow 8 (by kernel_rfl)
                · exact hlow 9 (by kernel_rfl)
                · exact hlow 10 (by kernel_rfl)
                · exact hlow 11 (by kernel_rfl)
                · exact hlow 12 (by kernel_rfl)
                · exact hlow 13 (by kernel_rfl)
                · exact hlow 14 (by kernel_rfl)
                · exact hlow 15 (by kernel_rfl)
                · exact hlow 16 (by kernel_rfl)
                · exact hlow 17 (by kernel_rfl)
                · exact hval 0 _ 18 rfl rfl
                · exact hval 1 _ 19 rfl rfl
                · exact hval 2 _ 20 rfl rfl
                · exact hval 3 _ 21 rfl rfl
                · exact hval 4 _ 22 rfl rfl
                · exact hval 5 _ 23 rfl rfl
                · exact hval 6 _ 24 rfl rfl
                · exact hval 7 _ 25 rfl rfl
                · exact hval 8 _ 26 rfl rfl
                · exact hval 9 _ 27 rfl rfl
                · exact hval 10 _ 28 rfl rfl
                · exact hval 11 _ 29 rfl rfl
                · exact hval 12 _ 30 rfl rfl
                · exact hval 13 _ 31 rfl rfl
                · exact hval 14 _ 32 rfl rfl
                · exact hval 15 _ 33 rfl rfl
                · exact hval 16 _ 34 rfl rfl
                · exact hlow 35 (by kernel_rfl)
                · exact hlow 36 (by kernel_rfl)
                · exact hlow 37 (by kernel_rfl)
                · exact hlow 38 (by kernel_rfl)
                · exact hlow 39 (by kernel_rfl)
                · exact hlow 40 (by kernel_rfl)
                · exact hlow 41 (by kernel_rfl)
                · exact hlow 42 (by kernel_rfl)
                · exact hlow 43 (by kernel_rfl)
                · exact hlow 44 (by kernel_rfl)
                · exact hlow 45 (by kernel_rfl)
                · exact hlow 46 (by kernel_rfl)
                · exact hlow 47 (by kernel_rfl)
                · exact hlow 48 (by kernel_rfl)
                · exact hlow 49 (by kernel_rfl)
                · exact hlow 50 (by kernel_rfl)
                · exact hlow 51 (by kernel_rfl)
                · exact hlow 52 (by kernel_rfl)
              subst ht
              clear hlow hval hsz hall
              have HSW1 := Lib.hid (HSJ.out.below hS)
              have c1w : w'.cell? ⟨g, j, none⟩ = some (.int .i64 (x : Int)) := (hS.cell (p := ⟨g, j, none⟩) lg).trans HC1.out
              have c0w : w'.cell? ⟨g, m, none⟩ = some (.int .i64 (y : Int)) := (hS.cell (p := ⟨g, m, none⟩) lg).trans HC0.out
              have f1w : w'.frozen? ⟨g, j, none⟩ = false := (hS.frozen (p := ⟨g, j, none⟩) lg).trans fz1
              have f0w : w'.frozen? ⟨g, m, none⟩ = false := (hS.frozen (p := ⟨g, m, none⟩) lg).trans fz0
              clear hS HCC HC1 HC0 fz1 fz0 HX
              go_wp2
              go_region
              all_goals
                go_wp2
                go_roundw
                case rel =>
                  have hz := (HSW1.out.set j y (by omega)).set m x (by omega)
                  rw [HJM.out, HSW.out, ← HJM.out] at hz
                  exact ⟨m, by omega, by go_num, by first | exact hz | exact hz.drew1, HG2.out⟩
                case measure => simp [intOf]; omega
            · intro L a w' t op _ hop _ _ _ hS hlow hdep _
              have ht : t < 17 := (Array.getElem?_eq_some_iff.1 hop).1
              rcases (by omega : t = 0 ∨ t = 1 ∨ t = 2 ∨ t = 3 ∨ t = 4 ∨ t = 5 ∨ t = 6 ∨ t = 7 ∨ t = 8 ∨ t = 9 ∨ t = 10 ∨ t = 11 ∨ t = 12 ∨ t = 13 ∨ t = 14 ∨ t = 15 ∨ t = 16) with rfl | rfl | rfl | rfl | rfl | rfl | rfl | rfl | rfl | rfl | rfl | rfl | rfl | rfl | rfl | rfl | rfl
              · obtain rfl := Option.some.inj hop
                have e9 : a.tmps[9]?.getD undef = .int .i64 (j : Int) := (Array.getD_eq_getD_getElem? ..).symm.trans (hlow 9 (by kernel_rfl))
                exact ⟨wanted_free rfl, .inl (.inl ⟨w', by simp [execOp, Act.eval, e9, go_sem], hS⟩)⟩
              · obtain rfl := Option.some.inj hop
                have e1 : a.tmps[1]?.getD undef = .int .i64 0 := (Array.getD_eq_getD_getElem? ..).symm.trans (hlow 1 (by kernel_rfl))
                exact ⟨wanted_free rfl, .inl (.inl ⟨w', by simp [execOp, Act.eval, e1, go_sem], hS⟩)⟩
              · obtain rfl := Option.some.inj hop
                have e18 : a.tmps[18]?.getD undef = .int .i64 (j : Int) := (Array.getD_eq_getD_getElem? ..).symm.trans (hdep 0 _ 18 (by kernel_rfl) rfl rfl)
                have e19 : a.tmps[19]?.getD undef = .int .i64 0 := (Array.getD_eq_getD_getElem? ..).symm.trans (hdep 1 _ 19 (by kernel_rfl) rfl rfl)
                exact ⟨wanted_free rfl, .inl (.inl ⟨w', by simp [execOp, Act.eval, e18, e19, h0, go_sem], hS⟩)⟩
              · obtain rfl := Option.some.inj hop
                have e20 : a.tmps[20]?.getD undef = .bool true := (Array.getD_eq_getD_getElem? ..).symm.trans (hdep 2 _ 20 (by kernel_rfl) rfl rfl)
                exact ⟨wanted_free rfl, .inl (.inl ⟨w', by simp [execOp, Act.eval, e20, go_sem], hS⟩)⟩
              · obtain rfl := Option.some.inj hop
                have e3 : a.tmps[3]?.getD undef = .func (.func FCD) #[.slice A js.length c] #[] := (Array.getD_eq_getD_getElem? ..).symm.trans (hlow 3 (by kernel_rfl))
                exact ⟨wanted_guard (g := 3) (d := 21) (b := true) rfl rfl rfl (hdep 3 _ 21 (by kernel_rfl) rfl rfl), .inl (.inl ⟨w', by simp [execOp, Act.eval, e3, go_sem], hS⟩)⟩
              · obtain rfl := Option.some.inj hop
                have e0 : a.tmps[0]?.getD undef = .slice (some ⟨g, 0, none⟩) q.length cs := (Array.getD_eq_getD_getElem? ..).symm.trans (hlow 0 (by kernel_rfl))
                exact ⟨wanted_guard (g := 3) (d := 21) (b := true) rfl rfl rfl (hdep 3 _ 21 (by kernel_rfl) rfl rfl), .inl (.inl ⟨w', by simp [execOp, Act.eval, e0, go_sem], hS⟩)⟩
              · obtain rfl := Option.some.inj hop
                have e9 : a.tmps[9]?.getD undef = .int .i64 (j : Int) := (Array.getD_eq_getD_getElem? ..).symm.trans (hlow 9 (by kernel_rfl))
                exact ⟨wanted_guard (g := 3) (d := 21) (b := true) rfl rfl rfl (hdep 3 _ 21 (by kernel_rfl) rfl rfl), .inl (.inl ⟨w', by simp [execOp, Act.eval, e9, go_sem], hS⟩)⟩
              · obtain rfl := Option.some.inj hop
                have e23 : a.tmps[23]?.getD undef = .slice (some ⟨g, 0, none⟩) q.length cs := (Array.getD_eq_getD_getElem? ..).symm.trans (hdep 5 _ 23 (by kernel_rfl) rfl rfl)
                have e24 : a.tmps[24]?.getD undef = .int .i64 (j : Int) := (Array.getD_eq_getD_getElem? ..).symm.trans (hdep 6 _ 24 (by kernel_rfl) rfl rfl)
                exact ⟨wanted_guard (g := 3) (d := 21) (b := true) rfl rfl rfl (hdep 3 _ 21 (by kernel_rfl) rfl rfl), .inl (.inl ⟨w', by simp [execOp, Act.eval, e23, e24, hj0, hjq, go_sem], hS⟩)⟩
              · obtain rfl := Option.some.inj hop
                have e25 : a.tmps[25]?.getD undef = .pointer (some ⟨g, j, none⟩) := (Array.getD_eq_getD_getElem? ..).symm.trans (hdep 7 _ 25 (by kernel_rfl) rfl rfl)
                have cw : w'.cell? ⟨g, j, none⟩ = some (.int .i64 (x : Int)) := (hS.cell (p := ⟨g, j, none⟩) lg).trans HC1.out
                exact ⟨wanted_guard (g := 3) (d := 21) (b := true) rfl rfl rfl (hdep 3 _ 21 (by kernel_rfl) rfl rfl), .inl (.inl ⟨w', by simp [execOp, Act.eval, e25, cw, go_sem], hS⟩)⟩
              · obtain rfl := Option.some.inj hop
                have e0 : a.tmps[0]?.getD undef = .slice (some ⟨g, 0, none⟩) q.length cs := (Array.getD_eq_getD_getElem? ..).symm.trans (hlow 0 (by kernel_rfl))
                exact ⟨wanted_guard (g := 3) (d := 21) (b := true) rfl rfl rfl (hdep 3 _ 21 (by kernel_rfl) rfl rfl), .inl (.inl ⟨w', by simp [execOp, Act.eval, e0, go_sem], hS⟩)⟩
              · obtain rfl := Option.some.inj hop
                have e9 : a.tmps[9]?.getD undef = .int .i64 (j : Int) := (Array.getD_eq_getD_getElem? ..).symm.trans (hlow 9 (by kernel_rfl))
                exact ⟨wanted_guard (g := 3) (d := 21) (b := true) rfl rfl rfl (hdep 3 _ 21 (by kernel_rfl) rfl rfl), .inl (.inl ⟨w', by simp [execOp, Act.eval, e9, go_sem], hS⟩)⟩
              · obtain rfl := Option.some.inj hop
                have e28 : a.tmps[28]?.getD undef = .int .i64 (j : Int) := (Array.getD_eq_getD_getElem? ..).symm.trans (hdep 10 _ 28 (by kernel_rfl) rfl rfl)
                exact ⟨wanted_guard (g := 3) (d := 21) (b := true) rfl rfl rfl (hdep 3 _ 21 (by kernel_rfl) rfl rfl), .inl (.inl ⟨w', by simp [execOp, Act.eval, e28, hw1, go_sem] <;> omega, hS⟩)⟩
              · obtain rfl := Option.some.inj hop
                have e27 : a.tmps[27]?.getD undef = .slice (some ⟨g, 0, none⟩) q.length cs := (Array.getD_eq_getD_getElem? ..).symm.trans (hdep 9 _ 27 (by kernel_rfl) rfl rfl)
                have e29 : a.tmps[29]?.getD undef = .int .i64 (m : Int) := (Array.getD_eq_getD_getElem? ..).symm.trans (hdep 11 _ 29 (by kernel_rfl) rfl rfl)
                exact ⟨wanted_guard (g := 3) (d := 21) (b := true) rfl rfl rfl (hdep 3 _ 21 (by kernel_rfl) rfl rfl), .inl (.inl ⟨w', by simp [execOp, Act.eval, e27, e29, hm0, hm2, go_sem], hS⟩)⟩
              · obtain rfl := Option.some.inj hop
                have e30 : a.tmps[30]?.getD undef = .pointer (some ⟨g, m, none⟩) := (Array.getD_eq_getD_getElem? ..).symm.trans (hdep 12 _ 30 (by kernel_rfl) rfl rfl)
                have cw : w'.cell? ⟨g, m, none⟩ = some (.int .i64 (y : Int)) := (hS.cell (p := ⟨g, m, none⟩) lg).trans HC0.out
                exact ⟨wanted_guard (g := 3) (d := 21) (b := true) rfl rfl rfl (hdep 3 _ 21 (by kernel_rfl) rfl rfl), .inl (.inl ⟨w', by simp [execOp, Act.eval, e30, cw, go_sem], hS⟩)⟩
              · obtain rfl := Option.some.inj hop
                have e22 : a.tmps[22]?.getD undef = .func (.func FCD) #[.slice A js.length c] #[] := (Array.getD_eq_getD_getElem? ..).symm.trans (hdep 4 _ 22 (by kernel_rfl) rfl rfl)
                have e26 : a.tmps[26]?.getD undef = .int .i64 (x : Int) := (Array.getD_eq_getD_getElem? ..).symm.trans (hdep 8 _ 26 (by kernel_rfl) rfl rfl)
                have e31 : a.tmps[31]?.getD undef = .int .i64 (y : Int) := (Array.getD_eq_getD_getElem? ..).symm.trans (hdep 13 _ 31 (by kernel_rfl) rfl rfl)
                refine ⟨wanted_guard (g := 3) (d := 21) (b := true) rfl rfl rfl (hdep 3 _ 21 (by kernel_rfl) rfl rfl), .inl (.inr ⟨FCD, #[.slice A js.length c, .int .i64 (x : Int), .int .i64 (y : Int)], by simp [execOp, Act.eval, e22, e26, e31, hcf, go_sem], (HCC.out w' hS).mono ?_⟩)⟩
                rintro e w2 ⟨rfl, hb2⟩
                exact ⟨rfl, hS.trans (hb2.mono hS.size)⟩
              · obtain rfl := Option.some.inj hop
                have e32 : a.tmps[32]?.getD undef = .int .i64 gg := (Array.getD_eq_getD_getElem? ..).symm.trans (hdep 14 _ 32 (by kernel_rfl) rfl rfl)
                exact ⟨wanted_guard (g := 3) (d := 21) (b := true) rfl rfl rfl (hdep 3 _ 21 (by kernel_rfl) rfl rfl), .inl (.inl ⟨w', by simp [execOp, Act.eval, e32, dn, go_sem], hS⟩)⟩
              · obtain rfl := Option.some.inj hop
                have e21 : a.tmps[21]?.getD undef = .bool true := (Array.getD_eq_getD_getElem? ..).symm.trans (hdep 3 _ 21 (by kernel_rfl) rfl rfl)
                have e33 : a.tmps[33]?.getD undef = .bool true := (Array.getD_eq_getD_getElem? ..).symm.trans (hdep 15 _ 33 (by kernel_rfl) rfl rfl)
                exact ⟨wanted_free rfl, .inl (.inl ⟨w', by simp [execOp, Act.eval, e21, e33, go_sem], hS⟩)⟩
          · have dn : decide (cmpD js x out[m] < 0) = false := decide_eq_false hneg
            have HF : Hid (dueTo js q (k + 1) ++ q.drop (k + 1) = midL out rest x j) := by
              show _ = _
              rw [HINS.out, HREST.out, insD_back HSO.out.1 HSO.out.2 (j := j) (by omega) (fun h => by
                have e : j - 1 = m := by have := HJM.out; omega
                simp only [e]
                rw [HSN.out]; exact dn) HG.out]
              unfold midL; simp
            generalize cmpD js x out[m] = gg at *
            generalize out[m] = y at *
            go_wp2
            refine wp_region_detY (by kernel_rfl) (fun (_ : Array Bool) w' => Below wr.heap.size wr w') (fun t => (#[.int .i64 (j : Int), .int .i64 0, .bool true, .bool true, .func (.func FCD) #[.slice A js.length c] #[], .slice (some ⟨g, 0, none⟩) q.length cs, .int .i64 (j : Int), .pointer (some ⟨g, j, none⟩), .int .i64 (x : Int), .slice (some ⟨g, 0, none⟩) q.length cs, .int .i64 (j : Int), .int .i64 (m : Int), .pointer (some ⟨g, m, none⟩), .int .i64 (y : Int), .int .i64 gg, .bool false, .bool false] : Array Value).getD t undef) (by kernel_rfl) (by kernel_rfl) (Below.refl _ _).drew ?_ ?_
            · intro L tm w' hall hS hsz hlow hval
              have ht : tm = #[.slice (some ⟨g, 0, none⟩) q.length cs, .int .i64 0, .int .i64 (q.length : Int), .func (.func FCD) #[.slice A js.length c] #[], undef, undef, undef, undef, .int .i64 (k : Int), .int .i64 (j : Int), .int .i64 0, .int .i64 1, .int .i64 (k : Int), .int .i64 (q.length : Int), .bool true, u15, u16, .int .i64 (k : Int), .int .i64 (j : Int), .int .i64 0, .bool true, .bool true, .func (.func FCD) #[.slice A js.length c] #[], .slice (some ⟨g, 0, none⟩) q.length cs, .int .i64 (j : Int), .pointer (some ⟨g, j, none⟩), .int .i64 (x : Int), .slice (some ⟨g, 0, none⟩) q.length cs, .int .i64 (j : Int), .int .i64 (m : Int), .pointer (some ⟨g, m, none⟩), .int .i64 (y : Int), .int .i64 gg, .bool false, .bool false, u35, u36, u37, u38, u39, u40, u41, u42, u43, u44, u45, u46, u47, u48, u49, u50, u51, u52] := by
                refine arr_of _ _ hsz fun t ht => ?_
                have ht' : t < 53 := ht
                rcases (by omega : t = 0 ∨ t = 1 ∨ t = 2 ∨ t = 3 ∨ t = 4 ∨ t = 5 ∨ t = 6 ∨ t = 7 ∨ t = 8 ∨ t = 9 ∨ t = 10 ∨ t = 11 ∨ t = 12 ∨ t = 13 ∨ t = 14 ∨ t = 15 ∨ t = 16 ∨ t = 17 ∨ t = 18 ∨ t = 19 ∨ t = 20 ∨ t = 21 ∨ t = 22 ∨ t = 23 ∨ t = 24 ∨ t = 25 ∨ t = 26 ∨ t = 27 ∨ t = 28 ∨ t = 29 ∨ t = 30 ∨ t = 31 ∨ t = 32 ∨ t = 33 ∨ t = 34 ∨ t = 35 ∨ t = 36 ∨ t = 37 ∨ t = 38 ∨ t = 39 ∨ t = 40 ∨ t = 41 ∨ t = 42 ∨ t = 43 ∨ t = 44 ∨ t = 45 ∨ t = 46 ∨ t = 47 ∨ t = 48 ∨ t = 49 ∨ t = 50 ∨ t = 51 ∨ t = 52) with rfl | rfl | rfl | rfl | rfl | rfl | rfl | rfl | rfl | rfl | rfl | rfl | rfl | rfl | rfl | rfl | rfl | rfl | rfl | rfl | rfl | rfl | rfl | rfl | rfl | rfl | rfl | rfl | rfl | rfl | rfl | rfl | rfl | rfl | rfl | rfl | rfl | rfl | rfl | rfl | rfl | rfl | rfl | rfl | rfl | rfl | rfl | rfl | rfl | rfl | rfl | rfl | rfl
                · exact hlow 0 (by kernel_rfl)
                · exact hlow 1 (by kernel_rfl)
                · exact hlow 2 (by kernel_rfl)
                · exact hlow 3 (by kernel_rfl)
                · exact hlow 4 (by kernel_rfl)
                · exact hlow 5 (by kernel_rfl)
                · exact hlow 6 (by kernel_rfl)
                · exact hlow 7 (by kernel_rfl)
                · exact hlow 8 (by kernel_rfl)
                · exact hlow 9 (by kernel_rfl)
                · exact hlow 10 (by kernel_rfl)
                · exact hlow 11 (by kernel_rfl)
                · exact hlow 12 (by kernel_rfl)
                · exact hlow 13 (by kernel_rfl)
                · exact hlow 14 (by kernel_rfl)
                · exact hlow 15 (by kernel_rfl)
                · exact hlow 16 (by kernel_rfl)
                · exact hlow 17 (by kernel_rfl)
                · exact hval 0 _ 18 rfl rfl
                · exact hval 1 _ 19 rfl rfl
                · exact hval 2 _ 20 rfl rfl
                · exact hval 3 _ 21 rfl rfl
                · exact hval 4 _ 22 rfl rfl
                · exact hval 5 _ 23 rfl rfl
                · exact hval 6 _ 24 rfl rfl
                · exact hval 7 _ 25 rfl rfl
                · exact hval 8 _ 26 rfl rfl
                · exact hval 9 _ 27 rfl rfl
                · exact hval 10 _ 28 rfl rfl
                · exact hval 11 _ 29 rfl rfl
                · exact hval 12 _ 30 rfl rfl
                · exact hval 13 _ 31 rfl rfl
                · exact hval 14 _ 32 rfl rfl
                · exact hval 15 _ 33 rfl rfl
                · exact hval 16 _ 34 rfl rfl
                · exact hlow 35 (by kernel_rfl)
                · exact hlow 36 (by kernel_rfl)
                · exact hlow 37 (by kernel_rfl)
                · exact hlow 38 (by kernel_rfl)
                · exact hlow 39 (by kernel_rfl)
                · exact hlow 40 (by kernel_rfl)
                · exact hlow 41 (by kernel_rfl)
                · exact hlow 42 (by kernel_rfl)
                · exact hlow 43 (by kernel_rfl)
                · exact hlow 44 (by kernel_rfl)
                · exact hlow 45 (by kernel_rfl)
                · exact hlow 46 (by kernel_rfl)
                · exact hlow 47 (by kernel_rfl)
                · exact hlow 48 (by kernel_rfl)
                · exact hlow 49 (by kernel_rfl)
                · exact hlow 50 (by kernel_rfl)
                · exact hlow 51 (by kernel_rfl)
                · exact hlow 52 (by kernel_rfl)
              subst ht
              clear hlow hval hsz hall
              have HSW1 := Lib.hid (HSJ.out.below hS)
              clear hS HCC HC1 HC0 fz1 fz0 HX
              go_wp2
              go_roundw
              case rel => exact ⟨k + 1, by omega, by omega, by go_num, by rw [HF.out]; exact HSW1.out⟩
              case measure => simp [intOf]; omega
            · intro L a w' t op _ hop _ _ _ hS hlow hdep _
              have ht : t < 17 := (Array.getElem?_eq_some_iff.1 hop).1
              rcases (by omega : t = 0 ∨ t = 1 ∨ t = 2 ∨ t = 3 ∨ t = 4 ∨ t = 5 ∨ t = 6 ∨ t = 7 ∨ t = 8 ∨ t = 9 ∨ t = 10 ∨ t = 11 ∨ t = 12 ∨ t = 13 ∨ t = 14 ∨ t = 15 ∨ t = 16) with rfl | rfl | rfl | rfl | rfl | rfl | rfl | rfl | rfl | rfl | rfl | rfl | rfl | rfl | rfl | rfl | rfl
              · obtain rfl := Option.some.inj hop
                have e9 : a.tmps[9]?.getD undef = .int .i64 (j : Int) := (Array.getD_eq_getD_getElem? ..).symm.trans (hlow 9 (by kernel_rfl))
                exact ⟨wanted_free rfl, .inl (.inl ⟨w', by simp [execOp, Act.eval, e9, go_sem], hS⟩)⟩
              · obtain rfl := Option.some.inj hop
                have e1 : a.tmps[1]?.getD undef = .int .i64 0 := (Array.getD_eq_getD_getElem? ..).symm.trans (hlow 1 (by kernel_rfl))
                exact ⟨wanted_free rfl, .inl (.inl ⟨w', by simp [execOp, Act.eval, e1, go_sem], hS⟩)⟩
              · obtain rfl := Option.some.inj hop
                have e18 : a.tmps[18]?.getD undef = .int .i64 (j : Int) := (Array.getD_eq_getD_getElem? ..).symm.trans (hdep 0 _ 18 (by kernel_rfl) rfl rfl)
                have e19 : a.tmps[19]?.getD undef = .int .i64 0 := (Array.getD_eq_getD_getElem? ..).symm.trans (hdep 1 _ 19 (by kernel_rfl) rfl rfl)
                exact ⟨wanted_free rfl, .inl (.inl ⟨w', by simp [execOp, Act.eval, e18, e19, h0, go_sem], hS⟩)⟩
              · obtain rfl := Option.some.inj hop
                have e20 : a.tmps[20]?.getD undef = .bool true := (Array.getD_eq_getD_getElem? ..).symm.trans (hdep 2 _ 20 (by kernel_rfl) rfl rfl)
                exact ⟨wanted_free rfl, .inl (.inl ⟨w', by simp [execOp, Act.eval, e20, go_sem], hS⟩)⟩
              · obtain rfl := Option.some.inj hop
                have e3 : a.tmps[3]?.getD undef = .func (.func FCD) #[.slice A js.length c] #[] := (Array.getD_eq_getD_getElem? ..).symm.trans (hlow 3 (by kernel_rfl))
                exact ⟨wanted_guard (g := 3) (d := 21) (b := true) rfl rfl rfl (hdep 3 _ 21 (by kernel_rfl) rfl rfl), .inl (.inl ⟨w', by simp [execOp, Act.eval, e3, go_sem], hS⟩)⟩
              · obtain rfl := Option.some.inj hop
                have e0 : a.tmps[0]?.getD undef = .slice (some ⟨g, 0, none⟩) q.length cs := (Array.getD_eq_getD_getElem? ..).symm.trans (hlow 0 (by kernel_rfl))
                exact ⟨wanted_guard (g := 3) (d := 21) (b := true) rfl rfl rfl (hdep 3 _ 21 (by kernel_rfl) rfl rfl), .inl (.inl ⟨w', by simp [execOp, Act.eval, e0, go_sem], hS⟩)⟩
              · obtain rfl := Option.some.inj hop
                have e9 : a.tmps[9]?.getD undef = .int .i64 (j : Int) := (Array.getD_eq_getD_getElem? ..).symm.trans (hlow 9 (by kernel_rfl))
                exact ⟨wanted_guard (g := 3) (d := 21) (b := true) rfl rfl rfl (hdep 3 _ 21 (by kernel_rfl) rfl rfl), .inl (.inl ⟨w', by simp [execOp, Act.eval, e9, go_sem], hS⟩)⟩
              · obtain rfl := Option.some.inj hop
                have e23 : a.tmps[23]?.getD undef = .slice (some ⟨g, 0, none⟩) q.length cs := (Array.getD_eq_getD_getElem? ..).symm.trans (hdep 5 _ 23 (by kernel_rfl) rfl rfl)
                have e24 : a.tmps[24]?.getD undef = .int .i64 (j : Int) := (Array.getD_eq_getD_getElem? ..).symm.trans (hdep 6 _ 24 (by kernel_rfl) rfl rfl)
                exact ⟨wanted_guard (g := 3) (d := 21) (b := true) rfl rfl rfl (hdep 3 _ 21 (by kernel_rfl) rfl rfl), .inl (.inl ⟨w', by simp [execOp, Act.eval, e23, e24, hj0, hjq, go_sem], hS⟩)⟩
              · obtain rfl := Option.some.inj hop
                have e25 : a.tmps[25]?.getD undef = .pointer (some ⟨g, j, none⟩) := (Array.getD_eq_getD_getElem? ..).symm.trans (hdep 7 _ 25 (by kernel_rfl) rfl rfl)
                have cw : w'.cell? ⟨g, j, none⟩ = some (.int .i64 (x : Int)) := (hS.cell (p := ⟨g, j, none⟩) lg).trans HC1.out
                exact ⟨wanted_guard (g := 3) (d := 21) (b := true) rfl rfl rfl (hdep 3 _ 21 (by kernel_rfl) rfl rfl), .inl (.inl ⟨w', by simp [execOp, Act.eval, e25, cw, go_sem], hS⟩)⟩
              · obtain rfl := Option.some.inj hop
                have e0 : a.tmps[0]?.getD undef = .slice (some ⟨g, 0, none⟩) q.length cs := (Array.getD_eq_getD_getElem? ..).symm.trans (hlow 0 (by kernel_rfl))
                exact ⟨wanted_guard (g := 3) (d := 21) (b := true) rfl rfl rfl (hdep 3 _ 21 (by kernel_rfl) rfl rfl), .inl (.inl ⟨w', by simp [execOp, Act.eval, e0, go_sem], hS⟩)⟩
              · obtain rfl := Option.some.inj hop
                have e9 : a.tmps[9]?.getD undef = .int .i64 (j : Int) := (Array.getD_eq_getD_getElem? ..).symm.trans (hlow 9 (by kernel_rfl))
                exact ⟨wanted_guard (g := 3) (d := 21) (b := true) rfl rfl rfl (hdep 3 _ 21 (by kernel_rfl) rfl rfl), .inl (.inl ⟨w', by simp [execOp, Act.eval, e9, go_sem], hS⟩)⟩
              · obtain rfl := Option.some.inj hop
                have e28 : a.tmps[28]?.getD undef = .int .i64 (j : Int) := (Array.getD_eq_getD_getElem? ..).symm.trans (hdep 10 _ 28 (by kernel_rfl) rfl rfl)
                exact ⟨wanted_guard (g := 3) (d := 21) (b := true) rfl rfl rfl (hdep 3 _ 21 (by kernel_rfl) rfl rfl), .inl (.inl ⟨w', by simp [execOp, Act.eval, e28, hw1, go_sem] <;> omega, hS⟩)⟩
              · obtain rfl := Option.some.inj hop
                have e27 : a.tmps[27]?.getD undef = .slice (some ⟨g, 0, none⟩) q.length cs := (Array.getD_eq_getD_getElem? ..).symm.trans (hdep 9 _ 27 (by kernel_rfl) rfl rfl)
                have e29 : a.tmps[29]?.getD undef = .int .i64 (m : Int) := (Array.getD_eq_getD_getElem? ..).symm.trans (hdep 11 _ 29 (by kernel_rfl) rfl rfl)
                exact ⟨wanted_guard (g := 3) (d := 21) (b := true) rfl rfl rfl (hdep 3 _ 21 (by kernel_rfl) rfl rfl), .inl (.inl ⟨w', by simp [execOp, Act.eval, e27, e29, hm0, hm2, go_sem], hS⟩)⟩
              · obtain rfl := Option.some.inj hop
                have e30 : a.tmps[30]?.getD undef = .pointer (some ⟨g, m, none⟩) := (Array.getD_eq_getD_getElem? ..).symm.trans (hdep 12 _ 30 (by kernel_rfl) rfl rfl)
                have cw : w'.cell? ⟨g, m, none⟩ = some (.int .i64 (y : Int)) := (hS.cell (p := ⟨g, m, none⟩) lg).trans HC0.out
                exact ⟨wanted_guard (g := 3) (d := 21) (b := true) rfl rfl rfl (hdep 3 _ 21 (by kernel_rfl) rfl rfl), .inl (.inl ⟨w', by simp [execOp, Act.eval, e30, cw, go_sem], hS⟩)⟩
              · obtain rfl := Option.some.inj hop
                have e22 : a.tmps[22]?.getD undef = .func (.func FCD) #[.slice A js.length c] #[] := (Array.getD_eq_getD_getElem? ..).symm.trans (hdep 4 _ 22 (by kernel_rfl) rfl rfl)
                have e26 : a.tmps[26]?.getD undef = .int .i64 (x : Int) := (Array.getD_eq_getD_getElem? ..).symm.trans (hdep 8 _ 26 (by kernel_rfl) rfl rfl)
                have e31 : a.tmps[31]?.getD undef = .int .i64 (y : Int) := (Array.getD_eq_getD_getElem? ..).symm.trans (hdep 13 _ 31 (by kernel_rfl) rfl rfl)
                refine ⟨wanted_guard (g := 3) (d := 21) (b := true) rfl rfl rfl (hdep 3 _ 21 (by kernel_rfl) rfl rfl), .inl (.inr ⟨FCD, #[.slice A js.length c, .int .i64 (x : Int), .int .i64 (y : Int)], by simp [execOp, Act.eval, e22, e26, e31, hcf, go_sem], (HCC.out w' hS).mono ?_⟩)⟩
                rintro e w2 ⟨rfl, hb2⟩
                exact ⟨rfl, hS.trans (hb2.mono hS.size)⟩
              · obtain rfl := Option.some.inj hop
                have e32 : a.tmps[32]?.getD undef = .int .i64 gg := (Array.getD_eq_getD_getElem? ..).symm.trans (hdep 14 _ 32 (by kernel_rfl) rfl rfl)
                exact ⟨wanted_guard (g := 3) (d := 21) (b := true) rfl rfl rfl (hdep 3 _ 21 (by kernel_rfl) rfl rfl), .inl (.inl ⟨w', by simp [execOp, Act.eval, e32, dn, go_sem], hS⟩)⟩
              · obtain rfl := Option.some.inj hop
                have e21 : a.tmps[21]?.getD undef = .bool true := (Array.getD_eq_getD_getElem? ..).symm.trans (hdep 3 _ 21 (by kernel_rfl) rfl rfl)
                have e33 : a.tmps[33]?.getD undef = .bool false := (Array.getD_eq_getD_getElem? ..).symm.trans (hdep 15 _ 33 (by kernel_rfl) rfl rfl)
                exact ⟨wanted_free rfl, .inl (.inl ⟨w', by simp [execOp, Act.eval, e21, e33, go_sem], hS⟩)⟩
        · have d0 : decide ((0 : Int) < (j : Int)) = false := decide_eq_false (by omega)
          have d1 : ¬ (0 : Int) < (j : Int) := by omega
          have HF : Hid (dueTo js q (k + 1) ++ q.drop (k + 1) = midL out rest x j) := by
            show _ = _
            rw [HINS.out, HREST.out, insD_back HSO.out.1 HSO.out.2 (j := j) (by omega) (fun h => absurd h h0) HG.out]
            unfold midL; simp
          go_wp2
          go_quiet (fail)
          go_wp2
          go_roundw
          case rel => exact ⟨k + 1, by omega, by omega, by go_num, by rw [HF.out]; exact HSJ.out.drew _⟩
          case measure => simp [intOf]; omega
    · have hkq : k = q.length := by omega
      have HF : Hid (dueTo js q k ++ q.drop k = dueL js q) := by
        show _ = _
        rw [hkq, List.drop_of_length_le (Nat.le_refl _), List.append_nil]; rfl
      have hkq' : ¬ (k : Int) < (q.length : Int) := by omega
      clear hkq
      go_wp2
      go_end0
      refine ⟨rfl, ?_⟩
      rw [← HF.out]
      exact HSk.out
end
end Go.Proofs.YtjemjdlaoebffaaDoor

end
section
namespace Go.Proofs.YtjemjdlaoebffaaDoor
open Go.RowKit
def o1 (s : Int) : Int := IntKind.u64.wrap (bits BinOp.and IntKind.u64 (s / 2) 6148914691236517205 + bits BinOp.and IntKind.u64 s 6148914691236517205)
def o2 (x : Int) : Int := IntKind.u64.wrap (bits BinOp.and IntKind.u64 (x / 4) 3689348814741910323 + bits BinOp.and IntKind.u64 x 3689348814741910323)
def o3 (x : Int) : Int := bits BinOp.and IntKind.u64 (IntKind.u64.wrap (x / 16 + x)) 1085102592571150095
def o4 (x : Int) : Int := IntKind.u64.wrap (x + x / 256)
def o5 (x : Int) : Int := IntKind.u64.wrap (x + x / 65536)
def o6 (x : Int) : Int := IntKind.u64.wrap (x + x / 4294967296)
def onesI (s : Int) : Int := bits BinOp.and IntKind.i64 (wrap64 (o6 (o5 (o4 (o3 (o2 (o1 s))))))) 127
theorem ones_facts : ∀ s : Nat, s < 256 → 0 ≤ onesI (s : Int) ∧ onesI (s : Int) ≤ 8 := by decide +kernel
set_option maxRecDepth 100000 in
theorem ones64_any (s : Nat) (hs : s < 256) (w : World) :
    Calls Tryd.prog 216 #[.int .u64 (s : Int)] w fun e w' => ∃ n : Nat, e = .returned (.int .i64 (n : Int)) ∧ n ≤ 8 ∧ w = w' := by
  go_enter Tryd.func216, Tryd.ntmps216
  go_wp2
  go_ret
  obtain ⟨h0, h1⟩ := ones_facts s hs
  exact ⟨(onesI (s : Int)).toNat, by rw [Int.toNat_of_nonneg h0]; rfl, by omega, rfl⟩
theorem ones_any (s : Nat) (hs : s < 256) (w : World) :
    Calls Tryd.prog 197 #[.int .u64 (s : Int)] w fun e w' => ∃ n : Nat, e = .returned (.int .i64 (n : Int)) ∧ n ≤ 8 ∧ w = w' := by
  have H := Lib.hid (ones64_any s hs w)
  go_enter Tryd.func197, Tryd.ntmps197
  go_wp2_with fail
  refine H.out.mono ?_
  rintro e _ ⟨n, rfl, hn, rfl⟩
  go_wp2
  go_ret
  exact ⟨n, rfl, hn, rfl⟩
theorem size_any (s : Nat) (hs : s < 256) (w : World) :
    Calls Tryd.prog 165 #[.int .u64 (s : Int)] w fun e w' => ∃ n : Nat, e = .returned (.int .i64 (n : Int)) ∧ n ≤ 8 ∧ w = w' := by
  have H := Lib.hid (ones_any s hs w)
  go_enter Tryd.func165, Tryd.ntmps165
  go_wp2_with fail
  refine H.out.mono ?_
  rintro e _ ⟨n, rfl, hn, rfl⟩
  go_wp2
  go_ret
  exact ⟨n, rfl, hn, rfl⟩
end Go.Proofs.YtjemjdlaoebffaaDoor

end
section
namespace Go.Proofs.YtjemjdlaoebffaaDoor
open Go.RowKit Go.Shelf
attribute [local go_sem] Oper.semAt_some
theorem TzTab.belowB {w w' : World} {B : Nat} (h : TzTab w) (hb : Below B w w') (hg : 1 < B) : TzTab w' := by
  obtain ⟨cs, t, fr, h1, h2⟩ := h
  exact ⟨cs, t, fr, (hb.block _ hg).trans h1, h2⟩
theorem TzTab.lt {w : World} (h : TzTab w) : 1 < w.heap.size := by
  obtain ⟨cs, t, fr, h1, h2⟩ := h
  exact (Array.getElem?_eq_some_iff.1 h1).1
section
variable (B0 Bs s cc : Nat) (A : Option Addr) (w : World) (hs : s < 256) (hB : Boxed w Bs 69 (.int .u64 (s : Int))) (hT : TzTab w) (hgB : 1 < B0) (hown : w.ownsRow B0 3 1 (.slice A 0 cc) 0 []) (hB0 : B0 ≤ w.heap.size)
include hs hB hT hgB hown hB0
set_option maxRecDepth 100000 in
set_option maxHeartbeats 4000000 in
theorem appendSeq_any : Calls Tryd.prog 164 #[.slice A 0 cc, .func (.func 145) #[] #[.pointer (some ⟨Bs, 0, none⟩)]] w fun e w' => ∃ v, e = .returned v ∧ w'.ownsRow B0 3 1 v (memB s).length (ic (natI (memB s))) ∧ Below B0 w w' := by
  obtain ⟨i0, hi, hz0, hz1, hz2⟩ := info_parts infoI
  have hlB := hB.lt
  have bx := Boxed.new w 23 (.slice A 0 cc)
  have hB1 : Boxed (w.alloc (.cells #[.slice A 0 cc] 23)) Bs 69 (.int .u64 (s : Int)) := hB.alloc _
  have hr0 : (w.alloc (.cells #[.slice A 0 cc] 23)).ownsRow B0 3 1 (.slice A 0 cc) 0 [] := hown.alloc _
  have hb0 : Below B0 w (w.alloc (.cells #[.slice A 0 cc] 23)) := (Below.refl _ _).alloc hB0 _
  have hz : (w.alloc (.cells #[.slice A 0 cc] 23)).heap.size = w.heap.size + 1 := by simp
  have H0 := Lib.hid (And.intro bx (And.intro hB1 (And.intro hr0 hb0)))
  have HT := Lib.hid hT
  have hml := memB_len s
  clear bx hB1 hr0 hb0 hB hT hown
  refine (callsIn_wide (n := 6)).1 ?_
  refine callsIn_of_wp_marks Tryd.func164 rfl trivial ?_ rfl
  simp only [Tryd.ntmps164, List.size_toArray, List.length_cons, List.length_nil, Nat.reduceAdd, Nat.reduceSub, Array.replicate_succ, Array.replicate_zero, List.push_toArray, List.append_toArray, List.nil_append, List.cons_append]
  gi_wp2
  generalize w.alloc (.cells #[.slice A 0 cc] 23) = w1 at *
  obtain ⟨bx, hB1, hr0, hb0⟩ := H0.out
  refine wpIn_rangeFunc_ownG (F := Fence.wide) rfl (by omega) (gf := 145) (lb := #[.pointer (some ⟨Bs, 0, none⟩)]) rfl trivial (enters_of Tryd.func145 (by kernel_rfl) rfl)
    (members_stops 5 (by omega) Bs s hs w1 (by omega) hB1 (HT.out.belowB hb0 hgB))
    (fun h k t => k (h t)) (fun W l' o o' hl ho hc _ => KeepsTz.put ho hc) (Below.refl _ _) (fun _ => rfl)
    (fun (pre : List (Mb s)) W => (∃ v, Boxed W w.heap.size 23 v ∧ W.ownsRow B0 3 1 v pre.length (ic (natI (vals pre))) ∧ True) ∧ Below B0 w W)
    (fun _ _ _ => False)
    (OwnFrom.and (Own.from (holdsRow_own B0 w.heap.size 23 3 1 (fun pre : List (Mb s) => pre.length) (fun pre => ic (natI (vals pre))) (fun _ _ => True)) _) (ownFrom_below hB0 (by omega)))
    (fun _ _ _ _ _ h _ _ => h)
    ⟨⟨_, bx, hr0, trivial⟩, hb0⟩
    (fun x => { tmps := #[.slice A 0 cc, .func (.func 145) #[] #[.pointer (some ⟨Bs, 0, none⟩)], .pointer (some ⟨w.heap.size, 0, none⟩), undef, .slice none 0 0, .int .i64 (x.1 : Int), .func (.func 145) #[] #[.pointer (some ⟨Bs, 0, none⟩)], .int .i64 (x.1 : Int), undef, undef, undef, undef, undef], defers := [] }) ?assign ?body ?done ?stop
  case assign =>
    intro l' x W K hK
    unfold encM
    gi_wp2
    exact hK
  case body =>
    rintro l' pre ⟨x, hx⟩ W ⟨⟨v, hv, hrow, _⟩, hb⟩ hl
    have hc := hv.cell
    have hsz := hb.size
    have HV : Hid (ic (natI (vals (pre ++ [(⟨x, hx⟩ : Mb s)]))) = ic (natI (vals pre)) ++ [.int .i64 (x : Int)]) := by
      show _ = _
      rw [vals_snoc]; unfold natI ic; simp
    have hlen : (pre ++ [(⟨x, hx⟩ : Mb s)]).length = pre.length + 1 := by simp
    have HL := Lib.hid hlen
    clear hlen
    gi_wp2_with (gi_at_builtin; refine wpListIn_append_own _ rfl _ _ 23 rfl B0 3 i0 (.int .i64 0) 1 8 Tryd.underlying23 hi hz0 hz1 hz2 rfl (by decide) _ _ _ rfl (hrow.alloc _) ⟨W.heap.size, 0, none⟩ 1 1 [.int .i64 (x : Int)] rfl rfl (cell_one_new _ _ _) (by intro u hu; simp at hu; subst hu; rfl) (by unfold maxLen; omega) (by omega) (by simp; omega) ?_; intro v' w2 hown' hgrow _; obtain ⟨g', cap', rfl⟩ := ownsRow_succ hown'; obtain ⟨hv1, hv2, hr2, hk2, hb2⟩ := hv.appended (by decide) hrow (by omega) hB0 hown' hgrow; have hc1 := hv1.cell; have hf1 := hv1.frozen)
    have hbw := hb.trans hb2
    exact ⟨hk2.from _, fun _ => HT.out.belowB hbw hgB, ⟨⟨_, hv2, by rw [HL.out, HV.out]; exact hr2⟩, hbw⟩⟩
  case done =>
    rintro D ys W hD hys ⟨⟨v, hv, hrow, _⟩, hb⟩ hK
    have hc := hv.cell
    have hyl : ys.length = (memB s).length := by rw [← hys, vals_len]
    rw [hys, hyl] at hrow
    have HROW := Lib.hid hrow
    clear hrow hyl hys
    gi_wp2
    refine ⟨by simp, .inl ⟨_, _, rfl, run_takeDeferred hK, ?_⟩⟩
    exact ⟨_, results_tmp rfl _ _ _, v, rfl, ownsRow_putObj HROW.out _ hK rfl, hb.trans (belowK_b (w := w1) (by omega) W D _ _ (by omega) hK rfl rfl)⟩
  case stop =>
    rintro D cd pre W _ _ h _
    exact h.elim
end
theorem make_cap (n : Nat) (hn : n ≤ 8) (w : World) : (Instr.makeSlice 23 (.int .i64 0) (.int .i64 (n : Int))).run Tryd.prog w = .ok (.slice (some ⟨w.heap.size, 0, none⟩) 0 n) (w.alloc (.cells (madeCells #[.int .i64 0] n) 3)) := by
  obtain ⟨i0, hi, hz0, hz1, hz2⟩ := info_parts infoI
  have h := run_make (P := Tryd.prog) w 23 3 i0 (.int .i64 0) Tryd.underlying23 hi hz0 .i64 .i64 0 (n : Int) (by omega) (by omega) (by rw [hz2]; omega) (by omega)
  rw [hz1] at h
  simp at h
  exact h
theorem lst_a (w : World) (s n : Nat) (hs : s < 256) (hn : n ≤ 8) (hT : TzTab w) :
    Calls Tryd.prog 164 #[.slice (some ⟨w.heap.size, 0, none⟩) 0 n, .func (.func 145) #[] #[.pointer (some ⟨w.heap.size + 1, 0, none⟩)]] (((w.alloc (.cells (madeCells #[.int .i64 0] n) 3)).alloc (.cells #[.int .u64 (s : Int)] 69)).drew) fun e w' => ∃ v, e = .returned v ∧ w'.ownsRow w.heap.size 3 1 v (memB s).length (ic (natI (memB s))) ∧ Below w.heap.size w w' := by
  have hb : Below w.heap.size w (((w.alloc (.cells (madeCells #[.int .i64 0] n) 3)).alloc (.cells #[.int .u64 (s : Int)] 69)).drew) := (((Below.refl _ w).alloc (Nat.le_refl _) _).alloc (by simp) _).drew
  have b1 : Boxed (((w.alloc (.cells (madeCells #[.int .i64 0] n) 3)).alloc (.cells #[.int .u64 (s : Int)] 69)).drew) (w.heap.size + 1) 69 (.int .u64 (s : Int)) := by
    have h := Boxed.new (w.alloc (.cells (madeCells #[.int .i64 0] n) 3)) 69 (.int .u64 (s : Int))
    rw [World.size_alloc] at h
    exact h
  have b2 : BlockIs (((w.alloc (.cells (madeCells #[.int .i64 0] n) 3)).alloc (.cells #[.int .u64 (s : Int)] 69)).drew) w.heap.size 3 (madeCells #[.int .i64 0] n) := ((BlockIs.new w 3 (madeCells #[.int .i64 0] n)).below ((Below.refl _ _).alloc (Nat.le_refl _) (.cells #[.int .u64 (s : Int)] 69))).drew
  have ho : (((w.alloc (.cells (madeCells #[.int .i64 0] n) 3)).alloc (.cells #[.int .u64 (s : Int)] 69)).drew).ownsRow w.heap.size 3 1 (.slice (some ⟨w.heap.size, 0, none⟩) 0 n) 0 [] := by
    have h := b2.own (base := w.heap.size) (n := 0) (c := n) (size := 1) (Nat.le_refl _) (by rw [size_madeCells]; omega) (by omega) (by unfold maxLen; omega) (by omega)
    simpa using h
  refine (appendSeq_any w.heap.size (w.heap.size + 1) s n _ _ hs b1 (hT.below hb) hT.lt ho hb.size).mono ?_
  rintro e w' ⟨v, rfl, h1, h2⟩
  exact ⟨v, rfl, h1, hb.trans h2⟩
theorem lst_b (w : World) (s n : Nat) (hs : s < 256) (hn : n ≤ 8) (hT : TzTab w) :
    Calls Tryd.prog 164 #[.slice (some ⟨w.heap.size + 1, 0, none⟩) 0 n, .func (.func 145) #[] #[.pointer (some ⟨w.heap.size, 0, none⟩)]] (((w.alloc (.cells #[.int .u64 (s : Int)] 69)).alloc (.cells (madeCells #[.int .i64 0] n) 3)).drew) fun e w' => ∃ v, e = .returned v ∧ w'.ownsRow w.heap.size 3 1 v (memB s).length (ic (natI (memB s))) ∧ Below w.heap.size w w' := by
  have hb : Below w.heap.size w (((w.alloc (.cells #[.int .u64 (s : Int)] 69)).alloc (.cells (madeCells #[.int .i64 0] n) 3)).drew) := (((Below.refl _ w).alloc (Nat.le_refl _) _).alloc (by simp) _).drew
  have b1 : Boxed (((w.alloc (.cells #[.int .u64 (s : Int)] 69)).alloc (.cells (madeCells #[.int .i64 0] n) 3)).drew) w.heap.size 69 (.int .u64 (s : Int)) := (Boxed.new w 69 (.int .u64 (s : Int))).alloc (.cells (madeCells #[.int .i64 0] n) 3)
  have b2 : BlockIs (((w.alloc (.cells #[.int .u64 (s : Int)] 69)).alloc (.cells (madeCells #[.int .i64 0] n) 3)).drew) (w.heap.size + 1) 3 (madeCells #[.int .i64 0] n) := by
    have h := BlockIs.new (w.alloc (.cells #[.int .u64 (s : Int)] 69)) 3 (madeCells #[.int .i64 0] n)
    rw [World.size_alloc] at h
    exact h.drew
  have ho : (((w.alloc (.cells #[.int .u64 (s : Int)] 69)).alloc (.cells (madeCells #[.int .i64 0] n) 3)).drew).ownsRow w.heap.size 3 1 (.slice (some ⟨w.heap.size + 1, 0, none⟩) 0 n) 0 [] := by
    have h := b2.own (base := w.heap.size) (n := 0) (c := n) (size := 1) (by omega) (by rw [size_madeCells]; omega) (by omega) (by unfold maxLen; omega) (by omega)
    simpa using h
  refine (appendSeq_any w.heap.size w.heap.size s n _ _ hs b1 (hT.below hb) hT.lt ho hb.size).mono ?_
  rintro e w' ⟨v, rfl, h1, h2⟩
  exact ⟨v, rfl, h1, hb.trans h2⟩
set_option maxRecDepth 100000 in
set_option maxHeartbeats 4000000 in
theorem list_any (s : Nat) (w : World) (hs : s < 256) (hT : TzTab w) : Calls Tryd.prog 112 #[.int .u64 (s : Int)] w fun e w' => ∃ v, e = .returned v ∧ w'.ownsRow w.heap.size 3 1 v (memB s).length (ic (natI (memB s))) ∧ Below w.heap.size w w' := by
  have HA := Lib.hid (fun n hn => lst_a w s n hs hn hT)
  have HB := Lib.hid (fun n hn => lst_b w s n hs hn hT)
  clear hT
  go_enter Tryd.func112, Tryd.ntmps112
  go_wp2
  go_region_with (first
    | (go_at_call 165; refine (size_any s hs _).mono ?_; rintro e _ ⟨n, rfl, hn, rfl⟩; have hmk := make_cap n hn)
    | (go_at_call 89; refine ((callsIn_wide (n := 6)).1 (members_in 6 _ _)).mono ?_; rintro e w' ⟨rfl, rfl⟩)
    | (go_at_call 164; (first | (with_reducible refine (HA.out n hn).mono ?_) | (with_reducible refine (HB.out n hn).mono ?_)); rintro e w' ⟨v, rfl, hown, hb⟩))
  all_goals
    go_wp2
    go_ret
    exact ⟨v, rfl, hown, hb⟩
end Go.Proofs.YtjemjdlaoebffaaDoor

end
section
namespace Go.Proofs.YtjemjdlaoebffaaDoor
open Go.RowKit
theorem insSort0 (B : Option Addr) (d : Nat) (fv : Value) (w : World) :
    Calls Tryd.prog 198 #[.slice B 0 d, .int .i64 0, .int .i64 0, fv] w fun e w' => e = .returned (.tuple #[]) ∧ w = w' := by
  go_enter Tryd.func198, Tryd.ntmps198
  go_wp2
  refine wp_loop_rounds 1 ?_
  rw [rounds_succ]
  go_wp2
  go_end0
  exact ⟨rfl, rfl⟩
theorem pdq_any (P : World → Prop) (B : Option Addr) (n d : Nat) (L : Int) (fv : Value) (w : World) (hn : n ≤ 12)
    (hI : Calls Tryd.prog 198 #[.slice B n d, .int .i64 0, .int .i64 (n : Int), fv] w fun e w' => e = .returned (.tuple #[]) ∧ P w') :
    Calls Tryd.prog 185 #[.slice B n d, .int .i64 0, .int .i64 (n : Int), .int .i64 L, fv] w fun e w' => e = .returned (.tuple #[]) ∧ P w' := by
  have HI := Lib.hid hI
  clear hI
  go_enter Tryd.func185, Tryd.ntmps185
  go_wp2
  refine wp_loop_rounds 1 ?_
  rw [rounds_succ]
  go_wp2_with fail
  refine HI.out.mono ?_
  rintro e w' ⟨rfl, hp⟩
  have HP := Lib.hid hp
  clear hp
  go_wp2
  refine bodyPost_ret (results_none rfl _ _ _) rfl ?_
  exact ⟨rfl, HP.out⟩
theorem sortFunc_any (P : World → Prop) (B : Option Addr) (n d : Nat) (fv : Value) (w : World) (hn : n ≤ 12)
    (hI : Calls Tryd.prog 198 #[.slice B n d, .int .i64 0, .int .i64 (n : Int), fv] w fun e w' => e = .returned (.tuple #[]) ∧ P w') :
    Calls Tryd.prog 143 #[.slice B n d, fv] w fun e w' => e = .returned (.tuple #[]) ∧ P w' := by
  have HI : Hid (∀ L : Int, _) := fun L => pdq_any P B n d L fv w hn hI
  clear hI
  go_enter Tryd.func143, Tryd.ntmps143
  go_wp2_with fail
  refine (Tryd.bits_Len (n : Int) w (by omega) (by omega)).mono ?_
  rintro e w' ⟨rfl, rfl⟩
  go_wp2_with fail
  refine (HI.out _).mono ?_
  rintro e w' ⟨rfl, hp⟩
  have HP := Lib.hid hp
  clear hp
  go_wp2
  go_end0
  exact ⟨rfl, HP.out⟩
section
variable {js : List J} {A : Option Addr} {c : Nat} (hok : ∀ j ∈ js, okJ j = true) (h8 : js.length ≤ 8)
include hok h8
theorem sortD_own (B0 : Nat) (w : World) (hr : Row w A (jc js)) (B : Option Addr) (d : Nat) (q : List Nat) (hown : w.ownsRow B0 3 1 (.slice B q.length d) q.length (ic (natI q))) (hq : ∀ x ∈ q, x < js.length) (hd : q.Nodup) (hl : q.length ≤ 12) (hA : 0 < js.length → ∀ a, A = some a → a.block < B0) :
    Calls Tryd.prog 143 #[.slice B q.length d, .func (.func FCD) #[.slice A js.length c] #[]] w fun e w' => e = .returned (.tuple #[]) ∧ (w'.ownsRow B0 3 1 (.slice B q.length d) q.length (ic (natI (dueL js q))) ∧ Below B0 w w') := by
  refine sortFunc_any (fun w' => w'.ownsRow B0 3 1 (.slice B q.length d) q.length (ic (natI (dueL js q))) ∧ Below B0 w w') B q.length d _ w hl ?_
  by_cases h0 : q.length = 0
  · have hq0 : q = [] := List.eq_nil_of_length_eq_zero h0
    subst hq0
    refine (insSort0 B d _ w).mono ?_
    rintro e w' ⟨rfl, rfl⟩
    exact ⟨rfl, hown, Below.refl _ _⟩
  · obtain ⟨g, cur, rfl, hg, hB, h1, h2, h3, h4⟩ := own_block hown (by omega)
    refine (insSortD_any hok h8 w hr g d cur.size q hq hd hl ⟨cur, hB, rfl, by rw [Nat.mul_one] at h4; exact h4, World.grownBy.refl _ _⟩ (fun hp a ha => by have := hA hp a ha; omega)).mono ?_
    rintro e w' ⟨rfl, cur', hB', hs', ht', hG⟩
    refine ⟨rfl, ?_, ⟨hG.os, hG.tape, hG.output, hG.size, fun k hk => hG.block k (by have := hB.lt; omega) (fun e => by injection e; omega)⟩⟩
    have h := hB'.own (base := B0) (n := q.length) (c := d) (size := 1) hg (by rw [hs']; exact h3) h1 h2 (by rw [hs', h3]; omega)
    rw [Nat.mul_one, ht'] at h
    exact h
end
theorem memB_nodup (s : Nat) : (memB s).Nodup := List.Nodup.sublist List.filter_sublist List.nodup_range
section
variable (A : Option Addr) (c : Nat) (js : List J) (w : World) (hr : Row w A (jc js)) (hok : ∀ j ∈ js, okJ j = true) (h8 : js.length ≤ 8) (s : Nat) (hs : s < 256) (hlt : ∀ k, s.testBit k = true → k < js.length) (hT : TzTab w)
include hr hok h8 hs hlt hT
set_option maxRecDepth 100000 in
theorem dueOrder_any : Calls Tryd.prog 88 #[.slice A js.length c, .int .u64 (s : Int)] w fun e w' => ∃ v, e = .returned v ∧ w'.ownsRow w.heap.size 3 1 v (memB s).length (ic (natI (dueL js (memB s)))) ∧ Below w.heap.size w w' := by
  have HL := Lib.hid (list_any s w hs hT)
  have HSO : Hid (∀ (w1 : World) (B : Option Addr) (d : Nat), Below w.heap.size w w1 → w1.ownsRow w.heap.size 3 1 (.slice B (memB s).length d) (memB s).length (ic (natI (memB s))) → Calls Tryd.prog 143 #[.slice B (memB s).length d, .func (.func FCD) #[.slice A js.length c] #[]] w1 fun e w' => e = .returned (.tuple #[]) ∧ (w'.ownsRow w.heap.size 3 1 (.slice B (memB s).length d) (memB s).length (ic (natI (dueL js (memB s)))) ∧ Below w.heap.size w1 w')) := fun w1 B d hb ho =>
    sortD_own hok h8 w.heap.size w1 (hr.below hb) B d (memB s) ho (fun x hx => hlt x ((memB_mem hs).1 hx)) (memB_nodup s) (by have := memB_len s; omega) (fun hp a ha => by
      obtain ⟨ad, e, hb', _⟩ := hr (by rw [jc_len]; omega)
      rw [ha] at e
      injection e with e
      rw [e]; exact hb')
  clear hr hok hlt hT
  generalize (memB s).length = n at *
  go_enter Tryd.func88, Tryd.ntmps88
  go_wp2_with fail
  refine HL.out.mono ?_
  rintro e w1 ⟨v, rfl, hown, hb1⟩
  obtain ⟨B, d, rfl, _, _⟩ := own_slice hown
  have HC := Lib.hid (HSO.out w1 B d hb1 hown)
  have HB1 := Lib.hid hb1
  clear hown hb1 HSO HL
  go_wp2_with fail
  refine HC.out.mono ?_
  rintro e w2 ⟨rfl, hown2, hb2⟩
  have HX := Lib.hid (And.intro hown2 (HB1.out.trans hb2))
  clear hown2 hb2
  go_wp2
  go_ret
  exact ⟨_, rfl, HX.out.1, HX.out.2⟩
end
end Go.Proofs.YtjemjdlaoebffaaDoor

end
section
namespace Go.Proofs.YtjemjdlaoebffaaDoor
open Go.RowKit
theorem fn_lat (B : Nat) (w : World) : FnIs B w 4 fLat := .inr (.inl ⟨rfl, rfl⟩)
theorem fn_lat_is {B : Nat} {w : World} {fv : Value} (hF : FnIs B w 4 fv) : fv = fLat := by
  rcases hF with ⟨h | h, _⟩ | ⟨_, rfl⟩ | ⟨h, _⟩ | ⟨h, _⟩ | ⟨h, _⟩ | ⟨h, _⟩ | ⟨h, _⟩
  · cases h
  · cases h
  · rfl
  all_goals cases h
section
variable (A : Option Addr) (c : Nat) (js : List J) (w : World) (hr : Row w A (jc js)) (hok : ∀ j ∈ js, okJ j = true) (h8 : js.length ≤ 8) (h0 : ∀ j ∈ js, j.r = 0) (s : Nat) (hs : s < 256) (hlt : ∀ k, s.testBit k = true → k < js.length) (hT : TzTab w)
include hr hok h8 h0 hs hlt hT
set_option maxRecDepth 100000 in
set_option maxHeartbeats 4000000 in
theorem latest_any : Calls Tryd.prog 86 #[.slice A js.length c, .int .u64 (s : Int)] w fun e w' => e = .returned (.int .i64 (latL js (dueL js (memB s)))) ∧ Below w.heap.size w w' := by
  have HM := Lib.hid (measureOf_any 4 w)
  have HDU : Hid (∀ w', Below w.heap.size w w' → _) := fun w' hb => dueOrder_any A c js w' (hr.below hb) hok h8 s hs hlt (hT.below hb)
  have hpm : ∀ x ∈ dueL js (memB s), x < js.length := fun x hx => hlt x ((memB_mem hs).1 ((dueL_perm js (memB s)).mem_iff.1 hx))
  have hpl : (dueL js (memB s)).length = (memB s).length := dueL_len _ _
  have hml := memB_len s
  rw [← hpl] at HDU
  have HLA := Lib.hid (latTo_all js (dueL js (memB s)))
  have HFL : Hid (latL js (dueL js (memB s)) = partV 4 js (dueL js (memB s))) := rfl
  have hp8 : (dueL js (memB s)).length ≤ 8 := by omega
  have HR := Lib.hid hr
  clear hr hT hpl hml hlt hs
  generalize dueL js (memB s) = p at *
  go_enter Tryd.func86, Tryd.ntmps86
  go_wp2_with fail
  refine HM.out.mono ?_
  rintro e w1 ⟨hb1, ⟨ho, _⟩ | ⟨_, fv, rfl, hF⟩⟩
  · cases ho
  obtain rfl := fn_lat_is hF
  clear hF HM
  have hst := store_pair Tryd.prog w1 fLat .nilFunc (.bool false) 183 rfl
  have hbW : Below w1.heap.size w1 (w1.alloc (.cells #[fLat, .bool true] 183)) := (Below.refl _ _).alloc (Nat.le_refl _) _
  have hM := BlockIs.new w1 183 #[fLat, .bool true]
  have H1 := Lib.hid (And.intro hM (hb1.trans (hbW.mono hb1.size)))
  have HC := Lib.hid (HDU.out _ H1.out.2)
  have hbm : w.heap.size ≤ w1.heap.size := hb1.size
  clear hbW hM hb1 HDU
  rw [show isTop 4 = true from rfl]
  go_wp2_with fail
  refine HC.out.mono ?_
  rintro e w2 ⟨v, rfl, hown, hb2⟩
  obtain ⟨B, d, rfl, _, hrow⟩ := own_slice hown
  have HM2 := Lib.hid (H1.out.1.below hb2)
  have HB2 := Lib.hid (H1.out.2.trans (hb2.mono H1.out.2.size))
  have HO2 := Lib.hid hrow
  clear hst hown hrow hb2 H1 HC
  go_wp2
  go_loopw [7, 8, 19] (fun vv nv iv wr => ∃ k : Nat, k ≤ p.length ∧ iv = .int .i64 (k : Int) ∧ vv = .int .i64 (latTo js p k) ∧ nv = .int .i64 (nowTo js p k) ∧ Hid (Below w2.heap.size w2 wr)) (fun _ _ iv _ => p.length - (intOf iv).toNat)
  case atStart => exact ⟨0, Nat.zero_le _, rfl, rfl, rfl, Below.refl _ _⟩
  case round =>
    obtain ⟨k, hk, rfl, rfl, rfl, HB⟩ := hrel
    by_cases hlt : k < p.length
    · have hk0 : (0 : Int) ≤ k := by omega
      have hk1 : (k : Int) < p.length := by omega
      have hxl := hpm _ (List.getElem_mem hlt)
      obtain ⟨bd, hBe, hcx⟩ := (HO2.out.below HB.out).nat hlt
      subst hBe
      have hbw := HB2.out.trans (HB.out.mono HB2.out.size)
      obtain ⟨ad, hA, hadb, c0, c1, c2, c3⟩ := (HR.out.below hbw).job hxl
      subst hA
      have HN := Lib.hid (nowTo_succ hok h0 hpm hlt)
      have HL := Lib.hid (latTo_succ (js := js) hpm hlt)
      have n1 := nowTo_bd hok h0 hpm k (by omega)
      have n2 := nowTo_bd hok h0 hpm (k + 1) (by omega)
      have l1 := latTo_bd hok h0 hpm hp8 k (by omega)
      have hj := hok _ (List.getElem_mem hxl)
      have hjt := okJ_out hj
      have m0 := (HM2.out.below HB.out).cell 0
      have m1 := (HM2.out.below HB.out).cell 1
      simp only [List.getElem?_toArray, List.getElem?_cons_zero, List.getElem?_cons_succ] at m0 m1
      have hx0 : (0 : Int) ≤ p[k] := by omega
      have hx1 : (p[k] : Int) < js.length := by omega
      have HEX : Hid (∀ w', Calls Tryd.prog 141 #[.agg #[fLat, .bool true], .int .i64 (k : Int), .int .i64 (latTo js p k), .agg #[.int .i64 js[p[k]].t, .int .i64 js[p[k]].w, .int .i64 js[p[k]].r, .int .i64 js[p[k]].d], .int .i64 (nowTo js p (k + 1))] w' fun e w'' => e = .returned (.int .i64 (extOf 4 k (latTo js p k) (costOf 4 js[p[k]] (nowTo js p (k + 1))))) ∧ Below w'.heap.size w' w'') := fun w' => extended_any (fn_lat 0 w') (Nat.zero_le _) rfl k (by omega) _ l1.1 l1.2 _ hj _ n2.1 (by omega)
      rw [HN.out] at HEX HL n2
      have HBW := Lib.hid hbw
      clear hbw hj hok h0 l1
      generalize js[p[k]] = j at *
      generalize p[k] = x at *
      go_wp2
      go_still_tail 8, (by kernel_rfl)
      go_wp2_with fail
      refine (HEX.out _).mono ?_
      rintro e w3 ⟨rfl, hb3⟩
      have HBX := Lib.hid ((Below.refl _ _).drew.trans hb3)
      rw [← HL.out]
      clear hb3 HEX
      go_wp2
      go_roundw
      case rel => exact ⟨k + 1, by omega, by go_num, rfl, by rw [HN.out], HB.out.trans (HBX.out.mono HB.out.size)⟩
      case measure => simp [intOf]; omega
    · obtain rfl : k = p.length := by omega
      have HBW := Lib.hid (HB2.out.trans (HB.out.mono HB2.out.size))
      go_wp2
      go_ret
      exact ⟨by rw [HFL.out, ← HLA.out]; rfl, HBW.out⟩
end
end Go.Proofs.YtjemjdlaoebffaaDoor

end
section
namespace Go.Proofs.YtjemjdlaoebffaaDoor
open Go.RowKit
section
variable (A : Option Addr) (c : Nat) (js : List J) (w : World) (hr : Row w A (jc js)) (hok : ∀ j ∈ js, okJ j = true) (h8 : js.length ≤ 8) (h0 : ∀ j ∈ js, j.r = 0) (s : Nat) (hs : s < 256) (hlt : ∀ k, s.testBit k = true → k < js.length) (hT : TzTab w)
include hr hok h8 h0 hs hlt hT
set_option maxRecDepth 100000 in
theorem isTimely_any : Calls Tryd.prog 44 #[.slice A js.length c, .int .u64 (s : Int)] w fun e w' => e = .returned (.bool (decide (latL js (dueL js (memB s)) ≤ 0))) ∧ Below w.heap.size w w' := by
  have HL := Lib.hid (latest_any A c js w hr hok h8 h0 s hs hlt hT)
  clear hr hok h8 h0 hs hlt hT
  go_enter Tryd.func44, Tryd.ntmps44
  go_wp2_with fail
  refine HL.out.mono ?_
  rintro e w1 ⟨rfl, hb1⟩
  go_wp2
  go_ret
  exact ⟨rfl, hb1⟩
end
section
variable (A B : Option Addr) (c d : Nat) (js : List J) (s : List Int) (w : World) (hr : Row w A (jc js)) (hq : Row w B (ic s)) (hn : js.length ≤ 10000000) (hm : s.length ≤ 10000000)
include hq hn hm
set_option maxRecDepth 100000 in
theorem l6Set_any : Calls Tryd.prog 82 #[.slice A js.length c, .slice B s.length d] w fun e w' => e = .returned (.bool (risL js.length s)) ∧ ∃ m, w' = w.drewN m := by
  have hin : IntKind.i64.wrap ((js.length : Int) - 1) = (js.length : Int) - 1 := IntWalk.i64_in _ (by omega)
  have HC : Hid (∀ w' : World, Row w' B (ic s) → _) := fun w' h => l1Rising_any B d js.length s w' h hm
  go_enter Tryd.func82, Tryd.ntmps82
  go_wp2_with fail
  refine (HC.out _ hq).mono ?_
  rintro e w1 ⟨rfl, m, rfl⟩
  go_wp2
  go_ret
  exact ⟨rfl, m, rfl⟩
include hr
/-- What setFor hands back. -/
def SetIs (e : Ending) (w' : World) : Prop := Below w.heap.size w w' ∧
  (plainL js = true ∧ risL js.length s = true ∧ e = .returned (.tuple #[.slice A js.length c, .int .u64 (numS s : Int), .bool true]) ∨
   (plainL js && risL js.length s) = false ∧ e = .returned (.tuple #[.slice none 0 0, .int .u64 0, .bool false]))
set_option maxRecDepth 100000 in
theorem setFor_any : Calls Tryd.prog 84 #[.slice A js.length c, .slice B s.length d] w (SetIs A c js s w) := by
  go_enter Tryd.func84, Tryd.ntmps84
  go_wp2_with fail
  refine (plainListOf_any A c js w hr (by omega)).mono ?_
  rintro e1 w1 ⟨hb1, ⟨hp, rfl⟩ | ⟨hp, rfl⟩⟩
  · obtain ⟨h8, hok⟩ := good_out (plain_good hp)
    clear hok
    cases hs : risL js.length s
    · go_wp2_with fail
      refine (isSetOf_any B d js.length s w1 (hq.below hb1) hm).mono ?_
      rintro e1 _ ⟨rfl, rfl⟩
      rw [hs]
      go_wp2
      go_ret3
      exact ⟨hb1, .inr ⟨by rw [hs, Bool.and_false], rfl⟩⟩
    · have HC := Lib.hid (setOfList_any B d s w1 (hq.below hb1) hm (ris8 hs h8))
      go_wp2_with fail
      refine (isSetOf_any B d js.length s w1 (hq.below hb1) hm).mono ?_
      rintro e1 _ ⟨rfl, rfl⟩
      rw [hs]
      go_wp2_with fail
      refine HC.out.mono ?_
      rintro e1 _ ⟨rfl, rfl⟩
      go_wp2
      go_ret3
      exact ⟨hb1, .inl ⟨hp, hs, rfl⟩⟩
  · go_wp2
    go_ret3
    exact ⟨hb1, .inr ⟨by rw [hp, Bool.false_and], rfl⟩⟩
end
end Go.Proofs.YtjemjdlaoebffaaDoor

end
