/- A loop over an iterator that keeps state of its own in memory: between two rounds the iterator may turn blocks of one type, and no other cells. -/
import Derived.RangeFuncNested
import Derived.RangeFuncLeaves
import Derived.Shelf.Abstract
import Derived.Test.YtnkoncplfedffaaMem
namespace Go.Proofs.Ytnkoncplfedffaa
open Go.RowKit Go.Shelf
def notT (T : TypeId) (o : Obj) : Prop := ∀ cs fr, o ≠ .cells cs T fr
/-- What the iterator does between two rounds. -/
structure It (T : TypeId) (B : Nat) (W W' : World) : Prop where
  below : Below B W W'
  same : ∀ (k : Nat) (o : Obj), W.heap[k]? = some o → notT T o → W'.heap[k]? = some o
/-- What the loop's invariant abides. -/
structure Sm (T : TypeId) (B : Nat) (W W' : World) : Prop where
  below : Below B W W'
  same : ∀ (k : Nat) (t : TypeId) (cs : Array Value), t ≠ T → BlockIs W k t cs → BlockIs W' k t cs
section
variable {T : TypeId} {B : Nat} {W W' W'' : World}
theorem It.sm (h : It T B W W') {B' : Nat} (hB : B' ≤ B) : Sm T B' W W' := ⟨h.below.mono hB, fun k _ _ ht hb => h.same k _ hb (fun _ _ e => by cases e; exact ht rfl)⟩
theorem It.refl (T : TypeId) (B : Nat) (W : World) : It T B W W := ⟨Below.refl _ _, fun _ _ h _ => h⟩
theorem It.trans (h : It T B W W') (h2 : It T B W' W'') : It T B W W'' := ⟨h.below.trans h2.below, fun k o ho hn => h2.same k o (h.same k o ho hn) hn⟩
theorem It.of_below (hb : Below W.heap.size W W') (hB : B ≤ W.heap.size) : It T B W W' := ⟨hb.mono hB, fun k _ ho _ => (hb.block k (Array.getElem?_eq_some_iff.1 ho).1).trans ho⟩
theorem It.set {g : Nat} {cs : Array Value} (hb : BlockIs W g T cs) (hg : B ≤ g) (i : Nat) (u : Value) : It T B W (W.setCell ⟨g, i, none⟩ u) :=
  ⟨(Below.refl B W).setCell (p := ⟨g, i, none⟩) hg u, fun k o ho hn => by
    by_cases e : k = g
    · subst e
      rw [show W.heap[k]? = _ from hb] at ho
      cases ho
      exact absurd rfl (hn cs (0, 0))
    · exact (Below.heap_setCell W ⟨g, i, none⟩ u k e).trans ho⟩
theorem Sm.put {l : Nat} {o o' : Obj} (hl : B ≤ l) (h : W.heap[l]? = some o) (hc : ∀ cs t fr, o ≠ .cells cs t fr) : Sm T B W (W.putObj l o') :=
  ⟨(Below.refl B W).grown (grownBy_putObj' W l o') (by have := (Array.getElem?_eq_some_iff.1 h).1; omega) (fun k e => by cases e; omega), fun k t cs _ hb => by
    have hne : k ≠ l := fun e => by
      subst e
      rw [show W.heap[k]? = _ from hb] at h
      cases h
      exact absurd rfl (hc cs t (0, 0))
    exact (World.putObj_heap_other hne).trans hb⟩
theorem Sm.alloc (hB : B ≤ W.heap.size) (o : Obj) : Sm T B W (W.alloc o) := ⟨(Below.refl B W).alloc hB o, fun _ _ _ _ hb => hb.below ((Below.refl _ _).alloc (Nat.le_refl _) o)⟩
theorem Sm.trans (h : Sm T B W W') (h2 : Sm T B W' W'') : Sm T B W W'' := ⟨h.below.trans h2.below, fun k t cs ht hb => h2.same k t cs ht (h.same k t cs ht hb)⟩
end
/-- The contract of such an iterator: the loop's body never leaves early. -/
def SeqT {α : Type} (T : TypeId) (n : Nat) (P : Program) (gf : Nat) (lb : Array Value) (encs : α → Array Value) (Kp : World → World → Prop) (S : List α → Prop) (N : Nat) (w0 : World) : Prop :=
  ∀ (l : Nat) (J : List α → World → Prop) (W : World), Below w0.heap.size w0 W → (∀ s X Y, It T W.heap.size X Y → J s X → J s Y) →
    (∀ pre x W1, J pre W1 → pre.length < N → YieldAt Fence.wide (n - 1) P l (encs x) W1 fun e W' => e = .returned (.bool true) ∧ J (pre ++ [x]) W' ∧ Kp W1 W') →
    J [] W → CallsIn Fence.wide n P gf (#[.func (.yield l) #[] #[]] ++ lb) W fun e W' => (∃ v, e = .returned v) ∧ ∃ xs, S xs ∧ J xs W'
theorem range_seqT {α : Type} {P : Program} {n : Nat} {g : Operand} {ps : Array Tmp} {assign body : Code} {Q : Exit → Act → World → Prop} {a : Act} {w : World} (T : TypeId)
    (h1 : 1 ≤ n) {gf : Nat} {lb : Array Value} (hg : a.eval g = .func (.func gf) #[] lb) (eg : ∀ args w, (callFunc gf args).run P w = .ok (.enter gf args) w)
    {encs : α → Array Value} {Kp : World → World → Prop} {S : List α → Prop} {N : Nat} (hseq : SeqT T (n - 1) P gf lb encs Kp S N w)
    (hKt : ∀ A B C : World, Kp A B → Kp B C → Kp A C) (hKs : ∀ X Y, (∀ k t cs, BlockIs X k t cs → BlockIs Y k t cs) → Below w.heap.size X Y → Kp X Y) (hps : ∀ x, (encs x).size = ps.size)
    (I : List α → World → Prop) (hI : ∀ s X Y, Sm T w.heap.size X Y → I s X → I s Y) (h0 : I [] w) (A₁ : α → Act → World → Prop) (hA : ∀ x a' X Y, Sm T w.heap.size X Y → A₁ x a' X → A₁ x a' Y)
    (hassign : ∀ (l : Nat) (pre : List α) (x : α) (W : World) (K : Act → World → Prop), I pre W → (∀ a' W', KeepsFrom w.heap.size W W' → Kp W W' → I pre W' → A₁ x a' W' → K a' W') →
      assign.wpIn (Fence.wide.inRound l) (n - 1 - 1) P (Exit.then K (fun _ _ _ => False)) { tmps := (ps.zip (encs x)).foldl (fun t (p, v) => t.setIfInBounds p v) a.tmps, defers := [] } W)
    (hbody : ∀ (l : Nat) (pre : List α) (x : α) (a' : Act) (W : World), I pre W → A₁ x a' W → pre.length < N → body.wpIn (Fence.wide.inRound l) (n - 1 - 1) P (ownPostG w.heap.size Kp I (fun _ _ _ => False) (pre ++ [x]) W) a' W)
    (hdone : ∀ (D : Nat) (xs : List α) (W : World), w.heap.size ≤ D → S xs → I xs W → W.heap[D]? = some (.deferred (some [])) → Q .normal { a with defers := { target := .collected D, args := #[] } :: a.defers } W) :
    (Code.rangeFunc g ps assign body).wpIn Fence.wide n P Q a w := by
  refine wpIn_rangeFunc fun fn hfn => ?_
  obtain ⟨r0, hr0⟩ : ∃ r0 : Loop, r0 = { state := .ready, pending := none, fn, tmps := a.tmps, params := ps, assign, body, defers := w.heap.size } := ⟨_, rfl⟩
  obtain ⟨W1, hW1⟩ : ∃ W1, W1 = (w.alloc (.deferred (some []))).alloc (.loop r0) := ⟨_, rfl⟩
  have hs1 : W1.heap.size = w.heap.size + 1 + 1 := by rw [hW1]; simp
  have hL1 : W1.heap[w.heap.size + 1]? = some (.loop r0) := by
    rw [hW1]
    have := World.alloc_heap_new (w.alloc (.deferred (some []))) (.loop r0)
    rwa [World.size_alloc] at this
  have hK1 : W1.heap[w.heap.size]? = some (.deferred (some [])) := by
    rw [hW1]; exact (Below.heap_alloc _ _ _ (by simp)).trans (World.alloc_heap_new w _)
  have hsm1 : Sm T w.heap.size w W1 := by
    rw [hW1]; exact (Sm.alloc (Nat.le_refl _) _).trans (Sm.alloc (by simp) _)
  have hnl : ∀ r : Loop, ∀ cs t fr, Obj.loop r ≠ .cells cs t fr := fun _ _ _ _ e => by cases e
  have hnd : ∀ cs t fr, Obj.deferred (some []) ≠ .cells cs t fr := fun _ _ _ e => by cases e
  refine ⟨w.heap.size + 1, [{ target := .collected w.heap.size, args := #[] }], W1, { target := .fn (.func gf) lb, args := #[.func (.yield (w.heap.size + 1)) #[] #[]] }, W1, gf, #[.func (.yield (w.heap.size + 1)) #[] #[]] ++ lb, W1, ?_, ?_, fun _ _ => trivial, ?_, fun _ => h1, ?_⟩
  · rw [hW1, hr0]; exact run_enterLoop_outer _ _ _ _ _
  · simp only [resolve, hg]
    simp [go_sem]
  · simp [invoke, go_sem, eg]
  refine (hseq (w.heap.size + 1) (fun pre W => (I pre W ∧ W.heap[w.heap.size]? = some (.deferred (some []))) ∧ W.heap[w.heap.size + 1]? = some (.loop r0)) W1 hsm1.below ?_ ?_ ⟨⟨hI _ _ _ hsm1 h0, hK1⟩, hL1⟩).mono ?_
  · rintro s X Y hit ⟨⟨q1, q2⟩, q3⟩
    exact ⟨⟨hI _ _ _ (hit.sm (by omega)) q1, hit.same _ _ q2 (fun cs fr => hnd cs T fr)⟩, hit.same _ _ q3 (fun cs fr => hnl r0 cs T fr)⟩
  · rintro pre x W ⟨⟨q1, q2⟩, q3⟩ hlen
    have hy := run_yield (P := P) (args := encs x) q3 (by rw [hr0]; exact hps x)
    refine ⟨_, _, _, _, hy, ?_⟩
    have hra : r0.assign = assign := by rw [hr0]
    have hrb : r0.body = body := by rw [hr0]
    have hrp : r0.params = ps := by rw [hr0]
    have hrt : r0.tmps = a.tmps := by rw [hr0]
    rw [hra, hrb, hrp, hrt]
    refine roundIn_of_wpIn trivial (hassign _ pre x W _ q1 fun a' WA hkA hKA hIA hAA => ?_)
    have p2 := hkA.same _ _ (Nat.le_refl _) q2 rfl
    have p3 := hkA.same _ _ (by omega) q3 rfl
    have hq3 := (Array.getElem?_eq_some_iff.1 p3).1
    have hb := run_beginRound (P := P) p3 (by rw [hr0])
    obtain ⟨WB, hWB⟩ : ∃ WB, WB = WA.putObj (w.heap.size + 1) (.loop { r0 with state := .busy }) := ⟨_, rfl⟩
    rw [← hWB] at hb
    have hsmB : Sm T w.heap.size WA WB := by rw [hWB]; exact Sm.put (by omega) p3 (hnl r0)
    have hKB0 : Kp WA WB := by
      refine hKs _ _ (fun k t cs hk => ?_) hsmB.below
      have hne : k ≠ w.heap.size + 1 := fun e => by
        subst e
        rw [show WA.heap[w.heap.size + 1]? = _ from hk] at p3
        cases p3
      rw [hWB]; exact (World.putObj_heap_other hne).trans hk
    have hKB := hKt _ _ _ hKA hKB0
    have t2 : WB.heap[w.heap.size]? = some (.deferred (some [])) := by rw [hWB]; exact (World.putObj_heap_other (by omega)).trans p2
    have t3 : WB.heap[w.heap.size + 1]? = some (.loop { r0 with state := .busy }) := by rw [hWB]; exact World.putObj_heap_same hq3
    refine ⟨WB, hb, ?_⟩
    refine wpIn_mono (hbody _ pre x a' WB (hI _ _ _ hsmB hIA) (hA _ _ _ _ hsmB hAA) hlen) ?_
    rintro e a3 W3 hp
    cases e with
    | normal =>
      obtain ⟨hk3, hkp, hi3⟩ := hp
      have u3 := hk3.same _ _ (by omega) t3 rfl
      have u2 := hk3.same _ _ (Nat.le_refl _) t2 rfl
      have hend := run_endRound (P := P) none u3
      have hq3' := (Array.getElem?_eq_some_iff.1 u3).1
      have hsmE : Sm T w.heap.size W3 (W3.putObj (w.heap.size + 1) (.loop r0)) := Sm.put (by omega) u3 (hnl _)
      have hr1 : ({ { r0 with state := .busy } with state := if (none : Option Code).isNone then .ready else .done, pending := none } : Loop) = r0 := by rw [hr0]; rfl
      rw [hr1] at hend
      refine ⟨_, _, hend, rfl, ⟨⟨hI _ _ _ hsmE hi3, (World.putObj_heap_other (by omega)).trans u2⟩, World.putObj_heap_same hq3'⟩, hKt _ _ _ (hKt _ _ _ hKB hkp) (hKs _ _ (fun k t cs hk => ?_) hsmE.below)⟩
      have hne : k ≠ w.heap.size + 1 := fun e => by
        subst e
        rw [show W3.heap[w.heap.size + 1]? = _ from hk] at u3
        cases u3
      exact (World.putObj_heap_other hne).trans hk
    | ret => exact hp.2.elim
    | exit id => exact hp.2.elim
    | goto t => exact hp.2.elim
    | panic ch => exact hp.elim
    | outgrown => exact hp.elim
  · rintro e W2 ⟨⟨v, rfl⟩, xs, hS, ⟨q1, q2⟩, q3⟩
    have hend := run_endLoop (P := P) q3 (by rw [hr0]; simp)
    have hrp : r0.pending = none := by rw [hr0]
    rw [hrp] at hend
    exact ⟨none, _, hend, hdone _ xs _ (Nat.le_refl _) hS (hI _ _ _ (Sm.put (by omega) q3 (hnl r0)) q1) ((World.putObj_heap_other (by omega)).trans q2)⟩
end Go.Proofs.Ytnkoncplfedffaa
