/- The ends of jobs on machines: the plain side. -/
import Derived.Test.YtdhndoccdfbefaaShJ
namespace Go.Proofs.Ytdhndoccdfbefaa
open Go.RowKit

/-- The end on the machine ahead, for ends f of the job ahead and times t. -/
def nowE (f t : Nat → Int) : Nat → Int
  | 0 => 0
  | k + 1 => max (nowE f t k) (f k) + t k
/-- The ends of the last one of x jobs. -/
def eAt (xss : List (List Int)) (p : List Nat) : Nat → Nat → Int
  | 0 => fun _ => 0
  | x + 1 => fun k => if k < mOf xss then nowE (eAt xss p x) (tm xss (p.getD x 0)) (k + 1) else 0
theorem nowE_bd {f t : Nat → Int} {B : Int} {m : Nat} (hB : 0 ≤ B) (hf : ∀ k, k < m → f k ≤ B) (ht : ∀ k, 0 ≤ t k ∧ t k ≤ 30) : ∀ k, k ≤ m → 0 ≤ nowE f t k ∧ nowE f t k ≤ B + 30 * k := by
  intro k
  induction k with
  | zero => intro _; unfold nowE; omega
  | succ k ih =>
    intro hk
    have h1 := ih (by omega)
    have h2 := ht k
    have h3 := hf k (by omega)
    unfold nowE
    omega
theorem nowE_up {f t : Nat → Int} (ht : ∀ k, 0 ≤ t k) (k : Nat) : nowE f t k ≤ nowE f t (k + 1) := by
  have := ht k
  show _ ≤ max _ _ + _
  omega
theorem eAt_bd {xss : List (List Int)} (h : Shop xss) (p : List Nat) : ∀ x k, 0 ≤ eAt xss p x k ∧ eAt xss p x k ≤ 90 * x := by
  intro x
  induction x with
  | zero => intro k; unfold eAt; omega
  | succ x ih =>
    intro k
    unfold eAt
    have h3 := h.m3
    split
    · rename_i hk
      have := nowE_bd (B := 90 * x) (m := mOf xss) (by omega) (fun k _ => (ih k).2) (fun k => h.tm (p.getD x 0) k) (k + 1) (by omega)
      omega
    · omega
theorem eAt_up {xss : List (List Int)} (h : Shop xss) (p : List Nat) (x k : Nat) (hk : k + 1 < mOf xss) : eAt xss p x k ≤ eAt xss p x (k + 1) := by
  cases x with
  | zero => unfold eAt; omega
  | succ x =>
    unfold eAt
    rw [if_pos (by omega), if_pos hk]
    exact nowE_up (fun k => (h.tm (p.getD x 0) k).1) (k + 1)
/-- The span. -/
def spanE (xss : List (List Int)) (p : List Nat) : Int := eAt xss p p.length (mOf xss - 1)
theorem eAt_out {xss : List (List Int)} (p : List Nat) (x k : Nat) (hk : mOf xss ≤ k) : eAt xss p x k = 0 := by
  cases x with
  | zero => rfl
  | succ x => unfold eAt; rw [if_neg (by omega)]
theorem span_max {xss : List (List Int)} (h : Shop xss) (p : List Nat) : max (max (eAt xss p p.length 0) (eAt xss p p.length 1)) (eAt xss p p.length 2) = spanE xss p := by
  unfold spanE
  have h1 := h.m1
  have h3 := h.m3
  have b0 := (eAt_bd h p p.length 0).1
  have b1 := (eAt_bd h p p.length 1).1
  rcases (by omega : mOf xss = 1 ∨ mOf xss = 2 ∨ mOf xss = 3) with e | e | e
  · have e1 := eAt_out p p.length 1 (by omega : mOf xss ≤ 1)
    have e2 := eAt_out p p.length 2 (by omega : mOf xss ≤ 2)
    rw [e, e1, e2]
    show _ = eAt xss p p.length 0
    omega
  · have e2 := eAt_out p p.length 2 (by omega : mOf xss ≤ 2)
    have u : eAt xss p p.length 0 ≤ eAt xss p p.length 1 := eAt_up h p p.length 0 (by omega)
    rw [e, e2]
    show _ = eAt xss p p.length 1
    omega
  · have u : eAt xss p p.length 0 ≤ eAt xss p p.length 1 := eAt_up h p p.length 0 (by omega)
    have u1 : eAt xss p p.length 1 ≤ eAt xss p p.length 2 := eAt_up h p p.length 1 (by omega)
    rw [e]
    show _ = eAt xss p p.length 2
    omega
def span2 (xss : List (List Int)) (o : List Int) : Bool := shopB xss && ordB xss.length o
def spanR (xss : List (List Int)) (o : List Int) : Int × Bool := if span2 xss o then (spanE xss (natsP o), true) else (0, false)
/-- Three cells. -/
def arr3 (f : Nat → Int) : Array Value := #[.int .i64 (f 0), .int .i64 (f 1), .int .i64 (f 2)]
theorem arr3_set (f : Nat → Int) (k : Nat) (v : Int) (h : k < 3) : (arr3 f).setIfInBounds k (.int .i64 v) = arr3 (fun j => if j = k then v else f j) := by
  rcases (by omega : k = 0 ∨ k = 1 ∨ k = 2) with rfl | rfl | rfl <;> rfl
theorem arr3_get (f : Nat → Int) (k : Nat) (h : k < 3) : (arr3 f)[k]? = some (.int .i64 (f k)) := by
  rcases (by omega : k = 0 ∨ k = 1 ∨ k = 2) with rfl | rfl | rfl <;> rfl
theorem arr3_ext {f g : Nat → Int} (h : ∀ k, k < 3 → f k = g k) : arr3 f = arr3 g := by
  unfold arr3
  rw [h 0 (by omega), h 1 (by omega), h 2 (by omega)]
theorem arr3_list (f : Nat → Int) : (arr3 f).toList = ic [f 0, f 1, f 2] := rfl
end Go.Proofs.Ytdhndoccdfbefaa
