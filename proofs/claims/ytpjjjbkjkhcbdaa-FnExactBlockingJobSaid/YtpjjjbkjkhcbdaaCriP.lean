/- Plain words for the critical part of the greedy order. -/
import Derived.Test.YtpjjjbkjkhcbdaaGreP
import Derived.Test.YtpjjjbkjkhcbdaaIdleP
namespace Go.Proofs.Ytpjjjbkjkhcbdaa
/-- The end of the job ahead of a place. -/
def nowAt (js : List J) (p : List Nat) (k : Nat) : Int := lastGo js (p.take k) 0
def lateAt (js : List J) (p : List Nat) (k : Nat) : Int := nowAt js p (k + 1) - dueN js (p.getD k 0)
def brkB (js : List J) (p : List Nat) (k : Nat) : Bool := decide (nowAt js p k < (js.getD (p.getD k 0) j0).r)
/-- The last place up to k at which the job does not start at the end of the job before it, or 0. -/
def begTo (js : List J) (p : List Nat) : Nat → Nat
  | 0 => 0
  | k + 1 => if brkB js p (k + 1) then k + 1 else begTo js p k
def maxTo (js : List J) (p : List Nat) : Nat → Nat
  | 0 => 0
  | k + 1 => if lateAt js p (maxTo js p k) < lateAt js p k then k else maxTo js p k
section
variable (js : List J) (p : List Nat)
theorem nowAt_succ {k : Nat} (hk : k < p.length) : nowAt js p (k + 1) = max (nowAt js p k) (js.getD (p.getD k 0) j0).r + (js.getD (p.getD k 0) j0).t := by
  unfold nowAt
  rw [List.take_succ_eq_append_getElem hk, lastGo_snoc, getD_at p 0 hk]
theorem begTo_le : ∀ k, begTo js p k ≤ k
  | 0 => Nat.le_refl _
  | k + 1 => by
    have := begTo_le k
    unfold begTo
    split <;> omega
theorem maxTo_one : maxTo js p 1 = 0 := by
  unfold maxTo
  rw [show maxTo js p 0 = 0 from rfl, if_neg (Int.lt_irrefl _)]
theorem maxTo_lt : ∀ k, 0 < k → maxTo js p k < k
  | 0, h => absurd h (by omega)
  | 1, _ => by rw [maxTo_one]; omega
  | k + 2, _ => by
    have := maxTo_lt (k + 1) (by omega)
    rw [maxTo]
    split <;> omega
theorem maxTo_le (k : Nat) : maxTo js p k ≤ k := by
  rcases Nat.eq_zero_or_pos k with h | h
  · subst h; exact Nat.le_refl _
  · have := maxTo_lt js p k h; omega
theorem begTo_brk (k : Nat) (h : brkB js p (k + 1) = true) : begTo js p (k + 1) = k + 1 := by unfold begTo; rw [if_pos h]
theorem begTo_go (k : Nat) (h : brkB js p (k + 1) = false) : begTo js p (k + 1) = begTo js p k := by rw [begTo, if_neg (by rw [h]; simp)]
theorem now_bd {js : List J} (hg : goodL js = true) : ∀ (p : List Nat) (now : Int), (∀ j ∈ p, j < js.length) → 0 ≤ now → now ≤ 500 → 0 ≤ lastGo js p now ∧ lastGo js p now ≤ 500 + 50 * p.length := by
  have key : ∀ (p : List Nat) (now : Int) (m : Int), (∀ j ∈ p, j < js.length) → 0 ≤ now → now ≤ 500 + m → 0 ≤ m → 0 ≤ lastGo js p now ∧ lastGo js p now ≤ 500 + m + 50 * p.length := by
    intro p
    induction p with
    | nil => intro now m _ h0 h1 _; exact ⟨h0, by unfold lastGo; simp; omega⟩
    | cons j p ih =>
      intro now m hp h0 h1 hm
      have hj := okJ_out (okD hg (hp j List.mem_cons_self))
      have := ih (max now (js.getD j j0).r + (js.getD j j0).t) (m + 50) (fun i hi => hp i (List.mem_cons_of_mem _ hi)) (by omega) (by omega) (by omega)
      unfold lastGo
      simp only [List.length_cons]
      omega
  intro p now hp h0 h1
  have := key p now 0 hp h0 (by omega) (by omega)
  omega
end
section
variable {js : List J} {p : List Nat} (hg : goodL js = true) (hp : p.Perm (List.range js.length))
include hg hp
theorem nowAt_bd (k : Nat) : 0 ≤ nowAt js p k ∧ nowAt js p k ≤ 900 := by
  have hl : p.length = js.length := by simpa using hp.length_eq
  have h8 := (good_out hg).1
  have := now_bd hg (p.take k) 0 (fun j hj => perm_lt hp (List.mem_of_mem_take hj)) (by omega) (by omega)
  unfold nowAt
  simp only [List.length_take] at this
  omega
theorem dueN_bd {k : Nat} (hk : k < p.length) : 0 ≤ dueN js (p.getD k 0) ∧ dueN js (p.getD k 0) ≤ 500 := by
  have := okJ_out (okD hg (perm_lt hp (getD_mem' hk)))
  unfold dueN; omega
  where getD_mem' {k : Nat} (hk : k < p.length) : p.getD k 0 ∈ p := by rw [getD_at p 0 hk]; exact List.getElem_mem _
end
/-- The critical part. -/
def critL (js : List J) (p : List Nat) : List Nat := (p.drop (begTo js p (maxTo js p p.length))).take (maxTo js p p.length + 1 - begTo js p (maxTo js p p.length))
theorem critL_len (js : List J) (p : List Nat) (h : 0 < p.length) : (critL js p).length = maxTo js p p.length + 1 - begTo js p (maxTo js p p.length) := by
  have h1 := maxTo_lt js p _ h
  have h2 := begTo_le js p (maxTo js p p.length)
  unfold critL
  rw [List.length_take, List.length_drop]
  omega
theorem critL_at (js : List J) (p : List Nat) (h : 0 < p.length) {i : Nat} (hi : i < (critL js p).length) : (critL js p)[i] = p.getD (begTo js p (maxTo js p p.length) + i) 0 := by
  have h1 := maxTo_lt js p _ h
  have h2 := begTo_le js p (maxTo js p p.length)
  have h3 := critL_len js p h
  have e : (critL js p)[i]? = p[begTo js p (maxTo js p p.length) + i]? := by
    unfold critL
    rw [List.getElem?_take, if_pos (by omega), List.getElem?_drop]
  rw [List.getElem?_eq_getElem hi, List.getElem?_eq_getElem (by omega)] at e
  rw [getD_at p 0 (by omega)]
  exact Option.some.inj e
theorem critL_pos (js : List J) (p : List Nat) (h : 0 < p.length) : 0 < (critL js p).length := by
  have h2 := begTo_le js p (maxTo js p p.length)
  rw [critL_len js p h]; omega
/-- The last one in a list of jobs whose Due date is greater than that of a job; none: -1. -/
def blockTo (js : List J) (l : List Nat) (d : Int) : Nat → Int
  | 0 => -1
  | k + 1 => if d < dueN js (l.getD k 0) then (l.getD k 0 : Nat) else blockTo js l d k
def lastDue (js : List J) (l : List Nat) : Int := dueN js (l.getD (l.length - 1) 0)
def blockL (js : List J) (l : List Nat) : Int := blockTo js l (lastDue js l) l.length
def blockR (js : List J) : Int × Bool := if goodL js ∧ 0 < js.length then (if 0 ≤ blockL js (critL js (greedyL js)) then (blockL js (critL js (greedyL js)), true) else (0, false)) else (0, false)
def critR (js : List J) : List Int × Bool := if goodL js ∧ 0 < js.length then ((critL js (greedyL js)).map Int.ofNat, true) else ([], false)
def greedyR (js : List J) : List Int × Bool := if goodL js then ((greedyL js).map Int.ofNat, true) else ([], false)
end Go.Proofs.Ytpjjjbkjkhcbdaa
