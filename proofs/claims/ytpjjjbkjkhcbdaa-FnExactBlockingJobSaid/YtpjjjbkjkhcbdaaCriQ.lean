/- Plain words for the critical part: ends and starts of the order, place by place. -/
import Derived.Test.YtpjjjbkjkhcbdaaCriP
namespace Go.Proofs.Ytpjjjbkjkhcbdaa
section
variable {js : List J} {p : List Nat} (hp : p.Perm (List.range js.length))
include hp
theorem ends_place {k : Nat} (hk : k < p.length) : (endsL js p).getD p[k] 0 = nowAt js p (k + 1) :=
  end_at js p 0 _ (perm_nodup hp) (fun j hj => by have := perm_lt hp hj; simpa using this) k hk
theorem starts_place {k : Nat} (hk : k < p.length) : (startsL js p).getD p[k] 0 = max (nowAt js p k) (js.getD p[k] j0).r :=
  start_at js p 0 _ (perm_nodup hp) (fun j hj => by have := perm_lt hp hj; simpa using this) k hk
theorem late_place {k : Nat} (hk : k < p.length) : lateAt js p k = (endsL js p).getD p[k] 0 - (js.getD p[k] j0).d := by
  rw [ends_place hp hk]
  unfold lateAt dueN
  rw [getD_at p 0 hk]
theorem brk_place {k : Nat} (hk : k + 1 < p.length) : brkB js p (k + 1) = decide ((startsL js p).getD (p[k + 1]) 0 ≠ (endsL js p).getD (p[k]'(by omega)) 0) := by
  rw [starts_place hp hk, ends_place hp (by omega)]
  unfold brkB
  rw [getD_at p 0 hk, decide_eq_decide]
  omega
end
theorem maxTo_up {js : List J} {p : List Nat} {k : Nat} (h : lateAt js p (maxTo js p k) < lateAt js p k) : maxTo js p (k + 1) = k := by rw [maxTo, if_pos h]
theorem maxTo_stay {js : List J} {p : List Nat} {k : Nat} (h : ¬ lateAt js p (maxTo js p k) < lateAt js p k) : maxTo js p (k + 1) = maxTo js p k := by rw [maxTo, if_neg h]
/-- The greatest lateness of the first k jobs, 0 of none. -/
def grtTo (js : List J) (p : List Nat) (k : Nat) : Int := if k = 0 then 0 else lateAt js p (maxTo js p k)
theorem grtTo_at {js : List J} {p : List Nat} {k : Nat} (h : 0 < k) : grtTo js p k = lateAt js p (maxTo js p k) := by unfold grtTo; rw [if_neg (by omega)]
/-- The begin of the part at the place of the k-th job. -/
theorem begTo_step {js : List J} {p : List Nat} {k : Nat} (hb : brkB js p k = true) : begTo js p k = k := by
  cases k with
  | zero => rfl
  | succ k => exact begTo_brk js p k hb
theorem begTo_same {js : List J} {p : List Nat} {k : Nat} (hb : brkB js p k = false) : begTo js p k = begTo js p (k - 1) := by
  cases k with
  | zero => rfl
  | succ k => exact begTo_go js p k hb
theorem blockTo_hit {js : List J} {l : List Nat} {d : Int} {k : Nat} (hk : k < l.length) (h : d < dueN js l[k]) : blockTo js l d (k + 1) = (l[k] : Nat) := by
  rw [blockTo, getD_at l 0 hk, if_pos h]
theorem blockTo_miss {js : List J} {l : List Nat} {d : Int} {k : Nat} (hk : k < l.length) (h : ¬ d < dueN js l[k]) : blockTo js l d (k + 1) = blockTo js l d k := by
  rw [blockTo, getD_at l 0 hk, if_neg h]
end Go.Proofs.Ytpjjjbkjkhcbdaa
