/- Demands, supplies and end vectors: in plain words. -/
import Derived.Test.YtpoibjmkbljblaaDoorKb2
import Derived.Test.YtpoibjmkbljblaaDoorJoP
namespace Go.Proofs.YtpoibjmkbljblaaDoor
def sumF (g : Nat → Int) (l : List Nat) : Int := (l.map g).sum
theorem sumF_snoc (g : Nat → Int) (l : List Nat) (k : Nat) : sumF g (l ++ [k]) = sumF g l + g k := by unfold sumF; simp
theorem sumF_bd {g : Nat → Int} {m : Int} : ∀ l : List Nat, (∀ k ∈ l, 0 ≤ g k ∧ g k ≤ m) → 0 ≤ sumF g l ∧ sumF g l ≤ m * (l.length : Int)
  | [], _ => by simp [sumF]
  | k :: l, h => by
    have h1 := sumF_bd (g := g) (m := m) l (fun x hx => h x (List.mem_cons_of_mem _ hx))
    have h2 := h k List.mem_cons_self
    have e : sumF g (k :: l) = g k + sumF g l := by unfold sumF; simp
    rw [e, List.length_cons, Int.natCast_add, Int.mul_add]
    omega
def tmF (js : List J) (k : Nat) : Int := (js.getD k j0).t
def sqF (js : List J) (k : Nat) : Int := tmF js k * tmF js k
def spF (js : List J) (e : List Int) (k : Nat) : Int := tmF js k * e.getD k 0
theorem sumT_F (js : List J) (l : List Nat) : sumT js l = sumF (tmF js) l := rfl
theorem tmF_bd {js : List J} (hok : ∀ j ∈ js, okJ j = true) {k : Nat} (hk : k < js.length) : 1 ≤ tmF js k ∧ tmF js k ≤ 50 := by
  have h := okJ_out (hok _ (List.getElem_mem hk))
  unfold tmF
  rw [getD_at js j0 hk]
  omega
theorem mul_bdm {a b m n : Int} (h1 : 0 ≤ a) (h2 : a ≤ m) (h3 : 0 ≤ b) (h4 : b ≤ n) : 0 ≤ a * b ∧ a * b ≤ m * n :=
  ⟨Int.mul_nonneg h1 h3, Int.mul_le_mul h2 h4 h3 (by omega)⟩
theorem sqF_bd {js : List J} (hok : ∀ j ∈ js, okJ j = true) {k : Nat} (hk : k < js.length) : 0 ≤ sqF js k ∧ sqF js k ≤ 2500 := by
  have h := tmF_bd hok hk
  exact mul_bdm (m := 50) (n := 50) (by omega) (by omega) (by omega) (by omega)
def demL (js : List J) (l : List Nat) : Int := (sumF (tmF js) l * sumF (tmF js) l + sumF (sqF js) l) / 2
theorem dem_bd {js : List J} (hok : ∀ j ∈ js, okJ j = true) (l : List Nat) (hl : ∀ k ∈ l, k < js.length) (h8 : l.length ≤ 8) :
    (0 ≤ sumF (tmF js) l ∧ sumF (tmF js) l ≤ 400) ∧ (0 ≤ sumF (sqF js) l ∧ sumF (sqF js) l ≤ 20000) ∧ (0 ≤ sumF (tmF js) l * sumF (tmF js) l ∧ sumF (tmF js) l * sumF (tmF js) l ≤ 160000) := by
  have a := sumF_bd (g := tmF js) (m := 50) l (fun k hk => by have := tmF_bd hok (hl k hk); omega)
  have b := sumF_bd (g := sqF js) (m := 2500) l (fun k hk => sqF_bd hok (hl k hk))
  have c := mul_bdm (m := 400) (n := 400) a.1 (show sumF (tmF js) l ≤ 400 by omega) a.1 (show sumF (tmF js) l ≤ 400 by omega)
  omega
/-- An end vector. -/
def vecB (n : Nat) (e : List Int) : Bool := decide (e.length = n) && e.all fun x => decide (0 ≤ x ∧ x ≤ 2000)
theorem vec_out {n : Nat} {e : List Int} (h : vecB n e = true) : e.length = n ∧ ∀ x ∈ e, 0 ≤ x ∧ x ≤ 2000 := by
  unfold vecB at h
  rw [Bool.and_eq_true, decide_eq_true_eq, List.all_eq_true] at h
  exact ⟨h.1, fun x hx => of_decide_eq_true (h.2 x hx)⟩
theorem vec_at {n : Nat} {e : List Int} (h : vecB n e = true) (k : Nat) : 0 ≤ e.getD k 0 ∧ e.getD k 0 ≤ 2000 := by
  rcases Nat.lt_or_ge k e.length with hk | hk
  · rw [getD_at e 0 hk]; exact (vec_out h).2 _ (List.getElem_mem hk)
  · rw [List.getD_eq_getElem?_getD, List.getElem?_eq_none hk]; simp
def supL (js : List J) (e : List Int) (l : List Nat) : Int := sumF (spF js e) l
theorem spF_bd {js : List J} {e : List Int} (hok : ∀ j ∈ js, okJ j = true) (he : vecB js.length e = true) {k : Nat} (hk : k < js.length) : 0 ≤ spF js e k ∧ spF js e k ≤ 100000 := by
  have h := tmF_bd hok hk
  have h2 := vec_at he k
  exact mul_bdm (m := 50) (n := 2000) (by omega) (by omega) (by omega) (by omega)
def demR (js : List J) (s : List Int) : Int × Bool := if plainL js && risL js.length s then (demL js (memB (numS s)), true) else (0, false)
def supR (js : List J) (e s : List Int) : Int × Bool := if (plainL js && vecB js.length e) && risL js.length s then (supL js e (memB (numS s)), true) else (0, false)
/-- The jobs by their numbers in an end vector. -/
def rkE (e : List Int) (i : Nat) : Int := 2000 - e.getD i 0
def eoL (e : List Int) : List Nat := joL (rkE e) (List.range e.length)
theorem eoL_perm (e : List Int) : (eoL e).Perm (List.range e.length) := joL_perm _ _
theorem eoL_len (e : List Int) : (eoL e).length = e.length := by unfold eoL; rw [joL_len, List.length_range]
theorem eoL_in (e : List Int) {x : Nat} (h : x ∈ eoL e) : x < e.length := List.mem_range.1 ((eoL_perm e).mem_iff.1 h)
/-- The set of the first jobs of an order. -/
def setP (p : List Nat) (k : Nat) : Nat := (p.take k).foldl addB 0
theorem setP_zero (p : List Nat) : setP p 0 = 0 := rfl
theorem setP_succ {p : List Nat} {k : Nat} (hk : k < p.length) : setP p (k + 1) = addB (setP p k) p[k] := by
  unfold setP; rw [List.take_succ_eq_append_getElem hk, List.foldl_append]; rfl
def isShB (js : List J) (e : List Int) (s : Nat) : Bool := decide (supL js e (memB s) < demL js (memB s))
def shGo (js : List J) (e : List Int) (p : List Nat) : Nat → Nat → Option Nat
  | 0, _ => none
  | f + 1, k => if isShB js e (setP p (k + 1)) then some (setP p (k + 1)) else shGo js e p f (k + 1)
def shL (js : List J) (e : List Int) : Option Nat := shGo js e (eoL e) e.length 0
def shortR (js : List J) (e : List Int) : List Int × Bool := if plainL js && vecB js.length e then (match shL js e with | some s => (natI (memB s), true) | none => ([], false)) else ([], false)
def balR (js : List J) (e : List Int) : Bool × Bool := if plainL js && vecB js.length e then ((shL js e).isNone && decide (supL js e (List.range js.length) = demL js (List.range js.length)), true) else (false, false)
def ovR (js : List J) (e : List Int) : Bool × Bool := if plainL js && vecB js.length e then (decide (endsL js (eoL e) = e), true) else (false, false)
theorem addB_lt8 : ∀ s, s < 256 → ∀ j, j < 8 → addB s j < 256 := by decide +kernel
theorem memB_add : ∀ s, s < 256 → ∀ j, j < 8 → ∀ i, i < 8 → ((addB s j).testBit i = (s.testBit i || decide (i = j))) := by decide +kernel
theorem setP_lt {p : List Nat} (h : ∀ x ∈ p, x < 8) : ∀ k, k ≤ p.length → setP p k < 256
  | 0, _ => by rw [setP_zero]; omega
  | k + 1, hk => by
    rw [setP_succ (by omega)]
    exact addB_lt8 _ (setP_lt h k (by omega)) _ (h _ (List.getElem_mem _))
theorem setP_bit {p : List Nat} {n : Nat} (hn : n ≤ 8) (h : ∀ x ∈ p, x < n) {i : Nat} : ∀ k, k ≤ p.length → (setP p k).testBit i = true → i < n
  | 0, _, hb => by rw [setP_zero] at hb; simp at hb
  | k + 1, hk, hb => by
    have h8 : i < 8 := by
      rcases Nat.lt_or_ge i 8 with h1 | h1
      · exact h1
      · have h2 := setP_lt (p := p) (fun x hx => Nat.lt_of_lt_of_le (h x hx) hn) (k + 1) hk
        rw [Nat.testBit_lt_two_pow (Nat.lt_of_lt_of_le h2 (Nat.pow_le_pow_right (by omega) h1 : 2 ^ 8 ≤ 2 ^ i))] at hb
        cases hb
    have hx := h _ (List.getElem_mem (show k < p.length by omega))
    rw [setP_succ (by omega), memB_add _ (setP_lt (fun x hx => Nat.lt_of_lt_of_le (h x hx) hn) k (by omega)) _ (by omega) _ h8, Bool.or_eq_true] at hb
    rcases hb with hb | hb
    · exact setP_bit hn h k (by omega) hb
    · have := of_decide_eq_true hb; omega
end Go.Proofs.YtpoibjmkbljblaaDoor
