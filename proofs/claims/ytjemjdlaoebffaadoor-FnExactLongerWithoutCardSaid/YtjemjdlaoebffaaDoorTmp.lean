/- Plain words for timely sets, and for later dates. -/
import Derived.Test.YtjemjdlaoebffaaDoorEaP
namespace Go.Proofs.YtjemjdlaoebffaaDoor
/-- The sum of the Times of the first k jobs of an order. -/
def gonTo (js : List J) (p : List Nat) : Nat → Int
  | 0 => 0
  | k + 1 => gonTo js p k + (js.getD (p.getD k 0) j0).t
/-- No job of an order ends behind its date. -/
def timlyB (js : List J) (p : List Nat) : Bool := decide (∀ k, k < p.length → gonTo js p (k + 1) ≤ (js.getD (p.getD k 0) j0).d)
def latJ (e : Int) (j : J) : J := ⟨j.t, 0, 0, j.d + e⟩
def latsL (js : List J) (e : Int) : List J := js.map (latJ e)
theorem latsL_len (js : List J) (e : Int) : (latsL js e).length = js.length := by unfold latsL; simp
theorem latsL_at (js : List J) (e : Int) (k : Nat) (hk : k < js.length) : (latsL js e)[k]'(by rw [latsL_len]; exact hk) = latJ e js[k] := by unfold latsL; simp
theorem latsL_getD (js : List J) (e : Int) (k : Nat) (hk : k < js.length) : (latsL js e).getD k j0 = latJ e (js.getD k j0) := by
  rw [getD_at (latsL js e) j0 (by rw [latsL_len]; exact hk), getD_at js j0 hk, latsL_at js e k hk]
theorem soonB_later (js : List J) (e : Int) {i k : Nat} (hi : i < js.length) (hk : k < js.length) : soonB (latsL js e) i k = soonB js i k := by
  unfold soonB
  rw [latsL_getD js e i hi, latsL_getD js e k hk]
  show (if (js.getD i j0).d + e ≠ (js.getD k j0).d + e then decide ((js.getD i j0).d + e < (js.getD k j0).d + e) else if (js.getD i j0).t ≠ (js.getD k j0).t then decide ((js.getD i j0).t < (js.getD k j0).t) else decide (i < k)) = _
  by_cases h : (js.getD i j0).d = (js.getD k j0).d
  · have e1 : ¬ ((js.getD i j0).d + e ≠ (js.getD k j0).d + e) := by omega
    have e2 : ¬ ((js.getD i j0).d ≠ (js.getD k j0).d) := by omega
    rw [if_neg e1, if_neg e2]
  · have e1 : (js.getD i j0).d + e ≠ (js.getD k j0).d + e := by omega
    rw [if_pos e1, if_pos h]
    by_cases h2 : (js.getD i j0).d < (js.getD k j0).d
    · rw [decide_eq_true h2, decide_eq_true (by omega)]
    · rw [decide_eq_false h2, decide_eq_false (by omega)]
theorem insD_later (js : List J) (e : Int) {x : Nat} (hx : x < js.length) : ∀ ys : List Nat, (∀ y ∈ ys, y < js.length) → insD (latsL js e) x ys = insD js x ys
  | [], _ => rfl
  | y :: ys, h => by
    unfold insD
    rw [soonB_later js e (h y (by simp)) hx, insD_later js e hx ys (fun a ha => h a (by simp [ha]))]
theorem dueTo_later (js : List J) (e : Int) (l : List Nat) (hl : ∀ x ∈ l, x < js.length) : ∀ k, k ≤ l.length → dueTo (latsL js e) l k = dueTo js l k
  | 0, _ => rfl
  | k + 1, h => by
    have hx : l.getD k 0 < js.length := by rw [getD_at l 0 (by omega)]; exact hl _ (List.getElem_mem _)
    unfold dueTo
    rw [dueTo_later js e l hl k (by omega), insD_later js e hx _ (fun y hy => hl y (dueTo_mem (by omega) hy))]
theorem dueL_later (js : List J) (e : Int) (l : List Nat) (hl : ∀ x ∈ l, x < js.length) : dueL (latsL js e) l = dueL js l := dueTo_later js e l hl _ (Nat.le_refl _)
section
variable {js : List J} {p : List Nat} (hok : ∀ j ∈ js, okJ j = true) (h0 : ∀ j ∈ js, j.r = 0) (hp : ∀ x ∈ p, x < js.length)
include hok h0 hp
theorem gonTo_later (e : Int) : ∀ k, k ≤ p.length → gonTo (latsL js e) p k = nowTo js p k
  | 0, _ => by unfold nowTo gonTo; simp [lastGo]
  | k + 1, hk => by
    have hx := hp _ (List.getElem_mem (show k < p.length by omega))
    rw [nowTo_succ hok h0 hp (by omega), ← gonTo_later e k (by omega)]
    show gonTo (latsL js e) p k + _ = _
    rw [getD_at p 0 (by omega), latsL_getD js e _ hx, getD_at js j0 hx]
    rfl
theorem latTo_le {e : Int} (he : 0 ≤ e) : ∀ k, k ≤ p.length → (latTo js p k ≤ e ↔ ∀ i, i < k → gonTo (latsL js e) p (i + 1) ≤ ((latsL js e).getD (p.getD i 0) j0).d)
  | 0, _ => ⟨fun _ i hi => absurd hi (by omega), fun _ => by unfold latTo; simp [partV, costsL, costsGo, foldC]; exact he⟩
  | k + 1, hk => by
    have hx := hp _ (List.getElem_mem (show k < p.length by omega))
    have ih := latTo_le he k (by omega)
    have hd : ((latsL js e).getD (p.getD k 0) j0).d = (js[p[k]]'hx).d + e := by
      rw [getD_at p 0 (by omega), latsL_getD js e _ hx, getD_at js j0 hx]; rfl
    have hstep : latTo js p (k + 1) ≤ e ↔ latTo js p k ≤ e ∧ gonTo (latsL js e) p (k + 1) ≤ ((latsL js e).getD (p.getD k 0) j0).d := by
      rw [latTo_succ hp (by omega), costOf_4, gonTo_later hok h0 hp e (k + 1) hk, hd]
      unfold extOf
      by_cases hz : k = 0
      · subst hz
        have hl : latTo js p 0 ≤ e := ih.2 (fun i hi => absurd hi (by omega))
        rw [if_pos rfl]
        constructor
        · intro h; exact ⟨hl, by omega⟩
        · intro h; omega
      · rw [if_neg hz, show isTop 4 = true from rfl, if_pos rfl]
        omega
    rw [hstep, ih]
    constructor
    · rintro ⟨h1, h2⟩ i hi
      by_cases hik : i = k
      · subst hik; exact h2
      · exact h1 i (by omega)
    · intro h; exact ⟨fun i hi => h i (by omega), h k (by omega)⟩
end
theorem timly_later {js : List J} (hok : ∀ j ∈ js, okJ j = true) (h0 : ∀ j ∈ js, j.r = 0) {e : Int} (he : 0 ≤ e) (l : List Nat) (hl : ∀ x ∈ l, x < js.length) :
    timlyB (latsL js e) (dueL (latsL js e) l) = decide (latL js (dueL js l) ≤ e) := by
  rw [dueL_later js e l hl]
  have hpm : ∀ x ∈ dueL js l, x < js.length := fun x hx => hl x ((dueL_perm js l).mem_iff.1 hx)
  have h := latTo_le hok h0 hpm he _ (Nat.le_refl _)
  rw [latTo_all] at h
  unfold timlyB latL
  exact (decide_eq_decide.2 h).symm
end Go.Proofs.YtjemjdlaoebffaaDoor
