/- Plain words for the greatest lateness in due order. -/
import Derived.Test.YtjemjdlaoebffaaDoorBestP
import Derived.Test.YtjemjdlaoebffaaDoorDueP
import Derived.Test.YtjemjdlaoebffaaDoorRulP
namespace Go.Proofs.YtjemjdlaoebffaaDoor
/-- The value, and the end, of the first k jobs of an order. -/
def latTo (js : List J) (p : List Nat) (k : Nat) : Int := partV 4 js (p.take k)
def nowTo (js : List J) (p : List Nat) (k : Nat) : Int := lastGo js (p.take k) 0
section
variable {js : List J} {p : List Nat} (hok : ∀ j ∈ js, okJ j = true) (h0 : ∀ j ∈ js, j.r = 0) (hp : ∀ x ∈ p, x < js.length)
include hok h0 hp
theorem nowTo_bd : ∀ k, k ≤ p.length → 0 ≤ nowTo js p k ∧ nowTo js p k ≤ 50 * (k : Int)
  | 0, _ => by unfold nowTo; simp [lastGo]
  | k + 1, hk => by
    have h1 := nowTo_bd k (by omega)
    have hx := hp _ (List.getElem_mem (show k < p.length by omega))
    have hj := okJ_out (hok _ (List.getElem_mem hx))
    have hr := h0 _ (List.getElem_mem hx)
    unfold nowTo at *
    rw [List.take_succ_eq_append_getElem (by omega), lastGo_snoc, getD_at js j0 hx]
    omega
theorem nowTo_succ {k : Nat} (hk : k < p.length) : nowTo js p (k + 1) = nowTo js p k + (js[p[k]]'(hp _ (List.getElem_mem hk))).t := by
  have h1 := nowTo_bd hok h0 hp k (by omega)
  have hx := hp _ (List.getElem_mem hk)
  have hr := h0 _ (List.getElem_mem hx)
  unfold nowTo at *
  rw [List.take_succ_eq_append_getElem hk, lastGo_snoc, getD_at js j0 hx]
  omega
omit hok h0 in
theorem latTo_succ {k : Nat} (hk : k < p.length) : latTo js p (k + 1) = extOf 4 k (latTo js p k) (costOf 4 (js[p[k]]'(hp _ (List.getElem_mem hk))) (nowTo js p (k + 1))) := by
  have hx := hp _ (List.getElem_mem hk)
  unfold latTo nowTo
  rw [List.take_succ_eq_append_getElem hk, partV_snoc, lastGo_snoc, List.length_take, Nat.min_eq_left (by omega), getD_at js j0 hx]
theorem latTo_bd (h8 : p.length ≤ 8) : ∀ k, k ≤ p.length → -500 ≤ latTo js p k ∧ latTo js p k ≤ 50000 * (k : Int)
  | 0, _ => by unfold latTo; simp [partV, costsL, costsGo, foldC]
  | k + 1, hk => by
    have h1 := latTo_bd h8 k (by omega)
    have h2 := nowTo_bd hok h0 hp (k + 1) hk
    have hx := hp _ (List.getElem_mem (show k < p.length by omega))
    have hj := hok _ (List.getElem_mem hx)
    obtain ⟨c0, c1, c2⟩ := cost_bd (o := 4) rfl hj h2.1 (by omega : nowTo js p (k + 1) ≤ 1000)
    have h3 := ext_bd (o := 4) (k := k) h1.1 h1.2 c0 c1 c2
    rw [latTo_succ hp (by omega)]
    exact h3
end
theorem latTo_all (js : List J) (p : List Nat) : latTo js p p.length = partV 4 js p := by unfold latTo; rw [List.take_length]
def latL (js : List J) (p : List Nat) : Int := partV 4 js p
theorem plain_zero {js : List J} (h : plainL js = true) : ∀ j ∈ js, j.r = 0 := by
  unfold plainL at h
  rw [Bool.and_eq_true] at h
  have h2 := h.2
  unfold plain0 at h2
  rw [List.all_eq_true] at h2
  intro j hj
  simpa using h2 j hj
end Go.Proofs.YtjemjdlaoebffaaDoor
