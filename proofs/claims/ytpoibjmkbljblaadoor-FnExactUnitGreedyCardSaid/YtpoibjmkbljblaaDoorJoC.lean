/- What fallingOrder compares: ranks. -/
import Derived.Test.YtpoibjmkbljblaaDoorEndsO
import Derived.Test.YtpoibjmkbljblaaDoorKb3
namespace Go.Proofs.YtpoibjmkbljblaaDoor
open Go.RowKit
/-- Where the ranks lie, and the variable that holds them. -/
def RkIs (rk : Nat → Int) (n gr : Nat) (R : Option Addr) (cR : Nat) (w : World) : Prop := BlockIs w gr 23 #[.slice R n cR] ∧ Row w R (ic ((List.range n).map rk))
theorem RkIs.below {rk : Nat → Int} {n gr cR : Nat} {R : Option Addr} {w w' : World} (h : RkIs rk n gr R cR w) (hb : Below w.heap.size w w') : RkIs rk n gr R cR w' := ⟨h.1.below hb, h.2.below hb⟩
theorem RkIs.grown {rk : Nat → Int} {n gr cR g : Nat} {R : Option Addr} {w w' : World} (h : RkIs rk n gr R cR w) (hg : w.grownBy w' (some g)) (h1 : gr ≠ g) (h2 : ∀ a, R = some a → 0 < n → a.block ≠ g) : RkIs rk n gr R cR w' := by
  refine ⟨(hg.block gr h.1.lt (fun e => h1 (by injection e with e))).trans h.1, fun h0 => ?_⟩
  obtain ⟨ad, e1, e2, e3⟩ := h.2 h0
  rw [ic_len] at h0
  have hn : 0 < n := by simpa using h0
  refine ⟨ad, e1, Nat.lt_of_lt_of_le e2 hg.size, fun j u hu => ?_⟩
  have hc := e3 j u hu
  rw [← hc]
  have hbk : (ad.add j).block = ad.block := add_block ad j
  have hh := hg.block (ad.add j).block (by rw [hbk]; exact e2) (fun e => h2 ad e1 hn (by injection e with e; rw [hbk] at e; exact e))
  unfold World.cell?
  rw [hh]
set_option maxRecDepth 100000 in
theorem cmpRk_any {rk : Nat → Int} {n gr cR : Nat} {R : Option Addr} {w : World} (h : RkIs rk n gr R cR w) (hrk : ∀ i, 0 ≤ rk i ∧ rk i ≤ 1000) (x y : Nat) (hx : x < n) (hy : y < n) :
    Calls Tryd.prog 121 #[.int .i64 (x : Int), .int .i64 (y : Int), .pointer (some ⟨gr, 0, none⟩)] w fun e w' => e = .returned (.int .i64 (rk y - rk x)) ∧ Below w.heap.size w w' := by
  have d0 := h.1.cell 0
  simp only [List.getElem?_toArray, List.getElem?_cons_zero] at d0
  obtain ⟨ad, hA, hcx⟩ := h.2.at_ (k := x) (by rw [ic_len]; simpa using hx)
  subst hA
  obtain ⟨ad', hA', hcy⟩ := h.2.at_ (k := y) (by rw [ic_len]; simpa using hy)
  injection hA' with hA'
  subst hA'
  rw [ic_get _ x (by simpa using hx)] at hcx
  rw [ic_get _ y (by simpa using hy)] at hcy
  simp only [List.getElem_map, List.getElem_range] at hcx hcy
  have b1 := hrk x
  have b2 := hrk y
  have hx0 : (0 : Int) ≤ x := by omega
  have hx1 : (x : Int) < n := by omega
  have hy0 : (0 : Int) ≤ y := by omega
  have hy1 : (y : Int) < n := by omega
  have hw := IntWalk.i64_in (rk y - rk x) (by omega)
  clear h hrk
  generalize rk x = rx at *
  generalize rk y = ry at *
  go_enter Tryd.func121, Tryd.ntmps121
  go_wp2
  go_quiet (fail)
  go_wp2
  go_ret
  exact ⟨rfl, below_drewN (Below.refl _ _) _⟩
end Go.Proofs.YtpoibjmkbljblaaDoor
