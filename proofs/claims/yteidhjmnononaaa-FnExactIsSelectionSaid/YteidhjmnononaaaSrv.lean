/- slices.Sorted of a slice's values. -/
import Derived.Test.YteidhjmnononaaaVls
import Derived.Test.YteidhjmnononaaaShelf
import Derived.Sort.OwnSortedInts
namespace Go.Proofs.Yteidhjmnononaaa
open Go.RowKit Go.Sort
theorem sortV_any {B : Nat} (v : Value) (xs : List Int) (w : World) (hx : xs.length ≤ 2000000) (ho : w.ownsRow B 3 1 v xs.length (ic xs)) :
    Calls Try.prog 41 #[v] w fun e w' => e = .returned (.tuple #[]) ∧ w'.ownsRow B 3 1 v xs.length (ic (xs.mergeSort fun x y => decide (x ≤ y))) ∧ Below B w w' := by
  rcases ho.2 with ⟨h0, h1⟩ | ⟨g, cap, cur, hv, hg, hb, hn, hcap, hs, ht⟩
  · subst h0
    have hn0 : xs = [] := by simpa using h1
    subst hn0
    refine (Try.slices_Sort_int_none none 0 w).mono ?_
    rintro e w' ⟨rfl, rfl⟩
    exact ⟨rfl, by simpa using ho, Below.refl _ _⟩
  · subst hv
    have htk : cur.toList.take xs.length = xs.map (Value.int .i64) := by
      rw [Nat.mul_one] at ht
      exact ht
    have hgl : g < w.heap.size := (Array.getElem?_eq_some_iff.1 hb).1
    refine (Try.slices_Sort_int g 0 cap xs w (holds_of_blockI hb htk) hgl (by omega)).mono ?_
    rintro e w' ⟨rfl, m, os, rfl⟩
    exact ⟨rfl, ownsRow_sortedI (ss := xs) (by simp) hg hb hn hcap hs, (Below.refl B w).grown (grownBy_sortedI _) (by omega) (fun k e => by cases e; omega)⟩
section
variable (Bs : Nat) (B : Option Addr) (d : Nat) (xs : List Int) (w : World) (hB : Boxed w Bs 40 (.slice B xs.length d)) (hr : Row w B (ic xs)) (hx : xs.length ≤ 2000000)
include hB hr hx
set_option maxRecDepth 100000 in
theorem sortedV_any : Calls Try.prog 31 #[.func (.func 42) #[] #[.pointer (some ⟨Bs, 0, none⟩)]] w fun e w' => ∃ v, e = .returned v ∧ w'.ownsRow w.heap.size 3 1 v xs.length (ic (xs.mergeSort fun x y => decide (x ≤ y))) ∧ Below w.heap.size w w' := by
  have H := Lib.hid (collectV_any Bs B d xs w hB hr hx)
  clear hB hr
  go_enter Try.func31, Try.ntmps31
  go_wp2_with fail
  refine H.out.mono ?_
  rintro e w2 ⟨v, rfl, ho, hb⟩
  have H2 := Lib.hid (sortV_any v xs w2 hx ho)
  have HB := Lib.hid hb
  clear ho hb H
  go_wp2_with fail
  refine H2.out.mono ?_
  rintro e w3 ⟨rfl, ho3, hb3⟩
  have HO := Lib.hid (And.intro ho3 (HB.out.trans hb3))
  clear ho3 hb3 H2
  go_wp2
  go_ret
  exact ⟨v, rfl, HO.out.1, HO.out.2⟩
end
end Go.Proofs.Yteidhjmnononaaa
