/- Two neighbors exchanged in a copy: the program's. -/
import Derived.Test.YtgiecjcgidgpfaaSwapS
namespace Go.Proofs.Ytgiecjcgidgpfaa
open Go.RowKit
theorem eql_nil (w : World) (a : Addr) (l c : Nat) : (binOp .eql 25 (.slice (some a) l c) (.slice none 0 0)).run Try.prog w = .ok (.bool false) w := by
  simp [binOp, run_equal_slice_nil w 25 3 (some a) l c Try.underlying25, Result.andThen]
set_option maxRecDepth 100000 in
theorem clone_some (ad : Addr) (c : Nat) (xs : List Int) (w : World) (hr : Row w (some ad) (ic xs)) (hn : xs.length ≤ 100000) :
    Calls Try.prog 112 #[.slice (some ad) xs.length c] w fun e w' => ∃ ad' c', e = .returned (.slice (some ad') xs.length c') ∧ w'.ownsRow w.heap.size 3 1 (.slice (some ad') xs.length c') xs.length (ic xs) ∧ Below w.heap.size w w' := by
  obtain ⟨i0, hi, hz0, hz1, hz2⟩ := info_parts infoI
  have hb0 := (Below.refl w.heap.size w).alloc (Nat.le_refl _) (.cells #[] 3)
  have hown0 : (w.alloc (.cells #[] 3)).ownsRow w.heap.size 3 1 (.slice (some ⟨w.heap.size, 0, none⟩) 0 0) 0 [] := World.ownsRow_made w #[] 0 (Nat.le_refl _) (by unfold maxLen; omega) rfl
  have hsrc := row_src (hr.below hb0)
  have heq := eql_nil w ad xs.length c
  go_enter Try.func112, Try.ntmps112
  go_wp2_with (at_builtin; refine wpList_append_own _ rfl _ _ 25 rfl w.heap.size 3 i0 (.int .i64 0) 1 8 Try.underlying25 hi hz0 hz1 hz2 rfl (by decide) _ _ _ rfl hown0 ad xs.length c (ic xs) rfl (by rw [ic_len]; omega) hsrc (by intro u hu; unfold ic at hu; obtain ⟨x, _, rfl⟩ := List.mem_map.1 hu; rfl) (by unfold maxLen; omega) (by omega) (by simp) ?_; intro v' w3 hown' hgrow hnil)
  go_ret
  rw [Nat.zero_add, List.nil_append] at hown'
  obtain ⟨ad', c', rfl⟩ := not_nil hown' (fun e => by have := (hnil.1 e).1; injection this with h _ _; cases h)
  exact ⟨ad', c', rfl, hown', hb0.grown hgrow (by simp) (fun j hj => (hown0.lt j hj).1)⟩
theorem clone_any (ad : Addr) (c : Nat) (xs : List Int) (w : World) (hr : Row w (some ad) (ic xs)) (hn : xs.length ≤ 100000) :
    Calls Try.prog 112 #[.slice (some ad) xs.length c] w fun e w' => ∃ v, e = .returned v ∧ w'.ownsRow w.heap.size 3 1 v xs.length (ic xs) ∧ Below w.heap.size w w' :=
  (clone_some ad c xs w hr hn).mono fun _ _ ⟨_, _, he, ho, hb⟩ => ⟨_, he, ho, hb⟩
set_option maxRecDepth 100000 in
theorem exchanged_any (ad : Addr) (c : Nat) (xs : List Int) (i : Nat) (w : World) (hr : Row w (some ad) (ic xs)) (hn : xs.length ≤ 100000) (hi : i + 1 < xs.length) :
    Calls Try.prog 114 #[.slice (some ad) xs.length c, .int .i64 (i : Int)] w fun e w' => ∃ v, e = .returned v ∧ w'.ownsRow w.heap.size 3 1 v xs.length (ic (swI xs i)) ∧ Below w.heap.size w w' := by
  have g1 := getD_at xs 0 hi
  have g0 := getD_at xs 0 (show i < xs.length by omega)
  have HG := Lib.hid (And.intro g0 g1)
  clear g0 g1
  have hi0 : (0 : Int) ≤ i := by omega
  have hi1 : (i : Int) + 1 < xs.length := by omega
  go_enter Try.func114, Try.ntmps114
  go_wp2_with fail
  refine (clone_any ad c xs _ hr hn).mono ?_
  rintro e w1 ⟨v, rfl, hown, hb1⟩
  obtain ⟨A', c', rfl, _⟩ := own_whole hown
  obtain ⟨g, cur, rfl, hg, hB, hnc, hcm, hsz, ht⟩ := own_block hown (by omega)
  obtain ⟨a1, hA1, hl1⟩ := (hr.below hb1).int hi
  injection hA1 with hA1
  subst hA1
  rw [show ad.add (i + 1) = ⟨ad.block, ad.off + (i + 1), none⟩ by unfold Addr.add; simp] at hl1
  obtain ⟨a0, hA0, hl0⟩ := (hr.below hb1).int (show i < xs.length by omega)
  injection hA0 with hA0
  subst hA0
  have hadb : ad.block < w.heap.size := by
    obtain ⟨a', h1, h2, _⟩ := hr (by rw [ic_len]; omega)
    injection h1 with h1; subst h1; exact h2
  have hne : ad.block ≠ g := by omega
  have hc0 := cell_take hB ht (show i < xs.length by omega)
  have hc1 := cell_take hB ht hi
  have hf0 := hB.frozen i
  have hf1 := hB.frozen (i + 1)
  have HB := Lib.hid ((hB.set i (.int .i64 (xs.getD (i + 1) 0))).set (i + 1) (.int .i64 (xs.getD i 0)))
  rw [HG.out.1, HG.out.2] at HB
  have hl0' := (World.cell?_setCell_other (w := w1) (a := ⟨g, i, none⟩) (b := ad.add i) (v := .int .i64 xs[i + 1]) (fun e => hne (by have := congrArg Addr.block e; rw [add_block] at this; exact this.symm))).trans hl0
  have hc1' := (World.cell?_setCell_other (w := w1) (a := ⟨g, i, none⟩) (b := ⟨g, i + 1, none⟩) (v := .int .i64 xs[i + 1]) (fun e => by injection e with _ e2 _; omega)).trans hc1
  have HX := Lib.hid (And.intro hb1 (And.intro hg (And.intro hnc (And.intro hcm (And.intro hsz ht)))))
  clear hr hown hb1 hB ht hsz
  go_wp2
  go_region
  all_goals
    go_wp2
    go_ret
    obtain ⟨hb1, hg, hnc, hcm, hsz, ht⟩ := HX.out
    refine ⟨_, rfl, ?_, ((hb1.setCell hg _).setCell hg _).drew⟩
    have HB' := HB.out
    rw [← HG.out.1, ← HG.out.2] at HB'
    have := own_swapped HB'.drew hg hnc hcm hsz ht hi
    rw [HG.out.1, HG.out.2] at *
    exact this
end Go.Proofs.Ytgiecjcgidgpfaa
