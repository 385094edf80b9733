/- Two neighbors exchanged in a copy: the program's. -/
import Derived.Test.YtdhndoccdfbefaaSwapS
namespace Go.Proofs.Ytdhndoccdfbefaa
open Go.RowKit
theorem eql_nil (w : World) (a : Addr) (l c : Nat) : (binOp .eql 29 (.slice (some a) l c) (.slice none 0 0)).run Try.prog w = .ok (.bool false) w := by
  simp [binOp, run_equal_slice_nil w 29 3 (some a) l c Try.underlying29, Result.andThen]
set_option maxRecDepth 100000 in
theorem clone_some (ad : Addr) (c : Nat) (xs : List Int) (w : World) (hr : Row w (some ad) (ic xs)) (hn : xs.length ≤ 100000) :
    Calls Try.prog 56 #[.slice (some ad) xs.length c] w fun e w' => ∃ ad' c', e = .returned (.slice (some ad') xs.length c') ∧ w'.ownsRow w.heap.size 3 1 (.slice (some ad') xs.length c') xs.length (ic xs) ∧ Below w.heap.size w w' := by
  obtain ⟨i0, hi, hz0, hz1, hz2⟩ := info_parts infoI
  have hb0 := (Below.refl w.heap.size w).alloc (Nat.le_refl _) (.cells #[] 3)
  have hown0 : (w.alloc (.cells #[] 3)).ownsRow w.heap.size 3 1 (.slice (some ⟨w.heap.size, 0, none⟩) 0 0) 0 [] := World.ownsRow_made w #[] 0 (Nat.le_refl _) (by unfold maxLen; omega) rfl
  have hsrc := row_src (hr.below hb0)
  have heq := eql_nil w ad xs.length c
  go_enter Try.func56, Try.ntmps56
  go_wp2_with (at_builtin; refine wpList_append_own _ rfl _ _ 29 rfl w.heap.size 3 i0 (.int .i64 0) 1 8 Try.underlying29 hi hz0 hz1 hz2 rfl (by decide) _ _ _ rfl hown0 ad xs.length c (ic xs) rfl (by rw [ic_len]; omega) hsrc (by intro u hu; unfold ic at hu; obtain ⟨x, _, rfl⟩ := List.mem_map.1 hu; rfl) (by unfold maxLen; omega) (by omega) (by simp) ?_; intro v' w3 hown' hgrow hnil)
  go_ret
  rw [Nat.zero_add, List.nil_append] at hown'
  obtain ⟨ad', c', rfl⟩ := not_nil hown' (fun e => by have := (hnil.1 e).1; injection this with h _ _; cases h)
  exact ⟨ad', c', rfl, hown', hb0.grown hgrow (by simp) (fun j hj => (hown0.lt j hj).1)⟩
theorem clone_any (ad : Addr) (c : Nat) (xs : List Int) (w : World) (hr : Row w (some ad) (ic xs)) (hn : xs.length ≤ 100000) :
    Calls Try.prog 56 #[.slice (some ad) xs.length c] w fun e w' => ∃ v, e = .returned v ∧ w'.ownsRow w.heap.size 3 1 v xs.length (ic xs) ∧ Below w.heap.size w w' :=
  (clone_some ad c xs w hr hn).mono fun _ _ ⟨_, _, he, ho, hb⟩ => ⟨_, he, ho, hb⟩
end Go.Proofs.Ytdhndoccdfbefaa
