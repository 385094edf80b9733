/- Sets of jobs as lists: the model's l4Set, l6All. -/
import Derived.Test.YtllohccpnglloaaDoorTot
import Derived.Test.YtllohccpnglloaaDoorAppW
namespace Go.Proofs.YtllohccpnglloaaDoor
open Go.RowKit
/-- The jobs of a set below k. -/
def setTo (s k : Nat) : List Nat := (List.range k).filter fun i => s.testBit i
theorem setTo_yes {s k : Nat} (h : s.testBit k = true) : setTo s (k + 1) = setTo s k ++ [k] := by
  unfold setTo; rw [List.range_succ, List.filter_append]; simp [h]
theorem setTo_no {s k : Nat} (h : s.testBit k = false) : setTo s (k + 1) = setTo s k := by
  unfold setTo; rw [List.range_succ, List.filter_append]; simp [h]
theorem setTo_len (s k : Nat) : (setTo s k).length ≤ k := by
  have := List.length_filter_le (fun i => s.testBit i) (List.range k)
  unfold setTo; simpa using this
theorem hasI_facts : ∀ s : Nat, s < 256 → ∀ j : Nat, j < 8 → (bits BinOp.and IntKind.i64 ((s : Int) / 2 ^ j) 1 == 1) = s.testBit j := by decide +kernel
theorem wpList_appL {P : Program} {ops : Array Oper} {rest : List Oper} {o : Oper} {a : Act} {w w' : World} {Q : Exit → Act → World → Prop} (hgd : o.guard = none) (s x : Operand) (t : TypeId)
    (ho : o.op = .call { callee := .builtin .append, args := #[s, x], argTypes := #[t, t] }) (v u r : Value) (hs : a.eval s = v) (hx : a.eval x = u) (hr : (Builtin.append_ #[t, t] o.type #[v, u]).run P w = .ok r w')
    (h : wpList P ops Q rest (a.put o.dst r) w') : wpList P ops Q (o :: rest) a w := by
  refine wpList_plain hgd fun K hK => ?_
  unfold Oper.wp execOp
  simp only [ho, resolve, invoke, builtin, Sem.run_bind, Sem.run_pure, Result.andThen_ok, List.map_toArray, List.map_cons, List.map_nil, hs, hx, hr]
  exact hK _ _ h
theorem ic_snoc (xs : List Int) (x : Int) : ic xs ++ [Value.int .i64 x] = ic (xs ++ [x]) := by unfold ic; simp
set_option maxRecDepth 100000 in
set_option maxHeartbeats 2000000 in
theorem l4Set_any (n s : Nat) (hn : n ≤ 8) (hs : s < 256) (w : World) : Calls Tryd.prog 41 #[.int .i64 (n : Int), .int .i64 (s : Int)] w fun e w' => ∃ v, e = .returned v ∧ w'.ownsRow w.heap.size 3 1 v (setTo s n).length (ic (natI (setTo s n))) ∧ Below w.heap.size w w' := by
  obtain ⟨i0, hi, hz0, hz1, hz2⟩ := info_parts infoI
  have hown0 : (w.alloc (.cells #[] 3)).ownsRow w.heap.size 3 1 (.slice (some ⟨w.heap.size, 0, none⟩) 0 0) 0 [] := World.ownsRow_made w #[] 0 (Nat.le_refl _) (by unfold maxLen; omega) rfl
  have hb0 := (Below.refl w.heap.size w).alloc (Nat.le_refl _) (.cells #[] 3)
  go_enter Tryd.func41, Tryd.ntmps41
  go_wp2
  go_loopw [5, 6] (fun v i wr => ∃ k : Nat, k ≤ n ∧ i = .int .i64 (k : Int) ∧ wr.ownsRow w.heap.size 3 1 v (setTo s k).length (ic (natI (setTo s k))) ∧ Below w.heap.size w wr) (fun _ i _ => n - (intOf i).toNat)
  case atStart => exact ⟨0, Nat.zero_le _, rfl, hown0, hb0⟩
  case round =>
    obtain ⟨k, hk, rfl, hown, hb⟩ := hrel
    clear hown0 hb0
    obtain ⟨Av, cv, rfl, hnc, hrow⟩ := own_slice hown
    have hk0 : (0 : Int) ≤ k := by omega
    by_cases hlt : k < n
    · have hsz := hb.size
      have hf := hasI_facts s hs k (by omega)
      have hle := setTo_len s k
      cases hbit : s.testBit k
      · have HX : Hid (wr.ownsRow w.heap.size 3 1 (.slice Av (setTo s k).length cv) (setTo s (k + 1)).length (ic (natI (setTo s (k + 1)))) ∧ Below w.heap.size w wr) := by rw [setTo_no hbit]; exact ⟨hown, hb⟩
        rw [hbit] at hf
        clear hown hb hbit hrow hnc hle
        generalize (setTo s k).length = m at *
        go_wp2
        go_roundw
        case rel => exact ⟨k + 1, by omega, by go_num, HX.out.1, HX.out.2⟩
        case measure => simp [intOf]; omega
      · rw [hbit] at hf
        obtain ⟨v', w6, hrun, hown', hgrow, hat⟩ := append_at (P := Tryd.prog) (wr.alloc (.cells #[.int .i64 (k : Int)] 3)) w.heap.size 24 24 3 i0 (.int .i64 0) 1 8 Tryd.underlying24 hi hz0 hz1 hz2 rfl (by decide) (.slice Av (setTo s k).length cv) (setTo s k).length (ic (natI (setTo s k))) (hown.alloc _) ⟨wr.heap.size, 0, none⟩ 1 1 [.int .i64 (k : Int)] rfl (cell_one_new _ _ _) (by intro u hu; simp at hu; subst hu; rfl) (by omega) (by have hmx : (1000 : Nat) + 1 ≤ maxLen := (by unfold maxLen; omega); omega) (by omega) (by simp; omega)
        have hb6 := app_grown hb hsz hown hgrow
        have HX : Hid (w6.ownsRow w.heap.size 3 1 v' (setTo s (k + 1)).length (ic (natI (setTo s (k + 1)))) ∧ Below w.heap.size w w6) := by
          refine ⟨?_, hb6⟩
          rw [setTo_yes hbit, List.length_append, show natI (setTo s k ++ [k]) = natI (setTo s k) ++ [(k : Int)] by unfold natI; simp, ← ic_snoc]
          exact hown'
        obtain ⟨Av', cv', rfl, _⟩ := own_slice hown'
        have HRUN := Lib.hid hrun
        clear hown' hb6 hgrow hat hown hb hrow hrun hi hz0 hz1 hz2 hnc hbit hle
        generalize (setTo s k).length = m at *
        go_wp2_with (at_builtin; refine wpList_appL rfl _ _ _ rfl _ _ _ rfl rfl HRUN.out ?_; clear HRUN)
        go_roundw
        case rel => exact ⟨k + 1, by omega, by go_num, HX.out.1, HX.out.2⟩
        case measure => simp [intOf]; omega
    · obtain rfl : k = n := by omega
      go_wp2
      go_ret
      exact ⟨_, rfl, hown, hb⟩
theorem setTo_all : ∀ n, n < 9 → setTo (2 ^ n - 1) n = List.range n := by decide +kernel
theorem allI_facts : ∀ n : Nat, n < 9 → wrap64 (wrap64 (2 ^ n) - 1) = ((2 ^ n - 1 : Nat) : Int) := by decide +kernel
theorem l6All_any (A : Option Addr) (n c : Nat) (hn : n ≤ 8) (w : World) : Calls Tryd.prog 29 #[.slice A n c] w fun e w' => ∃ v, e = .returned v ∧ w'.ownsRow w.heap.size 3 1 v n (ic (natI (List.range n))) ∧ Below w.heap.size w w' := by
  have HC := Lib.hid (l4Set_any n (2 ^ n - 1) hn (pow_lt n (by omega)) w)
  rw [setTo_all n (by omega)] at HC
  rw [List.length_range] at HC
  have HF := Lib.hid (allI_facts n (by omega))
  go_enter Tryd.func29, Tryd.ntmps29
  go_wp2_with fail
  rw [HF.out]
  refine HC.out.mono ?_
  rintro e w1 ⟨v, rfl, hown, hb⟩
  go_wp2
  go_ret
  exact ⟨v, rfl, hown, hb⟩
end Go.Proofs.YtllohccpnglloaaDoor
