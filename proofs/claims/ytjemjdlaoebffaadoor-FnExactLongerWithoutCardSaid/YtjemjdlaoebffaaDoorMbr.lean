/- Sets of jobs: with, without, has, allJobs; the iterator over the members. -/
import Derived.RangeFuncNested
import Derived.RangeFuncBox
import Derived.RangeFuncLeaves
import Derived.Shelf.Abstract
import Derived.OwnWalkIn
import Derived.TacticsInMore
import Derived.LoopNIn
import Derived.LoopIn
import Derived.Test.YtjemjdlaoebffaaDoorTzs
namespace Go.Proofs.YtjemjdlaoebffaaDoor
open Go.RowKit Go.Shelf
attribute [local go_sem] Oper.semAt_some
theorem andNot_facts : ∀ s : Nat, s < 256 → ∀ j : Nat, j < 8 → bits BinOp.andNot IntKind.u64 (s : Int) (IntKind.u64.wrap (2 ^ j)) = (subB s j : Int) := by decide +kernel
theorem or_facts : ∀ s : Nat, s < 256 → ∀ j : Nat, j < 8 → bits BinOp.or IntKind.u64 (s : Int) (IntKind.u64.wrap (2 ^ j)) = (addB s j : Int) := by decide +kernel
theorem has_facts : ∀ s : Nat, s < 256 → ∀ j : Nat, j < 8 → (bits BinOp.and IntKind.u64 ((s : Int) / 2 ^ j) 1 == 1) = s.testBit j := by decide +kernel
theorem all_facts : ∀ n : Nat, n < 9 → IntKind.u64.wrap (IntKind.u64.wrap (2 ^ n) - 1) = ((2 ^ n - 1 : Nat) : Int) := by decide +kernel
theorem without_any (s j : Nat) (hs : s < 256) (hj : j < 8) (w : World) :
    Calls Tryd.prog 124 #[.int .u64 (s : Int), .int .i64 (j : Int)] w fun e w' => e = .returned (.int .u64 (subB s j : Int)) ∧ w = w' := by
  go_enter Tryd.func124, Tryd.ntmps124
  go_wp2
  go_ret
  exact ⟨by rw [← andNot_facts s hs j hj]; rfl, rfl⟩
theorem with_any (s j : Nat) (hs : s < 256) (hj : j < 8) (w : World) :
    Calls Tryd.prog 154 #[.int .u64 (s : Int), .int .i64 (j : Int)] w fun e w' => e = .returned (.int .u64 (addB s j : Int)) ∧ w = w' := by
  go_enter Tryd.func154, Tryd.ntmps154
  go_wp2
  go_ret
  exact ⟨by rw [← or_facts s hs j hj]; rfl, rfl⟩
theorem has_any (s j : Nat) (hs : s < 256) (hj : j < 8) (w : World) :
    Calls Tryd.prog 155 #[.int .u64 (s : Int), .int .i64 (j : Int)] w fun e w' => e = .returned (.bool (s.testBit j)) ∧ w = w' := by
  go_enter Tryd.func155, Tryd.ntmps155
  go_wp2
  go_ret
  exact ⟨by rw [← has_facts s hs j hj]; rfl, rfl⟩
theorem allJobs_any (n : Nat) (hn : n ≤ 8) (w : World) :
    Calls Tryd.prog 111 #[.int .i64 (n : Int)] w fun e w' => e = .returned (.int .u64 ((2 ^ n - 1 : Nat) : Int)) ∧ w = w' := by
  go_enter Tryd.func111, Tryd.ntmps111
  go_wp2
  go_ret
  exact ⟨by rw [← all_facts n (by omega)]; rfl, rfl⟩
/-- A job of a set. -/
abbrev Mb (s : Nat) : Type := { k : Nat // s.testBit k = true }
def encM (s : Nat) (x : Mb s) : Array Value := #[.int .i64 (x.1 : Int)]
def vals {s : Nat} (l : List (Mb s)) : List Nat := l.map (·.1)
theorem vals_snoc {s : Nat} (l : List (Mb s)) (x : Mb s) : vals (l ++ [x]) = vals l ++ [x.1] := by unfold vals; simp
theorem vals_len {s : Nat} (l : List (Mb s)) : (vals l).length = l.length := by unfold vals; simp
theorem memB_len (s : Nat) : (memB s).length ≤ 8 := by
  have := List.length_filter_le (fun i => s.testBit i) (List.range 8)
  unfold memB
  simpa using this
/-- What a round keeps for the iterator: the library's table. -/
def KeepsTz (W W' : World) : Prop := TzTab W → TzTab W'
theorem KeepsTz.put {W : World} {l : Nat} {o o' : Obj} (h : W.heap[l]? = some o) (hc : o.isCells = false) : KeepsTz W (W.putObj l o') := by
  rintro ⟨cs, t, fr, h1, h2⟩
  refine ⟨cs, t, fr, ?_, h2⟩
  have hne : 1 ≠ l := fun e => by
    subst e
    rw [h] at h1
    injection h1 with h1
    rw [h1] at hc
    cases hc
  exact (World.putObj_heap_other hne).trans h1
set_option maxRecDepth 100000 in
set_option maxHeartbeats 2000000 in
theorem members1_in (n : Nat) (hn : 1 ≤ n) (l Bs s : Nat) (hs : s < 256) (J Jx : List (Mb s) → World → Prop)
    (hY : ∀ pre x W, J pre W → pre.length < (memB s).length → YieldAt Fence.wide (n - 1) Tryd.prog l (encM s x) W fun e W' =>
      (e = .returned (.bool true) ∧ J (pre ++ [x]) W' ∧ KeepsTz W W') ∨ (e = .returned (.bool false) ∧ Jx (pre ++ [x]) W'))
    (W : World) (hBs : Boxed W Bs 69 (.int .u64 (s : Int))) (hT : TzTab W) (h0 : J [] W) :
    CallsIn Fence.wide n Tryd.prog 145 #[.func (.yield l) #[] #[], .pointer (some ⟨Bs, 0, none⟩)] W fun e W' => (∃ v, e = .returned v) ∧
      ((∃ ys, vals ys = memB s ∧ J ys W') ∨ (∃ pre, vals pre <+: memB s ∧ Jx pre W')) := by
  refine callsIn_of_wp Tryd.func145 rfl trivial ?_ rfl
  simp only [Tryd.ntmps145, List.size_toArray, List.length_cons, List.length_nil, Nat.reduceAdd, Nat.reduceSub, Array.replicate_succ, Array.replicate_zero, List.push_toArray, List.append_toArray, List.nil_append, List.cons_append]
  have cs := hBs.cell
  gi_wp2
  gi_loopw [3] (fun p wr => ∃ (pre : List (Mb s)) (r : Nat), p = .int .u64 (r : Int) ∧ r < 256 ∧ Hid (vals pre ++ memB r = memB s) ∧ J pre wr ∧ TzTab wr)
    (fun p _ => (intOf p).toNat)
  case atStart => exact ⟨[], s, rfl, hs, rfl, h0, hT⟩
  case round =>
    obtain ⟨pre, r, rfl, hr, hS, hJ, hT'⟩ := hrel
    by_cases hr0 : r = 0
    · have HE : Hid (vals pre = memB s) := by show _ = _; rw [← hS.out, hr0, memB_zero, List.append_nil]
      have e0 : ((r : Int) != 0) = false := by rw [hr0]; rfl
      clear hr0 hY hS
      gi_wp2
      go_end0
      exact ⟨⟨_, rfl⟩, .inl ⟨pre, HE.out, hJ⟩⟩
    · obtain ⟨hj8, hjb, hml, hjl⟩ := ctz_facts r hr hr0
      have e0 : ((r : Int) != 0) = true := by simp; omega
      have hall : vals pre ++ (ctzB r :: memB (subB r (ctzB r))) = memB s := by rw [← hml]; exact hS.out
      have hbs : s.testBit (ctzB r) = true := (memB_mem hs).1 (by rw [← hall]; simp)
      obtain ⟨fn, tmps, assign, body, hy, hR⟩ := hY pre ⟨ctzB r, hbs⟩ wr hJ (by rw [← hall]; simp [vals])
      unfold encM at hy
      dsimp only at hy
      have HA : Hid (vals (pre ++ [⟨ctzB r, hbs⟩]) ++ memB (subB r (ctzB r)) = memB s) := by show _ = _; rw [vals_snoc, ← hall]; simp
      have hsb := sub_lt hr (ctzB r)
      have HL := Lib.hid (fun W' (h : TzTab W') => (callsIn_wide (n := n - 1)).2 (least_any r hr W' h))
      have HWo := Lib.hid (fun W' => (callsIn_wide (n := n - 1)).2 (without_any r (ctzB r) hr hj8 W'))
      have HT := Lib.hid hT'
      clear hr0 hY hS hml hall hjb hT hT'
      generalize ctzB r = j at *
      generalize subB r j = r2 at *
      gi_wp2_with (refine ⟨trivial, ?_⟩; gi_at_call 146; refine (HL.out _ HT.out).mono ?_; rintro e w' ⟨rfl, rfl⟩)
      refine hR.mono ?_
      rintro e W3 (⟨rfl, hJ3, hk3⟩ | ⟨rfl, hJx3⟩)
      · have HT3 := Lib.hid (hk3 HT.out)
        clear HT hk3
        gi_wp2_with (refine ⟨trivial, ?_⟩; (first | (gi_at_call 146; refine (HL.out _ HT3.out).mono ?_; rintro e w' ⟨rfl, rfl⟩) | (gi_at_call 124; refine (HWo.out _).mono ?_; rintro e w' ⟨rfl, rfl⟩)))
        go_roundw
        case rel => exact ⟨pre ++ [⟨j, hbs⟩], r2, rfl, hsb, HA, hJ3, HT3.out⟩
        case measure => simp [intOf]; omega
      · gi_wp2
        refine bodyPost_ret (results_none rfl _ _ _) rfl ?_
        exact ⟨⟨_, rfl⟩, .inr ⟨_, by rw [← HA.out]; exact List.prefix_append _ _, hJx3⟩⟩
theorem members_in (n : Nat) (s : Int) (w : World) :
    CallsIn Fence.wide n Tryd.prog 89 #[.int .u64 s] w fun e w' => e = .returned (.func (.func 145) #[] #[.pointer (some ⟨w.heap.size, 0, none⟩)]) ∧ w' = w.alloc (.cells #[.int .u64 s] 69) := by
  refine callsIn_of_wp Tryd.func89 rfl trivial ?_ rfl
  simp only [Tryd.ntmps89, List.size_toArray, List.length_cons, List.length_nil, Nat.reduceAdd, Nat.reduceSub, Array.replicate_succ, Array.replicate_zero, List.push_toArray, List.append_toArray, List.nil_append, List.cons_append]
  gi_wp2
  go_ret
  exact ⟨rfl, rfl⟩
theorem members_stops (n : Nat) (hn : 1 ≤ n) (Bs s : Nat) (hs : s < 256) (w : World) (hl : Bs < w.heap.size) (hBs : Boxed w Bs 69 (.int .u64 (s : Int))) (hT : TzTab w) :
    SeqStopsK Fence.wide n Tryd.prog 145 #[.pointer (some ⟨Bs, 0, none⟩)] (encM s) KeepsTz (fun ys => vals ys = memB s) (fun pre => vals pre <+: memB s) (memB s).length w := fun l J Jx W hW _ _ hY h0 =>
  members1_in n hn l Bs s hs J Jx hY W ((hW.block Bs hl).trans hBs) (hT.below hW) h0
theorem all_any (A : Option Addr) (n c : Nat) (hn : n ≤ 8) (w : World) :
    Calls Tryd.prog 67 #[.slice A n c] w fun e w' => e = .returned (.int .u64 ((2 ^ n - 1 : Nat) : Int)) ∧ w = w' := by
  have H := Lib.hid (allJobs_any n hn w)
  go_enter Tryd.func67, Tryd.ntmps67
  go_wp2_with fail
  refine H.out.mono ?_
  rintro e _ ⟨rfl, rfl⟩
  go_wp2
  go_ret
  exact ⟨rfl, rfl⟩
end Go.Proofs.YtjemjdlaoebffaaDoor
