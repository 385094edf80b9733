/- slices.Backward of ints: what it yields to a loop. -/
import Derived.RangeFuncNested
import Derived.RangeFuncBox
import Derived.RangeFuncLeaves
import Derived.Shelf.Abstract
import Derived.WalkKit
import Derived.OwnWalkIn
import Derived.TacticsInMore
import Derived.LoopNIn
import Derived.LoopIn
import Derived.Test.YtpjjjbkjkhcbdaaEnds
namespace Go.Proofs.Ytpjjjbkjkhcbdaa
open Go.RowKit Go.Shelf
attribute [local go_sem] Oper.semAt_some
/-- The first d places from the last one down. -/
def dn (n : Nat) : Nat → List { k : Nat // k < n }
  | 0 => []
  | d + 1 => if h : n - (d + 1) < n then dn n d ++ [⟨n - (d + 1), h⟩] else dn n d
theorem dn_len (n : Nat) : ∀ d, d ≤ n → (dn n d).length = d
  | 0, _ => rfl
  | d + 1, h => by
    unfold dn
    rw [dif_pos (by omega), List.length_append, dn_len n d (by omega)]; rfl
theorem dn_step (n k : Nat) (h : k < n) : dn n (n - k) = dn n (n - (k + 1)) ++ [⟨k, h⟩] := by
  obtain ⟨d, hd⟩ : ∃ d, n - k = d + 1 := ⟨n - k - 1, by omega⟩
  have e1 : n - (k + 1) = d := by omega
  have e2 : n - (d + 1) = k := by omega
  rw [hd, e1]
  subst e2
  show (if h : n - (d + 1) < n then _ else _) = _
  rw [dif_pos h]
/-- What a round that goes on keeps. -/
def KeepsBk (n₀ Bs : Nat) (W W' : World) : Prop := Below n₀ W W' ∧ ∀ v, Boxed W Bs 35 v → Boxed W' Bs 35 v
def encB (p : List Nat) (x : { k : Nat // k < p.length }) : Array Value := #[.int .i64 (x.1 : Int), .int .i64 ((p[x.1]'x.2 : Nat) : Int)]
set_option maxRecDepth 100000 in
set_option maxHeartbeats 2000000 in
theorem back1_in (F : Fence) (n : Nat) (h1 : F.fn 137) (hro : F.round = none) (hn : 1 ≤ n) (l Bs n₀ : Nat) (B : Option Addr) (d : Nat) (p : List Nat) (hp8 : p.length ≤ 8) (J Jx : List { k : Nat // k < p.length } → World → Prop)
    (hY : ∀ pre x W, J pre W → pre.length < p.length → YieldAt F (n - 1) Try.prog l (encB p x) W fun e W' =>
      (e = .returned (.bool true) ∧ J (pre ++ [x]) W' ∧ KeepsBk n₀ Bs W W') ∨ (e = .returned (.bool false) ∧ Jx (pre ++ [x]) W'))
    (W : World) (hBs : Boxed W Bs 35 (.slice B p.length d)) (hc : ∀ k (h : k < p.length), ∃ a, B = some a ∧ a.block < n₀ ∧ W.cell? (a.add k) = some (.int .i64 ((p[k] : Nat) : Int))) (h0 : J [] W) :
    CallsIn F n Try.prog 137 #[.func (.yield l) #[] #[], .pointer (some ⟨Bs, 0, none⟩)] W fun e W' => (∃ v, e = .returned v) ∧
      ((∃ ys, ys = dn p.length p.length ∧ J ys W') ∨ (∃ pre, (∃ k, k ≤ p.length ∧ pre = dn p.length k) ∧ Jx pre W')) := by
  refine callsIn_of_wp Try.func137 rfl h1 ?_ hro
  simp only [Try.ntmps137, List.size_toArray, List.length_cons, List.length_nil, Nat.reduceAdd, Nat.reduceSub, Array.replicate_succ, Array.replicate_zero, List.push_toArray, List.append_toArray, List.nil_append, List.cons_append]
  have cs := hBs.cell
  have hs := IntWalk.i64_in ((p.length : Int) - 1) (by omega)
  gi_wp2
  gi_loopw [3] (fun i wr => ∃ (k : Nat) (z : Int), k ≤ p.length ∧ i = .int .i64 z ∧ z = (k : Int) - 1 ∧ J (dn p.length (p.length - k)) wr ∧ Below n₀ W wr ∧ Boxed wr Bs 35 (.slice B p.length d)) (fun i _ => (intOf i + 1).toNat)
  case atStart => exact ⟨p.length, _, Nat.le_refl _, rfl, rfl, by rw [Nat.sub_self]; exact h0, Below.refl _ _, hBs⟩
  case round =>
    obtain ⟨k, z, hk, rfl, hz, hJ, hb, hB⟩ := hrel
    have cs' := hB.cell
    clear hs cs
    by_cases hk0 : 0 < k
    · obtain ⟨m, rfl⟩ : ∃ m, k = m + 1 := ⟨k - 1, by omega⟩
      obtain rfl : z = (m : Int) := by omega
      have hm : m < p.length := by omega
      obtain ⟨a, rfl, hab, hcm⟩ := hc m hm
      have hcx : wr.cell? (a.add m) = some (.int .i64 ((p[m] : Nat) : Int)) := (hb.cell (p := a.add m) (by rw [add_block]; exact hab)).trans hcm
      obtain ⟨fn, tmps, assign, body, hy, hR⟩ := hY _ ⟨m, hm⟩ wr hJ (by rw [dn_len _ _ (by omega)]; omega)
      have HJ := Lib.hid (dn_step p.length m hm)
      have hm0 : (0 : Int) ≤ m := by omega
      have hm1 : (m : Int) < p.length := by omega
      rw [← HJ.out] at hR
      unfold encB at hy
      dsimp only at hy
      clear hz hY hc hJ hcm
      generalize p[m] = x at *
      gi_wp2
      refine hR.mono ?_
      rintro e W3 (⟨rfl, hJ3, hk3⟩ | ⟨rfl, hJx3⟩)
      · gi_wp2
        go_roundw
        case rel => exact ⟨m, _, by omega, by go_num, by omega, hJ3, hb.trans hk3.1, hk3.2 _ hB⟩
        case measure => simp [intOf]
      · gi_wp2
        refine bodyPost_ret (results_none rfl _ _ _) rfl ?_
        exact ⟨⟨_, rfl⟩, .inr ⟨_, ⟨_, Nat.sub_le .., rfl⟩, hJx3⟩⟩
    · obtain rfl : k = 0 := by omega
      have hz0 : ¬ (0 ≤ z) := by omega
      gi_wp2
      go_end0
      exact ⟨⟨_, rfl⟩, .inl hJ⟩
theorem back_in (F : Fence) (n : Nat) (h1 : F.fn 96) (hro : F.round = none) (B : Option Addr) (l d : Nat) (w : World) :
    CallsIn F n Try.prog 96 #[.slice B l d] w fun e w' => e = .returned (.func (.func 137) #[] #[.pointer (some ⟨w.heap.size, 0, none⟩)]) ∧ w' = w.alloc (.cells #[.slice B l d] 35) := by
  refine callsIn_of_wp Try.func96 rfl h1 ?_ hro
  simp only [Try.ntmps96, List.size_toArray, List.length_cons, List.length_nil, Nat.reduceAdd, Nat.reduceSub, Array.replicate_succ, Array.replicate_zero, List.push_toArray, List.append_toArray, List.nil_append, List.cons_append]
  gi_wp2
  go_ret
  exact ⟨rfl, rfl⟩
theorem back_stops (F : Fence) (n : Nat) (h1 : F.fn 137) (hro : F.round = none) (hn : 1 ≤ n) (Bs n₀ : Nat) (B : Option Addr) (d : Nat) (p : List Nat) (hp8 : p.length ≤ 8) (w : World) (hl : Bs < w.heap.size) (hn₀ : n₀ ≤ w.heap.size) (hBs : Boxed w Bs 35 (.slice B p.length d)) (hc : ∀ k (h : k < p.length), ∃ a, B = some a ∧ a.block < n₀ ∧ w.cell? (a.add k) = some (.int .i64 ((p[k] : Nat) : Int))) :
    SeqStopsK F n Try.prog 137 #[.pointer (some ⟨Bs, 0, none⟩)] (encB p) (KeepsBk n₀ Bs) (fun ys => ys = dn p.length p.length) (fun pre => ∃ k, k ≤ p.length ∧ pre = dn p.length k) p.length w := fun l J Jx W hW _ _ hY h0 =>
  back1_in F n h1 hro hn l Bs n₀ B d p hp8 J Jx hY W ((hW.block Bs hl).trans hBs) (fun k h => by
    obtain ⟨a, e1, e2, e3⟩ := hc k h
    exact ⟨a, e1, e2, (hW.cell (p := a.add k) (by rw [add_block]; omega)).trans e3⟩) h0
end Go.Proofs.Ytpjjjbkjkhcbdaa
