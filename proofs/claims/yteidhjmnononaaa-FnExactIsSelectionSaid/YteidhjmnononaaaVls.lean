/- slices.Values of ints, collected: slices.AppendSeq, slices.Collect. -/
import Derived.RangeFuncNested
import Derived.RangeFuncBox
import Derived.RangeFuncLeaves
import Derived.Shelf.Abstract
import Derived.WalkKit
import Derived.OwnWalkIn
import Derived.TacticsInMore
import Derived.LoopNIn
import Derived.LoopIn
import Derived.Test.YteidhjmnononaaaEnds
import Derived.Test.YteidhjmnononaaaAppW
namespace Go.Proofs.Yteidhjmnononaaa
open Go.RowKit Go.Shelf
attribute [local go_sem] Oper.semAt_some
/-- The first k places. -/
def upV (n : Nat) : Nat → List { k : Nat // k < n }
  | 0 => []
  | k + 1 => if h : k < n then upV n k ++ [⟨k, h⟩] else upV n k
theorem upV_len (n : Nat) : ∀ k, k ≤ n → (upV n k).length = k
  | 0, _ => rfl
  | k + 1, h => by
    unfold upV
    rw [dif_pos (by omega), List.length_append, upV_len n k (by omega)]; rfl
theorem upV_step (n k : Nat) (h : k < n) : upV n (k + 1) = upV n k ++ [⟨k, h⟩] := by
  show (if h : k < n then _ else _) = _
  rw [dif_pos h]
def valsV (xs : List Int) (l : List { k : Nat // k < xs.length }) : List Int := l.map fun x => xs[x.1]'x.2
theorem valsV_snoc (xs : List Int) (l : List { k : Nat // k < xs.length }) (x : { k : Nat // k < xs.length }) : valsV xs (l ++ [x]) = valsV xs l ++ [xs[x.1]'x.2] := by unfold valsV; simp
theorem valsV_up (xs : List Int) : ∀ k, k ≤ xs.length → valsV xs (upV xs.length k) = xs.take k
  | 0, _ => rfl
  | k + 1, h => by
    rw [upV_step _ k (by omega), valsV_snoc, valsV_up xs k (by omega)]
    exact List.take_append_getElem (by omega)
theorem valsV_all (xs : List Int) : valsV xs (upV xs.length xs.length) = xs := by rw [valsV_up xs _ (Nat.le_refl _), List.take_length]
def encV (xs : List Int) (x : { k : Nat // k < xs.length }) : Array Value := #[.int .i64 (xs[x.1]'x.2)]
set_option maxRecDepth 100000 in
set_option maxHeartbeats 2000000 in
theorem values1_in (F : Fence) (n : Nat) (h1 : F.fn 42) (hro : F.round = none) (hn : 1 ≤ n) (l Bs n₀ : Nat) (B : Option Addr) (d : Nat) (xs : List Int) (hx : xs.length ≤ 10000000) (J Jx : List { k : Nat // k < xs.length } → World → Prop)
    (hY : ∀ pre x W, J pre W → pre.length < xs.length → YieldAt F (n - 1) Try.prog l (encV xs x) W fun e W' =>
      (e = .returned (.bool true) ∧ J (pre ++ [x]) W' ∧ Below n₀ W W') ∨ (e = .returned (.bool false) ∧ Jx (pre ++ [x]) W'))
    (W : World) (hBs : Boxed W Bs 40 (.slice B xs.length d)) (hc : ∀ k (h : k < xs.length), ∃ a, B = some a ∧ a.block < n₀ ∧ W.cell? (a.add k) = some (.int .i64 xs[k])) (h0 : J [] W) :
    CallsIn F n Try.prog 42 #[.func (.yield l) #[] #[], .pointer (some ⟨Bs, 0, none⟩)] W fun e W' => (∃ v, e = .returned v) ∧
      ((∃ ys, ys = upV xs.length xs.length ∧ J ys W') ∨ (∃ pre, (∃ k, k ≤ xs.length ∧ pre = upV xs.length k) ∧ Jx pre W')) := by
  refine callsIn_of_wp Try.func42 rfl h1 ?_ hro
  simp only [Try.ntmps42, List.size_toArray, List.length_cons, List.length_nil, Nat.reduceAdd, Nat.reduceSub, Array.replicate_succ, Array.replicate_zero, List.push_toArray, List.append_toArray, List.nil_append, List.cons_append]
  have cs := hBs.cell
  gi_wp2
  clear cs
  gi_loopw [7] (fun i wr => ∃ k : Nat, k ≤ xs.length ∧ i = .int .i64 (k : Int) ∧ J (upV xs.length k) wr ∧ Below n₀ W wr) (fun i _ => xs.length - (intOf i).toNat)
  case atStart => exact ⟨0, Nat.zero_le _, rfl, h0, Below.refl _ _⟩
  case round =>
    obtain ⟨k, hk, rfl, hJ, hb⟩ := hrel
    by_cases hlt : k < xs.length
    · obtain ⟨a, rfl, hab, hcm⟩ := hc k hlt
      have hcx : wr.cell? (a.add k) = some (.int .i64 xs[k]) := (hb.cell (p := a.add k) (by rw [add_block]; exact hab)).trans hcm
      obtain ⟨fn, tmps, assign, body, hy, hR⟩ := hY _ ⟨k, hlt⟩ wr hJ (by rw [upV_len _ _ (by omega)]; omega)
      have HJ := Lib.hid (upV_step xs.length k hlt)
      have hk0 : (0 : Int) ≤ k := by omega
      have hk1 : (k : Int) < xs.length := by omega
      rw [← HJ.out] at hR
      unfold encV at hy
      dsimp only at hy
      clear hY hc hJ hcm
      generalize xs[k] = x at *
      gi_wp2
      refine hR.mono ?_
      rintro e W3 (⟨rfl, hJ3, hk3⟩ | ⟨rfl, hJx3⟩)
      · gi_wp2
        go_roundw
        case rel => exact ⟨k + 1, by omega, by go_num, hJ3, hb.trans hk3⟩
        case measure => simp [intOf]; omega
      · gi_wp2
        refine bodyPost_ret (results_none rfl _ _ _) rfl ?_
        exact ⟨⟨_, rfl⟩, .inr ⟨_, ⟨k + 1, by omega, rfl⟩, hJx3⟩⟩
    · obtain rfl : k = xs.length := by omega
      have hnl : ¬ ((xs.length : Int) < xs.length) := by omega
      gi_wp2
      go_end0
      exact ⟨⟨_, rfl⟩, .inl hJ⟩
theorem values_any (B : Option Addr) (l d : Nat) (w : World) : Calls Try.prog 32 #[.slice B l d] w fun e w' => e = .returned (.func (.func 42) #[] #[.pointer (some ⟨w.heap.size, 0, none⟩)]) ∧ w' = w.alloc (.cells #[.slice B l d] 40) := by
  go_enter Try.func32, Try.ntmps32
  go_wp2
  go_ret
  exact ⟨rfl, rfl⟩
theorem values_stops (n : Nat) (hn : 1 ≤ n) (Bs n₀ : Nat) (B : Option Addr) (d : Nat) (xs : List Int) (hx : xs.length ≤ 10000000) (w : World) (hl : Bs < w.heap.size) (hn₀ : n₀ ≤ w.heap.size) (hBs : Boxed w Bs 40 (.slice B xs.length d)) (hc : ∀ k (h : k < xs.length), ∃ a, B = some a ∧ a.block < n₀ ∧ w.cell? (a.add k) = some (.int .i64 xs[k])) :
    SeqStopsK Fence.wide n Try.prog 42 #[.pointer (some ⟨Bs, 0, none⟩)] (encV xs) (Below n₀) (fun ys => ys = upV xs.length xs.length) (fun pre => ∃ k, k ≤ xs.length ∧ pre = upV xs.length k) xs.length w := fun l J Jx W hW _ _ hY h0 =>
  values1_in Fence.wide n trivial rfl hn l Bs n₀ B d xs hx J Jx hY W ((hW.block Bs hl).trans hBs) (fun k h => by
    obtain ⟨a, e1, e2, e3⟩ := hc k h
    exact ⟨a, e1, e2, (hW.cell (p := a.add k) (by rw [add_block]; omega)).trans e3⟩) h0
theorem below_put {n₀ l : Nat} {W : World} {o o' : Obj} (hl : n₀ ≤ l) (h : W.heap[l]? = some o) : Below n₀ W (W.putObj l o') :=
  (Below.refl n₀ W).grown (grownBy_putObj' W l o') (by have := (Array.getElem?_eq_some_iff.1 h).1; omega) (fun k e => by cases e; omega)
section
variable (Bs : Nat) (B : Option Addr) (d : Nat) (xs : List Int) (w : World) (hB : Boxed w Bs 40 (.slice B xs.length d)) (hr : Row w B (ic xs)) (hx : xs.length ≤ 2000000)
include hB hr hx
set_option maxRecDepth 100000 in
set_option maxHeartbeats 4000000 in
theorem appendSeqV_any : Calls Try.prog 46 #[.slice none 0 0, .func (.func 42) #[] #[.pointer (some ⟨Bs, 0, none⟩)]] w fun e w' => ∃ v, e = .returned v ∧ w'.ownsRow w.heap.size 3 1 v xs.length (ic xs) ∧ Below w.heap.size w w' := by
  obtain ⟨i0, hi, hz0, hz1, hz2⟩ := info_parts infoI
  have hlB := hB.lt
  have bx := Boxed.new w 40 (.slice none 0 0)
  have hB1 : Boxed (w.alloc (.cells #[.slice none 0 0] 40)) Bs 40 (.slice B xs.length d) := hB.alloc _
  have hr0 : (w.alloc (.cells #[.slice none 0 0] 40)).ownsRow w.heap.size 3 1 (.slice none 0 0) 0 [] := ⟨by simp, .inl ⟨rfl, rfl⟩⟩
  have hb0 : Below w.heap.size w (w.alloc (.cells #[.slice none 0 0] 40)) := (Below.refl _ _).alloc (Nat.le_refl _) _
  have hz : (w.alloc (.cells #[.slice none 0 0] 40)).heap.size = w.heap.size + 1 := by simp
  have hcc : ∀ k (h : k < xs.length), ∃ a, B = some a ∧ a.block < w.heap.size ∧ (w.alloc (.cells #[.slice none 0 0] 40)).cell? (a.add k) = some (.int .i64 xs[k]) := fun k h => by
    obtain ⟨a, e1, e2⟩ := hr.int h
    have hrow : a.block < w.heap.size := by
      have := lt_of_cell e2
      rwa [add_block] at this
    exact ⟨a, e1, hrow, (hb0.cell (p := a.add k) (by rw [add_block]; exact hrow)).trans e2⟩
  have H0 := Lib.hid (And.intro bx (And.intro hB1 (And.intro hr0 hb0)))
  have HCC := Lib.hid hcc
  clear bx hB1 hr0 hb0 hB hr hcc
  refine (callsIn_wide (n := 6)).1 ?_
  refine callsIn_of_wp_marks Try.func46 rfl trivial ?_ rfl
  simp only [Try.ntmps46, List.size_toArray, List.length_cons, List.length_nil, Nat.reduceAdd, Nat.reduceSub, Array.replicate_succ, Array.replicate_zero, List.push_toArray, List.append_toArray, List.nil_append, List.cons_append]
  gi_wp2
  generalize w.alloc (.cells #[.slice none 0 0] 40) = w1 at *
  obtain ⟨bx, hB1, hr0, hb0⟩ := H0.out
  refine wpIn_rangeFunc_ownG (F := Fence.wide) rfl (by omega) (gf := 42) (lb := #[.pointer (some ⟨Bs, 0, none⟩)]) rfl trivial (enters_of Try.func42 (by kernel_rfl) rfl)
    (values_stops 5 (by omega) Bs w.heap.size B d xs (by omega) w1 (by omega) (by omega) hB1 HCC.out)
    (fun h k => h.trans k) (fun W l' o o' hl ho hc _ => below_put (by omega) ho) (Below.refl _ _) (fun _ => rfl)
    (fun (pre : List { k : Nat // k < xs.length }) W => (∃ v, Boxed W w.heap.size 40 v ∧ W.ownsRow w.heap.size 3 1 v pre.length (ic (valsV xs pre)) ∧ True) ∧ Below w.heap.size w W)
    (fun _ _ _ => False)
    (OwnFrom.and (Own.from (holdsRow_own w.heap.size w.heap.size 40 3 1 (fun pre : List { k : Nat // k < xs.length } => pre.length) (fun pre => ic (valsV xs pre)) (fun _ _ => True)) _) (ownFrom_below (Nat.le_refl _) (by omega)))
    (fun _ _ _ _ _ h _ _ => h)
    ⟨⟨_, bx, hr0, trivial⟩, hb0⟩
    (fun x => { tmps := #[.slice none 0 0, .func (.func 42) #[] #[.pointer (some ⟨Bs, 0, none⟩)], .pointer (some ⟨w.heap.size, 0, none⟩), undef, .slice none 0 0, .int .i64 (xs[x.1]'x.2), .func (.func 42) #[] #[.pointer (some ⟨Bs, 0, none⟩)], .int .i64 (xs[x.1]'x.2), undef, undef, undef, undef, undef], defers := [] }) ?assign ?body ?done ?stop
  case assign =>
    intro l' x W K hK
    unfold encV
    gi_wp2
    exact hK
  case body =>
    rintro l' pre ⟨k, hk⟩ W ⟨⟨v, hv, hrow, _⟩, hb⟩ hl
    have hc := hv.cell
    have hsz := hb.size
    have HV : Hid (ic (valsV xs (pre ++ [(⟨k, hk⟩ : { k : Nat // k < xs.length })])) = ic (valsV xs pre) ++ [.int .i64 xs[k]]) := by
      show _ = _
      rw [valsV_snoc]; unfold ic; simp
    have hlen : (pre ++ [(⟨k, hk⟩ : { k : Nat // k < xs.length })]).length = pre.length + 1 := by simp
    have HL := Lib.hid hlen
    clear hlen
    dsimp only
    generalize xs[k] = x at *
    gi_wp2_with (gi_at_builtin; refine wpListIn_append_own _ rfl _ _ 40 rfl w.heap.size 3 i0 (.int .i64 0) 1 8 Try.underlying40 hi hz0 hz1 hz2 rfl (by decide) _ _ _ rfl (hrow.alloc _) ⟨W.heap.size, 0, none⟩ 1 1 [.int .i64 (x : Int)] rfl rfl (cell_one_new _ _ _) (by intro u hu; simp at hu; subst hu; rfl) (by unfold maxLen; omega) (by omega) (by simp; omega) ?_; intro v' w2 hown' hgrow _; obtain ⟨g', cap', rfl⟩ := ownsRow_succ hown'; obtain ⟨hv1, hv2, hr2, hk2, hb2⟩ := hv.appended (by decide) hrow (by omega) (Nat.le_refl _) hown' hgrow; have hc1 := hv1.cell; have hf1 := hv1.frozen)
    have hbw := hb.trans hb2
    exact ⟨hk2.from _, hb2, ⟨⟨_, hv2, by rw [HL.out, HV.out]; exact ⟨hr2, trivial⟩⟩, hbw⟩⟩
  case done =>
    rintro D ys W hD hys ⟨⟨v, hv, hrow, _⟩, hb⟩ hK
    have hc := hv.cell
    subst hys
    rw [valsV_all, upV_len _ _ (Nat.le_refl _)] at hrow
    have HROW := Lib.hid hrow
    clear hrow
    gi_wp2
    refine ⟨by simp, .inl ⟨_, _, rfl, run_takeDeferred hK, ?_⟩⟩
    exact ⟨_, results_tmp rfl _ _ _, v, rfl, ownsRow_putObj HROW.out _ hK rfl, hb.trans (belowK_b (w := w1) (by omega) W D _ _ (by omega) hK rfl rfl)⟩
  case stop =>
    rintro D cd pre W _ _ h _
    exact h.elim
set_option maxRecDepth 100000 in
theorem collectV_any : Calls Try.prog 40 #[.func (.func 42) #[] #[.pointer (some ⟨Bs, 0, none⟩)]] w fun e w' => ∃ v, e = .returned v ∧ w'.ownsRow w.heap.size 3 1 v xs.length (ic xs) ∧ Below w.heap.size w w' := by
  have H := Lib.hid (appendSeqV_any Bs B d xs w hB hr hx)
  clear hB hr
  go_enter Try.func40, Try.ntmps40
  go_wp2_with fail
  refine H.out.mono ?_
  rintro e w2 ⟨v, rfl, ho, hb⟩
  have HO := Lib.hid (And.intro ho hb)
  clear ho hb H
  go_wp2
  go_ret
  exact ⟨v, rfl, HO.out.1, HO.out.2⟩
end
end Go.Proofs.Yteidhjmnononaaa
