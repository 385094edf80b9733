/- partsOf: the range function that yields the parts of a text. -/
import Derived.RangeFuncBox
import Derived.RangeFuncLeaves
import Derived.RangeFuncNested
import Derived.Shelf.Abstract
import Derived.WalkKit
import Derived.OwnWalkIn
import Derived.TacticsInMore
import Derived.LoopNIn
import Derived.LoopIn
import Derived.Maps.AppendAt
import Derived.Test.YteflgljifbcelaaSplit
import Derived.Test.YteflgljifbcelaaShelf
namespace Go.Proofs.Yteflgljifbcelaa
open Go.RowKit Go.Shelf

attribute [local go_sem] Oper.semAt_some

/-- What a round that goes on keeps: the box of the separator. -/
def KeepsBox (B : Nat) (W W' : World) : Prop := ∀ v, Boxed W B 5 v → Boxed W' B 5 v

/-- The rest of the text is a string value whose parts are still to come. -/
theorem strV_of (s : ByteArray) : strV s.data.toList = .string s := by
  unfold strV; congr 1
theorem size_listL (s : ByteArray) : s.data.toList.length = s.size := by simp
theorem size_cut (R : ByteArray) (k : Nat) (hk : k < R.size) : (R.extract (k + 1) R.size).size < R.size := by
  rw [ByteArray.size_extract]; omega
/-- The length of a string value. -/
def lenOf : Value → Nat | .string s => s.size | _ => 0

set_option maxRecDepth 100000 in
set_option maxHeartbeats 2000000 in
theorem parts_in (F : Fence) (n : Nat) (h36 : F.fn 36) (h37 : F.fn 37) (hro : F.round = none) (hn : 1 ≤ n)
    (hIB : ∀ (s : ByteArray) (c : UInt8) (w : World), CallsIn F (n - 1) Try.prog 37 #[.string s, .int .u8 (c.toNat : Int)] w fun e w' => e = .returned (.int .i64 (Lib.indexByte s.data.toList c)) ∧ w' = w)
    (l Bs Bc : Nat) (s : ByteArray) (c : UInt8) (J Jx : List (List UInt8) → World → Prop) (hz : s.size ≤ 4000)
    (hY : ∀ pre x W, J pre W → pre.length < (splitL c s.data.toList).length → YieldAt F (n - 1) Try.prog l #[strV x] W fun e W' =>
      (e = .returned (.bool true) ∧ J (pre ++ [x]) W' ∧ KeepsBox Bc W W') ∨ (e = .returned (.bool false) ∧ Jx (pre ++ [x]) W'))
    (W : World) (hBs : Boxed W Bs 9 (.string s)) (hBc : Boxed W Bc 5 (.int .u8 (c.toNat : Int))) (h0 : J [] W) :
    CallsIn F n Try.prog 36 #[.func (.yield l) #[] #[], .pointer (some ⟨Bs, 0, none⟩), .pointer (some ⟨Bc, 0, none⟩)] W fun e W' => (∃ v, e = .returned v) ∧
      ((∃ ys, ys = splitL c s.data.toList ∧ J ys W') ∨ (∃ pre, pre <+: splitL c s.data.toList ∧ Jx pre W')) := by
  refine callsIn_of_wp Try.func36 rfl h36 ?_ hro
  simp only [Try.ntmps36, List.size_toArray, List.length_cons, List.length_nil, Nat.reduceAdd, Nat.reduceSub, Array.replicate_succ, Array.replicate_zero, List.push_toArray, List.append_toArray, List.nil_append, List.cons_append]
  have cs := hBs.cell
  gi_wp2
  gi_loopw [4] (fun p wr => ∃ (pre : List (List UInt8)) (R : ByteArray), p = .string R ∧ R.size ≤ 4000 ∧ Hid (splitL c s.data.toList = pre ++ splitL c R.data.toList) ∧ J pre wr ∧ Boxed wr Bc 5 (.int .u8 (c.toNat : Int)))
    (fun p _ => lenOf p)
  case atStart => exact ⟨[], s, rfl, hz, rfl, h0, hBc⟩
  case round =>
    obtain ⟨pre, R, rfl, hRz, hS, hJ, hB⟩ := hrel
    have cc := hB.cell
    cases hh : hasB R.data.toList c with
    | false =>
      have hend : splitL c R.data.toList = [R.data.toList] := splitL_end c _ hh
      have hI : ∀ w, CallsIn F (n - 1) Try.prog 37 #[.string R, .int .u8 (c.toNat : Int)] w fun e w' => e = .returned (.int .i64 (-1)) ∧ w' = w := fun w => by
        have := hIB R c w
        rw [indexByte_miss hh] at this
        exact this
      have HI := Lib.hid hI
      have hall : splitL c s.data.toList = pre ++ [R.data.toList] := by rw [hS.out, hend]
      obtain ⟨fn, tmps, assign, body, hy, hR⟩ := hY pre R.data.toList wr hJ (by rw [hall]; simp)
      rw [strV_of] at hy
      have HA := Lib.hid hall
      clear hI hend hh hall hS hIB hY
      gi_wp2_with (gi_at_call 37; refine (HI.out _).mono ?_; rintro e w' ⟨rfl, rfl⟩)
      refine hR.mono ?_
      rintro e W3 (⟨rfl, hJ3, hk3⟩ | ⟨rfl, hJx3⟩)
      · gi_wp2
        refine bodyPost_ret (results_none rfl _ _ _) rfl ?_
        exact ⟨⟨_, rfl⟩, .inl ⟨_, HA.out.symm, hJ3⟩⟩
      · gi_wp2
        refine bodyPost_ret (results_none rfl _ _ _) rfl ?_
        exact ⟨⟨_, rfl⟩, .inr ⟨_, by rw [HA.out]; exact List.prefix_refl _, hJx3⟩⟩
    | true =>
      obtain ⟨t, r, hR0, ht⟩ := exists_cut c _ hh
      have hk : t.length < R.size := by
        have := congrArg List.length hR0
        simp at this
        omega
      have hI : ∀ w, CallsIn F (n - 1) Try.prog 37 #[.string R, .int .u8 (c.toNat : Int)] w fun e w' => e = .returned (.int .i64 (t.length : Int)) ∧ w' = w := fun w => by
        have := hIB R c w
        rw [hR0, indexByte_cut c r ht] at this
        exact this
      have HI := Lib.hid hI
      have hcut : splitL c R.data.toList = t :: splitL c r := by rw [hR0]; exact splitL_cut c r t ht
      have hall : splitL c s.data.toList = (pre ++ [t]) ++ splitL c r := by rw [hS.out, hcut]; simp
      have hrest : (R.extract (t.length + 1) R.size).data.toList = r := by
        rw [Lib.extract_data, List.take_of_length_le (by simp), hR0, show t ++ c :: r = (t ++ [c]) ++ r by simp, List.drop_left' (by simp)]
      have hpart : Value.string (R.extract 0 t.length) = strV t := by rw [extract_str, hR0]; simp
      obtain ⟨fn, tmps, assign, body, hy, hR⟩ := hY pre t wr hJ (by rw [hall]; simp)
      rw [← hpart] at hy
      have HA := Lib.hid hall
      have HR := Lib.hid hrest
      have hsz := size_cut R t.length hk
      generalize t.length = k at *
      clear hI hh hall hS hIB hY hcut hrest hpart ht
      gi_wp2_with (gi_at_call 37; refine (HI.out _).mono ?_; rintro e w' ⟨rfl, rfl⟩)
      refine hR.mono ?_
      rintro e W3 (⟨rfl, hJ3, hk3⟩ | ⟨rfl, hJx3⟩)
      · gi_wp2
        go_roundw
        case rel => exact ⟨pre ++ [t], _, rfl, by omega, by rw [HR.out]; exact HA.out, hJ3, hk3 _ hB⟩
        case measure => simp [lenOf]; omega
      · gi_wp2
        refine bodyPost_ret (results_none rfl _ _ _) rfl ?_
        exact ⟨⟨_, rfl⟩, .inr ⟨_, ⟨_, HA.out.symm⟩, hJx3⟩⟩

theorem parts_stops (F : Fence) (n : Nat) (h36 : F.fn 36) (h37 : F.fn 37) (hro : F.round = none) (hn : 1 ≤ n)
    (hIB : ∀ (s : ByteArray) (c : UInt8) (w : World), CallsIn F (n - 1) Try.prog 37 #[.string s, .int .u8 (c.toNat : Int)] w fun e w' => e = .returned (.int .i64 (Lib.indexByte s.data.toList c)) ∧ w' = w)
    (Bs Bc : Nat) (s : ByteArray) (c : UInt8) (hz : s.size ≤ 4000) (w : World) (hs : Bs < w.heap.size) (hc : Bc < w.heap.size) (hBs : Boxed w Bs 9 (.string s)) (hBc : Boxed w Bc 5 (.int .u8 (c.toNat : Int))) :
    SeqStopsK F n Try.prog 36 #[.pointer (some ⟨Bs, 0, none⟩), .pointer (some ⟨Bc, 0, none⟩)] (fun x : List UInt8 => #[strV x]) (KeepsBox Bc) (fun ys => ys = splitL c s.data.toList) (fun pre => pre <+: splitL c s.data.toList) (splitL c s.data.toList).length w := fun l J Jx W hW _ _ hY h0 =>
  parts_in F n h36 h37 hro hn hIB l Bs Bc s c J Jx hz hY W ((hW.block Bs hs).trans hBs) ((hW.block Bc hc).trans hBc) h0

theorem partsOf_in (F : Fence) (n : Nat) (h27 : F.fn 27) (hro : F.round = none) (s : ByteArray) (c : Int) (w : World) :
    CallsIn F n Try.prog 27 #[.string s, .int .u8 c] w fun e w' => e = .returned (.func (.func 36) #[] #[.pointer (some ⟨w.heap.size, 0, none⟩), .pointer (some ⟨w.heap.size + 1, 0, none⟩)]) ∧ w' = (w.alloc (.cells #[.string s] 9)).alloc (.cells #[.int .u8 c] 5) := by
  refine callsIn_of_wp Try.func27 rfl h27 ?_ hro
  simp only [Try.ntmps27, List.size_toArray, List.length_cons, List.length_nil, Nat.reduceAdd, Nat.reduceSub, Array.replicate_succ, Array.replicate_zero, List.push_toArray, List.append_toArray, List.nil_append, List.cons_append]
  gi_wp2
  go_ret
  exact ⟨rfl, rfl⟩

set_option maxRecDepth 100000 in
set_option maxHeartbeats 2000000 in
theorem SplitString_in (F : Fence) (n : Nat) (h10 : F.fn 10) (h27 : F.fn 27) (h36 : F.fn 36) (h37 : F.fn 37) (hro : F.round = none) (hn : 5 ≤ n)
    (hIB : ∀ (s : ByteArray) (c : UInt8) (w : World), CallsIn F (n - 1 - 1) Try.prog 37 #[.string s, .int .u8 (c.toNat : Int)] w fun e w' => e = .returned (.int .i64 (Lib.indexByte s.data.toList c)) ∧ w' = w)
    (s : ByteArray) (c : UInt8) (w : World) (hz : s.size ≤ 4000) :
    CallsIn F n Try.prog 10 #[.string s, .string ⟨#[c]⟩] w fun e W' => ∃ v, e = .returned (.tuple #[v, .bool true]) ∧ W'.ownsRow w.heap.size 9 1 v (splitL c s.data.toList).length ((splitL c s.data.toList).map strV) ∧ Below w.heap.size w W' := by
  have h1 : 1 ≤ n := by omega
  obtain ⟨i0, hi, hz0, hz1, hz2⟩ := info_parts infoStr
  refine callsIn_of_wp_marks Try.func10 rfl h10 ?_ hro
  simp only [Try.ntmps10, List.size_toArray, List.length_cons, List.length_nil, Nat.reduceAdd, Nat.reduceSub, Array.replicate_succ, Array.replicate_zero, List.push_toArray, List.append_toArray, List.nil_append, List.cons_append]
  gi_wp2_with (gi_at_call 27; refine (partsOf_in F (n - 1) h27 hro _ _ _).mono ?_; rintro e w' ⟨rfl, rfl⟩)
  have bP : Boxed ((((w.alloc (.cells #[] 9)).alloc (.cells #[.slice (some ⟨w.heap.size, 0, none⟩) 0 0] 26)).alloc (.cells #[.string s] 9)).alloc (.cells #[.int .u8 (c.toNat : Int)] 5)) (w.heap.size + 1) 26 (.slice (some ⟨w.heap.size, 0, none⟩) 0 0) := by
    have h := ((Boxed.new (w.alloc (.cells #[] 9)) 26 (.slice (some ⟨w.heap.size, 0, none⟩) 0 0)).alloc (.cells #[.string s] 9)).alloc (.cells #[.int .u8 (c.toNat : Int)] 5)
    rwa [World.size_alloc] at h
  have bS : Boxed ((((w.alloc (.cells #[] 9)).alloc (.cells #[.slice (some ⟨w.heap.size, 0, none⟩) 0 0] 26)).alloc (.cells #[.string s] 9)).alloc (.cells #[.int .u8 (c.toNat : Int)] 5)) (w.heap.size + 1 + 1) 9 (.string s) := by
    have h := (Boxed.new ((w.alloc (.cells #[] 9)).alloc (.cells #[.slice (some ⟨w.heap.size, 0, none⟩) 0 0] 26)) 9 (.string s)).alloc (.cells #[.int .u8 (c.toNat : Int)] 5)
    rwa [World.size_alloc, World.size_alloc] at h
  have bC : Boxed ((((w.alloc (.cells #[] 9)).alloc (.cells #[.slice (some ⟨w.heap.size, 0, none⟩) 0 0] 26)).alloc (.cells #[.string s] 9)).alloc (.cells #[.int .u8 (c.toNat : Int)] 5)) (w.heap.size + 1 + 1 + 1) 5 (.int .u8 (c.toNat : Int)) := by
    have h := Boxed.new (((w.alloc (.cells #[] 9)).alloc (.cells #[.slice (some ⟨w.heap.size, 0, none⟩) 0 0] 26)).alloc (.cells #[.string s] 9)) 5 (.int .u8 (c.toNat : Int))
    rwa [World.size_alloc, World.size_alloc, World.size_alloc] at h
  have hR0 : ((((w.alloc (.cells #[] 9)).alloc (.cells #[.slice (some ⟨w.heap.size, 0, none⟩) 0 0] 26)).alloc (.cells #[.string s] 9)).alloc (.cells #[.int .u8 (c.toNat : Int)] 5)).ownsRow w.heap.size 9 1 (.slice (some ⟨w.heap.size, 0, none⟩) 0 0) 0 [] :=
    (((World.ownsRow_made w #[] 0 (Nat.le_refl _) (by unfold maxLen; omega) rfl).alloc _).alloc _).alloc _
  have hB0 : Below w.heap.size w ((((w.alloc (.cells #[] 9)).alloc (.cells #[.slice (some ⟨w.heap.size, 0, none⟩) 0 0] 26)).alloc (.cells #[.string s] 9)).alloc (.cells #[.int .u8 (c.toNat : Int)] 5)) :=
    ((((Below.refl _ w).alloc (Nat.le_refl _) _).alloc (by simp) _).alloc (by simp; omega) _).alloc (by simp; omega) _
  have hs0 : ((((w.alloc (.cells #[] 9)).alloc (.cells #[.slice (some ⟨w.heap.size, 0, none⟩) 0 0] 26)).alloc (.cells #[.string s] 9)).alloc (.cells #[.int .u8 (c.toNat : Int)] 5)).heap.size = w.heap.size + 4 := by simp
  have hc0 : ((⟨#[c]⟩ : ByteArray)[0]'(show 0 < 1 by omega)) = c := rfl
  rw [hc0]
  clear hc0
  generalize ((((w.alloc (.cells #[] 9)).alloc (.cells #[.slice (some ⟨w.heap.size, 0, none⟩) 0 0] 26)).alloc (.cells #[.string s] 9)).alloc (.cells #[.int .u8 (c.toNat : Int)] 5)) = W0 at *
  have hN := splitL_len c s.data.toList
  rw [size_listL] at hN
  refine wpIn_rangeFunc_ownG hro h1 (gf := 36) (lb := #[.pointer (some ⟨w.heap.size + 1 + 1, 0, none⟩), .pointer (some ⟨w.heap.size + 1 + 1 + 1, 0, none⟩)]) rfl h36 (enters_of Try.func36 (by kernel_rfl) rfl)
    (parts_stops F (n - 1) h36 h37 hro (by omega) hIB (w.heap.size + 1 + 1) (w.heap.size + 1 + 1 + 1) s c hz W0 (by omega) (by omega) bS bC) (fun h k v hv => k v (h v hv))
    (fun W l o o' hl ho hc _ v hv => hv.kept (grownBy_putObj' W l o') (fun e => by cases e; omega)) (Below.refl _ _) (fun _ => rfl)
    (fun (pre : List (List UInt8)) W => ((∃ v, Boxed W (w.heap.size + 1) 26 v ∧ W.ownsRow w.heap.size 9 1 v pre.length (pre.map strV) ∧ True) ∧ Below w.heap.size w W) ∧ Boxed W (w.heap.size + 1 + 1 + 1) 5 (.int .u8 (c.toNat : Int)))
    (fun _ _ _ => False)
    (OwnFrom.and (OwnFrom.and (Own.from (holdsRow_own w.heap.size (w.heap.size + 1) 26 9 1 (fun pre : List (List UInt8) => pre.length) (fun pre => pre.map strV) (fun _ _ => True)) _) (ownFrom_below (Nat.le_refl _) (by omega))) (Own.from (boxed_own (w.heap.size + 1 + 1 + 1) 5 (fun _ => .int .u8 (c.toNat : Int))) _))
    (fun _ _ _ _ _ hs _ _ => hs)
    ⟨⟨⟨_, bP, hR0, trivial⟩, hB0⟩, bC⟩
    (fun x => { tmps := #[.string s, .string ⟨#[c]⟩, undef, undef, .slice none 0 0, .bool false, .pointer (some ⟨w.heap.size + 1, 0, none⟩), Value.string ⟨x.toArray⟩, .string s, .int .i64 s.size, .bool (decide (4000 < (s.size : Int))), .bool (decide (4000 < (s.size : Int))), .string ⟨#[c]⟩, .int .i64 1, .bool false, .bool (decide (4000 < (s.size : Int))), undef, .slice (some ⟨w.heap.size, 0, none⟩) 0 0, .string s, .string ⟨#[c]⟩, .int .u8 (c.toNat : Int), .func (.func 36) #[] #[.pointer (some ⟨w.heap.size + 1 + 1, 0, none⟩), .pointer (some ⟨w.heap.size + 1 + 1 + 1, 0, none⟩)], Value.string ⟨x.toArray⟩, undef, undef, undef, undef, undef], defers := [] }) ?assign ?body ?done ?stop
  case assign =>
    intro l x W K hK
    gi_wp2
    exact hK
  case body =>
    rintro l pre x W ⟨⟨⟨v, hv, hrow, _⟩, hB⟩, hC⟩ hlt
    have hc := hv.cell
    gi_wp2_with (gi_at_builtin; refine wpListIn_append_own _ rfl _ _ 26 rfl w.heap.size 9 i0 (.string ⟨#[]⟩) 1 16 Try.underlying26 hi hz0 hz1 hz2 rfl (by decide) _ _ _ rfl (hrow.alloc _) ⟨W.heap.size, 0, none⟩ 1 1 [.string ⟨x.toArray⟩] rfl rfl (cell_one_new _ _ _) (by intro u hu; simp at hu; subst hu; rfl) (by unfold maxLen; omega) (by omega) (by have := hB.size; simp; omega) ?_; intro v' w1 hown' hgrow _; obtain ⟨g', cap', rfl⟩ := ownsRow_succ hown'; obtain ⟨hv1, hv2, hr2, hk2, hb2⟩ := hv.appended (by decide) hrow hB.size (by omega) hown' hgrow; have hc1 := hv1.cell; have hf1 := hv1.frozen)
    have hkb : KeepsBox (w.heap.size + 1 + 1 + 1) W (w1.setCell ⟨w.heap.size + 1, 0, none⟩ (.slice (some ⟨g', 0, none⟩) (pre.length + 1) cap')) := fun u hu => ((hu.alloc _).kept hgrow (hu.not_row (by decide) hrow)).other (by omega) _
    exact ⟨hk2.from _, hkb, ⟨⟨⟨_, hv2, by simpa [strV] using hr2, trivial⟩, hB.trans hb2⟩, hkb _ hC⟩⟩
  case done =>
    rintro D ys W hD rfl ⟨⟨⟨v, hv, hrow, _⟩, hB⟩, hC⟩ hK
    have hc := hv.cell
    gi_wp2
    refine ⟨by simp, .inl ⟨_, _, rfl, run_takeDeferred hK, ?_⟩⟩
    exact ⟨_, results_tmp2 rfl _ _ _, v, rfl, ownsRow_putObj hrow _ hK rfl, hB.trans (belowK_b (w := w) (Nat.le_refl _) W D _ _ (by omega) hK rfl rfl)⟩
  case stop =>
    rintro D c pre W _ _ h _
    exact h.elim
end Go.Proofs.Yteflgljifbcelaa
