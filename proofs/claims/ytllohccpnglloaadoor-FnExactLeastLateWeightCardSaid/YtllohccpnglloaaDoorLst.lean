/- The list of a set: the program's. -/
import Derived.Test.YtllohccpnglloaaDoorOnc
import Derived.Test.YtllohccpnglloaaDoorAppW
import Derived.Test.YtllohccpnglloaaDoorEndsO
namespace Go.Proofs.YtllohccpnglloaaDoor
open Go.RowKit Go.Shelf
attribute [local go_sem] Oper.semAt_some
theorem TzTab.belowB {w w' : World} {B : Nat} (h : TzTab w) (hb : Below B w w') (hg : 1 < B) : TzTab w' := by
  obtain ⟨cs, t, fr, h1, h2⟩ := h
  exact ⟨cs, t, fr, (hb.block _ hg).trans h1, h2⟩
theorem TzTab.lt {w : World} (h : TzTab w) : 1 < w.heap.size := by
  obtain ⟨cs, t, fr, h1, h2⟩ := h
  exact (Array.getElem?_eq_some_iff.1 h1).1
section
variable (B0 Bs s cc : Nat) (A : Option Addr) (w : World) (hs : s < 256) (hB : Boxed w Bs 52 (.int .u64 (s : Int))) (hT : TzTab w) (hgB : 1 < B0) (hown : w.ownsRow B0 3 1 (.slice A 0 cc) 0 []) (hB0 : B0 ≤ w.heap.size)
include hs hB hT hgB hown hB0
set_option maxRecDepth 100000 in
set_option maxHeartbeats 4000000 in
theorem appendSeq_any : Calls Tryd.prog 58 #[.slice A 0 cc, .func (.func 49) #[] #[.pointer (some ⟨Bs, 0, none⟩)]] w fun e w' => ∃ v, e = .returned v ∧ w'.ownsRow B0 3 1 v (memB s).length (ic (natI (memB s))) ∧ Below B0 w w' := by
  obtain ⟨i0, hi, hz0, hz1, hz2⟩ := info_parts infoI
  have hlB := hB.lt
  have bx := Boxed.new w 24 (.slice A 0 cc)
  have hB1 : Boxed (w.alloc (.cells #[.slice A 0 cc] 24)) Bs 52 (.int .u64 (s : Int)) := hB.alloc _
  have hr0 : (w.alloc (.cells #[.slice A 0 cc] 24)).ownsRow B0 3 1 (.slice A 0 cc) 0 [] := hown.alloc _
  have hb0 : Below B0 w (w.alloc (.cells #[.slice A 0 cc] 24)) := (Below.refl _ _).alloc hB0 _
  have hz : (w.alloc (.cells #[.slice A 0 cc] 24)).heap.size = w.heap.size + 1 := by simp
  have H0 := Lib.hid (And.intro bx (And.intro hB1 (And.intro hr0 hb0)))
  have HT := Lib.hid hT
  have hml := memB_len s
  clear bx hB1 hr0 hb0 hB hT hown
  refine (callsIn_wide (n := 6)).1 ?_
  refine callsIn_of_wp_marks Tryd.func58 rfl trivial ?_ rfl
  simp only [Tryd.ntmps58, List.size_toArray, List.length_cons, List.length_nil, Nat.reduceAdd, Nat.reduceSub, Array.replicate_succ, Array.replicate_zero, List.push_toArray, List.append_toArray, List.nil_append, List.cons_append]
  gi_wp2
  generalize w.alloc (.cells #[.slice A 0 cc] 24) = w1 at *
  obtain ⟨bx, hB1, hr0, hb0⟩ := H0.out
  refine wpIn_rangeFunc_ownG (F := Fence.wide) rfl (by omega) (gf := 49) (lb := #[.pointer (some ⟨Bs, 0, none⟩)]) rfl trivial (enters_of Tryd.func49 (by kernel_rfl) rfl)
    (members_stops 5 (by omega) Bs s hs w1 (by omega) hB1 (HT.out.belowB hb0 hgB))
    (fun h k t => k (h t)) (fun W l' o o' hl ho hc _ => KeepsTz.put ho hc) (Below.refl _ _) (fun _ => rfl)
    (fun (pre : List (Mb s)) W => (∃ v, Boxed W w.heap.size 24 v ∧ W.ownsRow B0 3 1 v pre.length (ic (natI (vals pre))) ∧ True) ∧ Below B0 w W)
    (fun _ _ _ => False)
    (OwnFrom.and (Own.from (holdsRow_own B0 w.heap.size 24 3 1 (fun pre : List (Mb s) => pre.length) (fun pre => ic (natI (vals pre))) (fun _ _ => True)) _) (ownFrom_below hB0 (by omega)))
    (fun _ _ _ _ _ h _ _ => h)
    ⟨⟨_, bx, hr0, trivial⟩, hb0⟩
    (fun x => { tmps := #[.slice A 0 cc, .func (.func 49) #[] #[.pointer (some ⟨Bs, 0, none⟩)], .pointer (some ⟨w.heap.size, 0, none⟩), undef, .slice none 0 0, .int .i64 (x.1 : Int), .func (.func 49) #[] #[.pointer (some ⟨Bs, 0, none⟩)], .int .i64 (x.1 : Int), undef, undef, undef, undef, undef], defers := [] }) ?assign ?body ?done ?stop
  case assign =>
    intro l' x W K hK
    unfold encM
    gi_wp2
    exact hK
  case body =>
    rintro l' pre ⟨x, hx⟩ W ⟨⟨v, hv, hrow, _⟩, hb⟩ hl
    have hc := hv.cell
    have hsz := hb.size
    have HV : Hid (ic (natI (vals (pre ++ [(⟨x, hx⟩ : Mb s)]))) = ic (natI (vals pre)) ++ [.int .i64 (x : Int)]) := by
      show _ = _
      rw [vals_snoc]; unfold natI ic; simp
    have hlen : (pre ++ [(⟨x, hx⟩ : Mb s)]).length = pre.length + 1 := by simp
    have HL := Lib.hid hlen
    clear hlen
    gi_wp2_with (gi_at_builtin; refine wpListIn_append_own _ rfl _ _ 24 rfl B0 3 i0 (.int .i64 0) 1 8 Tryd.underlying24 hi hz0 hz1 hz2 rfl (by decide) _ _ _ rfl (hrow.alloc _) ⟨W.heap.size, 0, none⟩ 1 1 [.int .i64 (x : Int)] rfl rfl (cell_one_new _ _ _) (by intro u hu; simp at hu; subst hu; rfl) (by unfold maxLen; omega) (by omega) (by simp; omega) ?_; intro v' w2 hown' hgrow _; obtain ⟨g', cap', rfl⟩ := ownsRow_succ hown'; obtain ⟨hv1, hv2, hr2, hk2, hb2⟩ := hv.appended (by decide) hrow (by omega) hB0 hown' hgrow; have hc1 := hv1.cell; have hf1 := hv1.frozen)
    have hbw := hb.trans hb2
    exact ⟨hk2.from _, fun _ => HT.out.belowB hbw hgB, ⟨⟨_, hv2, by rw [HL.out, HV.out]; exact hr2⟩, hbw⟩⟩
  case done =>
    rintro D ys W hD hys ⟨⟨v, hv, hrow, _⟩, hb⟩ hK
    have hc := hv.cell
    have hyl : ys.length = (memB s).length := by rw [← hys, vals_len]
    rw [hys, hyl] at hrow
    have HROW := Lib.hid hrow
    clear hrow hyl hys
    gi_wp2
    refine ⟨by simp, .inl ⟨_, _, rfl, run_takeDeferred hK, ?_⟩⟩
    exact ⟨_, results_tmp rfl _ _ _, v, rfl, ownsRow_putObj HROW.out _ hK rfl, hb.trans (belowK_b (w := w1) (by omega) W D _ _ (by omega) hK rfl rfl)⟩
  case stop =>
    rintro D cd pre W _ _ h _
    exact h.elim
end
theorem make_cap (n : Nat) (hn : n ≤ 8) (w : World) : (Instr.makeSlice 24 (.int .i64 0) (.int .i64 (n : Int))).run Tryd.prog w = .ok (.slice (some ⟨w.heap.size, 0, none⟩) 0 n) (w.alloc (.cells (madeCells #[.int .i64 0] n) 3)) := by
  obtain ⟨i0, hi, hz0, hz1, hz2⟩ := info_parts infoI
  have h := run_make (P := Tryd.prog) w 24 3 i0 (.int .i64 0) Tryd.underlying24 hi hz0 .i64 .i64 0 (n : Int) (by omega) (by omega) (by rw [hz2]; omega) (by omega)
  rw [hz1] at h
  simp at h
  exact h
theorem lst_a (w : World) (s n : Nat) (hs : s < 256) (hn : n ≤ 8) (hT : TzTab w) :
    Calls Tryd.prog 58 #[.slice (some ⟨w.heap.size, 0, none⟩) 0 n, .func (.func 49) #[] #[.pointer (some ⟨w.heap.size + 1, 0, none⟩)]] (((w.alloc (.cells (madeCells #[.int .i64 0] n) 3)).alloc (.cells #[.int .u64 (s : Int)] 52)).drew) fun e w' => ∃ v, e = .returned v ∧ w'.ownsRow w.heap.size 3 1 v (memB s).length (ic (natI (memB s))) ∧ Below w.heap.size w w' := by
  have hb : Below w.heap.size w (((w.alloc (.cells (madeCells #[.int .i64 0] n) 3)).alloc (.cells #[.int .u64 (s : Int)] 52)).drew) := (((Below.refl _ w).alloc (Nat.le_refl _) _).alloc (by simp) _).drew
  have b1 : Boxed (((w.alloc (.cells (madeCells #[.int .i64 0] n) 3)).alloc (.cells #[.int .u64 (s : Int)] 52)).drew) (w.heap.size + 1) 52 (.int .u64 (s : Int)) := by
    have h := Boxed.new (w.alloc (.cells (madeCells #[.int .i64 0] n) 3)) 52 (.int .u64 (s : Int))
    rw [World.size_alloc] at h
    exact h
  have b2 : BlockIs (((w.alloc (.cells (madeCells #[.int .i64 0] n) 3)).alloc (.cells #[.int .u64 (s : Int)] 52)).drew) w.heap.size 3 (madeCells #[.int .i64 0] n) := ((BlockIs.new w 3 (madeCells #[.int .i64 0] n)).below ((Below.refl _ _).alloc (Nat.le_refl _) (.cells #[.int .u64 (s : Int)] 52))).drew
  have ho : (((w.alloc (.cells (madeCells #[.int .i64 0] n) 3)).alloc (.cells #[.int .u64 (s : Int)] 52)).drew).ownsRow w.heap.size 3 1 (.slice (some ⟨w.heap.size, 0, none⟩) 0 n) 0 [] := by
    have h := b2.own (base := w.heap.size) (n := 0) (c := n) (size := 1) (Nat.le_refl _) (by rw [size_madeCells]; omega) (by omega) (by unfold maxLen; omega) (by omega)
    simpa using h
  refine (appendSeq_any w.heap.size (w.heap.size + 1) s n _ _ hs b1 (hT.below hb) hT.lt ho hb.size).mono ?_
  rintro e w' ⟨v, rfl, h1, h2⟩
  exact ⟨v, rfl, h1, hb.trans h2⟩
theorem lst_b (w : World) (s n : Nat) (hs : s < 256) (hn : n ≤ 8) (hT : TzTab w) :
    Calls Tryd.prog 58 #[.slice (some ⟨w.heap.size + 1, 0, none⟩) 0 n, .func (.func 49) #[] #[.pointer (some ⟨w.heap.size, 0, none⟩)]] (((w.alloc (.cells #[.int .u64 (s : Int)] 52)).alloc (.cells (madeCells #[.int .i64 0] n) 3)).drew) fun e w' => ∃ v, e = .returned v ∧ w'.ownsRow w.heap.size 3 1 v (memB s).length (ic (natI (memB s))) ∧ Below w.heap.size w w' := by
  have hb : Below w.heap.size w (((w.alloc (.cells #[.int .u64 (s : Int)] 52)).alloc (.cells (madeCells #[.int .i64 0] n) 3)).drew) := (((Below.refl _ w).alloc (Nat.le_refl _) _).alloc (by simp) _).drew
  have b1 : Boxed (((w.alloc (.cells #[.int .u64 (s : Int)] 52)).alloc (.cells (madeCells #[.int .i64 0] n) 3)).drew) w.heap.size 52 (.int .u64 (s : Int)) := (Boxed.new w 52 (.int .u64 (s : Int))).alloc (.cells (madeCells #[.int .i64 0] n) 3)
  have b2 : BlockIs (((w.alloc (.cells #[.int .u64 (s : Int)] 52)).alloc (.cells (madeCells #[.int .i64 0] n) 3)).drew) (w.heap.size + 1) 3 (madeCells #[.int .i64 0] n) := by
    have h := BlockIs.new (w.alloc (.cells #[.int .u64 (s : Int)] 52)) 3 (madeCells #[.int .i64 0] n)
    rw [World.size_alloc] at h
    exact h.drew
  have ho : (((w.alloc (.cells #[.int .u64 (s : Int)] 52)).alloc (.cells (madeCells #[.int .i64 0] n) 3)).drew).ownsRow w.heap.size 3 1 (.slice (some ⟨w.heap.size + 1, 0, none⟩) 0 n) 0 [] := by
    have h := b2.own (base := w.heap.size) (n := 0) (c := n) (size := 1) (by omega) (by rw [size_madeCells]; omega) (by omega) (by unfold maxLen; omega) (by omega)
    simpa using h
  refine (appendSeq_any w.heap.size w.heap.size s n _ _ hs b1 (hT.below hb) hT.lt ho hb.size).mono ?_
  rintro e w' ⟨v, rfl, h1, h2⟩
  exact ⟨v, rfl, h1, hb.trans h2⟩
set_option maxRecDepth 100000 in
set_option maxHeartbeats 4000000 in
theorem list_any (s : Nat) (w : World) (hs : s < 256) (hT : TzTab w) : Calls Tryd.prog 46 #[.int .u64 (s : Int)] w fun e w' => ∃ v, e = .returned v ∧ w'.ownsRow w.heap.size 3 1 v (memB s).length (ic (natI (memB s))) ∧ Below w.heap.size w w' := by
  have HA := Lib.hid (fun n hn => lst_a w s n hs hn hT)
  have HB := Lib.hid (fun n hn => lst_b w s n hs hn hT)
  clear hT
  go_enter Tryd.func46, Tryd.ntmps46
  go_wp2
  go_region_with (first
    | (go_at_call 59; refine (size_any s hs _).mono ?_; rintro e _ ⟨n, rfl, hn, rfl⟩; have hmk := make_cap n hn)
    | (go_at_call 37; refine ((callsIn_wide (n := 6)).1 (members_in 6 _ _)).mono ?_; rintro e w' ⟨rfl, rfl⟩)
    | (go_at_call 58; (first | (with_reducible refine (HA.out n hn).mono ?_) | (with_reducible refine (HB.out n hn).mono ?_)); rintro e w' ⟨v, rfl, hown, hb⟩))
  all_goals
    go_wp2
    go_ret
    exact ⟨v, rfl, hown, hb⟩
end Go.Proofs.YtllohccpnglloaaDoor
