/- Texts joined: Onc Lst Srf Ear SetL SwapB OwnM RegInvG Due Dud Sched ValF ValS ValJ Eal. -/
import Derived.Test.YtnkoncplfedffaaDoorShelf
import Derived.StillTailTactics
import Derived.Laws.Cover3
import Derived.RegionTactic
import Derived.BigRegion
import Derived.IntWalk
import Derived.Test.YtnkoncplfedffaaDoorMga3
namespace Go.Proofs.YtnkoncplfedffaaDoor
open Go.RowKit
def o1 (s : Int) : Int := IntKind.u64.wrap (bits BinOp.and IntKind.u64 (s / 2) 6148914691236517205 + bits BinOp.and IntKind.u64 s 6148914691236517205)
def o2 (x : Int) : Int := IntKind.u64.wrap (bits BinOp.and IntKind.u64 (x / 4) 3689348814741910323 + bits BinOp.and IntKind.u64 x 3689348814741910323)
def o3 (x : Int) : Int := bits BinOp.and IntKind.u64 (IntKind.u64.wrap (x / 16 + x)) 1085102592571150095
def o4 (x : Int) : Int := IntKind.u64.wrap (x + x / 256)
def o5 (x : Int) : Int := IntKind.u64.wrap (x + x / 65536)
def o6 (x : Int) : Int := IntKind.u64.wrap (x + x / 4294967296)
def onesI (s : Int) : Int := bits BinOp.and IntKind.i64 (wrap64 (o6 (o5 (o4 (o3 (o2 (o1 s))))))) 127
theorem ones_facts : ∀ s : Nat, s < 256 → 0 ≤ onesI (s : Int) ∧ onesI (s : Int) ≤ 8 := by decide +kernel
set_option maxRecDepth 100000 in
theorem ones64_any (s : Nat) (hs : s < 256) (w : World) :
    Calls Tryd.prog 120 #[.int .u64 (s : Int)] w fun e w' => ∃ n : Nat, e = .returned (.int .i64 (n : Int)) ∧ n ≤ 8 ∧ w = w' := by
  go_enter Tryd.func120, Tryd.ntmps120
  go_wp2
  go_ret
  obtain ⟨h0, h1⟩ := ones_facts s hs
  exact ⟨(onesI (s : Int)).toNat, by rw [Int.toNat_of_nonneg h0]; rfl, by omega, rfl⟩
theorem ones_any (s : Nat) (hs : s < 256) (w : World) :
    Calls Tryd.prog 102 #[.int .u64 (s : Int)] w fun e w' => ∃ n : Nat, e = .returned (.int .i64 (n : Int)) ∧ n ≤ 8 ∧ w = w' := by
  have H := Lib.hid (ones64_any s hs w)
  go_enter Tryd.func102, Tryd.ntmps102
  go_wp2_with fail
  refine H.out.mono ?_
  rintro e _ ⟨n, rfl, hn, rfl⟩
  go_wp2
  go_ret
  exact ⟨n, rfl, hn, rfl⟩
theorem size_any (s : Nat) (hs : s < 256) (w : World) :
    Calls Tryd.prog 83 #[.int .u64 (s : Int)] w fun e w' => ∃ n : Nat, e = .returned (.int .i64 (n : Int)) ∧ n ≤ 8 ∧ w = w' := by
  have H := Lib.hid (ones_any s hs w)
  go_enter Tryd.func83, Tryd.ntmps83
  go_wp2_with fail
  refine H.out.mono ?_
  rintro e _ ⟨n, rfl, hn, rfl⟩
  go_wp2
  go_ret
  exact ⟨n, rfl, hn, rfl⟩
end Go.Proofs.YtnkoncplfedffaaDoor

namespace Go.Proofs.YtnkoncplfedffaaDoor
open Go.RowKit Go.Shelf
attribute [local go_sem] Oper.semAt_some
theorem TzTab.belowB {w w' : World} {B : Nat} (h : TzTab w) (hb : Below B w w') (hg : 1 < B) : TzTab w' := by
  obtain ⟨cs, t, fr, h1, h2⟩ := h
  exact ⟨cs, t, fr, (hb.block _ hg).trans h1, h2⟩
theorem TzTab.lt {w : World} (h : TzTab w) : 1 < w.heap.size := by
  obtain ⟨cs, t, fr, h1, h2⟩ := h
  exact (Array.getElem?_eq_some_iff.1 h1).1
section
variable (B0 Bs s cc : Nat) (A : Option Addr) (w : World) (hs : s < 256) (hB : Boxed w Bs 58 (.int .u64 (s : Int))) (hT : TzTab w) (hgB : 1 < B0) (hown : w.ownsRow B0 3 1 (.slice A 0 cc) 0 []) (hB0 : B0 ≤ w.heap.size)
include hs hB hT hgB hown hB0
set_option maxRecDepth 100000 in
set_option maxHeartbeats 4000000 in
theorem appendSeq_any : Calls Tryd.prog 82 #[.slice A 0 cc, .func (.func 79) #[] #[.pointer (some ⟨Bs, 0, none⟩)]] w fun e w' => ∃ v, e = .returned v ∧ w'.ownsRow B0 3 1 v (memB s).length (ic (natI (memB s))) ∧ Below B0 w w' := by
  obtain ⟨i0, hi, hz0, hz1, hz2⟩ := info_parts infoI
  have hlB := hB.lt
  have bx := Boxed.new w 30 (.slice A 0 cc)
  have hB1 : Boxed (w.alloc (.cells #[.slice A 0 cc] 30)) Bs 58 (.int .u64 (s : Int)) := hB.alloc _
  have hr0 : (w.alloc (.cells #[.slice A 0 cc] 30)).ownsRow B0 3 1 (.slice A 0 cc) 0 [] := hown.alloc _
  have hb0 : Below B0 w (w.alloc (.cells #[.slice A 0 cc] 30)) := (Below.refl _ _).alloc hB0 _
  have hz : (w.alloc (.cells #[.slice A 0 cc] 30)).heap.size = w.heap.size + 1 := by simp
  have H0 := Lib.hid (And.intro bx (And.intro hB1 (And.intro hr0 hb0)))
  have HT := Lib.hid hT
  have hml := memB_len s
  clear bx hB1 hr0 hb0 hB hT hown
  refine (callsIn_wide (n := 6)).1 ?_
  refine callsIn_of_wp_marks Tryd.func82 rfl trivial ?_ rfl
  simp only [Tryd.ntmps82, List.size_toArray, List.length_cons, List.length_nil, Nat.reduceAdd, Nat.reduceSub, Array.replicate_succ, Array.replicate_zero, List.push_toArray, List.append_toArray, List.nil_append, List.cons_append]
  gi_wp2
  generalize w.alloc (.cells #[.slice A 0 cc] 30) = w1 at *
  obtain ⟨bx, hB1, hr0, hb0⟩ := H0.out
  refine wpIn_rangeFunc_ownG (F := Fence.wide) rfl (by omega) (gf := 79) (lb := #[.pointer (some ⟨Bs, 0, none⟩)]) rfl trivial (enters_of Tryd.func79 (by kernel_rfl) rfl)
    (members_stops 5 (by omega) Bs s hs w1 (by omega) hB1 (HT.out.belowB hb0 hgB))
    (fun h k t => k (h t)) (fun W l' o o' hl ho hc _ => KeepsTz.put ho hc) (Below.refl _ _) (fun _ => rfl)
    (fun (pre : List (Mb s)) W => (∃ v, Boxed W w.heap.size 30 v ∧ W.ownsRow B0 3 1 v pre.length (ic (natI (vals pre))) ∧ True) ∧ Below B0 w W)
    (fun _ _ _ => False)
    (OwnFrom.and (Own.from (holdsRow_own B0 w.heap.size 30 3 1 (fun pre : List (Mb s) => pre.length) (fun pre => ic (natI (vals pre))) (fun _ _ => True)) _) (ownFrom_below hB0 (by omega)))
    (fun _ _ _ _ _ h _ _ => h)
    ⟨⟨_, bx, hr0, trivial⟩, hb0⟩
    (fun x => { tmps := #[.slice A 0 cc, .func (.func 79) #[] #[.pointer (some ⟨Bs, 0, none⟩)], .pointer (some ⟨w.heap.size, 0, none⟩), undef, .slice none 0 0, .int .i64 (x.1 : Int), .func (.func 79) #[] #[.pointer (some ⟨Bs, 0, none⟩)], .int .i64 (x.1 : Int), undef, undef, undef, undef, undef], defers := [] }) ?assign ?body ?done ?stop
  case assign =>
    intro l' x W K hK
    unfold encM
    gi_wp2
    exact hK
  case body =>
    rintro l' pre ⟨x, hx⟩ W ⟨⟨v, hv, hrow, _⟩, hb⟩ hl
    have hc := hv.cell
    have hsz := hb.size
    have HV : Hid (ic (natI (vals (pre ++ [(⟨x, hx⟩ : Mb s)]))) = ic (natI (vals pre)) ++ [.int .i64 (x : Int)]) := by
      show _ = _
      rw [vals_snoc]; unfold natI ic; simp
    have hlen : (pre ++ [(⟨x, hx⟩ : Mb s)]).length = pre.length + 1 := by simp
    have HL := Lib.hid hlen
    clear hlen
    gi_wp2_with (gi_at_builtin; refine wpListIn_append_own _ rfl _ _ 30 rfl B0 3 i0 (.int .i64 0) 1 8 Tryd.underlying30 hi hz0 hz1 hz2 rfl (by decide) _ _ _ rfl (hrow.alloc _) ⟨W.heap.size, 0, none⟩ 1 1 [.int .i64 (x : Int)] rfl rfl (cell_one_new _ _ _) (by intro u hu; simp at hu; subst hu; rfl) (by unfold maxLen; omega) (by omega) (by simp; omega) ?_; intro v' w2 hown' hgrow _; obtain ⟨g', cap', rfl⟩ := ownsRow_succ hown'; obtain ⟨hv1, hv2, hr2, hk2, hb2⟩ := hv.appended (by decide) hrow (by omega) hB0 hown' hgrow; have hc1 := hv1.cell; have hf1 := hv1.frozen)
    have hbw := hb.trans hb2
    exact ⟨hk2.from _, fun _ => HT.out.belowB hbw hgB, ⟨⟨_, hv2, by rw [HL.out, HV.out]; exact hr2⟩, hbw⟩⟩
  case done =>
    rintro D ys W hD hys ⟨⟨v, hv, hrow, _⟩, hb⟩ hK
    have hc := hv.cell
    have hyl : ys.length = (memB s).length := by rw [← hys, vals_len]
    rw [hys, hyl] at hrow
    have HROW := Lib.hid hrow
    clear hrow hyl hys
    gi_wp2
    refine ⟨by simp, .inl ⟨_, _, rfl, run_takeDeferred hK, ?_⟩⟩
    exact ⟨_, results_tmp rfl _ _ _, v, rfl, ownsRow_putObj HROW.out _ hK rfl, hb.trans (belowK_b (w := w1) (by omega) W D _ _ (by omega) hK rfl rfl)⟩
  case stop =>
    rintro D cd pre W _ _ h _
    exact h.elim
end
theorem make_cap (n : Nat) (hn : n ≤ 8) (w : World) : (Instr.makeSlice 30 (.int .i64 0) (.int .i64 (n : Int))).run Tryd.prog w = .ok (.slice (some ⟨w.heap.size, 0, none⟩) 0 n) (w.alloc (.cells (madeCells #[.int .i64 0] n) 3)) := by
  obtain ⟨i0, hi, hz0, hz1, hz2⟩ := info_parts infoI
  have h := run_make (P := Tryd.prog) w 30 3 i0 (.int .i64 0) Tryd.underlying30 hi hz0 .i64 .i64 0 (n : Int) (by omega) (by omega) (by rw [hz2]; omega) (by omega)
  rw [hz1] at h
  simp at h
  exact h
theorem lst_a (w : World) (s n : Nat) (hs : s < 256) (hn : n ≤ 8) (hT : TzTab w) :
    Calls Tryd.prog 82 #[.slice (some ⟨w.heap.size, 0, none⟩) 0 n, .func (.func 79) #[] #[.pointer (some ⟨w.heap.size + 1, 0, none⟩)]] (((w.alloc (.cells (madeCells #[.int .i64 0] n) 3)).alloc (.cells #[.int .u64 (s : Int)] 58)).drew) fun e w' => ∃ v, e = .returned v ∧ w'.ownsRow w.heap.size 3 1 v (memB s).length (ic (natI (memB s))) ∧ Below w.heap.size w w' := by
  have hb : Below w.heap.size w (((w.alloc (.cells (madeCells #[.int .i64 0] n) 3)).alloc (.cells #[.int .u64 (s : Int)] 58)).drew) := (((Below.refl _ w).alloc (Nat.le_refl _) _).alloc (by simp) _).drew
  have b1 : Boxed (((w.alloc (.cells (madeCells #[.int .i64 0] n) 3)).alloc (.cells #[.int .u64 (s : Int)] 58)).drew) (w.heap.size + 1) 58 (.int .u64 (s : Int)) := by
    have h := Boxed.new (w.alloc (.cells (madeCells #[.int .i64 0] n) 3)) 58 (.int .u64 (s : Int))
    rw [World.size_alloc] at h
    exact h
  have b2 : BlockIs (((w.alloc (.cells (madeCells #[.int .i64 0] n) 3)).alloc (.cells #[.int .u64 (s : Int)] 58)).drew) w.heap.size 3 (madeCells #[.int .i64 0] n) := ((BlockIs.new w 3 (madeCells #[.int .i64 0] n)).below ((Below.refl _ _).alloc (Nat.le_refl _) (.cells #[.int .u64 (s : Int)] 58))).drew
  have ho : (((w.alloc (.cells (madeCells #[.int .i64 0] n) 3)).alloc (.cells #[.int .u64 (s : Int)] 58)).drew).ownsRow w.heap.size 3 1 (.slice (some ⟨w.heap.size, 0, none⟩) 0 n) 0 [] := by
    have h := b2.own (base := w.heap.size) (n := 0) (c := n) (size := 1) (Nat.le_refl _) (by rw [size_madeCells]; omega) (by omega) (by unfold maxLen; omega) (by omega)
    simpa using h
  refine (appendSeq_any w.heap.size (w.heap.size + 1) s n _ _ hs b1 (hT.below hb) hT.lt ho hb.size).mono ?_
  rintro e w' ⟨v, rfl, h1, h2⟩
  exact ⟨v, rfl, h1, hb.trans h2⟩
theorem lst_b (w : World) (s n : Nat) (hs : s < 256) (hn : n ≤ 8) (hT : TzTab w) :
    Calls Tryd.prog 82 #[.slice (some ⟨w.heap.size + 1, 0, none⟩) 0 n, .func (.func 79) #[] #[.pointer (some ⟨w.heap.size, 0, none⟩)]] (((w.alloc (.cells #[.int .u64 (s : Int)] 58)).alloc (.cells (madeCells #[.int .i64 0] n) 3)).drew) fun e w' => ∃ v, e = .returned v ∧ w'.ownsRow w.heap.size 3 1 v (memB s).length (ic (natI (memB s))) ∧ Below w.heap.size w w' := by
  have hb : Below w.heap.size w (((w.alloc (.cells #[.int .u64 (s : Int)] 58)).alloc (.cells (madeCells #[.int .i64 0] n) 3)).drew) := (((Below.refl _ w).alloc (Nat.le_refl _) _).alloc (by simp) _).drew
  have b1 : Boxed (((w.alloc (.cells #[.int .u64 (s : Int)] 58)).alloc (.cells (madeCells #[.int .i64 0] n) 3)).drew) w.heap.size 58 (.int .u64 (s : Int)) := (Boxed.new w 58 (.int .u64 (s : Int))).alloc (.cells (madeCells #[.int .i64 0] n) 3)
  have b2 : BlockIs (((w.alloc (.cells #[.int .u64 (s : Int)] 58)).alloc (.cells (madeCells #[.int .i64 0] n) 3)).drew) (w.heap.size + 1) 3 (madeCells #[.int .i64 0] n) := by
    have h := BlockIs.new (w.alloc (.cells #[.int .u64 (s : Int)] 58)) 3 (madeCells #[.int .i64 0] n)
    rw [World.size_alloc] at h
    exact h.drew
  have ho : (((w.alloc (.cells #[.int .u64 (s : Int)] 58)).alloc (.cells (madeCells #[.int .i64 0] n) 3)).drew).ownsRow w.heap.size 3 1 (.slice (some ⟨w.heap.size + 1, 0, none⟩) 0 n) 0 [] := by
    have h := b2.own (base := w.heap.size) (n := 0) (c := n) (size := 1) (by omega) (by rw [size_madeCells]; omega) (by omega) (by unfold maxLen; omega) (by omega)
    simpa using h
  refine (appendSeq_any w.heap.size w.heap.size s n _ _ hs b1 (hT.below hb) hT.lt ho hb.size).mono ?_
  rintro e w' ⟨v, rfl, h1, h2⟩
  exact ⟨v, rfl, h1, hb.trans h2⟩
set_option maxRecDepth 100000 in
set_option maxHeartbeats 4000000 in
theorem list_any (s : Nat) (w : World) (hs : s < 256) (hT : TzTab w) : Calls Tryd.prog 60 #[.int .u64 (s : Int)] w fun e w' => ∃ v, e = .returned v ∧ w'.ownsRow w.heap.size 3 1 v (memB s).length (ic (natI (memB s))) ∧ Below w.heap.size w w' := by
  have HA := Lib.hid (fun n hn => lst_a w s n hs hn hT)
  have HB := Lib.hid (fun n hn => lst_b w s n hs hn hT)
  clear hT
  go_enter Tryd.func60, Tryd.ntmps60
  go_wp2
  go_region_with (first
    | (go_at_call 83; refine (size_any s hs _).mono ?_; rintro e _ ⟨n, rfl, hn, rfl⟩; have hmk := make_cap n hn)
    | (go_at_call 56; refine ((callsIn_wide (n := 6)).1 (members_in 6 _ _)).mono ?_; rintro e w' ⟨rfl, rfl⟩)
    | (go_at_call 82; (first | (with_reducible refine (HA.out n hn).mono ?_) | (with_reducible refine (HB.out n hn).mono ?_)); rintro e w' ⟨v, rfl, hown, hb⟩))
  all_goals
    go_wp2
    go_ret
    exact ⟨v, rfl, hown, hb⟩
end Go.Proofs.YtnkoncplfedffaaDoor

namespace Go.Proofs.YtnkoncplfedffaaDoor
open Go.RowKit
theorem insSort0 (B : Option Addr) (d : Nat) (fv : Value) (w : World) :
    Calls Tryd.prog 103 #[.slice B 0 d, .int .i64 0, .int .i64 0, fv] w fun e w' => e = .returned (.tuple #[]) ∧ w = w' := by
  go_enter Tryd.func103, Tryd.ntmps103
  go_wp2
  refine wp_loop_rounds 1 ?_
  rw [rounds_succ]
  go_wp2
  go_end0
  exact ⟨rfl, rfl⟩
theorem pdq_any (P : World → Prop) (B : Option Addr) (n d : Nat) (L : Int) (fv : Value) (w : World) (hn : n ≤ 12)
    (hI : Calls Tryd.prog 103 #[.slice B n d, .int .i64 0, .int .i64 (n : Int), fv] w fun e w' => e = .returned (.tuple #[]) ∧ P w') :
    Calls Tryd.prog 84 #[.slice B n d, .int .i64 0, .int .i64 (n : Int), .int .i64 L, fv] w fun e w' => e = .returned (.tuple #[]) ∧ P w' := by
  have HI := Lib.hid hI
  clear hI
  go_enter Tryd.func84, Tryd.ntmps84
  go_wp2
  refine wp_loop_rounds 1 ?_
  rw [rounds_succ]
  go_wp2_with fail
  refine HI.out.mono ?_
  rintro e w' ⟨rfl, hp⟩
  have HP := Lib.hid hp
  clear hp
  go_wp2
  refine bodyPost_ret (results_none rfl _ _ _) rfl ?_
  exact ⟨rfl, HP.out⟩
theorem sortFunc_any (P : World → Prop) (B : Option Addr) (n d : Nat) (fv : Value) (w : World) (hn : n ≤ 12)
    (hI : Calls Tryd.prog 103 #[.slice B n d, .int .i64 0, .int .i64 (n : Int), fv] w fun e w' => e = .returned (.tuple #[]) ∧ P w') :
    Calls Tryd.prog 61 #[.slice B n d, fv] w fun e w' => e = .returned (.tuple #[]) ∧ P w' := by
  have HI : Hid (∀ L : Int, _) := fun L => pdq_any P B n d L fv w hn hI
  clear hI
  go_enter Tryd.func61, Tryd.ntmps61
  go_wp2_with fail
  refine (Tryd.bits_Len (n : Int) w (by omega) (by omega)).mono ?_
  rintro e w' ⟨rfl, rfl⟩
  go_wp2_with fail
  refine (HI.out _).mono ?_
  rintro e w' ⟨rfl, hp⟩
  have HP := Lib.hid hp
  clear hp
  go_wp2
  go_end0
  exact ⟨rfl, HP.out⟩
section
variable {js : List J} {A : Option Addr} {c : Nat} (hok : ∀ j ∈ js, okJ j = true) (h8 : js.length ≤ 8)
include hok h8
theorem sortD_own (B0 : Nat) (w : World) (hr : Row w A (jc js)) (B : Option Addr) (d : Nat) (q : List Nat) (hown : w.ownsRow B0 3 1 (.slice B q.length d) q.length (ic (natI q))) (hq : ∀ x ∈ q, x < js.length) (hd : q.Nodup) (hl : q.length ≤ 12) (hA : 0 < js.length → ∀ a, A = some a → a.block < B0) :
    Calls Tryd.prog 61 #[.slice B q.length d, .func (.func FCD) #[.slice A js.length c] #[]] w fun e w' => e = .returned (.tuple #[]) ∧ (w'.ownsRow B0 3 1 (.slice B q.length d) q.length (ic (natI (dueL js q))) ∧ Below B0 w w') := by
  refine sortFunc_any (fun w' => w'.ownsRow B0 3 1 (.slice B q.length d) q.length (ic (natI (dueL js q))) ∧ Below B0 w w') B q.length d _ w hl ?_
  by_cases h0 : q.length = 0
  · have hq0 : q = [] := List.eq_nil_of_length_eq_zero h0
    subst hq0
    refine (insSort0 B d _ w).mono ?_
    rintro e w' ⟨rfl, rfl⟩
    exact ⟨rfl, hown, Below.refl _ _⟩
  · obtain ⟨g, cur, rfl, hg, hB, h1, h2, h3, h4⟩ := own_block hown (by omega)
    refine (insSortD_any hok h8 w hr g d cur.size q hq hd hl ⟨cur, hB, rfl, by rw [Nat.mul_one] at h4; exact h4, World.grownBy.refl _ _⟩ (fun hp a ha => by have := hA hp a ha; omega)).mono ?_
    rintro e w' ⟨rfl, cur', hB', hs', ht', hG⟩
    refine ⟨rfl, ?_, ⟨hG.os, hG.tape, hG.output, hG.size, fun k hk => hG.block k (by have := hB.lt; omega) (fun e => by injection e; omega)⟩⟩
    have h := hB'.own (base := B0) (n := q.length) (c := d) (size := 1) hg (by rw [hs']; exact h3) h1 h2 (by rw [hs', h3]; omega)
    rw [Nat.mul_one, ht'] at h
    exact h
end
theorem memB_nodup (s : Nat) : (memB s).Nodup := List.Nodup.sublist List.filter_sublist List.nodup_range
section
variable (A : Option Addr) (c : Nat) (js : List J) (w : World) (hr : Row w A (jc js)) (hok : ∀ j ∈ js, okJ j = true) (h8 : js.length ≤ 8) (s : Nat) (hs : s < 256) (hlt : ∀ k, s.testBit k = true → k < js.length) (hT : TzTab w)
include hr hok h8 hs hlt hT
set_option maxRecDepth 100000 in
theorem dueOrder_any : Calls Tryd.prog 41 #[.slice A js.length c, .int .u64 (s : Int)] w fun e w' => ∃ v, e = .returned v ∧ w'.ownsRow w.heap.size 3 1 v (memB s).length (ic (natI (dueL js (memB s)))) ∧ Below w.heap.size w w' := by
  have HL := Lib.hid (list_any s w hs hT)
  have HSO : Hid (∀ (w1 : World) (B : Option Addr) (d : Nat), Below w.heap.size w w1 → w1.ownsRow w.heap.size 3 1 (.slice B (memB s).length d) (memB s).length (ic (natI (memB s))) → Calls Tryd.prog 61 #[.slice B (memB s).length d, .func (.func FCD) #[.slice A js.length c] #[]] w1 fun e w' => e = .returned (.tuple #[]) ∧ (w'.ownsRow w.heap.size 3 1 (.slice B (memB s).length d) (memB s).length (ic (natI (dueL js (memB s)))) ∧ Below w.heap.size w1 w')) := fun w1 B d hb ho =>
    sortD_own hok h8 w.heap.size w1 (hr.below hb) B d (memB s) ho (fun x hx => hlt x ((memB_mem hs).1 hx)) (memB_nodup s) (by have := memB_len s; omega) (fun hp a ha => by
      obtain ⟨ad, e, hb', _⟩ := hr (by rw [jc_len]; omega)
      rw [ha] at e
      injection e with e
      rw [e]; exact hb')
  clear hr hok hlt hT
  generalize (memB s).length = n at *
  go_enter Tryd.func41, Tryd.ntmps41
  go_wp2_with fail
  refine HL.out.mono ?_
  rintro e w1 ⟨v, rfl, hown, hb1⟩
  obtain ⟨B, d, rfl, _, _⟩ := own_slice hown
  have HC := Lib.hid (HSO.out w1 B d hb1 hown)
  have HB1 := Lib.hid hb1
  clear hown hb1 HSO HL
  go_wp2_with fail
  refine HC.out.mono ?_
  rintro e w2 ⟨rfl, hown2, hb2⟩
  have HX := Lib.hid (And.intro hown2 (HB1.out.trans hb2))
  clear hown2 hb2
  go_wp2
  go_ret
  exact ⟨_, rfl, HX.out.1, HX.out.2⟩
end
end Go.Proofs.YtnkoncplfedffaaDoor

namespace Go.Proofs.YtnkoncplfedffaaDoor
open Go.RowKit
theorem fn_lat (B : Nat) (w : World) : FnIs B w 4 fLat := .inr (.inl ⟨rfl, rfl⟩)
theorem fn_lat_is {B : Nat} {w : World} {fv : Value} (hF : FnIs B w 4 fv) : fv = fLat := by
  rcases hF with ⟨h | h, _⟩ | ⟨_, rfl⟩ | ⟨h, _⟩ | ⟨h, _⟩ | ⟨h, _⟩ | ⟨h, _⟩ | ⟨h, _⟩
  · cases h
  · cases h
  · rfl
  all_goals cases h
section
variable (A : Option Addr) (c : Nat) (js : List J) (w : World) (hr : Row w A (jc js)) (hok : ∀ j ∈ js, okJ j = true) (h8 : js.length ≤ 8) (h0 : ∀ j ∈ js, j.r = 0) (s : Nat) (hs : s < 256) (hlt : ∀ k, s.testBit k = true → k < js.length) (hT : TzTab w)
include hr hok h8 h0 hs hlt hT
set_option maxRecDepth 100000 in
set_option maxHeartbeats 4000000 in
theorem latest_any : Calls Tryd.prog 47 #[.slice A js.length c, .int .u64 (s : Int)] w fun e w' => e = .returned (.int .i64 (latL js (dueL js (memB s)))) ∧ Below w.heap.size w w' := by
  have HM := Lib.hid (measureOf_any 4 w)
  have HDU : Hid (∀ w', Below w.heap.size w w' → _) := fun w' hb => dueOrder_any A c js w' (hr.below hb) hok h8 s hs hlt (hT.below hb)
  have hpm : ∀ x ∈ dueL js (memB s), x < js.length := fun x hx => hlt x ((memB_mem hs).1 ((dueL_perm js (memB s)).mem_iff.1 hx))
  have hpl : (dueL js (memB s)).length = (memB s).length := dueL_len _ _
  have hml := memB_len s
  rw [← hpl] at HDU
  have HLA := Lib.hid (latTo_all js (dueL js (memB s)))
  have HFL : Hid (latL js (dueL js (memB s)) = partV 4 js (dueL js (memB s))) := rfl
  have hp8 : (dueL js (memB s)).length ≤ 8 := by omega
  have HR := Lib.hid hr
  clear hr hT hpl hml hlt hs
  generalize dueL js (memB s) = p at *
  go_enter Tryd.func47, Tryd.ntmps47
  go_wp2_with fail
  refine HM.out.mono ?_
  rintro e w1 ⟨hb1, ⟨ho, _⟩ | ⟨_, fv, rfl, hF⟩⟩
  · cases ho
  obtain rfl := fn_lat_is hF
  clear hF HM
  have hst := store_pair Tryd.prog w1 fLat .nilFunc (.bool false) 92 rfl
  have hbW : Below w1.heap.size w1 (w1.alloc (.cells #[fLat, .bool true] 92)) := (Below.refl _ _).alloc (Nat.le_refl _) _
  have hM := BlockIs.new w1 92 #[fLat, .bool true]
  have H1 := Lib.hid (And.intro hM (hb1.trans (hbW.mono hb1.size)))
  have HC := Lib.hid (HDU.out _ H1.out.2)
  have hbm : w.heap.size ≤ w1.heap.size := hb1.size
  clear hbW hM hb1 HDU
  rw [show isTop 4 = true from rfl]
  go_wp2_with fail
  refine HC.out.mono ?_
  rintro e w2 ⟨v, rfl, hown, hb2⟩
  obtain ⟨B, d, rfl, _, hrow⟩ := own_slice hown
  have HM2 := Lib.hid (H1.out.1.below hb2)
  have HB2 := Lib.hid (H1.out.2.trans (hb2.mono H1.out.2.size))
  have HO2 := Lib.hid hrow
  clear hst hown hrow hb2 H1 HC
  go_wp2
  go_loopw [7, 8, 19] (fun vv nv iv wr => ∃ k : Nat, k ≤ p.length ∧ iv = .int .i64 (k : Int) ∧ vv = .int .i64 (latTo js p k) ∧ nv = .int .i64 (nowTo js p k) ∧ Hid (Below w2.heap.size w2 wr)) (fun _ _ iv _ => p.length - (intOf iv).toNat)
  case atStart => exact ⟨0, Nat.zero_le _, rfl, rfl, rfl, Below.refl _ _⟩
  case round =>
    obtain ⟨k, hk, rfl, rfl, rfl, HB⟩ := hrel
    by_cases hlt : k < p.length
    · have hk0 : (0 : Int) ≤ k := by omega
      have hk1 : (k : Int) < p.length := by omega
      have hxl := hpm _ (List.getElem_mem hlt)
      obtain ⟨bd, hBe, hcx⟩ := (HO2.out.below HB.out).nat hlt
      subst hBe
      have hbw := HB2.out.trans (HB.out.mono HB2.out.size)
      obtain ⟨ad, hA, hadb, c0, c1, c2, c3⟩ := (HR.out.below hbw).job hxl
      subst hA
      have HN := Lib.hid (nowTo_succ hok h0 hpm hlt)
      have HL := Lib.hid (latTo_succ (js := js) hpm hlt)
      have n1 := nowTo_bd hok h0 hpm k (by omega)
      have n2 := nowTo_bd hok h0 hpm (k + 1) (by omega)
      have l1 := latTo_bd hok h0 hpm hp8 k (by omega)
      have hj := hok _ (List.getElem_mem hxl)
      have hjt := okJ_out hj
      have m0 := (HM2.out.below HB.out).cell 0
      have m1 := (HM2.out.below HB.out).cell 1
      simp only [List.getElem?_toArray, List.getElem?_cons_zero, List.getElem?_cons_succ] at m0 m1
      have hx0 : (0 : Int) ≤ p[k] := by omega
      have hx1 : (p[k] : Int) < js.length := by omega
      have HEX : Hid (∀ w', Calls Tryd.prog 68 #[.agg #[fLat, .bool true], .int .i64 (k : Int), .int .i64 (latTo js p k), .agg #[.int .i64 js[p[k]].t, .int .i64 js[p[k]].w, .int .i64 js[p[k]].r, .int .i64 js[p[k]].d], .int .i64 (nowTo js p (k + 1))] w' fun e w'' => e = .returned (.int .i64 (extOf 4 k (latTo js p k) (costOf 4 js[p[k]] (nowTo js p (k + 1))))) ∧ Below w'.heap.size w' w'') := fun w' => extended_any (fn_lat 0 w') (Nat.zero_le _) rfl k (by omega) _ l1.1 l1.2 _ hj _ n2.1 (by omega)
      rw [HN.out] at HEX HL n2
      have HBW := Lib.hid hbw
      clear hbw hj hok h0 l1
      generalize js[p[k]] = j at *
      generalize p[k] = x at *
      go_wp2
      go_still_tail 8, (by kernel_rfl)
      go_wp2_with fail
      refine (HEX.out _).mono ?_
      rintro e w3 ⟨rfl, hb3⟩
      have HBX := Lib.hid ((Below.refl _ _).drew.trans hb3)
      rw [← HL.out]
      clear hb3 HEX
      go_wp2
      go_roundw
      case rel => exact ⟨k + 1, by omega, by go_num, rfl, by rw [HN.out], HB.out.trans (HBX.out.mono HB.out.size)⟩
      case measure => simp [intOf]; omega
    · obtain rfl : k = p.length := by omega
      have HBW := Lib.hid (HB2.out.trans (HB.out.mono HB2.out.size))
      go_wp2
      go_ret
      exact ⟨by rw [HFL.out, ← HLA.out]; rfl, HBW.out⟩
end
end Go.Proofs.YtnkoncplfedffaaDoor

namespace Go.Proofs.YtnkoncplfedffaaDoor
open Go.RowKit
/-- The jobs of a set below k. -/
def setTo (s k : Nat) : List Nat := (List.range k).filter fun i => s.testBit i
theorem setTo_yes {s k : Nat} (h : s.testBit k = true) : setTo s (k + 1) = setTo s k ++ [k] := by
  unfold setTo; rw [List.range_succ, List.filter_append]; simp [h]
theorem setTo_no {s k : Nat} (h : s.testBit k = false) : setTo s (k + 1) = setTo s k := by
  unfold setTo; rw [List.range_succ, List.filter_append]; simp [h]
theorem setTo_len (s k : Nat) : (setTo s k).length ≤ k := by
  have := List.length_filter_le (fun i => s.testBit i) (List.range k)
  unfold setTo; simpa using this
theorem hasI_facts : ∀ s : Nat, s < 256 → ∀ j : Nat, j < 8 → (bits BinOp.and IntKind.i64 ((s : Int) / 2 ^ j) 1 == 1) = s.testBit j := by decide +kernel
theorem wpList_appL {P : Program} {ops : Array Oper} {rest : List Oper} {o : Oper} {a : Act} {w w' : World} {Q : Exit → Act → World → Prop} (hgd : o.guard = none) (s x : Operand) (t : TypeId)
    (ho : o.op = .call { callee := .builtin .append, args := #[s, x], argTypes := #[t, t] }) (v u r : Value) (hs : a.eval s = v) (hx : a.eval x = u) (hr : (Builtin.append_ #[t, t] o.type #[v, u]).run P w = .ok r w')
    (h : wpList P ops Q rest (a.put o.dst r) w') : wpList P ops Q (o :: rest) a w := by
  refine wpList_plain hgd fun K hK => ?_
  unfold Oper.wp execOp
  simp only [ho, resolve, invoke, builtin, Sem.run_bind, Sem.run_pure, Result.andThen_ok, List.map_toArray, List.map_cons, List.map_nil, hs, hx, hr]
  exact hK _ _ h
theorem ic_snoc (xs : List Int) (x : Int) : ic xs ++ [Value.int .i64 x] = ic (xs ++ [x]) := by unfold ic; simp
set_option maxRecDepth 100000 in
set_option maxHeartbeats 2000000 in
theorem l4Set_any (n s : Nat) (hn : n ≤ 8) (hs : s < 256) (w : World) : Calls Tryd.prog 59 #[.int .i64 (n : Int), .int .i64 (s : Int)] w fun e w' => ∃ v, e = .returned v ∧ w'.ownsRow w.heap.size 3 1 v (setTo s n).length (ic (natI (setTo s n))) ∧ Below w.heap.size w w' := by
  obtain ⟨i0, hi, hz0, hz1, hz2⟩ := info_parts infoI
  have hown0 : (w.alloc (.cells #[] 3)).ownsRow w.heap.size 3 1 (.slice (some ⟨w.heap.size, 0, none⟩) 0 0) 0 [] := World.ownsRow_made w #[] 0 (Nat.le_refl _) (by unfold maxLen; omega) rfl
  have hb0 := (Below.refl w.heap.size w).alloc (Nat.le_refl _) (.cells #[] 3)
  go_enter Tryd.func59, Tryd.ntmps59
  go_wp2
  go_loopw [5, 6] (fun v i wr => ∃ k : Nat, k ≤ n ∧ i = .int .i64 (k : Int) ∧ wr.ownsRow w.heap.size 3 1 v (setTo s k).length (ic (natI (setTo s k))) ∧ Below w.heap.size w wr) (fun _ i _ => n - (intOf i).toNat)
  case atStart => exact ⟨0, Nat.zero_le _, rfl, hown0, hb0⟩
  case round =>
    obtain ⟨k, hk, rfl, hown, hb⟩ := hrel
    clear hown0 hb0
    obtain ⟨Av, cv, rfl, hnc, hrow⟩ := own_slice hown
    have hk0 : (0 : Int) ≤ k := by omega
    by_cases hlt : k < n
    · have hsz := hb.size
      have hf := hasI_facts s hs k (by omega)
      have hle := setTo_len s k
      cases hbit : s.testBit k
      · have HX : Hid (wr.ownsRow w.heap.size 3 1 (.slice Av (setTo s k).length cv) (setTo s (k + 1)).length (ic (natI (setTo s (k + 1)))) ∧ Below w.heap.size w wr) := by rw [setTo_no hbit]; exact ⟨hown, hb⟩
        rw [hbit] at hf
        clear hown hb hbit hrow hnc hle
        generalize (setTo s k).length = m at *
        go_wp2
        go_roundw
        case rel => exact ⟨k + 1, by omega, by go_num, HX.out.1, HX.out.2⟩
        case measure => simp [intOf]; omega
      · rw [hbit] at hf
        obtain ⟨v', w6, hrun, hown', hgrow, hat⟩ := append_at (P := Tryd.prog) (wr.alloc (.cells #[.int .i64 (k : Int)] 3)) w.heap.size 30 30 3 i0 (.int .i64 0) 1 8 Tryd.underlying30 hi hz0 hz1 hz2 rfl (by decide) (.slice Av (setTo s k).length cv) (setTo s k).length (ic (natI (setTo s k))) (hown.alloc _) ⟨wr.heap.size, 0, none⟩ 1 1 [.int .i64 (k : Int)] rfl (cell_one_new _ _ _) (by intro u hu; simp at hu; subst hu; rfl) (by omega) (by have hmx : (1000 : Nat) + 1 ≤ maxLen := (by unfold maxLen; omega); omega) (by omega) (by simp; omega)
        have hb6 := app_grown hb hsz hown hgrow
        have HX : Hid (w6.ownsRow w.heap.size 3 1 v' (setTo s (k + 1)).length (ic (natI (setTo s (k + 1)))) ∧ Below w.heap.size w w6) := by
          refine ⟨?_, hb6⟩
          rw [setTo_yes hbit, List.length_append, show natI (setTo s k ++ [k]) = natI (setTo s k) ++ [(k : Int)] by unfold natI; simp, ← ic_snoc]
          exact hown'
        obtain ⟨Av', cv', rfl, _⟩ := own_slice hown'
        have HRUN := Lib.hid hrun
        clear hown' hb6 hgrow hat hown hb hrow hrun hi hz0 hz1 hz2 hnc hbit hle
        generalize (setTo s k).length = m at *
        go_wp2_with (at_builtin; refine wpList_appL rfl _ _ _ rfl _ _ _ rfl rfl HRUN.out ?_; clear HRUN)
        go_roundw
        case rel => exact ⟨k + 1, by omega, by go_num, HX.out.1, HX.out.2⟩
        case measure => simp [intOf]; omega
    · obtain rfl : k = n := by omega
      go_wp2
      go_ret
      exact ⟨_, rfl, hown, hb⟩
theorem setTo_all : ∀ n, n < 9 → setTo (2 ^ n - 1) n = List.range n := by decide +kernel
theorem allI_facts : ∀ n : Nat, n < 9 → wrap64 (wrap64 (2 ^ n) - 1) = ((2 ^ n - 1 : Nat) : Int) := by decide +kernel
theorem l6All_any (A : Option Addr) (n c : Nat) (hn : n ≤ 8) (w : World) : Calls Tryd.prog 40 #[.slice A n c] w fun e w' => ∃ v, e = .returned v ∧ w'.ownsRow w.heap.size 3 1 v n (ic (natI (List.range n))) ∧ Below w.heap.size w w' := by
  have HC := Lib.hid (l4Set_any n (2 ^ n - 1) hn (pow_lt n (by omega)) w)
  rw [setTo_all n (by omega)] at HC
  rw [List.length_range] at HC
  have HF := Lib.hid (allI_facts n (by omega))
  go_enter Tryd.func40, Tryd.ntmps40
  go_wp2_with fail
  rw [HF.out]
  refine HC.out.mono ?_
  rintro e w1 ⟨v, rfl, hown, hb⟩
  go_wp2
  go_ret
  exact ⟨v, rfl, hown, hb⟩
end Go.Proofs.YtnkoncplfedffaaDoor

namespace Go.Proofs.YtnkoncplfedffaaDoor
open Go.RowKit
theorem own_whole {w : World} {base : Nat} {v : Value} {n : Nat} {cs : List Value} (h : w.ownsRow base 3 1 v n cs) : ∃ A c, v = .slice A n c ∧ Row w A cs := by
  obtain ⟨A, c, rfl, _, hr⟩ := own_slice h
  exact ⟨A, c, rfl, hr⟩
theorem not_nil {w : World} {base n : Nat} {v : Value} {cs : List Value} (h : w.ownsRow base 3 1 v n cs) (hn : v ≠ .slice none 0 0) : ∃ ad c, v = .slice (some ad) n c := by
  rcases h.2 with ⟨hv, _⟩ | ⟨g, cap, cur, hv, _⟩
  · exact absurd hv hn
  · exact ⟨_, _, hv⟩
theorem row_src {w : World} {ad : Addr} {cs : List Value} (h : Row w (some ad) cs) : ∀ j u, cs[j]? = some u → w.cell? (ad.add j) = some u := by
  intro j u hu
  obtain ⟨a', h1, _, h3⟩ := h (Nat.lt_of_le_of_lt (Nat.zero_le _) (List.getElem?_eq_some_iff.1 hu).1)
  obtain rfl := Option.some.inj h1
  exact h3 j u hu
/-- Two neighbors exchanged. -/
def swI (xs : List Int) (i : Nat) : List Int := (xs.set i (xs.getD (i + 1) 0)).set (i + 1) (xs.getD i 0)
theorem swI_len (xs : List Int) (i : Nat) : (swI xs i).length = xs.length := by unfold swI; simp
theorem take_set {cur : Array Value} {n i : Nat} {cs : List Value} (h : cur.toList.take n = cs) (hi : i < n) (v : Value) : (cur.setIfInBounds i v).toList.take n = cs.set i v := by
  subst h
  apply List.ext_getElem?
  intro j
  by_cases hj : j < n
  · rw [List.getElem?_take, if_pos hj, Array.getElem?_toList, Array.getElem?_setIfInBounds, List.getElem?_set]
    by_cases e : i = j
    · subst e
      by_cases hc : i < cur.size
      · simp [hc]; omega
      · simp [hc]; omega
    · rw [if_neg e, if_neg e, List.getElem?_take, if_pos hj, Array.getElem?_toList]
  · rw [List.getElem?_eq_none (by simp; omega), List.getElem?_eq_none (by simp; omega)]
theorem ic_setv (xs : List Int) (j : Nat) (x : Int) : (ic xs).set j (.int .i64 x) = ic (xs.set j x) := by unfold ic; rw [List.map_set]
theorem own_swapped {w : World} {B g c n i : Nat} {cur : Array Value} {xs : List Int} (h : BlockIs w g 3 ((cur.setIfInBounds i (.int .i64 (xs.getD (i + 1) 0))).setIfInBounds (i + 1) (.int .i64 (xs.getD i 0)))) (hg : B ≤ g) (hn : n ≤ c) (hc : c ≤ maxLen) (hs : cur.size = c * 1) (ht : cur.toList.take (n * 1) = ic xs) (hi : i + 1 < n) :
    w.ownsRow B 3 1 (.slice (some ⟨g, 0, none⟩) n c) n (ic (swI xs i)) := by
  have := h.own (base := B) (n := n) (c := c) (size := 1) hg (by simp [hs]) hn hc (by simp; omega)
  rw [Nat.mul_one] at this ht
  rwa [take_set (take_set ht (by omega) _) (by omega) _, ic_setv, ic_setv] at this
theorem cell_take {w : World} {g : Nat} {cur : Array Value} {n : Nat} {xs : List Int} (h : BlockIs w g 3 cur) (ht : cur.toList.take (n * 1) = ic xs) {k : Nat} (hk : k < xs.length) : w.cell? ⟨g, k, none⟩ = some (.int .i64 xs[k]) := by
  rw [h.cell]
  have h1 : (cur.toList.take (n * 1))[k]? = some (.int .i64 xs[k]) := by
    rw [ht, List.getElem?_eq_getElem (by rw [ic_len]; exact hk), ic_get]
  rw [List.getElem?_take] at h1
  split at h1
  · rwa [Array.getElem?_toList] at h1
  · cases h1
end Go.Proofs.YtnkoncplfedffaaDoor

namespace Go.Proofs.YtnkoncplfedffaaDoor
open Go.RowKit
theorem exec_slice {P : Program} {o : Oper} {ev : Operand → Value} {x : Operand} {lo hi mx : Option Operand} {t : TypeId} {v : Value} {w : World} (ho : o.op = .slice t x lo hi mx) (hr : (Instr.sliceAt t (ev x) (lo.map ev) (hi.map ev) (mx.map ev)).run P w = .ok v w) : (execOp ev o).run P w = .ok (.value v) w := by
  unfold execOp
  simp [ho, hr, Result.andThen]
theorem exec_append {P : Program} {o : Oper} {ev : Operand → Value} {s x : Operand} {t : TypeId} {v u r : Value} {w w' : World} (ho : o.op = .call { callee := .builtin .append, args := #[s, x], argTypes := #[t, t] }) (hs : ev s = v) (hx : ev x = u) (hr : (Builtin.append_ #[t, t] o.type #[v, u]).run P w = .ok r w') : (execOp ev o).run P w = .ok (.value r) w' := by
  unfold execOp
  simp only [ho, resolve, invoke, builtin, Sem.run_bind, Sem.run_pure, Result.andThen_ok, List.map_toArray, List.map_cons, List.map_nil, hs, hx, hr]
theorem slice_h (ad : Addr) (n c : Nat) (h : Nat) (w : World) (hc : h ≤ c) : (Instr.sliceAt 30 (.slice (some ad) n c) none (some (.int .i64 (h : Int))) none).run Tryd.prog w = .ok (.slice (some ad) h c) w := by
  simp [hc, go_sem]
def tailAd (ad : Addr) (l c : Nat) : Addr := if c = l then ad else ad.add l
theorem slice_l (ad : Addr) (n c : Nat) (l : Nat) (w : World) (hl : l ≤ n) : (Instr.sliceAt 30 (.slice (some ad) n c) (some (.int .i64 (l : Int))) none none).run Tryd.prog w = .ok (.slice (some (tailAd ad l c)) (n - l) (c - l)) w := by
  unfold tailAd
  simp [hl, go_sem]
  split <;> simp_all
theorem tail_src {w : World} {ad : Addr} {xs : List Int} {l c : Nat} (hr : Row w (some ad) (ic xs)) (hc : xs.length ≤ c) : ∀ j u, (ic (xs.drop l))[j]? = some u → w.cell? ((tailAd ad l c).add j) = some u := by
  intro j u hu
  have hj : j < (xs.drop l).length := by have := (List.getElem?_eq_some_iff.1 hu).1; rwa [ic_len] at this
  have hj' : l + j < xs.length := by simp at hj; omega
  have hne : c ≠ l := by omega
  unfold tailAd
  rw [if_neg hne, Addr.add_add]
  refine row_src hr _ _ ?_
  unfold ic at hu ⊢
  rw [List.getElem?_map, List.getElem?_drop] at hu
  rw [List.getElem?_map]; exact hu
theorem own_lower {w : World} {B B' e size n : Nat} {v : Value} {xs : List Value} (h : w.ownsRow B' e size v n xs) (hB : B ≤ B') : w.ownsRow B e size v n xs :=
  ⟨h.1, h.2.imp id fun ⟨g, cap, cur, hv, hb, r⟩ => ⟨g, cap, cur, hv, Nat.le_trans hB hb, r⟩⟩
theorem own_below {w w' : World} {B n : Nat} {v : Value} {xs : List Value} (h : w.ownsRow B 3 1 v n xs) (hb : Below w.heap.size w w') : w'.ownsRow B 3 1 v n xs := by
  refine ⟨h.1, h.2.imp id fun ⟨g, cap, cur, hv, hB, hg, r⟩ => ⟨g, cap, cur, hv, hB, ?_, r⟩⟩
  rw [hb.block g (Array.getElem?_eq_some_iff.1 hg).1]; exact hg
theorem row_take {w : World} {A : Option Addr} {xs : List Int} (h : Row w A (ic xs)) (k : Nat) : Row w A (ic (xs.take k)) := by
  intro h0
  rw [ic_len] at h0
  obtain ⟨ad, h1, h2, h3⟩ := h (by rw [ic_len]; simp at h0; omega)
  refine ⟨ad, h1, h2, fun j u hu => h3 j u ?_⟩
  unfold ic at hu ⊢
  rw [List.map_take, List.getElem?_take] at hu
  split at hu
  · exact hu
  · cases hu
theorem slice_some {B n : Nat} {w : World} {ad : Addr} {k c : Nat} {xs : List Value} (h : w.ownsRow B 3 1 (.slice (some ad) k c) n xs) : k = n ∧ n ≤ c := by
  rcases h.2 with ⟨hv, _⟩ | ⟨g, cap, cur, hv, _, _, hc, _⟩
  · cases hv
  · injection hv with _ e2 e3
    exact ⟨e2, by omega⟩
theorem ic_one {xs : List Int} : ∀ u ∈ ic xs, u.oneCell' = true := by intro u hu; unfold ic at hu; obtain ⟨x, _, rfl⟩ := List.mem_map.1 hu; rfl
end Go.Proofs.YtnkoncplfedffaaDoor

namespace Go.Proofs.YtnkoncplfedffaaDoor
section
variable {P : Program} {ops : Array Oper} {Q : Exit → Act → World → Prop}
def StepG {γ : Type} (P : Program) (S : γ → Array Bool → World → Prop) (val : γ → Nat → Value) (x : γ) (L : Array Bool) (i : Nat) (o : Oper) (a : Act) (w : World) : Prop :=
  (∃ x' w', (∀ j, L.getD j true = true → val x' j = val x j) ∧ (execOp a.eval o).run P w = .ok (.value (val x' i)) w' ∧ S x' (L.setIfInBounds i true) w') ∨
  (∃ f args, (execOp a.eval o).run P w = .ok (.enter f args) w ∧ Calls P f args w fun e w' => ∃ x', (∀ j, L.getD j true = true → val x' j = val x j) ∧ e = .returned (val x' i) ∧ S x' (L.setIfInBounds i true) w')
theorem wp_region_detG {γ : Type} {id : Nat} {tm0 : Array Value} {df : List Deferred} {w : World} (hm : P.follows .mixedOrders = true) (S : γ → Array Bool → World → Prop) (val : γ → Nat → Value) (x0 : γ) (hback : backB ops = true) (hown : ownDst ops tm0.size = true)
    (h0 : S x0 (Array.replicate ops.size false) w.drew)
    (hdone : ∀ (x : γ) (L : Array Bool) (tm : Array Value) (w : World), (∀ i, i < ops.size → L.getD i true = true) → S x L w → tm.size = tm0.size → (∀ t, ((List.range ops.size).all fun j => !((ops[j]?).bind (·.dst) == some t)) = true → tm.getD t undef = tm0.getD t undef) → (∀ j o d, ops[j]? = some o → o.dst = some d → tm.getD d undef = val x j) → Q .normal ⟨tm, df⟩ w)
    (hstep : ∀ (x : γ) (L : Array Bool) (a : Act) (w : World) (i : Nat) (o : Oper), L.size = ops.size → ops[i]? = some o → L.getD i true = false → (∀ j, edgeB ops i j = true → L.getD j true = true) → (∀ j, edgeB ops j i = true → L.getD j true = false) → S x L w → (∀ t, ((List.range ops.size).all fun j => !((ops[j]?).bind (·.dst) == some t)) = true → a.tmps.getD t undef = tm0.getD t undef) →
      (∀ j oj d, edgeB ops i j = true → ops[j]? = some oj → oj.dst = some d → a.tmps.getD d undef = val x j) →
      (∀ j oj d, edgeB ops j i = true → ops[j]? = some oj → oj.dst = some d → a.tmps.getD d undef = tm0.getD d undef) → o.guard = none ∧ StepG P S val x L i o a w) :
    (Code.region id ops true).wp P Q ⟨tm0, df⟩ w := by
  refine wp_region_inv hm (fun L a w => ∃ x, S x L w ∧ a.defers = df ∧ a.tmps.size = tm0.size ∧ (∀ t, ((List.range ops.size).all fun j => !((ops[j]?).bind (·.dst) == some t)) = true → a.tmps.getD t undef = tm0.getD t undef) ∧ (∀ j o d, ops[j]? = some o → o.dst = some d → L.getD j true = true → a.tmps.getD d undef = val x j) ∧ (∀ j o d, ops[j]? = some o → o.dst = some d → L.getD j true = false → a.tmps.getD d undef = tm0.getD d undef)) (back_of hback) ?_ ?_ ?_
  · refine ⟨x0, h0, rfl, rfl, fun _ _ => rfl, fun j o d ho _ hl => ?_, fun _ _ _ _ _ _ => rfl⟩
    have hj : j < ops.size := (Array.getElem?_eq_some_iff.1 ho).1
    simp [Array.getD_eq_getD_getElem?, hj] at hl
  · intro L a w ⟨x, hS, hdf, hsz, hlow, hval, _⟩ hall
    obtain ⟨tm, df'⟩ := a
    simp only at hdf hsz
    subst hdf
    exact hdone x L tm w hall hS hsz hlow (fun j o d ho hd => hval j o d ho hd (hall j (Array.getElem?_eq_some_iff.1 ho).1))
  · intro L a w i o hC ⟨x, hS, hdf, hsz, hlow, hval, hold⟩ ho hl hd
    obtain ⟨hg, hst⟩ := hstep x L a w i o hC.1 ho hl (fun j he => dep_of ho hd he) (fun j he => hC.no he hl) hS hlow (fun j oj d he hoj hdj => hval j oj d hoj hdj (dep_of ho hd he)) (fun j oj d he hoj hdj => hold j oj d hoj hdj (hC.no he hl))
    have next : ∀ x' w', (∀ j, L.getD j true = true → val x' j = val x j) → S x' (L.setIfInBounds i true) w' → S x' (L.setIfInBounds i true) w' ∧ (a.put o.dst (val x' i)).defers = df ∧ (a.put o.dst (val x' i)).tmps.size = tm0.size ∧ (∀ t, ((List.range ops.size).all fun j => !((ops[j]?).bind (·.dst) == some t)) = true → (a.put o.dst (val x' i)).tmps.getD t undef = tm0.getD t undef) ∧ (∀ j o' d, ops[j]? = some o' → o'.dst = some d → (L.setIfInBounds i true).getD j true = true → (a.put o.dst (val x' i)).tmps.getD d undef = val x' j) ∧ (∀ j o' d, ops[j]? = some o' → o'.dst = some d → (L.setIfInBounds i true).getD j true = false → (a.put o.dst (val x' i)).tmps.getD d undef = tm0.getD d undef) := by
      intro x' w' hag hS'
      cases hod : o.dst with
      | none =>
        refine ⟨hS', hdf, hsz, hlow, fun j o' d ho' hd' hl' => ?_, fun j o' d ho' hd' hl' => ?_⟩
        · have hne : i ≠ j := fun e => by subst e; rw [ho] at ho'; injection ho' with ho'; subst ho'; rw [hod] at hd'; cases hd'
          rw [getD_set_true, if_neg (fun h => hne h.1)] at hl'
          rw [hag j hl']; exact hval j o' d ho' hd' hl'
        · have hne : i ≠ j := fun e => by subst e; rw [ho] at ho'; injection ho' with ho'; subst ho'; rw [hod] at hd'; cases hd'
          rw [getD_set_true, if_neg (fun h => hne h.1)] at hl'
          exact hold j o' d ho' hd' hl'
      | some d0 =>
        have hput : ∀ t, (a.put (some d0) (val x' i)).tmps.getD t undef = if d0 = t ∧ t < a.tmps.size then val x' i else a.tmps.getD t undef := by
          intro t
          unfold Act.put
          simp only [Array.getD_eq_getD_getElem?, Array.getElem?_setIfInBounds]
          by_cases e : d0 = t
          · subst e
            by_cases h : d0 < a.tmps.size
            · simp [h]
            · simp [h]
          · simp [e]
        refine ⟨hS', hdf, by simp [Act.put, hsz], fun t ht => ?_, fun j o' d ho' hd' hl' => ?_, fun j o' d ho' hd' hl' => ?_⟩
        · rw [hput, if_neg (fun h => ?_)]
          · exact hlow t ht
          · have := List.all_eq_true.1 ht i (List.mem_range.2 (Array.getElem?_eq_some_iff.1 ho).1)
            rw [ho] at this
            simp [hod, h.1] at this
        · rw [hput]
          by_cases e : d0 = d
          · subst e
            have hij := ownDst_inj hown ho hod ho' hd'
            subst hij
            rw [if_pos ⟨rfl, by rw [hsz]; exact ownDst_lt hown ho hod⟩]
          · rw [if_neg (fun h => e h.1)]
            have hne : i ≠ j := fun e' => by subst e'; rw [ho] at ho'; injection ho' with ho'; subst ho'; rw [hod] at hd'; injection hd' with hd'; exact e hd'
            rw [getD_set_true, if_neg (fun h => hne h.1)] at hl'
            rw [hag j hl']; exact hval j o' d ho' hd' hl'
        · have hli : i ≠ j := fun e => by
            subst e
            have hC1 : i < L.size := by rw [hC.1]; exact (Array.getElem?_eq_some_iff.1 ho).1
            rw [getD_set_true, if_pos ⟨rfl, hC1⟩] at hl'; cases hl'
          rw [getD_set_true, if_neg (fun h => hli h.1)] at hl'
          have hdd : d0 ≠ d := fun e => by subst e; exact hli (ownDst_inj hown ho' hd' ho hod)
          rw [hput, if_neg (fun h => hdd h.1)]
          exact hold j o' d ho' hd' hl'
    rcases hst with ⟨x', w', hag, hr, hS'⟩ | ⟨f, args, hr, hc⟩
    · exact wpOp_value ho hg hr ⟨x', next x' w' hag hS'⟩
    · refine wpOp_enter ho hg hr (hc.mono ?_)
      rintro e w' ⟨x', hag, rfl, hS'⟩
      exact ⟨_, rfl, x', next x' w' hag hS'⟩
end
end Go.Proofs.YtnkoncplfedffaaDoor

namespace Go.Proofs.YtnkoncplfedffaaDoor
open Go.RowKit
section
variable (A : Option Addr) (c : Nat) (js : List J) (w : World) (hr : Row w A (jc js)) (i k : Nat) (hi : i < js.length) (hk : k < js.length)
include hr hi hk
set_option maxRecDepth 100000 in
set_option maxHeartbeats 4000000 in
theorem l6Sooner_any : Calls Tryd.prog 58 #[.slice A js.length c, .int .i64 (i : Int), .int .i64 (k : Int)] w fun e w' => e = .returned (.bool (soonB js i k)) ∧ ∃ m, w' = w.drewN m := by
  obtain ⟨ad, rfl, hadb, a0, a1, a2, a3⟩ := hr.job hi
  obtain ⟨ad', hA', _, b0, b1, b2, b3⟩ := hr.job hk
  injection hA' with hA'
  subst hA'
  have HS : Hid (soonB js i k = if js[i].d ≠ js[k].d then decide (js[i].d < js[k].d) else if js[i].t ≠ js[k].t then decide (js[i].t < js[k].t) else decide (i < k)) := by
    show _ = _
    unfold soonB
    rw [getD_at js j0 hi, getD_at js j0 hk]
  have hi0 : (0 : Int) ≤ i := by omega
  have hi1 : (i : Int) < js.length := by omega
  have hk0 : (0 : Int) ≤ k := by omega
  have hk1 : (k : Int) < js.length := by omega
  clear hr
  generalize js[i] = x at *
  generalize js[k] = y at *
  by_cases h1 : x.d = y.d
  · have e1 : (x.d != y.d) = false := by rw [h1]; simp
    by_cases h2 : x.t = y.t
    · have e2 : (x.t != y.t) = false := by rw [h2]; simp
      have HF : Hid (soonB js i k = decide (i < k)) := by show _ = _; rw [HS.out, if_neg (fun h => h h1), if_neg (fun h => h h2)]
      clear HS h1 h2
      go_enter Tryd.func58, Tryd.ntmps58
      go_wp2
      go_quiet (fail)
      go_wp2
      go_quiet (fail)
      go_wp2
      go_ret
      exact ⟨by rw [HF.out]; simp, _, by first | rfl | exact World.drewN_drewN .. | exact (World.drewN_drewN ..).trans (World.drewN_drewN ..)⟩
    · have e2 : (x.t != y.t) = true := by simpa using h2
      have HF : Hid (soonB js i k = decide (x.t < y.t)) := by show _ = _; rw [HS.out, if_neg (fun h => h h1), if_pos h2]
      clear HS h1 h2
      go_enter Tryd.func58, Tryd.ntmps58
      go_wp2
      go_quiet (fail)
      go_wp2
      go_quiet (fail)
      go_wp2
      go_quiet (fail)
      go_wp2
      go_ret
      exact ⟨by rw [HF.out]; rfl, _, by first | rfl | exact World.drewN_drewN .. | exact (World.drewN_drewN ..).trans (World.drewN_drewN ..)⟩
  · have e1 : (x.d != y.d) = true := by simpa using h1
    have HF : Hid (soonB js i k = decide (x.d < y.d)) := by show _ = _; rw [HS.out, if_pos h1]
    clear HS h1
    go_enter Tryd.func58, Tryd.ntmps58
    go_wp2
    go_quiet (fail)
    go_wp2
    go_quiet (fail)
    go_wp2
    go_ret
    exact ⟨by rw [HF.out]; rfl, _, by first | rfl | exact World.drewN_drewN .. | exact (World.drewN_drewN ..).trans (World.drewN_drewN ..)⟩
end
end Go.Proofs.YtnkoncplfedffaaDoor

namespace Go.Proofs.YtnkoncplfedffaaDoor
open Go.RowKit
theorem empty_neS {w : World} {B g : Nat} {t : TypeId} {v : Value} (h : w.ownsRow B 3 1 (.slice (some ⟨g, 0, none⟩) 0 0) 0 []) (hb : BlockIs w g t #[v]) : False := by
  rcases h.2 with ⟨h0, _⟩ | ⟨g', cap, cur, h0, _, hk, _, _, h3, _⟩
  · cases h0
  · injection h0 with h0 _ h2
    injection h0 with h0
    injection h0 with h0
    subst h0 h2
    rw [show w.heap[g]? = _ from hb] at hk
    injection hk with hk
    injection hk with hk _
    subst hk
    simp at h3
theorem head_srcS {w : World} {ad : Addr} {xs : List Int} {k : Nat} (h : Row w (some ad) (ic xs)) : ∀ j u, (ic (xs.take k))[j]? = some u → w.cell? (ad.add j) = some u := fun j u hu => by
  refine row_src h j u ?_
  unfold ic at hu ⊢
  rw [List.map_take, List.getElem?_take] at hu
  split at hu
  · exact hu
  · cases hu
theorem own_block2S {w : World} {B n : Nat} {v : Value} {cs : List Value} (h : w.ownsRow B 3 1 v n cs) (hn : 0 < n) : ∃ g, B ≤ g ∧ (∃ c, v = .slice (some ⟨g, 0, none⟩) n c) ∧ True := by
  rcases h.2 with ⟨_, h0⟩ | ⟨g, cap, cur, hv, hb, _⟩
  · omega
  · exact ⟨g, hb, ⟨cap, hv⟩, trivial⟩
theorem but_i0 {a0 b0 v1 v10 v11 v12 v13 v14 v15 v2 v3 v4 v5 v6 v7 v8 v9 : Value} (j : Nat) (h0 : j ≠ 0) : (#[a0, v1, v2, v3, v4, v5, v6, v7, v8, v9, v10, v11, v12, v13, v14, v15] : Array Value).getD j undef = (#[b0, v1, v2, v3, v4, v5, v6, v7, v8, v9, v10, v11, v12, v13, v14, v15] : Array Value).getD j undef := by
  rcases (by omega : j = 1 ∨ j = 2 ∨ j = 3 ∨ j = 4 ∨ j = 5 ∨ j = 6 ∨ j = 7 ∨ j = 8 ∨ j = 9 ∨ j = 10 ∨ j = 11 ∨ j = 12 ∨ j = 13 ∨ j = 14 ∨ j = 15 ∨ 15 < j) with rfl | rfl | rfl | rfl | rfl | rfl | rfl | rfl | rfl | rfl | rfl | rfl | rfl | rfl | rfl | h
  all_goals first | rfl | (simp only [Array.getD_eq_getD_getElem?]; rw [Array.getElem?_eq_none (by simp; omega), Array.getElem?_eq_none (by simp; omega)])
theorem but_i4 {a4 b4 v0 v1 v10 v11 v12 v13 v14 v15 v2 v3 v5 v6 v7 v8 v9 : Value} (j : Nat) (h4 : j ≠ 4) : (#[v0, v1, v2, v3, a4, v5, v6, v7, v8, v9, v10, v11, v12, v13, v14, v15] : Array Value).getD j undef = (#[v0, v1, v2, v3, b4, v5, v6, v7, v8, v9, v10, v11, v12, v13, v14, v15] : Array Value).getD j undef := by
  rcases (by omega : j = 0 ∨ j = 1 ∨ j = 2 ∨ j = 3 ∨ j = 5 ∨ j = 6 ∨ j = 7 ∨ j = 8 ∨ j = 9 ∨ j = 10 ∨ j = 11 ∨ j = 12 ∨ j = 13 ∨ j = 14 ∨ j = 15 ∨ 15 < j) with rfl | rfl | rfl | rfl | rfl | rfl | rfl | rfl | rfl | rfl | rfl | rfl | rfl | rfl | rfl | h
  all_goals first | rfl | (simp only [Array.getD_eq_getD_getElem?]; rw [Array.getElem?_eq_none (by simp; omega), Array.getElem?_eq_none (by simp; omega)])
theorem but_i9 {a9 b9 v0 v1 v10 v11 v12 v13 v14 v15 v2 v3 v4 v5 v6 v7 v8 : Value} (j : Nat) (h9 : j ≠ 9) : (#[v0, v1, v2, v3, v4, v5, v6, v7, v8, a9, v10, v11, v12, v13, v14, v15] : Array Value).getD j undef = (#[v0, v1, v2, v3, v4, v5, v6, v7, v8, b9, v10, v11, v12, v13, v14, v15] : Array Value).getD j undef := by
  rcases (by omega : j = 0 ∨ j = 1 ∨ j = 2 ∨ j = 3 ∨ j = 4 ∨ j = 5 ∨ j = 6 ∨ j = 7 ∨ j = 8 ∨ j = 10 ∨ j = 11 ∨ j = 12 ∨ j = 13 ∨ j = 14 ∨ j = 15 ∨ 15 < j) with rfl | rfl | rfl | rfl | rfl | rfl | rfl | rfl | rfl | rfl | rfl | rfl | rfl | rfl | rfl | h
  all_goals first | rfl | (simp only [Array.getD_eq_getD_getElem?]; rw [Array.getElem?_eq_none (by simp; omega), Array.getElem?_eq_none (by simp; omega)])
theorem but_i10 {a10 b10 v0 v1 v11 v12 v13 v14 v15 v2 v3 v4 v5 v6 v7 v8 v9 : Value} (j : Nat) (h10 : j ≠ 10) : (#[v0, v1, v2, v3, v4, v5, v6, v7, v8, v9, a10, v11, v12, v13, v14, v15] : Array Value).getD j undef = (#[v0, v1, v2, v3, v4, v5, v6, v7, v8, v9, b10, v11, v12, v13, v14, v15] : Array Value).getD j undef := by
  rcases (by omega : j = 0 ∨ j = 1 ∨ j = 2 ∨ j = 3 ∨ j = 4 ∨ j = 5 ∨ j = 6 ∨ j = 7 ∨ j = 8 ∨ j = 9 ∨ j = 11 ∨ j = 12 ∨ j = 13 ∨ j = 14 ∨ j = 15 ∨ 15 < j) with rfl | rfl | rfl | rfl | rfl | rfl | rfl | rfl | rfl | rfl | rfl | rfl | rfl | rfl | rfl | h
  all_goals first | rfl | (simp only [Array.getD_eq_getD_getElem?]; rw [Array.getElem?_eq_none (by simp; omega), Array.getElem?_eq_none (by simp; omega)])
theorem but_i14 {a14 a15 b14 b15 v0 v1 v10 v11 v12 v13 v2 v3 v4 v5 v6 v7 v8 v9 : Value} (j : Nat) (h14 : j ≠ 14) (h15 : j ≠ 15) : (#[v0, v1, v2, v3, v4, v5, v6, v7, v8, v9, v10, v11, v12, v13, a14, a15] : Array Value).getD j undef = (#[v0, v1, v2, v3, v4, v5, v6, v7, v8, v9, v10, v11, v12, v13, b14, b15] : Array Value).getD j undef := by
  rcases (by omega : j = 0 ∨ j = 1 ∨ j = 2 ∨ j = 3 ∨ j = 4 ∨ j = 5 ∨ j = 6 ∨ j = 7 ∨ j = 8 ∨ j = 9 ∨ j = 10 ∨ j = 11 ∨ j = 12 ∨ j = 13 ∨ 15 < j) with rfl | rfl | rfl | rfl | rfl | rfl | rfl | rfl | rfl | rfl | rfl | rfl | rfl | rfl | h
  all_goals first | rfl | (simp only [Array.getD_eq_getD_getElem?]; rw [Array.getElem?_eq_none (by simp; omega), Array.getElem?_eq_none (by simp; omega)])
section
variable (A B : Option Addr) (c d : Nat) (js : List J) (l : List Nat) (w : World) (hr : Row w A (jc js)) (hq : Row w B (ic (natI l))) (hl : ∀ x ∈ l, x < js.length) (hn : l.length ≤ 8)
include hr hq hl hn
set_option maxRecDepth 100000 in
set_option maxHeartbeats 4000000 in
theorem l6Due_any : Calls Tryd.prog 39 #[.slice A js.length c, .slice B l.length d] w fun e w' => ∃ v, e = .returned v ∧ w'.ownsRow w.heap.size 3 1 v l.length (ic (natI (dueL js l))) ∧ Below w.heap.size w w' := by
  obtain ⟨i0, hi, hz0, hz1, hz2⟩ := info_parts infoI
  have hb0 := (Below.refl w.heap.size w).alloc (Nat.le_refl _) (.cells #[] 3)
  have hown0 : (w.alloc (.cells #[] 3)).ownsRow w.heap.size 3 1 (.slice (some ⟨w.heap.size, 0, none⟩) 0 0) 0 [] := World.ownsRow_made w #[] 0 (Nat.le_refl _) (by unfold maxLen; omega) rfl
  have H0 := Lib.hid (And.intro hown0 hb0)
  clear hown0 hb0
  go_enter Tryd.func39, Tryd.ntmps39
  go_wp2
  go_loopw [5, 6] (fun v i wr => ∃ (k : Nat) (ad : Addr) (cc : Nat), k ≤ l.length ∧ v = .slice (some ad) k cc ∧ i = .int .i64 (k : Int) ∧ Hid (wr.ownsRow w.heap.size 3 1 (.slice (some ad) k cc) k (ic (natI (dueTo js l k)))) ∧ Hid (Below w.heap.size w wr)) (fun _ i _ => l.length - (intOf i).toNat)
  case atStart => exact ⟨0, _, 0, Nat.zero_le _, rfl, rfl, H0.out.1, H0.out.2⟩
  case round =>
    obtain ⟨i, ad, cc, hik, rfl, rfl, HO, HW⟩ := hrel
    clear H0
    by_cases hlt : i < l.length
    · have hi0 : (0 : Int) ≤ i := by omega
      have hi1 : (i : Int) < l.length := by omega
      have hol := dueTo_len js l i
      obtain ⟨bd, rfl, hcb⟩ := hq.nat hlt
      have hxl : l[i] < js.length := hl _ (List.getElem_mem hlt)
      have hxg : l.getD i 0 = l[i] := getD_at l 0 hlt
      have HINS : Hid (dueTo js l (i + 1) = insD js l[i] (dueTo js l i)) := by show _ = _; rw [← hxg]; rfl
      have hout : ∀ a ∈ dueTo js l i, a < js.length := fun a ha => hl a (dueTo_mem hik ha)
      clear hxg
      have HCB := Lib.hid hcb
      generalize dueTo js l i = out0 at *
      have hol1 : out0.length ≤ i := by omega
      have hol2 : i ≤ out0.length := by omega
      clear hol hcb
      generalize l[i] = xn at *
      obtain ⟨xv, hxv⟩ : ∃ xv : Int, Hid (xv = (xn : Int)) := ⟨_, rfl⟩
      obtain ⟨wo, rfl⟩ : ∃ wo : World, wo = wr := ⟨_, rfl⟩
      go_wp2
      go_loopw [7] (fun kv wi => ∃ k : Nat, k ≤ i ∧ kv = .int .i64 (k : Int) ∧ Hid (Below wo.heap.size wo wi) ∧ Hid (∀ a ∈ out0.take k, soonB js a xn = true)) (fun kv _ => i - (intOf kv).toNat)
      case atStart => exact ⟨0, Nat.zero_le _, rfl, Below.refl _ _, fun a h => by cases h⟩
      case round =>
        obtain ⟨k, hk, rfl, HB, HG⟩ := hrel
        have HRow := Lib.hid ((Row.of_own HO.out).below HB.out)
        have hcb : wr.cell? (bd.add i) = some (.int .i64 xv) := by
          rw [hxv.out]
          have hbb := lt_of_cell HCB.out
          exact ((HW.out.trans (HB.out.mono HW.out.size)).cell (p := bd.add i) hbb).trans HCB.out
        by_cases hki : k < i
        · have hko : k < out0.length := by omega
          have hk0 : (0 : Int) ≤ k := by omega
          have hk1 : (k : Int) < i := by omega
          obtain ⟨ad', hA', hc0⟩ := HRow.out.nat hko
          injection hA' with hA'
          subst hA'
          have dk : decide (k < i) = true := decide_eq_true hki
          have hx0 := hout _ (List.getElem_mem hko)
          have HSN : Hid (∀ m, Calls Tryd.prog 58 #[.slice A js.length c, .int .i64 (out0[k] : Int), .int .i64 xv] (wr.drewN m) fun e w' => e = .returned (.bool (soonB js out0[k] xn)) ∧ ∃ n, w' = (wr.drewN m).drewN n) := fun m => by
            rw [hxv.out]
            exact l6Sooner_any A c js (wr.drewN m) ((hr.below (HW.out.trans (HB.out.mono HW.out.size))).drewN m) out0[k] xn hx0 hxl
          cases hsn : soonB js out0[k] xn
          · have HF := Lib.hid (HINS.out.trans (insD_at js xn out0 k (by omega) HG.out (fun _ => hsn)))
            rw [hsn] at HSN
            generalize out0[k] = x0 at *
            clear hx0 hsn hout
            go_wp2
            go_quiet ((go_at_call 58; first | exact Calls.quiet_of (HSN.out _) | exact quiet_in (HSN.out _)))
            go_wp2
            generalize hw1 : wr.drewN nq = w1
            have HRW : Hid (Row w1 (some ad) (ic (natI out0))) := by rw [← hw1]; exact HRow.out.drewN _
            have hbw1 : Below wo.heap.size wo w1 := by rw [← hw1]; exact below_drewN HB.out _
            have HBW := Lib.hid (HW.out.trans (hbw1.mono HW.out.size))
            have hbbl : bd.block < w1.heap.size := by have h1 := lt_of_cell hcb; rw [add_block] at h1; rw [← hw1]; exact h1
            have hcb : w1.cell? (bd.add i) = some (.int .i64 xv) := by rw [← hw1]; exact hcb
            have hcc : i ≤ cc := (slice_some HO.out).2
            have HF2 : Hid (ic ((natI out0).take k ++ [xv] ++ (natI out0).drop k) = ic (natI (dueTo js l (i + 1)))) := by show _ = _; rw [HF.out, hxv.out]; unfold natI; simp
            have hoL : (natI out0).length = out0.length := by unfold natI; simp
            generalize natI out0 = out at *
            have hol1 : out.length ≤ i := by omega
            have hol2 : i ≤ out.length := by omega
            clear hw1 hbw1 hoL HF HINS HG
            refine wp_region_detG (by kernel_rfl) (fun x L w' => Below w1.heap.size w1 w' ∧ (L.getD 0 true = true → L.getD 4 true = false → w'.ownsRow w1.heap.size 3 1 (.slice (some ⟨x.1, 0, none⟩) 0 0) 0 []) ∧ (L.getD 4 true = true → L.getD 10 true = false → w'.ownsRow w1.heap.size 3 1 x.2.1 k (ic (out.take k))) ∧ (L.getD 9 true = true → L.getD 10 true = false → BlockIs w' x.2.2.1 3 #[.int .i64 xv]) ∧ (L.getD 10 true = true → L.getD 14 true = false → w'.ownsRow w1.heap.size 3 1 x.2.2.2.1 (k + 1) (ic (out.take k ++ [xv]))) ∧ (L.getD 14 true = true → L.getD 10 true = true ∧ w'.ownsRow w1.heap.size 3 1 x.2.2.2.2 (i + 1) (ic (out.take k ++ [xv] ++ out.drop k))) ∧ (L.getD 10 true = true → L.getD 4 true = true))
              (fun x kk => #[.slice (some ⟨x.1, 0, none⟩) 0 0, .slice (some ad) i cc, .int .i64 (k : Int), .slice (some ad) k cc, x.2.1, .slice (some bd) l.length d, .int .i64 (i : Int), .pointer (some (bd.add i)), .int .i64 xv, .slice (some ⟨x.2.2.1, 0, none⟩) 1 1, x.2.2.2.1, .slice (some ad) i cc, .int .i64 (k : Int), .slice (some (tailAd ad k cc)) (i - k) (cc - k), x.2.2.2.2, x.2.2.2.2].getD kk undef) (0, undef, 0, undef, undef) (by kernel_rfl) (by kernel_rfl) ⟨(Below.refl _ _).drew, (fun h => by cases h), (fun h => by cases h), (fun h => by cases h), (fun h => by cases h), (fun h => by cases h), fun h => by cases h⟩ ?_ ?_
            · intro x L tm w' hall hS hsz hlow hval
              have ht : tm = #[.slice A js.length c, .slice (some bd) l.length d, undef, undef, .slice none 0 0, x.2.2.2.2, .int .i64 (i : Int), .int .i64 (k : Int), .slice (some ⟨w.heap.size, 0, none⟩) 0 0, .int .i64 (i : Int), .slice (some bd) l.length d, .int .i64 (l.length : Int), .bool true, u13, u14, .int .i64 (k : Int), .slice (some ad) i cc, .int .i64 (i : Int), .bool true, .bool true, .slice A js.length c, .slice (some ad) i cc, .int .i64 (k : Int), .pointer (some (ad.add k)), .int .i64 (x0 : Int), .slice (some bd) l.length d, .int .i64 (i : Int), .pointer (some (bd.add i)), .int .i64 xv, .bool false, .bool false, u31, u32, .slice (some ⟨x.1, 0, none⟩) 0 0, .slice (some ad) i cc, .int .i64 (k : Int), .slice (some ad) k cc, x.2.1, .slice (some bd) l.length d, .int .i64 (i : Int), .pointer (some (bd.add i)), .int .i64 xv, .slice (some ⟨x.2.2.1, 0, none⟩) 1 1, x.2.2.2.1, .slice (some ad) i cc, .int .i64 (k : Int), .slice (some (tailAd ad k cc)) (i - k) (cc - k), x.2.2.2.2, undef] := by
                refine arr_of _ _ hsz fun t ht => ?_
                have ht' : t < 49 := ht
                rcases (by omega : t = 0 ∨ t = 1 ∨ t = 2 ∨ t = 3 ∨ t = 4 ∨ t = 5 ∨ t = 6 ∨ t = 7 ∨ t = 8 ∨ t = 9 ∨ t = 10 ∨ t = 11 ∨ t = 12 ∨ t = 13 ∨ t = 14 ∨ t = 15 ∨ t = 16 ∨ t = 17 ∨ t = 18 ∨ t = 19 ∨ t = 20 ∨ t = 21 ∨ t = 22 ∨ t = 23 ∨ t = 24 ∨ t = 25 ∨ t = 26 ∨ t = 27 ∨ t = 28 ∨ t = 29 ∨ t = 30 ∨ t = 31 ∨ t = 32 ∨ t = 33 ∨ t = 34 ∨ t = 35 ∨ t = 36 ∨ t = 37 ∨ t = 38 ∨ t = 39 ∨ t = 40 ∨ t = 41 ∨ t = 42 ∨ t = 43 ∨ t = 44 ∨ t = 45 ∨ t = 46 ∨ t = 47 ∨ t = 48) with rfl | rfl | rfl | rfl | rfl | rfl | rfl | rfl | rfl | rfl | rfl | rfl | rfl | rfl | rfl | rfl | rfl | rfl | rfl | rfl | rfl | rfl | rfl | rfl | rfl | rfl | rfl | rfl | rfl | rfl | rfl | rfl | rfl | rfl | rfl | rfl | rfl | rfl | rfl | rfl | rfl | rfl | rfl | rfl | rfl | rfl | rfl | rfl | rfl
                · exact hlow 0 (by kernel_rfl)
                · exact hlow 1 (by kernel_rfl)
                · exact hlow 2 (by kernel_rfl)
                · exact hlow 3 (by kernel_rfl)
                · exact hlow 4 (by kernel_rfl)
                · exact hval 15 _ 5 rfl rfl
                · exact hlow 6 (by kernel_rfl)
                · exact hlow 7 (by kernel_rfl)
                · exact hlow 8 (by kernel_rfl)
                · exact hlow 9 (by kernel_rfl)
                · exact hlow 10 (by kernel_rfl)
                · exact hlow 11 (by kernel_rfl)
                · exact hlow 12 (by kernel_rfl)
                · exact hlow 13 (by kernel_rfl)
                · exact hlow 14 (by kernel_rfl)
                · exact hlow 15 (by kernel_rfl)
                · exact hlow 16 (by kernel_rfl)
                · exact hlow 17 (by kernel_rfl)
                · exact hlow 18 (by kernel_rfl)
                · exact hlow 19 (by kernel_rfl)
                · exact hlow 20 (by kernel_rfl)
                · exact hlow 21 (by kernel_rfl)
                · exact hlow 22 (by kernel_rfl)
                · exact hlow 23 (by kernel_rfl)
                · exact hlow 24 (by kernel_rfl)
                · exact hlow 25 (by kernel_rfl)
                · exact hlow 26 (by kernel_rfl)
                · exact hlow 27 (by kernel_rfl)
                · exact hlow 28 (by kernel_rfl)
                · exact hlow 29 (by kernel_rfl)
                · exact hlow 30 (by kernel_rfl)
                · exact hlow 31 (by kernel_rfl)
                · exact hlow 32 (by kernel_rfl)
                · exact hval 0 _ 33 rfl rfl
                · exact hval 1 _ 34 rfl rfl
                · exact hval 2 _ 35 rfl rfl
                · exact hval 3 _ 36 rfl rfl
                · exact hval 4 _ 37 rfl rfl
                · exact hval 5 _ 38 rfl rfl
                · exact hval 6 _ 39 rfl rfl
                · exact hval 7 _ 40 rfl rfl
                · exact hval 8 _ 41 rfl rfl
                · exact hval 9 _ 42 rfl rfl
                · exact hval 10 _ 43 rfl rfl
                · exact hval 11 _ 44 rfl rfl
                · exact hval 12 _ 45 rfl rfl
                · exact hval 13 _ 46 rfl rfl
                · exact hval 14 _ 47 rfl rfl
                · exact hlow 48 (by kernel_rfl)
              subst ht
              clear hlow hval hsz
              obtain ⟨hbz, _, _, _, _, hS5, _⟩ := hS
              have hfin := (hS5 (hall 14 (by decide))).2
              have HO4 := Lib.hid (And.intro hfin hbz)
              clear hS5 hbz hall hfin
              obtain ⟨g4, _, ⟨c4, hx4⟩, _⟩ := own_block2S HO4.out.1 (by omega)
              generalize x.2.2.2.2 = y4 at *
              subst hx4
              rw [HF2.out] at HO4
              clear HF2
              go_wp2
              go_roundw
              case rel => exact ⟨i + 1, ⟨g4, 0, none⟩, c4, by omega, rfl, by go_num, own_lower HO4.out.1 HBW.out.size, HBW.out.trans (HO4.out.2.mono HBW.out.size)⟩
              case measure => simp [intOf]; omega
            · intro x L a w' kk op hLs ho hLi hLd hLn ⟨hS0, hS1, hS2, hS3, hS4, hS5, hS6⟩ hlow hdep hold
              have hkk : kk < 16 := (Array.getElem?_eq_some_iff.1 ho).1
              have l1 : a.tmps[1]?.getD undef = .slice (some bd) l.length d := by rw [← Array.getD_eq_getD_getElem?]; exact hlow 1 (by kernel_rfl)
              have l6 : a.tmps[6]?.getD undef = .int .i64 (i : Int) := by rw [← Array.getD_eq_getD_getElem?]; exact hlow 6 (by kernel_rfl)
              have l7 : a.tmps[7]?.getD undef = .int .i64 (k : Int) := by rw [← Array.getD_eq_getD_getElem?]; exact hlow 7 (by kernel_rfl)
              have D : ∀ j oj d, edgeB _ kk j = true → _ → _ → a.tmps[d]?.getD undef = _ := fun j oj d h1 h2 h3 => (Array.getD_eq_getD_getElem? ..).symm.trans (hdep j oj d h1 h2 h3)
              have K : ∀ {kk : Nat}, kk ≠ 0 → kk ≠ 4 → kk ≠ 9 → kk ≠ 10 → kk ≠ 14 → Below w1.heap.size w1 w' ∧ ((L.setIfInBounds kk true).getD 0 true = true → (L.setIfInBounds kk true).getD 4 true = false → w'.ownsRow w1.heap.size 3 1 (.slice (some ⟨x.1, 0, none⟩) 0 0) 0 []) ∧ ((L.setIfInBounds kk true).getD 4 true = true → (L.setIfInBounds kk true).getD 10 true = false → w'.ownsRow w1.heap.size 3 1 x.2.1 k (ic (out.take k))) ∧ ((L.setIfInBounds kk true).getD 9 true = true → (L.setIfInBounds kk true).getD 10 true = false → BlockIs w' x.2.2.1 3 #[.int .i64 xv]) ∧ ((L.setIfInBounds kk true).getD 10 true = true → (L.setIfInBounds kk true).getD 14 true = false → w'.ownsRow w1.heap.size 3 1 x.2.2.2.1 (k + 1) (ic (out.take k ++ [xv]))) ∧ ((L.setIfInBounds kk true).getD 14 true = true → (L.setIfInBounds kk true).getD 10 true = true ∧ w'.ownsRow w1.heap.size 3 1 x.2.2.2.2 (i + 1) (ic (out.take k ++ [xv] ++ out.drop k))) ∧ ((L.setIfInBounds kk true).getD 10 true = true → (L.setIfInBounds kk true).getD 4 true = true) := fun h0 h4 h6 h7 h11 => ⟨hS0, by rw [set_ne h0, set_ne h4]; exact hS1, by rw [set_ne h4, set_ne h7]; exact hS2, by rw [set_ne h6, set_ne h7]; exact hS3, by rw [set_ne h7, set_ne h11]; exact hS4, by rw [set_ne h11, set_ne h7]; exact hS5, by rw [set_ne h7, set_ne h4]; exact hS6⟩
              rcases (by omega : kk = 0 ∨ kk = 1 ∨ kk = 2 ∨ kk = 3 ∨ kk = 4 ∨ kk = 5 ∨ kk = 6 ∨ kk = 7 ∨ kk = 8 ∨ kk = 9 ∨ kk = 10 ∨ kk = 11 ∨ kk = 12 ∨ kk = 13 ∨ kk = 14 ∨ kk = 15) with rfl | rfl | rfl | rfl | rfl | rfl | rfl | rfl | rfl | rfl | rfl | rfl | rfl | rfl | rfl | rfl
              · obtain rfl := Option.some.inj ho
                refine ⟨rfl, .inl ⟨(w'.heap.size, x.2), w'.alloc (.cells #[] 3), fun j hj => ?_, by simp [execOp, Act.eval, go_sem], hS0.alloc hS0.size _, (fun _ _ => World.ownsRow_made w' #[] 0 hS0.size (by unfold maxLen; omega) rfl), (fun h => ?_), (fun h h' => ?_), (fun h => ?_), (fun h => ?_), fun h => ?_⟩⟩
                · have n0 : j ≠ 0 := fun e => by subst e; rw [hLi] at hj; cases hj
                  exact but_i0 j n0
                · rw [set_ne (by decide), hLn 4 (by kernel_rfl)] at h; cases h
                · rw [set_ne (by decide)] at h h'; exact (hS3 h h').below ((Below.refl _ _).alloc (Nat.le_refl _) _)
                · rw [set_ne (by decide)] at h; have h4 := hS6 h; rw [hLn 4 (by kernel_rfl)] at h4; cases h4
                · rw [set_ne (by decide)] at h; have h4 := hS6 (hS5 h).1; rw [hLn 4 (by kernel_rfl)] at h4; cases h4
                · rw [set_ne (by decide)] at h ⊢; exact hS6 h
              · obtain rfl := Option.some.inj ho
                have l5 : a.tmps[5]?.getD undef = .slice (some ad) i cc := (Array.getD_eq_getD_getElem? ..).symm.trans (hold 15 _ 5 (by kernel_rfl) rfl rfl)
                exact ⟨rfl, .inl ⟨x, w', fun _ _ => rfl, by simp [execOp, Act.eval, l5, go_sem], K (by decide) (by decide) (by decide) (by decide) (by decide)⟩⟩
              · obtain rfl := Option.some.inj ho
                exact ⟨rfl, .inl ⟨x, w', fun _ _ => rfl, by simp [execOp, Act.eval, l7, go_sem], K (by decide) (by decide) (by decide) (by decide) (by decide)⟩⟩
              · obtain rfl := Option.some.inj ho
                have e34 : a.tmps[34]?.getD undef = .slice (some ad) i cc := D 1 _ 34 (by kernel_rfl) rfl rfl
                have e35 : a.tmps[35]?.getD undef = .int .i64 (k : Int) := D 2 _ 35 (by kernel_rfl) rfl rfl
                have x1 : a.eval (.tmp 34) = .slice (some ad) i cc := by simp [Act.eval, e34]
                have x2 : a.eval (.tmp 35) = .int .i64 (k : Int) := by simp [Act.eval, e35]
                have hsl : (Instr.sliceAt 30 (a.eval (.tmp 34)) none ((some (Operand.tmp 35)).map a.eval) none).run Tryd.prog w' = .ok (.slice (some ad) k cc) w' := by
                  rw [x1, Option.map_some, x2]; exact slice_h ad _ cc k w' (by omega)
                exact ⟨rfl, .inl ⟨x, w', fun _ _ => rfl, exec_slice rfl hsl, K (by decide) (by decide) (by decide) (by decide) (by decide)⟩⟩
              · obtain rfl := Option.some.inj ho
                have e33 : a.tmps[33]?.getD undef = .slice (some ⟨x.1, 0, none⟩) 0 0 := D 0 _ 33 (by kernel_rfl) rfl rfl
                have e36 : a.tmps[36]?.getD undef = .slice (some ad) k cc := D 3 _ 36 (by kernel_rfl) rfl rfl
                have x1 : a.eval (.tmp 33) = .slice (some ⟨x.1, 0, none⟩) 0 0 := by simp [Act.eval, e33]
                have x2 : a.eval (.tmp 36) = .slice (some ad) k cc := by simp [Act.eval, e36]
                have hown := hS1 (hLd 0 (by kernel_rfl)) hLi
                obtain ⟨v', w'', hrun, hown', hgrow, hnil⟩ := run_append_own (P := Tryd.prog) w' w1.heap.size 30 30 3 i0 (.int .i64 0) 1 8 Tryd.underlying30 hi hz0 hz1 hz2 rfl (by decide) (.slice (some ⟨x.1, 0, none⟩) 0 0) 0 _ hown ad k cc (ic (out.take k)) (by rw [ic_len]; simp; omega) (head_srcS (HRW.out.below hS0)) ic_one (by unfold maxLen; omega) (by omega) hS0.size
                have hbz : Below w1.heap.size w1 w'' := hS0.grown hgrow hS0.size (fun b hb => (hown.lt b hb).1)
                refine ⟨rfl, .inl ⟨(x.1, v', x.2.2), w'', fun j hj => ?_, exec_append rfl x1 x2 hrun, hbz, (fun _ h => ?_), (fun _ _ => ?_), (fun h h' => ?_), (fun h => ?_), (fun h => ?_), fun _ => ?_⟩⟩
                · have n4 : j ≠ 4 := fun e => by subst e; rw [hLi] at hj; cases hj
                  exact but_i4 j n4
                · rw [set_eq (by rw [hLs]; decide)] at h; cases h
                · rw [List.nil_append, Nat.zero_add] at hown'; exact hown'
                · rw [set_ne (by decide)] at h h'
                  have hB := hS3 h h'
                  refine (hgrow.block _ hB.lt fun e => ?_).trans hB
                  have eg : x.1 = x.2.2.1 := (Option.some.inj e).symm
                  exact empty_neS hown (eg ▸ hB)
                · rw [set_ne (by decide), hLn 10 (by kernel_rfl)] at h; cases h
                · rw [set_ne (by decide)] at h; have h9 := (hS5 h).1; rw [hLn 10 (by kernel_rfl)] at h9; cases h9
                · rw [set_eq (by rw [hLs]; decide)]
              · obtain rfl := Option.some.inj ho
                exact ⟨rfl, .inl ⟨x, w', fun _ _ => rfl, by simp [execOp, Act.eval, l1, go_sem], K (by decide) (by decide) (by decide) (by decide) (by decide)⟩⟩
              · obtain rfl := Option.some.inj ho
                exact ⟨rfl, .inl ⟨x, w', fun _ _ => rfl, by simp [execOp, Act.eval, l6, go_sem], K (by decide) (by decide) (by decide) (by decide) (by decide)⟩⟩
              · obtain rfl := Option.some.inj ho
                have e38 : a.tmps[38]?.getD undef = .slice (some bd) l.length d := D 5 _ 38 (by kernel_rfl) rfl rfl
                have e39 : a.tmps[39]?.getD undef = .int .i64 (i : Int) := D 6 _ 39 (by kernel_rfl) rfl rfl
                exact ⟨rfl, .inl ⟨x, w', fun _ _ => rfl, by simp [execOp, Act.eval, e38, e39, hi0, hi1, go_sem], K (by decide) (by decide) (by decide) (by decide) (by decide)⟩⟩
              · obtain rfl := Option.some.inj ho
                have e40 : a.tmps[40]?.getD undef = .pointer (some (bd.add i)) := D 7 _ 40 (by kernel_rfl) rfl rfl
                have hcw : w'.cell? (bd.add i) = some (.int .i64 xv) := (hS0.cell (p := bd.add i) (by rw [add_block]; exact hbbl)).trans hcb
                exact ⟨rfl, .inl ⟨x, w', fun _ _ => rfl, by simp [execOp, Act.eval, e40, hcw, go_sem], K (by decide) (by decide) (by decide) (by decide) (by decide)⟩⟩
              · obtain rfl := Option.some.inj ho
                have e41 : a.tmps[41]?.getD undef = .int .i64 xv := D 8 _ 41 (by kernel_rfl) rfl rfl
                refine ⟨rfl, .inl ⟨(x.1, x.2.1, w'.heap.size, x.2.2.2), w'.alloc (.cells #[.int .i64 xv] 3), fun j hj => ?_, by simp [execOp, Act.eval, e41, go_sem], hS0.alloc hS0.size _, (fun h h' => ?_), (fun h h' => ?_), (fun _ _ => BlockIs.new _ _ _), (fun h => ?_), (fun h => ?_), fun h => ?_⟩⟩
                · have n6 : j ≠ 9 := fun e => by subst e; rw [hLi] at hj; cases hj
                  exact but_i9 j n6
                · rw [set_ne (by decide)] at h h'; exact (hS1 h h').alloc _
                · rw [set_ne (by decide)] at h h'; exact (hS2 h h').alloc _
                · rw [set_ne (by decide), hLn 10 (by kernel_rfl)] at h; cases h
                · rw [set_ne (by decide)] at h; have h9 := (hS5 h).1; rw [hLn 10 (by kernel_rfl)] at h9; cases h9
                · rw [set_ne (by decide)] at h ⊢; exact hS6 h
              · obtain rfl := Option.some.inj ho
                have e37 : a.tmps[37]?.getD undef = x.2.1 := D 4 _ 37 (by kernel_rfl) rfl rfl
                have e42 : a.tmps[42]?.getD undef = .slice (some ⟨x.2.2.1, 0, none⟩) 1 1 := D 9 _ 42 (by kernel_rfl) rfl rfl
                have x1 : a.eval (.tmp 37) = x.2.1 := by simp [Act.eval, e37]
                have x2 : a.eval (.tmp 42) = .slice (some ⟨x.2.2.1, 0, none⟩) 1 1 := by simp [Act.eval, e42]
                have hown := hS2 (hLd 4 (by kernel_rfl)) hLi
                have hB8 := hS3 (hLd 9 (by kernel_rfl)) hLi
                have hsrc : ∀ j u, (ic [xv])[j]? = some u → w'.cell? ((⟨x.2.2.1, 0, none⟩ : Addr).add j) = some u := fun j u hu => by rw [Addr.add_lit, Nat.zero_add, hB8.cell, ← Array.getElem?_toList]; exact hu
                obtain ⟨v', w'', hrun, hown', hgrow, hnil⟩ := run_append_own (P := Tryd.prog) w' w1.heap.size 30 30 3 i0 (.int .i64 0) 1 8 Tryd.underlying30 hi hz0 hz1 hz2 rfl (by decide) x.2.1 k _ hown ⟨x.2.2.1, 0, none⟩ 1 1 (ic [xv]) rfl hsrc ic_one (by unfold maxLen; omega) (by omega) hS0.size
                have hbz : Below w1.heap.size w1 w'' := hS0.grown hgrow hS0.size (fun b hb => (hown.lt b hb).1)
                refine ⟨rfl, .inl ⟨(x.1, x.2.1, x.2.2.1, v', x.2.2.2.2), w'', fun j hj => ?_, exec_append rfl x1 x2 hrun, hbz, (fun h h' => ?_), (fun _ h => ?_), (fun _ h => ?_), (fun _ _ => ?_), (fun h => ?_), fun _ => ?_⟩⟩
                · have n7 : j ≠ 10 := fun e => by subst e; rw [hLi] at hj; cases hj
                  exact but_i10 j n7
                · rw [set_ne (by decide)] at h'; have h9 := hLd 4 (by kernel_rfl); rw [h9] at h'; cases h'
                · rw [set_eq (by rw [hLs]; decide)] at h; cases h
                · rw [set_eq (by rw [hLs]; decide)] at h; cases h
                · have hx : ic (out.take k) ++ ic [xv] = ic (out.take k ++ [xv]) := by unfold ic; simp
                  rw [hx] at hown'; exact hown'
                · rw [set_ne (by decide), hLn 14 (by kernel_rfl)] at h; cases h
                · rw [set_ne (by decide)]; exact hLd 4 (by kernel_rfl)
              · obtain rfl := Option.some.inj ho
                have l5 : a.tmps[5]?.getD undef = .slice (some ad) i cc := (Array.getD_eq_getD_getElem? ..).symm.trans (hold 15 _ 5 (by kernel_rfl) rfl rfl)
                exact ⟨rfl, .inl ⟨x, w', fun _ _ => rfl, by simp [execOp, Act.eval, l5, go_sem], K (by decide) (by decide) (by decide) (by decide) (by decide)⟩⟩
              · obtain rfl := Option.some.inj ho
                exact ⟨rfl, .inl ⟨x, w', fun _ _ => rfl, by simp [execOp, Act.eval, l7, go_sem], K (by decide) (by decide) (by decide) (by decide) (by decide)⟩⟩
              · obtain rfl := Option.some.inj ho
                have e44 : a.tmps[44]?.getD undef = .slice (some ad) i cc := D 11 _ 44 (by kernel_rfl) rfl rfl
                have e45 : a.tmps[45]?.getD undef = .int .i64 (k : Int) := D 12 _ 45 (by kernel_rfl) rfl rfl
                have x1 : a.eval (.tmp 44) = .slice (some ad) i cc := by simp [Act.eval, e44]
                have x2 : a.eval (.tmp 45) = .int .i64 (k : Int) := by simp [Act.eval, e45]
                have hsl : (Instr.sliceAt 30 (a.eval (.tmp 44)) ((some (Operand.tmp 45)).map a.eval) none none).run Tryd.prog w' = .ok (.slice (some (tailAd ad k cc)) (i - k) (cc - k)) w' := by
                  rw [x1, Option.map_some, x2]; exact slice_l ad _ cc k w' (by omega)
                exact ⟨rfl, .inl ⟨x, w', fun _ _ => rfl, exec_slice rfl hsl, K (by decide) (by decide) (by decide) (by decide) (by decide)⟩⟩
              · obtain rfl := Option.some.inj ho
                have e43 : a.tmps[43]?.getD undef = x.2.2.2.1 := D 10 _ 43 (by kernel_rfl) rfl rfl
                have e46 : a.tmps[46]?.getD undef = .slice (some (tailAd ad k cc)) (i - k) (cc - k) := D 13 _ 46 (by kernel_rfl) rfl rfl
                have x1 : a.eval (.tmp 43) = x.2.2.2.1 := by simp [Act.eval, e43]
                have x2 : a.eval (.tmp 46) = .slice (some (tailAd ad k cc)) (i - k) (cc - k) := by simp [Act.eval, e46]
                have t9 : L.getD 10 true = true := hLd 10 (by kernel_rfl)
                have hown := hS4 t9 hLi
                obtain ⟨v', w'', hrun, hown', hgrow, hnil⟩ := run_append_own (P := Tryd.prog) w' w1.heap.size 30 30 3 i0 (.int .i64 0) 1 8 Tryd.underlying30 hi hz0 hz1 hz2 rfl (by decide) x.2.2.2.1 (k + 1) _ hown (tailAd ad k cc) (i - k) (cc - k) (ic (out.drop k)) (by rw [ic_len]; simp; omega) (tail_src (HRW.out.below hS0) (by omega)) ic_one (by unfold maxLen; omega) (by omega) hS0.size
                have hbz : Below w1.heap.size w1 w'' := hS0.grown hgrow hS0.size (fun b hb => (hown.lt b hb).1)
                refine ⟨rfl, .inl ⟨(x.1, x.2.1, x.2.2.1, x.2.2.2.1, v'), w'', fun j hj => ?_, exec_append rfl x1 x2 hrun, hbz, (fun h h' => ?_), (fun _ h => ?_), (fun _ h => ?_), (fun _ h => ?_), (fun _ => ?_), fun _ => ?_⟩⟩
                · have n11 : j ≠ 14 := fun e => by subst e; rw [hLi] at hj; cases hj
                  have f12 : L.getD 15 true = false := hLn 15 (by kernel_rfl)
                  have n12 : j ≠ 15 := fun e => by subst e; rw [f12] at hj; cases hj
                  exact but_i14 j n11 n12
                · rw [set_ne (by decide), hS6 t9] at h'; cases h'
                · rw [set_ne (by decide), t9] at h; cases h
                · rw [set_ne (by decide), t9] at h; cases h
                · rw [set_eq (by rw [hLs]; decide)] at h; cases h
                · have hx : ic (out.take k ++ [xv]) ++ ic (out.drop k) = ic (out.take k ++ [xv] ++ out.drop k) := by unfold ic; simp
                  rw [hx, show k + 1 + (i - k) = i + 1 by omega] at hown'; exact ⟨by rw [set_ne (by decide)]; exact t9, hown'⟩
                · rw [set_ne (by decide)]; exact hS6 t9
              · obtain rfl := Option.some.inj ho
                have e47 : a.tmps[47]?.getD undef = x.2.2.2.2 := D 14 _ 47 (by kernel_rfl) rfl rfl
                exact ⟨rfl, .inl ⟨x, w', fun _ _ => rfl, by simp [execOp, Act.eval, e47, go_sem], K (by decide) (by decide) (by decide) (by decide) (by decide)⟩⟩
          · have HG2 : Hid (∀ a ∈ out0.take (k + 1), soonB js a xn = true) := fun a ha => by
              rw [List.take_succ_eq_append_getElem hko] at ha
              rcases List.mem_append.1 ha with h | h
              · exact HG.out a h
              · rw [List.mem_singleton.1 h]; exact hsn
            rw [hsn] at HSN
            generalize out0[k] = x0 at *
            clear hx0 hsn hout
            go_wp2
            go_quiet ((go_at_call 58; first | exact Calls.quiet_of (HSN.out _) | exact quiet_in (HSN.out _)))
            all_goals
              go_wp2
              go_roundw
              case rel => exact ⟨k + 1, by omega, by go_num, below_drewN HB.out _, HG2.out⟩
              case measure => simp [intOf]; omega
        · have hki2 : i ≤ k := by omega
          have HF := Lib.hid (HINS.out.trans (insD_at js xn out0 k (by omega) HG.out (fun h => by omega)))
          have dk : decide (k < i) = false := decide_eq_false hki
          go_wp2
          go_quiet (fail)
          go_wp2
          generalize hw1 : wr.drewN nq = w1
          have HRW : Hid (Row w1 (some ad) (ic (natI out0))) := by rw [← hw1]; exact HRow.out.drewN _
          have hbw1 : Below wo.heap.size wo w1 := by rw [← hw1]; exact below_drewN HB.out _
          have HBW := Lib.hid (HW.out.trans (hbw1.mono HW.out.size))
          have hbbl : bd.block < w1.heap.size := by have h1 := lt_of_cell hcb; rw [add_block] at h1; rw [← hw1]; exact h1
          have hcb : w1.cell? (bd.add i) = some (.int .i64 xv) := by rw [← hw1]; exact hcb
          have hcc : i ≤ cc := (slice_some HO.out).2
          have HF2 : Hid (ic ((natI out0).take k ++ [xv] ++ (natI out0).drop k) = ic (natI (dueTo js l (i + 1)))) := by show _ = _; rw [HF.out, hxv.out]; unfold natI; simp
          have hoL : (natI out0).length = out0.length := by unfold natI; simp
          generalize natI out0 = out at *
          have hol1 : out.length ≤ i := by omega
          have hol2 : i ≤ out.length := by omega
          clear hw1 hbw1 hoL HF HINS HG
          refine wp_region_detG (by kernel_rfl) (fun x L w' => Below w1.heap.size w1 w' ∧ (L.getD 0 true = true → L.getD 4 true = false → w'.ownsRow w1.heap.size 3 1 (.slice (some ⟨x.1, 0, none⟩) 0 0) 0 []) ∧ (L.getD 4 true = true → L.getD 10 true = false → w'.ownsRow w1.heap.size 3 1 x.2.1 k (ic (out.take k))) ∧ (L.getD 9 true = true → L.getD 10 true = false → BlockIs w' x.2.2.1 3 #[.int .i64 xv]) ∧ (L.getD 10 true = true → L.getD 14 true = false → w'.ownsRow w1.heap.size 3 1 x.2.2.2.1 (k + 1) (ic (out.take k ++ [xv]))) ∧ (L.getD 14 true = true → L.getD 10 true = true ∧ w'.ownsRow w1.heap.size 3 1 x.2.2.2.2 (i + 1) (ic (out.take k ++ [xv] ++ out.drop k))) ∧ (L.getD 10 true = true → L.getD 4 true = true))
            (fun x kk => #[.slice (some ⟨x.1, 0, none⟩) 0 0, .slice (some ad) i cc, .int .i64 (k : Int), .slice (some ad) k cc, x.2.1, .slice (some bd) l.length d, .int .i64 (i : Int), .pointer (some (bd.add i)), .int .i64 xv, .slice (some ⟨x.2.2.1, 0, none⟩) 1 1, x.2.2.2.1, .slice (some ad) i cc, .int .i64 (k : Int), .slice (some (tailAd ad k cc)) (i - k) (cc - k), x.2.2.2.2, x.2.2.2.2].getD kk undef) (0, undef, 0, undef, undef) (by kernel_rfl) (by kernel_rfl) ⟨(Below.refl _ _).drew, (fun h => by cases h), (fun h => by cases h), (fun h => by cases h), (fun h => by cases h), (fun h => by cases h), fun h => by cases h⟩ ?_ ?_
          · intro x L tm w' hall hS hsz hlow hval
            have ht : tm = #[.slice A js.length c, .slice (some bd) l.length d, undef, undef, .slice none 0 0, x.2.2.2.2, .int .i64 (i : Int), .int .i64 (k : Int), .slice (some ⟨w.heap.size, 0, none⟩) 0 0, .int .i64 (i : Int), .slice (some bd) l.length d, .int .i64 (l.length : Int), .bool true, u13, u14, .int .i64 (k : Int), .slice (some ad) i cc, .int .i64 (i : Int), .bool false, .bool false, undef, undef, undef, undef, undef, undef, undef, undef, undef, undef, .bool false, u31, u32, .slice (some ⟨x.1, 0, none⟩) 0 0, .slice (some ad) i cc, .int .i64 (k : Int), .slice (some ad) k cc, x.2.1, .slice (some bd) l.length d, .int .i64 (i : Int), .pointer (some (bd.add i)), .int .i64 xv, .slice (some ⟨x.2.2.1, 0, none⟩) 1 1, x.2.2.2.1, .slice (some ad) i cc, .int .i64 (k : Int), .slice (some (tailAd ad k cc)) (i - k) (cc - k), x.2.2.2.2, undef] := by
              refine arr_of _ _ hsz fun t ht => ?_
              have ht' : t < 49 := ht
              rcases (by omega : t = 0 ∨ t = 1 ∨ t = 2 ∨ t = 3 ∨ t = 4 ∨ t = 5 ∨ t = 6 ∨ t = 7 ∨ t = 8 ∨ t = 9 ∨ t = 10 ∨ t = 11 ∨ t = 12 ∨ t = 13 ∨ t = 14 ∨ t = 15 ∨ t = 16 ∨ t = 17 ∨ t = 18 ∨ t = 19 ∨ t = 20 ∨ t = 21 ∨ t = 22 ∨ t = 23 ∨ t = 24 ∨ t = 25 ∨ t = 26 ∨ t = 27 ∨ t = 28 ∨ t = 29 ∨ t = 30 ∨ t = 31 ∨ t = 32 ∨ t = 33 ∨ t = 34 ∨ t = 35 ∨ t = 36 ∨ t = 37 ∨ t = 38 ∨ t = 39 ∨ t = 40 ∨ t = 41 ∨ t = 42 ∨ t = 43 ∨ t = 44 ∨ t = 45 ∨ t = 46 ∨ t = 47 ∨ t = 48) with rfl | rfl | rfl | rfl | rfl | rfl | rfl | rfl | rfl | rfl | rfl | rfl | rfl | rfl | rfl | rfl | rfl | rfl | rfl | rfl | rfl | rfl | rfl | rfl | rfl | rfl | rfl | rfl | rfl | rfl | rfl | rfl | rfl | rfl | rfl | rfl | rfl | rfl | rfl | rfl | rfl | rfl | rfl | rfl | rfl | rfl | rfl | rfl | rfl
              · exact hlow 0 (by kernel_rfl)
              · exact hlow 1 (by kernel_rfl)
              · exact hlow 2 (by kernel_rfl)
              · exact hlow 3 (by kernel_rfl)
              · exact hlow 4 (by kernel_rfl)
              · exact hval 15 _ 5 rfl rfl
              · exact hlow 6 (by kernel_rfl)
              · exact hlow 7 (by kernel_rfl)
              · exact hlow 8 (by kernel_rfl)
              · exact hlow 9 (by kernel_rfl)
              · exact hlow 10 (by kernel_rfl)
              · exact hlow 11 (by kernel_rfl)
              · exact hlow 12 (by kernel_rfl)
              · exact hlow 13 (by kernel_rfl)
              · exact hlow 14 (by kernel_rfl)
              · exact hlow 15 (by kernel_rfl)
              · exact hlow 16 (by kernel_rfl)
              · exact hlow 17 (by kernel_rfl)
              · exact hlow 18 (by kernel_rfl)
              · exact hlow 19 (by kernel_rfl)
              · exact hlow 20 (by kernel_rfl)
              · exact hlow 21 (by kernel_rfl)
              · exact hlow 22 (by kernel_rfl)
              · exact hlow 23 (by kernel_rfl)
              · exact hlow 24 (by kernel_rfl)
              · exact hlow 25 (by kernel_rfl)
              · exact hlow 26 (by kernel_rfl)
              · exact hlow 27 (by kernel_rfl)
              · exact hlow 28 (by kernel_rfl)
              · exact hlow 29 (by kernel_rfl)
              · exact hlow 30 (by kernel_rfl)
              · exact hlow 31 (by kernel_rfl)
              · exact hlow 32 (by kernel_rfl)
              · exact hval 0 _ 33 rfl rfl
              · exact hval 1 _ 34 rfl rfl
              · exact hval 2 _ 35 rfl rfl
              · exact hval 3 _ 36 rfl rfl
              · exact hval 4 _ 37 rfl rfl
              · exact hval 5 _ 38 rfl rfl
              · exact hval 6 _ 39 rfl rfl
              · exact hval 7 _ 40 rfl rfl
              · exact hval 8 _ 41 rfl rfl
              · exact hval 9 _ 42 rfl rfl
              · exact hval 10 _ 43 rfl rfl
              · exact hval 11 _ 44 rfl rfl
              · exact hval 12 _ 45 rfl rfl
              · exact hval 13 _ 46 rfl rfl
              · exact hval 14 _ 47 rfl rfl
              · exact hlow 48 (by kernel_rfl)
            subst ht
            clear hlow hval hsz
            obtain ⟨hbz, _, _, _, _, hS5, _⟩ := hS
            have hfin := (hS5 (hall 14 (by decide))).2
            have HO4 := Lib.hid (And.intro hfin hbz)
            clear hS5 hbz hall hfin
            obtain ⟨g4, _, ⟨c4, hx4⟩, _⟩ := own_block2S HO4.out.1 (by omega)
            generalize x.2.2.2.2 = y4 at *
            subst hx4
            rw [HF2.out] at HO4
            clear HF2
            go_wp2
            go_roundw
            case rel => exact ⟨i + 1, ⟨g4, 0, none⟩, c4, by omega, rfl, by go_num, own_lower HO4.out.1 HBW.out.size, HBW.out.trans (HO4.out.2.mono HBW.out.size)⟩
            case measure => simp [intOf]; omega
          · intro x L a w' kk op hLs ho hLi hLd hLn ⟨hS0, hS1, hS2, hS3, hS4, hS5, hS6⟩ hlow hdep hold
            have hkk : kk < 16 := (Array.getElem?_eq_some_iff.1 ho).1
            have l1 : a.tmps[1]?.getD undef = .slice (some bd) l.length d := by rw [← Array.getD_eq_getD_getElem?]; exact hlow 1 (by kernel_rfl)
            have l6 : a.tmps[6]?.getD undef = .int .i64 (i : Int) := by rw [← Array.getD_eq_getD_getElem?]; exact hlow 6 (by kernel_rfl)
            have l7 : a.tmps[7]?.getD undef = .int .i64 (k : Int) := by rw [← Array.getD_eq_getD_getElem?]; exact hlow 7 (by kernel_rfl)
            have D : ∀ j oj d, edgeB _ kk j = true → _ → _ → a.tmps[d]?.getD undef = _ := fun j oj d h1 h2 h3 => (Array.getD_eq_getD_getElem? ..).symm.trans (hdep j oj d h1 h2 h3)
            have K : ∀ {kk : Nat}, kk ≠ 0 → kk ≠ 4 → kk ≠ 9 → kk ≠ 10 → kk ≠ 14 → Below w1.heap.size w1 w' ∧ ((L.setIfInBounds kk true).getD 0 true = true → (L.setIfInBounds kk true).getD 4 true = false → w'.ownsRow w1.heap.size 3 1 (.slice (some ⟨x.1, 0, none⟩) 0 0) 0 []) ∧ ((L.setIfInBounds kk true).getD 4 true = true → (L.setIfInBounds kk true).getD 10 true = false → w'.ownsRow w1.heap.size 3 1 x.2.1 k (ic (out.take k))) ∧ ((L.setIfInBounds kk true).getD 9 true = true → (L.setIfInBounds kk true).getD 10 true = false → BlockIs w' x.2.2.1 3 #[.int .i64 xv]) ∧ ((L.setIfInBounds kk true).getD 10 true = true → (L.setIfInBounds kk true).getD 14 true = false → w'.ownsRow w1.heap.size 3 1 x.2.2.2.1 (k + 1) (ic (out.take k ++ [xv]))) ∧ ((L.setIfInBounds kk true).getD 14 true = true → (L.setIfInBounds kk true).getD 10 true = true ∧ w'.ownsRow w1.heap.size 3 1 x.2.2.2.2 (i + 1) (ic (out.take k ++ [xv] ++ out.drop k))) ∧ ((L.setIfInBounds kk true).getD 10 true = true → (L.setIfInBounds kk true).getD 4 true = true) := fun h0 h4 h6 h7 h11 => ⟨hS0, by rw [set_ne h0, set_ne h4]; exact hS1, by rw [set_ne h4, set_ne h7]; exact hS2, by rw [set_ne h6, set_ne h7]; exact hS3, by rw [set_ne h7, set_ne h11]; exact hS4, by rw [set_ne h11, set_ne h7]; exact hS5, by rw [set_ne h7, set_ne h4]; exact hS6⟩
            rcases (by omega : kk = 0 ∨ kk = 1 ∨ kk = 2 ∨ kk = 3 ∨ kk = 4 ∨ kk = 5 ∨ kk = 6 ∨ kk = 7 ∨ kk = 8 ∨ kk = 9 ∨ kk = 10 ∨ kk = 11 ∨ kk = 12 ∨ kk = 13 ∨ kk = 14 ∨ kk = 15) with rfl | rfl | rfl | rfl | rfl | rfl | rfl | rfl | rfl | rfl | rfl | rfl | rfl | rfl | rfl | rfl
            · obtain rfl := Option.some.inj ho
              refine ⟨rfl, .inl ⟨(w'.heap.size, x.2), w'.alloc (.cells #[] 3), fun j hj => ?_, by simp [execOp, Act.eval, go_sem], hS0.alloc hS0.size _, (fun _ _ => World.ownsRow_made w' #[] 0 hS0.size (by unfold maxLen; omega) rfl), (fun h => ?_), (fun h h' => ?_), (fun h => ?_), (fun h => ?_), fun h => ?_⟩⟩
              · have n0 : j ≠ 0 := fun e => by subst e; rw [hLi] at hj; cases hj
                exact but_i0 j n0
              · rw [set_ne (by decide), hLn 4 (by kernel_rfl)] at h; cases h
              · rw [set_ne (by decide)] at h h'; exact (hS3 h h').below ((Below.refl _ _).alloc (Nat.le_refl _) _)
              · rw [set_ne (by decide)] at h; have h4 := hS6 h; rw [hLn 4 (by kernel_rfl)] at h4; cases h4
              · rw [set_ne (by decide)] at h; have h4 := hS6 (hS5 h).1; rw [hLn 4 (by kernel_rfl)] at h4; cases h4
              · rw [set_ne (by decide)] at h ⊢; exact hS6 h
            · obtain rfl := Option.some.inj ho
              have l5 : a.tmps[5]?.getD undef = .slice (some ad) i cc := (Array.getD_eq_getD_getElem? ..).symm.trans (hold 15 _ 5 (by kernel_rfl) rfl rfl)
              exact ⟨rfl, .inl ⟨x, w', fun _ _ => rfl, by simp [execOp, Act.eval, l5, go_sem], K (by decide) (by decide) (by decide) (by decide) (by decide)⟩⟩
            · obtain rfl := Option.some.inj ho
              exact ⟨rfl, .inl ⟨x, w', fun _ _ => rfl, by simp [execOp, Act.eval, l7, go_sem], K (by decide) (by decide) (by decide) (by decide) (by decide)⟩⟩
            · obtain rfl := Option.some.inj ho
              have e34 : a.tmps[34]?.getD undef = .slice (some ad) i cc := D 1 _ 34 (by kernel_rfl) rfl rfl
              have e35 : a.tmps[35]?.getD undef = .int .i64 (k : Int) := D 2 _ 35 (by kernel_rfl) rfl rfl
              have x1 : a.eval (.tmp 34) = .slice (some ad) i cc := by simp [Act.eval, e34]
              have x2 : a.eval (.tmp 35) = .int .i64 (k : Int) := by simp [Act.eval, e35]
              have hsl : (Instr.sliceAt 30 (a.eval (.tmp 34)) none ((some (Operand.tmp 35)).map a.eval) none).run Tryd.prog w' = .ok (.slice (some ad) k cc) w' := by
                rw [x1, Option.map_some, x2]; exact slice_h ad _ cc k w' (by omega)
              exact ⟨rfl, .inl ⟨x, w', fun _ _ => rfl, exec_slice rfl hsl, K (by decide) (by decide) (by decide) (by decide) (by decide)⟩⟩
            · obtain rfl := Option.some.inj ho
              have e33 : a.tmps[33]?.getD undef = .slice (some ⟨x.1, 0, none⟩) 0 0 := D 0 _ 33 (by kernel_rfl) rfl rfl
              have e36 : a.tmps[36]?.getD undef = .slice (some ad) k cc := D 3 _ 36 (by kernel_rfl) rfl rfl
              have x1 : a.eval (.tmp 33) = .slice (some ⟨x.1, 0, none⟩) 0 0 := by simp [Act.eval, e33]
              have x2 : a.eval (.tmp 36) = .slice (some ad) k cc := by simp [Act.eval, e36]
              have hown := hS1 (hLd 0 (by kernel_rfl)) hLi
              obtain ⟨v', w'', hrun, hown', hgrow, hnil⟩ := run_append_own (P := Tryd.prog) w' w1.heap.size 30 30 3 i0 (.int .i64 0) 1 8 Tryd.underlying30 hi hz0 hz1 hz2 rfl (by decide) (.slice (some ⟨x.1, 0, none⟩) 0 0) 0 _ hown ad k cc (ic (out.take k)) (by rw [ic_len]; simp; omega) (head_srcS (HRW.out.below hS0)) ic_one (by unfold maxLen; omega) (by omega) hS0.size
              have hbz : Below w1.heap.size w1 w'' := hS0.grown hgrow hS0.size (fun b hb => (hown.lt b hb).1)
              refine ⟨rfl, .inl ⟨(x.1, v', x.2.2), w'', fun j hj => ?_, exec_append rfl x1 x2 hrun, hbz, (fun _ h => ?_), (fun _ _ => ?_), (fun h h' => ?_), (fun h => ?_), (fun h => ?_), fun _ => ?_⟩⟩
              · have n4 : j ≠ 4 := fun e => by subst e; rw [hLi] at hj; cases hj
                exact but_i4 j n4
              · rw [set_eq (by rw [hLs]; decide)] at h; cases h
              · rw [List.nil_append, Nat.zero_add] at hown'; exact hown'
              · rw [set_ne (by decide)] at h h'
                have hB := hS3 h h'
                refine (hgrow.block _ hB.lt fun e => ?_).trans hB
                have eg : x.1 = x.2.2.1 := (Option.some.inj e).symm
                exact empty_neS hown (eg ▸ hB)
              · rw [set_ne (by decide), hLn 10 (by kernel_rfl)] at h; cases h
              · rw [set_ne (by decide)] at h; have h9 := (hS5 h).1; rw [hLn 10 (by kernel_rfl)] at h9; cases h9
              · rw [set_eq (by rw [hLs]; decide)]
            · obtain rfl := Option.some.inj ho
              exact ⟨rfl, .inl ⟨x, w', fun _ _ => rfl, by simp [execOp, Act.eval, l1, go_sem], K (by decide) (by decide) (by decide) (by decide) (by decide)⟩⟩
            · obtain rfl := Option.some.inj ho
              exact ⟨rfl, .inl ⟨x, w', fun _ _ => rfl, by simp [execOp, Act.eval, l6, go_sem], K (by decide) (by decide) (by decide) (by decide) (by decide)⟩⟩
            · obtain rfl := Option.some.inj ho
              have e38 : a.tmps[38]?.getD undef = .slice (some bd) l.length d := D 5 _ 38 (by kernel_rfl) rfl rfl
              have e39 : a.tmps[39]?.getD undef = .int .i64 (i : Int) := D 6 _ 39 (by kernel_rfl) rfl rfl
              exact ⟨rfl, .inl ⟨x, w', fun _ _ => rfl, by simp [execOp, Act.eval, e38, e39, hi0, hi1, go_sem], K (by decide) (by decide) (by decide) (by decide) (by decide)⟩⟩
            · obtain rfl := Option.some.inj ho
              have e40 : a.tmps[40]?.getD undef = .pointer (some (bd.add i)) := D 7 _ 40 (by kernel_rfl) rfl rfl
              have hcw : w'.cell? (bd.add i) = some (.int .i64 xv) := (hS0.cell (p := bd.add i) (by rw [add_block]; exact hbbl)).trans hcb
              exact ⟨rfl, .inl ⟨x, w', fun _ _ => rfl, by simp [execOp, Act.eval, e40, hcw, go_sem], K (by decide) (by decide) (by decide) (by decide) (by decide)⟩⟩
            · obtain rfl := Option.some.inj ho
              have e41 : a.tmps[41]?.getD undef = .int .i64 xv := D 8 _ 41 (by kernel_rfl) rfl rfl
              refine ⟨rfl, .inl ⟨(x.1, x.2.1, w'.heap.size, x.2.2.2), w'.alloc (.cells #[.int .i64 xv] 3), fun j hj => ?_, by simp [execOp, Act.eval, e41, go_sem], hS0.alloc hS0.size _, (fun h h' => ?_), (fun h h' => ?_), (fun _ _ => BlockIs.new _ _ _), (fun h => ?_), (fun h => ?_), fun h => ?_⟩⟩
              · have n6 : j ≠ 9 := fun e => by subst e; rw [hLi] at hj; cases hj
                exact but_i9 j n6
              · rw [set_ne (by decide)] at h h'; exact (hS1 h h').alloc _
              · rw [set_ne (by decide)] at h h'; exact (hS2 h h').alloc _
              · rw [set_ne (by decide), hLn 10 (by kernel_rfl)] at h; cases h
              · rw [set_ne (by decide)] at h; have h9 := (hS5 h).1; rw [hLn 10 (by kernel_rfl)] at h9; cases h9
              · rw [set_ne (by decide)] at h ⊢; exact hS6 h
            · obtain rfl := Option.some.inj ho
              have e37 : a.tmps[37]?.getD undef = x.2.1 := D 4 _ 37 (by kernel_rfl) rfl rfl
              have e42 : a.tmps[42]?.getD undef = .slice (some ⟨x.2.2.1, 0, none⟩) 1 1 := D 9 _ 42 (by kernel_rfl) rfl rfl
              have x1 : a.eval (.tmp 37) = x.2.1 := by simp [Act.eval, e37]
              have x2 : a.eval (.tmp 42) = .slice (some ⟨x.2.2.1, 0, none⟩) 1 1 := by simp [Act.eval, e42]
              have hown := hS2 (hLd 4 (by kernel_rfl)) hLi
              have hB8 := hS3 (hLd 9 (by kernel_rfl)) hLi
              have hsrc : ∀ j u, (ic [xv])[j]? = some u → w'.cell? ((⟨x.2.2.1, 0, none⟩ : Addr).add j) = some u := fun j u hu => by rw [Addr.add_lit, Nat.zero_add, hB8.cell, ← Array.getElem?_toList]; exact hu
              obtain ⟨v', w'', hrun, hown', hgrow, hnil⟩ := run_append_own (P := Tryd.prog) w' w1.heap.size 30 30 3 i0 (.int .i64 0) 1 8 Tryd.underlying30 hi hz0 hz1 hz2 rfl (by decide) x.2.1 k _ hown ⟨x.2.2.1, 0, none⟩ 1 1 (ic [xv]) rfl hsrc ic_one (by unfold maxLen; omega) (by omega) hS0.size
              have hbz : Below w1.heap.size w1 w'' := hS0.grown hgrow hS0.size (fun b hb => (hown.lt b hb).1)
              refine ⟨rfl, .inl ⟨(x.1, x.2.1, x.2.2.1, v', x.2.2.2.2), w'', fun j hj => ?_, exec_append rfl x1 x2 hrun, hbz, (fun h h' => ?_), (fun _ h => ?_), (fun _ h => ?_), (fun _ _ => ?_), (fun h => ?_), fun _ => ?_⟩⟩
              · have n7 : j ≠ 10 := fun e => by subst e; rw [hLi] at hj; cases hj
                exact but_i10 j n7
              · rw [set_ne (by decide)] at h'; have h9 := hLd 4 (by kernel_rfl); rw [h9] at h'; cases h'
              · rw [set_eq (by rw [hLs]; decide)] at h; cases h
              · rw [set_eq (by rw [hLs]; decide)] at h; cases h
              · have hx : ic (out.take k) ++ ic [xv] = ic (out.take k ++ [xv]) := by unfold ic; simp
                rw [hx] at hown'; exact hown'
              · rw [set_ne (by decide), hLn 14 (by kernel_rfl)] at h; cases h
              · rw [set_ne (by decide)]; exact hLd 4 (by kernel_rfl)
            · obtain rfl := Option.some.inj ho
              have l5 : a.tmps[5]?.getD undef = .slice (some ad) i cc := (Array.getD_eq_getD_getElem? ..).symm.trans (hold 15 _ 5 (by kernel_rfl) rfl rfl)
              exact ⟨rfl, .inl ⟨x, w', fun _ _ => rfl, by simp [execOp, Act.eval, l5, go_sem], K (by decide) (by decide) (by decide) (by decide) (by decide)⟩⟩
            · obtain rfl := Option.some.inj ho
              exact ⟨rfl, .inl ⟨x, w', fun _ _ => rfl, by simp [execOp, Act.eval, l7, go_sem], K (by decide) (by decide) (by decide) (by decide) (by decide)⟩⟩
            · obtain rfl := Option.some.inj ho
              have e44 : a.tmps[44]?.getD undef = .slice (some ad) i cc := D 11 _ 44 (by kernel_rfl) rfl rfl
              have e45 : a.tmps[45]?.getD undef = .int .i64 (k : Int) := D 12 _ 45 (by kernel_rfl) rfl rfl
              have x1 : a.eval (.tmp 44) = .slice (some ad) i cc := by simp [Act.eval, e44]
              have x2 : a.eval (.tmp 45) = .int .i64 (k : Int) := by simp [Act.eval, e45]
              have hsl : (Instr.sliceAt 30 (a.eval (.tmp 44)) ((some (Operand.tmp 45)).map a.eval) none none).run Tryd.prog w' = .ok (.slice (some (tailAd ad k cc)) (i - k) (cc - k)) w' := by
                rw [x1, Option.map_some, x2]; exact slice_l ad _ cc k w' (by omega)
              exact ⟨rfl, .inl ⟨x, w', fun _ _ => rfl, exec_slice rfl hsl, K (by decide) (by decide) (by decide) (by decide) (by decide)⟩⟩
            · obtain rfl := Option.some.inj ho
              have e43 : a.tmps[43]?.getD undef = x.2.2.2.1 := D 10 _ 43 (by kernel_rfl) rfl rfl
              have e46 : a.tmps[46]?.getD undef = .slice (some (tailAd ad k cc)) (i - k) (cc - k) := D 13 _ 46 (by kernel_rfl) rfl rfl
              have x1 : a.eval (.tmp 43) = x.2.2.2.1 := by simp [Act.eval, e43]
              have x2 : a.eval (.tmp 46) = .slice (some (tailAd ad k cc)) (i - k) (cc - k) := by simp [Act.eval, e46]
              have t9 : L.getD 10 true = true := hLd 10 (by kernel_rfl)
              have hown := hS4 t9 hLi
              obtain ⟨v', w'', hrun, hown', hgrow, hnil⟩ := run_append_own (P := Tryd.prog) w' w1.heap.size 30 30 3 i0 (.int .i64 0) 1 8 Tryd.underlying30 hi hz0 hz1 hz2 rfl (by decide) x.2.2.2.1 (k + 1) _ hown (tailAd ad k cc) (i - k) (cc - k) (ic (out.drop k)) (by rw [ic_len]; simp; omega) (tail_src (HRW.out.below hS0) (by omega)) ic_one (by unfold maxLen; omega) (by omega) hS0.size
              have hbz : Below w1.heap.size w1 w'' := hS0.grown hgrow hS0.size (fun b hb => (hown.lt b hb).1)
              refine ⟨rfl, .inl ⟨(x.1, x.2.1, x.2.2.1, x.2.2.2.1, v'), w'', fun j hj => ?_, exec_append rfl x1 x2 hrun, hbz, (fun h h' => ?_), (fun _ h => ?_), (fun _ h => ?_), (fun _ h => ?_), (fun _ => ?_), fun _ => ?_⟩⟩
              · have n11 : j ≠ 14 := fun e => by subst e; rw [hLi] at hj; cases hj
                have f12 : L.getD 15 true = false := hLn 15 (by kernel_rfl)
                have n12 : j ≠ 15 := fun e => by subst e; rw [f12] at hj; cases hj
                exact but_i14 j n11 n12
              · rw [set_ne (by decide), hS6 t9] at h'; cases h'
              · rw [set_ne (by decide), t9] at h; cases h
              · rw [set_ne (by decide), t9] at h; cases h
              · rw [set_eq (by rw [hLs]; decide)] at h; cases h
              · have hx : ic (out.take k ++ [xv]) ++ ic (out.drop k) = ic (out.take k ++ [xv] ++ out.drop k) := by unfold ic; simp
                rw [hx, show k + 1 + (i - k) = i + 1 by omega] at hown'; exact ⟨by rw [set_ne (by decide)]; exact t9, hown'⟩
              · rw [set_ne (by decide)]; exact hS6 t9
            · obtain rfl := Option.some.inj ho
              have e47 : a.tmps[47]?.getD undef = x.2.2.2.2 := D 14 _ 47 (by kernel_rfl) rfl rfl
              exact ⟨rfl, .inl ⟨x, w', fun _ _ => rfl, by simp [execOp, Act.eval, e47, go_sem], K (by decide) (by decide) (by decide) (by decide) (by decide)⟩⟩
    · obtain rfl : i = l.length := by omega
      go_wp2
      go_ret
      exact ⟨_, rfl, HO.out, HW.out⟩
end
end Go.Proofs.YtnkoncplfedffaaDoor

namespace Go.Proofs.YtnkoncplfedffaaDoor
open Go.RowKit
end Go.Proofs.YtnkoncplfedffaaDoor

namespace Go.Proofs.YtnkoncplfedffaaDoor
open Go.RowKit
end Go.Proofs.YtnkoncplfedffaaDoor

namespace Go.Proofs.YtnkoncplfedffaaDoor
open Go.RowKit
theorem l2Greatest_any (o : Int) (w : World) : Calls Tryd.prog 113 #[.int .i64 o] w fun e w' => e = .returned (.bool (isTop o)) ∧ w = w' := by
  have HT : Hid (isTop o = decide (o = 1 ∨ o = 4)) := rfl
  by_cases h1 : o = 1
  · subst h1
    go_enter Tryd.func113, Tryd.ntmps113
    go_wp2
    go_ret
    exact ⟨rfl, rfl⟩
  · by_cases h4 : o = 4
    · subst h4
      go_enter Tryd.func113, Tryd.ntmps113
      go_wp2
      go_ret
      exact ⟨rfl, rfl⟩
    · have HF : Hid (isTop o = false) := by show _ = _; rw [HT.out]; exact decide_eq_false (by omega)
      have b1 : (o == 1) = false := by simpa using h1
      have b4 : (o == 4) = false := by simpa using h4
      go_enter Tryd.func113, Tryd.ntmps113
      go_wp2
      go_ret
      exact ⟨by rw [HF.out]; rfl, rfl⟩
set_option maxRecDepth 100000 in
theorem l2Cost_any (j : J) (x o : Int) (w : World) (hj : okJ j = true) (h0 : 0 ≤ x) (h1 : x ≤ 1000) (ho : isObj o = true) (ht : isTop o = false) :
    Calls Tryd.prog 114 #[.agg #[.int .i64 j.t, .int .i64 j.w, .int .i64 j.r, .int .i64 j.d], .int .i64 x, .int .i64 o] w fun e w' => e = .returned (.int .i64 (costOf o j x)) ∧ Below w.heap.size w w' := by
  obtain ⟨_, _, w0, w1, _, _, d0, d1⟩ := okJ_out hj
  have ha : Below w.heap.size w (w.alloc (.cells #[.int .i64 j.t, .int .i64 j.w, .int .i64 j.r, .int .i64 j.d] 50)) := (Below.refl _ _).alloc (Nat.le_refl _) _
  have m1 := mul_bd (c := 1000) w0 w1 h0 h1
  have m2 := mul_bd (b := max (x - j.d) 0) (c := 1000) w0 w1 (by omega) (by omega)
  have HA := Lib.hid ha
  clear ha hj
  rcases obj_cases ho with rfl | rfl | rfl | rfl | rfl | rfl | rfl | rfl
  · cases ht
  · clear ho ht
    have HC := Lib.hid (costOf_2 j x)
    go_enter Tryd.func114, Tryd.ntmps114
    go_wp2_with fail
    refine (l1Most_any _ _ _).mono ?_
    rintro e w2 ⟨rfl, rfl⟩
    go_wp2
    go_ret
    exact ⟨by rw [HC.out]; rfl, HA.out⟩
  · clear ho ht
    have HC := Lib.hid (costOf_3 j x)
    go_enter Tryd.func114, Tryd.ntmps114
    go_wp2_with fail
    refine (l1Most_any _ _ _).mono ?_
    rintro e w2 ⟨rfl, rfl⟩
    go_wp2
    go_ret
    exact ⟨by rw [HC.out]; rfl, HA.out⟩
  · cases ht
  · clear ho ht
    have HC := Lib.hid (costOf_5 j x)
    go_enter Tryd.func114, Tryd.ntmps114
    go_wp2_with fail
    refine (l1Most_any _ _ _).mono ?_
    rintro e w2 ⟨rfl, rfl⟩
    go_wp2
    go_ret
    exact ⟨by rw [HC.out]; rfl, HA.out⟩
  · clear ho ht
    have HC := Lib.hid (costOf_6 j x)
    go_enter Tryd.func114, Tryd.ntmps114
    go_wp2_with fail
    refine (l1Most_any _ _ _).mono ?_
    rintro e w2 ⟨rfl, rfl⟩
    go_wp2
    go_ret
    exact ⟨by rw [HC.out]; rfl, HA.out⟩
  · clear ho ht m1 m2
    have HC := Lib.hid (costOf_7 j x)
    by_cases hz : max (x - j.d) 0 = 0
    · have hb : (max (x - j.d) 0 == 0) = true := by simpa using hz
      have HM : Hid (min (max (x - j.d) 0) 1 = 0) := by show _ = _; omega
      clear hz
      go_enter Tryd.func114, Tryd.ntmps114
      go_wp2_with fail
      refine (l1Most_any _ _ _).mono ?_
      rintro e w2 ⟨rfl, rfl⟩
      have HM0 := HM
      generalize hy : max (x - j.d) 0 = y at HM hb ⊢
      clear hy
      go_wp2
      go_ret
      exact ⟨by rw [HC.out, HM0.out]; rfl, HA.out⟩
    · have hb : (max (x - j.d) 0 == 0) = false := by simpa using hz
      have HM : Hid (min (max (x - j.d) 0) 1 = 1) := by show _ = _; omega
      clear hz
      go_enter Tryd.func114, Tryd.ntmps114
      go_wp2_with fail
      refine (l1Most_any _ _ _).mono ?_
      rintro e w2 ⟨rfl, rfl⟩
      have HM0 := HM
      generalize hy : max (x - j.d) 0 = y at HM hb ⊢
      clear hy
      go_wp2
      go_ret
      exact ⟨by rw [HC.out, HM0.out]; rfl, HA.out⟩
  · clear ho ht m1 m2
    have HC := Lib.hid (costOf_8 j x)
    by_cases hz : max (x - j.d) 0 = 0
    · have hb : (max (x - j.d) 0 == 0) = true := by simpa using hz
      have HM : Hid (min (max (x - j.d) 0) 1 = 0) := by show _ = _; omega
      clear hz
      go_enter Tryd.func114, Tryd.ntmps114
      go_wp2_with fail
      refine (l1Most_any _ _ _).mono ?_
      rintro e w2 ⟨rfl, rfl⟩
      have HM0 := HM
      generalize hy : max (x - j.d) 0 = y at HM hb ⊢
      clear hy
      go_wp2
      go_ret
      exact ⟨by rw [HC.out, HM0.out, Int.mul_zero]; rfl, HA.out⟩
    · have hb : (max (x - j.d) 0 == 0) = false := by simpa using hz
      have HM : Hid (min (max (x - j.d) 0) 1 = 1) := by show _ = _; omega
      clear hz
      go_enter Tryd.func114, Tryd.ntmps114
      go_wp2_with fail
      refine (l1Most_any _ _ _).mono ?_
      rintro e w2 ⟨rfl, rfl⟩
      have HM0 := HM
      generalize hy : max (x - j.d) 0 = y at HM hb ⊢
      clear hy
      go_wp2
      go_ret
      exact ⟨by rw [HC.out, HM0.out, Int.mul_one]; rfl, HA.out⟩
set_option maxRecDepth 100000 in
set_option maxHeartbeats 4000000 in
theorem l2Of_sum (A E : Option Addr) (c d : Nat) (js : List J) (es : List Int) (o : Int) (w : World) (hr : Row w A (jc js)) (hq : Row w E (ic es)) (hg : goodL js = true) (hl : es.length = js.length) (hes : ∀ x ∈ es, 0 ≤ x ∧ x ≤ 1000) (ho : isObj o = true) (ht : isTop o = false) :
    Calls Tryd.prog 87 #[.slice A js.length c, .slice E js.length d, .int .i64 o] w fun e w' => e = .returned (.int .i64 (valOf o js es)) ∧ Below w.heap.size w w' := by
  obtain ⟨h8, hok⟩ := good_out hg
  have HL := Lib.hid hl
  clear hl
  go_enter Tryd.func87, Tryd.ntmps87
  go_wp2
  go_loopw [7, 8] (fun u i wr => ∃ (k : Nat) (v : Int), k ≤ js.length ∧ i = .int .i64 k ∧ u = .int .i64 v ∧ -500 ≤ v ∧ v ≤ 50000 * k ∧ (k = 0 → v = 0) ∧ Hid (valGo o (js.drop k) (es.drop k) k v = valOf o js es) ∧ Below w.heap.size w wr) (fun _ i _ => js.length - (intOf i).toNat)
  case atStart => exact ⟨0, 0, Nat.zero_le _, rfl, rfl, by omega, by omega, fun _ => rfl, rfl, Below.refl _ _⟩
  case round =>
    obtain ⟨k, v, hk, rfl, rfl, hv0, hv1, hvk, hV, hb⟩ := hrel
    by_cases hlt : k < js.length
    · obtain ⟨ad, hA, hbl, hc0, hc1, hc2, hc3⟩ := (hr.below hb).job hlt
      subst hA
      obtain ⟨ae, hE, hec⟩ := (hq.below hb).int (k := k) (by rw [HL.out]; exact hlt)
      have hae := lt_of_cell hec
      rw [add_block] at hae
      subst hE
      have hx := hes _ (List.getElem_mem (l := es) (n := k) (by rw [HL.out]; exact hlt))
      have hokj := hok _ (List.getElem_mem hlt)
      have HV2 : Hid (valGo o (js.drop (k + 1)) (es.drop (k + 1)) (k + 1) (extOf o k v (costOf o js[k] (es[k]'(by rw [HL.out]; exact hlt)))) = valOf o js es) := by
        show _ = _
        rw [← valGo_drop o js es k v hlt (by rw [HL.out]; exact hlt)]; exact hV.out
      have hcb := cost_bd ho hokj hx.1 hx.2
      have heb := ext_bd (o := o) (k := k) hv0 hv1 hcb.1 hcb.2.1 hcb.2.2
      have hk0 : (0 : Int) ≤ k := by omega
      have hk1 : (k : Int) < js.length := by omega
      have hev : extOf o k v (costOf o js[k] (es[k]'(by rw [HL.out]; exact hlt))) = v + costOf o js[k] (es[k]'(by rw [HL.out]; exact hlt)) := by
        unfold extOf
        by_cases h0 : k = 0
        · rw [if_pos h0, hvk h0]; omega
        · rw [if_neg h0, ht]; rfl
      rw [hev] at HV2 heb
      clear hev
      have hcost : ∀ w1 : World, Calls Tryd.prog 114 #[.agg #[.int .i64 js[k].t, .int .i64 js[k].w, .int .i64 js[k].r, .int .i64 js[k].d], .int .i64 (es[k]'(by rw [HL.out]; exact hlt)), .int .i64 o] w1 fun e w' => e = .returned (.int .i64 (costOf o js[k] (es[k]'(by rw [HL.out]; exact hlt)))) ∧ Below w1.heap.size w1 w' := fun w1 => l2Cost_any js[k] _ o w1 hokj hx.1 hx.2 ho ht
      have Hb := Lib.hid hb
      clear hV hb hr hq hvk hokj hx
      generalize costOf o js[k] (es[k]'(by rw [HL.out]; exact hlt)) = cc at *
      generalize es[k]'(by rw [HL.out]; exact hlt) = x at *
      generalize js[k] = j at *
      have hadb : (ad.add (k * 4)).block < wr.heap.size := by rw [add_block]; exact hbl
      go_wp2_with fail
      refine (l2Greatest_any o _).mono ?_
      rintro e _ ⟨rfl, rfl⟩
      rw [ht]
      go_wp2
      refine wp_region_det (by kernel_rfl) (fun w' => Below wr.heap.size wr w')
        (fun i => #[.int .i64 v, .slice (some ad) js.length c, .int .i64 (k : Int), .pointer (some (ad.add (k * 4))), .agg #[.int .i64 j.t, .int .i64 j.w, .int .i64 j.r, .int .i64 j.d], .slice (some ae) js.length d, .int .i64 (k : Int), .pointer (some (ae.add k)), .int .i64 x, .int .i64 o, .int .i64 cc, .int .i64 (v + cc), .int .i64 (v + cc)].getD i undef) (by kernel_rfl) (by kernel_rfl) ((Below.refl _ _).drew) ?_ ?_
      · intro tm w' hS hsz hlow hval
        have ht : tm = #[.slice (some ad) js.length c, .slice (some ae) js.length d, .int .i64 o, undef, undef, undef, .int .i64 0, .int .i64 (v + cc), .int .i64 (k : Int), u9, .int .i64 (k : Int), .slice (some ad) js.length c, .int .i64 (js.length : Int), .bool true, u14, u15, .int .i64 o, .bool false, .bool true, .int .i64 v, .slice (some ad) js.length c, .int .i64 (k : Int), .pointer (some (ad.add (k * 4))), .agg #[.int .i64 j.t, .int .i64 j.w, .int .i64 j.r, .int .i64 j.d], .slice (some ae) js.length d, .int .i64 (k : Int), .pointer (some (ae.add k)), .int .i64 x, .int .i64 o, .int .i64 cc, .int .i64 (v + cc), u31, u32, u33, u34, u35, u36, u37, u38, u39, u40, u41, u42, u43, u44, u45, u46, u47, u48, u49, u50, u51, undef] := by
          refine arr_of _ _ hsz fun t ht => ?_
          have ht' : t < 53 := ht
          rcases (by omega : t = 0 ∨ t = 1 ∨ t = 2 ∨ t = 3 ∨ t = 4 ∨ t = 5 ∨ t = 6 ∨ t = 7 ∨ t = 8 ∨ t = 9 ∨ t = 10 ∨ t = 11 ∨ t = 12 ∨ t = 13 ∨ t = 14 ∨ t = 15 ∨ t = 16 ∨ t = 17 ∨ t = 18 ∨ t = 19 ∨ t = 20 ∨ t = 21 ∨ t = 22 ∨ t = 23 ∨ t = 24 ∨ t = 25 ∨ t = 26 ∨ t = 27 ∨ t = 28 ∨ t = 29 ∨ t = 30 ∨ t = 31 ∨ t = 32 ∨ t = 33 ∨ t = 34 ∨ t = 35 ∨ t = 36 ∨ t = 37 ∨ t = 38 ∨ t = 39 ∨ t = 40 ∨ t = 41 ∨ t = 42 ∨ t = 43 ∨ t = 44 ∨ t = 45 ∨ t = 46 ∨ t = 47 ∨ t = 48 ∨ t = 49 ∨ t = 50 ∨ t = 51 ∨ t = 52) with rfl | rfl | rfl | rfl | rfl | rfl | rfl | rfl | rfl | rfl | rfl | rfl | rfl | rfl | rfl | rfl | rfl | rfl | rfl | rfl | rfl | rfl | rfl | rfl | rfl | rfl | rfl | rfl | rfl | rfl | rfl | rfl | rfl | rfl | rfl | rfl | rfl | rfl | rfl | rfl | rfl | rfl | rfl | rfl | rfl | rfl | rfl | rfl | rfl | rfl | rfl | rfl | rfl
          · exact hlow 0 (by kernel_rfl)
          · exact hlow 1 (by kernel_rfl)
          · exact hlow 2 (by kernel_rfl)
          · exact hlow 3 (by kernel_rfl)
          · exact hlow 4 (by kernel_rfl)
          · exact hlow 5 (by kernel_rfl)
          · exact hlow 6 (by kernel_rfl)
          · exact hval 12 _ 7 rfl rfl
          · exact hlow 8 (by kernel_rfl)
          · exact hlow 9 (by kernel_rfl)
          · exact hlow 10 (by kernel_rfl)
          · exact hlow 11 (by kernel_rfl)
          · exact hlow 12 (by kernel_rfl)
          · exact hlow 13 (by kernel_rfl)
          · exact hlow 14 (by kernel_rfl)
          · exact hlow 15 (by kernel_rfl)
          · exact hlow 16 (by kernel_rfl)
          · exact hlow 17 (by kernel_rfl)
          · exact hlow 18 (by kernel_rfl)
          · exact hval 0 _ 19 rfl rfl
          · exact hval 1 _ 20 rfl rfl
          · exact hval 2 _ 21 rfl rfl
          · exact hval 3 _ 22 rfl rfl
          · exact hval 4 _ 23 rfl rfl
          · exact hval 5 _ 24 rfl rfl
          · exact hval 6 _ 25 rfl rfl
          · exact hval 7 _ 26 rfl rfl
          · exact hval 8 _ 27 rfl rfl
          · exact hval 9 _ 28 rfl rfl
          · exact hval 10 _ 29 rfl rfl
          · exact hval 11 _ 30 rfl rfl
          · exact hlow 31 (by kernel_rfl)
          · exact hlow 32 (by kernel_rfl)
          · exact hlow 33 (by kernel_rfl)
          · exact hlow 34 (by kernel_rfl)
          · exact hlow 35 (by kernel_rfl)
          · exact hlow 36 (by kernel_rfl)
          · exact hlow 37 (by kernel_rfl)
          · exact hlow 38 (by kernel_rfl)
          · exact hlow 39 (by kernel_rfl)
          · exact hlow 40 (by kernel_rfl)
          · exact hlow 41 (by kernel_rfl)
          · exact hlow 42 (by kernel_rfl)
          · exact hlow 43 (by kernel_rfl)
          · exact hlow 44 (by kernel_rfl)
          · exact hlow 45 (by kernel_rfl)
          · exact hlow 46 (by kernel_rfl)
          · exact hlow 47 (by kernel_rfl)
          · exact hlow 48 (by kernel_rfl)
          · exact hlow 49 (by kernel_rfl)
          · exact hlow 50 (by kernel_rfl)
          · exact hlow 51 (by kernel_rfl)
          · exact hlow 52 (by kernel_rfl)
        subst ht
        clear hlow hval hsz
        go_wp2
        go_roundw
        case rel => exact ⟨k + 1, v + cc, by omega, by go_num, rfl, heb.1, heb.2, fun h => by omega, HV2, Hb.out.trans (hS.mono Hb.out.size)⟩
        case measure => simp [intOf]; omega
      · intro a w' i op ho hS0 hlow hdep hold
        have hi : i < 13 := (Array.getElem?_eq_some_iff.1 ho).1
        have l0 : a.tmps[0]?.getD undef = .slice (some ad) js.length c := by rw [← Array.getD_eq_getD_getElem?]; exact hlow 0 (by kernel_rfl)
        have l1 : a.tmps[1]?.getD undef = .slice (some ae) js.length d := by rw [← Array.getD_eq_getD_getElem?]; exact hlow 1 (by kernel_rfl)
        have l2 : a.tmps[2]?.getD undef = .int .i64 o := by rw [← Array.getD_eq_getD_getElem?]; exact hlow 2 (by kernel_rfl)
        have l8 : a.tmps[8]?.getD undef = .int .i64 (k : Int) := by rw [← Array.getD_eq_getD_getElem?]; exact hlow 8 (by kernel_rfl)
        have D : ∀ j oj d, edgeB _ i j = true → _ → _ → a.tmps[d]?.getD undef = _ := fun j oj d h1 h2 h3 => (Array.getD_eq_getD_getElem? ..).symm.trans (hdep j oj d h1 h2 h3)
        have g0 := (hS0.cell (p := ad.add (k * 4)) hadb).trans hc0
        have g1 := (hS0.cell (p := ⟨(ad.add (k * 4)).block, (ad.add (k * 4)).off + 1, none⟩) hadb).trans hc1
        have g2 := (hS0.cell (p := ⟨(ad.add (k * 4)).block, (ad.add (k * 4)).off + 2, none⟩) hadb).trans hc2
        have g3 := (hS0.cell (p := ⟨(ad.add (k * 4)).block, (ad.add (k * 4)).off + 3, none⟩) hadb).trans hc3
        have ge := (hS0.cell (p := ae.add k) (by rw [add_block]; exact hae)).trans hec
        rcases (by omega : i = 0 ∨ i = 1 ∨ i = 2 ∨ i = 3 ∨ i = 4 ∨ i = 5 ∨ i = 6 ∨ i = 7 ∨ i = 8 ∨ i = 9 ∨ i = 10 ∨ i = 11 ∨ i = 12) with rfl | rfl | rfl | rfl | rfl | rfl | rfl | rfl | rfl | rfl | rfl | rfl | rfl
        · obtain rfl := Option.some.inj ho
          have l7 : a.tmps[7]?.getD undef = .int .i64 v := (Array.getD_eq_getD_getElem? ..).symm.trans (hold 12 _ 7 (by kernel_rfl) rfl rfl)
          exact ⟨rfl, .inl ⟨w', by simp [execOp, Act.eval, l7, go_sem], hS0⟩⟩
        · obtain rfl := Option.some.inj ho
          exact ⟨rfl, .inl ⟨w', by simp [execOp, Act.eval, l0, go_sem], hS0⟩⟩
        · obtain rfl := Option.some.inj ho
          exact ⟨rfl, .inl ⟨w', by simp [execOp, Act.eval, l8, go_sem], hS0⟩⟩
        · obtain rfl := Option.some.inj ho
          have e20 : a.tmps[20]?.getD undef = .slice (some ad) js.length c := D 1 _ 20 (by kernel_rfl) rfl rfl
          have e21 : a.tmps[21]?.getD undef = .int .i64 (k : Int) := D 2 _ 21 (by kernel_rfl) rfl rfl
          exact ⟨rfl, .inl ⟨w', by simp [execOp, Act.eval, e20, e21, hk0, hk1, go_sem], hS0⟩⟩
        · obtain rfl := Option.some.inj ho
          have e22 : a.tmps[22]?.getD undef = .pointer (some (ad.add (k * 4))) := D 3 _ 22 (by kernel_rfl) rfl rfl
          exact ⟨rfl, .inl ⟨w', by simp [execOp, Act.eval, e22, g0, g1, g2, g3, go_sem], hS0⟩⟩
        · obtain rfl := Option.some.inj ho
          exact ⟨rfl, .inl ⟨w', by simp [execOp, Act.eval, l1, go_sem], hS0⟩⟩
        · obtain rfl := Option.some.inj ho
          exact ⟨rfl, .inl ⟨w', by simp [execOp, Act.eval, l8, go_sem], hS0⟩⟩
        · obtain rfl := Option.some.inj ho
          have e24 : a.tmps[24]?.getD undef = .slice (some ae) js.length d := D 5 _ 24 (by kernel_rfl) rfl rfl
          have e25 : a.tmps[25]?.getD undef = .int .i64 (k : Int) := D 6 _ 25 (by kernel_rfl) rfl rfl
          exact ⟨rfl, .inl ⟨w', by simp [execOp, Act.eval, e24, e25, hk0, hk1, go_sem], hS0⟩⟩
        · obtain rfl := Option.some.inj ho
          have e26 : a.tmps[26]?.getD undef = .pointer (some (ae.add k)) := D 7 _ 26 (by kernel_rfl) rfl rfl
          exact ⟨rfl, .inl ⟨w', by simp [execOp, Act.eval, e26, ge, go_sem], hS0⟩⟩
        · obtain rfl := Option.some.inj ho
          exact ⟨rfl, .inl ⟨w', by simp [execOp, Act.eval, l2, go_sem], hS0⟩⟩
        · obtain rfl := Option.some.inj ho
          have e23 : a.tmps[23]?.getD undef = .agg #[.int .i64 j.t, .int .i64 j.w, .int .i64 j.r, .int .i64 j.d] := D 4 _ 23 (by kernel_rfl) rfl rfl
          have e27 : a.tmps[27]?.getD undef = .int .i64 x := D 8 _ 27 (by kernel_rfl) rfl rfl
          have e28 : a.tmps[28]?.getD undef = .int .i64 o := D 9 _ 28 (by kernel_rfl) rfl rfl
          refine ⟨rfl, .inr ⟨114, #[.agg #[.int .i64 j.t, .int .i64 j.w, .int .i64 j.r, .int .i64 j.d], .int .i64 x, .int .i64 o], by simp [execOp, Act.eval, e23, e27, e28, go_sem], (hcost w').mono ?_⟩⟩
          rintro e w'' ⟨rfl, hb2⟩
          exact ⟨rfl, hS0.trans (hb2.mono hS0.size)⟩
        · obtain rfl := Option.some.inj ho
          have e19 : a.tmps[19]?.getD undef = .int .i64 v := D 0 _ 19 (by kernel_rfl) rfl rfl
          have e29 : a.tmps[29]?.getD undef = .int .i64 cc := D 10 _ 29 (by kernel_rfl) rfl rfl
          exact ⟨rfl, .inl ⟨w', by simp [execOp, Act.eval, e19, e29, go_sem]; exact IntWalk.i64_in _ (by omega), hS0⟩⟩
        · obtain rfl := Option.some.inj ho
          have e30 : a.tmps[30]?.getD undef = .int .i64 (v + cc) := D 11 _ 30 (by kernel_rfl) rfl rfl
          exact ⟨rfl, .inl ⟨w', by simp [execOp, Act.eval, e30, go_sem], hS0⟩⟩
    · obtain rfl : k = js.length := by omega
      have hV' := hV.out
      rw [valGo_end o js es js.length v (Nat.le_refl _)] at hV'
      have HV' := Lib.hid hV'
      clear hV hV'
      go_wp2
      go_ret
      exact ⟨by rw [← HV'.out]; rfl, hb⟩
set_option maxRecDepth 100000 in
set_option maxHeartbeats 4000000 in
theorem l2Of_top1 (A E : Option Addr) (c d : Nat) (js : List J) (es : List Int) (w : World) (hr : Row w A (jc js)) (hq : Row w E (ic es)) (hg : goodL js = true) (hl : es.length = js.length) (hes : ∀ x ∈ es, 0 ≤ x ∧ x ≤ 1000) :
    Calls Tryd.prog 87 #[.slice A js.length c, .slice E js.length d, .int .i64 1] w fun e w' => e = .returned (.int .i64 (valOf 1 js es)) ∧ Below w.heap.size w w' := by
  obtain ⟨h8, hok⟩ := good_out hg
  have HL := Lib.hid hl
  clear hl
  go_enter Tryd.func87, Tryd.ntmps87
  go_wp2
  go_loopw [7, 8] (fun u i wr => ∃ (k : Nat) (v : Int), k ≤ js.length ∧ i = .int .i64 k ∧ u = .int .i64 v ∧ -500 ≤ v ∧ v ≤ 50000 * k ∧ (k = 0 → v = 0) ∧ Hid (valGo 1 (js.drop k) (es.drop k) k v = valOf 1 js es) ∧ Below w.heap.size w wr) (fun _ i _ => js.length - (intOf i).toNat)
  case atStart => exact ⟨0, 0, Nat.zero_le _, rfl, rfl, by omega, by omega, fun _ => rfl, rfl, Below.refl _ _⟩
  case round =>
    obtain ⟨k, v, hk, rfl, rfl, hv0, hv1, hvk, hV, hb⟩ := hrel
    by_cases hlt : k < js.length
    · obtain ⟨ad, hA, hbl, hc0, hc1, hc2, hc3⟩ := (hr.below hb).job hlt
      subst hA
      obtain ⟨ae, hE, hec⟩ := (hq.below hb).int (k := k) (by rw [HL.out]; exact hlt)
      have hae := lt_of_cell hec
      rw [add_block] at hae
      subst hE
      have hx := hes _ (List.getElem_mem (l := es) (n := k) (by rw [HL.out]; exact hlt))
      have hokj := hok _ (List.getElem_mem hlt)
      have HV2 : Hid (valGo 1 (js.drop (k + 1)) (es.drop (k + 1)) (k + 1) (extOf 1 k v (costOf 1 js[k] (es[k]'(by rw [HL.out]; exact hlt)))) = valOf 1 js es) := by
        show _ = _
        rw [← valGo_drop 1 js es k v hlt (by rw [HL.out]; exact hlt)]; exact hV.out
      have hcb := cost_bd (show isObj 1 = true from rfl) hokj hx.1 hx.2
      have heb := ext_bd (o := 1) (k := k) hv0 hv1 hcb.1 hcb.2.1 hcb.2.2
      have hk0 : (0 : Int) ≤ k := by omega
      have hk1 : (k : Int) < js.length := by omega
      have HE : Hid (extOf 1 k v (costOf 1 js[k] (es[k]'(by rw [HL.out]; exact hlt))) = if k = 0 then costOf 1 js[k] (es[k]'(by rw [HL.out]; exact hlt)) else max v (costOf 1 js[k] (es[k]'(by rw [HL.out]; exact hlt)))) := rfl
      have HCO := Lib.hid (costOf_1 js[k] (es[k]'(by rw [HL.out]; exact hlt)))
      rw [HCO.out] at HE HV2 heb hcb
      obtain ⟨_, _, _, _, _, _, dd0, dd1⟩ := okJ_out hokj
      clear hV hr hq hvk hokj HCO
      generalize extOf 1 k v _ = ev at *
      generalize es[k]'(by rw [HL.out]; exact hlt) = x at *
      generalize js[k] = j at *
      obtain ⟨he0, he1⟩ := heb
      obtain ⟨hx0, hx1⟩ := hx
      obtain ⟨hq0, hq1, _⟩ := hcb
      by_cases hz : k = 0
      · have hev : x = ev := by rw [HE.out, if_pos hz]
        subst hev
        have hkz : ((k : Int) == 0) = true := by simp; omega
        have HZ := Lib.hid hz
        clear HE hz
        go_wp2_with fail
        refine (l2Greatest_any 1 _).mono ?_
        rintro e _ ⟨rfl, rfl⟩
        rw [show isTop 1 = true from rfl]
        go_wp2
        go_roundw
        case rel => exact ⟨k + 1, x, by omega, by go_num, rfl, by omega, by omega, fun h => by omega, HV2, hb⟩
        case measure => simp [intOf]; omega
      · have hev : ev = max v (x) := by rw [HE.out, if_neg hz]
        clear HE
        have hkz : ((k : Int) == 0) = false := by simp; omega
        by_cases hcmp : v < x
        · have hev2 : x = ev := by omega
          subst hev2
          clear hev
          go_wp2_with fail
          refine (l2Greatest_any 1 _).mono ?_
          rintro e _ ⟨rfl, rfl⟩
          rw [show isTop 1 = true from rfl]
          go_wp2
          go_roundw
          case rel => exact ⟨k + 1, x, by omega, by go_num, rfl, by omega, by omega, fun h => by omega, HV2, hb⟩
          case measure => simp [intOf]; omega
        · have hev2 : v = ev := by omega
          subst hev2
          clear hev
          go_wp2_with fail
          refine (l2Greatest_any 1 _).mono ?_
          rintro e _ ⟨rfl, rfl⟩
          rw [show isTop 1 = true from rfl]
          go_wp2
          go_roundw
          case rel => exact ⟨k + 1, v, by omega, by go_num, rfl, by omega, by omega, fun h => by omega, HV2, hb⟩
          case measure => simp [intOf]; omega
    · obtain rfl : k = js.length := by omega
      have hV' := hV.out
      rw [valGo_end 1 js es js.length v (Nat.le_refl _)] at hV'
      have HV' := Lib.hid hV'
      clear hV hV'
      go_wp2
      go_ret
      exact ⟨by rw [← HV'.out]; rfl, hb⟩
set_option maxRecDepth 100000 in
set_option maxHeartbeats 4000000 in
theorem l2Of_top4 (A E : Option Addr) (c d : Nat) (js : List J) (es : List Int) (w : World) (hr : Row w A (jc js)) (hq : Row w E (ic es)) (hg : goodL js = true) (hl : es.length = js.length) (hes : ∀ x ∈ es, 0 ≤ x ∧ x ≤ 1000) :
    Calls Tryd.prog 87 #[.slice A js.length c, .slice E js.length d, .int .i64 4] w fun e w' => e = .returned (.int .i64 (valOf 4 js es)) ∧ Below w.heap.size w w' := by
  obtain ⟨h8, hok⟩ := good_out hg
  have HL := Lib.hid hl
  clear hl
  go_enter Tryd.func87, Tryd.ntmps87
  go_wp2
  go_loopw [7, 8] (fun u i wr => ∃ (k : Nat) (v : Int), k ≤ js.length ∧ i = .int .i64 k ∧ u = .int .i64 v ∧ -500 ≤ v ∧ v ≤ 50000 * k ∧ (k = 0 → v = 0) ∧ Hid (valGo 4 (js.drop k) (es.drop k) k v = valOf 4 js es) ∧ Below w.heap.size w wr) (fun _ i _ => js.length - (intOf i).toNat)
  case atStart => exact ⟨0, 0, Nat.zero_le _, rfl, rfl, by omega, by omega, fun _ => rfl, rfl, Below.refl _ _⟩
  case round =>
    obtain ⟨k, v, hk, rfl, rfl, hv0, hv1, hvk, hV, hb⟩ := hrel
    by_cases hlt : k < js.length
    · obtain ⟨ad, hA, hbl, hc0, hc1, hc2, hc3⟩ := (hr.below hb).job hlt
      subst hA
      obtain ⟨ae, hE, hec⟩ := (hq.below hb).int (k := k) (by rw [HL.out]; exact hlt)
      have hae := lt_of_cell hec
      rw [add_block] at hae
      subst hE
      have hx := hes _ (List.getElem_mem (l := es) (n := k) (by rw [HL.out]; exact hlt))
      have hokj := hok _ (List.getElem_mem hlt)
      have HV2 : Hid (valGo 4 (js.drop (k + 1)) (es.drop (k + 1)) (k + 1) (extOf 4 k v (costOf 4 js[k] (es[k]'(by rw [HL.out]; exact hlt)))) = valOf 4 js es) := by
        show _ = _
        rw [← valGo_drop 4 js es k v hlt (by rw [HL.out]; exact hlt)]; exact hV.out
      have hcb := cost_bd (show isObj 4 = true from rfl) hokj hx.1 hx.2
      have heb := ext_bd (o := 4) (k := k) hv0 hv1 hcb.1 hcb.2.1 hcb.2.2
      have hk0 : (0 : Int) ≤ k := by omega
      have hk1 : (k : Int) < js.length := by omega
      have HE : Hid (extOf 4 k v (costOf 4 js[k] (es[k]'(by rw [HL.out]; exact hlt))) = if k = 0 then costOf 4 js[k] (es[k]'(by rw [HL.out]; exact hlt)) else max v (costOf 4 js[k] (es[k]'(by rw [HL.out]; exact hlt)))) := rfl
      have HCO := Lib.hid (costOf_4 js[k] (es[k]'(by rw [HL.out]; exact hlt)))
      rw [HCO.out] at HE HV2 heb hcb
      obtain ⟨_, _, _, _, _, _, dd0, dd1⟩ := okJ_out hokj
      clear hV hr hq hvk hokj HCO
      generalize extOf 4 k v _ = ev at *
      generalize es[k]'(by rw [HL.out]; exact hlt) = x at *
      generalize js[k] = j at *
      obtain ⟨he0, he1⟩ := heb
      obtain ⟨hx0, hx1⟩ := hx
      obtain ⟨hq0, hq1, _⟩ := hcb
      by_cases hz : k = 0
      · have hev : x - j.d = ev := by rw [HE.out, if_pos hz]
        subst hev
        have hkz : ((k : Int) == 0) = true := by simp; omega
        have HZ := Lib.hid hz
        clear HE hz
        go_wp2_with fail
        refine (l2Greatest_any 4 _).mono ?_
        rintro e _ ⟨rfl, rfl⟩
        rw [show isTop 4 = true from rfl]
        go_wp2
        go_roundw
        case rel => exact ⟨k + 1, x - j.d, by omega, by go_num, rfl, by omega, by omega, fun h => by omega, HV2, hb⟩
        case measure => simp [intOf]; omega
      · have hev : ev = max v (x - j.d) := by rw [HE.out, if_neg hz]
        clear HE
        have hkz : ((k : Int) == 0) = false := by simp; omega
        by_cases hcmp : v < x - j.d
        · have hev2 : x - j.d = ev := by omega
          subst hev2
          clear hev
          go_wp2_with fail
          refine (l2Greatest_any 4 _).mono ?_
          rintro e _ ⟨rfl, rfl⟩
          rw [show isTop 4 = true from rfl]
          go_wp2
          go_roundw
          case rel => exact ⟨k + 1, x - j.d, by omega, by go_num, rfl, by omega, by omega, fun h => by omega, HV2, hb⟩
          case measure => simp [intOf]; omega
        · have hev2 : v = ev := by omega
          subst hev2
          clear hev
          go_wp2_with fail
          refine (l2Greatest_any 4 _).mono ?_
          rintro e _ ⟨rfl, rfl⟩
          rw [show isTop 4 = true from rfl]
          go_wp2
          go_roundw
          case rel => exact ⟨k + 1, v, by omega, by go_num, rfl, by omega, by omega, fun h => by omega, HV2, hb⟩
          case measure => simp [intOf]; omega
    · obtain rfl : k = js.length := by omega
      have hV' := hV.out
      rw [valGo_end 4 js es js.length v (Nat.le_refl _)] at hV'
      have HV' := Lib.hid hV'
      clear hV hV'
      go_wp2
      go_ret
      exact ⟨by rw [← HV'.out]; rfl, hb⟩
theorem l2Of_any (A E : Option Addr) (c d : Nat) (js : List J) (es : List Int) (o : Int) (w : World) (hr : Row w A (jc js)) (hq : Row w E (ic es)) (hg : goodL js = true) (hl : es.length = js.length) (hes : ∀ x ∈ es, 0 ≤ x ∧ x ≤ 1000) (ho : isObj o = true) :
    Calls Tryd.prog 87 #[.slice A js.length c, .slice E js.length d, .int .i64 o] w fun e w' => e = .returned (.int .i64 (valOf o js es)) ∧ Below w.heap.size w w' := by
  rcases obj_cases ho with rfl | rfl | rfl | rfl | rfl | rfl | rfl | rfl
  · exact l2Of_top1 A E c d js es w hr hq hg hl hes
  · exact l2Of_sum A E c d js es 2 w hr hq hg hl hes ho rfl
  · exact l2Of_sum A E c d js es 3 w hr hq hg hl hes ho rfl
  · exact l2Of_top4 A E c d js es w hr hq hg hl hes
  · exact l2Of_sum A E c d js es 5 w hr hq hg hl hes ho rfl
  · exact l2Of_sum A E c d js es 6 w hr hq hg hl hes ho rfl
  · exact l2Of_sum A E c d js es 7 w hr hq hg hl hes ho rfl
  · exact l2Of_sum A E c d js es 8 w hr hq hg hl hes ho rfl
end Go.Proofs.YtnkoncplfedffaaDoor

namespace Go.Proofs.YtnkoncplfedffaaDoor
open Go.RowKit
theorem endsR_bd {js : List J} {o : List Int} (ht : twoB js o = true) : ∀ x ∈ endsL js (natsOf o), 0 ≤ x ∧ x ≤ 1000 := by
  obtain ⟨hg, p, _, hp, hpn⟩ := two_out ht
  rw [hpn]; exact endsL_bd hg hp
section
variable (A B : Option Addr) (c d : Nat) (js : List J) (o : List Int) (ob : Int) (w : World) (hr : Row w A (jc js)) (hq : Row w B (ic o))
include hr hq
theorem l2Value_any (ht : twoB js o = true) (ho : isObj ob = true) : Calls Tryd.prog 66 #[.slice A js.length c, .slice B o.length d, .int .i64 ob] w fun e w' => e = .returned (.int .i64 (valOf ob js (endsL js (natsOf o)))) ∧ Below w.heap.size w w' := by
  have hl := endsL_len js (natsOf o)
  have hg := (two_out ht).1
  have h8 := (good_out hg).1
  have HG := Lib.hid (And.intro hg (And.intro hl (endsR_bd ht)))
  clear hl hg
  go_enter Tryd.func66, Tryd.ntmps66
  go_wp2_with fail
  refine (l2Ends_o A B c d js o _ hr hq ht).mono ?_
  rintro e w2 ⟨g, rfl, hg2, hB2, hb2⟩
  have HQ := Lib.hid (seg_of_block hB2 (Nat.zero_le _) (by rw [HG.out.2.1]; unfold maxLen; omega)).row
  have HB := Lib.hid hb2
  clear hB2 hb2
  go_wp2_with fail
  refine (l2Of_any A (some ⟨g, 0, none⟩) c js.length js (endsL js (natsOf o)) ob _ (hr.below HB.out) HQ.out HG.out.1 HG.out.2.1 HG.out.2.2 ho).mono ?_
  rintro e w3 ⟨rfl, hb3⟩
  go_wp2
  go_ret
  exact ⟨rfl, HB.out.trans (hb3.mono HB.out.size)⟩
end
end Go.Proofs.YtnkoncplfedffaaDoor

namespace Go.Proofs.YtnkoncplfedffaaDoor
open Go.RowKit
def earlyR (js : List J) : Int × Bool := if plainL js then (latL js (dueL js (List.range js.length)), true) else (0, false)
theorem two_due {js : List J} (hg : goodL js = true) : twoB js (natI (dueL js (List.range js.length))) = true ∧ valOf 4 js (endsL js (natsOf (natI (dueL js (List.range js.length))))) = latL js (dueL js (List.range js.length)) := by
  have hp := dueL_perm js (List.range js.length)
  refine ⟨by unfold twoB natI; rw [hg, Bool.true_and]; exact ord_of_perm hp (good_out hg).1, ?_⟩
  rw [natsOf_natI, partV_full 4 js hp]; rfl
section
variable (A : Option Addr) (c : Nat) (js : List J) (w : World) (hr : Row w A (jc js))
include hr
set_option maxRecDepth 100000 in
theorem l6Latest_any (hg : goodL js = true) : Calls Tryd.prog 46 #[.slice A js.length c] w fun e w' => e = .returned (.int .i64 (latL js (dueL js (List.range js.length)))) ∧ Below w.heap.size w w' := by
  have h8 := (good_out hg).1
  obtain ⟨h2, hv⟩ := two_due hg
  have HQ : Hid (∀ (B : Option Addr) (d : Nat) (w' : World), Below w.heap.size w w' → Row w' B (ic (natI (List.range js.length))) → Calls Tryd.prog 39 #[.slice A js.length c, .slice B js.length d] w' fun e w'' => ∃ v, e = .returned v ∧ w''.ownsRow w'.heap.size 3 1 v js.length (ic (natI (dueL js (List.range js.length)))) ∧ Below w'.heap.size w' w'') := fun B d w' hb hrw => by
    have h := l6Due_any A B c d js (List.range js.length) w' (hr.below hb) hrw (fun x hx => List.mem_range.1 hx) (by rw [List.length_range]; exact h8)
    rw [List.length_range] at h
    exact h
  have HV : Hid (∀ (B : Option Addr) (d : Nat) (w' : World), Below w.heap.size w w' → Row w' B (ic (natI (dueL js (List.range js.length)))) → Calls Tryd.prog 66 #[.slice A js.length c, .slice B js.length d, .int .i64 4] w' fun e w'' => e = .returned (.int .i64 (latL js (dueL js (List.range js.length)))) ∧ Below w'.heap.size w' w'') := fun B d w' hb hrw => by
    have h := l2Value_any A B c d js (natI (dueL js (List.range js.length))) 4 w' (hr.below hb) hrw h2 rfl
    rw [hv, show (natI (dueL js (List.range js.length))).length = js.length by unfold natI; rw [List.length_map, dueL_len, List.length_range]] at h
    exact h
  clear h2 hv hg
  go_enter Tryd.func46, Tryd.ntmps46
  go_wp2_with fail
  refine (l6All_any A js.length c h8 _).mono ?_
  rintro e w2 ⟨v, rfl, hown, hb2⟩
  obtain ⟨B, d, rfl, _, hrow⟩ := own_slice hown
  have HC := Lib.hid (HQ.out B d w2 hb2 hrow)
  have HB := Lib.hid hb2
  clear hown hrow hb2 HQ
  go_wp2_with fail
  refine HC.out.mono ?_
  rintro e w3 ⟨v, rfl, hown, hb3⟩
  obtain ⟨B3, d3, rfl, _, hrow⟩ := own_slice hown
  have hb23 := HB.out.trans (hb3.mono HB.out.size)
  have HC2 := Lib.hid (HV.out B3 d3 w3 hb23 hrow)
  have HB3 := Lib.hid hb23
  clear hown hrow hb3 hb23 HV HC
  go_wp2_with fail
  refine HC2.out.mono ?_
  rintro e w4 ⟨rfl, hb4⟩
  have HB4 := Lib.hid (HB3.out.trans (hb4.mono HB3.out.size))
  clear hb4
  go_wp2
  go_ret
  exact ⟨rfl, HB4.out⟩
theorem spec_EarliestLatest (hn : js.length ≤ 10000000) : Calls Tryd.prog 23 #[.slice A js.length c] w (RetNB w (earlyR js)) := by
  have HR : Hid (earlyR js = if plainL js then (latL js (dueL js (List.range js.length)), true) else (0, false)) := rfl
  cases hp : plainL js
  · rw [hp] at HR
    go_enter Tryd.func23, Tryd.ntmps23
    go_wp2_with fail
    refine (l6Good_any A c js _ hr (by omega)).mono ?_
    rintro e w1 ⟨rfl, hb1⟩
    rw [hp]
    go_wp2
    go_ret2
    exact ⟨by rw [HR.out]; rfl, hb1⟩
  · rw [hp] at HR
    have hg := plain_good hp
    go_enter Tryd.func23, Tryd.ntmps23
    go_wp2_with fail
    refine (l6Good_any A c js _ hr (by omega)).mono ?_
    rintro e w1 ⟨rfl, hb1⟩
    rw [hp]
    go_wp2_with fail
    refine (l6Latest_any A c js _ (hr.below hb1) hg).mono ?_
    rintro e w2 ⟨rfl, hb2⟩
    go_wp2
    go_ret2
    exact ⟨by rw [HR.out]; rfl, hb1.trans (hb2.mono hb1.size)⟩
set_option maxRecDepth 100000 in
theorem impl_EarliestLatest (hn : js.length ≤ 10000000) (hT : TzTab w) : Calls Tryd.prog 24 #[.slice A js.length c] w (RetNB w (earlyR js)) := by
  have HR : Hid (earlyR js = if plainL js then (latL js (dueL js (List.range js.length)), true) else (0, false)) := rfl
  have HT := Lib.hid hT
  clear hT
  go_enter Tryd.func24, Tryd.ntmps24
  go_wp2_with fail
  refine (plainListOf_any A c js w hr (by omega)).mono ?_
  rintro e w1 ⟨hb1, ⟨hp, rfl⟩ | ⟨hp, rfl⟩⟩
  · rw [hp] at HR
    obtain ⟨h8, hok⟩ := good_out (plain_good hp)
    have hpw := pow_lt js.length (by omega)
    have HC := Lib.hid (latest_any A c js w1 (hr.below hb1) hok h8 (plain_zero hp) (2 ^ js.length - 1) hpw (fun k hk => all_bit (by omega) hk) (HT.out.below hb1))
    rw [memB_all js.length (by omega)] at HC
    clear hok hpw hp
    go_wp2_with fail
    refine (all_any A js.length c h8 _).mono ?_
    rintro e _ ⟨rfl, rfl⟩
    generalize 2 ^ js.length - 1 = sx at *
    go_wp2_with fail
    refine HC.out.mono ?_
    rintro e w2 ⟨rfl, hb2⟩
    go_wp2
    go_ret2
    exact ⟨by rw [HR.out]; rfl, hb1.trans (hb2.mono hb1.size)⟩
  · rw [hp] at HR
    have HC := Lib.hid (latest_any none 0 [] w1 (Row.nil _) (by simp) (by simp) (by simp) (2 ^ 0 - 1) (by omega) (fun k hk => by simp at hk) (HT.out.below hb1))
    rw [memB_all 0 (by omega)] at HC
    have HZ : Hid (latL [] (dueL [] (List.range 0)) = 0) := rfl
    clear hp
    go_wp2_with fail
    refine (all_any none 0 0 (by omega) _).mono ?_
    rintro e _ ⟨rfl, rfl⟩
    go_wp2_with fail
    refine HC.out.mono ?_
    rintro e w2 ⟨rfl, hb2⟩
    rw [HZ.out]
    go_wp2
    go_ret2
    exact ⟨by rw [HR.out]; rfl, hb1.trans (hb2.mono hb1.size)⟩
end
end Go.Proofs.YtnkoncplfedffaaDoor
