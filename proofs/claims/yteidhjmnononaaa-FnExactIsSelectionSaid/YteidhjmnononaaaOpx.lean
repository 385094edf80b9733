/- Slices of slices of Ops: what comes in; sizes, copies, equality, marks. -/
import Derived.Test.YteidhjmnononaaaOpn
import Derived.Test.YteidhjmnononaaaArgJ
import Derived.Test.YteidhjmnononaaaSgx
import Derived.OpenShut
namespace Go.Proofs.Yteidhjmnononaaa
set_option linter.unusedVariables false
open Go.RowKit Go.ChangeShapes Go.WideShapes Go.Deep
def wfOp (x : Pr) : Prop := (Lit.int .i64 x.1).wf = true ∧ (Lit.int .i64 x.2).wf = true
theorem oc_range (f : Nat → Pr) (n : Nat) (u : Value) (i : Nat) (h : (pc ((List.range n).map f))[i]? = some u) : i < n * 2 ∧ (cellsP (f (i / 2)))[i % 2]? = some u := by
  have hi : i < 2 * n := by
    have := (List.getElem?_eq_some_iff.1 h).1
    rw [pc_len] at this; simpa using this
  have hk : i / 2 < ((List.range n).map f).length := by simp; omega
  have := pc_get ((List.range n).map f) (i / 2) (i % 2) hk (by omega)
  rw [show i / 2 * 2 + i % 2 = i by omega, h] at this
  refine ⟨by omega, ?_⟩
  rw [this]
  simp
theorem szOpS_any (A : Option Addr) (n c : Nat) (left : Int) (w : World) (hn : n ≤ maxLen) (h0 : 0 ≤ left) (h1 : left ≤ 1048576) :
    Calls Try.prog 22 #[.slice A n c, .int .i64 left] w fun e w' => ((e = .returned (.int .i64 (left - n)) ∧ (n : Int) ≤ left) ∨ (e = .returned (.int .i64 (-1)) ∧ left < n)) ∧ w = w' := by
  unfold maxLen at hn
  by_cases h : (n : Int) ≤ left
  · go_enter Try.func22, Try.ntmps22
    go_wp2
    go_ret
    first | exact ⟨.inl ⟨rfl, h⟩, rfl⟩ | exact ⟨.inl rfl, rfl⟩
  · go_enter Try.func22, Try.ntmps22
    go_wp2
    go_ret
    first | exact ⟨.inr ⟨rfl, by omega⟩, rfl⟩ | exact ⟨.inr rfl, rfl⟩

/-- A slice of slices of Ops that came in. -/
def IsOpSSA (w : World) (A : Option Addr) (len cap : Nat) (xss : List (List Pr)) : Prop := xss.length = len ∧ len ≤ cap ∧ cap ≤ maxLen ∧ RowX pc w A xss ∧ ∀ xs ∈ xss, xs.length ≤ maxLen ∧ ∀ x ∈ xs, wfOp x
section
variable {H : Type} {enc : TypeId × Value → H} {P : Program} {w : World} {base : Nat} {held : Bool}
theorem open_ops {t e : TypeId} {f0 f1 : Field} {fuel : Nat} {cs : List Value} {x : DataW H × List MemPlace} (ht : P.underlying t = some (.slice e)) (he : P.underlying e = some (.struct #[f0, f1]))
    (hone : oneCellFields P #[f0, f1] = true) (hC : P.cellsOf e = 2) (i0 : P.underlying f0.type = some (.int .i64)) (i1 : P.underlying f1.type = some (.int .i64))
    (h : DataW.trod enc P w base (fun _ => true) held fuel t cs = some x) : ∃ A len cap js, cs = [.slice A len cap] ∧ js.length = len ∧ len ≤ cap ∧ cap ≤ maxLen ∧ Row w A (pc js) ∧ ∀ j ∈ js, wfOp j := by
  rcases open_slice_fields ht he hone hC h with rfl | ⟨a, len, cap, m, rfl, hl, hm, hlm, hi⟩
  · exact ⟨none, 0, 0, [], rfl, rfl, Nat.le_refl _, Nat.zero_le _, Row.nil _, by simp⟩
  · have key : ∀ i : Nat, ∃ j : Pr, i < m → (w.cell? (a.add (i * 2 + 0)) = some (.int .i64 j.1) ∧ w.cell? (a.add (i * 2 + 1)) = some (.int .i64 j.2)) ∧ wfOp j := by
      intro i
      by_cases him : i < m
      · obtain ⟨n, hf⟩ := hi i him
        obtain ⟨v0, y0, c0, t0⟩ := hf 0 f0 rfl
        obtain ⟨v1, y1, c1, t1⟩ := hf 1 f1 rfl
        obtain ⟨n0, e0, _, w0⟩ := DataW.trod_int i0 t0
        obtain ⟨n1, e1, _, w1⟩ := DataW.trod_int i1 t1
        injection e0 with e0 _
        injection e1 with e1 _
        subst e0 e1
        exact ⟨(n0, n1), fun _ => ⟨⟨c0, c1⟩, w0, w1⟩⟩
      · exact ⟨(0, 0), fun h => absurd h him⟩
    obtain ⟨f, hf⟩ := Classical.axiomOfChoice key
    refine ⟨some a, len, cap, (List.range len).map f, rfl, by simp, hl, hm, fun hn => ?_, ?_⟩
    · rw [pc_len] at hn
      have h0 : 0 < len := by simpa using hn
      have hc0 := (hf 0 (by omega)).1.1
      have hb := lt_of_cell hc0
      rw [add_block] at hb
      refine ⟨a, rfl, hb, fun j u hu => ?_⟩
      obtain ⟨hj, hu'⟩ := oc_range f len u j hu
      obtain ⟨⟨c0, c1⟩, _⟩ := hf (j / 2) (by omega)
      have ej : a.add j = a.add (j / 2 * 2 + j % 2) := by rw [show j / 2 * 2 + j % 2 = j by omega]
      rw [ej]
      have h4 : j % 2 = 0 ∨ j % 2 = 1 := by omega
      rcases h4 with h4 | h4 <;> rw [h4] at hu' ⊢ <;> simp [cellsP] at hu' <;> subst hu' <;> assumption
    · intro j hj
      obtain ⟨i, hi, rfl⟩ := List.mem_map.1 hj
      exact (hf i (by have := List.mem_range.1 hi; omega)).2
theorem open_OpSS {t e k : TypeId} {f0 f1 : Field} {fuel : Nat} {cs : List Value} {x : DataW H × List MemPlace} (ht : P.underlying t = some (.slice e)) (he : P.underlying e = some (.slice k)) (hk : P.underlying k = some (.struct #[f0, f1]))
    (hC : P.cellsOf e = 1) (hone : oneCellFields P #[f0, f1] = true) (hCk : P.cellsOf k = 2) (i0 : P.underlying f0.type = some (.int .i64)) (i1 : P.underlying f1.type = some (.int .i64))
    (h : DataW.trod enc P w base (fun _ => true) held fuel t cs = some x) : ∃ A len cap js, cs = [.slice A len cap] ∧ IsOpSSA w A len cap js := by
  rcases open_slice ht h with ⟨h0, _⟩ | ⟨a, len, cap, m, n, D, Pl, hcs, hb, hl, hm, hmm, hx, hi⟩
  · exact ⟨none, 0, 0, [], h0, rfl, Nat.le_refl _, Nat.zero_le _, ⟨[], rfl, Row.nil _, fun i h => by cases h⟩, by simp⟩
  · have key : ∀ i : Nat, ∃ p : (Option Addr × Nat) × List Pr, i < len → w.cell? (a.add i) = some (.slice p.1.1 p.2.length p.1.2) ∧ Row w p.1.1 (pc p.2) ∧ p.2.length ≤ p.1.2 ∧ p.1.2 ≤ maxLen ∧ ∀ x ∈ p.2, wfOp x := by
      intro i
      by_cases him : i < len
      · obtain ⟨cs', hc, ht'⟩ := hi i (by rw [hmm]; simp; omega)
        rw [hC, Nat.mul_one] at hc
        obtain ⟨B, l, c, zs, e1, rfl, hlc, hcm, hrow, hwf⟩ := open_ops he hk hone hCk i0 i1 ht'
        subst e1
        exact ⟨((B, c), zs), fun _ => ⟨Go.ChangeShapes.cell_of_cells?_one hc, hrow, hlc, hcm, hwf⟩⟩
      · exact ⟨((none, 0), []), fun h => absurd h him⟩
    obtain ⟨f, hf⟩ := Classical.axiomOfChoice key
    have hl2 : ((List.range len).map fun i => (f i).1).length = (lensX ((List.range len).map fun i => (f i).2)).length := by simp [lensX]
    have hl3 : (lensX ((List.range len).map fun i => (f i).2)).length = len := by simp [lensX]
    refine ⟨some a, len, cap, (List.range len).map fun i => (f i).2, hcs, by simp, hl, hm, ⟨(List.range len).map fun i => (f i).1, by simp, fun hn => ?_, ?_⟩, ?_⟩
    · have hlen : (slN ((List.range len).map fun i => (f i).1) (lensX ((List.range len).map fun i => (f i).2))).length = len := by rw [slN_len hl2]; exact hl3
      rw [hlen] at hn
      have hb := lt_of_cell (hf 0 (by omega)).1
      rw [add_block] at hb
      refine ⟨a, rfl, hb, fun j u hu => ?_⟩
      obtain ⟨hj, hu'⟩ := List.getElem?_eq_some_iff.1 hu
      rw [hlen] at hj
      rw [slN_get hl2 (by omega)] at hu'
      rw [(hf j hj).1, ← hu']
      simp [lensX]
    · intro i h1 h2
      simp only [List.length_map, List.length_range] at h1
      simp only [List.getElem_map, List.getElem_range]
      exact ⟨(hf i h1).2.1, (hf i h1).2.2.1⟩
    · intro xs hx
      obtain ⟨i, hi, rfl⟩ := List.mem_map.1 hx
      have := hf i (List.mem_range.1 hi)
      exact ⟨by omega, this.2.2.2.2⟩

end
theorem szOpSS_any (A : Option Addr) (n c : Nat) (xss : List (List Pr)) (L : Int) (w : World) (hl : n = xss.length) (hr : RowX pc w A xss) (hn : xss.length ≤ maxLen) (hs : ∀ xs ∈ xss, xs.length ≤ maxLen) (h0 : 0 ≤ L) (hL : L ≤ 1048576) :
    Calls Try.prog 12 #[.slice A n c, .int .i64 L] w fun e w' => ((∃ r : Int, e = .returned (.int .i64 r) ∧ 0 ≤ r ∧ (xss.length : Int) + (lensX xss).sum + r = L) ∨ (e = .returned (.int .i64 (-1)))) ∧ w = w' := by
  subst hl
  unfold maxLen at hn
  by_cases h1 : (xss.length : Int) ≤ L
  · go_enter Try.func12, Try.ntmps12
    go_wp2
    go_loop [1, 5] (fun l i => ∃ (k : Nat) (r : Int), k ≤ xss.length ∧ i = .int .i64 k ∧ l = .int .i64 r ∧ 0 ≤ r ∧ r ≤ 1048576 ∧ Hid ((xss.length : Int) + ((lensX xss).take k).sum + r = L)) (fun _ i => xss.length - (intOf i).toNat)
    case atStart => exact ⟨0, _, Nat.zero_le _, rfl, rfl, by omega, by omega, by show _ = L; simp; omega⟩
    case round =>
      obtain ⟨k, r, hk, rfl, rfl, hr0, hr1, hR⟩ := hrel
      by_cases hlt : k < xss.length
      · obtain ⟨ad, B, d, rfl, _, hc, _, _⟩ := hr.at_ hlt
        have hsz := hs xss[k] (List.getElem_mem hlt)
        have hst := sum_take_succ (lensX xss) k (by rw [lensX_len]; exact hlt)
        rw [lensX_get xss k hlt] at hst
        have HS := Lib.hid hst
        clear hst
        generalize xss[k] = xs at *
        go_wp2_with fail
        refine (szOpS_any B xs.length d r _ hsz hr0 hr1).mono ?_
        rintro e _ ⟨⟨rfl, hge⟩ | ⟨rfl, hge⟩, rfl⟩
        · go_wp2
          go_round
          case rel => exact ⟨k + 1, _, by omega, by go_num, rfl, by omega, by omega, by have := HS.out; have := hR.out; show _ = L; omega⟩
          case measure => simp [intOf]; omega
        · go_wp2
          go_ret
          exact ⟨.inr rfl, rfl⟩
      · go_wp2
        go_ret
        obtain rfl : k = xss.length := by omega
        have h2 := hR.out
        rw [List.take_of_length_le (by rw [lensX_len]; exact Nat.le_refl _)] at h2
        exact ⟨.inl ⟨r, rfl, hr0, h2⟩, rfl⟩
  · go_enter Try.func12, Try.ntmps12
    go_wp2
    go_ret
    exact ⟨.inr rfl, rfl⟩
theorem infoOpSl : (Try.prog.info? 52).map (fun i => (i.zero, i.size, i.bytes)) = some (some (.slice none 0 0), 1, 24) := by kernel_rfl
theorem neOpSl : 52 ≠ 65 := by decide
theorem toOpSS_seg (A : Option Addr) (n c : Nat) (xss : List (List Pr)) (w : World) (hl : n = xss.length) (hr : RowX pc w A xss) (hn : xss.length ≤ 10000000) (hm : (lensX xss).sum ≤ 10000000) :
    Calls Try.prog 16 #[.slice A n c] w fun e w' => ∃ g, e = .returned (.slice (some ⟨g, 0, none⟩) n n) ∧ SegX 52 65 2 pc w' w.heap.size w'.heap.size (some ⟨g, 0, none⟩) n n xss ∧ Below w.heap.size w w' := by
  subst hl
  have hmk := run_make_row' (P := Try.prog) 30 52 (.slice none 0 0) 24 Try.underlying30 infoOpSl rfl .i64 .i64 xss.length (by omega) (by omega)
  go_enter Try.func16, Try.ntmps16
  go_wp2
  go_loopw [4] (fun i wr => ∃ k : Nat, k ≤ xss.length ∧ i = .int .i64 k ∧ Hid (UpX 52 65 2 pc xss wr w.heap.size w.heap.size k) ∧ Below w.heap.size w wr) (fun i _ => xss.length - (intOf i).toNat)
  case atStart =>
    exact ⟨0, Nat.zero_le _, rfl, UpX.zero (BlockIs.new _ _ _) (Nat.le_refl _), (Below.refl _ _).alloc (Nat.le_refl _) _⟩
  case round =>
    obtain ⟨k, hk, rfl, hV, hb⟩ := hrel
    clear hmk
    by_cases hlt : k < xss.length
    · obtain ⟨ad, B, d, hA, _, hc, hrow, _⟩ := (hr.below hb).at_ hlt
      subst hA
      have hxl := sum_get_le (lensX xss) k (by rw [lensX_len]; exact hlt)
      rw [lensX_get xss k hlt] at hxl
      have HV := Lib.hid (fun (w1 : World) (g1 : Nat) (hb1 : Below wr.heap.size wr w1) (hg : wr.heap.size ≤ g1) (ho : Seg w1 65 2 wr.heap.size w1.heap.size (some ⟨g1, 0, none⟩) xss[k].length xss[k].length (pc xss[k])) => hV.out.step (g := g1) (c := xss[k].length) neOpSl hlt hb1 hg hb.size ho)
      have HB := Lib.hid hb
      clear hV hr hb
      generalize xss[k] = xs at *
      go_wp2_with fail
      refine (toOpS_any B d xs wr hrow (by omega)).mono ?_
      rintro e w1 ⟨g1, rfl, hg1, ho1, hb1⟩
      obtain ⟨ho2, ⟨u, hcu⟩, hfz⟩ := HV.out w1 g1 hb1 hg1 (Seg.of_own ho1)
      have HO := Lib.hid ho2
      have HB2 := Lib.hid (HB.out.trans (hb1.mono HB.out.size))
      clear ho2 ho1 HV hrow hb1
      go_wp2
      go_roundw
      case rel => exact ⟨k + 1, by omega, by go_num, HO.out, HB2.out.setCell (Nat.le_refl _) _⟩
      case measure => simp [intOf]; omega
    · go_wp2
      go_ret
      obtain rfl : k = xss.length := by omega
      exact ⟨_, rfl, hV.out.all (by unfold maxLen; omega), hb⟩
theorem eqOpSS_seg (A B : Option Addr) (c d n : Nat) (xss : List (List Pr)) (w : World) (hn0 : n = xss.length) (hr : RowX pc w A xss) (hq : RowX pc w B xss) (hn : xss.length ≤ 10000000 ∧ (lensX xss).sum ≤ 10000000) :
    Calls Try.prog 20 #[.slice A n c, .slice B n d] w fun e w' => e = .returned (.bool true) ∧ Below w.heap.size w w' := by
  subst hn0
  go_enter Try.func20, Try.ntmps20
  go_wp2
  go_loopw [5] (fun i wr => ∃ k : Nat, k ≤ xss.length ∧ i = .int .i64 k ∧ Below w.heap.size w wr) (fun i _ => xss.length - (intOf i).toNat)
  case atStart => exact ⟨0, Nat.zero_le _, rfl, Below.refl _ _⟩
  case round =>
    obtain ⟨k, hk, rfl, hb⟩ := hrel
    by_cases hlt : k < xss.length
    · obtain ⟨a, a1, a2, hA, _, hc0, hra, _⟩ := (hr.below hb).at_ hlt
      obtain ⟨b, b1, b2, hB, _, hd0, hrb, _⟩ := (hq.below hb).at_ hlt
      subst hA hB
      have hxl := sum_get_le (lensX xss) k (by rw [lensX_len]; exact hlt)
      rw [lensX_get xss k hlt] at hxl
      have HE : Hid (∀ W, Below wr.heap.size wr W → Calls Try.prog 34 #[.slice a1 xss[k].length a2, .slice b1 xss[k].length b2] W fun e w' => e = .returned (.bool true) ∧ Below W.heap.size W w') := fun W hW => eqOpS_same a1 b1 a2 b2 xss[k] W (hra.below hW) (hrb.below hW) (by omega)
      have HB := Lib.hid hb
      clear hr hq hra hrb hb hxl
      generalize xss[k] = xs at *
      have hi : (0 : Int) ≤ k := by omega
      have hi' : (k : Int) < xss.length := by omega
      go_wp2
      go_region_with (go_at_call 34; refine (HE.out _ (by first | exact Below.refl _ _ | exact (Below.refl _ _).drew | exact (Below.refl _ _).drewN _)).mono ?_; rintro e w1 ⟨rfl, hb1⟩)
      all_goals
        go_wp2
        go_roundw
        case rel => exact ⟨k + 1, by omega, by go_num, HB.out.trans ((⟨hb1.os, hb1.tape, hb1.output, hb1.size, hb1.block⟩ : Below wr.heap.size wr w1).mono HB.out.size)⟩
        case measure => simp [intOf]; omega
    · go_wp2
      go_ret
      exact ⟨rfl, hb⟩
end Go.Proofs.Yteidhjmnononaaa
