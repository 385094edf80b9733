/- Slices of slices of Jobs: what comes in; sizes, copies, equality, marks. -/
import Derived.Test.YtjemjdlaoebffaaArgJ
import Derived.Test.YtjemjdlaoebffaaSegH
import Derived.Test.YtjemjdlaoebffaaSgx
import Derived.OpenShut
namespace Go.Proofs.Ytjemjdlaoebffaa
set_option linter.unusedVariables false
open Go.RowKit Go.ChangeShapes Go.WideShapes Go.Deep
theorem szJobSn_any (A : Option Addr) (n c : Nat) (left : Int) (w : World) (hn : n ≤ maxLen) (h0 : 0 ≤ left) (h1 : left ≤ 1048576) :
    Calls Try.prog 26 #[.slice A n c, .int .i64 left] w fun e w' => ((e = .returned (.int .i64 (left - n)) ∧ (n : Int) ≤ left) ∨ (e = .returned (.int .i64 (-1)) ∧ left < n)) ∧ w = w' := by
  unfold maxLen at hn
  by_cases h : (n : Int) ≤ left
  · go_enter Try.func26, Try.ntmps26
    go_wp2
    go_ret
    first | exact ⟨.inl ⟨rfl, h⟩, rfl⟩ | exact ⟨.inl rfl, rfl⟩
  · go_enter Try.func26, Try.ntmps26
    go_wp2
    go_ret
    first | exact ⟨.inr ⟨rfl, by omega⟩, rfl⟩ | exact ⟨.inr rfl, rfl⟩

/-- A slice of slices of Jobs that came in. -/
def IsJobSSA (w : World) (A : Option Addr) (len cap : Nat) (xss : List (List J)) : Prop := xss.length = len ∧ len ≤ cap ∧ cap ≤ maxLen ∧ RowX jc w A xss ∧ ∀ xs ∈ xss, xs.length ≤ maxLen ∧ ∀ x ∈ xs, wfJ x
section
variable {H : Type} {enc : TypeId × Value → H} {P : Program} {w : World} {base : Nat} {held : Bool}
theorem open_JobSS {t e k : TypeId} {f0 f1 f2 f3 : Field} {fuel : Nat} {cs : List Value} {x : DataW H × List MemPlace} (ht : P.underlying t = some (.slice e)) (he : P.underlying e = some (.slice k)) (hk : P.underlying k = some (.struct #[f0, f1, f2, f3]))
    (hC : P.cellsOf e = 1) (hone : oneCellFields P #[f0, f1, f2, f3] = true) (hCk : P.cellsOf k = 4) (i0 : P.underlying f0.type = some (.int .i64)) (i1 : P.underlying f1.type = some (.int .i64)) (i2 : P.underlying f2.type = some (.int .i64)) (i3 : P.underlying f3.type = some (.int .i64))
    (h : DataW.trod enc P w base (fun _ => true) held fuel t cs = some x) : ∃ A len cap js, cs = [.slice A len cap] ∧ IsJobSSA w A len cap js := by
  rcases open_slice ht h with ⟨h0, _⟩ | ⟨a, len, cap, m, n, D, Pl, hcs, hb, hl, hm, hmm, hx, hi⟩
  · exact ⟨none, 0, 0, [], h0, rfl, Nat.le_refl _, Nat.zero_le _, ⟨[], rfl, Row.nil _, fun i h => by cases h⟩, by simp⟩
  · have key : ∀ i : Nat, ∃ p : (Option Addr × Nat) × List J, i < len → w.cell? (a.add i) = some (.slice p.1.1 p.2.length p.1.2) ∧ Row w p.1.1 (jc p.2) ∧ p.2.length ≤ p.1.2 ∧ p.1.2 ≤ maxLen ∧ ∀ x ∈ p.2, wfJ x := by
      intro i
      by_cases him : i < len
      · obtain ⟨cs', hc, ht'⟩ := hi i (by rw [hmm]; simp; omega)
        rw [hC, Nat.mul_one] at hc
        obtain ⟨B, l, c, zs, e1, rfl, hlc, hcm, hrow, hwf⟩ := open_jobs he hk hone hCk i0 i1 i2 i3 ht'
        subst e1
        exact ⟨((B, c), zs), fun _ => ⟨Go.ChangeShapes.cell_of_cells?_one hc, hrow, hlc, hcm, hwf⟩⟩
      · exact ⟨((none, 0), []), fun h => absurd h him⟩
    obtain ⟨f, hf⟩ := Classical.axiomOfChoice key
    have hl2 : ((List.range len).map fun i => (f i).1).length = (lensX ((List.range len).map fun i => (f i).2)).length := by simp [lensX]
    have hl3 : (lensX ((List.range len).map fun i => (f i).2)).length = len := by simp [lensX]
    refine ⟨some a, len, cap, (List.range len).map fun i => (f i).2, hcs, by simp, hl, hm, ⟨(List.range len).map fun i => (f i).1, by simp, fun hn => ?_, ?_⟩, ?_⟩
    · have hlen : (slN ((List.range len).map fun i => (f i).1) (lensX ((List.range len).map fun i => (f i).2))).length = len := by rw [slN_len hl2]; exact hl3
      rw [hlen] at hn
      have hb := lt_of_cell (hf 0 (by omega)).1
      rw [add_block] at hb
      refine ⟨a, rfl, hb, fun j u hu => ?_⟩
      obtain ⟨hj, hu'⟩ := List.getElem?_eq_some_iff.1 hu
      rw [hlen] at hj
      rw [slN_get hl2 (by omega)] at hu'
      rw [(hf j hj).1, ← hu']
      simp [lensX]
    · intro i h1 h2
      simp only [List.length_map, List.length_range] at h1
      simp only [List.getElem_map, List.getElem_range]
      exact ⟨(hf i h1).2.1, (hf i h1).2.2.1⟩
    · intro xs hx
      obtain ⟨i, hi, rfl⟩ := List.mem_map.1 hx
      have := hf i (List.mem_range.1 hi)
      exact ⟨by omega, this.2.2.2.2⟩

end
theorem szJobSS_any (A : Option Addr) (n c : Nat) (xss : List (List J)) (L : Int) (w : World) (hl : n = xss.length) (hr : RowX jc w A xss) (hn : xss.length ≤ maxLen) (hs : ∀ xs ∈ xss, xs.length ≤ maxLen) (h0 : 0 ≤ L) (hL : L ≤ 1048576) :
    Calls Try.prog 33 #[.slice A n c, .int .i64 L] w fun e w' => ((∃ r : Int, e = .returned (.int .i64 r) ∧ 0 ≤ r ∧ (xss.length : Int) + (lensX xss).sum + r = L) ∨ (e = .returned (.int .i64 (-1)))) ∧ w = w' := by
  subst hl
  unfold maxLen at hn
  by_cases h1 : (xss.length : Int) ≤ L
  · go_enter Try.func33, Try.ntmps33
    go_wp2
    go_loop [1, 5] (fun l i => ∃ (k : Nat) (r : Int), k ≤ xss.length ∧ i = .int .i64 k ∧ l = .int .i64 r ∧ 0 ≤ r ∧ r ≤ 1048576 ∧ Hid ((xss.length : Int) + ((lensX xss).take k).sum + r = L)) (fun _ i => xss.length - (intOf i).toNat)
    case atStart => exact ⟨0, _, Nat.zero_le _, rfl, rfl, by omega, by omega, by show _ = L; simp; omega⟩
    case round =>
      obtain ⟨k, r, hk, rfl, rfl, hr0, hr1, hR⟩ := hrel
      by_cases hlt : k < xss.length
      · obtain ⟨ad, B, d, rfl, _, hc, _, _⟩ := hr.at_ hlt
        have hsz := hs xss[k] (List.getElem_mem hlt)
        have hst := sum_take_succ (lensX xss) k (by rw [lensX_len]; exact hlt)
        rw [lensX_get xss k hlt] at hst
        have HS := Lib.hid hst
        clear hst
        generalize xss[k] = xs at *
        go_wp2_with fail
        refine (szJobSn_any B xs.length d r _ hsz hr0 hr1).mono ?_
        rintro e _ ⟨⟨rfl, hge⟩ | ⟨rfl, hge⟩, rfl⟩
        · go_wp2
          go_round
          case rel => exact ⟨k + 1, _, by omega, by go_num, rfl, by omega, by omega, by have := HS.out; have := hR.out; show _ = L; omega⟩
          case measure => simp [intOf]; omega
        · go_wp2
          go_ret
          exact ⟨.inr rfl, rfl⟩
      · go_wp2
        go_ret
        obtain rfl : k = xss.length := by omega
        have h2 := hR.out
        rw [List.take_of_length_le (by rw [lensX_len]; exact Nat.le_refl _)] at h2
        exact ⟨.inl ⟨r, rfl, hr0, h2⟩, rfl⟩
  · go_enter Try.func33, Try.ntmps33
    go_wp2
    go_ret
    exact ⟨.inr rfl, rfl⟩
theorem infoJobSl : (Try.prog.info? 50).map (fun i => (i.zero, i.size, i.bytes)) = some (some (.slice none 0 0), 1, 24) := by kernel_rfl
theorem neJobSl : 50 ≠ 95 := by decide
theorem toJobSS_seg (A : Option Addr) (n c : Nat) (xss : List (List J)) (w : World) (hl : n = xss.length) (hr : RowX jc w A xss) (hn : xss.length ≤ 10000000) (hm : (lensX xss).sum ≤ 10000000) :
    Calls Try.prog 35 #[.slice A n c] w fun e w' => ∃ g, e = .returned (.slice (some ⟨g, 0, none⟩) n n) ∧ SegX 50 95 4 jc w' w.heap.size w'.heap.size (some ⟨g, 0, none⟩) n n xss ∧ Below w.heap.size w w' := by
  subst hl
  have hmk := run_make_row' (P := Try.prog) 59 50 (.slice none 0 0) 24 Try.underlying59 infoJobSl rfl .i64 .i64 xss.length (by omega) (by omega)
  go_enter Try.func35, Try.ntmps35
  go_wp2
  go_loopw [4] (fun i wr => ∃ k : Nat, k ≤ xss.length ∧ i = .int .i64 k ∧ Hid (UpX 50 95 4 jc xss wr w.heap.size w.heap.size k) ∧ Below w.heap.size w wr) (fun i _ => xss.length - (intOf i).toNat)
  case atStart =>
    exact ⟨0, Nat.zero_le _, rfl, UpX.zero (BlockIs.new _ _ _) (Nat.le_refl _), (Below.refl _ _).alloc (Nat.le_refl _) _⟩
  case round =>
    obtain ⟨k, hk, rfl, hV, hb⟩ := hrel
    clear hmk
    by_cases hlt : k < xss.length
    · obtain ⟨ad, B, d, hA, _, hc, hrow, _⟩ := (hr.below hb).at_ hlt
      subst hA
      have hxl := sum_get_le (lensX xss) k (by rw [lensX_len]; exact hlt)
      rw [lensX_get xss k hlt] at hxl
      have HV := Lib.hid (fun (w1 : World) (g1 : Nat) (hb1 : Below wr.heap.size wr w1) (hg : wr.heap.size ≤ g1) (ho : Seg w1 95 4 wr.heap.size w1.heap.size (some ⟨g1, 0, none⟩) xss[k].length xss[k].length (jc xss[k])) => hV.out.step (g := g1) (c := xss[k].length) neJobSl hlt hb1 hg hb.size ho)
      have HB := Lib.hid hb
      clear hV hr hb
      generalize xss[k] = xs at *
      go_wp2_with fail
      refine (toJobS_any B d xs wr hrow (by omega)).mono ?_
      rintro e w1 ⟨g1, rfl, hg1, ho1, hb1⟩
      obtain ⟨ho2, ⟨u, hcu⟩, hfz⟩ := HV.out w1 g1 hb1 hg1 (Seg.of_own ho1)
      have HO := Lib.hid ho2
      have HB2 := Lib.hid (HB.out.trans (hb1.mono HB.out.size))
      clear ho2 ho1 HV hrow hb1
      go_wp2
      go_roundw
      case rel => exact ⟨k + 1, by omega, by go_num, HO.out, HB2.out.setCell (Nat.le_refl _) _⟩
      case measure => simp [intOf]; omega
    · go_wp2
      go_ret
      obtain rfl : k = xss.length := by omega
      exact ⟨_, rfl, hV.out.all (by unfold maxLen; omega), hb⟩
theorem eqJobSS_seg (A B : Option Addr) (c d n : Nat) (xss : List (List J)) (w : World) (hn0 : n = xss.length) (hr : RowX jc w A xss) (hq : RowX jc w B xss) (hn : xss.length ≤ 10000000 ∧ (lensX xss).sum ≤ 10000000) :
    Calls Try.prog 37 #[.slice A n c, .slice B n d] w fun e w' => e = .returned (.bool true) ∧ Below w.heap.size w w' := by
  subst hn0
  go_enter Try.func37, Try.ntmps37
  go_wp2
  go_loopw [5] (fun i wr => ∃ k : Nat, k ≤ xss.length ∧ i = .int .i64 k ∧ Below w.heap.size w wr) (fun i _ => xss.length - (intOf i).toNat)
  case atStart => exact ⟨0, Nat.zero_le _, rfl, Below.refl _ _⟩
  case round =>
    obtain ⟨k, hk, rfl, hb⟩ := hrel
    by_cases hlt : k < xss.length
    · obtain ⟨a, a1, a2, hA, _, hc0, hra, _⟩ := (hr.below hb).at_ hlt
      obtain ⟨b, b1, b2, hB, _, hd0, hrb, _⟩ := (hq.below hb).at_ hlt
      subst hA hB
      have hxl := sum_get_le (lensX xss) k (by rw [lensX_len]; exact hlt)
      rw [lensX_get xss k hlt] at hxl
      have HE : Hid (∀ W, Below wr.heap.size wr W → Calls Try.prog 32 #[.slice a1 xss[k].length a2, .slice b1 xss[k].length b2] W fun e w' => e = .returned (.bool true) ∧ Below W.heap.size W w') := fun W hW => eqJobS_same a1 b1 a2 b2 xss[k] W (hra.below hW) (hrb.below hW) (by omega)
      have HB := Lib.hid hb
      clear hr hq hra hrb hb hxl
      generalize xss[k] = xs at *
      have hi : (0 : Int) ≤ k := by omega
      have hi' : (k : Int) < xss.length := by omega
      go_wp2
      go_region_with (go_at_call 32; refine (HE.out _ (by first | exact Below.refl _ _ | exact (Below.refl _ _).drew | exact (Below.refl _ _).drewN _)).mono ?_; rintro e w1 ⟨rfl, hb1⟩)
      all_goals
        go_wp2
        go_roundw
        case rel => exact ⟨k + 1, by omega, by go_num, HB.out.trans ((⟨hb1.os, hb1.tape, hb1.output, hb1.size, hb1.block⟩ : Below wr.heap.size wr w1).mono HB.out.size)⟩
        case measure => simp [intOf]; omega
    · go_wp2
      go_ret
      exact ⟨rfl, hb⟩
theorem markJobSS_kept (A : Option Addr) (c n lo hi k0 : Nat) (ns : List Nat) (vs : List (Option Addr × Nat)) (w : World) (h : KeptX 50 95 4 vs ns w lo hi A n c) (h1 : k0 ≤ 100000000) (hn : ns.length ≤ 10000000 ∧ ns.sum ≤ 10000000) :
    Calls Try.prog 40 #[.slice A n c, .int .i64 (k0 : Int)] w fun e w' => e = .returned (.int .i64 ((k0 + 4 * ns.sum : Nat) : Int)) ∧ Touch lo hi w w' := by
  have hv := h.2.1
  obtain rfl : n = ns.length := h.1
  have hsum : ∀ m, (ns.take m).sum ≤ 10000000 := fun m => Nat.le_trans (sum_take_le _ m) hn.2
  have HV : Hid (KeptX 50 95 4 vs ns w lo hi A ns.length c) := h
  have HSUM := Lib.hid hsum
  clear hsum h
  go_enter Try.func40, Try.ntmps40
  go_wp2
  go_loopw [1, 5] (fun k i wr => ∃ m : Nat, m ≤ ns.length ∧ i = .int .i64 (m : Int) ∧ k = .int .i64 ((k0 + 4 * (ns.take m).sum : Nat) : Int) ∧ Hid (KeptX 50 95 4 vs ns wr lo hi A ns.length c) ∧ Touch lo hi w wr) (fun _ i _ => ns.length - (intOf i).toNat)
  case atStart => exact ⟨0, Nat.zero_le _, rfl, by go_num, HV.out, Touch.refl _ _ _⟩
  case round =>
    obtain ⟨m, hm, rfl, rfl, HVm, hT⟩ := hrel
    clear HV
    by_cases hlt : m < ns.length
    · have hi0 : (0 : Int) ≤ m := by omega
      have hi1 : (m : Int) < ns.length := by omega
      have hvm : m < vs.length := by omega
      obtain ⟨v0, v1, v2, v3, v4⟩ := HVm.out
      obtain ⟨ad, hA, hc⟩ := v2.row.at_ (k := m) (by rw [slN_len v1]; omega)
      subst hA
      rw [slN_get v1 hlt] at hc
      have hsm := HSUM.out m
      have hsm1 := HSUM.out (m + 1)
      have hts := sum_take_succ ns m hlt
      rw [hts] at hsm1
      obtain ⟨cs, hself⟩ := v3 m hlt hvm
      have hlo : lo ≤ wr.heap.size ∨ vs[m].1 = none := by
        rcases hself.own.2 with ⟨hv0, _⟩ | ⟨g', cap, cur', hv0, hb, hg', _⟩
        · injection hv0 with hv0; exact .inr hv0
        · have := (Array.getElem?_eq_some_iff.1 hg').1
          exact .inl (by omega)
      have hM : Calls Try.prog 74 #[.slice vs[m].1 ns[m] vs[m].2, .int .i64 ((k0 + 4 * (ns.take m).sum : Nat) : Int)] wr fun e w' => e = .returned (.int .i64 ((k0 + 4 * (ns.take (m + 1)).sum : Nat) : Int)) ∧ KeptX 50 95 4 vs ns w' lo hi (some ad) ns.length c ∧ Touch lo hi wr w' := by
        rw [show k0 + 4 * (ns.take (m + 1)).sum = k0 + 4 * (ns.take m).sum + 4 * ns[m] by rw [hts]; omega]
        rcases hlo with hlo | hnone
        · refine (markJobS_own _ _ ns[m] (k0 + 4 * (ns.take m).sum) lo cs wr hself.own (by omega) (by omega) hlo).mono ?_
          rintro e w' ⟨rfl, ho, _, hg, hs⟩
          refine ⟨rfl, keptX_mark neJobSl hlt HVm.out hvm ho hg hs, ?_⟩
          refine Touch.of_own hg fun a ha => ?_
          rcases hself.own.2 with ⟨hv0, _⟩ | ⟨g', cap, cur', hv0, hb, hg', _⟩
          · injection hv0 with hv0; rw [ha] at hv0; cases hv0
          · have ht := hself.top a ha
            injection hv0 with hv0
            rw [ha] at hv0
            injection hv0 with hv0
            subst hv0
            exact ⟨hb, ht⟩
        · have hz : ns[m] = 0 := by
            rcases hself.own.2 with ⟨hv0, h0⟩ | ⟨g', cap, cur', hv0, hb, hg', _⟩
            · injection hv0
            · injection hv0 with hv0; rw [hnone] at hv0; cases hv0
          rw [hz]
          refine (markJobS_none _ _ _ wr).mono ?_
          rintro e w' ⟨rfl, rfl⟩
          exact ⟨rfl, HVm.out, Touch.refl _ _ _⟩
      have HM := Lib.hid hM
      have HT := Lib.hid hT
      generalize hvmm : vs[m] = vm at *
      clear v0 v1 v2 v3 v4 hself hM hT HVm hsm1 hvmm hlo hts
      generalize hq : ((k0 + 4 * (ns.take m).sum : Nat) : Int) = q at *
      clear hq
      go_wp2_with fail
      refine HM.out.mono ?_
      rintro e w1 ⟨rfl, hs1, ht1⟩
      have HS1 := Lib.hid hs1
      clear hs1
      go_wp2
      go_roundw
      case rel => exact ⟨m + 1, by omega, by go_num, rfl, HS1.out, HT.out.trans ht1⟩
      case measure => simp [intOf]; omega
    · obtain rfl : m = ns.length := by omega
      go_wp2
      go_ret
      refine ⟨?_, hT⟩
      rw [List.take_of_length_le (Nat.le_refl _)]
      first
        | done
        | exact congrArg (fun q => Ending.returned (Value.int .i64 q)) (by omega)
theorem markJobSS_seg (A : Option Addr) (c n lo hi : Nat) (k : Int) (xss : List (List J)) (w : World) (h : SegX 50 95 4 jc w lo hi A n c xss) (h0 : 0 ≤ k) (h1 : k ≤ 100000000) (hn : xss.length ≤ 10000000 ∧ (lensX xss).sum ≤ 10000000) :
    Calls Try.prog 40 #[.slice A n c, .int .i64 k] w fun e w' => e = .returned (.int .i64 (k + 4 * (lensX xss).sum)) ∧ Touch lo hi w w' := by
  have hk : k = (k.toNat : Int) := by omega
  obtain ⟨vs, hv⟩ := h.kept
  have H := markJobSS_kept A c n lo hi k.toNat (lensX xss) vs w hv (by omega) (by rw [lensX_len]; exact hn)
  rw [← hk] at H
  refine H.mono ?_
  rintro e w' ⟨rfl, ht⟩
  exact ⟨by rw [show ((k.toNat + 4 * (lensX xss).sum : Nat) : Int) = k + 4 * (lensX xss).sum by omega], ht⟩
end Go.Proofs.Ytjemjdlaoebffaa
