/- The program's ends of one more job. -/
import Derived.Test.YtdhndoccdfbefaaShE
import Derived.Test.YtdhndoccdfbefaaBlo
namespace Go.Proofs.Ytdhndoccdfbefaa
open Go.RowKit

def mixE (e t : Nat → Int) (k : Nat) : Nat → Int := fun j => if j < k then nowE e t (j + 1) else e j
theorem mixE_step (e t : Nat → Int) (k : Nat) (hk : k < 3) : (arr3 (mixE e t k)).setIfInBounds k (.int .i64 (nowE e t (k + 1))) = arr3 (mixE e t (k + 1)) := by
  rw [arr3_set _ _ _ hk]
  apply arr3_ext
  intro j _
  unfold mixE
  by_cases h : j = k
  · subst h; rw [if_pos rfl, if_pos (by omega)]
  · rw [if_neg h]
    by_cases h2 : j < k
    · rw [if_pos h2, if_pos (by omega)]
    · rw [if_neg h2, if_neg (by omega)]
set_option maxRecDepth 100000 in
set_option maxHeartbeats 1000000 in
theorem behind_any (e t : Nat → Int) (b : Addr) (m d : Nat) (w : World) (ht : ∀ k, k < m → w.cell? (b.add k) = some (.int .i64 (t k))) (hbl : b.block < w.heap.size) (hm : m ≤ 3) (he : ∀ k, 0 ≤ e k ∧ e k ≤ 100000) (ht2 : ∀ k, 0 ≤ t k ∧ t k ≤ 30) :
    Calls Try.prog 55 #[.agg (arr3 e), .slice (some b) m d] w fun en w' => en = .returned (.agg (arr3 (mixE e t m))) ∧ Below w.heap.size w w' := by
  have HN : Hid (∀ k, k ≤ m → 0 ≤ nowE e t k ∧ nowE e t k ≤ 200000) := fun k hk => by
    have := nowE_bd (B := 100000) (m := m) (by omega) (fun k _ => (he k).2) ht2 k hk
    omega
  have HT2 := Lib.hid ht2
  have HE2 := Lib.hid he
  have HT := Lib.hid ht
  clear ht ht2 he
  have b0 := (Below.refl w.heap.size w).alloc (Nat.le_refl _) (.cells (arr3 e) 57)
  have b1 := b0.alloc b0.size (.cells #[.int .i64 0, .int .i64 0, .int .i64 0] 57)
  have e0 : (w.alloc (.cells (arr3 e) 57)).heap.size = w.heap.size + 1 := by simp
  have h0 := (BlockIs.new w 57 (arr3 e)).below ((Below.refl _ _).alloc (Nat.le_refl _) (.cells #[.int .i64 0, .int .i64 0, .int .i64 0] 57))
  have h1 := BlockIs.new (w.alloc (.cells (arr3 e) 57)) 57 #[.int .i64 0, .int .i64 0, .int .i64 0]
  rw [e0] at h1
  have H := Lib.hid (And.intro h0 (And.intro h1 b1))
  clear b0 b1 e0 h0 h1
  go_enter Try.func55, Try.ntmps55
  go_wp2
  go_loopw [5, 10] (fun z i wr => ∃ k : Nat, k ≤ m ∧ i = .int .i64 (k : Int) ∧ z = .int .i64 (nowE e t k) ∧ BlockIs wr w.heap.size 57 (arr3 (mixE e t k)) ∧ BlockIs wr (w.heap.size + 1) 57 #[.int .i64 0, .int .i64 0, .int .i64 0] ∧ Below w.heap.size w wr) (fun _ i _ => m - (intOf i).toNat)
  case atStart => exact ⟨0, Nat.zero_le _, rfl, rfl, H.out⟩
  case round =>
    obtain ⟨k, hk, rfl, rfl, h0, h1, hb⟩ := hrel
    clear H
    by_cases hlt : k < m
    · have ht0 : wr.cell? (b.add k) = some (.int .i64 (t k)) := by rw [hb.cell (by rw [add_block]; exact hbl)]; exact HT.out k hlt
      have hc0 := h0.cell k
      rw [arr3_get _ k (by omega)] at hc0
      have hmk : mixE e t k k = e k := by unfold mixE; rw [if_neg (by omega)]
      rw [hmk] at hc0
      have hfz := h0.frozen k
      have H0 := Lib.hid (h0.set k (.int .i64 (nowE e t (k + 1))))
      rw [mixE_step e t k (by omega)] at H0
      have H1 := Lib.hid (h1.away (g' := w.heap.size) (by omega) k (.int .i64 (nowE e t (k + 1))))
      have HB := Lib.hid (hb.setCell (p := ⟨w.heap.size, k, none⟩) (Nat.le_refl _) (.int .i64 (nowE e t (k + 1))))
      have hn0 := HN.out k hk
      have hn1 := HN.out (k + 1) (by omega)
      have hek := HE2.out k
      have htk := HT2.out k
      have hst : Hid (nowE e t (k + 1) = max (nowE e t k) (e k) + t k) := rfl
      have hi0 : (0 : Int) ≤ k := by omega
      have hi1 : (k : Int) < m := by omega
      have hi3 : (k : Int) < 3 := by omega
      clear h0 h1 hb hmk
      generalize hnn : nowE e t (k + 1) = nn at *
      generalize hn : nowE e t k = n at *
      generalize e k = ek at *
      generalize t k = tk at *
      have HNN := Lib.hid hnn
      clear hnn hn
      have hv : Hid (nn = (if n < ek then ek else n) + tk) := by show _ = _; rw [hst.out]; split <;> omega
      obtain rfl := hv.out
      clear hst hv
      go_wp2
      go_roundw
      case rel => exact ⟨k + 1, by omega, by go_num, by rw [HNN.out], H0.out, H1.out, HB.out⟩
      case measure => simp [intOf]; omega
    · obtain rfl : k = m := by omega
      have c0 := h0.cell 0
      have c1 := h0.cell 1
      have c2 := h0.cell 2
      rw [arr3_get _ 0 (by omega)] at c0
      rw [arr3_get _ 1 (by omega)] at c1
      rw [arr3_get _ 2 (by omega)] at c2
      have r0 := h1.cell 0
      have r1 := h1.cell 1
      have r2 := h1.cell 2
      have g0 := h1.frozen 0
      have g1 := h1.frozen 1
      have g2 := h1.frozen 2
      simp only [List.getElem?_toArray, List.getElem?_cons_zero, List.getElem?_cons_succ] at r0 r1 r2
      have H2 := Lib.hid (And.intro (((h1.set 0 (.int .i64 (mixE e t k 0))).set 1 (.int .i64 (mixE e t k 1))).set 2 (.int .i64 (mixE e t k 2))) (((hb.setCell (p := ⟨w.heap.size + 1, 0, none⟩) (by simp) (.int .i64 (mixE e t k 0))).setCell (p := ⟨w.heap.size + 1, 1, none⟩) (by simp) (.int .i64 (mixE e t k 1))).setCell (p := ⟨w.heap.size + 1, 2, none⟩) (by simp) (.int .i64 (mixE e t k 2))))
      have HA : Hid (#[.int .i64 (mixE e t k 0), .int .i64 (mixE e t k 1), .int .i64 (mixE e t k 2)] = arr3 (mixE e t k)) := rfl
      clear h0 h1 hb
      generalize mixE e t k 0 = x0 at *
      generalize mixE e t k 1 = x1 at *
      generalize mixE e t k 2 = x2 at *
      go_wp2
      have hZ : BlockIs _ _ _ #[.int .i64 x0, .int .i64 x1, .int .i64 x2] := H2.out.1
      exact bodyPost_ret (v := .agg #[.int .i64 x0, .int .i64 x1, .int .i64 x2]) (results_cell_row (P := Try.prog) rfl _ _ (w.heap.size + 1) 57 #[.int .i64 x0, .int .i64 x1, .int .i64 x2] (0, 0) _ rfl hZ Try.underlying57 rfl (by kernel_rfl)) rfl ⟨by rw [HA.out], H2.out.2⟩
/-- The greatest, or least, of the first k numbers. -/
def fL (f : Int → Int → Int) (xs : List Int) (k : Nat) : Int := ((xs.take k).drop 1).foldl f (xs.getD 0 0)
theorem fL_one (f : Int → Int → Int) {xs : List Int} (h : 0 < xs.length) : fL f xs 1 = xs[0] := by
  unfold fL
  rw [show (xs.take 1).drop 1 = [] by simp]
  simp [List.getD, h]
theorem fL_step (f : Int → Int → Int) {xs : List Int} {k : Nat} (hk : k < xs.length) (h : 1 ≤ k) : fL f xs (k + 1) = f (fL f xs k) xs[k] := by
  unfold fL
  rw [List.take_succ_eq_append_getElem hk, List.drop_append_of_le_length (by simp; omega), List.foldl_append]
  rfl
def maxF (a b : Int) : Int := if a < b then b else a
def minF (a b : Int) : Int := if b < a then b else a
theorem max_any (A : Option Addr) (c : Nat) (xs : List Int) (w : World) (hr : Row w A (ic xs)) (hn : xs.length ≤ 100000000) (h1 : 1 ≤ xs.length) :
    Calls Try.prog 75 #[.slice A xs.length c] w fun e w' => e = .returned (.int .i64 (fL maxF xs xs.length)) ∧ ∃ q, w' = w.drewN q := by
  obtain ⟨a, hA, h0⟩ := hr.at_ (k := 0) (by rw [ic_len]; omega)
  subst hA
  rw [ic_get xs 0 (by omega), show a.add 0 = a from rfl] at h0
  have HSTEP := Lib.hid (fun k hk h => fL_step maxF (xs := xs) (k := k) hk h)
  have HR := Lib.hid hr
  have HF : Hid (fL maxF xs 1 = xs[0]) := fL_one maxF (by omega)
  generalize hfn : fL maxF xs = F at *
  have HFN := Lib.hid hfn
  clear hr hfn
  have hp : (1 : Int) ≤ xs.length := by omega
  have hp2 : (0 : Int) < xs.length := by omega
  generalize xs[0] = x0 at *
  obtain rfl := HF.out
  go_enter Try.func75, Try.ntmps75
  go_wp2
  go_loopw [3, 4] (fun z i wr => ∃ k q : Nat, 1 ≤ k ∧ k ≤ xs.length ∧ i = .int .i64 (k : Int) ∧ z = .int .i64 (F k) ∧ wr = w.drewN q) (fun _ i _ => xs.length - (intOf i).toNat)
  case atStart => exact ⟨1, 0, by omega, by omega, rfl, rfl, rfl⟩
  case round =>
    obtain ⟨k, q, hk1, hk, rfl, rfl, rfl⟩ := hrel
    by_cases hlt : k < xs.length
    · obtain ⟨a', hA', hc0⟩ := HR.out.at_ (k := k) (by rw [ic_len]; exact hlt)
      injection hA' with hA'
      subst hA'
      rw [ic_get xs k hlt] at hc0
      have hs := HSTEP.out k hlt hk1
      have hc0' : (w.drewN q).cell? (a.add k) = some (.int .i64 xs[k]) := hc0
      generalize xs[k] = x at *
      have hi0 : (0 : Int) ≤ k := by omega
      have hi1 : (k : Int) < xs.length := by omega
      have HS := Lib.hid hs
      clear hs HR
      generalize F k = u at *
      go_wp2
      all_goals
        go_roundw
        case rel => exact ⟨k + 1, _, by omega, by omega, by go_num, by rw [HS.out]; rfl, rfl⟩
        case measure => simp [intOf]; omega
    · obtain rfl : k = xs.length := by omega
      go_wp2
      go_ret
      exact ⟨rfl, _, rfl⟩
theorem min_any (A : Option Addr) (c : Nat) (xs : List Int) (w : World) (hr : Row w A (ic xs)) (hn : xs.length ≤ 100000000) (h1 : 1 ≤ xs.length) :
    Calls Try.prog 90 #[.slice A xs.length c] w fun e w' => e = .returned (.int .i64 (fL minF xs xs.length)) ∧ ∃ q, w' = w.drewN q := by
  obtain ⟨a, hA, h0⟩ := hr.at_ (k := 0) (by rw [ic_len]; omega)
  subst hA
  rw [ic_get xs 0 (by omega), show a.add 0 = a from rfl] at h0
  have HSTEP := Lib.hid (fun k hk h => fL_step minF (xs := xs) (k := k) hk h)
  have HR := Lib.hid hr
  have HF : Hid (fL minF xs 1 = xs[0]) := fL_one minF (by omega)
  generalize hfn : fL minF xs = F at *
  have HFN := Lib.hid hfn
  clear hr hfn
  have hp : (1 : Int) ≤ xs.length := by omega
  have hp2 : (0 : Int) < xs.length := by omega
  generalize xs[0] = x0 at *
  obtain rfl := HF.out
  go_enter Try.func90, Try.ntmps90
  go_wp2
  go_loopw [3, 4] (fun z i wr => ∃ k q : Nat, 1 ≤ k ∧ k ≤ xs.length ∧ i = .int .i64 (k : Int) ∧ z = .int .i64 (F k) ∧ wr = w.drewN q) (fun _ i _ => xs.length - (intOf i).toNat)
  case atStart => exact ⟨1, 0, by omega, by omega, rfl, rfl, rfl⟩
  case round =>
    obtain ⟨k, q, hk1, hk, rfl, rfl, rfl⟩ := hrel
    by_cases hlt : k < xs.length
    · obtain ⟨a', hA', hc0⟩ := HR.out.at_ (k := k) (by rw [ic_len]; exact hlt)
      injection hA' with hA'
      subst hA'
      rw [ic_get xs k hlt] at hc0
      have hs := HSTEP.out k hlt hk1
      have hc0' : (w.drewN q).cell? (a.add k) = some (.int .i64 xs[k]) := hc0
      generalize xs[k] = x at *
      have hi0 : (0 : Int) ≤ k := by omega
      have hi1 : (k : Int) < xs.length := by omega
      have HS := Lib.hid hs
      clear hs HR
      generalize F k = u at *
      go_wp2
      all_goals
        go_roundw
        case rel => exact ⟨k + 1, _, by omega, by omega, by go_num, by rw [HS.out]; rfl, rfl⟩
        case measure => simp [intOf]; omega
    · obtain rfl : k = xs.length := by omega
      go_wp2
      go_ret
      exact ⟨rfl, _, rfl⟩
end Go.Proofs.Ytdhndoccdfbefaa
