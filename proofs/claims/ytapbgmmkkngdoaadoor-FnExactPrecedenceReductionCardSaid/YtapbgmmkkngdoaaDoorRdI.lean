/- The reduction of a precedence: the program's. -/
import Derived.Test.YtapbgmmkkngdoaaDoorClI
import Derived.Laws.IdiomCopy
namespace Go.Proofs.YtapbgmmkkngdoaaDoor
open Go.RowKit
def hitB (B : Nat → Nat) (x : Pr) : Bool := (orAll B (B x.2.toNat)).testBit x.1.toNat
def Is8 (x : Pr) : Prop := ∃ a b : Nat, x = ((a : Int), (b : Int)) ∧ a < 8 ∧ b < 8
set_option maxRecDepth 100000 in
set_option maxHeartbeats 4000000 in
theorem told_any (m : Int) (B : Nat → Nat) (hB8 : ∀ j, j < 8 → B j < 256) (g6 : Nat) (x : Pr) (hx : Is8 x) (w : World) (hP : BlockIs w g6 62 (precC m B)) (hT : TzTab w) :
    Calls Tryd.prog 50 #[.agg #[.int .i64 x.1, .int .i64 x.2], .pointer (some ⟨g6, 0, none⟩)] w fun e w' => e = .returned (.bool (hitB B x)) ∧ Below w.heap.size w w' := by
  obtain ⟨a, b, rfl, ha, hb⟩ := hx
  have HR : Hid (hitB B ((a : Int), (b : Int)) = (orAll B (B b)).testBit a) := by show _ = _; unfold hitB; simp only [Int.toNat_natCast]
  rw [HR.out]
  simp only
  have hbl := (Below.refl w.heap.size w).alloc (Nat.le_refl _) (.cells #[.int .i64 (a : Int), .int .i64 (b : Int)] 56)
  have H0 := Lib.hid (And.intro hbl (And.intro (hP.below ((Below.refl _ _).alloc (Nat.le_refl _) (.cells #[.int .i64 (a : Int), .int .i64 (b : Int)] 56))) (BlockIs.new w 56 #[.int .i64 (a : Int), .int .i64 (b : Int)])))
  have HT := Lib.hid hT
  have hb0 : (0 : Int) ≤ b := by omega
  have hb1 : (b : Int) < 8 := by omega
  clear hbl hP hT HR
  obtain ⟨W, hW⟩ : ∃ W, W = w.alloc (.cells #[.int .i64 (a : Int), .int .i64 (b : Int)] 56) := ⟨_, rfl⟩
  rw [← hW] at H0
  go_enter Tryd.func50, Tryd.ntmps50
  go_wp2
  rw [← hW]
  clear hW
  have kb : ∀ {X Y : World}, (Below w.heap.size w X ∧ BlockIs X g6 62 (precC m B) ∧ BlockIs X w.heap.size 56 #[.int .i64 (a : Int), .int .i64 (b : Int)]) → Below X.heap.size X Y → (Below w.heap.size w Y ∧ BlockIs Y g6 62 (precC m B) ∧ BlockIs Y w.heap.size 56 #[.int .i64 (a : Int), .int .i64 (b : Int)]) := fun h hb => ⟨h.1.trans (hb.mono h.1.size), h.2.1.below hb, h.2.2.below hb⟩
  obtain ⟨hW1, hW2, hW3⟩ := H0.out
  refine wp_region_detY (by kernel_rfl) (fun L w' => Below w.heap.size w w' ∧ BlockIs w' g6 62 (precC m B) ∧ BlockIs w' w.heap.size 56 #[.int .i64 (a : Int), .int .i64 (b : Int)]) (fun kk => (#[.agg (precC m B), .pointer (some ⟨w.heap.size, 1, none⟩), .int .i64 (b : Int), .pointer (some ⟨g6, 1, none⟩), .pointer (some ⟨g6, 1 + b, none⟩), .int .u64 (B b : Int), .int .u64 (orAll B (B b) : Nat), .pointer (some ⟨w.heap.size, 0, none⟩), .int .i64 (a : Int), .bool ((orAll B (B b)).testBit a), .bool ((orAll B (B b)).testBit a)] : Array Value).getD kk undef) (by kernel_rfl) (by kernel_rfl) ⟨hW1.drew, hW2, hW3⟩ ?_ ?_
  · intro L tm w' hall hS hsz hlow hval
    have ht : tm = #[.agg #[.int .i64 (a : Int), .int .i64 (b : Int)], .pointer (some ⟨g6, 0, none⟩), .pointer (some ⟨w.heap.size, 0, none⟩), .bool ((orAll B (B b)).testBit a), .agg (precC m B), .pointer (some ⟨w.heap.size, 1, none⟩), .int .i64 (b : Int), .pointer (some ⟨g6, 1, none⟩), .pointer (some ⟨g6, 1 + b, none⟩), .int .u64 (B b : Int), .int .u64 (orAll B (B b) : Nat), .pointer (some ⟨w.heap.size, 0, none⟩), .int .i64 (a : Int), .bool ((orAll B (B b)).testBit a)] := by
      refine arr_of _ _ hsz fun t ht => ?_
      have ht' : t < 14 := ht
      rcases (by omega : t = 0 ∨ t = 1 ∨ t = 2 ∨ t = 3 ∨ t = 4 ∨ t = 5 ∨ t = 6 ∨ t = 7 ∨ t = 8 ∨ t = 9 ∨ t = 10 ∨ t = 11 ∨ t = 12 ∨ t = 13) with rfl | rfl | rfl | rfl | rfl | rfl | rfl | rfl | rfl | rfl | rfl | rfl | rfl | rfl
      · exact hlow 0 (by kernel_rfl)
      · exact hlow 1 (by kernel_rfl)
      · exact hlow 2 (by kernel_rfl)
      · exact hval 10 _ 3 rfl rfl
      · exact hval 0 _ 4 rfl rfl
      · exact hval 1 _ 5 rfl rfl
      · exact hval 2 _ 6 rfl rfl
      · exact hval 3 _ 7 rfl rfl
      · exact hval 4 _ 8 rfl rfl
      · exact hval 5 _ 9 rfl rfl
      · exact hval 6 _ 10 rfl rfl
      · exact hval 7 _ 11 rfl rfl
      · exact hval 8 _ 12 rfl rfl
      · exact hval 9 _ 13 rfl rfl
    subst ht
    have HF := Lib.hid hS
    clear hlow hval hsz hall hS
    go_wp2
    go_ret
    exact ⟨rfl, HF.out.1⟩
  · intro L ac w' q op hLs hop hLi hLd hLn hS0 hlow hdep _
    have hq : q < 11 := (Array.getElem?_eq_some_iff.1 hop).1
    rcases (by omega : q = 0 ∨ q = 1 ∨ q = 2 ∨ q = 3 ∨ q = 4 ∨ q = 5 ∨ q = 6 ∨ q = 7 ∨ q = 8 ∨ q = 9 ∨ q = 10) with rfl | rfl | rfl | rfl | rfl | rfl | rfl | rfl | rfl | rfl | rfl
    · obtain rfl := Option.some.inj hop
      have e1 : ac.tmps[1]?.getD undef = .pointer (some ⟨g6, 0, none⟩) := (Array.getD_eq_getD_getElem? ..).symm.trans (hlow 1 (by kernel_rfl))
      exact ⟨wanted_free rfl, .inl (.inl ⟨w', exec_loadP (x := .tmp 1) rfl (hlow 1 (by kernel_rfl)) hS0.2.1, hS0⟩)⟩
    · obtain rfl := Option.some.inj hop
      have e2 : ac.tmps[2]?.getD undef = .pointer (some ⟨w.heap.size, 0, none⟩) := (Array.getD_eq_getD_getElem? ..).symm.trans (hlow 2 (by kernel_rfl))
      exact ⟨wanted_free rfl, .inl (.inl ⟨w', by simp [execOp, Act.eval, e2, go_sem], hS0⟩)⟩
    · obtain rfl := Option.some.inj hop
      have e5 : ac.tmps[5]?.getD undef = .pointer (some ⟨w.heap.size, 1, none⟩) := (Array.getD_eq_getD_getElem? ..).symm.trans (hdep 1 _ 5 (by kernel_rfl) rfl rfl)
      have hc := hS0.2.2.cell 1
      simp only [List.getElem?_toArray, List.getElem?_cons_zero, List.getElem?_cons_succ] at hc
      exact ⟨wanted_free rfl, .inl (.inl ⟨w', by simp [execOp, Act.eval, e5, hc, go_sem], hS0⟩)⟩
    · obtain rfl := Option.some.inj hop
      have e1 : ac.tmps[1]?.getD undef = .pointer (some ⟨g6, 0, none⟩) := (Array.getD_eq_getD_getElem? ..).symm.trans (hlow 1 (by kernel_rfl))
      exact ⟨wanted_free rfl, .inl (.inl ⟨w', by simp [execOp, Act.eval, e1, go_sem], hS0⟩)⟩
    · obtain rfl := Option.some.inj hop
      have e7 : ac.tmps[7]?.getD undef = .pointer (some ⟨g6, 1, none⟩) := (Array.getD_eq_getD_getElem? ..).symm.trans (hdep 3 _ 7 (by kernel_rfl) rfl rfl)
      have e6 : ac.tmps[6]?.getD undef = .int .i64 (b : Int) := (Array.getD_eq_getD_getElem? ..).symm.trans (hdep 2 _ 6 (by kernel_rfl) rfl rfl)
      exact ⟨wanted_free rfl, .inl (.inl ⟨w', by simp [execOp, Act.eval, e7, e6, hb0, hb1, go_sem], hS0⟩)⟩
    · obtain rfl := Option.some.inj hop
      have e8 : ac.tmps[8]?.getD undef = .pointer (some ⟨g6, 1 + b, none⟩) := (Array.getD_eq_getD_getElem? ..).symm.trans (hdep 4 _ 8 (by kernel_rfl) rfl rfl)
      have hc := (hS0.2.1.cell (1 + b)).trans (precC_at m B hb)
      exact ⟨wanted_free rfl, .inl (.inl ⟨w', by simp [execOp, Act.eval, e8, hc, go_sem], hS0⟩)⟩
    · obtain rfl := Option.some.inj hop
      have e4 : ac.tmps[4]?.getD undef = .agg (precC m B) := (Array.getD_eq_getD_getElem? ..).symm.trans (hdep 0 _ 4 (by kernel_rfl) rfl rfl)
      have e9 : ac.tmps[9]?.getD undef = .int .u64 (B b : Int) := (Array.getD_eq_getD_getElem? ..).symm.trans (hdep 5 _ 9 (by kernel_rfl) rfl rfl)
      refine ⟨wanted_free rfl, .inl (.inr ⟨51, #[.agg (precC m B), .int .u64 (B b : Int)], by simp [execOp, Act.eval, e4, e9, go_sem], (beforeAny_any m B (B b) w' (hB8 b hb) hB8 (HT.out.below hS0.1)).mono ?_⟩)⟩
      rintro e w2 ⟨rfl, hb⟩
      exact ⟨rfl, kb hS0 hb⟩
    · obtain rfl := Option.some.inj hop
      have e2 : ac.tmps[2]?.getD undef = .pointer (some ⟨w.heap.size, 0, none⟩) := (Array.getD_eq_getD_getElem? ..).symm.trans (hlow 2 (by kernel_rfl))
      exact ⟨wanted_free rfl, .inl (.inl ⟨w', by simp [execOp, Act.eval, e2, go_sem], hS0⟩)⟩
    · obtain rfl := Option.some.inj hop
      have e11 : ac.tmps[11]?.getD undef = .pointer (some ⟨w.heap.size, 0, none⟩) := (Array.getD_eq_getD_getElem? ..).symm.trans (hdep 7 _ 11 (by kernel_rfl) rfl rfl)
      have hc := hS0.2.2.cell 0
      simp only [List.getElem?_toArray, List.getElem?_cons_zero] at hc
      exact ⟨wanted_free rfl, .inl (.inl ⟨w', by simp [execOp, Act.eval, e11, hc, go_sem], hS0⟩)⟩
    · obtain rfl := Option.some.inj hop
      have e10 : ac.tmps[10]?.getD undef = .int .u64 (orAll B (B b) : Nat) := (Array.getD_eq_getD_getElem? ..).symm.trans (hdep 6 _ 10 (by kernel_rfl) rfl rfl)
      have e12 : ac.tmps[12]?.getD undef = .int .i64 (a : Int) := (Array.getD_eq_getD_getElem? ..).symm.trans (hdep 8 _ 12 (by kernel_rfl) rfl rfl)
      refine ⟨wanted_free rfl, .inl (.inr ⟨52, #[.int .u64 (orAll B (B b) : Nat), .int .i64 (a : Int)], by simp [execOp, Act.eval, e10, e12, go_sem], (call_still (has_any (orAll B (B b)) a (orAll_lt (B b) hB8) ha w')).mono ?_⟩)⟩
      rintro e w2 ⟨rfl, hb⟩
      exact ⟨rfl, kb hS0 hb⟩
    · obtain rfl := Option.some.inj hop
      have e13 : ac.tmps[13]?.getD undef = .bool ((orAll B (B b)).testBit a) := (Array.getD_eq_getD_getElem? ..).symm.trans (hdep 9 _ 13 (by kernel_rfl) rfl rfl)
      exact ⟨wanted_free rfl, .inl (.inl ⟨w', by simp [execOp, Act.eval, e13, go_sem], hS0⟩)⟩
def TOLD (g6 : Nat) : Value := .func (.func 50) #[] #[.pointer (some ⟨g6, 0, none⟩)]
theorem told_enters (args : Array Value) (w : World) : (callFunc 50 args).run Tryd.prog w = .ok (.enter 50 args) w :=
  enters_of Tryd.func50 (by kernel_rfl) rfl args w
set_option maxRecDepth 100000 in
set_option maxHeartbeats 2000000 in
theorem indexTold_any (m : Int) (B : Nat → Nat) (hB8 : ∀ j, j < 8 → B j < 256) (g6 : Nat) (A : Option Addr) (c : Nat) (xs : List Pr) (w : World) (hr : Row w A (pc xs)) (hx : ∀ x ∈ xs, Is8 x) (hP : BlockIs w g6 62 (precC m B)) (hT : TzTab w) (hn : xs.length ≤ 1000) :
    Calls Tryd.prog 79 #[.slice A xs.length c, .func (.func 50) #[] #[.pointer (some ⟨g6, 0, none⟩)]] w fun e w' => (∃ k : Nat, e = .returned (.int .i64 (k : Int)) ∧ ∃ h : k < xs.length, hitB B xs[k] = true ∧ ∀ i (hi : i < xs.length), i < k → hitB B xs[i] = false) ∧ Below w.heap.size w w' ∨ (e = .returned (.int .i64 (-1)) ∧ ∀ i (hi : i < xs.length), hitB B xs[i] = false) ∧ Below w.heap.size w w' := by
  have HEN := Lib.hid told_enters
  have HTOLD := Lib.hid (fun x (h : x ∈ xs) W (hb : Below w.heap.size w W) => told_any m B hB8 g6 x (hx x h) W (hP.below hb) (hT.below hb))
  clear hP hT hx
  go_enter Tryd.func79, Tryd.ntmps79
  go_wp2
  go_loopw [8] (fun v wr => ∃ k : Nat, k ≤ xs.length ∧ v = .int .i64 (k : Int) ∧ Hid (∀ i (hi : i < xs.length), i < k → hitB B xs[i] = false) ∧ Below w.heap.size w wr) (fun v _ => xs.length - (intOf v).toNat)
  case atStart => exact ⟨0, Nat.zero_le _, rfl, fun _ _ h => absurd h (by omega), Below.refl _ _⟩
  case round =>
    obtain ⟨k, hk, rfl, hA, hb⟩ := hrel
    by_cases hlt : k < xs.length
    · obtain ⟨ad, hA', _, hc0, hc1⟩ := (hr.below hb).pair hlt
      subst hA'
      have HB := Lib.hid hb
      have hk0 : (0 : Int) ≤ k := by omega
      have hk1 : (k : Int) < xs.length := by omega
      have HC := Lib.hid (HTOLD.out _ (List.getElem_mem hlt) wr hb)
      have hen := HEN.out #[.agg #[.int .i64 xs[k].1, .int .i64 xs[k].2], .pointer (some ⟨g6, 0, none⟩)] wr
      cases hh : hitB B xs[k]
      · have HA : Hid (∀ i (hi : i < xs.length), i < k + 1 → hitB B xs[i] = false) := fun i hi h => by
          by_cases e : i = k
          · subst e; exact hh
          · exact hA.out i hi (by omega)
        rw [hh] at HC
        clear hr hb hA hh
        generalize xs[k] = x at *
        go_wp2_with fail
        refine HC.out.mono ?_
        rintro e w1 ⟨rfl, hb1⟩
        go_wp2
        go_roundw
        case rel => exact ⟨k + 1, by omega, by go_num, HA.out, HB.out.trans (hb1.mono HB.out.size)⟩
        case measure => simp [intOf]; omega
      · have HH := Lib.hid hh
        rw [hh] at HC
        clear hr hb hh
        obtain ⟨x, hxk⟩ : ∃ x, xs[k] = x := ⟨_, rfl⟩
        rw [hxk] at HC hen hc0 hc1
        clear hxk
        go_wp2_with fail
        refine HC.out.mono ?_
        rintro e w1 ⟨rfl, hb1⟩
        go_wp2
        go_ret
        exact .inl ⟨⟨k, rfl, hlt, HH.out, hA.out⟩, HB.out.trans (hb1.mono HB.out.size)⟩
    · obtain rfl : k = xs.length := by omega
      go_wp2
      go_ret
      exact .inr ⟨⟨rfl, fun i hi => hA.out i hi hi⟩, hb⟩
/-- A row that is being cut: the first are kept, those from j on are as they were. -/
def Cut (wr : World) (g c : Nat) (xs ys : List Pr) (j : Nat) : Prop := ∃ cs : Array Value, BlockIs wr g 56 cs ∧ cs.size = c * 2 ∧ (∀ q, q < ys.length * 2 → cs[q]? = (pc ys)[q]?) ∧ ∀ q, j * 2 ≤ q → q < xs.length * 2 → cs[q]? = (pc xs)[q]?
theorem Cut.below {w w' : World} {g c : Nat} {xs ys : List Pr} {j : Nat} (h : Cut w g c xs ys j) (hb : Below w.heap.size w w') : Cut w' g c xs ys j := by
  obtain ⟨cs, h1, h2⟩ := h
  exact ⟨cs, h1.below hb, h2⟩
theorem Cut.skip {w : World} {g c : Nat} {xs ys : List Pr} {j : Nat} (h : Cut w g c xs ys j) : Cut w g c xs ys (j + 1) := by
  obtain ⟨cs, h1, h2, h3, h4⟩ := h
  exact ⟨cs, h1, h2, h3, fun q hq => h4 q (by omega)⟩
theorem Cut.keep {w : World} {g c : Nat} {xs ys : List Pr} {j : Nat} (h : Cut w g c xs ys j) (hj : j < xs.length) (hy : ys.length < j) (hc : xs.length ≤ c) :
    Cut ((w.setCell ⟨g, ys.length * 2, none⟩ (.int .i64 xs[j].1)).setCell ⟨g, ys.length * 2 + 1, none⟩ (.int .i64 xs[j].2)) g c xs (ys ++ [xs[j]]) (j + 1) := by
  obtain ⟨cs, h1, h2, h3, h4⟩ := h
  have hpl := pc_len ys
  refine ⟨_, (h1.set (ys.length * 2) _).set (ys.length * 2 + 1) _, by simp [h2], fun q hq => ?_, fun q hq hq2 => ?_⟩
  · rw [List.length_append, List.length_singleton] at hq
    rw [pc_snoc, Array.getElem?_setIfInBounds, Array.getElem?_setIfInBounds]
    by_cases e1 : ys.length * 2 + 1 = q
    · subst e1
      rw [if_pos rfl, List.getElem?_append_right (by omega), hpl, show ys.length * 2 + 1 - 2 * ys.length = 1 by omega]
      simp [cellsP]
      omega
    · rw [if_neg e1]
      by_cases e2 : ys.length * 2 = q
      · subst e2
        rw [if_pos rfl, List.getElem?_append_right (by omega), hpl, show ys.length * 2 - 2 * ys.length = 0 by omega]
        simp [cellsP]
        omega
      · rw [if_neg e2, List.getElem?_append_left (by omega)]
        exact h3 q (by omega)
  · rw [Array.getElem?_setIfInBounds, if_neg (by omega), Array.getElem?_setIfInBounds, if_neg (by omega)]
    exact h4 q (by omega) hq2
theorem Cut.at_ {w : World} {g c : Nat} {xs ys : List Pr} {j : Nat} (h : Cut w g c xs ys j) {q : Nat} (hj : j ≤ q) (hq : q < xs.length) : w.cell? ⟨g, q * 2, none⟩ = some (.int .i64 xs[q].1) ∧ w.cell? ⟨g, q * 2 + 1, none⟩ = some (.int .i64 xs[q].2) := by
  obtain ⟨cs, h1, h2, h3, h4⟩ := h
  have a := pc_get xs q 0 hq (by omega)
  have b := pc_get xs q 1 hq (by omega)
  refine ⟨?_, ?_⟩
  · rw [h1.cell, h4 (q * 2) (by omega) (by omega)]; exact a
  · rw [h1.cell, h4 (q * 2 + 1) (by omega) (by omega)]; exact b
theorem Cut.has {w : World} {g c : Nat} {xs ys : List Pr} {j : Nat} (h : Cut w g c xs ys j) {q : Nat} (hq : q < c * 2) : (∃ v, w.cell? ⟨g, q, none⟩ = some v) ∧ w.frozen? ⟨g, q, none⟩ = false := by
  obtain ⟨cs, h1, h2, h3, h4⟩ := h
  exact ⟨h1.has (by omega), h1.frozen q⟩
theorem cut_cells (g : Nat) {t : TypeId} : ∀ (L : List Value) (o : Nat) (w : World) (cs : Array Value), BlockIs w g t cs → ∃ cs', BlockIs (w.setCells g o L) g t cs' ∧ cs'.size = cs.size ∧ ∀ q, q < o → cs'[q]? = cs[q]?
  | [], _, _, cs, h => ⟨cs, h, rfl, fun _ _ => rfl⟩
  | v :: r, o, w, cs, h => by
    obtain ⟨cs', h1, h2, h3⟩ := cut_cells g r (o + 1) _ _ (h.set o v)
    refine ⟨cs', h1, by rw [h2]; simp, fun q hq => ?_⟩
    rw [h3 q (by omega), Array.getElem?_setIfInBounds, if_neg (by omega)]
theorem below_cells {H : Nat} {w0 : World} (g : Nat) (hg : H ≤ g) : ∀ (L : List Value) (o : Nat) (w : World), Below H w0 w → Below H w0 (w.setCells g o L)
  | [], _, _, h => h
  | v :: r, o, _, h => below_cells g hg r (o + 1) _ (h.setCell (p := ⟨g, o, none⟩) hg v)
/-- clear of a slice of pairs. -/
theorem run_clearP (w : World) (ty : TypeId) (g o n c : Nat) (hn : 0 < n) (hc : ∀ j, j < n * 2 → (w.cell? ⟨g, o + j, none⟩).isSome = true) (hf : ∀ j, j < n * 2 → w.frozen? ⟨g, o + j, none⟩ = false) :
    ∃ L, (Builtin.clear_ #[22] ty #[.slice (some ⟨g, o, none⟩) n c]).run Tryd.prog w = .ok (.tuple #[]) (w.setCells g o L) := by
  refine ⟨(Builtin.zeroCells #[.int .i64 0, .int .i64 0] n).toList, ?_⟩
  have hlen : (Builtin.zeroCells #[.int .i64 0, .int .i64 0] n).toList.length = n * 2 := by simp [Builtin.zeroCells]
  have hst := run_storeCells_cells (P := Tryd.prog) g o (Builtin.zeroCells #[.int .i64 0, .int .i64 0] n).toList 0 w (by rw [hlen]; simpa using hc) (by rw [hlen]; simpa using hf) (by
    intro v hv
    simp [Builtin.zeroCells] at hv
    obtain ⟨i, hi, rfl⟩ := hv
    have h2 : i % 2 = 0 ∨ i % 2 = 1 := by omega
    rcases h2 with h2 | h2 <;> rw [h2] <;> rfl)
  simp only [Nat.add_zero] at hst
  obtain ⟨m, rfl⟩ : ∃ m, n = m + 1 := ⟨n - 1, by omega⟩
  simp [Builtin.clear_, run_underlying Tryd.underlying22, Tryd.zeroValue56, Value.cells, hst]
def keptTo (B : Nat → Nat) (xs : List Pr) (j : Nat) : List Pr := (xs.take j).filter fun x => !hitB B x
theorem keptTo_yes {B : Nat → Nat} {xs : List Pr} {j : Nat} (hj : j < xs.length) (h : hitB B xs[j] = false) : keptTo B xs (j + 1) = keptTo B xs j ++ [xs[j]] := by
  unfold keptTo; rw [List.take_succ_eq_append_getElem hj, List.filter_append]; simp [h]
theorem keptTo_no {B : Nat → Nat} {xs : List Pr} {j : Nat} (hj : j < xs.length) (h : hitB B xs[j] = true) : keptTo B xs (j + 1) = keptTo B xs j := by
  unfold keptTo; rw [List.take_succ_eq_append_getElem hj, List.filter_append]; simp [h]
theorem keptTo_all {B : Nat → Nat} {xs : List Pr} : ∀ (j : Nat), j ≤ xs.length → (∀ i (hi : i < xs.length), i < j → hitB B xs[i] = false) → keptTo B xs j = xs.take j
  | 0, _, _ => rfl
  | j + 1, hj, h => by
    rw [keptTo_yes (by omega) (h j (by omega) (by omega)), keptTo_all j (by omega) (fun i hi hij => h i hi (by omega)), List.take_succ_eq_append_getElem (by omega)]
set_option maxRecDepth 100000 in
set_option maxHeartbeats 4000000 in
theorem deleteTold_any {w0 : World} (m : Int) (B : Nat → Nat) (hB8 : ∀ j, j < 8 → B j < 256) (g6 : Nat) (v : Value) (xs : List Pr) (w : World) (ho : w.ownsRow w0.heap.size 56 2 v xs.length (pc xs)) (hw0 : Below w0.heap.size w0 w) (hx : ∀ x ∈ xs, Is8 x) (hP : BlockIs w g6 62 (precC m B)) (hT : TzTab w0) (hn : xs.length ≤ 1000) :
    Calls Tryd.prog 53 #[v, .func (.func 50) #[] #[.pointer (some ⟨g6, 0, none⟩)]] w fun e w' => ∃ v', e = .returned v' ∧ w'.ownsRow w0.heap.size 56 2 v' (keptTo B xs xs.length).length (pc (keptTo B xs xs.length)) ∧ Below w0.heap.size w0 w' := by
  obtain ⟨A, c, rfl, hr⟩ := own_slice ho
  obtain ⟨hnc, hr⟩ := hr
  have HI := Lib.hid (indexTold_any m B hB8 g6 A c xs w hr hx hP (hT.below hw0) hn)
  have HEN := Lib.hid told_enters
  have HTOLD := Lib.hid (fun x (h : x ∈ xs) W (hb : Below w0.heap.size w0 W) (hp : BlockIs W g6 62 (precC m B)) => told_any m B hB8 g6 x (hx x h) W hp (hT.below hb))
  have HO := Lib.hid (And.intro ho (And.intro hw0 hP))
  clear hr hx hP hT ho hw0
  go_enter Tryd.func53, Tryd.ntmps53
  go_wp2_with fail
  refine HI.out.mono ?_
  rintro e w1 (⟨⟨k, rfl, hk, hh, ha⟩, hb1⟩ | ⟨⟨rfl, ha⟩, hb1⟩)
  · obtain ⟨g, cur, rfl, hgB, hBk, hncc, hcm, hsz, htk⟩ := own_block HO.out.1 (by omega)
    have e1 : ((k : Int) == -1) = false := by simp
    have hk1000 : k ≤ 1000 := by omega
    have HCUT : Hid (Cut w1 g c xs (keptTo B xs (k + 1)) (k + 1)) := by
      show Cut _ _ _ _ _ _
      rw [keptTo_no hk hh, keptTo_all k (by omega) ha]
      refine ⟨cur, hBk.below hb1, hsz, fun q hq => ?_, fun q _ hq => ?_⟩
      · have hpk := pc_len (xs.take k)
        have hpl := pc_len xs
        have hlt : (xs.take k).length = k := by simp; omega
        rw [hlt] at hq
        have e2 : (pc (xs.take k))[q]? = (pc xs)[q]? := by
          have : pc xs = pc (xs.take k) ++ pc (xs.drop k) := by unfold pc; rw [← List.flatMap_append, List.take_append_drop]
          rw [this, List.getElem?_append_left (by rw [hpk, hlt]; omega)]
        rw [e2, ← htk, List.getElem?_take, if_pos (by omega), Array.getElem?_toList]
      · rw [← htk, List.getElem?_take, if_pos hq, Array.getElem?_toList]
    have HL : Hid ((keptTo B xs (k + 1)).length = k) := by show _ = _; rw [keptTo_no hk hh, keptTo_all k (by omega) ha]; simp only [List.length_take]; omega
    have HB1 := Lib.hid (And.intro (HO.out.2.1.trans (hb1.mono HO.out.2.1.size)) (HO.out.2.2.below hb1))
    clear HI HO hb1 hh ha hBk htk hsz
    go_wp2
    go_loopw [5, 6] (fun iv jv wr => ∃ (i j : Nat), j ≤ xs.length ∧ jv = .int .i64 (j : Int) ∧ iv = .int .i64 (i : Int) ∧ i < j ∧ Hid ((keptTo B xs j).length = i) ∧ Hid (Cut wr g c xs (keptTo B xs j) j) ∧ Hid (Below w0.heap.size w0 wr ∧ BlockIs wr g6 62 (precC m B))) (fun _ jv _ => xs.length - (intOf jv).toNat)
    case atStart => exact ⟨k, k + 1, by omega, by go_num, rfl, by omega, HL, HCUT, HB1.out⟩
    case round =>
      clear HL HCUT HB1 e1
      obtain ⟨i, j, hj, rfl, rfl, hij, hL, hC, hB⟩ := hrel
      by_cases hlt : j < xs.length
      · obtain ⟨c0, c1⟩ := hC.out.at_ (q := j) (Nat.le_refl _) hlt
        have hj0 : (0 : Int) ≤ j := by omega
        have hj1 : (j : Int) < xs.length := by omega
        have hbn := hB.out.1.alloc hB.out.1.size (.cells #[.int .i64 xs[j].1, .int .i64 xs[j].2] 56)
        have hbw : Below wr.heap.size wr (wr.alloc (.cells #[.int .i64 xs[j].1, .int .i64 xs[j].2] 56)) := (Below.refl _ _).alloc (Nat.le_refl _) _
        have hpn := hB.out.2.below hbw
        have hnb := BlockIs.new wr 56 #[.int .i64 xs[j].1, .int .i64 xs[j].2]
        have HC := Lib.hid (HTOLD.out _ (List.getElem_mem hlt) _ hbn hpn)
        have hen := HEN.out #[.agg #[.int .i64 xs[j].1, .int .i64 xs[j].2], .pointer (some ⟨g6, 0, none⟩)] (wr.alloc (.cells #[.int .i64 xs[j].1, .int .i64 xs[j].2] 56))
        have n0 := hnb.cell 0
        have n1 := hnb.cell 1
        simp only [List.getElem?_toArray, List.getElem?_cons_zero, List.getElem?_cons_succ] at n0 n1
        have HN := Lib.hid (And.intro hbn (And.intro hpn (And.intro hnb (hC.out.below hbw))))
        have HY : Hid (hitB B xs[j] = false → keptTo B xs (j + 1) = keptTo B xs j ++ [xs[j]]) := keptTo_yes hlt
        have HNo : Hid (hitB B xs[j] = true → keptTo B xs (j + 1) = keptTo B xs j) := keptTo_no hlt
        have hgl : g < wr.heap.size := by obtain ⟨cs, h1, _⟩ := hC.out; exact h1.lt
        have HKP : Hid (∀ W, Cut W g c xs (keptTo B xs j) j → Cut ((W.setCell ⟨g, i * 2, none⟩ (.int .i64 xs[j].1)).setCell ⟨g, i * 2 + 1, none⟩ (.int .i64 xs[j].2)) g c xs (keptTo B xs j ++ [xs[j]]) (j + 1)) := fun W hW => by
          have := hW.keep hlt (by rw [hL.out]; exact hij) hnc
          rwa [hL.out] at this
        clear hbn hbw hpn hnb hB hC
        obtain ⟨x, hxj⟩ : ∃ x, xs[j] = x := ⟨_, rfl⟩
        rw [hxj] at HC hen c0 c1 n0 n1 HN HY HNo HKP
        clear hxj
        cases hh : hitB B x
        · have HS := HY.out hh
          rw [hh] at HC
          clear hh HNo HY
          have hi0 : (0 : Int) ≤ i := by omega
          have hi1 : (i : Int) < xs.length := by omega
          go_wp2_with fail
          refine HC.out.mono ?_
          rintro e w2 ⟨rfl, hb2⟩
          have hc2 := HN.out.2.2.2.below hb2
          obtain ⟨⟨u0, hu0⟩, hf0⟩ := hc2.has (q := i * 2) (by omega)
          obtain ⟨⟨u1, hu1⟩, hf1⟩ := hc2.has (q := i * 2 + 1) (by omega)
          have hnb2 := HN.out.2.2.1.below hb2
          have m0 := hnb2.cell 0
          have m1 := hnb2.cell 1
          simp only [List.getElem?_toArray, List.getElem?_cons_zero, List.getElem?_cons_succ] at m0 m1
          have HF := Lib.hid (And.intro (HKP.out w2 hc2) (And.intro (((HN.out.1.trans (hb2.mono HN.out.1.size)).setCell (p := ⟨g, i * 2, none⟩) hgB (.int .i64 x.1)).setCell (p := ⟨g, i * 2 + 1, none⟩) hgB (.int .i64 x.2)) (((HN.out.2.1.below hb2).away (g' := g) (fun e => by
            subst e
            obtain ⟨cs, h1, _⟩ := hc2
            exact type_ne (HN.out.2.1.below hb2) h1 (by decide) rfl) (i * 2) (.int .i64 x.1)).away (g' := g) (fun e => by
            subst e
            obtain ⟨cs, h1, _⟩ := hc2
            exact type_ne (HN.out.2.1.below hb2) h1 (by decide) rfl) (i * 2 + 1) (.int .i64 x.2))))
          have HLN : Hid ((keptTo B xs (j + 1)).length = i + 1) := by show _ = _; rw [HS, List.length_append, hL.out]; rfl
          rw [← HS] at HF
          clear hc2 hnb2 hb2 HN HKP HS c0 c1 n0 n1
          go_wp2
          go_roundw
          case rel => exact ⟨i + 1, j + 1, by omega, by go_num, by go_num, by omega, HLN.out, HF.out.1, HF.out.2.1, HF.out.2.2⟩
          case measure => simp [intOf]; omega
        · have HS := HNo.out hh
          rw [hh] at HC
          clear hh HNo HY
          go_wp2_with fail
          refine HC.out.mono ?_
          rintro e w2 ⟨rfl, hb2⟩
          have HF := Lib.hid (And.intro (HN.out.2.2.2.below hb2).skip (And.intro (HN.out.1.trans (hb2.mono HN.out.1.size)) (HN.out.2.1.below hb2)))
          rw [← HS] at HF hL
          clear hb2 HN HKP HS c0 c1 n0 n1
          go_wp2
          go_roundw
          case rel => exact ⟨i, j + 1, by omega, by go_num, rfl, by omega, hL, HF.out.1, HF.out.2⟩
          case measure => simp [intOf]; omega
      · obtain rfl : j = xs.length := by omega
        have hi0 : (0 : Int) ≤ i := by omega
        have hi1 : (i : Int) ≤ xs.length := by omega
        have hi2 : (i : Int) ≤ c := by omega
        have hne : (c == i) = false := by simp; omega
        have hne' : ¬ c = i := by omega
        obtain ⟨L, hcl⟩ := run_clearP wr 0 g (i * 2) (xs.length - i) (c - i) (by omega) (fun q hq => by obtain ⟨⟨u, hu⟩, _⟩ := hC.out.has (q := i * 2 + q) (by omega); rw [hu]; rfl) (fun q hq => (hC.out.has (q := i * 2 + q) (by omega)).2)
        have HF : Hid ((wr.setCells g (i * 2) L).ownsRow w0.heap.size 56 2 (.slice (some ⟨g, 0, none⟩) i c) i (pc (keptTo B xs xs.length)) ∧ Below w0.heap.size w0 (wr.setCells g (i * 2) L)) := by
          obtain ⟨cs, h1, h2, h3, _⟩ := hC.out
          obtain ⟨cs', k1, k2, k3⟩ := cut_cells g L (i * 2) wr cs h1
          refine ⟨?_, below_cells g hgB L _ _ hB.out.1⟩
          have := k1.own (base := w0.heap.size) (n := i) (c := c) (size := 2) hgB (by omega) (by omega) hcm (by omega)
          have e2 : cs'.toList.take (i * 2) = pc (keptTo B xs xs.length) := by
            have hpl := pc_len (keptTo B xs xs.length)
            rw [hL.out] at hpl h3
            apply List.ext_getElem?
            intro q
            rw [List.getElem?_take]
            by_cases hq : q < i * 2
            · rw [if_pos hq, Array.getElem?_toList, k3 q hq, h3 q hq]
            · rw [if_neg hq, List.getElem?_eq_none (by omega)]
          rwa [e2] at this
        clear hC hB
        go_wp2
        go_ret
        exact ⟨_, rfl, by rw [hL.out]; exact HF.out.1, HF.out.2⟩
  · have HK : Hid (keptTo B xs xs.length = xs) := by show _ = _; rw [keptTo_all xs.length (Nat.le_refl _) (fun i hi _ => ha i hi), List.take_length]
    have HF := Lib.hid (And.intro (own_blw HO.out.1 hb1) (HO.out.2.1.trans (hb1.mono HO.out.2.1.size)))
    clear HI HO hb1 ha
    go_wp2
    go_ret
    exact ⟨_, rfl, by rw [HK.out]; exact HF.out.1, HF.out.2⟩
theorem clsTo_mem {n : Nat} {T : Nat → Nat → Bool} : ∀ {k : Nat} {x : Pr}, x ∈ clsTo n T k → ∃ a b : Nat, x = ((a : Int), (b : Int)) ∧ a < k ∧ b < n := by
  intro k x h
  unfold clsTo at h
  obtain ⟨i, hi, h2⟩ := List.mem_flatMap.1 h
  obtain ⟨j, hj, rfl⟩ := List.mem_map.1 h2
  exact ⟨i, j, rfl, List.mem_range.1 hi, List.mem_range.1 (List.mem_filter.1 hj).1⟩
theorem redu_same {m : Nat} (hm : m ≤ 8) (E : List Ed) : keptTo (befN m (tabB m E)) (closL m E) (closL m E).length = reduL m E := by
  unfold keptTo closL reduL
  rw [List.take_length]
  have h := clsTo_filter m (tabB m E) (fun i j => !(orAll (befN m (tabB m E)) (befN m (tabB m E) j)).testBit i) m
  refine Eq.trans ?_ (h.trans (clsTo_congr (fun i j hi hj => ?_) m (Nat.le_refl _)))
  · rfl
  · unfold directB
    congr 1
    congr 1
    rw [Bool.eq_iff_iff, orAll_bit _ (bef_lt hm _ _), List.any_eq_true]
    constructor
    · rintro ⟨k, h1, h2⟩
      rw [bef_bit, Bool.and_eq_true, decide_eq_true_eq] at h1 h2
      exact ⟨k, List.mem_range.2 h1.1, by rw [h2.2, h1.2]; rfl⟩
    · rintro ⟨k, h1, h2⟩
      rw [Bool.and_eq_true] at h2
      exact ⟨k, by rw [bef_bit, decide_eq_true (List.mem_range.1 h1), h2.2]; rfl, by rw [bef_bit, decide_eq_true hi, h2.1]; rfl⟩
set_option maxRecDepth 100000 in
set_option maxHeartbeats 1000000 in
theorem impl_PrecedenceReduction (A : Option Addr) (c : Nat) (n : Int) (E : List Pr) (w : World) (hr : Row w A (pc E)) (hl : E.length ≤ 10000000) (hT : TzTab w) :
    Calls Tryd.prog 21 #[.int .i64 n, .slice A E.length c] w (RetPB w (reduR n E)) := by
  have HRR : Hid (reduR n E = if precB n E then (reduL n.toNat E, true) else ([], false)) := rfl
  have H := Lib.hid (precedenceOf_any A c n E w hr hl hT)
  have HT := Lib.hid hT
  clear hT hr
  go_enter Tryd.func21, Tryd.ntmps21
  go_wp2_with fail
  refine H.out.mono ?_
  rintro e w1 ⟨hb, ⟨hp, m, rfl, hm, _, _, rfl⟩ | ⟨hp, rfl⟩⟩
  · rw [hp, Int.toNat_natCast] at HRR
    have HBK := Lib.hid (BlockIs.new w1 62 (precC (m : Int) (befN m (tabB m E))))
    have HP := Lib.hid (pairs_any m hm (befN m (tabB m E)) (fun j _ => bef_lt hm _ j) (w1.alloc (.cells (precC (m : Int) (befN m (tabB m E))) 62)))
    rw [bitT_tab] at HP
    have HB := Lib.hid (hb.alloc hb.size (.cells (precC (m : Int) (befN m (tabB m E))) 62))
    clear hp hb H
    unfold precC
    have HP' := HP
    have HB' := HB
    have HBK' := HBK
    unfold precC at HP' HB' HBK'
    go_wp2_with fail
    refine HP'.out.mono ?_
    rintro e w2 ⟨v, rfl, ho, hb2⟩
    have hxs : ∀ x ∈ closL m E, Is8 x := fun x hx => by
      obtain ⟨a, b, e, ha, hb⟩ := clsTo_mem (show x ∈ clsTo m (tabB m E) m from hx)
      exact ⟨a, b, e, by omega, by omega⟩
    have hlen : (closL m E).length ≤ 1000 := by
      have h1 := clsTo_len m (tabB m E) m
      have h3 : m * m ≤ 8 * 8 := Nat.mul_le_mul hm hm
      show (clsTo _ _ _).length ≤ _
      omega
    have HD := Lib.hid (deleteTold_any (w0 := w) (m : Int) (befN m (tabB m E)) (fun j _ => bef_lt hm _ j) w1.heap.size v (closL m E) w2 (own_low ho HB'.out.size) (HB'.out.trans (hb2.mono HB'.out.size)) hxs (HBK.out.below hb2) HT.out hlen)
    rw [redu_same hm] at HD
    clear ho hb2 HB HP HBK HP' HB' HBK' hxs hlen
    go_wp2_with fail
    refine HD.out.mono ?_
    rintro e w3 ⟨v', rfl, ho, hb3⟩
    have HO := Lib.hid (And.intro ho hb3)
    clear ho hb3 HD
    go_wp2
    go_ret2
    exact ret_ownPr (p := reduL m E) HRR.out HO.out.1 HO.out.2 _ rfl
  · rw [hp] at HRR
    have HB := Lib.hid hb
    clear hp hb
    unfold precZ
    go_wp2
    go_ret2
    refine ret_emptyP HRR.out (HB.out.alloc HB.out.size _) _ ?_
    rw [World.size_alloc]
    rfl
end Go.Proofs.YtapbgmmkkngdoaaDoor
