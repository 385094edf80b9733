/- Good pairs: the model's. -/
import Derived.Test.YtjemjdlaoebffaaDoorTba
import Derived.Test.YtjemjdlaoebffaaDoorGood
import Derived.Test.YtjemjdlaoebffaaDoorPrg
namespace Go.Proofs.YtjemjdlaoebffaaDoor
open Go.RowKit
def befP (x y : Pr) : Bool := decide (x.1 < y.1 ∨ x.1 = y.1 ∧ x.2 < y.2)
set_option maxHeartbeats 1000000 in
theorem l4Before_any (x y : Pr) (w : World) :
    Calls Tryd.prog 151 #[.agg #[.int .i64 x.1, .int .i64 x.2], .agg #[.int .i64 y.1, .int .i64 y.2]] w fun e w' => e = .returned (.bool (befP x y)) ∧ Below w.heap.size w w' := by
  have b1 := (Below.refl w.heap.size w).alloc (Nat.le_refl _) (.cells #[.int .i64 x.1, .int .i64 x.2] 37)
  have HB := Lib.hid (b1.alloc b1.size (.cells #[.int .i64 y.1, .int .i64 y.2] 37))
  obtain ⟨x1, x2⟩ := x
  obtain ⟨y1, y2⟩ := y
  simp only at HB ⊢
  clear b1
  by_cases h1 : x1 < y1
  · have HR : Hid (befP (x1, x2) (y1, y2) = true) := decide_eq_true (.inl h1)
    go_enter Tryd.func151, Tryd.ntmps151
    go_wp2
    go_ret
    exact ⟨by rw [HR.out]; rfl, HB.out⟩
  · by_cases h2 : x1 = y1
    · have HR : Hid (befP (x1, x2) (y1, y2) = decide (x2 < y2)) := by
        show _ = _
        unfold befP
        rw [decide_eq_decide]
        simp only
        omega
      have e2 : ((x1 : Int) == y1) = true := by simp [h2]
      have H2 := Lib.hid h2
      clear h2
      go_enter Tryd.func151, Tryd.ntmps151
      go_wp2
      go_ret
      exact ⟨by rw [HR.out]; rfl, HB.out⟩
    · have HR : Hid (befP (x1, x2) (y1, y2) = false) := by
        show _ = _
        unfold befP
        rw [decide_eq_false_iff_not]
        simp only
        omega
      have e2 : ((x1 : Int) == y1) = false := by simp [h2]
      have H2 := Lib.hid h2
      clear h2
      go_enter Tryd.func151, Tryd.ntmps151
      go_wp2
      go_ret
      exact ⟨by rw [HR.out]; rfl, HB.out⟩
/-- What an edge must hold, for the model. -/
theorem badS {n : Int} {E : List Pr} {k : Nat} (hk : k < E.length) (h : inB E[k].1 0 (IntKind.i64.wrap (n - 1)) = false ∨ inB E[k].2 0 (IntKind.i64.wrap (n - 1)) = false ∨ E[k].1 = E[k].2 ∨ (0 < k ∧ befP (E.getD (k - 1) (0, 0)) E[k] = false)) : precB n E = false := by
  by_cases hn : 0 ≤ n ∧ n ≤ 8
  · have hw : IntKind.i64.wrap (n - 1) = n - 1 := IntWalk.i64_in _ (by omega)
    rw [hw] at h
    have hbad : edOk n E k = false → precB n E = false := fun hh => by
      unfold precB pairsB
      rw [pairsTo_bad hk hh, Bool.and_false, Bool.and_false, Bool.false_and]
    unfold inB at h
    rcases h with h | h | h | ⟨h, h'⟩
    · refine hbad ?_
      unfold edOk
      rw [getD_at E (0, 0) hk, Bool.and_eq_false_iff]
      refine .inl (decide_eq_false fun hh => ?_)
      simp only [decide_eq_false_iff_not] at h
      omega
    · refine hbad ?_
      unfold edOk
      rw [getD_at E (0, 0) hk, Bool.and_eq_false_iff]
      refine .inl (decide_eq_false fun hh => ?_)
      simp only [decide_eq_false_iff_not] at h
      omega
    · exact prec_self hk h
    · refine hbad ?_
      unfold edOk
      unfold befP at h'
      rw [getD_at E (0, 0) hk, Bool.and_eq_false_iff, Bool.or_eq_false_iff]
      exact .inr ⟨decide_eq_false (by omega), h'⟩
  · unfold precB pairsB
    rw [decide_eq_false hn, Bool.false_and, Bool.false_and]
theorem okS {n : Int} {E : List Pr} {k : Nat} (hn : 0 ≤ n ∧ n ≤ 8) (hk : k < E.length) (h1 : inB E[k].1 0 (IntKind.i64.wrap (n - 1)) = true) (h2 : inB E[k].2 0 (IntKind.i64.wrap (n - 1)) = true) (h4 : k = 0 ∨ befP (E.getD (k - 1) (0, 0)) E[k] = true) : edOk n E k = true := by
  have hw : IntKind.i64.wrap (n - 1) = n - 1 := IntWalk.i64_in _ (by omega)
  rw [hw] at h1 h2
  unfold inB at h1 h2
  simp only [decide_eq_true_eq] at h1 h2
  unfold edOk
  rw [getD_at E (0, 0) hk, Bool.and_eq_true, Bool.or_eq_true, decide_eq_true_eq, decide_eq_true_eq]
  refine ⟨by omega, ?_⟩
  rcases h4 with h | h
  · exact .inl h
  · unfold befP at h
    exact .inr h
set_option maxRecDepth 100000 in
set_option maxHeartbeats 4000000 in
theorem l4Pairs_any (A : Option Addr) (c : Nat) (n : Int) (E : List Pr) (w : World) (hr : Row w A (pc E)) (hl : E.length ≤ 10000000) :
    Calls Tryd.prog 100 #[.int .i64 n, .slice A E.length c] w fun e w' => ∃ b, e = .returned (.bool b) ∧ (b = true → pairsB n E = true) ∧ (b = false → precB n E = false) ∧ Below w.heap.size w w' := by
  go_enter Tryd.func100, Tryd.ntmps100
  go_wp2
  go_loopw [5] (fun i wr => ∃ k : Nat, k ≤ E.length ∧ i = .int .i64 (k : Int) ∧ Hid (0 ≤ n ∧ n ≤ 8 → pairsTo n E k = true) ∧ Below w.heap.size w wr) (fun i _ => E.length - (intOf i).toNat)
  case atStart => exact ⟨0, Nat.zero_le _, rfl, fun _ => rfl, Below.refl _ _⟩
  case round =>
    obtain ⟨k, hk, rfl, hP, hb⟩ := hrel
    by_cases hlt : k < E.length
    · have hF : ∀ X, Below w.heap.size w X → ∃ ad, A = some ad ∧ X.cell? (ad.add (k * 2)) = some (.int .i64 E[k].1) ∧ X.cell? ⟨(ad.add (k * 2)).block, (ad.add (k * 2)).off + 1, none⟩ = some (.int .i64 E[k].2) := fun X hX => by
        obtain ⟨ad, h1, _, h2, h3⟩ := (hr.below hX).pair hlt
        exact ⟨ad, h1, h2, h3⟩
      have hG : k ≠ 0 → ∀ X, Below w.heap.size w X → ∃ ad, A = some ad ∧ X.cell? (ad.add ((k - 1) * 2)) = some (.int .i64 (E.getD (k - 1) (0, 0)).1) ∧ X.cell? ⟨(ad.add ((k - 1) * 2)).block, (ad.add ((k - 1) * 2)).off + 1, none⟩ = some (.int .i64 (E.getD (k - 1) (0, 0)).2) := fun h0 X hX => by
        obtain ⟨ad, h1, _, h2, h3⟩ := (hr.below hX).pair (k := k - 1) (by omega)
        rw [getD_at E (0, 0) (by omega : k - 1 < E.length)]
        exact ⟨ad, h1, h2, h3⟩
      obtain ⟨ad, hA, hc0, hc1⟩ := hF wr hb
      subst hA
      have hk0 : (0 : Int) ≤ k := by omega
      have hk1 : (k : Int) < E.length := by omega
      have hbd := badS (n := n) hlt
      have hok := fun hn => okS (n := n) hn hlt
      have hsc := pairsTo_succ n E k
      have HB := Lib.hid hb
      obtain ⟨M, hM⟩ : ∃ M, IntKind.i64.wrap (n - 1) = M := ⟨_, rfl⟩
      rw [hM] at hbd hok
      clear hb
      generalize hx : E[k] = x at *
      clear hx
      cases h1 : inB x.1 0 M
      · have HBD := Lib.hid (hbd (.inl h1))
        clear hbd hok hF hG hsc
        go_wp2
        go_quiet ((go_at_call 70; first | exact quiet_same (l1In_any _ _ _ _) | exact quiet_eq (l1In_any _ _ _ _)))
        go_wp2
        go_ret
        exact ⟨false, rfl, (fun h => by cases h), fun _ => HBD.out, below_drewN HB.out _⟩
      · cases h2 : inB x.2 0 M
        · have HBD := Lib.hid (hbd (.inr (.inl h2)))
          clear hbd hok hF hG hsc
          go_wp2
          go_quiet ((go_at_call 70; first | exact quiet_same (l1In_any _ _ _ _) | exact quiet_eq (l1In_any _ _ _ _)))
          go_wp2
          go_ret
          exact ⟨false, rfl, (fun h => by cases h), fun _ => HBD.out, below_drewN HB.out _⟩
        · by_cases h3 : x.1 = x.2
          · have HBD := Lib.hid (hbd (.inr (.inr (.inl h3))))
            have e3 : (x.1 == x.2) = true := by simp [h3]
            have H3 := Lib.hid h3
            clear hbd hok hF hG h3 hsc
            go_wp2
            go_quiet ((go_at_call 70; first | exact quiet_same (l1In_any _ _ _ _) | exact quiet_eq (l1In_any _ _ _ _)))
            go_wp2
            go_ret
            exact ⟨false, rfl, (fun h => by cases h), fun _ => HBD.out, below_drewN HB.out _⟩
          · have e3 : (x.1 == x.2) = false := by simp [h3]
            by_cases h4 : k = 0
            · have e4 : decide (0 < k) = false := by simp; omega
              have HOK : Hid (0 ≤ n ∧ n ≤ 8 → pairsTo n E (k + 1) = true) := fun hn => by rw [hsc, hP.out hn, hok hn h1 h2 (.inl h4)]; rfl
              clear hbd hok hF hG h3 h4 hsc hP
              go_wp2
              go_quiet ((go_at_call 70; first | exact quiet_same (l1In_any _ _ _ _) | exact quiet_eq (l1In_any _ _ _ _)))
              go_wp2
              go_roundw
              case rel => exact ⟨k + 1, by omega, by go_num, HOK.out, below_drewN HB.out _⟩
              case measure => simp [intOf]; omega
            · have e4 : decide (0 < k) = true := by simp; omega
              have hG' := hG h4
              obtain ⟨m, hm⟩ : ∃ m : Nat, m = k - 1 := ⟨_, rfl⟩
              rw [← hm] at hG' hbd hok
              have em : (k : Int) - 1 = (m : Int) := by omega
              have ew : IntKind.i64.wrap (m : Int) = (m : Int) := IntWalk.i64_in _ (by omega)
              have hm2 : (m : Int) < E.length := by omega
              generalize hy : E.getD m (0, 0) = y at *
              clear hy
              have HOK : Hid (befP y x = true → 0 ≤ n ∧ n ≤ 8 → pairsTo n E (k + 1) = true) := fun hbf hn => by rw [hsc, hP.out hn, hok hn h1 h2 (.inr hbf)]; rfl
              have HBD : Hid (befP y x = false → precB n E = false) := fun hbf => hbd (.inr (.inr (.inr ⟨by omega, hbf⟩)))
              obtain ⟨q0, q1, hq⟩ : ∃ q0 q1 : Nat, True := ⟨0, 0, trivial⟩
              clear hbd hok h3 h4 hsc hP hG hm hq q0 q1
              obtain ⟨b, hbf⟩ : ∃ b, befP y x = b := ⟨_, rfl⟩
              have HBF := Lib.hid (fun W => l4Before_any y x W)
              rw [hbf] at HBF HOK HBD
              clear hbf
              have HF : Hid (∀ X, Below w.heap.size w X → X.cell? (ad.add (k * 2)) = some (.int .i64 x.1) ∧ X.cell? ⟨(ad.add (k * 2)).block, (ad.add (k * 2)).off + 1, none⟩ = some (.int .i64 x.2)) := fun X hX => by
                obtain ⟨ad', h1, h2⟩ := hF X hX
                obtain rfl := Option.some.inj h1
                exact h2
              have HG : Hid (∀ X, Below w.heap.size w X → X.cell? (ad.add (m * 2)) = some (.int .i64 y.1) ∧ X.cell? ⟨(ad.add (m * 2)).block, (ad.add (m * 2)).off + 1, none⟩ = some (.int .i64 y.2)) := fun X hX => by
                obtain ⟨ad', h1, h2⟩ := hG' X hX
                obtain rfl := Option.some.inj h1
                exact h2
              clear hF hG'
              go_wp2
              -- REGION
              have HC1 := fun W => h1 ▸ call_still (l1In_any x.1 0 M W)
              have HC2 := fun W => h2 ▸ call_still (l1In_any x.2 0 M W)
              have hm0 : (0 : Int) ≤ m := by omega
              have HB' := HB.out
              have kb : ∀ {X Y : World}, (Below w.heap.size w X) → Below X.heap.size X Y → (Below w.heap.size w Y) := fun h hb => h.trans (hb.mono h.size)
              refine wp_region_detY (by kernel_rfl) (fun L w' => Below w.heap.size w w') (fun kk => (#[.slice (some ad) E.length c, .int .i64 (k : Int), .pointer (some (ad.add (k * 2))), .pointer (some (ad.add (k * 2))), .int .i64 x.1, .int .i64 n, .int .i64 M, .bool true, .bool false, .bool false, .slice (some ad) E.length c, .int .i64 (k : Int), .pointer (some (ad.add (k * 2))), .pointer (some ⟨(ad.add (k * 2)).block, (ad.add (k * 2)).off + 1, none⟩), .int .i64 x.2, .int .i64 n, .int .i64 M, .bool true, .bool false, .bool false, .bool false, .slice (some ad) E.length c, .int .i64 (k : Int), .pointer (some (ad.add (k * 2))), .pointer (some (ad.add (k * 2))), .int .i64 x.1, .slice (some ad) E.length c, .int .i64 (k : Int), .pointer (some (ad.add (k * 2))), .pointer (some ⟨(ad.add (k * 2)).block, (ad.add (k * 2)).off + 1, none⟩), .int .i64 x.2, .bool false, .bool false, .bool false, .int .i64 (k : Int), .bool true, .bool true, .slice (some ad) E.length c, .int .i64 (k : Int), .int .i64 (m : Int), .pointer (some (ad.add (m * 2))), .agg #[.int .i64 y.1, .int .i64 y.2], .slice (some ad) E.length c, .int .i64 (k : Int), .pointer (some (ad.add (k * 2))), .agg #[.int .i64 x.1, .int .i64 x.2], .bool b, .bool (!b), .bool (!b), .bool (!b)] : Array Value).getD kk undef) (by kernel_rfl) (by kernel_rfl) HB'.drew ?_ ?_
              · intro L tm w' hall hS hsz hlow hval
                have ht : tm = #[.int .i64 n, .slice (some ad) E.length c, undef, undef, u4, .int .i64 (k : Int), .int .i64 (k : Int), .slice (some ad) E.length c, .int .i64 (E.length : Int), .bool true, u10, u11, .slice (some ad) E.length c, .int .i64 (k : Int), .pointer (some (ad.add (k * 2))), .pointer (some (ad.add (k * 2))), .int .i64 x.1, .int .i64 n, .int .i64 M, .bool true, .bool false, .bool false, .slice (some ad) E.length c, .int .i64 (k : Int), .pointer (some (ad.add (k * 2))), .pointer (some ⟨(ad.add (k * 2)).block, (ad.add (k * 2)).off + 1, none⟩), .int .i64 x.2, .int .i64 n, .int .i64 M, .bool true, .bool false, .bool false, .bool false, .slice (some ad) E.length c, .int .i64 (k : Int), .pointer (some (ad.add (k * 2))), .pointer (some (ad.add (k * 2))), .int .i64 x.1, .slice (some ad) E.length c, .int .i64 (k : Int), .pointer (some (ad.add (k * 2))), .pointer (some ⟨(ad.add (k * 2)).block, (ad.add (k * 2)).off + 1, none⟩), .int .i64 x.2, .bool false, .bool false, .bool false, .int .i64 (k : Int), .bool true, .bool true, .slice (some ad) E.length c, .int .i64 (k : Int), .int .i64 (m : Int), .pointer (some (ad.add (m * 2))), .agg #[.int .i64 y.1, .int .i64 y.2], .slice (some ad) E.length c, .int .i64 (k : Int), .pointer (some (ad.add (k * 2))), .agg #[.int .i64 x.1, .int .i64 x.2], .bool b, .bool (!b), .bool (!b), .bool (!b), undef, undef, undef, undef, undef, undef, undef] := by
                  refine arr_of _ _ hsz fun t ht => ?_
                  have ht' : t < 69 := ht
                  rcases (by omega : t = 0 ∨ t = 1 ∨ t = 2 ∨ t = 3 ∨ t = 4 ∨ t = 5 ∨ t = 6 ∨ t = 7 ∨ t = 8 ∨ t = 9 ∨ t = 10 ∨ t = 11 ∨ t = 12 ∨ t = 13 ∨ t = 14 ∨ t = 15 ∨ t = 16 ∨ t = 17 ∨ t = 18 ∨ t = 19 ∨ t = 20 ∨ t = 21 ∨ t = 22 ∨ t = 23 ∨ t = 24 ∨ t = 25 ∨ t = 26 ∨ t = 27 ∨ t = 28 ∨ t = 29 ∨ t = 30 ∨ t = 31 ∨ t = 32 ∨ t = 33 ∨ t = 34 ∨ t = 35 ∨ t = 36 ∨ t = 37 ∨ t = 38 ∨ t = 39 ∨ t = 40 ∨ t = 41 ∨ t = 42 ∨ t = 43 ∨ t = 44 ∨ t = 45 ∨ t = 46 ∨ t = 47 ∨ t = 48 ∨ t = 49 ∨ t = 50 ∨ t = 51 ∨ t = 52 ∨ t = 53 ∨ t = 54 ∨ t = 55 ∨ t = 56 ∨ t = 57 ∨ t = 58 ∨ t = 59 ∨ t = 60 ∨ t = 61 ∨ t = 62 ∨ t = 63 ∨ t = 64 ∨ t = 65 ∨ t = 66 ∨ t = 67 ∨ t = 68) with rfl | rfl | rfl | rfl | rfl | rfl | rfl | rfl | rfl | rfl | rfl | rfl | rfl | rfl | rfl | rfl | rfl | rfl | rfl | rfl | rfl | rfl | rfl | rfl | rfl | rfl | rfl | rfl | rfl | rfl | rfl | rfl | rfl | rfl | rfl | rfl | rfl | rfl | rfl | rfl | rfl | rfl | rfl | rfl | rfl | rfl | rfl | rfl | rfl | rfl | rfl | rfl | rfl | rfl | rfl | rfl | rfl | rfl | rfl | rfl | rfl | rfl | rfl | rfl | rfl | rfl | rfl | rfl | rfl
                  · exact hlow 0 (by kernel_rfl)
                  · exact hlow 1 (by kernel_rfl)
                  · exact hlow 2 (by kernel_rfl)
                  · exact hlow 3 (by kernel_rfl)
                  · exact hlow 4 (by kernel_rfl)
                  · exact hlow 5 (by kernel_rfl)
                  · exact hlow 6 (by kernel_rfl)
                  · exact hlow 7 (by kernel_rfl)
                  · exact hlow 8 (by kernel_rfl)
                  · exact hlow 9 (by kernel_rfl)
                  · exact hlow 10 (by kernel_rfl)
                  · exact hlow 11 (by kernel_rfl)
                  · exact hval 0 _ 12 rfl rfl
                  · exact hval 1 _ 13 rfl rfl
                  · exact hval 2 _ 14 rfl rfl
                  · exact hval 3 _ 15 rfl rfl
                  · exact hval 4 _ 16 rfl rfl
                  · exact hval 5 _ 17 rfl rfl
                  · exact hval 6 _ 18 rfl rfl
                  · exact hval 7 _ 19 rfl rfl
                  · exact hval 8 _ 20 rfl rfl
                  · exact hval 9 _ 21 rfl rfl
                  · exact hval 10 _ 22 rfl rfl
                  · exact hval 11 _ 23 rfl rfl
                  · exact hval 12 _ 24 rfl rfl
                  · exact hval 13 _ 25 rfl rfl
                  · exact hval 14 _ 26 rfl rfl
                  · exact hval 15 _ 27 rfl rfl
                  · exact hval 16 _ 28 rfl rfl
                  · exact hval 17 _ 29 rfl rfl
                  · exact hval 18 _ 30 rfl rfl
                  · exact hval 19 _ 31 rfl rfl
                  · exact hval 20 _ 32 rfl rfl
                  · exact hval 21 _ 33 rfl rfl
                  · exact hval 22 _ 34 rfl rfl
                  · exact hval 23 _ 35 rfl rfl
                  · exact hval 24 _ 36 rfl rfl
                  · exact hval 25 _ 37 rfl rfl
                  · exact hval 26 _ 38 rfl rfl
                  · exact hval 27 _ 39 rfl rfl
                  · exact hval 28 _ 40 rfl rfl
                  · exact hval 29 _ 41 rfl rfl
                  · exact hval 30 _ 42 rfl rfl
                  · exact hval 31 _ 43 rfl rfl
                  · exact hval 32 _ 44 rfl rfl
                  · exact hval 33 _ 45 rfl rfl
                  · exact hval 34 _ 46 rfl rfl
                  · exact hval 35 _ 47 rfl rfl
                  · exact hval 36 _ 48 rfl rfl
                  · exact hval 37 _ 49 rfl rfl
                  · exact hval 38 _ 50 rfl rfl
                  · exact hval 39 _ 51 rfl rfl
                  · exact hval 40 _ 52 rfl rfl
                  · exact hval 41 _ 53 rfl rfl
                  · exact hval 42 _ 54 rfl rfl
                  · exact hval 43 _ 55 rfl rfl
                  · exact hval 44 _ 56 rfl rfl
                  · exact hval 45 _ 57 rfl rfl
                  · exact hval 46 _ 58 rfl rfl
                  · exact hval 47 _ 59 rfl rfl
                  · exact hval 48 _ 60 rfl rfl
                  · exact hval 49 _ 61 rfl rfl
                  · exact hlow 62 (by kernel_rfl)
                  · exact hlow 63 (by kernel_rfl)
                  · exact hlow 64 (by kernel_rfl)
                  · exact hlow 65 (by kernel_rfl)
                  · exact hlow 66 (by kernel_rfl)
                  · exact hlow 67 (by kernel_rfl)
                  · exact hlow 68 (by kernel_rfl)
                subst ht
                have HF2 := Lib.hid hS
                clear hlow hval hsz hall hS
                cases b
                · go_wp2
                  go_ret
                  refine .inl ⟨rfl, ?_, ?_⟩
                  · exact HBD.out (by first | rfl | trivial)
                  · exact HF2.out
                · go_wp2
                  go_roundw
                  case rel => exact ⟨k + 1, by omega, by go_num, HOK.out (by first | rfl | trivial), HF2.out⟩
                  case measure => simp [intOf]; omega
              · intro L ac w' q op hLs hop hLi hLd hLn hS0 hlow hdep _
                have hq : q < 50 := (Array.getElem?_eq_some_iff.1 hop).1
                rcases (by omega : q = 0 ∨ q = 1 ∨ q = 2 ∨ q = 3 ∨ q = 4 ∨ q = 5 ∨ q = 6 ∨ q = 7 ∨ q = 8 ∨ q = 9 ∨ q = 10 ∨ q = 11 ∨ q = 12 ∨ q = 13 ∨ q = 14 ∨ q = 15 ∨ q = 16 ∨ q = 17 ∨ q = 18 ∨ q = 19 ∨ q = 20 ∨ q = 21 ∨ q = 22 ∨ q = 23 ∨ q = 24 ∨ q = 25 ∨ q = 26 ∨ q = 27 ∨ q = 28 ∨ q = 29 ∨ q = 30 ∨ q = 31 ∨ q = 32 ∨ q = 33 ∨ q = 34 ∨ q = 35 ∨ q = 36 ∨ q = 37 ∨ q = 38 ∨ q = 39 ∨ q = 40 ∨ q = 41 ∨ q = 42 ∨ q = 43 ∨ q = 44 ∨ q = 45 ∨ q = 46 ∨ q = 47 ∨ q = 48 ∨ q = 49) with rfl | rfl | rfl | rfl | rfl | rfl | rfl | rfl | rfl | rfl | rfl | rfl | rfl | rfl | rfl | rfl | rfl | rfl | rfl | rfl | rfl | rfl | rfl | rfl | rfl | rfl | rfl | rfl | rfl | rfl | rfl | rfl | rfl | rfl | rfl | rfl | rfl | rfl | rfl | rfl | rfl | rfl | rfl | rfl | rfl | rfl | rfl | rfl | rfl | rfl
                · obtain rfl := Option.some.inj hop
                  have e1 : ac.tmps[1]?.getD undef = .slice (some ad) E.length c := (Array.getD_eq_getD_getElem? ..).symm.trans (hlow 1 (by kernel_rfl))
                  exact ⟨wanted_free rfl, .inl (.inl ⟨w', by simp [execOp, Act.eval, e1, go_sem], hS0⟩)⟩
                · obtain rfl := Option.some.inj hop
                  have e5 : ac.tmps[5]?.getD undef = .int .i64 (k : Int) := (Array.getD_eq_getD_getElem? ..).symm.trans (hlow 5 (by kernel_rfl))
                  exact ⟨wanted_free rfl, .inl (.inl ⟨w', by simp [execOp, Act.eval, e5, go_sem], hS0⟩)⟩
                · obtain rfl := Option.some.inj hop
                  have e12 : ac.tmps[12]?.getD undef = .slice (some ad) E.length c := (Array.getD_eq_getD_getElem? ..).symm.trans (hdep 0 _ 12 (by kernel_rfl) rfl rfl)
                  have e13 : ac.tmps[13]?.getD undef = .int .i64 (k : Int) := (Array.getD_eq_getD_getElem? ..).symm.trans (hdep 1 _ 13 (by kernel_rfl) rfl rfl)
                  exact ⟨wanted_free rfl, .inl (.inl ⟨w', by simp [execOp, Act.eval, e12, e13, hk0, hk1, go_sem], hS0⟩)⟩
                · obtain rfl := Option.some.inj hop
                  have e14 : ac.tmps[14]?.getD undef = .pointer (some (ad.add (k * 2))) := (Array.getD_eq_getD_getElem? ..).symm.trans (hdep 2 _ 14 (by kernel_rfl) rfl rfl)
                  exact ⟨wanted_free rfl, .inl (.inl ⟨w', by simp [execOp, Act.eval, e14, go_sem], hS0⟩)⟩
                · obtain rfl := Option.some.inj hop
                  have e15 : ac.tmps[15]?.getD undef = .pointer (some (ad.add (k * 2))) := (Array.getD_eq_getD_getElem? ..).symm.trans (hdep 3 _ 15 (by kernel_rfl) rfl rfl)
                  obtain ⟨p0, p1⟩ := HF.out w' hS0
                  exact ⟨wanted_free rfl, .inl (.inl ⟨w', by simp [execOp, Act.eval, e15, p0, go_sem], hS0⟩)⟩
                · obtain rfl := Option.some.inj hop
                  have e0 : ac.tmps[0]?.getD undef = .int .i64 n := (Array.getD_eq_getD_getElem? ..).symm.trans (hlow 0 (by kernel_rfl))
                  exact ⟨wanted_free rfl, .inl (.inl ⟨w', by simp [execOp, Act.eval, e0, go_sem], hS0⟩)⟩
                · obtain rfl := Option.some.inj hop
                  have e17 : ac.tmps[17]?.getD undef = .int .i64 n := (Array.getD_eq_getD_getElem? ..).symm.trans (hdep 5 _ 17 (by kernel_rfl) rfl rfl)
                  exact ⟨wanted_free rfl, .inl (.inl ⟨w', by simp [execOp, Act.eval, e17, hM, go_sem], hS0⟩)⟩
                · obtain rfl := Option.some.inj hop
                  have e16 : ac.tmps[16]?.getD undef = .int .i64 x.1 := (Array.getD_eq_getD_getElem? ..).symm.trans (hdep 4 _ 16 (by kernel_rfl) rfl rfl)
                  have e18 : ac.tmps[18]?.getD undef = .int .i64 M := (Array.getD_eq_getD_getElem? ..).symm.trans (hdep 6 _ 18 (by kernel_rfl) rfl rfl)
                  refine ⟨wanted_free rfl, .inl (.inr ⟨70, #[.int .i64 x.1, .int .i64 0, .int .i64 M], by simp [execOp, Act.eval, e16, e18, go_sem], (HC1 w').mono ?_⟩)⟩
                  rintro e w2 ⟨rfl, hb⟩
                  exact ⟨rfl, kb hS0 hb⟩
                · obtain rfl := Option.some.inj hop
                  have e19 : ac.tmps[19]?.getD undef = .bool true := (Array.getD_eq_getD_getElem? ..).symm.trans (hdep 7 _ 19 (by kernel_rfl) rfl rfl)
                  exact ⟨wanted_free rfl, .inl (.inl ⟨w', by simp [execOp, Act.eval, e19, go_sem], hS0⟩)⟩
                · obtain rfl := Option.some.inj hop
                  have e20 : ac.tmps[20]?.getD undef = .bool false := (Array.getD_eq_getD_getElem? ..).symm.trans (hdep 8 _ 20 (by kernel_rfl) rfl rfl)
                  exact ⟨wanted_free rfl, .inl (.inl ⟨w', by simp [execOp, Act.eval, e20, go_sem], hS0⟩)⟩
                · obtain rfl := Option.some.inj hop
                  have e1 : ac.tmps[1]?.getD undef = .slice (some ad) E.length c := (Array.getD_eq_getD_getElem? ..).symm.trans (hlow 1 (by kernel_rfl))
                  exact ⟨wanted_guard (g := 9) (d := 21) (b := false) rfl rfl rfl (hdep 9 _ 21 (by kernel_rfl) rfl rfl), .inl (.inl ⟨w', by simp [execOp, Act.eval, e1, go_sem], hS0⟩)⟩
                · obtain rfl := Option.some.inj hop
                  have e5 : ac.tmps[5]?.getD undef = .int .i64 (k : Int) := (Array.getD_eq_getD_getElem? ..).symm.trans (hlow 5 (by kernel_rfl))
                  exact ⟨wanted_guard (g := 9) (d := 21) (b := false) rfl rfl rfl (hdep 9 _ 21 (by kernel_rfl) rfl rfl), .inl (.inl ⟨w', by simp [execOp, Act.eval, e5, go_sem], hS0⟩)⟩
                · obtain rfl := Option.some.inj hop
                  have e22 : ac.tmps[22]?.getD undef = .slice (some ad) E.length c := (Array.getD_eq_getD_getElem? ..).symm.trans (hdep 10 _ 22 (by kernel_rfl) rfl rfl)
                  have e23 : ac.tmps[23]?.getD undef = .int .i64 (k : Int) := (Array.getD_eq_getD_getElem? ..).symm.trans (hdep 11 _ 23 (by kernel_rfl) rfl rfl)
                  exact ⟨wanted_guard (g := 9) (d := 21) (b := false) rfl rfl rfl (hdep 9 _ 21 (by kernel_rfl) rfl rfl), .inl (.inl ⟨w', by simp [execOp, Act.eval, e22, e23, hk0, hk1, go_sem], hS0⟩)⟩
                · obtain rfl := Option.some.inj hop
                  have e24 : ac.tmps[24]?.getD undef = .pointer (some (ad.add (k * 2))) := (Array.getD_eq_getD_getElem? ..).symm.trans (hdep 12 _ 24 (by kernel_rfl) rfl rfl)
                  exact ⟨wanted_guard (g := 9) (d := 21) (b := false) rfl rfl rfl (hdep 9 _ 21 (by kernel_rfl) rfl rfl), .inl (.inl ⟨w', by simp [execOp, Act.eval, e24, go_sem], hS0⟩)⟩
                · obtain rfl := Option.some.inj hop
                  have e25 : ac.tmps[25]?.getD undef = .pointer (some ⟨(ad.add (k * 2)).block, (ad.add (k * 2)).off + 1, none⟩) := (Array.getD_eq_getD_getElem? ..).symm.trans (hdep 13 _ 25 (by kernel_rfl) rfl rfl)
                  obtain ⟨p0, p1⟩ := HF.out w' hS0
                  exact ⟨wanted_guard (g := 9) (d := 21) (b := false) rfl rfl rfl (hdep 9 _ 21 (by kernel_rfl) rfl rfl), .inl (.inl ⟨w', by simp [execOp, Act.eval, e25, p1, go_sem], hS0⟩)⟩
                · obtain rfl := Option.some.inj hop
                  have e0 : ac.tmps[0]?.getD undef = .int .i64 n := (Array.getD_eq_getD_getElem? ..).symm.trans (hlow 0 (by kernel_rfl))
                  exact ⟨wanted_guard (g := 9) (d := 21) (b := false) rfl rfl rfl (hdep 9 _ 21 (by kernel_rfl) rfl rfl), .inl (.inl ⟨w', by simp [execOp, Act.eval, e0, go_sem], hS0⟩)⟩
                · obtain rfl := Option.some.inj hop
                  have e27 : ac.tmps[27]?.getD undef = .int .i64 n := (Array.getD_eq_getD_getElem? ..).symm.trans (hdep 15 _ 27 (by kernel_rfl) rfl rfl)
                  exact ⟨wanted_guard (g := 9) (d := 21) (b := false) rfl rfl rfl (hdep 9 _ 21 (by kernel_rfl) rfl rfl), .inl (.inl ⟨w', by simp [execOp, Act.eval, e27, hM, go_sem], hS0⟩)⟩
                · obtain rfl := Option.some.inj hop
                  have e26 : ac.tmps[26]?.getD undef = .int .i64 x.2 := (Array.getD_eq_getD_getElem? ..).symm.trans (hdep 14 _ 26 (by kernel_rfl) rfl rfl)
                  have e28 : ac.tmps[28]?.getD undef = .int .i64 M := (Array.getD_eq_getD_getElem? ..).symm.trans (hdep 16 _ 28 (by kernel_rfl) rfl rfl)
                  refine ⟨wanted_guard (g := 9) (d := 21) (b := false) rfl rfl rfl (hdep 9 _ 21 (by kernel_rfl) rfl rfl), .inl (.inr ⟨70, #[.int .i64 x.2, .int .i64 0, .int .i64 M], by simp [execOp, Act.eval, e26, e28, go_sem], (HC2 w').mono ?_⟩)⟩
                  rintro e w2 ⟨rfl, hb⟩
                  exact ⟨rfl, kb hS0 hb⟩
                · obtain rfl := Option.some.inj hop
                  have e29 : ac.tmps[29]?.getD undef = .bool true := (Array.getD_eq_getD_getElem? ..).symm.trans (hdep 17 _ 29 (by kernel_rfl) rfl rfl)
                  exact ⟨wanted_guard (g := 9) (d := 21) (b := false) rfl rfl rfl (hdep 9 _ 21 (by kernel_rfl) rfl rfl), .inl (.inl ⟨w', by simp [execOp, Act.eval, e29, go_sem], hS0⟩)⟩
                · obtain rfl := Option.some.inj hop
                  have e21 : ac.tmps[21]?.getD undef = .bool false := (Array.getD_eq_getD_getElem? ..).symm.trans (hdep 9 _ 21 (by kernel_rfl) rfl rfl)
                  have e30 : ac.tmps[30]?.getD undef = .bool false := (Array.getD_eq_getD_getElem? ..).symm.trans (hdep 18 _ 30 (by kernel_rfl) rfl rfl)
                  exact ⟨wanted_free rfl, .inl (.inl ⟨w', by simp [execOp, Act.eval, e21, e30, go_sem], hS0⟩)⟩
                · obtain rfl := Option.some.inj hop
                  have e31 : ac.tmps[31]?.getD undef = .bool false := (Array.getD_eq_getD_getElem? ..).symm.trans (hdep 19 _ 31 (by kernel_rfl) rfl rfl)
                  exact ⟨wanted_free rfl, .inl (.inl ⟨w', by simp [execOp, Act.eval, e31, go_sem], hS0⟩)⟩
                · obtain rfl := Option.some.inj hop
                  have e1 : ac.tmps[1]?.getD undef = .slice (some ad) E.length c := (Array.getD_eq_getD_getElem? ..).symm.trans (hlow 1 (by kernel_rfl))
                  exact ⟨wanted_guard (g := 20) (d := 32) (b := false) rfl rfl rfl (hdep 20 _ 32 (by kernel_rfl) rfl rfl), .inl (.inl ⟨w', by simp [execOp, Act.eval, e1, go_sem], hS0⟩)⟩
                · obtain rfl := Option.some.inj hop
                  have e5 : ac.tmps[5]?.getD undef = .int .i64 (k : Int) := (Array.getD_eq_getD_getElem? ..).symm.trans (hlow 5 (by kernel_rfl))
                  exact ⟨wanted_guard (g := 20) (d := 32) (b := false) rfl rfl rfl (hdep 20 _ 32 (by kernel_rfl) rfl rfl), .inl (.inl ⟨w', by simp [execOp, Act.eval, e5, go_sem], hS0⟩)⟩
                · obtain rfl := Option.some.inj hop
                  have e33 : ac.tmps[33]?.getD undef = .slice (some ad) E.length c := (Array.getD_eq_getD_getElem? ..).symm.trans (hdep 21 _ 33 (by kernel_rfl) rfl rfl)
                  have e34 : ac.tmps[34]?.getD undef = .int .i64 (k : Int) := (Array.getD_eq_getD_getElem? ..).symm.trans (hdep 22 _ 34 (by kernel_rfl) rfl rfl)
                  exact ⟨wanted_guard (g := 20) (d := 32) (b := false) rfl rfl rfl (hdep 20 _ 32 (by kernel_rfl) rfl rfl), .inl (.inl ⟨w', by simp [execOp, Act.eval, e33, e34, hk0, hk1, go_sem], hS0⟩)⟩
                · obtain rfl := Option.some.inj hop
                  have e35 : ac.tmps[35]?.getD undef = .pointer (some (ad.add (k * 2))) := (Array.getD_eq_getD_getElem? ..).symm.trans (hdep 23 _ 35 (by kernel_rfl) rfl rfl)
                  exact ⟨wanted_guard (g := 20) (d := 32) (b := false) rfl rfl rfl (hdep 20 _ 32 (by kernel_rfl) rfl rfl), .inl (.inl ⟨w', by simp [execOp, Act.eval, e35, go_sem], hS0⟩)⟩
                · obtain rfl := Option.some.inj hop
                  have e36 : ac.tmps[36]?.getD undef = .pointer (some (ad.add (k * 2))) := (Array.getD_eq_getD_getElem? ..).symm.trans (hdep 24 _ 36 (by kernel_rfl) rfl rfl)
                  obtain ⟨p0, p1⟩ := HF.out w' hS0
                  exact ⟨wanted_guard (g := 20) (d := 32) (b := false) rfl rfl rfl (hdep 20 _ 32 (by kernel_rfl) rfl rfl), .inl (.inl ⟨w', by simp [execOp, Act.eval, e36, p0, go_sem], hS0⟩)⟩
                · obtain rfl := Option.some.inj hop
                  have e1 : ac.tmps[1]?.getD undef = .slice (some ad) E.length c := (Array.getD_eq_getD_getElem? ..).symm.trans (hlow 1 (by kernel_rfl))
                  exact ⟨wanted_guard (g := 20) (d := 32) (b := false) rfl rfl rfl (hdep 20 _ 32 (by kernel_rfl) rfl rfl), .inl (.inl ⟨w', by simp [execOp, Act.eval, e1, go_sem], hS0⟩)⟩
                · obtain rfl := Option.some.inj hop
                  have e5 : ac.tmps[5]?.getD undef = .int .i64 (k : Int) := (Array.getD_eq_getD_getElem? ..).symm.trans (hlow 5 (by kernel_rfl))
                  exact ⟨wanted_guard (g := 20) (d := 32) (b := false) rfl rfl rfl (hdep 20 _ 32 (by kernel_rfl) rfl rfl), .inl (.inl ⟨w', by simp [execOp, Act.eval, e5, go_sem], hS0⟩)⟩
                · obtain rfl := Option.some.inj hop
                  have e38 : ac.tmps[38]?.getD undef = .slice (some ad) E.length c := (Array.getD_eq_getD_getElem? ..).symm.trans (hdep 26 _ 38 (by kernel_rfl) rfl rfl)
                  have e39 : ac.tmps[39]?.getD undef = .int .i64 (k : Int) := (Array.getD_eq_getD_getElem? ..).symm.trans (hdep 27 _ 39 (by kernel_rfl) rfl rfl)
                  exact ⟨wanted_guard (g := 20) (d := 32) (b := false) rfl rfl rfl (hdep 20 _ 32 (by kernel_rfl) rfl rfl), .inl (.inl ⟨w', by simp [execOp, Act.eval, e38, e39, hk0, hk1, go_sem], hS0⟩)⟩
                · obtain rfl := Option.some.inj hop
                  have e40 : ac.tmps[40]?.getD undef = .pointer (some (ad.add (k * 2))) := (Array.getD_eq_getD_getElem? ..).symm.trans (hdep 28 _ 40 (by kernel_rfl) rfl rfl)
                  exact ⟨wanted_guard (g := 20) (d := 32) (b := false) rfl rfl rfl (hdep 20 _ 32 (by kernel_rfl) rfl rfl), .inl (.inl ⟨w', by simp [execOp, Act.eval, e40, go_sem], hS0⟩)⟩
                · obtain rfl := Option.some.inj hop
                  have e41 : ac.tmps[41]?.getD undef = .pointer (some ⟨(ad.add (k * 2)).block, (ad.add (k * 2)).off + 1, none⟩) := (Array.getD_eq_getD_getElem? ..).symm.trans (hdep 29 _ 41 (by kernel_rfl) rfl rfl)
                  obtain ⟨p0, p1⟩ := HF.out w' hS0
                  exact ⟨wanted_guard (g := 20) (d := 32) (b := false) rfl rfl rfl (hdep 20 _ 32 (by kernel_rfl) rfl rfl), .inl (.inl ⟨w', by simp [execOp, Act.eval, e41, p1, go_sem], hS0⟩)⟩
                · obtain rfl := Option.some.inj hop
                  have e37 : ac.tmps[37]?.getD undef = .int .i64 x.1 := (Array.getD_eq_getD_getElem? ..).symm.trans (hdep 25 _ 37 (by kernel_rfl) rfl rfl)
                  have e42 : ac.tmps[42]?.getD undef = .int .i64 x.2 := (Array.getD_eq_getD_getElem? ..).symm.trans (hdep 30 _ 42 (by kernel_rfl) rfl rfl)
                  exact ⟨wanted_guard (g := 20) (d := 32) (b := false) rfl rfl rfl (hdep 20 _ 32 (by kernel_rfl) rfl rfl), .inl (.inl ⟨w', by simp [execOp, Act.eval, e37, e42, e3, go_sem], hS0⟩)⟩
                · obtain rfl := Option.some.inj hop
                  have e32 : ac.tmps[32]?.getD undef = .bool false := (Array.getD_eq_getD_getElem? ..).symm.trans (hdep 20 _ 32 (by kernel_rfl) rfl rfl)
                  have e43 : ac.tmps[43]?.getD undef = .bool false := (Array.getD_eq_getD_getElem? ..).symm.trans (hdep 31 _ 43 (by kernel_rfl) rfl rfl)
                  exact ⟨wanted_free rfl, .inl (.inl ⟨w', by simp [execOp, Act.eval, e32, e43, go_sem], hS0⟩)⟩
                · obtain rfl := Option.some.inj hop
                  have e44 : ac.tmps[44]?.getD undef = .bool false := (Array.getD_eq_getD_getElem? ..).symm.trans (hdep 32 _ 44 (by kernel_rfl) rfl rfl)
                  exact ⟨wanted_free rfl, .inl (.inl ⟨w', by simp [execOp, Act.eval, e44, go_sem], hS0⟩)⟩
                · obtain rfl := Option.some.inj hop
                  have e5 : ac.tmps[5]?.getD undef = .int .i64 (k : Int) := (Array.getD_eq_getD_getElem? ..).symm.trans (hlow 5 (by kernel_rfl))
                  exact ⟨wanted_guard (g := 33) (d := 45) (b := false) rfl rfl rfl (hdep 33 _ 45 (by kernel_rfl) rfl rfl), .inl (.inl ⟨w', by simp [execOp, Act.eval, e5, go_sem], hS0⟩)⟩
                · obtain rfl := Option.some.inj hop
                  have e46 : ac.tmps[46]?.getD undef = .int .i64 (k : Int) := (Array.getD_eq_getD_getElem? ..).symm.trans (hdep 34 _ 46 (by kernel_rfl) rfl rfl)
                  exact ⟨wanted_guard (g := 33) (d := 45) (b := false) rfl rfl rfl (hdep 33 _ 45 (by kernel_rfl) rfl rfl), .inl (.inl ⟨w', by simp [execOp, Act.eval, e46, e4, go_sem], hS0⟩)⟩
                · obtain rfl := Option.some.inj hop
                  have e47 : ac.tmps[47]?.getD undef = .bool true := (Array.getD_eq_getD_getElem? ..).symm.trans (hdep 35 _ 47 (by kernel_rfl) rfl rfl)
                  exact ⟨wanted_guard (g := 33) (d := 45) (b := false) rfl rfl rfl (hdep 33 _ 45 (by kernel_rfl) rfl rfl), .inl (.inl ⟨w', by simp [execOp, Act.eval, e47, go_sem], hS0⟩)⟩
                · obtain rfl := Option.some.inj hop
                  have e1 : ac.tmps[1]?.getD undef = .slice (some ad) E.length c := (Array.getD_eq_getD_getElem? ..).symm.trans (hlow 1 (by kernel_rfl))
                  exact ⟨wanted_guard (g := 36) (d := 48) (b := true) rfl rfl rfl (hdep 36 _ 48 (by kernel_rfl) rfl rfl), .inl (.inl ⟨w', by simp [execOp, Act.eval, e1, go_sem], hS0⟩)⟩
                · obtain rfl := Option.some.inj hop
                  have e5 : ac.tmps[5]?.getD undef = .int .i64 (k : Int) := (Array.getD_eq_getD_getElem? ..).symm.trans (hlow 5 (by kernel_rfl))
                  exact ⟨wanted_guard (g := 36) (d := 48) (b := true) rfl rfl rfl (hdep 36 _ 48 (by kernel_rfl) rfl rfl), .inl (.inl ⟨w', by simp [execOp, Act.eval, e5, go_sem], hS0⟩)⟩
                · obtain rfl := Option.some.inj hop
                  have e50 : ac.tmps[50]?.getD undef = .int .i64 (k : Int) := (Array.getD_eq_getD_getElem? ..).symm.trans (hdep 38 _ 50 (by kernel_rfl) rfl rfl)
                  exact ⟨wanted_guard (g := 36) (d := 48) (b := true) rfl rfl rfl (hdep 36 _ 48 (by kernel_rfl) rfl rfl), .inl (.inl ⟨w', by simp [execOp, Act.eval, e50, em, ew, go_sem], hS0⟩)⟩
                · obtain rfl := Option.some.inj hop
                  have e49 : ac.tmps[49]?.getD undef = .slice (some ad) E.length c := (Array.getD_eq_getD_getElem? ..).symm.trans (hdep 37 _ 49 (by kernel_rfl) rfl rfl)
                  have e51 : ac.tmps[51]?.getD undef = .int .i64 (m : Int) := (Array.getD_eq_getD_getElem? ..).symm.trans (hdep 39 _ 51 (by kernel_rfl) rfl rfl)
                  exact ⟨wanted_guard (g := 36) (d := 48) (b := true) rfl rfl rfl (hdep 36 _ 48 (by kernel_rfl) rfl rfl), .inl (.inl ⟨w', by simp [execOp, Act.eval, e49, e51, hm0, hm2, go_sem], hS0⟩)⟩
                · obtain rfl := Option.some.inj hop
                  have e52 : ac.tmps[52]?.getD undef = .pointer (some (ad.add (m * 2))) := (Array.getD_eq_getD_getElem? ..).symm.trans (hdep 40 _ 52 (by kernel_rfl) rfl rfl)
                  obtain ⟨p0, p1⟩ := HG.out w' hS0
                  exact ⟨wanted_guard (g := 36) (d := 48) (b := true) rfl rfl rfl (hdep 36 _ 48 (by kernel_rfl) rfl rfl), .inl (.inl ⟨w', by simp [execOp, Act.eval, e52, p0, p1, go_sem], hS0⟩)⟩
                · obtain rfl := Option.some.inj hop
                  have e1 : ac.tmps[1]?.getD undef = .slice (some ad) E.length c := (Array.getD_eq_getD_getElem? ..).symm.trans (hlow 1 (by kernel_rfl))
                  exact ⟨wanted_guard (g := 36) (d := 48) (b := true) rfl rfl rfl (hdep 36 _ 48 (by kernel_rfl) rfl rfl), .inl (.inl ⟨w', by simp [execOp, Act.eval, e1, go_sem], hS0⟩)⟩
                · obtain rfl := Option.some.inj hop
                  have e5 : ac.tmps[5]?.getD undef = .int .i64 (k : Int) := (Array.getD_eq_getD_getElem? ..).symm.trans (hlow 5 (by kernel_rfl))
                  exact ⟨wanted_guard (g := 36) (d := 48) (b := true) rfl rfl rfl (hdep 36 _ 48 (by kernel_rfl) rfl rfl), .inl (.inl ⟨w', by simp [execOp, Act.eval, e5, go_sem], hS0⟩)⟩
                · obtain rfl := Option.some.inj hop
                  have e54 : ac.tmps[54]?.getD undef = .slice (some ad) E.length c := (Array.getD_eq_getD_getElem? ..).symm.trans (hdep 42 _ 54 (by kernel_rfl) rfl rfl)
                  have e55 : ac.tmps[55]?.getD undef = .int .i64 (k : Int) := (Array.getD_eq_getD_getElem? ..).symm.trans (hdep 43 _ 55 (by kernel_rfl) rfl rfl)
                  exact ⟨wanted_guard (g := 36) (d := 48) (b := true) rfl rfl rfl (hdep 36 _ 48 (by kernel_rfl) rfl rfl), .inl (.inl ⟨w', by simp [execOp, Act.eval, e54, e55, hk0, hk1, go_sem], hS0⟩)⟩
                · obtain rfl := Option.some.inj hop
                  have e56 : ac.tmps[56]?.getD undef = .pointer (some (ad.add (k * 2))) := (Array.getD_eq_getD_getElem? ..).symm.trans (hdep 44 _ 56 (by kernel_rfl) rfl rfl)
                  obtain ⟨p0, p1⟩ := HF.out w' hS0
                  exact ⟨wanted_guard (g := 36) (d := 48) (b := true) rfl rfl rfl (hdep 36 _ 48 (by kernel_rfl) rfl rfl), .inl (.inl ⟨w', by simp [execOp, Act.eval, e56, p0, p1, go_sem], hS0⟩)⟩
                · obtain rfl := Option.some.inj hop
                  have e53 : ac.tmps[53]?.getD undef = .agg #[.int .i64 y.1, .int .i64 y.2] := (Array.getD_eq_getD_getElem? ..).symm.trans (hdep 41 _ 53 (by kernel_rfl) rfl rfl)
                  have e57 : ac.tmps[57]?.getD undef = .agg #[.int .i64 x.1, .int .i64 x.2] := (Array.getD_eq_getD_getElem? ..).symm.trans (hdep 45 _ 57 (by kernel_rfl) rfl rfl)
                  refine ⟨wanted_guard (g := 36) (d := 48) (b := true) rfl rfl rfl (hdep 36 _ 48 (by kernel_rfl) rfl rfl), .inl (.inr ⟨151, #[.agg #[.int .i64 y.1, .int .i64 y.2], .agg #[.int .i64 x.1, .int .i64 x.2]], by simp [execOp, Act.eval, e53, e57, go_sem], (HBF.out w').mono ?_⟩)⟩
                  rintro e w2 ⟨rfl, hb⟩
                  exact ⟨rfl, kb hS0 hb⟩
                · obtain rfl := Option.some.inj hop
                  have e58 : ac.tmps[58]?.getD undef = .bool b := (Array.getD_eq_getD_getElem? ..).symm.trans (hdep 46 _ 58 (by kernel_rfl) rfl rfl)
                  exact ⟨wanted_guard (g := 36) (d := 48) (b := true) rfl rfl rfl (hdep 36 _ 48 (by kernel_rfl) rfl rfl), .inl (.inl ⟨w', by simp [execOp, Act.eval, e58, go_sem], hS0⟩)⟩
                · obtain rfl := Option.some.inj hop
                  have e48 : ac.tmps[48]?.getD undef = .bool true := (Array.getD_eq_getD_getElem? ..).symm.trans (hdep 36 _ 48 (by kernel_rfl) rfl rfl)
                  have e59 : ac.tmps[59]?.getD undef = .bool (!b) := (Array.getD_eq_getD_getElem? ..).symm.trans (hdep 47 _ 59 (by kernel_rfl) rfl rfl)
                  exact ⟨wanted_guard (g := 33) (d := 45) (b := false) rfl rfl rfl (hdep 33 _ 45 (by kernel_rfl) rfl rfl), .inl (.inl ⟨w', by simp [execOp, Act.eval, e48, e59, go_sem], hS0⟩)⟩
                · obtain rfl := Option.some.inj hop
                  have e45 : ac.tmps[45]?.getD undef = .bool false := (Array.getD_eq_getD_getElem? ..).symm.trans (hdep 33 _ 45 (by kernel_rfl) rfl rfl)
                  have e60 : ac.tmps[60]?.getD undef = .bool (!b) := (Array.getD_eq_getD_getElem? ..).symm.trans (hdep 48 _ 60 (by kernel_rfl) rfl rfl)
                  exact ⟨wanted_free rfl, .inl (.inl ⟨w', by simp [execOp, Act.eval, e45, e60, go_sem], hS0⟩)⟩
    · obtain rfl : k = E.length := by omega
      have HC := Lib.hid (fun W => l1In_any n 0 8 W)
      have HB := Lib.hid hb
      clear hb hr
      by_cases hn : 0 ≤ n ∧ n ≤ 8
      · have e0 : inB n 0 8 = true := decide_eq_true hn
        have HPT := Lib.hid (hP.out hn)
        rw [e0] at HC
        have HN := Lib.hid hn
        clear hn hP e0
        by_cases h28 : E.length ≤ 28
        · go_wp2_with fail
          refine (HC.out _).mono ?_
          rintro e _ ⟨rfl, rfl⟩
          have e1 : decide ((E.length : Int) ≤ 28) = true := decide_eq_true (by omega)
          go_wp2
          go_ret
          refine ⟨true, rfl, fun _ => ?_, (fun h => by cases h), HB.out⟩
          unfold pairsB
          rw [decide_eq_true HN.out, HPT.out, decide_eq_true h28]
          rfl
        · go_wp2_with fail
          refine (HC.out _).mono ?_
          rintro e _ ⟨rfl, rfl⟩
          have e1 : decide ((E.length : Int) ≤ 28) = false := decide_eq_false (by omega)
          go_wp2
          go_ret
          refine ⟨false, rfl, (fun h => by cases h), fun _ => ?_, HB.out⟩
          unfold precB pairsB
          rw [decide_eq_false h28, Bool.false_and, Bool.and_false, Bool.false_and]
      · have e0 : inB n 0 8 = false := decide_eq_false hn
        rw [e0] at HC
        have HN := Lib.hid hn
        clear hn hP e0
        go_wp2_with fail
        refine (HC.out _).mono ?_
        rintro e _ ⟨rfl, rfl⟩
        go_wp2
        go_ret
        refine ⟨false, rfl, (fun h => by cases h), fun _ => ?_, HB.out⟩
        unfold precB pairsB
        rw [decide_eq_false HN.out, Bool.false_and, Bool.false_and]
end Go.Proofs.YtjemjdlaoebffaaDoor
