/- What good pairs tell of n jobs: the program's. -/
import Derived.Test.YtjemjdlaoebffaaDoorPro
import Derived.Test.YtjemjdlaoebffaaDoorPeq
namespace Go.Proofs.YtjemjdlaoebffaaDoor
open Go.RowKit
theorem call_still {P : Program} {f : FuncId} {args : Array Value} {w : World} {v : Value} (h : Calls P f args w fun e w' => e = .returned v ∧ w = w') : Calls P f args w fun e w' => e = .returned v ∧ Below w.heap.size w w' :=
  h.mono fun _ _ h => ⟨h.1, h.2 ▸ Below.refl _ _⟩
theorem set9_size (w : World) (g : Nat) (n : Int) (B : Nat → Nat) : (set9 w g n B).heap.size = w.heap.size := by simp [set9, World.setCell]
def natV : Option Value → Nat
  | some (.int _ x) => x.toNat
  | _ => 0
/-- How much a precedence in memory tells. -/
def cntW (m g : Nat) (w : World) : Nat := cntB m fun i j => (natV (w.cell? ⟨g, 1 + j, none⟩)).testBit i
theorem cntB_ext {m : Nat} {T U : Nat → Nat → Bool} (h : ∀ i j, i < m → j < m → T i j = U i j) : cntB m T = cntB m U := by
  unfold cntB
  congr 1
  refine List.map_congr_left fun i hi => ?_
  refine List.countP_congr fun j hj => ?_
  rw [h i j (List.mem_range.1 hi) (List.mem_range.1 hj)]
theorem cntW_at {m g : Nat} {w : World} {n : Int} (hm : m ≤ 8) {T : Nat → Nat → Bool} (h : BlockIs w g 81 (precC n (befN m T))) : cntW m g w = cntB m T := by
  unfold cntW
  refine cntB_ext fun i j hi hj => ?_
  rw [h.cell, precC_at n _ (by omega)]
  show (Int.toNat ((befN m T j : Nat) : Int)).testBit i = _
  rw [Int.toNat_natCast, bef_bit, decide_eq_true hi, Bool.true_and]
theorem precC_bef (n : Int) {m : Nat} {T U : Nat → Nat → Bool} (h : ∀ i j, T i j = U i j) : precC n (befN m T) = precC n (befN m U) := by
  have : T = U := by funext i j; exact h i j
  rw [this]
set_option maxRecDepth 100000 in
set_option maxHeartbeats 4000000 in
theorem precedenceOf_good (A : Option Addr) (c m : Nat) (E : List Pr) (w : World) (hr : Row w A (pc E)) (hl : E.length ≤ 10000000) (hT : TzTab w) (hp : pairsB (m : Int) E = true) :
    Calls Tryd.prog 150 #[.int .i64 (m : Int), .slice A E.length c] w fun e w' => Below w.heap.size w w' ∧ ((irrB m E m = true ∧ e = .returned (.tuple #[.agg (precC (m : Int) (befN m (tabB m E))), .bool true])) ∨ (irrB m E m = false ∧ e = .returned (.tuple #[.agg precZ, .bool false]))) := by
  have HA := Lib.hid (fun W (hb : Below w.heap.size w W) => arePairs_any A c m E W (hr.below hb) hl)
  have b0 := (Below.refl w.heap.size w).alloc (Nat.le_refl _) (.cells precZ 81)
  have h0 := BlockIs.new w 81 precZ
  have H0 := Lib.hid (And.intro b0 h0)
  clear b0 h0
  have hin : InE m E := by have := pairs_in hp; rwa [Int.toNat_natCast] at this
  obtain ⟨hm0, hm8, hl28, hpt⟩ := pairs_out hp
  have hm : m ≤ 8 := by omega
  have HIN := Lib.hid hin
  have g0 : decide ((m : Int) < 0) = false := decide_eq_false (by omega)
  have g1 : decide ((8 : Int) < (m : Int)) = false := decide_eq_false (by omega)
  have hPT : Hid ((decide (E.length ≤ 28) && pairsTo m E E.length) = true) := by show _ = _; rw [hpt, decide_eq_true hl28]; rfl
  have HR := Lib.hid hr
  have HT := Lib.hid hT
  have HA2 := Lib.hid (HA.out _ H0.out.1)
  have HP := Lib.hid hp
  clear hin HA hr hT hpt hp hm0 hm8
  go_enter Tryd.func150, Tryd.ntmps150
  go_wp2_with fail
  refine HA2.out.mono ?_
  rintro e w1 ⟨rfl, hb1⟩
  rw [hPT.out]
  have HB0 := Lib.hid (And.intro (H0.out.1.trans (hb1.mono H0.out.1.size)) (H0.out.2.below hb1))
  clear hb1 H0 HA2 hPT
  have HG6 := Lib.hid (BlockIs.new w1 81 (precC (m : Int) fun _ => 0))
  go_wp2
  obtain ⟨g6, hg6⟩ : ∃ g6, g6 = w1.heap.size := ⟨_, rfl⟩
  have hg60 : w.heap.size < g6 := by have := HB0.out.2.lt; omega
  have HS0 : Hid (Below w.heap.size w (w1.alloc (.cells (precC (m : Int) fun _ => 0) 81)) ∧ BlockIs (w1.alloc (.cells (precC (m : Int) fun _ => 0) 81)) w.heap.size 81 precZ ∧ BlockIs (w1.alloc (.cells (precC (m : Int) fun _ => 0) 81)) g6 81 (precC (m : Int) (befN m (edB (E.take 0))))) := by
    refine ⟨HB0.out.1.alloc HB0.out.1.size _, HB0.out.2.below ((Below.refl _ _).alloc (Nat.le_refl _) _), ?_⟩
    rw [hg6, show precC (m : Int) (befN m (edB (E.take 0))) = precC (m : Int) (fun _ => 0) from precC_ext _ fun i _ => bef_none m i E]
    exact HG6.out
  rw [show precC (m : Int) (fun _ => 0) = #[.int .i64 m, .int .u64 0, .int .u64 0, .int .u64 0, .int .u64 0, .int .u64 0, .int .u64 0, .int .u64 0, .int .u64 0] from rfl] at HS0
  rw [← hg6]
  clear HG6 HB0 hg6
  generalize w1.alloc _ = w2 at *
  go_loopw [28] (fun i wr => ∃ k : Nat, k ≤ E.length ∧ i = .int .i64 (k : Int) ∧ Hid (Below w.heap.size w wr ∧ BlockIs wr w.heap.size 81 precZ ∧ BlockIs wr g6 81 (precC (m : Int) (befN m (edB (E.take k)))))) (fun i _ => E.length - (intOf i).toNat)
  case atStart => exact ⟨0, Nat.zero_le _, rfl, HS0.out⟩
  case round =>
    obtain ⟨k, hk, rfl, HW⟩ := hrel
    clear HS0
    by_cases hlt : k < E.length
    · obtain ⟨ad, hA, hbl, hc0, hc1⟩ := (HR.out.below HW.out.1).pair hlt
      subst hA
      obtain ⟨a, b, hab, ha, hbm⟩ : ∃ a b : Nat, E[k] = ((a : Int), (b : Int)) ∧ a < m ∧ b < m := by
        have h1 := pairsTo_at (pairs_out HP.out).2.2.2 hlt
        rw [edOk_at hlt, Bool.and_eq_true, decide_eq_true_eq] at h1
        exact ⟨E[k].1.toNat, E[k].2.toNat, Prod.ext (by simp; omega) (by simp; omega), by omega, by omega⟩
      have HST : Hid (∀ j, updB (befN m (edB (E.take k))) b (addB (befN m (edB (E.take k)) b) a) j = befN m (edB (E.take (k + 1))) j) := fun j => bef_edge hm E hlt ha hab j
      rw [hab] at hc0 hc1
      simp only at hc0 hc1
      have hB8 : ∀ j, befN m (edB (E.take k)) j < 256 := fun j => bef_lt hm _ j
      generalize befN m (edB (E.take k)) = B at *
      have HN := Lib.hid (BlockIs.new wr 37 #[.int .i64 (a : Int), .int .i64 (b : Int)])
      have HWN := Lib.hid (And.intro (HW.out.1.alloc HW.out.1.size (.cells #[.int .i64 (a : Int), .int .i64 (b : Int)] 37)) (And.intro (HW.out.2.1.below ((Below.refl _ _).alloc (Nat.le_refl _) (.cells #[.int .i64 (a : Int), .int .i64 (b : Int)] 37))) (HW.out.2.2.below ((Below.refl _ _).alloc (Nat.le_refl _) (.cells #[.int .i64 (a : Int), .int .i64 (b : Int)] 37)))))
      have hge : w.heap.size ≤ wr.heap.size := HW.out.1.size
      have hg6r : g6 < wr.heap.size := HW.out.2.2.lt
      clear HW
      go_wp2
      obtain ⟨ge, hgee⟩ : ∃ ge, ge = wr.heap.size := ⟨_, rfl⟩
      rw [← hgee] at HN hge hg6r ⊢
      clear hgee hbl hc0 hc1
      generalize wr.alloc _ = W at *
      -- REGION
      have hb8 : b < 8 := by omega
      have hb0 : (0 : Int) ≤ b := by omega
      have hb1 : (b : Int) < 8 := by omega
      have kb : ∀ {X Y : World}, (Below w.heap.size w X ∧ BlockIs X w.heap.size 81 precZ ∧ BlockIs X ge 37 #[.int .i64 (a : Int), .int .i64 (b : Int)]) → Below X.heap.size X Y → (Below w.heap.size w Y ∧ BlockIs Y w.heap.size 81 precZ ∧ BlockIs Y ge 37 #[.int .i64 (a : Int), .int .i64 (b : Int)]) := fun h hb => ⟨h.1.trans (hb.mono h.1.size), h.2.1.below hb, h.2.2.below hb⟩
      have ob : ∀ {X Y : World}, (BlockIs X g6 81 (precC (m : Int) B)) → Below X.heap.size X Y → (BlockIs Y g6 81 (precC (m : Int) B)) := fun h hb => h.below hb
      have nb : ∀ {X Y : World}, (BlockIs X g6 81 (precC (m : Int) (updB B b (addB (B b) a)))) → Below X.heap.size X Y → (BlockIs Y g6 81 (precC (m : Int) (updB B b (addB (B b) a)))) := fun h hb => h.below hb
      have hW1 := HWN.out.1
      have hW2 := HWN.out.2.1
      have hW3 := HWN.out.2.2
      have hW4 := HN.out
      refine wp_region_detY (by kernel_rfl) (fun L w' => (Below w.heap.size w w' ∧ BlockIs w' w.heap.size 81 precZ ∧ BlockIs w' ge 37 #[.int .i64 (a : Int), .int .i64 (b : Int)]) ∧ (L.getD 12 true = false → BlockIs w' g6 81 (precC (m : Int) B)) ∧ (L.getD 12 true = true → BlockIs w' g6 81 (precC (m : Int) (updB B b (addB (B b) a))))) (fun kk => (#[.pointer (some ⟨ge, 1, none⟩), .int .i64 (b : Int), .pointer (some ⟨ge, 1, none⟩), .int .i64 (b : Int), .pointer (some ⟨g6, 1, none⟩), .pointer (some ⟨g6, 1 + b, none⟩), .int .u64 (B b : Int), .pointer (some ⟨ge, 0, none⟩), .int .i64 (a : Int), .int .u64 (addB (B b) a : Nat), .pointer (some ⟨g6, 1, none⟩), .pointer (some ⟨g6, 1 + b, none⟩), undef] : Array Value).getD kk undef) (by kernel_rfl) (by kernel_rfl) ⟨⟨hW1.drew, hW2, hW4⟩, fun _ => hW3, fun h => by cases h⟩ ?_ ?_
      · intro L tm w' hall hS hsz hlow hval
        have ht : tm = #[.int .i64 (m : Int), .slice (some ad) E.length c, undef, undef, .pointer (some ⟨w.heap.size, 0, none⟩), .bool false, .pointer (some ⟨g6, 0, none⟩), undef, .pointer (some ⟨ge, 0, none⟩), undef, undef, .int .i64 (m : Int), .bool false, .bool false, .int .i64 (m : Int), .bool false, .bool false, .bool false, .int .i64 (m : Int), .slice (some ad) E.length c, .bool true, .bool false, .bool false, undef, .int .i64 (m : Int), .agg #[.int .i64 (m : Int), .int .u64 0, .int .u64 0, .int .u64 0, .int .u64 0, .int .u64 0, .int .u64 0, .int .u64 0, .int .u64 0], .slice (some ad) E.length c, .int .i64 (E.length : Int), .int .i64 (k : Int), .bool true, .pointer (some (ad.add (k * 2))), .agg #[.int .i64 (a : Int), .int .i64 (b : Int)], .pointer (some ⟨ge, 1, none⟩), .int .i64 (b : Int), .pointer (some ⟨ge, 1, none⟩), .int .i64 (b : Int), .pointer (some ⟨g6, 1, none⟩), .pointer (some ⟨g6, 1 + b, none⟩), .int .u64 (B b : Int), .pointer (some ⟨ge, 0, none⟩), .int .i64 (a : Int), .int .u64 (addB (B b) a : Nat), .pointer (some ⟨g6, 1, none⟩), .pointer (some ⟨g6, 1 + b, none⟩), u44, undef, undef, undef, undef, undef, undef, undef, undef, undef, undef, undef, undef, undef, undef, undef, undef, undef, undef, undef, undef, undef, undef] := by
          refine arr_of _ _ hsz fun t ht => ?_
          have ht' : t < 67 := ht
          rcases (by omega : t = 0 ∨ t = 1 ∨ t = 2 ∨ t = 3 ∨ t = 4 ∨ t = 5 ∨ t = 6 ∨ t = 7 ∨ t = 8 ∨ t = 9 ∨ t = 10 ∨ t = 11 ∨ t = 12 ∨ t = 13 ∨ t = 14 ∨ t = 15 ∨ t = 16 ∨ t = 17 ∨ t = 18 ∨ t = 19 ∨ t = 20 ∨ t = 21 ∨ t = 22 ∨ t = 23 ∨ t = 24 ∨ t = 25 ∨ t = 26 ∨ t = 27 ∨ t = 28 ∨ t = 29 ∨ t = 30 ∨ t = 31 ∨ t = 32 ∨ t = 33 ∨ t = 34 ∨ t = 35 ∨ t = 36 ∨ t = 37 ∨ t = 38 ∨ t = 39 ∨ t = 40 ∨ t = 41 ∨ t = 42 ∨ t = 43 ∨ t = 44 ∨ t = 45 ∨ t = 46 ∨ t = 47 ∨ t = 48 ∨ t = 49 ∨ t = 50 ∨ t = 51 ∨ t = 52 ∨ t = 53 ∨ t = 54 ∨ t = 55 ∨ t = 56 ∨ t = 57 ∨ t = 58 ∨ t = 59 ∨ t = 60 ∨ t = 61 ∨ t = 62 ∨ t = 63 ∨ t = 64 ∨ t = 65 ∨ t = 66) with rfl | rfl | rfl | rfl | rfl | rfl | rfl | rfl | rfl | rfl | rfl | rfl | rfl | rfl | rfl | rfl | rfl | rfl | rfl | rfl | rfl | rfl | rfl | rfl | rfl | rfl | rfl | rfl | rfl | rfl | rfl | rfl | rfl | rfl | rfl | rfl | rfl | rfl | rfl | rfl | rfl | rfl | rfl | rfl | rfl | rfl | rfl | rfl | rfl | rfl | rfl | rfl | rfl | rfl | rfl | rfl | rfl | rfl | rfl | rfl | rfl | rfl | rfl | rfl | rfl | rfl | rfl
          · exact hlow 0 (by kernel_rfl)
          · exact hlow 1 (by kernel_rfl)
          · exact hlow 2 (by kernel_rfl)
          · exact hlow 3 (by kernel_rfl)
          · exact hlow 4 (by kernel_rfl)
          · exact hlow 5 (by kernel_rfl)
          · exact hlow 6 (by kernel_rfl)
          · exact hlow 7 (by kernel_rfl)
          · exact hlow 8 (by kernel_rfl)
          · exact hlow 9 (by kernel_rfl)
          · exact hlow 10 (by kernel_rfl)
          · exact hlow 11 (by kernel_rfl)
          · exact hlow 12 (by kernel_rfl)
          · exact hlow 13 (by kernel_rfl)
          · exact hlow 14 (by kernel_rfl)
          · exact hlow 15 (by kernel_rfl)
          · exact hlow 16 (by kernel_rfl)
          · exact hlow 17 (by kernel_rfl)
          · exact hlow 18 (by kernel_rfl)
          · exact hlow 19 (by kernel_rfl)
          · exact hlow 20 (by kernel_rfl)
          · exact hlow 21 (by kernel_rfl)
          · exact hlow 22 (by kernel_rfl)
          · exact hlow 23 (by kernel_rfl)
          · exact hlow 24 (by kernel_rfl)
          · exact hlow 25 (by kernel_rfl)
          · exact hlow 26 (by kernel_rfl)
          · exact hlow 27 (by kernel_rfl)
          · exact hlow 28 (by kernel_rfl)
          · exact hlow 29 (by kernel_rfl)
          · exact hlow 30 (by kernel_rfl)
          · exact hlow 31 (by kernel_rfl)
          · exact hval 0 _ 32 rfl rfl
          · exact hval 1 _ 33 rfl rfl
          · exact hval 2 _ 34 rfl rfl
          · exact hval 3 _ 35 rfl rfl
          · exact hval 4 _ 36 rfl rfl
          · exact hval 5 _ 37 rfl rfl
          · exact hval 6 _ 38 rfl rfl
          · exact hval 7 _ 39 rfl rfl
          · exact hval 8 _ 40 rfl rfl
          · exact hval 9 _ 41 rfl rfl
          · exact hval 10 _ 42 rfl rfl
          · exact hval 11 _ 43 rfl rfl
          · exact hlow 44 (by kernel_rfl)
          · exact hlow 45 (by kernel_rfl)
          · exact hlow 46 (by kernel_rfl)
          · exact hlow 47 (by kernel_rfl)
          · exact hlow 48 (by kernel_rfl)
          · exact hlow 49 (by kernel_rfl)
          · exact hlow 50 (by kernel_rfl)
          · exact hlow 51 (by kernel_rfl)
          · exact hlow 52 (by kernel_rfl)
          · exact hlow 53 (by kernel_rfl)
          · exact hlow 54 (by kernel_rfl)
          · exact hlow 55 (by kernel_rfl)
          · exact hlow 56 (by kernel_rfl)
          · exact hlow 57 (by kernel_rfl)
          · exact hlow 58 (by kernel_rfl)
          · exact hlow 59 (by kernel_rfl)
          · exact hlow 60 (by kernel_rfl)
          · exact hlow 61 (by kernel_rfl)
          · exact hlow 62 (by kernel_rfl)
          · exact hlow 63 (by kernel_rfl)
          · exact hlow 64 (by kernel_rfl)
          · exact hlow 65 (by kernel_rfl)
          · exact hlow 66 (by kernel_rfl)
        subst ht
        have HF := Lib.hid (And.intro hS.1 (hS.2.2 (hall 12 (by decide))))
        clear hlow hval hsz hall hS
        go_wp2
        go_roundw
        case rel => exact ⟨k + 1, by omega, by go_num, HF.out.1.1, HF.out.1.2.1, by rw [← precC_ext _ fun i _ => HST.out i]; exact HF.out.2⟩
        case measure => simp [intOf]; omega
      · intro L ac w' q op hLs hop hLi hLd hLn ⟨hS0, hS1, hS2⟩ hlow hdep _
        have hq : q < 13 := (Array.getElem?_eq_some_iff.1 hop).1
        have K : ∀ {W : World} {q : Nat}, q ≠ 12 → (Below w.heap.size w W ∧ BlockIs W w.heap.size 81 precZ ∧ BlockIs W ge 37 #[.int .i64 (a : Int), .int .i64 (b : Int)]) → (L.getD 12 true = false → BlockIs W g6 81 (precC (m : Int) B)) → (L.getD 12 true = true → BlockIs W g6 81 (precC (m : Int) (updB B b (addB (B b) a)))) → (Below w.heap.size w W ∧ BlockIs W w.heap.size 81 precZ ∧ BlockIs W ge 37 #[.int .i64 (a : Int), .int .i64 (b : Int)]) ∧ ((L.setIfInBounds q true).getD 12 true = false → BlockIs W g6 81 (precC (m : Int) B)) ∧ ((L.setIfInBounds q true).getD 12 true = true → BlockIs W g6 81 (precC (m : Int) (updB B b (addB (B b) a)))) := by
          intro W q h9 ka kb2 kc
          rw [getD_set_true, if_neg (fun h => h9 h.1)]
          exact ⟨ka, kb2, kc⟩
        rcases (by omega : q = 0 ∨ q = 1 ∨ q = 2 ∨ q = 3 ∨ q = 4 ∨ q = 5 ∨ q = 6 ∨ q = 7 ∨ q = 8 ∨ q = 9 ∨ q = 10 ∨ q = 11 ∨ q = 12) with rfl | rfl | rfl | rfl | rfl | rfl | rfl | rfl | rfl | rfl | rfl | rfl | rfl
        · obtain rfl := Option.some.inj hop
          have e8 : ac.tmps[8]?.getD undef = .pointer (some ⟨ge, 0, none⟩) := (Array.getD_eq_getD_getElem? ..).symm.trans (hlow 8 (by kernel_rfl))
          exact ⟨wanted_free rfl, .inl (.inl ⟨w', by simp [execOp, Act.eval, e8, go_sem], K (by decide) hS0 hS1 hS2⟩)⟩
        · obtain rfl := Option.some.inj hop
          have e32 : ac.tmps[32]?.getD undef = .pointer (some ⟨ge, 1, none⟩) := (Array.getD_eq_getD_getElem? ..).symm.trans (hdep 0 _ 32 (by kernel_rfl) rfl rfl)
          have hc := hS0.2.2.cell 1
          simp only [List.getElem?_toArray, List.getElem?_cons_zero, List.getElem?_cons_succ] at hc
          exact ⟨wanted_free rfl, .inl (.inl ⟨w', by simp [execOp, Act.eval, e32, hc, go_sem], K (by decide) hS0 hS1 hS2⟩)⟩
        · obtain rfl := Option.some.inj hop
          have e8 : ac.tmps[8]?.getD undef = .pointer (some ⟨ge, 0, none⟩) := (Array.getD_eq_getD_getElem? ..).symm.trans (hlow 8 (by kernel_rfl))
          exact ⟨wanted_free rfl, .inl (.inl ⟨w', by simp [execOp, Act.eval, e8, go_sem], K (by decide) hS0 hS1 hS2⟩)⟩
        · obtain rfl := Option.some.inj hop
          have e34 : ac.tmps[34]?.getD undef = .pointer (some ⟨ge, 1, none⟩) := (Array.getD_eq_getD_getElem? ..).symm.trans (hdep 2 _ 34 (by kernel_rfl) rfl rfl)
          have hc := hS0.2.2.cell 1
          simp only [List.getElem?_toArray, List.getElem?_cons_zero, List.getElem?_cons_succ] at hc
          exact ⟨wanted_free rfl, .inl (.inl ⟨w', by simp [execOp, Act.eval, e34, hc, go_sem], K (by decide) hS0 hS1 hS2⟩)⟩
        · obtain rfl := Option.some.inj hop
          have e6 : ac.tmps[6]?.getD undef = .pointer (some ⟨g6, 0, none⟩) := (Array.getD_eq_getD_getElem? ..).symm.trans (hlow 6 (by kernel_rfl))
          exact ⟨wanted_free rfl, .inl (.inl ⟨w', by simp [execOp, Act.eval, e6, go_sem], K (by decide) hS0 hS1 hS2⟩)⟩
        · obtain rfl := Option.some.inj hop
          have e36 : ac.tmps[36]?.getD undef = .pointer (some ⟨g6, 1, none⟩) := (Array.getD_eq_getD_getElem? ..).symm.trans (hdep 4 _ 36 (by kernel_rfl) rfl rfl)
          have e35 : ac.tmps[35]?.getD undef = .int .i64 (b : Int) := (Array.getD_eq_getD_getElem? ..).symm.trans (hdep 3 _ 35 (by kernel_rfl) rfl rfl)
          exact ⟨wanted_free rfl, .inl (.inl ⟨w', by simp [execOp, Act.eval, e36, e35, hb0, hb1, go_sem], K (by decide) hS0 hS1 hS2⟩)⟩
        · obtain rfl := Option.some.inj hop
          have e37 : ac.tmps[37]?.getD undef = .pointer (some ⟨g6, 1 + b, none⟩) := (Array.getD_eq_getD_getElem? ..).symm.trans (hdep 5 _ 37 (by kernel_rfl) rfl rfl)
          have hc := ((hS1 (hLn 12 (by kernel_rfl))).cell (1 + b)).trans (precC_at (m : Int) B hb8)
          exact ⟨wanted_free rfl, .inl (.inl ⟨w', by simp [execOp, Act.eval, e37, hc, go_sem], K (by decide) hS0 hS1 hS2⟩)⟩
        · obtain rfl := Option.some.inj hop
          have e8 : ac.tmps[8]?.getD undef = .pointer (some ⟨ge, 0, none⟩) := (Array.getD_eq_getD_getElem? ..).symm.trans (hlow 8 (by kernel_rfl))
          exact ⟨wanted_free rfl, .inl (.inl ⟨w', by simp [execOp, Act.eval, e8, go_sem], K (by decide) hS0 hS1 hS2⟩)⟩
        · obtain rfl := Option.some.inj hop
          have e39 : ac.tmps[39]?.getD undef = .pointer (some ⟨ge, 0, none⟩) := (Array.getD_eq_getD_getElem? ..).symm.trans (hdep 7 _ 39 (by kernel_rfl) rfl rfl)
          have hc := hS0.2.2.cell 0
          simp only [List.getElem?_toArray, List.getElem?_cons_zero] at hc
          exact ⟨wanted_free rfl, .inl (.inl ⟨w', by simp [execOp, Act.eval, e39, hc, go_sem], K (by decide) hS0 hS1 hS2⟩)⟩
        · obtain rfl := Option.some.inj hop
          have e38 : ac.tmps[38]?.getD undef = .int .u64 (B b : Int) := (Array.getD_eq_getD_getElem? ..).symm.trans (hdep 6 _ 38 (by kernel_rfl) rfl rfl)
          have e40 : ac.tmps[40]?.getD undef = .int .i64 (a : Int) := (Array.getD_eq_getD_getElem? ..).symm.trans (hdep 8 _ 40 (by kernel_rfl) rfl rfl)
          refine ⟨wanted_free rfl, .inl (.inr ⟨154, #[.int .u64 (B b : Int), .int .i64 (a : Int)], by simp [execOp, Act.eval, e38, e40, go_sem], (call_still (with_any (B b) a (hB8 b) (by omega) w')).mono ?_⟩)⟩
          rintro e w2 ⟨rfl, hb⟩
          exact ⟨rfl, K (by decide) (kb hS0 hb) (fun h => ob (hS1 h) hb) (fun h => nb (hS2 h) hb)⟩
        · obtain rfl := Option.some.inj hop
          have e6 : ac.tmps[6]?.getD undef = .pointer (some ⟨g6, 0, none⟩) := (Array.getD_eq_getD_getElem? ..).symm.trans (hlow 6 (by kernel_rfl))
          exact ⟨wanted_free rfl, .inl (.inl ⟨w', by simp [execOp, Act.eval, e6, go_sem], K (by decide) hS0 hS1 hS2⟩)⟩
        · obtain rfl := Option.some.inj hop
          have e42 : ac.tmps[42]?.getD undef = .pointer (some ⟨g6, 1, none⟩) := (Array.getD_eq_getD_getElem? ..).symm.trans (hdep 10 _ 42 (by kernel_rfl) rfl rfl)
          have e33 : ac.tmps[33]?.getD undef = .int .i64 (b : Int) := (Array.getD_eq_getD_getElem? ..).symm.trans (hdep 1 _ 33 (by kernel_rfl) rfl rfl)
          exact ⟨wanted_free rfl, .inl (.inl ⟨w', by simp [execOp, Act.eval, e42, e33, hb0, hb1, go_sem], K (by decide) hS0 hS1 hS2⟩)⟩
        · obtain rfl := Option.some.inj hop
          have e43 : ac.tmps[43]?.getD undef = .pointer (some ⟨g6, 1 + b, none⟩) := (Array.getD_eq_getD_getElem? ..).symm.trans (hdep 11 _ 43 (by kernel_rfl) rfl rfl)
          have e41 : ac.tmps[41]?.getD undef = .int .u64 (addB (B b) a : Nat) := (Array.getD_eq_getD_getElem? ..).symm.trans (hdep 9 _ 41 (by kernel_rfl) rfl rfl)
          have hO := hS1 hLi
          have hc := (hO.cell (1 + b)).trans (precC_at (m : Int) B hb8)
          have fz := hO.frozen (1 + b)
          refine ⟨wanted_free rfl, .inr ⟨w'.setCell ⟨g6, 1 + b, none⟩ (.int .u64 (addB (B b) a : Nat)), rfl, by simp [execOp, Act.eval, e43, e41, hc, fz, go_sem], ?_⟩⟩
          refine ⟨⟨hS0.1.setCell (p := ⟨g6, 1 + b, none⟩) (by show _ ≤ g6; omega) _, hS0.2.1.away (g' := g6) (by omega) _ _, hS0.2.2.away (g' := g6) (by omega) _ _⟩, fun h => ?_, fun _ => by rw [← precC_set _ _ hb8]; exact hO.set _ _⟩
          rw [getD_set_true, if_pos ⟨rfl, by rw [hLs]; decide⟩] at h
          cases h
    · obtain rfl : k = E.length := by omega
      rw [List.take_length] at HW
      obtain ⟨hb, h0, h6⟩ := HW.out
      have hg6r : g6 < wr.heap.size := h6.lt
      have hB8 : ∀ j, befN m (edB E) j < 256 := fun j => bef_lt hm _ j
      have HGR := Lib.hid (grown_any m hm (befN m (edB E)) (fun j _ => hB8 j) wr (HT.out.below hb))
      have c0 := h6.cell 0
      have c1 := h6.cell 1
      have c2 := h6.cell 2
      have c3 := h6.cell 3
      have c4 := h6.cell 4
      have c5 := h6.cell 5
      have c6 := h6.cell 6
      have c7 := h6.cell 7
      have c8 := h6.cell 8
      simp only [precC, List.getElem?_toArray, List.getElem?_cons_zero, List.getElem?_cons_succ] at c0 c1 c2 c3 c4 c5 c6 c7 c8
      go_wp2_with fail
      refine HGR.out.mono ?_
      rintro e w3 ⟨rfl, hb3⟩
      clear c0 c1 c2 c3 c4 c5 c6 c7 c8 HGR
      have HS3 : Hid (∀ j, growTo' (befN m (edB E)) m j = befN m (growTo m E 1) j) := fun j => bef_all hm E (t := 0) HIN.out j
      rw [precC_ext (m : Int) fun i _ => HS3.out i]
      clear HS3
      have HG9 := Lib.hid (BlockIs.new w3 81 (precC (m : Int) (befN m (growTo m E 1))))
      have HW3 := Lib.hid (And.intro ((hb.trans (hb3.mono hb.size)).alloc (hb.trans (hb3.mono hb.size)).size (.cells (precC (m : Int) (befN m (growTo m E 1))) 81)) (And.intro ((h0.below hb3).below ((Below.refl _ _).alloc (Nat.le_refl _) (.cells (precC (m : Int) (befN m (growTo m E 1))) 81))) ((h6.below hb3).below ((Below.refl _ _).alloc (Nat.le_refl _) (.cells (precC (m : Int) (befN m (growTo m E 1))) 81)))))
      have HB3S := Lib.hid (And.intro hb3.size (And.intro hb.size h6.lt))
      clear hb h0 h6 hb3
      unfold precC
      go_wp2
      obtain ⟨g9, hg9⟩ : ∃ g9, g9 = w3.heap.size := ⟨_, rfl⟩
      have hg96 : g6 ≠ g9 := by have := (HW3.out.2.2).lt; have h6' := hg6r; have := HB3S.out; omega
      have hg9w : w.heap.size < g9 := by have := HB3S.out; omega
      have HL0 : Hid (Below w.heap.size w (w3.alloc (.cells (precC (m : Int) (befN m (growTo m E 1))) 81)) ∧ BlockIs (w3.alloc (.cells (precC (m : Int) (befN m (growTo m E 1))) 81)) w.heap.size 81 precZ ∧ BlockIs (w3.alloc (.cells (precC (m : Int) (befN m (growTo m E 1))) 81)) g6 81 (precC (m : Int) (befN m (growTo m E 0))) ∧ BlockIs (w3.alloc (.cells (precC (m : Int) (befN m (growTo m E 1))) 81)) g9 81 (precC (m : Int) (befN m (growTo m E 1)))) := ⟨HW3.out.1, HW3.out.2.1, HW3.out.2.2, by rw [hg9]; exact HG9.out⟩
      unfold precC at HL0
      rw [← hg9]
      clear HG9 HW3 HB3S hg9 hg6r
      generalize w3.alloc _ = w4 at *
      go_loopw [9] (fun v wr => ∃ (t g9 : Nat), v = .pointer (some ⟨g9, 0, none⟩) ∧ g6 ≠ g9 ∧ w.heap.size < g9 ∧ Hid (Below w.heap.size w wr ∧ BlockIs wr w.heap.size 81 precZ ∧ BlockIs wr g6 81 (precC (m : Int) (befN m (growTo m E t))) ∧ BlockIs wr g9 81 (precC (m : Int) (befN m (growTo m E (t + 1)))))) (fun _ wr => m * m - cntW m g6 wr)
      case atStart => exact ⟨0, g9, rfl, hg96, hg9w, HL0.out⟩
      case round =>
        clear HL0 hg96 hg9w
        obtain ⟨t, g9, rfl, hg96, hg9w, HW⟩ := hrel
        obtain ⟨hb, h0, h6, h9⟩ := HW.out
        have hcnt := cntW_at hm h6
        obtain ⟨B0, hB0⟩ : ∃ B0, befN m (growTo m E t) = B0 := ⟨_, rfl⟩
        obtain ⟨B1, hB1⟩ : ∃ B1, befN m (growTo m E (t + 1)) = B1 := ⟨_, rfl⟩
        rw [hB0] at h6
        rw [hB1] at h9
        have hq := run_eqP B1 B0 wr
        by_cases hEQ : listP B1 = listP B0
        · rw [decide_eq_true hEQ] at hq
          have HSAME : Hid (∀ i j, growTo m E t i j = tabB m E i j) := bef_same E HIN.out (fun j hj => by rw [hB0, hB1]; exact (listP_eq B1 B0).1 hEQ j hj) hm
          have HT0 : Hid (B0 = befN m (tabB m E)) := by
            show _ = _
            rw [← hB0]
            have : growTo m E t = tabB m E := by funext i j; exact HSAME.out i j
            rw [this]
          have HW1 := Lib.hid (And.intro hb (And.intro h0 h6))
          have c0 := h6.cell 0
          have c1 := h6.cell 1
          have c2 := h6.cell 2
          have c3 := h6.cell 3
          have c4 := h6.cell 4
          have c5 := h6.cell 5
          have c6 := h6.cell 6
          have c7 := h6.cell 7
          have c8 := h6.cell 8
          have d0 := h9.cell 0
          have d1 := h9.cell 1
          have d2 := h9.cell 2
          have d3 := h9.cell 3
          have d4 := h9.cell 4
          have d5 := h9.cell 5
          have d6 := h9.cell 6
          have d7 := h9.cell 7
          have d8 := h9.cell 8
          simp only [precC, List.getElem?_toArray, List.getElem?_cons_zero, List.getElem?_cons_succ] at c0 c1 c2 c3 c4 c5 c6 c7 c8 d0 d1 d2 d3 d4 d5 d6 d7 d8
          clear HW hb h0 h6 h9 hB0 hB1 hcnt hEQ HSAME
          go_wp2
          clear d0 d1 d2 d3 d4 d5 d6 d7 d8 hq
          go_loop [55] (fun i => ∃ k : Nat, k ≤ m ∧ i = .int .i64 (k : Int) ∧ Hid (irrB m E k = true)) (fun i => m - (intOf i).toNat)
          case atStart => exact ⟨0, Nat.zero_le _, rfl, rfl⟩
          case round =>
            obtain ⟨k, hk, rfl, HI⟩ := hrel
            by_cases hlt : k < m
            · have hk0 : (0 : Int) ≤ k := by omega
              have hk1 : (k : Int) < 8 := by omega
              have hck := (HW1.out.2.2.cell (1 + k)).trans (precC_at (m : Int) B0 (by omega))
              have HBT : Hid ((B0 k).testBit k = tabB m E k k) := by show _ = _; rw [HT0.out, bef_bit, decide_eq_true hlt, Bool.true_and]
              have HB8 : Hid (B0 k < 256) := by show _ < _; rw [HT0.out]; exact bef_lt hm _ _
              clear c0 c1 c2 c3 c4 c5 c6 c7 c8
              go_wp2_with fail
              refine (has_any (B0 k) k HB8.out (by omega) _).mono ?_
              rintro e _ ⟨rfl, rfl⟩
              rw [HBT.out]
              cases htk : tabB m E k k
              · have HI2 : Hid (irrB m E (k + 1) = true) := by show _ = _; rw [irrB_succ, HI.out, htk]; rfl
                clear htk
                go_wp2
                go_round
                case rel => exact ⟨k + 1, by omega, by go_num, HI2.out⟩
                case measure => simp [intOf]; omega
              · have HI2 : Hid (irrB m E m = false) := irrB_bad hlt htk
                have HZ := Lib.hid (And.intro (below_set9 HW1.out.1 (g := w.heap.size) (Nat.le_refl _) 0 fun _ => 0) (block_set9 HW1.out.2.1 rfl 0 fun _ => 0))
                have z0 := HW1.out.2.1.cell 0
                have z1 := HW1.out.2.1.cell 1
                have z2 := HW1.out.2.1.cell 2
                have z3 := HW1.out.2.1.cell 3
                have z4 := HW1.out.2.1.cell 4
                have z5 := HW1.out.2.1.cell 5
                have z6 := HW1.out.2.1.cell 6
                have z7 := HW1.out.2.1.cell 7
                have z8 := HW1.out.2.1.cell 8
                have f0 := HW1.out.2.1.frozen 0
                have f1 := HW1.out.2.1.frozen 1
                have f2 := HW1.out.2.1.frozen 2
                have f3 := HW1.out.2.1.frozen 3
                have f4 := HW1.out.2.1.frozen 4
                have f5 := HW1.out.2.1.frozen 5
                have f6 := HW1.out.2.1.frozen 6
                have f7 := HW1.out.2.1.frozen 7
                have f8 := HW1.out.2.1.frozen 8
                simp only [precZ, List.getElem?_toArray, List.getElem?_cons_zero, List.getElem?_cons_succ] at z0 z1 z2 z3 z4 z5 z6 z7 z8
                clear htk hck
                go_wp2
                exact bodyPost_ret (v := .tuple #[.agg precZ, .bool false]) (results_cellP (p := 4) (q := 5) rfl _ _ w.heap.size rfl HZ.out.2 rfl) rfl ⟨HZ.out.1, .inr ⟨HI2.out, rfl⟩⟩
            · obtain rfl : k = m := by omega
              have HZ := Lib.hid (And.intro (below_set9 HW1.out.1 (g := w.heap.size) (Nat.le_refl _) (k : Int) B0) (block_set9 HW1.out.2.1 rfl (k : Int) B0))
              have z0 := HW1.out.2.1.cell 0
              have z1 := HW1.out.2.1.cell 1
              have z2 := HW1.out.2.1.cell 2
              have z3 := HW1.out.2.1.cell 3
              have z4 := HW1.out.2.1.cell 4
              have z5 := HW1.out.2.1.cell 5
              have z6 := HW1.out.2.1.cell 6
              have z7 := HW1.out.2.1.cell 7
              have z8 := HW1.out.2.1.cell 8
              have f0 := HW1.out.2.1.frozen 0
              have f1 := HW1.out.2.1.frozen 1
              have f2 := HW1.out.2.1.frozen 2
              have f3 := HW1.out.2.1.frozen 3
              have f4 := HW1.out.2.1.frozen 4
              have f5 := HW1.out.2.1.frozen 5
              have f6 := HW1.out.2.1.frozen 6
              have f7 := HW1.out.2.1.frozen 7
              have f8 := HW1.out.2.1.frozen 8
              simp only [precZ, List.getElem?_toArray, List.getElem?_cons_zero, List.getElem?_cons_succ] at z0 z1 z2 z3 z4 z5 z6 z7 z8
              go_wp2
              exact bodyPost_ret (v := .tuple #[.agg (precC (k : Int) B0), .bool true]) (results_cellP (p := 4) (q := 5) rfl _ _ w.heap.size rfl HZ.out.2 rfl) rfl ⟨HZ.out.1, .inl ⟨HI.out, by rw [HT0.out]⟩⟩
        · rw [decide_eq_false hEQ] at hq
          have HMORE : Hid (cntB m (growTo m E t) < cntB m (growTo m E (t + 1))) := bef_more E (fun hh => hEQ ((listP_eq B1 B0).2 fun j hj => by rw [← hB0, ← hB1]; exact hh j hj)) HIN.out
          have HZW := Lib.hid (And.intro (show w.heap.size < wr.heap.size from h0.lt) h6.lt)
          have HB1 := Lib.hid hB1
          have HCN := Lib.hid hcnt
          have h6' := block_set9 h6 rfl (m : Int) B1
          have h9' := away_set9 h9 (Ne.symm hg96) (m : Int) B1
          have h0' := away_set9 h0 (q := w.heap.size) (g := g6) (by omega) (m : Int) B1
          have hb' := below_set9 hb (g := g6) (by omega) (m : Int) B1
          have h6a := h6'.below ((Below.refl _ _).alloc (Nat.le_refl _) (.cells (precC (m : Int) B1) 81))
          have h0a := h0'.below ((Below.refl _ _).alloc (Nat.le_refl _) (.cells (precC (m : Int) B1) 81))
          have hba := hb'.alloc hb'.size (.cells (precC (m : Int) B1) 81)
          have hna := BlockIs.new (set9 wr g6 (m : Int) B1) 81 (precC (m : Int) B1)
          have HAF := Lib.hid (And.intro hba (And.intro h0a (And.intro h6a hna)))
          have c0 := h6.cell 0
          have c1 := h6.cell 1
          have c2 := h6.cell 2
          have c3 := h6.cell 3
          have c4 := h6.cell 4
          have c5 := h6.cell 5
          have c6 := h6.cell 6
          have c7 := h6.cell 7
          have c8 := h6.cell 8
          have f0 := h6.frozen 0
          have f1 := h6.frozen 1
          have f2 := h6.frozen 2
          have f3 := h6.frozen 3
          have f4 := h6.frozen 4
          have f5 := h6.frozen 5
          have f6 := h6.frozen 6
          have f7 := h6.frozen 7
          have f8 := h6.frozen 8
          have d0 := h9.cell 0
          have d1 := h9.cell 1
          have d2 := h9.cell 2
          have d3 := h9.cell 3
          have d4 := h9.cell 4
          have d5 := h9.cell 5
          have d6 := h9.cell 6
          have d7 := h9.cell 7
          have d8 := h9.cell 8
          have x0 := h9'.cell 0
          have x1 := h9'.cell 1
          have x2 := h9'.cell 2
          have x3 := h9'.cell 3
          have x4 := h9'.cell 4
          have x5 := h9'.cell 5
          have x6 := h9'.cell 6
          have x7 := h9'.cell 7
          have x8 := h9'.cell 8
          have y0 := h6a.cell 0
          have y1 := h6a.cell 1
          have y2 := h6a.cell 2
          have y3 := h6a.cell 3
          have y4 := h6a.cell 4
          have y5 := h6a.cell 5
          have y6 := h6a.cell 6
          have y7 := h6a.cell 7
          have y8 := h6a.cell 8
          simp only [precC, List.getElem?_toArray, List.getElem?_cons_zero, List.getElem?_cons_succ] at c0 c1 c2 c3 c4 c5 c6 c7 c8 d0 d1 d2 d3 d4 d5 d6 d7 d8
          simp only [set9, precC, List.getElem?_toArray, List.getElem?_cons_zero, List.getElem?_cons_succ] at x0 x1 x2 x3 x4 x5 x6 x7 x8 y0 y1 y2 y3 y4 y5 y6 y7 y8
          clear HW hb h0 h6 h9 hB0 hB1 hcnt h6' h9' h0' hb' h6a h0a hba hna hEQ
          have HG := Lib.hid (grown_any m hm B1 (fun j _ => by rw [← HB1.out]; exact bef_lt hm _ j) ((set9 wr g6 (m : Int) B1).alloc (.cells (precC (m : Int) B1) 81)) (HT.out.below HAF.out.1))
          go_wp2_with fail
          clear c0 c1 c2 c3 c4 c5 c6 c7 c8 f0 f1 f2 f3 f4 f5 f6 f7 f8 d0 d1 d2 d3 d4 d5 d6 d7 d8 x0 x1 x2 x3 x4 x5 x6 x7 x8 y0 y1 y2 y3 y4 y5 y6 y7 y8 hq
          refine HG.out.mono ?_
          rintro e w7 ⟨rfl, hb7⟩
          have HS7 : Hid (∀ j, growTo' B1 m j = befN m (growTo m E (t + 2)) j) := fun j => by rw [← HB1.out]; exact bef_all hm E (t := t + 1) HIN.out j
          rw [precC_ext (m : Int) fun i _ => HS7.out i]
          have hn7 := HAF.out.2.2.2.below hb7
          rw [set9_size] at hn7
          have h67 := HAF.out.2.2.1.below hb7
          have hwz : w.heap.size < wr.heap.size := HZW.out.1
          have h6z : g6 < wr.heap.size := HZW.out.2
          have HFIN := Lib.hid (And.intro (below_set9 (HAF.out.1.trans (hb7.mono HAF.out.1.size)) (g := wr.heap.size) (by omega) (m : Int) (befN m (growTo m E (t + 2)))) (And.intro (away_set9 (HAF.out.2.1.below hb7) (g := wr.heap.size) (by omega) (m : Int) (befN m (growTo m E (t + 2)))) (And.intro (away_set9 h67 (g := wr.heap.size) (by omega) (m : Int) (befN m (growTo m E (t + 2)))) (block_set9 hn7 rfl (m : Int) (befN m (growTo m E (t + 2)))))))
          have c0 := hn7.cell 0
          have c1 := hn7.cell 1
          have c2 := hn7.cell 2
          have c3 := hn7.cell 3
          have c4 := hn7.cell 4
          have c5 := hn7.cell 5
          have c6 := hn7.cell 6
          have c7 := hn7.cell 7
          have c8 := hn7.cell 8
          have f0 := hn7.frozen 0
          have f1 := hn7.frozen 1
          have f2 := hn7.frozen 2
          have f3 := hn7.frozen 3
          have f4 := hn7.frozen 4
          have f5 := hn7.frozen 5
          have f6 := hn7.frozen 6
          have f7 := hn7.frozen 7
          have f8 := hn7.frozen 8
          simp only [precC, List.getElem?_toArray, List.getElem?_cons_zero, List.getElem?_cons_succ] at c0 c1 c2 c3 c4 c5 c6 c7 c8
          clear hn7 h67 HS7 hb7
          unfold precC
          go_wp2
          go_roundw
          case rel => exact ⟨t + 1, wr.heap.size, rfl, by omega, hwz, HFIN.out.1, HFIN.out.2.1, by rw [HB1.out]; exact HFIN.out.2.2.1, HFIN.out.2.2.2⟩
          case measure =>
            have hm1 := cntW_at hm (by rw [HB1.out]; exact HFIN.out.2.2.1 : BlockIs _ g6 81 (precC (m : Int) (befN m (growTo m E (t + 1)))))
            have hle := cntB_le m (growTo m E (t + 1))
            have hmo := HMORE.out
            rw [HCN.out]
            show m * m - cntW m g6 (set9 w7 wr.heap.size (m : Int) (befN m (growTo m E (t + 2)))) < _
            rw [hm1]
            omega
end Go.Proofs.YtjemjdlaoebffaaDoor
