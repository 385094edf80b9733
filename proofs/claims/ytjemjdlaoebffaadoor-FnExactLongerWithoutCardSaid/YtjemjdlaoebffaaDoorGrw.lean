/- A precedence grown by one step: the program's. -/
import Derived.Test.YtjemjdlaoebffaaDoorBfa
import Derived.Test.YtjemjdlaoebffaaDoorKb1
import Derived.StillTailTactics
namespace Go.Proofs.YtjemjdlaoebffaaDoor
open Go.RowKit
/-- What is before a job, or before one of those. -/
def growF (B : Nat → Nat) (j : Nat) : Nat := B j ||| orAll B (B j)
def growTo' (B : Nat → Nat) (k j : Nat) : Nat := if j < k then growF B j else B j
theorem growF_lt {B : Nat → Nat} (h : ∀ j, j < 8 → B j < 256) {j : Nat} (hj : j < 8) : growF B j < 256 := or_lt (h j hj) (orAll_lt _ h)
theorem growTo_upd (B : Nat → Nat) {k : Nat} : updB (growTo' B k) k (growF B k) = growTo' B (k + 1) := by
  funext j
  unfold updB growTo'
  by_cases e : j = k
  · subst e; rw [if_pos rfl, if_pos (by omega)]
  · rw [if_neg e]
    by_cases h : j < k
    · rw [if_pos h, if_pos (by omega)]
    · rw [if_neg h, if_neg (by omega)]
theorem growTo_zero (B : Nat → Nat) : growTo' B 0 = B := by funext j; unfold growTo'; rw [if_neg (by omega)]
theorem growTo_at (B : Nat → Nat) (k : Nat) : growTo' B k k = B k := by unfold growTo'; rw [if_neg (by omega)]
/-- A precedence is loaded whole. -/
theorem loadP {g : Nat} {n : Int} {B : Nat → Nat} {w : World} (h : BlockIs w g 81 (precC n B)) : (loadVar 81 ⟨g, 0, none⟩).run Tryd.prog w = .ok (.agg (precC n B)) w :=
  run_loadVar_row w g 81 81 (precC n B) (0, 0) _ h Tryd.underlying81 rfl (by kernel_rfl)
theorem exec_loadP {o : Oper} {ev : Operand → Value} {x : Operand} {g : Nat} {n : Int} {B : Nat → Nat} {w : World} (ho : o.op = .load 81 x) (hx : ev x = .pointer (some ⟨g, 0, none⟩)) (h : BlockIs w g 81 (precC n B)) :
    (execOp ev o).run Tryd.prog w = .ok (.value (.agg (precC n B))) w := by
  unfold execOp
  simp only [ho, hx, Instr.loadAt, Instr.sureAddr, Sem.run_bind, Sem.run_pure, Result.andThen_ok, loadP h]
set_option maxRecDepth 100000 in
set_option maxHeartbeats 4000000 in
theorem grown_any (n : Nat) (hn : n ≤ 8) (B : Nat → Nat) (hB8 : ∀ j, j < 8 → B j < 256) (w : World) (hT : TzTab w) :
    Calls Tryd.prog 191 #[.agg (precC (n : Int) B)] w fun e w' => e = .returned (.agg (precC (n : Int) (growTo' B n))) ∧ Below w.heap.size w w' := by
  have b0 := (Below.refl w.heap.size w).alloc (Nat.le_refl _) (.cells (precC (n : Int) B) 81)
  have b1 := b0.alloc b0.size (.cells (precC 0 fun _ => 0) 81)
  have b2 := b1.alloc b1.size (.cells (precC (n : Int) B) 81)
  have e0 : (w.alloc (.cells (precC (n : Int) B) 81)).heap.size = w.heap.size + 1 := by simp
  have e1 : ((w.alloc (.cells (precC (n : Int) B) 81)).alloc (.cells (precC 0 fun _ => 0) 81)).heap.size = w.heap.size + 1 + 1 := by simp
  have h0 := ((BlockIs.new w 81 (precC (n : Int) B)).below ((Below.refl _ _).alloc (Nat.le_refl _) (.cells (precC 0 fun _ => 0) 81))).below ((Below.refl _ _).alloc (Nat.le_refl _) (.cells (precC (n : Int) B) 81))
  have h1 := (BlockIs.new (w.alloc (.cells (precC (n : Int) B) 81)) 81 (precC 0 fun _ => 0)).below ((Below.refl _ _).alloc (Nat.le_refl _) (.cells (precC (n : Int) B) 81))
  have h2 := BlockIs.new ((w.alloc (.cells (precC (n : Int) B) 81)).alloc (.cells (precC 0 fun _ => 0) 81)) 81 (precC (n : Int) B)
  rw [e0] at h1
  rw [e1] at h2
  have HT := Lib.hid hT
  have H := Lib.hid (And.intro b2 (And.intro h0 (And.intro h1 h2)))
  clear b0 b1 b2 e0 e1 h0 h1 h2 hT
  have p0 : (precC (n : Int) B) = #[.int .i64 n, .int .u64 (B 0 : Int), .int .u64 (B 1 : Int), .int .u64 (B 2 : Int), .int .u64 (B 3 : Int), .int .u64 (B 4 : Int), .int .u64 (B 5 : Int), .int .u64 (B 6 : Int), .int .u64 (B 7 : Int)] := rfl
  rw [p0]
  clear p0
  go_enter Tryd.func191, Tryd.ntmps191
  go_wp2
  go_loopw [8] (fun i wr => ∃ k : Nat, k ≤ n ∧ i = .int .i64 (k : Int) ∧ Hid (Below w.heap.size w wr ∧ BlockIs wr w.heap.size 81 (precC (n : Int) B) ∧ BlockIs wr (w.heap.size + 1) 81 (precC 0 fun _ => 0) ∧ BlockIs wr (w.heap.size + 1 + 1) 81 (precC (n : Int) (growTo' B k)))) (fun i _ => n - (intOf i).toNat)
  case atStart => exact ⟨0, by omega, rfl, by rw [growTo_zero]; exact H.out⟩
  case round =>
    obtain ⟨k, hk, rfl, HW⟩ := hrel
    clear H
    by_cases hlt : k < n
    · have hk0 : (0 : Int) ≤ k := by omega
      have hk1 : (k : Int) < 8 := by omega
      go_wp2
      -- REGION
      have hk8 : k < 8 := by omega
      have hor : bits .or .u64 (B k : Int) (orAll B (B k) : Int) = ((growF B k : Nat) : Int) := bits_or_u64_nat (B k) (orAll B (B k)) (by have := hB8 k hk8; omega) (by have := orAll_lt (B k) hB8; omega)
      have kb : ∀ {X Y : World}, (Below w.heap.size w X ∧ BlockIs X w.heap.size 81 (precC (n : Int) B) ∧ BlockIs X (w.heap.size + 1) 81 (precC 0 fun _ => 0)) → Below X.heap.size X Y → (Below w.heap.size w Y ∧ BlockIs Y w.heap.size 81 (precC (n : Int) B) ∧ BlockIs Y (w.heap.size + 1) 81 (precC 0 fun _ => 0)) := fun h hb => ⟨h.1.trans (hb.mono h.1.size), h.2.1.below hb, h.2.2.below hb⟩
      have ob : ∀ {X Y : World}, (BlockIs X (w.heap.size + 1 + 1) 81 (precC (n : Int) (growTo' B k))) → Below X.heap.size X Y → (BlockIs Y (w.heap.size + 1 + 1) 81 (precC (n : Int) (growTo' B k))) := fun h hb => h.below hb
      have nb : ∀ {X Y : World}, (BlockIs X (w.heap.size + 1 + 1) 81 (precC (n : Int) (growTo' B (k + 1)))) → Below X.heap.size X Y → (BlockIs Y (w.heap.size + 1 + 1) 81 (precC (n : Int) (growTo' B (k + 1)))) := fun h hb => h.below hb
      obtain ⟨hb, h0, h1, h2⟩ := HW.out
      refine wp_region_detY (by kernel_rfl) (fun L w' => (Below w.heap.size w w' ∧ BlockIs w' w.heap.size 81 (precC (n : Int) B) ∧ BlockIs w' (w.heap.size + 1) 81 (precC 0 fun _ => 0)) ∧ (L.getD 13 true = false → BlockIs w' (w.heap.size + 1 + 1) 81 (precC (n : Int) (growTo' B k))) ∧ (L.getD 13 true = true → BlockIs w' (w.heap.size + 1 + 1) 81 (precC (n : Int) (growTo' B (k + 1))))) (fun kk => (#[.int .i64 (k : Int), .pointer (some ⟨w.heap.size + 1 + 1, 1, none⟩), .pointer (some ⟨w.heap.size + 1 + 1, 1 + k, none⟩), .int .u64 (B k : Int), .agg (precC (n : Int) B), .int .i64 (k : Int), .pointer (some ⟨w.heap.size, 1, none⟩), .pointer (some ⟨w.heap.size, 1 + k, none⟩), .int .u64 (B k : Int), .int .u64 (orAll B (B k) : Nat), .int .u64 (growF B k : Nat), .pointer (some ⟨w.heap.size + 1 + 1, 1, none⟩), .pointer (some ⟨w.heap.size + 1 + 1, 1 + k, none⟩), undef] : Array Value).getD kk undef) (by kernel_rfl) (by kernel_rfl) ⟨⟨hb.drew, h0, h1⟩, fun _ => h2, fun h => by cases h⟩ ?_ ?_
      · intro L tm w' hall hS hsz hlow hval
        have ht : tm = #[.agg #[.int .i64 (n : Int), .int .u64 (B 0 : Int), .int .u64 (B 1 : Int), .int .u64 (B 2 : Int), .int .u64 (B 3 : Int), .int .u64 (B 4 : Int), .int .u64 (B 5 : Int), .int .u64 (B 6 : Int), .int .u64 (B 7 : Int)], .pointer (some ⟨w.heap.size, 0, none⟩), .pointer (some ⟨w.heap.size + 1, 0, none⟩), .pointer (some ⟨w.heap.size + 1 + 1, 0, none⟩), .int .i64 (k : Int), .agg #[.int .i64 (n : Int), .int .u64 (B 0 : Int), .int .u64 (B 1 : Int), .int .u64 (B 2 : Int), .int .u64 (B 3 : Int), .int .u64 (B 4 : Int), .int .u64 (B 5 : Int), .int .u64 (B 6 : Int), .int .u64 (B 7 : Int)], .pointer (some ⟨w.heap.size, 0, none⟩), .int .i64 (n : Int), .int .i64 (k : Int), .bool true, .int .i64 (k : Int), .int .i64 (k : Int), .pointer (some ⟨w.heap.size + 1 + 1, 1, none⟩), .pointer (some ⟨w.heap.size + 1 + 1, 1 + k, none⟩), .int .u64 (B k : Int), .agg (precC (n : Int) B), .int .i64 (k : Int), .pointer (some ⟨w.heap.size, 1, none⟩), .pointer (some ⟨w.heap.size, 1 + k, none⟩), .int .u64 (B k : Int), .int .u64 (orAll B (B k) : Nat), .int .u64 (growF B k : Nat), .pointer (some ⟨w.heap.size + 1 + 1, 1, none⟩), .pointer (some ⟨w.heap.size + 1 + 1, 1 + k, none⟩), u24, undef] := by
          refine arr_of _ _ hsz fun t ht => ?_
          have ht' : t < 26 := ht
          rcases (by omega : t = 0 ∨ t = 1 ∨ t = 2 ∨ t = 3 ∨ t = 4 ∨ t = 5 ∨ t = 6 ∨ t = 7 ∨ t = 8 ∨ t = 9 ∨ t = 10 ∨ t = 11 ∨ t = 12 ∨ t = 13 ∨ t = 14 ∨ t = 15 ∨ t = 16 ∨ t = 17 ∨ t = 18 ∨ t = 19 ∨ t = 20 ∨ t = 21 ∨ t = 22 ∨ t = 23 ∨ t = 24 ∨ t = 25) with rfl | rfl | rfl | rfl | rfl | rfl | rfl | rfl | rfl | rfl | rfl | rfl | rfl | rfl | rfl | rfl | rfl | rfl | rfl | rfl | rfl | rfl | rfl | rfl | rfl | rfl
          · exact hlow 0 (by kernel_rfl)
          · exact hlow 1 (by kernel_rfl)
          · exact hlow 2 (by kernel_rfl)
          · exact hlow 3 (by kernel_rfl)
          · exact hlow 4 (by kernel_rfl)
          · exact hlow 5 (by kernel_rfl)
          · exact hlow 6 (by kernel_rfl)
          · exact hlow 7 (by kernel_rfl)
          · exact hlow 8 (by kernel_rfl)
          · exact hlow 9 (by kernel_rfl)
          · exact hlow 10 (by kernel_rfl)
          · exact hval 0 _ 11 rfl rfl
          · exact hval 1 _ 12 rfl rfl
          · exact hval 2 _ 13 rfl rfl
          · exact hval 3 _ 14 rfl rfl
          · exact hval 4 _ 15 rfl rfl
          · exact hval 5 _ 16 rfl rfl
          · exact hval 6 _ 17 rfl rfl
          · exact hval 7 _ 18 rfl rfl
          · exact hval 8 _ 19 rfl rfl
          · exact hval 9 _ 20 rfl rfl
          · exact hval 10 _ 21 rfl rfl
          · exact hval 11 _ 22 rfl rfl
          · exact hval 12 _ 23 rfl rfl
          · exact hlow 24 (by kernel_rfl)
          · exact hlow 25 (by kernel_rfl)
        subst ht
        have HF := Lib.hid (And.intro hS.1 (hS.2.2 (hall 13 (by decide))))
        clear hlow hval hsz hall hS
        go_wp2
        go_roundw
        case rel => exact ⟨k + 1, by omega, by go_num, HF.out.1.1, HF.out.1.2.1, HF.out.1.2.2, HF.out.2⟩
        case measure => simp [intOf]; omega
      · intro L a w' q op hLs hop hLi hLd hLn ⟨hS0, hS1, hS2⟩ hlow hdep _
        have hq : q < 14 := (Array.getElem?_eq_some_iff.1 hop).1
        have K : ∀ {W : World} {q : Nat}, q ≠ 13 → (Below w.heap.size w W ∧ BlockIs W w.heap.size 81 (precC (n : Int) B) ∧ BlockIs W (w.heap.size + 1) 81 (precC 0 fun _ => 0)) → (L.getD 13 true = false → BlockIs W (w.heap.size + 1 + 1) 81 (precC (n : Int) (growTo' B k))) → (L.getD 13 true = true → BlockIs W (w.heap.size + 1 + 1) 81 (precC (n : Int) (growTo' B (k + 1)))) → (Below w.heap.size w W ∧ BlockIs W w.heap.size 81 (precC (n : Int) B) ∧ BlockIs W (w.heap.size + 1) 81 (precC 0 fun _ => 0)) ∧ ((L.setIfInBounds q true).getD 13 true = false → BlockIs W (w.heap.size + 1 + 1) 81 (precC (n : Int) (growTo' B k))) ∧ ((L.setIfInBounds q true).getD 13 true = true → BlockIs W (w.heap.size + 1 + 1) 81 (precC (n : Int) (growTo' B (k + 1)))) := by
          intro W q h9 a b c
          rw [getD_set_true, if_neg (fun h => h9 h.1)]
          exact ⟨a, b, c⟩
        rcases (by omega : q = 0 ∨ q = 1 ∨ q = 2 ∨ q = 3 ∨ q = 4 ∨ q = 5 ∨ q = 6 ∨ q = 7 ∨ q = 8 ∨ q = 9 ∨ q = 10 ∨ q = 11 ∨ q = 12 ∨ q = 13) with rfl | rfl | rfl | rfl | rfl | rfl | rfl | rfl | rfl | rfl | rfl | rfl | rfl | rfl
        · obtain rfl := Option.some.inj hop
          have e4 : a.tmps[4]?.getD undef = .int .i64 (k : Int) := (Array.getD_eq_getD_getElem? ..).symm.trans (hlow 4 (by kernel_rfl))
          exact ⟨wanted_free rfl, .inl (.inl ⟨w', by simp [execOp, Act.eval, e4, go_sem], K (by decide) hS0 hS1 hS2⟩)⟩
        · obtain rfl := Option.some.inj hop
          have e3 : a.tmps[3]?.getD undef = .pointer (some ⟨w.heap.size + 1 + 1, 0, none⟩) := (Array.getD_eq_getD_getElem? ..).symm.trans (hlow 3 (by kernel_rfl))
          exact ⟨wanted_free rfl, .inl (.inl ⟨w', by simp [execOp, Act.eval, e3, go_sem], K (by decide) hS0 hS1 hS2⟩)⟩
        · obtain rfl := Option.some.inj hop
          have e12 : a.tmps[12]?.getD undef = .pointer (some ⟨w.heap.size + 1 + 1, 1, none⟩) := (Array.getD_eq_getD_getElem? ..).symm.trans (hdep 1 _ 12 (by kernel_rfl) rfl rfl)
          have e11 : a.tmps[11]?.getD undef = .int .i64 (k : Int) := (Array.getD_eq_getD_getElem? ..).symm.trans (hdep 0 _ 11 (by kernel_rfl) rfl rfl)
          exact ⟨wanted_free rfl, .inl (.inl ⟨w', by simp [execOp, Act.eval, e12, e11, hk0, hk1, go_sem], K (by decide) hS0 hS1 hS2⟩)⟩
        · obtain rfl := Option.some.inj hop
          have e13 : a.tmps[13]?.getD undef = .pointer (some ⟨w.heap.size + 1 + 1, 1 + k, none⟩) := (Array.getD_eq_getD_getElem? ..).symm.trans (hdep 2 _ 13 (by kernel_rfl) rfl rfl)
          have hc := ((hS1 (hLn 13 (by kernel_rfl))).cell (1 + k)).trans (precC_at (n : Int) (growTo' B k) hk8)
          rw [growTo_at] at hc
          exact ⟨wanted_free rfl, .inl (.inl ⟨w', by simp [execOp, Act.eval, e13, hc, go_sem], K (by decide) hS0 hS1 hS2⟩)⟩
        · obtain rfl := Option.some.inj hop
          have e1 : a.tmps[1]?.getD undef = .pointer (some ⟨w.heap.size, 0, none⟩) := (Array.getD_eq_getD_getElem? ..).symm.trans (hlow 1 (by kernel_rfl))
          exact ⟨wanted_free rfl, .inl (.inl ⟨w', exec_loadP (x := .tmp 1) rfl (hlow 1 (by kernel_rfl)) hS0.2.1, K (by decide) hS0 hS1 hS2⟩)⟩
        · obtain rfl := Option.some.inj hop
          have e4 : a.tmps[4]?.getD undef = .int .i64 (k : Int) := (Array.getD_eq_getD_getElem? ..).symm.trans (hlow 4 (by kernel_rfl))
          exact ⟨wanted_free rfl, .inl (.inl ⟨w', by simp [execOp, Act.eval, e4, go_sem], K (by decide) hS0 hS1 hS2⟩)⟩
        · obtain rfl := Option.some.inj hop
          have e1 : a.tmps[1]?.getD undef = .pointer (some ⟨w.heap.size, 0, none⟩) := (Array.getD_eq_getD_getElem? ..).symm.trans (hlow 1 (by kernel_rfl))
          exact ⟨wanted_free rfl, .inl (.inl ⟨w', by simp [execOp, Act.eval, e1, go_sem], K (by decide) hS0 hS1 hS2⟩)⟩
        · obtain rfl := Option.some.inj hop
          have e17 : a.tmps[17]?.getD undef = .pointer (some ⟨w.heap.size, 1, none⟩) := (Array.getD_eq_getD_getElem? ..).symm.trans (hdep 6 _ 17 (by kernel_rfl) rfl rfl)
          have e16 : a.tmps[16]?.getD undef = .int .i64 (k : Int) := (Array.getD_eq_getD_getElem? ..).symm.trans (hdep 5 _ 16 (by kernel_rfl) rfl rfl)
          exact ⟨wanted_free rfl, .inl (.inl ⟨w', by simp [execOp, Act.eval, e17, e16, hk0, hk1, go_sem], K (by decide) hS0 hS1 hS2⟩)⟩
        · obtain rfl := Option.some.inj hop
          have e18 : a.tmps[18]?.getD undef = .pointer (some ⟨w.heap.size, 1 + k, none⟩) := (Array.getD_eq_getD_getElem? ..).symm.trans (hdep 7 _ 18 (by kernel_rfl) rfl rfl)
          have hc := (hS0.2.1.cell (1 + k)).trans (precC_at (n : Int) B hk8)
          exact ⟨wanted_free rfl, .inl (.inl ⟨w', by simp [execOp, Act.eval, e18, hc, go_sem], K (by decide) hS0 hS1 hS2⟩)⟩
        · obtain rfl := Option.some.inj hop
          have e15 : a.tmps[15]?.getD undef = .agg (precC (n : Int) B) := (Array.getD_eq_getD_getElem? ..).symm.trans (hdep 4 _ 15 (by kernel_rfl) rfl rfl)
          have e19 : a.tmps[19]?.getD undef = .int .u64 (B k : Int) := (Array.getD_eq_getD_getElem? ..).symm.trans (hdep 8 _ 19 (by kernel_rfl) rfl rfl)
          refine ⟨wanted_free rfl, .inl (.inr ⟨194, #[.agg (precC (n : Int) B), .int .u64 (B k : Int)], by simp [execOp, Act.eval, e15, e19, go_sem], (beforeAny_any (n : Int) B (B k) w' (hB8 k hk8) hB8 (HT.out.below hS0.1)).mono ?_⟩)⟩
          rintro e w2 ⟨rfl, hb⟩
          exact ⟨rfl, K (by decide) (kb hS0 hb) (fun h => ob (hS1 h) hb) (fun h => nb (hS2 h) hb)⟩
        · obtain rfl := Option.some.inj hop
          have e14 : a.tmps[14]?.getD undef = .int .u64 (B k : Int) := (Array.getD_eq_getD_getElem? ..).symm.trans (hdep 3 _ 14 (by kernel_rfl) rfl rfl)
          have e20 : a.tmps[20]?.getD undef = .int .u64 (orAll B (B k) : Nat) := (Array.getD_eq_getD_getElem? ..).symm.trans (hdep 9 _ 20 (by kernel_rfl) rfl rfl)
          exact ⟨wanted_free rfl, .inl (.inl ⟨w', by simp [execOp, Act.eval, e14, e20, hor, go_sem], K (by decide) hS0 hS1 hS2⟩)⟩
        · obtain rfl := Option.some.inj hop
          have e3 : a.tmps[3]?.getD undef = .pointer (some ⟨w.heap.size + 1 + 1, 0, none⟩) := (Array.getD_eq_getD_getElem? ..).symm.trans (hlow 3 (by kernel_rfl))
          exact ⟨wanted_free rfl, .inl (.inl ⟨w', by simp [execOp, Act.eval, e3, go_sem], K (by decide) hS0 hS1 hS2⟩)⟩
        · obtain rfl := Option.some.inj hop
          have e22 : a.tmps[22]?.getD undef = .pointer (some ⟨w.heap.size + 1 + 1, 1, none⟩) := (Array.getD_eq_getD_getElem? ..).symm.trans (hdep 11 _ 22 (by kernel_rfl) rfl rfl)
          have e11 : a.tmps[11]?.getD undef = .int .i64 (k : Int) := (Array.getD_eq_getD_getElem? ..).symm.trans (hdep 0 _ 11 (by kernel_rfl) rfl rfl)
          exact ⟨wanted_free rfl, .inl (.inl ⟨w', by simp [execOp, Act.eval, e22, e11, hk0, hk1, go_sem], K (by decide) hS0 hS1 hS2⟩)⟩
        · obtain rfl := Option.some.inj hop
          have e23 : a.tmps[23]?.getD undef = .pointer (some ⟨w.heap.size + 1 + 1, 1 + k, none⟩) := (Array.getD_eq_getD_getElem? ..).symm.trans (hdep 12 _ 23 (by kernel_rfl) rfl rfl)
          have e21 : a.tmps[21]?.getD undef = .int .u64 (growF B k : Nat) := (Array.getD_eq_getD_getElem? ..).symm.trans (hdep 10 _ 21 (by kernel_rfl) rfl rfl)
          have hO := hS1 hLi
          have hc := (hO.cell (1 + k)).trans (precC_at (n : Int) (growTo' B k) hk8)
          have fz := hO.frozen (1 + k)
          refine ⟨wanted_free rfl, .inr ⟨w'.setCell ⟨w.heap.size + 1 + 1, 1 + k, none⟩ (.int .u64 (growF B k : Nat)), rfl, by simp [execOp, Act.eval, e23, e21, hc, fz, go_sem], ?_⟩⟩
          refine ⟨⟨hS0.1.setCell (p := ⟨w.heap.size + 1 + 1, 1 + k, none⟩) (by show _ ≤ w.heap.size + 1 + 1; omega) _, hS0.2.1.away (g' := w.heap.size + 1 + 1) (by omega) _ _, hS0.2.2.away (g' := w.heap.size + 1 + 1) (by omega) _ _⟩, fun h => ?_, fun _ => by rw [← growTo_upd, ← precC_set _ _ hk8]; exact hO.set _ _⟩
          rw [getD_set_true, if_pos ⟨rfl, by rw [hLs]; decide⟩] at h
          cases h
    · obtain rfl : k = n := by omega
      obtain ⟨hb, h0, h1, h2⟩ := HW.out
      have c0 := h2.cell 0
      have c1 := h2.cell 1
      have c2 := h2.cell 2
      have c3 := h2.cell 3
      have c4 := h2.cell 4
      have c5 := h2.cell 5
      have c6 := h2.cell 6
      have c7 := h2.cell 7
      have c8 := h2.cell 8
      have z0 := h1.cell 0
      have z1 := h1.cell 1
      have z2 := h1.cell 2
      have z3 := h1.cell 3
      have z4 := h1.cell 4
      have z5 := h1.cell 5
      have z6 := h1.cell 6
      have z7 := h1.cell 7
      have z8 := h1.cell 8
      have f0 := h1.frozen 0
      have f1 := h1.frozen 1
      have f2 := h1.frozen 2
      have f3 := h1.frozen 3
      have f4 := h1.frozen 4
      have f5 := h1.frozen 5
      have f6 := h1.frozen 6
      have f7 := h1.frozen 7
      have f8 := h1.frozen 8
      unfold precC at c0 c1 c2 c3 c4 c5 c6 c7 c8 z0 z1 z2 z3 z4 z5 z6 z7 z8
      simp only [List.getElem?_toArray, List.getElem?_cons_zero, List.getElem?_cons_succ] at c0 c1 c2 c3 c4 c5 c6 c7 c8 z0 z1 z2 z3 z4 z5 z6 z7 z8
      obtain ⟨G, hG⟩ : ∃ G, growTo' B k = G := ⟨_, rfl⟩
      rw [hG] at c1 c2 c3 c4 c5 c6 c7 c8 h2
      have HG := Lib.hid hG
      clear hG
      have HZ := Lib.hid (((((((((h1.set 0 (.int .i64 k)).set 1 (.int .u64 (G 0 : Int))).set 2 (.int .u64 (G 1 : Int))).set 3 (.int .u64 (G 2 : Int))).set 4 (.int .u64 (G 3 : Int))).set 5 (.int .u64 (G 4 : Int))).set 6 (.int .u64 (G 5 : Int))).set 7 (.int .u64 (G 6 : Int))).set 8 (.int .u64 (G 7 : Int)))
      have Hb := Lib.hid (((((((((hb.setCell (p := ⟨w.heap.size + 1, 0, none⟩) (by simp) (.int .i64 k)).setCell (p := ⟨w.heap.size + 1, 1, none⟩) (by simp) (.int .u64 (G 0 : Int))).setCell (p := ⟨w.heap.size + 1, 2, none⟩) (by simp) (.int .u64 (G 1 : Int))).setCell (p := ⟨w.heap.size + 1, 3, none⟩) (by simp) (.int .u64 (G 2 : Int))).setCell (p := ⟨w.heap.size + 1, 4, none⟩) (by simp) (.int .u64 (G 3 : Int))).setCell (p := ⟨w.heap.size + 1, 5, none⟩) (by simp) (.int .u64 (G 4 : Int))).setCell (p := ⟨w.heap.size + 1, 6, none⟩) (by simp) (.int .u64 (G 5 : Int))).setCell (p := ⟨w.heap.size + 1, 7, none⟩) (by simp) (.int .u64 (G 6 : Int))).setCell (p := ⟨w.heap.size + 1, 8, none⟩) (by simp) (.int .u64 (G 7 : Int)))
      clear h0 h1 h2 hb HW
      go_wp2
      have hZ := HZ.out
      generalize World.setCell _ _ _ = W at *
      have hq : BlockIs W (w.heap.size + 1) 81 #[.int .i64 k, .int .u64 (G 0 : Int), .int .u64 (G 1 : Int), .int .u64 (G 2 : Int), .int .u64 (G 3 : Int), .int .u64 (G 4 : Int), .int .u64 (G 5 : Int), .int .u64 (G 6 : Int), .int .u64 (G 7 : Int)] := hZ
      exact bodyPost_ret (v := .agg (precC k G)) (results_cell_row (P := Tryd.prog) rfl _ _ (w.heap.size + 1) 81 _ (0, 0) _ rfl hq Tryd.underlying81 rfl (by kernel_rfl)) rfl ⟨by rw [HG.out], Hb.out⟩
end Go.Proofs.YtjemjdlaoebffaaDoor
