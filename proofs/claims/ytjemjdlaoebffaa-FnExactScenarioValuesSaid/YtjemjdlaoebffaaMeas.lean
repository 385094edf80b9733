/- The measure of an objective: what the program makes of its number. -/
import Derived.Test.YtjemjdlaoebffaaMeasI
import Derived.Test.YtjemjdlaoebffaaEndsO
namespace Go.Proofs.Ytjemjdlaoebffaa
open Go.RowKit
theorem store_new (P : Program) (w : World) (u v : Value) (t : TypeId) (hv : v.oneCell' = true) : (store ⟨w.heap.size, 0, none⟩ v).run P (w.alloc (.cells #[u] t)) = .ok () (w.alloc (.cells #[v] t)) := by
  have hB := BlockIs.new w t #[u]
  have hc : (w.alloc (.cells #[u] t)).cell? ⟨w.heap.size, 0, none⟩ = some u := by rw [hB.cell]; rfl
  have hf := hB.frozen 0
  rw [run_store _ _ _ _ _ hv, hc]
  simp only [hf, Bool.false_eq_true, if_false]
  rw [World.setCell_alloc_at _ _ _ _ _ rfl]
  rfl
theorem store_pair (P : Program) (w : World) (fv u v : Value) (t : TypeId) (hv : fv.oneCell' = true) : (store ⟨w.heap.size, 0, none⟩ fv).run P (w.alloc (.cells #[u, v] t)) = .ok () (w.alloc (.cells #[fv, v] t)) := by
  have hB := BlockIs.new w t #[u, v]
  have hc : (w.alloc (.cells #[u, v] t)).cell? ⟨w.heap.size, 0, none⟩ = some u := by rw [hB.cell]; rfl
  have hf := hB.frozen 0
  rw [run_store _ _ _ _ _ hv, hc]
  simp only [hf, Bool.false_eq_true, if_false]
  rw [World.setCell_alloc_at _ _ _ _ _ rfl]
  rfl
theorem store_past (P : Program) (w : World) (n : Nat) (fv u v : Value) (t : TypeId) (o : Obj) (hv : fv.oneCell' = true) (hB : BlockIs w n t #[u, v]) : (store ⟨n, 0, none⟩ fv).run P (w.alloc o) = .ok () ((w.setCell ⟨n, 0, none⟩ fv).alloc o) := by
  have hB1 : BlockIs (w.alloc o) n t #[u, v] := hB.below ((Below.refl _ _).alloc (Nat.le_refl _) o)
  have hc : (w.alloc o).cell? ⟨n, 0, none⟩ = some u := by rw [hB1.cell]; rfl
  have hf := hB1.frozen 0
  rw [run_store _ _ _ _ _ hv, hc]
  simp only [hf, Bool.false_eq_true, if_false]
  rw [World.setCell_alloc_past _ _ _ _ hB.lt]
theorem weighted_end (w : World) : Calls Try.prog 125 #[fEnd] w fun e w' => e = .returned (fWgt w.heap.size) ∧ w' = w.alloc (.cells #[fEnd] 138) := by
  go_enter Try.func125, Try.ntmps125
  go_wp2
  go_ret
  exact ⟨rfl, rfl⟩
theorem weighted_tar (b : Nat) (w : World) : Calls Try.prog 125 #[fTar b] w fun e w' => e = .returned (fWgt w.heap.size) ∧ w' = w.alloc (.cells #[fTar b] 138) := by
  go_enter Try.func125, Try.ntmps125
  go_wp2
  go_ret
  exact ⟨rfl, rfl⟩
theorem weighted_late (b : Nat) (w : World) : Calls Try.prog 125 #[fLate b] w fun e w' => e = .returned (fWgt w.heap.size) ∧ w' = w.alloc (.cells #[fLate b] 138) := by
  go_enter Try.func125, Try.ntmps125
  go_wp2
  go_ret
  exact ⟨rfl, rfl⟩
theorem lit46 (t : Array Value) (h : t.size = 46) : ∃ x1 x4 x5 x6 x7 x8 x10 x11 x12 x13 x14 x15 x16 x17 x18 x19 x20 x21 x22 x23 x24 x25 x26 x27 x28 x29 x30 x31 x32 x33 x34 x35 x36 x37 x38 x39 x40 x41 x42 x43 x44 x45 : Value, t = #[t.getD 0 undef, x1, t.getD 2 undef, t.getD 3 undef, x4, x5, x6, x7, x8, t.getD 9 undef, x10, x11, x12, x13, x14, x15, x16, x17, x18, x19, x20, x21, x22, x23, x24, x25, x26, x27, x28, x29, x30, x31, x32, x33, x34, x35, x36, x37, x38, x39, x40, x41, x42, x43, x44, x45] := by
  obtain ⟨l⟩ := t
  simp only [List.size_toArray] at h
  obtain _ | ⟨x0, l⟩ := l
  · cases h
  obtain _ | ⟨x1, l⟩ := l
  · cases h
  obtain _ | ⟨x2, l⟩ := l
  · cases h
  obtain _ | ⟨x3, l⟩ := l
  · cases h
  obtain _ | ⟨x4, l⟩ := l
  · cases h
  obtain _ | ⟨x5, l⟩ := l
  · cases h
  obtain _ | ⟨x6, l⟩ := l
  · cases h
  obtain _ | ⟨x7, l⟩ := l
  · cases h
  obtain _ | ⟨x8, l⟩ := l
  · cases h
  obtain _ | ⟨x9, l⟩ := l
  · cases h
  obtain _ | ⟨x10, l⟩ := l
  · cases h
  obtain _ | ⟨x11, l⟩ := l
  · cases h
  obtain _ | ⟨x12, l⟩ := l
  · cases h
  obtain _ | ⟨x13, l⟩ := l
  · cases h
  obtain _ | ⟨x14, l⟩ := l
  · cases h
  obtain _ | ⟨x15, l⟩ := l
  · cases h
  obtain _ | ⟨x16, l⟩ := l
  · cases h
  obtain _ | ⟨x17, l⟩ := l
  · cases h
  obtain _ | ⟨x18, l⟩ := l
  · cases h
  obtain _ | ⟨x19, l⟩ := l
  · cases h
  obtain _ | ⟨x20, l⟩ := l
  · cases h
  obtain _ | ⟨x21, l⟩ := l
  · cases h
  obtain _ | ⟨x22, l⟩ := l
  · cases h
  obtain _ | ⟨x23, l⟩ := l
  · cases h
  obtain _ | ⟨x24, l⟩ := l
  · cases h
  obtain _ | ⟨x25, l⟩ := l
  · cases h
  obtain _ | ⟨x26, l⟩ := l
  · cases h
  obtain _ | ⟨x27, l⟩ := l
  · cases h
  obtain _ | ⟨x28, l⟩ := l
  · cases h
  obtain _ | ⟨x29, l⟩ := l
  · cases h
  obtain _ | ⟨x30, l⟩ := l
  · cases h
  obtain _ | ⟨x31, l⟩ := l
  · cases h
  obtain _ | ⟨x32, l⟩ := l
  · cases h
  obtain _ | ⟨x33, l⟩ := l
  · cases h
  obtain _ | ⟨x34, l⟩ := l
  · cases h
  obtain _ | ⟨x35, l⟩ := l
  · cases h
  obtain _ | ⟨x36, l⟩ := l
  · cases h
  obtain _ | ⟨x37, l⟩ := l
  · cases h
  obtain _ | ⟨x38, l⟩ := l
  · cases h
  obtain _ | ⟨x39, l⟩ := l
  · cases h
  obtain _ | ⟨x40, l⟩ := l
  · cases h
  obtain _ | ⟨x41, l⟩ := l
  · cases h
  obtain _ | ⟨x42, l⟩ := l
  · cases h
  obtain _ | ⟨x43, l⟩ := l
  · cases h
  obtain _ | ⟨x44, l⟩ := l
  · cases h
  obtain _ | ⟨x45, l⟩ := l
  · cases h
  obtain _ | ⟨y, l⟩ := l
  · exact ⟨x1, x4, x5, x6, x7, x8, x10, x11, x12, x13, x14, x15, x16, x17, x18, x19, x20, x21, x22, x23, x24, x25, x26, x27, x28, x29, x30, x31, x32, x33, x34, x35, x36, x37, x38, x39, x40, x41, x42, x43, x44, x45, rfl⟩
  · simp at h
theorem zeroM (w : World) : (zeroValue 140).run Try.prog w = .ok (.agg #[.nilFunc, .bool false]) w := by kernel_rfl
/-- The function that tells what a job costs: its closures, in blocks below B. -/
def FnIs (B : Nat) (w : World) (o : Int) (fv : Value) : Prop :=
  ((o = 1 ∨ o = 2) ∧ fv = fEnd) ∨ (o = 4 ∧ fv = fLat) ∨ (o = 5 ∧ ∃ b, fv = fTar b ∧ b < B ∧ BlockIs w b 138 #[fLat]) ∨
  (o = 7 ∧ ∃ b c, fv = fLate b ∧ b < B ∧ BlockIs w b 138 #[fTar c] ∧ c < B ∧ BlockIs w c 138 #[fLat]) ∨
  (o = 3 ∧ ∃ b, fv = fWgt b ∧ b < B ∧ BlockIs w b 138 #[fEnd]) ∨
  (o = 6 ∧ ∃ b c, fv = fWgt b ∧ b < B ∧ BlockIs w b 138 #[fTar c] ∧ c < B ∧ BlockIs w c 138 #[fLat]) ∨
  (o = 8 ∧ ∃ b c d, fv = fWgt b ∧ b < B ∧ BlockIs w b 138 #[fLate c] ∧ c < B ∧ BlockIs w c 138 #[fTar d] ∧ d < B ∧ BlockIs w d 138 #[fLat])
theorem FnIs.keep {B : Nat} {w w' : World} {o : Int} {fv : Value} (h : FnIs B w o fv) (hk : ∀ b, b < B → w'.heap[b]? = w.heap[b]?) : FnIs B w' o fv := by
  have K : ∀ {b : Nat} {t : TypeId} {cs : Array Value}, b < B → BlockIs w b t cs → BlockIs w' b t cs := fun hb h => (hk _ hb).trans h
  rcases h with h | h | ⟨h, b, h1, h2, h3⟩ | ⟨h, b, c, h1, h2, h3, h4, h5⟩ | ⟨h, b, h1, h2, h3⟩ | ⟨h, b, c, h1, h2, h3, h4, h5⟩ | ⟨h, b, c, d, h1, h2, h3, h4, h5, h6, h7⟩
  · exact .inl h
  · exact .inr (.inl h)
  · exact .inr (.inr (.inl ⟨h, b, h1, h2, K h2 h3⟩))
  · exact .inr (.inr (.inr (.inl ⟨h, b, c, h1, h2, K h2 h3, h4, K h4 h5⟩)))
  · exact .inr (.inr (.inr (.inr (.inl ⟨h, b, h1, h2, K h2 h3⟩))))
  · exact .inr (.inr (.inr (.inr (.inr (.inl ⟨h, b, c, h1, h2, K h2 h3, h4, K h4 h5⟩)))))
  · exact .inr (.inr (.inr (.inr (.inr (.inr ⟨h, b, c, d, h1, h2, K h2 h3, h4, K h4 h5, h6, K h6 h7⟩)))))
def MeasPost (w : World) (o : Int) (e : Ending) (w' : World) : Prop := Below w.heap.size w w' ∧
  ((isObj o = false ∧ e = .returned (.tuple #[.agg #[.nilFunc, .bool false], .bool false])) ∨ (isObj o = true ∧ ∃ fv, e = .returned (.tuple #[.agg #[fv, .bool (isTop o)], .bool true]) ∧ FnIs w'.heap.size w' o fv))
theorem keyIn_not (n m b3 b6 b8 : Nat) (L : Array Bool) (o : Int) (h : isObj o = false) : keyIn n m b3 b6 b8 L o = none := by
  have h' : ¬ (1 ≤ o ∧ o ≤ 8) := by unfold isObj at h; exact of_decide_eq_false h
  unfold keyIn
  by_cases h0 : o < 0
  · rw [if_pos h0]
  · rw [if_neg h0]
    by_cases h1 : o = 0
    · subst h1; rfl
    · rw [ins_none _ (by omega)]
theorem BlockIs.set_ne {w : World} {g : Nat} {t : TypeId} {cs : Array Value} (h : BlockIs w g t cs) {n : Nat} (hn : g ≠ n) (i : Nat) (u : Value) : BlockIs (w.setCell ⟨n, i, none⟩ u) g t cs := by
  unfold BlockIs at h ⊢
  rw [← h]
  exact Below.heap_setCell _ _ _ _ hn
set_option maxRecDepth 100000 in
set_option maxHeartbeats 4000000 in
theorem measureOf_any (o : Int) (w : World) : Calls Try.prog 97 #[.int .i64 o] w (MeasPost w o) := by
  have hst5 := store_new Try.prog (w.alloc (.cells #[.nilFunc, .bool false] 140)) .nilFunc fLat 138 rfl
  have hst6 := store_new Try.prog ((w.alloc (.cells #[.nilFunc, .bool false] 140)).alloc (.cells #[fLat] 138)) .nilFunc (fTar (w.heap.size + 1)) 138 rfl
  simp at hst5 hst6
  have hW : ∃ W, W = (((w.alloc (.cells #[.nilFunc, .bool false] 140)).alloc (.cells #[fLat] 138)).alloc (.cells #[fTar (w.heap.size + 1)] 138)) := ⟨_, rfl⟩
  go_enter Try.func97, Try.ntmps97
  go_wp2
  refine wp_region_inv (by kernel_rfl) (fun L a w' => ∃ m b3 b6 b8, MI w.heap.size w o m b3 b6 b8 L a w') (back_of (by kernel_rfl)) ?_ ?_ ?_
  · refine ⟨0, 0, 0, 0, by simp, rfl, rfl, rfl, rfl, rfl, rfl, rfl, rfl, rfl, rfl, ?_, ?_, by simp [World.drew], ?_, ?_, ?_, ?_, ?_, ?_, ?_⟩
    · intro j d hj hl
      have := (dst_lt j d hj).1
      simp [Array.getD_eq_getD_getElem?, this] at hl
    · exact (((Below.refl _ _).alloc (Nat.le_refl _) _).alloc (by simp) _).alloc (by simp; omega) _ |>.drew
    · exact (((BlockIs.new w _ _).below ((Below.refl _ _).alloc (Nat.le_refl _) _)).below ((Below.refl _ _).alloc (Nat.le_refl _) _)).drew
    · have := BlockIs.new (w.alloc (.cells #[.nilFunc, .bool false] 140)) 138 #[fLat]
      have := (this.below ((Below.refl _ _).alloc (Nat.le_refl _) (.cells #[fTar (w.heap.size + 1)] 138))).drew
      simpa using this
    · have := (BlockIs.new ((w.alloc (.cells #[.nilFunc, .bool false] 140)).alloc (.cells #[fLat] 138)) 138 #[fTar (w.heap.size + 1)]).drew
      simpa using this
    all_goals (intro hl; simp [Array.getD_eq_getD_getElem?] at hl)
  · intro L a w' hI hall
    obtain ⟨m, b3, b6, b8, h⟩ := hI
    have a0 := hall 0 (by decide)
    have hs9 : a.tmps.getD 9 undef = .map (some m) := h.vals 32 9 rfl (hall 32 (by decide))
    obtain ⟨hm, kvs, hM, hkv⟩ := h.map a0
    have h0 := h.low0
    have h2 := h.low2
    have h3 := h.low3
    have hdf := h.defers
    have hsz := h.size
    have hlook := hM.look_ok (P := Try.prog) Try.underlying167 Try.underlying3 o (zeroM w')
    rw [hkv] at hlook
    obtain ⟨tm, df⟩ := a
    simp only at hs9 h0 h2 h3 hdf hsz
    subst hdf
    obtain ⟨x1, x4, x5, x6, x7, x8, x10, x11, x12, x13, x14, x15, x16, x17, x18, x19, x20, x21, x22, x23, x24, x25, x26, x27, x28, x29, x30, x31, x32, x33, x34, x35, x36, x37, x38, x39, x40, x41, x42, x43, x44, x45, hlit⟩ := lit46 tm hsz
    rw [hs9, h0, h2, h3] at hlit
    subst hlit
    cases hob : isObj o
    · rw [keyIn_not _ _ _ _ _ _ _ hob] at hlook
      simp only [Option.getD_none, Option.isSome_none] at hlook
      clear hall
      have hsA := store_pair Try.prog w' .nilFunc .nilFunc (.bool false) 140 rfl
      have hsB := store_past Try.prog w' w.heap.size .nilFunc .nilFunc (.bool false) 140 (.cells #[.nilFunc, .bool false] 140) rfl h.blk0
      have hcB := h.blk0.cell 1
      simp at hcB
      have hfB := h.blk0.frozen 1
      have hnB := h.blk0.lt
      have HX := Lib.hid h
      clear h hkv hM hs9 h0 h2 h3 hsz hst5 hst6 hW
      go_wp2
      have h := HX.out
      have hF := (((h.blk0.set 0 .nilFunc).set 1 (.bool false)).below ((Below.refl _ _).alloc (Nat.le_refl _) (.cells #[.nilFunc, .bool false] 140)))
      have hF0 := hF.cell 0
      have hF1 := hF.cell 1
      simp at hF0 hF1
      have hbF : Below w.heap.size w (((w'.setCell ⟨w.heap.size, 0, none⟩ .nilFunc).setCell ⟨w.heap.size, 1, none⟩ (.bool false)).alloc (.cells #[.nilFunc, .bool false] 140)) := ((h.below.setCell (Nat.le_refl _) _).setCell (Nat.le_refl _) _).alloc (by simp [World.setCell]; have := h.fit; omega) _
      exact bodyPost_ret (v := .tuple #[.agg #[.nilFunc, .bool false], .bool false]) (by simp [results, Try.results97, go_sem, hF0, hF1]) rfl ⟨hbF, .inl ⟨hob, rfl⟩⟩
    · have c3 := h.c3 (hall 9 (by decide))
      have c6 := h.c6 (hall 20 (by decide))
      have c8 := h.c8 (hall 28 (by decide))
      have d1 := h.blk1
      have d2 := h.blk2
      have HC := Lib.hid (And.intro c3 (And.intro c6 (And.intro c8 (And.intro d1 d2))))
      clear c3 c6 c8 d1 d2
      rcases obj_cases hob with rfl | rfl | rfl | rfl | rfl | rfl | rfl | rfl
      · rw [show keyIn w.heap.size m b3 b6 b8 L 1 = some (.agg #[fEnd, .bool true]) by unfold keyIn; simp [insAt, valM, hall 3 (by decide)]] at hlook
        simp only [Option.getD_some, Option.isSome_some] at hlook
        clear hall
        have hsA := store_pair Try.prog w' fEnd .nilFunc (.bool false) 140 rfl
        have hsB := store_past Try.prog w' w.heap.size fEnd .nilFunc (.bool false) 140 (.cells #[fEnd, .bool true] 140) rfl h.blk0
        have hcB := h.blk0.cell 1
        simp at hcB
        have hfB := h.blk0.frozen 1
        have hnB := h.blk0.lt
        have HX := Lib.hid h
        clear h hkv hM hs9 h0 h2 h3 hsz hst5 hst6 hW
        go_wp2
        have h := HX.out
        obtain ⟨c3, c6, c8, d1, d2⟩ := HC.out
        have hF := (((h.blk0.set 0 fEnd).set 1 (.bool true)).below ((Below.refl _ _).alloc (Nat.le_refl _) (.cells #[fEnd, .bool true] 140)))
        have hF0 := hF.cell 0
        have hF1 := hF.cell 1
        simp at hF0 hF1
        have hbF : Below w.heap.size w (((w'.setCell ⟨w.heap.size, 0, none⟩ fEnd).setCell ⟨w.heap.size, 1, none⟩ (.bool true)).alloc (.cells #[fEnd, .bool true] 140)) := ((h.below.setCell (Nat.le_refl _) _).setCell (Nat.le_refl _) _).alloc (by simp [World.setCell]; have := h.fit; omega) _
        exact bodyPost_ret (v := .tuple #[.agg #[fEnd, .bool true], .bool true]) (by simp [results, Try.results97, go_sem, hF0, hF1]) rfl ⟨hbF, .inr ⟨hob, _, rfl, .inl ⟨.inl rfl, rfl⟩⟩⟩
      · rw [show keyIn w.heap.size m b3 b6 b8 L 2 = some (.agg #[fEnd, .bool false]) by unfold keyIn; simp [insAt, valM, hall 6 (by decide)]] at hlook
        simp only [Option.getD_some, Option.isSome_some] at hlook
        clear hall
        have hsA := store_pair Try.prog w' fEnd .nilFunc (.bool false) 140 rfl
        have hsB := store_past Try.prog w' w.heap.size fEnd .nilFunc (.bool false) 140 (.cells #[fEnd, .bool false] 140) rfl h.blk0
        have hcB := h.blk0.cell 1
        simp at hcB
        have hfB := h.blk0.frozen 1
        have hnB := h.blk0.lt
        have HX := Lib.hid h
        clear h hkv hM hs9 h0 h2 h3 hsz hst5 hst6 hW
        go_wp2
        have h := HX.out
        obtain ⟨c3, c6, c8, d1, d2⟩ := HC.out
        have hF := (((h.blk0.set 0 fEnd).set 1 (.bool false)).below ((Below.refl _ _).alloc (Nat.le_refl _) (.cells #[fEnd, .bool false] 140)))
        have hF0 := hF.cell 0
        have hF1 := hF.cell 1
        simp at hF0 hF1
        have hbF : Below w.heap.size w (((w'.setCell ⟨w.heap.size, 0, none⟩ fEnd).setCell ⟨w.heap.size, 1, none⟩ (.bool false)).alloc (.cells #[fEnd, .bool false] 140)) := ((h.below.setCell (Nat.le_refl _) _).setCell (Nat.le_refl _) _).alloc (by simp [World.setCell]; have := h.fit; omega) _
        exact bodyPost_ret (v := .tuple #[.agg #[fEnd, .bool false], .bool true]) (by simp [results, Try.results97, go_sem, hF0, hF1]) rfl ⟨hbF, .inr ⟨hob, _, rfl, .inl ⟨.inr rfl, rfl⟩⟩⟩
      · rw [show keyIn w.heap.size m b3 b6 b8 L 3 = some (.agg #[(fWgt b3), .bool false]) by unfold keyIn; simp [insAt, valM, hall 11 (by decide)]] at hlook
        simp only [Option.getD_some, Option.isSome_some] at hlook
        clear hall
        have hsA := store_pair Try.prog w' (fWgt b3) .nilFunc (.bool false) 140 rfl
        have hsB := store_past Try.prog w' w.heap.size (fWgt b3) .nilFunc (.bool false) 140 (.cells #[(fWgt b3), .bool false] 140) rfl h.blk0
        have hcB := h.blk0.cell 1
        simp at hcB
        have hfB := h.blk0.frozen 1
        have hnB := h.blk0.lt
        have HX := Lib.hid h
        clear h hkv hM hs9 h0 h2 h3 hsz hst5 hst6 hW
        go_wp2
        have h := HX.out
        obtain ⟨c3, c6, c8, d1, d2⟩ := HC.out
        have hF := (((h.blk0.set 0 (fWgt b3)).set 1 (.bool false)).below ((Below.refl _ _).alloc (Nat.le_refl _) (.cells #[(fWgt b3), .bool false] 140)))
        have hF0 := hF.cell 0
        have hF1 := hF.cell 1
        simp at hF0 hF1
        have hbF : Below w.heap.size w (((w'.setCell ⟨w.heap.size, 0, none⟩ (fWgt b3)).setCell ⟨w.heap.size, 1, none⟩ (.bool false)).alloc (.cells #[(fWgt b3), .bool false] 140)) := ((h.below.setCell (Nat.le_refl _) _).setCell (Nat.le_refl _) _).alloc (by simp [World.setCell]; have := h.fit; omega) _
        exact bodyPost_ret (v := .tuple #[.agg #[(fWgt b3), .bool false], .bool true]) (by simp [results, Try.results97, go_sem, hF0, hF1]) rfl ⟨hbF, .inr ⟨hob, _, rfl, .inr (.inr (.inr (.inr (.inl ⟨rfl, _, rfl, (((c3.2.1.set_ne (by omega) 0 _).set_ne (by omega) 1 _).below ((Below.refl _ _).alloc (Nat.le_refl _) _)).lt, (((c3.2.1.set_ne (by omega) 0 _).set_ne (by omega) 1 _).below ((Below.refl _ _).alloc (Nat.le_refl _) _))⟩))))⟩⟩
      · rw [show keyIn w.heap.size m b3 b6 b8 L 4 = some (.agg #[fLat, .bool true]) by unfold keyIn; simp [insAt, valM, hall 14 (by decide)]] at hlook
        simp only [Option.getD_some, Option.isSome_some] at hlook
        clear hall
        have hsA := store_pair Try.prog w' fLat .nilFunc (.bool false) 140 rfl
        have hsB := store_past Try.prog w' w.heap.size fLat .nilFunc (.bool false) 140 (.cells #[fLat, .bool true] 140) rfl h.blk0
        have hcB := h.blk0.cell 1
        simp at hcB
        have hfB := h.blk0.frozen 1
        have hnB := h.blk0.lt
        have HX := Lib.hid h
        clear h hkv hM hs9 h0 h2 h3 hsz hst5 hst6 hW
        go_wp2
        have h := HX.out
        obtain ⟨c3, c6, c8, d1, d2⟩ := HC.out
        have hF := (((h.blk0.set 0 fLat).set 1 (.bool true)).below ((Below.refl _ _).alloc (Nat.le_refl _) (.cells #[fLat, .bool true] 140)))
        have hF0 := hF.cell 0
        have hF1 := hF.cell 1
        simp at hF0 hF1
        have hbF : Below w.heap.size w (((w'.setCell ⟨w.heap.size, 0, none⟩ fLat).setCell ⟨w.heap.size, 1, none⟩ (.bool true)).alloc (.cells #[fLat, .bool true] 140)) := ((h.below.setCell (Nat.le_refl _) _).setCell (Nat.le_refl _) _).alloc (by simp [World.setCell]; have := h.fit; omega) _
        exact bodyPost_ret (v := .tuple #[.agg #[fLat, .bool true], .bool true]) (by simp [results, Try.results97, go_sem, hF0, hF1]) rfl ⟨hbF, .inr ⟨hob, _, rfl, .inr (.inl ⟨rfl, rfl⟩)⟩⟩
      · rw [show keyIn w.heap.size m b3 b6 b8 L 5 = some (.agg #[(fTar (w.heap.size + 1)), .bool false]) by unfold keyIn; simp [insAt, valM, hall 17 (by decide)]] at hlook
        simp only [Option.getD_some, Option.isSome_some] at hlook
        clear hall
        have hsA := store_pair Try.prog w' (fTar (w.heap.size + 1)) .nilFunc (.bool false) 140 rfl
        have hsB := store_past Try.prog w' w.heap.size (fTar (w.heap.size + 1)) .nilFunc (.bool false) 140 (.cells #[(fTar (w.heap.size + 1)), .bool false] 140) rfl h.blk0
        have hcB := h.blk0.cell 1
        simp at hcB
        have hfB := h.blk0.frozen 1
        have hnB := h.blk0.lt
        have HX := Lib.hid h
        clear h hkv hM hs9 h0 h2 h3 hsz hst5 hst6 hW
        go_wp2
        have h := HX.out
        obtain ⟨c3, c6, c8, d1, d2⟩ := HC.out
        have hF := (((h.blk0.set 0 (fTar (w.heap.size + 1))).set 1 (.bool false)).below ((Below.refl _ _).alloc (Nat.le_refl _) (.cells #[(fTar (w.heap.size + 1)), .bool false] 140)))
        have hF0 := hF.cell 0
        have hF1 := hF.cell 1
        simp at hF0 hF1
        have hbF : Below w.heap.size w (((w'.setCell ⟨w.heap.size, 0, none⟩ (fTar (w.heap.size + 1))).setCell ⟨w.heap.size, 1, none⟩ (.bool false)).alloc (.cells #[(fTar (w.heap.size + 1)), .bool false] 140)) := ((h.below.setCell (Nat.le_refl _) _).setCell (Nat.le_refl _) _).alloc (by simp [World.setCell]; have := h.fit; omega) _
        exact bodyPost_ret (v := .tuple #[.agg #[(fTar (w.heap.size + 1)), .bool false], .bool true]) (by simp [results, Try.results97, go_sem, hF0, hF1]) rfl ⟨hbF, .inr ⟨hob, _, rfl, .inr (.inr (.inl ⟨rfl, _, rfl, (((d1.set_ne (by omega) 0 _).set_ne (by omega) 1 _).below ((Below.refl _ _).alloc (Nat.le_refl _) _)).lt, (((d1.set_ne (by omega) 0 _).set_ne (by omega) 1 _).below ((Below.refl _ _).alloc (Nat.le_refl _) _))⟩))⟩⟩
      · rw [show keyIn w.heap.size m b3 b6 b8 L 6 = some (.agg #[(fWgt b6), .bool false]) by unfold keyIn; simp [insAt, valM, hall 22 (by decide)]] at hlook
        simp only [Option.getD_some, Option.isSome_some] at hlook
        clear hall
        have hsA := store_pair Try.prog w' (fWgt b6) .nilFunc (.bool false) 140 rfl
        have hsB := store_past Try.prog w' w.heap.size (fWgt b6) .nilFunc (.bool false) 140 (.cells #[(fWgt b6), .bool false] 140) rfl h.blk0
        have hcB := h.blk0.cell 1
        simp at hcB
        have hfB := h.blk0.frozen 1
        have hnB := h.blk0.lt
        have HX := Lib.hid h
        clear h hkv hM hs9 h0 h2 h3 hsz hst5 hst6 hW
        go_wp2
        have h := HX.out
        obtain ⟨c3, c6, c8, d1, d2⟩ := HC.out
        have hF := (((h.blk0.set 0 (fWgt b6)).set 1 (.bool false)).below ((Below.refl _ _).alloc (Nat.le_refl _) (.cells #[(fWgt b6), .bool false] 140)))
        have hF0 := hF.cell 0
        have hF1 := hF.cell 1
        simp at hF0 hF1
        have hbF : Below w.heap.size w (((w'.setCell ⟨w.heap.size, 0, none⟩ (fWgt b6)).setCell ⟨w.heap.size, 1, none⟩ (.bool false)).alloc (.cells #[(fWgt b6), .bool false] 140)) := ((h.below.setCell (Nat.le_refl _) _).setCell (Nat.le_refl _) _).alloc (by simp [World.setCell]; have := h.fit; omega) _
        exact bodyPost_ret (v := .tuple #[.agg #[(fWgt b6), .bool false], .bool true]) (by simp [results, Try.results97, go_sem, hF0, hF1]) rfl ⟨hbF, .inr ⟨hob, _, rfl, .inr (.inr (.inr (.inr (.inr (.inl ⟨rfl, _, _, rfl, (((c6.2.1.set_ne (by omega) 0 _).set_ne (by omega) 1 _).below ((Below.refl _ _).alloc (Nat.le_refl _) _)).lt, (((c6.2.1.set_ne (by omega) 0 _).set_ne (by omega) 1 _).below ((Below.refl _ _).alloc (Nat.le_refl _) _)), (((d1.set_ne (by omega) 0 _).set_ne (by omega) 1 _).below ((Below.refl _ _).alloc (Nat.le_refl _) _)).lt, (((d1.set_ne (by omega) 0 _).set_ne (by omega) 1 _).below ((Below.refl _ _).alloc (Nat.le_refl _) _))⟩)))))⟩⟩
      · rw [show keyIn w.heap.size m b3 b6 b8 L 7 = some (.agg #[(fLate (w.heap.size + 2)), .bool false]) by unfold keyIn; simp [insAt, valM, hall 25 (by decide)]] at hlook
        simp only [Option.getD_some, Option.isSome_some] at hlook
        clear hall
        have hsA := store_pair Try.prog w' (fLate (w.heap.size + 2)) .nilFunc (.bool false) 140 rfl
        have hsB := store_past Try.prog w' w.heap.size (fLate (w.heap.size + 2)) .nilFunc (.bool false) 140 (.cells #[(fLate (w.heap.size + 2)), .bool false] 140) rfl h.blk0
        have hcB := h.blk0.cell 1
        simp at hcB
        have hfB := h.blk0.frozen 1
        have hnB := h.blk0.lt
        have HX := Lib.hid h
        clear h hkv hM hs9 h0 h2 h3 hsz hst5 hst6 hW
        go_wp2
        have h := HX.out
        obtain ⟨c3, c6, c8, d1, d2⟩ := HC.out
        have hF := (((h.blk0.set 0 (fLate (w.heap.size + 2))).set 1 (.bool false)).below ((Below.refl _ _).alloc (Nat.le_refl _) (.cells #[(fLate (w.heap.size + 2)), .bool false] 140)))
        have hF0 := hF.cell 0
        have hF1 := hF.cell 1
        simp at hF0 hF1
        have hbF : Below w.heap.size w (((w'.setCell ⟨w.heap.size, 0, none⟩ (fLate (w.heap.size + 2))).setCell ⟨w.heap.size, 1, none⟩ (.bool false)).alloc (.cells #[(fLate (w.heap.size + 2)), .bool false] 140)) := ((h.below.setCell (Nat.le_refl _) _).setCell (Nat.le_refl _) _).alloc (by simp [World.setCell]; have := h.fit; omega) _
        exact bodyPost_ret (v := .tuple #[.agg #[(fLate (w.heap.size + 2)), .bool false], .bool true]) (by simp [results, Try.results97, go_sem, hF0, hF1]) rfl ⟨hbF, .inr ⟨hob, _, rfl, .inr (.inr (.inr (.inl ⟨rfl, _, _, rfl, (((d2.set_ne (by omega) 0 _).set_ne (by omega) 1 _).below ((Below.refl _ _).alloc (Nat.le_refl _) _)).lt, (((d2.set_ne (by omega) 0 _).set_ne (by omega) 1 _).below ((Below.refl _ _).alloc (Nat.le_refl _) _)), (((d1.set_ne (by omega) 0 _).set_ne (by omega) 1 _).below ((Below.refl _ _).alloc (Nat.le_refl _) _)).lt, (((d1.set_ne (by omega) 0 _).set_ne (by omega) 1 _).below ((Below.refl _ _).alloc (Nat.le_refl _) _))⟩)))⟩⟩
      · rw [show keyIn w.heap.size m b3 b6 b8 L 8 = some (.agg #[(fWgt b8), .bool false]) by unfold keyIn; simp [insAt, valM, hall 30 (by decide)]] at hlook
        simp only [Option.getD_some, Option.isSome_some] at hlook
        clear hall
        have hsA := store_pair Try.prog w' (fWgt b8) .nilFunc (.bool false) 140 rfl
        have hsB := store_past Try.prog w' w.heap.size (fWgt b8) .nilFunc (.bool false) 140 (.cells #[(fWgt b8), .bool false] 140) rfl h.blk0
        have hcB := h.blk0.cell 1
        simp at hcB
        have hfB := h.blk0.frozen 1
        have hnB := h.blk0.lt
        have HX := Lib.hid h
        clear h hkv hM hs9 h0 h2 h3 hsz hst5 hst6 hW
        go_wp2
        have h := HX.out
        obtain ⟨c3, c6, c8, d1, d2⟩ := HC.out
        have hF := (((h.blk0.set 0 (fWgt b8)).set 1 (.bool false)).below ((Below.refl _ _).alloc (Nat.le_refl _) (.cells #[(fWgt b8), .bool false] 140)))
        have hF0 := hF.cell 0
        have hF1 := hF.cell 1
        simp at hF0 hF1
        have hbF : Below w.heap.size w (((w'.setCell ⟨w.heap.size, 0, none⟩ (fWgt b8)).setCell ⟨w.heap.size, 1, none⟩ (.bool false)).alloc (.cells #[(fWgt b8), .bool false] 140)) := ((h.below.setCell (Nat.le_refl _) _).setCell (Nat.le_refl _) _).alloc (by simp [World.setCell]; have := h.fit; omega) _
        exact bodyPost_ret (v := .tuple #[.agg #[(fWgt b8), .bool false], .bool true]) (by simp [results, Try.results97, go_sem, hF0, hF1]) rfl ⟨hbF, .inr ⟨hob, _, rfl, .inr (.inr (.inr (.inr (.inr (.inr ⟨rfl, _, _, _, rfl, (((c8.2.1.set_ne (by omega) 0 _).set_ne (by omega) 1 _).below ((Below.refl _ _).alloc (Nat.le_refl _) _)).lt, (((c8.2.1.set_ne (by omega) 0 _).set_ne (by omega) 1 _).below ((Below.refl _ _).alloc (Nat.le_refl _) _)), (((d2.set_ne (by omega) 0 _).set_ne (by omega) 1 _).below ((Below.refl _ _).alloc (Nat.le_refl _) _)).lt, (((d2.set_ne (by omega) 0 _).set_ne (by omega) 1 _).below ((Below.refl _ _).alloc (Nat.le_refl _) _)), (((d1.set_ne (by omega) 0 _).set_ne (by omega) 1 _).below ((Below.refl _ _).alloc (Nat.le_refl _) _)).lt, (((d1.set_ne (by omega) 0 _).set_ne (by omega) 1 _).below ((Below.refl _ _).alloc (Nat.le_refl _) _))⟩)))))⟩⟩
  · intro L a w' i op hC hI ho hl hd
    obtain ⟨m, b3, b6, b8, h⟩ := hI
    have hi : i < 33 := (Array.getElem?_eq_some_iff.1 ho).1
    have D := fun e => @dep_of _ L i op ho hd e
    have N := fun j e => @Closed.no _ L hC j e
    clear hC hd
    rcases (by omega : i = 0 ∨ i = 1 ∨ i = 2 ∨ i = 3 ∨ i = 4 ∨ i = 5 ∨ i = 6 ∨ i = 7 ∨ i = 8 ∨ i = 9 ∨ i = 10 ∨ i = 11 ∨ i = 12 ∨ i = 13 ∨ i = 14 ∨ i = 15 ∨ i = 16 ∨ i = 17 ∨ i = 18 ∨ i = 19 ∨ i = 20 ∨ i = 21 ∨ i = 22 ∨ i = 23 ∨ i = 24 ∨ i = 25 ∨ i = 26 ∨ i = 27 ∨ i = 28 ∨ i = 29 ∨ i = 30 ∨ i = 31 ∨ i = 32) with rfl | rfl | rfl | rfl | rfl | rfl | rfl | rfl | rfl | rfl | rfl | rfl | rfl | rfl | rfl | rfl | rfl | rfl | rfl | rfl | rfl | rfl | rfl | rfl | rfl | rfl | rfl | rfl | rfl | rfl | rfl | rfl | rfl
    · obtain rfl := Option.some.inj ho
      have n31 := N 31 0 (by kernel_rfl) hl
      refine wpOp_value ho rfl (w' := w'.alloc (.map #[] 0)) (v := .map (some w'.heap.size)) (by simp [execOp, run_makeMap, go_sem]) ?_
      exact ⟨w'.heap.size, b3, b6, b8, h.make n31 (N 32 31 (by kernel_rfl) n31) (fun key i s hi => by
        unfold insAt at hi
        split at hi
        · obtain ⟨rfl, _⟩ := Prod.mk.inj (Option.some.inj hi); exact N 3 0 (by kernel_rfl) hl
        · obtain ⟨rfl, _⟩ := Prod.mk.inj (Option.some.inj hi); exact N 6 0 (by kernel_rfl) hl
        · obtain ⟨rfl, _⟩ := Prod.mk.inj (Option.some.inj hi); exact N 11 0 (by kernel_rfl) hl
        · obtain ⟨rfl, _⟩ := Prod.mk.inj (Option.some.inj hi); exact N 14 0 (by kernel_rfl) hl
        · obtain ⟨rfl, _⟩ := Prod.mk.inj (Option.some.inj hi); exact N 17 0 (by kernel_rfl) hl
        · obtain ⟨rfl, _⟩ := Prod.mk.inj (Option.some.inj hi); exact N 22 0 (by kernel_rfl) hl
        · obtain ⟨rfl, _⟩ := Prod.mk.inj (Option.some.inj hi); exact N 25 0 (by kernel_rfl) hl
        · obtain ⟨rfl, _⟩ := Prod.mk.inj (Option.some.inj hi); exact N 30 0 (by kernel_rfl) hl
        · cases hi)⟩
    · obtain rfl := Option.some.inj ho
      have e := h.low4
      refine wpOp_value ho rfl (w' := w') (v := valM w.heap.size m b3 b6 b8 1) (by simp [execOp, Act.eval, e, valM]) ?_
      exact ⟨m, b3, b6, b8, h.pure (k := 1) rfl (by decide) (by decide) (by decide) (by decide)⟩
    · obtain rfl := Option.some.inj ho
      have e := h.vals 1 15 rfl (D 1 (by kernel_rfl))
      simp only [valM] at e
      rw [Array.getD_eq_getD_getElem?] at e
      refine wpOp_value ho rfl (w' := w') (v := valM w.heap.size m b3 b6 b8 2) (by simp [execOp, Act.eval, e, valM, go_sem]) ?_
      exact ⟨m, b3, b6, b8, h.pure (k := 2) rfl (by decide) (by decide) (by decide) (by decide)⟩
    · obtain rfl := Option.some.inj ho
      have d0 := D 0 (by kernel_rfl)
      have e1 := h.vals 0 14 rfl d0
      have e2 := h.vals 2 16 rfl (D 2 (by kernel_rfl))
      obtain ⟨_, kvs, hM, hkv⟩ := h.map d0
      obtain ⟨w'', hput, hM', hg, hs⟩ := hM.put (P := Try.prog) Try.underlying167 Try.underlying3 ((1 : Nat) : Int) (valM w.heap.size m b3 b6 b8 2) (ins_fresh (k := 3) (s := 2) (key := 1) rfl hl hkv)
      simp only [valM] at e1
      refine wpOp_skip ho rfl (w' := w'') (by simp at hput; simp [execOp, Act.eval, e1, e2, hput, Result.andThen, go_sem]) ?_
      exact ⟨m, b3, b6, b8, h.ins (k := 3) (s := 2) (key := 1) rfl d0 hl undef hkv hM' hg hs⟩
    · obtain rfl := Option.some.inj ho
      have e := h.low4
      refine wpOp_value ho rfl (w' := w') (v := valM w.heap.size m b3 b6 b8 4) (by simp [execOp, Act.eval, e, valM]) ?_
      exact ⟨m, b3, b6, b8, h.pure (k := 4) rfl (by decide) (by decide) (by decide) (by decide)⟩
    · obtain rfl := Option.some.inj ho
      have e := h.vals 4 17 rfl (D 4 (by kernel_rfl))
      simp only [valM] at e
      rw [Array.getD_eq_getD_getElem?] at e
      refine wpOp_value ho rfl (w' := w') (v := valM w.heap.size m b3 b6 b8 5) (by simp [execOp, Act.eval, e, valM, go_sem]) ?_
      exact ⟨m, b3, b6, b8, h.pure (k := 5) rfl (by decide) (by decide) (by decide) (by decide)⟩
    · obtain rfl := Option.some.inj ho
      have d0 := D 0 (by kernel_rfl)
      have e1 := h.vals 0 14 rfl d0
      have e2 := h.vals 5 18 rfl (D 5 (by kernel_rfl))
      obtain ⟨_, kvs, hM, hkv⟩ := h.map d0
      obtain ⟨w'', hput, hM', hg, hs⟩ := hM.put (P := Try.prog) Try.underlying167 Try.underlying3 ((2 : Nat) : Int) (valM w.heap.size m b3 b6 b8 5) (ins_fresh (k := 6) (s := 5) (key := 2) rfl hl hkv)
      simp only [valM] at e1
      refine wpOp_skip ho rfl (w' := w'') (by simp at hput; simp [execOp, Act.eval, e1, e2, hput, Result.andThen, go_sem]) ?_
      exact ⟨m, b3, b6, b8, h.ins (k := 6) (s := 5) (key := 2) rfl d0 hl undef hkv hM' hg hs⟩
    · obtain rfl := Option.some.inj ho
      have e := h.low8
      refine wpOp_value ho rfl (w' := w') (v := valM w.heap.size m b3 b6 b8 7) (by simp [execOp, Act.eval, e, valM]) ?_
      exact ⟨m, b3, b6, b8, h.pure (k := 7) rfl (by decide) (by decide) (by decide) (by decide)⟩
    · obtain rfl := Option.some.inj ho
      have e := h.low4
      refine wpOp_value ho rfl (w' := w') (v := valM w.heap.size m b3 b6 b8 8) (by simp [execOp, Act.eval, e, valM]) ?_
      exact ⟨m, b3, b6, b8, h.pure (k := 8) rfl (by decide) (by decide) (by decide) (by decide)⟩
    · obtain rfl := Option.some.inj ho
      have e1 := h.vals 7 19 rfl (D 7 (by kernel_rfl))
      have e2 := h.vals 8 20 rfl (D 8 (by kernel_rfl))
      simp only [valM] at e1 e2
      refine wpOp_enter ho rfl (w' := w') (f := 125) (args := #[fEnd]) (by simp [execOp, Act.eval, e1, e2, go_sem]) ((weighted_end w').mono ?_)
      rintro e w'' ⟨rfl, rfl⟩
      have n1 := N 10 9 (by kernel_rfl) hl
      exact ⟨_, rfl, m, w'.heap.size, b6, b8, h.c3_call n1 (N 11 10 (by kernel_rfl) n1)⟩
    · obtain rfl := Option.some.inj ho
      have e := h.vals 9 21 rfl (D 9 (by kernel_rfl))
      simp only [valM] at e
      rw [Array.getD_eq_getD_getElem?] at e
      refine wpOp_value ho rfl (w' := w') (v := valM w.heap.size m b3 b6 b8 10) (by simp [execOp, Act.eval, e, valM, go_sem]) ?_
      exact ⟨m, b3, b6, b8, h.pure (k := 10) rfl (by decide) (by decide) (by decide) (by decide)⟩
    · obtain rfl := Option.some.inj ho
      have d0 := D 0 (by kernel_rfl)
      have e1 := h.vals 0 14 rfl d0
      have e2 := h.vals 10 22 rfl (D 10 (by kernel_rfl))
      obtain ⟨_, kvs, hM, hkv⟩ := h.map d0
      obtain ⟨w'', hput, hM', hg, hs⟩ := hM.put (P := Try.prog) Try.underlying167 Try.underlying3 ((3 : Nat) : Int) (valM w.heap.size m b3 b6 b8 10) (ins_fresh (k := 11) (s := 10) (key := 3) rfl hl hkv)
      simp only [valM] at e1
      refine wpOp_skip ho rfl (w' := w'') (by simp at hput; simp [execOp, Act.eval, e1, e2, hput, Result.andThen, go_sem]) ?_
      exact ⟨m, b3, b6, b8, h.ins (k := 11) (s := 10) (key := 3) rfl d0 hl undef hkv hM' hg hs⟩
    · obtain rfl := Option.some.inj ho
      have e := h.low5
      have hc := h.blk1.cell 0
      simp at hc
      refine wpOp_value ho rfl (w' := w') (v := valM w.heap.size m b3 b6 b8 12) (by simp [execOp, Act.eval, e, valM, hc, go_sem]) ?_
      exact ⟨m, b3, b6, b8, h.pure (k := 12) rfl (by decide) (by decide) (by decide) (by decide)⟩
    · obtain rfl := Option.some.inj ho
      have e := h.vals 12 23 rfl (D 12 (by kernel_rfl))
      simp only [valM] at e
      rw [Array.getD_eq_getD_getElem?] at e
      refine wpOp_value ho rfl (w' := w') (v := valM w.heap.size m b3 b6 b8 13) (by simp [execOp, Act.eval, e, valM, go_sem]) ?_
      exact ⟨m, b3, b6, b8, h.pure (k := 13) rfl (by decide) (by decide) (by decide) (by decide)⟩
    · obtain rfl := Option.some.inj ho
      have d0 := D 0 (by kernel_rfl)
      have e1 := h.vals 0 14 rfl d0
      have e2 := h.vals 13 24 rfl (D 13 (by kernel_rfl))
      obtain ⟨_, kvs, hM, hkv⟩ := h.map d0
      obtain ⟨w'', hput, hM', hg, hs⟩ := hM.put (P := Try.prog) Try.underlying167 Try.underlying3 ((4 : Nat) : Int) (valM w.heap.size m b3 b6 b8 13) (ins_fresh (k := 14) (s := 13) (key := 4) rfl hl hkv)
      simp only [valM] at e1
      refine wpOp_skip ho rfl (w' := w'') (by simp at hput; simp [execOp, Act.eval, e1, e2, hput, Result.andThen, go_sem]) ?_
      exact ⟨m, b3, b6, b8, h.ins (k := 14) (s := 13) (key := 4) rfl d0 hl undef hkv hM' hg hs⟩
    · obtain rfl := Option.some.inj ho
      have e := h.low6
      have hc := h.blk2.cell 0
      simp at hc
      refine wpOp_value ho rfl (w' := w') (v := valM w.heap.size m b3 b6 b8 15) (by simp [execOp, Act.eval, e, valM, hc, go_sem]) ?_
      exact ⟨m, b3, b6, b8, h.pure (k := 15) rfl (by decide) (by decide) (by decide) (by decide)⟩
    · obtain rfl := Option.some.inj ho
      have e := h.vals 15 25 rfl (D 15 (by kernel_rfl))
      simp only [valM] at e
      rw [Array.getD_eq_getD_getElem?] at e
      refine wpOp_value ho rfl (w' := w') (v := valM w.heap.size m b3 b6 b8 16) (by simp [execOp, Act.eval, e, valM, go_sem]) ?_
      exact ⟨m, b3, b6, b8, h.pure (k := 16) rfl (by decide) (by decide) (by decide) (by decide)⟩
    · obtain rfl := Option.some.inj ho
      have d0 := D 0 (by kernel_rfl)
      have e1 := h.vals 0 14 rfl d0
      have e2 := h.vals 16 26 rfl (D 16 (by kernel_rfl))
      obtain ⟨_, kvs, hM, hkv⟩ := h.map d0
      obtain ⟨w'', hput, hM', hg, hs⟩ := hM.put (P := Try.prog) Try.underlying167 Try.underlying3 ((5 : Nat) : Int) (valM w.heap.size m b3 b6 b8 16) (ins_fresh (k := 17) (s := 16) (key := 5) rfl hl hkv)
      simp only [valM] at e1
      refine wpOp_skip ho rfl (w' := w'') (by simp at hput; simp [execOp, Act.eval, e1, e2, hput, Result.andThen, go_sem]) ?_
      exact ⟨m, b3, b6, b8, h.ins (k := 17) (s := 16) (key := 5) rfl d0 hl undef hkv hM' hg hs⟩
    · obtain rfl := Option.some.inj ho
      have e := h.low8
      refine wpOp_value ho rfl (w' := w') (v := valM w.heap.size m b3 b6 b8 18) (by simp [execOp, Act.eval, e, valM]) ?_
      exact ⟨m, b3, b6, b8, h.pure (k := 18) rfl (by decide) (by decide) (by decide) (by decide)⟩
    · obtain rfl := Option.some.inj ho
      have e := h.low6
      have hc := h.blk2.cell 0
      simp at hc
      refine wpOp_value ho rfl (w' := w') (v := valM w.heap.size m b3 b6 b8 19) (by simp [execOp, Act.eval, e, valM, hc, go_sem]) ?_
      exact ⟨m, b3, b6, b8, h.pure (k := 19) rfl (by decide) (by decide) (by decide) (by decide)⟩
    · obtain rfl := Option.some.inj ho
      have e1 := h.vals 18 27 rfl (D 18 (by kernel_rfl))
      have e2 := h.vals 19 28 rfl (D 19 (by kernel_rfl))
      simp only [valM] at e1 e2
      refine wpOp_enter ho rfl (w' := w') (f := 125) (args := #[fTar (w.heap.size + 1)]) (by simp [execOp, Act.eval, e1, e2, go_sem]) ((weighted_tar _ w').mono ?_)
      rintro e w'' ⟨rfl, rfl⟩
      have n1 := N 21 20 (by kernel_rfl) hl
      exact ⟨_, rfl, m, b3, w'.heap.size, b8, h.c6_call n1 (N 22 21 (by kernel_rfl) n1)⟩
    · obtain rfl := Option.some.inj ho
      have e := h.vals 20 29 rfl (D 20 (by kernel_rfl))
      simp only [valM] at e
      rw [Array.getD_eq_getD_getElem?] at e
      refine wpOp_value ho rfl (w' := w') (v := valM w.heap.size m b3 b6 b8 21) (by simp [execOp, Act.eval, e, valM, go_sem]) ?_
      exact ⟨m, b3, b6, b8, h.pure (k := 21) rfl (by decide) (by decide) (by decide) (by decide)⟩
    · obtain rfl := Option.some.inj ho
      have d0 := D 0 (by kernel_rfl)
      have e1 := h.vals 0 14 rfl d0
      have e2 := h.vals 21 30 rfl (D 21 (by kernel_rfl))
      obtain ⟨_, kvs, hM, hkv⟩ := h.map d0
      obtain ⟨w'', hput, hM', hg, hs⟩ := hM.put (P := Try.prog) Try.underlying167 Try.underlying3 ((6 : Nat) : Int) (valM w.heap.size m b3 b6 b8 21) (ins_fresh (k := 22) (s := 21) (key := 6) rfl hl hkv)
      simp only [valM] at e1
      refine wpOp_skip ho rfl (w' := w'') (by simp at hput; simp [execOp, Act.eval, e1, e2, hput, Result.andThen, go_sem]) ?_
      exact ⟨m, b3, b6, b8, h.ins (k := 22) (s := 21) (key := 6) rfl d0 hl undef hkv hM' hg hs⟩
    · obtain rfl := Option.some.inj ho
      have e := h.low7
      refine wpOp_value ho rfl (w' := w') (v := valM w.heap.size m b3 b6 b8 23) (by simp [execOp, Act.eval, e, valM]) ?_
      exact ⟨m, b3, b6, b8, h.pure (k := 23) rfl (by decide) (by decide) (by decide) (by decide)⟩
    · obtain rfl := Option.some.inj ho
      have e := h.vals 23 31 rfl (D 23 (by kernel_rfl))
      simp only [valM] at e
      rw [Array.getD_eq_getD_getElem?] at e
      refine wpOp_value ho rfl (w' := w') (v := valM w.heap.size m b3 b6 b8 24) (by simp [execOp, Act.eval, e, valM, go_sem]) ?_
      exact ⟨m, b3, b6, b8, h.pure (k := 24) rfl (by decide) (by decide) (by decide) (by decide)⟩
    · obtain rfl := Option.some.inj ho
      have d0 := D 0 (by kernel_rfl)
      have e1 := h.vals 0 14 rfl d0
      have e2 := h.vals 24 32 rfl (D 24 (by kernel_rfl))
      obtain ⟨_, kvs, hM, hkv⟩ := h.map d0
      obtain ⟨w'', hput, hM', hg, hs⟩ := hM.put (P := Try.prog) Try.underlying167 Try.underlying3 ((7 : Nat) : Int) (valM w.heap.size m b3 b6 b8 24) (ins_fresh (k := 25) (s := 24) (key := 7) rfl hl hkv)
      simp only [valM] at e1
      refine wpOp_skip ho rfl (w' := w'') (by simp at hput; simp [execOp, Act.eval, e1, e2, hput, Result.andThen, go_sem]) ?_
      exact ⟨m, b3, b6, b8, h.ins (k := 25) (s := 24) (key := 7) rfl d0 hl undef hkv hM' hg hs⟩
    · obtain rfl := Option.some.inj ho
      have e := h.low8
      refine wpOp_value ho rfl (w' := w') (v := valM w.heap.size m b3 b6 b8 26) (by simp [execOp, Act.eval, e, valM]) ?_
      exact ⟨m, b3, b6, b8, h.pure (k := 26) rfl (by decide) (by decide) (by decide) (by decide)⟩
    · obtain rfl := Option.some.inj ho
      have e := h.low7
      refine wpOp_value ho rfl (w' := w') (v := valM w.heap.size m b3 b6 b8 27) (by simp [execOp, Act.eval, e, valM]) ?_
      exact ⟨m, b3, b6, b8, h.pure (k := 27) rfl (by decide) (by decide) (by decide) (by decide)⟩
    · obtain rfl := Option.some.inj ho
      have e1 := h.vals 26 33 rfl (D 26 (by kernel_rfl))
      have e2 := h.vals 27 34 rfl (D 27 (by kernel_rfl))
      simp only [valM] at e1 e2
      refine wpOp_enter ho rfl (w' := w') (f := 125) (args := #[fLate (w.heap.size + 2)]) (by simp [execOp, Act.eval, e1, e2, go_sem]) ((weighted_late _ w').mono ?_)
      rintro e w'' ⟨rfl, rfl⟩
      have n1 := N 29 28 (by kernel_rfl) hl
      exact ⟨_, rfl, m, b3, b6, w'.heap.size, h.c8_call n1 (N 30 29 (by kernel_rfl) n1)⟩
    · obtain rfl := Option.some.inj ho
      have e := h.vals 28 35 rfl (D 28 (by kernel_rfl))
      simp only [valM] at e
      rw [Array.getD_eq_getD_getElem?] at e
      refine wpOp_value ho rfl (w' := w') (v := valM w.heap.size m b3 b6 b8 29) (by simp [execOp, Act.eval, e, valM, go_sem]) ?_
      exact ⟨m, b3, b6, b8, h.pure (k := 29) rfl (by decide) (by decide) (by decide) (by decide)⟩
    · obtain rfl := Option.some.inj ho
      have d0 := D 0 (by kernel_rfl)
      have e1 := h.vals 0 14 rfl d0
      have e2 := h.vals 29 36 rfl (D 29 (by kernel_rfl))
      obtain ⟨_, kvs, hM, hkv⟩ := h.map d0
      obtain ⟨w'', hput, hM', hg, hs⟩ := hM.put (P := Try.prog) Try.underlying167 Try.underlying3 ((8 : Nat) : Int) (valM w.heap.size m b3 b6 b8 29) (ins_fresh (k := 30) (s := 29) (key := 8) rfl hl hkv)
      simp only [valM] at e1
      refine wpOp_skip ho rfl (w' := w'') (by simp at hput; simp [execOp, Act.eval, e1, e2, hput, Result.andThen, go_sem]) ?_
      exact ⟨m, b3, b6, b8, h.ins (k := 30) (s := 29) (key := 8) rfl d0 hl undef hkv hM' hg hs⟩
    · obtain rfl := Option.some.inj ho
      have e := h.vals 0 14 rfl (D 0 (by kernel_rfl))
      simp only [valM] at e
      rw [Array.getD_eq_getD_getElem?] at e
      refine wpOp_value ho rfl (w' := w') (v := valM w.heap.size m b3 b6 b8 31) (by simp [execOp, Act.eval, e, valM, go_sem]) ?_
      exact ⟨m, b3, b6, b8, h.pure (k := 31) rfl (by decide) (by decide) (by decide) (by decide)⟩
    · obtain rfl := Option.some.inj ho
      have e := h.vals 31 37 rfl (D 31 (by kernel_rfl))
      simp only [valM] at e
      rw [Array.getD_eq_getD_getElem?] at e
      refine wpOp_value ho rfl (w' := w') (v := valM w.heap.size m b3 b6 b8 32) (by simp [execOp, Act.eval, e, valM, go_sem]) ?_
      exact ⟨m, b3, b6, b8, h.pure (k := 32) rfl (by decide) (by decide) (by decide) (by decide)⟩
end Go.Proofs.Ytjemjdlaoebffaa
