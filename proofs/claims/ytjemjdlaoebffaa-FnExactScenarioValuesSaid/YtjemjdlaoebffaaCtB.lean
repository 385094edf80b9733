/- How some jobs stand behind one more: the program's. -/
import Derived.Test.YtjemjdlaoebffaaCtP
import Derived.Test.YtjemjdlaoebffaaRegO
namespace Go.Proofs.Ytjemjdlaoebffaa
set_option linter.unusedSimpArgs false
set_option linter.unusedVariables false
open Go.RowKit
theorem away_cell {w : World} {g g' : Nat} {t : TypeId} {cs : Array Value} (h : BlockIs w g t cs) (hne : g ≠ g') (i : Nat) (v : Value) : BlockIs (w.setCell ⟨g', i, none⟩ v) g t cs := by
  unfold BlockIs at h ⊢
  rw [← h]
  exact Below.heap_setCell _ _ _ _ hne
theorem stA_all (z : Array Value) (hz : z.size = 9) (n : Nat) (FE FV : Nat → Int) : (((((((((z.setIfInBounds 0 (.int .i64 ((n : Int) + 1))).setIfInBounds 1 (.int .i64 (FE 0))).setIfInBounds 2 (.int .i64 (FE 1))).setIfInBounds 3 (.int .i64 (FE 2))).setIfInBounds 4 (.int .i64 (FE 3))).setIfInBounds 5 (.int .i64 (FV 0))).setIfInBounds 6 (.int .i64 (FV 1))).setIfInBounds 7 (.int .i64 (FV 2))).setIfInBounds 8 (.int .i64 (FV 3))) = stA (n + 1) FE FV := by
  apply Array.ext
  · simp [hz, stA]
  · intro i h1 h2
    have : i < 9 := h2
    rcases (by omega : i = 0 ∨ i = 1 ∨ i = 2 ∨ i = 3 ∨ i = 4 ∨ i = 5 ∨ i = 6 ∨ i = 7 ∨ i = 8) with rfl | rfl | rfl | rfl | rfl | rfl | rfl | rfl | rfl <;> simp [stA, hz]
theorem store_mid (P : Program) (w : World) (a fv u b : Value) (t : TypeId) (hv : fv.oneCell' = true) : (store ⟨w.heap.size, 1, none⟩ fv).run P (w.alloc (.cells #[a, u, b] t)) = .ok () (w.alloc (.cells #[a, fv, b] t)) := by
  have hB := BlockIs.new w t #[a, u, b]
  have hc : (w.alloc (.cells #[a, u, b] t)).cell? ⟨w.heap.size, 1, none⟩ = some u := by rw [hB.cell]; rfl
  have hf := hB.frozen 1
  rw [run_store _ _ _ _ _ hv, hc]
  simp only [hf, Bool.false_eq_true, if_false]
  rw [World.setCell_alloc_at _ _ _ _ _ rfl]
  rfl
set_option maxRecDepth 100000 in
set_option maxHeartbeats 8000000 in
theorem behind_any (B : Nat) (A : Option Addr) (cap : Nat) (ks : List Cr) (m n : Nat) (E V : Nat → Int) (job : Nat) (w : World) (hC : CritIs B w A m ks) (hl : ks.length ≤ 4) (hn : n ≤ 7) (hj : job < m) (hE : ∀ i, i < ks.length → 0 ≤ E i ∧ E i ≤ 950) (hV : ∀ i, i < ks.length → -500 ≤ V i ∧ V i ≤ 50000 * n) :
    Calls Try.prog 98 #[.slice A ks.length cap, .agg (stA n E V), .int .i64 (job : Int)] w fun e w' => e = .returned (.agg (stA (n + 1) (mixF ks.length (newE ks job E) E) (mixF ks.length (newV ks job n E V) V))) ∧ Below w.heap.size w w' := by
  have hb1 := (Below.refl w.heap.size w).alloc (Nat.le_refl _) (.cells (stA n E V) 147)
  have hb2 := hb1.alloc hb1.size (.cells #[.int .i64 0, .int .i64 0, .int .i64 0, .int .i64 0, .int .i64 0, .int .i64 0, .int .i64 0, .int .i64 0, .int .i64 0] 147)
  have hx := (BlockIs.new w 147 (stA n E V)).below ((Below.refl _ _).alloc (Nat.le_refl _) (.cells #[.int .i64 0, .int .i64 0, .int .i64 0, .int .i64 0, .int .i64 0, .int .i64 0, .int .i64 0, .int .i64 0, .int .i64 0] 147))
  have hy := BlockIs.new (w.alloc (.cells (stA n E V) 147)) 147 #[.int .i64 0, .int .i64 0, .int .i64 0, .int .i64 0, .int .i64 0, .int .i64 0, .int .i64 0, .int .i64 0, .int .i64 0]
  have hz : (w.alloc (.cells (stA n E V) 147)).heap.size = w.heap.size + 1 := by simp
  rw [hz] at hy
  have HC := Lib.hid hC
  have HE := Lib.hid hE
  have HV := Lib.hid hV
  have H0 := Lib.hid (And.intro hx (And.intro hy hb2))
  clear hb1 hb2 hx hy hz hC hE hV
  unfold stA at H0 ⊢
  go_enter Try.func98, Try.ntmps98
  go_wp2
  generalize hw0 : (w.alloc (.cells #[.int .i64 (n : Int), .int .i64 (E 0), .int .i64 (E 1), .int .i64 (E 2), .int .i64 (E 3), .int .i64 (V 0), .int .i64 (V 1), .int .i64 (V 2), .int .i64 (V 3)] 147)).alloc (.cells #[.int .i64 0, .int .i64 0, .int .i64 0, .int .i64 0, .int .i64 0, .int .i64 0, .int .i64 0, .int .i64 0, .int .i64 0] 147) = w0 at *
  clear hw0
  rw [show #[Value.int .i64 (n : Int), .int .i64 (E 0), .int .i64 (E 1), .int .i64 (E 2), .int .i64 (E 3), .int .i64 (V 0), .int .i64 (V 1), .int .i64 (V 2), .int .i64 (V 3)] = stA n E V from rfl] at H0
  obtain ⟨NE, hNE⟩ : ∃ f, f = newE ks job E := ⟨_, rfl⟩
  obtain ⟨NV, hNV⟩ : ∃ f, f = newV ks job n E V := ⟨_, rfl⟩
  have HNE := Lib.hid hNE
  have HNV := Lib.hid hNV
  clear hNE hNV
  go_loopw [11] (fun iv wr => ∃ i : Nat, i ≤ ks.length ∧ iv = .int .i64 (i : Int) ∧ Hid (BlockIs wr w.heap.size 147 (stA n (mixF i NE E) (mixF i NV V)) ∧ BlockIs wr (w.heap.size + 1) 147 #[.int .i64 0, .int .i64 0, .int .i64 0, .int .i64 0, .int .i64 0, .int .i64 0, .int .i64 0, .int .i64 0, .int .i64 0] ∧ Below w.heap.size w wr)) (fun iv _ => ks.length - (intOf iv).toNat)
  case atStart => exact ⟨0, Nat.zero_le _, rfl, by rw [mixC_0, mixC_0]; exact H0.out⟩
  case round =>
    obtain ⟨i, hik, rfl, HI⟩ := hrel
    clear H0
    by_cases hlt : i < ks.length
    · have hi0 : (0 : Int) ≤ i := by omega
      have hi1 : (i : Int) < ks.length := by omega
      have hi4 : i < 4 := by omega
      obtain ⟨ad, rfl, hadb, hc0, hc1, hc2⟩ := (HC.out.below HI.out.2.2).1.crit hlt
      obtain ⟨hrow, hfn, hob, hgd, hlen⟩ := HC.out.2.2 i hlt
      obtain ⟨ff, caps, hfv, _, _⟩ := cost_call hfn
      have hBw : B ≤ w.heap.size := HC.out.2.1
      have hgC : ks.getD i cr0 = ks[i] := by simp [List.getD, hlt]
      have hjl : job < ks[i].js.length := by rw [hlen]; exact hj
      have hJB : jbC ks job i = ks[i].js[job] := by unfold jbC; rw [hgC]; simp [List.getD, hjl]
      have hok : okJ ks[i].js[job] = true := (good_out hgd).2 _ (List.getElem_mem hjl)
      have hNEi : NE i = max (E i) ks[i].js[job].r + ks[i].js[job].t := by rw [HNE.out]; unfold newE; rw [hJB]
      have hNVi : NV i = extOf ks[i].o n (V i) (costOf ks[i].o ks[i].js[job] (NE i)) := by rw [HNV.out, HNE.out]; unfold newV; rw [hgC, hJB]
      obtain ⟨t0, t1, q1, q2, r0, r1, q3, q4⟩ := okJ_out hok
      have hEi := HE.out i hlt
      have hVi := HV.out i hlt
      have hne0 : 0 ≤ NE i ∧ NE i ≤ 1000 := by rw [hNEi]; omega
      have hEC : Hid (∀ W, Below w.heap.size w W → Calls Try.prog 127 #[.int .i64 (E i), .agg #[.int .i64 ks[i].js[job].t, .int .i64 ks[i].js[job].w, .int .i64 ks[i].js[job].r, .int .i64 ks[i].js[job].d]] W fun e w' => e = .returned (.int .i64 (NE i)) ∧ Below W.heap.size W w') := fun W _ => by
        have h := endAfter_any (E i) ks[i].js[job] W hok hEi.1 (by omega)
        rw [← hNEi] at h
        exact h
      have hXC : Hid (∀ W, Below w.heap.size w W → Calls Try.prog 128 #[.agg #[ks[i].fv, .bool (isTop ks[i].o)], .int .i64 (n : Int), .int .i64 (V i), .agg #[.int .i64 ks[i].js[job].t, .int .i64 ks[i].js[job].w, .int .i64 ks[i].js[job].r, .int .i64 ks[i].js[job].d], .int .i64 (NE i)] W fun e w' => e = .returned (.int .i64 (NV i)) ∧ Below W.heap.size W w') := fun W hW => by
        have h := extended_any (hfn.keep fun b hb => hW.block b (by omega)) (Nat.le_trans hBw hW.size) hob n (by omega) (V i) hVi.1 hVi.2 ks[i].js[job] hok (NE i) hne0.1 hne0.2
        rw [← hNVi] at h
        exact h
      obtain ⟨aj, hAj, hajb, j0, j1, j2, j3⟩ := hrow.job hjl
      have HJ : Hid (∀ W, Below w.heap.size w W → W.cell? (aj.add (job * 4)) = some (.int .i64 ks[i].js[job].t) ∧ W.cell? ⟨(aj.add (job * 4)).block, (aj.add (job * 4)).off + 1, none⟩ = some (.int .i64 ks[i].js[job].w) ∧ W.cell? ⟨(aj.add (job * 4)).block, (aj.add (job * 4)).off + 2, none⟩ = some (.int .i64 ks[i].js[job].r) ∧ W.cell? ⟨(aj.add (job * 4)).block, (aj.add (job * 4)).off + 3, none⟩ = some (.int .i64 ks[i].js[job].d)) := fun W hW =>
        ⟨(hW.cell (lt_of_cell j0)).trans j0, (hW.cell (lt_of_cell j1)).trans j1, (hW.cell (lt_of_cell j2)).trans j2, (hW.cell (lt_of_cell j3)).trans j3⟩
      rw [hAj] at hc0
      have hjI : (job : Int) < ks[i].js.length := by omega
      have hj0I : (0 : Int) ≤ job := by omega
      have HM := Lib.hid (And.intro (mix_iE i NE E) (mix_iE i NV V))
      clear hrow hfn hob hgd hok hNEi hNVi t0 t1 r0 r1 q1 q2 q3 q4 hEi hVi hgC hJB j0 j1 j2 j3 hlen hAj hajb HNE HNV hadb
      rw [hfv] at hc1 hXC
      clear hfv
      generalize ks[i].fv = fv0 at *
      generalize isTop ks[i].o = tp at *
      generalize ks[i].js[job] = jb at *
      generalize ks[i].js.length = jl at *
      generalize ks[i].c = kc at *
      obtain ⟨jt, jw, jr, jd⟩ := jb
      dsimp only at HJ hEC hXC
      have hwi := HI.out.2.2.size
      have hbx := (Below.refl wr.heap.size wr).alloc (Nat.le_refl _) (.cells #[.slice (some aj) jl kc, .func (.func ff) #[] caps, .bool tp] 144)
      have hX := BlockIs.new wr 144 #[.slice (some aj) jl kc, .func (.func ff) #[] caps, .bool tp]
      have HS := Lib.hid (And.intro hX (And.intro (HI.out.1.below hbx) (And.intro (HI.out.2.1.below hbx) (HI.out.2.2.trans (hbx.mono hwi)))))
      have hg8 : w.heap.size + 1 < wr.heap.size := HI.out.2.1.lt
      have hi4I : (i : Int) < 4 := by omega
      clear hbx hX
      obtain ⟨W4, hW4⟩ : ∃ W, W = wr.alloc (.cells #[.slice (some aj) jl kc, .func (.func ff) #[] caps, .bool tp] 144) := ⟨_, rfl⟩
      rw [← hW4] at HS
      obtain ⟨g8, hg8e⟩ : ∃ g, g = wr.heap.size := ⟨_, rfl⟩
      rw [← hg8e] at HS hg8
      have hst := store_mid Try.prog wr (.slice (some aj) jl kc) (.func (.func ff) #[] caps) .nilFunc (.bool false) 144 rfl
      go_wp2
      rw [← hW4, ← hg8e]
      clear hW4 hg8e HI hc0 hc1 hc2 hst
      have kb : ∀ {X Y : World}, (Below w.heap.size w X ∧ BlockIs X (w.heap.size + 1) 147 #[.int .i64 0, .int .i64 0, .int .i64 0, .int .i64 0, .int .i64 0, .int .i64 0, .int .i64 0, .int .i64 0, .int .i64 0] ∧ BlockIs X g8 144 #[.slice (some aj) jl kc, .func (.func ff) #[] caps, .bool tp]) → Below X.heap.size X Y → (Below w.heap.size w Y ∧ BlockIs Y (w.heap.size + 1) 147 #[.int .i64 0, .int .i64 0, .int .i64 0, .int .i64 0, .int .i64 0, .int .i64 0, .int .i64 0, .int .i64 0, .int .i64 0] ∧ BlockIs Y g8 144 #[.slice (some aj) jl kc, .func (.func ff) #[] caps, .bool tp]) := fun h hb => ⟨h.1.trans (hb.mono h.1.size), h.2.1.below hb, h.2.2.below hb⟩
      have ob : ∀ {X Y : World}, (BlockIs X w.heap.size 147 (stA n (mixF i NE E) (mixF i NV V))) → Below X.heap.size X Y → (BlockIs Y w.heap.size 147 (stA n (mixF i NE E) (mixF i NV V))) := fun h hb => h.below hb
      have nb : ∀ {X Y : World}, (BlockIs X w.heap.size 147 (stA n (mixF (i + 1) NE E) (mixF i NV V))) → Below X.heap.size X Y → (BlockIs Y w.heap.size 147 (stA n (mixF (i + 1) NE E) (mixF i NV V))) := fun h hb => h.below hb
      refine wp_region_detY (by kernel_rfl) (fun L w' => (Below w.heap.size w w' ∧ BlockIs w' (w.heap.size + 1) 147 #[.int .i64 0, .int .i64 0, .int .i64 0, .int .i64 0, .int .i64 0, .int .i64 0, .int .i64 0, .int .i64 0, .int .i64 0] ∧ BlockIs w' g8 144 #[.slice (some aj) jl kc, .func (.func ff) #[] caps, .bool tp]) ∧ (L.getD 13 true = false → BlockIs w' w.heap.size 147 (stA n (mixF i NE E) (mixF i NV V))) ∧ (L.getD 13 true = true → BlockIs w' w.heap.size 147 (stA n (mixF (i + 1) NE E) (mixF i NV V)))) (fun kk => (#[.int .i64 (i : Int), .int .i64 (i : Int), .pointer (some ⟨w.heap.size, 1, none⟩), .pointer (some ⟨w.heap.size, 1 + i, none⟩), .int .i64 (E i), .pointer (some ⟨g8, 0, none⟩), .slice (some aj) jl kc, .int .i64 (job : Int), .pointer (some (aj.add (job * 4))), .agg #[.int .i64 jt, .int .i64 jw, .int .i64 jr, .int .i64 jd], .int .i64 (NE i), .pointer (some ⟨w.heap.size, 1, none⟩), .pointer (some ⟨w.heap.size, 1 + i, none⟩), undef] : Array Value).getD kk undef) (by kernel_rfl) (by kernel_rfl) ⟨⟨HS.out.2.2.2.drew, HS.out.2.2.1.drew, HS.out.1.drew⟩, fun _ => HS.out.2.1.drew, fun h => by cases h⟩ ?_ ?_
      · intro L tm w' hall hS hsz hlow hval
        have ht : tm = #[.slice (some ad) ks.length cap, .agg #[.int .i64 (n : Int), .int .i64 (E 0), .int .i64 (E 1), .int .i64 (E 2), .int .i64 (E 3), .int .i64 (V 0), .int .i64 (V 1), .int .i64 (V 2), .int .i64 (V 3)], .int .i64 (job : Int), undef, .pointer (some ⟨w.heap.size, 0, none⟩), undef, .pointer (some ⟨w.heap.size + 1, 0, none⟩), .int .i64 (i : Int), .pointer (some ⟨g8, 0, none⟩), .slice (some ad) ks.length cap, .int .i64 (ks.length : Int), .int .i64 (i : Int), .bool true, .int .i64 (i : Int), .pointer (some (ad.add (i * 3))), .agg #[.slice (some aj) jl kc, .func (.func ff) #[] caps, .bool tp], .int .i64 (i : Int), .int .i64 (i : Int), .pointer (some ⟨w.heap.size, 1, none⟩), .pointer (some ⟨w.heap.size, 1 + i, none⟩), .int .i64 (E i), .pointer (some ⟨g8, 0, none⟩), .slice (some aj) jl kc, .int .i64 (job : Int), .pointer (some (aj.add (job * 4))), .agg #[.int .i64 jt, .int .i64 jw, .int .i64 jr, .int .i64 jd], .int .i64 (NE i), .pointer (some ⟨w.heap.size, 1, none⟩), .pointer (some ⟨w.heap.size, 1 + i, none⟩), u29, u30, u31, u32, u33, u34, u35, u36, u37, u38, u39, u40, u41, u42, u43, u44, u45, u46, u47, u48, u49, u50, undef, undef, undef, undef, undef] := by
          refine arr_of _ _ hsz fun t ht => ?_
          have ht' : t < 56 := ht
          rcases (by omega : t = 0 ∨ t = 1 ∨ t = 2 ∨ t = 3 ∨ t = 4 ∨ t = 5 ∨ t = 6 ∨ t = 7 ∨ t = 8 ∨ t = 9 ∨ t = 10 ∨ t = 11 ∨ t = 12 ∨ t = 13 ∨ t = 14 ∨ t = 15 ∨ t = 16 ∨ t = 17 ∨ t = 18 ∨ t = 19 ∨ t = 20 ∨ t = 21 ∨ t = 22 ∨ t = 23 ∨ t = 24 ∨ t = 25 ∨ t = 26 ∨ t = 27 ∨ t = 28 ∨ t = 29 ∨ t = 30 ∨ t = 31 ∨ t = 32 ∨ t = 33 ∨ t = 34 ∨ t = 35 ∨ t = 36 ∨ t = 37 ∨ t = 38 ∨ t = 39 ∨ t = 40 ∨ t = 41 ∨ t = 42 ∨ t = 43 ∨ t = 44 ∨ t = 45 ∨ t = 46 ∨ t = 47 ∨ t = 48 ∨ t = 49 ∨ t = 50 ∨ t = 51 ∨ t = 52 ∨ t = 53 ∨ t = 54 ∨ t = 55) with rfl | rfl | rfl | rfl | rfl | rfl | rfl | rfl | rfl | rfl | rfl | rfl | rfl | rfl | rfl | rfl | rfl | rfl | rfl | rfl | rfl | rfl | rfl | rfl | rfl | rfl | rfl | rfl | rfl | rfl | rfl | rfl | rfl | rfl | rfl | rfl | rfl | rfl | rfl | rfl | rfl | rfl | rfl | rfl | rfl | rfl | rfl | rfl | rfl | rfl | rfl | rfl | rfl | rfl | rfl | rfl
          · exact hlow 0 (by kernel_rfl)
          · exact hlow 1 (by kernel_rfl)
          · exact hlow 2 (by kernel_rfl)
          · exact hlow 3 (by kernel_rfl)
          · exact hlow 4 (by kernel_rfl)
          · exact hlow 5 (by kernel_rfl)
          · exact hlow 6 (by kernel_rfl)
          · exact hlow 7 (by kernel_rfl)
          · exact hlow 8 (by kernel_rfl)
          · exact hlow 9 (by kernel_rfl)
          · exact hlow 10 (by kernel_rfl)
          · exact hlow 11 (by kernel_rfl)
          · exact hlow 12 (by kernel_rfl)
          · exact hlow 13 (by kernel_rfl)
          · exact hlow 14 (by kernel_rfl)
          · exact hlow 15 (by kernel_rfl)
          · exact hval 0 _ 16 rfl rfl
          · exact hval 1 _ 17 rfl rfl
          · exact hval 2 _ 18 rfl rfl
          · exact hval 3 _ 19 rfl rfl
          · exact hval 4 _ 20 rfl rfl
          · exact hval 5 _ 21 rfl rfl
          · exact hval 6 _ 22 rfl rfl
          · exact hval 7 _ 23 rfl rfl
          · exact hval 8 _ 24 rfl rfl
          · exact hval 9 _ 25 rfl rfl
          · exact hval 10 _ 26 rfl rfl
          · exact hval 11 _ 27 rfl rfl
          · exact hval 12 _ 28 rfl rfl
          · exact hlow 29 (by kernel_rfl)
          · exact hlow 30 (by kernel_rfl)
          · exact hlow 31 (by kernel_rfl)
          · exact hlow 32 (by kernel_rfl)
          · exact hlow 33 (by kernel_rfl)
          · exact hlow 34 (by kernel_rfl)
          · exact hlow 35 (by kernel_rfl)
          · exact hlow 36 (by kernel_rfl)
          · exact hlow 37 (by kernel_rfl)
          · exact hlow 38 (by kernel_rfl)
          · exact hlow 39 (by kernel_rfl)
          · exact hlow 40 (by kernel_rfl)
          · exact hlow 41 (by kernel_rfl)
          · exact hlow 42 (by kernel_rfl)
          · exact hlow 43 (by kernel_rfl)
          · exact hlow 44 (by kernel_rfl)
          · exact hlow 45 (by kernel_rfl)
          · exact hlow 46 (by kernel_rfl)
          · exact hlow 47 (by kernel_rfl)
          · exact hlow 48 (by kernel_rfl)
          · exact hlow 49 (by kernel_rfl)
          · exact hlow 50 (by kernel_rfl)
          · exact hlow 51 (by kernel_rfl)
          · exact hlow 52 (by kernel_rfl)
          · exact hlow 53 (by kernel_rfl)
          · exact hlow 54 (by kernel_rfl)
          · exact hlow 55 (by kernel_rfl)
        subst ht
        have HF := Lib.hid (And.intro hS.1 (hS.2.2 (hall 13 (by decide))))
        clear hlow hval hsz hall hS
        rename World => W5
        have H4 := HF
        clear HF
        go_wp2
        have kb : ∀ {X Y : World}, (Below w.heap.size w X ∧ BlockIs X (w.heap.size + 1) 147 #[.int .i64 0, .int .i64 0, .int .i64 0, .int .i64 0, .int .i64 0, .int .i64 0, .int .i64 0, .int .i64 0, .int .i64 0] ∧ BlockIs X g8 144 #[.slice (some aj) jl kc, .func (.func ff) #[] caps, .bool tp]) → Below X.heap.size X Y → (Below w.heap.size w Y ∧ BlockIs Y (w.heap.size + 1) 147 #[.int .i64 0, .int .i64 0, .int .i64 0, .int .i64 0, .int .i64 0, .int .i64 0, .int .i64 0, .int .i64 0, .int .i64 0] ∧ BlockIs Y g8 144 #[.slice (some aj) jl kc, .func (.func ff) #[] caps, .bool tp]) := fun h hb => ⟨h.1.trans (hb.mono h.1.size), h.2.1.below hb, h.2.2.below hb⟩
        have ob : ∀ {X Y : World}, (BlockIs X w.heap.size 147 (stA n (mixF (i + 1) NE E) (mixF i NV V))) → Below X.heap.size X Y → (BlockIs Y w.heap.size 147 (stA n (mixF (i + 1) NE E) (mixF i NV V))) := fun h hb => h.below hb
        have nb : ∀ {X Y : World}, (BlockIs X w.heap.size 147 (stA n (mixF (i + 1) NE E) (mixF (i + 1) NV V))) → Below X.heap.size X Y → (BlockIs Y w.heap.size 147 (stA n (mixF (i + 1) NE E) (mixF (i + 1) NV V))) := fun h hb => h.below hb
        refine wp_region_detY (by kernel_rfl) (fun L w' => (Below w.heap.size w w' ∧ BlockIs w' (w.heap.size + 1) 147 #[.int .i64 0, .int .i64 0, .int .i64 0, .int .i64 0, .int .i64 0, .int .i64 0, .int .i64 0, .int .i64 0, .int .i64 0] ∧ BlockIs w' g8 144 #[.slice (some aj) jl kc, .func (.func ff) #[] caps, .bool tp]) ∧ (L.getD 21 true = false → BlockIs w' w.heap.size 147 (stA n (mixF (i + 1) NE E) (mixF i NV V))) ∧ (L.getD 21 true = true → BlockIs w' w.heap.size 147 (stA n (mixF (i + 1) NE E) (mixF (i + 1) NV V)))) (fun kk => (#[.int .i64 (i : Int), .pointer (some ⟨g8, 1, none⟩), .agg #[.func (.func ff) #[] caps, .bool tp], .pointer (some ⟨w.heap.size, 0, none⟩), .int .i64 (n : Int), .int .i64 (i : Int), .pointer (some ⟨w.heap.size, 5, none⟩), .pointer (some ⟨w.heap.size, 5 + i, none⟩), .int .i64 (V i), .pointer (some ⟨g8, 0, none⟩), .slice (some aj) jl kc, .int .i64 (job : Int), .pointer (some (aj.add (job * 4))), .agg #[.int .i64 jt, .int .i64 jw, .int .i64 jr, .int .i64 jd], .int .i64 (i : Int), .pointer (some ⟨w.heap.size, 1, none⟩), .pointer (some ⟨w.heap.size, 1 + i, none⟩), .int .i64 (NE i), .int .i64 (NV i), .pointer (some ⟨w.heap.size, 5, none⟩), .pointer (some ⟨w.heap.size, 5 + i, none⟩), undef] : Array Value).getD kk undef) (by kernel_rfl) (by kernel_rfl) ⟨⟨H4.out.1.1.drew, H4.out.1.2.1.drew, H4.out.1.2.2.drew⟩, fun _ => H4.out.2.drew, fun h => by cases h⟩ ?_ ?_
        · intro L tm w' hall hS hsz hlow hval
          have ht : tm = #[.slice (some ad) ks.length cap, .agg #[.int .i64 (n : Int), .int .i64 (E 0), .int .i64 (E 1), .int .i64 (E 2), .int .i64 (E 3), .int .i64 (V 0), .int .i64 (V 1), .int .i64 (V 2), .int .i64 (V 3)], .int .i64 (job : Int), undef, .pointer (some ⟨w.heap.size, 0, none⟩), undef, .pointer (some ⟨w.heap.size + 1, 0, none⟩), .int .i64 (i : Int), .pointer (some ⟨g8, 0, none⟩), .slice (some ad) ks.length cap, .int .i64 (ks.length : Int), .int .i64 (i : Int), .bool true, .int .i64 (i : Int), .pointer (some (ad.add (i * 3))), .agg #[.slice (some aj) jl kc, .func (.func ff) #[] caps, .bool tp], .int .i64 (i : Int), .int .i64 (i : Int), .pointer (some ⟨w.heap.size, 1, none⟩), .pointer (some ⟨w.heap.size, 1 + i, none⟩), .int .i64 (E i), .pointer (some ⟨g8, 0, none⟩), .slice (some aj) jl kc, .int .i64 (job : Int), .pointer (some (aj.add (job * 4))), .agg #[.int .i64 jt, .int .i64 jw, .int .i64 jr, .int .i64 jd], .int .i64 (NE i), .pointer (some ⟨w.heap.size, 1, none⟩), .pointer (some ⟨w.heap.size, 1 + i, none⟩), .int .i64 (i : Int), .pointer (some ⟨g8, 1, none⟩), .agg #[.func (.func ff) #[] caps, .bool tp], .pointer (some ⟨w.heap.size, 0, none⟩), .int .i64 (n : Int), .int .i64 (i : Int), .pointer (some ⟨w.heap.size, 5, none⟩), .pointer (some ⟨w.heap.size, 5 + i, none⟩), .int .i64 (V i), .pointer (some ⟨g8, 0, none⟩), .slice (some aj) jl kc, .int .i64 (job : Int), .pointer (some (aj.add (job * 4))), .agg #[.int .i64 jt, .int .i64 jw, .int .i64 jr, .int .i64 jd], .int .i64 (i : Int), .pointer (some ⟨w.heap.size, 1, none⟩), .pointer (some ⟨w.heap.size, 1 + i, none⟩), .int .i64 (NE i), .int .i64 (NV i), .pointer (some ⟨w.heap.size, 5, none⟩), .pointer (some ⟨w.heap.size, 5 + i, none⟩), u50, undef, undef, undef, undef, undef] := by
            refine arr_of _ _ hsz fun t ht => ?_
            have ht' : t < 56 := ht
            rcases (by omega : t = 0 ∨ t = 1 ∨ t = 2 ∨ t = 3 ∨ t = 4 ∨ t = 5 ∨ t = 6 ∨ t = 7 ∨ t = 8 ∨ t = 9 ∨ t = 10 ∨ t = 11 ∨ t = 12 ∨ t = 13 ∨ t = 14 ∨ t = 15 ∨ t = 16 ∨ t = 17 ∨ t = 18 ∨ t = 19 ∨ t = 20 ∨ t = 21 ∨ t = 22 ∨ t = 23 ∨ t = 24 ∨ t = 25 ∨ t = 26 ∨ t = 27 ∨ t = 28 ∨ t = 29 ∨ t = 30 ∨ t = 31 ∨ t = 32 ∨ t = 33 ∨ t = 34 ∨ t = 35 ∨ t = 36 ∨ t = 37 ∨ t = 38 ∨ t = 39 ∨ t = 40 ∨ t = 41 ∨ t = 42 ∨ t = 43 ∨ t = 44 ∨ t = 45 ∨ t = 46 ∨ t = 47 ∨ t = 48 ∨ t = 49 ∨ t = 50 ∨ t = 51 ∨ t = 52 ∨ t = 53 ∨ t = 54 ∨ t = 55) with rfl | rfl | rfl | rfl | rfl | rfl | rfl | rfl | rfl | rfl | rfl | rfl | rfl | rfl | rfl | rfl | rfl | rfl | rfl | rfl | rfl | rfl | rfl | rfl | rfl | rfl | rfl | rfl | rfl | rfl | rfl | rfl | rfl | rfl | rfl | rfl | rfl | rfl | rfl | rfl | rfl | rfl | rfl | rfl | rfl | rfl | rfl | rfl | rfl | rfl | rfl | rfl | rfl | rfl | rfl | rfl
            · exact hlow 0 (by kernel_rfl)
            · exact hlow 1 (by kernel_rfl)
            · exact hlow 2 (by kernel_rfl)
            · exact hlow 3 (by kernel_rfl)
            · exact hlow 4 (by kernel_rfl)
            · exact hlow 5 (by kernel_rfl)
            · exact hlow 6 (by kernel_rfl)
            · exact hlow 7 (by kernel_rfl)
            · exact hlow 8 (by kernel_rfl)
            · exact hlow 9 (by kernel_rfl)
            · exact hlow 10 (by kernel_rfl)
            · exact hlow 11 (by kernel_rfl)
            · exact hlow 12 (by kernel_rfl)
            · exact hlow 13 (by kernel_rfl)
            · exact hlow 14 (by kernel_rfl)
            · exact hlow 15 (by kernel_rfl)
            · exact hlow 16 (by kernel_rfl)
            · exact hlow 17 (by kernel_rfl)
            · exact hlow 18 (by kernel_rfl)
            · exact hlow 19 (by kernel_rfl)
            · exact hlow 20 (by kernel_rfl)
            · exact hlow 21 (by kernel_rfl)
            · exact hlow 22 (by kernel_rfl)
            · exact hlow 23 (by kernel_rfl)
            · exact hlow 24 (by kernel_rfl)
            · exact hlow 25 (by kernel_rfl)
            · exact hlow 26 (by kernel_rfl)
            · exact hlow 27 (by kernel_rfl)
            · exact hlow 28 (by kernel_rfl)
            · exact hval 0 _ 29 rfl rfl
            · exact hval 1 _ 30 rfl rfl
            · exact hval 2 _ 31 rfl rfl
            · exact hval 3 _ 32 rfl rfl
            · exact hval 4 _ 33 rfl rfl
            · exact hval 5 _ 34 rfl rfl
            · exact hval 6 _ 35 rfl rfl
            · exact hval 7 _ 36 rfl rfl
            · exact hval 8 _ 37 rfl rfl
            · exact hval 9 _ 38 rfl rfl
            · exact hval 10 _ 39 rfl rfl
            · exact hval 11 _ 40 rfl rfl
            · exact hval 12 _ 41 rfl rfl
            · exact hval 13 _ 42 rfl rfl
            · exact hval 14 _ 43 rfl rfl
            · exact hval 15 _ 44 rfl rfl
            · exact hval 16 _ 45 rfl rfl
            · exact hval 17 _ 46 rfl rfl
            · exact hval 18 _ 47 rfl rfl
            · exact hval 19 _ 48 rfl rfl
            · exact hval 20 _ 49 rfl rfl
            · exact hlow 50 (by kernel_rfl)
            · exact hlow 51 (by kernel_rfl)
            · exact hlow 52 (by kernel_rfl)
            · exact hlow 53 (by kernel_rfl)
            · exact hlow 54 (by kernel_rfl)
            · exact hlow 55 (by kernel_rfl)
          subst ht
          have HF := Lib.hid (And.intro hS.1 (hS.2.2 (hall 21 (by decide))))
          clear hlow hval hsz hall hS
          go_wp2
          go_roundw
          case rel => exact ⟨i + 1, by omega, by go_num, HF.out.2, HF.out.1.2.1, HF.out.1.1⟩
          case measure => simp [intOf]; omega
        · intro L ac w' q op hLs hop hLi hLd hLn ⟨hS0, hS1, hS2⟩ hlow hdep _
          have hq : q < 22 := (Array.getElem?_eq_some_iff.1 hop).1
          have K : ∀ {WK : World} {q : Nat}, q ≠ 21 → (Below w.heap.size w WK ∧ BlockIs WK (w.heap.size + 1) 147 #[.int .i64 0, .int .i64 0, .int .i64 0, .int .i64 0, .int .i64 0, .int .i64 0, .int .i64 0, .int .i64 0, .int .i64 0] ∧ BlockIs WK g8 144 #[.slice (some aj) jl kc, .func (.func ff) #[] caps, .bool tp]) → (L.getD 21 true = false → BlockIs WK w.heap.size 147 (stA n (mixF (i + 1) NE E) (mixF i NV V))) → (L.getD 21 true = true → BlockIs WK w.heap.size 147 (stA n (mixF (i + 1) NE E) (mixF (i + 1) NV V))) → (Below w.heap.size w WK ∧ BlockIs WK (w.heap.size + 1) 147 #[.int .i64 0, .int .i64 0, .int .i64 0, .int .i64 0, .int .i64 0, .int .i64 0, .int .i64 0, .int .i64 0, .int .i64 0] ∧ BlockIs WK g8 144 #[.slice (some aj) jl kc, .func (.func ff) #[] caps, .bool tp]) ∧ ((L.setIfInBounds q true).getD 21 true = false → BlockIs WK w.heap.size 147 (stA n (mixF (i + 1) NE E) (mixF i NV V))) ∧ ((L.setIfInBounds q true).getD 21 true = true → BlockIs WK w.heap.size 147 (stA n (mixF (i + 1) NE E) (mixF (i + 1) NV V))) := by
            intro WK q h9 ka kb2 kc
            rw [getD_set_true, if_neg (fun h => h9 h.1)]
            exact ⟨ka, kb2, kc⟩
          rcases (by omega : q = 0 ∨ q = 1 ∨ q = 2 ∨ q = 3 ∨ q = 4 ∨ q = 5 ∨ q = 6 ∨ q = 7 ∨ q = 8 ∨ q = 9 ∨ q = 10 ∨ q = 11 ∨ q = 12 ∨ q = 13 ∨ q = 14 ∨ q = 15 ∨ q = 16 ∨ q = 17 ∨ q = 18 ∨ q = 19 ∨ q = 20 ∨ q = 21) with rfl | rfl | rfl | rfl | rfl | rfl | rfl | rfl | rfl | rfl | rfl | rfl | rfl | rfl | rfl | rfl | rfl | rfl | rfl | rfl | rfl | rfl
          · obtain rfl := Option.some.inj hop
            have e7 : ac.tmps[7]?.getD undef = .int .i64 (i : Int) := (Array.getD_eq_getD_getElem? ..).symm.trans (hlow 7 (by kernel_rfl))
            exact ⟨wanted_free rfl, .inl (.inl ⟨w', by simp [execOp, Act.eval, e7, go_sem], K (by decide) hS0 hS1 hS2⟩)⟩
          · obtain rfl := Option.some.inj hop
            have e8 : ac.tmps[8]?.getD undef = .pointer (some ⟨g8, 0, none⟩) := (Array.getD_eq_getD_getElem? ..).symm.trans (hlow 8 (by kernel_rfl))
            exact ⟨wanted_free rfl, .inl (.inl ⟨w', by simp [execOp, Act.eval, e8, go_sem], K (by decide) hS0 hS1 hS2⟩)⟩
          · obtain rfl := Option.some.inj hop
            have e30 : ac.tmps[30]?.getD undef = .pointer (some ⟨g8, 1, none⟩) := (Array.getD_eq_getD_getElem? ..).symm.trans (hdep 1 _ 30 (by kernel_rfl) rfl rfl)
            have hcc := hS0.2.2.cell 1
            simp only [List.getElem?_toArray, List.getElem?_cons_zero, List.getElem?_cons_succ] at hcc
            have hcd := hS0.2.2.cell 2
            simp only [List.getElem?_toArray, List.getElem?_cons_zero, List.getElem?_cons_succ] at hcd
            exact ⟨wanted_free rfl, .inl (.inl ⟨w', by simp [execOp, Act.eval, e30, hcc, hcd, go_sem], K (by decide) hS0 hS1 hS2⟩)⟩
          · obtain rfl := Option.some.inj hop
            have e4 : ac.tmps[4]?.getD undef = .pointer (some ⟨w.heap.size, 0, none⟩) := (Array.getD_eq_getD_getElem? ..).symm.trans (hlow 4 (by kernel_rfl))
            exact ⟨wanted_free rfl, .inl (.inl ⟨w', by simp [execOp, Act.eval, e4, go_sem], K (by decide) hS0 hS1 hS2⟩)⟩
          · obtain rfl := Option.some.inj hop
            have e32 : ac.tmps[32]?.getD undef = .pointer (some ⟨w.heap.size, 0, none⟩) := (Array.getD_eq_getD_getElem? ..).symm.trans (hdep 3 _ 32 (by kernel_rfl) rfl rfl)
            have hcc := ((hS1 (hLn 21 (by kernel_rfl))).cell 0).trans (show _ = some (Value.int .i64 (n : Int)) from rfl)
            exact ⟨wanted_free rfl, .inl (.inl ⟨w', by simp [execOp, Act.eval, e32, hcc, go_sem], K (by decide) hS0 hS1 hS2⟩)⟩
          · obtain rfl := Option.some.inj hop
            have e7 : ac.tmps[7]?.getD undef = .int .i64 (i : Int) := (Array.getD_eq_getD_getElem? ..).symm.trans (hlow 7 (by kernel_rfl))
            exact ⟨wanted_free rfl, .inl (.inl ⟨w', by simp [execOp, Act.eval, e7, go_sem], K (by decide) hS0 hS1 hS2⟩)⟩
          · obtain rfl := Option.some.inj hop
            have e4 : ac.tmps[4]?.getD undef = .pointer (some ⟨w.heap.size, 0, none⟩) := (Array.getD_eq_getD_getElem? ..).symm.trans (hlow 4 (by kernel_rfl))
            exact ⟨wanted_free rfl, .inl (.inl ⟨w', by simp [execOp, Act.eval, e4, go_sem], K (by decide) hS0 hS1 hS2⟩)⟩
          · obtain rfl := Option.some.inj hop
            have e35 : ac.tmps[35]?.getD undef = .pointer (some ⟨w.heap.size, 5, none⟩) := (Array.getD_eq_getD_getElem? ..).symm.trans (hdep 6 _ 35 (by kernel_rfl) rfl rfl)
            have e34 : ac.tmps[34]?.getD undef = .int .i64 (i : Int) := (Array.getD_eq_getD_getElem? ..).symm.trans (hdep 5 _ 34 (by kernel_rfl) rfl rfl)
            exact ⟨wanted_free rfl, .inl (.inl ⟨w', by simp [execOp, Act.eval, e35, e34, hi0, hi4I, go_sem], K (by decide) hS0 hS1 hS2⟩)⟩
          · obtain rfl := Option.some.inj hop
            have e36 : ac.tmps[36]?.getD undef = .pointer (some ⟨w.heap.size, 5 + i, none⟩) := (Array.getD_eq_getD_getElem? ..).symm.trans (hdep 7 _ 36 (by kernel_rfl) rfl rfl)
            have hcc := ((hS1 (hLn 21 (by kernel_rfl))).cell (5 + i)).trans (stA_v _ _ _ i hi4)
            rw [HM.out.2.1] at hcc
            exact ⟨wanted_free rfl, .inl (.inl ⟨w', by simp [execOp, Act.eval, e36, hcc, go_sem], K (by decide) hS0 hS1 hS2⟩)⟩
          · obtain rfl := Option.some.inj hop
            have e8 : ac.tmps[8]?.getD undef = .pointer (some ⟨g8, 0, none⟩) := (Array.getD_eq_getD_getElem? ..).symm.trans (hlow 8 (by kernel_rfl))
            exact ⟨wanted_free rfl, .inl (.inl ⟨w', by simp [execOp, Act.eval, e8, go_sem], K (by decide) hS0 hS1 hS2⟩)⟩
          · obtain rfl := Option.some.inj hop
            have e38 : ac.tmps[38]?.getD undef = .pointer (some ⟨g8, 0, none⟩) := (Array.getD_eq_getD_getElem? ..).symm.trans (hdep 9 _ 38 (by kernel_rfl) rfl rfl)
            have hcc := hS0.2.2.cell 0
            simp only [List.getElem?_toArray, List.getElem?_cons_zero, List.getElem?_cons_succ] at hcc
            exact ⟨wanted_free rfl, .inl (.inl ⟨w', by simp [execOp, Act.eval, e38, hcc, go_sem], K (by decide) hS0 hS1 hS2⟩)⟩
          · obtain rfl := Option.some.inj hop
            have e2 : ac.tmps[2]?.getD undef = .int .i64 (job : Int) := (Array.getD_eq_getD_getElem? ..).symm.trans (hlow 2 (by kernel_rfl))
            exact ⟨wanted_free rfl, .inl (.inl ⟨w', by simp [execOp, Act.eval, e2, go_sem], K (by decide) hS0 hS1 hS2⟩)⟩
          · obtain rfl := Option.some.inj hop
            have e39 : ac.tmps[39]?.getD undef = .slice (some aj) jl kc := (Array.getD_eq_getD_getElem? ..).symm.trans (hdep 10 _ 39 (by kernel_rfl) rfl rfl)
            have e40 : ac.tmps[40]?.getD undef = .int .i64 (job : Int) := (Array.getD_eq_getD_getElem? ..).symm.trans (hdep 11 _ 40 (by kernel_rfl) rfl rfl)
            exact ⟨wanted_free rfl, .inl (.inl ⟨w', by simp [execOp, Act.eval, e39, e40, hj0I, hjI, go_sem], K (by decide) hS0 hS1 hS2⟩)⟩
          · obtain rfl := Option.some.inj hop
            have e41 : ac.tmps[41]?.getD undef = .pointer (some (aj.add (job * 4))) := (Array.getD_eq_getD_getElem? ..).symm.trans (hdep 12 _ 41 (by kernel_rfl) rfl rfl)
            obtain ⟨q0, q1, q2, q3⟩ := HJ.out w' hS0.1
            exact ⟨wanted_free rfl, .inl (.inl ⟨w', by simp [execOp, Act.eval, e41, q0, q1, q2, q3, go_sem], K (by decide) hS0 hS1 hS2⟩)⟩
          · obtain rfl := Option.some.inj hop
            have e7 : ac.tmps[7]?.getD undef = .int .i64 (i : Int) := (Array.getD_eq_getD_getElem? ..).symm.trans (hlow 7 (by kernel_rfl))
            exact ⟨wanted_free rfl, .inl (.inl ⟨w', by simp [execOp, Act.eval, e7, go_sem], K (by decide) hS0 hS1 hS2⟩)⟩
          · obtain rfl := Option.some.inj hop
            have e4 : ac.tmps[4]?.getD undef = .pointer (some ⟨w.heap.size, 0, none⟩) := (Array.getD_eq_getD_getElem? ..).symm.trans (hlow 4 (by kernel_rfl))
            exact ⟨wanted_free rfl, .inl (.inl ⟨w', by simp [execOp, Act.eval, e4, go_sem], K (by decide) hS0 hS1 hS2⟩)⟩
          · obtain rfl := Option.some.inj hop
            have e44 : ac.tmps[44]?.getD undef = .pointer (some ⟨w.heap.size, 1, none⟩) := (Array.getD_eq_getD_getElem? ..).symm.trans (hdep 15 _ 44 (by kernel_rfl) rfl rfl)
            have e43 : ac.tmps[43]?.getD undef = .int .i64 (i : Int) := (Array.getD_eq_getD_getElem? ..).symm.trans (hdep 14 _ 43 (by kernel_rfl) rfl rfl)
            exact ⟨wanted_free rfl, .inl (.inl ⟨w', by simp [execOp, Act.eval, e44, e43, hi0, hi4I, go_sem], K (by decide) hS0 hS1 hS2⟩)⟩
          · obtain rfl := Option.some.inj hop
            have e45 : ac.tmps[45]?.getD undef = .pointer (some ⟨w.heap.size, 1 + i, none⟩) := (Array.getD_eq_getD_getElem? ..).symm.trans (hdep 16 _ 45 (by kernel_rfl) rfl rfl)
            have hcc := ((hS1 (hLn 21 (by kernel_rfl))).cell (1 + i)).trans (stA_e _ _ _ i hi4)
            rw [show mixF (i + 1) NE E i = NE i by unfold mixF; rw [if_pos (by omega)]] at hcc
            exact ⟨wanted_free rfl, .inl (.inl ⟨w', by simp [execOp, Act.eval, e45, hcc, go_sem], K (by decide) hS0 hS1 hS2⟩)⟩
          · obtain rfl := Option.some.inj hop
            have e31 : ac.tmps[31]?.getD undef = .agg #[.func (.func ff) #[] caps, .bool tp] := (Array.getD_eq_getD_getElem? ..).symm.trans (hdep 2 _ 31 (by kernel_rfl) rfl rfl)
            have e33 : ac.tmps[33]?.getD undef = .int .i64 (n : Int) := (Array.getD_eq_getD_getElem? ..).symm.trans (hdep 4 _ 33 (by kernel_rfl) rfl rfl)
            have e37 : ac.tmps[37]?.getD undef = .int .i64 (V i) := (Array.getD_eq_getD_getElem? ..).symm.trans (hdep 8 _ 37 (by kernel_rfl) rfl rfl)
            have e42 : ac.tmps[42]?.getD undef = .agg #[.int .i64 jt, .int .i64 jw, .int .i64 jr, .int .i64 jd] := (Array.getD_eq_getD_getElem? ..).symm.trans (hdep 13 _ 42 (by kernel_rfl) rfl rfl)
            have e46 : ac.tmps[46]?.getD undef = .int .i64 (NE i) := (Array.getD_eq_getD_getElem? ..).symm.trans (hdep 17 _ 46 (by kernel_rfl) rfl rfl)
            refine ⟨wanted_free rfl, .inl (.inr ⟨128, #[.agg #[.func (.func ff) #[] caps, .bool tp], .int .i64 (n : Int), .int .i64 (V i), .agg #[.int .i64 jt, .int .i64 jw, .int .i64 jr, .int .i64 jd], .int .i64 (NE i)], by simp [execOp, Act.eval, e31, e33, e37, e42, e46, go_sem], (hXC.out w' hS0.1).mono ?_⟩)⟩
            rintro e w2 ⟨rfl, hb⟩
            exact ⟨rfl, K (by decide) (kb hS0 hb) (fun h => ob (hS1 h) hb) (fun h => nb (hS2 h) hb)⟩
          · obtain rfl := Option.some.inj hop
            have e4 : ac.tmps[4]?.getD undef = .pointer (some ⟨w.heap.size, 0, none⟩) := (Array.getD_eq_getD_getElem? ..).symm.trans (hlow 4 (by kernel_rfl))
            exact ⟨wanted_free rfl, .inl (.inl ⟨w', by simp [execOp, Act.eval, e4, go_sem], K (by decide) hS0 hS1 hS2⟩)⟩
          · obtain rfl := Option.some.inj hop
            have e48 : ac.tmps[48]?.getD undef = .pointer (some ⟨w.heap.size, 5, none⟩) := (Array.getD_eq_getD_getElem? ..).symm.trans (hdep 19 _ 48 (by kernel_rfl) rfl rfl)
            have e29 : ac.tmps[29]?.getD undef = .int .i64 (i : Int) := (Array.getD_eq_getD_getElem? ..).symm.trans (hdep 0 _ 29 (by kernel_rfl) rfl rfl)
            exact ⟨wanted_free rfl, .inl (.inl ⟨w', by simp [execOp, Act.eval, e48, e29, hi0, hi4I, go_sem], K (by decide) hS0 hS1 hS2⟩)⟩
          · obtain rfl := Option.some.inj hop
            have e49 : ac.tmps[49]?.getD undef = .pointer (some ⟨w.heap.size, 5 + i, none⟩) := (Array.getD_eq_getD_getElem? ..).symm.trans (hdep 20 _ 49 (by kernel_rfl) rfl rfl)
            have e47 : ac.tmps[47]?.getD undef = .int .i64 (NV i) := (Array.getD_eq_getD_getElem? ..).symm.trans (hdep 18 _ 47 (by kernel_rfl) rfl rfl)
            have hO := hS1 hLi
            have hs0 := (hO.cell (5 + i)).trans (stA_v _ _ _ i hi4)
            have hs1 := hO.frozen (5 + i)
            refine ⟨wanted_free rfl, .inr ⟨w'.setCell ⟨w.heap.size, 5 + i, none⟩ (.int .i64 (NV i)), rfl, by simp [execOp, Act.eval, e49, e47, hs0, hs1, go_sem], ?_⟩⟩
            refine ⟨⟨hS0.1.setCell (p := ⟨w.heap.size, 5 + i, none⟩) (Nat.le_refl _) _, away_cell hS0.2.1 (by omega) _ _, away_cell hS0.2.2 (by omega) _ _⟩, fun h => ?_, fun _ => (by have h := hO.set (5 + i) (.int .i64 (NV i)); rw [stA_setV _ _ _ i _ hi4, HM.out.2.2] at h; exact h)⟩
            rw [getD_set_true, if_pos ⟨rfl, by rw [hLs]; decide⟩] at h
            cases h
      · intro L ac w' q op hLs hop hLi hLd hLn ⟨hS0, hS1, hS2⟩ hlow hdep _
        have hq : q < 14 := (Array.getElem?_eq_some_iff.1 hop).1
        have K : ∀ {WK : World} {q : Nat}, q ≠ 13 → (Below w.heap.size w WK ∧ BlockIs WK (w.heap.size + 1) 147 #[.int .i64 0, .int .i64 0, .int .i64 0, .int .i64 0, .int .i64 0, .int .i64 0, .int .i64 0, .int .i64 0, .int .i64 0] ∧ BlockIs WK g8 144 #[.slice (some aj) jl kc, .func (.func ff) #[] caps, .bool tp]) → (L.getD 13 true = false → BlockIs WK w.heap.size 147 (stA n (mixF i NE E) (mixF i NV V))) → (L.getD 13 true = true → BlockIs WK w.heap.size 147 (stA n (mixF (i + 1) NE E) (mixF i NV V))) → (Below w.heap.size w WK ∧ BlockIs WK (w.heap.size + 1) 147 #[.int .i64 0, .int .i64 0, .int .i64 0, .int .i64 0, .int .i64 0, .int .i64 0, .int .i64 0, .int .i64 0, .int .i64 0] ∧ BlockIs WK g8 144 #[.slice (some aj) jl kc, .func (.func ff) #[] caps, .bool tp]) ∧ ((L.setIfInBounds q true).getD 13 true = false → BlockIs WK w.heap.size 147 (stA n (mixF i NE E) (mixF i NV V))) ∧ ((L.setIfInBounds q true).getD 13 true = true → BlockIs WK w.heap.size 147 (stA n (mixF (i + 1) NE E) (mixF i NV V))) := by
          intro WK q h9 ka kb2 kc
          rw [getD_set_true, if_neg (fun h => h9 h.1)]
          exact ⟨ka, kb2, kc⟩
        rcases (by omega : q = 0 ∨ q = 1 ∨ q = 2 ∨ q = 3 ∨ q = 4 ∨ q = 5 ∨ q = 6 ∨ q = 7 ∨ q = 8 ∨ q = 9 ∨ q = 10 ∨ q = 11 ∨ q = 12 ∨ q = 13) with rfl | rfl | rfl | rfl | rfl | rfl | rfl | rfl | rfl | rfl | rfl | rfl | rfl | rfl
        · obtain rfl := Option.some.inj hop
          have e7 : ac.tmps[7]?.getD undef = .int .i64 (i : Int) := (Array.getD_eq_getD_getElem? ..).symm.trans (hlow 7 (by kernel_rfl))
          exact ⟨wanted_free rfl, .inl (.inl ⟨w', by simp [execOp, Act.eval, e7, go_sem], K (by decide) hS0 hS1 hS2⟩)⟩
        · obtain rfl := Option.some.inj hop
          have e7 : ac.tmps[7]?.getD undef = .int .i64 (i : Int) := (Array.getD_eq_getD_getElem? ..).symm.trans (hlow 7 (by kernel_rfl))
          exact ⟨wanted_free rfl, .inl (.inl ⟨w', by simp [execOp, Act.eval, e7, go_sem], K (by decide) hS0 hS1 hS2⟩)⟩
        · obtain rfl := Option.some.inj hop
          have e4 : ac.tmps[4]?.getD undef = .pointer (some ⟨w.heap.size, 0, none⟩) := (Array.getD_eq_getD_getElem? ..).symm.trans (hlow 4 (by kernel_rfl))
          exact ⟨wanted_free rfl, .inl (.inl ⟨w', by simp [execOp, Act.eval, e4, go_sem], K (by decide) hS0 hS1 hS2⟩)⟩
        · obtain rfl := Option.some.inj hop
          have e18 : ac.tmps[18]?.getD undef = .pointer (some ⟨w.heap.size, 1, none⟩) := (Array.getD_eq_getD_getElem? ..).symm.trans (hdep 2 _ 18 (by kernel_rfl) rfl rfl)
          have e17 : ac.tmps[17]?.getD undef = .int .i64 (i : Int) := (Array.getD_eq_getD_getElem? ..).symm.trans (hdep 1 _ 17 (by kernel_rfl) rfl rfl)
          exact ⟨wanted_free rfl, .inl (.inl ⟨w', by simp [execOp, Act.eval, e18, e17, hi0, hi4I, go_sem], K (by decide) hS0 hS1 hS2⟩)⟩
        · obtain rfl := Option.some.inj hop
          have e19 : ac.tmps[19]?.getD undef = .pointer (some ⟨w.heap.size, 1 + i, none⟩) := (Array.getD_eq_getD_getElem? ..).symm.trans (hdep 3 _ 19 (by kernel_rfl) rfl rfl)
          have hcc := ((hS1 (hLn 13 (by kernel_rfl))).cell (1 + i)).trans (stA_e _ _ _ i hi4)
          rw [HM.out.1.1] at hcc
          exact ⟨wanted_free rfl, .inl (.inl ⟨w', by simp [execOp, Act.eval, e19, hcc, go_sem], K (by decide) hS0 hS1 hS2⟩)⟩
        · obtain rfl := Option.some.inj hop
          have e8 : ac.tmps[8]?.getD undef = .pointer (some ⟨g8, 0, none⟩) := (Array.getD_eq_getD_getElem? ..).symm.trans (hlow 8 (by kernel_rfl))
          exact ⟨wanted_free rfl, .inl (.inl ⟨w', by simp [execOp, Act.eval, e8, go_sem], K (by decide) hS0 hS1 hS2⟩)⟩
        · obtain rfl := Option.some.inj hop
          have e21 : ac.tmps[21]?.getD undef = .pointer (some ⟨g8, 0, none⟩) := (Array.getD_eq_getD_getElem? ..).symm.trans (hdep 5 _ 21 (by kernel_rfl) rfl rfl)
          have hcc := hS0.2.2.cell 0
          simp only [List.getElem?_toArray, List.getElem?_cons_zero, List.getElem?_cons_succ] at hcc
          exact ⟨wanted_free rfl, .inl (.inl ⟨w', by simp [execOp, Act.eval, e21, hcc, go_sem], K (by decide) hS0 hS1 hS2⟩)⟩
        · obtain rfl := Option.some.inj hop
          have e2 : ac.tmps[2]?.getD undef = .int .i64 (job : Int) := (Array.getD_eq_getD_getElem? ..).symm.trans (hlow 2 (by kernel_rfl))
          exact ⟨wanted_free rfl, .inl (.inl ⟨w', by simp [execOp, Act.eval, e2, go_sem], K (by decide) hS0 hS1 hS2⟩)⟩
        · obtain rfl := Option.some.inj hop
          have e22 : ac.tmps[22]?.getD undef = .slice (some aj) jl kc := (Array.getD_eq_getD_getElem? ..).symm.trans (hdep 6 _ 22 (by kernel_rfl) rfl rfl)
          have e23 : ac.tmps[23]?.getD undef = .int .i64 (job : Int) := (Array.getD_eq_getD_getElem? ..).symm.trans (hdep 7 _ 23 (by kernel_rfl) rfl rfl)
          exact ⟨wanted_free rfl, .inl (.inl ⟨w', by simp [execOp, Act.eval, e22, e23, hj0I, hjI, go_sem], K (by decide) hS0 hS1 hS2⟩)⟩
        · obtain rfl := Option.some.inj hop
          have e24 : ac.tmps[24]?.getD undef = .pointer (some (aj.add (job * 4))) := (Array.getD_eq_getD_getElem? ..).symm.trans (hdep 8 _ 24 (by kernel_rfl) rfl rfl)
          obtain ⟨q0, q1, q2, q3⟩ := HJ.out w' hS0.1
          exact ⟨wanted_free rfl, .inl (.inl ⟨w', by simp [execOp, Act.eval, e24, q0, q1, q2, q3, go_sem], K (by decide) hS0 hS1 hS2⟩)⟩
        · obtain rfl := Option.some.inj hop
          have e20 : ac.tmps[20]?.getD undef = .int .i64 (E i) := (Array.getD_eq_getD_getElem? ..).symm.trans (hdep 4 _ 20 (by kernel_rfl) rfl rfl)
          have e25 : ac.tmps[25]?.getD undef = .agg #[.int .i64 jt, .int .i64 jw, .int .i64 jr, .int .i64 jd] := (Array.getD_eq_getD_getElem? ..).symm.trans (hdep 9 _ 25 (by kernel_rfl) rfl rfl)
          refine ⟨wanted_free rfl, .inl (.inr ⟨127, #[.int .i64 (E i), .agg #[.int .i64 jt, .int .i64 jw, .int .i64 jr, .int .i64 jd]], by simp [execOp, Act.eval, e20, e25, go_sem], (hEC.out w' hS0.1).mono ?_⟩)⟩
          rintro e w2 ⟨rfl, hb⟩
          exact ⟨rfl, K (by decide) (kb hS0 hb) (fun h => ob (hS1 h) hb) (fun h => nb (hS2 h) hb)⟩
        · obtain rfl := Option.some.inj hop
          have e4 : ac.tmps[4]?.getD undef = .pointer (some ⟨w.heap.size, 0, none⟩) := (Array.getD_eq_getD_getElem? ..).symm.trans (hlow 4 (by kernel_rfl))
          exact ⟨wanted_free rfl, .inl (.inl ⟨w', by simp [execOp, Act.eval, e4, go_sem], K (by decide) hS0 hS1 hS2⟩)⟩
        · obtain rfl := Option.some.inj hop
          have e27 : ac.tmps[27]?.getD undef = .pointer (some ⟨w.heap.size, 1, none⟩) := (Array.getD_eq_getD_getElem? ..).symm.trans (hdep 11 _ 27 (by kernel_rfl) rfl rfl)
          have e16 : ac.tmps[16]?.getD undef = .int .i64 (i : Int) := (Array.getD_eq_getD_getElem? ..).symm.trans (hdep 0 _ 16 (by kernel_rfl) rfl rfl)
          exact ⟨wanted_free rfl, .inl (.inl ⟨w', by simp [execOp, Act.eval, e27, e16, hi0, hi4I, go_sem], K (by decide) hS0 hS1 hS2⟩)⟩
        · obtain rfl := Option.some.inj hop
          have e28 : ac.tmps[28]?.getD undef = .pointer (some ⟨w.heap.size, 1 + i, none⟩) := (Array.getD_eq_getD_getElem? ..).symm.trans (hdep 12 _ 28 (by kernel_rfl) rfl rfl)
          have e26 : ac.tmps[26]?.getD undef = .int .i64 (NE i) := (Array.getD_eq_getD_getElem? ..).symm.trans (hdep 10 _ 26 (by kernel_rfl) rfl rfl)
          have hO := hS1 hLi
          have hs0 := (hO.cell (1 + i)).trans (stA_e _ _ _ i hi4)
          have hs1 := hO.frozen (1 + i)
          refine ⟨wanted_free rfl, .inr ⟨w'.setCell ⟨w.heap.size, 1 + i, none⟩ (.int .i64 (NE i)), rfl, by simp [execOp, Act.eval, e28, e26, hs0, hs1, go_sem], ?_⟩⟩
          refine ⟨⟨hS0.1.setCell (p := ⟨w.heap.size, 1 + i, none⟩) (Nat.le_refl _) _, away_cell hS0.2.1 (by omega) _ _, away_cell hS0.2.2 (by omega) _ _⟩, fun h => ?_, fun _ => (by have h := hO.set (1 + i) (.int .i64 (NE i)); rw [stA_setE _ _ _ i _ hi4, HM.out.1.2] at h; exact h)⟩
          rw [getD_set_true, if_pos ⟨rfl, by rw [hLs]; decide⟩] at h
          cases h
    · obtain rfl : i = ks.length := by omega
      have k0 := HI.out.1
      have k1 := HI.out.2.1
      have hbw := HI.out.2.2
      unfold stA at k0
      have c0 := k0.cell 0
      have c1 := k0.cell 1
      have c2 := k0.cell 2
      have c3 := k0.cell 3
      have c4 := k0.cell 4
      have c5 := k0.cell 5
      have c6 := k0.cell 6
      have c7 := k0.cell 7
      have c8 := k0.cell 8
      have f0 := k0.frozen 0
      have d0 := k1.cell 0
      have d1 := k1.cell 1
      have d2 := k1.cell 2
      have d3 := k1.cell 3
      have d4 := k1.cell 4
      have d5 := k1.cell 5
      have d6 := k1.cell 6
      have d7 := k1.cell 7
      have d8 := k1.cell 8
      have e0 := k1.frozen 0
      have e1 := k1.frozen 1
      have e2 := k1.frozen 2
      have e3 := k1.frozen 3
      have e4 := k1.frozen 4
      have e5 := k1.frozen 5
      have e6 := k1.frozen 6
      have e7 := k1.frozen 7
      have e8 := k1.frozen 8
      simp only [List.getElem?_toArray, List.getElem?_cons_zero, List.getElem?_cons_succ] at c0 c1 c2 c3 c4 c5 c6 c7 c8 d0 d1 d2 d3 d4 d5 d6 d7 d8
      have hnw := IntWalk.i64_in ((n : Int) + 1) (by omega)
      have HX := Lib.hid (And.intro k0 (And.intro k1 hbw))
      have hwn := Nat.succ_ne_self w.heap.size
      clear k0 k1 hbw HI
      have HFE : Hid (mixF ks.length (newE ks job E) E = mixF ks.length NE E) := by show _ = _; rw [HNE.out]
      have HFV : Hid (mixF ks.length (newV ks job n E V) V = mixF ks.length NV V) := by show _ = _; rw [HNV.out]
      clear HNE HNV HE HV HC
      generalize mixF ks.length NE E = FE at *
      generalize mixF ks.length NV V = FV at *
      go_wp2
      obtain ⟨k0, k1, hbw⟩ := HX.out
      have hF := (((((((((away_cell k1 hwn 0 (.int .i64 ((n : Int) + 1))).set 0 (.int .i64 ((n : Int) + 1))).set 1 (.int .i64 (FE 0))).set 2 (.int .i64 (FE 1))).set 3 (.int .i64 (FE 2))).set 4 (.int .i64 (FE 3))).set 5 (.int .i64 (FV 0))).set 6 (.int .i64 (FV 1))).set 7 (.int .i64 (FV 2))).set 8 (.int .i64 (FV 3))
      have hBE := (((((((((hbw.setCell (p := ⟨w.heap.size, 0, none⟩) (Nat.le_refl _) (.int .i64 ((n : Int) + 1))).setCell (p := ⟨w.heap.size + 1, 0, none⟩) (Nat.le_succ _) (.int .i64 ((n : Int) + 1))).setCell (p := ⟨w.heap.size + 1, 1, none⟩) (Nat.le_succ _) (.int .i64 (FE 0))).setCell (p := ⟨w.heap.size + 1, 2, none⟩) (Nat.le_succ _) (.int .i64 (FE 1))).setCell (p := ⟨w.heap.size + 1, 3, none⟩) (Nat.le_succ _) (.int .i64 (FE 2))).setCell (p := ⟨w.heap.size + 1, 4, none⟩) (Nat.le_succ _) (.int .i64 (FE 3))).setCell (p := ⟨w.heap.size + 1, 5, none⟩) (Nat.le_succ _) (.int .i64 (FV 0))).setCell (p := ⟨w.heap.size + 1, 6, none⟩) (Nat.le_succ _) (.int .i64 (FV 1))).setCell (p := ⟨w.heap.size + 1, 7, none⟩) (Nat.le_succ _) (.int .i64 (FV 2))).setCell (p := ⟨w.heap.size + 1, 8, none⟩) (Nat.le_succ _) (.int .i64 (FV 3))
      rw [stA_all _ rfl] at hF
      exact bodyPost_ret (v := .agg (stA (n + 1) FE FV)) (results_cell_row (p := 6) (ty := 147) rfl _ _ (w.heap.size + 1) 147 _ (0, 0) _ rfl hF Try.underlying147 rfl (by kernel_rfl)) rfl ⟨by rw [HFE.out, HFV.out]; rfl, hBE⟩
end Go.Proofs.Ytjemjdlaoebffaa
