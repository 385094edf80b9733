/- What a list of pairs tells of n jobs, and whether it is a precedence: the program's. -/
import Derived.Test.YtjemjdlaoebffaaDoorGrw
import Derived.Test.YtjemjdlaoebffaaDoorPrf
import Derived.Test.YtjemjdlaoebffaaDoorPrE
namespace Go.Proofs.YtjemjdlaoebffaaDoor
open Go.RowKit
theorem load9 {g : Nat} {cs : Array Value} {w : World} (h : BlockIs w g 81 cs) (hs : cs.size = 9) : (loadVar 81 ⟨g, 0, none⟩).run Tryd.prog w = .ok (.agg cs) w :=
  run_loadVar_row w g 81 81 cs (0, 0) _ h Tryd.underlying81 rfl (by rw [hs]; kernel_rfl)
theorem results_cellP {fn : Func} {p q : Tmp} (h : fn.results = #[.cell p 81, .tmp q]) (tmps : Array Value) (w : World) (g : Nat) {cs : Array Value}
    (hp : tmps.getD p undef = .pointer (some ⟨g, 0, none⟩)) (hB : BlockIs w g 81 cs) (hs : cs.size = 9) :
    (results fn tmps).run Tryd.prog w = .ok (.tuple #[.agg cs, tmps.getD q undef]) w := by
  have hp' : tmps[p]?.getD undef = .pointer (some ⟨g, 0, none⟩) := by simpa using hp
  simp [results, h, hp', asAddr, load9 hB hs]
/-- Nine cells of a block are set. -/
def set9 (w : World) (g : Nat) (n : Int) (B : Nat → Nat) : World := ((((((((w.setCell ⟨g, 0, none⟩ (.int .i64 n)).setCell ⟨g, 1, none⟩ (.int .u64 (B 0 : Int))).setCell ⟨g, 2, none⟩ (.int .u64 (B 1 : Int))).setCell ⟨g, 3, none⟩ (.int .u64 (B 2 : Int))).setCell ⟨g, 4, none⟩ (.int .u64 (B 3 : Int))).setCell ⟨g, 5, none⟩ (.int .u64 (B 4 : Int))).setCell ⟨g, 6, none⟩ (.int .u64 (B 5 : Int))).setCell ⟨g, 7, none⟩ (.int .u64 (B 6 : Int))).setCell ⟨g, 8, none⟩ (.int .u64 (B 7 : Int))
theorem set9_cells (cs : Array Value) (hs : cs.size = 9) (n : Int) (B : Nat → Nat) : ((((((((cs.setIfInBounds 0 (.int .i64 n)).setIfInBounds 1 (.int .u64 (B 0 : Int))).setIfInBounds 2 (.int .u64 (B 1 : Int))).setIfInBounds 3 (.int .u64 (B 2 : Int))).setIfInBounds 4 (.int .u64 (B 3 : Int))).setIfInBounds 5 (.int .u64 (B 4 : Int))).setIfInBounds 6 (.int .u64 (B 5 : Int))).setIfInBounds 7 (.int .u64 (B 6 : Int))).setIfInBounds 8 (.int .u64 (B 7 : Int)) = precC n B := by
  apply Array.ext
  · simp [hs, precC]
  · intro i h1 h2
    have : i < 9 := h2
    rcases (by omega : i = 0 ∨ i = 1 ∨ i = 2 ∨ i = 3 ∨ i = 4 ∨ i = 5 ∨ i = 6 ∨ i = 7 ∨ i = 8) with rfl | rfl | rfl | rfl | rfl | rfl | rfl | rfl | rfl <;> simp [precC, hs]
theorem block_set9 {w : World} {g : Nat} {cs : Array Value} (h : BlockIs w g 81 cs) (hs : cs.size = 9) (n : Int) (B : Nat → Nat) : BlockIs (set9 w g n B) g 81 (precC n B) := by
  have := ((((((((h.set 0 (.int .i64 n)).set 1 (.int .u64 (B 0 : Int))).set 2 (.int .u64 (B 1 : Int))).set 3 (.int .u64 (B 2 : Int))).set 4 (.int .u64 (B 3 : Int))).set 5 (.int .u64 (B 4 : Int))).set 6 (.int .u64 (B 5 : Int))).set 7 (.int .u64 (B 6 : Int))).set 8 (.int .u64 (B 7 : Int))
  rw [set9_cells cs hs n B] at this
  exact this
theorem below_set9 {H : Nat} {w0 w : World} (h : Below H w0 w) {g : Nat} (hg : H ≤ g) (n : Int) (B : Nat → Nat) : Below H w0 (set9 w g n B) :=
  ((((((((h.setCell (p := ⟨g, 0, none⟩) hg _).setCell (p := ⟨g, 1, none⟩) hg _).setCell (p := ⟨g, 2, none⟩) hg _).setCell (p := ⟨g, 3, none⟩) hg _).setCell (p := ⟨g, 4, none⟩) hg _).setCell (p := ⟨g, 5, none⟩) hg _).setCell (p := ⟨g, 6, none⟩) hg _).setCell (p := ⟨g, 7, none⟩) hg _).setCell (p := ⟨g, 8, none⟩) hg _
theorem away_set9 {w : World} {q : Nat} {t : TypeId} {cs : Array Value} (h : BlockIs w q t cs) {g : Nat} (hne : q ≠ g) (n : Int) (B : Nat → Nat) : BlockIs (set9 w g n B) q t cs :=
  ((((((((h.away hne 0 _).away hne 1 _).away hne 2 _).away hne 3 _).away hne 4 _).away hne 5 _).away hne 6 _).away hne 7 _).away hne 8 _
def precZ : Array Value := #[.int .i64 0, .int .u64 0, .int .u64 0, .int .u64 0, .int .u64 0, .int .u64 0, .int .u64 0, .int .u64 0, .int .u64 0]
theorem precZ_eq : precC 0 (fun _ => 0) = precZ := rfl
set_option maxRecDepth 100000 in
set_option maxHeartbeats 4000000 in
theorem precedenceOf_bad (A : Option Addr) (c : Nat) (n : Int) (E : List Pr) (w : World) (hr : Row w A (pc E)) (hl : E.length ≤ 10000000) (hbad : pairsB n E = false) :
    Calls Tryd.prog 150 #[.int .i64 n, .slice A E.length c] w fun e w' => Below w.heap.size w w' ∧ e = .returned (.tuple #[.agg precZ, .bool false]) := by
  have HA := Lib.hid (fun W (hb : Below w.heap.size w W) => arePairs_any A c n E W (hr.below hb) hl)
  have b0 := (Below.refl w.heap.size w).alloc (Nat.le_refl _) (.cells precZ 81)
  have h0 := BlockIs.new w 81 precZ
  have H0 := Lib.hid (And.intro b0 h0)
  clear b0 h0
  by_cases c0 : n < 0
  · clear HA
    go_enter Tryd.func150, Tryd.ntmps150
    go_wp2
    exact bodyPost_ret (v := .tuple #[.agg precZ, .bool false]) (results_cellP (p := 4) (q := 5) rfl _ _ w.heap.size rfl H0.out.2 rfl) rfl ⟨H0.out.1, rfl⟩
  · by_cases c1 : 8 < n
    · clear HA
      go_enter Tryd.func150, Tryd.ntmps150
      go_wp2
      exact bodyPost_ret (v := .tuple #[.agg precZ, .bool false]) (results_cellP (p := 4) (q := 5) rfl _ _ w.heap.size rfl H0.out.2 rfl) rfl ⟨H0.out.1, rfl⟩
    · have hP : Hid ((decide (E.length ≤ 28) && pairsTo n E E.length) = false) := by
        show _ = _
        unfold pairsB at hbad
        rw [decide_eq_true (show 0 ≤ n ∧ n ≤ 8 by omega), Bool.true_and] at hbad
        exact hbad
      have HA2 := Lib.hid (HA.out _ H0.out.1)
      clear hbad HA
      go_enter Tryd.func150, Tryd.ntmps150
      go_wp2_with fail
      refine HA2.out.mono ?_
      rintro e w1 ⟨rfl, hb1⟩
      rw [hP.out]
      have hB := H0.out.2.below hb1
      have hb := H0.out.1.trans (hb1.mono H0.out.1.size)
      have c0 := hB.cell 0
      have c1 := hB.cell 1
      have c2 := hB.cell 2
      have c3 := hB.cell 3
      have c4 := hB.cell 4
      have c5 := hB.cell 5
      have c6 := hB.cell 6
      have c7 := hB.cell 7
      have c8 := hB.cell 8
      have f0 := hB.frozen 0
      have f1 := hB.frozen 1
      have f2 := hB.frozen 2
      have f3 := hB.frozen 3
      have f4 := hB.frozen 4
      have f5 := hB.frozen 5
      have f6 := hB.frozen 6
      have f7 := hB.frozen 7
      have f8 := hB.frozen 8
      simp only [precZ, List.getElem?_toArray, List.getElem?_cons_zero, List.getElem?_cons_succ] at c0 c1 c2 c3 c4 c5 c6 c7 c8
      have HS := Lib.hid (And.intro (below_set9 hb (Nat.le_refl _) 0 fun _ => 0) (block_set9 hB rfl 0 fun _ => 0))
      clear hB hb hb1 H0 HA2
      go_wp2
      exact bodyPost_ret (v := .tuple #[.agg precZ, .bool false]) (results_cellP (p := 4) (q := 5) rfl _ _ w.heap.size rfl HS.out.2 rfl) rfl ⟨HS.out.1, rfl⟩
end Go.Proofs.YtjemjdlaoebffaaDoor
