/- A plain list of jobs with a precedence, in memory: the program's workload. -/
import Derived.Test.YtapbgmmkkngdoaaDoorPra
import Derived.Test.YtapbgmmkkngdoaaDoorPln
namespace Go.Proofs.YtapbgmmkkngdoaaDoor
open Go.RowKit
def wlC (J : Value) (n : Int) (B : Nat → Nat) : Array Value := #[J, .int .i64 n, .int .u64 (B 0 : Int), .int .u64 (B 1 : Int), .int .u64 (B 2 : Int), .int .u64 (B 3 : Int), .int .u64 (B 4 : Int), .int .u64 (B 5 : Int), .int .u64 (B 6 : Int), .int .u64 (B 7 : Int)]
def wlZ : Array Value := #[.slice none 0 0, .int .i64 0, .int .u64 0, .int .u64 0, .int .u64 0, .int .u64 0, .int .u64 0, .int .u64 0, .int .u64 0, .int .u64 0]
def set10 (w : World) (g : Nat) (J : Value) (n : Int) (B : Nat → Nat) : World := (((((((((w.setCell ⟨g, 0, none⟩ J).setCell ⟨g, 1, none⟩ (.int .i64 n)).setCell ⟨g, 2, none⟩ (.int .u64 (B 0 : Int))).setCell ⟨g, 3, none⟩ (.int .u64 (B 1 : Int))).setCell ⟨g, 4, none⟩ (.int .u64 (B 2 : Int))).setCell ⟨g, 5, none⟩ (.int .u64 (B 3 : Int))).setCell ⟨g, 6, none⟩ (.int .u64 (B 4 : Int))).setCell ⟨g, 7, none⟩ (.int .u64 (B 5 : Int))).setCell ⟨g, 8, none⟩ (.int .u64 (B 6 : Int))).setCell ⟨g, 9, none⟩ (.int .u64 (B 7 : Int))
theorem set10_size (w : World) (g : Nat) (J : Value) (n : Int) (B : Nat → Nat) : (set10 w g J n B).heap.size = w.heap.size := by simp [set10, World.setCell]
theorem set10_cells (cs : Array Value) (hs : cs.size = 10) (J : Value) (n : Int) (B : Nat → Nat) : (((((((((cs.setIfInBounds 0 J).setIfInBounds 1 (.int .i64 n)).setIfInBounds 2 (.int .u64 (B 0 : Int))).setIfInBounds 3 (.int .u64 (B 1 : Int))).setIfInBounds 4 (.int .u64 (B 2 : Int))).setIfInBounds 5 (.int .u64 (B 3 : Int))).setIfInBounds 6 (.int .u64 (B 4 : Int))).setIfInBounds 7 (.int .u64 (B 5 : Int))).setIfInBounds 8 (.int .u64 (B 6 : Int))).setIfInBounds 9 (.int .u64 (B 7 : Int)) = wlC J n B := by
  apply Array.ext
  · simp [hs, wlC]
  · intro i h1 h2
    have : i < 10 := h2
    rcases (by omega : i = 0 ∨ i = 1 ∨ i = 2 ∨ i = 3 ∨ i = 4 ∨ i = 5 ∨ i = 6 ∨ i = 7 ∨ i = 8 ∨ i = 9) with rfl | rfl | rfl | rfl | rfl | rfl | rfl | rfl | rfl | rfl <;> simp [wlC, hs]
theorem block_set10 {w : World} {g : Nat} {cs : Array Value} (h : BlockIs w g 86 cs) (hs : cs.size = 10) (J : Value) (n : Int) (B : Nat → Nat) : BlockIs (set10 w g J n B) g 86 (wlC J n B) := by
  have := (((((((((h.set 0 J).set 1 (.int .i64 n)).set 2 (.int .u64 (B 0 : Int))).set 3 (.int .u64 (B 1 : Int))).set 4 (.int .u64 (B 2 : Int))).set 5 (.int .u64 (B 3 : Int))).set 6 (.int .u64 (B 4 : Int))).set 7 (.int .u64 (B 5 : Int))).set 8 (.int .u64 (B 6 : Int))).set 9 (.int .u64 (B 7 : Int))
  rw [set10_cells cs hs J n B] at this
  exact this
theorem below_set10 {H : Nat} {w0 w : World} (h : Below H w0 w) {g : Nat} (hg : H ≤ g) (J : Value) (n : Int) (B : Nat → Nat) : Below H w0 (set10 w g J n B) :=
  (((((((((h.setCell (p := ⟨g, 0, none⟩) hg _).setCell (p := ⟨g, 1, none⟩) hg _).setCell (p := ⟨g, 2, none⟩) hg _).setCell (p := ⟨g, 3, none⟩) hg _).setCell (p := ⟨g, 4, none⟩) hg _).setCell (p := ⟨g, 5, none⟩) hg _).setCell (p := ⟨g, 6, none⟩) hg _).setCell (p := ⟨g, 7, none⟩) hg _).setCell (p := ⟨g, 8, none⟩) hg _).setCell (p := ⟨g, 9, none⟩) hg _
theorem load10 {g : Nat} {cs : Array Value} {w : World} (h : BlockIs w g 86 cs) (hs : cs.size = 10) : (loadVar 86 ⟨g, 0, none⟩).run Tryd.prog w = .ok (.agg cs) w :=
  run_loadVar_row w g 86 86 cs (0, 0) _ h Tryd.underlying86 rfl (by rw [hs]; kernel_rfl)
theorem results_cellW {fn : Func} {p q : Tmp} (h : fn.results = #[.cell p 86, .tmp q]) (tmps : Array Value) (w : World) (g : Nat) {cs : Array Value}
    (hp : tmps.getD p undef = .pointer (some ⟨g, 0, none⟩)) (hB : BlockIs w g 86 cs) (hs : cs.size = 10) :
    (results fn tmps).run Tryd.prog w = .ok (.tuple #[.agg cs, tmps.getD q undef]) w := by
  have hp' : tmps[p]?.getD undef = .pointer (some ⟨g, 0, none⟩) := by simpa using hp
  simp [results, h, hp', asAddr, load10 hB hs]
def precForB (js : List J) (E : List Pr) : Bool := goodL js && precB js.length E
set_option maxRecDepth 100000 in
set_option maxHeartbeats 4000000 in
theorem precedenceFor_any (A C : Option Addr) (c d : Nat) (js : List J) (E : List Pr) (w : World) (hr : Row w A (jc js)) (hq : Row w C (pc E)) (hn : js.length ≤ 10000000) (hl : E.length ≤ 10000000) (hT : TzTab w) :
    Calls Tryd.prog 87 #[.slice A js.length c, .slice C E.length d] w fun e w' => Below w.heap.size w w' ∧ ((precForB js E = true ∧ js.length ≤ 8 ∧ e = .returned (.tuple #[.agg (precC (js.length : Int) (befN js.length (tabB js.length E))), .bool true])) ∨ (precForB js E = false ∧ e = .returned (.tuple #[.agg precZ, .bool false]))) := by
  have b0 := (Below.refl w.heap.size w).alloc (Nat.le_refl _) (.cells precZ 62)
  have h0 := BlockIs.new w 62 precZ
  have HJ := Lib.hid (IsJobs_any A c js _ (hr.below b0) (by omega))
  have HPO := Lib.hid (fun W (hb : Below w.heap.size w W) => precedenceOf_any C d (js.length : Int) E W (hq.below hb) hl (hT.below hb))
  have HD : Hid (precForB js E = (goodL js && precB js.length E)) := rfl
  have H0 := Lib.hid (And.intro b0 h0)
  clear b0 h0 hr hq hT
  cases hg : goodL js
  · rw [hg] at HJ HD
    clear hg
    go_enter Tryd.func87, Tryd.ntmps87
    go_wp2_with fail
    refine HJ.out.mono ?_
    rintro e w1 ⟨rfl, hb1⟩
    have hb := H0.out.1.trans (hb1.mono H0.out.1.size)
    have hB := H0.out.2.below hb1
    have z0 := hB.cell 0
    have z1 := hB.cell 1
    have z2 := hB.cell 2
    have z3 := hB.cell 3
    have z4 := hB.cell 4
    have z5 := hB.cell 5
    have z6 := hB.cell 6
    have z7 := hB.cell 7
    have z8 := hB.cell 8
    have f0 := hB.frozen 0
    have f1 := hB.frozen 1
    have f2 := hB.frozen 2
    have f3 := hB.frozen 3
    have f4 := hB.frozen 4
    have f5 := hB.frozen 5
    have f6 := hB.frozen 6
    have f7 := hB.frozen 7
    have f8 := hB.frozen 8
    simp only [precZ, List.getElem?_toArray, List.getElem?_cons_zero, List.getElem?_cons_succ] at z0 z1 z2 z3 z4 z5 z6 z7 z8
    have HS := Lib.hid (And.intro (below_set9 hb (Nat.le_refl _) 0 fun _ => 0) (block_set9 hB rfl 0 fun _ => 0))
    clear hb hB hb1 H0 HJ
    go_wp2
    exact bodyPost_ret (v := .tuple #[.agg precZ, .bool false]) (results_cellP (p := 4) (q := 5) rfl _ _ w.heap.size rfl HS.out.2 rfl) rfl ⟨HS.out.1, .inr ⟨HD.out, rfl⟩⟩
  · rw [hg, Bool.true_and] at HD
    rw [hg] at HJ
    clear hg
    go_enter Tryd.func87, Tryd.ntmps87
    go_wp2_with fail
    refine HJ.out.mono ?_
    rintro e w1 ⟨rfl, hb1⟩
    have hb := H0.out.1.trans (hb1.mono H0.out.1.size)
    have HB1 := Lib.hid (And.intro hb (H0.out.2.below hb1))
    have HC := Lib.hid (HPO.out w1 hb)
    clear hb hb1 H0 HJ HPO
    go_wp2_with fail
    refine HC.out.mono ?_
    rintro e w2 ⟨hb2, ⟨hp, m, hm, hm8, _, _, rfl⟩ | ⟨hp, rfl⟩⟩
    · obtain rfl : js.length = m := by omega
      have hB := HB1.out.2.below hb2
      have hb := HB1.out.1.trans (hb2.mono HB1.out.1.size)
      have z0 := hB.cell 0
      have z1 := hB.cell 1
      have z2 := hB.cell 2
      have z3 := hB.cell 3
      have z4 := hB.cell 4
      have z5 := hB.cell 5
      have z6 := hB.cell 6
      have z7 := hB.cell 7
      have z8 := hB.cell 8
      have f0 := hB.frozen 0
      have f1 := hB.frozen 1
      have f2 := hB.frozen 2
      have f3 := hB.frozen 3
      have f4 := hB.frozen 4
      have f5 := hB.frozen 5
      have f6 := hB.frozen 6
      have f7 := hB.frozen 7
      have f8 := hB.frozen 8
      simp only [precZ, List.getElem?_toArray, List.getElem?_cons_zero, List.getElem?_cons_succ] at z0 z1 z2 z3 z4 z5 z6 z7 z8
      have HS := Lib.hid (And.intro (below_set9 hb (Nat.le_refl _) (js.length : Int) (befN js.length (tabB js.length E))) (block_set9 hB rfl (js.length : Int) (befN js.length (tabB js.length E))))
      have HP := Lib.hid (HD.out.trans hp)
      clear hb hB hb2 HB1 HC hp
      unfold precC
      go_wp2
      exact bodyPost_ret (v := .tuple #[.agg (precC (js.length : Int) (befN js.length (tabB js.length E))), .bool true]) (results_cellP (p := 4) (q := 5) rfl _ _ w.heap.size rfl HS.out.2 rfl) rfl ⟨HS.out.1, .inl ⟨HP.out, hm8, rfl⟩⟩
    · have hB := HB1.out.2.below hb2
      have hb := HB1.out.1.trans (hb2.mono HB1.out.1.size)
      have z0 := hB.cell 0
      have z1 := hB.cell 1
      have z2 := hB.cell 2
      have z3 := hB.cell 3
      have z4 := hB.cell 4
      have z5 := hB.cell 5
      have z6 := hB.cell 6
      have z7 := hB.cell 7
      have z8 := hB.cell 8
      have f0 := hB.frozen 0
      have f1 := hB.frozen 1
      have f2 := hB.frozen 2
      have f3 := hB.frozen 3
      have f4 := hB.frozen 4
      have f5 := hB.frozen 5
      have f6 := hB.frozen 6
      have f7 := hB.frozen 7
      have f8 := hB.frozen 8
      simp only [precZ, List.getElem?_toArray, List.getElem?_cons_zero, List.getElem?_cons_succ] at z0 z1 z2 z3 z4 z5 z6 z7 z8
      have HS := Lib.hid (And.intro (below_set9 hb (Nat.le_refl _) 0 fun _ => 0) (block_set9 hB rfl 0 fun _ => 0))
      have HP := Lib.hid (HD.out.trans hp)
      clear hb hB hb2 HB1 HC hp
      unfold precZ
      go_wp2
      exact bodyPost_ret (v := .tuple #[.agg precZ, .bool false]) (results_cellP (p := 4) (q := 5) rfl _ _ w.heap.size rfl HS.out.2 rfl) rfl ⟨HS.out.1, .inr ⟨HP.out, rfl⟩⟩
def wlB (js : List J) (E : List Pr) : Bool := plainL js && precB js.length E
/-- What workloadOf hands back. -/
def WlOut (w : World) (A : Option Addr) (c : Nat) (js : List J) (E : List Pr) (ok : Bool) (e : Ending) (w' : World) : Prop := Below w.heap.size w w' ∧
  ((ok = true ∧ js.length ≤ 8 ∧ e = .returned (.tuple #[.agg (wlC (.slice A js.length c) (js.length : Int) (befN js.length (tabB js.length E))), .bool true])) ∨ (ok = false ∧ e = .returned (.tuple #[.agg wlZ, .bool false])))
set_option maxRecDepth 100000 in
set_option maxHeartbeats 4000000 in
theorem workloadOf_any (A C : Option Addr) (c d : Nat) (js : List J) (E : List Pr) (w : World) (hr : Row w A (jc js)) (hq : Row w C (pc E)) (hn : js.length ≤ 10000000) (hl : E.length ≤ 10000000) (hT : TzTab w) :
    Calls Tryd.prog 61 #[.slice A js.length c, .slice C E.length d] w (WlOut w A c js E (wlB js E)) := by
  have b0 := (Below.refl w.heap.size w).alloc (Nat.le_refl _) (.cells wlZ 86)
  have h0 := BlockIs.new w 86 wlZ
  have HPL := Lib.hid (plainListOf_any A c js _ (hr.below b0) (by omega))
  have HPF := Lib.hid (fun W (hb : Below w.heap.size w W) => precedenceFor_any A C c d js E W (hr.below hb) (hq.below hb) hn hl (hT.below hb))
  have HD : Hid (wlB js E = (plainL js && precB js.length E)) := rfl
  have HDG : Hid (plainL js = true → goodL js = true) := plain_good
  have HDF : Hid (precForB js E = (goodL js && precB js.length E)) := rfl
  have H0 := Lib.hid (And.intro b0 h0)
  clear b0 h0 hr hq hT
  go_enter Tryd.func61, Tryd.ntmps61
  go_wp2_with fail
  refine HPL.out.mono ?_
  rintro e w1 ⟨hb1, ⟨hp, rfl⟩ | ⟨hp, rfl⟩⟩
  · have hb := H0.out.1.trans (hb1.mono H0.out.1.size)
    have HB1 := Lib.hid (And.intro hb (H0.out.2.below hb1))
    have HC := Lib.hid (HPF.out w1 hb)
    have HG := Lib.hid (HDG.out hp)
    rw [hp, Bool.true_and] at HD
    clear hb hb1 H0 HPL HPF hp HDG
    go_wp2_with fail
    refine HC.out.mono ?_
    rintro e w2 ⟨hb2, ⟨hf, h8, rfl⟩ | ⟨hf, rfl⟩⟩
    · have hwl : wlB js E = true := by
        rw [HDF.out, HG.out, Bool.true_and] at hf
        rw [HD.out, hf]
      have HWL := Lib.hid hwl
      have hb := HB1.out.1.trans (hb2.mono HB1.out.1.size)
      have hbA := hb.alloc hb.size (.cells (precC (js.length : Int) (befN js.length (tabB js.length E))) 62)
      have hB := (HB1.out.2.below hb2).below ((Below.refl _ _).alloc (Nat.le_refl _) (.cells (precC (js.length : Int) (befN js.length (tabB js.length E))) 62))
      have z0 := hB.cell 0
      have z1 := hB.cell 1
      have z2 := hB.cell 2
      have z3 := hB.cell 3
      have z4 := hB.cell 4
      have z5 := hB.cell 5
      have z6 := hB.cell 6
      have z7 := hB.cell 7
      have z8 := hB.cell 8
      have z9 := hB.cell 9
      have f0 := hB.frozen 0
      have f1 := hB.frozen 1
      have f2 := hB.frozen 2
      have f3 := hB.frozen 3
      have f4 := hB.frozen 4
      have f5 := hB.frozen 5
      have f6 := hB.frozen 6
      have f7 := hB.frozen 7
      have f8 := hB.frozen 8
      have f9 := hB.frozen 9
      simp only [wlZ, List.getElem?_toArray, List.getElem?_cons_zero, List.getElem?_cons_succ] at z0 z1 z2 z3 z4 z5 z6 z7 z8 z9
      have HS := Lib.hid (And.intro (below_set10 hbA (Nat.le_refl _) (.slice A js.length c) (js.length : Int) (befN js.length (tabB js.length E))) (block_set10 hB rfl (.slice A js.length c) (js.length : Int) (befN js.length (tabB js.length E))))
      clear hb hB hb2 HB1 HC hf hwl hbA
      unfold precC
      unfold precC at z0 z1 z2 z3 z4 z5 z6 z7 z8 z9 f0 f1 f2 f3 f4 f5 f6 f7 f8 f9
      go_wp2
      exact bodyPost_ret (v := .tuple #[.agg (wlC (.slice A js.length c) (js.length : Int) (befN js.length (tabB js.length E))), .bool true]) (results_cellW (p := 4) (q := 5) rfl _ _ w.heap.size rfl HS.out.2 rfl) rfl ⟨HS.out.1, .inl ⟨HWL.out, h8, rfl⟩⟩
    · have hwl : wlB js E = false := by
        rw [HDF.out, HG.out, Bool.true_and] at hf
        rw [HD.out, hf]
      have HWL := Lib.hid hwl
      have hb := HB1.out.1.trans (hb2.mono HB1.out.1.size)
      have hbA := hb.alloc hb.size (.cells precZ 62)
      have hB := (HB1.out.2.below hb2).below ((Below.refl _ _).alloc (Nat.le_refl _) (.cells precZ 62))
      have z0 := hB.cell 0
      have z1 := hB.cell 1
      have z2 := hB.cell 2
      have z3 := hB.cell 3
      have z4 := hB.cell 4
      have z5 := hB.cell 5
      have z6 := hB.cell 6
      have z7 := hB.cell 7
      have z8 := hB.cell 8
      have z9 := hB.cell 9
      have f0 := hB.frozen 0
      have f1 := hB.frozen 1
      have f2 := hB.frozen 2
      have f3 := hB.frozen 3
      have f4 := hB.frozen 4
      have f5 := hB.frozen 5
      have f6 := hB.frozen 6
      have f7 := hB.frozen 7
      have f8 := hB.frozen 8
      have f9 := hB.frozen 9
      simp only [wlZ, List.getElem?_toArray, List.getElem?_cons_zero, List.getElem?_cons_succ] at z0 z1 z2 z3 z4 z5 z6 z7 z8 z9
      have HS := Lib.hid (And.intro (below_set10 hbA (Nat.le_refl _) (.slice none 0 0) 0 fun _ => 0) (block_set10 hB rfl (.slice none 0 0) 0 fun _ => 0))
      clear hb hB hb2 HB1 HC hf hwl hbA
      unfold precZ
      unfold precZ at z0 z1 z2 z3 z4 z5 z6 z7 z8 z9 f0 f1 f2 f3 f4 f5 f6 f7 f8 f9
      go_wp2
      exact bodyPost_ret (v := .tuple #[.agg wlZ, .bool false]) (results_cellW (p := 4) (q := 5) rfl _ _ w.heap.size rfl HS.out.2 rfl) rfl ⟨HS.out.1, .inr ⟨HWL.out, rfl⟩⟩
  · have hb := H0.out.1.trans (hb1.mono H0.out.1.size)
    have HB1 := Lib.hid (And.intro hb (H0.out.2.below hb1))
    have HC := Lib.hid (HPF.out w1 hb)
    rw [hp, Bool.false_and] at HD
    clear hb hb1 H0 HPL HPF hp HDG HDF
    go_wp2_with fail
    refine HC.out.mono ?_
    rintro e w2 ⟨hb2, hcase⟩
    obtain ⟨P9, b9, rfl, hsz⟩ : ∃ P9 b9, e = .returned (.tuple #[.agg P9, .bool b9]) ∧ ∃ n B, P9 = precC n B := by
      rcases hcase with ⟨_, _, rfl⟩ | ⟨_, rfl⟩
      · exact ⟨_, _, rfl, _, _, rfl⟩
      · exact ⟨_, _, rfl, _, _, precZ_eq.symm⟩
    obtain ⟨n9, B9, rfl⟩ := hsz
    clear hcase
    have hb := HB1.out.1.trans (hb2.mono HB1.out.1.size)
    have hbA := hb.alloc hb.size (.cells (precC n9 B9) 62)
    have hB := (HB1.out.2.below hb2).below ((Below.refl _ _).alloc (Nat.le_refl _) (.cells (precC n9 B9) 62))
    have z0 := hB.cell 0
    have z1 := hB.cell 1
    have z2 := hB.cell 2
    have z3 := hB.cell 3
    have z4 := hB.cell 4
    have z5 := hB.cell 5
    have z6 := hB.cell 6
    have z7 := hB.cell 7
    have z8 := hB.cell 8
    have z9 := hB.cell 9
    have f0 := hB.frozen 0
    have f1 := hB.frozen 1
    have f2 := hB.frozen 2
    have f3 := hB.frozen 3
    have f4 := hB.frozen 4
    have f5 := hB.frozen 5
    have f6 := hB.frozen 6
    have f7 := hB.frozen 7
    have f8 := hB.frozen 8
    have f9 := hB.frozen 9
    simp only [wlZ, List.getElem?_toArray, List.getElem?_cons_zero, List.getElem?_cons_succ] at z0 z1 z2 z3 z4 z5 z6 z7 z8 z9
    have HS := Lib.hid (And.intro (below_set10 hbA (Nat.le_refl _) (.slice none 0 0) 0 fun _ => 0) (block_set10 hB rfl (.slice none 0 0) 0 fun _ => 0))
    clear hb hB hb2 HB1 HC hbA
    unfold precC
    unfold precC at z0 z1 z2 z3 z4 z5 z6 z7 z8 z9 f0 f1 f2 f3 f4 f5 f6 f7 f8 f9
    go_wp2
    exact bodyPost_ret (v := .tuple #[.agg wlZ, .bool false]) (results_cellW (p := 4) (q := 5) rfl _ _ w.heap.size rfl HS.out.2 rfl) rfl ⟨HS.out.1, .inr ⟨HD.out, rfl⟩⟩
def onB (js : List J) (m : Int) (E : List Pr) : Bool := inB m 1 4 && wlB js E
set_option maxRecDepth 100000 in
set_option maxHeartbeats 4000000 in
theorem workloadOn_any (A C : Option Addr) (c d : Nat) (js : List J) (m : Int) (E : List Pr) (w : World) (hr : Row w A (jc js)) (hq : Row w C (pc E)) (hn : js.length ≤ 10000000) (hl : E.length ≤ 10000000) (hT : TzTab w) :
    Calls Tryd.prog 65 #[.slice A js.length c, .int .i64 m, .slice C E.length d] w (WlOut w A c js E (onB js m E)) := by
  have b0 := (Below.refl w.heap.size w).alloc (Nat.le_refl _) (.cells wlZ 86)
  have h0 := BlockIs.new w 86 wlZ
  have HWO := Lib.hid (workloadOf_any A C c d js E _ (hr.below b0) (hq.below b0) hn hl (hT.below b0))
  have HD : Hid (onB js m E = (inB m 1 4 && wlB js E)) := rfl
  have H0 := Lib.hid (And.intro b0 h0)
  clear b0 h0 hr hq hT
  by_cases h1 : m < 1
  · have HF : Hid (onB js m E = false) := by show _ = _; rw [HD.out, inB_no (by omega)]; rfl
    clear HWO
    go_enter Tryd.func65, Tryd.ntmps65
    go_wp2
    exact bodyPost_ret (v := .tuple #[.agg wlZ, .bool false]) (results_cellW (p := 6) (q := 7) rfl _ _ w.heap.size rfl H0.out.2 rfl) rfl ⟨H0.out.1, .inr ⟨HF.out, rfl⟩⟩
  · by_cases h4 : 4 < m
    · have HF : Hid (onB js m E = false) := by show _ = _; rw [HD.out, inB_no (by omega)]; rfl
      clear HWO
      go_enter Tryd.func65, Tryd.ntmps65
      go_wp2
      exact bodyPost_ret (v := .tuple #[.agg wlZ, .bool false]) (results_cellW (p := 6) (q := 7) rfl _ _ w.heap.size rfl H0.out.2 rfl) rfl ⟨H0.out.1, .inr ⟨HF.out, rfl⟩⟩
    · have HT1 : Hid (onB js m E = wlB js E) := by show _ = _; rw [HD.out, inB_yes (by omega) (by omega)]; rfl
      go_enter Tryd.func65, Tryd.ntmps65
      go_wp2_with fail
      refine HWO.out.mono ?_
      rintro e w1 ⟨hb1, ⟨hw, h8, rfl⟩ | ⟨hw, rfl⟩⟩
      · have hb := H0.out.1.trans (hb1.mono H0.out.1.size)
        have hB := H0.out.2.below hb1
        have HW := Lib.hid (HT1.out.trans hw)
        have z0 := hB.cell 0
        have z1 := hB.cell 1
        have z2 := hB.cell 2
        have z3 := hB.cell 3
        have z4 := hB.cell 4
        have z5 := hB.cell 5
        have z6 := hB.cell 6
        have z7 := hB.cell 7
        have z8 := hB.cell 8
        have z9 := hB.cell 9
        have f0 := hB.frozen 0
        have f1 := hB.frozen 1
        have f2 := hB.frozen 2
        have f3 := hB.frozen 3
        have f4 := hB.frozen 4
        have f5 := hB.frozen 5
        have f6 := hB.frozen 6
        have f7 := hB.frozen 7
        have f8 := hB.frozen 8
        have f9 := hB.frozen 9
        simp only [wlZ, List.getElem?_toArray, List.getElem?_cons_zero, List.getElem?_cons_succ] at z0 z1 z2 z3 z4 z5 z6 z7 z8 z9
        have HS := Lib.hid (And.intro (below_set10 hb (Nat.le_refl _) (.slice A js.length c) (js.length : Int) (befN js.length (tabB js.length E))) (block_set10 hB rfl (.slice A js.length c) (js.length : Int) (befN js.length (tabB js.length E))))
        clear hb hB hb1 H0 HWO hw
        unfold wlC
        go_wp2
        exact bodyPost_ret (v := .tuple #[.agg (wlC (.slice A js.length c) (js.length : Int) (befN js.length (tabB js.length E))), .bool true]) (results_cellW (p := 6) (q := 7) rfl _ _ w.heap.size rfl HS.out.2 rfl) rfl ⟨HS.out.1, .inl ⟨HW.out, h8, rfl⟩⟩
      · have hb := H0.out.1.trans (hb1.mono H0.out.1.size)
        have hB := H0.out.2.below hb1
        have HW := Lib.hid (HT1.out.trans hw)
        have z0 := hB.cell 0
        have z1 := hB.cell 1
        have z2 := hB.cell 2
        have z3 := hB.cell 3
        have z4 := hB.cell 4
        have z5 := hB.cell 5
        have z6 := hB.cell 6
        have z7 := hB.cell 7
        have z8 := hB.cell 8
        have z9 := hB.cell 9
        have f0 := hB.frozen 0
        have f1 := hB.frozen 1
        have f2 := hB.frozen 2
        have f3 := hB.frozen 3
        have f4 := hB.frozen 4
        have f5 := hB.frozen 5
        have f6 := hB.frozen 6
        have f7 := hB.frozen 7
        have f8 := hB.frozen 8
        have f9 := hB.frozen 9
        simp only [wlZ, List.getElem?_toArray, List.getElem?_cons_zero, List.getElem?_cons_succ] at z0 z1 z2 z3 z4 z5 z6 z7 z8 z9
        have HS := Lib.hid (And.intro (below_set10 hb (Nat.le_refl _) (.slice none 0 0) 0 fun _ => 0) (block_set10 hB rfl (.slice none 0 0) 0 fun _ => 0))
        clear hb hB hb1 H0 HWO hw
        unfold wlZ
        go_wp2
        exact bodyPost_ret (v := .tuple #[.agg wlZ, .bool false]) (results_cellW (p := 6) (q := 7) rfl _ _ w.heap.size rfl HS.out.2 rfl) rfl ⟨HS.out.1, .inr ⟨HW.out, rfl⟩⟩
theorem tlB (js : List J) (E : List Pr) : wlB js E = (plainL js && precB js.length E) := rfl
end Go.Proofs.YtapbgmmkkngdoaaDoor
