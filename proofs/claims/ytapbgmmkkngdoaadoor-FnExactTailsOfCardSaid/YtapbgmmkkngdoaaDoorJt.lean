/- Texts joined: Pln Wlo SegS AppW OwnSS SlsR Tbl Tba Prs Prx Pairs Pap ClS ClI TlP MapW Ord SchedE Ends EndsO TlS RegZ TlI TlO ArgP PrT. -/
import Derived.Test.YtapbgmmkkngdoaaDoorPlain
import Derived.Test.YtapbgmmkkngdoaaDoorPra
import Derived.Test.YtapbgmmkkngdoaaDoorSegH
import Derived.Test.YtapbgmmkkngdoaaDoorSeg
import Derived.OwnWalk
import Derived.Maps.AppendAt
import Derived.Deep.RegionLaw
import Derived.Deep.RegionWith
import Derived.Test.YtapbgmmkkngdoaaDoorBlo
import Derived.Test.YtapbgmmkkngdoaaDoorPrecP
import Derived.Test.YtapbgmmkkngdoaaDoorPrC
import Derived.Test.YtapbgmmkkngdoaaDoorInts
import Derived.StillTailTactics
import Derived.Test.YtapbgmmkkngdoaaDoorGood
import Derived.Test.YtapbgmmkkngdoaaDoorPrg
import Derived.Test.YtapbgmmkkngdoaaDoorGroP
import Derived.Test.YtapbgmmkkngdoaaDoorValP
import Derived.Test.YtapbgmmkkngdoaaDoorMem
import Derived.MapKept
import Derived.Test.YtapbgmmkkngdoaaDoorIdleP
import Derived.Deep.QuietTactic
import Derived.BigQuiet
import Derived.Test.YtapbgmmkkngdoaaDoorRegX
import Derived.RangeFuncCalls
import Derived.Shelf.RegionOpen
import Derived.Test.YtapbgmmkkngdoaaDoorArgJ
import Derived.OpenShut
namespace Go.Proofs.YtapbgmmkkngdoaaDoor
open Go.RowKit
section
variable (A : Option Addr) (c : Nat) (js : List J) (w : World) (hr : Row w A (jc js)) (hn : js.length ≤ 100000000)
include hr hn
/-- A list that is not plain is handed on as none. -/
def PlnIs (A : Option Addr) (c : Nat) (js : List J) (w : World) (e : Ending) (w' : World) : Prop :=
  Below w.heap.size w w' ∧ ((plainL js = true ∧ e = .returned (.tuple #[.slice A js.length c, .bool true])) ∨ (plainL js = false ∧ e = .returned (.tuple #[.slice none 0 0, .bool false])))
theorem plainListOf_any : Calls Tryd.prog 86 #[.slice A js.length c] w (PlnIs A c js w) := by
  cases hp : plainL js
  · go_enter Tryd.func86, Tryd.ntmps86
    go_wp2_with fail
    refine (impl_IsPlain A c js _ hr hn).mono ?_
    rintro e w1 ⟨rfl, hb1⟩
    rw [hp]
    go_wp2
    go_ret2
    exact ⟨hb1, .inr ⟨hp, rfl⟩⟩
  · go_enter Tryd.func86, Tryd.ntmps86
    go_wp2_with fail
    refine (impl_IsPlain A c js _ hr hn).mono ?_
    rintro e w1 ⟨rfl, hb1⟩
    rw [hp]
    go_wp2
    go_ret2
    exact ⟨hb1, .inl ⟨hp, rfl⟩⟩
end
end Go.Proofs.YtapbgmmkkngdoaaDoor

namespace Go.Proofs.YtapbgmmkkngdoaaDoor
open Go.RowKit
def wlC (J : Value) (n : Int) (B : Nat → Nat) : Array Value := #[J, .int .i64 n, .int .u64 (B 0 : Int), .int .u64 (B 1 : Int), .int .u64 (B 2 : Int), .int .u64 (B 3 : Int), .int .u64 (B 4 : Int), .int .u64 (B 5 : Int), .int .u64 (B 6 : Int), .int .u64 (B 7 : Int)]
def wlZ : Array Value := #[.slice none 0 0, .int .i64 0, .int .u64 0, .int .u64 0, .int .u64 0, .int .u64 0, .int .u64 0, .int .u64 0, .int .u64 0, .int .u64 0]
def set10 (w : World) (g : Nat) (J : Value) (n : Int) (B : Nat → Nat) : World := (((((((((w.setCell ⟨g, 0, none⟩ J).setCell ⟨g, 1, none⟩ (.int .i64 n)).setCell ⟨g, 2, none⟩ (.int .u64 (B 0 : Int))).setCell ⟨g, 3, none⟩ (.int .u64 (B 1 : Int))).setCell ⟨g, 4, none⟩ (.int .u64 (B 2 : Int))).setCell ⟨g, 5, none⟩ (.int .u64 (B 3 : Int))).setCell ⟨g, 6, none⟩ (.int .u64 (B 4 : Int))).setCell ⟨g, 7, none⟩ (.int .u64 (B 5 : Int))).setCell ⟨g, 8, none⟩ (.int .u64 (B 6 : Int))).setCell ⟨g, 9, none⟩ (.int .u64 (B 7 : Int))
theorem set10_size (w : World) (g : Nat) (J : Value) (n : Int) (B : Nat → Nat) : (set10 w g J n B).heap.size = w.heap.size := by simp [set10, World.setCell]
theorem set10_cells (cs : Array Value) (hs : cs.size = 10) (J : Value) (n : Int) (B : Nat → Nat) : (((((((((cs.setIfInBounds 0 J).setIfInBounds 1 (.int .i64 n)).setIfInBounds 2 (.int .u64 (B 0 : Int))).setIfInBounds 3 (.int .u64 (B 1 : Int))).setIfInBounds 4 (.int .u64 (B 2 : Int))).setIfInBounds 5 (.int .u64 (B 3 : Int))).setIfInBounds 6 (.int .u64 (B 4 : Int))).setIfInBounds 7 (.int .u64 (B 5 : Int))).setIfInBounds 8 (.int .u64 (B 6 : Int))).setIfInBounds 9 (.int .u64 (B 7 : Int)) = wlC J n B := by
  apply Array.ext
  · simp [hs, wlC]
  · intro i h1 h2
    have : i < 10 := h2
    rcases (by omega : i = 0 ∨ i = 1 ∨ i = 2 ∨ i = 3 ∨ i = 4 ∨ i = 5 ∨ i = 6 ∨ i = 7 ∨ i = 8 ∨ i = 9) with rfl | rfl | rfl | rfl | rfl | rfl | rfl | rfl | rfl | rfl <;> simp [wlC, hs]
theorem block_set10 {w : World} {g : Nat} {cs : Array Value} (h : BlockIs w g 86 cs) (hs : cs.size = 10) (J : Value) (n : Int) (B : Nat → Nat) : BlockIs (set10 w g J n B) g 86 (wlC J n B) := by
  have := (((((((((h.set 0 J).set 1 (.int .i64 n)).set 2 (.int .u64 (B 0 : Int))).set 3 (.int .u64 (B 1 : Int))).set 4 (.int .u64 (B 2 : Int))).set 5 (.int .u64 (B 3 : Int))).set 6 (.int .u64 (B 4 : Int))).set 7 (.int .u64 (B 5 : Int))).set 8 (.int .u64 (B 6 : Int))).set 9 (.int .u64 (B 7 : Int))
  rw [set10_cells cs hs J n B] at this
  exact this
theorem below_set10 {H : Nat} {w0 w : World} (h : Below H w0 w) {g : Nat} (hg : H ≤ g) (J : Value) (n : Int) (B : Nat → Nat) : Below H w0 (set10 w g J n B) :=
  (((((((((h.setCell (p := ⟨g, 0, none⟩) hg _).setCell (p := ⟨g, 1, none⟩) hg _).setCell (p := ⟨g, 2, none⟩) hg _).setCell (p := ⟨g, 3, none⟩) hg _).setCell (p := ⟨g, 4, none⟩) hg _).setCell (p := ⟨g, 5, none⟩) hg _).setCell (p := ⟨g, 6, none⟩) hg _).setCell (p := ⟨g, 7, none⟩) hg _).setCell (p := ⟨g, 8, none⟩) hg _).setCell (p := ⟨g, 9, none⟩) hg _
theorem load10 {g : Nat} {cs : Array Value} {w : World} (h : BlockIs w g 86 cs) (hs : cs.size = 10) : (loadVar 86 ⟨g, 0, none⟩).run Tryd.prog w = .ok (.agg cs) w :=
  run_loadVar_row w g 86 86 cs (0, 0) _ h Tryd.underlying86 rfl (by rw [hs]; kernel_rfl)
theorem results_cellW {fn : Func} {p q : Tmp} (h : fn.results = #[.cell p 86, .tmp q]) (tmps : Array Value) (w : World) (g : Nat) {cs : Array Value}
    (hp : tmps.getD p undef = .pointer (some ⟨g, 0, none⟩)) (hB : BlockIs w g 86 cs) (hs : cs.size = 10) :
    (results fn tmps).run Tryd.prog w = .ok (.tuple #[.agg cs, tmps.getD q undef]) w := by
  have hp' : tmps[p]?.getD undef = .pointer (some ⟨g, 0, none⟩) := by simpa using hp
  simp [results, h, hp', asAddr, load10 hB hs]
def precForB (js : List J) (E : List Pr) : Bool := goodL js && precB js.length E
set_option maxRecDepth 100000 in
set_option maxHeartbeats 4000000 in
theorem precedenceFor_any (A C : Option Addr) (c d : Nat) (js : List J) (E : List Pr) (w : World) (hr : Row w A (jc js)) (hq : Row w C (pc E)) (hn : js.length ≤ 10000000) (hl : E.length ≤ 10000000) (hT : TzTab w) :
    Calls Tryd.prog 87 #[.slice A js.length c, .slice C E.length d] w fun e w' => Below w.heap.size w w' ∧ ((precForB js E = true ∧ js.length ≤ 8 ∧ e = .returned (.tuple #[.agg (precC (js.length : Int) (befN js.length (tabB js.length E))), .bool true])) ∨ (precForB js E = false ∧ e = .returned (.tuple #[.agg precZ, .bool false]))) := by
  have b0 := (Below.refl w.heap.size w).alloc (Nat.le_refl _) (.cells precZ 62)
  have h0 := BlockIs.new w 62 precZ
  have HJ := Lib.hid (IsJobs_any A c js _ (hr.below b0) (by omega))
  have HPO := Lib.hid (fun W (hb : Below w.heap.size w W) => precedenceOf_any C d (js.length : Int) E W (hq.below hb) hl (hT.below hb))
  have HD : Hid (precForB js E = (goodL js && precB js.length E)) := rfl
  have H0 := Lib.hid (And.intro b0 h0)
  clear b0 h0 hr hq hT
  cases hg : goodL js
  · rw [hg] at HJ HD
    clear hg
    go_enter Tryd.func87, Tryd.ntmps87
    go_wp2_with fail
    refine HJ.out.mono ?_
    rintro e w1 ⟨rfl, hb1⟩
    have hb := H0.out.1.trans (hb1.mono H0.out.1.size)
    have hB := H0.out.2.below hb1
    have z0 := hB.cell 0
    have z1 := hB.cell 1
    have z2 := hB.cell 2
    have z3 := hB.cell 3
    have z4 := hB.cell 4
    have z5 := hB.cell 5
    have z6 := hB.cell 6
    have z7 := hB.cell 7
    have z8 := hB.cell 8
    have f0 := hB.frozen 0
    have f1 := hB.frozen 1
    have f2 := hB.frozen 2
    have f3 := hB.frozen 3
    have f4 := hB.frozen 4
    have f5 := hB.frozen 5
    have f6 := hB.frozen 6
    have f7 := hB.frozen 7
    have f8 := hB.frozen 8
    simp only [precZ, List.getElem?_toArray, List.getElem?_cons_zero, List.getElem?_cons_succ] at z0 z1 z2 z3 z4 z5 z6 z7 z8
    have HS := Lib.hid (And.intro (below_set9 hb (Nat.le_refl _) 0 fun _ => 0) (block_set9 hB rfl 0 fun _ => 0))
    clear hb hB hb1 H0 HJ
    go_wp2
    exact bodyPost_ret (v := .tuple #[.agg precZ, .bool false]) (results_cellP (p := 4) (q := 5) rfl _ _ w.heap.size rfl HS.out.2 rfl) rfl ⟨HS.out.1, .inr ⟨HD.out, rfl⟩⟩
  · rw [hg, Bool.true_and] at HD
    rw [hg] at HJ
    clear hg
    go_enter Tryd.func87, Tryd.ntmps87
    go_wp2_with fail
    refine HJ.out.mono ?_
    rintro e w1 ⟨rfl, hb1⟩
    have hb := H0.out.1.trans (hb1.mono H0.out.1.size)
    have HB1 := Lib.hid (And.intro hb (H0.out.2.below hb1))
    have HC := Lib.hid (HPO.out w1 hb)
    clear hb hb1 H0 HJ HPO
    go_wp2_with fail
    refine HC.out.mono ?_
    rintro e w2 ⟨hb2, ⟨hp, m, hm, hm8, _, _, rfl⟩ | ⟨hp, rfl⟩⟩
    · obtain rfl : js.length = m := by omega
      have hB := HB1.out.2.below hb2
      have hb := HB1.out.1.trans (hb2.mono HB1.out.1.size)
      have z0 := hB.cell 0
      have z1 := hB.cell 1
      have z2 := hB.cell 2
      have z3 := hB.cell 3
      have z4 := hB.cell 4
      have z5 := hB.cell 5
      have z6 := hB.cell 6
      have z7 := hB.cell 7
      have z8 := hB.cell 8
      have f0 := hB.frozen 0
      have f1 := hB.frozen 1
      have f2 := hB.frozen 2
      have f3 := hB.frozen 3
      have f4 := hB.frozen 4
      have f5 := hB.frozen 5
      have f6 := hB.frozen 6
      have f7 := hB.frozen 7
      have f8 := hB.frozen 8
      simp only [precZ, List.getElem?_toArray, List.getElem?_cons_zero, List.getElem?_cons_succ] at z0 z1 z2 z3 z4 z5 z6 z7 z8
      have HS := Lib.hid (And.intro (below_set9 hb (Nat.le_refl _) (js.length : Int) (befN js.length (tabB js.length E))) (block_set9 hB rfl (js.length : Int) (befN js.length (tabB js.length E))))
      have HP := Lib.hid (HD.out.trans hp)
      clear hb hB hb2 HB1 HC hp
      unfold precC
      go_wp2
      exact bodyPost_ret (v := .tuple #[.agg (precC (js.length : Int) (befN js.length (tabB js.length E))), .bool true]) (results_cellP (p := 4) (q := 5) rfl _ _ w.heap.size rfl HS.out.2 rfl) rfl ⟨HS.out.1, .inl ⟨HP.out, hm8, rfl⟩⟩
    · have hB := HB1.out.2.below hb2
      have hb := HB1.out.1.trans (hb2.mono HB1.out.1.size)
      have z0 := hB.cell 0
      have z1 := hB.cell 1
      have z2 := hB.cell 2
      have z3 := hB.cell 3
      have z4 := hB.cell 4
      have z5 := hB.cell 5
      have z6 := hB.cell 6
      have z7 := hB.cell 7
      have z8 := hB.cell 8
      have f0 := hB.frozen 0
      have f1 := hB.frozen 1
      have f2 := hB.frozen 2
      have f3 := hB.frozen 3
      have f4 := hB.frozen 4
      have f5 := hB.frozen 5
      have f6 := hB.frozen 6
      have f7 := hB.frozen 7
      have f8 := hB.frozen 8
      simp only [precZ, List.getElem?_toArray, List.getElem?_cons_zero, List.getElem?_cons_succ] at z0 z1 z2 z3 z4 z5 z6 z7 z8
      have HS := Lib.hid (And.intro (below_set9 hb (Nat.le_refl _) 0 fun _ => 0) (block_set9 hB rfl 0 fun _ => 0))
      have HP := Lib.hid (HD.out.trans hp)
      clear hb hB hb2 HB1 HC hp
      unfold precZ
      go_wp2
      exact bodyPost_ret (v := .tuple #[.agg precZ, .bool false]) (results_cellP (p := 4) (q := 5) rfl _ _ w.heap.size rfl HS.out.2 rfl) rfl ⟨HS.out.1, .inr ⟨HP.out, rfl⟩⟩
def wlB (js : List J) (E : List Pr) : Bool := plainL js && precB js.length E
/-- What workloadOf hands back. -/
def WlOut (w : World) (A : Option Addr) (c : Nat) (js : List J) (E : List Pr) (ok : Bool) (e : Ending) (w' : World) : Prop := Below w.heap.size w w' ∧
  ((ok = true ∧ js.length ≤ 8 ∧ e = .returned (.tuple #[.agg (wlC (.slice A js.length c) (js.length : Int) (befN js.length (tabB js.length E))), .bool true])) ∨ (ok = false ∧ e = .returned (.tuple #[.agg wlZ, .bool false])))
set_option maxRecDepth 100000 in
set_option maxHeartbeats 4000000 in
theorem workloadOf_any (A C : Option Addr) (c d : Nat) (js : List J) (E : List Pr) (w : World) (hr : Row w A (jc js)) (hq : Row w C (pc E)) (hn : js.length ≤ 10000000) (hl : E.length ≤ 10000000) (hT : TzTab w) :
    Calls Tryd.prog 61 #[.slice A js.length c, .slice C E.length d] w (WlOut w A c js E (wlB js E)) := by
  have b0 := (Below.refl w.heap.size w).alloc (Nat.le_refl _) (.cells wlZ 86)
  have h0 := BlockIs.new w 86 wlZ
  have HPL := Lib.hid (plainListOf_any A c js _ (hr.below b0) (by omega))
  have HPF := Lib.hid (fun W (hb : Below w.heap.size w W) => precedenceFor_any A C c d js E W (hr.below hb) (hq.below hb) hn hl (hT.below hb))
  have HD : Hid (wlB js E = (plainL js && precB js.length E)) := rfl
  have HDG : Hid (plainL js = true → goodL js = true) := plain_good
  have HDF : Hid (precForB js E = (goodL js && precB js.length E)) := rfl
  have H0 := Lib.hid (And.intro b0 h0)
  clear b0 h0 hr hq hT
  go_enter Tryd.func61, Tryd.ntmps61
  go_wp2_with fail
  refine HPL.out.mono ?_
  rintro e w1 ⟨hb1, ⟨hp, rfl⟩ | ⟨hp, rfl⟩⟩
  · have hb := H0.out.1.trans (hb1.mono H0.out.1.size)
    have HB1 := Lib.hid (And.intro hb (H0.out.2.below hb1))
    have HC := Lib.hid (HPF.out w1 hb)
    have HG := Lib.hid (HDG.out hp)
    rw [hp, Bool.true_and] at HD
    clear hb hb1 H0 HPL HPF hp HDG
    go_wp2_with fail
    refine HC.out.mono ?_
    rintro e w2 ⟨hb2, ⟨hf, h8, rfl⟩ | ⟨hf, rfl⟩⟩
    · have hwl : wlB js E = true := by
        rw [HDF.out, HG.out, Bool.true_and] at hf
        rw [HD.out, hf]
      have HWL := Lib.hid hwl
      have hb := HB1.out.1.trans (hb2.mono HB1.out.1.size)
      have hbA := hb.alloc hb.size (.cells (precC (js.length : Int) (befN js.length (tabB js.length E))) 62)
      have hB := (HB1.out.2.below hb2).below ((Below.refl _ _).alloc (Nat.le_refl _) (.cells (precC (js.length : Int) (befN js.length (tabB js.length E))) 62))
      have z0 := hB.cell 0
      have z1 := hB.cell 1
      have z2 := hB.cell 2
      have z3 := hB.cell 3
      have z4 := hB.cell 4
      have z5 := hB.cell 5
      have z6 := hB.cell 6
      have z7 := hB.cell 7
      have z8 := hB.cell 8
      have z9 := hB.cell 9
      have f0 := hB.frozen 0
      have f1 := hB.frozen 1
      have f2 := hB.frozen 2
      have f3 := hB.frozen 3
      have f4 := hB.frozen 4
      have f5 := hB.frozen 5
      have f6 := hB.frozen 6
      have f7 := hB.frozen 7
      have f8 := hB.frozen 8
      have f9 := hB.frozen 9
      simp only [wlZ, List.getElem?_toArray, List.getElem?_cons_zero, List.getElem?_cons_succ] at z0 z1 z2 z3 z4 z5 z6 z7 z8 z9
      have HS := Lib.hid (And.intro (below_set10 hbA (Nat.le_refl _) (.slice A js.length c) (js.length : Int) (befN js.length (tabB js.length E))) (block_set10 hB rfl (.slice A js.length c) (js.length : Int) (befN js.length (tabB js.length E))))
      clear hb hB hb2 HB1 HC hf hwl hbA
      unfold precC
      unfold precC at z0 z1 z2 z3 z4 z5 z6 z7 z8 z9 f0 f1 f2 f3 f4 f5 f6 f7 f8 f9
      go_wp2
      exact bodyPost_ret (v := .tuple #[.agg (wlC (.slice A js.length c) (js.length : Int) (befN js.length (tabB js.length E))), .bool true]) (results_cellW (p := 4) (q := 5) rfl _ _ w.heap.size rfl HS.out.2 rfl) rfl ⟨HS.out.1, .inl ⟨HWL.out, h8, rfl⟩⟩
    · have hwl : wlB js E = false := by
        rw [HDF.out, HG.out, Bool.true_and] at hf
        rw [HD.out, hf]
      have HWL := Lib.hid hwl
      have hb := HB1.out.1.trans (hb2.mono HB1.out.1.size)
      have hbA := hb.alloc hb.size (.cells precZ 62)
      have hB := (HB1.out.2.below hb2).below ((Below.refl _ _).alloc (Nat.le_refl _) (.cells precZ 62))
      have z0 := hB.cell 0
      have z1 := hB.cell 1
      have z2 := hB.cell 2
      have z3 := hB.cell 3
      have z4 := hB.cell 4
      have z5 := hB.cell 5
      have z6 := hB.cell 6
      have z7 := hB.cell 7
      have z8 := hB.cell 8
      have z9 := hB.cell 9
      have f0 := hB.frozen 0
      have f1 := hB.frozen 1
      have f2 := hB.frozen 2
      have f3 := hB.frozen 3
      have f4 := hB.frozen 4
      have f5 := hB.frozen 5
      have f6 := hB.frozen 6
      have f7 := hB.frozen 7
      have f8 := hB.frozen 8
      have f9 := hB.frozen 9
      simp only [wlZ, List.getElem?_toArray, List.getElem?_cons_zero, List.getElem?_cons_succ] at z0 z1 z2 z3 z4 z5 z6 z7 z8 z9
      have HS := Lib.hid (And.intro (below_set10 hbA (Nat.le_refl _) (.slice none 0 0) 0 fun _ => 0) (block_set10 hB rfl (.slice none 0 0) 0 fun _ => 0))
      clear hb hB hb2 HB1 HC hf hwl hbA
      unfold precZ
      unfold precZ at z0 z1 z2 z3 z4 z5 z6 z7 z8 z9 f0 f1 f2 f3 f4 f5 f6 f7 f8 f9
      go_wp2
      exact bodyPost_ret (v := .tuple #[.agg wlZ, .bool false]) (results_cellW (p := 4) (q := 5) rfl _ _ w.heap.size rfl HS.out.2 rfl) rfl ⟨HS.out.1, .inr ⟨HWL.out, rfl⟩⟩
  · have hb := H0.out.1.trans (hb1.mono H0.out.1.size)
    have HB1 := Lib.hid (And.intro hb (H0.out.2.below hb1))
    have HC := Lib.hid (HPF.out w1 hb)
    rw [hp, Bool.false_and] at HD
    clear hb hb1 H0 HPL HPF hp HDG HDF
    go_wp2_with fail
    refine HC.out.mono ?_
    rintro e w2 ⟨hb2, hcase⟩
    obtain ⟨P9, b9, rfl, hsz⟩ : ∃ P9 b9, e = .returned (.tuple #[.agg P9, .bool b9]) ∧ ∃ n B, P9 = precC n B := by
      rcases hcase with ⟨_, _, rfl⟩ | ⟨_, rfl⟩
      · exact ⟨_, _, rfl, _, _, rfl⟩
      · exact ⟨_, _, rfl, _, _, precZ_eq.symm⟩
    obtain ⟨n9, B9, rfl⟩ := hsz
    clear hcase
    have hb := HB1.out.1.trans (hb2.mono HB1.out.1.size)
    have hbA := hb.alloc hb.size (.cells (precC n9 B9) 62)
    have hB := (HB1.out.2.below hb2).below ((Below.refl _ _).alloc (Nat.le_refl _) (.cells (precC n9 B9) 62))
    have z0 := hB.cell 0
    have z1 := hB.cell 1
    have z2 := hB.cell 2
    have z3 := hB.cell 3
    have z4 := hB.cell 4
    have z5 := hB.cell 5
    have z6 := hB.cell 6
    have z7 := hB.cell 7
    have z8 := hB.cell 8
    have z9 := hB.cell 9
    have f0 := hB.frozen 0
    have f1 := hB.frozen 1
    have f2 := hB.frozen 2
    have f3 := hB.frozen 3
    have f4 := hB.frozen 4
    have f5 := hB.frozen 5
    have f6 := hB.frozen 6
    have f7 := hB.frozen 7
    have f8 := hB.frozen 8
    have f9 := hB.frozen 9
    simp only [wlZ, List.getElem?_toArray, List.getElem?_cons_zero, List.getElem?_cons_succ] at z0 z1 z2 z3 z4 z5 z6 z7 z8 z9
    have HS := Lib.hid (And.intro (below_set10 hbA (Nat.le_refl _) (.slice none 0 0) 0 fun _ => 0) (block_set10 hB rfl (.slice none 0 0) 0 fun _ => 0))
    clear hb hB hb2 HB1 HC hbA
    unfold precC
    unfold precC at z0 z1 z2 z3 z4 z5 z6 z7 z8 z9 f0 f1 f2 f3 f4 f5 f6 f7 f8 f9
    go_wp2
    exact bodyPost_ret (v := .tuple #[.agg wlZ, .bool false]) (results_cellW (p := 4) (q := 5) rfl _ _ w.heap.size rfl HS.out.2 rfl) rfl ⟨HS.out.1, .inr ⟨HD.out, rfl⟩⟩
def onB (js : List J) (m : Int) (E : List Pr) : Bool := inB m 1 4 && wlB js E
set_option maxRecDepth 100000 in
set_option maxHeartbeats 4000000 in
theorem workloadOn_any (A C : Option Addr) (c d : Nat) (js : List J) (m : Int) (E : List Pr) (w : World) (hr : Row w A (jc js)) (hq : Row w C (pc E)) (hn : js.length ≤ 10000000) (hl : E.length ≤ 10000000) (hT : TzTab w) :
    Calls Tryd.prog 65 #[.slice A js.length c, .int .i64 m, .slice C E.length d] w (WlOut w A c js E (onB js m E)) := by
  have b0 := (Below.refl w.heap.size w).alloc (Nat.le_refl _) (.cells wlZ 86)
  have h0 := BlockIs.new w 86 wlZ
  have HWO := Lib.hid (workloadOf_any A C c d js E _ (hr.below b0) (hq.below b0) hn hl (hT.below b0))
  have HD : Hid (onB js m E = (inB m 1 4 && wlB js E)) := rfl
  have H0 := Lib.hid (And.intro b0 h0)
  clear b0 h0 hr hq hT
  by_cases h1 : m < 1
  · have HF : Hid (onB js m E = false) := by show _ = _; rw [HD.out, inB_no (by omega)]; rfl
    clear HWO
    go_enter Tryd.func65, Tryd.ntmps65
    go_wp2
    exact bodyPost_ret (v := .tuple #[.agg wlZ, .bool false]) (results_cellW (p := 6) (q := 7) rfl _ _ w.heap.size rfl H0.out.2 rfl) rfl ⟨H0.out.1, .inr ⟨HF.out, rfl⟩⟩
  · by_cases h4 : 4 < m
    · have HF : Hid (onB js m E = false) := by show _ = _; rw [HD.out, inB_no (by omega)]; rfl
      clear HWO
      go_enter Tryd.func65, Tryd.ntmps65
      go_wp2
      exact bodyPost_ret (v := .tuple #[.agg wlZ, .bool false]) (results_cellW (p := 6) (q := 7) rfl _ _ w.heap.size rfl H0.out.2 rfl) rfl ⟨H0.out.1, .inr ⟨HF.out, rfl⟩⟩
    · have HT1 : Hid (onB js m E = wlB js E) := by show _ = _; rw [HD.out, inB_yes (by omega) (by omega)]; rfl
      go_enter Tryd.func65, Tryd.ntmps65
      go_wp2_with fail
      refine HWO.out.mono ?_
      rintro e w1 ⟨hb1, ⟨hw, h8, rfl⟩ | ⟨hw, rfl⟩⟩
      · have hb := H0.out.1.trans (hb1.mono H0.out.1.size)
        have hB := H0.out.2.below hb1
        have HW := Lib.hid (HT1.out.trans hw)
        have z0 := hB.cell 0
        have z1 := hB.cell 1
        have z2 := hB.cell 2
        have z3 := hB.cell 3
        have z4 := hB.cell 4
        have z5 := hB.cell 5
        have z6 := hB.cell 6
        have z7 := hB.cell 7
        have z8 := hB.cell 8
        have z9 := hB.cell 9
        have f0 := hB.frozen 0
        have f1 := hB.frozen 1
        have f2 := hB.frozen 2
        have f3 := hB.frozen 3
        have f4 := hB.frozen 4
        have f5 := hB.frozen 5
        have f6 := hB.frozen 6
        have f7 := hB.frozen 7
        have f8 := hB.frozen 8
        have f9 := hB.frozen 9
        simp only [wlZ, List.getElem?_toArray, List.getElem?_cons_zero, List.getElem?_cons_succ] at z0 z1 z2 z3 z4 z5 z6 z7 z8 z9
        have HS := Lib.hid (And.intro (below_set10 hb (Nat.le_refl _) (.slice A js.length c) (js.length : Int) (befN js.length (tabB js.length E))) (block_set10 hB rfl (.slice A js.length c) (js.length : Int) (befN js.length (tabB js.length E))))
        clear hb hB hb1 H0 HWO hw
        unfold wlC
        go_wp2
        exact bodyPost_ret (v := .tuple #[.agg (wlC (.slice A js.length c) (js.length : Int) (befN js.length (tabB js.length E))), .bool true]) (results_cellW (p := 6) (q := 7) rfl _ _ w.heap.size rfl HS.out.2 rfl) rfl ⟨HS.out.1, .inl ⟨HW.out, h8, rfl⟩⟩
      · have hb := H0.out.1.trans (hb1.mono H0.out.1.size)
        have hB := H0.out.2.below hb1
        have HW := Lib.hid (HT1.out.trans hw)
        have z0 := hB.cell 0
        have z1 := hB.cell 1
        have z2 := hB.cell 2
        have z3 := hB.cell 3
        have z4 := hB.cell 4
        have z5 := hB.cell 5
        have z6 := hB.cell 6
        have z7 := hB.cell 7
        have z8 := hB.cell 8
        have z9 := hB.cell 9
        have f0 := hB.frozen 0
        have f1 := hB.frozen 1
        have f2 := hB.frozen 2
        have f3 := hB.frozen 3
        have f4 := hB.frozen 4
        have f5 := hB.frozen 5
        have f6 := hB.frozen 6
        have f7 := hB.frozen 7
        have f8 := hB.frozen 8
        have f9 := hB.frozen 9
        simp only [wlZ, List.getElem?_toArray, List.getElem?_cons_zero, List.getElem?_cons_succ] at z0 z1 z2 z3 z4 z5 z6 z7 z8 z9
        have HS := Lib.hid (And.intro (below_set10 hb (Nat.le_refl _) (.slice none 0 0) 0 fun _ => 0) (block_set10 hB rfl (.slice none 0 0) 0 fun _ => 0))
        clear hb hB hb1 H0 HWO hw
        unfold wlZ
        go_wp2
        exact bodyPost_ret (v := .tuple #[.agg wlZ, .bool false]) (results_cellW (p := 6) (q := 7) rfl _ _ w.heap.size rfl HS.out.2 rfl) rfl ⟨HS.out.1, .inr ⟨HW.out, rfl⟩⟩
theorem tlB (js : List J) (E : List Pr) : wlB js E = (plainL js && precB js.length E) := rfl
end Go.Proofs.YtapbgmmkkngdoaaDoor

namespace Go.Proofs.YtapbgmmkkngdoaaDoor
open Go.RowKit

/-- The cells of a slice of slices: where each one lies. -/
def slC (vs : List (Option Addr × Nat)) (css : List (List Value)) : List Value := List.zipWith (fun v cs => Value.slice v.1 cs.length v.2) vs css
theorem slC_len {vs : List (Option Addr × Nat)} {css : List (List Value)} (h : vs.length = css.length) : (slC vs css).length = css.length := by unfold slC; simp [h]
theorem slC_get {vs : List (Option Addr × Nat)} {css : List (List Value)} (h : vs.length = css.length) {i : Nat} (hi : i < css.length) : (slC vs css)[i]'(by rw [slC_len h]; exact hi) = .slice (vs[i]'(by omega)).1 css[i].length (vs[i]'(by omega)).2 := by unfold slC; simp
/-- What lies where a slice of slices is read. -/
def RowSS (w : World) (A : Option Addr) (css : List (List Value)) : Prop := ∃ vs : List (Option Addr × Nat), vs.length = css.length ∧ Row w A (slC vs css) ∧ ∀ (i : Nat) (h : i < css.length) (h' : i < vs.length), Row w vs[i].1 css[i]
/-- A slice of slices of one's own, from lo on and below hi, no two of them in one block. -/
def SegSS (w : World) (lo hi : Nat) (A : Option Addr) (n c : Nat) (css : List (List Value)) : Prop := n = css.length ∧ ∃ vs : List (Option Addr × Nat), vs.length = css.length ∧ Seg w 29 1 lo hi A n c (slC vs css) ∧
  (∀ (i : Nat) (h : i < css.length) (h' : i < vs.length), Seg w 3 1 lo hi vs[i].1 css[i].length vs[i].2 css[i]) ∧
  ∀ (i j : Nat) (h : i < vs.length) (h' : j < vs.length) (a b : Addr), i ≠ j → vs[i].1 = some a → vs[j].1 = some b → a.block ≠ b.block
def totC (css : List (List Value)) : Nat := (css.map List.length).sum
section
variable {w w' : World} {lo hi : Nat} {A : Option Addr} {n c : Nat} {css : List (List Value)}
theorem SegSS.row (h : SegSS w lo hi A n c css) : RowSS w A css := by
  obtain ⟨_, vs, h1, h2, h3, _⟩ := h
  exact ⟨vs, h1, h2.row, fun i a b => (h3 i a b).row⟩
theorem SegSS.keep {a b : Nat} (h : SegSS w lo hi A n c css) (ht : Touch a b w w') (hd : hi ≤ a ∨ b ≤ lo) : SegSS w' lo hi A n c css := by
  obtain ⟨h0, vs, h1, h2, h3, h4⟩ := h
  exact ⟨h0, vs, h1, h2.keep ht hd, fun i a b => (h3 i a b).keep ht hd, h4⟩
theorem SegSS.below (h : SegSS w lo hi A n c css) (hb : Below w.heap.size w w') : SegSS w' lo hi A n c css := by
  obtain ⟨h0, vs, h1, h2, h3, h4⟩ := h
  exact ⟨h0, vs, h1, h2.below hb, fun i a b => (h3 i a b).below hb, h4⟩
theorem SegSS.fit (h : SegSS w lo hi A n c css) : hi ≤ w.heap.size := by
  obtain ⟨_, vs, _, h2, _⟩ := h
  exact h2.fit
theorem RowSS.below (h : RowSS w A css) (hb : Below w.heap.size w w') : RowSS w' A css := by
  obtain ⟨vs, h1, h2, h3⟩ := h
  exact ⟨vs, h1, h2.below hb, fun i a b => (h3 i a b).below hb⟩
theorem RowSS.at_ {w : World} {A : Option Addr} {css : List (List Value)} (h : RowSS w A css) {k : Nat} (hk : k < css.length) : ∃ ad B d, A = some ad ∧ w.cell? (ad.add k) = some (.slice B css[k].length d) ∧ Row w B css[k] := by
  obtain ⟨vs, h1, h2, h3⟩ := h
  obtain ⟨ad, e, hc⟩ := h2.at_ (k := k) (by rw [slC_len h1]; exact hk)
  rw [slC_get h1 hk] at hc
  exact ⟨ad, _, _, e, hc, h3 k hk (by omega)⟩
end
/-- The marks of a slice of slices, from a number on. -/
def marksSS : Nat → List Nat → List (List Value)
  | _, [] => []
  | k, n :: ns => marksI k n :: marksSS (k + n) ns
theorem marksSS_len : ∀ (k : Nat) (ns : List Nat), (marksSS k ns).length = ns.length
  | _, [] => rfl
  | k, n :: ns => by simp [marksSS, marksSS_len (k + n) ns]
theorem marksSS_get : ∀ (k : Nat) (ns : List Nat) (i : Nat) (h : i < ns.length), (marksSS k ns)[i]'(by rw [marksSS_len]; exact h) = marksI (k + (ns.take i).sum) ns[i]
  | k, n :: ns, 0, _ => by simp [marksSS]
  | k, n :: ns, i + 1, h => by
    simp only [marksSS, List.getElem_cons_succ, List.take_succ_cons, List.sum_cons]
    rw [marksSS_get (k + n) ns i (by simpa using h), Nat.add_assoc]
theorem take_sum (ns : List Nat) : ∀ i, (ns.take i).sum ≤ ns.sum := by
  induction ns with
  | nil => intro i; simp
  | cons n ns ih =>
    intro i
    cases i with
    | zero => simp
    | succ i => have := ih i; simp; omega
theorem take_sum_succ (ns : List Nat) (i : Nat) (h : i < ns.length) : (ns.take (i + 1)).sum = (ns.take i).sum + ns[i] := by
  rw [List.take_succ_eq_append_getElem h, List.sum_append]; simp
/-- The first k are marked, the others are as they were. -/
def mixSS (k0 m : Nat) (css : List (List Value)) : List (List Value) := (marksSS k0 (css.map List.length)).take m ++ css.drop m
theorem mixSS_len (k0 m : Nat) (css : List (List Value)) (h : m ≤ css.length) : (mixSS k0 m css).length = css.length := by
  unfold mixSS; simp [marksSS_len]; omega
theorem mixSS_get {k0 m : Nat} {css : List (List Value)} (hm : m ≤ css.length) {i : Nat} (hi : i < css.length) : (mixSS k0 m css)[i]'(by rw [mixSS_len _ _ _ hm]; exact hi) = if i < m then marksI (k0 + ((css.map List.length).take i).sum) css[i].length else css[i] := by
  have hl : (marksSS k0 (css.map List.length)).length = css.length := by rw [marksSS_len]; simp
  by_cases h : i < m
  · rw [if_pos h]
    unfold mixSS
    rw [List.getElem_append_left (by simp [hl]; omega), List.getElem_take, marksSS_get _ _ _ (by simpa using hi)]
    simp
  · rw [if_neg h]
    unfold mixSS
    have h2 : ((marksSS k0 (css.map List.length)).take m).length = m := by simp [hl]; omega
    rw [List.getElem_append_right (by omega)]
    simp only [h2, List.getElem_drop]
    congr 1
    omega
theorem mixSS_zero (k0 : Nat) (css : List (List Value)) : mixSS k0 0 css = css := by unfold mixSS; simp
theorem mixSS_all (k0 : Nat) (css : List (List Value)) : mixSS k0 css.length css = marksSS k0 (css.map List.length) := by
  unfold mixSS
  rw [List.take_of_length_le (by rw [marksSS_len]; simp), List.drop_length, List.append_nil]
theorem mixSS_lens (k0 m : Nat) (css : List (List Value)) (hm : m ≤ css.length) : ∀ i (hi : i < css.length), ((mixSS k0 m css)[i]'(by rw [mixSS_len _ _ _ hm]; exact hi)).length = css[i].length := by
  intro i hi
  rw [mixSS_get hm hi]
  split
  · rw [marksI_len]
  · rfl
theorem Seg.keep_block {w w' : World} {e : TypeId} {size lo hi : Nat} {A : Option Addr} {n c : Nat} {cs : List Value} (h : Seg w e size lo hi A n c cs) (hs : hi ≤ w'.heap.size) (hk : ∀ g cur, A = some ⟨g, 0, none⟩ → BlockIs w g e cur → w'.heap[g]? = w.heap[g]?) : Seg w' e size lo hi A n c cs := by
  refine ⟨⟨h.own.1, ?_⟩, h.top, hs⟩
  rcases h.own.2 with ⟨hv, h0⟩ | ⟨g, cap, cur, hv, hb, hg, hr⟩
  · exact .inl ⟨hv, h0⟩
  · have hA : A = some ⟨g, 0, none⟩ := by injection hv
    exact .inr ⟨g, cap, cur, hv, hb, (hk g cur hA hg).trans hg, hr⟩
/-- As SegSS, where each one lies being known. -/
def SegV (vs : List (Option Addr × Nat)) (w : World) (lo hi : Nat) (A : Option Addr) (n c : Nat) (css : List (List Value)) : Prop := n = css.length ∧ vs.length = css.length ∧ Seg w 29 1 lo hi A n c (slC vs css) ∧
  (∀ (i : Nat) (h : i < css.length) (h' : i < vs.length), Seg w 3 1 lo hi vs[i].1 css[i].length vs[i].2 css[i]) ∧
  ∀ (i j : Nat) (h : i < vs.length) (h' : j < vs.length) (a b : Addr), i ≠ j → vs[i].1 = some a → vs[j].1 = some b → a.block ≠ b.block
theorem slC_same {vs : List (Option Addr × Nat)} {css dss : List (List Value)} (h : vs.length = css.length) (hl : dss.length = css.length) (he : ∀ i (hi : i < css.length), (dss[i]'(by omega)).length = css[i].length) : slC vs dss = slC vs css := by
  apply List.ext_getElem
  · rw [slC_len (by omega), slC_len h, hl]
  · intro i h1 h2
    rw [slC_len h] at h2
    rw [slC_get (by omega) (by omega), slC_get h h2, he i h2]
theorem segV_mark {vs : List (Option Addr × Nat)} {w w' : World} {lo hi : Nat} {A : Option Addr} {n c : Nat} {css : List (List Value)} {k0 m : Nat} (hm : m < css.length) (h : SegV vs w lo hi A n c (mixSS k0 m css)) (hv : vs.length = css.length)
    (ho : w'.ownsRow lo 3 1 (.slice (vs[m]'(by omega)).1 css[m].length (vs[m]'(by omega)).2) css[m].length (marksI (k0 + ((css.map List.length).take m).sum) css[m].length)) (hg : w.grownBy w' (Value.slice (vs[m]'(by omega)).1 css[m].length (vs[m]'(by omega)).2).ownBlock) (hs : w'.heap.size = w.heap.size) : SegV vs w' lo hi A n c (mixSS k0 (m + 1) css) := by
  obtain ⟨h0, h1, h2, h3, h4⟩ := h
  have e0 := mixSS_len k0 m css (by omega)
  have e1 := mixSS_len k0 (m + 1) css (by omega)
  have hfit := h2.fit
  have hself := h3 m (by omega) (by omega)
  have hE : slC vs (mixSS k0 (m + 1) css) = slC vs (mixSS k0 m css) := slC_same (by omega) (by omega) fun i hi => by
    rw [mixSS_lens k0 (m + 1) css (by omega) i (by omega), mixSS_lens k0 m css (by omega) i (by omega)]
  have hown : ∀ g, g < w.heap.size → (∀ a, (vs[m]'(by omega)).1 = some a → a.block ≠ g) → w'.heap[g]? = w.heap[g]? := fun g hgl hne => by
    refine hg.block g hgl fun e => ?_
    cases ha : (vs[m]'(by omega)).1 with
    | none => rw [ha] at e; cases e
    | some a =>
      rw [ha] at e
      have : a.block = g := by injection e with e; exact e.symm
      exact hne a ha this
  refine ⟨by omega, by omega, ?_, ?_, h4⟩
  · rw [hE]
    refine h2.keep_block (by omega) fun g cur hA hB => hown g hB.lt fun a ha e => ?_
    subst e
    rcases hself.own.2 with ⟨hv0, _⟩ | ⟨g', cap, cur', hv0, _, hg', _⟩
    · injection hv0 with hv0; rw [ha] at hv0; cases hv0
    · injection hv0 with hv0
      rw [ha] at hv0
      injection hv0 with hv0
      subst hv0
      unfold BlockIs at hB
      simp only at hB
      rw [hg'] at hB
      injection hB with hB
      injection hB with _ h5 _
      exact absurd h5 (by decide)
  · intro i hi' hiv
    by_cases e : i = m
    · subst e
      have := mixSS_get (k0 := k0) (m := i + 1) (css := css) (by omega) (i := i) (by omega)
      rw [if_pos (by omega)] at this
      have hl := mixSS_lens k0 (i + 1) css (by omega) i (by omega)
      rw [this]
      rw [this, marksI_len] at hl
      simp only [marksI_len]
      exact ⟨ho, (by
        intro ad ha
        exact hself.top ad ha), by omega⟩
    · have g1 := mixSS_get (k0 := k0) (m := m + 1) (css := css) (by omega) (i := i) (by omega)
      have g2 := mixSS_get (k0 := k0) (m := m) (css := css) (by omega) (i := i) (by omega)
      have hsame : (mixSS k0 (m + 1) css)[i]'(by omega) = (mixSS k0 m css)[i]'(by omega) := by
        rw [g1, g2]
        by_cases hh : i < m
        · rw [if_pos hh, if_pos (by omega)]
        · rw [if_neg hh, if_neg (by omega)]
      rw [hsame]
      refine (h3 i (by omega) hiv).keep_block (by omega) fun g cur hA hB => hown g hB.lt fun a ha e' => ?_
      exact h4 m i (by omega) hiv a ⟨g, 0, none⟩ (fun e2 => e e2.symm) ha hA e'
/-- What a function hands back: a list of lists of ints, memory of its own, and a bool. -/
def RetSSB (w : World) (r : List (List Int) × Bool) (e : Ending) (w' : World) : Prop :=
  ∃ A c, e = .returned (.tuple #[.slice A r.1.length c, .bool r.2]) ∧ SegSS w' w.heap.size w'.heap.size A r.1.length c (r.1.map ic) ∧ Below w.heap.size w w'
end Go.Proofs.YtapbgmmkkngdoaaDoor

namespace Go.Proofs.YtapbgmmkkngdoaaDoor
open Go.RowKit
section
variable {P : Program} (w : World)
/-- One more cell, or a few: the slice stays where it is, or lies in a new block. -/
theorem append_at (base : Nat) (t ty e : TypeId) (i : TypeInfo) (z : Value) (size bytes : Nat) (ht : P.underlying t = some (.slice e)) (hi : P.info? e = some i) (hz : i.zero = some z)
    (hsize : i.size = size) (hby : i.bytes = bytes) (hzs : z.cells.size = size) (hsz : 0 < size)
    (v : Value) (n : Nat) (xs : List Value) (hown : w.ownsRow base e size v n xs)
    (a : Addr) (m c : Nat) (news : List Value) (hl : news.length = m * size) (hnews : ∀ j u, news[j]? = some u → w.cell? (a.add j) = some u) (h1 : ∀ u ∈ news, u.oneCell' = true) (hm0 : 0 < m)
    (h63 : n + m ≤ maxLen) (hbytes : (n + m) * bytes ≤ 140737488355328) (hbase : base ≤ w.heap.size) :
    ∃ v' w', (Builtin.append_ #[t, t] ty #[v, .slice (some a) m c]).run P w = .ok v' w' ∧ w'.ownsRow base e size v' (n + m) (xs ++ news) ∧ w.grownBy w' v.ownBlock ∧ (v'.ownBlock = v.ownBlock ∨ v'.ownBlock = some w.heap.size) := by
  obtain ⟨v', w', hr, h2, h3, _⟩ := run_append_own (P := P) w base t ty e i z size bytes ht hi hz hsize hby hzs hsz v n xs hown a m c news hl hnews h1 h63 hbytes hbase
  refine ⟨v', w', hr, h2, h3, ?_⟩
  subst hsize hby
  have hml : n + m ≤ 9223372036854775807 := by simp only [maxLen] at h63; omega
  rcases id hown.2 with ⟨rfl, rfl⟩ | ⟨g, cap, cur, rfl, hbg, hg, hnc, hcm, hcs, htake⟩
  · have hr' := run_append_nil (P := P) w t ty e i z ht hi hz a m c news hl hnews hm0 (by omega) (by have hb := hbytes; simp only [Nat.zero_add] at hb; omega)
    rw [hr] at hr'
    injection hr' with hv
    subst hv
    exact .inr rfl
  · by_cases hroom : n + m ≤ cap
    · have hfit : n * i.size + news.length ≤ cur.size := by rw [hl, hcs, ← Nat.add_mul]; exact Nat.mul_le_mul_right _ hroom
      have hr' := run_append_room (P := P) w t ty e i ht hi g n cap cur hg a m c news hl hnews h1 hroom hfit
      rw [hr] at hr'
      injection hr' with hv
      subst hv
      exact .inl rfl
    · have hr' := run_append_grow (P := P) w t ty e i z ht hi hz ⟨g, 0, none⟩ n cap xs hown.1 (hown.cells (g := g) rfl) a m c news hl hnews (by omega) (by omega) (growslice_fits (by omega) hbytes)
      rw [hr] at hr'
      injection hr' with hv
      subst hv
      exact .inr rfl
theorem wpList_append_at {ops : Array Oper} {rest : List Oper} {o : Oper} {a : Act} {Q : Exit → Act → World → Prop} (hgd : o.guard = none) (s x : Operand) (t : TypeId)
    (ho : o.op = .call { callee := .builtin .append, args := #[s, x], argTypes := #[t, t] })
    (base : Nat) (e : TypeId) (i : TypeInfo) (z : Value) (size bytes : Nat) (ht : P.underlying t = some (.slice e)) (hi : P.info? e = some i) (hz : i.zero = some z)
    (hsize : i.size = size) (hby : i.bytes = bytes) (hzs : z.cells.size = size) (hsz : 0 < size)
    (v : Value) (n : Nat) (xs : List Value) (hs : a.eval s = v) (hown : w.ownsRow base e size v n xs)
    (ad : Addr) (m c : Nat) (news : List Value) (hx : a.eval x = .slice (some ad) m c) (hl : news.length = m * size) (hnews : ∀ j u, news[j]? = some u → w.cell? (ad.add j) = some u) (h1 : ∀ u ∈ news, u.oneCell' = true) (hm0 : 0 < m)
    (h63 : n + m ≤ maxLen) (hbytes : (n + m) * bytes ≤ 140737488355328) (hbase : base ≤ w.heap.size)
    (h : ∀ v' w', w'.ownsRow base e size v' (n + m) (xs ++ news) → w.grownBy w' v.ownBlock → (v'.ownBlock = v.ownBlock ∨ v'.ownBlock = some w.heap.size) → wpList P ops Q rest (a.put o.dst v') w') : wpList P ops Q (o :: rest) a w := by
  refine wpList_plain hgd fun K hK => ?_
  obtain ⟨v', w', hr, h2, h3, h4⟩ := append_at (P := P) w base t o.type e i z size bytes ht hi hz hsize hby hzs hsz v n xs hown ad m c news hl hnews h1 hm0 h63 hbytes hbase
  unfold Oper.wp execOp
  simp only [ho, resolve, invoke, builtin, Sem.run_bind, Sem.run_pure, Result.andThen_ok, List.map_toArray, List.map_cons, List.map_nil, hs, hx, hr]
  exact hK _ _ (h v' w' h2 h3 h4)
end
/-- What an append of one cell leaves, for a slice whose block may not be one other. -/
theorem app_grown {B : Nat} {e : TypeId} {size : Nat} {w wr w1 : World} {v : Value} {n : Nat} {xs : List Value} {o : Obj}
    (hB : Below B w wr) (hBw : B ≤ wr.heap.size) (hown : wr.ownsRow B e size v n xs) (hgrow : (wr.alloc o).grownBy w1 v.ownBlock) : Below B w w1 :=
  (hB.alloc hBw o).grown hgrow (by simp; omega) (fun j hj => (hown.lt j hj).1)
/-- A block that is not the slice's own stays. -/
theorem app_block {wr w1 : World} {v : Value} {o : Obj} {g : Nat} {t : TypeId} {cs : Array Value} (hb : BlockIs wr g t cs) (hgrow : (wr.alloc o).grownBy w1 v.ownBlock) (hne : v.ownBlock ≠ some g) : BlockIs w1 g t cs := by
  have h1 : BlockIs (wr.alloc o) g t cs := hb.below ((Below.refl _ _).alloc (Nat.le_refl _) o)
  exact (hgrow.block g h1.lt (fun e => hne e.symm)).trans h1
theorem app_ne {wr : World} {v v' : Value} {o : Obj} {g : Nat} (hg : g < wr.heap.size) (hne : v.ownBlock ≠ some g) (h : v'.ownBlock = v.ownBlock ∨ v'.ownBlock = some (wr.alloc o).heap.size) : v'.ownBlock ≠ some g := by
  rcases h with h | h
  · rw [h]; exact hne
  · rw [h]; intro e; injection e with e; simp at e; omega
end Go.Proofs.YtapbgmmkkngdoaaDoor

namespace Go.Proofs.YtapbgmmkkngdoaaDoor
open Go.RowKit
section
variable {w w' w1 : World} {B : Nat} {e : TypeId} {size : Nat} {v : Value} {n : Nat} {xs : List Value}
theorem own_to (h : w.ownsRow B e size v n xs) (hk : ∀ g, v.ownBlock = some g → B ≤ g → g < w.heap.size → w'.heap[g]? = w.heap[g]?) : w'.ownsRow B e size v n xs := by
  refine ⟨h.1, ?_⟩
  rcases h.2 with hn | ⟨g, cap, cur, hv, hB, hg, r⟩
  · exact .inl hn
  · exact .inr ⟨g, cap, cur, hv, hB, (hk g (by rw [hv]; rfl) hB (Array.getElem?_eq_some_iff.1 hg).1).trans hg, r⟩
theorem own_blw (h : w.ownsRow B e size v n xs) (hb : Below w.heap.size w w') : w'.ownsRow B e size v n xs := own_to h fun g _ _ hg => hb.block g hg
theorem own_low {B' : Nat} (h : w.ownsRow B' e size v n xs) (hB : B ≤ B') : w.ownsRow B e size v n xs :=
  ⟨h.1, h.2.imp id fun ⟨g, cap, cur, hv, hb, r⟩ => ⟨g, cap, cur, hv, Nat.le_trans hB hb, r⟩⟩
/-- The type of the block that a slice owns. -/
theorem own_type (h : w.ownsRow B e size v n xs) {g : Nat} (hg : v.ownBlock = some g) : g < w.heap.size ∧ B ≤ g ∧ ∃ cur, BlockIs w g e cur := by
  rcases h.2 with ⟨hv, _⟩ | ⟨g', cap, cur, hv, hB, hk, _⟩
  · rw [hv] at hg; cases hg
  · rw [hv] at hg
    have : g' = g := by injection hg
    subst this
    exact ⟨(Array.getElem?_eq_some_iff.1 hk).1, hB, cur, hk⟩
theorem type_ne {g g' : Nat} {t t' : TypeId} {cs cs' : Array Value} (h : BlockIs w g t cs) (h' : BlockIs w g' t' cs') (ht : t ≠ t') : g ≠ g' := fun e => by
  subst e
  unfold BlockIs at h h'
  rw [h] at h'
  injection h' with h'
  injection h' with _ h2 _
  exact ht h2
end
/-- A slice of slices of the call's own: where each one lies is known. -/
def OwnV (vs : List (Option Addr × Nat)) (B C : Nat) (w : World) (v : Value) (css : List (List Value)) : Prop := vs.length = css.length ∧ w.ownsRow B 29 1 v css.length (slC vs css) ∧
  (∀ (i : Nat) (h : i < css.length) (h' : i < vs.length), w.ownsRow C 3 1 (.slice vs[i].1 css[i].length vs[i].2) css[i].length css[i]) ∧
  ∀ (i j : Nat) (h : i < vs.length) (h' : j < vs.length) (a b : Addr), i ≠ j → vs[i].1 = some a → vs[j].1 = some b → a.block ≠ b.block
theorem OwnV.nil {B C : Nat} {w : World} {v : Value} (h : w.ownsRow B 29 1 v 0 []) : OwnV [] B C w v [] := ⟨rfl, h, (fun i h => by cases h), fun i j h => by cases h⟩
section
variable {vs : List (Option Addr × Nat)} {B C : Nat} {w w' w1 : World} {v v' : Value} {css : List (List Value)}
theorem OwnV.below (h : OwnV vs B C w v css) (hb : Below w.heap.size w w') : OwnV vs B C w' v css := by
  obtain ⟨h1, h2, h3, h4⟩ := h
  exact ⟨h1, own_blw h2 hb, fun i a b => own_blw (h3 i a b) hb, h4⟩
theorem OwnV.lower {C' : Nat} (h : OwnV vs B C' w v css) (hB : C ≤ C') : OwnV vs B C w v css := by
  obtain ⟨h1, h2, h3, h4⟩ := h
  exact ⟨h1, h2, fun i a b => own_low (h3 i a b) hB, h4⟩
theorem OwnV.seg (h : OwnV vs B C w v css) (hBC : B ≤ C) : ∃ A c, v = .slice A css.length c ∧ SegSS w B w.heap.size A css.length c css := by
  obtain ⟨h1, h2, h3, h4⟩ := h
  obtain ⟨A, c, rfl, hs⟩ := seg_out h2
  exact ⟨A, c, rfl, rfl, vs, h1, hs, fun i a b => Seg.of_own (own_low (h3 i a b) hBC), h4⟩
theorem OwnV.lt (h : OwnV vs B C w v css) (i : Nat) (hi : i < vs.length) {a : Addr} (ha : vs[i].1 = some a) : a.block < w.heap.size ∧ C ≤ a.block := by
  obtain ⟨h1, h2, h3, h4⟩ := h
  have := own_type (g := a.block) (h3 i (by omega) hi) (by rw [ha]; rfl)
  exact ⟨this.1, this.2.1⟩
theorem slC_snoc (vs : List (Option Addr × Nat)) (css : List (List Value)) (A : Option Addr) (c : Nat) (cs : List Value) (h : vs.length = css.length) : slC (vs ++ [(A, c)]) (css ++ [cs]) = slC vs css ++ [.slice A cs.length c] := by
  unfold slC
  rw [List.zipWith_append h]
  rfl
/-- One more slice, which lies where nothing lay, behind them. -/
theorem OwnV.push (h : OwnV vs B C w v css) (hb : Below w.heap.size w w') {g c : Nat} {cs : List Value} (hnew : w'.ownsRow C 3 1 (.slice (some ⟨g, 0, none⟩) cs.length c) cs.length cs) (hg : w.heap.size ≤ g)
    (ho : w1.ownsRow B 29 1 v' (css.length + 1) (slC vs css ++ [.slice (some ⟨g, 0, none⟩) cs.length c])) (hgr : w'.grownBy w1 v.ownBlock) : OwnV (vs ++ [(some ⟨g, 0, none⟩, c)]) B C w1 v' (css ++ [cs]) := by
  have h' := h.below hb
  have hlt := fun i hi a ha => h.lt i hi (a := a) ha
  obtain ⟨h1, h2, h3, h4⟩ := h'
  have hkeep : ∀ {u : Value} {n : Nat} {xs : List Value}, w'.ownsRow C 3 1 u n xs → w1.ownsRow C 3 1 u n xs := fun hu => own_to hu fun q hq _ hql => hgr.block q hql fun e => by
    obtain ⟨_, _, c1, t1⟩ := own_type hu hq
    obtain ⟨_, _, c2, t2⟩ := own_type h2 e.symm
    exact type_ne t1 t2 (by decide) rfl
  refine ⟨by simp [h1], ?_, ?_, ?_⟩
  · rw [slC_snoc _ _ _ _ _ h1]; simpa using ho
  · intro i hi hiv
    by_cases e : i < css.length
    · rw [List.getElem_append_left (by omega), List.getElem_append_left e]
      exact hkeep (h3 i e (by omega))
    · have : i = css.length := by simp at hi; omega
      subst this
      rw [List.getElem_append_right (by omega), List.getElem_append_right (by omega)]
      simp only [h1, Nat.sub_self, List.getElem_cons_zero]
      exact hkeep hnew
  · intro i j hi hj a b hne ha hb'
    by_cases ei : i < vs.length
    · rw [List.getElem_append_left ei] at ha
      by_cases ej : j < vs.length
      · rw [List.getElem_append_left ej] at hb'
        exact h4 i j ei ej a b hne ha hb'
      · have : j = vs.length := by simp at hj; omega
        subst this
        rw [List.getElem_append_right (by omega)] at hb'
        simp only [Nat.sub_self, List.getElem_cons_zero] at hb'
        injection hb' with hb'
        subst hb'
        have := (hlt i ei a ha).1
        show a.block ≠ g
        omega
    · have : i = vs.length := by simp at hi; omega
      subst this
      rw [List.getElem_append_right (by omega)] at ha
      simp only [Nat.sub_self, List.getElem_cons_zero] at ha
      injection ha with ha
      subst ha
      have ej : j < vs.length := by simp at hj; omega
      rw [List.getElem_append_left ej] at hb'
      have := (hlt j ej b hb').1
      show g ≠ b.block
      omega
theorem slC_set (vs : List (Option Addr × Nat)) (css : List (List Value)) (h : vs.length = css.length) (m : Nat) (A : Option Addr) (c : Nat) (cs : List Value) : (slC vs css).set m (.slice A cs.length c) = slC (vs.set m (A, c)) (css.set m cs) := by
  apply List.ext_getElem
  · rw [List.length_set, slC_len h, slC_len (by simpa using h)]; simp
  · intro i h1 h2
    rw [List.length_set, slC_len h] at h1
    rw [slC_get (by simpa using h) (by simpa using h1), List.getElem_set]
    by_cases e : m = i
    · subst e; simp
    · rw [if_neg e, slC_get h h1]
      simp [e]
theorem take_setv {cur : Array Value} {n i : Nat} {cs : List Value} (h : cur.toList.take n = cs) (hi : i < n) (v : Value) : (cur.setIfInBounds i v).toList.take n = cs.set i v := by
  subst h
  apply List.ext_getElem?
  intro j
  by_cases hj : j < n
  · rw [List.getElem?_take, if_pos hj, Array.getElem?_toList, Array.getElem?_setIfInBounds, List.getElem?_set]
    by_cases e : i = j
    · subst e
      by_cases hc : i < cur.size
      · simp [hc]; omega
      · simp [hc]; omega
    · rw [if_neg e, if_neg e, List.getElem?_take, if_pos hj, Array.getElem?_toList]
  · rw [List.getElem?_eq_none (by simp; omega), List.getElem?_eq_none (by simp; omega)]
/-- One of them is made longer, and stored where it stood. -/
theorem OwnV.ext (h : OwnV vs B C w v css) {g cap : Nat} (hv : v = .slice (some ⟨g, 0, none⟩) css.length cap) {m : Nat} (hm : m < css.length) (o : Obj) {A' : Option Addr} {c' : Nat} {cs : List Value}
    (ho : w1.ownsRow C 3 1 (.slice A' cs.length c') cs.length cs) (hgr : (w.alloc o).grownBy w1 (Value.slice (vs[m]'(by have := h.1; omega)).1 css[m].length (vs[m]'(by have := h.1; omega)).2).ownBlock)
    (hob : (Value.slice A' cs.length c').ownBlock = (Value.slice (vs[m]'(by have := h.1; omega)).1 css[m].length (vs[m]'(by have := h.1; omega)).2).ownBlock ∨ (Value.slice A' cs.length c').ownBlock = some (w.alloc o).heap.size) :
    OwnV (vs.set m (A', c')) B C (w1.setCell ⟨g, m, none⟩ (.slice A' cs.length c')) v (css.set m cs) ∧ w1.cell? ⟨g, m, none⟩ = some (.slice (vs[m]'(by have := h.1; omega)).1 css[m].length (vs[m]'(by have := h.1; omega)).2) ∧ w1.frozen? ⟨g, m, none⟩ = false ∧ B ≤ g := by
  have hlt := fun i hi a ha => h.lt i hi (a := a) ha
  obtain ⟨h1, h2, h3, h4⟩ := h
  have hself := h3 m hm (by omega)
  subst hv
  obtain ⟨hgl, hgB, _, htp⟩ := own_type (g := g) h2 rfl
  -- the outer block stays through the append
  have hkeep : ∀ q, q < w.heap.size → (∀ a, (vs[m]'(by omega)).1 = some a → a.block ≠ q) → w1.heap[q]? = w.heap[q]? := fun q hq hne => by
    have hq' : q < (w.alloc o).heap.size := by simp; omega
    have e1 : (w.alloc o).heap[q]? = w.heap[q]? := ((Below.refl w.heap.size w).alloc (Nat.le_refl _) o).block q hq
    refine (hgr.block q hq' fun e => ?_).trans e1
    cases ha : (vs[m]'(by omega)).1 with
    | none => rw [ha] at e; cases e
    | some a =>
      rw [ha] at e
      exact hne a ha (by injection e with e; exact e.symm)
  have hgo : w1.heap[g]? = w.heap[g]? := hkeep g hgl fun a ha e => by
    obtain ⟨_, _, c1, t1⟩ := own_type (g := a.block) hself (by rw [ha]; rfl)
    rw [e] at t1
    exact type_ne t1 htp (by decide) rfl
  have h2' : w1.ownsRow B 29 1 (.slice (some ⟨g, 0, none⟩) css.length cap) css.length (slC vs css) := own_to h2 fun q hq _ _ => by
    have : g = q := by injection hq
    rw [← this]; exact hgo
  obtain ⟨g', cur, hA, hgb, hB, hn, hc, hs, ht⟩ := own_block h2' (by omega)
  injection hA with hA
  injection hA with hA _ _
  subst hA
  have hcell : cur[m]? = some (.slice (vs[m]'(by omega)).1 css[m].length (vs[m]'(by omega)).2) := by
    have := congrArg (fun l : List Value => l[m]?) ht
    simp only [Nat.mul_one] at this
    rw [List.getElem?_take, if_pos hm, Array.getElem?_toList, List.getElem?_eq_getElem (by rw [slC_len h1]; exact hm), slC_get h1 hm] at this
    exact this
  refine ⟨⟨by simp [h1], ?_, ?_, ?_⟩, ?_, hB.frozen m, hgB⟩
  · rw [← slC_set vs css h1 m]
    have hset := hB.set m (.slice A' cs.length c')
    have := hset.own (base := B) (n := css.length) (c := cap) (size := 1) hgb (by simpa using hs) hn hc (by simp only [Array.size_setIfInBounds]; omega)
    rw [Nat.mul_one, take_setv (cs := slC vs css) (show cur.toList.take css.length = slC vs css by rw [Nat.mul_one] at ht; exact ht) hm] at this
    simpa using this
  · intro i hi hiv
    simp only [List.length_set] at hi hiv
    have hstep : ∀ {u : Value} {n : Nat} {xs : List Value}, w1.ownsRow C 3 1 u n xs → (w1.setCell ⟨g, m, none⟩ (.slice A' cs.length c')).ownsRow C 3 1 u n xs := fun hu => own_to hu fun q hq _ _ => by
      obtain ⟨_, _, c1, t1⟩ := own_type hu hq
      exact Below.heap_setCell _ _ _ _ (type_ne t1 hB (by decide))
    by_cases e : m = i
    · subst e
      simp only [List.getElem_set_self]
      exact hstep ho
    · rw [List.getElem_set_ne e, List.getElem_set_ne e]
      refine hstep (own_to (h3 i hi hiv) fun q hq _ hql => hkeep q hql fun a ha e' => ?_)
      cases hb : vs[i].1 with
      | none => rw [hb] at hq; cases hq
      | some b =>
        rw [hb] at hq
        have : b.block = q := by injection hq
        exact h4 m i (by omega) hiv a b e ha hb (by omega)
  · intro i j hi hj a b hne ha hb
    simp only [List.length_set] at hi hj
    have hnew : ∀ q (hq : q < vs.length) (b : Addr), q ≠ m → vs[q].1 = some b → ∀ a', A' = some a' → a'.block ≠ b.block := fun q hq b hqm hb a' ha' e' => by
      rcases hob with e | e
      · rw [ha'] at e
        cases hm' : (vs[m]'(by omega)).1 with
        | none => rw [hm'] at e; cases e
        | some am =>
          rw [hm'] at e
          have : a'.block = am.block := by injection e
          exact h4 m q (by omega) hq am b (fun x => hqm x.symm) hm' hb (by omega)
      · rw [ha'] at e
        have : a'.block = (w.alloc o).heap.size := by injection e
        have := (hlt q hq b hb).1
        simp at *
        omega
    by_cases ei : m = i
    · subst ei
      rw [List.getElem_set_self] at ha
      rw [List.getElem_set_ne hne] at hb
      exact hnew j hj b (fun x => hne x.symm) hb a ha
    · rw [List.getElem_set_ne ei] at ha
      by_cases ej : m = j
      · subst ej
        rw [List.getElem_set_self] at hb
        exact fun e' => hnew i hi a (fun x => hne x) ha b hb e'.symm
      · rw [List.getElem_set_ne ej] at hb
        exact h4 i j hi hj a b hne ha hb
  · rw [hB.cell]; exact hcell
end
end Go.Proofs.YtapbgmmkkngdoaaDoor

namespace Go.Proofs.YtapbgmmkkngdoaaDoor
open Go.RowKit
theorem step_app {P : Program} {ops : Array Oper} {o : Oper} {a : Act} {w w' : World} {K : Act → World → Prop} {Q : Exit → Act → World → Prop} {E : Prop} (hg : o.guard = none) (s x : Operand) (t : TypeId)
    (hop : o.op = Op.call { callee := Callee.builtin Builtin.append, args := #[s, x], argTypes := #[t, t] }) (v u r : Value) (hs : a.eval s = v) (hx : a.eval x = u) (hr : (Builtin.append_ #[t, t] o.type #[v, u]).run P w = .ok r w') (hK : K (a.put o.dst r) w') :
    if Region.wanted o (yielded ops a.tmps) = true then Oper.wp P o a w K Q else E := by
  have hw : Region.wanted o (yielded ops a.tmps) = true := by simp [Region.wanted, hg]
  rw [if_pos hw]
  unfold Oper.wp
  simp [execOp, hop, resolve, invoke, builtin, hs, hx, hr, Result.andThen]
  exact hK
theorem wpList_app {P : Program} {ops : Array Oper} {rest : List Oper} {o : Oper} {a : Act} {w w' : World} {Q : Exit → Act → World → Prop} (hgd : o.guard = none) (s x : Operand) (t : TypeId)
    (ho : o.op = .call { callee := .builtin .append, args := #[s, x], argTypes := #[t, t] }) (v u r : Value) (hs : a.eval s = v) (hx : a.eval x = u) (hr : (Builtin.append_ #[t, t] o.type #[v, u]).run P w = .ok r w')
    (h : wpList P ops Q rest (a.put o.dst r) w') : wpList P ops Q (o :: rest) a w := by
  refine wpList_plain hgd fun K hK => ?_
  unfold Oper.wp execOp
  simp only [ho, resolve, invoke, builtin, Sem.run_bind, Sem.run_pure, Result.andThen_ok, List.map_toArray, List.map_cons, List.map_nil, hs, hx, hr]
  exact hK _ _ h
theorem row_srcS {w : World} {ad : Addr} {cs : List Value} (h : Row w (some ad) cs) : ∀ j u, cs[j]? = some u → w.cell? (ad.add j) = some u := by
  intro j u hu
  obtain ⟨a', h1, _, h3⟩ := h (Nat.lt_of_le_of_lt (Nat.zero_le _) (List.getElem?_eq_some_iff.1 hu).1)
  obtain rfl := Option.some.inj h1
  exact h3 j u hu
theorem infoIS : (Tryd.prog.info? 3).map (fun i => (i.zero, i.size, i.bytes)) = some (some (.int .i64 0), 1, 8) := by kernel_rfl
theorem infoSS : (Tryd.prog.info? 29).map (fun i => (i.zero, i.size, i.bytes)) = some (some (.slice none 0 0), 1, 24) := by kernel_rfl
def csS (gs : List (List Nat)) : List (List Value) := gs.map fun g => ic (gs1 g) where gs1 (g : List Nat) : List Int := g.map Int.ofNat
theorem csS_len (gs : List (List Nat)) : (csS gs).length = gs.length := by unfold csS; simp
theorem csS_snoc (gs : List (List Nat)) (g : List Nat) : csS (gs ++ [g]) = csS gs ++ [ic (g.map Int.ofNat)] := by unfold csS csS.gs1; simp
/-- A block of ints that lay below a bound is as it was. -/
def KeepInt (C : Nat) (w w' : World) : Prop := ∀ g cs, g < C → BlockIs w g 3 cs → BlockIs w' g 3 cs
/-- Where a slice of them lies. -/
theorem OwnV.at_ {w : World} {vs : List (Option Addr × Nat)} {B C g cap : Nat} {css : List (List Value)} (h : OwnV vs B C w (.slice (some ⟨g, 0, none⟩) css.length cap) css) {m : Nat} (hm : m < css.length) :
    w.cell? ⟨g, m, none⟩ = some (.slice (vs[m]'(by have := h.1; omega)).1 css[m].length (vs[m]'(by have := h.1; omega)).2) := by
  have h1 := h.1
  have hr := Row.of_own h.2.1
  have := hr.cell0 (k := m) (by rw [slC_len h1]; exact hm)
  rw [this]
  exact congrArg some (slC_get h1 hm)
/-- One number more behind one of them. -/
theorem ext_at {w0 w : World} {C : Nat} {vs : List (Option Addr × Nat)} {g cap : Nat} {css : List (List Value)} (h : OwnV vs w0.heap.size C w (.slice (some ⟨g, 0, none⟩) css.length cap) css) (hBC : w0.heap.size ≤ C) (hC : C ≤ w.heap.size) (hb : Below w0.heap.size w0 w) (x : Int) {m : Nat} (hm : m < css.length) (hn : css[m].length ≤ 100) :
    ∃ v' w2 vs', (Builtin.append_ #[29, 29] 29 #[.slice (vs[m]'(by have := h.1; omega)).1 css[m].length (vs[m]'(by have := h.1; omega)).2, .slice (some ⟨w.heap.size, 0, none⟩) 1 1]).run Tryd.prog (w.alloc (.cells #[.int .i64 x] 3)) = .ok v' w2 ∧
      OwnV vs' w0.heap.size C (w2.setCell ⟨g, m, none⟩ v') (.slice (some ⟨g, 0, none⟩) css.length cap) (css.set m (css[m] ++ [.int .i64 x])) ∧ (∃ old, w2.cell? ⟨g, m, none⟩ = some old) ∧ w2.frozen? ⟨g, m, none⟩ = false ∧ (∃ A' n' c', v' = .slice A' n' c') ∧ Below w0.heap.size w0 (w2.setCell ⟨g, m, none⟩ v') ∧ KeepInt C w (w2.setCell ⟨g, m, none⟩ v') ∧ w.heap.size ≤ w2.heap.size := by
  obtain ⟨i0, hi, hz0, hz1, hz2⟩ := info_parts infoIS
  have h1 := h.1
  have hsz := hb.size
  have hb1 := hb.alloc hsz (.cells #[.int .i64 x] 3)
  have hbw : Below w.heap.size w (w.alloc (.cells #[.int .i64 x] 3)) := (Below.refl _ w).alloc (Nat.le_refl _) _
  have h2 := own_blw (h.2.2.1 m hm (by omega)) hbw
  have hsrc := row_srcS (Row.new w 3 #[.int .i64 x])
  obtain ⟨v', w2, hrun, ho2, hgr, hob⟩ := append_at (P := Tryd.prog) (w.alloc (.cells #[.int .i64 x] 3)) C 29 29 3 i0 (.int .i64 0) 1 8 Tryd.underlying29 hi hz0 hz1 hz2 rfl (by decide) _ _ _ h2 ⟨w.heap.size, 0, none⟩ 1 1 [.int .i64 x] rfl hsrc (by intro u hu; simp at hu; subst hu; rfl) (by omega) (by unfold maxLen; omega) (by omega) (by simp; omega)
  obtain ⟨A', c', rfl, _⟩ := own_slice ho2
  have hL : css[m].length + 1 = (css[m] ++ [Value.int .i64 x]).length := by simp
  rw [hL] at ho2 hob hrun
  obtain ⟨hV, hc, hf, hgB⟩ := OwnV.ext h rfl hm (.cells #[.int .i64 x] 3) ho2 hgr hob
  have hb2 : Below w0.heap.size w0 w2 := hb1.grown hgr hb1.size (fun j hj => Nat.le_trans hBC (h2.lt j hj).1)
  have hgo := own_type (g := g) h.2.1 rfl
  have hkeep : KeepInt C w (w2.setCell ⟨g, m, none⟩ (.slice A' (css[m] ++ [Value.int .i64 x]).length c')) := fun q cs hq hB => by
    have hB1 := hB.below hbw
    have hB2 : BlockIs w2 q 3 cs := (hgr.block q hB1.lt fun e => by have := (h2.lt q e.symm).1; omega).trans hB1
    obtain ⟨_, _, c1, t1⟩ := hgo
    exact (Below.heap_setCell _ _ _ _ (type_ne hB t1 (by decide))).trans hB2
  have hsz2 : w.heap.size ≤ w2.heap.size := Nat.le_trans hbw.size hgr.size
  exact ⟨_, w2, _, hrun, hV, ⟨_, hc⟩, hf, ⟨_, _, _, rfl⟩, hb2.setCell (p := ⟨g, m, none⟩) hgB _, hkeep, hsz2⟩
/-- One number more behind the last of them. -/
theorem ext_last {w0 w : World} {C : Nat} {vs : List (Option Addr × Nat)} {g cap n : Nat} {css : List (List Value)} {cs : List Value} (h : OwnV vs w0.heap.size C w (.slice (some ⟨g, 0, none⟩) (n + 1) cap) (css ++ [cs])) (hBC : w0.heap.size ≤ C) (hC : C ≤ w.heap.size) (hl : css.length = n) (hb : Below w0.heap.size w0 w) (x : Int) (hn : cs.length ≤ 100) :
    ∃ A' c', w.cell? ⟨g, n, none⟩ = some (.slice A' cs.length c') ∧ g < w.heap.size ∧ ∃ v' w2 vs', (Builtin.append_ #[29, 29] 29 #[.slice A' cs.length c', .slice (some ⟨w.heap.size, 0, none⟩) 1 1]).run Tryd.prog (w.alloc (.cells #[.int .i64 x] 3)) = .ok v' w2 ∧
      OwnV vs' w0.heap.size C (w2.setCell ⟨g, n, none⟩ v') (.slice (some ⟨g, 0, none⟩) (n + 1) cap) (css ++ [cs ++ [.int .i64 x]]) ∧ (∃ old, w2.cell? ⟨g, n, none⟩ = some old) ∧ w2.frozen? ⟨g, n, none⟩ = false ∧ (∃ A' n' c', v' = .slice A' n' c') ∧ Below w0.heap.size w0 (w2.setCell ⟨g, n, none⟩ v') ∧ KeepInt C w (w2.setCell ⟨g, n, none⟩ v') ∧ w.heap.size ≤ w2.heap.size := by
  subst hl
  have hL : css.length + 1 = (css ++ [cs]).length := by simp
  rw [hL] at h
  have hm : css.length < (css ++ [cs]).length := by simp
  have hat : (css ++ [cs])[css.length]'hm = cs := by rw [List.getElem_append_right (Nat.le_refl _)]; simp
  have hc := h.at_ hm
  have hg := (own_type (g := g) h.2.1 rfl).1
  obtain ⟨v', w2, vs', hrun, hV, ho, hf, hv, hb2, hk2, hz2⟩ := ext_at h hBC hC hb x hm (by rw [hat]; exact hn)
  rw [hat] at hc hrun hV
  rw [← hL, show (css ++ [cs]).set css.length (cs ++ [Value.int .i64 x]) = css ++ [cs ++ [Value.int .i64 x]] by rw [List.set_append_right _ _ (Nat.le_refl _)]; simp] at hV
  exact ⟨_, _, hc, hg, v', w2, vs', hrun, hV, ho, hf, hv, hb2, hk2, hz2⟩
end Go.Proofs.YtapbgmmkkngdoaaDoor

namespace Go.Proofs.YtapbgmmkkngdoaaDoor
open Go.RowKit
def rowB (n : Nat) (f : Nat → Bool) : Array Value := ((List.range n).map fun j => Value.bool (f j)).toArray
theorem rowB_size (n : Nat) (f : Nat → Bool) : (rowB n f).size = n := by unfold rowB; simp
theorem rowB_at {n : Nat} {f : Nat → Bool} {j : Nat} (h : j < n) : (rowB n f)[j]? = some (.bool (f j)) := by unfold rowB; simp [h]
theorem rowB_set (n : Nat) (f : Nat → Bool) (j : Nat) (b : Bool) : (rowB n f).setIfInBounds j (.bool b) = rowB n (fun i => if i = j then b else f i) := by
  apply Array.ext_getElem?
  intro i
  rw [Array.getElem?_setIfInBounds]
  by_cases h : i < n
  · rw [rowB_at h, rowB_at h]
    by_cases e : j = i
    · subst e; simp [rowB_size, h]
    · have e' : ¬ i = j := fun x => e x.symm
      rw [if_neg e, if_neg e']
  · have h1 : (rowB n f)[i]? = none := Array.getElem?_eq_none (by rw [rowB_size]; omega)
    have h2 : (rowB n fun i => if i = j then b else f i)[i]? = none := Array.getElem?_eq_none (by rw [rowB_size]; omega)
    rw [h1, h2, rowB_size]
    by_cases e : j = i
    · subst e; rw [if_pos rfl, if_neg h]
    · rw [if_neg e]
theorem rowB_made (n : Nat) : madeCells #[.bool false] n = rowB n (fun _ => false) := by
  apply Array.ext
  · rw [size_madeCells, rowB_size]
  · intro i h1 h2
    simp [madeCells, rowB, Nat.mod_one]
theorem infoBo : (Tryd.prog.info? 4).map (fun i => (i.zero, i.size, i.bytes)) = some (some (.bool false), 1, 1) := by kernel_rfl
theorem infoSB : (Tryd.prog.info? 68).map (fun i => (i.zero, i.size, i.bytes)) = some (some (.slice none 0 0), 1, 24) := by kernel_rfl
def refsB (n : Nat) (gs : List Nat) : List Value := gs.map fun g => .slice (some ⟨g, 0, none⟩) n n
/-- A table of bools of one's own: m rows of n. -/
def TabR (B n : Nat) (T : Nat → Nat → Bool) (gs : List Nat) (v : Value) (w : World) : Prop := w.ownsRow B 68 1 v gs.length (refsB n gs) ∧
  (∀ i (h : i < gs.length), BlockIs w gs[i] 4 (rowB n (T i)) ∧ B ≤ gs[i]) ∧ gs.Nodup
section
variable {B n : Nat} {T : Nat → Nat → Bool} {gs : List Nat} {v : Value} {w w' : World}
theorem TabR.below (h : TabR B n T gs v w) (hb : Below w.heap.size w w') : TabR B n T gs v w' :=
  ⟨own_blw h.1 hb, fun i hi => ⟨(h.2.1 i hi).1.below hb, (h.2.1 i hi).2⟩, h.2.2⟩
theorem TabR.drew (h : TabR B n T gs v w) : TabR B n T gs v w.drew := h
theorem TabR.congr {U : Nat → Nat → Bool} (h : TabR B n T gs v w) (he : ∀ i j, i < gs.length → j < n → T i j = U i j) : TabR B n U gs v w :=
  ⟨h.1, fun i hi => ⟨by
    have := (h.2.1 i hi).1
    have e : rowB n (T i) = rowB n (U i) := by
      apply Array.ext
      · rw [rowB_size, rowB_size]
      · intro j h1 h2
        rw [rowB_size] at h1
        have a := rowB_at (f := T i) h1
        have b := rowB_at (f := U i) h1
        rw [Array.getElem?_eq_getElem (by rw [rowB_size]; exact h1)] at a b
        injection a with a
        injection b with b
        rw [a, b, he i j hi h1]
    rw [← e]; exact this, (h.2.1 i hi).2⟩, h.2.2⟩
/-- Where a row lies, and what is in it. -/
theorem TabR.at_ (h : TabR B n T gs v w) {i : Nat} (hi : i < gs.length) : ∃ g c q, v = .slice (some ⟨g, 0, none⟩) gs.length c ∧ gs[i] = q ∧ w.cell? ⟨g, i, none⟩ = some (.slice (some ⟨q, 0, none⟩) n n) ∧ BlockIs w q 4 (rowB n (T i)) ∧ B ≤ q ∧ g ≠ q ∧ ∀ j, j < n → w.cell? ⟨q, j, none⟩ = some (.bool (T i j)) := by
  obtain ⟨A, c, rfl, _, hr⟩ := own_slice h.1
  obtain ⟨g, cur, rfl, _, hB, _⟩ := own_block h.1 (by omega)
  have hb := (h.2.1 i hi).1
  refine ⟨g, c, gs[i], rfl, rfl, ?_, hb, (h.2.1 i hi).2, type_ne hB hb (by decide), fun j hj => (hb.cell j).trans (rowB_at hj)⟩
  have := hr.cell0 (k := i) (by unfold refsB; simpa using hi)
  rw [this]
  simp [refsB]
/-- One entry is set. -/
theorem TabR.set (h : TabR B n T gs v w) {i j : Nat} (hi : i < gs.length) (b : Bool) : TabR B n (fun x y => if x = i ∧ y = j then b else T x y) gs v (w.setCell ⟨gs[i], j, none⟩ (.bool b)) := by
  have hbi := (h.2.1 i hi).1
  refine ⟨own_to h.1 fun q hq _ _ => ?_, fun x hx => ⟨?_, (h.2.1 x hx).2⟩, h.2.2⟩
  · obtain ⟨_, _, c1, t1⟩ := own_type h.1 hq
    exact Below.heap_setCell _ _ _ _ (type_ne t1 hbi (by decide))
  · by_cases e : x = i
    · subst e
      have := hbi.set j (.bool b)
      rw [rowB_set] at this
      simpa using this
    · have hne : gs[x] ≠ gs[i] := fun h' => e ((List.getElem_inj h.2.2 (h₀ := hx) (h₁ := hi)).1 h')
      have := (h.2.1 x hx).1.away hne j (.bool b)
      simpa [e] using this
/-- One more row behind them, freshly made. -/
theorem TabR.push {w0 : World} (h : TabR w0.heap.size n (fun _ _ => false) gs v w) (hb : Below w0.heap.size w0 w) (hl : gs.length ≤ 1000) :
    ∃ v' w3, (Builtin.append_ #[66, 66] 66 #[v, .slice (some ⟨w.heap.size + 1, 0, none⟩) 1 1]).run Tryd.prog ((w.alloc (.cells (rowB n fun _ => false) 4)).alloc (.cells #[.slice (some ⟨w.heap.size, 0, none⟩) n n] 68)) = .ok v' w3 ∧
      TabR w0.heap.size n (fun _ _ => false) (gs ++ [w.heap.size]) v' w3 ∧ Below w0.heap.size w0 w3 := by
  obtain ⟨i1, hj, hy0, hy1, hy2⟩ := info_parts infoSB
  have hsz := hb.size
  have hb1 := hb.alloc hsz (.cells (rowB n fun _ => false) 4)
  have hb2 := hb1.alloc hb1.size (.cells #[.slice (some ⟨w.heap.size, 0, none⟩) n n] 68)
  have hbw : Below w.heap.size w ((w.alloc (.cells (rowB n fun _ => false) 4)).alloc (.cells #[.slice (some ⟨w.heap.size, 0, none⟩) n n] 68)) := ((Below.refl _ w).alloc (Nat.le_refl _) _).alloc (by simp) _
  have h2 := h.below hbw
  have hs1 : (w.alloc (.cells (rowB n fun _ => false) 4)).heap.size = w.heap.size + 1 := by simp
  have hsrc := row_srcS (Row.new (w.alloc (.cells (rowB n fun _ => false) 4)) 68 #[.slice (some ⟨w.heap.size, 0, none⟩) n n])
  rw [hs1] at hsrc
  have hnw := (BlockIs.new w 4 (rowB n fun _ => false)).below ((Below.refl _ _).alloc (Nat.le_refl _) (.cells #[.slice (some ⟨w.heap.size, 0, none⟩) n n] 68))
  obtain ⟨v', w3, hrun, ho3, hgr, _⟩ := append_at (P := Tryd.prog) ((w.alloc (.cells (rowB n fun _ => false) 4)).alloc (.cells #[.slice (some ⟨w.heap.size, 0, none⟩) n n] 68)) w0.heap.size 66 66 68 i1 (.slice none 0 0) 1 24 Tryd.underlying66 hj hy0 hy1 hy2 rfl (by decide) _ _ _ h2.1 ⟨w.heap.size + 1, 0, none⟩ 1 1 [.slice (some ⟨w.heap.size, 0, none⟩) n n] rfl hsrc (by intro u hu; simp at hu; subst hu; rfl) (by omega) (by unfold maxLen; omega) (by omega) hb2.size
  have hkeep : ∀ q cs, BlockIs ((w.alloc (.cells (rowB n fun _ => false) 4)).alloc (.cells #[.slice (some ⟨w.heap.size, 0, none⟩) n n] 68)) q 4 cs → BlockIs w3 q 4 cs := fun q cs hB => by
    refine (hgr.block q hB.lt fun e => ?_).trans hB
    obtain ⟨_, _, c1, t1⟩ := own_type h2.1 e.symm
    exact type_ne hB t1 (by decide) rfl
  refine ⟨v', w3, hrun, ⟨?_, fun i hi => ?_, ?_⟩, hb2.grown hgr hb2.size (fun j hj => (h2.1.lt j hj).1)⟩
  · unfold refsB at ho3 ⊢
    simpa using ho3
  · by_cases e : i < gs.length
    · rw [List.getElem_append_left e]
      exact ⟨hkeep _ _ (h2.2.1 i e).1, (h2.2.1 i e).2⟩
    · have e' : i = gs.length := by simp at hi; omega
      subst e'
      rw [List.getElem_append_right (Nat.le_refl _)]
      simp only [Nat.sub_self, List.getElem_cons_zero]
      exact ⟨hkeep _ _ hnw, hsz⟩
  · rw [List.nodup_append]
    refine ⟨h.2.2, by simp, fun a ha b hb' => ?_⟩
    obtain ⟨i, hi, rfl⟩ := List.getElem_of_mem ha
    have := (h.2.1 i hi).1.lt
    simp at hb'
    omega
end
end Go.Proofs.YtapbgmmkkngdoaaDoor

namespace Go.Proofs.YtapbgmmkkngdoaaDoor
open Go.RowKit
theorem edB_takeT (E : List Ed) {k : Nat} (hk : k < E.length) (i j : Nat) : edB (E.take (k + 1)) i j = (edB (E.take k) i j || decide (((i : Int), (j : Int)) = E[k])) := by
  unfold edB
  rw [List.take_succ_eq_append_getElem hk, Bool.eq_iff_iff, Bool.or_eq_true, List.contains_iff_mem, List.contains_iff_mem, decide_eq_true_iff, List.mem_append, List.mem_singleton]
theorem edB_step (E : List Ed) {k a b : Nat} (hk : k < E.length) (he : E[k] = ((a : Int), (b : Int))) (i j : Nat) : (if i = a ∧ j = b then true else edB (E.take k) i j) = edB (E.take (k + 1)) i j := by
  rw [edB_takeT E hk, he]
  by_cases h : i = a ∧ j = b
  · obtain ⟨rfl, rfl⟩ := h
    rw [if_pos ⟨rfl, rfl⟩]; simp
  · rw [if_neg h]
    have : decide (((i : Int), (j : Int)) = ((a : Int), (b : Int))) = false := decide_eq_false (by rw [Prod.mk.injEq]; omega)
    rw [this, Bool.or_false]
theorem edB_none (E : List Ed) (i j : Nat) : edB (E.take 0) i j = false := by simp [edB]
/-- Good pairs, as numbers. -/
def EdsIn (n : Nat) (E : List Pr) : Prop := ∀ k (h : k < E.length), ∃ a b : Nat, E[k] = ((a : Int), (b : Int)) ∧ a < n ∧ b < n
theorem edsIn_of {n : Nat} {E : List Pr} (hp : pairsTo n E E.length = true) : EdsIn n E := fun k hk => by
  have h1 := pairsTo_at hp hk
  unfold edOk at h1
  rw [getD_at E (0, 0) hk, Bool.and_eq_true, decide_eq_true_eq] at h1
  exact ⟨E[k].1.toNat, E[k].2.toNat, Prod.ext (by simp; omega) (by simp; omega), by omega, by omega⟩
set_option maxRecDepth 100000 in
set_option maxHeartbeats 4000000 in
theorem l4Table_any (A : Option Addr) (c n : Nat) (E : List Pr) (w : World) (hr : Row w A (pc E)) (hl : E.length ≤ 10000000) (hn : n ≤ 8) (hE : EdsIn n E) :
    Calls Tryd.prog 47 #[.int .i64 (n : Int), .slice A E.length c] w fun e w' => ∃ gs v, e = .returned v ∧ TabR w.heap.size n (tabB n E) gs v w' ∧ gs.length = n ∧ Below w.heap.size w w' := by
  have hmk : ∀ w : World, (Instr.makeSlice 68 (.int .i64 (n : Int)) (.int .i64 (n : Int))).run Tryd.prog w = .ok (.slice (some ⟨w.heap.size, 0, none⟩) n n) (w.alloc (.cells (rowB n fun _ => false) 4)) := fun w => by
    rw [← rowB_made]
    exact run_make_row' (P := Tryd.prog) 68 4 (.bool false) 1 Tryd.underlying68 infoBo rfl .i64 .i64 n (by omega) (by omega) w
  have hb0 := (Below.refl w.heap.size w).alloc (Nat.le_refl _) (.cells #[] 68)
  have h0 : (w.alloc (.cells #[] 68)).ownsRow w.heap.size 68 1 (.slice (some ⟨w.heap.size, 0, none⟩) 0 0) 0 [] := World.ownsRow_made w #[] 0 (Nat.le_refl _) (by unfold maxLen; omega) rfl
  have H0 := Lib.hid (And.intro hb0 h0)
  clear hb0 h0
  go_enter Tryd.func47, Tryd.ntmps47
  go_wp2
  go_loopw [5, 6] (fun v i wr => ∃ (k : Nat) (gs : List Nat) (V : Value), k ≤ n ∧ i = .int .i64 (k : Int) ∧ V = v ∧ Hid (gs.length = k) ∧ Hid (TabR w.heap.size n (fun _ _ => false) gs V wr) ∧ Hid (Below w.heap.size w wr)) (fun _ i _ => n - (intOf i).toNat)
  case atStart => exact ⟨0, [], _, Nat.zero_le _, rfl, rfl, rfl, ⟨H0.out.2, ⟨fun i h => absurd h (Nat.not_lt_zero _), List.nodup_nil⟩⟩, H0.out.1⟩
  case round =>
    obtain ⟨k, gs, V, hk, rfl, rfl, hgl, hTb, hb⟩ := hrel
    clear H0
    by_cases hlt : k < n
    · obtain ⟨v', w3, hrun, hT3, hb3⟩ := TabR.push hTb.out hb.out (by rw [hgl.out]; omega)
      have HRUN := Lib.hid hrun
      have HF := Lib.hid (And.intro hT3 hb3)
      have HL : Hid ((gs ++ [wr.heap.size]).length = k + 1) := by show _ = _; rw [List.length_append, hgl.out]; rfl
      clear hrun hT3 hb3 hTb hb hgl
      go_wp2_with (at_builtin; refine wpList_app rfl _ _ _ rfl _ _ _ rfl rfl HRUN.out ?_; clear HRUN)
      go_roundw
      case rel => exact ⟨k + 1, _, _, by omega, by go_num, rfl, HL, HF.out.1, HF.out.2⟩
      case measure => simp [intOf]; omega
    · obtain rfl : k = n := by omega
      clear hmk
      go_wp2
      have HT0 : Hid (TabR w.heap.size k (edB (E.take 0)) gs V wr) := hTb.out.congr fun i j _ _ => (edB_none E i j).symm
      clear hTb
      obtain ⟨wo, rfl⟩ : ∃ wo : World, wo = wr := ⟨_, rfl⟩
      go_loopw [7] (fun i wr => ∃ x : Nat, x ≤ E.length ∧ i = .int .i64 (x : Int) ∧ Hid (TabR w.heap.size k (edB (E.take x)) gs V wr) ∧ Hid (Below w.heap.size w wr)) (fun i _ => E.length - (intOf i).toNat)
      case atStart => exact ⟨0, Nat.zero_le _, rfl, HT0, hb⟩
      case round =>
        clear HT0 hb
        obtain ⟨x, hx, rfl, hTb, hb⟩ := hrel
        by_cases hlt : x < E.length
        · obtain ⟨ad, hA, hbl, hc0, hc1⟩ := (hr.below hb.out).pair hlt
          subst hA
          obtain ⟨a, b, hab, ha, hbk⟩ := hE x hlt
          obtain ⟨g, cc, q, hV, hq, hcell, hBq, hqB, hgq, hrow⟩ := hTb.out.at_ (i := a) (by rw [hgl.out]; exact ha)
          subst hV
          have hfz := hBq.frozen b
          have hcb := hrow b hbk
          have HN := Lib.hid ((hTb.out.set (i := a) (j := b) (by rw [hgl.out]; exact ha) true).congr fun i j _ _ => edB_step E hlt hab i j)
          rw [hq] at HN
          have HB := Lib.hid (hb.out.setCell (p := ⟨q, b, none⟩) hqB (.bool true))
          rw [hab] at hc0 hc1
          simp only at hc0 hc1
          have ha0 : (0 : Int) ≤ a := by omega
          have ha1 : (a : Int) < gs.length := by rw [hgl.out]; omega
          have hb0 : (0 : Int) ≤ b := by omega
          have hb1 : (b : Int) < k := by omega
          clear hTb hb hBq hrow hq hab hgq hr
          generalize edB (E.take x) a b = old at *
          go_wp2
          go_still_tail 14, (by kernel_rfl)
          change wpList _ _ _ _ _ wr.drew
          go_wp2
          go_roundw
          case rel => exact ⟨x + 1, by omega, by go_num, HN.out.drew, HB.out.drew⟩
          case measure => simp [intOf]; omega
        · obtain rfl : x = E.length := by omega
          rw [List.take_length] at hTb
          go_wp2
          obtain ⟨w1, rfl⟩ : ∃ w1 : World, w1 = wr := ⟨_, rfl⟩
          go_loopw [8] (fun kv wr => ∃ z : Nat, z ≤ k ∧ kv = .int .i64 (z : Int) ∧ Hid (TabR w.heap.size k (tabTo E z) gs V wr) ∧ Hid (Below w.heap.size w wr)) (fun kv _ => k - (intOf kv).toNat)
          case atStart => exact ⟨0, Nat.zero_le _, rfl, hTb, hb⟩
          case round =>
            clear hTb hb
            obtain ⟨z, hz, rfl, hTb, hb⟩ := hrel
            by_cases hltz : z < k
            · go_wp2
              have HTM : Hid (TabR w.heap.size k (tabMid E z 0 0) gs V wr) := hTb.out.congr fun i j _ _ => (tabMid_zero E z i j).symm
              clear hTb
              obtain ⟨w2, rfl⟩ : ∃ w2 : World, w2 = wr := ⟨_, rfl⟩
              go_loopw [9] (fun iv wr => ∃ i : Nat, i ≤ k ∧ iv = .int .i64 (i : Int) ∧ Hid (TabR w.heap.size k (tabMid E z i 0) gs V wr) ∧ Hid (Below w.heap.size w wr)) (fun iv _ => k - (intOf iv).toNat)
              case atStart => exact ⟨0, Nat.zero_le _, rfl, HTM, hb⟩
              case round =>
                clear HTM hb
                obtain ⟨i, hi, rfl, hTb, hb⟩ := hrel
                by_cases hlti : i < k
                · go_wp2
                  obtain ⟨w3, rfl⟩ : ∃ w3 : World, w3 = wr := ⟨_, rfl⟩
                  go_loopw [10] (fun jv wr => ∃ j : Nat, j ≤ k ∧ jv = .int .i64 (j : Int) ∧ Hid (TabR w.heap.size k (tabMid E z i j) gs V wr) ∧ Hid (Below w.heap.size w wr)) (fun jv _ => k - (intOf jv).toNat)
                  case atStart => exact ⟨0, Nat.zero_le _, rfl, hTb, hb⟩
                  case round =>
                    clear hTb hb
                    obtain ⟨j, hj, rfl, hTb, hb⟩ := hrel
                    by_cases hltj : j < k
                    · obtain ⟨g, cc, q, hV, hq, hcell, hBq, hqB, hgq, hrow⟩ := hTb.out.at_ (i := i) (by rw [hgl.out]; exact hlti)
                      obtain ⟨g2, cc2, q2, hV2, hq2, hcell2, hBq2, hqB2, hgq2, hrow2⟩ := hTb.out.at_ (i := z) (by rw [hgl.out]; exact hltz)
                      subst hV
                      obtain ⟨rfl, rfl⟩ : g = g2 ∧ cc = cc2 := by
                        injection hV2 with e1 _ e3
                        injection e1 with e1
                        injection e1 with e1 _ _
                        exact ⟨e1, e3⟩
                      have hik := hrow z hltz
                      rw [tabMid_col] at hik
                      have hkj := hrow2 j hltj
                      rw [tabMid_row] at hkj
                      have hi0 : (0 : Int) ≤ i := by omega
                      have hi1 : (i : Int) < gs.length := by rw [hgl.out]; omega
                      have hz0 : (0 : Int) ≤ z := by omega
                      have hz1 : (z : Int) < gs.length := by rw [hgl.out]; omega
                      have hz2 : (z : Int) < k := by omega
                      have hj0 : (0 : Int) ≤ j := by omega
                      have hj1 : (j : Int) < k := by omega
                      have hno : (tabTo E z i z && tabTo E z z j) = false → Hid (TabR w.heap.size k (tabMid E z i (j + 1)) gs (.slice (some ⟨g, 0, none⟩) gs.length cc) wr) := fun h => hTb.out.congr fun x y _ _ => (by
                        have : tabMid E z i (j + 1) x y = tabMid E z i j x y := tabMid_no E z i j x y h
                        rw [this])
                      have hyes : (tabTo E z i z && tabTo E z z j) = true → Hid (TabR w.heap.size k (tabMid E z i (j + 1)) gs (.slice (some ⟨g, 0, none⟩) gs.length cc) (wr.setCell ⟨q, j, none⟩ (.bool true))) := fun h => by
                        have := (hTb.out.set (i := i) (j := j) (by rw [hgl.out]; exact hlti) true).congr fun x y _ _ => (tabMid_yes E z i j x y h).symm
                        rw [hq] at this
                        exact this
                      have hfz := hBq.frozen j
                      have hcb := hrow j hltj
                      have HBS := Lib.hid (hb.out.setCell (p := ⟨q, j, none⟩) hqB (.bool true))
                      clear hV2 hBq hBq2 hrow hrow2 hq hq2 hgq hgq2 hTb
                      generalize tabMid E z i j i j = old at *
                      cases hz1b : tabTo E z i z
                      · have HN := hno (by rw [hz1b]; rfl)
                        rw [hz1b] at hik
                        clear hno hyes hz1b
                        go_wp2
                        go_roundw
                        case rel => exact ⟨j + 1, by omega, by go_num, HN, hb⟩
                        case measure => simp [intOf]; omega
                      · cases hz2b : tabTo E z z j
                        · have HN := hno (by rw [hz1b, hz2b]; rfl)
                          rw [hz1b] at hik
                          rw [hz2b] at hkj
                          clear hno hyes hz1b hz2b
                          go_wp2
                          go_roundw
                          case rel => exact ⟨j + 1, by omega, by go_num, HN, hb⟩
                          case measure => simp [intOf]; omega
                        · have HN := hyes (by rw [hz1b, hz2b]; rfl)
                          rw [hz1b] at hik
                          rw [hz2b] at hkj
                          clear hno hyes hz1b hz2b
                          go_wp2
                          go_roundw
                          case rel => exact ⟨j + 1, by omega, by go_num, HN, HBS⟩
                          case measure => simp [intOf]; omega
                    · obtain rfl : j = k := by omega
                      have HN : Hid (TabR w.heap.size j (tabMid E z (i + 1) 0) gs V wr) := hTb.out.congr fun x y _ hy => tabMid_end E z i j x y hy
                      clear hTb
                      go_wp2
                      go_roundw
                      case rel => exact ⟨i + 1, by omega, by go_num, HN, hb⟩
                      case measure => simp [intOf]; omega
                · obtain rfl : i = k := by omega
                  have HN : Hid (TabR w.heap.size i (tabTo E (z + 1)) gs V wr) := hTb.out.congr fun x y hx _ => tabMid_all E z i x y (by rw [hgl.out] at hx; exact hx)
                  clear hTb
                  go_wp2
                  go_roundw
                  case rel => exact ⟨z + 1, by omega, by go_num, HN, hb⟩
                  case measure => simp [intOf]; omega
            · obtain rfl : z = k := by omega
              go_wp2
              go_ret
              exact ⟨gs, V, rfl, hTb.out, hgl.out, hb.out⟩
end Go.Proofs.YtapbgmmkkngdoaaDoor

namespace Go.Proofs.YtapbgmmkkngdoaaDoor
open Go.RowKit
def befP (x y : Pr) : Bool := decide (x.1 < y.1 ∨ x.1 = y.1 ∧ x.2 < y.2)
set_option maxHeartbeats 1000000 in
theorem l4Before_any (x y : Pr) (w : World) :
    Calls Tryd.prog 98 #[.agg #[.int .i64 x.1, .int .i64 x.2], .agg #[.int .i64 y.1, .int .i64 y.2]] w fun e w' => e = .returned (.bool (befP x y)) ∧ Below w.heap.size w w' := by
  have b1 := (Below.refl w.heap.size w).alloc (Nat.le_refl _) (.cells #[.int .i64 x.1, .int .i64 x.2] 56)
  have HB := Lib.hid (b1.alloc b1.size (.cells #[.int .i64 y.1, .int .i64 y.2] 56))
  obtain ⟨x1, x2⟩ := x
  obtain ⟨y1, y2⟩ := y
  simp only at HB ⊢
  clear b1
  by_cases h1 : x1 < y1
  · have HR : Hid (befP (x1, x2) (y1, y2) = true) := decide_eq_true (.inl h1)
    go_enter Tryd.func98, Tryd.ntmps98
    go_wp2
    go_ret
    exact ⟨by rw [HR.out]; rfl, HB.out⟩
  · by_cases h2 : x1 = y1
    · have HR : Hid (befP (x1, x2) (y1, y2) = decide (x2 < y2)) := by
        show _ = _
        unfold befP
        rw [decide_eq_decide]
        simp only
        omega
      have e2 : ((x1 : Int) == y1) = true := by simp [h2]
      have H2 := Lib.hid h2
      clear h2
      go_enter Tryd.func98, Tryd.ntmps98
      go_wp2
      go_ret
      exact ⟨by rw [HR.out]; rfl, HB.out⟩
    · have HR : Hid (befP (x1, x2) (y1, y2) = false) := by
        show _ = _
        unfold befP
        rw [decide_eq_false_iff_not]
        simp only
        omega
      have e2 : ((x1 : Int) == y1) = false := by simp [h2]
      have H2 := Lib.hid h2
      clear h2
      go_enter Tryd.func98, Tryd.ntmps98
      go_wp2
      go_ret
      exact ⟨by rw [HR.out]; rfl, HB.out⟩
/-- What an edge must hold, for the model. -/
theorem badS {n : Int} {E : List Pr} {k : Nat} (hk : k < E.length) (h : inB E[k].1 0 (IntKind.i64.wrap (n - 1)) = false ∨ inB E[k].2 0 (IntKind.i64.wrap (n - 1)) = false ∨ E[k].1 = E[k].2 ∨ (0 < k ∧ befP (E.getD (k - 1) (0, 0)) E[k] = false)) : precB n E = false := by
  by_cases hn : 0 ≤ n ∧ n ≤ 8
  · have hw : IntKind.i64.wrap (n - 1) = n - 1 := IntWalk.i64_in _ (by omega)
    rw [hw] at h
    have hbad : edOk n E k = false → precB n E = false := fun hh => by
      unfold precB pairsB
      rw [pairsTo_bad hk hh, Bool.and_false, Bool.and_false, Bool.false_and]
    unfold inB at h
    rcases h with h | h | h | ⟨h, h'⟩
    · refine hbad ?_
      unfold edOk
      rw [getD_at E (0, 0) hk, Bool.and_eq_false_iff]
      refine .inl (decide_eq_false fun hh => ?_)
      simp only [decide_eq_false_iff_not] at h
      omega
    · refine hbad ?_
      unfold edOk
      rw [getD_at E (0, 0) hk, Bool.and_eq_false_iff]
      refine .inl (decide_eq_false fun hh => ?_)
      simp only [decide_eq_false_iff_not] at h
      omega
    · exact prec_self hk h
    · refine hbad ?_
      unfold edOk
      unfold befP at h'
      rw [getD_at E (0, 0) hk, Bool.and_eq_false_iff, Bool.or_eq_false_iff]
      exact .inr ⟨decide_eq_false (by omega), h'⟩
  · unfold precB pairsB
    rw [decide_eq_false hn, Bool.false_and, Bool.false_and]
theorem okS {n : Int} {E : List Pr} {k : Nat} (hn : 0 ≤ n ∧ n ≤ 8) (hk : k < E.length) (h1 : inB E[k].1 0 (IntKind.i64.wrap (n - 1)) = true) (h2 : inB E[k].2 0 (IntKind.i64.wrap (n - 1)) = true) (h4 : k = 0 ∨ befP (E.getD (k - 1) (0, 0)) E[k] = true) : edOk n E k = true := by
  have hw : IntKind.i64.wrap (n - 1) = n - 1 := IntWalk.i64_in _ (by omega)
  rw [hw] at h1 h2
  unfold inB at h1 h2
  simp only [decide_eq_true_eq] at h1 h2
  unfold edOk
  rw [getD_at E (0, 0) hk, Bool.and_eq_true, Bool.or_eq_true, decide_eq_true_eq, decide_eq_true_eq]
  refine ⟨by omega, ?_⟩
  rcases h4 with h | h
  · exact .inl h
  · unfold befP at h
    exact .inr h
set_option maxRecDepth 100000 in
set_option maxHeartbeats 4000000 in
theorem l4Pairs_any (A : Option Addr) (c : Nat) (n : Int) (E : List Pr) (w : World) (hr : Row w A (pc E)) (hl : E.length ≤ 10000000) :
    Calls Tryd.prog 73 #[.int .i64 n, .slice A E.length c] w fun e w' => ∃ b, e = .returned (.bool b) ∧ (b = true → pairsB n E = true) ∧ (b = false → precB n E = false) ∧ Below w.heap.size w w' := by
  go_enter Tryd.func73, Tryd.ntmps73
  go_wp2
  go_loopw [5] (fun i wr => ∃ k : Nat, k ≤ E.length ∧ i = .int .i64 (k : Int) ∧ Hid (0 ≤ n ∧ n ≤ 8 → pairsTo n E k = true) ∧ Below w.heap.size w wr) (fun i _ => E.length - (intOf i).toNat)
  case atStart => exact ⟨0, Nat.zero_le _, rfl, fun _ => rfl, Below.refl _ _⟩
  case round =>
    obtain ⟨k, hk, rfl, hP, hb⟩ := hrel
    by_cases hlt : k < E.length
    · have hF : ∀ X, Below w.heap.size w X → ∃ ad, A = some ad ∧ X.cell? (ad.add (k * 2)) = some (.int .i64 E[k].1) ∧ X.cell? ⟨(ad.add (k * 2)).block, (ad.add (k * 2)).off + 1, none⟩ = some (.int .i64 E[k].2) := fun X hX => by
        obtain ⟨ad, h1, _, h2, h3⟩ := (hr.below hX).pair hlt
        exact ⟨ad, h1, h2, h3⟩
      have hG : k ≠ 0 → ∀ X, Below w.heap.size w X → ∃ ad, A = some ad ∧ X.cell? (ad.add ((k - 1) * 2)) = some (.int .i64 (E.getD (k - 1) (0, 0)).1) ∧ X.cell? ⟨(ad.add ((k - 1) * 2)).block, (ad.add ((k - 1) * 2)).off + 1, none⟩ = some (.int .i64 (E.getD (k - 1) (0, 0)).2) := fun h0 X hX => by
        obtain ⟨ad, h1, _, h2, h3⟩ := (hr.below hX).pair (k := k - 1) (by omega)
        rw [getD_at E (0, 0) (by omega : k - 1 < E.length)]
        exact ⟨ad, h1, h2, h3⟩
      obtain ⟨ad, hA, hc0, hc1⟩ := hF wr hb
      subst hA
      have hk0 : (0 : Int) ≤ k := by omega
      have hk1 : (k : Int) < E.length := by omega
      have hbd := badS (n := n) hlt
      have hok := fun hn => okS (n := n) hn hlt
      have hsc := pairsTo_succ n E k
      have HB := Lib.hid hb
      obtain ⟨M, hM⟩ : ∃ M, IntKind.i64.wrap (n - 1) = M := ⟨_, rfl⟩
      rw [hM] at hbd hok
      clear hb
      generalize hx : E[k] = x at *
      clear hx
      cases h1 : inB x.1 0 M
      · have HBD := Lib.hid (hbd (.inl h1))
        clear hbd hok hF hG hsc
        go_wp2
        go_quiet ((go_at_call 80; first | exact quiet_same (l1In_any _ _ _ _) | exact quiet_eq (l1In_any _ _ _ _)))
        go_wp2
        go_ret
        exact ⟨false, rfl, (fun h => by cases h), fun _ => HBD.out, below_drewN HB.out _⟩
      · cases h2 : inB x.2 0 M
        · have HBD := Lib.hid (hbd (.inr (.inl h2)))
          clear hbd hok hF hG hsc
          go_wp2
          go_quiet ((go_at_call 80; first | exact quiet_same (l1In_any _ _ _ _) | exact quiet_eq (l1In_any _ _ _ _)))
          go_wp2
          go_ret
          exact ⟨false, rfl, (fun h => by cases h), fun _ => HBD.out, below_drewN HB.out _⟩
        · by_cases h3 : x.1 = x.2
          · have HBD := Lib.hid (hbd (.inr (.inr (.inl h3))))
            have e3 : (x.1 == x.2) = true := by simp [h3]
            have H3 := Lib.hid h3
            clear hbd hok hF hG h3 hsc
            go_wp2
            go_quiet ((go_at_call 80; first | exact quiet_same (l1In_any _ _ _ _) | exact quiet_eq (l1In_any _ _ _ _)))
            go_wp2
            go_ret
            exact ⟨false, rfl, (fun h => by cases h), fun _ => HBD.out, below_drewN HB.out _⟩
          · have e3 : (x.1 == x.2) = false := by simp [h3]
            by_cases h4 : k = 0
            · have e4 : decide (0 < k) = false := by simp; omega
              have HOK : Hid (0 ≤ n ∧ n ≤ 8 → pairsTo n E (k + 1) = true) := fun hn => by rw [hsc, hP.out hn, hok hn h1 h2 (.inl h4)]; rfl
              clear hbd hok hF hG h3 h4 hsc hP
              go_wp2
              go_quiet ((go_at_call 80; first | exact quiet_same (l1In_any _ _ _ _) | exact quiet_eq (l1In_any _ _ _ _)))
              go_wp2
              go_roundw
              case rel => exact ⟨k + 1, by omega, by go_num, HOK.out, below_drewN HB.out _⟩
              case measure => simp [intOf]; omega
            · have e4 : decide (0 < k) = true := by simp; omega
              have hG' := hG h4
              obtain ⟨m, hm⟩ : ∃ m : Nat, m = k - 1 := ⟨_, rfl⟩
              rw [← hm] at hG' hbd hok
              have em : (k : Int) - 1 = (m : Int) := by omega
              have ew : IntKind.i64.wrap (m : Int) = (m : Int) := IntWalk.i64_in _ (by omega)
              have hm2 : (m : Int) < E.length := by omega
              generalize hy : E.getD m (0, 0) = y at *
              clear hy
              have HOK : Hid (befP y x = true → 0 ≤ n ∧ n ≤ 8 → pairsTo n E (k + 1) = true) := fun hbf hn => by rw [hsc, hP.out hn, hok hn h1 h2 (.inr hbf)]; rfl
              have HBD : Hid (befP y x = false → precB n E = false) := fun hbf => hbd (.inr (.inr (.inr ⟨by omega, hbf⟩)))
              obtain ⟨q0, q1, hq⟩ : ∃ q0 q1 : Nat, True := ⟨0, 0, trivial⟩
              clear hbd hok h3 h4 hsc hP hG hm hq q0 q1
              obtain ⟨b, hbf⟩ : ∃ b, befP y x = b := ⟨_, rfl⟩
              have HBF := Lib.hid (fun W => l4Before_any y x W)
              rw [hbf] at HBF HOK HBD
              clear hbf
              have HF : Hid (∀ X, Below w.heap.size w X → X.cell? (ad.add (k * 2)) = some (.int .i64 x.1) ∧ X.cell? ⟨(ad.add (k * 2)).block, (ad.add (k * 2)).off + 1, none⟩ = some (.int .i64 x.2)) := fun X hX => by
                obtain ⟨ad', h1, h2⟩ := hF X hX
                obtain rfl := Option.some.inj h1
                exact h2
              have HG : Hid (∀ X, Below w.heap.size w X → X.cell? (ad.add (m * 2)) = some (.int .i64 y.1) ∧ X.cell? ⟨(ad.add (m * 2)).block, (ad.add (m * 2)).off + 1, none⟩ = some (.int .i64 y.2)) := fun X hX => by
                obtain ⟨ad', h1, h2⟩ := hG' X hX
                obtain rfl := Option.some.inj h1
                exact h2
              clear hF hG'
              go_wp2
              -- REGION
              have HC1 := fun W => h1 ▸ call_still (l1In_any x.1 0 M W)
              have HC2 := fun W => h2 ▸ call_still (l1In_any x.2 0 M W)
              have hm0 : (0 : Int) ≤ m := by omega
              have HB' := HB.out
              have kb : ∀ {X Y : World}, (Below w.heap.size w X) → Below X.heap.size X Y → (Below w.heap.size w Y) := fun h hb => h.trans (hb.mono h.size)
              refine wp_region_detY (by kernel_rfl) (fun L w' => Below w.heap.size w w') (fun kk => (#[.slice (some ad) E.length c, .int .i64 (k : Int), .pointer (some (ad.add (k * 2))), .pointer (some (ad.add (k * 2))), .int .i64 x.1, .int .i64 n, .int .i64 M, .bool true, .bool false, .bool false, .slice (some ad) E.length c, .int .i64 (k : Int), .pointer (some (ad.add (k * 2))), .pointer (some ⟨(ad.add (k * 2)).block, (ad.add (k * 2)).off + 1, none⟩), .int .i64 x.2, .int .i64 n, .int .i64 M, .bool true, .bool false, .bool false, .bool false, .slice (some ad) E.length c, .int .i64 (k : Int), .pointer (some (ad.add (k * 2))), .pointer (some (ad.add (k * 2))), .int .i64 x.1, .slice (some ad) E.length c, .int .i64 (k : Int), .pointer (some (ad.add (k * 2))), .pointer (some ⟨(ad.add (k * 2)).block, (ad.add (k * 2)).off + 1, none⟩), .int .i64 x.2, .bool false, .bool false, .bool false, .int .i64 (k : Int), .bool true, .bool true, .slice (some ad) E.length c, .int .i64 (k : Int), .int .i64 (m : Int), .pointer (some (ad.add (m * 2))), .agg #[.int .i64 y.1, .int .i64 y.2], .slice (some ad) E.length c, .int .i64 (k : Int), .pointer (some (ad.add (k * 2))), .agg #[.int .i64 x.1, .int .i64 x.2], .bool b, .bool (!b), .bool (!b), .bool (!b)] : Array Value).getD kk undef) (by kernel_rfl) (by kernel_rfl) HB'.drew ?_ ?_
              · intro L tm w' hall hS hsz hlow hval
                have ht : tm = #[.int .i64 n, .slice (some ad) E.length c, undef, undef, u4, .int .i64 (k : Int), .int .i64 (k : Int), .slice (some ad) E.length c, .int .i64 (E.length : Int), .bool true, u10, u11, .slice (some ad) E.length c, .int .i64 (k : Int), .pointer (some (ad.add (k * 2))), .pointer (some (ad.add (k * 2))), .int .i64 x.1, .int .i64 n, .int .i64 M, .bool true, .bool false, .bool false, .slice (some ad) E.length c, .int .i64 (k : Int), .pointer (some (ad.add (k * 2))), .pointer (some ⟨(ad.add (k * 2)).block, (ad.add (k * 2)).off + 1, none⟩), .int .i64 x.2, .int .i64 n, .int .i64 M, .bool true, .bool false, .bool false, .bool false, .slice (some ad) E.length c, .int .i64 (k : Int), .pointer (some (ad.add (k * 2))), .pointer (some (ad.add (k * 2))), .int .i64 x.1, .slice (some ad) E.length c, .int .i64 (k : Int), .pointer (some (ad.add (k * 2))), .pointer (some ⟨(ad.add (k * 2)).block, (ad.add (k * 2)).off + 1, none⟩), .int .i64 x.2, .bool false, .bool false, .bool false, .int .i64 (k : Int), .bool true, .bool true, .slice (some ad) E.length c, .int .i64 (k : Int), .int .i64 (m : Int), .pointer (some (ad.add (m * 2))), .agg #[.int .i64 y.1, .int .i64 y.2], .slice (some ad) E.length c, .int .i64 (k : Int), .pointer (some (ad.add (k * 2))), .agg #[.int .i64 x.1, .int .i64 x.2], .bool b, .bool (!b), .bool (!b), .bool (!b), undef, undef, undef, undef, undef, undef, undef] := by
                  refine arr_of _ _ hsz fun t ht => ?_
                  have ht' : t < 69 := ht
                  rcases (by omega : t = 0 ∨ t = 1 ∨ t = 2 ∨ t = 3 ∨ t = 4 ∨ t = 5 ∨ t = 6 ∨ t = 7 ∨ t = 8 ∨ t = 9 ∨ t = 10 ∨ t = 11 ∨ t = 12 ∨ t = 13 ∨ t = 14 ∨ t = 15 ∨ t = 16 ∨ t = 17 ∨ t = 18 ∨ t = 19 ∨ t = 20 ∨ t = 21 ∨ t = 22 ∨ t = 23 ∨ t = 24 ∨ t = 25 ∨ t = 26 ∨ t = 27 ∨ t = 28 ∨ t = 29 ∨ t = 30 ∨ t = 31 ∨ t = 32 ∨ t = 33 ∨ t = 34 ∨ t = 35 ∨ t = 36 ∨ t = 37 ∨ t = 38 ∨ t = 39 ∨ t = 40 ∨ t = 41 ∨ t = 42 ∨ t = 43 ∨ t = 44 ∨ t = 45 ∨ t = 46 ∨ t = 47 ∨ t = 48 ∨ t = 49 ∨ t = 50 ∨ t = 51 ∨ t = 52 ∨ t = 53 ∨ t = 54 ∨ t = 55 ∨ t = 56 ∨ t = 57 ∨ t = 58 ∨ t = 59 ∨ t = 60 ∨ t = 61 ∨ t = 62 ∨ t = 63 ∨ t = 64 ∨ t = 65 ∨ t = 66 ∨ t = 67 ∨ t = 68) with rfl | rfl | rfl | rfl | rfl | rfl | rfl | rfl | rfl | rfl | rfl | rfl | rfl | rfl | rfl | rfl | rfl | rfl | rfl | rfl | rfl | rfl | rfl | rfl | rfl | rfl | rfl | rfl | rfl | rfl | rfl | rfl | rfl | rfl | rfl | rfl | rfl | rfl | rfl | rfl | rfl | rfl | rfl | rfl | rfl | rfl | rfl | rfl | rfl | rfl | rfl | rfl | rfl | rfl | rfl | rfl | rfl | rfl | rfl | rfl | rfl | rfl | rfl | rfl | rfl | rfl | rfl | rfl | rfl
                  · exact hlow 0 (by kernel_rfl)
                  · exact hlow 1 (by kernel_rfl)
                  · exact hlow 2 (by kernel_rfl)
                  · exact hlow 3 (by kernel_rfl)
                  · exact hlow 4 (by kernel_rfl)
                  · exact hlow 5 (by kernel_rfl)
                  · exact hlow 6 (by kernel_rfl)
                  · exact hlow 7 (by kernel_rfl)
                  · exact hlow 8 (by kernel_rfl)
                  · exact hlow 9 (by kernel_rfl)
                  · exact hlow 10 (by kernel_rfl)
                  · exact hlow 11 (by kernel_rfl)
                  · exact hval 0 _ 12 rfl rfl
                  · exact hval 1 _ 13 rfl rfl
                  · exact hval 2 _ 14 rfl rfl
                  · exact hval 3 _ 15 rfl rfl
                  · exact hval 4 _ 16 rfl rfl
                  · exact hval 5 _ 17 rfl rfl
                  · exact hval 6 _ 18 rfl rfl
                  · exact hval 7 _ 19 rfl rfl
                  · exact hval 8 _ 20 rfl rfl
                  · exact hval 9 _ 21 rfl rfl
                  · exact hval 10 _ 22 rfl rfl
                  · exact hval 11 _ 23 rfl rfl
                  · exact hval 12 _ 24 rfl rfl
                  · exact hval 13 _ 25 rfl rfl
                  · exact hval 14 _ 26 rfl rfl
                  · exact hval 15 _ 27 rfl rfl
                  · exact hval 16 _ 28 rfl rfl
                  · exact hval 17 _ 29 rfl rfl
                  · exact hval 18 _ 30 rfl rfl
                  · exact hval 19 _ 31 rfl rfl
                  · exact hval 20 _ 32 rfl rfl
                  · exact hval 21 _ 33 rfl rfl
                  · exact hval 22 _ 34 rfl rfl
                  · exact hval 23 _ 35 rfl rfl
                  · exact hval 24 _ 36 rfl rfl
                  · exact hval 25 _ 37 rfl rfl
                  · exact hval 26 _ 38 rfl rfl
                  · exact hval 27 _ 39 rfl rfl
                  · exact hval 28 _ 40 rfl rfl
                  · exact hval 29 _ 41 rfl rfl
                  · exact hval 30 _ 42 rfl rfl
                  · exact hval 31 _ 43 rfl rfl
                  · exact hval 32 _ 44 rfl rfl
                  · exact hval 33 _ 45 rfl rfl
                  · exact hval 34 _ 46 rfl rfl
                  · exact hval 35 _ 47 rfl rfl
                  · exact hval 36 _ 48 rfl rfl
                  · exact hval 37 _ 49 rfl rfl
                  · exact hval 38 _ 50 rfl rfl
                  · exact hval 39 _ 51 rfl rfl
                  · exact hval 40 _ 52 rfl rfl
                  · exact hval 41 _ 53 rfl rfl
                  · exact hval 42 _ 54 rfl rfl
                  · exact hval 43 _ 55 rfl rfl
                  · exact hval 44 _ 56 rfl rfl
                  · exact hval 45 _ 57 rfl rfl
                  · exact hval 46 _ 58 rfl rfl
                  · exact hval 47 _ 59 rfl rfl
                  · exact hval 48 _ 60 rfl rfl
                  · exact hval 49 _ 61 rfl rfl
                  · exact hlow 62 (by kernel_rfl)
                  · exact hlow 63 (by kernel_rfl)
                  · exact hlow 64 (by kernel_rfl)
                  · exact hlow 65 (by kernel_rfl)
                  · exact hlow 66 (by kernel_rfl)
                  · exact hlow 67 (by kernel_rfl)
                  · exact hlow 68 (by kernel_rfl)
                subst ht
                have HF2 := Lib.hid hS
                clear hlow hval hsz hall hS
                cases b
                · go_wp2
                  go_ret
                  refine .inl ⟨rfl, ?_, ?_⟩
                  · exact HBD.out (by first | rfl | trivial)
                  · exact HF2.out
                · go_wp2
                  go_roundw
                  case rel => exact ⟨k + 1, by omega, by go_num, HOK.out (by first | rfl | trivial), HF2.out⟩
                  case measure => simp [intOf]; omega
              · intro L ac w' q op hLs hop hLi hLd hLn hS0 hlow hdep _
                have hq : q < 50 := (Array.getElem?_eq_some_iff.1 hop).1
                rcases (by omega : q = 0 ∨ q = 1 ∨ q = 2 ∨ q = 3 ∨ q = 4 ∨ q = 5 ∨ q = 6 ∨ q = 7 ∨ q = 8 ∨ q = 9 ∨ q = 10 ∨ q = 11 ∨ q = 12 ∨ q = 13 ∨ q = 14 ∨ q = 15 ∨ q = 16 ∨ q = 17 ∨ q = 18 ∨ q = 19 ∨ q = 20 ∨ q = 21 ∨ q = 22 ∨ q = 23 ∨ q = 24 ∨ q = 25 ∨ q = 26 ∨ q = 27 ∨ q = 28 ∨ q = 29 ∨ q = 30 ∨ q = 31 ∨ q = 32 ∨ q = 33 ∨ q = 34 ∨ q = 35 ∨ q = 36 ∨ q = 37 ∨ q = 38 ∨ q = 39 ∨ q = 40 ∨ q = 41 ∨ q = 42 ∨ q = 43 ∨ q = 44 ∨ q = 45 ∨ q = 46 ∨ q = 47 ∨ q = 48 ∨ q = 49) with rfl | rfl | rfl | rfl | rfl | rfl | rfl | rfl | rfl | rfl | rfl | rfl | rfl | rfl | rfl | rfl | rfl | rfl | rfl | rfl | rfl | rfl | rfl | rfl | rfl | rfl | rfl | rfl | rfl | rfl | rfl | rfl | rfl | rfl | rfl | rfl | rfl | rfl | rfl | rfl | rfl | rfl | rfl | rfl | rfl | rfl | rfl | rfl | rfl | rfl
                · obtain rfl := Option.some.inj hop
                  have e1 : ac.tmps[1]?.getD undef = .slice (some ad) E.length c := (Array.getD_eq_getD_getElem? ..).symm.trans (hlow 1 (by kernel_rfl))
                  exact ⟨wanted_free rfl, .inl (.inl ⟨w', by simp [execOp, Act.eval, e1, go_sem], hS0⟩)⟩
                · obtain rfl := Option.some.inj hop
                  have e5 : ac.tmps[5]?.getD undef = .int .i64 (k : Int) := (Array.getD_eq_getD_getElem? ..).symm.trans (hlow 5 (by kernel_rfl))
                  exact ⟨wanted_free rfl, .inl (.inl ⟨w', by simp [execOp, Act.eval, e5, go_sem], hS0⟩)⟩
                · obtain rfl := Option.some.inj hop
                  have e12 : ac.tmps[12]?.getD undef = .slice (some ad) E.length c := (Array.getD_eq_getD_getElem? ..).symm.trans (hdep 0 _ 12 (by kernel_rfl) rfl rfl)
                  have e13 : ac.tmps[13]?.getD undef = .int .i64 (k : Int) := (Array.getD_eq_getD_getElem? ..).symm.trans (hdep 1 _ 13 (by kernel_rfl) rfl rfl)
                  exact ⟨wanted_free rfl, .inl (.inl ⟨w', by simp [execOp, Act.eval, e12, e13, hk0, hk1, go_sem], hS0⟩)⟩
                · obtain rfl := Option.some.inj hop
                  have e14 : ac.tmps[14]?.getD undef = .pointer (some (ad.add (k * 2))) := (Array.getD_eq_getD_getElem? ..).symm.trans (hdep 2 _ 14 (by kernel_rfl) rfl rfl)
                  exact ⟨wanted_free rfl, .inl (.inl ⟨w', by simp [execOp, Act.eval, e14, go_sem], hS0⟩)⟩
                · obtain rfl := Option.some.inj hop
                  have e15 : ac.tmps[15]?.getD undef = .pointer (some (ad.add (k * 2))) := (Array.getD_eq_getD_getElem? ..).symm.trans (hdep 3 _ 15 (by kernel_rfl) rfl rfl)
                  obtain ⟨p0, p1⟩ := HF.out w' hS0
                  exact ⟨wanted_free rfl, .inl (.inl ⟨w', by simp [execOp, Act.eval, e15, p0, go_sem], hS0⟩)⟩
                · obtain rfl := Option.some.inj hop
                  have e0 : ac.tmps[0]?.getD undef = .int .i64 n := (Array.getD_eq_getD_getElem? ..).symm.trans (hlow 0 (by kernel_rfl))
                  exact ⟨wanted_free rfl, .inl (.inl ⟨w', by simp [execOp, Act.eval, e0, go_sem], hS0⟩)⟩
                · obtain rfl := Option.some.inj hop
                  have e17 : ac.tmps[17]?.getD undef = .int .i64 n := (Array.getD_eq_getD_getElem? ..).symm.trans (hdep 5 _ 17 (by kernel_rfl) rfl rfl)
                  exact ⟨wanted_free rfl, .inl (.inl ⟨w', by simp [execOp, Act.eval, e17, hM, go_sem], hS0⟩)⟩
                · obtain rfl := Option.some.inj hop
                  have e16 : ac.tmps[16]?.getD undef = .int .i64 x.1 := (Array.getD_eq_getD_getElem? ..).symm.trans (hdep 4 _ 16 (by kernel_rfl) rfl rfl)
                  have e18 : ac.tmps[18]?.getD undef = .int .i64 M := (Array.getD_eq_getD_getElem? ..).symm.trans (hdep 6 _ 18 (by kernel_rfl) rfl rfl)
                  refine ⟨wanted_free rfl, .inl (.inr ⟨80, #[.int .i64 x.1, .int .i64 0, .int .i64 M], by simp [execOp, Act.eval, e16, e18, go_sem], (HC1 w').mono ?_⟩)⟩
                  rintro e w2 ⟨rfl, hb⟩
                  exact ⟨rfl, kb hS0 hb⟩
                · obtain rfl := Option.some.inj hop
                  have e19 : ac.tmps[19]?.getD undef = .bool true := (Array.getD_eq_getD_getElem? ..).symm.trans (hdep 7 _ 19 (by kernel_rfl) rfl rfl)
                  exact ⟨wanted_free rfl, .inl (.inl ⟨w', by simp [execOp, Act.eval, e19, go_sem], hS0⟩)⟩
                · obtain rfl := Option.some.inj hop
                  have e20 : ac.tmps[20]?.getD undef = .bool false := (Array.getD_eq_getD_getElem? ..).symm.trans (hdep 8 _ 20 (by kernel_rfl) rfl rfl)
                  exact ⟨wanted_free rfl, .inl (.inl ⟨w', by simp [execOp, Act.eval, e20, go_sem], hS0⟩)⟩
                · obtain rfl := Option.some.inj hop
                  have e1 : ac.tmps[1]?.getD undef = .slice (some ad) E.length c := (Array.getD_eq_getD_getElem? ..).symm.trans (hlow 1 (by kernel_rfl))
                  exact ⟨wanted_guard (g := 9) (d := 21) (b := false) rfl rfl rfl (hdep 9 _ 21 (by kernel_rfl) rfl rfl), .inl (.inl ⟨w', by simp [execOp, Act.eval, e1, go_sem], hS0⟩)⟩
                · obtain rfl := Option.some.inj hop
                  have e5 : ac.tmps[5]?.getD undef = .int .i64 (k : Int) := (Array.getD_eq_getD_getElem? ..).symm.trans (hlow 5 (by kernel_rfl))
                  exact ⟨wanted_guard (g := 9) (d := 21) (b := false) rfl rfl rfl (hdep 9 _ 21 (by kernel_rfl) rfl rfl), .inl (.inl ⟨w', by simp [execOp, Act.eval, e5, go_sem], hS0⟩)⟩
                · obtain rfl := Option.some.inj hop
                  have e22 : ac.tmps[22]?.getD undef = .slice (some ad) E.length c := (Array.getD_eq_getD_getElem? ..).symm.trans (hdep 10 _ 22 (by kernel_rfl) rfl rfl)
                  have e23 : ac.tmps[23]?.getD undef = .int .i64 (k : Int) := (Array.getD_eq_getD_getElem? ..).symm.trans (hdep 11 _ 23 (by kernel_rfl) rfl rfl)
                  exact ⟨wanted_guard (g := 9) (d := 21) (b := false) rfl rfl rfl (hdep 9 _ 21 (by kernel_rfl) rfl rfl), .inl (.inl ⟨w', by simp [execOp, Act.eval, e22, e23, hk0, hk1, go_sem], hS0⟩)⟩
                · obtain rfl := Option.some.inj hop
                  have e24 : ac.tmps[24]?.getD undef = .pointer (some (ad.add (k * 2))) := (Array.getD_eq_getD_getElem? ..).symm.trans (hdep 12 _ 24 (by kernel_rfl) rfl rfl)
                  exact ⟨wanted_guard (g := 9) (d := 21) (b := false) rfl rfl rfl (hdep 9 _ 21 (by kernel_rfl) rfl rfl), .inl (.inl ⟨w', by simp [execOp, Act.eval, e24, go_sem], hS0⟩)⟩
                · obtain rfl := Option.some.inj hop
                  have e25 : ac.tmps[25]?.getD undef = .pointer (some ⟨(ad.add (k * 2)).block, (ad.add (k * 2)).off + 1, none⟩) := (Array.getD_eq_getD_getElem? ..).symm.trans (hdep 13 _ 25 (by kernel_rfl) rfl rfl)
                  obtain ⟨p0, p1⟩ := HF.out w' hS0
                  exact ⟨wanted_guard (g := 9) (d := 21) (b := false) rfl rfl rfl (hdep 9 _ 21 (by kernel_rfl) rfl rfl), .inl (.inl ⟨w', by simp [execOp, Act.eval, e25, p1, go_sem], hS0⟩)⟩
                · obtain rfl := Option.some.inj hop
                  have e0 : ac.tmps[0]?.getD undef = .int .i64 n := (Array.getD_eq_getD_getElem? ..).symm.trans (hlow 0 (by kernel_rfl))
                  exact ⟨wanted_guard (g := 9) (d := 21) (b := false) rfl rfl rfl (hdep 9 _ 21 (by kernel_rfl) rfl rfl), .inl (.inl ⟨w', by simp [execOp, Act.eval, e0, go_sem], hS0⟩)⟩
                · obtain rfl := Option.some.inj hop
                  have e27 : ac.tmps[27]?.getD undef = .int .i64 n := (Array.getD_eq_getD_getElem? ..).symm.trans (hdep 15 _ 27 (by kernel_rfl) rfl rfl)
                  exact ⟨wanted_guard (g := 9) (d := 21) (b := false) rfl rfl rfl (hdep 9 _ 21 (by kernel_rfl) rfl rfl), .inl (.inl ⟨w', by simp [execOp, Act.eval, e27, hM, go_sem], hS0⟩)⟩
                · obtain rfl := Option.some.inj hop
                  have e26 : ac.tmps[26]?.getD undef = .int .i64 x.2 := (Array.getD_eq_getD_getElem? ..).symm.trans (hdep 14 _ 26 (by kernel_rfl) rfl rfl)
                  have e28 : ac.tmps[28]?.getD undef = .int .i64 M := (Array.getD_eq_getD_getElem? ..).symm.trans (hdep 16 _ 28 (by kernel_rfl) rfl rfl)
                  refine ⟨wanted_guard (g := 9) (d := 21) (b := false) rfl rfl rfl (hdep 9 _ 21 (by kernel_rfl) rfl rfl), .inl (.inr ⟨80, #[.int .i64 x.2, .int .i64 0, .int .i64 M], by simp [execOp, Act.eval, e26, e28, go_sem], (HC2 w').mono ?_⟩)⟩
                  rintro e w2 ⟨rfl, hb⟩
                  exact ⟨rfl, kb hS0 hb⟩
                · obtain rfl := Option.some.inj hop
                  have e29 : ac.tmps[29]?.getD undef = .bool true := (Array.getD_eq_getD_getElem? ..).symm.trans (hdep 17 _ 29 (by kernel_rfl) rfl rfl)
                  exact ⟨wanted_guard (g := 9) (d := 21) (b := false) rfl rfl rfl (hdep 9 _ 21 (by kernel_rfl) rfl rfl), .inl (.inl ⟨w', by simp [execOp, Act.eval, e29, go_sem], hS0⟩)⟩
                · obtain rfl := Option.some.inj hop
                  have e21 : ac.tmps[21]?.getD undef = .bool false := (Array.getD_eq_getD_getElem? ..).symm.trans (hdep 9 _ 21 (by kernel_rfl) rfl rfl)
                  have e30 : ac.tmps[30]?.getD undef = .bool false := (Array.getD_eq_getD_getElem? ..).symm.trans (hdep 18 _ 30 (by kernel_rfl) rfl rfl)
                  exact ⟨wanted_free rfl, .inl (.inl ⟨w', by simp [execOp, Act.eval, e21, e30, go_sem], hS0⟩)⟩
                · obtain rfl := Option.some.inj hop
                  have e31 : ac.tmps[31]?.getD undef = .bool false := (Array.getD_eq_getD_getElem? ..).symm.trans (hdep 19 _ 31 (by kernel_rfl) rfl rfl)
                  exact ⟨wanted_free rfl, .inl (.inl ⟨w', by simp [execOp, Act.eval, e31, go_sem], hS0⟩)⟩
                · obtain rfl := Option.some.inj hop
                  have e1 : ac.tmps[1]?.getD undef = .slice (some ad) E.length c := (Array.getD_eq_getD_getElem? ..).symm.trans (hlow 1 (by kernel_rfl))
                  exact ⟨wanted_guard (g := 20) (d := 32) (b := false) rfl rfl rfl (hdep 20 _ 32 (by kernel_rfl) rfl rfl), .inl (.inl ⟨w', by simp [execOp, Act.eval, e1, go_sem], hS0⟩)⟩
                · obtain rfl := Option.some.inj hop
                  have e5 : ac.tmps[5]?.getD undef = .int .i64 (k : Int) := (Array.getD_eq_getD_getElem? ..).symm.trans (hlow 5 (by kernel_rfl))
                  exact ⟨wanted_guard (g := 20) (d := 32) (b := false) rfl rfl rfl (hdep 20 _ 32 (by kernel_rfl) rfl rfl), .inl (.inl ⟨w', by simp [execOp, Act.eval, e5, go_sem], hS0⟩)⟩
                · obtain rfl := Option.some.inj hop
                  have e33 : ac.tmps[33]?.getD undef = .slice (some ad) E.length c := (Array.getD_eq_getD_getElem? ..).symm.trans (hdep 21 _ 33 (by kernel_rfl) rfl rfl)
                  have e34 : ac.tmps[34]?.getD undef = .int .i64 (k : Int) := (Array.getD_eq_getD_getElem? ..).symm.trans (hdep 22 _ 34 (by kernel_rfl) rfl rfl)
                  exact ⟨wanted_guard (g := 20) (d := 32) (b := false) rfl rfl rfl (hdep 20 _ 32 (by kernel_rfl) rfl rfl), .inl (.inl ⟨w', by simp [execOp, Act.eval, e33, e34, hk0, hk1, go_sem], hS0⟩)⟩
                · obtain rfl := Option.some.inj hop
                  have e35 : ac.tmps[35]?.getD undef = .pointer (some (ad.add (k * 2))) := (Array.getD_eq_getD_getElem? ..).symm.trans (hdep 23 _ 35 (by kernel_rfl) rfl rfl)
                  exact ⟨wanted_guard (g := 20) (d := 32) (b := false) rfl rfl rfl (hdep 20 _ 32 (by kernel_rfl) rfl rfl), .inl (.inl ⟨w', by simp [execOp, Act.eval, e35, go_sem], hS0⟩)⟩
                · obtain rfl := Option.some.inj hop
                  have e36 : ac.tmps[36]?.getD undef = .pointer (some (ad.add (k * 2))) := (Array.getD_eq_getD_getElem? ..).symm.trans (hdep 24 _ 36 (by kernel_rfl) rfl rfl)
                  obtain ⟨p0, p1⟩ := HF.out w' hS0
                  exact ⟨wanted_guard (g := 20) (d := 32) (b := false) rfl rfl rfl (hdep 20 _ 32 (by kernel_rfl) rfl rfl), .inl (.inl ⟨w', by simp [execOp, Act.eval, e36, p0, go_sem], hS0⟩)⟩
                · obtain rfl := Option.some.inj hop
                  have e1 : ac.tmps[1]?.getD undef = .slice (some ad) E.length c := (Array.getD_eq_getD_getElem? ..).symm.trans (hlow 1 (by kernel_rfl))
                  exact ⟨wanted_guard (g := 20) (d := 32) (b := false) rfl rfl rfl (hdep 20 _ 32 (by kernel_rfl) rfl rfl), .inl (.inl ⟨w', by simp [execOp, Act.eval, e1, go_sem], hS0⟩)⟩
                · obtain rfl := Option.some.inj hop
                  have e5 : ac.tmps[5]?.getD undef = .int .i64 (k : Int) := (Array.getD_eq_getD_getElem? ..).symm.trans (hlow 5 (by kernel_rfl))
                  exact ⟨wanted_guard (g := 20) (d := 32) (b := false) rfl rfl rfl (hdep 20 _ 32 (by kernel_rfl) rfl rfl), .inl (.inl ⟨w', by simp [execOp, Act.eval, e5, go_sem], hS0⟩)⟩
                · obtain rfl := Option.some.inj hop
                  have e38 : ac.tmps[38]?.getD undef = .slice (some ad) E.length c := (Array.getD_eq_getD_getElem? ..).symm.trans (hdep 26 _ 38 (by kernel_rfl) rfl rfl)
                  have e39 : ac.tmps[39]?.getD undef = .int .i64 (k : Int) := (Array.getD_eq_getD_getElem? ..).symm.trans (hdep 27 _ 39 (by kernel_rfl) rfl rfl)
                  exact ⟨wanted_guard (g := 20) (d := 32) (b := false) rfl rfl rfl (hdep 20 _ 32 (by kernel_rfl) rfl rfl), .inl (.inl ⟨w', by simp [execOp, Act.eval, e38, e39, hk0, hk1, go_sem], hS0⟩)⟩
                · obtain rfl := Option.some.inj hop
                  have e40 : ac.tmps[40]?.getD undef = .pointer (some (ad.add (k * 2))) := (Array.getD_eq_getD_getElem? ..).symm.trans (hdep 28 _ 40 (by kernel_rfl) rfl rfl)
                  exact ⟨wanted_guard (g := 20) (d := 32) (b := false) rfl rfl rfl (hdep 20 _ 32 (by kernel_rfl) rfl rfl), .inl (.inl ⟨w', by simp [execOp, Act.eval, e40, go_sem], hS0⟩)⟩
                · obtain rfl := Option.some.inj hop
                  have e41 : ac.tmps[41]?.getD undef = .pointer (some ⟨(ad.add (k * 2)).block, (ad.add (k * 2)).off + 1, none⟩) := (Array.getD_eq_getD_getElem? ..).symm.trans (hdep 29 _ 41 (by kernel_rfl) rfl rfl)
                  obtain ⟨p0, p1⟩ := HF.out w' hS0
                  exact ⟨wanted_guard (g := 20) (d := 32) (b := false) rfl rfl rfl (hdep 20 _ 32 (by kernel_rfl) rfl rfl), .inl (.inl ⟨w', by simp [execOp, Act.eval, e41, p1, go_sem], hS0⟩)⟩
                · obtain rfl := Option.some.inj hop
                  have e37 : ac.tmps[37]?.getD undef = .int .i64 x.1 := (Array.getD_eq_getD_getElem? ..).symm.trans (hdep 25 _ 37 (by kernel_rfl) rfl rfl)
                  have e42 : ac.tmps[42]?.getD undef = .int .i64 x.2 := (Array.getD_eq_getD_getElem? ..).symm.trans (hdep 30 _ 42 (by kernel_rfl) rfl rfl)
                  exact ⟨wanted_guard (g := 20) (d := 32) (b := false) rfl rfl rfl (hdep 20 _ 32 (by kernel_rfl) rfl rfl), .inl (.inl ⟨w', by simp [execOp, Act.eval, e37, e42, e3, go_sem], hS0⟩)⟩
                · obtain rfl := Option.some.inj hop
                  have e32 : ac.tmps[32]?.getD undef = .bool false := (Array.getD_eq_getD_getElem? ..).symm.trans (hdep 20 _ 32 (by kernel_rfl) rfl rfl)
                  have e43 : ac.tmps[43]?.getD undef = .bool false := (Array.getD_eq_getD_getElem? ..).symm.trans (hdep 31 _ 43 (by kernel_rfl) rfl rfl)
                  exact ⟨wanted_free rfl, .inl (.inl ⟨w', by simp [execOp, Act.eval, e32, e43, go_sem], hS0⟩)⟩
                · obtain rfl := Option.some.inj hop
                  have e44 : ac.tmps[44]?.getD undef = .bool false := (Array.getD_eq_getD_getElem? ..).symm.trans (hdep 32 _ 44 (by kernel_rfl) rfl rfl)
                  exact ⟨wanted_free rfl, .inl (.inl ⟨w', by simp [execOp, Act.eval, e44, go_sem], hS0⟩)⟩
                · obtain rfl := Option.some.inj hop
                  have e5 : ac.tmps[5]?.getD undef = .int .i64 (k : Int) := (Array.getD_eq_getD_getElem? ..).symm.trans (hlow 5 (by kernel_rfl))
                  exact ⟨wanted_guard (g := 33) (d := 45) (b := false) rfl rfl rfl (hdep 33 _ 45 (by kernel_rfl) rfl rfl), .inl (.inl ⟨w', by simp [execOp, Act.eval, e5, go_sem], hS0⟩)⟩
                · obtain rfl := Option.some.inj hop
                  have e46 : ac.tmps[46]?.getD undef = .int .i64 (k : Int) := (Array.getD_eq_getD_getElem? ..).symm.trans (hdep 34 _ 46 (by kernel_rfl) rfl rfl)
                  exact ⟨wanted_guard (g := 33) (d := 45) (b := false) rfl rfl rfl (hdep 33 _ 45 (by kernel_rfl) rfl rfl), .inl (.inl ⟨w', by simp [execOp, Act.eval, e46, e4, go_sem], hS0⟩)⟩
                · obtain rfl := Option.some.inj hop
                  have e47 : ac.tmps[47]?.getD undef = .bool true := (Array.getD_eq_getD_getElem? ..).symm.trans (hdep 35 _ 47 (by kernel_rfl) rfl rfl)
                  exact ⟨wanted_guard (g := 33) (d := 45) (b := false) rfl rfl rfl (hdep 33 _ 45 (by kernel_rfl) rfl rfl), .inl (.inl ⟨w', by simp [execOp, Act.eval, e47, go_sem], hS0⟩)⟩
                · obtain rfl := Option.some.inj hop
                  have e1 : ac.tmps[1]?.getD undef = .slice (some ad) E.length c := (Array.getD_eq_getD_getElem? ..).symm.trans (hlow 1 (by kernel_rfl))
                  exact ⟨wanted_guard (g := 36) (d := 48) (b := true) rfl rfl rfl (hdep 36 _ 48 (by kernel_rfl) rfl rfl), .inl (.inl ⟨w', by simp [execOp, Act.eval, e1, go_sem], hS0⟩)⟩
                · obtain rfl := Option.some.inj hop
                  have e5 : ac.tmps[5]?.getD undef = .int .i64 (k : Int) := (Array.getD_eq_getD_getElem? ..).symm.trans (hlow 5 (by kernel_rfl))
                  exact ⟨wanted_guard (g := 36) (d := 48) (b := true) rfl rfl rfl (hdep 36 _ 48 (by kernel_rfl) rfl rfl), .inl (.inl ⟨w', by simp [execOp, Act.eval, e5, go_sem], hS0⟩)⟩
                · obtain rfl := Option.some.inj hop
                  have e50 : ac.tmps[50]?.getD undef = .int .i64 (k : Int) := (Array.getD_eq_getD_getElem? ..).symm.trans (hdep 38 _ 50 (by kernel_rfl) rfl rfl)
                  exact ⟨wanted_guard (g := 36) (d := 48) (b := true) rfl rfl rfl (hdep 36 _ 48 (by kernel_rfl) rfl rfl), .inl (.inl ⟨w', by simp [execOp, Act.eval, e50, em, ew, go_sem], hS0⟩)⟩
                · obtain rfl := Option.some.inj hop
                  have e49 : ac.tmps[49]?.getD undef = .slice (some ad) E.length c := (Array.getD_eq_getD_getElem? ..).symm.trans (hdep 37 _ 49 (by kernel_rfl) rfl rfl)
                  have e51 : ac.tmps[51]?.getD undef = .int .i64 (m : Int) := (Array.getD_eq_getD_getElem? ..).symm.trans (hdep 39 _ 51 (by kernel_rfl) rfl rfl)
                  exact ⟨wanted_guard (g := 36) (d := 48) (b := true) rfl rfl rfl (hdep 36 _ 48 (by kernel_rfl) rfl rfl), .inl (.inl ⟨w', by simp [execOp, Act.eval, e49, e51, hm0, hm2, go_sem], hS0⟩)⟩
                · obtain rfl := Option.some.inj hop
                  have e52 : ac.tmps[52]?.getD undef = .pointer (some (ad.add (m * 2))) := (Array.getD_eq_getD_getElem? ..).symm.trans (hdep 40 _ 52 (by kernel_rfl) rfl rfl)
                  obtain ⟨p0, p1⟩ := HG.out w' hS0
                  exact ⟨wanted_guard (g := 36) (d := 48) (b := true) rfl rfl rfl (hdep 36 _ 48 (by kernel_rfl) rfl rfl), .inl (.inl ⟨w', by simp [execOp, Act.eval, e52, p0, p1, go_sem], hS0⟩)⟩
                · obtain rfl := Option.some.inj hop
                  have e1 : ac.tmps[1]?.getD undef = .slice (some ad) E.length c := (Array.getD_eq_getD_getElem? ..).symm.trans (hlow 1 (by kernel_rfl))
                  exact ⟨wanted_guard (g := 36) (d := 48) (b := true) rfl rfl rfl (hdep 36 _ 48 (by kernel_rfl) rfl rfl), .inl (.inl ⟨w', by simp [execOp, Act.eval, e1, go_sem], hS0⟩)⟩
                · obtain rfl := Option.some.inj hop
                  have e5 : ac.tmps[5]?.getD undef = .int .i64 (k : Int) := (Array.getD_eq_getD_getElem? ..).symm.trans (hlow 5 (by kernel_rfl))
                  exact ⟨wanted_guard (g := 36) (d := 48) (b := true) rfl rfl rfl (hdep 36 _ 48 (by kernel_rfl) rfl rfl), .inl (.inl ⟨w', by simp [execOp, Act.eval, e5, go_sem], hS0⟩)⟩
                · obtain rfl := Option.some.inj hop
                  have e54 : ac.tmps[54]?.getD undef = .slice (some ad) E.length c := (Array.getD_eq_getD_getElem? ..).symm.trans (hdep 42 _ 54 (by kernel_rfl) rfl rfl)
                  have e55 : ac.tmps[55]?.getD undef = .int .i64 (k : Int) := (Array.getD_eq_getD_getElem? ..).symm.trans (hdep 43 _ 55 (by kernel_rfl) rfl rfl)
                  exact ⟨wanted_guard (g := 36) (d := 48) (b := true) rfl rfl rfl (hdep 36 _ 48 (by kernel_rfl) rfl rfl), .inl (.inl ⟨w', by simp [execOp, Act.eval, e54, e55, hk0, hk1, go_sem], hS0⟩)⟩
                · obtain rfl := Option.some.inj hop
                  have e56 : ac.tmps[56]?.getD undef = .pointer (some (ad.add (k * 2))) := (Array.getD_eq_getD_getElem? ..).symm.trans (hdep 44 _ 56 (by kernel_rfl) rfl rfl)
                  obtain ⟨p0, p1⟩ := HF.out w' hS0
                  exact ⟨wanted_guard (g := 36) (d := 48) (b := true) rfl rfl rfl (hdep 36 _ 48 (by kernel_rfl) rfl rfl), .inl (.inl ⟨w', by simp [execOp, Act.eval, e56, p0, p1, go_sem], hS0⟩)⟩
                · obtain rfl := Option.some.inj hop
                  have e53 : ac.tmps[53]?.getD undef = .agg #[.int .i64 y.1, .int .i64 y.2] := (Array.getD_eq_getD_getElem? ..).symm.trans (hdep 41 _ 53 (by kernel_rfl) rfl rfl)
                  have e57 : ac.tmps[57]?.getD undef = .agg #[.int .i64 x.1, .int .i64 x.2] := (Array.getD_eq_getD_getElem? ..).symm.trans (hdep 45 _ 57 (by kernel_rfl) rfl rfl)
                  refine ⟨wanted_guard (g := 36) (d := 48) (b := true) rfl rfl rfl (hdep 36 _ 48 (by kernel_rfl) rfl rfl), .inl (.inr ⟨98, #[.agg #[.int .i64 y.1, .int .i64 y.2], .agg #[.int .i64 x.1, .int .i64 x.2]], by simp [execOp, Act.eval, e53, e57, go_sem], (HBF.out w').mono ?_⟩)⟩
                  rintro e w2 ⟨rfl, hb⟩
                  exact ⟨rfl, kb hS0 hb⟩
                · obtain rfl := Option.some.inj hop
                  have e58 : ac.tmps[58]?.getD undef = .bool b := (Array.getD_eq_getD_getElem? ..).symm.trans (hdep 46 _ 58 (by kernel_rfl) rfl rfl)
                  exact ⟨wanted_guard (g := 36) (d := 48) (b := true) rfl rfl rfl (hdep 36 _ 48 (by kernel_rfl) rfl rfl), .inl (.inl ⟨w', by simp [execOp, Act.eval, e58, go_sem], hS0⟩)⟩
                · obtain rfl := Option.some.inj hop
                  have e48 : ac.tmps[48]?.getD undef = .bool true := (Array.getD_eq_getD_getElem? ..).symm.trans (hdep 36 _ 48 (by kernel_rfl) rfl rfl)
                  have e59 : ac.tmps[59]?.getD undef = .bool (!b) := (Array.getD_eq_getD_getElem? ..).symm.trans (hdep 47 _ 59 (by kernel_rfl) rfl rfl)
                  exact ⟨wanted_guard (g := 33) (d := 45) (b := false) rfl rfl rfl (hdep 33 _ 45 (by kernel_rfl) rfl rfl), .inl (.inl ⟨w', by simp [execOp, Act.eval, e48, e59, go_sem], hS0⟩)⟩
                · obtain rfl := Option.some.inj hop
                  have e45 : ac.tmps[45]?.getD undef = .bool false := (Array.getD_eq_getD_getElem? ..).symm.trans (hdep 33 _ 45 (by kernel_rfl) rfl rfl)
                  have e60 : ac.tmps[60]?.getD undef = .bool (!b) := (Array.getD_eq_getD_getElem? ..).symm.trans (hdep 48 _ 60 (by kernel_rfl) rfl rfl)
                  exact ⟨wanted_free rfl, .inl (.inl ⟨w', by simp [execOp, Act.eval, e45, e60, go_sem], hS0⟩)⟩
    · obtain rfl : k = E.length := by omega
      have HC := Lib.hid (fun W => l1In_any n 0 8 W)
      have HB := Lib.hid hb
      clear hb hr
      by_cases hn : 0 ≤ n ∧ n ≤ 8
      · have e0 : inB n 0 8 = true := decide_eq_true hn
        have HPT := Lib.hid (hP.out hn)
        rw [e0] at HC
        have HN := Lib.hid hn
        clear hn hP e0
        by_cases h28 : E.length ≤ 28
        · go_wp2_with fail
          refine (HC.out _).mono ?_
          rintro e _ ⟨rfl, rfl⟩
          have e1 : decide ((E.length : Int) ≤ 28) = true := decide_eq_true (by omega)
          go_wp2
          go_ret
          refine ⟨true, rfl, fun _ => ?_, (fun h => by cases h), HB.out⟩
          unfold pairsB
          rw [decide_eq_true HN.out, HPT.out, decide_eq_true h28]
          rfl
        · go_wp2_with fail
          refine (HC.out _).mono ?_
          rintro e _ ⟨rfl, rfl⟩
          have e1 : decide ((E.length : Int) ≤ 28) = false := decide_eq_false (by omega)
          go_wp2
          go_ret
          refine ⟨false, rfl, (fun h => by cases h), fun _ => ?_, HB.out⟩
          unfold precB pairsB
          rw [decide_eq_false h28, Bool.false_and, Bool.and_false, Bool.false_and]
      · have e0 : inB n 0 8 = false := decide_eq_false hn
        rw [e0] at HC
        have HN := Lib.hid hn
        clear hn hP e0
        go_wp2_with fail
        refine (HC.out _).mono ?_
        rintro e _ ⟨rfl, rfl⟩
        go_wp2
        go_ret
        refine ⟨false, rfl, (fun h => by cases h), fun _ => ?_, HB.out⟩
        unfold precB pairsB
        rw [decide_eq_false HN.out, Bool.false_and, Bool.false_and]
end Go.Proofs.YtapbgmmkkngdoaaDoor

namespace Go.Proofs.YtapbgmmkkngdoaaDoor
open Go.RowKit
set_option maxRecDepth 100000 in
set_option maxHeartbeats 1000000 in
theorem l4Good_any (A : Option Addr) (c : Nat) (n : Int) (E : List Pr) (w : World) (hr : Row w A (pc E)) (hl : E.length ≤ 10000000) :
    Calls Tryd.prog 43 #[.int .i64 n, .slice A E.length c] w fun e w' => e = .returned (.bool (precB n E)) ∧ Below w.heap.size w w' := by
  have H := Lib.hid (l4Pairs_any A c n E w hr hl)
  have HR := Lib.hid hr
  clear hr
  go_enter Tryd.func43, Tryd.ntmps43
  go_wp2_with fail
  refine H.out.mono ?_
  rintro e w1 ⟨b, rfl, ht, hf, hb⟩
  have HB := Lib.hid hb
  cases b
  · have HP := Lib.hid (hf rfl)
    clear ht hf hb
    go_wp2
    go_ret
    exact ⟨by rw [HP.out]; rfl, HB.out⟩
  · have hp := ht rfl
    obtain ⟨h0, h8, h28, hpt⟩ := pairs_out hp
    obtain ⟨m, rfl⟩ : ∃ m : Nat, n = (m : Int) := ⟨n.toNat, by omega⟩
    have HP := Lib.hid (precB_good hp)
    have hm : m ≤ 8 := by omega
    have HT := Lib.hid (l4Table_any A c m E w1 (HR.out.below hb) hl hm (edsIn_of (n := m) (by exact_mod_cast hpt)))
    clear ht hf hb hp h0 h8 h28 hpt
    go_wp2_with fail
    refine HT.out.mono ?_
    rintro e w2 ⟨gs, v, rfl, hTb, hgl, hb2⟩
    have HB2 := Lib.hid (HB.out.trans (hb2.mono HB.out.size))
    have HTb := Lib.hid hTb
    have HGL := Lib.hid hgl
    clear hTb hgl hb2
    go_wp2
    go_loop [6] (fun i => ∃ k : Nat, k ≤ m ∧ i = .int .i64 (k : Int) ∧ Hid (irrB m E k = true)) (fun i => m - (intOf i).toNat)
    case atStart => exact ⟨0, Nat.zero_le _, rfl, rfl⟩
    case round =>
      obtain ⟨k, hk, rfl, HI⟩ := hrel
      by_cases hlt : k < m
      · obtain ⟨g, cc, q, hV, hq, hcell, hBq, hqB, hgq, hrow⟩ := HTb.out.at_ (i := k) (by rw [HGL.out]; exact hlt)
        subst hV
        have hck := hrow k hlt
        have hk0 : (0 : Int) ≤ k := by omega
        have hk1 : (k : Int) < gs.length := by rw [HGL.out]; omega
        have hk2 : (k : Int) < m := by omega
        clear hrow hBq hq hgq
        cases htk : tabB m E k k
        · have HI2 : Hid (irrB m E (k + 1) = true) := by show _ = _; rw [irrB_succ, HI.out, htk]; rfl
          rw [htk] at hck
          clear htk
          go_wp2
          go_round
          case rel => exact ⟨k + 1, by omega, by go_num, HI2.out⟩
          case measure => simp [intOf]; omega
        · have HI2 : Hid (irrB m E m = false) := irrB_bad hlt htk
          rw [htk] at hck
          clear htk
          go_wp2
          go_ret
          exact ⟨by rw [HP.out, HI2.out]; rfl, HB2.out⟩
      · obtain rfl : k = m := by omega
        go_wp2
        go_ret
        exact ⟨by rw [HP.out, HI.out]; rfl, HB2.out⟩
theorem spec_IsPrecedence (A : Option Addr) (c : Nat) (n : Int) (E : List Pr) (w : World) (hr : Row w A (pc E)) (hl : E.length ≤ 10000000) :
    Calls Tryd.prog 12 #[.int .i64 n, .slice A E.length c] w fun e w' => e = .returned (.bool (precB n E)) ∧ Below w.heap.size w w' := by
  have H := Lib.hid (l4Good_any A c n E w hr hl)
  go_enter Tryd.func12, Tryd.ntmps12
  go_wp2_with fail
  refine H.out.mono ?_
  rintro e w1 ⟨rfl, hb⟩
  go_wp2
  go_ret
  exact ⟨rfl, hb⟩
end Go.Proofs.YtapbgmmkkngdoaaDoor

namespace Go.Proofs.YtapbgmmkkngdoaaDoor
open Go.RowKit
theorem eqIntA2_same (x : Pr) (w : World) :
    Calls Tryd.prog 46 #[.agg #[.int .i64 x.1, .int .i64 x.2], .agg #[.int .i64 x.1, .int .i64 x.2]] w fun e w' => e = .returned (.bool true) ∧ Below w.heap.size w w' := by
  have b1 := (Below.refl w.heap.size w).alloc (Nat.le_refl _) (.cells #[.int .i64 x.1, .int .i64 x.2] 56)
  have b2 := b1.alloc b1.size (.cells #[.int .i64 x.1, .int .i64 x.2] 56)
  have h1 := (BlockIs.new w 56 #[.int .i64 x.1, .int .i64 x.2]).below ((Below.refl _ _).alloc (Nat.le_refl _) (.cells #[.int .i64 x.1, .int .i64 x.2] 56))
  have h2 := BlockIs.new (w.alloc (.cells #[.int .i64 x.1, .int .i64 x.2] 56)) 56 #[.int .i64 x.1, .int .i64 x.2]
  have hs : (w.alloc (.cells #[.int .i64 x.1, .int .i64 x.2] 56)).heap.size = w.heap.size + 1 := by simp
  rw [hs] at h2
  have c0 := h1.cell 0
  have c1 := h1.cell 1
  have d0 := h2.cell 0
  have d1 := h2.cell 1
  simp only [List.getElem?_toArray, List.getElem?_cons_zero, List.getElem?_cons_succ] at c0 c1 d0 d1
  have HB := Lib.hid b2
  have HC := Lib.hid (And.intro c0 (And.intro c1 (And.intro d0 d1)))
  clear b1 b2 h1 h2 hs c0 c1 d0 d1
  go_enter Tryd.func46, Tryd.ntmps46
  go_wp2
  go_loopw [5] (fun i wr => ∃ k n : Nat, k ≤ 2 ∧ i = .int .i64 (k : Int) ∧ wr = ((w.alloc (.cells #[.int .i64 x.1, .int .i64 x.2] 56)).alloc (.cells #[.int .i64 x.1, .int .i64 x.2] 56)).drewN n) (fun i _ => 2 - (intOf i).toNat)
  case atStart => exact ⟨0, 0, by omega, rfl, rfl⟩
  case round =>
    obtain ⟨k, n, hk, rfl, rfl⟩ := hrel
    generalize ((w.alloc (.cells #[.int .i64 x.1, .int .i64 x.2] 56)).alloc (.cells #[.int .i64 x.1, .int .i64 x.2] 56)) = W at *
    have e0 : (W.drewN n).cell? ⟨w.heap.size, 0, none⟩ = some (.int .i64 x.1) := HC.out.1
    have e1 : (W.drewN n).cell? ⟨w.heap.size, 1, none⟩ = some (.int .i64 x.2) := HC.out.2.1
    have e2 : (W.drewN n).cell? ⟨w.heap.size + 1, 0, none⟩ = some (.int .i64 x.1) := HC.out.2.2.1
    have e3 : (W.drewN n).cell? ⟨w.heap.size + 1, 1, none⟩ = some (.int .i64 x.2) := HC.out.2.2.2
    obtain ⟨c0, c1, d0, d1⟩ := HC.out
    rcases (by omega : k = 0 ∨ k = 1 ∨ k = 2) with rfl | rfl | rfl
    · go_wp2
      go_quiet (fail)
      go_wp2
      go_roundw
      case rel => exact ⟨1, _, by omega, by go_num, rfl⟩
      case measure => simp [intOf]
    · go_wp2
      go_quiet (fail)
      go_wp2
      go_roundw
      case rel => exact ⟨2, _, by omega, by go_num, rfl⟩
      case measure => simp [intOf]
    · go_wp2
      go_ret
      exact ⟨rfl, below_drewN HB.out _⟩
theorem eqIntA2S_seg (A B : Option Addr) (c d : Nat) (xs : List Pr) (w : World) (hr : Row w A (pc xs)) (hq : Row w B (pc xs)) (hn : xs.length ≤ 10000000) :
    Calls Tryd.prog 15 #[.slice A xs.length c, .slice B xs.length d] w fun e w' => e = .returned (.bool true) ∧ Below w.heap.size w w' := by
  go_enter Tryd.func15, Tryd.ntmps15
  go_wp2
  go_loopw [5] (fun i wr => ∃ k : Nat, k ≤ xs.length ∧ i = .int .i64 k ∧ Below w.heap.size w wr) (fun i _ => xs.length - (intOf i).toNat)
  case atStart => exact ⟨0, Nat.zero_le _, rfl, Below.refl _ _⟩
  case round =>
    obtain ⟨k, hk, rfl, hb⟩ := hrel
    by_cases hlt : k < xs.length
    · obtain ⟨a, hA, _, hc0, hc1⟩ := (hr.below hb).pair hlt
      obtain ⟨b, hB, _, hd0, hd1⟩ := (hq.below hb).pair hlt
      subst hA hB
      have HB := Lib.hid hb
      clear hr hq hb
      generalize xs[k] = j at *
      have hi : (0 : Int) ≤ k := by omega
      have hi' : (k : Int) < xs.length := by omega
      go_wp2
      go_region_with (go_at_call 46; refine (eqIntA2_same j _).mono ?_; rintro e w1 ⟨rfl, hb1⟩)
      all_goals
        go_wp2
        go_roundw
        case rel => exact ⟨k + 1, by omega, by go_num, HB.out.trans ((⟨hb1.os, hb1.tape, hb1.output, hb1.size, hb1.block⟩ : Below wr.heap.size wr w1).mono HB.out.size)⟩
        case measure => simp [intOf]; omega
    · go_wp2
      go_ret
      exact ⟨rfl, hb⟩
theorem markIntA2S_none (A : Option Addr) (c : Nat) (k : Int) (w : World) :
    Calls Tryd.prog 18 #[.slice A 0 c, .int .i64 k] w fun e w' => e = .returned (.int .i64 k) ∧ w = w' := by
  go_enter Tryd.func18, Tryd.ntmps18
  go_wp2
  refine wp_loop_rounds 1 ?_
  rw [rounds_succ]
  go_wp2
  go_ret
  exact ⟨rfl, rfl⟩
theorem markIntA2S_some (g c n k0 : Nat) (cs0 : Array Value) (w : World) (h : BlockIs w g 56 cs0) (hn : cs0.size = c * 2) (hnc : n ≤ c) (hn1 : n ≤ 10000000) (hk1 : k0 ≤ 1000000000) :
    Calls Tryd.prog 18 #[.slice (some ⟨g, 0, none⟩) n c, .int .i64 (k0 : Int)] w fun e w' => e = .returned (.int .i64 ((k0 + 2 * n : Nat) : Int)) ∧ (∃ cs, cs.size = cs0.size ∧ BlockIs w' g 56 cs ∧ cs.toList.take (n * 2) = marksI k0 (n * 2)) ∧ w.grownBy w' (some g) ∧ w'.heap.size = w.heap.size := by
  go_enter Tryd.func18, Tryd.ntmps18
  go_wp2
  go_loopw [1, 5] (fun k i wr => ∃ (m : Nat) (cs : Array Value), m ≤ n ∧ i = .int .i64 (m : Int) ∧ k = .int .i64 ((k0 + 2 * m : Nat) : Int) ∧ Hid (cs.size = cs0.size) ∧ Hid (BlockIs wr g 56 cs) ∧ Hid (PreC (marksI k0 (n * 2)) (m * 2) cs) ∧ Hid (w.grownBy wr (some g)) ∧ Hid (wr.heap.size = w.heap.size)) (fun _ i _ => n - (intOf i).toNat)
  case atStart => exact ⟨0, cs0, Nat.zero_le _, rfl, by go_num, rfl, h, ⟨by rw [marksI_len]; omega, by omega⟩, ⟨rfl, rfl, rfl, Nat.le_refl _, fun _ _ _ => rfl⟩, rfl⟩
  case round =>
    obtain ⟨m, cs, hm, rfl, rfl, hz, hB, hP, hG, hsz⟩ := hrel
    clear h
    by_cases hlt : m < n
    · have hi : (0 : Int) ≤ m := by omega
      have hi' : (m : Int) < n := by omega
      obtain ⟨wo, rfl⟩ : ∃ wo : World, wo = wr := ⟨_, rfl⟩
      go_wp2
      go_loopw [1, 6] (fun k jv wi => ∃ (j : Nat) (cs' : Array Value), j ≤ 2 ∧ jv = .int .i64 (j : Int) ∧ k = .int .i64 ((k0 + 2 * m + j : Nat) : Int) ∧ Hid (cs'.size = cs0.size) ∧ Hid (BlockIs wi g 56 cs') ∧ Hid (PreC (marksI k0 (n * 2)) (m * 2 + j) cs') ∧ Hid (w.grownBy wi (some g)) ∧ Hid (wi.heap.size = w.heap.size)) (fun _ jv _ => 2 - (intOf jv).toNat)
      case atStart => exact ⟨0, cs, by omega, rfl, by go_num, hz, hB, hP, hG, hsz⟩
      case round =>
        obtain ⟨j, cs', hj, rfl, rfl, hz', hB', hP', hG', hsz'⟩ := hrel
        clear hz hB hP hG hsz
        by_cases hj2 : j < 2
        · have hj0 : (0 : Int) ≤ j := by omega
          have hj1 : (j : Int) < 2 := by omega
          obtain ⟨v0, hv0⟩ : ∃ v, cs'[m * 2 + j]? = some v := ⟨_, Array.getElem?_eq_getElem (by have := hz'.out; omega)⟩
          have hck : wr.cell? ⟨g, m * 2 + j, none⟩ = some v0 := by rw [hB'.out.cell, hv0]
          have hfz := hB'.out.frozen (m * 2 + j)
          have hst := hP'.out.step (by rw [marksI_len]; omega)
          rw [marksI_get k0 (n * 2) (m * 2 + j) (by omega)] at hst
          have HS := Lib.hid hst
          have HB2 := Lib.hid (hB'.out.set (m * 2 + j) (.int .i64 ((k0 + (m * 2 + j) : Nat) : Int)))
          have HG2 := Lib.hid (grown_setCell hG'.out (m * 2 + j) (.int .i64 ((k0 + (m * 2 + j) : Nat) : Int)))
          have hcast : ((k0 + (m * 2 + j) : Nat) : Int) = (k0 : Int) + 2 * m + j := by omega
          rw [hcast] at HB2 HG2 HS
          have HZ2 : Hid ((wr.setCell ⟨g, m * 2 + j, none⟩ (.int .i64 ((k0 : Int) + 2 * m + j))).heap.size = w.heap.size) := by show _ = _; rw [← hsz'.out]; simp [World.setCell]
          have HZ3 := hz'
          clear hv0 hst hB' hP' hG' hsz' hz' hcast
          go_wp2
          go_roundw
          case rel => exact ⟨j + 1, _, by omega, by go_num, by go_num, by show _ = _; rw [Array.size_setIfInBounds]; exact HZ3.out, HB2.out, HS.out, HG2.out, HZ2.out⟩
          case measure => simp [intOf]; omega
        · obtain rfl : j = 2 := by omega
          go_wp2
          go_roundw
          case rel => exact ⟨m + 1, cs', by omega, by go_num, by go_num, hz', hB', by rw [show (m + 1) * 2 = m * 2 + 2 by omega]; exact hP', hG', hsz'⟩
          case measure => simp [intOf]; omega
    · obtain rfl : m = n := by omega
      go_wp2
      go_ret
      refine ⟨rfl, ⟨cs, hz.out, hB.out, ?_⟩, hG.out, hsz.out⟩
      have hl := marksI_len k0 (m * 2)
      have hP' : PreC (marksI k0 (m * 2)) (marksI k0 (m * 2)).length cs := by rw [hl]; exact hP.out
      have := hP'.all
      rwa [hl] at this
theorem markIntA2S_seg (A : Option Addr) (c n lo hi : Nat) (k : Int) (cs : List Value) (w : World) (h : Seg w 56 2 lo hi A n c cs) (h0 : 0 ≤ k) (h1 : k ≤ 1000000000) (hn : n ≤ 10000000) :
    Calls Tryd.prog 18 #[.slice A n c, .int .i64 k] w fun e w' => e = .returned (.int .i64 (k + 2 * n)) ∧ Seg w' 56 2 lo hi A n c (marksI k.toNat (n * 2)) ∧ Touch lo hi w w' := by
  have hk : k = (k.toNat : Int) := by omega
  by_cases hz : n = 0
  · subst hz
    refine (markIntA2S_none A c k w).mono ?_
    rintro e w' ⟨rfl, rfl⟩
    have hcs := h.slice_nil
    subst hcs
    exact ⟨by simp, h, Touch.refl _ _ _⟩
  · obtain ⟨g, cur, rfl, hlo, hhi, hB, h2, h3, h4, h5⟩ := h.block (by omega)
    have H := markIntA2S_some g c n k.toNat cur w hB h4 h2 hn (by omega)
    rw [← hk] at H
    refine H.mono ?_
    rintro e w' ⟨rfl, ⟨cs', hz', hB', hm⟩, hG, hs⟩
    refine ⟨by rw [show ((k.toNat + 2 * n : Nat) : Int) = k + 2 * n by omega], ⟨?_, h.top, by rw [hs]; exact h.fit⟩, Touch.of_grown hG hlo hhi⟩
    have := hB'.own (base := lo) (n := n) (c := c) (size := 2) hlo (by omega) h2 h3 (by omega)
    rwa [hm] at this
theorem heldIntA2S_seg (A : Option Addr) (c n : Nat) (k : Int) (w : World) (hr : Row w A (marksI k.toNat (n * 2))) (h0 : 0 ≤ k) (h1 : k ≤ 1000000000) (hn : n ≤ 10000000) :
    Calls Tryd.prog 19 #[.slice A n c, .int .i64 k] w fun e w' => e = .returned (.int .i64 (k + 2 * n)) ∧ w = w' := by
  have hk : k = (k.toNat : Int) := by omega
  generalize k.toNat = k0 at *
  subst hk
  go_enter Tryd.func19, Tryd.ntmps19
  go_wp2
  go_loop [1, 5] (fun k i => ∃ m : Nat, m ≤ n ∧ i = .int .i64 (m : Int) ∧ k = .int .i64 ((k0 : Int) + 2 * m)) (fun _ i => n - (intOf i).toNat)
  case atStart => exact ⟨0, Nat.zero_le _, rfl, by go_num⟩
  case round =>
    obtain ⟨m, hm, rfl, rfl⟩ := hrel
    by_cases hlt : m < n
    · have hi0 : (0 : Int) ≤ m := by omega
      have hi1 : (m : Int) < n := by omega
      go_wp2
      go_loop [1, 6] (fun k jv => ∃ j : Nat, j ≤ 2 ∧ jv = .int .i64 (j : Int) ∧ k = .int .i64 ((k0 : Int) + 2 * m + j)) (fun _ jv => 2 - (intOf jv).toNat)
      case atStart => exact ⟨0, by omega, rfl, by go_num⟩
      case round =>
        obtain ⟨j, hj, rfl, rfl⟩ := hrel
        by_cases hj2 : j < 2
        · have hj0 : (0 : Int) ≤ j := by omega
          have hj1 : (j : Int) < 2 := by omega
          obtain ⟨ad, hA, hc⟩ := hr.at_ (k := m * 2 + j) (by rw [marksI_len]; omega)
          rw [marksI_get k0 (n * 2) (m * 2 + j) (by omega), show ((k0 + (m * 2 + j) : Nat) : Int) = (k0 : Int) + 2 * m + j by omega] at hc
          subst hA
          have hc' : w.cell? ((ad.add (m * 2)).add j) = some (.int .i64 ((k0 : Int) + 2 * m + j)) := by rw [add_add]; exact hc
          clear hr
          go_wp2
          go_round
          case rel => exact ⟨j + 1, by omega, by go_num, by go_num⟩
          case measure => simp [intOf]; omega
        · obtain rfl : j = 2 := by omega
          go_wp2
          go_round
          case rel => exact ⟨m + 1, by omega, by go_num, by go_num⟩
          case measure => simp [intOf]; omega
    · obtain rfl : m = n := by omega
      go_wp2
      go_ret
      exact ⟨rfl, rfl⟩
/-- What a function hands back: a list of pairs, memory of its own, and a bool. -/
def RetPB (w : World) (r : List Pr × Bool) (e : Ending) (w' : World) : Prop :=
  ∃ A c, e = .returned (.tuple #[.slice A r.1.length c, .bool r.2]) ∧ Seg w' 56 2 w.heap.size w'.heap.size A r.1.length c (pc r.1) ∧ Below w.heap.size w w'
theorem ret_emptyP {w w1 : World} {r : List Pr × Bool} (hr : r = ([], false)) (hb : Below w.heap.size w w1) (e : Ending) (he : e = .returned (.tuple #[.slice (some ⟨w1.heap.size, 0, none⟩) 0 0, .bool false])) : RetPB w r e (w1.alloc (.cells #[] 56)) := by
  subst hr he
  have h : (w1.alloc (.cells #[] 56)).ownsRow w.heap.size 56 2 (.slice (some ⟨w1.heap.size, 0, none⟩) 0 0) 0 (pc []) := World.ownsRow_made w1 #[] 0 hb.size (by unfold maxLen; omega) rfl
  exact ⟨_, 0, rfl, Seg.of_own h, hb.alloc hb.size _⟩
end Go.Proofs.YtapbgmmkkngdoaaDoor

namespace Go.Proofs.YtapbgmmkkngdoaaDoor
open Go.RowKit
theorem infoPp : (Tryd.prog.info? 56).map (fun i => (i.zero, i.size, i.bytes)) = some (some (.agg #[.int .i64 0, .int .i64 0]), 2, 16) := by kernel_rfl
/-- Blocks that hold no pairs are as they were. -/
def KeepP (w w' : World) : Prop := ∀ q t cs, t ≠ 56 → BlockIs w q t cs → BlockIs w' q t cs
theorem KeepP.refl (w : World) : KeepP w w := fun _ _ _ _ h => h
theorem KeepP.trans {a b c : World} (h : KeepP a b) (k : KeepP b c) : KeepP a c := fun q t cs ht hB => k q t cs ht (h q t cs ht hB)
theorem KeepP.of_below {w w' : World} (h : Below w.heap.size w w') : KeepP w w' := fun _ _ _ _ hB => hB.below h
theorem TabR.keepP {B n : Nat} {T : Nat → Nat → Bool} {gs : List Nat} {v : Value} {w w' : World} (h : TabR B n T gs v w) (hk : KeepP w w') : TabR B n T gs v w' := by
  refine ⟨own_to h.1 fun q hq _ _ => ?_, fun i hi => ⟨hk _ _ _ (by decide) (h.2.1 i hi).1, (h.2.1 i hi).2⟩, h.2.2⟩
  obtain ⟨_, _, c1, t1⟩ := own_type h.1 hq
  exact (hk _ _ _ (by decide) t1).trans t1.symm
theorem pc_one (x : Pr) : pc [x] = [.int .i64 x.1, .int .i64 x.2] := rfl
theorem pushP {w0 w : World} {v : Value} {xs : List Pr} (h : w.ownsRow w0.heap.size 56 2 v xs.length (pc xs)) (hb : Below w0.heap.size w0 w) (x : Pr) (hl : xs.length ≤ 1000) :
    ∃ v' w3, (Builtin.append_ #[22, 22] 22 #[v, .slice (some ⟨w.heap.size, 0, none⟩) 1 1]).run Tryd.prog (w.alloc (.cells #[.int .i64 x.1, .int .i64 x.2] 56)) = .ok v' w3 ∧
      w3.ownsRow w0.heap.size 56 2 v' (xs ++ [x]).length (pc (xs ++ [x])) ∧ Below w0.heap.size w0 w3 ∧ KeepP w w3 := by
  obtain ⟨i1, hj, hy0, hy1, hy2⟩ := info_parts infoPp
  have hb1 := hb.alloc hb.size (.cells #[.int .i64 x.1, .int .i64 x.2] 56)
  have hbw : Below w.heap.size w (w.alloc (.cells #[.int .i64 x.1, .int .i64 x.2] 56)) := (Below.refl _ w).alloc (Nat.le_refl _) _
  have h2 := own_blw h hbw
  have hsrc := row_srcS (Row.new w 56 #[.int .i64 x.1, .int .i64 x.2])
  obtain ⟨v', w3, hrun, ho3, hgr, _⟩ := append_at (P := Tryd.prog) (w.alloc (.cells #[.int .i64 x.1, .int .i64 x.2] 56)) w0.heap.size 22 22 56 i1 (.agg #[.int .i64 0, .int .i64 0]) 2 16 Tryd.underlying22 hj hy0 hy1 hy2 rfl (by decide) _ _ _ h2 ⟨w.heap.size, 0, none⟩ 1 1 [.int .i64 x.1, .int .i64 x.2] rfl hsrc (by intro u hu; simp at hu; rcases hu with rfl | rfl <;> rfl) (by omega) (by unfold maxLen; omega) (by omega) hb1.size
  refine ⟨v', w3, hrun, ?_, hb1.grown hgr hb1.size (fun j hj => (h2.lt j hj).1), fun q t cs ht hB => ?_⟩
  · rw [pc_snoc]; simpa [cellsP] using ho3
  · have hB1 := hB.below hbw
    refine (hgr.block q hB1.lt fun e => ?_).trans hB1
    obtain ⟨_, _, c1, t1⟩ := own_type h2 e.symm
    exact type_ne hB1 t1 ht rfl
end Go.Proofs.YtapbgmmkkngdoaaDoor

namespace Go.Proofs.YtapbgmmkkngdoaaDoor
open Go.RowKit
def closR (n : Int) (E : List Pr) : List Pr × Bool := if precB n E then (closL n.toNat E, true) else ([], false)
def reduR (n : Int) (E : List Pr) : List Pr × Bool := if precB n E then (reduL n.toNat E, true) else ([], false)
theorem closR_len (n : Int) (E : List Pr) : (closR n E).1.length ≤ 64 := by
  unfold closR
  split
  · rename_i h
    unfold precB at h
    rw [Bool.and_eq_true] at h
    obtain ⟨h0, h8, _, _⟩ := pairs_out h.1
    have h1 := clsTo_len n.toNat (tabB n.toNat E) n.toNat
    have h3 : n.toNat * n.toNat ≤ 8 * 8 := Nat.mul_le_mul (by omega) (by omega)
    show (clsTo _ _ _).length ≤ _
    omega
  · simp
theorem reduR_len (n : Int) (E : List Pr) : (reduR n E).1.length ≤ 64 := by
  unfold reduR
  split
  · rename_i h
    unfold precB at h
    rw [Bool.and_eq_true] at h
    obtain ⟨h0, h8, _, _⟩ := pairs_out h.1
    have h1 := clsTo_len n.toNat (directB n.toNat E) n.toNat
    have h3 : n.toNat * n.toNat ≤ 8 * 8 := Nat.mul_le_mul (by omega) (by omega)
    show (clsTo _ _ _).length ≤ _
    omega
  · simp
theorem ret_ownPr {w w' : World} {r : List Pr × Bool} {p : List Pr} {v : Value} (hr : r = (p, true)) (ho : w'.ownsRow w.heap.size 56 2 v p.length (pc p)) (hb : Below w.heap.size w w') (e : Ending) (he : e = .returned (.tuple #[v, .bool true])) : RetPB w r e w' := by
  obtain ⟨A, c, rfl, hs⟩ := seg_out ho
  subst hr he
  exact ⟨A, c, rfl, hs, hb⟩
theorem cls_bd (n : Nat) (T : Nat → Nat → Bool) (i j : Nat) (hi : i < n) (hj : j < n) (hn : n ≤ 8) : (clsTo n T i ++ rowTo T i j).length ≤ 1000 := by
  have h1 := clsTo_len n T i
  have h2 := rowTo_len T i j
  have h3 : i * n ≤ 8 * 8 := Nat.mul_le_mul (by omega) hn
  rw [List.length_append]
  omega
theorem prec_nat {n : Int} {E : List Pr} (h : precB n E = true) : ∃ m : Nat, n = (m : Int) ∧ m ≤ 8 ∧ EdsIn m E := by
  unfold precB at h
  rw [Bool.and_eq_true] at h
  obtain ⟨h0, h8, _, hp⟩ := pairs_out h.1
  exact ⟨n.toNat, by omega, by omega, edsIn_of (by rw [Int.toNat_of_nonneg h0]; exact hp)⟩
set_option maxRecDepth 100000 in
set_option maxHeartbeats 1000000 in
theorem l4Through_any {B n : Nat} {E : List Pr} {gs : List Nat} {g cc : Nat} {w : World} (h : TabR B n (tabB n E) gs (.slice (some ⟨g, 0, none⟩) gs.length cc) w) (hgl : gs.length = n) (i j : Nat) (hi : i < n) (hj : j < n) (hn : n ≤ 8) :
    Calls Tryd.prog 49 #[.slice (some ⟨g, 0, none⟩) gs.length cc, .int .i64 (i : Int), .int .i64 (j : Int)] w fun e w' => e = .returned (.bool ((List.range n).any fun k => tabB n E i k && tabB n E k j)) ∧ w = w' := by
  have HTb := Lib.hid h
  have HGL := Lib.hid hgl
  have hgn : gs.length ≤ 8 := by omega
  have HAny : Hid (∀ k, ((List.range (k + 1)).any fun k => tabB n E i k && tabB n E k j) = (((List.range k).any fun k => tabB n E i k && tabB n E k j) || (tabB n E i k && tabB n E k j))) := fun k => by rw [List.range_succ, List.any_append]; simp
  clear h
  go_enter Tryd.func49, Tryd.ntmps49
  go_wp2
  go_loop [7] (fun v => ∃ k : Nat, k ≤ n ∧ v = .int .i64 (k : Int) ∧ Hid (((List.range k).any fun k => tabB n E i k && tabB n E k j) = false)) (fun v => n - (intOf v).toNat)
  case atStart => exact ⟨0, Nat.zero_le _, rfl, rfl⟩
  case round =>
    obtain ⟨k, hk, rfl, HI⟩ := hrel
    by_cases hlt : k < n
    · obtain ⟨g1, c1, q, hV, hq, hcell, _, _, _, hrow⟩ := HTb.out.at_ (i := i) (by rw [HGL.out]; exact hi)
      obtain ⟨g2, c2, q2, hV2, hq2, hcell2, _, _, _, hrow2⟩ := HTb.out.at_ (i := k) (by rw [HGL.out]; exact hlt)
      obtain ⟨rfl, rfl⟩ : g = g1 ∧ cc = c1 := by
        injection hV with e1 _ e3
        injection e1 with e1
        injection e1 with e1 _ _
        exact ⟨e1, e3⟩
      obtain rfl : g = g2 := by
        injection hV2 with e1 _ e3
        injection e1 with e1
        injection e1 with e1 _ _
      have hik := hrow k hlt
      have hkj := hrow2 j hj
      have hkl : (k : Int) < gs.length := by rw [HGL.out]; omega
      have hil : (i : Int) < gs.length := by rw [HGL.out]; omega
      have hi0 : (0 : Int) ≤ i := by omega
      have hj0 : (0 : Int) ≤ j := by omega
      have hk0 : (0 : Int) ≤ k := by omega
      have hjn : (j : Int) < n := by omega
      have hkn : (k : Int) < n := by omega
      have HS : Hid (((List.range (k + 1)).any fun k => tabB n E i k && tabB n E k j) = (tabB n E i k && tabB n E k j)) := by show _ = _; rw [HAny.out, HI.out, Bool.false_or]
      have hkg : k < gs.length := by omega
      clear hrow hrow2 hV hV2 hq hq2 hgl
      cases h1 : tabB n E i k
      · rw [h1] at hik HS
        clear h1
        go_wp2
        go_round
        case rel => exact ⟨k + 1, by omega, by go_num, by rw [HS.out]; rfl⟩
        case measure => simp [intOf]; omega
      · cases h2 : tabB n E k j
        · rw [h1] at hik HS
          rw [h2] at hkj HS
          clear h1 h2
          go_wp2
          go_round
          case rel => exact ⟨k + 1, by omega, by go_num, by rw [HS.out]; rfl⟩
          case measure => simp [intOf]; omega
        · have HT : Hid (((List.range n).any fun k => tabB n E i k && tabB n E k j) = true) := by
            show _ = _
            rw [List.any_eq_true]
            exact ⟨k, List.mem_range.2 hlt, by rw [h1, h2]; rfl⟩
          rw [h1] at hik
          rw [h2] at hkj
          clear h1 h2 HS
          go_wp2
          go_ret
          exact ⟨by rw [HT.out]; rfl, rfl⟩
    · obtain rfl : k = n := by omega
      have HGL2 : ¬ (k : Int) < gs.length := by rw [HGL.out]; omega
      clear hgl
      go_wp2
      go_ret
      exact ⟨by rw [HI.out]; rfl, rfl⟩
set_option maxRecDepth 100000 in
set_option maxHeartbeats 4000000 in
theorem spec_PrecedenceClosure (A : Option Addr) (c : Nat) (n : Int) (E : List Pr) (w : World) (hr : Row w A (pc E)) (hl : E.length ≤ 10000000) :
    Calls Tryd.prog 16 #[.int .i64 n, .slice A E.length c] w (RetPB w (closR n E)) := by
  have HRR : Hid (closR n E = if precB n E then (closL n.toNat E, true) else ([], false)) := rfl
  have hb0 := (Below.refl w.heap.size w).alloc (Nat.le_refl _) (.cells #[] 56)
  have h0 : (w.alloc (.cells #[] 56)).ownsRow w.heap.size 56 2 (.slice (some ⟨w.heap.size, 0, none⟩) 0 0) 0 (pc []) := World.ownsRow_made w #[] 0 (Nat.le_refl _) (by unfold maxLen; omega) rfl
  have H0 := Lib.hid (And.intro hb0 h0)
  have HG := Lib.hid (l4Good_any A c n E _ (hr.below hb0) hl)
  have HR := Lib.hid hr
  clear hb0 h0 hr
  go_enter Tryd.func16, Tryd.ntmps16
  go_wp2_with fail
  refine HG.out.mono ?_
  rintro e w1 ⟨rfl, hb1⟩
  cases hp : precB n E
  · rw [hp] at HRR
    have HB := Lib.hid (H0.out.1.trans (hb1.mono H0.out.1.size))
    have HO := Lib.hid (own_blw H0.out.2 hb1)
    clear hp hb1 H0 HG
    go_wp2
    go_ret2
    obtain ⟨A', c', hA, hs⟩ := seg_out HO.out
    injection hA with e1 _ e3
    subst e1 e3
    rw [show closR n E = ([], false) from HRR.out]
    exact ⟨_, _, rfl, hs, HB.out⟩
  · rw [hp] at HRR
    obtain ⟨m, rfl, hm, hE⟩ := prec_nat hp
    rw [Int.toNat_natCast] at HRR
    have HB1 := Lib.hid (H0.out.1.trans (hb1.mono H0.out.1.size))
    have HO := Lib.hid (own_blw H0.out.2 hb1)
    have HTB := Lib.hid (l4Table_any A c m E w1 (HR.out.below HB1.out) hl hm hE)
    clear hp hb1 H0 HG hE
    go_wp2_with fail
    refine HTB.out.mono ?_
    rintro e w2 ⟨gs, v, rfl, hTb, hgl, hb2⟩
    have HB2 := Lib.hid (HB1.out.trans (hb2.mono HB1.out.size))
    have HO2 := Lib.hid (own_blw HO.out hb2)
    have HTb := Lib.hid (show TabR w1.heap.size m (tabB m E) gs v w2 from hTb)
    have HGL := Lib.hid hgl
    clear hTb hgl hb2 HB1 HO HTB
    go_wp2
    go_loopw [6, 8] (fun u i wr => ∃ (k : Nat) (U : Value), k ≤ m ∧ i = .int .i64 (k : Int) ∧ U = u ∧ Hid (wr.ownsRow w.heap.size 56 2 U (clsTo m (tabB m E) k).length (pc (clsTo m (tabB m E) k))) ∧ Hid (TabR w1.heap.size m (tabB m E) gs v wr) ∧ Hid (Below w.heap.size w wr)) (fun _ i _ => m - (intOf i).toNat)
    case atStart => exact ⟨0, _, Nat.zero_le _, rfl, rfl, HO2.out, HTb.out, HB2.out⟩
    case round =>
      obtain ⟨i, U, hi, rfl, rfl, hO, hTb, hb⟩ := hrel
      clear HO2 HTb HB2
      by_cases hlti : i < m
      · go_wp2
        obtain ⟨wo, rfl⟩ : ∃ wo : World, wo = wr := ⟨_, rfl⟩
        go_loopw [6, 9] (fun u jv wr => ∃ (j : Nat) (U2 : Value), j ≤ m ∧ jv = .int .i64 (j : Int) ∧ U2 = u ∧ Hid (wr.ownsRow w.heap.size 56 2 U2 (clsTo m (tabB m E) i ++ rowTo (tabB m E) i j).length (pc (clsTo m (tabB m E) i ++ rowTo (tabB m E) i j))) ∧ Hid (TabR w1.heap.size m (tabB m E) gs v wr) ∧ Hid (Below w.heap.size w wr)) (fun _ jv _ => m - (intOf jv).toNat)
        case atStart => exact ⟨0, _, Nat.zero_le _, rfl, rfl, by rw [show rowTo (tabB m E) i 0 = [] from rfl, List.append_nil]; exact hO, hTb, hb⟩
        case round =>
          clear hO hTb hb
          obtain ⟨j, U2, hj, rfl, rfl, hO, hTb, hb⟩ := hrel
          by_cases hltj : j < m
          · obtain ⟨g, cc, q, hV, hq, hcell, hBq, hqB, hgq, hrow⟩ := hTb.out.at_ (i := i) (by rw [HGL.out]; exact hlti)
            subst hV
            have hij := hrow j hltj
            have hi0 : (0 : Int) ≤ i := by omega
            have hi1 : (i : Int) < gs.length := by rw [HGL.out]; omega
            have hj0 : (0 : Int) ≤ j := by omega
            have hj1 : (j : Int) < m := by omega
            obtain ⟨v', w3, hrun, hO3, hb3, hk3⟩ := pushP (w0 := w) hO.out hb.out ((i : Int), (j : Int)) (cls_bd m (tabB m E) i j hlti hltj hm)
            have HRUN := Lib.hid hrun
            have HYES := Lib.hid (And.intro hO3 (And.intro (hTb.out.keepP hk3) hb3))
            have HRW := Lib.hid (rowTo_succ (tabB m E) i j)
            rw [List.append_assoc] at HYES
            clear hrun hO3 hb3 hk3 hrow hBq hq hgq
            cases hc : tabB m E i j
            · rw [hc] at hij HRW
              rw [if_neg (by decide)] at HRW
              clear hc HYES HRUN
              go_wp2
              go_roundw
              case rel => exact ⟨j + 1, _, by omega, by go_num, rfl, by rw [HRW.out]; exact hO, hTb, hb⟩
              case measure => simp [intOf]; omega
            · rw [hc] at hij HRW
              rw [if_pos rfl] at HRW
              clear hc hO hTb hb
              go_wp2_with (at_builtin; refine wpList_app rfl _ _ _ rfl _ _ _ rfl rfl HRUN.out ?_; clear HRUN)
              go_roundw
              case rel => exact ⟨j + 1, _, by omega, by go_num, rfl, by rw [HRW.out]; exact HYES.out.1, HYES.out.2.1, HYES.out.2.2⟩
              case measure => simp [intOf]; omega
          · obtain rfl : j = m := by omega
            go_wp2
            go_roundw
            case rel => exact ⟨i + 1, _, by omega, by go_num, rfl, by rw [clsTo_succ]; exact hO, hTb, hb⟩
            case measure => simp [intOf]; omega
      · obtain rfl : i = m := by omega
        go_wp2
        go_ret2
        exact ret_ownPr (p := closL i E) HRR.out hO.out hb.out _ rfl
set_option maxRecDepth 100000 in
set_option maxHeartbeats 4000000 in
theorem spec_PrecedenceReduction (A : Option Addr) (c : Nat) (n : Int) (E : List Pr) (w : World) (hr : Row w A (pc E)) (hl : E.length ≤ 10000000) :
    Calls Tryd.prog 20 #[.int .i64 n, .slice A E.length c] w (RetPB w (reduR n E)) := by
  have HRR : Hid (reduR n E = if precB n E then (reduL n.toNat E, true) else ([], false)) := rfl
  have hb0 := (Below.refl w.heap.size w).alloc (Nat.le_refl _) (.cells #[] 56)
  have h0 : (w.alloc (.cells #[] 56)).ownsRow w.heap.size 56 2 (.slice (some ⟨w.heap.size, 0, none⟩) 0 0) 0 (pc []) := World.ownsRow_made w #[] 0 (Nat.le_refl _) (by unfold maxLen; omega) rfl
  have H0 := Lib.hid (And.intro hb0 h0)
  have HG := Lib.hid (l4Good_any A c n E _ (hr.below hb0) hl)
  have HR := Lib.hid hr
  clear hb0 h0 hr
  go_enter Tryd.func20, Tryd.ntmps20
  go_wp2_with fail
  refine HG.out.mono ?_
  rintro e w1 ⟨rfl, hb1⟩
  cases hp : precB n E
  · rw [hp] at HRR
    have HB := Lib.hid (H0.out.1.trans (hb1.mono H0.out.1.size))
    have HO := Lib.hid (own_blw H0.out.2 hb1)
    clear hp hb1 H0 HG
    go_wp2
    go_ret2
    obtain ⟨A', c', hA, hs⟩ := seg_out HO.out
    injection hA with e1 _ e3
    subst e1 e3
    rw [show reduR n E = ([], false) from HRR.out]
    exact ⟨_, _, rfl, hs, HB.out⟩
  · rw [hp] at HRR
    obtain ⟨m, rfl, hm, hE⟩ := prec_nat hp
    rw [Int.toNat_natCast] at HRR
    have HB1 := Lib.hid (H0.out.1.trans (hb1.mono H0.out.1.size))
    have HO := Lib.hid (own_blw H0.out.2 hb1)
    have HTB := Lib.hid (l4Table_any A c m E w1 (HR.out.below HB1.out) hl hm hE)
    clear hp hb1 H0 HG hE
    go_wp2_with fail
    refine HTB.out.mono ?_
    rintro e w2 ⟨gs, v, rfl, hTb, hgl, hb2⟩
    have HB2 := Lib.hid (HB1.out.trans (hb2.mono HB1.out.size))
    have HO2 := Lib.hid (own_blw HO.out hb2)
    have HTb := Lib.hid (show TabR w1.heap.size m (tabB m E) gs v w2 from hTb)
    have HGL := Lib.hid hgl
    clear hTb hgl hb2 HB1 HO HTB
    go_wp2
    go_loopw [6, 8] (fun u i wr => ∃ (k : Nat) (U : Value), k ≤ m ∧ i = .int .i64 (k : Int) ∧ U = u ∧ Hid (wr.ownsRow w.heap.size 56 2 U (clsTo m (directB m E) k).length (pc (clsTo m (directB m E) k))) ∧ Hid (TabR w1.heap.size m (tabB m E) gs v wr) ∧ Hid (Below w.heap.size w wr)) (fun _ i _ => m - (intOf i).toNat)
    case atStart => exact ⟨0, _, Nat.zero_le _, rfl, rfl, HO2.out, HTb.out, HB2.out⟩
    case round =>
      obtain ⟨i, U, hi, rfl, rfl, hO, hTb, hb⟩ := hrel
      clear HO2 HTb HB2
      by_cases hlti : i < m
      · go_wp2
        obtain ⟨wo, rfl⟩ : ∃ wo : World, wo = wr := ⟨_, rfl⟩
        go_loopw [6, 9] (fun u jv wr => ∃ (j : Nat) (U2 : Value), j ≤ m ∧ jv = .int .i64 (j : Int) ∧ U2 = u ∧ Hid (wr.ownsRow w.heap.size 56 2 U2 (clsTo m (directB m E) i ++ rowTo (directB m E) i j).length (pc (clsTo m (directB m E) i ++ rowTo (directB m E) i j))) ∧ Hid (TabR w1.heap.size m (tabB m E) gs v wr) ∧ Hid (Below w.heap.size w wr)) (fun _ jv _ => m - (intOf jv).toNat)
        case atStart => exact ⟨0, _, Nat.zero_le _, rfl, rfl, by rw [show rowTo (directB m E) i 0 = [] from rfl, List.append_nil]; exact hO, hTb, hb⟩
        case round =>
          clear hO hTb hb
          obtain ⟨j, U2, hj, rfl, rfl, hO, hTb, hb⟩ := hrel
          by_cases hltj : j < m
          · obtain ⟨g, cc, q, hV, hq, hcell, hBq, hqB, hgq, hrow⟩ := hTb.out.at_ (i := i) (by rw [HGL.out]; exact hlti)
            subst hV
            have hij := hrow j hltj
            have hi0 : (0 : Int) ≤ i := by omega
            have hi1 : (i : Int) < gs.length := by rw [HGL.out]; omega
            have hj0 : (0 : Int) ≤ j := by omega
            have hj1 : (j : Int) < m := by omega
            obtain ⟨v', w3, hrun, hO3, hb3, hk3⟩ := pushP (w0 := w) hO.out hb.out ((i : Int), (j : Int)) (cls_bd m (directB m E) i j hlti hltj hm)
            have HRUN := Lib.hid hrun
            have HYES := Lib.hid (And.intro hO3 (And.intro (hTb.out.keepP hk3) hb3))
            have HRW := Lib.hid (rowTo_succ (directB m E) i j)
            rw [List.append_assoc] at HYES
            have HTH := Lib.hid (l4Through_any hTb.out HGL.out i j hlti hltj hm)
            have HD : Hid (directB m E i j = (tabB m E i j && !((List.range m).any fun k => tabB m E i k && tabB m E k j))) := rfl
            clear hrun hO3 hb3 hk3 hrow hBq hq hgq
            cases hc : tabB m E i j
            · rw [hc] at hij HD
              rw [show directB m E i j = false from HD.out, if_neg (by decide)] at HRW
              clear hc HYES HRUN HD HTH
              go_wp2
              go_roundw
              case rel => exact ⟨j + 1, _, by omega, by go_num, rfl, by rw [HRW.out]; exact hO, hTb, hb⟩
              case measure => simp [intOf]; omega
            · rw [hc] at hij HD
              generalize ((List.range m).any fun k => tabB m E i k && tabB m E k j) = th at *
              cases th
              · rw [show directB m E i j = true from HD.out, if_pos rfl] at HRW
                clear hc hO hTb hb HD
                go_wp2_with (first | (at_builtin; refine wpList_app rfl _ _ _ rfl _ _ _ rfl rfl HRUN.out ?_; clear HRUN) | (go_at_call 49; refine HTH.out.mono ?_; rintro e _ ⟨rfl, rfl⟩))
                go_roundw
                case rel => exact ⟨j + 1, _, by omega, by go_num, rfl, by rw [HRW.out]; exact HYES.out.1, HYES.out.2.1, HYES.out.2.2⟩
                case measure => simp [intOf]; omega
              · rw [show directB m E i j = false from HD.out, if_neg (by decide)] at HRW
                clear hc HYES HRUN HD
                go_wp2_with fail
                refine HTH.out.mono ?_
                rintro e _ ⟨rfl, rfl⟩
                go_wp2
                go_roundw
                case rel => exact ⟨j + 1, _, by omega, by go_num, rfl, by rw [HRW.out]; exact hO, hTb, hb⟩
                case measure => simp [intOf]; omega
          · obtain rfl : j = m := by omega
            go_wp2
            go_roundw
            case rel => exact ⟨i + 1, _, by omega, by go_num, rfl, by rw [clsTo_succ]; exact hO, hTb, hb⟩
            case measure => simp [intOf]; omega
      · obtain rfl : i = m := by omega
        go_wp2
        go_ret2
        exact ret_ownPr (p := reduL i E) HRR.out hO.out hb.out _ rfl
end Go.Proofs.YtapbgmmkkngdoaaDoor

namespace Go.Proofs.YtapbgmmkkngdoaaDoor
open Go.RowKit
set_option maxRecDepth 100000 in
set_option maxHeartbeats 1000000 in
theorem comesBefore_any (n : Int) (B : Nat → Nat) (hB8 : ∀ j, j < 8 → B j < 256) (i j : Nat) (hi : i < 8) (hj : j < 8) (w : World) :
    Calls Tryd.prog 77 #[.agg (precC n B), .int .i64 (i : Int), .int .i64 (j : Int)] w fun e w' => e = .returned (.bool ((B j).testBit i)) ∧ Below w.heap.size w w' := by
  have hb := (Below.refl w.heap.size w).alloc (Nat.le_refl _) (.cells (precC n B) 62)
  have hc := ((BlockIs.new w 62 (precC n B)).cell (1 + j)).trans (precC_at n B hj)
  have HH := Lib.hid (has_any (B j) i (hB8 j hj) hi)
  have HB := Lib.hid hb
  have hj0 : (0 : Int) ≤ j := by omega
  have hj1 : (j : Int) < 8 := by omega
  clear hb
  go_enter Tryd.func77, Tryd.ntmps77
  go_wp2_with fail
  refine (HH.out _).mono ?_
  rintro e _ ⟨rfl, rfl⟩
  go_wp2
  go_ret
  exact ⟨rfl, HB.out⟩
def bitT (B : Nat → Nat) (i j : Nat) : Bool := (B j).testBit i
theorem clsTo_congr {n : Nat} {T U : Nat → Nat → Bool} (h : ∀ i j, i < n → j < n → T i j = U i j) : ∀ k, k ≤ n → clsTo n T k = clsTo n U k
  | 0, _ => rfl
  | k + 1, hk => by
    rw [clsTo_succ, clsTo_succ, clsTo_congr h k (by omega)]
    congr 1
    have : ∀ m, m ≤ n → rowTo T k m = rowTo U k m := by
      intro m
      induction m with
      | zero => intro _; rfl
      | succ m ih =>
        intro hm
        rw [rowTo_succ, rowTo_succ, ih (by omega), h k m (by omega) (by omega)]
    exact this n (Nat.le_refl _)
theorem bitT_tab (m : Nat) (E : List Ed) : clsTo m (bitT (befN m (tabB m E))) m = closL m E :=
  clsTo_congr (fun i j hi _ => by unfold bitT; rw [bef_bit, decide_eq_true hi, Bool.true_and]) m (Nat.le_refl _)
set_option maxRecDepth 100000 in
set_option maxHeartbeats 4000000 in
theorem pairs_any (m : Nat) (hm : m ≤ 8) (B : Nat → Nat) (hB8 : ∀ j, j < 8 → B j < 256) (w : World) :
    Calls Tryd.prog 48 #[.agg (precC (m : Int) B)] w fun e w' => ∃ v, e = .returned v ∧ w'.ownsRow w.heap.size 56 2 v (clsTo m (bitT B) m).length (pc (clsTo m (bitT B) m)) ∧ Below w.heap.size w w' := by
  have hb1 := (Below.refl w.heap.size w).alloc (Nat.le_refl _) (.cells (precC (m : Int) B) 62)
  have hB1 := BlockIs.new w 62 (precC (m : Int) B)
  have hb2 := hb1.alloc hb1.size (.cells #[] 56)
  have hB2 := hB1.below ((Below.refl _ _).alloc (Nat.le_refl _) (.cells #[] 56))
  have h0 : ((w.alloc (.cells (precC (m : Int) B) 62)).alloc (.cells #[] 56)).ownsRow w.heap.size 56 2 (.slice (some ⟨(w.alloc (.cells (precC (m : Int) B) 62)).heap.size, 0, none⟩) 0 0) 0 (pc []) := World.ownsRow_made _ #[] 0 hb1.size (by unfold maxLen; omega) rfl
  rw [World.size_alloc] at h0
  have H0 := Lib.hid (And.intro h0 (And.intro hB2 hb2))
  have hc0 := hB1.cell 0
  clear hb1 hB1 hb2 hB2 h0 hc0
  have ep : (precC (m : Int) B) = #[.int .i64 m, .int .u64 (B 0 : Int), .int .u64 (B 1 : Int), .int .u64 (B 2 : Int), .int .u64 (B 3 : Int), .int .u64 (B 4 : Int), .int .u64 (B 5 : Int), .int .u64 (B 6 : Int), .int .u64 (B 7 : Int)] := rfl
  rw [ep]
  clear ep
  go_enter Tryd.func48, Tryd.ntmps48
  go_wp2
  go_loopw [3, 9] (fun u i wr => ∃ (k : Nat) (U : Value), k ≤ m ∧ i = .int .i64 (k : Int) ∧ U = u ∧ Hid (wr.ownsRow w.heap.size 56 2 U (clsTo m (bitT B) k).length (pc (clsTo m (bitT B) k)) ∧ BlockIs wr w.heap.size 62 (precC (m : Int) B) ∧ Below w.heap.size w wr)) (fun _ i _ => m - (intOf i).toNat)
  case atStart => exact ⟨0, _, Nat.zero_le _, rfl, rfl, H0.out⟩
  case round =>
    obtain ⟨i, U, hi, rfl, rfl, HO⟩ := hrel
    clear H0
    by_cases hlti : i < m
    · have hc0 := (HO.out.2.1.cell 0).trans (precC_0 (m : Int) B)
      go_wp2
      clear hc0
      obtain ⟨wo, rfl⟩ : ∃ wo : World, wo = wr := ⟨_, rfl⟩
      go_loopw [3, 14] (fun u jv wr => ∃ (j : Nat) (U2 : Value), j ≤ m ∧ jv = .int .i64 (j : Int) ∧ U2 = u ∧ Hid (wr.ownsRow w.heap.size 56 2 U2 (clsTo m (bitT B) i ++ rowTo (bitT B) i j).length (pc (clsTo m (bitT B) i ++ rowTo (bitT B) i j)) ∧ BlockIs wr w.heap.size 62 (precC (m : Int) B) ∧ Below w.heap.size w wr)) (fun _ jv _ => m - (intOf jv).toNat)
      case atStart => exact ⟨0, _, Nat.zero_le _, rfl, rfl, by rw [show rowTo (bitT B) i 0 = [] from rfl, List.append_nil]; exact HO.out⟩
      case round =>
        clear HO
        obtain ⟨j, U2, hj, rfl, rfl, HO⟩ := hrel
        by_cases hltj : j < m
        · have hBk := HO.out.2.1
          have c0 := hBk.cell 0
          have c1 := hBk.cell 1
          have c2 := hBk.cell 2
          have c3 := hBk.cell 3
          have c4 := hBk.cell 4
          have c5 := hBk.cell 5
          have c6 := hBk.cell 6
          have c7 := hBk.cell 7
          have c8 := hBk.cell 8
          simp only [precC, List.getElem?_toArray, List.getElem?_cons_zero, List.getElem?_cons_succ] at c0 c1 c2 c3 c4 c5 c6 c7 c8
          have HCB := Lib.hid (comesBefore_any (m : Int) B hB8 i j (by omega) (by omega) wr)
          have HRW := Lib.hid (rowTo_succ (bitT B) i j)
          have HBT : Hid (bitT B i j = (B j).testBit i) := rfl
          clear hBk
          go_wp2_with fail
          refine HCB.out.mono ?_
          rintro e w5 ⟨rfl, hb5⟩
          clear c0 c1 c2 c3 c4 c5 c6 c7 c8 HCB
          have HO5 := Lib.hid (And.intro (own_blw HO.out.1 hb5) (And.intro (HO.out.2.1.below hb5) (HO.out.2.2.trans (hb5.mono HO.out.2.2.size))))
          clear HO hb5
          cases hc : (B j).testBit i
          · rw [show bitT B i j = false from HBT.out.trans hc, if_neg (by decide)] at HRW
            clear hc
            go_wp2
            go_roundw
            case rel => exact ⟨j + 1, _, by omega, by go_num, rfl, by rw [HRW.out]; exact HO5.out⟩
            case measure => simp [intOf]; omega
          · rw [show bitT B i j = true from HBT.out.trans hc, if_pos rfl] at HRW
            obtain ⟨v', w3, hrun, hO3, hb3, hk3⟩ := pushP (w0 := w) HO5.out.1 HO5.out.2.2 ((i : Int), (j : Int)) (cls_bd m (bitT B) i j hlti hltj hm)
            have HRUN := Lib.hid hrun
            have HYES := Lib.hid (And.intro hO3 (And.intro (hk3 _ _ _ (by decide) HO5.out.2.1) hb3))
            rw [List.append_assoc] at HYES
            clear hc hrun hO3 hb3 hk3 HO5
            go_wp2_with (at_builtin; refine wpList_app rfl _ _ _ rfl _ _ _ rfl rfl HRUN.out ?_; clear HRUN)
            go_roundw
            case rel => exact ⟨j + 1, _, by omega, by go_num, rfl, by rw [HRW.out]; exact HYES.out⟩
            case measure => simp [intOf]; omega
        · obtain rfl : j = m := by omega
          go_wp2
          go_roundw
          case rel => exact ⟨i + 1, _, by omega, by go_num, rfl, by rw [clsTo_succ]; exact HO.out⟩
          case measure => simp [intOf]; omega
    · obtain rfl : i = m := by omega
      go_wp2
      go_ret
      exact ⟨U, rfl, HO.out.1, HO.out.2.2⟩
set_option maxRecDepth 100000 in
set_option maxHeartbeats 1000000 in
theorem impl_PrecedenceClosure (A : Option Addr) (c : Nat) (n : Int) (E : List Pr) (w : World) (hr : Row w A (pc E)) (hl : E.length ≤ 10000000) (hT : TzTab w) :
    Calls Tryd.prog 17 #[.int .i64 n, .slice A E.length c] w (RetPB w (closR n E)) := by
  have HRR : Hid (closR n E = if precB n E then (closL n.toNat E, true) else ([], false)) := rfl
  have H := Lib.hid (precedenceOf_any A c n E w hr hl hT)
  go_enter Tryd.func17, Tryd.ntmps17
  go_wp2_with fail
  refine H.out.mono ?_
  rintro e w1 ⟨hb, ⟨hp, m, rfl, hm, _, _, rfl⟩ | ⟨hp, rfl⟩⟩
  · rw [hp, Int.toNat_natCast] at HRR
    have HP := Lib.hid (pairs_any m hm (befN m (tabB m E)) (fun j _ => bef_lt hm _ j) (w1.alloc (.cells (precC (m : Int) (befN m (tabB m E))) 62)))
    rw [bitT_tab] at HP
    have HB := Lib.hid (hb.alloc hb.size (.cells (precC (m : Int) (befN m (tabB m E))) 62))
    clear hp hb
    unfold precC
    unfold precC at HP HB
    go_wp2_with fail
    refine HP.out.mono ?_
    rintro e w2 ⟨v, rfl, ho, hb2⟩
    have HO := Lib.hid (And.intro (own_low ho HB.out.size) (HB.out.trans (hb2.mono HB.out.size)))
    clear ho hb2 HB HP
    go_wp2
    go_ret2
    exact ret_ownPr (p := closL m E) HRR.out HO.out.1 HO.out.2 _ rfl
  · rw [hp] at HRR
    have HB := Lib.hid hb
    clear hp hb
    unfold precZ
    go_wp2
    go_ret2
    refine ret_emptyP HRR.out (HB.out.alloc HB.out.size _) _ ?_
    rw [World.size_alloc]
    rfl
end Go.Proofs.YtapbgmmkkngdoaaDoor

namespace Go.Proofs.YtapbgmmkkngdoaaDoor
/-- The greatest of some, 0 at least. -/
def mostTo (g : Nat → Int) (p : Nat → Bool) (k : Nat) : Int := (List.range k).foldl (fun a i => if p i then max a (g i) else a) 0
theorem mostTo_succ (g : Nat → Int) (p : Nat → Bool) (k : Nat) : mostTo g p (k + 1) = if p k then max (mostTo g p k) (g k) else mostTo g p k := by
  unfold mostTo; rw [List.range_succ, List.foldl_append]; rfl
def mostL (g : Nat → Int) (l : List Nat) : Int := l.foldl (fun a i => max a (g i)) 0
theorem mostL_snoc (g : Nat → Int) (l : List Nat) (k : Nat) : mostL g (l ++ [k]) = max (mostL g l) (g k) := by unfold mostL; simp
theorem mostL_filter (g : Nat → Int) (p : Nat → Bool) : ∀ k, mostL g ((List.range k).filter p) = mostTo g p k
  | 0 => rfl
  | k + 1 => by
    rw [mostTo_succ, List.range_succ, List.filter_append, ← mostL_filter g p k]
    cases h : p k
    · rw [List.filter_cons_of_neg (by simp [h])]; simp
    · rw [List.filter_cons_of_pos (by simp [h]), if_pos rfl]
      exact mostL_snoc g _ k
theorem most_bd {g : Nat → Int} {p : Nat → Bool} {m : Int} (hm : 0 ≤ m) : ∀ k, (∀ i, i < k → p i = true → g i ≤ m) → 0 ≤ mostTo g p k ∧ mostTo g p k ≤ m
  | 0, _ => ⟨Int.le_refl _, hm⟩
  | k + 1, h => by
    have ih := most_bd hm k fun i hi => h i (by omega)
    rw [mostTo_succ]
    split
    · rename_i hp
      have := h k (by omega) hp
      omega
    · exact ih
theorem mostL_bd {g : Nat → Int} {m : Int} (hm : 0 ≤ m) : ∀ l : List Nat, (∀ i ∈ l, g i ≤ m) → 0 ≤ mostL g l ∧ mostL g l ≤ m := by
  intro l h
  have key : ∀ (l : List Nat) (a : Int), 0 ≤ a → a ≤ m → (∀ i ∈ l, g i ≤ m) → 0 ≤ l.foldl (fun a i => max a (g i)) a ∧ l.foldl (fun a i => max a (g i)) a ≤ m := by
    intro l
    induction l with
    | nil => intro a h0 h1 _; exact ⟨h0, h1⟩
    | cons x l ih =>
      intro a h0 h1 hl
      have := hl x List.mem_cons_self
      exact ih (max a (g x)) (by omega) (by omega) fun i hi => hl i (List.mem_cons_of_mem _ hi)
  exact key l 0 (Int.le_refl _) hm h
/-- The tail of a job, f jobs deep. -/
def tailF (js : List J) (T : Nat → Nat → Bool) (n : Nat) : Nat → Nat → Int
  | 0, _ => 0
  | f + 1, j => (js.getD j j0).t + mostTo (fun i => tailF js T n f i) (T j) n
theorem tailF_bd {js : List J} (hok : ∀ j ∈ js, okJ j = true) (T : Nat → Nat → Bool) : ∀ (f j : Nat), j < js.length → 0 ≤ tailF js T js.length f j ∧ tailF js T js.length f j ≤ 50 * (f : Int)
  | 0, _, _ => by simp [tailF]
  | f + 1, j, hj => by
    have h1 := most_bd (g := fun i => tailF js T js.length f i) (p := T j) (m := 50 * (f : Int)) (by omega) js.length (fun i hi _ => (tailF_bd hok T f i hi).2)
    have h2 := okJ_out (hok _ (List.getElem_mem hj))
    show 0 ≤ (js.getD j j0).t + mostTo (fun i => tailF js T js.length f i) (T j) js.length ∧ (js.getD j j0).t + mostTo (fun i => tailF js T js.length f i) (T j) js.length ≤ _
    rw [getD_at js j0 hj]
    omega
/-- How many jobs are behind one. -/
def cntS (n : Nat) (T : Nat → Nat → Bool) (j : Nat) : Nat := (List.range n).countP fun i => T j i
theorem cntS_le (n : Nat) (T : Nat → Nat → Bool) (j : Nat) : cntS n T j ≤ n := by
  have := List.countP_le_length (p := fun i => T j i) (l := List.range n)
  rwa [List.length_range] at this
theorem cntS_lt {n : Nat} {E : List Ed} (hirr : irrB n E n = true) {j i : Nat} (hi : i < n) (h : tabB n E j i = true) : cntS n (tabB n E) i < cntS n (tabB n E) j := by
  refine countP_lt' (fun x hx => tabTo_trans E n j i x hi h hx) (i := i) ?_ h (List.range n) (List.mem_range.2 hi)
  unfold irrB at hirr
  have := List.all_eq_true.1 hirr i (List.mem_range.2 hi)
  show tabB n E i i = false
  simpa using this
theorem range_lt : ∀ n, n < 9 → (List.range 8).filter (fun i => decide (i < n)) = List.range n := by decide
theorem memB_bits {n : Nat} (hn : n ≤ 8) (p : Nat → Bool) : memB (bitsN n p) = (List.range n).filter p := by
  unfold memB
  rw [← range_lt n (by omega), List.filter_filter]
  refine List.filter_congr fun i _ => ?_
  rw [bits_bit, Bool.and_comm]
def tailsL (js : List J) (E : List Ed) : List Int := (List.range js.length).map fun j => tailF js (tabB js.length E) js.length 9 j
theorem tailsL_len (js : List J) (E : List Ed) : (tailsL js E).length = js.length := by unfold tailsL; simp
end Go.Proofs.YtapbgmmkkngdoaaDoor

namespace Go.Proofs.YtapbgmmkkngdoaaDoor
open Go.RowKit

/-- A block is a map that holds just these keys with these values, in the order in which they came. -/
def MapOf (w : World) (g : Nat) (kvs : List (Int × Value)) : Prop :=
  ∃ es clock, w.heap[g]? = some (.map es clock) ∧ es.toList.map (fun e => (e.key, e.val)) = kvs.map fun p => (Value.int .i64 p.1, p.2)
def getM : List (Int × Value) → Int → Option Value
  | [], _ => none
  | p :: kvs, x => if p.1 = x then some p.2 else getM kvs x
theorem find_getM (x : Int) : ∀ (es : List MapEntry) (kvs : List (Int × Value)) (i : Nat), es.map (fun e => (e.key, e.val)) = kvs.map (fun p => (Value.int .i64 p.1, p.2)) → ∃ r, Instr.findNow (.int .i64) (.int .i64 x) es i = some r ∧ r.map (·.2) = getM kvs x
  | [], [], _, _ => ⟨none, rfl, rfl⟩
  | [], _ :: _, _, h => by cases h
  | _ :: _, [], _, h => by cases h
  | e :: es, p :: kvs, i, h => by
    simp only [List.map_cons, List.cons.injEq, Prod.mk.injEq] at h
    obtain ⟨⟨hk, hv⟩, ht⟩ := h
    by_cases hx : p.1 = x
    · refine ⟨some (i, e.val), ?_, ?_⟩
      · simp [Instr.findNow, Instr.sameNow, hk, hx]
      · simp [getM, hx, hv]
    · obtain ⟨r, h1, h2⟩ := find_getM x es kvs (i + 1) ht
      refine ⟨r, ?_, ?_⟩
      · have hne : (x == p.1) = false := by simp; exact fun e => hx e.symm
        simp [Instr.findNow, Instr.sameNow, hk, h1, hne]
      · simp [getM, hx, h2]
section
variable {P : Program} {w w' : World} {g : Nat} {kvs : List (Int × Value)} {t k e : TypeId}
theorem MapOf.lt (h : MapOf w g kvs) : g < w.heap.size := by
  obtain ⟨es, clock, hb, _⟩ := h
  exact (Array.getElem?_eq_some_iff.1 hb).1
theorem MapOf.new (w : World) : MapOf (w.alloc (.map #[] 0)) w.heap.size [] := ⟨#[], 0, heap_alloc_new w _, rfl⟩
theorem MapOf.below (h : MapOf w g kvs) (hb : Below w.heap.size w w') : MapOf w' g kvs := by
  have hlt := h.lt
  obtain ⟨es, clock, h1, h2⟩ := h
  exact ⟨es, clock, (hb.block g hlt).trans h1, h2⟩
theorem MapOf.drew (h : MapOf w g kvs) : MapOf w.drew g kvs := h
theorem MapOf.grown {r : Option Nat} (h : MapOf w g kvs) (hg : w.grownBy w' r) (hne : some g ≠ r) : MapOf w' g kvs := by
  have hlt := h.lt
  obtain ⟨es, clock, h1, h2⟩ := h
  exact ⟨es, clock, (hg.block g hlt hne).trans h1, h2⟩
theorem MapOf.look (h : MapOf w g kvs) (ht : P.underlying t = some (.map k e)) (hk : P.underlying k = some (.int .i64)) (x : Int) {z : Value} (hz : (zeroValue e).run P w = .ok z w) :
    (Instr.lookup t (.map (some g)) (.int .i64 x) false).run P w = .ok ((getM kvs x).getD z) w := by
  obtain ⟨es, clock, hb, he⟩ := h
  obtain ⟨r, h1, h2⟩ := find_getM x es.toList kvs 0 he
  have h3 := MapKept.run_findKey (P := P) (w := w) hk h1
  have h4 := MapKept.run_checkKey (P := P) (w := w) (kt := k) (k := .int .i64 x) hk (by simp [MapKept.IsKey]) es.isEmpty 9999
  rw [← h2]
  cases r with
  | none => simp [Instr.lookup, run_underlying ht, MapKept.run_getObj_map hb, h4, h3, hz, Result.andThen]
  | some r => simp [Instr.lookup, run_underlying ht, MapKept.run_getObj_map hb, h4, h3, Result.andThen]
theorem MapOf.look_ok (h : MapOf w g kvs) (ht : P.underlying t = some (.map k e)) (hk : P.underlying k = some (.int .i64)) (x : Int) {z : Value} (hz : (zeroValue e).run P w = .ok z w) :
    (Instr.lookup t (.map (some g)) (.int .i64 x) true).run P w = .ok (.tuple #[(getM kvs x).getD z, .bool (getM kvs x).isSome]) w := by
  obtain ⟨es, clock, hb, he⟩ := h
  obtain ⟨r, h1, h2⟩ := find_getM x es.toList kvs 0 he
  have h3 := MapKept.run_findKey (P := P) (w := w) hk h1
  have h4 := MapKept.run_checkKey (P := P) (w := w) (kt := k) (k := .int .i64 x) hk (by simp [MapKept.IsKey]) es.isEmpty 9999
  rw [← h2]
  cases r with
  | none => simp [Instr.lookup, run_underlying ht, MapKept.run_getObj_map hb, h4, h3, hz, Result.andThen]
  | some r => simp [Instr.lookup, run_underlying ht, MapKept.run_getObj_map hb, h4, h3, Result.andThen]
theorem MapOf.put (h : MapOf w g kvs) (ht : P.underlying t = some (.map k e)) (hk : P.underlying k = some (.int .i64)) (x : Int) (v : Value) (hx : getM kvs x = none) :
    ∃ w', (Instr.mapUpdate t (.map (some g)) (.int .i64 x) v).run P w = .ok () w' ∧ MapOf w' g (kvs ++ [(x, v)]) ∧ w.grownBy w' (some g) ∧ w'.heap.size = w.heap.size := by
  obtain ⟨es, clock, hb, he⟩ := h
  obtain ⟨r, h1, h2⟩ := find_getM x es.toList kvs 0 he
  have h3 := MapKept.run_findKey (P := P) (w := w) hk h1
  have h4 := MapKept.run_checkKey (P := P) (w := w) (kt := k) (k := .int .i64 x) hk (by simp [MapKept.IsKey]) false 9999
  cases r with
  | some r => rw [hx] at h2; cases h2
  | none =>
    refine ⟨{ w with heap := w.heap.setIfInBounds g (.map (es.push { key := .int .i64 x, val := v, born := clock }) (clock + 1)) }, by simp [Instr.mapUpdate, run_underlying ht, MapKept.run_getObj_map hb, h4, h3, MapKept.run_setObj_map _ hb, Result.andThen], ⟨_, _, (MapKept.heap_set hb).1, ?_⟩, ⟨rfl, rfl, rfl, by simp, fun i _ hi => (MapKept.heap_set hb).2 i (fun e => hi (by rw [e]))⟩, by simp⟩
    simp [he]
theorem run_makeMap_hint (ht : P.underlying t = some (.map k e)) (q : IntKind) (n : Int) (w : World) : (Instr.makeMap t (some (.int q n))).run P w = .ok (.map (some w.heap.size)) (w.alloc (.map #[] 0)) := by
  simp [Instr.makeMap, run_underlying ht, asInt, asIntOf, Result.andThen]
end
end Go.Proofs.YtapbgmmkkngdoaaDoor

namespace Go.Proofs.YtapbgmmkkngdoaaDoor
open Go.RowKit

def hasI (xs : List Int) (x : Int) : Bool := decide (x ∈ xs)
theorem hasI_yes {xs : List Int} {x : Int} (h : x ∈ xs) : hasI xs x = true := decide_eq_true h
theorem hasI_no {xs : List Int} {x : Int} (h : x ∉ xs) : hasI xs x = false := decide_eq_false h
theorem hasI_out {xs : List Int} {x : Int} (h : hasI xs x = true) : x ∈ xs := of_decide_eq_true h
theorem hasI_not {xs : List Int} {x : Int} (h : hasI xs x = false) : x ∉ xs := of_decide_eq_false h
theorem notTo_step {xs : List Int} {x : Int} {k : Nat} (h : ∀ i (hi : i < xs.length), i < k → xs[i] ≠ x) (hk : k < xs.length) (ho : xs[k] ≠ x) : ∀ i (hi : i < xs.length), i < k + 1 → xs[i] ≠ x := by
  intro i hi hik
  by_cases e : i = k
  · subst e; exact ho
  · exact h i hi (by omega)
theorem notTo_all {xs : List Int} {x : Int} (h : ∀ i (hi : i < xs.length), i < xs.length → xs[i] ≠ x) : x ∉ xs := by
  intro hx
  obtain ⟨i, hi, rfl⟩ := List.mem_iff_getElem.1 hx
  exact h i hi hi rfl
theorem l1Has_any (A : Option Addr) (c : Nat) (xs : List Int) (x : Int) (w : World) (hr : Row w A (ic xs)) (hn : xs.length ≤ 100000000) :
    Calls Tryd.prog 81 #[.slice A xs.length c, .int .i64 x] w fun e w' => e = .returned (.bool (hasI xs x)) ∧ w = w' := by
  go_enter Tryd.func81, Tryd.ntmps81
  go_wp2
  go_loop [5] (fun i => ∃ k : Nat, k ≤ xs.length ∧ i = .int .i64 k ∧ Hid (∀ i (hi : i < xs.length), i < k → xs[i] ≠ x)) (fun i => xs.length - (intOf i).toNat)
  case atStart => exact ⟨0, Nat.zero_le _, rfl, fun _ _ h => absurd h (by omega)⟩
  case round =>
    obtain ⟨k, hk, rfl, hA⟩ := hrel
    by_cases hlt : k < xs.length
    · obtain ⟨a, hA', hc⟩ := hr.int hlt
      subst hA'
      have hi : (0 : Int) ≤ k := by omega
      have hi' : (k : Int) < xs.length := by omega
      by_cases hx : xs[k] = x
      · have HG := Lib.hid (hasI_yes (hx ▸ List.getElem_mem hlt))
        rw [hx] at hc
        clear hr hA hx
        go_wp2
        go_ret
        exact ⟨by rw [HG.out]; rfl, rfl⟩
      · have HA := Lib.hid (notTo_step hA.out hlt hx)
        have hne : ((xs[k] : Int) == x) = false := by simpa using hx
        clear hr hA
        generalize xs[k] = y at *
        go_wp2
        go_round
        case rel => exact ⟨k + 1, by omega, by go_num, HA.out⟩
        case measure => simp [intOf]; omega
    · obtain rfl : k = xs.length := by omega
      have HG := Lib.hid (hasI_no (notTo_all hA.out))
      clear hA
      go_wp2
      go_ret
      exact ⟨by rw [HG.out]; rfl, rfl⟩

theorem inAll_step {o : List Int} {k : Nat} (h : ∀ i : Nat, i < k → (i : Int) ∈ o) (hk : (k : Int) ∈ o) : ∀ i : Nat, i < k + 1 → (i : Int) ∈ o := by
  intro i hi
  by_cases e : i = k
  · subst e; exact hk
  · exact h i (by omega)
theorem l2Order_any (n : Int) (A : Option Addr) (c : Nat) (o : List Int) (w : World) (hr : Row w A (ic o)) (hn : o.length ≤ 100000000) :
    Calls Tryd.prog 54 #[.int .i64 n, .slice A o.length c] w fun e w' => e = .returned (.bool (ordB n o)) ∧ w = w' := by
  by_cases h8 : 0 ≤ n ∧ n ≤ 8
  · have hin := inB_yes h8.1 h8.2
    obtain ⟨m, rfl⟩ : ∃ m : Nat, n = (m : Int) := ⟨n.toNat, by omega⟩
    have hm : m ≤ 8 := by omega
    by_cases hl : o.length = m
    · go_enter Tryd.func54, Tryd.ntmps54
      go_wp2_with fail
      refine (l1In_any _ _ _ _).mono ?_
      rintro e w1 ⟨rfl, rfl⟩
      rw [hin]
      subst hl
      go_wp2_with fail
      go_loop [5] (fun i => ∃ k : Nat, k ≤ o.length ∧ i = .int .i64 k ∧ Hid (∀ i : Nat, i < k → (i : Int) ∈ o)) (fun i => o.length - (intOf i).toNat)
      case atStart => exact ⟨0, Nat.zero_le _, rfl, fun _ h => absurd h (by omega)⟩
      case round =>
        obtain ⟨k, hk, rfl, hA⟩ := hrel
        have HR := Lib.hid hr
        clear hr
        by_cases hlt : k < o.length
        · have hi' : (k : Int) < o.length := by omega
          cases hx : hasI o k
          · have HG := Lib.hid (ord_not (n := (o.length : Int)) (o := o) (fun h => hasI_not hx (h.2.2.2 k (by simpa using hlt))))
            clear hA hin
            go_wp2_with fail
            refine (l1Has_any _ _ o _ _ HR.out hn).mono ?_
            rintro e w1 ⟨rfl, rfl⟩
            rw [hx]
            go_wp2
            go_ret
            exact ⟨by rw [HG.out]; rfl, rfl⟩
          · have HA := Lib.hid (inAll_step hA.out (hasI_out hx))
            clear hA hin
            go_wp2_with fail
            refine (l1Has_any _ _ o _ _ HR.out hn).mono ?_
            rintro e w1 ⟨rfl, rfl⟩
            rw [hx]
            go_wp2
            go_round
            case rel => exact ⟨k + 1, by omega, by go_num, HA.out⟩
            case measure => simp [intOf]; omega
        · obtain rfl : k = o.length := by omega
          have HG := Lib.hid (ord_mk (n := (o.length : Int)) (o := o) ⟨by omega, by omega, rfl, fun i hi => hA.out i (by simpa using hi)⟩)
          clear hA hin
          go_wp2
          go_ret
          exact ⟨by rw [HG.out]; rfl, rfl⟩
    · have HG := Lib.hid (ord_not (n := (m : Int)) (o := o) (fun h => hl (by omega)))
      have hne : (((o.length : Nat) : Int) != (m : Int)) = true := by simp; omega
      go_enter Tryd.func54, Tryd.ntmps54
      go_wp2_with fail
      refine (l1In_any _ _ _ _).mono ?_
      rintro e w1 ⟨rfl, rfl⟩
      rw [hin]
      go_wp2
      go_ret
      exact ⟨by rw [HG.out]; rfl, rfl⟩
  · have hin := inB_no (x := n) (a := 0) (b := 8) h8
    have HG := Lib.hid (ord_not (n := n) (o := o) (fun h => h8 ⟨h.1, h.2.1⟩))
    go_enter Tryd.func54, Tryd.ntmps54
    go_wp2_with fail
    refine (l1In_any _ _ _ _).mono ?_
    rintro e w1 ⟨rfl, rfl⟩
    rw [hin]
    go_wp2
    go_ret
    exact ⟨by rw [HG.out]; rfl, rfl⟩

/-- What the program has seen: the numbers so far. -/
def seenM (xs : List Int) : List (Int × Value) := xs.map fun x => (x, .bool true)
theorem seen_in : ∀ {xs : List Int} {x : Int}, x ∈ xs → getM (seenM xs) x = some (.bool true)
  | y :: xs, x, h => by
    show (if y = x then _ else _) = _
    by_cases e : y = x
    · rw [if_pos e]
    · rw [if_neg e]
      rcases List.mem_cons.1 h with h | h
      · exact absurd h.symm e
      · exact seen_in h
theorem seen_out : ∀ {xs : List Int} {x : Int}, x ∉ xs → getM (seenM xs) x = none
  | [], _, _ => rfl
  | y :: xs, x, h => by
    show (if y = x then _ else _) = _
    rw [if_neg (fun e => h (by rw [e]; exact List.mem_cons_self))]
    exact seen_out (fun e => h (List.mem_cons_of_mem _ e))
theorem zeroB (w : World) : (zeroValue 4).run Tryd.prog w = .ok (.bool false) w := by kernel_rfl
def goodTo (o : List Int) (k : Nat) : Prop := (∀ x ∈ o.take k, 0 ≤ x ∧ x < o.length) ∧ (o.take k).Nodup
theorem goodTo_step {o : List Int} {k : Nat} (h : goodTo o k) (hk : k < o.length) (h0 : 0 ≤ o[k]) (h1 : o[k] < o.length) (hn : o[k] ∉ o.take k) : goodTo o (k + 1) := by
  unfold goodTo
  rw [List.take_succ_eq_append_getElem hk]
  refine ⟨fun x hx => ?_, ?_⟩
  · rcases List.mem_append.1 hx with h' | h'
    · exact h.1 x h'
    · rw [List.mem_singleton.1 h']; exact ⟨h0, h1⟩
  · rw [List.nodup_append]
    refine ⟨h.2, by simp, ?_⟩
    intro a ha b hb e
    rw [List.mem_singleton.1 hb] at e
    exact hn (e ▸ ha)
theorem seen_snoc {o : List Int} {k : Nat} (hk : k < o.length) : seenM (o.take k) ++ [(o[k], .bool true)] = seenM (o.take (k + 1)) := by
  unfold seenM; rw [List.take_succ_eq_append_getElem hk, List.map_append]; rfl
theorem ord_dup {o : List Int} {k : Nat} (hk : k < o.length) (hx : o[k] ∈ o.take k) : ordB (o.length : Int) o = false := by
  cases h : ordB (o.length : Int) o
  · rfl
  · obtain ⟨_, hn⟩ := ord_range h
    rw [← List.take_append_drop k o, List.nodup_append] at hn
    exact absurd rfl (hn.2.2 _ hx _ (List.mem_drop_iff_getElem.2 ⟨0, by simpa using hk, by simp⟩))
theorem ord_out_of {o : List Int} {k : Nat} (hk : k < o.length) (hx : ¬ (0 ≤ o[k] ∧ o[k] < o.length)) : ordB (o.length : Int) o = false := by
  cases h : ordB (o.length : Int) o
  · rfl
  · exact absurd ((ord_range h).1 _ (List.getElem_mem hk)) hx
set_option maxRecDepth 100000 in
set_option maxHeartbeats 1000000 in
theorem IsOrder_any (n : Int) (A : Option Addr) (c : Nat) (o : List Int) (w : World) (hr : Row w A (ic o)) (hn : o.length ≤ 100000000) :
    Calls Tryd.prog 56 #[.int .i64 n, .slice A o.length c] w fun e w' => e = .returned (.bool (ordB n o)) ∧ Below w.heap.size w w' := by
  by_cases h8 : 0 ≤ n ∧ n ≤ 8
  · obtain ⟨h0, h8⟩ := h8
    obtain ⟨m, rfl⟩ : ∃ m : Nat, n = (m : Int) := ⟨n.toNat, by omega⟩
    have hm : m ≤ 8 := by omega
    by_cases hl : o.length = m
    · subst hl
      have hmm := run_makeMap_hint (P := Tryd.prog) Tryd.underlying112 .i64 (o.length : Int)
      go_enter Tryd.func56, Tryd.ntmps56
      go_wp2
      go_loopw [24] (fun i wr => ∃ k : Nat, k ≤ o.length ∧ i = .int .i64 k ∧ MapOf wr w.heap.size (seenM (o.take k)) ∧ Hid (goodTo o k) ∧ Below w.heap.size w wr) (fun i _ => o.length - (intOf i).toNat)
      case atStart => exact ⟨0, Nat.zero_le _, rfl, MapOf.new _, ⟨by simp, by simp⟩, (Below.refl _ _).alloc (Nat.le_refl _) _⟩
      case round =>
        obtain ⟨k, hk, rfl, hM, hG, hb⟩ := hrel
        clear hmm
        by_cases hlt : k < o.length
        · obtain ⟨a, hA', hc⟩ := (hr.below hb).int hlt
          subst hA'
          have hi : (0 : Int) ≤ k := by omega
          have hi' : (k : Int) < o.length := by omega
          by_cases hrg : 0 ≤ o[k] ∧ o[k] < o.length
          · obtain ⟨hr0, hr1⟩ := hrg
            by_cases hx : o[k] ∈ o.take k
            · have HG := Lib.hid (ord_dup hlt hx)
              have hlook := hM.look (P := Tryd.prog) Tryd.underlying112 Tryd.underlying3 o[k] (zeroB wr)
              rw [seen_in hx] at hlook
              simp only [Option.getD_some] at hlook
              clear hr hG hM hx
              generalize o[k] = y at *
              go_wp2
              go_ret
              exact ⟨by rw [HG.out]; rfl, hb⟩
            · have HG := Lib.hid (goodTo_step hG.out hlt hr0 hr1 hx)
              have hlook := hM.look (P := Tryd.prog) Tryd.underlying112 Tryd.underlying3 o[k] (zeroB wr)
              rw [seen_out hx] at hlook
              simp only [Option.getD_none] at hlook
              obtain ⟨w1, hput, hM1, hg1, hs1⟩ := hM.put (P := Tryd.prog) Tryd.underlying112 Tryd.underlying3 o[k] (.bool true) (seen_out hx)
              rw [seen_snoc hlt] at hM1
              have HM := Lib.hid hM1
              have HB := Lib.hid (hb.trans (⟨hg1.os, hg1.tape, hg1.output, hg1.size, fun j hj => hg1.block j (Nat.lt_of_lt_of_le hj hb.size) (fun e => by injection e; omega)⟩ : Below w.heap.size wr w1))
              clear hr hG hM hx hM1 hg1 hs1 hb
              generalize o[k] = y at *
              go_wp2
              go_roundw
              case rel => exact ⟨k + 1, by omega, by go_num, HM.out, HG.out, HB.out⟩
              case measure => simp [intOf]; omega
          · have HG := Lib.hid (ord_out_of hlt hrg)
            clear hr hG hM
            by_cases hr0 : 0 ≤ o[k]
            · have hr1 : ¬ o[k] < o.length := fun h => hrg ⟨hr0, h⟩
              clear hrg
              generalize o[k] = y at *
              go_wp2
              go_ret
              exact ⟨by rw [HG.out]; rfl, hb⟩
            · clear hrg
              generalize o[k] = y at *
              go_wp2
              go_ret
              exact ⟨by rw [HG.out]; rfl, hb⟩
        · obtain rfl : k = o.length := by omega
          have HG := Lib.hid (ord_prefix (n := o.length) (o := o) rfl hm (by simpa using hG.out.1) (by simpa using hG.out.2))
          clear hG hM
          go_wp2
          go_ret
          exact ⟨by rw [HG.out]; rfl, hb⟩
    · have HG := Lib.hid (ord_not (n := (m : Int)) (o := o) (fun h => hl (by omega)))
      have hne : (((o.length : Nat) : Int) != (m : Int)) = true := by simp; omega
      go_enter Tryd.func56, Tryd.ntmps56
      go_wp2
      go_ret
      exact ⟨by rw [HG.out]; rfl, Below.refl _ _⟩
  · have HG := Lib.hid (ord_not (n := n) (o := o) (fun h => h8 ⟨h.1, h.2.1⟩))
    by_cases h0 : 0 ≤ n
    · have h1 : ¬ n ≤ 8 := fun h => h8 ⟨h0, h⟩
      clear h8
      go_enter Tryd.func56, Tryd.ntmps56
      go_wp2
      go_ret
      exact ⟨by rw [HG.out]; rfl, Below.refl _ _⟩
    · clear h8
      go_enter Tryd.func56, Tryd.ntmps56
      go_wp2
      go_ret
      exact ⟨by rw [HG.out]; rfl, Below.refl _ _⟩
end Go.Proofs.YtapbgmmkkngdoaaDoor

namespace Go.Proofs.YtapbgmmkkngdoaaDoor
open Go.RowKit

def twoB (js : List J) (o : List Int) : Bool := goodL js && ordB js.length o
theorem l1Most_any (x y : Int) (w : World) :
    Calls Tryd.prog 89 #[.int .i64 x, .int .i64 y] w fun e w' => e = .returned (.int .i64 (max x y)) ∧ w' = w := by
  by_cases h : y < x
  · go_enter Tryd.func89, Tryd.ntmps89
    go_wp2
    go_ret
    exact ⟨by rw [show max x y = x by omega]; rfl, rfl⟩
  · go_enter Tryd.func89, Tryd.ntmps89
    go_wp2
    go_ret
    exact ⟨by rw [show max x y = y by omega]; rfl, rfl⟩
end Go.Proofs.YtapbgmmkkngdoaaDoor

namespace Go.Proofs.YtapbgmmkkngdoaaDoor
open Go.RowKit

abbrev natI (p : List Nat) : List Int := p.map Int.ofNat
theorem Row.nat {w : World} {A : Option Addr} {p : List Nat} (h : Row w A (ic (natI p))) {k : Nat} (hk : k < p.length) : ∃ ad, A = some ad ∧ w.cell? (ad.add k) = some (.int .i64 ((p[k] : Nat) : Int)) := by
  obtain ⟨ad, hA, hc⟩ := h.int (k := k) (by simpa using hk)
  exact ⟨ad, hA, by rw [hc]; simp⟩
theorem ic_set (xs : List Int) (j : Nat) (x : Int) : (ic xs).toArray.setIfInBounds j (.int .i64 x) = (ic (xs.set j x)).toArray := by
  unfold ic; simp [List.map_set]
theorem ic_made (n : Nat) : madeCells #[.int .i64 0] n = (ic (List.replicate n 0)).toArray := by
  apply Array.ext'
  apply List.ext_getElem?
  intro i
  by_cases h : i < n
  · simp [madeCells, ic, h, Nat.mod_one]
  · simp [madeCells, ic, h]
theorem BlockIs.int {w : World} {g : Nat} {t : TypeId} {xs : List Int} (h : BlockIs w g t (ic xs).toArray) {k : Nat} (hk : k < xs.length) : w.cell? ⟨g, k, none⟩ = some (.int .i64 xs[k]) := by
  rw [h.cell]; unfold ic; simp [hk]
theorem endsGo_drop (js : List J) (p : List Nat) (k : Nat) (now : Int) (xs : List Int) (h : k < p.length) :
    endsGo js (p.drop k) now xs = endsGo js (p.drop (k + 1)) (max now (js.getD p[k] j0).r + (js.getD p[k] j0).t) (xs.set p[k] (max now (js.getD p[k] j0).r + (js.getD p[k] j0).t)) := by
  rw [List.drop_eq_getElem_cons h]; rfl
theorem startsGo_drop (js : List J) (p : List Nat) (k : Nat) (now : Int) (xs : List Int) (h : k < p.length) :
    startsGo js (p.drop k) now xs = startsGo js (p.drop (k + 1)) (max now (js.getD p[k] j0).r + (js.getD p[k] j0).t) (xs.set p[k] (max now (js.getD p[k] j0).r)) := by
  rw [List.drop_eq_getElem_cons h]; rfl
theorem mix_step {α : Type} (es ss : List α) (k : Nat) (x : α) (h : es.length = ss.length) (hk : k < es.length) (hx : es[k] = x) : (es.take k ++ ss.drop k).set k x = es.take (k + 1) ++ ss.drop (k + 1) := by
  subst hx
  apply List.ext_getElem?
  intro i
  rcases Nat.lt_trichotomy i k with hi | hi | hi
  · rw [List.getElem?_set_ne (by omega), List.getElem?_append_left (by simp; omega), List.getElem?_append_left (by simp; omega), List.getElem?_take, List.getElem?_take, if_pos hi, if_pos (by omega)]
  · subst hi
    rw [List.getElem?_set_self (by simp; omega), List.getElem?_append_left (by simp; omega), List.getElem?_take, if_pos (by omega), List.getElem?_eq_getElem hk]
  · rw [List.getElem?_set_ne (by omega), List.getElem?_append_right (by simp; omega), List.getElem?_append_right (by simp; omega), List.getElem?_drop, List.getElem?_drop]
    simp only [List.length_take]
    congr 1; omega
theorem mix_len {α : Type} (es ss : List α) (k : Nat) (h : es.length = ss.length) (hk : k ≤ es.length) : (es.take k ++ ss.drop k).length = ss.length := by simp; omega
theorem mix_at {α : Type} (es ss : List α) (k : Nat) (h : es.length = ss.length) (hk : k < es.length) : (es.take k ++ ss.drop k)[k]'(by simp; omega) = ss[k] := by
  rw [List.getElem_append_right (by simp; omega)]
  simp [Nat.min_eq_left (Nat.le_of_lt hk)]

theorem seg_of_block {w : World} {g base : Nat} {t : TypeId} {xs : List Int} (h : BlockIs w g t (ic xs).toArray) (hb : base ≤ g) (hm : xs.length ≤ maxLen) : Seg w t 1 base w.heap.size (some ⟨g, 0, none⟩) xs.length xs.length (ic xs) := by
  have := h.own (base := base) (n := xs.length) (c := xs.length) (size := 1) hb (by simp [ic_len]) (Nat.le_refl _) hm (by simp [ic_len])
  rw [List.take_of_length_le (by simp [ic_len])] at this
  exact Seg.of_own this
theorem l1Most_still (x y m : Int) (h : max x y = m) (w : World) :
    Calls Tryd.prog 89 #[.int .i64 x, .int .i64 y] w fun e w' => e = .returned (.int .i64 m) ∧ w' = w := by
  subst h; exact l1Most_any x y w
theorem max_bd {x y b : Int} (hx : 0 ≤ x) (hx' : x ≤ b) (hy : y ≤ b) : 0 ≤ max x y ∧ max x y ≤ b := by omega
theorem ends_starts_at {js : List J} {p : List Nat} (hp : p.Perm (List.range js.length)) {k : Nat} (hk : k < js.length) (h1 : k < (endsL js p).length) (h2 : k < (startsL js p).length) : (endsL js p)[k] = (startsL js p)[k] + js[k].t := by
  have := end_startL js p hp k hk
  rwa [getD_at _ _ h1, getD_at _ _ h2, getD_at js j0 hk] at this
end Go.Proofs.YtapbgmmkkngdoaaDoor

namespace Go.Proofs.YtapbgmmkkngdoaaDoor
open Go.RowKit

def natsOf (o : List Int) : List Nat := o.map Int.toNat
theorem natsOf_natI (p : List Nat) : natsOf (natI p) = p := by
  unfold natsOf natI
  rw [List.map_map, show (Int.toNat ∘ Int.ofNat) = id from rfl, List.map_id]
theorem two_out {js : List J} {o : List Int} (h : twoB js o = true) : goodL js = true ∧ ∃ p : List Nat, o = natI p ∧ p.Perm (List.range js.length) ∧ natsOf o = p := by
  unfold twoB at h
  rw [Bool.and_eq_true] at h
  obtain ⟨p, rfl, hp, _, _⟩ := ord_nat h.2
  exact ⟨h.1, p, rfl, hp, natsOf_natI p⟩
/-- What a function hands back: an int and a bool. -/
def RetNB (w : World) (r : Int × Bool) (e : Ending) (w' : World) : Prop := e = .returned (.tuple #[.int .i64 r.1, .bool r.2]) ∧ Below w.heap.size w w'
theorem ret_empty {w w1 : World} {r : List Int × Bool} (hr : r = ([], false)) (hb : Below w.heap.size w w1) (e : Ending) (he : e = .returned (.tuple #[.slice (some ⟨w1.heap.size, 0, none⟩) 0 0, .bool false])) : RetIB w r e (w1.alloc (.cells #[] 3)) := by
  subst hr he
  have h := BlockIs.new w1 3 (ic []).toArray
  exact ⟨_, 0, rfl, seg_of_block h hb.size (by simp), hb.alloc hb.size _⟩
theorem ret_block {w w' : World} {r : List Int × Bool} {xs : List Int} {g : Nat} (hr : r = (xs, true)) (hg : w.heap.size ≤ g) (hB : BlockIs w' g 3 (ic xs).toArray) (hm : xs.length ≤ 100000000) (hb : Below w.heap.size w w') (e : Ending) (he : e = .returned (.tuple #[.slice (some ⟨g, 0, none⟩) xs.length xs.length, .bool true])) : RetIB w r e w' := by
  subst hr he
  exact ⟨_, xs.length, rfl, seg_of_block hB hg (by unfold maxLen; simp; omega), hb⟩

section
variable (A B : Option Addr) (c d : Nat) (js : List J) (o : List Int) (w : World) (hr : Row w A (jc js)) (hq : Row w B (ic o)) (hn : js.length ≤ 10000000) (hm : o.length ≤ 10000000)
include hr hq hn hm
end
end Go.Proofs.YtapbgmmkkngdoaaDoor

namespace Go.Proofs.YtapbgmmkkngdoaaDoor
open Go.RowKit
def goodB (js : List J) (m : Int) (E : List Pr) : Bool := goodL js && (plain0 js && (inB m 1 4 && precB js.length E))
set_option maxRecDepth 100000 in
set_option maxHeartbeats 1000000 in
theorem l7Good_any (A C : Option Addr) (c d : Nat) (js : List J) (m : Int) (E : List Pr) (w : World) (hr : Row w A (jc js)) (hq : Row w C (pc E)) (hn : js.length ≤ 10000000) (hl : E.length ≤ 10000000) :
    Calls Tryd.prog 58 #[.slice A js.length c, .int .i64 m, .slice C E.length d] w fun e w' => e = .returned (.bool (goodB js m E)) ∧ Below w.heap.size w w' := by
  have HD : Hid (goodB js m E = (goodL js && (plain0 js && (inB m 1 4 && precB js.length E)))) := rfl
  have H1 := Lib.hid (l2Good_any A c js w hr (by omega))
  have H2 := Lib.hid (fun W (hb : Below w.heap.size w W) => l3Plain_any A c js W (hr.below hb) (by omega))
  have H4 := Lib.hid (fun W (hb : Below w.heap.size w W) => l4Good_any C d (js.length : Int) E W (hq.below hb) hl)
  clear hr hq
  go_enter Tryd.func58, Tryd.ntmps58
  go_wp2_with fail
  refine H1.out.mono ?_
  rintro e w1 ⟨rfl, hb1⟩
  cases hg : goodL js
  · rw [hg] at HD
    clear hg
    go_wp2
    go_ret
    exact ⟨by rw [HD.out]; rfl, hb1⟩
  · rw [hg] at HD
    clear hg
    have HB1 := Lib.hid hb1
    clear hb1
    go_wp2_with fail
    refine (H2.out w1 HB1.out).mono ?_
    rintro e w2 ⟨rfl, hb2⟩
    have HB2 := Lib.hid (HB1.out.trans (hb2.mono HB1.out.size))
    clear hb2
    cases hp : plain0 js
    · rw [hp] at HD
      clear hp
      go_wp2
      go_ret
      exact ⟨by rw [HD.out]; rfl, HB2.out⟩
    · rw [hp] at HD
      clear hp
      go_wp2_with fail
      refine (l1In_any m 1 4 _).mono ?_
      rintro e _ ⟨rfl, rfl⟩
      cases hm : inB m 1 4
      · rw [hm] at HD
        clear hm
        go_wp2
        go_ret
        exact ⟨by rw [HD.out]; rfl, HB2.out⟩
      · rw [hm] at HD
        clear hm
        go_wp2_with fail
        refine (H4.out w2 HB2.out).mono ?_
        rintro e w3 ⟨rfl, hb3⟩
        have HB3 := Lib.hid (HB2.out.trans (hb3.mono HB2.out.size))
        clear hb3
        cases hq : precB js.length E
        · rw [hq] at HD
          clear hq
          go_wp2
          go_ret
          exact ⟨by rw [HD.out]; rfl, HB3.out⟩
        · rw [hq] at HD
          clear hq
          go_wp2
          go_ret
          exact ⟨by rw [HD.out]; rfl, HB3.out⟩
section
variable {Bs : Nat} {A : Option Addr} {c : Nat} {js : List J} {E : List Pr} {gs : List Nat} {g cc : Nat} {w : World}
set_option maxRecDepth 100000 in
set_option maxHeartbeats 2000000 in
theorem l7Tail_any (hr : Row w A (jc js)) (hok : ∀ j ∈ js, okJ j = true) (h8 : js.length ≤ 8) (hirr : irrB js.length E js.length = true) (hTb : TabR Bs js.length (tabB js.length E) gs (.slice (some ⟨g, 0, none⟩) gs.length cc) w) (hgl : gs.length = js.length) : ∀ (f j : Nat), f ≤ 9 → j < js.length → cntS js.length (tabB js.length E) j < f →
    Calls Tryd.prog 85 #[.slice A js.length c, .slice (some ⟨g, 0, none⟩) gs.length cc, .int .i64 (j : Int)] w fun e w' => e = .returned (.int .i64 (tailF js (tabB js.length E) js.length f j)) ∧ w = w' := by
  intro f
  induction f with
  | zero => intro j _ _ h; omega
  | succ f ih =>
    intro j hf9 hj hcj
    have HIH := Lib.hid (fun i (hi : i < js.length) (ht : tabB js.length E j i = true) => ih i (by omega) hi (by have := cntS_lt hirr hi ht; omega))
    have HTB := Lib.hid hTb
    have HGL := Lib.hid hgl
    have HRES : Hid (tailF js (tabB js.length E) js.length (f + 1) j = (js.getD j j0).t + mostTo (fun i => tailF js (tabB js.length E) js.length f i) (tabB js.length E j) js.length) := rfl
    have HBD : Hid (∀ k, k ≤ js.length → 0 ≤ mostTo (fun i => tailF js (tabB js.length E) js.length f i) (tabB js.length E j) k ∧ mostTo (fun i => tailF js (tabB js.length E) js.length f i) (tabB js.length E j) k ≤ 50 * (f : Int)) := fun k hk => most_bd (by omega) k fun i hi _ => (tailF_bd hok _ f i (by omega)).2
    have HMS := Lib.hid (mostTo_succ (fun i => tailF js (tabB js.length E) js.length f i) (tabB js.length E j))
    obtain ⟨ad, hA, _, hc0, hc1, hc2, hc3⟩ := hr.job hj
    subst hA
    have hjt := okJ_out (hok _ (List.getElem_mem hj))
    have hgj := getD_at js j0 hj
    rw [hgj] at HRES
    have hj0 : (0 : Int) ≤ j := by omega
    have hj1 : (j : Int) < js.length := by omega
    have hj2 : (j : Int) < gs.length := by rw [hgl]; omega
    generalize js[j] = jb at *
    clear ih hTb hgl hgj hr hcj
    go_enter Tryd.func85, Tryd.ntmps85
    go_wp2
    go_loop [7, 8] (fun mv iv => ∃ k : Nat, k ≤ js.length ∧ iv = .int .i64 (k : Int) ∧ mv = .int .i64 (mostTo (fun i => tailF js (tabB js.length E) js.length f i) (tabB js.length E j) k)) (fun _ iv => js.length - (intOf iv).toNat)
    case atStart => exact ⟨0, Nat.zero_le _, rfl, rfl⟩
    case round =>
      obtain ⟨k, hk, rfl, rfl⟩ := hrel
      by_cases hlt : k < js.length
      · obtain ⟨g1, c1, q, hV, hq, hcell, _, _, _, hrow⟩ := HTB.out.at_ (i := j) (by rw [HGL.out]; exact hj)
        obtain ⟨rfl, rfl⟩ : g = g1 ∧ cc = c1 := by
          injection hV with e1 _ e3
          injection e1 with e1
          injection e1 with e1 _ _
          exact ⟨e1, e3⟩
        have hck := hrow k hlt
        have hk0 : (0 : Int) ≤ k := by omega
        have hk1 : (k : Int) < js.length := by omega
        have HS := Lib.hid (HMS.out k)
        clear hrow hV hq
        cases ht : tabB js.length E j k
        · rw [ht] at hck HS
          clear ht
          generalize mostTo (fun i => tailF js (tabB js.length E) js.length f i) (tabB js.length E j) k = mk at *
          go_wp2
          go_round
          case rel => exact ⟨k + 1, by omega, by go_num, by rw [HS.out]; rfl⟩
          case measure => simp [intOf]; omega
        · have HC := Lib.hid (HIH.out k hlt ht)
          rw [ht] at hck HS
          clear ht
          generalize mostTo (fun i => tailF js (tabB js.length E) js.length f i) (tabB js.length E j) k = mk at *
          go_wp2_with fail
          refine HC.out.mono ?_
          rintro e _ ⟨rfl, rfl⟩
          go_wp2_with fail
          refine (l1Most_any _ _ _).mono ?_
          rintro e _ ⟨rfl, rfl⟩
          go_wp2
          go_round
          case rel => exact ⟨k + 1, by omega, by go_num, by rw [HS.out]; rfl⟩
          case measure => simp [intOf]; omega
      · obtain rfl : k = js.length := by omega
        have hbd := HBD.out _ (Nat.le_refl _)
        generalize mostTo (fun i => tailF js (tabB js.length E) js.length f i) (tabB js.length E j) js.length = mk at *
        go_wp2
        go_ret
        exact ⟨by rw [HRES.out]; rfl, rfl⟩
end
theorem infoIp : (Tryd.prog.info? 3).map (fun i => (i.zero, i.size, i.bytes)) = some (some (.int .i64 0), 1, 8) := by kernel_rfl
/-- Blocks that hold no ints are as they were. -/
def KeepI (w w' : World) : Prop := ∀ q t cs, t ≠ 3 → BlockIs w q t cs → BlockIs w' q t cs
theorem TabR.keepI {B n : Nat} {T : Nat → Nat → Bool} {gs : List Nat} {v : Value} {w w' : World} (h : TabR B n T gs v w) (hk : KeepI w w') : TabR B n T gs v w' := by
  refine ⟨own_to h.1 fun q hq _ _ => ?_, fun i hi => ⟨hk _ _ _ (by decide) (h.2.1 i hi).1, (h.2.1 i hi).2⟩, h.2.2⟩
  obtain ⟨_, _, c1, t1⟩ := own_type h.1 hq
  exact (hk _ _ _ (by decide) t1).trans t1.symm
theorem pushI {w0 w : World} {v : Value} {xs : List Int} (h : w.ownsRow w0.heap.size 3 1 v xs.length (ic xs)) (hb : Below w0.heap.size w0 w) (x : Int) (hl : xs.length ≤ 1000) :
    ∃ v' w3, (Builtin.append_ #[29, 29] 29 #[v, .slice (some ⟨w.heap.size, 0, none⟩) 1 1]).run Tryd.prog (w.alloc (.cells #[.int .i64 x] 3)) = .ok v' w3 ∧
      w3.ownsRow w0.heap.size 3 1 v' (xs ++ [x]).length (ic (xs ++ [x])) ∧ Below w0.heap.size w0 w3 ∧ KeepI w w3 := by
  obtain ⟨i1, hj, hy0, hy1, hy2⟩ := info_parts infoIp
  have hb1 := hb.alloc hb.size (.cells #[.int .i64 x] 3)
  have hbw : Below w.heap.size w (w.alloc (.cells #[.int .i64 x] 3)) := (Below.refl _ w).alloc (Nat.le_refl _) _
  have h2 := own_blw h hbw
  have hsrc := row_srcS (Row.new w 3 #[.int .i64 x])
  obtain ⟨v', w3, hrun, ho3, hgr, _⟩ := append_at (P := Tryd.prog) (w.alloc (.cells #[.int .i64 x] 3)) w0.heap.size 29 29 3 i1 (.int .i64 0) 1 8 Tryd.underlying29 hj hy0 hy1 hy2 rfl (by decide) _ _ _ h2 ⟨w.heap.size, 0, none⟩ 1 1 [.int .i64 x] rfl hsrc (by intro u hu; simp at hu; subst hu; rfl) (by omega) (by unfold maxLen; omega) (by omega) hb1.size
  refine ⟨v', w3, hrun, ?_, hb1.grown hgr hb1.size (fun j hj => (h2.lt j hj).1), fun q t cs ht hB => ?_⟩
  · unfold ic at ho3 ⊢
    simpa using ho3
  · have hB1 := hB.below hbw
    refine (hgr.block q hB1.lt fun e => ?_).trans hB1
    obtain ⟨_, _, c1, t1⟩ := own_type h2 e.symm
    exact type_ne hB1 t1 ht rfl
def tailsTo (js : List J) (E : List Ed) (k : Nat) : List Int := (List.range k).map fun j => tailF js (tabB js.length E) js.length 9 j
theorem tailsTo_succ (js : List J) (E : List Ed) (k : Nat) : tailsTo js E (k + 1) = tailsTo js E k ++ [tailF js (tabB js.length E) js.length 9 k] := by unfold tailsTo; rw [List.range_succ, List.map_append]; rfl
theorem tailsTo_len (js : List J) (E : List Ed) (k : Nat) : (tailsTo js E k).length = k := by unfold tailsTo; simp
set_option maxRecDepth 100000 in
set_option maxHeartbeats 2000000 in
theorem l7Tails_any (A C : Option Addr) (c d : Nat) (js : List J) (E : List Pr) (w : World) (hr : Row w A (jc js)) (hq : Row w C (pc E)) (hl : E.length ≤ 10000000) (hok : ∀ j ∈ js, okJ j = true) (h8 : js.length ≤ 8) (hirr : irrB js.length E js.length = true) (hE : EdsIn js.length E) :
    Calls Tryd.prog 59 #[.slice A js.length c, .slice C E.length d] w fun e w' => ∃ v, e = .returned v ∧ w'.ownsRow w.heap.size 3 1 v (tailsL js E).length (ic (tailsL js E)) ∧ Below w.heap.size w w' := by
  have hb0 := (Below.refl w.heap.size w).alloc (Nat.le_refl _) (.cells #[] 3)
  have h0 : (w.alloc (.cells #[] 3)).ownsRow w.heap.size 3 1 (.slice (some ⟨w.heap.size, 0, none⟩) 0 0) 0 (ic []) := World.ownsRow_made w #[] 0 (Nat.le_refl _) (by unfold maxLen; omega) rfl
  have H0 := Lib.hid (And.intro hb0 h0)
  have HTB := Lib.hid (l4Table_any C d js.length E _ (hq.below hb0) hl h8 hE)
  have HR := Lib.hid hr
  have HLL : Hid (tailsTo js E js.length = tailsL js E) := rfl
  clear hb0 h0 hr hq hE
  go_enter Tryd.func59, Tryd.ntmps59
  go_wp2_with fail
  refine HTB.out.mono ?_
  rintro e w2 ⟨gs, v, rfl, hTb, hgl, hb2⟩
  have HB2 := Lib.hid (H0.out.1.trans (hb2.mono H0.out.1.size))
  have HO2 := Lib.hid (own_blw H0.out.2 hb2)
  have hsz := H0.out.1.size
  obtain ⟨Bs, hBs⟩ : ∃ Bs, Bs = (w.alloc (.cells #[] 3)).heap.size := ⟨_, rfl⟩
  rw [← hBs] at hTb
  have HTb := Lib.hid hTb
  have HGL := Lib.hid hgl
  clear hTb hgl hb2 HTB H0 hBs
  go_wp2
  go_loopw [5, 7] (fun u i wr => ∃ (k : Nat) (U : Value), k ≤ js.length ∧ i = .int .i64 (k : Int) ∧ U = u ∧ Hid (wr.ownsRow w.heap.size 3 1 U (tailsTo js E k).length (ic (tailsTo js E k))) ∧ Hid (TabR Bs js.length (tabB js.length E) gs v wr) ∧ Hid (Below w.heap.size w wr)) (fun _ i _ => js.length - (intOf i).toNat)
  case atStart => exact ⟨0, _, Nat.zero_le _, rfl, rfl, HO2.out, HTb.out, HB2.out⟩
  case round =>
    obtain ⟨k, U, hk, rfl, rfl, hO, hTb, hb⟩ := hrel
    clear HO2 HTb HB2
    by_cases hlt : k < js.length
    · obtain ⟨g, cc, q, hV, _, _, _, _, _, _⟩ := hTb.out.at_ (i := k) (by rw [HGL.out]; exact hlt)
      subst hV
      have HC := Lib.hid (l7Tail_any (c := c) (HR.out.below hb.out) hok h8 hirr hTb.out HGL.out 9 k (by omega) hlt (by have := cntS_le js.length (tabB js.length E) k; omega))
      obtain ⟨v', w3, hrun, hO3, hb3, hk3⟩ := pushI (w0 := w) hO.out hb.out (tailF js (tabB js.length E) js.length 9 k) (by rw [tailsTo_len]; omega)
      have HRUN := Lib.hid hrun
      have HY := Lib.hid (And.intro hO3 (And.intro (hTb.out.keepI hk3) hb3))
      rw [← tailsTo_succ] at HY
      clear hrun hO3 hb3 hk3 hO hTb hb
      generalize tailF js (tabB js.length E) js.length 9 k = tk at *
      go_wp2_with (first | (at_builtin; refine wpList_app rfl _ _ _ rfl _ _ _ rfl rfl HRUN.out ?_; clear HRUN) | (go_at_call 85; refine HC.out.mono ?_; rintro e _ ⟨rfl, rfl⟩))
      go_roundw
      case rel => exact ⟨k + 1, _, by omega, by go_num, rfl, HY.out.1, HY.out.2.1, HY.out.2.2⟩
      case measure => simp [intOf]; omega
    · obtain rfl : k = js.length := by omega
      go_wp2
      go_ret
      exact ⟨U, rfl, by rw [← HLL.out]; exact hO.out, hb.out⟩
def tailsR (js : List J) (E : List Pr) : List Int × Bool := if goodB js 1 E then (tailsL js E, true) else ([], false)
theorem tailsR_len (js : List J) (E : List Pr) : (tailsR js E).1.length ≤ 8 := by
  unfold tailsR
  split
  · rename_i h
    unfold goodB at h
    rw [Bool.and_eq_true] at h
    obtain ⟨h8, _⟩ := good_out h.1
    rw [tailsL_len]; exact h8
  · simp
theorem good_parts {js : List J} {m : Int} {E : List Pr} (h : goodB js m E = true) : (∀ j ∈ js, okJ j = true) ∧ js.length ≤ 8 ∧ irrB js.length E js.length = true ∧ EdsIn js.length E ∧ plainL js = true ∧ precB js.length E = true ∧ inB m 1 4 = true := by
  unfold goodB at h
  simp only [Bool.and_eq_true] at h
  obtain ⟨h8, hok⟩ := good_out h.1
  obtain ⟨n, hn, _, hE⟩ := prec_nat h.2.2.2
  have hn' : js.length = n := by omega
  subst hn'
  refine ⟨hok, h8, ?_, hE, by unfold plainL; rw [h.1, h.2.1]; rfl, h.2.2.2, h.2.2.1⟩
  have hp := h.2.2.2
  rw [← precB_good (by unfold precB at hp; rw [Bool.and_eq_true] at hp; exact hp.1), hp]
theorem ret_ownIr {w w' : World} {r : List Int × Bool} {p : List Int} {v : Value} (hr : r = (p, true)) (ho : w'.ownsRow w.heap.size 3 1 v p.length (ic p)) (hb : Below w.heap.size w w') (e : Ending) (he : e = .returned (.tuple #[v, .bool true])) : RetIB w r e w' := by
  obtain ⟨A, c, rfl, hs⟩ := seg_out ho
  subst hr he
  exact ⟨A, c, rfl, hs, hb⟩
set_option maxRecDepth 100000 in
set_option maxHeartbeats 1000000 in
theorem spec_TailsOf (A C : Option Addr) (c d : Nat) (js : List J) (E : List Pr) (w : World) (hr : Row w A (jc js)) (hq : Row w C (pc E)) (hn : js.length ≤ 10000000) (hl : E.length ≤ 10000000) :
    Calls Tryd.prog 27 #[.slice A js.length c, .slice C E.length d] w (RetIB w (tailsR js E)) := by
  have HRR : Hid (tailsR js E = if goodB js 1 E then (tailsL js E, true) else ([], false)) := rfl
  have HG := Lib.hid (l7Good_any A C c d js 1 E w hr hq hn hl)
  have HR := Lib.hid hr
  have HQ := Lib.hid hq
  clear hr hq
  go_enter Tryd.func27, Tryd.ntmps27
  go_wp2_with fail
  refine HG.out.mono ?_
  rintro e w1 ⟨rfl, hb1⟩
  cases hg : goodB js 1 E
  · rw [hg] at HRR
    have HB := Lib.hid hb1
    clear hg hb1
    go_wp2
    go_ret2
    exact ret_empty HRR.out HB.out _ rfl
  · rw [hg] at HRR
    obtain ⟨hok, h8, hirr, hE, _, _, _⟩ := good_parts hg
    have HT := Lib.hid (l7Tails_any A C c d js E w1 (HR.out.below hb1) (HQ.out.below hb1) hl hok h8 hirr hE)
    have HB := Lib.hid hb1
    clear hg hb1 hok h8 hirr hE
    go_wp2_with fail
    refine HT.out.mono ?_
    rintro e w2 ⟨v, rfl, ho, hb2⟩
    have HO := Lib.hid (And.intro (own_low ho HB.out.size) (HB.out.trans (hb2.mono HB.out.size)))
    clear ho hb2
    go_wp2
    go_ret2
    exact ret_ownIr (p := tailsL js E) HRR.out HO.out.1 HO.out.2 _ rfl
end Go.Proofs.YtapbgmmkkngdoaaDoor

namespace Go.Proofs.YtapbgmmkkngdoaaDoor
section
variable {F : Fence} {n : Nat} {P : Program} {ops : Array Oper} {Q : Exit → Act → World → Prop}
theorem wpOpIn_enterZ (hF : ∀ f, F.fn f) (hdp : F.depth = none) (hCI : ∀ f args w R, Calls P f args w R → CallsIn F (n - 1) P f args w R) (hc : calmB ops = true) {i : Nat} {o : Oper} {a : Act} {w w' : World} {f : FuncId} {args : Array Value} {K : Act → World → Prop} (ho : ops[i]? = some o) (hg : Region.wanted o (yielded ops a.tmps) = true) (hr : (execOp a.eval o).run P w = .ok (.enter f args) w') (hK : Calls P f args w' fun e w'' => ∃ v, e = .returned v ∧ K (a.put o.dst v) w'') : wpOpIn F n P ops Q i K a w := by
  refine wpOpIn_step ho fun K' hKK => ?_
  rw [if_pos hg]
  refine ⟨fun f _ => hF f, ?_⟩
  rw [semAt_calm hc ho, hr]
  refine ⟨fun h => ?_, (hCI _ _ _ _ hK).mono ?_⟩
  · rw [hdp] at h; cases h
  · rintro e w'' ⟨v, rfl, h⟩
    exact hKK _ _ h
/-- As wp_region_detY, within a round. -/
theorem wpIn_region_detZ (hF : ∀ f, F.fn f) (hdp : F.depth = none) (hCI : ∀ f args w R, Calls P f args w R → CallsIn F (n - 1) P f args w R) (hcalm : calmB ops = true) {id : Nat} {tm0 : Array Value} {df : List Deferred} {w : World} (hm : P.follows .mixedOrders = true) (S : Array Bool → World → Prop) (val : Nat → Value) (hback : backBB ops = true) (hown : ownDst ops tm0.size = true)
    (h0 : S (Array.replicate ops.size false) w.drew)
    (hdone : ∀ (L : Array Bool) (tm : Array Value) (w : World), (∀ i, i < ops.size → L.getD i true = true) → S L w → tm.size = tm0.size → (∀ t, ((List.range ops.size).all fun j => !((ops[j]?).bind (·.dst) == some t)) = true → tm.getD t undef = tm0.getD t undef) → (∀ j o d, ops[j]? = some o → o.dst = some d → tm.getD d undef = val j) → Q .normal ⟨tm, df⟩ w)
    (hstep : ∀ (L : Array Bool) (a : Act) (w : World) (i : Nat) (o : Oper), L.size = ops.size → ops[i]? = some o → L.getD i true = false → (∀ j, edgeB ops i j = true → L.getD j true = true) → (∀ j, edgeB ops j i = true → L.getD j true = false) → S L w → (∀ t, ((List.range ops.size).all fun j => !((ops[j]?).bind (·.dst) == some t)) = true → a.tmps.getD t undef = tm0.getD t undef) →
      (∀ j oj d, edgeB ops i j = true → ops[j]? = some oj → oj.dst = some d → a.tmps.getD d undef = val j) →
      (∀ j oj d, edgeB ops j i = true → ops[j]? = some oj → oj.dst = some d → a.tmps.getD d undef = tm0.getD d undef) → Region.wanted o (yielded ops a.tmps) = true ∧ StepY P (S (L.setIfInBounds i true)) o a w (val i)) :
    (Code.region id ops true).wpIn F n P Q ⟨tm0, df⟩ w := by
  refine wpIn_region_invB hm (fun L a w => S L w ∧ a.defers = df ∧ a.tmps.size = tm0.size ∧ (∀ t, ((List.range ops.size).all fun j => !((ops[j]?).bind (·.dst) == some t)) = true → a.tmps.getD t undef = tm0.getD t undef) ∧ (∀ j o d, ops[j]? = some o → o.dst = some d → L.getD j true = true → a.tmps.getD d undef = val j) ∧ (∀ j o d, ops[j]? = some o → o.dst = some d → L.getD j true = false → a.tmps.getD d undef = tm0.getD d undef)) (back_ofB hback) ?_ ?_ ?_
  · refine ⟨h0, rfl, rfl, fun _ _ => rfl, fun j o d ho _ hl => ?_, fun _ _ _ _ _ _ => rfl⟩
    have hj : j < ops.size := (Array.getElem?_eq_some_iff.1 ho).1
    simp [Array.getD_eq_getD_getElem?, hj] at hl
  · intro L a w ⟨hS, hdf, hsz, hlow, hval, _⟩ hall
    obtain ⟨tm, df'⟩ := a
    simp only at hdf hsz
    subst hdf
    exact hdone L tm w hall hS hsz hlow (fun j o d ho hd => hval j o d ho hd (hall j (Array.getElem?_eq_some_iff.1 ho).1))
  · intro L a w i o hC ⟨hS, hdf, hsz, hlow, hval, hold⟩ ho hl hd
    obtain ⟨hg, hst⟩ := hstep L a w i o hC.1 ho hl (fun j he => dep_of ho hd he) (fun j he => hC.no he hl) hS hlow (fun j oj d he hoj hdj => hval j oj d hoj hdj (dep_of ho hd he)) (fun j oj d he hoj hdj => hold j oj d hoj hdj (hC.no he hl))
    have next : ∀ w', S (L.setIfInBounds i true) w' → S (L.setIfInBounds i true) w' ∧ (a.put o.dst (val i)).defers = df ∧ (a.put o.dst (val i)).tmps.size = tm0.size ∧ (∀ t, ((List.range ops.size).all fun j => !((ops[j]?).bind (·.dst) == some t)) = true → (a.put o.dst (val i)).tmps.getD t undef = tm0.getD t undef) ∧ (∀ j o' d, ops[j]? = some o' → o'.dst = some d → (L.setIfInBounds i true).getD j true = true → (a.put o.dst (val i)).tmps.getD d undef = val j) ∧ (∀ j o' d, ops[j]? = some o' → o'.dst = some d → (L.setIfInBounds i true).getD j true = false → (a.put o.dst (val i)).tmps.getD d undef = tm0.getD d undef) := by
      intro w' hS'
      cases hod : o.dst with
      | none =>
        refine ⟨hS', hdf, hsz, hlow, fun j o' d ho' hd' hl' => ?_, fun j o' d ho' hd' hl' => ?_⟩
        · have hne : i ≠ j := fun e => by subst e; rw [ho] at ho'; injection ho' with ho'; subst ho'; rw [hod] at hd'; cases hd'
          rw [getD_set_true, if_neg (fun h => hne h.1)] at hl'
          exact hval j o' d ho' hd' hl'
        · have hne : i ≠ j := fun e => by subst e; rw [ho] at ho'; injection ho' with ho'; subst ho'; rw [hod] at hd'; cases hd'
          rw [getD_set_true, if_neg (fun h => hne h.1)] at hl'
          exact hold j o' d ho' hd' hl'
      | some d0 =>
        have hput : ∀ t, (a.put (some d0) (val i)).tmps.getD t undef = if d0 = t ∧ t < a.tmps.size then val i else a.tmps.getD t undef := by
          intro t
          unfold Act.put
          simp only [Array.getD_eq_getD_getElem?, Array.getElem?_setIfInBounds]
          by_cases e : d0 = t
          · subst e
            by_cases h : d0 < a.tmps.size
            · simp [h]
            · simp [h]
          · simp [e]
        refine ⟨hS', hdf, by simp [Act.put, hsz], fun t ht => ?_, fun j o' d ho' hd' hl' => ?_, fun j o' d ho' hd' hl' => ?_⟩
        · rw [hput, if_neg (fun h => ?_)]
          · exact hlow t ht
          · have := List.all_eq_true.1 ht i (List.mem_range.2 (Array.getElem?_eq_some_iff.1 ho).1)
            rw [ho] at this
            simp [hod, h.1] at this
        · rw [hput]
          by_cases e : d0 = d
          · subst e
            have hij := ownDst_inj hown ho hod ho' hd'
            subst hij
            rw [if_pos ⟨rfl, by rw [hsz]; exact ownDst_lt hown ho hod⟩]
          · rw [if_neg (fun h => e h.1)]
            have hne : i ≠ j := fun e' => by subst e'; rw [ho] at ho'; injection ho' with ho'; subst ho'; rw [hod] at hd'; injection hd' with hd'; exact e hd'
            rw [getD_set_true, if_neg (fun h => hne h.1)] at hl'
            exact hval j o' d ho' hd' hl'
        · have hli : i ≠ j := fun e => by
            subst e
            have hC1 : i < L.size := by rw [hC.1]; exact (Array.getElem?_eq_some_iff.1 ho).1
            rw [getD_set_true, if_pos ⟨rfl, hC1⟩] at hl'; cases hl'
          rw [getD_set_true, if_neg (fun h => hli h.1)] at hl'
          have hdd : d0 ≠ d := fun e => by subst e; exact hli (ownDst_inj hown ho' hd' ho hod)
          rw [hput, if_neg (fun h => hdd h.1)]
          exact hold j o' d ho' hd' hl'
    rcases hst with (⟨w', hr, hS'⟩ | ⟨f, args, hr, hc⟩) | ⟨w', hnd, hr, hS'⟩
    · exact wpOpIn_valueX hF hcalm ho hg hr (next w' hS')
    · refine wpOpIn_enterZ hF hdp hCI hcalm ho hg hr (hc.mono ?_)
      rintro e w' ⟨rfl, hS'⟩
      exact ⟨_, rfl, next w' hS'⟩
    · refine wpOpIn_skipX hF hcalm ho hg hr ?_
      have h := next w' hS'
      rw [hnd] at h ⊢
      exact h
end
end Go.Proofs.YtapbgmmkkngdoaaDoor

namespace Go.Proofs.YtapbgmmkkngdoaaDoor
open Go.RowKit Go.Shelf
attribute [local go_sem] Oper.semAt_some
set_option maxRecDepth 100000 in
set_option maxHeartbeats 2000000 in
theorem behind_any (m : Nat) (hm : m ≤ 8) (B : Nat → Nat) (hB8 : ∀ j, j < 8 → B j < 256) (i : Nat) (hi : i < 8) (w : World) :
    Calls Tryd.prog 106 #[.agg (precC (m : Int) B), .int .i64 (i : Int)] w fun e w' => e = .returned (.int .u64 (bitsN m (bitT B i) : Nat)) ∧ Below w.heap.size w w' := by
  have H0 := Lib.hid (And.intro ((Below.refl w.heap.size w).alloc (Nat.le_refl _) (.cells (precC (m : Int) B) 62)) (BlockIs.new w 62 (precC (m : Int) B)))
  have HBT : Hid (∀ k, bitT B i k = (B k).testBit i) := fun k => rfl
  have HBS := Lib.hid (bits_succ · (bitT B i))
  have HBL : Hid (∀ k, k ≤ 8 → bitsN k (bitT B i) < 256) := fun k hk => bits_lt hk _
  have ep : (precC (m : Int) B) = #[.int .i64 m, .int .u64 (B 0 : Int), .int .u64 (B 1 : Int), .int .u64 (B 2 : Int), .int .u64 (B 3 : Int), .int .u64 (B 4 : Int), .int .u64 (B 5 : Int), .int .u64 (B 6 : Int), .int .u64 (B 7 : Int)] := rfl
  rw [ep]
  clear ep
  go_enter Tryd.func106, Tryd.ntmps106
  go_wp2
  go_loopw [5, 9] (fun sv kv wr => ∃ k : Nat, k ≤ m ∧ kv = .int .i64 (k : Int) ∧ sv = .int .u64 (bitsN k (bitT B i) : Nat) ∧ Hid (Below w.heap.size w wr ∧ BlockIs wr w.heap.size 62 (precC (m : Int) B))) (fun _ kv _ => m - (intOf kv).toNat)
  case atStart => exact ⟨0, Nat.zero_le _, rfl, rfl, H0.out⟩
  case round =>
    obtain ⟨k, hk, rfl, rfl, HW⟩ := hrel
    clear H0
    by_cases hlt : k < m
    · have hBk := HW.out.2
      have c0 := hBk.cell 0
      have c1 := hBk.cell 1
      have c2 := hBk.cell 2
      have c3 := hBk.cell 3
      have c4 := hBk.cell 4
      have c5 := hBk.cell 5
      have c6 := hBk.cell 6
      have c7 := hBk.cell 7
      have c8 := hBk.cell 8
      simp only [precC, List.getElem?_toArray, List.getElem?_cons_zero, List.getElem?_cons_succ] at c0 c1 c2 c3 c4 c5 c6 c7 c8
      have HC := Lib.hid (comesBefore_any (m : Int) B hB8 i k (by omega) (by omega) wr)
      have HS := Lib.hid (HBS.out k)
      rw [HBT.out] at HS
      have hsl := HBL.out k (by omega)
      clear hBk
      generalize bitsN k (bitT B i) = sk at *
      go_wp2_with fail
      refine HC.out.mono ?_
      rintro e w5 ⟨rfl, hb5⟩
      have HW5 := Lib.hid (And.intro (HW.out.1.trans (hb5.mono HW.out.1.size)) (HW.out.2.below hb5))
      clear HW hb5 HC c0 c1 c2 c3 c4 c5 c6 c7 c8
      cases hc : (B k).testBit i
      · rw [hc] at HS
        clear hc
        go_wp2
        go_roundw
        case rel => exact ⟨k + 1, by omega, by go_num, by rw [HS.out]; rfl, HW5.out⟩
        case measure => simp [intOf]; omega
      · rw [hc] at HS
        clear hc
        go_wp2_with fail
        refine (with_any sk k hsl (by omega) _).mono ?_
        rintro e _ ⟨rfl, rfl⟩
        go_wp2
        go_roundw
        case rel => exact ⟨k + 1, by omega, by go_num, by rw [HS.out]; rfl, HW5.out⟩
        case measure => simp [intOf]; omega
    · obtain rfl : k = m := by omega
      go_wp2
      go_ret
      exact ⟨rfl, HW.out.1⟩
theorem exec_load10 {o : Oper} {ev : Operand → Value} {x : Operand} {g : Nat} {cs : Array Value} {w : World} (ho : o.op = .load 86 x) (hx : ev x = .pointer (some ⟨g, 0, none⟩)) (h : BlockIs w g 86 cs) (hs : cs.size = 10) :
    (execOp ev o).run Tryd.prog w = .ok (.value (.agg cs)) w := by
  unfold execOp
  simp only [ho, hx, Instr.loadAt, Instr.sureAddr, Sem.run_bind, Sem.run_pure, Result.andThen_ok, load10 h hs]
theorem keepsO_below {W W' : World} (h : Below W.heap.size W W') : KeepsOthers W W' :=
  ⟨h.size, fun k _ hk _ => (h.block k (Array.getElem?_eq_some_iff.1 hk).1).trans hk⟩
-- TAIL
section
variable {A : Option Addr} {c : Nat} {js : List J} {E : List Pr}
set_option maxRecDepth 100000 in
set_option maxHeartbeats 4000000 in
theorem tail_any (hok : ∀ j ∈ js, okJ j = true) (h8 : js.length ≤ 8) (hirr : irrB js.length E js.length = true) : ∀ (f j : Nat) (w : World), f ≤ 9 → j < js.length → cntS js.length (tabB js.length E) j < f → Row w A (jc js) → TzTab w →
    Calls Tryd.prog 88 #[.agg (wlC (.slice A js.length c) (js.length : Int) (befN js.length (tabB js.length E))), .int .i64 (j : Int)] w fun e w' => e = .returned (.int .i64 (tailF js (tabB js.length E) js.length f j)) ∧ Below w.heap.size w w' := by
  intro f
  induction f with
  | zero => intro j w _ _ h; omega
  | succ f ih =>
    intro j w hf9 hj hcj hr hT
    have HIH := Lib.hid (fun i (hi : i < js.length) (ht : tabB js.length E j i = true) W => ih i W (by omega) hi (by have := cntS_lt hirr hi ht; omega))
    have HR := Lib.hid hr
    have HT := Lib.hid hT
    have HRES : Hid (tailF js (tabB js.length E) js.length (f + 1) j = js[j].t + mostL (fun i => tailF js (tabB js.length E) js.length f i) (memB (bitsN js.length (tabB js.length E j)))) := by
      show _ = _
      rw [memB_bits h8, mostL_filter, ← getD_at js j0 hj]
      rfl
    have HBT : Hid (bitsN js.length (bitT (befN js.length (tabB js.length E)) j) = bitsN js.length (tabB js.length E j)) := by
      show _ = _
      have : ∀ k, bitT (befN js.length (tabB js.length E)) j k = tabB js.length E j k := fun k => by unfold bitT; rw [bef_bit, decide_eq_true hj, Bool.true_and]
      congr 1
      funext k
      exact this k
    have HMEM : Hid (∀ x, (bitsN js.length (tabB js.length E j)).testBit x = true → x < js.length ∧ tabB js.length E j x = true) := fun x hx => by
      rw [bits_bit, Bool.and_eq_true, decide_eq_true_eq] at hx
      exact hx
    have hs : bitsN js.length (tabB js.length E j) < 256 := bits_lt h8 _
    have HGB : Hid (∀ x, x < js.length → 0 ≤ tailF js (tabB js.length E) js.length f x ∧ tailF js (tabB js.length E) js.length f x ≤ 50 * (f : Int)) := fun x hx => tailF_bd hok _ f x hx
    have HBE := Lib.hid (fun W => behind_any js.length h8 (befN js.length (tabB js.length E)) (fun k _ => bef_lt h8 _ k) j (by omega) W)
    rw [HBT.out] at HBE
    have hjt := okJ_out (hok _ (List.getElem_mem hj))
    clear ih hr hT hcj hirr HBT
    rw [HRES.out]
    clear HRES
    generalize befN js.length (tabB js.length E) = B at *
    generalize bitsN js.length (tabB js.length E j) = s at *
    generalize tailF js (tabB js.length E) js.length f = tf at *
    have hb1 := (Below.refl w.heap.size w).alloc (Nat.le_refl _) (.cells (wlC (.slice A js.length c) (js.length : Int) B) 86)
    have hB1 := BlockIs.new w 86 (wlC (.slice A js.length c) (js.length : Int) B)
    have hb2 := hb1.alloc hb1.size (.cells #[.int .i64 0] 3)
    have hB2 := hB1.below ((Below.refl _ _).alloc (Nat.le_refl _) (.cells #[.int .i64 0] 3))
    have hx2 := Boxed.new (w.alloc (.cells (wlC (.slice A js.length c) (js.length : Int) B) 86)) 3 (.int .i64 0)
    rw [World.size_alloc] at hx2
    have H2 := Lib.hid (And.intro hb2 (And.intro hB2 hx2))
    have c0 := hB2.cell 0
    have c1 := hB2.cell 1
    have c2 := hB2.cell 2
    have c3 := hB2.cell 3
    have c4 := hB2.cell 4
    have c5 := hB2.cell 5
    have c6 := hB2.cell 6
    have c7 := hB2.cell 7
    have c8 := hB2.cell 8
    have c9 := hB2.cell 9
    simp only [wlC, List.getElem?_toArray, List.getElem?_cons_zero, List.getElem?_cons_succ] at c0 c1 c2 c3 c4 c5 c6 c7 c8 c9
    clear hb1 hB1 hb2 hB2 hx2
    have ew : wlC (.slice A js.length c) (js.length : Int) B = #[.slice A js.length c, .int .i64 (js.length : Int), .int .u64 (B 0 : Int), .int .u64 (B 1 : Int), .int .u64 (B 2 : Int), .int .u64 (B 3 : Int), .int .u64 (B 4 : Int), .int .u64 (B 5 : Int), .int .u64 (B 6 : Int), .int .u64 (B 7 : Int)] := rfl
    rw [ew]
    refine (callsIn_wide (n := 6)).1 ?_
    refine callsIn_of_wp_marks Tryd.func88 rfl trivial ?_ rfl
    simp only [Tryd.ntmps88, List.size_toArray, List.length_cons, List.length_nil, Nat.reduceAdd, Nat.reduceSub, Array.replicate_succ, Array.replicate_zero, List.push_toArray, List.append_toArray, List.nil_append, List.cons_append]
    gi_wp2_with (first
      | (refine ⟨trivial, ?_⟩; gi_at_call 106; refine (callsIn_wide.2 (HBE.out _)).mono ?_; rintro e W1 ⟨rfl, hbW1⟩)
      | (refine ⟨trivial, ?_⟩; gi_at_call 78; refine (members_in 5 _ _).mono ?_; rintro e w' ⟨rfl, rfl⟩))
    clear c0 c1 c2 c3 c4 c5 c6 c7 c8 c9 HBE
    have H3 := Lib.hid (And.intro (H2.out.1.trans (hbW1.mono H2.out.1.size)) (And.intro (H2.out.2.1.below hbW1) ((show BlockIs _ (w.heap.size + 1) 3 #[.int .i64 0] from H2.out.2.2).below hbW1)))
    have hz1 : w.heap.size + 1 < W1.heap.size := by have := H3.out.2.2.lt; exact this
    clear H2 hbW1
    have b2 := Boxed.new W1 59 (.int .u64 (s : Int))
    have hbA : Below W1.heap.size W1 (W1.alloc (.cells #[.int .u64 (s : Int)] 59)) := (Below.refl _ _).alloc (Nat.le_refl _) _
    have H4 := Lib.hid (And.intro (H3.out.1.alloc H3.out.1.size (.cells #[.int .u64 (s : Int)] 59)) (And.intro (H3.out.2.1.below hbA) (And.intro (show Boxed _ (w.heap.size + 1) 3 (.int .i64 0) from H3.out.2.2.below hbA) b2)))
    have hz4 : (W1.alloc (.cells #[.int .u64 (s : Int)] 59)).heap.size = W1.heap.size + 1 := by simp
    clear H3 b2 hbA
    obtain ⟨gS, hgS⟩ : ∃ gS, gS = W1.heap.size := ⟨_, rfl⟩
    rw [← hgS] at H4 hz4 hz1 ⊢
    clear hgS
    generalize W1.alloc (.cells #[.int .u64 (s : Int)] 59) = w3 at *
    obtain ⟨hb3, hB3, hx3, b2⟩ := H4.out
    refine wpIn_rangeFunc_ownG (F := Fence.wide) rfl (by omega) (gf := 100) (lb := #[.pointer (some ⟨gS, 0, none⟩)]) rfl trivial (enters_of Tryd.func100 (by kernel_rfl) rfl)
      (members_stops 5 (by omega) gS s hs w3 (by omega) b2 (HT.out.below hb3))
      (fun h k t => k (h t)) (fun W l' o o' hl ho hc _ => KeepsTz.put ho hc) (Below.refl _ _) (fun _ => rfl)
      (fun (pre : List (Mb s)) W => (BlockIs W w.heap.size 86 (wlC (.slice A js.length c) (js.length : Int) B) ∧ Boxed W (w.heap.size + 1) 3 (.int .i64 (mostL tf (vals pre)))) ∧ Below w.heap.size w W)
      (fun _ _ _ => False)
      (OwnFrom.and (OwnFrom.and (Own.from (block_ownF _ _ _) _) (Own.from (boxed_own _ _ _) _)) (ownFrom_below (Nat.le_refl _) (by omega)))
      (fun _ _ _ _ _ h _ _ => h)
      ⟨⟨hB3, hx3⟩, hb3⟩
      (fun x => { tmps := #[.agg #[.slice A js.length c, .int .i64 (js.length : Int), .int .u64 (B 0 : Int), .int .u64 (B 1 : Int), .int .u64 (B 2 : Int), .int .u64 (B 3 : Int), .int .u64 (B 4 : Int), .int .u64 (B 5 : Int), .int .u64 (B 6 : Int), .int .u64 (B 7 : Int)], .int .i64 (j : Int), .pointer (some ⟨w.heap.size, 0, none⟩), undef, .int .i64 0, .pointer (some ⟨w.heap.size + 1, 0, none⟩), .int .i64 (x.1 : Int), .pointer (some ⟨w.heap.size, 1, none⟩), .agg #[.int .i64 (js.length : Int), .int .u64 (B 0 : Int), .int .u64 (B 1 : Int), .int .u64 (B 2 : Int), .int .u64 (B 3 : Int), .int .u64 (B 4 : Int), .int .u64 (B 5 : Int), .int .u64 (B 6 : Int), .int .u64 (B 7 : Int)], .int .i64 (j : Int), .int .u64 (s : Int), .func (.func 100) #[] #[.pointer (some ⟨gS, 0, none⟩)], .int .i64 (x.1 : Int), undef, undef, undef, undef, undef, undef, undef, undef, undef, undef, undef, undef, undef], defers := [] }) ?assign ?body ?done ?stop
    case assign =>
      intro l' x W K hK
      unfold encM
      gi_wp2
      exact hK
    case body =>
      rintro l' pre ⟨x, hx⟩ W ⟨⟨y0, y1⟩, hb⟩ hl
      obtain ⟨hxl, htx⟩ := HMEM.out x hx
      have hmo : Tryd.prog.follows .mixedOrders = true := by kernel_rfl
      have HSN : Hid (mostL tf (vals (pre ++ [(⟨x, hx⟩ : Mb s)])) = max (mostL tf (vals pre)) (tf x)) := by show _ = _; rw [vals_snoc, mostL_snoc]
      have hgx := HGB.out x hxl
      have hx0 : (0 : Int) ≤ x := by omega
      have HCX := Lib.hid (HIH.out x hxl htx)
      have hrW := HR.out
      generalize mostL tf (vals pre) = sm at *
      generalize tf x = tx at *
      dsimp only
      gi_wp2
      have hKO : KeepsOthers W W.drew := KeepsOthers.drew W
      have hmx : (if sm < tx then tx else sm) = max sm tx := by split <;> omega
      have kb : ∀ {X Y : World}, (KeepsOthers W X ∧ Below w.heap.size w X ∧ BlockIs X w.heap.size 86 (wlC (.slice A js.length c) (js.length : Int) B)) → Below X.heap.size X Y → (KeepsOthers W Y ∧ Below w.heap.size w Y ∧ BlockIs Y w.heap.size 86 (wlC (.slice A js.length c) (js.length : Int) B)) := fun h hb => ⟨h.1.trans (keepsO_below hb), h.2.1.trans (hb.mono h.2.1.size), h.2.2.below hb⟩
      have ob : ∀ {X Y : World}, (BlockIs X (w.heap.size + 1) 3 #[.int .i64 sm]) → Below X.heap.size X Y → (BlockIs Y (w.heap.size + 1) 3 #[.int .i64 sm]) := fun h hb => h.below hb
      have nb : ∀ {X Y : World}, (BlockIs X (w.heap.size + 1) 3 #[.int .i64 (max sm tx)]) → Below X.heap.size X Y → (BlockIs Y (w.heap.size + 1) 3 #[.int .i64 (max sm tx)]) := fun h hb => h.below hb
      refine wpIn_region_detZ (fun _ => trivial) rfl (fun _ _ _ _ h => (callsIn_wide.2 h).inRound l') (by kernel_rfl) hmo (fun L w' => (KeepsOthers W w' ∧ Below w.heap.size w w' ∧ BlockIs w' w.heap.size 86 (wlC (.slice A js.length c) (js.length : Int) B)) ∧ (L.getD 5 true = false → BlockIs w' (w.heap.size + 1) 3 #[.int .i64 sm]) ∧ (L.getD 5 true = true → BlockIs w' (w.heap.size + 1) 3 #[.int .i64 (max sm tx)])) (fun kk => (#[.int .i64 sm, .agg #[.slice A js.length c, .int .i64 (js.length : Int), .int .u64 (B 0 : Int), .int .u64 (B 1 : Int), .int .u64 (B 2 : Int), .int .u64 (B 3 : Int), .int .u64 (B 4 : Int), .int .u64 (B 5 : Int), .int .u64 (B 6 : Int), .int .u64 (B 7 : Int)], .int .i64 (x : Int), .int .i64 tx, .int .i64 (max sm tx), undef] : Array Value).getD kk undef) (by kernel_rfl) (by kernel_rfl) ⟨⟨hKO, hb.drew, y0⟩, fun _ => y1, fun h => by cases h⟩ ?_ ?_
      · intro L tm w' hall hS hsz hlow hval
        have ht : tm = #[.agg #[.slice A js.length c, .int .i64 (js.length : Int), .int .u64 (B 0 : Int), .int .u64 (B 1 : Int), .int .u64 (B 2 : Int), .int .u64 (B 3 : Int), .int .u64 (B 4 : Int), .int .u64 (B 5 : Int), .int .u64 (B 6 : Int), .int .u64 (B 7 : Int)], .int .i64 (j : Int), .pointer (some ⟨w.heap.size, 0, none⟩), undef, .int .i64 0, .pointer (some ⟨w.heap.size + 1, 0, none⟩), .int .i64 (x : Int), .pointer (some ⟨w.heap.size, 1, none⟩), .agg #[.int .i64 (js.length : Int), .int .u64 (B 0 : Int), .int .u64 (B 1 : Int), .int .u64 (B 2 : Int), .int .u64 (B 3 : Int), .int .u64 (B 4 : Int), .int .u64 (B 5 : Int), .int .u64 (B 6 : Int), .int .u64 (B 7 : Int)], .int .i64 (j : Int), .int .u64 (s : Int), .func (.func 100) #[] #[.pointer (some ⟨gS, 0, none⟩)], .int .i64 (x : Int), .int .i64 sm, .agg #[.slice A js.length c, .int .i64 (js.length : Int), .int .u64 (B 0 : Int), .int .u64 (B 1 : Int), .int .u64 (B 2 : Int), .int .u64 (B 3 : Int), .int .u64 (B 4 : Int), .int .u64 (B 5 : Int), .int .u64 (B 6 : Int), .int .u64 (B 7 : Int)], .int .i64 (x : Int), .int .i64 tx, .int .i64 (max sm tx), undef, undef, undef, undef, undef, undef, undef, undef] := by
          refine arr_of _ _ hsz fun t ht => ?_
          have ht' : t < 26 := ht
          rcases (by omega : t = 0 ∨ t = 1 ∨ t = 2 ∨ t = 3 ∨ t = 4 ∨ t = 5 ∨ t = 6 ∨ t = 7 ∨ t = 8 ∨ t = 9 ∨ t = 10 ∨ t = 11 ∨ t = 12 ∨ t = 13 ∨ t = 14 ∨ t = 15 ∨ t = 16 ∨ t = 17 ∨ t = 18 ∨ t = 19 ∨ t = 20 ∨ t = 21 ∨ t = 22 ∨ t = 23 ∨ t = 24 ∨ t = 25) with rfl | rfl | rfl | rfl | rfl | rfl | rfl | rfl | rfl | rfl | rfl | rfl | rfl | rfl | rfl | rfl | rfl | rfl | rfl | rfl | rfl | rfl | rfl | rfl | rfl | rfl
          · exact hlow 0 (by kernel_rfl)
          · exact hlow 1 (by kernel_rfl)
          · exact hlow 2 (by kernel_rfl)
          · exact hlow 3 (by kernel_rfl)
          · exact hlow 4 (by kernel_rfl)
          · exact hlow 5 (by kernel_rfl)
          · exact hlow 6 (by kernel_rfl)
          · exact hlow 7 (by kernel_rfl)
          · exact hlow 8 (by kernel_rfl)
          · exact hlow 9 (by kernel_rfl)
          · exact hlow 10 (by kernel_rfl)
          · exact hlow 11 (by kernel_rfl)
          · exact hlow 12 (by kernel_rfl)
          · exact hval 0 _ 13 rfl rfl
          · exact hval 1 _ 14 rfl rfl
          · exact hval 2 _ 15 rfl rfl
          · exact hval 3 _ 16 rfl rfl
          · exact hval 4 _ 17 rfl rfl
          · exact hlow 18 (by kernel_rfl)
          · exact hlow 19 (by kernel_rfl)
          · exact hlow 20 (by kernel_rfl)
          · exact hlow 21 (by kernel_rfl)
          · exact hlow 22 (by kernel_rfl)
          · exact hlow 23 (by kernel_rfl)
          · exact hlow 24 (by kernel_rfl)
          · exact hlow 25 (by kernel_rfl)
        subst ht
        have HF := Lib.hid (And.intro hS.1 (hS.2.2 (hall 5 (by decide))))
        clear hlow hval hsz hall hS
        gi_wp2
        exact ⟨HF.out.1.1.from _, fun _ => HT.out.below HF.out.1.2.1, ⟨HF.out.1.2.2, by rw [HSN.out]; exact HF.out.2⟩, HF.out.1.2.1⟩
      · intro L ac w' q op hLs hop hLi hLd hLn ⟨hS0, hS1, hS2⟩ hlow hdep _
        have hq : q < 6 := (Array.getElem?_eq_some_iff.1 hop).1
        have K : ∀ {WK : World} {q : Nat}, q ≠ 5 → (KeepsOthers W WK ∧ Below w.heap.size w WK ∧ BlockIs WK w.heap.size 86 (wlC (.slice A js.length c) (js.length : Int) B)) → (L.getD 5 true = false → BlockIs WK (w.heap.size + 1) 3 #[.int .i64 sm]) → (L.getD 5 true = true → BlockIs WK (w.heap.size + 1) 3 #[.int .i64 (max sm tx)]) → (KeepsOthers W WK ∧ Below w.heap.size w WK ∧ BlockIs WK w.heap.size 86 (wlC (.slice A js.length c) (js.length : Int) B)) ∧ ((L.setIfInBounds q true).getD 5 true = false → BlockIs WK (w.heap.size + 1) 3 #[.int .i64 sm]) ∧ ((L.setIfInBounds q true).getD 5 true = true → BlockIs WK (w.heap.size + 1) 3 #[.int .i64 (max sm tx)]) := by
          intro WK q h9 ka kb2 kc
          rw [getD_set_true, if_neg (fun h => h9 h.1)]
          exact ⟨ka, kb2, kc⟩
        rcases (by omega : q = 0 ∨ q = 1 ∨ q = 2 ∨ q = 3 ∨ q = 4 ∨ q = 5) with rfl | rfl | rfl | rfl | rfl | rfl
        · obtain rfl := Option.some.inj hop
          have e5 : ac.tmps[5]?.getD undef = .pointer (some ⟨w.heap.size + 1, 0, none⟩) := (Array.getD_eq_getD_getElem? ..).symm.trans (hlow 5 (by kernel_rfl))
          have hc := (hS1 (hLn 5 (by kernel_rfl))).cell 0
          simp only [List.getElem?_toArray, List.getElem?_cons_zero] at hc
          exact ⟨wanted_free rfl, .inl (.inl ⟨w', by simp [execOp, Act.eval, e5, hc, go_sem], K (by decide) hS0 hS1 hS2⟩)⟩
        · obtain rfl := Option.some.inj hop
          have e2 : ac.tmps[2]?.getD undef = .pointer (some ⟨w.heap.size, 0, none⟩) := (Array.getD_eq_getD_getElem? ..).symm.trans (hlow 2 (by kernel_rfl))
          exact ⟨wanted_free rfl, .inl (.inl ⟨w', exec_load10 (x := .tmp 2) rfl (hlow 2 (by kernel_rfl)) hS0.2.2 rfl, K (by decide) hS0 hS1 hS2⟩)⟩
        · obtain rfl := Option.some.inj hop
          have e6 : ac.tmps[6]?.getD undef = .int .i64 (x : Int) := (Array.getD_eq_getD_getElem? ..).symm.trans (hlow 6 (by kernel_rfl))
          exact ⟨wanted_free rfl, .inl (.inl ⟨w', by simp [execOp, Act.eval, e6, go_sem], K (by decide) hS0 hS1 hS2⟩)⟩
        · obtain rfl := Option.some.inj hop
          have e14 : ac.tmps[14]?.getD undef = .agg #[.slice A js.length c, .int .i64 (js.length : Int), .int .u64 (B 0 : Int), .int .u64 (B 1 : Int), .int .u64 (B 2 : Int), .int .u64 (B 3 : Int), .int .u64 (B 4 : Int), .int .u64 (B 5 : Int), .int .u64 (B 6 : Int), .int .u64 (B 7 : Int)] := (Array.getD_eq_getD_getElem? ..).symm.trans (hdep 1 _ 14 (by kernel_rfl) rfl rfl)
          have e15 : ac.tmps[15]?.getD undef = .int .i64 (x : Int) := (Array.getD_eq_getD_getElem? ..).symm.trans (hdep 2 _ 15 (by kernel_rfl) rfl rfl)
          refine ⟨wanted_free rfl, .inl (.inr ⟨88, #[.agg #[.slice A js.length c, .int .i64 (js.length : Int), .int .u64 (B 0 : Int), .int .u64 (B 1 : Int), .int .u64 (B 2 : Int), .int .u64 (B 3 : Int), .int .u64 (B 4 : Int), .int .u64 (B 5 : Int), .int .u64 (B 6 : Int), .int .u64 (B 7 : Int)], .int .i64 (x : Int)], by simp [execOp, Act.eval, e14, e15, go_sem], (HCX.out w' (HR.out.below hS0.2.1) (HT.out.below hS0.2.1)).mono ?_⟩)⟩
          rintro e w2 ⟨rfl, hb⟩
          exact ⟨rfl, K (by decide) (kb hS0 hb) (fun h => ob (hS1 h) hb) (fun h => nb (hS2 h) hb)⟩
        · obtain rfl := Option.some.inj hop
          have e13 : ac.tmps[13]?.getD undef = .int .i64 sm := (Array.getD_eq_getD_getElem? ..).symm.trans (hdep 0 _ 13 (by kernel_rfl) rfl rfl)
          have e16 : ac.tmps[16]?.getD undef = .int .i64 tx := (Array.getD_eq_getD_getElem? ..).symm.trans (hdep 3 _ 16 (by kernel_rfl) rfl rfl)
          exact ⟨wanted_free rfl, .inl (.inl ⟨w', by simp [execOp, Act.eval, e13, e16, hmx, go_sem], K (by decide) hS0 hS1 hS2⟩)⟩
        · obtain rfl := Option.some.inj hop
          have e5 : ac.tmps[5]?.getD undef = .pointer (some ⟨w.heap.size + 1, 0, none⟩) := (Array.getD_eq_getD_getElem? ..).symm.trans (hlow 5 (by kernel_rfl))
          have e17 : ac.tmps[17]?.getD undef = .int .i64 (max sm tx) := (Array.getD_eq_getD_getElem? ..).symm.trans (hdep 4 _ 17 (by kernel_rfl) rfl rfl)
          have hO := hS1 hLi
          have hc := hO.cell 0
          simp only [List.getElem?_toArray, List.getElem?_cons_zero] at hc
          have fz := hO.frozen 0
          refine ⟨wanted_free rfl, .inr ⟨w'.setCell ⟨w.heap.size + 1, 0, none⟩ (.int .i64 (max sm tx)), rfl, by simp [execOp, Act.eval, e5, e17, hc, fz, go_sem], ?_⟩⟩
          refine ⟨⟨hS0.1.trans (KeepsOthers.setCell _ _ _), hS0.2.1.setCell (p := ⟨w.heap.size + 1, 0, none⟩) (by show _ ≤ w.heap.size + 1; omega) _, hS0.2.2.away (g' := w.heap.size + 1) (by omega) _ _⟩, fun h => ?_, fun _ => hO.set 0 _⟩
          rw [getD_set_true, if_pos ⟨rfl, by rw [hLs]; decide⟩] at h
          cases h
    case done =>
      rintro D ys W hD hys ⟨⟨y0, y1⟩, hb⟩ hK
      have hmo : Tryd.prog.follows .mixedOrders = true := by kernel_rfl
      rw [hys] at y1
      have hml := mostL_bd (g := tf) (m := 50 * (f : Int)) (by omega) (memB s) (fun i hi => (HGB.out i (HMEM.out i ((memB_mem hs).1 hi)).1).2)
      obtain ⟨ad, rfl, _, hc0, hc1, hc2, hc3⟩ := HR.out.job hj
      have HJ := Lib.hid (fun W' (h : Below w.heap.size w W') => (HR.out.below h).job hj)
      have hj1 : (j : Int) < js.length := by omega
      have hj0 : (0 : Int) ≤ j := by omega
      obtain ⟨mm, hmm⟩ : ∃ mm, mostL tf (memB s) = mm := ⟨_, rfl⟩
      rw [hmm] at y1 hml
      have HMM := Lib.hid hmm
      clear hmm
      have hwr := IntWalk.i64_in (js[j].t + mm) (by omega)
      clear hc0 hc1 hc2 hc3
      have HJT : Hid (∀ W', Below w.heap.size w W' → W'.cell? (ad.add (j * 4)) = some (.int .i64 js[j].t)) := fun W' h => by
        obtain ⟨ad', e, _, hc, _⟩ := HJ.out W' h
        obtain rfl := Option.some.inj e
        exact hc
      clear HJ
      obtain ⟨tj, htj⟩ : ∃ tj, js[j].t = tj := ⟨_, rfl⟩
      rw [htj] at HJT hwr
      have HTJ := Lib.hid htj
      clear htj hjt
      gi_wp2
      refine wpIn_region_detZ (fun _ => trivial) rfl (fun _ _ _ _ h => callsIn_wide.2 h) (by kernel_rfl) hmo (fun L w' => w' = W.drew) (fun kk => (#[.pointer (some ⟨w.heap.size, 0, none⟩), .slice (some ad) js.length c, .int .i64 (j : Int), .pointer (some (ad.add (j * 4))), .pointer (some (ad.add (j * 4))), .int .i64 tj, .int .i64 mm, .int .i64 (tj + mm), .int .i64 (tj + mm)] : Array Value).getD kk undef) (by kernel_rfl) (by kernel_rfl) rfl ?_ ?_
      · intro L tm w' hall hS hsz hlow hval
        have ht : tm = #[.agg #[.slice (some ad) js.length c, .int .i64 (js.length : Int), .int .u64 (B 0 : Int), .int .u64 (B 1 : Int), .int .u64 (B 2 : Int), .int .u64 (B 3 : Int), .int .u64 (B 4 : Int), .int .u64 (B 5 : Int), .int .u64 (B 6 : Int), .int .u64 (B 7 : Int)], .int .i64 (j : Int), .pointer (some ⟨w.heap.size, 0, none⟩), undef, .int .i64 (tj + mm), .pointer (some ⟨w.heap.size + 1, 0, none⟩), undef, .pointer (some ⟨w.heap.size, 1, none⟩), .agg #[.int .i64 (js.length : Int), .int .u64 (B 0 : Int), .int .u64 (B 1 : Int), .int .u64 (B 2 : Int), .int .u64 (B 3 : Int), .int .u64 (B 4 : Int), .int .u64 (B 5 : Int), .int .u64 (B 6 : Int), .int .u64 (B 7 : Int)], .int .i64 (j : Int), .int .u64 (s : Int), .func (.func 100) #[] #[.pointer (some ⟨gS, 0, none⟩)], undef, undef, undef, undef, undef, undef, .pointer (some ⟨w.heap.size, 0, none⟩), .slice (some ad) js.length c, .int .i64 (j : Int), .pointer (some (ad.add (j * 4))), .pointer (some (ad.add (j * 4))), .int .i64 tj, .int .i64 mm, .int .i64 (tj + mm)] := by
          refine arr_of _ _ hsz fun t ht => ?_
          have ht' : t < 26 := ht
          rcases (by omega : t = 0 ∨ t = 1 ∨ t = 2 ∨ t = 3 ∨ t = 4 ∨ t = 5 ∨ t = 6 ∨ t = 7 ∨ t = 8 ∨ t = 9 ∨ t = 10 ∨ t = 11 ∨ t = 12 ∨ t = 13 ∨ t = 14 ∨ t = 15 ∨ t = 16 ∨ t = 17 ∨ t = 18 ∨ t = 19 ∨ t = 20 ∨ t = 21 ∨ t = 22 ∨ t = 23 ∨ t = 24 ∨ t = 25) with rfl | rfl | rfl | rfl | rfl | rfl | rfl | rfl | rfl | rfl | rfl | rfl | rfl | rfl | rfl | rfl | rfl | rfl | rfl | rfl | rfl | rfl | rfl | rfl | rfl | rfl
          · exact hlow 0 (by kernel_rfl)
          · exact hlow 1 (by kernel_rfl)
          · exact hlow 2 (by kernel_rfl)
          · exact hlow 3 (by kernel_rfl)
          · exact hval 8 _ 4 rfl rfl
          · exact hlow 5 (by kernel_rfl)
          · exact hlow 6 (by kernel_rfl)
          · exact hlow 7 (by kernel_rfl)
          · exact hlow 8 (by kernel_rfl)
          · exact hlow 9 (by kernel_rfl)
          · exact hlow 10 (by kernel_rfl)
          · exact hlow 11 (by kernel_rfl)
          · exact hlow 12 (by kernel_rfl)
          · exact hlow 13 (by kernel_rfl)
          · exact hlow 14 (by kernel_rfl)
          · exact hlow 15 (by kernel_rfl)
          · exact hlow 16 (by kernel_rfl)
          · exact hlow 17 (by kernel_rfl)
          · exact hval 0 _ 18 rfl rfl
          · exact hval 1 _ 19 rfl rfl
          · exact hval 2 _ 20 rfl rfl
          · exact hval 3 _ 21 rfl rfl
          · exact hval 4 _ 22 rfl rfl
          · exact hval 5 _ 23 rfl rfl
          · exact hval 6 _ 24 rfl rfl
          · exact hval 7 _ 25 rfl rfl
        subst ht
        have HF := Lib.hid hS
        clear hlow hval hsz hall hS
        obtain rfl : w' = W.drew := HF.out
        gi_wp2
        refine ⟨by simp, .inl ⟨_, _, rfl, run_takeDeferred hK, ?_⟩⟩
        exact ⟨_, results_tmp rfl _ _ _, by rw [HTJ.out, show mostL (fun i => tf i) (memB s) = mm from HMM.out]; rfl, hb.drew.trans (belowK_b (w := w3) (by omega) W.drew D _ _ (by omega) hK rfl rfl)⟩
      · intro L ac w' q op hLs hop hLi hLd hLn hS0 hlow hdep _
        have hq : q < 9 := (Array.getElem?_eq_some_iff.1 hop).1
        rcases (by omega : q = 0 ∨ q = 1 ∨ q = 2 ∨ q = 3 ∨ q = 4 ∨ q = 5 ∨ q = 6 ∨ q = 7 ∨ q = 8) with rfl | rfl | rfl | rfl | rfl | rfl | rfl | rfl | rfl
        · obtain rfl := Option.some.inj hop
          have e2 : ac.tmps[2]?.getD undef = .pointer (some ⟨w.heap.size, 0, none⟩) := (Array.getD_eq_getD_getElem? ..).symm.trans (hlow 2 (by kernel_rfl))
          exact ⟨wanted_free rfl, .inl (.inl ⟨w', by simp [execOp, Act.eval, e2, go_sem], hS0⟩)⟩
        · obtain rfl := Option.some.inj hop
          have e18 : ac.tmps[18]?.getD undef = .pointer (some ⟨w.heap.size, 0, none⟩) := (Array.getD_eq_getD_getElem? ..).symm.trans (hdep 0 _ 18 (by kernel_rfl) rfl rfl)
          have hc : w'.cell? ⟨w.heap.size, 0, none⟩ = some (.slice (some ad) js.length c) := by rw [hS0]; exact y0.cell 0
          exact ⟨wanted_free rfl, .inl (.inl ⟨w', by simp [execOp, Act.eval, e18, hc, go_sem], hS0⟩)⟩
        · obtain rfl := Option.some.inj hop
          have e1 : ac.tmps[1]?.getD undef = .int .i64 (j : Int) := (Array.getD_eq_getD_getElem? ..).symm.trans (hlow 1 (by kernel_rfl))
          exact ⟨wanted_free rfl, .inl (.inl ⟨w', by simp [execOp, Act.eval, e1, go_sem], hS0⟩)⟩
        · obtain rfl := Option.some.inj hop
          have e19 : ac.tmps[19]?.getD undef = .slice (some ad) js.length c := (Array.getD_eq_getD_getElem? ..).symm.trans (hdep 1 _ 19 (by kernel_rfl) rfl rfl)
          have e20 : ac.tmps[20]?.getD undef = .int .i64 (j : Int) := (Array.getD_eq_getD_getElem? ..).symm.trans (hdep 2 _ 20 (by kernel_rfl) rfl rfl)
          exact ⟨wanted_free rfl, .inl (.inl ⟨w', by simp [execOp, Act.eval, e19, e20, hj0, hj1, go_sem], hS0⟩)⟩
        · obtain rfl := Option.some.inj hop
          have e21 : ac.tmps[21]?.getD undef = .pointer (some (ad.add (j * 4))) := (Array.getD_eq_getD_getElem? ..).symm.trans (hdep 3 _ 21 (by kernel_rfl) rfl rfl)
          exact ⟨wanted_free rfl, .inl (.inl ⟨w', by simp [execOp, Act.eval, e21, go_sem], hS0⟩)⟩
        · obtain rfl := Option.some.inj hop
          have e22 : ac.tmps[22]?.getD undef = .pointer (some (ad.add (j * 4))) := (Array.getD_eq_getD_getElem? ..).symm.trans (hdep 4 _ 22 (by kernel_rfl) rfl rfl)
          have hc : w'.cell? (ad.add (j * 4)) = some (.int .i64 tj) := by rw [hS0]; exact HJT.out W.drew hb.drew
          exact ⟨wanted_free rfl, .inl (.inl ⟨w', by simp [execOp, Act.eval, e22, hc, go_sem], hS0⟩)⟩
        · obtain rfl := Option.some.inj hop
          have e5 : ac.tmps[5]?.getD undef = .pointer (some ⟨w.heap.size + 1, 0, none⟩) := (Array.getD_eq_getD_getElem? ..).symm.trans (hlow 5 (by kernel_rfl))
          have hc : w'.cell? ⟨w.heap.size + 1, 0, none⟩ = some (.int .i64 mm) := by rw [hS0]; exact y1.cell
          exact ⟨wanted_free rfl, .inl (.inl ⟨w', by simp [execOp, Act.eval, e5, hc, go_sem], hS0⟩)⟩
        · obtain rfl := Option.some.inj hop
          have e23 : ac.tmps[23]?.getD undef = .int .i64 tj := (Array.getD_eq_getD_getElem? ..).symm.trans (hdep 5 _ 23 (by kernel_rfl) rfl rfl)
          have e24 : ac.tmps[24]?.getD undef = .int .i64 mm := (Array.getD_eq_getD_getElem? ..).symm.trans (hdep 6 _ 24 (by kernel_rfl) rfl rfl)
          exact ⟨wanted_free rfl, .inl (.inl ⟨w', by simp [execOp, Act.eval, e23, e24, hwr, go_sem], hS0⟩)⟩
        · obtain rfl := Option.some.inj hop
          have e25 : ac.tmps[25]?.getD undef = .int .i64 (tj + mm) := (Array.getD_eq_getD_getElem? ..).symm.trans (hdep 7 _ 25 (by kernel_rfl) rfl rfl)
          exact ⟨wanted_free rfl, .inl (.inl ⟨w', by simp [execOp, Act.eval, e25, go_sem], hS0⟩)⟩
    case stop =>
      rintro D cd pre W _ _ h _
      exact h.elim
end
end Go.Proofs.YtapbgmmkkngdoaaDoor

namespace Go.Proofs.YtapbgmmkkngdoaaDoor
open Go.RowKit
theorem BlockIs.cast {w : World} {g : Nat} {t : TypeId} {cs ds : Array Value} (h : BlockIs w g t cs) (e : cs = ds) : BlockIs w g t ds := by subst e; exact h
theorem tailsL_at (js : List J) (E : List Ed) {k : Nat} (hk : k < js.length) : (tailsL js E)[k]'(by rw [tailsL_len]; exact hk) = tailF js (tabB js.length E) js.length 9 k := by unfold tailsL; simp
set_option maxRecDepth 100000 in
set_option maxHeartbeats 2000000 in
theorem tails_any (A : Option Addr) (c : Nat) (js : List J) (E : List Pr) (w : World) (hr : Row w A (jc js)) (hok : ∀ j ∈ js, okJ j = true) (h8 : js.length ≤ 8) (hirr : irrB js.length E js.length = true) (hT : TzTab w) :
    Calls Tryd.prog 62 #[.agg (wlC (.slice A js.length c) (js.length : Int) (befN js.length (tabB js.length E)))] w fun e w' => ∃ g, e = .returned (.slice (some ⟨g, 0, none⟩) js.length js.length) ∧ w.heap.size ≤ g ∧ BlockIs w' g 3 (ic (tailsL js E)).toArray ∧ Below w.heap.size w w' := by
  have hmk := run_make_row' (P := Tryd.prog) 29 3 (.int .i64 0) 8 Tryd.underlying29 infoI rfl .i64 .i64 js.length (by omega) (by omega)
  have HTL := Lib.hid (fun W k (hb : Below w.heap.size w W) (hk : k < js.length) => tail_any (c := c) hok h8 hirr 9 k W (by omega) hk (by have := cntS_le js.length (tabB js.length E) k; omega) (hr.below hb) (hT.below hb))
  obtain ⟨B, hB⟩ : ∃ B, befN js.length (tabB js.length E) = B := ⟨_, rfl⟩
  rw [hB] at HTL ⊢
  clear hB
  have hb1 := (Below.refl w.heap.size w).alloc (Nat.le_refl _) (.cells (wlC (.slice A js.length c) (js.length : Int) B) 86)
  have hB1 := BlockIs.new w 86 (wlC (.slice A js.length c) (js.length : Int) B)
  have c0 := hB1.cell 0
  have c1 := hB1.cell 1
  have c2 := hB1.cell 2
  have c3 := hB1.cell 3
  have c4 := hB1.cell 4
  have c5 := hB1.cell 5
  have c6 := hB1.cell 6
  have c7 := hB1.cell 7
  have c8 := hB1.cell 8
  have c9 := hB1.cell 9
  simp only [wlC, List.getElem?_toArray, List.getElem?_cons_zero, List.getElem?_cons_succ] at c0 c1 c2 c3 c4 c5 c6 c7 c8 c9
  have hb2 := hb1.alloc hb1.size (.cells (madeCells #[.int .i64 0] js.length) 3)
  have hB2 := hB1.below ((Below.refl _ _).alloc (Nat.le_refl _) (.cells (madeCells #[.int .i64 0] js.length) 3))
  have hG2 := BlockIs.new (w.alloc (.cells (wlC (.slice A js.length c) (js.length : Int) B) 86)) 3 (madeCells #[.int .i64 0] js.length)
  rw [World.size_alloc] at hG2
  have hG3 := hG2.cast (ic_made js.length)
  have H0 := Lib.hid (And.intro hb2 (And.intro hB2 hG3))
  have hTL : (tailsL js E).length = js.length := tailsL_len js E
  have HAT : Hid (∀ k (hk : k < js.length), (tailsL js E)[k]'(by rw [tailsL_len]; exact hk) = tailF js (tabB js.length E) js.length 9 k) := fun k hk => tailsL_at js E hk
  have HLEN := Lib.hid hTL
  clear hb1 hB1 hb2 hB2 hG2 hG3 hr hT hTL
  unfold wlC
  go_enter Tryd.func62, Tryd.ntmps62
  go_wp2
  clear hmk c0 c1 c2 c3 c4 c5 c6 c7 c8 c9
  go_loopw [11] (fun i wr => ∃ k : Nat, k ≤ js.length ∧ i = .int .i64 (k : Int) ∧ Hid (Below w.heap.size w wr ∧ BlockIs wr w.heap.size 86 (wlC (.slice A js.length c) (js.length : Int) B) ∧ BlockIs wr (w.heap.size + 1) 3 (ic ((tailsL js E).take k ++ (List.replicate js.length 0).drop k)).toArray)) (fun i _ => js.length - (intOf i).toNat)
  case atStart => exact ⟨0, Nat.zero_le _, rfl, by rw [List.take_zero, List.nil_append, List.drop_zero]; exact H0.out⟩
  case round =>
    obtain ⟨k, hk, rfl, HW⟩ := hrel
    clear H0
    by_cases hlt : k < js.length
    · have hBk := HW.out.2.1
      have c0 := hBk.cell 0
      have c1 := hBk.cell 1
      have c2 := hBk.cell 2
      have c3 := hBk.cell 3
      have c4 := hBk.cell 4
      have c5 := hBk.cell 5
      have c6 := hBk.cell 6
      have c7 := hBk.cell 7
      have c8 := hBk.cell 8
      have c9 := hBk.cell 9
      simp only [wlC, List.getElem?_toArray, List.getElem?_cons_zero, List.getElem?_cons_succ] at c0 c1 c2 c3 c4 c5 c6 c7 c8 c9
      have HC := Lib.hid (HTL.out wr k HW.out.1 hlt)
      have hk0 : (0 : Int) ≤ k := by omega
      have hk1 : (k : Int) < js.length := by omega
      have hrl : (List.replicate js.length (0 : Int)).length = js.length := by simp
      have HTK := Lib.hid (HAT.out k hlt)
      have HL := HLEN.out
      clear hBk
      obtain ⟨tk, htk⟩ : ∃ tk, tailF js (tabB js.length E) js.length 9 k = tk := ⟨_, rfl⟩
      rw [htk] at HC HTK
      clear htk
      unfold wlC at HC
      have HL2 := Lib.hid HL
      have HRL := Lib.hid hrl
      clear HL hrl
      go_wp2_with fail
      refine HC.out.mono ?_
      rintro e w5 ⟨rfl, hb5⟩
      have hG5 := HW.out.2.2.below hb5
      have hck := hG5.int (k := k) (by rw [mix_len _ _ _ (by have := HL2.out; have := HRL.out; omega) (by have := HL2.out; omega)]; have := HRL.out; omega)
      have hfz := hG5.frozen k
      have HG := Lib.hid (hG5.set k (.int .i64 tk))
      rw [ic_set, mix_step _ _ k tk (by have := HL2.out; have := HRL.out; omega) (by have := HL2.out; omega) HTK.out] at HG
      have HF := Lib.hid (And.intro ((HW.out.1.trans (hb5.mono HW.out.1.size)).setCell (p := ⟨w.heap.size + 1, k, none⟩) (by show _ ≤ w.heap.size + 1; omega) (.int .i64 tk)) ((HW.out.2.1.below hb5).away (g' := w.heap.size + 1) (by omega) k (.int .i64 tk)))
      clear hG5 hb5 HC HW c0 c1 c2 c3 c4 c5 c6 c7 c8 c9
      generalize ((tailsL js E).take k ++ (List.replicate js.length (0 : Int)).drop k)[k]'_ = old at *
      go_wp2
      go_roundw
      case rel => exact ⟨k + 1, by omega, by go_num, HF.out.1, HF.out.2, HG.out⟩
      case measure => simp [intOf]; omega
    · obtain rfl : k = js.length := by omega
      have hG := HW.out.2.2
      rw [List.take_of_length_le (by have := HLEN.out; omega), List.drop_eq_nil_of_le (by simp), List.append_nil] at hG
      have HG := Lib.hid hG
      clear hG
      go_wp2
      go_ret
      exact ⟨w.heap.size + 1, rfl, by omega, HG.out, HW.out.1⟩
theorem wl_good {js : List J} {E : List Pr} (m : Int) (hm : inB m 1 4 = true) : goodB js m E = wlB js E := by
  unfold goodB wlB plainL
  rw [hm, Bool.true_and, Bool.and_assoc]
theorem wl_parts {js : List J} {E : List Pr} (h : wlB js E = true) : (∀ j ∈ js, okJ j = true) ∧ js.length ≤ 8 ∧ irrB js.length E js.length = true := by
  rw [← wl_good 1 rfl] at h
  obtain ⟨a, b, c, _⟩ := good_parts h
  exact ⟨a, b, c⟩
set_option maxRecDepth 100000 in
set_option maxHeartbeats 2000000 in
/-- The tails of no jobs. -/
theorem tailsZ_any (w : World) : Calls Tryd.prog 62 #[.agg wlZ] w fun e w' => ∃ g, e = .returned (.slice (some ⟨g, 0, none⟩) 0 0) ∧ w.heap.size ≤ g ∧ BlockIs w' g 3 (ic []).toArray ∧ Below w.heap.size w w' := by
  have hmk : ∀ w : World, (Instr.makeSlice 29 (.int .i64 0) (.int .i64 0)).run Tryd.prog w = .ok (.slice (some ⟨w.heap.size, 0, none⟩) 0 0) (w.alloc (.cells (madeCells #[.int .i64 0] 0) 3)) := fun w => run_make_row' (P := Tryd.prog) 29 3 (.int .i64 0) 8 Tryd.underlying29 infoI rfl .i64 .i64 0 (by omega) (by omega) w
  have hb1 := (Below.refl w.heap.size w).alloc (Nat.le_refl _) (.cells wlZ 86)
  have hb2 := hb1.alloc hb1.size (.cells (madeCells #[.int .i64 0] 0) 3)
  have hG2 := BlockIs.new (w.alloc (.cells wlZ 86)) 3 (madeCells #[.int .i64 0] 0)
  rw [World.size_alloc] at hG2
  have hG3 := hG2.cast (ic_made 0)
  have H0 := Lib.hid (And.intro hb2 hG3)
  clear hb1 hb2 hG2 hG3
  unfold wlZ
  unfold wlZ at H0
  go_enter Tryd.func62, Tryd.ntmps62
  go_wp2
  refine wp_loop_rounds 1 ?_
  rw [rounds_succ]
  go_wp2
  go_ret
  exact ⟨w.heap.size + 1, rfl, by omega, H0.out.2, H0.out.1⟩
set_option maxRecDepth 100000 in
set_option maxHeartbeats 1000000 in
theorem impl_TailsOf (A C : Option Addr) (c d : Nat) (js : List J) (E : List Pr) (w : World) (hr : Row w A (jc js)) (hq : Row w C (pc E)) (hn : js.length ≤ 10000000) (hl : E.length ≤ 10000000) (hT : TzTab w) :
    Calls Tryd.prog 29 #[.slice A js.length c, .slice C E.length d] w (RetIB w (tailsR js E)) := by
  have HRR : Hid (tailsR js E = if goodB js 1 E then (tailsL js E, true) else ([], false)) := rfl
  rw [wl_good 1 rfl] at HRR
  have H := Lib.hid (workloadOf_any A C c d js E w hr hq hn hl hT)
  have HR := Lib.hid hr
  have HT := Lib.hid hT
  clear hr hq hT
  go_enter Tryd.func29, Tryd.ntmps29
  go_wp2_with fail
  refine H.out.mono ?_
  rintro e w1 ⟨hb, ⟨hw, h8, rfl⟩ | ⟨hw, rfl⟩⟩
  · rw [hw, if_pos rfl] at HRR
    obtain ⟨hok, _, hirr⟩ := wl_parts hw
    have hbA := hb.alloc hb.size (.cells (wlC (.slice A js.length c) (js.length : Int) (befN js.length (tabB js.length E))) 86)
    have HC := Lib.hid (tails_any A c js E _ (HR.out.below hbA) hok h8 hirr (HT.out.below hbA))
    have HB := Lib.hid hbA
    clear hw hb hbA hok hirr H
    unfold wlC
    unfold wlC at HC HB
    go_wp2_with fail
    refine HC.out.mono ?_
    rintro e w2 ⟨g, rfl, hg, hG, hb2⟩
    have HF := Lib.hid (And.intro hG (And.intro (HB.out.trans (hb2.mono HB.out.size)) (Nat.le_trans HB.out.size hg)))
    have hTL := tailsL_len js E
    clear hG hb2 hg HC HB
    go_wp2
    go_ret2
    rw [← hTL]
    exact ret_block HRR.out HF.out.2.2 HF.out.1 (by rw [hTL]; omega) HF.out.2.1 _ rfl
  · rw [hw, if_neg (by decide)] at HRR
    have hbA := hb.alloc hb.size (.cells wlZ 86)
    have HC := Lib.hid (tailsZ_any (w1.alloc (.cells wlZ 86)))
    have HB := Lib.hid hbA
    clear hw hb hbA H
    unfold wlZ
    unfold wlZ at HC HB
    go_wp2_with fail
    refine HC.out.mono ?_
    rintro e w2 ⟨g, rfl, hg, hG, hb2⟩
    have HF := Lib.hid (And.intro hG (And.intro (HB.out.trans (hb2.mono HB.out.size)) (Nat.le_trans HB.out.size hg)))
    clear hG hb2 hg HC HB
    go_wp2
    go_ret2
    rw [HRR.out]
    exact ⟨_, 0, rfl, seg_of_block HF.out.1 HF.out.2.2 (by unfold maxLen; simp), HF.out.2.1⟩
end Go.Proofs.YtapbgmmkkngdoaaDoor

namespace Go.Proofs.YtapbgmmkkngdoaaDoor
open Go.RowKit Go.ChangeShapes Go.WideShapes Go.Deep

section
variable {H : Type} {enc : TypeId × Value → H} {P : Program} {w : World} {base : Nat} {spare : Nat → Bool} {held : Bool}
theorem open_slice_array2 {t e k : TypeId} {fuel : Nat} {cs : List Value} {x : DataW H × List MemPlace} (ht : P.underlying t = some (.slice e)) (he : P.underlying e = some (.array 2 k))
    (hC : P.cellsOf e = 2) (hk : P.cellsOf k = 1) (h : DataW.trod enc P w base spare held fuel t cs = some x) :
    (cs = [.slice none 0 0]) ∨
    ∃ (a : Addr) (len cap m : Nat), cs = [.slice (some a) len cap] ∧ len ≤ cap ∧ cap ≤ maxLen ∧ len ≤ m ∧
      ∀ i, i < m → ∃ n : Nat, ∀ (j : Nat), j < 2 → ∃ (v : Value) (y : DataW H × List MemPlace), w.cell? (a.add (i * 2 + j)) = some v ∧ DataW.trod enc P w base spare held n k [v] = some y := by
  rcases open_slice ht h with ⟨h0, _⟩ | ⟨a, len, cap, m, n, D, Pl, hcs, hb, hl, hm, hmm, hx, hi⟩
  · exact .inl h0
  · refine .inr ⟨a, len, cap, m, hcs, hl, hm, by rw [hmm]; split <;> omega, fun i him => ?_⟩
    obtain ⟨cs', hc, ht'⟩ := hi i him
    rw [hC] at hc
    obtain ⟨ys, n', hn', hy, hlen, hyl, hf⟩ := DataW.trod_array he ht'
    obtain ⟨_, hcl, hat⟩ := World.cells?_some hc
    refine ⟨n', fun j hj => ?_⟩
    have hcell := hat j hj
    have hv : cs'[j]? = some (cs'[j]'(by omega)) := List.getElem?_eq_getElem (by omega)
    have h1 := hf j hj
    rw [hk, Nat.mul_one] at h1
    have hone' : (cs'.drop j).take 1 = [cs'[j]'(by omega)] := by
      rw [List.drop_eq_getElem_cons (by omega)]
      rfl
    rw [hone'] at h1
    have hys : ys[j]? = some (ys[j]'(by omega)) := List.getElem?_eq_getElem (by omega)
    refine ⟨_, _, ?_, h1.trans hys⟩
    rw [← Go.Deep.add_add, hcell, hv]
def wfPr (x : Pr) : Prop := (Lit.int .i64 x.1).wf = true ∧ (Lit.int .i64 x.2).wf = true
/-- A slice of pairs that came in. -/
def IsPairsA (w : World) (A : Option Addr) (len cap : Nat) (xs : List Pr) : Prop := xs.length = len ∧ len ≤ cap ∧ cap ≤ maxLen ∧ Row w A (pc xs) ∧ ∀ x ∈ xs, wfPr x
theorem pc_range (f : Nat → Pr) (n : Nat) (u : Value) (i : Nat) (h : (pc ((List.range n).map f))[i]? = some u) : i < n * 2 ∧ (cellsP (f (i / 2)))[i % 2]? = some u := by
  have hi : i < 2 * n := by
    have := (List.getElem?_eq_some_iff.1 h).1
    rw [pc_len] at this; simpa using this
  have hk : i / 2 < ((List.range n).map f).length := by simp; omega
  have := pc_get ((List.range n).map f) (i / 2) (i % 2) hk (by omega)
  rw [show i / 2 * 2 + i % 2 = i by omega, h] at this
  refine ⟨by omega, ?_⟩
  rw [this]
  simp
theorem open_pairs {t e k : TypeId} {fuel : Nat} {cs : List Value} {x : DataW H × List MemPlace} (ht : P.underlying t = some (.slice e)) (he : P.underlying e = some (.array 2 k))
    (hC : P.cellsOf e = 2) (hk : P.cellsOf k = 1) (i0 : P.underlying k = some (.int .i64))
    (h : DataW.trod enc P w base spare held fuel t cs = some x) : ∃ A len cap js, cs = [.slice A len cap] ∧ IsPairsA w A len cap js := by
  rcases open_slice_array2 ht he hC hk h with rfl | ⟨a, len, cap, m, rfl, hl, hm, hlm, hi⟩
  · exact ⟨none, 0, 0, [], rfl, rfl, Nat.le_refl _, Nat.zero_le _, Row.nil _, by simp⟩
  · have key : ∀ i : Nat, ∃ j : Pr, i < m → (w.cell? (a.add (i * 2 + 0)) = some (.int .i64 j.1) ∧ w.cell? (a.add (i * 2 + 1)) = some (.int .i64 j.2)) ∧ wfPr j := by
      intro i
      by_cases him : i < m
      · obtain ⟨n, hf⟩ := hi i him
        obtain ⟨v0, y0, c0, t0⟩ := hf 0 (by omega)
        obtain ⟨v1, y1, c1, t1⟩ := hf 1 (by omega)
        obtain ⟨n0, e0, _, w0⟩ := DataW.trod_int i0 t0
        obtain ⟨n1, e1, _, w1⟩ := DataW.trod_int i0 t1
        injection e0 with e0 _
        injection e1 with e1 _
        subst e0 e1
        exact ⟨(n0, n1), fun _ => ⟨⟨c0, c1⟩, w0, w1⟩⟩
      · exact ⟨(0, 0), fun h => absurd h him⟩
    obtain ⟨f, hf⟩ := Classical.axiomOfChoice key
    refine ⟨some a, len, cap, (List.range len).map f, rfl, by simp, hl, hm, fun hn => ?_, ?_⟩
    · rw [pc_len] at hn
      have h0 : 0 < len := by simpa using hn
      have hc0 := (hf 0 (by omega)).1.1
      have hb := lt_of_cell hc0
      rw [add_block] at hb
      refine ⟨a, rfl, hb, fun j u hu => ?_⟩
      obtain ⟨hj, hu'⟩ := pc_range f len u j hu
      obtain ⟨⟨c0, c1⟩, _⟩ := hf (j / 2) (by omega)
      have ej : a.add j = a.add (j / 2 * 2 + j % 2) := by rw [show j / 2 * 2 + j % 2 = j by omega]
      rw [ej]
      have h4 : j % 2 = 0 ∨ j % 2 = 1 := by omega
      rcases h4 with h4 | h4 <;> rw [h4] at hu' ⊢ <;> simp [cellsP] at hu' <;> subst hu' <;> assumption
    · intro j hj
      obtain ⟨i, hi, rfl⟩ := List.mem_map.1 hj
      exact (hf i (by have := List.mem_range.1 hi; omega)).2
end
theorem szIntA2S_any (A : Option Addr) (n c : Nat) (left : Int) (w : World) (hn : n ≤ maxLen) (h0 : 0 ≤ left) (h1 : left ≤ 1048576) :
    Calls Tryd.prog 11 #[.slice A n c, .int .i64 left] w fun e w' => ((e = .returned (.int .i64 (left - n)) ∧ (n : Int) ≤ left) ∨ (e = .returned (.int .i64 (-1)) ∧ left < n)) ∧ w = w' := by
  unfold maxLen at hn
  by_cases h : (n : Int) ≤ left
  · go_enter Tryd.func11, Tryd.ntmps11
    go_wp2
    go_ret
    first | exact ⟨.inl ⟨rfl, h⟩, rfl⟩ | exact ⟨.inl rfl, rfl⟩
  · go_enter Tryd.func11, Tryd.ntmps11
    go_wp2
    go_ret
    first | exact ⟨.inr ⟨rfl, by omega⟩, rfl⟩ | exact ⟨.inr rfl, rfl⟩
theorem argP_kinds : Tryd.prog.underlying 22 = some (.slice 56) ∧ Tryd.prog.underlying 56 = some (.array 2 3) ∧ Tryd.prog.cellsOf 56 = 2 ∧ Tryd.prog.cellsOf 3 = 1 :=
  ⟨Tryd.underlying22, Tryd.underlying56, by kernel_rfl, by kernel_rfl⟩
end Go.Proofs.YtapbgmmkkngdoaaDoor

namespace Go.Proofs.YtapbgmmkkngdoaaDoor
open Go.RowKit
theorem infoP2 : (Tryd.prog.info? 56).map (fun i => (i.zero, i.size, i.bytes)) = some (some (.agg #[.int .i64 0, .int .i64 0]), 2, 16) := by kernel_rfl
set_option maxRecDepth 100000 in
set_option maxHeartbeats 1000000 in
theorem toIntA2_any (x : Pr) (w : World) :
    Calls Tryd.prog 44 #[.agg #[.int .i64 x.1, .int .i64 x.2]] w fun e w' => e = .returned (.agg #[.int .i64 x.1, .int .i64 x.2]) ∧ Below w.heap.size w w' := by
  have b0 := (Below.refl w.heap.size w).alloc (Nat.le_refl _) (.cells #[.int .i64 x.1, .int .i64 x.2] 56)
  have b1 := b0.alloc b0.size (.cells #[.int .i64 0, .int .i64 0] 56)
  have b2 := b1.alloc b1.size (.cells #[.int .i64 0, .int .i64 0] 56)
  have e0 : (w.alloc (.cells #[.int .i64 x.1, .int .i64 x.2] 56)).heap.size = w.heap.size + 1 := by simp
  have e1 : ((w.alloc (.cells #[.int .i64 x.1, .int .i64 x.2] 56)).alloc (.cells #[.int .i64 0, .int .i64 0] 56)).heap.size = w.heap.size + 1 + 1 := by simp
  have h0 := ((BlockIs.new w 56 #[.int .i64 x.1, .int .i64 x.2]).below ((Below.refl _ _).alloc (Nat.le_refl _) (.cells #[.int .i64 0, .int .i64 0] 56))).below ((Below.refl _ _).alloc (Nat.le_refl _) (.cells #[.int .i64 0, .int .i64 0] 56))
  have h1 := (BlockIs.new (w.alloc (.cells #[.int .i64 x.1, .int .i64 x.2] 56)) 56 #[.int .i64 0, .int .i64 0]).below ((Below.refl _ _).alloc (Nat.le_refl _) (.cells #[.int .i64 0, .int .i64 0] 56))
  have h2 := BlockIs.new ((w.alloc (.cells #[.int .i64 x.1, .int .i64 x.2] 56)).alloc (.cells #[.int .i64 0, .int .i64 0] 56)) 56 #[.int .i64 0, .int .i64 0]
  rw [e0] at h1
  rw [e1] at h2
  have H := Lib.hid (And.intro h0 (And.intro h1 (And.intro h2 b2)))
  clear b0 b1 b2 e0 e1 h0 h1 h2
  go_enter Tryd.func44, Tryd.ntmps44
  go_wp2
  go_loopw [4] (fun i wr => ∃ (k : Nat) (u v : Int), k ≤ 2 ∧ i = .int .i64 (k : Int) ∧ Hid (1 ≤ k → u = x.1) ∧ Hid (2 ≤ k → v = x.2) ∧ BlockIs wr w.heap.size 56 #[.int .i64 x.1, .int .i64 x.2] ∧ BlockIs wr (w.heap.size + 1) 56 #[.int .i64 0, .int .i64 0] ∧ BlockIs wr (w.heap.size + 1 + 1) 56 #[.int .i64 u, .int .i64 v] ∧ Below w.heap.size w wr) (fun i _ => 2 - (intOf i).toNat)
  case atStart => exact ⟨0, 0, 0, by omega, rfl, fun h => by omega, fun h => by omega, H.out⟩
  case round =>
    obtain ⟨k, u, v, hk, rfl, hu, hv, h0, h1, h2, hb⟩ := hrel
    clear H
    have a0 := h0.cell 0
    have a1 := h0.cell 1
    have c0 := h2.cell 0
    have c1 := h2.cell 1
    have f0 := h2.frozen 0
    have f1 := h2.frozen 1
    have r0 := h1.cell 0
    have r1 := h1.cell 1
    have g0 := h1.frozen 0
    have g1 := h1.frozen 1
    simp only [List.getElem?_toArray, List.getElem?_cons_zero, List.getElem?_cons_succ] at a0 a1 c0 c1 r0 r1
    rcases (by omega : k = 0 ∨ k = 1 ∨ k = 2) with rfl | rfl | rfl
    · have H2 := Lib.hid (And.intro (h0.away (g' := w.heap.size + 1 + 1) (by omega) 0 (.int .i64 x.1)) (And.intro (h1.away (g' := w.heap.size + 1 + 1) (by omega) 0 (.int .i64 x.1)) (And.intro (h2.set 0 (.int .i64 x.1)) (hb.setCell (p := ⟨w.heap.size + 1 + 1, 0, none⟩) (by simp; omega) (.int .i64 x.1)))))
      clear h0 h1 h2 hb
      go_wp2
      go_roundw
      case rel => exact ⟨1, x.1, v, by omega, by go_num, fun _ => rfl, fun h => by omega, H2.out⟩
      case measure => simp [intOf]
    · have H2 := Lib.hid (And.intro (h0.away (g' := w.heap.size + 1 + 1) (by omega) 1 (.int .i64 x.2)) (And.intro (h1.away (g' := w.heap.size + 1 + 1) (by omega) 1 (.int .i64 x.2)) (And.intro (h2.set 1 (.int .i64 x.2)) (hb.setCell (p := ⟨w.heap.size + 1 + 1, 1, none⟩) (by simp; omega) (.int .i64 x.2)))))
      clear h0 h1 h2 hb
      go_wp2
      go_roundw
      case rel => exact ⟨2, u, x.2, by omega, by go_num, fun _ => hu.out (by omega), fun _ => rfl, H2.out⟩
      case measure => simp [intOf]
    · obtain rfl := hu.out (by omega)
      obtain rfl := hv.out (by omega)
      have H2 := Lib.hid (And.intro ((h1.set 0 (.int .i64 x.1)).set 1 (.int .i64 x.2)) ((hb.setCell (p := ⟨w.heap.size + 1, 0, none⟩) (by simp) (.int .i64 x.1)).setCell (p := ⟨w.heap.size + 1, 1, none⟩) (by simp) (.int .i64 x.2)))
      clear h0 h1 h2 hb
      go_wp2
      have hZ := H2.out.1
      generalize World.setCell _ _ _ = W at *
      have q0 := hZ.cell 0
      have q1 := hZ.cell 1
      simp at q0 q1
      exact bodyPost_ret (v := .agg #[.int .i64 x.1, .int .i64 x.2]) (by simp [results, Tryd.results44, q0, q1, go_sem]) rfl ⟨rfl, H2.out.2⟩
def set2 (cs : Array Value) (p : Nat) (x : Pr) : Array Value := (cs.setIfInBounds p (.int .i64 x.1)).setIfInBounds (p + 1) (.int .i64 x.2)
theorem set2_size (cs : Array Value) (p : Nat) (x : Pr) : (set2 cs p x).size = cs.size := by unfold set2; simp
theorem Upto.step2 {xs : List Pr} {k : Nat} {cs : Array Value} (h : Upto (pc xs) (k * 2) cs) (hk : k < xs.length) : Upto (pc xs) ((k + 1) * 2) (set2 cs (k * 2) xs[k]) := by
  have hl := pc_len xs
  have g0 : (pc xs)[k * 2]'(by omega) = .int .i64 xs[k].1 := by
    have := pc_get xs k 0 hk (by omega); rw [List.getElem?_eq_getElem (by omega)] at this; exact Option.some.inj this
  have g1 : (pc xs)[k * 2 + 1]'(by omega) = .int .i64 xs[k].2 := by
    have := pc_get xs k 1 hk (by omega); rw [List.getElem?_eq_getElem (by omega)] at this; exact Option.some.inj this
  have h1 := h.step (by omega)
  rw [g0] at h1
  have h2 := h1.step (by omega)
  rw [g1] at h2
  rw [show (k + 1) * 2 = k * 2 + 1 + 1 by omega]
  exact h2
theorem BlockIs.set2 {w : World} {g : Nat} {t : TypeId} {cs : Array Value} (h : BlockIs w g t cs) (p : Nat) (x : Pr) :
    BlockIs ((w.setCell ⟨g, p, none⟩ (.int .i64 x.1)).setCell ⟨g, p + 1, none⟩ (.int .i64 x.2)) g t (set2 cs p x) := (h.set p _).set (p + 1) _
theorem toIntA2S_any (A : Option Addr) (c : Nat) (xs : List Pr) (w : World) (hr : Row w A (pc xs)) (hn : xs.length ≤ 10000000) :
    Calls Tryd.prog 13 #[.slice A xs.length c] w fun e w' => ∃ g, e = .returned (.slice (some ⟨g, 0, none⟩) xs.length xs.length) ∧ w.heap.size ≤ g ∧ w'.ownsRow w.heap.size 56 2 (.slice (some ⟨g, 0, none⟩) xs.length xs.length) xs.length (pc xs) ∧ Below w.heap.size w w' := by
  have hmk := run_make_rows (P := Tryd.prog) 22 56 (.agg #[.int .i64 0, .int .i64 0]) 2 16 Tryd.underlying22 infoP2 .i64 .i64 xs.length (by omega) (by omega)
  go_enter Tryd.func13, Tryd.ntmps13
  go_wp2
  go_loopw [4] (fun i wr => ∃ (k : Nat) (cs : Array Value), k ≤ xs.length ∧ i = .int .i64 k ∧ BlockIs wr w.heap.size 56 cs ∧ Hid (Upto (pc xs) (k * 2) cs) ∧ Below w.heap.size w wr) (fun i _ => xs.length - (intOf i).toNat)
  case atStart =>
    exact ⟨0, _, Nat.zero_le _, rfl, BlockIs.new _ _ _, ⟨by rw [size_madeCells, pc_len]; omega, by omega⟩, (Below.refl _ _).alloc (Nat.le_refl _) _⟩
  case round =>
    obtain ⟨k, cs, hk, rfl, hB, hC, hb⟩ := hrel
    clear hmk
    by_cases hlt : k < xs.length
    · obtain ⟨ad, hA, hbl, hc0, hc1⟩ := (hr.below hb).pair hlt
      subst hA
      go_wp2_with fail
      refine (toIntA2_any xs[k] _).mono ?_
      rintro e w1 ⟨rfl, hb1⟩
      have hz : cs.size = 2 * xs.length := by rw [hC.out.1, pc_len]
      have hB1 := hB.below hb1
      obtain ⟨v0, hk0⟩ := hB1.has (i := k * 2) (by omega)
      obtain ⟨v1, hk1⟩ := hB1.has (i := k * 2 + 1) (by omega)
      have hf0 := hB1.frozen (k * 2)
      have hf1 := hB1.frozen (k * 2 + 1)
      have HC := Lib.hid (hC.out.step2 hlt)
      have HB := Lib.hid (hB1.set2 (k * 2) xs[k])
      have Hb := Lib.hid (hb.trans (hb1.mono hb.size))
      clear hz hB1 hB hC hb hb1 hr hc0 hc1
      generalize xs[k] = j at *
      go_wp2
      go_roundw
      case rel => exact ⟨k + 1, _, by omega, by go_num, HB.out, HC.out, (Hb.out.setCell (Nat.le_refl _) _).setCell (Nat.le_refl _) _⟩
      case measure => simp [intOf]; omega
    · go_wp2
      go_ret
      obtain rfl : k = xs.length := by omega
      refine ⟨_, rfl, Nat.le_refl _, ?_, hb⟩
      have hC' := hC.out
      rw [show xs.length * 2 = (pc xs).length by rw [pc_len]; omega] at hC'
      have hsz : cs.size = xs.length * 2 := by rw [hC'.1, pc_len]; omega
      have := hB.own (base := w.heap.size) (n := xs.length) (c := xs.length) (size := 2) (Nat.le_refl _) (by omega) (Nat.le_refl _) (by unfold maxLen; omega) (by omega)
      rwa [List.take_of_length_le (by simp [hsz]), hC'.all] at this
theorem toIntA2S_seg (A : Option Addr) (c : Nat) (xs : List Pr) (w : World) (hr : Row w A (pc xs)) (hn : xs.length ≤ 10000000) :
    Calls Tryd.prog 13 #[.slice A xs.length c] w fun e w' => ∃ g, e = .returned (.slice (some ⟨g, 0, none⟩) xs.length xs.length) ∧ Seg w' 56 2 w.heap.size w'.heap.size (some ⟨g, 0, none⟩) xs.length xs.length (pc xs) ∧ Below w.heap.size w w' :=
  (toIntA2S_any A c xs w hr hn).mono fun _ _ ⟨g, he, _, ho, hb⟩ => ⟨g, he, Seg.of_own ho, hb⟩
end Go.Proofs.YtapbgmmkkngdoaaDoor
