/- Arguments that are job shops: what comes in; the law's helpers over them. -/
import Derived.Test.YteidhjmnononaaaOpx
namespace Go.Proofs.Yteidhjmnononaaa
set_option linter.unusedVariables false
set_option linter.unusedSimpArgs false
open Go.RowKit Go.ChangeShapes Go.WideShapes Go.Deep
/-- A job shop that came in. -/
def IsShopA (w : World) (m : Int) (A : Option Addr) (len cap : Nat) (xss : List (List Pr)) : Prop := (Lit.int .i64 m).wf = true ∧ IsOpSSA w A len cap xss
theorem open_shop {H : Type} {enc : TypeId × Value → H} {P : Program} {w : World} {base : Nat} {held : Bool} {t e k : TypeId} {s0 s1 f0 f1 : Field} {fuel : Nat} {cs : List Value} {x : DataW H × List MemPlace} (ht : P.underlying t = some (.struct #[s0, s1]))
    (ho : (s0.offset = 0 ∧ s1.offset = 1) ∧ P.cellsOf s0.type = 1 ∧ P.cellsOf s1.type = 1 ∧ P.cellsOf t = 2) (hi : P.underlying s0.type = some (.int .i64)) (hs : P.underlying s1.type = some (.slice e)) (he : P.underlying e = some (.slice k)) (hk : P.underlying k = some (.struct #[f0, f1]))
    (hC : P.cellsOf e = 1) (hone : oneCellFields P #[f0, f1] = true) (hCk : P.cellsOf k = 2) (i0 : P.underlying f0.type = some (.int .i64)) (i1 : P.underlying f1.type = some (.int .i64))
    (h : DataW.trod enc P w base (fun _ => true) held fuel t cs = some x) : ∃ m A len cap js, cs = [.int .i64 m, .slice A len cap] ∧ IsShopA w m A len cap js := by
  obtain ⟨⟨o0, o1⟩, c0, c1, ct⟩ := ho
  obtain ⟨y0, y1, n, _, hl, h0, h1⟩ := trod_struct2 ht h
  rw [o0, c0] at h0
  rw [o1, c1] at h1
  rw [ct] at hl
  match cs, hl with
  | [a, b], _ =>
    simp only [List.drop_zero, List.take_succ_cons, List.take_zero, List.drop_succ_cons] at h0 h1
    obtain ⟨m, e0, _, w0⟩ := DataW.trod_int hi h0
    obtain ⟨A, len, cap, js, e1, hj⟩ := open_OpSS hs he hk hC hone hCk i0 i1 h1
    injection e0 with e0 _
    injection e1 with e1 _
    subst e0 e1
    exact ⟨m, A, len, cap, js, rfl, w0, hj⟩
abbrev SegW (w : World) (lo hi : Nat) (A : Option Addr) (n c : Nat) (xss : List (List Pr)) : Prop := SegX 52 65 2 pc w lo hi A n c xss
theorem SegX.lower {X : Type} {T e : TypeId} {s : Nat} {cel : List X → List Value} {w : World} {lo lo' hi : Nat} {A : Option Addr} {n c : Nat} {xss : List (List X)} (h : SegX T e s cel w lo hi A n c xss) (hl : lo' ≤ lo) : SegX T e s cel w lo' hi A n c xss := by
  obtain ⟨h0, vs, h1, h2, h3, h4⟩ := h
  have L : ∀ {e : TypeId} {s : Nat} {A : Option Addr} {n c : Nat} {cs : List Value}, Seg w e s lo hi A n c cs → Seg w e s lo' hi A n c cs := fun hx => ⟨⟨hx.own.1, hx.own.2.imp id fun ⟨g', cap, cur, a1, a2, a3⟩ => ⟨g', cap, cur, a1, by omega, a3⟩⟩, hx.top, hx.fit⟩
  exact ⟨h0, vs, h1, L h2, fun i a b => L (h3 i a b), h4⟩
theorem SegX.upper {X : Type} {T e : TypeId} {s : Nat} {cel : List X → List Value} {w : World} {lo hi hi' : Nat} {A : Option Addr} {n c : Nat} {xss : List (List X)} (h : SegX T e s cel w lo hi A n c xss) (hl : hi ≤ hi') (hf : hi' ≤ w.heap.size) : SegX T e s cel w lo hi' A n c xss := by
  obtain ⟨h0, vs, h1, h2, h3, h4⟩ := h
  have L : ∀ {e : TypeId} {s : Nat} {A : Option Addr} {n c : Nat} {cs : List Value}, Seg w e s lo hi A n c cs → Seg w e s lo hi' A n c cs := fun hx => ⟨hx.own, fun ad ha => Nat.lt_of_lt_of_le (hx.top ad ha) hl, hf⟩
  exact ⟨h0, vs, h1, L h2, fun i a b => L (h3 i a b), h4⟩
theorem touch_cell {w : World} {lo hi g : Nat} (i : Nat) (v : Value) (h0 : lo ≤ g) (h1 : g < hi) : Touch lo hi w (w.setCell ⟨g, i, none⟩ v) :=
  Touch.of_grown (grown_setCell (World.grownBy.refl _ _) i v) h0 h1
theorem set_neW {w : World} {g : Nat} {t : TypeId} {cs : Array Value} (h : BlockIs w g t cs) {n : Nat} (hn : g ≠ n) (i : Nat) (u : Value) : BlockIs (w.setCell ⟨n, i, none⟩ u) g t cs := by
  unfold BlockIs at h ⊢
  rw [← h]
  exact Below.heap_setCell _ _ _ _ hn
theorem szJobShop_any (m : Int) (A : Option Addr) (n c : Nat) (xss : List (List Pr)) (L : Int) (w : World) (hl : n = xss.length) (hr : RowX pc w A xss) (hn : xss.length ≤ maxLen) (hs : ∀ xs ∈ xss, xs.length ≤ maxLen) (h0 : 0 ≤ L) (hL : L ≤ 1048576) :
    Calls Try.prog 4 #[.agg #[.int .i64 m, .slice A n c], .int .i64 L] w fun e w' => ((∃ r : Int, e = .returned (.int .i64 r) ∧ 0 ≤ r ∧ (xss.length : Int) + (lensX xss).sum + r = L) ∨ (e = .returned (.int .i64 (-1)))) ∧ Below w.heap.size w w' := by
  subst hl
  have hb1 := (Below.refl w.heap.size w).alloc (Nat.le_refl _) (.cells #[.int .i64 m, .slice A xss.length c] 24)
  have HS := Lib.hid (szOpSS_any A xss.length c xss L (w.alloc (.cells #[.int .i64 m, .slice A xss.length c] 24)) rfl (hr.below hb1) hn hs h0 hL)
  have HB := Lib.hid hb1
  clear hb1 hr hs
  go_enter Try.func4, Try.ntmps4
  go_wp2_with fail
  refine HS.out.mono ?_
  rintro e _ ⟨⟨r, rfl, hr0, hr1⟩ | rfl, rfl⟩
  · have HR := Lib.hid hr1
    clear hr1
    go_wp2
    go_ret
    exact ⟨.inl ⟨r, rfl, hr0, HR.out⟩, HB.out⟩
  · go_wp2
    go_ret
    exact ⟨.inr rfl, HB.out⟩
set_option maxRecDepth 100000 in
set_option maxHeartbeats 1000000 in
theorem toJobShop_seg (m : Int) (A : Option Addr) (n c : Nat) (xss : List (List Pr)) (w : World) (hl : n = xss.length) (hr : RowX pc w A xss) (hn : xss.length ≤ 10000000) (hm : (lensX xss).sum ≤ 10000000) :
    Calls Try.prog 7 #[.agg #[.int .i64 m, .slice A n c]] w fun e w' => ∃ g, e = .returned (.agg #[.int .i64 m, .slice (some ⟨g, 0, none⟩) n n]) ∧ SegW w' w.heap.size w'.heap.size (some ⟨g, 0, none⟩) n n xss ∧ Below w.heap.size w w' := by
  subst hl
  have b1 := (Below.refl w.heap.size w).alloc (Nat.le_refl _) (.cells #[.int .i64 m, .slice A xss.length c] 24)
  have b2 := b1.alloc b1.size (.cells #[.int .i64 0, .slice none 0 0] 32)
  have b3 := b2.alloc b2.size (.cells #[.int .i64 m, .slice none 0 0] 32)
  have HT := Lib.hid (toOpSS_seg A xss.length c xss _ rfl (hr.below b3) hn hm)
  have h3 := BlockIs.new ((w.alloc (.cells #[.int .i64 m, .slice A xss.length c] 24)).alloc (.cells #[.int .i64 0, .slice none 0 0] 32)) 32 #[.int .i64 m, .slice none 0 0]
  have h2 := (BlockIs.new (w.alloc (.cells #[.int .i64 m, .slice A xss.length c] 24)) 32 #[.int .i64 0, .slice none 0 0]).below ((Below.refl _ _).alloc (Nat.le_refl _) (.cells #[.int .i64 m, .slice none 0 0] 32))
  have hz : ((w.alloc (.cells #[.int .i64 m, .slice A xss.length c] 24)).alloc (.cells #[.int .i64 0, .slice none 0 0] 32)).heap.size = w.heap.size + 1 + 1 := by simp
  have hz1 : (w.alloc (.cells #[.int .i64 m, .slice A xss.length c] 24)).heap.size = w.heap.size + 1 := by simp
  rw [hz] at h3
  rw [hz1] at h2
  have HB := Lib.hid (And.intro b3 (And.intro h2 h3))
  clear hr b1 b2 b3 h2 h3 hz hz1
  go_enter Try.func7, Try.ntmps7
  go_wp2_with fail
  refine HT.out.mono ?_
  rintro e w4 ⟨g, rfl, hs, hb4⟩
  have hbw := HB.out.1.trans (hb4.mono HB.out.1.size)
  have k2 := HB.out.2.1.below hb4
  have k3 := HB.out.2.2.below hb4
  have hlow := HB.out.1.size
  have hz4 : w.heap.size + 1 + 1 < (((w.alloc (.cells #[.int .i64 m, .slice A xss.length c] 24)).alloc (.cells #[.int .i64 0, .slice none 0 0] 32)).alloc (.cells #[.int .i64 m, .slice none 0 0] 32)).heap.size := by simp
  have c0 := k3.cell 0
  have c1 := k3.cell 1
  have f1 := k3.frozen 1
  have d0 := k2.cell 0
  have d1 := k2.cell 1
  have f2 := k2.frozen 0
  have f3 := k2.frozen 1
  simp only [List.getElem?_toArray, List.getElem?_cons_zero, List.getElem?_cons_succ] at c0 c1 d0 d1
  have t1 : Touch w.heap.size (w.heap.size + 1 + 1 + 1) w4 (w4.setCell ⟨w.heap.size + 1 + 1, 1, none⟩ (.slice (some ⟨g, 0, none⟩) xss.length xss.length)) := touch_cell 1 _ (by omega) (by omega)
  have t2 := t1.trans (touch_cell (lo := w.heap.size) (hi := w.heap.size + 1 + 1 + 1) (g := w.heap.size + 1) 0 (.int .i64 m) (by omega) (by omega))
  have t3 := t2.trans (touch_cell (lo := w.heap.size) (hi := w.heap.size + 1 + 1 + 1) (g := w.heap.size + 1) 1 (.slice (some ⟨g, 0, none⟩) xss.length xss.length) (by omega) (by omega))
  have hse := (hs.keep t3 (.inr (by omega))).lower hlow
  have hk2 := ((set_neW k2 (n := w.heap.size + 1 + 1) (by omega) 1 (.slice (some ⟨g, 0, none⟩) xss.length xss.length)).set 0 (.int .i64 m)).set 1 (.slice (some ⟨g, 0, none⟩) xss.length xss.length)
  have hbe := hbw.trans ((t3.below (Nat.le_refl _) hbw.size).mono (Nat.le_refl _))
  have HX := Lib.hid (And.intro hse (And.intro hbe hk2))
  clear hs hb4 hbw k2 k3 t1 t2 t3 hse hk2 hbe hz4 hlow HB HT
  go_wp2
  obtain ⟨hse, hbe, hk2⟩ := HX.out
  have e1 := hk2.cell 0
  have e2 := hk2.cell 1
  simp at e1 e2
  exact bodyPost_ret (v := .agg #[.int .i64 m, .slice (some ⟨g, 0, none⟩) xss.length xss.length]) (by simp [results, Try.f7, e1, e2, go_sem]) rfl ⟨g, rfl, hse.upper (by simp [World.setCell]) (Nat.le_refl _), hbe⟩
theorem eqJobShop_seg (m : Int) (A B : Option Addr) (c d n : Nat) (xss : List (List Pr)) (w : World) (hn0 : n = xss.length) (hr : RowX pc w A xss) (hq : RowX pc w B xss) (hn : xss.length ≤ 10000000 ∧ (lensX xss).sum ≤ 10000000) :
    Calls Try.prog 10 #[.agg #[.int .i64 m, .slice A n c], .agg #[.int .i64 m, .slice B n d]] w fun e w' => e = .returned (.bool true) ∧ Below w.heap.size w w' := by
  subst hn0
  have b1 := (Below.refl w.heap.size w).alloc (Nat.le_refl _) (.cells #[.int .i64 m, .slice A xss.length c] 32)
  have b2 := b1.alloc b1.size (.cells #[.int .i64 m, .slice B xss.length d] 32)
  have HT := Lib.hid (eqOpSS_seg A B c d xss.length xss _ rfl (hr.below b2) (hq.below b2) hn)
  have HB := Lib.hid b2
  clear hr hq b1 b2
  go_enter Try.func10, Try.ntmps10
  go_wp2_with fail
  refine HT.out.mono ?_
  rintro e w1 ⟨rfl, hb1⟩
  have HX := Lib.hid (HB.out.trans (hb1.mono HB.out.size))
  clear hb1
  go_wp2
  go_ret
  exact ⟨rfl, HX.out⟩
end Go.Proofs.Yteidhjmnononaaa
