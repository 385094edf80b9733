/- Slacks: the program's, and the model's at all lists. -/
import Derived.Test.YtjnaicgmfnhjeaaSlkS
import Derived.Test.YtjnaicgmfnhjeaaBack
import Derived.Test.YtjnaicgmfnhjeaaRegR
namespace Go.Proofs.Ytjnaicgmfnhjeaa
open Go.RowKit Go.Shelf
attribute [local go_sem] Oper.semAt_some
/-- The parameters' boxes. -/
def Bx3 (A B : Option Addr) (c d m n : Nat) (l : Int) (w W : World) : Prop := Boxed W w.heap.size 28 (.slice A m c) ∧ Boxed W (w.heap.size + 1) 23 (.slice B n d) ∧ Boxed W (w.heap.size + 1 + 1) 3 (.int .i64 l) ∧ Below w.heap.size w W
theorem Bx3.step {A B : Option Addr} {c d m n : Nat} {l : Int} {w W W' : World} (h : Bx3 A B c d m n l w W) (hb : Below W.heap.size W W') : Bx3 A B c d m n l w W' := by
  obtain ⟨h1, h2, h3, h4⟩ := h
  exact ⟨(hb.block _ h1.lt).trans h1, (hb.block _ h2.lt).trans h2, (hb.block _ h3.lt).trans h3, h4.trans (hb.mono h4.size)⟩
/-- A round's step at place k. -/
def stS (n : Nat) (gs xs : List Int) (k : Nat) : List Int := if k + 1 < n then (xs.set k (gs.getD k 0)).set k (min (gs.getD k 0) ((xs.set k (gs.getD k 0)).getD (k + 1) 0)) else xs.set k (gs.getD k 0)
theorem stS_len (n : Nat) (gs xs : List Int) (k : Nat) : (stS n gs xs k).length = xs.length := by unfold stS; split <;> simp
def stL (n : Nat) (gs : List Int) (pre : List { k : Nat // k < n }) : List Int := pre.foldl (fun xs x => stS n gs xs x.1) (List.replicate n 0)
theorem stL_snoc (n : Nat) (gs : List Int) (pre : List { k : Nat // k < n }) (x : { k : Nat // k < n }) : stL n gs (pre ++ [x]) = stS n gs (stL n gs pre) x.1 := by unfold stL; rw [List.foldl_append]; rfl
theorem foldl_stS_len (n : Nat) (gs : List Int) : ∀ (pre : List { k : Nat // k < n }) (xs : List Int), (pre.foldl (fun xs x => stS n gs xs x.1) xs).length = xs.length
  | [], _ => rfl
  | x :: pre, xs => by rw [List.foldl_cons, foldl_stS_len n gs pre, stS_len]
theorem stL_len (n : Nat) (gs : List Int) (pre : List { k : Nat // k < n }) : (stL n gs pre).length = n := by unfold stL; rw [foldl_stS_len]; simp
theorem stS_to (gs : List Int) (k : Nat) (h : k < gs.length) : stS gs.length gs (slkTo gs (k + 1)) k = slkTo gs k := by
  have hl := slkTo_len gs (k + 1) (by omega)
  unfold stS
  rw [getD_at gs 0 h]
  by_cases hk : k + 1 < gs.length
  · rw [if_pos hk, set_set', getD_at _ 0 (by rw [List.length_set, hl]; exact hk), List.getElem_set_ne (by omega)]
    exact slkTo_step gs k hk
  · rw [if_neg hk]; exact slkTo_last gs k (by omega)
theorem stL_dn (gs : List Int) : ∀ d, d ≤ gs.length → stL gs.length gs (dn gs.length d) = slkTo gs (gs.length - d)
  | 0, _ => by rw [Nat.sub_zero, slkTo_all]; rfl
  | d + 1, h => by
    have ih := stL_dn gs d (by omega)
    have e := dn_step gs.length (gs.length - (d + 1)) (by omega)
    rw [show gs.length - (gs.length - (d + 1)) = d + 1 by omega, show gs.length - (gs.length - (d + 1) + 1) = d by omega] at e
    rw [e, stL_snoc, ih, show gs.length - d = (gs.length - (d + 1)) + 1 by omega]
    exact stS_to gs _ (by omega)
theorem stL_end (gs : List Int) (n : Nat) (h : gs.length = n) : stL n gs (dn n n) = slk gs := by
  subst h
  rw [stL_dn gs _ (Nat.le_refl _), Nat.sub_self, slkTo_zero]
/-- Blocks that stay as they are. -/
def Fix (L : List (Nat × TypeId × Array Value)) (W : World) : Prop := ∀ x ∈ L, BlockIs W x.1 x.2.1 x.2.2
theorem fix_own {β : Type} (L : List (Nat × TypeId × Array Value)) : Own (fun (_ : β) W => Fix L W) := fun _ X _ _ hs hg hrow x hx =>
  (hg.block _ (hs x hx).lt (fun e => by
    obtain ⟨o, ho, hc⟩ := hrow x.1 e.symm
    rw [show X.heap[x.1]? = _ from hs x hx] at ho
    cases ho; cases hc)).trans (hs x hx)
theorem block_own {β : Type} (g : Nat) (t : TypeId) (f : β → Array Value) : Own (fun s W => BlockIs W g t (f s)) := fun _ X _ _ hs hg hrow =>
  (hg.block _ (BlockIs.lt hs) (fun e => by
    obtain ⟨o, ho, hc⟩ := hrow g e.symm
    rw [show X.heap[g]? = _ from hs] at ho
    cases ho; cases hc)).trans hs
theorem Fix.set {L : List (Nat × TypeId × Array Value)} {W : World} {g : Nat} (h : Fix L W) (hne : ∀ x ∈ L, x.1 ≠ g) (i : Nat) (v : Value) : Fix L (W.setCell ⟨g, i, none⟩ v) := fun x hx => (h x hx).otherQ (hne x hx) i v
theorem keepN {L : Array Bool} {kk m : Nat} {P Q : Prop} (h : (L.getD m true = false → P) ∧ (L.getD m true = true → Q)) (hne : kk ≠ m) : ((L.setIfInBounds kk true).getD m true = false → P) ∧ ((L.setIfInBounds kk true).getD m true = true → Q) := by
  rw [getD_set_true, if_neg (fun e => hne e.1)]; exact h
theorem lastN {L : Array Bool} {m : Nat} {w' : World} {P : Prop} (hs : m < L.size) : ((L.setIfInBounds m true).getD m true = false → P) ∧ ((L.setIfInBounds m true).getD m true = true → w' = w') := by
  refine ⟨fun h => ?_, fun _ => rfl⟩
  rw [getD_set_true, if_pos ⟨rfl, hs⟩] at h
  cases h
section
variable (A B : Option Addr) (c d : Nat) (js : List J) (p : List Nat) (l : Int) (w : World) (hr : Row w A (jc js)) (hq : Row w B (ic (natI p))) (hpl : plainL js = true) (hp : p.Perm (List.range js.length)) (h0 : 0 ≤ l) (h1 : l ≤ 500)
include hr hq hpl hp h0 h1
set_option maxRecDepth 100000 in
set_option maxHeartbeats 4000000 in
theorem impl_SlkYes : Calls Try.prog 48 #[.slice A js.length c, .slice B p.length d, .int .i64 l] w (RetIB w (slk (gsL l js p), true)) := by
  have hg := plain_good hpl
  obtain ⟨h8, hok⟩ := good_out hg
  have hpl8 : p.length = js.length := by simpa using hp.length_eq
  have hp8 : p.length ≤ 8 := by omega
  clear hpl8
  have hb1 := (Below.refl w.heap.size w).alloc (Nat.le_refl _) (.cells #[.slice A js.length c] 28)
  have hb2 := hb1.alloc hb1.size (.cells #[.slice B p.length d] 23)
  have hb3 := hb2.alloc hb2.size (.cells #[.int .i64 l] 3)
  have HIP := Lib.hid (impl_IsPlain A c js _ (hr.below hb3) (by omega))
  rw [hpl] at HIP
  have hmk := run_make_row' (P := Try.prog) 23 3 (.int .i64 0) 8 Try.underlying23 infoI rfl .i64 .i64 p.length (by omega) (by omega)
  have bx0 : Boxed (((w.alloc (.cells #[.slice A js.length c] 28)).alloc (.cells #[.slice B p.length d] 23)).alloc (.cells #[.int .i64 l] 3)) w.heap.size 28 (.slice A js.length c) := ((Boxed.new w _ _).alloc _).alloc _
  have bx1 : Boxed (((w.alloc (.cells #[.slice A js.length c] 28)).alloc (.cells #[.slice B p.length d] 23)).alloc (.cells #[.int .i64 l] 3)) (w.heap.size + 1) 23 (.slice B p.length d) := by
    have h := (Boxed.new (w.alloc (.cells #[.slice A js.length c] 28)) 23 (.slice B p.length d)).alloc (.cells #[.int .i64 l] 3)
    rwa [World.size_alloc] at h
  have bx2 : Boxed (((w.alloc (.cells #[.slice A js.length c] 28)).alloc (.cells #[.slice B p.length d] 23)).alloc (.cells #[.int .i64 l] 3)) (w.heap.size + 1 + 1) 3 (.int .i64 l) := by
    have h := Boxed.new ((w.alloc (.cells #[.slice A js.length c] 28)).alloc (.cells #[.slice B p.length d] 23)) 3 (.int .i64 l)
    rwa [World.size_alloc, World.size_alloc] at h
  have H3 : Hid (Bx3 A B c d js.length p.length l w (((w.alloc (.cells #[.slice A js.length c] 28)).alloc (.cells #[.slice B p.length d] 23)).alloc (.cells #[.int .i64 l] 3))) := ⟨bx0, bx1, bx2, hb3⟩
  clear hb1 hb2 hb3 bx0 bx1 bx2
  have HORD := Lib.hid (ord_of_perm hp h8)
  have HPL : Hid ((natI p).length = p.length) := List.length_map ..
  have hl0 : ¬ l < 0 := by omega
  have hl1 : ¬ 500 < l := by omega
  refine (callsIn_wide (n := 6)).1 ?_
  refine callsIn_of_wp_marks Try.func48 rfl trivial ?_ rfl
  simp only [Try.ntmps48, List.size_toArray, List.length_cons, List.length_nil, Nat.reduceAdd, Nat.reduceSub, Array.replicate_succ, Array.replicate_zero, List.push_toArray, List.append_toArray, List.nil_append, List.cons_append]
  have HIO : ∀ wx, Row wx B (ic (natI p)) → Calls Try.prog 69 #[.int .i64 js.length, .slice B p.length d] wx fun e w' => e = .returned (.bool true) ∧ Below wx.heap.size wx w' := fun wx h => by
    have := IsOrder_any (js.length : Int) B d (natI p) wx h (by rw [HPL.out]; omega)
    rw [HPL.out, show ordB (js.length : Int) (natI p) = true from HORD.out] at this
    exact this
  have HIO' := Lib.hid HIO
  clear HIO
  gi_wp2_with (refine ⟨trivial, ?_⟩; first
    | (gi_at_call 85; refine (callsIn_wide.2 HIP.out).mono ?_; clear HIP; rintro e w1 ⟨rfl, hb1⟩; have H1 := Lib.hid (H3.out.step hb1); clear H3 hb1; have ca := H1.out.1.cell; have cb := H1.out.2.1.cell; have cc := H1.out.2.2.1.cell)
    | (gi_at_call 69; refine (callsIn_wide.2 (HIO'.out _ (hq.below H1.out.2.2.2))).mono ?_; clear HIO' ca cb cc; rintro e w2 ⟨rfl, hb2⟩; have H2 := Lib.hid (H1.out.step hb2); clear H1 hb2; have ca := H2.out.1.cell; have cb := H2.out.2.1.cell; have cc := H2.out.2.2.1.cell; have la := H2.out.1.lt; have lb := H2.out.2.1.lt; have lc := H2.out.2.2.1.lt))
  have HW4 : Hid (Bx3 A B c d js.length p.length l w ((w2.alloc (.cells (madeCells #[.int .i64 0] p.length) 3)).alloc (.cells #[.slice (some ⟨w2.heap.size, 0, none⟩) p.length p.length] 23)) ∧ BlockIs ((w2.alloc (.cells (madeCells #[.int .i64 0] p.length) 3)).alloc (.cells #[.slice (some ⟨w2.heap.size, 0, none⟩) p.length p.length] 23)) w2.heap.size 3 (madeCells #[.int .i64 0] p.length) ∧ Boxed ((w2.alloc (.cells (madeCells #[.int .i64 0] p.length) 3)).alloc (.cells #[.slice (some ⟨w2.heap.size, 0, none⟩) p.length p.length] 23)) (w2.heap.size + 1) 23 (.slice (some ⟨w2.heap.size, 0, none⟩) p.length p.length)) := by
    refine ⟨H2.out.step (((Below.refl _ _).alloc (Nat.le_refl _) _).alloc (by simp) _), (BlockIs.new w2 3 _).below ((Below.refl _ _).alloc (Nat.le_refl _) _), ?_⟩
    have h := Boxed.new (w2.alloc (.cells (madeCells #[.int .i64 0] p.length) 3)) 23 (.slice (some ⟨w2.heap.size, 0, none⟩) p.length p.length)
    rwa [World.size_alloc] at h
  have hsz4 : ((w2.alloc (.cells (madeCells #[.int .i64 0] p.length) 3)).alloc (.cells #[.slice (some ⟨w2.heap.size, 0, none⟩) p.length p.length] 23)).heap.size = w2.heap.size + 1 + 1 := by simp
  have hsz2 := H2.out.2.2.2.size
  have hs22 : w.heap.size + 1 + 1 < w2.heap.size := lc
  clear ca cb cc la lb lc H2 hmk
  refine ⟨trivial, ?_⟩
  generalize ((w2.alloc (.cells (madeCells #[.int .i64 0] p.length) 3)).alloc (.cells #[.slice (some ⟨w2.heap.size, 0, none⟩) p.length p.length] 23)) = w4 at *
  have HEI := Lib.hid (endsIn_any A B c d js p w4 (hr.below HW4.out.1.2.2.2) (hq.below HW4.out.1.2.2.2) hg hp)
  refine (callsIn_wide.2 HEI.out).mono ?_
  rintro e w5 ⟨gE, rfl, hgE, hBE, hb5⟩
  have H5 : Hid (Bx3 A B c d js.length p.length l w w5 ∧ BlockIs w5 w2.heap.size 3 (madeCells #[.int .i64 0] p.length) ∧ Boxed w5 (w2.heap.size + 1) 23 (.slice (some ⟨w2.heap.size, 0, none⟩) p.length p.length) ∧ BlockIs w5 gE 3 (ic (endsL js p)).toArray) := ⟨HW4.out.1.step hb5, HW4.out.2.1.below hb5, (hb5.block _ HW4.out.2.2.lt).trans HW4.out.2.2, hBE⟩
  have hsz5 := hb5.size
  have ca := H5.out.1.1.cell
  have cb := H5.out.1.2.1.cell
  have cc := H5.out.1.2.2.1.cell
  have la := H5.out.1.1.lt
  have lb := H5.out.1.2.1.lt
  have lc := H5.out.1.2.2.1.lt
  clear HEI HW4 hBE hb5
  gi_wp2_with (refine ⟨trivial, ?_⟩; gi_at_call 126; refine (back_in Fence.wide 5 trivial rfl _ _ _ _).mono ?_; rintro e w7 ⟨rfl, rfl⟩)
  have HW0 : Hid (Fix [(w.heap.size, 28, #[.slice A js.length c]), (w.heap.size + 1, 23, #[.slice B p.length d]), (w.heap.size + 1 + 1, 3, #[.int .i64 l]), (w2.heap.size + 1, 23, #[.slice (some ⟨w2.heap.size, 0, none⟩) p.length p.length]), (gE, 3, (ic (endsL js p)).toArray), (w5.heap.size, 23, #[.slice (some ⟨gE, 0, none⟩) js.length js.length]), (w5.heap.size + 1, 23, #[.slice B p.length d])] ((w5.alloc (.cells #[.slice (some ⟨gE, 0, none⟩) js.length js.length] 23)).alloc (.cells #[.slice B p.length d] 23)) ∧ BlockIs ((w5.alloc (.cells #[.slice (some ⟨gE, 0, none⟩) js.length js.length] 23)).alloc (.cells #[.slice B p.length d] 23)) w2.heap.size 3 (madeCells #[.int .i64 0] p.length) ∧ Below w.heap.size w ((w5.alloc (.cells #[.slice (some ⟨gE, 0, none⟩) js.length js.length] 23)).alloc (.cells #[.slice B p.length d] 23))) := by
    have hb7 : Below w5.heap.size w5 ((w5.alloc (.cells #[.slice (some ⟨gE, 0, none⟩) js.length js.length] 23)).alloc (.cells #[.slice B p.length d] 23)) := ((Below.refl _ _).alloc (Nat.le_refl _) _).alloc (by simp) _
    obtain ⟨⟨x0, x1, x2, x3⟩, y1, y2, y3⟩ := H5.out
    refine ⟨fun x hx => ?_, y1.below hb7, x3.trans (hb7.mono x3.size)⟩
    simp only [List.mem_cons, List.not_mem_nil, or_false] at hx
    rcases hx with rfl | rfl | rfl | rfl | rfl | rfl | rfl
    · exact (hb7.block _ x0.lt).trans x0
    · exact (hb7.block _ x1.lt).trans x1
    · exact (hb7.block _ x2.lt).trans x2
    · exact (hb7.block _ y2.lt).trans y2
    · exact y3.below hb7
    · exact (Boxed.new w5 _ _).alloc _
    · have h := Boxed.new (w5.alloc (.cells #[.slice (some ⟨gE, 0, none⟩) js.length js.length] 23)) 23 (.slice B p.length d)
      rwa [World.size_alloc] at h
  have hsz7 : ((w5.alloc (.cells #[.slice (some ⟨gE, 0, none⟩) js.length js.length] 23)).alloc (.cells #[.slice B p.length d] 23)).heap.size = w5.heap.size + 1 + 1 := by simp
  clear H5 ca cb cc la lb lc
  generalize ((w5.alloc (.cells #[.slice (some ⟨gE, 0, none⟩) js.length js.length] 23)).alloc (.cells #[.slice B p.length d] 23)) = w7 at *
  have hgl := gsL_len l js p
  have hgEl : gE < w7.heap.size := (HW0.out.1 (gE, 3, (ic (endsL js p)).toArray) (by simp)).lt
  have HNE : Hid (∀ x ∈ [(w.heap.size, 28, #[Value.slice A js.length c]), (w.heap.size + 1, 23, #[.slice B p.length d]), (w.heap.size + 1 + 1, 3, #[.int .i64 l]), (w2.heap.size + 1, 23, #[.slice (some ⟨w2.heap.size, 0, none⟩) p.length p.length]), (gE, 3, (ic (endsL js p)).toArray), (w5.heap.size, 23, #[.slice (some ⟨gE, 0, none⟩) js.length js.length]), (w5.heap.size + 1, 23, #[.slice B p.length d])], x.1 ≠ w2.heap.size) := fun x hx => by
    simp only [List.mem_cons, List.not_mem_nil, or_false] at hx
    rcases hx with rfl | rfl | rfl | rfl | rfl | rfl | rfl
    all_goals
      simp only
      omega
  refine wpIn_rangeFunc_ownG (F := Fence.wide) rfl (by omega) (gf := 173) (lb := #[.pointer (some ⟨w5.heap.size + 1, 0, none⟩)]) rfl trivial (enters_of Try.func173 (by kernel_rfl) rfl)
    (back_stops Fence.wide 5 trivial rfl (by omega) (w5.heap.size + 1) w.heap.size B d p hp8 w7 (by omega) (by omega) (HW0.out.1 (w5.heap.size + 1, 23, #[.slice B p.length d]) (by simp)) (fun k h => by
      obtain ⟨a, e1, e2⟩ := hq.nat h
      have hrow : a.block < w.heap.size := by
        obtain ⟨a', e3, e4, _⟩ := hq (by rw [ic_len]; simp; omega)
        rw [e1] at e3; injection e3 with e3; subst e3; exact e4
      exact ⟨a, e1, hrow, (HW0.out.2.2.cell (p := a.add k) (by rw [add_block]; exact hrow)).trans e2⟩))
    (fun h k => ⟨h.1.trans k.1, fun v hv => k.2 v (h.2 v hv)⟩)
    (fun W l' o o' hl ho hc hw => ⟨belowK_b (w := w7) (by omega) W l' o o' hl ho hc hw, fun v hv => hv.kept (grownBy_putObj' W l' o') (fun e => by cases e; omega)⟩) (Below.refl _ _) (fun _ => rfl)
    (fun pre W => (BlockIs W w2.heap.size 3 (ic (stL p.length (gsL l js p) pre)).toArray ∧ Fix [(w.heap.size, 28, #[.slice A js.length c]), (w.heap.size + 1, 23, #[.slice B p.length d]), (w.heap.size + 1 + 1, 3, #[.int .i64 l]), (w2.heap.size + 1, 23, #[.slice (some ⟨w2.heap.size, 0, none⟩) p.length p.length]), (gE, 3, (ic (endsL js p)).toArray), (w5.heap.size, 23, #[.slice (some ⟨gE, 0, none⟩) js.length js.length]), (w5.heap.size + 1, 23, #[.slice B p.length d])] W) ∧ Below w.heap.size w W)
    (fun _ _ _ => False)
    (OwnFrom.and (OwnFrom.and (Own.from (block_own _ _ _) _) (Own.from (fix_own _) _)) (ownFrom_below (Nat.le_refl _) (by omega)))
    (fun _ _ _ _ _ hs _ _ => hs)
    ⟨⟨by rw [ic_made] at HW0; exact HW0.out.2.1, HW0.out.1⟩, HW0.out.2.2⟩
    (fun x => { tmps := #[.slice A js.length c, .slice B p.length d, .int .i64 l, .pointer (some ⟨w.heap.size, 0, none⟩), .pointer (some ⟨w.heap.size + 1, 0, none⟩), .pointer (some ⟨w.heap.size + 1 + 1, 0, none⟩), .slice none 0 0, .bool false, .pointer (some ⟨w2.heap.size + 1, 0, none⟩), .pointer (some ⟨w5.heap.size, 0, none⟩), .int .i64 (x.1 : Int), .int .i64 ((p[x.1]'x.2 : Nat) : Int), .slice A js.length c, .bool true, .bool false, .bool false, .slice A js.length c, .int .i64 (js.length : Int), .slice B p.length d, .bool true, .bool false, .bool false, .bool false, .int .i64 l, .bool (decide (l < 0)), .bool (decide (l < 0)), .bool (decide (l < 0)), .int .i64 l, .bool (decide (500 < l)), .bool (decide (l < 0) || decide (500 < l)), undef, .slice B p.length d, .int .i64 (p.length : Int), .slice (some ⟨w2.heap.size, 0, none⟩) p.length p.length, .slice A js.length c, .slice B p.length d, .slice (some ⟨gE, 0, none⟩) js.length js.length, .slice B p.length d, .func (.func 173) #[] #[.pointer (some ⟨w5.heap.size + 1, 0, none⟩)], .int .i64 (x.1 : Int), .int .i64 ((p[x.1]'x.2 : Nat) : Int), undef, undef, undef, undef, undef, undef, undef, undef, undef, undef, undef, undef, undef, undef, undef, undef, undef, undef, undef, undef, undef, undef, undef, undef, undef, undef, undef, undef, undef, undef, undef, undef, undef, undef], defers := [] }) ?assign ?body ?done ?stop
  case assign =>
    intro l' x W K hK
    unfold encB
    gi_wp2
    exact hK
  case body =>
    rintro l' pre ⟨k, hk⟩ W ⟨⟨hB, hF⟩, hb⟩ hlt
    dsimp only
    have c3 := Boxed.cell (hF (w.heap.size, 28, #[.slice A js.length c]) (by simp))
    have c4 := Boxed.cell (hF (w.heap.size + 1, 23, #[.slice B p.length d]) (by simp))
    have c5 := Boxed.cell (hF (w.heap.size + 1 + 1, 3, #[.int .i64 l]) (by simp))
    have c8 := Boxed.cell (hF (w2.heap.size + 1, 23, #[.slice (some ⟨w2.heap.size, 0, none⟩) p.length p.length]) (by simp))
    have c9 := Boxed.cell (hF (w5.heap.size, 23, #[.slice (some ⟨gE, 0, none⟩) js.length js.length]) (by simp))
    have hE : BlockIs W gE 3 (ic (endsL js p)).toArray := hF (gE, 3, (ic (endsL js p)).toArray) (by simp)
    obtain ⟨a, hA', hc⟩ := (hq.below hb).nat hk
    subst hA'
    have hj : p[k] < js.length := perm_lt hp (List.getElem_mem hk)
    obtain ⟨ad, hA, hbl, _, _, _, hjd⟩ := (hr.below hb).job hj
    subst hA
    have hel : p[k] < (endsL js p).length := by rw [endsL_len]; exact hj
    have hce := hE.int hel
    have heb := endsL_bd hg hp _ (List.getElem_mem hel)
    have hgm : k < (gsL l js p).length := by omega
    have hG := gsL_at l js p k hk
    rw [getD_at js j0 hj, getD_at _ 0 hel] at hG
    obtain ⟨_, _, _, _, _, _, d0, d1⟩ := okJ_out (hok _ (List.getElem_mem hj))
    have hgd : (gsL l js p).getD k 0 = l + js[p[k]].d - (endsL js p)[p[k]] := by rw [getD_at _ 0 hgm]; exact hG
    have hxl := stL_len p.length (gsL l js p) pre
    obtain ⟨old, hck⟩ : ∃ old, W.cell? ⟨w2.heap.size, k, none⟩ = some (.int .i64 old) := ⟨_, hB.int (k := k) (by omega)⟩
    have hfz := hB.frozen k
    have HST := Lib.hid (stL_snoc p.length (gsL l js p) pre ⟨k, hk⟩)
    have HI := Lib.hid (And.intro hB (And.intro hF hb))
    clear hB hF hb hE hbl hlt hc
    have hy0 : (0 : Int) ≤ p[k] := by omega
    have hy1 : (p[k] : Int) < js.length := by omega
    generalize (endsL js p)[p[k]] = en at *
    generalize js[p[k]] = j at *
    clear hel hG hj
    generalize p[k] = y at *
    have hk0 : (0 : Int) ≤ k := by omega
    have hk1 : (k : Int) < p.length := by omega
    have hw1 := IntWalk.i64_in (l + j.d) (by omega)
    have hw2 := IntWalk.i64_in (l + j.d - en) (by omega)
    have hy2 : y < js.length := by omega
    obtain ⟨W1, hW1⟩ : ∃ W1, W1 = W.drew := ⟨_, rfl⟩
    have c3 : W1.cell? ⟨w.heap.size, 0, none⟩ = some (.slice (some ad) js.length c) := by rw [hW1]; exact c3
    have c5 : W1.cell? ⟨w.heap.size + 1 + 1, 0, none⟩ = some (.int .i64 l) := by rw [hW1]; exact c5
    have c8' := c8
    have c8 : W1.cell? ⟨w2.heap.size + 1, 0, none⟩ = some (.slice (some ⟨w2.heap.size, 0, none⟩) p.length p.length) := by rw [hW1]; exact c8'
    have c9 : W1.cell? ⟨w5.heap.size, 0, none⟩ = some (.slice (some ⟨gE, 0, none⟩) js.length js.length) := by rw [hW1]; exact c9
    have hce : W1.cell? ⟨gE, y, none⟩ = some (.int .i64 en) := by rw [hW1]; exact hce
    have hjd : W1.cell? ⟨(ad.add (y * 4)).block, (ad.add (y * 4)).off + 3, none⟩ = some (.int .i64 j.d) := by rw [hW1]; exact hjd
    have hck : W1.cell? ⟨w2.heap.size, k, none⟩ = some (.int .i64 old) := by rw [hW1]; exact hck
    have hfz : W1.frozen? ⟨w2.heap.size, k, none⟩ = false := by rw [hW1]; exact hfz
    gi_wp2
    refine wpIn_region_detR (fun _ => trivial) (by kernel_rfl) (by kernel_rfl) (fun (_ : Unit) L w' => (L.getD 15 true = false → w' = W1) ∧ (L.getD 15 true = true → w' = W1.setCell ⟨w2.heap.size, k, none⟩ (.int .i64 (l + j.d - en))))
      (fun _ kk => #[.slice (some ⟨w2.heap.size, 0, none⟩) p.length p.length, .int .i64 (k : Int), .int .i64 l, .slice (some ad) js.length c, .int .i64 (y : Int), .pointer (some (ad.add (y * 4))), .pointer (some ⟨(ad.add (y * 4)).block, (ad.add (y * 4)).off + 3, none⟩), .int .i64 j.d, .int .i64 (l + j.d), .slice (some ⟨gE, 0, none⟩) js.length js.length, .int .i64 (y : Int), .pointer (some ⟨gE, y, none⟩), .int .i64 en, .int .i64 (l + j.d - en), .pointer (some ⟨w2.heap.size, k, none⟩), undef].getD kk undef) () (by kernel_rfl) (by kernel_rfl) ⟨fun _ => hW1.symm, fun h => absurd h (by simp)⟩ ?_ ?_
    · intro _ L tm w' hall hS hsz hlow hval
      have ht : tm = #[.slice (some ad) js.length c, .slice (some a) p.length d, .int .i64 l, .pointer (some ⟨w.heap.size, 0, none⟩), .pointer (some ⟨w.heap.size + 1, 0, none⟩), .pointer (some ⟨w.heap.size + 1 + 1, 0, none⟩), .slice none 0 0, .bool false, .pointer (some ⟨w2.heap.size + 1, 0, none⟩), .pointer (some ⟨w5.heap.size, 0, none⟩), .int .i64 (k : Int), .int .i64 (y : Int), .slice (some ad) js.length c, .bool true, .bool false, .bool false, .slice (some ad) js.length c, .int .i64 (js.length : Int), .slice (some a) p.length d, .bool true, .bool false, .bool false, .bool false, .int .i64 l, .bool (decide (l < 0)), .bool (decide (l < 0)), .bool (decide (l < 0)), .int .i64 l, .bool (decide (500 < l)), .bool (decide (l < 0) || decide (500 < l)), undef, .slice (some a) p.length d, .int .i64 (p.length : Int), .slice (some ⟨w2.heap.size, 0, none⟩) p.length p.length, .slice (some ad) js.length c, .slice (some a) p.length d, .slice (some ⟨gE, 0, none⟩) js.length js.length, .slice (some a) p.length d, .func (.func 173) #[] #[.pointer (some ⟨w5.heap.size + 1, 0, none⟩)], .int .i64 (k : Int), .int .i64 (y : Int), .slice (some ⟨w2.heap.size, 0, none⟩) p.length p.length, .int .i64 (k : Int), .int .i64 l, .slice (some ad) js.length c, .int .i64 (y : Int), .pointer (some (ad.add (y * 4))), .pointer (some ⟨(ad.add (y * 4)).block, (ad.add (y * 4)).off + 3, none⟩), .int .i64 j.d, .int .i64 (l + j.d), .slice (some ⟨gE, 0, none⟩) js.length js.length, .int .i64 (y : Int), .pointer (some ⟨gE, y, none⟩), .int .i64 en, .int .i64 (l + j.d - en), .pointer (some ⟨w2.heap.size, k, none⟩), undef, undef, undef, undef, undef, undef, undef, undef, undef, undef, undef, undef, undef, undef, undef, undef, undef, undef, undef] := by
        refine arr_of _ _ hsz fun t ht => ?_
        have ht' : t < 75 := ht
        rcases (by omega : t = 0 ∨ t = 1 ∨ t = 2 ∨ t = 3 ∨ t = 4 ∨ t = 5 ∨ t = 6 ∨ t = 7 ∨ t = 8 ∨ t = 9 ∨ t = 10 ∨ t = 11 ∨ t = 12 ∨ t = 13 ∨ t = 14 ∨ t = 15 ∨ t = 16 ∨ t = 17 ∨ t = 18 ∨ t = 19 ∨ t = 20 ∨ t = 21 ∨ t = 22 ∨ t = 23 ∨ t = 24 ∨ t = 25 ∨ t = 26 ∨ t = 27 ∨ t = 28 ∨ t = 29 ∨ t = 30 ∨ t = 31 ∨ t = 32 ∨ t = 33 ∨ t = 34 ∨ t = 35 ∨ t = 36 ∨ t = 37 ∨ t = 38 ∨ t = 39 ∨ t = 40 ∨ t = 41 ∨ t = 42 ∨ t = 43 ∨ t = 44 ∨ t = 45 ∨ t = 46 ∨ t = 47 ∨ t = 48 ∨ t = 49 ∨ t = 50 ∨ t = 51 ∨ t = 52 ∨ t = 53 ∨ t = 54 ∨ t = 55 ∨ t = 56 ∨ t = 57 ∨ t = 58 ∨ t = 59 ∨ t = 60 ∨ t = 61 ∨ t = 62 ∨ t = 63 ∨ t = 64 ∨ t = 65 ∨ t = 66 ∨ t = 67 ∨ t = 68 ∨ t = 69 ∨ t = 70 ∨ t = 71 ∨ t = 72 ∨ t = 73 ∨ t = 74) with rfl | rfl | rfl | rfl | rfl | rfl | rfl | rfl | rfl | rfl | rfl | rfl | rfl | rfl | rfl | rfl | rfl | rfl | rfl | rfl | rfl | rfl | rfl | rfl | rfl | rfl | rfl | rfl | rfl | rfl | rfl | rfl | rfl | rfl | rfl | rfl | rfl | rfl | rfl | rfl | rfl | rfl | rfl | rfl | rfl | rfl | rfl | rfl | rfl | rfl | rfl | rfl | rfl | rfl | rfl | rfl | rfl | rfl | rfl | rfl | rfl | rfl | rfl | rfl | rfl | rfl | rfl | rfl | rfl | rfl | rfl | rfl | rfl | rfl | rfl
        · exact hlow 0 (by kernel_rfl)
        · exact hlow 1 (by kernel_rfl)
        · exact hlow 2 (by kernel_rfl)
        · exact hlow 3 (by kernel_rfl)
        · exact hlow 4 (by kernel_rfl)
        · exact hlow 5 (by kernel_rfl)
        · exact hlow 6 (by kernel_rfl)
        · exact hlow 7 (by kernel_rfl)
        · exact hlow 8 (by kernel_rfl)
        · exact hlow 9 (by kernel_rfl)
        · exact hlow 10 (by kernel_rfl)
        · exact hlow 11 (by kernel_rfl)
        · exact hlow 12 (by kernel_rfl)
        · exact hlow 13 (by kernel_rfl)
        · exact hlow 14 (by kernel_rfl)
        · exact hlow 15 (by kernel_rfl)
        · exact hlow 16 (by kernel_rfl)
        · exact hlow 17 (by kernel_rfl)
        · exact hlow 18 (by kernel_rfl)
        · exact hlow 19 (by kernel_rfl)
        · exact hlow 20 (by kernel_rfl)
        · exact hlow 21 (by kernel_rfl)
        · exact hlow 22 (by kernel_rfl)
        · exact hlow 23 (by kernel_rfl)
        · exact hlow 24 (by kernel_rfl)
        · exact hlow 25 (by kernel_rfl)
        · exact hlow 26 (by kernel_rfl)
        · exact hlow 27 (by kernel_rfl)
        · exact hlow 28 (by kernel_rfl)
        · exact hlow 29 (by kernel_rfl)
        · exact hlow 30 (by kernel_rfl)
        · exact hlow 31 (by kernel_rfl)
        · exact hlow 32 (by kernel_rfl)
        · exact hlow 33 (by kernel_rfl)
        · exact hlow 34 (by kernel_rfl)
        · exact hlow 35 (by kernel_rfl)
        · exact hlow 36 (by kernel_rfl)
        · exact hlow 37 (by kernel_rfl)
        · exact hlow 38 (by kernel_rfl)
        · exact hlow 39 (by kernel_rfl)
        · exact hlow 40 (by kernel_rfl)
        · exact hval 0 _ 41 rfl rfl
        · exact hval 1 _ 42 rfl rfl
        · exact hval 2 _ 43 rfl rfl
        · exact hval 3 _ 44 rfl rfl
        · exact hval 4 _ 45 rfl rfl
        · exact hval 5 _ 46 rfl rfl
        · exact hval 6 _ 47 rfl rfl
        · exact hval 7 _ 48 rfl rfl
        · exact hval 8 _ 49 rfl rfl
        · exact hval 9 _ 50 rfl rfl
        · exact hval 10 _ 51 rfl rfl
        · exact hval 11 _ 52 rfl rfl
        · exact hval 12 _ 53 rfl rfl
        · exact hval 13 _ 54 rfl rfl
        · exact hval 14 _ 55 rfl rfl
        · exact hlow 56 (by kernel_rfl)
        · exact hlow 57 (by kernel_rfl)
        · exact hlow 58 (by kernel_rfl)
        · exact hlow 59 (by kernel_rfl)
        · exact hlow 60 (by kernel_rfl)
        · exact hlow 61 (by kernel_rfl)
        · exact hlow 62 (by kernel_rfl)
        · exact hlow 63 (by kernel_rfl)
        · exact hlow 64 (by kernel_rfl)
        · exact hlow 65 (by kernel_rfl)
        · exact hlow 66 (by kernel_rfl)
        · exact hlow 67 (by kernel_rfl)
        · exact hlow 68 (by kernel_rfl)
        · exact hlow 69 (by kernel_rfl)
        · exact hlow 70 (by kernel_rfl)
        · exact hlow 71 (by kernel_rfl)
        · exact hlow 72 (by kernel_rfl)
        · exact hlow 73 (by kernel_rfl)
        · exact hlow 74 (by kernel_rfl)
      subst ht
      obtain rfl := hS.2 (hall 15 (by decide))
      clear hlow hval hsz hall hS
      have hIB := HI.out
      obtain ⟨V, hV⟩ : ∃ V, V = W1.setCell ⟨w2.heap.size, k, none⟩ (.int .i64 (l + j.d - en)) := ⟨_, rfl⟩
      have hBV : BlockIs V w2.heap.size 3 (ic ((stL p.length (gsL l js p) pre).set k (l + j.d - en))).toArray := by
        rw [hV, hW1, ← ic_set]; exact (BlockIs.drew hIB.1).set k _
      have hFV : Fix [(w.heap.size, 28, #[.slice (some ad) js.length c]), (w.heap.size + 1, 23, #[.slice (some a) p.length d]), (w.heap.size + 1 + 1, 3, #[.int .i64 l]), (w2.heap.size + 1, 23, #[.slice (some ⟨w2.heap.size, 0, none⟩) p.length p.length]), (gE, 3, (ic (endsL js p)).toArray), (w5.heap.size, 23, #[.slice (some ⟨gE, 0, none⟩) js.length js.length]), (w5.heap.size + 1, 23, #[.slice (some a) p.length d])] V := by
        rw [hV, hW1]
        exact Fix.set (W := W.drew) hIB.2.1 HNE.out k _
      have hbV : Below w.heap.size w V := by
        rw [hV, hW1]; exact (hIB.2.2.drew).setCell (p := ⟨w2.heap.size, k, none⟩) (by omega) _
      have hKV : KeepsOthers W V := by rw [hV, hW1]; exact (KeepsOthers.drew W).trans (KeepsOthers.setCell _ _ _)
      have hBwV : Below w.heap.size W V := by rw [hV, hW1]; exact ((Below.refl _ W).drew).setCell (p := ⟨w2.heap.size, k, none⟩) (by omega) _
      have hKbV : ∀ v, Boxed W (w5.heap.size + 1) 23 v → Boxed V (w5.heap.size + 1) 23 v := fun v hv => by
        rw [hV, hW1]; exact BlockIs.otherQ (w := W.drew) hv (by omega) k _
      have HV := Lib.hid (And.intro hBV (And.intro hFV (And.intro hbV (And.intro hKV (And.intro hBwV hKbV)))))
      have c4 := Boxed.cell (hFV (w.heap.size + 1, 23, #[.slice (some a) p.length d]) (by simp))
      have c8 := Boxed.cell (hFV (w2.heap.size + 1, 23, #[.slice (some ⟨w2.heap.size, 0, none⟩) p.length p.length]) (by simp))
      have hLS : ((stL p.length (gsL l js p) pre).set k (l + j.d - en)).length = p.length := by rw [List.length_set, hxl]
      have hcg := hBV.int (k := k) (by omega)
      rw [List.getElem_set_self] at hcg
      have hfz := hBV.frozen k
      rw [← hV]
      clear c3 c5 c9 hce hjd hck c8' hBV hFV hbV hKV hBwV hKbV hIB HI hW1 hV
      by_cases hlt : k + 1 < p.length
      · have hw3 := IntWalk.i64_in ((k : Int) + 1) (by omega)
        have hn0 : (0 : Int) ≤ (k : Int) + 1 := by omega
        have hn1 : (k : Int) + 1 < p.length := by omega
        have hn2 : ((k : Int) + 1).toNat = k + 1 := by omega
        have hn3 : decide ((k + 1 : Nat) < p.length) = true := decide_eq_true hlt
        have hcn := HV.out.1.int (k := k + 1) (by omega)
        have HNX : Hid (((stL p.length (gsL l js p) pre).set k (l + j.d - en)).getD (k + 1) 0 = ((stL p.length (gsL l js p) pre).set k (l + j.d - en))[k + 1]'(by omega)) := getD_at _ 0 (by omega)
        generalize ((stL p.length (gsL l js p) pre).set k (l + j.d - en))[k + 1]'(by omega) = nx at *
        gi_wp2
        obtain ⟨W2, hW2⟩ : ∃ W2, W2 = V.drew := ⟨_, rfl⟩
        have c8 : W2.cell? ⟨w2.heap.size + 1, 0, none⟩ = some (.slice (some ⟨w2.heap.size, 0, none⟩) p.length p.length) := by rw [hW2]; exact c8
        have hcg : W2.cell? ⟨w2.heap.size, k, none⟩ = some (.int .i64 (l + j.d - en)) := by rw [hW2]; exact hcg
        have hcn : W2.cell? ⟨w2.heap.size, k + 1, none⟩ = some (.int .i64 nx) := by rw [hW2]; exact hcn
        have hfz : W2.frozen? ⟨w2.heap.size, k, none⟩ = false := by rw [hW2]; exact hfz
        have hmin : (if nx < l + j.d - en then nx else l + j.d - en) = min (l + j.d - en) nx := by split <;> omega
        refine wpIn_region_detR (fun _ => trivial) (by kernel_rfl) (by kernel_rfl) (fun (_ : Unit) L w' => (L.getD 13 true = false → w' = W2) ∧ (L.getD 13 true = true → w' = W2.setCell ⟨w2.heap.size, k, none⟩ (.int .i64 (min (l + j.d - en) nx))))
          (fun _ kk => #[.slice (some ⟨w2.heap.size, 0, none⟩) p.length p.length, .int .i64 (k : Int), .slice (some ⟨w2.heap.size, 0, none⟩) p.length p.length, .int .i64 (k : Int), .pointer (some ⟨w2.heap.size, k, none⟩), .int .i64 (l + j.d - en), .slice (some ⟨w2.heap.size, 0, none⟩) p.length p.length, .int .i64 (k : Int), .int .i64 ((k : Int) + 1), .pointer (some ⟨w2.heap.size, k + 1, none⟩), .int .i64 nx, .int .i64 (min (l + j.d - en) nx), .pointer (some ⟨w2.heap.size, k, none⟩), undef].getD kk undef) () (by kernel_rfl) (by kernel_rfl) ⟨fun _ => hW2.symm, fun h => absurd h (by simp)⟩ ?_ ?_
        · intro _ L tm w' hall hS hsz hlow hval
          have ht : tm = #[.slice (some ad) js.length c, .slice (some a) p.length d, .int .i64 l, .pointer (some ⟨w.heap.size, 0, none⟩), .pointer (some ⟨w.heap.size + 1, 0, none⟩), .pointer (some ⟨w.heap.size + 1 + 1, 0, none⟩), .slice none 0 0, .bool false, .pointer (some ⟨w2.heap.size + 1, 0, none⟩), .pointer (some ⟨w5.heap.size, 0, none⟩), .int .i64 (k : Int), .int .i64 (y : Int), .slice (some ad) js.length c, .bool true, .bool false, .bool false, .slice (some ad) js.length c, .int .i64 (js.length : Int), .slice (some a) p.length d, .bool true, .bool false, .bool false, .bool false, .int .i64 l, .bool (decide (l < 0)), .bool (decide (l < 0)), .bool (decide (l < 0)), .int .i64 l, .bool (decide (500 < l)), .bool (decide (l < 0) || decide (500 < l)), undef, .slice (some a) p.length d, .int .i64 (p.length : Int), .slice (some ⟨w2.heap.size, 0, none⟩) p.length p.length, .slice (some ad) js.length c, .slice (some a) p.length d, .slice (some ⟨gE, 0, none⟩) js.length js.length, .slice (some a) p.length d, .func (.func 173) #[] #[.pointer (some ⟨w5.heap.size + 1, 0, none⟩)], .int .i64 (k : Int), .int .i64 (y : Int), .slice (some ⟨w2.heap.size, 0, none⟩) p.length p.length, .int .i64 (k : Int), .int .i64 l, .slice (some ad) js.length c, .int .i64 (y : Int), .pointer (some (ad.add (y * 4))), .pointer (some ⟨(ad.add (y * 4)).block, (ad.add (y * 4)).off + 3, none⟩), .int .i64 j.d, .int .i64 (l + j.d), .slice (some ⟨gE, 0, none⟩) js.length js.length, .int .i64 (y : Int), .pointer (some ⟨gE, y, none⟩), .int .i64 en, .int .i64 (l + j.d - en), .pointer (some ⟨w2.heap.size, k, none⟩), .int .i64 (k : Int), .int .i64 ((k : Int) + 1), .slice (some a) p.length d, .int .i64 (p.length : Int), .bool true, .slice (some ⟨w2.heap.size, 0, none⟩) p.length p.length, .int .i64 (k : Int), .slice (some ⟨w2.heap.size, 0, none⟩) p.length p.length, .int .i64 (k : Int), .pointer (some ⟨w2.heap.size, k, none⟩), .int .i64 (l + j.d - en), .slice (some ⟨w2.heap.size, 0, none⟩) p.length p.length, .int .i64 (k : Int), .int .i64 ((k : Int) + 1), .pointer (some ⟨w2.heap.size, k + 1, none⟩), .int .i64 nx, .int .i64 (min (l + j.d - en) nx), .pointer (some ⟨w2.heap.size, k, none⟩), undef] := by
            refine arr_of _ _ hsz fun t ht => ?_
            have ht' : t < 75 := ht
            rcases (by omega : t = 0 ∨ t = 1 ∨ t = 2 ∨ t = 3 ∨ t = 4 ∨ t = 5 ∨ t = 6 ∨ t = 7 ∨ t = 8 ∨ t = 9 ∨ t = 10 ∨ t = 11 ∨ t = 12 ∨ t = 13 ∨ t = 14 ∨ t = 15 ∨ t = 16 ∨ t = 17 ∨ t = 18 ∨ t = 19 ∨ t = 20 ∨ t = 21 ∨ t = 22 ∨ t = 23 ∨ t = 24 ∨ t = 25 ∨ t = 26 ∨ t = 27 ∨ t = 28 ∨ t = 29 ∨ t = 30 ∨ t = 31 ∨ t = 32 ∨ t = 33 ∨ t = 34 ∨ t = 35 ∨ t = 36 ∨ t = 37 ∨ t = 38 ∨ t = 39 ∨ t = 40 ∨ t = 41 ∨ t = 42 ∨ t = 43 ∨ t = 44 ∨ t = 45 ∨ t = 46 ∨ t = 47 ∨ t = 48 ∨ t = 49 ∨ t = 50 ∨ t = 51 ∨ t = 52 ∨ t = 53 ∨ t = 54 ∨ t = 55 ∨ t = 56 ∨ t = 57 ∨ t = 58 ∨ t = 59 ∨ t = 60 ∨ t = 61 ∨ t = 62 ∨ t = 63 ∨ t = 64 ∨ t = 65 ∨ t = 66 ∨ t = 67 ∨ t = 68 ∨ t = 69 ∨ t = 70 ∨ t = 71 ∨ t = 72 ∨ t = 73 ∨ t = 74) with rfl | rfl | rfl | rfl | rfl | rfl | rfl | rfl | rfl | rfl | rfl | rfl | rfl | rfl | rfl | rfl | rfl | rfl | rfl | rfl | rfl | rfl | rfl | rfl | rfl | rfl | rfl | rfl | rfl | rfl | rfl | rfl | rfl | rfl | rfl | rfl | rfl | rfl | rfl | rfl | rfl | rfl | rfl | rfl | rfl | rfl | rfl | rfl | rfl | rfl | rfl | rfl | rfl | rfl | rfl | rfl | rfl | rfl | rfl | rfl | rfl | rfl | rfl | rfl | rfl | rfl | rfl | rfl | rfl | rfl | rfl | rfl | rfl | rfl | rfl
            · exact hlow 0 (by kernel_rfl)
            · exact hlow 1 (by kernel_rfl)
            · exact hlow 2 (by kernel_rfl)
            · exact hlow 3 (by kernel_rfl)
            · exact hlow 4 (by kernel_rfl)
            · exact hlow 5 (by kernel_rfl)
            · exact hlow 6 (by kernel_rfl)
            · exact hlow 7 (by kernel_rfl)
            · exact hlow 8 (by kernel_rfl)
            · exact hlow 9 (by kernel_rfl)
            · exact hlow 10 (by kernel_rfl)
            · exact hlow 11 (by kernel_rfl)
            · exact hlow 12 (by kernel_rfl)
            · exact hlow 13 (by kernel_rfl)
            · exact hlow 14 (by kernel_rfl)
            · exact hlow 15 (by kernel_rfl)
            · exact hlow 16 (by kernel_rfl)
            · exact hlow 17 (by kernel_rfl)
            · exact hlow 18 (by kernel_rfl)
            · exact hlow 19 (by kernel_rfl)
            · exact hlow 20 (by kernel_rfl)
            · exact hlow 21 (by kernel_rfl)
            · exact hlow 22 (by kernel_rfl)
            · exact hlow 23 (by kernel_rfl)
            · exact hlow 24 (by kernel_rfl)
            · exact hlow 25 (by kernel_rfl)
            · exact hlow 26 (by kernel_rfl)
            · exact hlow 27 (by kernel_rfl)
            · exact hlow 28 (by kernel_rfl)
            · exact hlow 29 (by kernel_rfl)
            · exact hlow 30 (by kernel_rfl)
            · exact hlow 31 (by kernel_rfl)
            · exact hlow 32 (by kernel_rfl)
            · exact hlow 33 (by kernel_rfl)
            · exact hlow 34 (by kernel_rfl)
            · exact hlow 35 (by kernel_rfl)
            · exact hlow 36 (by kernel_rfl)
            · exact hlow 37 (by kernel_rfl)
            · exact hlow 38 (by kernel_rfl)
            · exact hlow 39 (by kernel_rfl)
            · exact hlow 40 (by kernel_rfl)
            · exact hlow 41 (by kernel_rfl)
            · exact hlow 42 (by kernel_rfl)
            · exact hlow 43 (by kernel_rfl)
            · exact hlow 44 (by kernel_rfl)
            · exact hlow 45 (by kernel_rfl)
            · exact hlow 46 (by kernel_rfl)
            · exact hlow 47 (by kernel_rfl)
            · exact hlow 48 (by kernel_rfl)
            · exact hlow 49 (by kernel_rfl)
            · exact hlow 50 (by kernel_rfl)
            · exact hlow 51 (by kernel_rfl)
            · exact hlow 52 (by kernel_rfl)
            · exact hlow 53 (by kernel_rfl)
            · exact hlow 54 (by kernel_rfl)
            · exact hlow 55 (by kernel_rfl)
            · exact hlow 56 (by kernel_rfl)
            · exact hlow 57 (by kernel_rfl)
            · exact hlow 58 (by kernel_rfl)
            · exact hlow 59 (by kernel_rfl)
            · exact hlow 60 (by kernel_rfl)
            · exact hval 0 _ 61 rfl rfl
            · exact hval 1 _ 62 rfl rfl
            · exact hval 2 _ 63 rfl rfl
            · exact hval 3 _ 64 rfl rfl
            · exact hval 4 _ 65 rfl rfl
            · exact hval 5 _ 66 rfl rfl
            · exact hval 6 _ 67 rfl rfl
            · exact hval 7 _ 68 rfl rfl
            · exact hval 8 _ 69 rfl rfl
            · exact hval 9 _ 70 rfl rfl
            · exact hval 10 _ 71 rfl rfl
            · exact hval 11 _ 72 rfl rfl
            · exact hval 12 _ 73 rfl rfl
            · exact hlow 74 (by kernel_rfl)
          subst ht
          obtain rfl := hS.2 (hall 13 (by decide))
          clear hlow hval hsz hall hS
          have HS : Hid (stL p.length (gsL l js p) (pre ++ [⟨k, hk⟩]) = ((stL p.length (gsL l js p) pre).set k (l + j.d - en)).set k (min (l + j.d - en) nx)) := by
            show _ = _
            rw [HST.out]; unfold stS; rw [if_pos hlt, hgd, HNX.out]
          have hO := HV.out
          rw [hW2]
          refine ⟨((hO.2.2.2.1.trans (KeepsOthers.drew V)).trans (KeepsOthers.setCell _ _ _)).from _, ⟨hO.2.2.2.2.1.trans (((Below.refl _ V).drew).setCell (p := ⟨w2.heap.size, k, none⟩) (by omega) _), fun v hv => BlockIs.otherQ (w := V.drew) (hO.2.2.2.2.2 v hv) (by omega) k _⟩, ⟨?_, Fix.set (W := V.drew) hO.2.1 HNE.out k _⟩, (hO.2.2.1.drew).setCell (p := ⟨w2.heap.size, k, none⟩) (by omega) _⟩
          rw [HS.out, ← ic_set]
          exact (BlockIs.drew hO.1).set k _
        · intro _ L a' w' kk op hLs ho hLi hLd hLn hS hlow hdep hold
          have hkk : kk < 14 := (Array.getElem?_eq_some_iff.1 ho).1
          have l8 : a'.tmps[8]?.getD undef = .pointer (some ⟨w2.heap.size + 1, 0, none⟩) := by rw [← Array.getD_eq_getD_getElem?]; exact hlow 8 (by kernel_rfl)
          have l10 : a'.tmps[10]?.getD undef = .int .i64 (k : Int) := by rw [← Array.getD_eq_getD_getElem?]; exact hlow 10 (by kernel_rfl)
          have D : ∀ j oj d, edgeB _ kk j = true → _ → _ → a'.tmps[d]?.getD undef = _ := fun j oj d h1 h2 h3 => (Array.getD_eq_getD_getElem? ..).symm.trans (hdep j oj d h1 h2 h3)
          rcases (by omega : kk = 0 ∨ kk = 1 ∨ kk = 2 ∨ kk = 3 ∨ kk = 4 ∨ kk = 5 ∨ kk = 6 ∨ kk = 7 ∨ kk = 8 ∨ kk = 9 ∨ kk = 10 ∨ kk = 11 ∨ kk = 12 ∨ kk = 13) with rfl | rfl | rfl | rfl | rfl | rfl | rfl | rfl | rfl | rfl | rfl | rfl | rfl | rfl
          · obtain rfl := Option.some.inj ho
            obtain rfl := hS.1 (hLn 13 (by kernel_rfl))
            exact ⟨rfl, .inl ⟨(), _, fun _ _ => rfl, by simp [execOp, Act.eval, l8, c8, go_sem], keepN hS (by decide)⟩⟩
          · obtain rfl := Option.some.inj ho
            obtain rfl := hS.1 (hLn 13 (by kernel_rfl))
            exact ⟨rfl, .inl ⟨(), _, fun _ _ => rfl, by simp [execOp, Act.eval, l10, go_sem], keepN hS (by decide)⟩⟩
          · obtain rfl := Option.some.inj ho
            obtain rfl := hS.1 (hLn 13 (by kernel_rfl))
            exact ⟨rfl, .inl ⟨(), _, fun _ _ => rfl, by simp [execOp, Act.eval, l8, c8, go_sem], keepN hS (by decide)⟩⟩
          · obtain rfl := Option.some.inj ho
            obtain rfl := hS.1 (hLn 13 (by kernel_rfl))
            exact ⟨rfl, .inl ⟨(), _, fun _ _ => rfl, by simp [execOp, Act.eval, l10, go_sem], keepN hS (by decide)⟩⟩
          · obtain rfl := Option.some.inj ho
            have e63 : a'.tmps[63]?.getD undef = .slice (some ⟨w2.heap.size, 0, none⟩) p.length p.length := D 2 _ 63 (by kernel_rfl) rfl rfl
            have e64 : a'.tmps[64]?.getD undef = .int .i64 (k : Int) := D 3 _ 64 (by kernel_rfl) rfl rfl
            obtain rfl := hS.1 (hLn 13 (by kernel_rfl))
            exact ⟨rfl, .inl ⟨(), _, fun _ _ => rfl, by simp [execOp, Act.eval, e63, e64, hk0, hk1, Addr.add_lit, go_sem], keepN hS (by decide)⟩⟩
          · obtain rfl := Option.some.inj ho
            have e65 : a'.tmps[65]?.getD undef = .pointer (some ⟨w2.heap.size, k, none⟩) := D 4 _ 65 (by kernel_rfl) rfl rfl
            obtain rfl := hS.1 (hLn 13 (by kernel_rfl))
            exact ⟨rfl, .inl ⟨(), _, fun _ _ => rfl, by simp [execOp, Act.eval, e65, hcg, go_sem], keepN hS (by decide)⟩⟩
          · obtain rfl := Option.some.inj ho
            obtain rfl := hS.1 (hLn 13 (by kernel_rfl))
            exact ⟨rfl, .inl ⟨(), _, fun _ _ => rfl, by simp [execOp, Act.eval, l8, c8, go_sem], keepN hS (by decide)⟩⟩
          · obtain rfl := Option.some.inj ho
            obtain rfl := hS.1 (hLn 13 (by kernel_rfl))
            exact ⟨rfl, .inl ⟨(), _, fun _ _ => rfl, by simp [execOp, Act.eval, l10, go_sem], keepN hS (by decide)⟩⟩
          · obtain rfl := Option.some.inj ho
            have e68 : a'.tmps[68]?.getD undef = .int .i64 (k : Int) := D 7 _ 68 (by kernel_rfl) rfl rfl
            obtain rfl := hS.1 (hLn 13 (by kernel_rfl))
            exact ⟨rfl, .inl ⟨(), _, fun _ _ => rfl, by simp [execOp, Act.eval, e68, hw3, go_sem], keepN hS (by decide)⟩⟩
          · obtain rfl := Option.some.inj ho
            have e67 : a'.tmps[67]?.getD undef = .slice (some ⟨w2.heap.size, 0, none⟩) p.length p.length := D 6 _ 67 (by kernel_rfl) rfl rfl
            have e69 : a'.tmps[69]?.getD undef = .int .i64 ((k : Int) + 1) := D 8 _ 69 (by kernel_rfl) rfl rfl
            obtain rfl := hS.1 (hLn 13 (by kernel_rfl))
            exact ⟨rfl, .inl ⟨(), _, fun _ _ => rfl, by simp [execOp, Act.eval, e67, e69, hn0, hn1, hn2, Addr.add_lit, go_sem], keepN hS (by decide)⟩⟩
          · obtain rfl := Option.some.inj ho
            have e70 : a'.tmps[70]?.getD undef = .pointer (some ⟨w2.heap.size, k + 1, none⟩) := D 9 _ 70 (by kernel_rfl) rfl rfl
            obtain rfl := hS.1 (hLn 13 (by kernel_rfl))
            exact ⟨rfl, .inl ⟨(), _, fun _ _ => rfl, by simp [execOp, Act.eval, e70, hcn, go_sem], keepN hS (by decide)⟩⟩
          · obtain rfl := Option.some.inj ho
            have e66 : a'.tmps[66]?.getD undef = .int .i64 (l + j.d - en) := D 5 _ 66 (by kernel_rfl) rfl rfl
            have e71 : a'.tmps[71]?.getD undef = .int .i64 nx := D 10 _ 71 (by kernel_rfl) rfl rfl
            obtain rfl := hS.1 (hLn 13 (by kernel_rfl))
            exact ⟨rfl, .inl ⟨(), _, fun _ _ => rfl, by simp [execOp, Act.eval, e66, e71, hmin, go_sem], keepN hS (by decide)⟩⟩
          · obtain rfl := Option.some.inj ho
            have e61 : a'.tmps[61]?.getD undef = .slice (some ⟨w2.heap.size, 0, none⟩) p.length p.length := D 0 _ 61 (by kernel_rfl) rfl rfl
            have e62 : a'.tmps[62]?.getD undef = .int .i64 (k : Int) := D 1 _ 62 (by kernel_rfl) rfl rfl
            obtain rfl := hS.1 (hLn 13 (by kernel_rfl))
            exact ⟨rfl, .inl ⟨(), _, fun _ _ => rfl, by simp [execOp, Act.eval, e61, e62, hk0, hk1, Addr.add_lit, go_sem], keepN hS (by decide)⟩⟩
          · obtain rfl := Option.some.inj ho
            have e73 : a'.tmps[73]?.getD undef = .pointer (some ⟨w2.heap.size, k, none⟩) := D 12 _ 73 (by kernel_rfl) rfl rfl
            have e72 : a'.tmps[72]?.getD undef = .int .i64 (min (l + j.d - en) nx) := D 11 _ 72 (by kernel_rfl) rfl rfl
            obtain rfl := hS.1 hLi
            exact ⟨rfl, .inr ⟨(), _, fun _ _ => rfl, rfl, by simp [execOp, Act.eval, e73, e72, hcg, hfz, go_sem], lastN (by rw [hLs]; decide)⟩⟩
      · have hn1 : ¬ (k : Int) + 1 < p.length := by omega
        have hn3 : decide ((k + 1 : Nat) < p.length) = false := decide_eq_false hlt
        have HS : Hid (stL p.length (gsL l js p) (pre ++ [⟨k, hk⟩]) = (stL p.length (gsL l js p) pre).set k (l + j.d - en)) := by
          show _ = _
          rw [HST.out]; unfold stS; rw [if_neg hlt, hgd]
        gi_wp2
        exact ⟨HV.out.2.2.2.1.from _, ⟨HV.out.2.2.2.2.1, HV.out.2.2.2.2.2⟩, ⟨by rw [HS.out]; exact HV.out.1, HV.out.2.1⟩, HV.out.2.2.1⟩
    · intro _ L a' w' kk op hLs ho hLi hLd hLn hS hlow hdep hold
      have hkk : kk < 16 := (Array.getElem?_eq_some_iff.1 ho).1
      have l3 : a'.tmps[3]?.getD undef = .pointer (some ⟨w.heap.size, 0, none⟩) := by rw [← Array.getD_eq_getD_getElem?]; exact hlow 3 (by kernel_rfl)
      have l5 : a'.tmps[5]?.getD undef = .pointer (some ⟨w.heap.size + 1 + 1, 0, none⟩) := by rw [← Array.getD_eq_getD_getElem?]; exact hlow 5 (by kernel_rfl)
      have l8 : a'.tmps[8]?.getD undef = .pointer (some ⟨w2.heap.size + 1, 0, none⟩) := by rw [← Array.getD_eq_getD_getElem?]; exact hlow 8 (by kernel_rfl)
      have l9 : a'.tmps[9]?.getD undef = .pointer (some ⟨w5.heap.size, 0, none⟩) := by rw [← Array.getD_eq_getD_getElem?]; exact hlow 9 (by kernel_rfl)
      have l10 : a'.tmps[10]?.getD undef = .int .i64 (k : Int) := by rw [← Array.getD_eq_getD_getElem?]; exact hlow 10 (by kernel_rfl)
      have l11 : a'.tmps[11]?.getD undef = .int .i64 (y : Int) := by rw [← Array.getD_eq_getD_getElem?]; exact hlow 11 (by kernel_rfl)
      have D : ∀ j oj d, edgeB _ kk j = true → _ → _ → a'.tmps[d]?.getD undef = _ := fun j oj d h1 h2 h3 => (Array.getD_eq_getD_getElem? ..).symm.trans (hdep j oj d h1 h2 h3)
      rcases (by omega : kk = 0 ∨ kk = 1 ∨ kk = 2 ∨ kk = 3 ∨ kk = 4 ∨ kk = 5 ∨ kk = 6 ∨ kk = 7 ∨ kk = 8 ∨ kk = 9 ∨ kk = 10 ∨ kk = 11 ∨ kk = 12 ∨ kk = 13 ∨ kk = 14 ∨ kk = 15) with rfl | rfl | rfl | rfl | rfl | rfl | rfl | rfl | rfl | rfl | rfl | rfl | rfl | rfl | rfl | rfl
      · obtain rfl := Option.some.inj ho
        obtain rfl := hS.1 (hLn 15 (by kernel_rfl))
        exact ⟨rfl, .inl ⟨(), _, fun _ _ => rfl, by simp [execOp, Act.eval, l8, c8, go_sem], keepN hS (by decide)⟩⟩
      · obtain rfl := Option.some.inj ho
        obtain rfl := hS.1 (hLn 15 (by kernel_rfl))
        exact ⟨rfl, .inl ⟨(), _, fun _ _ => rfl, by simp [execOp, Act.eval, l10, go_sem], keepN hS (by decide)⟩⟩
      · obtain rfl := Option.some.inj ho
        obtain rfl := hS.1 (hLn 15 (by kernel_rfl))
        exact ⟨rfl, .inl ⟨(), _, fun _ _ => rfl, by simp [execOp, Act.eval, l5, c5, go_sem], keepN hS (by decide)⟩⟩
      · obtain rfl := Option.some.inj ho
        obtain rfl := hS.1 (hLn 15 (by kernel_rfl))
        exact ⟨rfl, .inl ⟨(), _, fun _ _ => rfl, by simp [execOp, Act.eval, l3, c3, go_sem], keepN hS (by decide)⟩⟩
      · obtain rfl := Option.some.inj ho
        obtain rfl := hS.1 (hLn 15 (by kernel_rfl))
        exact ⟨rfl, .inl ⟨(), _, fun _ _ => rfl, by simp [execOp, Act.eval, l11, go_sem], keepN hS (by decide)⟩⟩
      · obtain rfl := Option.some.inj ho
        have e44 : a'.tmps[44]?.getD undef = .slice (some ad) js.length c := D 3 _ 44 (by kernel_rfl) rfl rfl
        have e45 : a'.tmps[45]?.getD undef = .int .i64 (y : Int) := D 4 _ 45 (by kernel_rfl) rfl rfl
        obtain rfl := hS.1 (hLn 15 (by kernel_rfl))
        exact ⟨rfl, .inl ⟨(), _, fun _ _ => rfl, by simp [execOp, Act.eval, e44, e45, hy0, hy1, go_sem], keepN hS (by decide)⟩⟩
      · obtain rfl := Option.some.inj ho
        have e46 : a'.tmps[46]?.getD undef = .pointer (some (ad.add (y * 4))) := D 5 _ 46 (by kernel_rfl) rfl rfl
        obtain rfl := hS.1 (hLn 15 (by kernel_rfl))
        exact ⟨rfl, .inl ⟨(), _, fun _ _ => rfl, by simp [execOp, Act.eval, e46, go_sem], keepN hS (by decide)⟩⟩
      · obtain rfl := Option.some.inj ho
        have e47 : a'.tmps[47]?.getD undef = .pointer (some ⟨(ad.add (y * 4)).block, (ad.add (y * 4)).off + 3, none⟩) := D 6 _ 47 (by kernel_rfl) rfl rfl
        obtain rfl := hS.1 (hLn 15 (by kernel_rfl))
        exact ⟨rfl, .inl ⟨(), _, fun _ _ => rfl, by simp [execOp, Act.eval, e47, hjd, go_sem], keepN hS (by decide)⟩⟩
      · obtain rfl := Option.some.inj ho
        have e43 : a'.tmps[43]?.getD undef = .int .i64 l := D 2 _ 43 (by kernel_rfl) rfl rfl
        have e48 : a'.tmps[48]?.getD undef = .int .i64 j.d := D 7 _ 48 (by kernel_rfl) rfl rfl
        obtain rfl := hS.1 (hLn 15 (by kernel_rfl))
        exact ⟨rfl, .inl ⟨(), _, fun _ _ => rfl, by simp [execOp, Act.eval, e43, e48, hw1, go_sem], keepN hS (by decide)⟩⟩
      · obtain rfl := Option.some.inj ho
        obtain rfl := hS.1 (hLn 15 (by kernel_rfl))
        exact ⟨rfl, .inl ⟨(), _, fun _ _ => rfl, by simp [execOp, Act.eval, l9, c9, go_sem], keepN hS (by decide)⟩⟩
      · obtain rfl := Option.some.inj ho
        obtain rfl := hS.1 (hLn 15 (by kernel_rfl))
        exact ⟨rfl, .inl ⟨(), _, fun _ _ => rfl, by simp [execOp, Act.eval, l11, go_sem], keepN hS (by decide)⟩⟩
      · obtain rfl := Option.some.inj ho
        have e50 : a'.tmps[50]?.getD undef = .slice (some ⟨gE, 0, none⟩) js.length js.length := D 9 _ 50 (by kernel_rfl) rfl rfl
        have e51 : a'.tmps[51]?.getD undef = .int .i64 (y : Int) := D 10 _ 51 (by kernel_rfl) rfl rfl
        obtain rfl := hS.1 (hLn 15 (by kernel_rfl))
        exact ⟨rfl, .inl ⟨(), _, fun _ _ => rfl, by simp [execOp, Act.eval, e50, e51, hy0, hy2, Addr.add_lit, go_sem], keepN hS (by decide)⟩⟩
      · obtain rfl := Option.some.inj ho
        have e52 : a'.tmps[52]?.getD undef = .pointer (some ⟨gE, y, none⟩) := D 11 _ 52 (by kernel_rfl) rfl rfl
        obtain rfl := hS.1 (hLn 15 (by kernel_rfl))
        exact ⟨rfl, .inl ⟨(), _, fun _ _ => rfl, by simp [execOp, Act.eval, e52, hce, go_sem], keepN hS (by decide)⟩⟩
      · obtain rfl := Option.some.inj ho
        have e49 : a'.tmps[49]?.getD undef = .int .i64 (l + j.d) := D 8 _ 49 (by kernel_rfl) rfl rfl
        have e53 : a'.tmps[53]?.getD undef = .int .i64 en := D 12 _ 53 (by kernel_rfl) rfl rfl
        obtain rfl := hS.1 (hLn 15 (by kernel_rfl))
        exact ⟨rfl, .inl ⟨(), _, fun _ _ => rfl, by simp [execOp, Act.eval, e49, e53, hw2, go_sem], keepN hS (by decide)⟩⟩
      · obtain rfl := Option.some.inj ho
        have e41 : a'.tmps[41]?.getD undef = .slice (some ⟨w2.heap.size, 0, none⟩) p.length p.length := D 0 _ 41 (by kernel_rfl) rfl rfl
        have e42 : a'.tmps[42]?.getD undef = .int .i64 (k : Int) := D 1 _ 42 (by kernel_rfl) rfl rfl
        obtain rfl := hS.1 (hLn 15 (by kernel_rfl))
        exact ⟨rfl, .inl ⟨(), _, fun _ _ => rfl, by simp [execOp, Act.eval, e41, e42, hk0, hk1, Addr.add_lit, go_sem], keepN hS (by decide)⟩⟩
      · obtain rfl := Option.some.inj ho
        have e55 : a'.tmps[55]?.getD undef = .pointer (some ⟨w2.heap.size, k, none⟩) := D 14 _ 55 (by kernel_rfl) rfl rfl
        have e54 : a'.tmps[54]?.getD undef = .int .i64 (l + j.d - en) := D 13 _ 54 (by kernel_rfl) rfl rfl
        obtain rfl := hS.1 hLi
        exact ⟨rfl, .inr ⟨(), _, fun _ _ => rfl, rfl, by simp [execOp, Act.eval, e55, e54, hck, hfz, go_sem], lastN (by rw [hLs]; decide)⟩⟩
  case done =>
    rintro D ys W hD rfl ⟨⟨hB, hF⟩, hb⟩ hK
    rw [stL_end _ _ hgl] at hB
    have c8 := Boxed.cell (hF (w2.heap.size + 1, 23, #[.slice (some ⟨w2.heap.size, 0, none⟩) p.length p.length]) (by simp))
    have hsl : (slk (gsL l js p)).length = p.length := by rw [slk_len, hgl]
    gi_wp2
    refine ⟨by simp, .inl ⟨_, _, rfl, run_takeDeferred hK, ?_⟩⟩
    refine ⟨_, results_tmp2 rfl _ _ _, ?_⟩
    have hne : D ≠ w2.heap.size := by omega
    exact ret_block rfl (by omega) ((World.putObj_heap_other hne.symm).trans hB) (by omega) (hb.trans (belowK_b (w := w7) (by omega) W D _ _ (by omega) hK rfl rfl)) _ (by rw [hsl]; rfl)
  case stop =>
    rintro D c' pre W _ _ h _
    exact h.elim
end
end Go.Proofs.Ytjnaicgmfnhjeaa
