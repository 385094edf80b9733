/- The schedule by a rule of choice: the program's. -/
import Derived.Test.YtnkoncplfedffaaPcf
import Derived.Test.YtnkoncplfedffaaRegX
import Derived.Shelf.RegionOpen
namespace Go.Proofs.Ytnkoncplfedffaa
open Go.RowKit Go.Shelf
attribute [local go_sem] Oper.semAt_some
abbrev TS : TypeId := 67
theorem own_sm {T : TypeId} {B B0 : Nat} {X Y : World} {e : TypeId} {size n : Nat} {v : Value} {xs : List Value} (h : X.ownsRow B0 e size v n xs) (hs : Sm T B X Y) (he : e ≠ T) : Y.ownsRow B0 e size v n xs := by
  refine ⟨h.1, ?_⟩
  rcases h.2 with h0 | ⟨g, cap, cur, rfl, hb, hg, hr⟩
  · exact .inl h0
  · exact .inr ⟨g, cap, cur, rfl, hb, hs.same g e cur he hg, hr⟩
theorem own_blk {w : World} {B : Nat} {e : TypeId} {size n c : Nat} {g : Nat} {xs : List Value} (h : w.ownsRow B e size (.slice (some ⟨g, 0, none⟩) n c) n xs) : ∃ cur, BlockIs w g e cur := by
  rcases h.2 with ⟨h0, _⟩ | ⟨g', cap, cur, h0, _, hk, _⟩
  · cases h0
  · injection h0 with h0
    injection h0 with h0
    injection h0 with h0
    subst h0
    exact ⟨cur, hk⟩
theorem own_nt {w : World} {B : Nat} {e t : TypeId} {size n : Nat} {v : Value} {xs : List Value} (h : w.ownsRow B e size v n xs) {k : Nat} {cs : Array Value} (hb : BlockIs w k t cs) (ht : t ≠ e) : v.ownBlock ≠ some k := by
  intro e0
  rcases h.2 with ⟨rfl, _⟩ | ⟨g, cap, cur, rfl, _, hk, _⟩
  · cases e0
  · have e1 : g = k := by injection e0
    subst e1
    rw [show w.heap[g]? = _ from hb] at hk
    injection hk with hk
    injection hk with _ hk
    exact ht hk
theorem blk_nt {w : World} {k k' : Nat} {t t' : TypeId} {cs cs' : Array Value} (h : BlockIs w k t cs) (h' : BlockIs w k' t' cs') (ht : t ≠ t') : k ≠ k' := by
  intro e
  subst e
  have h2 := (show w.heap[k]? = _ from h).symm.trans (show w.heap[k]? = _ from h')
  injection h2 with h2
  injection h2 with _ h2
  exact ht h2
theorem new_cells (w : World) (s : Sp) : ∀ j u, (cellsSp s)[j]? = some u → (w.alloc (.cells #[.int .i64 s.j, .int .i64 s.f, .int .i64 s.t] TS)).cell? ((⟨w.heap.size, 0, none⟩ : Addr).add j) = some u := fun j u hu => by
  rw [Addr.add_lit, Nat.zero_add, (BlockIs.new w TS _).cell, ← Array.getElem?_toList]; exact hu
theorem keep_app {W1 w1' : World} {v v' v0 : Value} {tmp : Obj} {B b n : Nat} {xs : List Value} {Tb : TypeId} (hown : W1.ownsRow B TS 3 v n xs) (hgrow : (W1.alloc tmp).grownBy w1' v.ownBlock) (hv : Boxed w1' b Tb v0) {k : Nat} {t : TypeId} {cs : Array Value} (h : BlockIs W1 k t cs) (h1 : t ≠ TS) (h2 : t ≠ Tb) : BlockIs (w1'.setCell ⟨b, 0, none⟩ v') k t cs := by
  have h3 := app_block h hgrow (own_nt hown h h1)
  have hv' : BlockIs w1' b Tb #[v0] := hv
  have hne : k ≠ b := blk_nt h3 hv' h2
  exact h3.other (a := ⟨b, 0, none⟩) hne _
theorem keep_set {W1 : World} {B n c g i : Nat} {xs : List Value} {u : Value} (hown : W1.ownsRow B TS 3 (.slice (some ⟨g, 0, none⟩) n c) n xs) {k : Nat} {t : TypeId} {cs : Array Value} (h : BlockIs W1 k t cs) (h1 : t ≠ TS) : BlockIs (W1.setCell ⟨g, i, none⟩ u) k t cs := by
  obtain ⟨cur, hg⟩ := own_blk hown
  have hne : k ≠ g := blk_nt h hg h1
  exact h.other (a := ⟨g, i, none⟩) hne _
section
variable (A : Option Addr) (c : Nat) (js : List J) (o : Int) (fv : Value) (tp : Bool) (w : World) (hr : Row w A (jc js)) (hg : goodL js = true)
include hr hg
set_option maxRecDepth 100000 in
set_option maxHeartbeats 4000000 in
theorem split_any : Calls Try.prog 72 #[.agg #[.func (.func (fRank o)) #[] #[], fv, .bool tp], .slice A js.length c] w fun e w' => ∃ v, e = .returned v ∧ w'.ownsRow w.heap.size TS 3 v (chL js o).length (spc (chL js o)) ∧ Below w.heap.size w w' := by
  have h8 := (good_out hg).1
  have hL0 : (timesR js).length = 8 := by rw [times_pad h8]; exact pad8_len (by rw [timesL_len]; exact h8)
  obtain ⟨a, b, c1, d1, e1, f1, g1, i1, hE0⟩ := list8 hL0
  have HE0 := Lib.hid hE0
  have HG := Lib.hid hg
  have hr0 := Lib.hid hr
  have x0 : BlockIs (((w.alloc (.cells #[.func (.func (fRank o)) #[] #[], fv, .bool tp] 76)).alloc (.cells #[] TS)).alloc (.cells #[.slice (some ⟨w.heap.size + 1, 0, none⟩) 0 0] 34)) w.heap.size 76 #[.func (.func (fRank o)) #[] #[], fv, .bool tp] := ((BlockIs.new w _ _).below ((Below.refl _ _).alloc (Nat.le_refl _) _)).below ((Below.refl _ _).alloc (Nat.le_refl _) _)
  have x1 : Boxed (((w.alloc (.cells #[.func (.func (fRank o)) #[] #[], fv, .bool tp] 76)).alloc (.cells #[] TS)).alloc (.cells #[.slice (some ⟨w.heap.size + 1, 0, none⟩) 0 0] 34)) (w.heap.size + 1 + 1) 34 (.slice (some ⟨w.heap.size + 1, 0, none⟩) 0 0) := by
    have h := Boxed.new ((w.alloc (.cells #[.func (.func (fRank o)) #[] #[], fv, .bool tp] 76)).alloc (.cells #[] TS)) 34 (.slice (some ⟨w.heap.size + 1, 0, none⟩) 0 0)
    simp only [World.size_alloc] at h
    exact h
  have x2 : (((w.alloc (.cells #[.func (.func (fRank o)) #[] #[], fv, .bool tp] 76)).alloc (.cells #[] TS)).alloc (.cells #[.slice (some ⟨w.heap.size + 1, 0, none⟩) 0 0] 34)).ownsRow w.heap.size TS 3 (.slice (some ⟨w.heap.size + 1, 0, none⟩) 0 0) 0 [] := by
    have h := World.ownsRow_made (e := TS) (size := 3) (w.alloc (.cells #[.func (.func (fRank o)) #[] #[], fv, .bool tp] 76)) #[] 0 (Nat.le_refl _) (by unfold maxLen; omega) rfl
    simp only [World.size_alloc] at h
    exact own_upC (h.alloc _) (Nat.le_succ _)
  have x3 : Below w.heap.size w (((w.alloc (.cells #[.func (.func (fRank o)) #[] #[], fv, .bool tp] 76)).alloc (.cells #[] TS)).alloc (.cells #[.slice (some ⟨w.heap.size + 1, 0, none⟩) 0 0] 34)) := (((Below.refl _ w).alloc (Nat.le_refl _) _).alloc (by simp) _).alloc (by simp; omega) _
  have x4 : (((w.alloc (.cells #[.func (.func (fRank o)) #[] #[], fv, .bool tp] 76)).alloc (.cells #[] TS)).alloc (.cells #[.slice (some ⟨w.heap.size + 1, 0, none⟩) 0 0] 34)).heap.size = w.heap.size + 1 + 1 + 1 := by simp
  refine (callsIn_wide (n := 6)).1 ?_
  refine callsIn_of_wp_marks Try.func72 rfl trivial ?_ rfl
  simp only [Try.ntmps72, List.size_toArray, List.length_cons, List.length_nil, Nat.reduceAdd, Nat.reduceSub, Array.replicate_succ, Array.replicate_zero, List.push_toArray, List.append_toArray, List.nil_append, List.cons_append]
  gi_wp2
  generalize (((w.alloc (.cells #[.func (.func (fRank o)) #[] #[], fv, .bool tp] 76)).alloc (.cells #[] TS)).alloc (.cells #[.slice (some ⟨w.heap.size + 1, 0, none⟩) 0 0] 34)) = w1 at *
  have HRS : Hid (∀ w', Row w' A (jc js) → Calls Try.prog 80 #[.slice A js.length c] w' fun e w'' => e = .returned (.agg #[.int .i64 a, .int .i64 b, .int .i64 c1, .int .i64 d1, .int .i64 e1, .int .i64 f1, .int .i64 g1, .int .i64 i1]) ∧ Below w'.heap.size w' w'') := fun w' h => by
    have := restsOf_any A c js w' h h8
    rw [HE0.out] at this
    exact this
  have H1 := Lib.hid (And.intro x0 (And.intro x1 (And.intro x2 x3)))
  have hrw := Lib.hid (hr.below x3)
  have k0 := x0.cell 0
  have k1 := x0.cell 1
  have k2 := x0.cell 2
  simp only [List.getElem?_toArray, List.getElem?_cons_zero, List.getElem?_cons_succ] at k0 k1 k2
  have HX0 : Hid (BlockIs w1.drew w.heap.size 76 #[.func (.func (fRank o)) #[] #[], fv, .bool tp]) := x0.drew
  have hrwd : Hid (Row w1.drew A (jc js)) := hrw.out.drewN 1
  clear x0 x1 x2 x3 hr hL0 hE0 hg
  refine wpIn_mono (Q := Exit.then (fun a' w' => ∃ w2, Below w1.heap.size w1 w2 ∧ a' = { tmps := #[.agg #[.func (.func (fRank o)) #[] #[], fv, .bool tp], .slice A js.length c, .pointer (some ⟨w.heap.size, 0, none⟩), undef, .slice none 0 0, .pointer (some ⟨w.heap.size + 1 + 1, 0, none⟩), undef, undef, .slice (some ⟨w.heap.size + 1, 0, none⟩) 0 0, .agg #[.func (.func (fRank o)) #[] #[], fv, .bool tp], .slice A js.length c, .slice A js.length c, .agg #[.int .i64 a, .int .i64 b, .int .i64 c1, .int .i64 d1, .int .i64 e1, .int .i64 f1, .int .i64 g1, .int .i64 i1], .func (.func 115) #[] #[.pointer (some ⟨w2.heap.size + 1 + 1, 0, none⟩), .pointer (some ⟨w2.heap.size + 1 + 1 + 1, 0, none⟩), .pointer (some ⟨w2.heap.size + 1, 0, none⟩), .pointer (some ⟨w2.heap.size, 0, none⟩)], undef, undef, undef, undef, undef, undef, undef, undef, undef, undef, undef, undef, undef, undef, undef, undef, undef, undef, undef, undef, undef, undef, undef, undef, undef, undef, undef], defers := [] } ∧ w' = ((((w2.alloc (.cells #[.func (.func (fRank o)) #[] #[], fv, .bool tp] 76)).alloc (.cells #[.slice A js.length c] 26)).alloc (.cells #[.int .i64 0] 3)).alloc (.cells #[.int .i64 a, .int .i64 b, .int .i64 c1, .int .i64 d1, .int .i64 e1, .int .i64 f1, .int .i64 g1, .int .i64 i1] 105))) (fun _ _ _ => False)) ?_ ?_
  · refine wpIn_wide.2 ?_
    go_region_with (first
      | (go_at_call 80; refine (HRS.out _ hrwd.out).mono ?_; rintro e w2 ⟨rfl, hb2⟩; have z0 := (HX0.out.below hb2).cell 0; have z1 := (HX0.out.below hb2).cell 1; have z2 := (HX0.out.below hb2).cell 2; simp only [List.getElem?_toArray, List.getElem?_cons_zero, List.getElem?_cons_succ] at z0 z1 z2)
      | (go_at_call 81; refine (pieces_any A c js.length 0 _ fv tp a b c1 d1 e1 f1 g1 i1 _).mono ?_; rintro e w3 ⟨rfl, rfl⟩))
    all_goals exact ⟨w2, ((Below.refl w1.heap.size w1).drew).trans hb2, rfl, rfl⟩
  rintro e a' w' hq
  cases e <;> first | exact hq.elim | skip
  obtain ⟨w2, hb2, rfl, rfl⟩ := hq
  gi_wp2
  have hq3 : Below w2.heap.size w2 ((((w2.alloc (.cells #[.func (.func (fRank o)) #[] #[], fv, .bool tp] 76)).alloc (.cells #[.slice A js.length c] 26)).alloc (.cells #[.int .i64 0] 3)).alloc (.cells #[.int .i64 a, .int .i64 b, .int .i64 c1, .int .i64 d1, .int .i64 e1, .int .i64 f1, .int .i64 g1, .int .i64 i1] 105)) := ((((Below.refl _ w2).alloc (Nat.le_refl _) _).alloc (by simp) _).alloc (by simp; omega) _).alloc (by simp; omega) _
  have cC : BlockIs ((((w2.alloc (.cells #[.func (.func (fRank o)) #[] #[], fv, .bool tp] 76)).alloc (.cells #[.slice A js.length c] 26)).alloc (.cells #[.int .i64 0] 3)).alloc (.cells #[.int .i64 a, .int .i64 b, .int .i64 c1, .int .i64 d1, .int .i64 e1, .int .i64 f1, .int .i64 g1, .int .i64 i1] 105)) w2.heap.size 76 #[.func (.func (fRank o)) #[] #[], fv, .bool tp] := (((BlockIs.new w2 _ _).below ((Below.refl _ _).alloc (Nat.le_refl _) _)).below ((Below.refl _ _).alloc (Nat.le_refl _) _)).below ((Below.refl _ _).alloc (Nat.le_refl _) _)
  have cJ : BlockIs ((((w2.alloc (.cells #[.func (.func (fRank o)) #[] #[], fv, .bool tp] 76)).alloc (.cells #[.slice A js.length c] 26)).alloc (.cells #[.int .i64 0] 3)).alloc (.cells #[.int .i64 a, .int .i64 b, .int .i64 c1, .int .i64 d1, .int .i64 e1, .int .i64 f1, .int .i64 g1, .int .i64 i1] 105)) (w2.heap.size + 1) 26 #[.slice A js.length c] := by
    have h := ((BlockIs.new (w2.alloc (.cells #[.func (.func (fRank o)) #[] #[], fv, .bool tp] 76)) 26 #[.slice A js.length c]).below ((Below.refl _ _).alloc (Nat.le_refl _) (.cells #[.int .i64 0] 3))).below ((Below.refl _ _).alloc (Nat.le_refl _) (.cells #[.int .i64 a, .int .i64 b, .int .i64 c1, .int .i64 d1, .int .i64 e1, .int .i64 f1, .int .i64 g1, .int .i64 i1] 105))
    simpa only [World.size_alloc] using h
  have cN : BlockIs ((((w2.alloc (.cells #[.func (.func (fRank o)) #[] #[], fv, .bool tp] 76)).alloc (.cells #[.slice A js.length c] 26)).alloc (.cells #[.int .i64 0] 3)).alloc (.cells #[.int .i64 a, .int .i64 b, .int .i64 c1, .int .i64 d1, .int .i64 e1, .int .i64 f1, .int .i64 g1, .int .i64 i1] 105)) (w2.heap.size + 1 + 1) 3 #[.int .i64 0] := by
    have h := (BlockIs.new ((w2.alloc (.cells #[.func (.func (fRank o)) #[] #[], fv, .bool tp] 76)).alloc (.cells #[.slice A js.length c] 26)) 3 #[.int .i64 0]).below ((Below.refl _ _).alloc (Nat.le_refl _) (.cells #[.int .i64 a, .int .i64 b, .int .i64 c1, .int .i64 d1, .int .i64 e1, .int .i64 f1, .int .i64 g1, .int .i64 i1] 105))
    simpa only [World.size_alloc] using h
  have cR : BlockIs ((((w2.alloc (.cells #[.func (.func (fRank o)) #[] #[], fv, .bool tp] 76)).alloc (.cells #[.slice A js.length c] 26)).alloc (.cells #[.int .i64 0] 3)).alloc (.cells #[.int .i64 a, .int .i64 b, .int .i64 c1, .int .i64 d1, .int .i64 e1, .int .i64 f1, .int .i64 g1, .int .i64 i1] 105)) (w2.heap.size + 1 + 1 + 1) 105 (ic (pad8 (timesL js))).toArray := by
    have h := BlockIs.new (((w2.alloc (.cells #[.func (.func (fRank o)) #[] #[], fv, .bool tp] 76)).alloc (.cells #[.slice A js.length c] 26)).alloc (.cells #[.int .i64 0] 3)) 105 #[.int .i64 a, .int .i64 b, .int .i64 c1, .int .i64 d1, .int .i64 e1, .int .i64 f1, .int .i64 g1, .int .i64 i1]
    rw [← times_pad h8, HE0.out]
    simp only [World.size_alloc] at h
    exact h
  have hz3 : ((((w2.alloc (.cells #[.func (.func (fRank o)) #[] #[], fv, .bool tp] 76)).alloc (.cells #[.slice A js.length c] 26)).alloc (.cells #[.int .i64 0] 3)).alloc (.cells #[.int .i64 a, .int .i64 b, .int .i64 c1, .int .i64 d1, .int .i64 e1, .int .i64 f1, .int .i64 g1, .int .i64 i1] 105)).heap.size = w2.heap.size + 1 + 1 + 1 + 1 := by simp
  have hbw2 := below_and H1.out.2.2.2 hb2
  have hbw3 := below_and hbw2 hq3
  have hlt2 : w.heap.size + 1 + 1 < w2.heap.size := by have := hb2.size; omega
  have y1 : Boxed ((((w2.alloc (.cells #[.func (.func (fRank o)) #[] #[], fv, .bool tp] 76)).alloc (.cells #[.slice A js.length c] 26)).alloc (.cells #[.int .i64 0] 3)).alloc (.cells #[.int .i64 a, .int .i64 b, .int .i64 c1, .int .i64 d1, .int .i64 e1, .int .i64 f1, .int .i64 g1, .int .i64 i1] 105)) (w.heap.size + 1 + 1) 34 (.slice (some ⟨w.heap.size + 1, 0, none⟩) 0 0) := (hq3.block _ hlt2).trans ((hb2.block _ H1.out.2.1.lt).trans H1.out.2.1)
  have y2 : World.ownsRow ((((w2.alloc (.cells #[.func (.func (fRank o)) #[] #[], fv, .bool tp] 76)).alloc (.cells #[.slice A js.length c] 26)).alloc (.cells #[.int .i64 0] 3)).alloc (.cells #[.int .i64 a, .int .i64 b, .int .i64 c1, .int .i64 d1, .int .i64 e1, .int .i64 f1, .int .i64 g1, .int .i64 i1] 105)) w.heap.size TS 3 (.slice (some ⟨w.heap.size + 1, 0, none⟩) 0 0) 0 [] := ((Seg.of_own H1.out.2.2.1).below (below_and hb2 hq3)).own
  generalize ((((w2.alloc (.cells #[.func (.func (fRank o)) #[] #[], fv, .bool tp] 76)).alloc (.cells #[.slice A js.length c] 26)).alloc (.cells #[.int .i64 0] 3)).alloc (.cells #[.int .i64 a, .int .i64 b, .int .i64 c1, .int .i64 d1, .int .i64 e1, .int .i64 f1, .int .i64 g1, .int .i64 i1] 105)) = w3 at *
  obtain ⟨z, hz⟩ : ∃ z, z = w2.heap.size := ⟨_, rfl⟩
  rw [← hz] at cC cJ cN cR hz3 hlt2 ⊢
  have hwz : w.heap.size ≤ z := by omega
  clear H1 HX0 hrwd HRS hrw k0 k1 k2 hq3 hb2 hbw2 hz x4
  refine range_seqT 105 (n := 6) (by omega) (gf := 115) (lb := #[.pointer (some ⟨z + 1 + 1, 0, none⟩), .pointer (some ⟨z + 1 + 1 + 1, 0, none⟩), .pointer (some ⟨z + 1, 0, none⟩), .pointer (some ⟨z, 0, none⟩)]) rfl (enters_of Try.func115 (by kernel_rfl) rfl)
    (encs := fun s : Sp => #[aggSp s]) (Kp := PcKp 105 (PcK w (z + 1) z A c js.length #[.func (.func (fRank o)) #[] #[], fv, .bool tp])) (S := fun ys => ∃ now R, Pcs js o 0 (timesL js) ys now R ∧ ¬ 0 < R.sum) (N := 901) ?seq ?kt ?ks (fun _ => rfl)
    (fun pre W => (∃ v, Boxed W (w.heap.size + 1 + 1) 34 v ∧ W.ownsRow w.heap.size TS 3 v (foldJ pre).length (spc (foldJ pre))) ∧ Below w.heap.size w W) ?hI ⟨⟨_, y1, y2⟩, hbw3⟩
    (fun s a' W => ∃ Bx, BlockIs W Bx TS (cellsSp s).toArray ∧ a' = { tmps := #[.agg #[.func (.func (fRank o)) #[] #[], fv, .bool tp], .slice A js.length c, .pointer (some ⟨w.heap.size, 0, none⟩), undef, .slice none 0 0, .pointer (some ⟨w.heap.size + 1 + 1, 0, none⟩), .pointer (some ⟨Bx, 0, none⟩), undef, .slice (some ⟨w.heap.size + 1, 0, none⟩) 0 0, .agg #[.func (.func (fRank o)) #[] #[], fv, .bool tp], .slice A js.length c, .slice A js.length c, .agg #[.int .i64 a, .int .i64 b, .int .i64 c1, .int .i64 d1, .int .i64 e1, .int .i64 f1, .int .i64 g1, .int .i64 i1], .func (.func 115) #[] #[.pointer (some ⟨z + 1 + 1, 0, none⟩), .pointer (some ⟨z + 1 + 1 + 1, 0, none⟩), .pointer (some ⟨z + 1, 0, none⟩), .pointer (some ⟨z, 0, none⟩)], aggSp s, undef, undef, undef, undef, undef, undef, undef, undef, undef, undef, undef, undef, undef, undef, undef, undef, undef, undef, undef, undef, undef, undef, undef, undef, undef, undef], defers := [] }) ?hA ?assign ?body ?done
  case seq =>
    intro l J W hW hst hY hJ0
    have hzW := hW.size
    exact pieces1_in A c js o 0 (timesL js) w fv tp hr0.out HG.out (cIn_zero HG.out) 5 (by omega) l (z + 1 + 1) (z + 1 + 1 + 1) (z + 1) z J W (by omega) (by omega) (by omega) (by omega) (by omega) (cN.below hW) (cR.below hW) ⟨cJ.below hW, cC.below hW, below_and hbw3 hW⟩ hst hY hJ0
  case kt =>
    rintro X Y Z ⟨h1, h2, h3⟩ ⟨g1, g2, g3⟩
    exact ⟨fun h => g1 (h1 h), Nat.le_trans h2 g2, fun k cs h => g3 k cs (h3 k cs h)⟩
  case ks =>
    intro X Y h hb
    exact ⟨fun ⟨q1, q2, q3⟩ => ⟨h _ _ _ q1, h _ _ _ q2, q3.trans (hb.mono (by omega))⟩, hb.size, fun k cs hk => h _ _ _ hk⟩
  case hI =>
    rintro pre X Y hs ⟨⟨v, q1, q2⟩, q3⟩
    exact ⟨⟨v, hs.same _ _ _ (by decide) q1, own_sm q2 hs (by decide)⟩, q3.trans (hs.below.mono (by omega))⟩
  case hA =>
    rintro s a' X Y hs ⟨Bx, q1, q2⟩
    exact ⟨Bx, hs.same _ _ _ (by decide) q1, q2⟩
  case assign =>
    rintro l pre x W K ⟨⟨v, q1, q2⟩, q3⟩ hK
    dsimp only [aggSp]
    gi_wp2
    have hba : Below W.heap.size W (W.alloc (.cells #[.int .i64 x.j, .int .i64 x.f, .int .i64 x.t] TS)) := (Below.refl _ _).alloc (Nat.le_refl _) _
    exact hK _ _ ((KeepsOthers.alloc _ _).from _) ⟨fun ⟨p1, p2, p3⟩ => ⟨p1.below hba, p2.below hba, below_and p3 hba⟩, hba.size, fun k cs h => h.below hba⟩ ⟨⟨v, q1.alloc _, q2.alloc _⟩, below_and q3 hba⟩ ⟨W.heap.size, BlockIs.new W TS _, rfl⟩
  case done =>
    rintro D xs W hD hS ⟨⟨v, hv, hown⟩, hb⟩ hK
    have hfin := pcs_done HG.out hS
    have hc := hv.cell
    rw [hfin] at hown
    gi_wp2
    refine ⟨by simp, .inl ⟨_, _, rfl, run_takeDeferred hK, ?_⟩⟩
    exact ⟨_, results_tmp rfl _ _ _, v, rfl, ownsRow_putObj hown _ hK rfl, hb.trans (belowK_b (w := w3) (by omega) W D _ _ (by omega) hK rfl rfl)⟩
  case body =>
    rintro l pre x a' W ⟨⟨v, hv, hown⟩, hb⟩ ⟨Bx, hB, rfl⟩ hlt
    have hfl := foldJ_len pre
    have HFS := Lib.hid (foldJ_snoc pre x)
    generalize foldJ pre = out at *
    obtain ⟨Av, cv, rfl, hnc, hrow⟩ := own_slice hown
    have cv5 := hv.cell
    have p0 := hB.cell 0
    have p1 := hB.cell 1
    have p2 := hB.cell 2
    simp only [cellsSp, List.getElem?_toArray, List.getElem?_cons_zero, List.getElem?_cons_succ] at p0 p1 p2
    obtain ⟨n, hn⟩ : ∃ n : Nat, out.length = n := ⟨_, Eq.refl _⟩
    rw [hn] at hown hfl cv5
    have hwn := IntWalk.i64_in ((n : Int) - 1) (by omega)
    obtain rfl | ⟨ys, l, rfl⟩ : out = [] ∨ ∃ ys l, out = ys ++ [l] := by
      rcases List.eq_nil_or_concat out with h | ⟨ys, l, h⟩
      · exact .inl h
      · exact .inr ⟨ys, l, by rw [h, List.concat_eq_append]⟩
    · have hnm : (n : Int) - 1 = -1 := by rw [← hn]; rfl
      have hmo : Try.prog.follows .mixedOrders = true := by kernel_rfl
      have hn0 : n = 0 := by rw [← hn]; rfl
      obtain ⟨i0, hi, hz0, hz1, hz2⟩ := infoSp_parts
      have HV := Lib.hid (show Boxed W (w.heap.size + 1 + 1) 34 (.slice Av n cv) by rw [← hn]; exact hv)
      obtain ⟨W1, hW1⟩ : ∃ W1, W1 = W.drew := ⟨_, rfl⟩
      have hv1 : Boxed W1 (w.heap.size + 1 + 1) 34 (.slice Av n cv) := by rw [hW1]; exact HV.out
      have hown1 : W1.ownsRow w.heap.size TS 3 (.slice Av n cv) n (spc []) := by rw [hW1]; exact hown
      have cv5 : W1.cell? ⟨w.heap.size + 1 + 1, 0, none⟩ = _ := hv1.cell
      have p0 : W1.cell? ⟨Bx, 0, none⟩ = some (.int .i64 x.j) := by rw [hW1]; exact p0
      have p1 : W1.cell? ⟨Bx, 1, none⟩ = some (.int .i64 x.f) := by rw [hW1]; exact p1
      have p2 : W1.cell? ⟨Bx, 2, none⟩ = some (.int .i64 x.t) := by rw [hW1]; exact p2
      have hbn : Below w.heap.size w W1 := by rw [hW1]; exact hb.drew
      have HN0 := Lib.hid hn0
      clear hv hrow hnc hn hn0
      gi_wp2
      refine wpIn_region_detX (fun _ => trivial) (by kernel_rfl) hmo (fun (_ : Unit) (_ : Array Bool) w' => w' = W1) (fun _ k => (#[.int .i64 (-1), .bool false, .bool false, undef, undef, undef, undef, undef, undef, undef, undef, .bool false] : Array Value).getD k undef) () (by kernel_rfl) (by kernel_rfl) hW1.symm ?_ ?_
      · intro _ L tm w' _ hS hsz hlow hval
        obtain rfl : W1 = w' := hS.symm
        have ht : tm = #[.agg #[.func (.func (fRank o)) #[] #[], fv, .bool tp], .slice A js.length c, .pointer (some ⟨w.heap.size, 0, none⟩), undef, .slice none 0 0, .pointer (some ⟨w.heap.size + 1 + 1, 0, none⟩), .pointer (some ⟨Bx, 0, none⟩), .int .i64 (-1), .slice (some ⟨w.heap.size + 1, 0, none⟩) 0 0, .agg #[.func (.func (fRank o)) #[] #[], fv, .bool tp], .slice A js.length c, .slice A js.length c, .agg #[.int .i64 a, .int .i64 b, .int .i64 c1, .int .i64 d1, .int .i64 e1, .int .i64 f1, .int .i64 g1, .int .i64 i1], .func (.func 115) #[] #[.pointer (some ⟨z + 1 + 1, 0, none⟩), .pointer (some ⟨z + 1 + 1 + 1, 0, none⟩), .pointer (some ⟨z + 1, 0, none⟩), .pointer (some ⟨z, 0, none⟩)], aggSp x, .slice Av n cv, .int .i64 (n : Int), .int .i64 (-1), .int .i64 (-1), .bool false, .bool false, undef, undef, undef, undef, undef, undef, undef, undef, .bool false, undef, undef, undef, undef, undef, undef, undef, undef, undef, undef, undef] := by
          refine arr_of _ _ hsz fun t ht => ?_
          have ht' : t < 41 := ht
          rcases (by omega : t = 0 ∨ t = 1 ∨ t = 2 ∨ t = 3 ∨ t = 4 ∨ t = 5 ∨ t = 6 ∨ t = 7 ∨ t = 8 ∨ t = 9 ∨ t = 10 ∨ t = 11 ∨ t = 12 ∨ t = 13 ∨ t = 14 ∨ t = 15 ∨ t = 16 ∨ t = 17 ∨ t = 18 ∨ t = 19 ∨ t = 20 ∨ t = 21 ∨ t = 22 ∨ t = 23 ∨ t = 24 ∨ t = 25 ∨ t = 26 ∨ t = 27 ∨ t = 28 ∨ t = 29 ∨ t = 30 ∨ t = 31 ∨ t = 32 ∨ t = 33 ∨ t = 34 ∨ t = 35 ∨ t = 36 ∨ t = 37 ∨ t = 38 ∨ t = 39 ∨ t = 40) with rfl | rfl | rfl | rfl | rfl | rfl | rfl | rfl | rfl | rfl | rfl | rfl | rfl | rfl | rfl | rfl | rfl | rfl | rfl | rfl | rfl | rfl | rfl | rfl | rfl | rfl | rfl | rfl | rfl | rfl | rfl | rfl | rfl | rfl | rfl | rfl | rfl | rfl | rfl | rfl | rfl
          · exact hlow 0 (by kernel_rfl)
          · exact hlow 1 (by kernel_rfl)
          · exact hlow 2 (by kernel_rfl)
          · exact hlow 3 (by kernel_rfl)
          · exact hlow 4 (by kernel_rfl)
          · exact hlow 5 (by kernel_rfl)
          · exact hlow 6 (by kernel_rfl)
          · exact hlow 7 (by kernel_rfl)
          · exact hlow 8 (by kernel_rfl)
          · exact hlow 9 (by kernel_rfl)
          · exact hlow 10 (by kernel_rfl)
          · exact hlow 11 (by kernel_rfl)
          · exact hlow 12 (by kernel_rfl)
          · exact hlow 13 (by kernel_rfl)
          · exact hlow 14 (by kernel_rfl)
          · exact hlow 15 (by kernel_rfl)
          · exact hlow 16 (by kernel_rfl)
          · exact hlow 17 (by kernel_rfl)
          · exact hval 0 _ 18 rfl rfl
          · exact hval 1 _ 19 rfl rfl
          · exact hval 2 _ 20 rfl rfl
          · exact hval 3 _ 21 rfl rfl
          · exact hval 4 _ 22 rfl rfl
          · exact hval 5 _ 23 rfl rfl
          · exact hval 6 _ 24 rfl rfl
          · exact hval 7 _ 25 rfl rfl
          · exact hval 8 _ 26 rfl rfl
          · exact hval 9 _ 27 rfl rfl
          · exact hval 10 _ 28 rfl rfl
          · exact hval 11 _ 29 rfl rfl
          · exact hlow 30 (by kernel_rfl)
          · exact hlow 31 (by kernel_rfl)
          · exact hlow 32 (by kernel_rfl)
          · exact hlow 33 (by kernel_rfl)
          · exact hlow 34 (by kernel_rfl)
          · exact hlow 35 (by kernel_rfl)
          · exact hlow 36 (by kernel_rfl)
          · exact hlow 37 (by kernel_rfl)
          · exact hlow 38 (by kernel_rfl)
          · exact hlow 39 (by kernel_rfl)
          · exact hlow 40 (by kernel_rfl)
        subst ht
        clear hlow hval hsz
        have HW1 := Lib.hid hW1
        clear hW1
        gi_wp2_with (gi_at_builtin; refine wpListIn_append_own _ rfl _ _ 34 rfl w.heap.size TS i0 (.agg #[.int .i64 0, .int .i64 0, .int .i64 0]) 3 24 Try.underlying34 hi hz0 hz1 hz2 rfl (by decide) _ _ _ rfl (hown1.alloc _) ⟨W1.heap.size, 0, none⟩ 1 1 (cellsSp x) rfl rfl (new_cells _ _) (cellsSp_one x) (by unfold maxLen; omega) (by omega) (by have := hb.size; rw [HW1.out]; simp; omega) ?_; intro v' w1' hown' hgrow _; obtain ⟨g', cap', rfl⟩ := ownsRow_succ hown'; obtain ⟨hv1', hv2', hr2', hk2', hb2'⟩ := hv1.appended (by decide) hown1 (by have := hb.size; rw [HW1.out]; simpa using this) (by omega) hown' hgrow; have hc1 := hv1'.cell; have hf1 := hv1'.frozen)
        refine ⟨((KeepsOthers.drew W).trans (by rw [← HW1.out]; exact hk2')).from _, ⟨fun ⟨q1, q2, q3⟩ => ⟨keep_app hown1 hgrow hv1' (by rw [HW1.out]; exact q1) (by decide) (by decide), keep_app hown1 hgrow hv1' (by rw [HW1.out]; exact q2) (by decide) (by decide), hbn.trans (hb2'.mono (Nat.le_refl _))⟩, ?_, fun k cs h => keep_app hown1 hgrow hv1' (by rw [HW1.out]; exact h) (by decide) (by decide)⟩, ⟨_, hv2', ?_⟩, hbn.trans (hb2'.mono (Nat.le_refl _))⟩
        · have h := hb2'.size
          rw [HW1.out] at h
          exact h
        · rw [HFS.out]
          rw [show spc [] ++ cellsSp x = spc [x] by simp [spc]] at hr2'
          rw [show (putJ [] x).length = n + 1 by rw [HN0.out]; rfl]; exact hr2'
      · intro _ L a' w' i op _ ho _ _ _ hS hlow hdep _
        obtain rfl : W1 = w' := hS.symm
        have hi : i < 12 := (Array.getElem?_eq_some_iff.1 ho).1
        rcases (by omega : i = 0 ∨ i = 1 ∨ i = 2 ∨ i = 3 ∨ i = 4 ∨ i = 5 ∨ i = 6 ∨ i = 7 ∨ i = 8 ∨ i = 9 ∨ i = 10 ∨ i = 11) with rfl | rfl | rfl | rfl | rfl | rfl | rfl | rfl | rfl | rfl | rfl | rfl
        · obtain rfl := Option.some.inj ho
          have e7 : a'.tmps[7]?.getD undef = .int .i64 (-1) := (Array.getD_eq_getD_getElem? ..).symm.trans (hlow 7 (by kernel_rfl))
          exact .inl ⟨wanted_free rfl, .inl ⟨(), W1, fun _ _ => rfl, by simp [execOp, Act.eval, e7, go_sem], rfl⟩⟩
        · obtain rfl := Option.some.inj ho
          have e18 : a'.tmps[18]?.getD undef = .int .i64 (-1) := (Array.getD_eq_getD_getElem? ..).symm.trans (hdep 0 _ 18 (by kernel_rfl) rfl rfl)
          exact .inl ⟨wanted_free rfl, .inl ⟨(), W1, fun _ _ => rfl, by simp [execOp, Act.eval, e18, go_sem], rfl⟩⟩
        · obtain rfl := Option.some.inj ho
          have e19 : a'.tmps[19]?.getD undef = .bool false := (Array.getD_eq_getD_getElem? ..).symm.trans (hdep 1 _ 19 (by kernel_rfl) rfl rfl)
          exact .inl ⟨wanted_free rfl, .inl ⟨(), W1, fun _ _ => rfl, by simp [execOp, Act.eval, e19, go_sem], rfl⟩⟩
        · obtain rfl := Option.some.inj ho
          exact .inr ⟨wanted_other (g := 2) (d := 20) (b := true) rfl rfl rfl (hdep 2 _ 20 (by kernel_rfl) rfl rfl), rfl, rfl⟩
        · obtain rfl := Option.some.inj ho
          exact .inr ⟨wanted_other (g := 2) (d := 20) (b := true) rfl rfl rfl (hdep 2 _ 20 (by kernel_rfl) rfl rfl), rfl, rfl⟩
        · obtain rfl := Option.some.inj ho
          exact .inr ⟨wanted_other (g := 2) (d := 20) (b := true) rfl rfl rfl (hdep 2 _ 20 (by kernel_rfl) rfl rfl), rfl, rfl⟩
        · obtain rfl := Option.some.inj ho
          exact .inr ⟨wanted_other (g := 2) (d := 20) (b := true) rfl rfl rfl (hdep 2 _ 20 (by kernel_rfl) rfl rfl), rfl, rfl⟩
        · obtain rfl := Option.some.inj ho
          exact .inr ⟨wanted_other (g := 2) (d := 20) (b := true) rfl rfl rfl (hdep 2 _ 20 (by kernel_rfl) rfl rfl), rfl, rfl⟩
        · obtain rfl := Option.some.inj ho
          exact .inr ⟨wanted_other (g := 2) (d := 20) (b := true) rfl rfl rfl (hdep 2 _ 20 (by kernel_rfl) rfl rfl), rfl, rfl⟩
        · obtain rfl := Option.some.inj ho
          exact .inr ⟨wanted_other (g := 2) (d := 20) (b := true) rfl rfl rfl (hdep 2 _ 20 (by kernel_rfl) rfl rfl), rfl, rfl⟩
        · obtain rfl := Option.some.inj ho
          exact .inr ⟨wanted_other (g := 2) (d := 20) (b := true) rfl rfl rfl (hdep 2 _ 20 (by kernel_rfl) rfl rfl), rfl, rfl⟩
        · obtain rfl := Option.some.inj ho
          have e20 : a'.tmps[20]?.getD undef = .bool false := (Array.getD_eq_getD_getElem? ..).symm.trans (hdep 2 _ 20 (by kernel_rfl) rfl rfl)
          have e28 : a'.tmps[28]?.getD undef = undef := (Array.getD_eq_getD_getElem? ..).symm.trans (hdep 10 _ 28 (by kernel_rfl) rfl rfl)
          exact .inl ⟨wanted_free rfl, .inl ⟨(), W1, fun _ _ => rfl, by simp [execOp, Act.eval, e20, e28, go_sem], rfl⟩⟩
    · obtain ⟨m, hm⟩ : ∃ m : Nat, ys.length = m := ⟨_, Eq.refl _⟩
      have hnl : n = m + 1 := by rw [← hn, ← hm]; simp
      obtain ⟨i0, hi, hz0, hz1, hz2⟩ := infoSp_parts
      have hmo : Try.prog.follows .mixedOrders = true := by kernel_rfl
      obtain ⟨g, hA, hg, hgl, hcs⟩ := ownT_set hown (by omega) hn
      subst hA
      have hsl := spc_last ys l
      rw [hm] at hsl
      have cl0 := (hcs (m * 3) (by omega)).1.trans hsl.1
      have hnm : (n : Int) - 1 = (m : Int) := by omega
      have hwm := IntWalk.i64_in (m : Int) (by omega)
      have hmp : (⟨g, 0, none⟩ : Addr).add (m * 3) = ⟨g, m * 3, none⟩ := by rw [Addr.add_lit, Nat.zero_add]
      have hm0 : (0 : Int) ≤ m := by omega
      have hm1 : (m : Int) < n := by omega
      have HV := Lib.hid (show Boxed W (w.heap.size + 1 + 1) 34 (.slice (some ⟨g, 0, none⟩) n cv) by rw [← hn]; exact hv)
      obtain ⟨W1, hW1⟩ : ∃ W1, W1 = W.drew := ⟨_, rfl⟩
      have hv1 : Boxed W1 (w.heap.size + 1 + 1) 34 (.slice (some ⟨g, 0, none⟩) n cv) := by rw [hW1]; exact HV.out
      have hown1 : W1.ownsRow w.heap.size TS 3 (.slice (some ⟨g, 0, none⟩) n cv) n (spc (ys ++ [l])) := by rw [hW1]; exact hown
      have cv5 : W1.cell? ⟨w.heap.size + 1 + 1, 0, none⟩ = _ := hv1.cell
      have p0 : W1.cell? ⟨Bx, 0, none⟩ = some (.int .i64 x.j) := by rw [hW1]; exact p0
      have p1 : W1.cell? ⟨Bx, 1, none⟩ = some (.int .i64 x.f) := by rw [hW1]; exact p1
      have p2 : W1.cell? ⟨Bx, 2, none⟩ = some (.int .i64 x.t) := by rw [hW1]; exact p2
      have hbn : Below w.heap.size w W1 := by rw [hW1]; exact hb.drew
      have cl0 : W1.cell? ⟨g, m * 3, none⟩ = some (.int .i64 l.j) := by rw [hW1]; exact cl0
      have cl2 : W1.cell? ⟨g, m * 3 + 2, none⟩ = some (.int .i64 l.t) := by rw [hW1]; exact (hcs (m * 3 + 2) (by omega)).1.trans hsl.2
      have HCS : Hid (W1.frozen? ⟨g, m * 3 + 2, none⟩ = false ∧ ∀ u, (W1.setCell ⟨g, m * 3 + 2, none⟩ u).ownsRow w.heap.size TS 3 (.slice (some ⟨g, 0, none⟩) n cv) n ((spc (ys ++ [l])).set (m * 3 + 2) u)) := by rw [hW1]; exact (hcs (m * 3 + 2) (by omega)).2
      have HN := Lib.hid (And.intro hn (And.intro hm hnl))
      have hn900 : n ≤ 901 := by omega
      clear hv hrow hnc hn hm hnl hcs hsl
      by_cases h1 : l.j = x.j
      · have b1 : (l.j == x.j) = true := by rw [beq_iff_eq]; exact h1
        have H1 := Lib.hid h1
        clear h1
        gi_wp2
        refine wpIn_region_detX (fun _ => trivial) (by kernel_rfl) hmo (fun (_ : Unit) (_ : Array Bool) w' => w' = W1) (fun _ k => (#[.int .i64 (m : Int), .bool true, .bool true, .slice (some ⟨g, 0, none⟩) n cv, .int .i64 (m : Int), .pointer (some ⟨g, m * 3, none⟩), .pointer (some ⟨g, m * 3, none⟩), .int .i64 l.j, .pointer (some ⟨Bx, 0, none⟩), .int .i64 x.j, .bool true, .bool true] : Array Value).getD k undef) () (by kernel_rfl) (by kernel_rfl) hW1.symm ?_ ?_
        · intro _ L tm w' _ hS hsz hlow hval
          obtain rfl : W1 = w' := hS.symm
          have ht : tm = #[.agg #[.func (.func (fRank o)) #[] #[], fv, .bool tp], .slice A js.length c, .pointer (some ⟨w.heap.size, 0, none⟩), undef, .slice none 0 0, .pointer (some ⟨w.heap.size + 1 + 1, 0, none⟩), .pointer (some ⟨Bx, 0, none⟩), .int .i64 (m : Int), .slice (some ⟨w.heap.size + 1, 0, none⟩) 0 0, .agg #[.func (.func (fRank o)) #[] #[], fv, .bool tp], .slice A js.length c, .slice A js.length c, .agg #[.int .i64 a, .int .i64 b, .int .i64 c1, .int .i64 d1, .int .i64 e1, .int .i64 f1, .int .i64 g1, .int .i64 i1], .func (.func 115) #[] #[.pointer (some ⟨z + 1 + 1, 0, none⟩), .pointer (some ⟨z + 1 + 1 + 1, 0, none⟩), .pointer (some ⟨z + 1, 0, none⟩), .pointer (some ⟨z, 0, none⟩)], aggSp x, .slice (some ⟨g, 0, none⟩) n cv, .int .i64 (n : Int), .int .i64 (m : Int), .int .i64 (m : Int), .bool true, .bool true, .slice (some ⟨g, 0, none⟩) n cv, .int .i64 (m : Int), .pointer (some ⟨g, m * 3, none⟩), .pointer (some ⟨g, m * 3, none⟩), .int .i64 l.j, .pointer (some ⟨Bx, 0, none⟩), .int .i64 x.j, .bool true, .bool true, undef, undef, undef, undef, undef, undef, undef, undef, undef, undef, undef] := by
            refine arr_of _ _ hsz fun t ht => ?_
            have ht' : t < 41 := ht
            rcases (by omega : t = 0 ∨ t = 1 ∨ t = 2 ∨ t = 3 ∨ t = 4 ∨ t = 5 ∨ t = 6 ∨ t = 7 ∨ t = 8 ∨ t = 9 ∨ t = 10 ∨ t = 11 ∨ t = 12 ∨ t = 13 ∨ t = 14 ∨ t = 15 ∨ t = 16 ∨ t = 17 ∨ t = 18 ∨ t = 19 ∨ t = 20 ∨ t = 21 ∨ t = 22 ∨ t = 23 ∨ t = 24 ∨ t = 25 ∨ t = 26 ∨ t = 27 ∨ t = 28 ∨ t = 29 ∨ t = 30 ∨ t = 31 ∨ t = 32 ∨ t = 33 ∨ t = 34 ∨ t = 35 ∨ t = 36 ∨ t = 37 ∨ t = 38 ∨ t = 39 ∨ t = 40) with rfl | rfl | rfl | rfl | rfl | rfl | rfl | rfl | rfl | rfl | rfl | rfl | rfl | rfl | rfl | rfl | rfl | rfl | rfl | rfl | rfl | rfl | rfl | rfl | rfl | rfl | rfl | rfl | rfl | rfl | rfl | rfl | rfl | rfl | rfl | rfl | rfl | rfl | rfl | rfl | rfl
            · exact hlow 0 (by kernel_rfl)
            · exact hlow 1 (by kernel_rfl)
            · exact hlow 2 (by kernel_rfl)
            · exact hlow 3 (by kernel_rfl)
            · exact hlow 4 (by kernel_rfl)
            · exact hlow 5 (by kernel_rfl)
            · exact hlow 6 (by kernel_rfl)
            · exact hlow 7 (by kernel_rfl)
            · exact hlow 8 (by kernel_rfl)
            · exact hlow 9 (by kernel_rfl)
            · exact hlow 10 (by kernel_rfl)
            · exact hlow 11 (by kernel_rfl)
            · exact hlow 12 (by kernel_rfl)
            · exact hlow 13 (by kernel_rfl)
            · exact hlow 14 (by kernel_rfl)
            · exact hlow 15 (by kernel_rfl)
            · exact hlow 16 (by kernel_rfl)
            · exact hlow 17 (by kernel_rfl)
            · exact hval 0 _ 18 rfl rfl
            · exact hval 1 _ 19 rfl rfl
            · exact hval 2 _ 20 rfl rfl
            · exact hval 3 _ 21 rfl rfl
            · exact hval 4 _ 22 rfl rfl
            · exact hval 5 _ 23 rfl rfl
            · exact hval 6 _ 24 rfl rfl
            · exact hval 7 _ 25 rfl rfl
            · exact hval 8 _ 26 rfl rfl
            · exact hval 9 _ 27 rfl rfl
            · exact hval 10 _ 28 rfl rfl
            · exact hval 11 _ 29 rfl rfl
            · exact hlow 30 (by kernel_rfl)
            · exact hlow 31 (by kernel_rfl)
            · exact hlow 32 (by kernel_rfl)
            · exact hlow 33 (by kernel_rfl)
            · exact hlow 34 (by kernel_rfl)
            · exact hlow 35 (by kernel_rfl)
            · exact hlow 36 (by kernel_rfl)
            · exact hlow 37 (by kernel_rfl)
            · exact hlow 38 (by kernel_rfl)
            · exact hlow 39 (by kernel_rfl)
            · exact hlow 40 (by kernel_rfl)
          subst ht
          clear hlow hval hsz
          have HW1 := Lib.hid hW1
          clear hW1
          have fz2 := HCS.out.1
          have hbs : Below w.heap.size w (W1.setCell ⟨g, m * 3 + 2, none⟩ (.int .i64 x.t)) := hbn.setCell (p := ⟨g, m * 3 + 2, none⟩) hg _
          have HOW := Lib.hid (HCS.out.2 (.int .i64 x.t))
          clear HCS
          gi_wp2
          refine ⟨((KeepsOthers.drew W).trans (by rw [← HW1.out]; exact KeepsOthers.setCell _ _ _)).from _, ⟨fun ⟨q1, q2, q3⟩ => ⟨keep_set hown1 (by rw [HW1.out]; exact q1) (by decide), keep_set hown1 (by rw [HW1.out]; exact q2) (by decide), hbs⟩, ?_, fun k cs h => keep_set hown1 (by rw [HW1.out]; exact h) (by decide)⟩, ⟨_, keep_set (cs := #[_]) hown1 hv1 (by decide), ?_⟩, hbs⟩
          · rw [HW1.out]; simp [World.setCell]
          · have h := HOW.out
            obtain ⟨h1, h2, h3⟩ := HN.out
            rw [← h2, spc_set_last] at h
            rw [HFS.out, putJ_hit H1.out, show (ys ++ [(⟨l.j, l.f, x.t⟩ : Sp)]).length = n by rw [← h1]; simp]
            rw [h2] at h
            exact h
        · intro _ L a' w' i op _ ho _ _ _ hS hlow hdep _
          obtain rfl : W1 = w' := hS.symm
          have hi : i < 12 := (Array.getElem?_eq_some_iff.1 ho).1
          rcases (by omega : i = 0 ∨ i = 1 ∨ i = 2 ∨ i = 3 ∨ i = 4 ∨ i = 5 ∨ i = 6 ∨ i = 7 ∨ i = 8 ∨ i = 9 ∨ i = 10 ∨ i = 11) with rfl | rfl | rfl | rfl | rfl | rfl | rfl | rfl | rfl | rfl | rfl | rfl
          · obtain rfl := Option.some.inj ho
            have e7 : a'.tmps[7]?.getD undef = .int .i64 (m : Int) := (Array.getD_eq_getD_getElem? ..).symm.trans (hlow 7 (by kernel_rfl))
            exact .inl ⟨wanted_free rfl, .inl ⟨(), W1, fun _ _ => rfl, by simp [execOp, Act.eval, e7, go_sem], rfl⟩⟩
          · obtain rfl := Option.some.inj ho
            have e18 : a'.tmps[18]?.getD undef = .int .i64 (m : Int) := (Array.getD_eq_getD_getElem? ..).symm.trans (hdep 0 _ 18 (by kernel_rfl) rfl rfl)
            exact .inl ⟨wanted_free rfl, .inl ⟨(), W1, fun _ _ => rfl, by simp [execOp, Act.eval, e18, hm0, go_sem], rfl⟩⟩
          · obtain rfl := Option.some.inj ho
            have e19 : a'.tmps[19]?.getD undef = .bool true := (Array.getD_eq_getD_getElem? ..).symm.trans (hdep 1 _ 19 (by kernel_rfl) rfl rfl)
            exact .inl ⟨wanted_free rfl, .inl ⟨(), W1, fun _ _ => rfl, by simp [execOp, Act.eval, e19, go_sem], rfl⟩⟩
          · obtain rfl := Option.some.inj ho
            have e5 : a'.tmps[5]?.getD undef = .pointer (some ⟨w.heap.size + 1 + 1, 0, none⟩) := (Array.getD_eq_getD_getElem? ..).symm.trans (hlow 5 (by kernel_rfl))
            exact .inl ⟨wanted_guard (g := 2) (d := 20) (b := true) rfl rfl rfl (hdep 2 _ 20 (by kernel_rfl) rfl rfl), .inl ⟨(), W1, fun _ _ => rfl, by simp [execOp, Act.eval, e5, cv5, go_sem], rfl⟩⟩
          · obtain rfl := Option.some.inj ho
            have e7 : a'.tmps[7]?.getD undef = .int .i64 (m : Int) := (Array.getD_eq_getD_getElem? ..).symm.trans (hlow 7 (by kernel_rfl))
            exact .inl ⟨wanted_guard (g := 2) (d := 20) (b := true) rfl rfl rfl (hdep 2 _ 20 (by kernel_rfl) rfl rfl), .inl ⟨(), W1, fun _ _ => rfl, by simp [execOp, Act.eval, e7, go_sem], rfl⟩⟩
          · obtain rfl := Option.some.inj ho
            have e21 : a'.tmps[21]?.getD undef = .slice (some ⟨g, 0, none⟩) n cv := (Array.getD_eq_getD_getElem? ..).symm.trans (hdep 3 _ 21 (by kernel_rfl) rfl rfl)
            have e22 : a'.tmps[22]?.getD undef = .int .i64 (m : Int) := (Array.getD_eq_getD_getElem? ..).symm.trans (hdep 4 _ 22 (by kernel_rfl) rfl rfl)
            exact .inl ⟨wanted_guard (g := 2) (d := 20) (b := true) rfl rfl rfl (hdep 2 _ 20 (by kernel_rfl) rfl rfl), .inl ⟨(), W1, fun _ _ => rfl, by simp [execOp, Act.eval, e21, e22, hm0, hm1, go_sem], rfl⟩⟩
          · obtain rfl := Option.some.inj ho
            have e23 : a'.tmps[23]?.getD undef = .pointer (some ⟨g, m * 3, none⟩) := (Array.getD_eq_getD_getElem? ..).symm.trans (hdep 5 _ 23 (by kernel_rfl) rfl rfl)
            exact .inl ⟨wanted_guard (g := 2) (d := 20) (b := true) rfl rfl rfl (hdep 2 _ 20 (by kernel_rfl) rfl rfl), .inl ⟨(), W1, fun _ _ => rfl, by simp [execOp, Act.eval, e23, go_sem], rfl⟩⟩
          · obtain rfl := Option.some.inj ho
            have e24 : a'.tmps[24]?.getD undef = .pointer (some ⟨g, m * 3, none⟩) := (Array.getD_eq_getD_getElem? ..).symm.trans (hdep 6 _ 24 (by kernel_rfl) rfl rfl)
            exact .inl ⟨wanted_guard (g := 2) (d := 20) (b := true) rfl rfl rfl (hdep 2 _ 20 (by kernel_rfl) rfl rfl), .inl ⟨(), W1, fun _ _ => rfl, by simp [execOp, Act.eval, e24, cl0, go_sem], rfl⟩⟩
          · obtain rfl := Option.some.inj ho
            have e6 : a'.tmps[6]?.getD undef = .pointer (some ⟨Bx, 0, none⟩) := (Array.getD_eq_getD_getElem? ..).symm.trans (hlow 6 (by kernel_rfl))
            exact .inl ⟨wanted_guard (g := 2) (d := 20) (b := true) rfl rfl rfl (hdep 2 _ 20 (by kernel_rfl) rfl rfl), .inl ⟨(), W1, fun _ _ => rfl, by simp [execOp, Act.eval, e6, go_sem], rfl⟩⟩
          · obtain rfl := Option.some.inj ho
            have e26 : a'.tmps[26]?.getD undef = .pointer (some ⟨Bx, 0, none⟩) := (Array.getD_eq_getD_getElem? ..).symm.trans (hdep 8 _ 26 (by kernel_rfl) rfl rfl)
            exact .inl ⟨wanted_guard (g := 2) (d := 20) (b := true) rfl rfl rfl (hdep 2 _ 20 (by kernel_rfl) rfl rfl), .inl ⟨(), W1, fun _ _ => rfl, by simp [execOp, Act.eval, e26, p0, go_sem], rfl⟩⟩
          · obtain rfl := Option.some.inj ho
            have e25 : a'.tmps[25]?.getD undef = .int .i64 l.j := (Array.getD_eq_getD_getElem? ..).symm.trans (hdep 7 _ 25 (by kernel_rfl) rfl rfl)
            have e27 : a'.tmps[27]?.getD undef = .int .i64 x.j := (Array.getD_eq_getD_getElem? ..).symm.trans (hdep 9 _ 27 (by kernel_rfl) rfl rfl)
            exact .inl ⟨wanted_guard (g := 2) (d := 20) (b := true) rfl rfl rfl (hdep 2 _ 20 (by kernel_rfl) rfl rfl), .inl ⟨(), W1, fun _ _ => rfl, by simp [execOp, Act.eval, e25, e27, b1, go_sem], rfl⟩⟩
          · obtain rfl := Option.some.inj ho
            have e20 : a'.tmps[20]?.getD undef = .bool true := (Array.getD_eq_getD_getElem? ..).symm.trans (hdep 2 _ 20 (by kernel_rfl) rfl rfl)
            have e28 : a'.tmps[28]?.getD undef = .bool true := (Array.getD_eq_getD_getElem? ..).symm.trans (hdep 10 _ 28 (by kernel_rfl) rfl rfl)
            exact .inl ⟨wanted_free rfl, .inl ⟨(), W1, fun _ _ => rfl, by simp [execOp, Act.eval, e20, e28, go_sem], rfl⟩⟩
      · have b1 : (l.j == x.j) = false := by rw [beq_eq_false_iff_ne]; exact h1
        gi_wp2
        refine wpIn_region_detX (fun _ => trivial) (by kernel_rfl) hmo (fun (_ : Unit) (_ : Array Bool) w' => w' = W1) (fun _ k => (#[.int .i64 (m : Int), .bool true, .bool true, .slice (some ⟨g, 0, none⟩) n cv, .int .i64 (m : Int), .pointer (some ⟨g, m * 3, none⟩), .pointer (some ⟨g, m * 3, none⟩), .int .i64 l.j, .pointer (some ⟨Bx, 0, none⟩), .int .i64 x.j, .bool false, .bool false] : Array Value).getD k undef) () (by kernel_rfl) (by kernel_rfl) hW1.symm ?_ ?_
        · intro _ L tm w' _ hS hsz hlow hval
          obtain rfl : W1 = w' := hS.symm
          have ht : tm = #[.agg #[.func (.func (fRank o)) #[] #[], fv, .bool tp], .slice A js.length c, .pointer (some ⟨w.heap.size, 0, none⟩), undef, .slice none 0 0, .pointer (some ⟨w.heap.size + 1 + 1, 0, none⟩), .pointer (some ⟨Bx, 0, none⟩), .int .i64 (m : Int), .slice (some ⟨w.heap.size + 1, 0, none⟩) 0 0, .agg #[.func (.func (fRank o)) #[] #[], fv, .bool tp], .slice A js.length c, .slice A js.length c, .agg #[.int .i64 a, .int .i64 b, .int .i64 c1, .int .i64 d1, .int .i64 e1, .int .i64 f1, .int .i64 g1, .int .i64 i1], .func (.func 115) #[] #[.pointer (some ⟨z + 1 + 1, 0, none⟩), .pointer (some ⟨z + 1 + 1 + 1, 0, none⟩), .pointer (some ⟨z + 1, 0, none⟩), .pointer (some ⟨z, 0, none⟩)], aggSp x, .slice (some ⟨g, 0, none⟩) n cv, .int .i64 (n : Int), .int .i64 (m : Int), .int .i64 (m : Int), .bool true, .bool true, .slice (some ⟨g, 0, none⟩) n cv, .int .i64 (m : Int), .pointer (some ⟨g, m * 3, none⟩), .pointer (some ⟨g, m * 3, none⟩), .int .i64 l.j, .pointer (some ⟨Bx, 0, none⟩), .int .i64 x.j, .bool false, .bool false, undef, undef, undef, undef, undef, undef, undef, undef, undef, undef, undef] := by
            refine arr_of _ _ hsz fun t ht => ?_
            have ht' : t < 41 := ht
            rcases (by omega : t = 0 ∨ t = 1 ∨ t = 2 ∨ t = 3 ∨ t = 4 ∨ t = 5 ∨ t = 6 ∨ t = 7 ∨ t = 8 ∨ t = 9 ∨ t = 10 ∨ t = 11 ∨ t = 12 ∨ t = 13 ∨ t = 14 ∨ t = 15 ∨ t = 16 ∨ t = 17 ∨ t = 18 ∨ t = 19 ∨ t = 20 ∨ t = 21 ∨ t = 22 ∨ t = 23 ∨ t = 24 ∨ t = 25 ∨ t = 26 ∨ t = 27 ∨ t = 28 ∨ t = 29 ∨ t = 30 ∨ t = 31 ∨ t = 32 ∨ t = 33 ∨ t = 34 ∨ t = 35 ∨ t = 36 ∨ t = 37 ∨ t = 38 ∨ t = 39 ∨ t = 40) with rfl | rfl | rfl | rfl | rfl | rfl | rfl | rfl | rfl | rfl | rfl | rfl | rfl | rfl | rfl | rfl | rfl | rfl | rfl | rfl | rfl | rfl | rfl | rfl | rfl | rfl | rfl | rfl | rfl | rfl | rfl | rfl | rfl | rfl | rfl | rfl | rfl | rfl | rfl | rfl | rfl
            · exact hlow 0 (by kernel_rfl)
            · exact hlow 1 (by kernel_rfl)
            · exact hlow 2 (by kernel_rfl)
            · exact hlow 3 (by kernel_rfl)
            · exact hlow 4 (by kernel_rfl)
            · exact hlow 5 (by kernel_rfl)
            · exact hlow 6 (by kernel_rfl)
            · exact hlow 7 (by kernel_rfl)
            · exact hlow 8 (by kernel_rfl)
            · exact hlow 9 (by kernel_rfl)
            · exact hlow 10 (by kernel_rfl)
            · exact hlow 11 (by kernel_rfl)
            · exact hlow 12 (by kernel_rfl)
            · exact hlow 13 (by kernel_rfl)
            · exact hlow 14 (by kernel_rfl)
            · exact hlow 15 (by kernel_rfl)
            · exact hlow 16 (by kernel_rfl)
            · exact hlow 17 (by kernel_rfl)
            · exact hval 0 _ 18 rfl rfl
            · exact hval 1 _ 19 rfl rfl
            · exact hval 2 _ 20 rfl rfl
            · exact hval 3 _ 21 rfl rfl
            · exact hval 4 _ 22 rfl rfl
            · exact hval 5 _ 23 rfl rfl
            · exact hval 6 _ 24 rfl rfl
            · exact hval 7 _ 25 rfl rfl
            · exact hval 8 _ 26 rfl rfl
            · exact hval 9 _ 27 rfl rfl
            · exact hval 10 _ 28 rfl rfl
            · exact hval 11 _ 29 rfl rfl
            · exact hlow 30 (by kernel_rfl)
            · exact hlow 31 (by kernel_rfl)
            · exact hlow 32 (by kernel_rfl)
            · exact hlow 33 (by kernel_rfl)
            · exact hlow 34 (by kernel_rfl)
            · exact hlow 35 (by kernel_rfl)
            · exact hlow 36 (by kernel_rfl)
            · exact hlow 37 (by kernel_rfl)
            · exact hlow 38 (by kernel_rfl)
            · exact hlow 39 (by kernel_rfl)
            · exact hlow 40 (by kernel_rfl)
          subst ht
          clear hlow hval hsz
          have HW1 := Lib.hid hW1
          clear hW1
          gi_wp2_with (gi_at_builtin; refine wpListIn_append_own _ rfl _ _ 34 rfl w.heap.size TS i0 (.agg #[.int .i64 0, .int .i64 0, .int .i64 0]) 3 24 Try.underlying34 hi hz0 hz1 hz2 rfl (by decide) _ _ _ rfl (hown1.alloc _) ⟨W1.heap.size, 0, none⟩ 1 1 (cellsSp x) rfl rfl (new_cells _ _) (cellsSp_one x) (by unfold maxLen; omega) (by omega) (by have := hb.size; rw [HW1.out]; simp; omega) ?_; intro v' w1' hown' hgrow _; obtain ⟨g', cap', rfl⟩ := ownsRow_succ hown'; obtain ⟨hv1', hv2', hr2', hk2', hb2'⟩ := hv1.appended (by decide) hown1 (by have := hb.size; rw [HW1.out]; simpa using this) (by omega) hown' hgrow; have hc1 := hv1'.cell; have hf1 := hv1'.frozen)
          refine ⟨((KeepsOthers.drew W).trans (by rw [← HW1.out]; exact hk2')).from _, ⟨fun ⟨q1, q2, q3⟩ => ⟨keep_app hown1 hgrow hv1' (by rw [HW1.out]; exact q1) (by decide) (by decide), keep_app hown1 hgrow hv1' (by rw [HW1.out]; exact q2) (by decide) (by decide), hbn.trans (hb2'.mono (Nat.le_refl _))⟩, ?_, fun k cs h => keep_app hown1 hgrow hv1' (by rw [HW1.out]; exact h) (by decide) (by decide)⟩, ⟨_, hv2', ?_⟩, hbn.trans (hb2'.mono (Nat.le_refl _))⟩
          · have h := hb2'.size
            rw [HW1.out] at h
            exact h
          · rw [HFS.out]
            rw [spc_snoc] at hr2'
            rw [putJ_miss h1, List.length_append, HN.out.1]; exact hr2'
        · intro _ L a' w' i op _ ho _ _ _ hS hlow hdep _
          obtain rfl : W1 = w' := hS.symm
          have hi : i < 12 := (Array.getElem?_eq_some_iff.1 ho).1
          rcases (by omega : i = 0 ∨ i = 1 ∨ i = 2 ∨ i = 3 ∨ i = 4 ∨ i = 5 ∨ i = 6 ∨ i = 7 ∨ i = 8 ∨ i = 9 ∨ i = 10 ∨ i = 11) with rfl | rfl | rfl | rfl | rfl | rfl | rfl | rfl | rfl | rfl | rfl | rfl
          · obtain rfl := Option.some.inj ho
            have e7 : a'.tmps[7]?.getD undef = .int .i64 (m : Int) := (Array.getD_eq_getD_getElem? ..).symm.trans (hlow 7 (by kernel_rfl))
            exact .inl ⟨wanted_free rfl, .inl ⟨(), W1, fun _ _ => rfl, by simp [execOp, Act.eval, e7, go_sem], rfl⟩⟩
          · obtain rfl := Option.some.inj ho
            have e18 : a'.tmps[18]?.getD undef = .int .i64 (m : Int) := (Array.getD_eq_getD_getElem? ..).symm.trans (hdep 0 _ 18 (by kernel_rfl) rfl rfl)
            exact .inl ⟨wanted_free rfl, .inl ⟨(), W1, fun _ _ => rfl, by simp [execOp, Act.eval, e18, hm0, go_sem], rfl⟩⟩
          · obtain rfl := Option.some.inj ho
            have e19 : a'.tmps[19]?.getD undef = .bool true := (Array.getD_eq_getD_getElem? ..).symm.trans (hdep 1 _ 19 (by kernel_rfl) rfl rfl)
            exact .inl ⟨wanted_free rfl, .inl ⟨(), W1, fun _ _ => rfl, by simp [execOp, Act.eval, e19, go_sem], rfl⟩⟩
          · obtain rfl := Option.some.inj ho
            have e5 : a'.tmps[5]?.getD undef = .pointer (some ⟨w.heap.size + 1 + 1, 0, none⟩) := (Array.getD_eq_getD_getElem? ..).symm.trans (hlow 5 (by kernel_rfl))
            exact .inl ⟨wanted_guard (g := 2) (d := 20) (b := true) rfl rfl rfl (hdep 2 _ 20 (by kernel_rfl) rfl rfl), .inl ⟨(), W1, fun _ _ => rfl, by simp [execOp, Act.eval, e5, cv5, go_sem], rfl⟩⟩
          · obtain rfl := Option.some.inj ho
            have e7 : a'.tmps[7]?.getD undef = .int .i64 (m : Int) := (Array.getD_eq_getD_getElem? ..).symm.trans (hlow 7 (by kernel_rfl))
            exact .inl ⟨wanted_guard (g := 2) (d := 20) (b := true) rfl rfl rfl (hdep 2 _ 20 (by kernel_rfl) rfl rfl), .inl ⟨(), W1, fun _ _ => rfl, by simp [execOp, Act.eval, e7, go_sem], rfl⟩⟩
          · obtain rfl := Option.some.inj ho
            have e21 : a'.tmps[21]?.getD undef = .slice (some ⟨g, 0, none⟩) n cv := (Array.getD_eq_getD_getElem? ..).symm.trans (hdep 3 _ 21 (by kernel_rfl) rfl rfl)
            have e22 : a'.tmps[22]?.getD undef = .int .i64 (m : Int) := (Array.getD_eq_getD_getElem? ..).symm.trans (hdep 4 _ 22 (by kernel_rfl) rfl rfl)
            exact .inl ⟨wanted_guard (g := 2) (d := 20) (b := true) rfl rfl rfl (hdep 2 _ 20 (by kernel_rfl) rfl rfl), .inl ⟨(), W1, fun _ _ => rfl, by simp [execOp, Act.eval, e21, e22, hm0, hm1, go_sem], rfl⟩⟩
          · obtain rfl := Option.some.inj ho
            have e23 : a'.tmps[23]?.getD undef = .pointer (some ⟨g, m * 3, none⟩) := (Array.getD_eq_getD_getElem? ..).symm.trans (hdep 5 _ 23 (by kernel_rfl) rfl rfl)
            exact .inl ⟨wanted_guard (g := 2) (d := 20) (b := true) rfl rfl rfl (hdep 2 _ 20 (by kernel_rfl) rfl rfl), .inl ⟨(), W1, fun _ _ => rfl, by simp [execOp, Act.eval, e23, go_sem], rfl⟩⟩
          · obtain rfl := Option.some.inj ho
            have e24 : a'.tmps[24]?.getD undef = .pointer (some ⟨g, m * 3, none⟩) := (Array.getD_eq_getD_getElem? ..).symm.trans (hdep 6 _ 24 (by kernel_rfl) rfl rfl)
            exact .inl ⟨wanted_guard (g := 2) (d := 20) (b := true) rfl rfl rfl (hdep 2 _ 20 (by kernel_rfl) rfl rfl), .inl ⟨(), W1, fun _ _ => rfl, by simp [execOp, Act.eval, e24, cl0, go_sem], rfl⟩⟩
          · obtain rfl := Option.some.inj ho
            have e6 : a'.tmps[6]?.getD undef = .pointer (some ⟨Bx, 0, none⟩) := (Array.getD_eq_getD_getElem? ..).symm.trans (hlow 6 (by kernel_rfl))
            exact .inl ⟨wanted_guard (g := 2) (d := 20) (b := true) rfl rfl rfl (hdep 2 _ 20 (by kernel_rfl) rfl rfl), .inl ⟨(), W1, fun _ _ => rfl, by simp [execOp, Act.eval, e6, go_sem], rfl⟩⟩
          · obtain rfl := Option.some.inj ho
            have e26 : a'.tmps[26]?.getD undef = .pointer (some ⟨Bx, 0, none⟩) := (Array.getD_eq_getD_getElem? ..).symm.trans (hdep 8 _ 26 (by kernel_rfl) rfl rfl)
            exact .inl ⟨wanted_guard (g := 2) (d := 20) (b := true) rfl rfl rfl (hdep 2 _ 20 (by kernel_rfl) rfl rfl), .inl ⟨(), W1, fun _ _ => rfl, by simp [execOp, Act.eval, e26, p0, go_sem], rfl⟩⟩
          · obtain rfl := Option.some.inj ho
            have e25 : a'.tmps[25]?.getD undef = .int .i64 l.j := (Array.getD_eq_getD_getElem? ..).symm.trans (hdep 7 _ 25 (by kernel_rfl) rfl rfl)
            have e27 : a'.tmps[27]?.getD undef = .int .i64 x.j := (Array.getD_eq_getD_getElem? ..).symm.trans (hdep 9 _ 27 (by kernel_rfl) rfl rfl)
            exact .inl ⟨wanted_guard (g := 2) (d := 20) (b := true) rfl rfl rfl (hdep 2 _ 20 (by kernel_rfl) rfl rfl), .inl ⟨(), W1, fun _ _ => rfl, by simp [execOp, Act.eval, e25, e27, b1, go_sem], rfl⟩⟩
          · obtain rfl := Option.some.inj ho
            have e20 : a'.tmps[20]?.getD undef = .bool true := (Array.getD_eq_getD_getElem? ..).symm.trans (hdep 2 _ 20 (by kernel_rfl) rfl rfl)
            have e28 : a'.tmps[28]?.getD undef = .bool false := (Array.getD_eq_getD_getElem? ..).symm.trans (hdep 10 _ 28 (by kernel_rfl) rfl rfl)
            exact .inl ⟨wanted_free rfl, .inl ⟨(), W1, fun _ _ => rfl, by simp [execOp, Act.eval, e20, e28, go_sem], rfl⟩⟩
end
end Go.Proofs.Ytnkoncplfedffaa
