/- What a rule of choice yields, piece by piece: the program's iterator. -/
import Derived.Test.YtnkoncplfedffaaRgT
import Derived.Test.YtnkoncplfedffaaChf
import Derived.Test.YtnkoncplfedffaaGri
import Derived.Test.YtnkoncplfedffaaRegR
import Derived.TacticsInMore
import Derived.OwnWalkIn
import Derived.LoopNIn
import Derived.LoopIn
namespace Go.Proofs.Ytnkoncplfedffaa
open Go.RowKit Go.Shelf
attribute [local go_sem] Oper.semAt_some
/-- The rests of at most eight jobs as the program keeps them. -/
def pad8 (R : List Int) : List Int := R ++ List.replicate (8 - R.length) 0
theorem pad8_len {R : List Int} (h : R.length ≤ 8) : (pad8 R).length = 8 := by unfold pad8; simp; omega
theorem pad8_at (R : List Int) (i : Nat) : (pad8 R).getD i 0 = R.getD i 0 := by
  unfold pad8
  rw [List.getD_eq_getElem?_getD, List.getD_eq_getElem?_getD]
  by_cases h : i < R.length
  · rw [List.getElem?_append_left h]
  · rw [List.getElem?_append_right (by omega), List.getElem?_replicate, List.getElem?_eq_none (by omega)]
    split <;> rfl
theorem pad8_set (R : List Int) (k : Nat) (x : Int) (h : k < R.length) : (pad8 R).set k x = pad8 (R.set k x) := by
  unfold pad8
  rw [List.set_append_left _ _ h, List.length_set]
theorem pad8_done {R : List Int} (hp : ∀ x ∈ R, 0 ≤ x) (h : R.length ≤ 8) : decide (pad8 R = List.replicate 8 0) = !decide (0 < R.sum) := by
  by_cases hs : 0 < R.sum
  · obtain ⟨i, hi, hx⟩ := sum_pos hp hs
    rw [decide_eq_true hs, Bool.not_true]
    refine decide_eq_false fun e => ?_
    have h1 := pad8_at R i
    rw [e] at h1
    have h2 : (List.replicate 8 (0 : Int)).getD i 0 = 0 := by
      rw [List.getD_eq_getElem?_getD, List.getElem?_replicate]
      split <;> rfl
    omega
  · rw [decide_eq_false hs, Bool.not_false]
    refine decide_eq_true ?_
    have hz : ∀ x ∈ R, x = 0 := fun x hx => by have := hp x hx; have := le_sum hp x hx; omega
    have hR : R = List.replicate R.length 0 := List.eq_replicate_iff.2 ⟨rfl, hz⟩
    unfold pad8
    rw [hR]
    simp only [List.length_replicate, List.replicate_append_replicate]
    congr 1
    omega
theorem chPick_pad (js : List J) (o : Int) (R : List Int) (now : Int) : chPick js o (pad8 R) now = chPick js o R now := by
  unfold chPick
  refine pickTo_congr (fun i _ => ?_) (fun i _ _ => ?_)
  · unfold chOk; rw [pad8_at]
  · unfold chRk; rw [pad8_at]
/-- The pieces so far, where time stands and what is left. -/
inductive Pcs (js : List J) (o n0 : Int) (R0 : List Int) : List Sp → Int → List Int → Prop
  | nil : Pcs js o n0 R0 [] n0 R0
  | wait {ys : List Sp} {now : Int} {R : List Int} : Pcs js o n0 R0 ys now R → 0 < R.sum → chPick js o R now < 0 → Pcs js o n0 R0 ys (nextR js now) R
  | take {ys : List Sp} {now : Int} {R : List Int} {k : Nat} : Pcs js o n0 R0 ys now R → chPick js o R now = (k : Int) → Pcs js o n0 R0 (ys ++ [⟨(k : Int), now, toR js R now k⟩]) (toR js R now k) (R.set k (R.getD k 0 - (toR js R now k - now)))
/-- The worlds of a region that reads, makes one block and fills it. -/
def SC (W1 W2 W3 : World) (L : Array Bool) (w' : World) : Prop := (L.getD 2 true = false → w' = W1) ∧ (L.getD 2 true = true → L.getD 4 true = false → w' = W2) ∧ (L.getD 4 true = true → w' = W3)
section
variable {W1 W2 W3 w' : World} {L : Array Bool}
theorem SC.start {w2 : World} (h : W1 = w2.drew) : SC W1 W2 W3 (Array.replicate 5 false) w2.drew := ⟨fun _ => h.symm, fun e => absurd e (by decide), fun e => absurd e (by decide)⟩
theorem SC.one (h : SC W1 W2 W3 L w') : w' = W1 ∨ w' = W2 ∨ w' = W3 := by
  cases h2 : L.getD 2 true
  · exact .inl (h.1 h2)
  · cases h4 : L.getD 4 true
    · exact .inr (.inl (h.2.1 h2 h4))
    · exact .inr (.inr (h.2.2 h4))
theorem SC.keep {i : Nat} (h : SC W1 W2 W3 L w') (h2 : i ≠ 2) (h4 : i ≠ 4) : SC W1 W2 W3 (L.setIfInBounds i true) w' := by
  unfold SC at *
  rw [getD_set_true, getD_set_true, if_neg (fun e => h2 e.1), if_neg (fun e => h4 e.1)]
  exact h
theorem SC.alloc (h : SC W1 W2 W3 L w') (h2 : L.getD 2 true = false) (h4 : L.getD 4 true = false) (hs : 2 < L.size) : w' = W1 ∧ SC W1 W2 W3 (L.setIfInBounds 2 true) W2 := by
  refine ⟨h.1 h2, fun e => ?_, fun _ _ => rfl, fun e => ?_⟩
  · rw [getD_set_true, if_pos ⟨rfl, hs⟩] at e; cases e
  · rw [getD_set_true, if_neg (by omega), h4] at e; cases e
theorem SC.store (h : SC W1 W2 W3 L w') (h2 : L.getD 2 true = true) (h4 : L.getD 4 true = false) (hs : 4 < L.size) : w' = W2 ∧ SC W1 W2 W3 (L.setIfInBounds 4 true) W3 := by
  refine ⟨h.2.1 h2 h4, fun e => ?_, fun _ e => ?_, fun _ => rfl⟩
  · rw [getD_set_true, if_neg (by omega), h2] at e; cases e
  · rw [getD_set_true, if_pos ⟨rfl, hs⟩] at e; cases e
end
/-- What the iterator reads in each round: the boxes of the jobs and of the rule; what lay when the split schedule was begun. -/
def PcK (wz : World) (bJ bC : Nat) (A : Option Addr) (c n : Nat) (cv : Array Value) (W : World) : Prop := BlockIs W bJ 26 #[.slice A n c] ∧ BlockIs W bC 76 cv ∧ Below wz.heap.size wz W
theorem PcK.it {wz : World} {bJ bC : Nat} {A : Option Addr} {c n : Nat} {cv : Array Value} {T : TypeId} {B : Nat} {X Y : World} (h : PcK wz bJ bC A c n cv X) (hi : It T B X Y) (h1 : bJ < B) (h2 : bC < B) (h3 : wz.heap.size ≤ B) : PcK wz bJ bC A c n cv Y :=
  ⟨(hi.below.block _ h1).trans h.1, (hi.below.block _ h2).trans h.2.1, h.2.2.trans (hi.below.mono h3)⟩
/-- What a round keeps for the iterator. -/
def PcKp (T : TypeId) (Kx : World → Prop) (X Y : World) : Prop := (Kx X → Kx Y) ∧ X.heap.size ≤ Y.heap.size ∧ ∀ k cs, BlockIs X k T cs → BlockIs Y k T cs
section
variable (A : Option Addr) (c : Nat) (js : List J) (o n0 : Int) (R0 : List Int) (wz : World) (fv : Value) (tp : Bool) (hr : Row wz A (jc js)) (hg : goodL js = true) (hi0 : CIn js n0 R0)
include hr hg hi0
set_option maxRecDepth 100000 in
set_option maxHeartbeats 4000000 in
theorem pieces1_in (n : Nat) (h1 : 1 ≤ n) (l bN bR bJ bC : Nat) (J : List Sp → World → Prop) (W : World)
    (hN : bN < W.heap.size) (hR : bR < W.heap.size) (hJ : bJ < W.heap.size) (hC : bC < W.heap.size) (hz : wz.heap.size ≤ W.heap.size)
    (cN : BlockIs W bN 3 #[.int .i64 n0]) (cR : BlockIs W bR 105 (ic (pad8 R0)).toArray) (hK : PcK wz bJ bC A c js.length #[.func (.func (fRank o)) #[] #[], fv, .bool tp] W)
    (hst : ∀ s X Y, It 105 W.heap.size X Y → J s X → J s Y)
    (hY : ∀ pre x W1, J pre W1 → pre.length < 901 → YieldAt Fence.wide (n - 1) Try.prog l #[aggSp x] W1 fun e W' => e = .returned (.bool true) ∧ J (pre ++ [x]) W' ∧ PcKp 105 (PcK wz bJ bC A c js.length #[.func (.func (fRank o)) #[] #[], fv, .bool tp]) W1 W')
    (h0 : J [] W) :
    CallsIn Fence.wide n Try.prog 115 #[.func (.yield l) #[] #[], .pointer (some ⟨bN, 0, none⟩), .pointer (some ⟨bR, 0, none⟩), .pointer (some ⟨bJ, 0, none⟩), .pointer (some ⟨bC, 0, none⟩)] W fun e W' => (∃ v, e = .returned v) ∧ ∃ xs, (∃ now R, Pcs js o n0 R0 xs now R ∧ ¬ 0 < R.sum) ∧ J xs W' := by
  have h8 := (good_out hg).1
  have hL0 : (pad8 R0).length = 8 := pad8_len (by rw [hi0.len]; exact h8)
  obtain ⟨a, b, c1, d1, e1, f1, g1, i1, hE0⟩ := list8 hL0
  have cR' := cR
  rw [hE0] at cR'
  have q0 := cN.cell 0
  obtain ⟨r0, r1, r2, r3, r4, r5, r6, r7⟩ := cells8 cR'
  simp only [List.getElem?_toArray, List.getElem?_cons_zero] at q0
  have H0 : Hid (BlockIs ((W.alloc (.cells #[.int .i64 a, .int .i64 b, .int .i64 c1, .int .i64 d1, .int .i64 e1, .int .i64 f1, .int .i64 g1, .int .i64 i1] 105)).drew) W.heap.size 105 (ic (pad8 R0)).toArray) := by
    show BlockIs _ _ _ _
    rw [hE0]
    exact (BlockIs.new W 105 _).drew
  have hit0 : It 105 W.heap.size W ((W.alloc (.cells #[.int .i64 a, .int .i64 b, .int .i64 c1, .int .i64 d1, .int .i64 e1, .int .i64 f1, .int .i64 g1, .int .i64 i1] 105)).drew) := It.of_below (((Below.refl _ W).alloc (Nat.le_refl _) _).drew) (Nat.le_refl _)
  have HJ0 := Lib.hid (hst _ _ _ hit0 h0)
  have HK0 := Lib.hid (hK.it hit0 hJ hC hz)
  have HN0 := hi0.now0
  clear cN cR cR' hit0 h0 hK hL0
  refine callsIn_of_wp Try.func115 rfl trivial ?_ rfl
  simp only [Try.ntmps115, List.size_toArray, List.length_cons, List.length_nil, Nat.reduceAdd, Nat.reduceSub, Array.replicate_succ, Array.replicate_zero, List.push_toArray, List.append_toArray, List.nil_append, List.cons_append]
  gi_wp2
  refine wpIn_wide.2 ?_
  go_region
  clear q0 r0 r1 r2 r3 r4 r5 r6 r7
  have hsW : W.heap.size < ((W.alloc (.cells #[.int .i64 a, .int .i64 b, .int .i64 c1, .int .i64 d1, .int .i64 e1, .int .i64 f1, .int .i64 g1, .int .i64 i1] 105)).drew).heap.size := by simp
  have HI0 := Lib.hid hi0
  have hr0 := Lib.hid hr
  have HG := Lib.hid hg
  have HST := Lib.hid hst
  have HYY := Lib.hid hY
  have HBJ := Lib.hid (And.intro hJ (And.intro hC hz))
  clear hi0 hr hg hst hY hJ hC hz hN hR hE0
  generalize ((W.alloc (.cells #[.int .i64 a, .int .i64 b, .int .i64 c1, .int .i64 d1, .int .i64 e1, .int .i64 f1, .int .i64 g1, .int .i64 i1] 105)).drew) = W0 at *
  gi_wp2
  gi_loopw [6, 7] (fun i p wr => ∃ (ys : List Sp) (R : List Int) (now : Int) (gR : Nat), i = .int .i64 now ∧ p = .pointer (some ⟨gR, 0, none⟩) ∧ Hid (Pcs js o n0 R0 ys now R) ∧ Hid (CIn js now R) ∧ (ys.length : Int) ≤ now ∧ BlockIs wr gR 105 (ic (pad8 R)).toArray ∧ W.heap.size ≤ gR ∧ W.heap.size ≤ wr.heap.size ∧ Hid (J ys wr) ∧ Hid (PcK wz bJ bC A c js.length #[.func (.func (fRank o)) #[] #[], fv, .bool tp] wr)) (fun i _ _ => (1000 - intOf i).toNat)
  case atStart => exact ⟨[], R0, n0, W.heap.size, rfl, rfl, Pcs.nil, HI0.out, by simpa using HN0, H0.out, Nat.le_refl _, Nat.le_of_lt hsW, HJ0.out, HK0.out⟩
  case round =>
    obtain ⟨ys, R, now, gR, rfl, rfl, hP, hC, hlen, hB, hge, hsz, hJy, hK⟩ := hrel
    clear H0 HJ0 HK0 HN0 hsW
    have hRl := hC.out.len
    have hL := pad8_len (R := R) (by omega)
    have HDN := Lib.hid (pad8_done hC.out.pos (by omega))
    have HPK := Lib.hid (chPick_pad js o R now)
    obtain ⟨a, b, c1, d1, e1, f1, g1, i1, hE⟩ := list8 hL
    have HB := Lib.hid hB
    rw [hE] at hB HDN HPK
    have HAD : ∀ w', Calls Try.prog 116 #[.agg #[.int .i64 a, .int .i64 b, .int .i64 c1, .int .i64 d1, .int .i64 e1, .int .i64 f1, .int .i64 g1, .int .i64 i1]] w' fun e w'' => e = .returned (.bool (!decide (0 < R.sum))) ∧ Below w'.heap.size w' w'' := fun w' => by
      have := areDone_any [a, b, c1, d1, e1, f1, g1, i1] rfl w'
      rwa [HDN.out] at this
    have HAD' := Lib.hid HAD
    obtain ⟨r0, r1, r2, r3, r4, r5, r6, r7⟩ := cells8 hB
    have HE := Lib.hid hE
    clear HAD hE hL
    by_cases hs : 0 < R.sum
    · have hss : (!decide (0 < R.sum)) = false := by rw [decide_eq_true hs]; rfl
      rw [hss] at HAD'
      clear hss
      gi_wp2_with (refine ⟨trivial, ?_⟩; gi_at_call 116; refine (callsIn_wide.2 (HAD'.out _)).mono ?_; clear HAD')
      first | rintro e w2 rfl hb2 | rintro e w2 ⟨rfl, hb2⟩
      have hB2 := hB.below hb2
      have hK2 := hK.out.it (It.of_below (T := 105) (B := W.heap.size) hb2 hsz) HBJ.out.1 HBJ.out.2.1 HBJ.out.2.2
      have HJ2 := Lib.hid (HST.out _ _ _ (It.of_below hb2 hsz) hJy.out)
      have hz2 := Nat.le_trans hsz hb2.size
      have cJ := Boxed.cell hK2.1
      have HNR := Lib.hid (nextRelease_any A c js now w2 (hr0.out.below hK2.2.2) (good_out HG.out).1)
      clear r0 r1 r2 r3 r4 r5 r6 r7 hB hK hJy hsz hb2
      gi_wp2_with (refine ⟨trivial, ?_⟩; gi_at_call 117; refine (callsIn_wide.2 HNR.out).mono ?_; clear HNR)
      first | rintro e w3 rfl hb3 | rintro e w3 ⟨rfl, hb3⟩
      have hB3 := hB2.below hb3
      have hK3 := hK2.it (It.of_below (T := 105) (B := W.heap.size) hb3 hz2) HBJ.out.1 HBJ.out.2.1 HBJ.out.2.2
      have HJ3 := Lib.hid (HST.out _ _ _ (It.of_below hb3 hz2) HJ2.out)
      have hz3 := Nat.le_trans hz2 hb3.size
      obtain ⟨r0, r1, r2, r3, r4, r5, r6, r7⟩ := cells8 hB3
      have cJ := Boxed.cell hK3.1
      have cC0 := hK3.2.1.cell 0
      have cC1 := hK3.2.1.cell 1
      have cC2 := hK3.2.1.cell 2
      simp only [List.getElem?_toArray, List.getElem?_cons_zero, List.getElem?_cons_succ] at cC0 cC1 cC2
      have HCH := Lib.hid (chosen_any A c js o now [a, b, c1, d1, e1, f1, g1, i1] fv tp w3 (hr0.out.below hK3.2.2) (good_out HG.out).1 rfl)
      rw [show agg8 [a, b, c1, d1, e1, f1, g1, i1] = .agg #[.int .i64 a, .int .i64 b, .int .i64 c1, .int .i64 d1, .int .i64 e1, .int .i64 f1, .int .i64 g1, .int .i64 i1] from rfl, HPK.out] at HCH
      clear hB2 hK2 HJ2 hz2 hb3
      gi_wp2_with (refine ⟨trivial, ?_⟩; gi_at_call 118; refine (callsIn_wide.2 HCH.out).mono ?_; clear HCH)
      first | rintro e w4 rfl hb4 | rintro e w4 ⟨rfl, hb4⟩
      have hB4 := hB3.below hb4
      have hK4 := Lib.hid (hK3.it (It.of_below (T := 105) (B := W.heap.size) hb4 hz3) HBJ.out.1 HBJ.out.2.1 HBJ.out.2.2)
      have HJ4 := Lib.hid (HST.out _ _ _ (It.of_below hb4 hz3) HJ3.out)
      have hz4 := Nat.le_trans hz3 hb4.size
      have hgw : gR < w4.heap.size := hB4.lt
      clear r0 r1 r2 r3 r4 r5 r6 r7 cJ cC0 cC1 cC2 hB3 hK3 HJ3 hz3 hb4
      by_cases hn : chPick js o R now < 0
      · have hm1 : chPick js o R now = -1 := by
          rcases pickTo_spec (chOk js R now) (chRk js o R) js.length with ⟨h, _⟩ | ⟨b, h, _⟩
          · exact h
          · change chPick js o R now = (b : Int) at h; omega
        obtain ⟨h5, h6⟩ := next_500 HG.out hC.out hs hn
        have HP2 := Lib.hid (Pcs.wait hP.out hs hn)
        have HC2 := Lib.hid ((chFin_skip (out := []) HG.out hC.out hs hn).2)
        obtain ⟨r0, r1, r2, r3, r4, r5, r6, r7⟩ := cells8 hB4
        have hitA : It 105 W.heap.size w4 (w4.alloc (.cells #[.int .i64 a, .int .i64 b, .int .i64 c1, .int .i64 d1, .int .i64 e1, .int .i64 f1, .int .i64 g1, .int .i64 i1] 105)) := It.of_below ((Below.refl _ _).alloc (Nat.le_refl _) _) hz4
        have HX := Lib.hid (And.intro (HST.out _ _ _ hitA HJ4.out) (hK4.out.it hitA HBJ.out.1 HBJ.out.2.1 HBJ.out.2.2))
        have HN : Hid (BlockIs (w4.alloc (.cells #[.int .i64 a, .int .i64 b, .int .i64 c1, .int .i64 d1, .int .i64 e1, .int .i64 f1, .int .i64 g1, .int .i64 i1] 105)) w4.heap.size 105 (ic (pad8 R)).toArray) := by
          show BlockIs _ _ _ _
          rw [HE.out]; exact BlockIs.new w4 105 _
        rw [hm1]
        generalize nextR js now = nx at *
        clear hP hC hm1 hn hitA hB4 HB
        gi_wp2
        go_roundw
        case rel => exact ⟨ys, R, nx, w4.heap.size, rfl, rfl, HP2.out, HC2.out, by omega, HN.out, by omega, by simp; omega, HX.out.1, HX.out.2⟩
        case measure => simp [intOf]; omega
      · have hk : ∃ k : Nat, chPick js o R now = (k : Int) := ⟨_, (Int.toNat_of_nonneg (by omega)).symm⟩
        obtain ⟨k, hk⟩ := hk
        obtain ⟨hkj, t1, t2, t3, t4⟩ := toR_gt hC.out hk
        have hkR : k < R.length := by rw [hRl]; exact hkj
        have hk8 : k < (pad8 R).length := by rw [pad8_len (by omega)]; omega
        have hxe : (pad8 R)[k] = R.getD k 0 := by rw [← pad8_at R k, getD_at _ 0 hk8]
        have hx0 := hC.out.at0 k
        have hx1 := hC.out.at1 hkj
        have hbd := hC.out.bd
        have hn0 := hC.out.now0
        have HP2 := Lib.hid (Pcs.take hP.out hk)
        have HC2 := Lib.hid (chFin_to (out := []) hC.out hk).2
        have HTD : Hid (toR js R now k = min (now + R.getD k 0) (nextR js now)) := rfl
        have hmn : (if nextR js now < now + R.getD k 0 then nextR js now else now + R.getD k 0) = toR js R now k := by
          rw [HTD.out]; split <;> omega
        have HB4 : Hid (BlockIs w4 gR 105 (ic (pad8 R)).toArray) := by show BlockIs _ _ _ _; rw [HE.out]; exact hB4
        have hBk := HB4.out.int hk8
        rw [hxe] at hBk
        have HPS := Lib.hid (pad8_set R k (R.getD k 0 - (toR js R now k - now)) hkR)
        have HXE : Hid (∀ h : k < (pad8 R).length, (pad8 R)[k] = R.getD k 0) := fun _ => hxe
        have HLR : Hid (R.length ≤ 8) := by show _ ≤ _; omega
        rw [hk]
        generalize R.getD k 0 = x at *
        generalize toR js R now k = tt at *
        generalize nextR js now = nx at *
        have hw1 := IntWalk.i64_in (now + x) (by omega)
        have hw2 := IntWalk.i64_in (tt - now) (by omega)
        have hw3 := IntWalk.i64_in (x - (tt - now)) (by omega)
        have hk0 : (0 : Int) ≤ k := by omega
        have hk1 : (k : Int) < 8 := by omega
        have hkm : ((k : Int) == -1) = false := by rw [beq_eq_false_iff_ne]; omega
        have hkd : decide ((k : Int) = -1) = false := decide_eq_false (by omega)
        obtain ⟨fn, tmps, assign, body, hy, hR5⟩ := HYY.out ys ⟨(k : Int), now, tt⟩ w4 HJ4.out (by omega)
        dsimp only [aggSp] at hy
        clear hP hC hk hn hxe HB hB4 HJ4 HTD hkR hk8 hRl
        gi_wp2
        refine hR5.mono ?_
        rintro e W5 ⟨rfl, hJ5, hk5⟩
        have hB5 := hk5.2.2 gR _ HB4.out
        have hK5 := hk5.1 hK4.out
        have hz5 := Nat.le_trans hz4 hk5.2.1
        have hf5 := hB5.frozen k
        have hit6 : It 105 W.heap.size W5 (W5.setCell ⟨gR, k, none⟩ (.int .i64 (x - (tt - now)))) := It.set hB5 hge k _
        have hB6 := hB5.set k (.int .i64 (x - (tt - now)))
        rw [ic_set, HPS.out] at hB6
        have hk6 : k < (pad8 R).length := by rw [pad8_len (by have := HLR.out; omega)]; omega
        have hBk := hB5.int hk6
        rw [HXE.out hk6] at hBk
        have hs6 : (W5.setCell ⟨gR, k, none⟩ (.int .i64 (x - (tt - now)))).heap.size = W5.heap.size := by simp
        have hl6 : (pad8 (R.set k (x - (tt - now)))).length = 8 := pad8_len (by rw [List.length_set]; have := HLR.out; omega)
        obtain ⟨a2, b2, c2, d2, e2, f2, g2, i2, hE6⟩ := list8 hl6
        have HE6 := Lib.hid hE6
        rw [hE6] at hB6
        obtain ⟨r0, r1, r2, r3, r4, r5, r6, r7⟩ := cells8 hB6
        have hit7 : It 105 W.heap.size W5 ((W5.setCell ⟨gR, k, none⟩ (.int .i64 (x - (tt - now)))).alloc (.cells #[.int .i64 a2, .int .i64 b2, .int .i64 c2, .int .i64 d2, .int .i64 e2, .int .i64 f2, .int .i64 g2, .int .i64 i2] 105)) :=
          hit6.trans (It.of_below ((Below.refl _ _).alloc (Nat.le_refl _) _) (by rw [hs6]; exact hz5))
        have HX := Lib.hid (And.intro (HST.out _ _ _ hit7 hJ5) (hK5.it hit7 HBJ.out.1 HBJ.out.2.1 HBJ.out.2.2))
        have HN : Hid (BlockIs ((W5.setCell ⟨gR, k, none⟩ (.int .i64 (x - (tt - now)))).alloc (.cells #[.int .i64 a2, .int .i64 b2, .int .i64 c2, .int .i64 d2, .int .i64 e2, .int .i64 f2, .int .i64 g2, .int .i64 i2] 105)) W5.heap.size 105 (ic (pad8 (R.set k (x - (tt - now))))).toArray) := by
          show BlockIs _ _ _ _
          have h := BlockIs.new (W5.setCell ⟨gR, k, none⟩ (.int .i64 (x - (tt - now)))) 105 #[.int .i64 a2, .int .i64 b2, .int .i64 c2, .int .i64 d2, .int .i64 e2, .int .i64 f2, .int .i64 g2, .int .i64 i2]
          rw [hs6] at h
          rw [HE6.out]; exact h
        clear hJ5 hk5 hB5 hK5 hit6 hit7 hB6 hE6 hl6 hk6
        gi_wp2
        go_roundw
        case rel => exact ⟨ys ++ [(⟨(k : Int), now, tt⟩ : Sp)], R.set k (x - (tt - now)), tt, W5.heap.size, rfl, rfl, HP2, HC2, by rw [List.length_append]; simp; omega, HN.out, by omega, by simp; omega, Lib.hid HX.out.1, Lib.hid HX.out.2⟩
        case measure => simp [intOf]; omega
    · have hss : (!decide (0 < R.sum)) = true := by rw [decide_eq_false hs]; rfl
      rw [hss] at HAD'
      clear hss
      gi_wp2_with (refine ⟨trivial, ?_⟩; gi_at_call 116; refine (callsIn_wide.2 (HAD'.out _)).mono ?_; clear HAD')
      first | rintro e w2 rfl hb2 | rintro e w2 ⟨rfl, hb2⟩
      have HX := Lib.hid (HST.out _ _ _ (It.of_below hb2 hsz) hJy.out)
      clear hb2 hJy hK hB
      gi_wp2
      go_end0
      exact ⟨⟨_, rfl⟩, ys, ⟨now, R, hP.out, hs⟩, HX.out⟩
end
end Go.Proofs.Ytnkoncplfedffaa
