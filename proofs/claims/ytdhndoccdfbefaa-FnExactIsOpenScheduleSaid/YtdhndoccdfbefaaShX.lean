/- ShopLoad: both sides. -/
import Derived.Test.YtdhndoccdfbefaaShW
import Derived.Test.YtdhndoccdfbefaaShS
namespace Go.Proofs.Ytdhndoccdfbefaa
open Go.RowKit

theorem infoLn : (Try.prog.info? 70).map (fun i => (i.zero, i.size, i.bytes)) = some (some .nilIface, 1, 16) := by kernel_rfl
def lnM (k : Nat) : List Value := (List.range k).map fun (v : Nat) => Value.iface 78 (.int .i64 (v : Int))
def lnJ (k : Nat) : List Value := (List.range k).map fun (v : Nat) => Value.iface 79 (.int .i64 (v : Int))
theorem lnM_step (k : Nat) : lnM (k + 1) = lnM k ++ [.iface 78 (.int .i64 (k : Int))] := by unfold lnM; rw [List.range_succ, List.map_append]; rfl
theorem lnJ_step (k : Nat) : lnJ (k + 1) = lnJ k ++ [.iface 79 (.int .i64 (k : Int))] := by unfold lnJ; rw [List.range_succ, List.map_append]; rfl
theorem ln_get (m n k : Nat) (h : k < m + n) : (lnM m ++ lnJ n)[k]? = some (if k < m then .iface 78 (.int .i64 (k : Int)) else .iface 79 (.int .i64 ((k - m : Nat) : Int))) := by
  by_cases hk : k < m
  · rw [if_pos hk, List.getElem?_append_left (by simp [lnM]; omega)]
    simp [lnM, hk]
  · rw [if_neg hk, List.getElem?_append_right (by simp [lnM]; omega)]
    have hlt : k - m < n := by omega
    simp [lnM, lnJ, hlt]
theorem app_line {R : Nat} {W : World} {v : Value} {n : Nat} {xs : List Value} (hown : W.ownsRow R 70 1 v n xs) (hR : R ≤ W.heap.size) (t : TypeId) (x : Int) (hn : n ≤ 1000) :
    ∃ v' W', (Builtin.append_ #[67, 67] 67 #[v, .slice (some ⟨W.heap.size, 0, none⟩) 1 1]).run Try.prog (W.alloc (.cells #[.iface t (.int .i64 x)] 70)) = .ok v' W' ∧ W'.ownsRow R 70 1 v' (n + 1) (xs ++ [.iface t (.int .i64 x)]) ∧ Below R W W' := by
  have ho : (W.alloc (.cells #[.iface t (.int .i64 x)] 70)).ownsRow R 70 1 v n xs := own_to hown fun g _ _ hg => ((Below.refl W.heap.size W).alloc (Nat.le_refl _) _).block g hg
  obtain ⟨i, hi, hz⟩ := Option.map_eq_some_iff.1 infoLn
  injection hz with hz0 hz
  injection hz with hz1 hz2
  obtain ⟨v', W', hr, h2, h3, _⟩ := append_at (P := Try.prog) (W.alloc (.cells #[.iface t (.int .i64 x)] 70)) R 67 67 70 i .nilIface 1 16 Try.underlying67 hi hz0 hz1 hz2 rfl (by decide) v n xs ho ⟨W.heap.size, 0, none⟩ 1 1 [.iface t (.int .i64 x)] rfl
    (cell_one_new W _ 70)
    (by intro u hu; simp at hu; subst hu; rfl) (by omega) (by unfold maxLen; omega) (by omega) (by simp; omega)
  exact ⟨v', W', hr, h2, app_grown (Below.refl R W) hR hown h3⟩
set_option maxRecDepth 100000 in
set_option maxHeartbeats 4000000 in
theorem lines_any (A : Option Addr) (c : Nat) (xss : List (List Int)) (w : World) (hr : RowSS w A (xss.map ic)) (hs : Shop xss) (hn : xss.length ≤ 10000000 ∧ totL xss ≤ 10000000) :
    Calls Try.prog 78 #[.slice A xss.length c] w fun e w' => ∃ v, e = .returned v ∧ w'.ownsRow w.heap.size 70 1 v (mOf xss + xss.length) (lnM (mOf xss) ++ lnJ xss.length) ∧ Below w.heap.size w w' := by
  have h8 := hs.n8
  have hM3 := hs.m3
  have HM := Lib.hid (fun W (hb : Below w.heap.size w W) => machines_any A c xss W (hr.below hb) hn)
  clear hr hs
  go_enter Try.func78, Try.ntmps78
  go_wp2_with fail
  refine (HM.out _ ((Below.refl _ _).alloc (Nat.le_refl _) _)).mono ?_
  rintro e _ ⟨rfl, q, rfl⟩
  go_wp2
  go_loopw [3, 9] (fun r0 i wr => ∃ (k : Nat) (r : Value), r = r0 ∧ k ≤ mOf xss ∧ i = .int .i64 (k : Int) ∧ Hid (wr.ownsRow w.heap.size 70 1 r k (lnM k) ∧ Below w.heap.size w wr)) (fun _ i _ => mOf xss - (intOf i).toNat)
  case atStart =>
    have hbl : BlockIs ((w.alloc (.cells #[] 70)).drewN q) w.heap.size 70 #[] := BlockIs.new w 70 #[]
    exact ⟨0, _, rfl, Nat.zero_le _, rfl, hbl.own (base := w.heap.size) (n := 0) (c := 0) (size := 1) (Nat.le_refl _) rfl (Nat.le_refl _) (Nat.zero_le _) (Nat.le_refl _), below_drewN ((Below.refl _ _).alloc (Nat.le_refl _) _) _⟩
  case round =>
    obtain ⟨k, r, rfl, hk, rfl, HI⟩ := hrel
    by_cases hlt : k < mOf xss
    · obtain ⟨v', W', hrun, hown, hb⟩ := app_line HI.out.1 HI.out.2.size 78 (k : Int) (by omega)
      rw [← lnM_step] at hown
      have HN := Lib.hid (And.intro hown (HI.out.2.trans hb))
      have HRUN := Lib.hid hrun
      clear hrun hown hb HI
      go_wp2_with (at_builtin; refine wpList_app rfl _ _ _ rfl _ _ _ rfl rfl HRUN.out ?_; clear HRUN)
      go_roundw
      case rel => exact ⟨k + 1, _, rfl, by omega, by go_num, HN.out⟩
      case measure => simp [intOf]; omega
    · obtain rfl : k = mOf xss := by omega
      go_wp2
      go_loopw [3, 20] (fun r0 i wr => ∃ (k : Nat) (r : Value), r = r0 ∧ k ≤ xss.length ∧ i = .int .i64 (k : Int) ∧ Hid (wr.ownsRow w.heap.size 70 1 r (mOf xss + k) (lnM (mOf xss) ++ lnJ k) ∧ Below w.heap.size w wr)) (fun _ i _ => xss.length - (intOf i).toNat)
      case atStart => exact ⟨0, _, rfl, Nat.zero_le _, rfl, by rw [show lnJ 0 = [] from rfl, List.append_nil]; exact HI.out.1, HI.out.2⟩
      case round =>
        obtain ⟨k, r2, rfl, hk2, rfl, HI2⟩ := hrel
        by_cases hlt2 : k < xss.length
        · obtain ⟨v', W', hrun, hown, hb⟩ := app_line HI2.out.1 HI2.out.2.size 79 (k : Int) (by omega)
          rw [List.append_assoc, ← lnJ_step, Nat.add_assoc] at hown
          have HN := Lib.hid (And.intro hown (HI2.out.2.trans hb))
          have HRUN := Lib.hid hrun
          clear hrun hown hb HI2 HI
          go_wp2_with (at_builtin; refine wpList_app rfl _ _ _ rfl _ _ _ rfl rfl HRUN.out ?_; clear HRUN)
          go_roundw
          case rel => exact ⟨k + 1, _, rfl, by omega, by go_num, HN.out⟩
          case measure => simp [intOf]; omega
        · obtain rfl : k = xss.length := by omega
          have HF := Lib.hid HI2.out
          clear HI2 HI
          go_wp2
          go_ret
          exact ⟨_, rfl, HF.out.1, HF.out.2⟩
/-- The greatest of t and of the first k numbers of f. -/
def mxF (t : Int) (f : Nat → Int) : Nat → Int
  | 0 => t
  | k + 1 => max (mxF t f k) (f k)
theorem mxF_add (t : Int) (f : Nat → Int) (a : Nat) : ∀ b, mxF t f (a + b) = mxF (mxF t f a) (fun i => f (a + i)) b
  | 0 => rfl
  | b + 1 => by
    show max (mxF t f (a + b)) (f (a + b)) = max (mxF (mxF t f a) (fun i => f (a + i)) b) (f (a + b))
    rw [mxF_add t f a b]
theorem mxF_from (f : Nat → Int) : ∀ (k : Nat) (t : Int), 0 ≤ t → mxF t f k = max t (mxF 0 f k)
  | 0, t, h => by show t = max t 0; omega
  | k + 1, t, h => by
    show max (mxF t f k) (f k) = max t (max (mxF 0 f k) (f k))
    rw [mxF_from f k t h]
    omega
theorem mxF_bd {f : Nat → Int} {B : Int} (h : ∀ i, 0 ≤ f i ∧ f i ≤ B) {t : Int} (h0 : 0 ≤ t) (h1 : t ≤ B) : ∀ k, 0 ≤ mxF t f k ∧ mxF t f k ≤ B
  | 0 => ⟨h0, h1⟩
  | k + 1 => by
    have a := mxF_bd h h0 h1 k
    have b := h k
    show 0 ≤ max _ _ ∧ max _ _ ≤ B
    omega
theorem mxF_ext {f g : Nat → Int} (t : Int) : ∀ k, (∀ i, i < k → f i = g i) → mxF t f k = mxF t g k
  | 0, _ => rfl
  | k + 1, h => by
    show max (mxF t f k) (f k) = max (mxF t g k) (g k)
    rw [mxF_ext t k (fun i hi => h i (by omega)), h k (by omega)]
def colS (xss : List (List Int)) (v : Nat) : Int := sumN (fun i => tm xss i v) xss.length
def rowS (xss : List (List Int)) (v : Nat) : Int := sumN (fun i => tm xss v i) (mOf xss)
def lineS (xss : List (List Int)) (k : Nat) : Int := if k < mOf xss then colS xss k else rowS xss (k - mOf xss)
def loadV (xss : List (List Int)) : Int := mxF 0 (lineS xss) (mOf xss + xss.length)
theorem load_eq {xss : List (List Int)} (h : Shop xss) : loadV xss = mxF (mxF 0 (rowS xss) xss.length) (colS xss) (mOf xss) := by
  unfold loadV
  rw [mxF_add, mxF_ext 0 (mOf xss) (f := lineS xss) (g := colS xss) (fun i hi => by unfold lineS; rw [if_pos hi]), mxF_ext _ xss.length (f := fun i => lineS xss (mOf xss + i)) (g := rowS xss) (fun i _ => by unfold lineS; rw [if_neg (by omega), show mOf xss + i - mOf xss = i by omega])]
  have b1 := (mxF_bd (f := rowS xss) (B := 90) (fun i => by have := sumN_bd (f := fun k => tm xss i k) (fun k => h.tm i k) (mOf xss); have := h.m3; unfold rowS; omega) (t := 0) (by omega) (by omega) xss.length).1
  have b2 := (mxF_bd (f := colS xss) (B := 240) (fun i => by have := sumN_bd (f := fun k => tm xss k i) (fun k => h.tm k i) xss.length; have := h.n8; unfold colS; omega) (t := 0) (by omega) (by omega) (mOf xss)).1
  rw [mxF_from (rowS xss) _ _ b2, mxF_from (colS xss) _ _ b1]
  omega
theorem load_none {xss : List (List Int)} (h : xss.length = 0) : loadV xss = 0 := by
  obtain rfl := List.eq_nil_of_length_eq_zero h
  rfl
set_option maxRecDepth 100000 in
set_option maxHeartbeats 4000000 in
theorem load_any (A : Option Addr) (c : Nat) (xss : List (List Int)) (w : World) (hr : RowSS w A (xss.map ic)) (hs : Shop xss) (hn : xss.length ≤ 10000000 ∧ totL xss ≤ 10000000) :
    Calls Try.prog 63 #[.slice A xss.length c] w fun e w' => e = .returned (.int .i64 (loadV xss)) ∧ Below w.heap.size w w' := by
  have h8 := hs.n8
  have hM3 := hs.m3
  have HLN := Lib.hid (lines_any A c xss w hr hs hn)
  have HTM := Lib.hid (fun W (hb : Below w.heap.size w W) v (hv : v < mOf xss) => timeOf_m A c xss v W (hr.below hb) hs hn hv)
  have HTJ := Lib.hid (fun W (hb : Below w.heap.size w W) v (hv : v < xss.length) => timeOf_j A c xss v W (hr.below hb) hs hn hv)
  have HLB : Hid (∀ k, 0 ≤ lineS xss k ∧ lineS xss k ≤ 240) := fun k => by
    unfold lineS colS rowS
    split
    · have := sumN_bd (f := fun i => tm xss i k) (fun i => hs.tm i k) xss.length; omega
    · have := sumN_bd (f := fun i => tm xss (k - mOf xss) i) (fun i => hs.tm _ i) (mOf xss); omega
  have HXB := Lib.hid (fun k => mxF_bd HLB.out (t := 0) (by omega) (by omega) k)
  clear hr hs
  go_enter Try.func63, Try.ntmps63
  go_wp2_with fail
  refine HLN.out.mono ?_
  rintro e w1 ⟨v, rfl, hown, hb⟩
  obtain ⟨A', c', rfl, _⟩ := own_slice hown
  have HO := Lib.hid hown
  have HB := Lib.hid hb
  clear hown hb
  generalize hL : mOf xss + xss.length = L at *
  have HL := Lib.hid hL
  have hLb : L ≤ 11 := by omega
  clear hL
  go_wp2
  go_loopw [3, 9] (fun z i wr => ∃ k : Nat, k ≤ L ∧ i = .int .i64 (k : Int) ∧ z = .int .i64 (mxF 0 (lineS xss) k) ∧ Hid (Below w1.heap.size w1 wr)) (fun _ i _ => L - (intOf i).toNat)
  case atStart => exact ⟨0, Nat.zero_le _, rfl, rfl, Below.refl _ _⟩
  case round =>
    obtain ⟨k, hk, rfl, rfl, HI⟩ := hrel
    by_cases hlt : k < L
    · have hbw : Below w.heap.size w wr := HB.out.trans (HI.out.mono HB.out.size)
      have hrow := (Row.of_own HO.out).below HI.out
      obtain ⟨a, hA, hc⟩ := hrow.at_ (k := k) (by have := HL.out; simp [lnM, lnJ]; omega)
      subst hA
      have hge : (lnM (mOf xss) ++ lnJ xss.length)[k]'(by have := HL.out; simp [lnM, lnJ]; omega) = (if k < mOf xss then .iface 78 (.int .i64 (k : Int)) else .iface 79 (.int .i64 ((k - mOf xss : Nat) : Int))) := by
        have h1 := ln_get (mOf xss) xss.length k (by have := HL.out; omega)
        rw [List.getElem?_eq_getElem (by have := HL.out; simp [lnM, lnJ]; omega)] at h1
        exact Option.some.inj h1
      rw [hge] at hc
      have hi0 : (0 : Int) ≤ k := by omega
      have hi1 : (k : Int) < (L : Nat) := by omega
      have hx0 := HXB.out k
      have hl0 := HLB.out k
      have hst : Hid (mxF 0 (lineS xss) (k + 1) = (if mxF 0 (lineS xss) k < lineS xss k then lineS xss k else mxF 0 (lineS xss) k)) := by
        show max _ _ = _
        split <;> omega
      have HBW := Lib.hid hbw
      have HRE : Hid (∀ W, Below wr.heap.size wr W → Below w1.heap.size w1 W) := fun W hb => HI.out.trans (hb.mono HI.out.size)
      by_cases hkm : k < mOf xss
      · rw [if_pos hkm] at hc
        have HC := Lib.hid (HTM.out wr hbw k hkm)
        rw [show sumN (fun i => tm xss i k) xss.length = lineS xss k by unfold lineS; rw [if_pos hkm]; rfl] at HC
        clear hrow hge hkm hbw HI
        generalize hz1 : mxF 0 (lineS xss) (k + 1) = z1 at *
        have HZ1 := Lib.hid hz1
        clear hz1
        generalize mxF 0 (lineS xss) k = z0 at *
        generalize lineS xss k = t at *
        go_wp2_with fail
        refine HC.out.mono ?_
        rintro e w2 ⟨rfl, hb2⟩
        have HN := Lib.hid (HRE.out w2 hb2)
        clear hb2
        go_wp2
        go_roundw
        case rel => exact ⟨k + 1, by omega, by go_num, by rw [HZ1.out, hst.out], HN.out⟩
        case measure => simp [intOf]; omega
      · rw [if_neg hkm] at hc
        have HC := Lib.hid (HTJ.out wr hbw (k - mOf xss) (by have := HL.out; omega))
        rw [show sumN (fun i => tm xss (k - mOf xss) i) (mOf xss) = lineS xss k by unfold lineS; rw [if_neg hkm]; rfl] at HC
        clear hrow hge hkm hbw HI
        generalize hz1 : mxF 0 (lineS xss) (k + 1) = z1 at *
        have HZ1 := Lib.hid hz1
        clear hz1
        generalize mxF 0 (lineS xss) k = z0 at *
        generalize lineS xss k = t at *
        generalize k - mOf xss = j at *
        go_wp2_with fail
        refine HC.out.mono ?_
        rintro e w2 ⟨rfl, hb2⟩
        have HN := Lib.hid (HRE.out w2 hb2)
        clear hb2
        go_wp2
        go_roundw
        case rel => exact ⟨k + 1, by omega, by go_num, by rw [HZ1.out, hst.out], HN.out⟩
        case measure => simp [intOf]; omega
    · obtain rfl : k = L := by omega
      have HF := Lib.hid (HB.out.trans (HI.out.mono HB.out.size))
      have HLV : Hid (mxF 0 (lineS xss) k = loadV xss) := by show _ = _; unfold loadV; rw [HL.out]
      clear HI
      go_wp2
      go_ret
      exact ⟨by rw [← HLV.out]; rfl, HF.out⟩
set_option maxRecDepth 100000 in
theorem l8Sum_any (B : Option Addr) (n d : Nat) (f : Nat → Int) (w : World) (hr : ∀ k, k < n → ∃ b, B = some b ∧ w.cell? (b.add k) = some (.int .i64 (f k))) (hn : n ≤ 1000) (hf : ∀ i, 0 ≤ f i ∧ f i ≤ 30) :
    Calls Try.prog 65 #[.slice B n d] w fun e w' => e = .returned (.int .i64 (sumN f n)) ∧ w = w' := by
  have HR := Lib.hid hr
  have HSB := Lib.hid (fun k => sumN_bd hf k)
  have HF := Lib.hid hf
  clear hr hf
  go_enter Try.func65, Try.ntmps65
  go_wp2
  go_loop [3, 4] (fun z i => ∃ k : Nat, k ≤ n ∧ i = .int .i64 (k : Int) ∧ z = .int .i64 (sumN f k)) (fun _ i => n - (intOf i).toNat)
  case atStart => exact ⟨0, Nat.zero_le _, rfl, rfl⟩
  case round =>
    obtain ⟨k, hk, rfl, rfl⟩ := hrel
    by_cases hlt : k < n
    · obtain ⟨b, hB, hc⟩ := HR.out k hlt
      subst hB
      have hi0 : (0 : Int) ≤ k := by omega
      have hi1 : (k : Int) < n := by omega
      have hx := HSB.out k
      have hy := HF.out k
      have hst : Hid (sumN f (k + 1) = sumN f k + f k) := rfl
      generalize hz1 : sumN f (k + 1) = z1 at *
      have HZ1 := Lib.hid hz1
      clear hz1
      generalize sumN f k = z0 at *
      generalize f k = t at *
      obtain rfl := hst.out
      clear hst
      go_wp2
      go_round
      case rel => exact ⟨k + 1, by omega, by go_num, by rw [HZ1.out]⟩
      case measure => simp [intOf]; omega
    · obtain rfl : k = n := by omega
      go_wp2
      go_ret
      exact ⟨rfl, rfl⟩
set_option maxRecDepth 100000 in
theorem l8Column_any (A : Option Addr) (c : Nat) (xss : List (List Int)) (w : World) (hr : RowSS w A (xss.map ic)) (hs : Shop xss) (hn : xss.length ≤ 10000000 ∧ totL xss ≤ 10000000) (v : Nat) (hv : v < mOf xss) :
    Calls Try.prog 77 #[.slice A xss.length c, .int .i64 (v : Int)] w fun e w' => e = .returned (.int .i64 (colS xss v)) ∧ w = w' := by
  have h8 := hs.n8
  have hM3 := hs.m3
  have HROW := Lib.hid (fun i (hi : i < xss.length) => hs.row hr hi)
  have HSB := Lib.hid (fun k => sumN_bd (f := fun i => tm xss i v) (fun i => hs.tm i v) k)
  have HTM := Lib.hid (fun i => hs.tm i v)
  clear hr hs
  go_enter Try.func77, Try.ntmps77
  go_wp2
  go_loop [5, 6] (fun z i => ∃ k : Nat, k ≤ xss.length ∧ i = .int .i64 (k : Int) ∧ z = .int .i64 (sumN (fun i => tm xss i v) k)) (fun _ i => xss.length - (intOf i).toNat)
  case atStart => exact ⟨0, Nat.zero_le _, rfl, rfl⟩
  case round =>
    obtain ⟨k, hk, rfl, rfl⟩ := hrel
    by_cases hlt : k < xss.length
    · obtain ⟨ad, b, d, hA, hc, hf⟩ := HROW.out k hlt
      subst hA
      have hcv := hf v hv
      have hi0 : (0 : Int) ≤ k := by omega
      have hi1 : (k : Int) < xss.length := by omega
      have hv0 : (0 : Int) ≤ v := by omega
      have hv1 : (v : Int) < (mOf xss : Nat) := by omega
      have hx := HSB.out k
      have hy := HTM.out k
      have hst : Hid (sumN (fun i => tm xss i v) (k + 1) = sumN (fun i => tm xss i v) k + tm xss k v) := rfl
      generalize hz1 : sumN (fun i => tm xss i v) (k + 1) = z1 at *
      have HZ1 := Lib.hid hz1
      clear hz1 hf
      generalize sumN (fun i => tm xss i v) k = z0 at *
      generalize tm xss k v = t at *
      obtain rfl := hst.out
      clear hst
      go_wp2
      go_round
      case rel => exact ⟨k + 1, by omega, by go_num, by rw [HZ1.out]⟩
      case measure => simp [intOf]; omega
    · obtain rfl : k = xss.length := by omega
      go_wp2
      go_ret
      exact ⟨rfl, rfl⟩
set_option maxRecDepth 100000 in
set_option maxHeartbeats 2000000 in
theorem l8Load_any (A : Option Addr) (c : Nat) (xss : List (List Int)) (w : World) (hr : RowSS w A (xss.map ic)) (hs : Shop xss) (hn : xss.length ≤ 10000000 ∧ totL xss ≤ 10000000) :
    Calls Try.prog 62 #[.slice A xss.length c] w fun e w' => e = .returned (.int .i64 (loadV xss)) ∧ ∃ q, w' = w.drewN q := by
  have h8 := hs.n8
  have hM3 := hs.m3
  have hM1 := hs.m1
  have HROW := Lib.hid (fun i (hi : i < xss.length) => hs.row hr hi)
  have HM := Lib.hid (fun q => l8Machines_any A c xss (w.drewN q) hr hn)
  have HCOL := Lib.hid (fun q v (hv : v < mOf xss) => l8Column_any A c xss (w.drewN q) hr hs hn v hv)
  have HSUM := Lib.hid (fun i (hi : i < xss.length) b d (h : ∀ k, k < mOf xss → w.cell? (b.add k) = some (.int .i64 (tm xss i k))) => l8Sum_any (some b) (mOf xss) d (tm xss i) w (fun k hk => ⟨b, rfl, h k hk⟩) (by omega) (fun k => hs.tm i k))
  have HRB := Lib.hid (fun i => by
    have := sumN_bd (f := fun k => tm xss i k) (fun k => hs.tm i k) (mOf xss)
    exact (show 0 ≤ rowS xss i ∧ rowS xss i ≤ 240 by unfold rowS; omega))
  have HCB := Lib.hid (fun i => by
    have := sumN_bd (f := fun k => tm xss k i) (fun k => hs.tm k i) xss.length
    exact (show 0 ≤ colS xss i ∧ colS xss i ≤ 240 by unfold colS; omega))
  have HX1 := Lib.hid (fun k => mxF_bd HRB.out (t := 0) (by omega) (by omega) k)
  have HX2 := Lib.hid (fun k => mxF_bd HCB.out (t := mxF 0 (rowS xss) xss.length) (HX1.out _).1 (HX1.out _).2 k)
  have HLE := Lib.hid (load_eq hs)
  clear hr hs
  go_enter Try.func62, Try.ntmps62
  go_wp2
  go_loop [3, 4] (fun z i => ∃ k : Nat, k ≤ xss.length ∧ i = .int .i64 (k : Int) ∧ z = .int .i64 (mxF 0 (rowS xss) k)) (fun _ i => xss.length - (intOf i).toNat)
  case atStart => exact ⟨0, Nat.zero_le _, rfl, rfl⟩
  case round =>
    obtain ⟨k, hk, rfl, rfl⟩ := hrel
    by_cases hlt : k < xss.length
    · obtain ⟨ad, b, d, hA, hc, hf⟩ := HROW.out k hlt
      subst hA
      have HC := Lib.hid (HSUM.out k hlt b d hf)
      rw [show sumN (tm xss k) (mOf xss) = rowS xss k from rfl] at HC
      have hi0 : (0 : Int) ≤ k := by omega
      have hi1 : (k : Int) < xss.length := by omega
      have hx := HX1.out k
      have hy := HRB.out k
      have HZ1 : Hid (mxF 0 (rowS xss) (k + 1) = max (mxF 0 (rowS xss) k) (rowS xss k)) := rfl
      clear hf
      generalize mxF 0 (rowS xss) k = z0 at *
      generalize rowS xss k = t at *
      go_wp2_with (first | (go_at_call 65; refine HC.out.mono ?_; rintro e _ ⟨rfl, rfl⟩) | (go_at_call 66; refine (l1Most_any _ _ _).mono ?_; rintro e _ ⟨rfl, rfl⟩))
      go_round
      case rel => exact ⟨k + 1, by omega, by go_num, by rw [HZ1.out]⟩
      case measure => simp [intOf]; omega
    · obtain rfl : k = xss.length := by omega
      go_wp2
      go_loopw [3, 5] (fun z i wr => ∃ k q : Nat, k ≤ mOf xss ∧ i = .int .i64 (k : Int) ∧ z = .int .i64 (mxF (mxF 0 (rowS xss) xss.length) (colS xss) k) ∧ Hid (0 < k → 0 < xss.length) ∧ wr = w.drewN q) (fun _ i _ => mOf xss - (intOf i).toNat)
      case atStart => exact ⟨0, 0, Nat.zero_le _, rfl, rfl, fun h => absurd h (by omega), rfl⟩
      case round =>
        obtain ⟨k2, q, hk2, rfl, rfl, HP, rfl⟩ := hrel
        by_cases hlt2 : k2 < mOf xss
        · by_cases h0 : 0 < xss.length
          · have HC := Lib.hid (fun q => HCOL.out q k2 hlt2)
            have hi0 : (0 : Int) ≤ k2 := by omega
            have hi1 : (k2 : Int) < (mOf xss : Nat) := by omega
            have hp : (0 : Int) < xss.length := by omega
            have hx := HX2.out k2
            have hy := HCB.out k2
            have HZ1 : Hid (mxF (mxF 0 (rowS xss) xss.length) (colS xss) (k2 + 1) = max (mxF (mxF 0 (rowS xss) xss.length) (colS xss) k2) (colS xss k2)) := rfl
            have HP2 : Hid (0 < k2 + 1 → 0 < xss.length) := fun _ => h0
            generalize mxF (mxF 0 (rowS xss) xss.length) (colS xss) k2 = z0 at *
            generalize colS xss k2 = t at *
            go_wp2_with (first | (go_at_call 64; refine (HM.out _).mono ?_; rintro e _ ⟨rfl, q1, rfl⟩) | (go_at_call 77; refine (HC.out _).mono ?_; rintro e _ ⟨rfl, rfl⟩) | (go_at_call 66; refine (l1Most_any _ _ _).mono ?_; rintro e _ ⟨rfl, rfl⟩))
            go_roundw
            case rel => exact ⟨k2 + 1, _, by omega, by go_num, by rw [HZ1.out], HP2.out, rfl⟩
            case measure => simp [intOf]; omega
          · have HE : Hid (mxF (mxF 0 (rowS xss) xss.length) (colS xss) k2 = loadV xss) := by
              show _ = _
              have e0 : xss.length = 0 := by omega
              have ek : k2 = 0 := by
                rcases Nat.eq_zero_or_pos k2 with h | h
                · exact h
                · exact absurd (HP.out h) h0
              rw [load_none e0, ek, e0]; rfl
            have hp : ¬ (0 : Int) < xss.length := by omega
            rw [HE.out]
            clear HP
            go_wp2_with (go_at_call 64; refine (HM.out _).mono ?_; rintro e _ ⟨rfl, q1, rfl⟩)
            go_ret
            exact ⟨rfl, _, rfl⟩
        · obtain rfl : k2 = mOf xss := by omega
          have HE := Lib.hid HLE.out.symm
          rw [HE.out]
          clear HP
          go_wp2_with (go_at_call 64; refine (HM.out _).mono ?_; rintro e _ ⟨rfl, q1, rfl⟩)
          go_ret
          exact ⟨rfl, _, rfl⟩
def loadR (xss : List (List Int)) : Int × Bool := if shopB xss then (loadV xss, true) else (0, false)
theorem loadR_no {xss : List (List Int)} (h : shopB xss = false) : loadR xss = (0, false) := by unfold loadR; rw [h]; rfl
theorem loadR_yes {xss : List (List Int)} (h : shopB xss = true) : loadR xss = (loadV xss, true) := by unfold loadR; rw [h]; rfl
set_option maxHeartbeats 1000000 in
theorem spec_ShopLoad (A : Option Addr) (c : Nat) (xss : List (List Int)) (w : World) (hr : RowSS w A (xss.map ic)) (hn : xss.length ≤ 10000000 ∧ totL xss ≤ 10000000) : Calls Try.prog 32 #[.slice A xss.length c] w (RetNb w (loadR xss)) := by
  have HI := Lib.hid (l8Good_any A c xss w hr hn)
  cases hs : shopB xss
  · have HO := Lib.hid (loadR_no hs)
    rw [hs] at HI
    clear hr hs
    go_enter Try.func32, Try.ntmps32
    go_wp2_with fail
    refine HI.out.mono ?_
    rintro e _ ⟨rfl, q, rfl⟩
    go_wp2
    go_ret2
    exact ⟨by rw [HO.out]; rfl, below_drewN (Below.refl _ _) _⟩
  · rw [loadR_yes hs]
    rw [hs] at HI
    have HC := Lib.hid (fun q => l8Load_any A c xss (w.drewN q) hr (shopB_out hs) hn)
    clear hr hs
    go_enter Try.func32, Try.ntmps32
    go_wp2_with fail
    refine HI.out.mono ?_
    rintro e _ ⟨rfl, q, rfl⟩
    go_wp2_with fail
    refine (HC.out _).mono ?_
    rintro e w2 ⟨rfl, hb⟩
    have HB : Hid (Below w.heap.size w w2) := by first | exact (below_drewN (Below.refl _ _) q).trans hb | (obtain ⟨q2, rfl⟩ := hb; exact below_drewN (below_drewN (Below.refl _ _) _) _)
    clear hb
    go_wp2
    go_ret2
    exact ⟨rfl, HB.out⟩
set_option maxHeartbeats 1000000 in
theorem impl_ShopLoad (A : Option Addr) (c : Nat) (xss : List (List Int)) (w : World) (hr : RowSS w A (xss.map ic)) (hn : xss.length ≤ 10000000 ∧ totL xss ≤ 10000000) : Calls Try.prog 33 #[.slice A xss.length c] w (RetNb w (loadR xss)) := by
  have HI := Lib.hid (isShop_any A c xss w hr hn)
  cases hs : shopB xss
  · have HO := Lib.hid (loadR_no hs)
    rw [hs] at HI
    clear hr hs
    go_enter Try.func33, Try.ntmps33
    go_wp2_with fail
    refine HI.out.mono ?_
    rintro e _ ⟨rfl, q, rfl⟩
    go_wp2
    go_ret2
    exact ⟨by rw [HO.out]; rfl, below_drewN (Below.refl _ _) _⟩
  · rw [loadR_yes hs]
    rw [hs] at HI
    have HC := Lib.hid (fun q => load_any A c xss (w.drewN q) hr (shopB_out hs) hn)
    clear hr hs
    go_enter Try.func33, Try.ntmps33
    go_wp2_with fail
    refine HI.out.mono ?_
    rintro e _ ⟨rfl, q, rfl⟩
    go_wp2_with fail
    refine (HC.out _).mono ?_
    rintro e w2 ⟨rfl, hb⟩
    have HB : Hid (Below w.heap.size w w2) := by first | exact (below_drewN (Below.refl _ _) q).trans hb | (obtain ⟨q2, rfl⟩ := hb; exact below_drewN (below_drewN (Below.refl _ _) _) _)
    clear hb
    go_wp2
    go_ret2
    exact ⟨rfl, HB.out⟩
end Go.Proofs.Ytdhndoccdfbefaa
