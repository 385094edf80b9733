/- The times of machines and jobs, by their visits. -/
import Derived.Test.YtdhndoccdfbefaaShV
namespace Go.Proofs.Ytdhndoccdfbefaa
open Go.RowKit

def sumN (f : Nat → Int) : Nat → Int
  | 0 => 0
  | d + 1 => sumN f d + f d
theorem sumN_bd {f : Nat → Int} (h : ∀ i, 0 ≤ f i ∧ f i ≤ 30) : ∀ d, 0 ≤ sumN f d ∧ sumN f d ≤ 30 * d := by
  intro d
  induction d with
  | zero => unfold sumN; omega
  | succ d ih =>
    have := h d
    unfold sumN
    omega
set_option maxRecDepth 100000 in
set_option maxHeartbeats 4000000 in
theorem timeOf_m (A : Option Addr) (c : Nat) (xss : List (List Int)) (v : Nat) (w : World) (hr : RowSS w A (xss.map ic)) (hs : Shop xss) (hn : xss.length ≤ 10000000 ∧ totL xss ≤ 10000000) (hv : v < mOf xss) :
    Calls Try.prog 79 #[.slice A xss.length c, .iface 78 (.int .i64 (v : Int))] w fun e w' => e = .returned (.int .i64 (sumN (fun i => tm xss i v) xss.length)) ∧ Below w.heap.size w w' := by
  have h8 := hs.n8
  have hM3 := hs.m3
  have HV := Lib.hid (mVisits_any A c xss v w hr hs hn)
  have HAT := Lib.hid (fun W (hb : Below w.heap.size w W) j k (hj : j < xss.length) (hk : k < mOf xss) => at_any A c xss j k W (hr.below hb) hs hj hk)
  have HTM : Hid (∀ i : Nat, 0 ≤ tm xss i v ∧ tm xss i v ≤ 30) := fun i => hs.tm _ _
  have HSB := Lib.hid (fun k => sumN_bd (f := fun i => tm xss i v) (fun i => hs.tm _ _) k)
  clear hr hs
  go_enter Try.func79, Try.ntmps79
  go_wp2_with (go_at_call 113; refine HV.out.mono ?_; rintro e w1 ⟨g, rfl, hg, hB, hb1⟩)
  have HB0 := Lib.hid hB
  have HB1 := Lib.hid hb1
  clear hB hb1
  go_loopw [5, 12] (fun z i wr => ∃ k : Nat, k ≤ xss.length ∧ i = .int .i64 (k : Int) ∧ z = .int .i64 (sumN (fun i => tm xss i v) k) ∧ Hid (BlockIs wr g 83 (freeA (visF (fun i => i) (fun _ => v) xss.length) (xss.length * 2)) ∧ Below w.heap.size w wr)) (fun _ i _ => xss.length - (intOf i).toNat)
  case atStart => exact ⟨0, Nat.zero_le _, rfl, rfl, HB0.out, HB1.out⟩
  case round =>
    obtain ⟨k, hk, rfl, rfl, HI⟩ := hrel
    by_cases hlt : k < xss.length
    · have hbb := HI.out.2
      have hsz := hbb.size
      have h0 := HI.out.1
      have c0 := h0.cell (k * 2)
      have c1 := h0.cell (k * 2 + 1)
      rw [freeA_get _ _ _ (by omega), vis_get0 _ _ hlt] at c0
      rw [freeA_get _ _ _ (by omega), vis_get1 _ _ hlt] at c1
      have hi0 : (0 : Int) ≤ k := by omega
      have hi1 : (k : Int) < (xss.length : Nat) := by omega
      have hsb := HSB.out k
      have hsb1 := HSB.out (k + 1)
      have hst : Hid (sumN (fun i => tm xss i v) (k + 1) = sumN (fun i => tm xss i v) k + tm xss k v) := rfl
      have HA := Lib.hid (fun W (hb : Below wr.heap.size wr W) => HAT.out W (hbb.trans (hb.mono hsz)) ((fun i => i) k) ((fun _ => v) k) (by omega) (by omega))
      have HN : Hid (∀ W, Below wr.heap.size wr W → BlockIs W g 83 (freeA (visF (fun i => i) (fun _ => v) xss.length) (xss.length * 2)) ∧ Below w.heap.size w W) := fun W hb => ⟨h0.below hb, hbb.trans (hb.mono hsz)⟩
      generalize hz1 : sumN (fun i => tm xss i v) (k + 1) = z1 at *
      have HZ1 := Lib.hid hz1
      clear hz1
      generalize sumN (fun i => tm xss i v) k = z0 at *
      have htb := HTM.out k
      clear h0 HI hbb
      obtain rfl := hst.out
      clear hst
      go_wp2_with fail
      refine (HA.out _ ((Below.refl wr.heap.size wr).alloc (Nat.le_refl _) _)).mono ?_
      rintro e w2 ⟨rfl, hb2⟩
      have HN2 := Lib.hid (HN.out _ (((Below.refl wr.heap.size wr).alloc (Nat.le_refl _) _).trans (hb2.mono (by simp))))
      clear hb2
      go_wp2
      go_roundw
      case rel => exact ⟨k + 1, by omega, by go_num, by rw [HZ1.out], HN2.out⟩
      case measure => simp [intOf]; omega
    · obtain rfl : k = xss.length := by omega
      have HF := Lib.hid HI.out.2
      clear HI
      go_wp2
      go_ret
      exact ⟨rfl, HF.out⟩
set_option maxRecDepth 100000 in
set_option maxHeartbeats 4000000 in
theorem timeOf_j (A : Option Addr) (c : Nat) (xss : List (List Int)) (v : Nat) (w : World) (hr : RowSS w A (xss.map ic)) (hs : Shop xss) (hn : xss.length ≤ 10000000 ∧ totL xss ≤ 10000000) (hv : v < xss.length) :
    Calls Try.prog 79 #[.slice A xss.length c, .iface 79 (.int .i64 (v : Int))] w fun e w' => e = .returned (.int .i64 (sumN (fun i => tm xss v i) (mOf xss))) ∧ Below w.heap.size w w' := by
  have h8 := hs.n8
  have hM3 := hs.m3
  have HV := Lib.hid (jVisits_any A c xss v w hr hs hn)
  have HAT := Lib.hid (fun W (hb : Below w.heap.size w W) j k (hj : j < xss.length) (hk : k < mOf xss) => at_any A c xss j k W (hr.below hb) hs hj hk)
  have HTM : Hid (∀ i : Nat, 0 ≤ tm xss v i ∧ tm xss v i ≤ 30) := fun i => hs.tm _ _
  have HSB := Lib.hid (fun k => sumN_bd (f := fun i => tm xss v i) (fun i => hs.tm _ _) k)
  clear hr hs
  go_enter Try.func79, Try.ntmps79
  go_wp2_with (go_at_call 114; refine HV.out.mono ?_; rintro e w1 ⟨g, rfl, hg, hB, hb1⟩)
  have HB0 := Lib.hid hB
  have HB1 := Lib.hid hb1
  clear hB hb1
  go_loopw [5, 12] (fun z i wr => ∃ k : Nat, k ≤ (mOf xss) ∧ i = .int .i64 (k : Int) ∧ z = .int .i64 (sumN (fun i => tm xss v i) k) ∧ Hid (BlockIs wr g 83 (freeA (visF (fun _ => v) (fun i => i) (mOf xss)) ((mOf xss) * 2)) ∧ Below w.heap.size w wr)) (fun _ i _ => (mOf xss) - (intOf i).toNat)
  case atStart => exact ⟨0, Nat.zero_le _, rfl, rfl, HB0.out, HB1.out⟩
  case round =>
    obtain ⟨k, hk, rfl, rfl, HI⟩ := hrel
    by_cases hlt : k < (mOf xss)
    · have hbb := HI.out.2
      have hsz := hbb.size
      have h0 := HI.out.1
      have c0 := h0.cell (k * 2)
      have c1 := h0.cell (k * 2 + 1)
      rw [freeA_get _ _ _ (by omega), vis_get0 _ _ hlt] at c0
      rw [freeA_get _ _ _ (by omega), vis_get1 _ _ hlt] at c1
      have hi0 : (0 : Int) ≤ k := by omega
      have hi1 : (k : Int) < ((mOf xss) : Nat) := by omega
      have hsb := HSB.out k
      have hsb1 := HSB.out (k + 1)
      have hst : Hid (sumN (fun i => tm xss v i) (k + 1) = sumN (fun i => tm xss v i) k + tm xss v k) := rfl
      have HA := Lib.hid (fun W (hb : Below wr.heap.size wr W) => HAT.out W (hbb.trans (hb.mono hsz)) ((fun _ => v) k) ((fun i => i) k) (by omega) (by omega))
      have HN : Hid (∀ W, Below wr.heap.size wr W → BlockIs W g 83 (freeA (visF (fun _ => v) (fun i => i) (mOf xss)) ((mOf xss) * 2)) ∧ Below w.heap.size w W) := fun W hb => ⟨h0.below hb, hbb.trans (hb.mono hsz)⟩
      generalize hz1 : sumN (fun i => tm xss v i) (k + 1) = z1 at *
      have HZ1 := Lib.hid hz1
      clear hz1
      generalize sumN (fun i => tm xss v i) k = z0 at *
      have htb := HTM.out k
      clear h0 HI hbb
      obtain rfl := hst.out
      clear hst
      go_wp2_with fail
      refine (HA.out _ ((Below.refl wr.heap.size wr).alloc (Nat.le_refl _) _)).mono ?_
      rintro e w2 ⟨rfl, hb2⟩
      have HN2 := Lib.hid (HN.out _ (((Below.refl wr.heap.size wr).alloc (Nat.le_refl _) _).trans (hb2.mono (by simp))))
      clear hb2
      go_wp2
      go_roundw
      case rel => exact ⟨k + 1, by omega, by go_num, by rw [HZ1.out], HN2.out⟩
      case measure => simp [intOf]; omega
    · obtain rfl : k = (mOf xss) := by omega
      have HF := Lib.hid HI.out.2
      clear HI
      go_wp2
      go_ret
      exact ⟨rfl, HF.out⟩
end Go.Proofs.Ytdhndoccdfbefaa
