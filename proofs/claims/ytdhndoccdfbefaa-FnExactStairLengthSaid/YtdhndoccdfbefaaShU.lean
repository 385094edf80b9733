/- StairLength: both sides. -/
import Derived.Test.YtdhndoccdfbefaaShQ
namespace Go.Proofs.Ytdhndoccdfbefaa
open Go.RowKit

def sumR (f : Nat → Int) (a : Nat) : Nat → Int
  | 0 => 0
  | d + 1 => sumR f a d + f (a + d)
theorem sumR_bd {f : Nat → Int} (h : ∀ i, 0 ≤ f i ∧ f i ≤ 30) (a : Nat) : ∀ d, 0 ≤ sumR f a d ∧ sumR f a d ≤ 30 * d := by
  intro d
  induction d with
  | zero => unfold sumR; omega
  | succ d ih =>
    have := h (a + d)
    unfold sumR
    omega
/-- Where a staircase is on a machine first. -/
def atS (st : List Int) : Nat → Nat
  | 0 => 0
  | k + 1 => (st.getD k 0).toNat
/-- The length of a staircase on the first k machines. -/
def stL (xss : List (List Int)) (p : List Nat) (st : List Int) : Nat → Int
  | 0 => 0
  | k + 1 => stL xss p st k + sumR (fun i => tm xss (p.getD i 0) k) (atS st k) ((st.getD k 0).toNat + 1 - atS st k)
theorem at_le {xss : List (List Int)} {st : List Int} (h : stairP xss st) {k : Nat} (hk : k < st.length) : atS st k ≤ (st.getD k 0).toNat ∧ ((st.getD k 0).toNat : Int) = st.getD k 0 ∧ (st.getD k 0).toNat < xss.length := by
  have h1 := stair_in h hk
  refine ⟨?_, by omega, by omega⟩
  cases k with
  | zero => exact Nat.zero_le _
  | succ k =>
    have := h.2.1 k (by omega)
    show (st.getD k 0).toNat ≤ _
    omega
theorem stL_bd {xss : List (List Int)} (hs : Shop xss) (p : List Nat) {st : List Int} (h : stairP xss st) : ∀ k, k ≤ st.length → 0 ≤ stL xss p st k ∧ stL xss p st k ≤ 240 * k := by
  intro k
  induction k with
  | zero => intro _; unfold stL; omega
  | succ k ih =>
    intro hk
    have h1 := ih (by omega)
    have h2 := at_le h (show k < st.length by omega)
    have h3 := sumR_bd (fun i => hs.tm (p.getD i 0) k) (atS st k) ((st.getD k 0).toNat + 1 - atS st k)
    have h8 := hs.n8
    unfold stL
    omega
set_option maxRecDepth 100000 in
set_option maxHeartbeats 4000000 in
theorem l8Length_any (A B C : Option Addr) (c d g : Nat) (xss : List (List Int)) (p : List Nat) (st : List Int) (w : World) (hr : RowSS w A (xss.map ic)) (hq : Row w B (ic (p.map Int.ofNat))) (hq2 : Row w C (ic st)) (hs : Shop xss) (hp : p.Perm (List.range xss.length)) (hst : stairP xss st) :
    Calls Try.prog 59 #[.slice A xss.length c, .slice B p.length d, .slice C st.length g] w fun e w' => e = .returned (.int .i64 (stL xss p st st.length)) ∧ ∃ q, w' = w.drewN q := by
  have hpl : p.length = xss.length := by rw [hp.length_eq]; simp
  have HROW := Lib.hid (fun i (hi : i < xss.length) => hs.row hr hi)
  have HORD := Lib.hid (fun k (hk : k < p.length) => ord_at hq hk)
  have HSTO := Lib.hid (fun k (hk : k < st.length) => int_at hq2 hk)
  have HLT := Lib.hid (fun k (hk : k < p.length) => permD_lt hp hk)
  have HTM := Lib.hid (fun i k => hs.tm i k)
  have HBD := Lib.hid (stL_bd hs p hst)
  have HAT := Lib.hid (fun k (hk : k < st.length) => at_le hst hk)
  have h8 := hs.n8
  have hM1 := hs.m1
  have hM3 := hs.m3
  have hsm : st.length = mOf xss := hst.1
  have HSM := Lib.hid hsm
  have hst3 : st.length ≤ 3 := by omega
  have hpl8 : p.length ≤ 8 := by omega
  have HPL := Lib.hid hpl
  clear hr hq hq2 hs hp hpl hst hsm
  go_enter Try.func59, Try.ntmps59
  go_wp2
  go_loopw [7, 8, 9] (fun z y i wr => ∃ k q : Nat, k ≤ st.length ∧ i = .int .i64 (k : Int) ∧ y = .int .i64 (atS st k : Nat) ∧ z = .int .i64 (stL xss p st k) ∧ wr = w.drewN q) (fun _ _ i _ => st.length - (intOf i).toNat)
  case atStart => exact ⟨0, 0, Nat.zero_le _, rfl, rfl, rfl, rfl⟩
  case round =>
    obtain ⟨k, q, hk, rfl, rfl, rfl, rfl⟩ := hrel
    by_cases hlt : k < st.length
    · obtain ⟨ac, hC, hcs⟩ := HSTO.out k hlt
      subst hC
      obtain ⟨h1, h2, h3⟩ := HAT.out k hlt
      have hb := HBD.out k hk
      have hst1 : Hid (stL xss p st (k + 1) = stL xss p st k + sumR (fun i => tm xss (p.getD i 0) k) (atS st k) ((st.getD k 0).toNat + 1 - atS st k)) := rfl
      have hat1 : Hid (atS st (k + 1) = (st.getD k 0).toNat) := rfl
      have hi0 : (0 : Int) ≤ k := by omega
      have hi1 : (k : Int) < st.length := by omega
      have hsb := fun d => sumR_bd (fun i => HTM.out (p.getD i 0) k) (atS st k) d
      have HSB := Lib.hid hsb
      rw [← h2] at hcs
      generalize hz1 : stL xss p st (k + 1) = z1 at *
      have HZ1 := Lib.hid hz1
      clear hz1
      generalize stL xss p st k = z0 at *
      generalize ha1 : atS st (k + 1) = a1 at *
      have HA0 := Lib.hid ha1
      clear ha1
      generalize (st.getD k 0).toNat = s at *
      generalize atS st k = a at *
      clear h2 hsb
      go_wp2
      go_loopw [7, 10] (fun z i wr => ∃ x q : Nat, x ≤ s + 1 - a ∧ i = .int .i64 ((a + x : Nat) : Int) ∧ z = .int .i64 (z0 + sumR (fun i => tm xss (p.getD i 0) k) a x) ∧ wr = w.drewN q) (fun _ i _ => s + 1 - (intOf i).toNat)
      case atStart => exact ⟨0, _, Nat.zero_le _, rfl, by show _ = Value.int .i64 (z0 + 0); rw [Int.add_zero], rfl⟩
      case round =>
        obtain ⟨x, q2, hx, rfl, rfl, rfl⟩ := hrel
        have hcs' : (w.drewN q2).cell? (ac.add k) = some (.int .i64 (s : Int)) := hcs
        by_cases hlt2 : x < s + 1 - a
        · obtain ⟨ao, hB, hco⟩ := HORD.out (a + x) (by have := HPL.out; omega)
          subst hB
          have hj := HLT.out (a + x) (by have := HPL.out; omega)
          obtain ⟨ad, bx, dx, hA', hcx, hfx⟩ := HROW.out _ hj
          subst hA'
          have hcf := hfx k (by have := HSM.out; omega)
          have hsum : Hid (sumR (fun i => tm xss (p.getD i 0) k) a (x + 1) = sumR (fun i => tm xss (p.getD i 0) k) a x + tm xss (p.getD (a + x) 0) k) := rfl
          have hs0 := HSB.out x
          have ht := HTM.out (p.getD (a + x) 0) k
          have hle : ((a + x : Nat) : Int) ≤ s := by omega
          have hj0 : (0 : Int) ≤ ((a + x : Nat) : Int) := by omega
          have hj1 : ((a + x : Nat) : Int) < p.length := by have := HPL.out; omega
          have hx0' : (0 : Int) ≤ (p.getD (a + x) 0 : Nat) := by omega
          have hx1' : ((p.getD (a + x) 0 : Nat) : Int) < xss.length := by omega
          have hkm : (k : Int) < (mOf xss : Nat) := by have := HSM.out; omega
          have hwi := IntWalk.i64_in (((a + x : Nat) : Int) + 1) (by omega)
          have hNX : Hid (((a + x : Nat) : Int) + 1 = ((a + (x + 1) : Nat) : Int)) := by show _ = _; omega
          generalize hy1 : sumR (fun i => tm xss (p.getD i 0) k) a (x + 1) = y1 at *
          have HY1 := Lib.hid hy1
          clear hy1
          generalize sumR (fun i => tm xss (p.getD i 0) k) a x = y0 at *
          generalize tm xss (p.getD (a + x) 0) k = t at *
          generalize p.getD (a + x) 0 = j at *
          generalize hI : a + x = I at *
          have HI := Lib.hid hI
          clear hI hfx
          obtain rfl := hsum.out
          clear hsum
          go_wp2
          go_roundw
          case rel => exact ⟨x + 1, _, by omega, by rw [← hNX.out], by rw [HY1.out, Int.add_assoc], rfl⟩
          case measure => have := HI.out; simp [intOf]; omega
        · have hle : ¬ ((a + x : Nat) : Int) ≤ s := by omega
          obtain rfl : x = s + 1 - a := by omega
          have HZ := Lib.hid hst1.out
          have HA1 := Lib.hid hat1.out
          clear hst1 hat1
          go_wp2
          go_roundw
          case rel => exact ⟨k + 1, _, by omega, by go_num, by rw [HA0.out, HA1.out], by rw [HZ1.out, HZ.out], rfl⟩
          case measure => simp [intOf]; omega
    · obtain rfl : k = st.length := by omega
      go_wp2
      go_ret
      exact ⟨rfl, _, rfl⟩
set_option maxRecDepth 100000 in
set_option maxHeartbeats 4000000 in
theorem stairLength_any (A B C : Option Addr) (c d g : Nat) (xss : List (List Int)) (p : List Nat) (st : List Int) (w : World) (hr : RowSS w A (xss.map ic)) (hq : Row w B (ic (p.map Int.ofNat))) (hq2 : Row w C (ic st)) (hs : Shop xss) (hp : p.Perm (List.range xss.length)) (hst : stairP xss st) (hd : p.length ≤ d) :
    Calls Try.prog 61 #[.slice A xss.length c, .slice B p.length d, .slice C st.length g] w fun e w' => e = .returned (.int .i64 (stL xss p st st.length)) ∧ ∃ q, w' = w.drewN q := by
  have hpl : p.length = xss.length := by rw [hp.length_eq]; simp
  have HROW := Lib.hid (fun i (hi : i < xss.length) => hs.row hr hi)
  have HORD := Lib.hid (fun k (hk : k < p.length) => ord_at hq hk)
  have HSTO := Lib.hid (fun k (hk : k < st.length) => int_at hq2 hk)
  have HLT := Lib.hid (fun k (hk : k < p.length) => permD_lt hp hk)
  have HTM := Lib.hid (fun i k => hs.tm i k)
  have HBD := Lib.hid (stL_bd hs p hst)
  have HAT := Lib.hid (fun k (hk : k < st.length) => at_le hst hk)
  have h8 := hs.n8
  have hM1 := hs.m1
  have hM3 := hs.m3
  have hsm : st.length = mOf xss := hst.1
  have HSM := Lib.hid hsm
  have hst3 : st.length ≤ 3 := by omega
  have hpl8 : p.length ≤ 8 := by omega
  have HPL := Lib.hid hpl
  clear hr hq hq2 hs hp hpl hst hsm
  go_enter Try.func61, Try.ntmps61
  go_wp2
  go_loopw [7, 8, 15] (fun z y i wr => ∃ k q : Nat, k ≤ st.length ∧ i = .int .i64 (k : Int) ∧ y = .int .i64 (atS st k : Nat) ∧ z = .int .i64 (stL xss p st k) ∧ wr = w.drewN q) (fun _ _ i _ => st.length - (intOf i).toNat)
  case atStart => exact ⟨0, 0, Nat.zero_le _, rfl, rfl, rfl, rfl⟩
  case round =>
    obtain ⟨k, q, hk, rfl, rfl, rfl, rfl⟩ := hrel
    by_cases hlt : k < st.length
    · obtain ⟨ac, hC, hcs⟩ := HSTO.out k hlt
      subst hC
      obtain ⟨h1, h2, h3⟩ := HAT.out k hlt
      have hb := HBD.out k hk
      have hst1 : Hid (stL xss p st (k + 1) = stL xss p st k + sumR (fun i => tm xss (p.getD i 0) k) (atS st k) ((st.getD k 0).toNat + 1 - atS st k)) := rfl
      have hat1 : Hid (atS st (k + 1) = (st.getD k 0).toNat) := rfl
      have hi0 : (0 : Int) ≤ k := by omega
      have hi1 : (k : Int) < st.length := by omega
      have hsb := fun d => sumR_bd (fun i => HTM.out (p.getD i 0) k) (atS st k) d
      have HSB := Lib.hid hsb
      rw [← h2] at hcs
      generalize hz1 : stL xss p st (k + 1) = z1 at *
      have HZ1 := Lib.hid hz1
      clear hz1
      generalize stL xss p st k = z0 at *
      generalize ha1 : atS st (k + 1) = a1 at *
      have HA0 := Lib.hid ha1
      clear ha1
      generalize (st.getD k 0).toNat = s at *
      generalize atS st k = a at *
      clear h2 hsb
      have hpl' := HPL.out
      obtain ⟨ao, hB, _⟩ := HORD.out a (by omega)
      subst hB
      have hne : ¬ d = a := by omega
      have hnn : a ≤ s + 1 := by omega
      have hnd : s + 1 ≤ d := by omega
      have hl0 : (0 : Int) ≤ a := by omega
      have hl1 : (a : Int) ≤ (s : Int) + 1 := by omega
      have hl2 : (s : Int) + 1 ≤ d := by omega
      have hl3 : (s : Int) + 1 ≤ p.length := by omega
      clear hpl'
      go_wp2
      generalize hL : s + 1 - a = L at *
      have HL := Lib.hid hL
      clear hL
      go_loopw [7, 26] (fun z i wr => ∃ x q : Nat, x ≤ L ∧ i = .int .i64 (x : Int) ∧ z = .int .i64 (z0 + sumR (fun i => tm xss (p.getD i 0) k) a x) ∧ wr = w.drewN q) (fun _ i _ => L - (intOf i).toNat)
      case atStart => exact ⟨0, _, Nat.zero_le _, rfl, by show _ = Value.int .i64 (z0 + 0); rw [Int.add_zero], rfl⟩
      case round =>
        obtain ⟨x, q2, hx, rfl, rfl, rfl⟩ := hrel
        by_cases hlt2 : x < L
        · have hpl2 := HPL.out
          have hL2 := HL.out
          obtain ⟨ao', hB, hco⟩ := HORD.out (a + x) (by omega)
          injection hB with hB
          subst hB
          have hj := HLT.out (a + x) (by omega)
          obtain ⟨ad, bx, dx, hA', hcx, hfx⟩ := HROW.out _ hj
          subst hA'
          have hcf := hfx k (by have := HSM.out; omega)
          have hsum : Hid (sumR (fun i => tm xss (p.getD i 0) k) a (x + 1) = sumR (fun i => tm xss (p.getD i 0) k) a x + tm xss (p.getD (a + x) 0) k) := rfl
          have hs0 := HSB.out x
          have ht := HTM.out (p.getD (a + x) 0) k
          have hj0 : (0 : Int) ≤ x := by omega
          have hj1 : (x : Int) < L := by omega
          have hx0' : (0 : Int) ≤ (p.getD (a + x) 0 : Nat) := by omega
          have hx1' : ((p.getD (a + x) 0 : Nat) : Int) < xss.length := by omega
          have hkm : (k : Int) < (mOf xss : Nat) := by have := HSM.out; omega
          generalize hy1 : sumR (fun i => tm xss (p.getD i 0) k) a (x + 1) = y1 at *
          have HY1 := Lib.hid hy1
          clear hy1
          generalize sumR (fun i => tm xss (p.getD i 0) k) a x = y0 at *
          generalize tm xss (p.getD (a + x) 0) k = t at *
          generalize p.getD (a + x) 0 = j at *
          have hco2 : w.cell? ((ao.add a).add x) = some (.int .i64 (j : Int)) := by rw [Go.Deep.add_add]; exact hco
          have hx8 : x ≤ 8 := by omega
          clear hfx hpl2 hL2
          obtain rfl := hsum.out
          clear hsum
          go_wp2
          go_roundw
          case rel => exact ⟨x + 1, _, by omega, by go_num, by rw [HY1.out, Int.add_assoc], rfl⟩
          case measure => simp [intOf]; omega
        · obtain rfl : x = L := by omega
          have HZ := Lib.hid hst1.out
          have HA1 := Lib.hid hat1.out
          clear hst1 hat1
          go_wp2
          go_roundw
          case rel => exact ⟨k + 1, _, by omega, by go_num, by rw [HA0.out, HA1.out], by rw [HZ1.out, HZ.out], rfl⟩
          case measure => simp [intOf]; omega
    · obtain rfl : k = st.length := by omega
      go_wp2
      go_ret
      exact ⟨rfl, _, rfl⟩
def stairR (xss : List (List Int)) (o : List Int) (st : List Int) : Int × Bool := if span2 xss o && stairB xss st then (stL xss (natsP o) st st.length, true) else (0, false)
theorem stairR_no {xss : List (List Int)} {o st : List Int} (h : span2 xss o = false) : stairR xss o st = (0, false) := by unfold stairR; rw [h]; rfl
theorem stairR_st {xss : List (List Int)} {o st : List Int} (h : stairB xss st = false) : stairR xss o st = (0, false) := by unfold stairR; rw [h, Bool.and_false]; rfl
theorem stairR_yes {xss : List (List Int)} {p : List Nat} {st : List Int} (h : span2 xss (p.map Int.ofNat) = true) (h' : stairB xss st = true) : stairR xss (p.map Int.ofNat) st = (stL xss p st st.length, true) := by unfold stairR; rw [h, h', natsP_of]; rfl
set_option maxHeartbeats 2000000 in
theorem spec_StairLength (A : Option Addr) (c : Nat) (B : Option Addr) (d : Nat) (C : Option Addr) (g : Nat) (xss : List (List Int)) (o : List Int) (st : List Int) (w : World) (hr : RowSS w A (xss.map ic)) (hq : Row w B (ic o)) (hq2 : Row w C (ic st)) (hn : xss.length ≤ 10000000 ∧ totL xss ≤ 10000000) (hm : o.length ≤ 10000000 ∧ o.length ≤ d) (hm2 : st.length ≤ 10000000 ∧ st.length ≤ g) : Calls Try.prog 30 #[.slice A xss.length c, .slice B o.length d, .slice C st.length g] w (RetNb w (stairR xss o st)) := by
  have HI := Lib.hid (l8Two_any A c B d xss o w hr hq hn hm.1)
  cases h2 : span2 xss o
  · have HO := Lib.hid (stairR_no (st := st) h2)
    rw [h2] at HI
    clear hr hq hq2 h2
    go_enter Try.func30, Try.ntmps30
    go_wp2_with fail
    refine HI.out.mono ?_
    rintro e w1 ⟨rfl, hb⟩
    have HB : Hid (Below w.heap.size w w1) := by first | exact hb | (obtain ⟨q, rfl⟩ := hb; exact below_drewN (Below.refl _ _) _)
    clear hb
    go_wp2
    go_ret2
    exact ⟨by rw [HO.out]; rfl, HB.out⟩
  · rw [h2] at HI
    obtain ⟨hs, p, rfl, hp, hpl0⟩ := sp2_out h2
    clear hpl0
    have hm' := hm
    rw [List.length_map] at HI hm' ⊢
    have HST := Lib.hid (fun w1 (hb : Below w.heap.size w w1) => l8Stair_any A c C g xss st w1 (hr.below hb) (hq2.below hb) hs hn hm2.1)
    cases hst : stairB xss st
    · have HO := Lib.hid (stairR_st (o := p.map Int.ofNat) hst)
      rw [hst] at HST
      clear hr hq hq2 h2 hp hs hst hm
      go_enter Try.func30, Try.ntmps30
      go_wp2_with fail
      refine HI.out.mono ?_
      rintro e w1 ⟨rfl, hb⟩
      have HB : Hid (Below w.heap.size w w1) := by first | exact hb | (obtain ⟨q, rfl⟩ := hb; exact below_drewN (Below.refl _ _) _)
      clear hb
      go_wp2_with fail
      refine (HST.out _ HB.out).mono ?_
      rintro e _ ⟨rfl, q, rfl⟩
      go_wp2
      go_ret2
      exact ⟨by rw [HO.out]; rfl, below_drewN HB.out _⟩
    · have HO := Lib.hid (stairR_yes h2 hst)
      have HLN := Lib.hid (fun w1 (hb : Below w.heap.size w w1) => l8Length_any A B C c d g xss p st w1 (hr.below hb) (hq.below hb) (hq2.below hb) hs hp (of_decide_eq_true hst))
      rw [hst] at HST
      rw [HO.out]
      clear hr hq hq2 h2 hp hs hst hm
      go_enter Try.func30, Try.ntmps30
      go_wp2_with fail
      refine HI.out.mono ?_
      rintro e w1 ⟨rfl, hb⟩
      have HB : Hid (Below w.heap.size w w1) := by first | exact hb | (obtain ⟨q, rfl⟩ := hb; exact below_drewN (Below.refl _ _) _)
      clear hb
      go_wp2_with fail
      refine (HST.out _ HB.out).mono ?_
      rintro e _ ⟨rfl, q, rfl⟩
      have HB2 := Lib.hid (below_drewN HB.out q)
      go_wp2_with fail
      refine (HLN.out _ HB2.out).mono ?_
      rintro e _ ⟨rfl, q2, rfl⟩
      go_wp2
      go_ret2
      exact ⟨rfl, below_drewN HB.out _⟩
set_option maxHeartbeats 2000000 in
theorem impl_StairLength (A : Option Addr) (c : Nat) (B : Option Addr) (d : Nat) (C : Option Addr) (g : Nat) (xss : List (List Int)) (o : List Int) (st : List Int) (w : World) (hr : RowSS w A (xss.map ic)) (hq : Row w B (ic o)) (hq2 : Row w C (ic st)) (hn : xss.length ≤ 10000000 ∧ totL xss ≤ 10000000) (hm : o.length ≤ 10000000 ∧ o.length ≤ d) (hm2 : st.length ≤ 10000000 ∧ st.length ≤ g) : Calls Try.prog 31 #[.slice A xss.length c, .slice B o.length d, .slice C st.length g] w (RetNb w (stairR xss o st)) := by
  have HI := Lib.hid (shopFor_any A c B d xss o w hr hq hn hm.1)
  cases h2 : span2 xss o
  · have HO := Lib.hid (stairR_no (st := st) h2)
    rw [h2] at HI
    clear hr hq hq2 h2
    go_enter Try.func31, Try.ntmps31
    go_wp2_with fail
    refine HI.out.mono ?_
    rintro e w1 ⟨rfl, hb⟩
    have HB : Hid (Below w.heap.size w w1) := by first | exact hb | (obtain ⟨q, rfl⟩ := hb; exact below_drewN (Below.refl _ _) _)
    clear hb
    go_wp2
    go_ret2
    exact ⟨by rw [HO.out]; rfl, HB.out⟩
  · rw [h2] at HI
    obtain ⟨hs, p, rfl, hp, hpl0⟩ := sp2_out h2
    clear hpl0
    have hm' := hm
    rw [List.length_map] at HI hm' ⊢
    have HST := Lib.hid (fun w1 (hb : Below w.heap.size w w1) => isStaircase_any A c C g xss st w1 (hr.below hb) (hq2.below hb) hs hn hm2.1)
    cases hst : stairB xss st
    · have HO := Lib.hid (stairR_st (o := p.map Int.ofNat) hst)
      rw [hst] at HST
      clear hr hq hq2 h2 hp hs hst hm
      go_enter Try.func31, Try.ntmps31
      go_wp2_with fail
      refine HI.out.mono ?_
      rintro e w1 ⟨rfl, hb⟩
      have HB : Hid (Below w.heap.size w w1) := by first | exact hb | (obtain ⟨q, rfl⟩ := hb; exact below_drewN (Below.refl _ _) _)
      clear hb
      go_wp2_with fail
      refine (HST.out _ HB.out).mono ?_
      rintro e _ ⟨rfl, q, rfl⟩
      go_wp2
      go_ret2
      exact ⟨by rw [HO.out]; rfl, below_drewN HB.out _⟩
    · have HO := Lib.hid (stairR_yes h2 hst)
      have HLN := Lib.hid (fun w1 (hb : Below w.heap.size w w1) => stairLength_any A B C c d g xss p st w1 (hr.below hb) (hq.below hb) (hq2.below hb) hs hp (of_decide_eq_true hst) hm'.2)
      rw [hst] at HST
      rw [HO.out]
      clear hr hq hq2 h2 hp hs hst hm
      go_enter Try.func31, Try.ntmps31
      go_wp2_with fail
      refine HI.out.mono ?_
      rintro e w1 ⟨rfl, hb⟩
      have HB : Hid (Below w.heap.size w w1) := by first | exact hb | (obtain ⟨q, rfl⟩ := hb; exact below_drewN (Below.refl _ _) _)
      clear hb
      go_wp2_with fail
      refine (HST.out _ HB.out).mono ?_
      rintro e _ ⟨rfl, q, rfl⟩
      have HB2 := Lib.hid (below_drewN HB.out q)
      go_wp2_with fail
      refine (HLN.out _ HB2.out).mono ?_
      rintro e _ ⟨rfl, q2, rfl⟩
      go_wp2
      go_ret2
      exact ⟨rfl, below_drewN HB.out _⟩
end Go.Proofs.Ytdhndoccdfbefaa
