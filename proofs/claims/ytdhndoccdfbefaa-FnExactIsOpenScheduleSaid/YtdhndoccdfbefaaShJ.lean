/- IsJohnsonSorted: the model's side and the program's. -/
import Derived.Test.YtdhndoccdfbefaaShM
import Derived.Test.YtdhndoccdfbefaaOrd
namespace Go.Proofs.Ytdhndoccdfbefaa
open Go.RowKit

theorem getD_out {α : Type} (l : List α) (d : α) {k : Nat} (h : l.length ≤ k) : l.getD k d = d := by simp [List.getD, List.getElem?_eq_none h]
/-- The time of a job on a machine. -/
def tm (xss : List (List Int)) (i k : Nat) : Int := (xss.getD i []).getD k 0
theorem tm_get {xss : List (List Int)} {i k : Nat} (hi : i < xss.length) (hk : k < xss[i].length) : xss[i][k] = tm xss i k := by
  unfold tm; simp [List.getD, hi, hk]
theorem Shop.tm {xss : List (List Int)} (h : Shop xss) (i k : Nat) : 0 ≤ tm xss i k ∧ tm xss i k ≤ 30 := by
  by_cases hi : i < xss.length
  · by_cases hk : k < xss[i].length
    · rw [← tm_get hi hk]; exact ⟨h.low i hi k hk, h.high i hi k hk⟩
    · unfold Proofs.Ytdhndoccdfbefaa.tm
      rw [show xss.getD i [] = xss[i] by simp [List.getD, hi], getD_out _ _ (by omega)]
      exact ⟨Int.le_refl _, by decide⟩
  · unfold Proofs.Ytdhndoccdfbefaa.tm
    rw [getD_out xss [] (by omega), getD_out [] 0 (by simp)]
    exact ⟨Int.le_refl _, by decide⟩
/-- A row of a shop. -/
theorem Shop.row {xss : List (List Int)} (h : Shop xss) {w : World} {A : Option Addr} (hr : RowSS w A (xss.map ic)) {i : Nat} (hi : i < xss.length) : ∃ ad b d, A = some ad ∧ w.cell? (ad.add i) = some (.slice (some b) (mOf xss) d) ∧ ∀ k, k < mOf xss → w.cell? (b.add k) = some (.int .i64 (Proofs.Ytdhndoccdfbefaa.tm xss i k)) := by
  obtain ⟨ad, B, d, rfl, hc, hrow⟩ := hr.at_ (k := i) (by simpa using hi)
  rw [List.getElem_map] at hc hrow
  rw [ic_len, h.len i hi] at hc
  have hm := h.m1
  obtain ⟨b, rfl, _⟩ := hrow.at_ (k := 0) (by rw [ic_len, h.len i hi]; omega)
  refine ⟨ad, b, d, rfl, hc, fun k hk => ?_⟩
  obtain ⟨b', hb, hc2⟩ := hrow.at_ (k := k) (by rw [ic_len, h.len i hi]; exact hk)
  injection hb with hb
  subst hb
  rw [ic_get _ k (by rw [h.len i hi]; exact hk), tm_get hi] at hc2
  exact hc2
def pairB (xss : List (List Int)) (i j : Nat) : Bool := decide (min (tm xss i 0) (tm xss j 1) ≤ min (tm xss j 0) (tm xss i 1))
def jsB (xss : List (List Int)) (p : List Nat) : Bool := (List.range p.length).all fun b => (List.range b).all fun a => pairB xss (p.getD a 0) (p.getD b 0)
theorem jsB_yes {xss : List (List Int)} {p : List Nat} (h : ∀ a b, a < b → b < p.length → pairB xss (p.getD a 0) (p.getD b 0) = true) : jsB xss p = true := by
  unfold jsB
  rw [List.all_eq_true]
  intro b hb
  rw [List.all_eq_true]
  intro a ha
  exact h a b (List.mem_range.1 ha) (List.mem_range.1 hb)
theorem jsB_no {xss : List (List Int)} {p : List Nat} {a b : Nat} (ha : a < b) (hb : b < p.length) (h : pairB xss (p.getD a 0) (p.getD b 0) = false) : jsB xss p = false := by
  unfold jsB
  rw [List.all_eq_false]
  refine ⟨b, List.mem_range.2 hb, ?_⟩
  rw [Bool.not_eq_true, List.all_eq_false]
  exact ⟨a, List.mem_range.2 ha, by rw [h]; simp⟩
def natsP (o : List Int) : List Nat := o.map Int.toNat
def jsR (xss : List (List Int)) (o : List Int) : Bool × Bool := if onB xss 2 && ordB xss.length o then (jsB xss (natsP o), true) else (false, false)
theorem natsP_of (p : List Nat) : natsP (p.map Int.ofNat) = p := by
  unfold natsP
  rw [List.map_map]
  conv => rhs; rw [← List.map_id p]
  exact List.map_congr_left fun x _ => by simp
theorem jsR_off {xss : List (List Int)} {o : List Int} (h : onB xss 2 = false) : jsR xss o = (false, false) := by unfold jsR; rw [h]; rfl
theorem jsR_ord {xss : List (List Int)} {o : List Int} (h : ordB xss.length o = false) : jsR xss o = (false, false) := by unfold jsR; rw [h, Bool.and_false]; rfl
theorem jsR_on {xss : List (List Int)} {p : List Nat} (h : onB xss 2 = true) (h' : ordB xss.length (p.map Int.ofNat) = true) : jsR xss (p.map Int.ofNat) = (jsB xss p, true) := by unfold jsR; rw [h, h', natsP_of]; rfl
theorem l1Least_any (x y : Int) (w : World) :
    Calls Try.prog 47 #[.int .i64 x, .int .i64 y] w fun e w' => e = .returned (.int .i64 (min x y)) ∧ w = w' := by
  by_cases hlt : x < y
  · go_enter Try.func47, Try.ntmps47
    go_wp2
    go_ret
    exact ⟨by rw [show min x y = x by omega]; rfl, rfl⟩
  · go_enter Try.func47, Try.ntmps47
    go_wp2
    go_ret
    exact ⟨by rw [show min x y = y by omega]; rfl, rfl⟩
/-- An order's number, where it lies. -/
theorem ord_at {w : World} {A : Option Addr} {p : List Nat} (hr : Row w A (ic (p.map Int.ofNat))) {k : Nat} (hk : k < p.length) : ∃ ad, A = some ad ∧ w.cell? (ad.add k) = some (.int .i64 ((p.getD k 0 : Nat) : Int)) := by
  obtain ⟨ad, hA, hc⟩ := hr.at_ (k := k) (by rw [ic_len]; simpa using hk)
  rw [ic_get _ k (by simpa using hk)] at hc
  refine ⟨ad, hA, ?_⟩
  rw [hc]
  simp [List.getD, hk]
theorem permD_lt {p : List Nat} {n : Nat} (h : p.Perm (List.range n)) {k : Nat} (hk : k < p.length) : p.getD k 0 < n := by
  have : p.getD k 0 = p[k] := by simp [List.getD, hk]
  rw [this]
  exact List.mem_range.1 (h.mem_iff.1 (List.getElem_mem hk))
set_option maxHeartbeats 1000000 in
theorem l8Pair_any (A : Option Addr) (c : Nat) (xss : List (List Int)) (w : World) (hr : RowSS w A (xss.map ic)) (hn : xss.length ≤ 10000000 ∧ totL xss ≤ 10000000) :
    Calls Try.prog 45 #[.slice A xss.length c] w fun e w' => e = .returned (.bool (onB xss 2)) ∧ ∃ q, w' = w.drewN q := by
  have HI := Lib.hid (l8Good_any A c xss w hr hn)
  have hMb := mOf_le xss
  cases hs : shopB xss
  · have HO := Lib.hid (on_no (m := 2) hs)
    rw [hs] at HI
    clear hr hs
    go_enter Try.func45, Try.ntmps45
    go_wp2_with fail
    refine HI.out.mono ?_
    rintro e _ ⟨rfl, q, rfl⟩
    go_wp2
    go_ret
    exact ⟨by rw [HO.out]; rfl, _, rfl⟩
  · rw [hs] at HI
    by_cases h0 : xss.length = 0
    · have HO := Lib.hid (on_shop (m := 2) hs (.inl h0))
      have hb0 : ((xss.length : Int) == 0) = true := by rw [h0]; rfl
      clear hr hs h0
      go_enter Try.func45, Try.ntmps45
      go_wp2_with fail
      refine HI.out.mono ?_
      rintro e _ ⟨rfl, q, rfl⟩
      go_wp2
      go_ret
      exact ⟨by rw [HO.out]; rfl, _, rfl⟩
    · obtain ⟨ad, B, d, rfl, hc⟩ := row0 hr h0
      have hb0 : ((xss.length : Int) == 0) = false := by rw [beq_eq_false_iff_ne]; omega
      have hp : (0 : Int) < xss.length := by omega
      have HO : Hid (onB xss 2 = ((mOf xss : Int) == 2)) := by
        by_cases he : mOf xss = 2
        · show _ = _; rw [on_shop hs (.inr he), he]; rfl
        · show _ = _; rw [on_not h0 he, eq_comm, beq_eq_false_iff_ne]; omega
      generalize mOf xss = Q at *
      clear hr hs h0
      go_enter Try.func45, Try.ntmps45
      go_wp2_with fail
      refine HI.out.mono ?_
      rintro e _ ⟨rfl, q, rfl⟩
      have hc' : (w.drewN q).cell? ad = some (.slice B Q d) := hc
      go_wp2
      go_ret
      exact ⟨by rw [HO.out]; rfl, _, rfl⟩
set_option maxRecDepth 100000 in
set_option maxHeartbeats 2000000 in
theorem spec_jsIn (A B : Option Addr) (c d : Nat) (xss : List (List Int)) (p : List Nat) (w : World) (hr : RowSS w A (xss.map ic)) (hq : Row w B (ic (p.map Int.ofNat))) (hs : Shop xss) (hm : xss.length = 0 ∨ mOf xss = 2) (hp : p.Perm (List.range xss.length)) (hon : onB xss 2 = true) (ho : ordB xss.length (p.map Int.ofNat) = true) (hn : xss.length ≤ 10000000 ∧ totL xss ≤ 10000000) :
    Calls Try.prog 19 #[.slice A xss.length c, .slice B p.length d] w fun e w' => e = .returned (.tuple #[.bool (jsB xss p), .bool true]) ∧ Below w.heap.size w w' := by
  have hpl : p.length = xss.length := by rw [hp.length_eq]; simp
  have HI := Lib.hid (hon ▸ l8Pair_any A c xss w hr hn)
  have HO := Lib.hid (fun n => ho ▸ l2Order_any xss.length B d (p.map Int.ofNat) (w.drewN n) hq (by simp; omega))
  simp only [List.length_map] at HO
  have HROW := Lib.hid (fun i (hi : i < xss.length) => hs.row hr hi)
  have HORD := Lib.hid (fun k (hk : k < p.length) => ord_at hq hk)
  have HLT := Lib.hid (fun k (hk : k < p.length) => permD_lt hp hk)
  have HM : Hid (0 < xss.length → mOf xss = 2) := fun h => by rcases hm with e | e <;> omega
  have h8 := hs.n8
  have HPL := Lib.hid hpl
  have hpl8 : p.length ≤ 8 := by omega
  clear hr hq hs hm hp hon ho hpl
  go_enter Try.func19, Try.ntmps19
  go_wp2_with fail
  refine HI.out.mono ?_
  rintro e _ ⟨rfl, q0, rfl⟩
  go_wp2_with fail
  refine (HO.out _).mono ?_
  rintro e _ ⟨rfl, rfl⟩
  go_wp2
  go_loopw [6] (fun i wr => ∃ k q : Nat, k ≤ p.length ∧ i = .int .i64 k ∧ Hid (∀ a b, a < k → a < b → b < p.length → pairB xss (p.getD a 0) (p.getD b 0) = true) ∧ wr = w.drewN q) (fun i _ => p.length - (intOf i).toNat)
  case atStart => exact ⟨0, _, Nat.zero_le _, rfl, fun _ _ h => absurd h (by omega), rfl⟩
  case round =>
    obtain ⟨k, q, hk, rfl, hA, rfl⟩ := hrel
    by_cases hlt : k < p.length
    · obtain ⟨ao, hB, hco⟩ := HORD.out k hlt
      subst hB
      have hx := HLT.out k hlt
      obtain ⟨ad, bx, dx, hA', hcx, hfx⟩ := HROW.out _ hx
      subst hA'
      rw [HM.out (by omega)] at hcx
      have hx0 := hfx 0 (by rw [HM.out (by omega)]; omega)
      have hx1 := hfx 1 (by rw [HM.out (by omega)]; omega)
      have hi0 : (0 : Int) ≤ k := by omega
      have hi1 : (k : Int) < p.length := by omega
      have hx0' : (0 : Int) ≤ (p.getD k 0 : Nat) := by omega
      have hx1' : ((p.getD k 0 : Nat) : Int) < xss.length := by omega
      rw [show bx.add 0 = bx from rfl] at hx0
      rw [show bx.add 1 = (⟨bx.block, bx.off + 1, none⟩ : Addr) from rfl] at hx1
      have HA := Lib.hid hA.out
      clear hA hfx
      go_wp2
      go_loopw [7] (fun i wr => ∃ k2 q2 : Nat, k < k2 ∧ k2 ≤ p.length ∧ i = .int .i64 k2 ∧ Hid (∀ b, k < b → b < k2 → pairB xss (p.getD k 0) (p.getD b 0) = true) ∧ wr = w.drewN q2) (fun i _ => p.length - (intOf i).toNat)
      case atStart => exact ⟨k + 1, _, by omega, by omega, by go_num, fun b h h' => absurd h (by omega), rfl⟩
      case round =>
        obtain ⟨k2, q2, hkk, hk2, rfl, hA2, rfl⟩ := hrel
        by_cases hlt2 : k2 < p.length
        · obtain ⟨ao2, hB2, hco2⟩ := HORD.out k2 hlt2
          injection hB2 with hB2
          subst hB2
          have hy := HLT.out k2 hlt2
          obtain ⟨ad2, ay, dy, hA2', hcy, hfy⟩ := HROW.out _ hy
          injection hA2' with hA2'
          subst hA2'
          rw [HM.out (by omega)] at hcy
          have hy0 := hfy 0 (by rw [HM.out (by omega)]; omega)
          have hy1 := hfy 1 (by rw [HM.out (by omega)]; omega)
          rw [show ay.add 0 = ay from rfl] at hy0
          rw [show ay.add 1 = (⟨ay.block, ay.off + 1, none⟩ : Addr) from rfl] at hy1
          have HST : Hid (pairB xss (p.getD k 0) (p.getD k2 0) = true → ∀ b, k < b → b < k2 + 1 → pairB xss (p.getD k 0) (p.getD b 0) = true) := fun h b h1 h2 => by
            by_cases e : b = k2
            · subst e; exact h
            · exact hA2.out b h1 (by omega)
          have HNO := Lib.hid (fun h => jsB_no (xss := xss) (p := p) hkk hlt2 h)
          have HPB : Hid (pairB xss (p.getD k 0) (p.getD k2 0) = decide (min (tm xss (p.getD k 0) 0) (tm xss (p.getD k2 0) 1) ≤ min (tm xss (p.getD k2 0) 0) (tm xss (p.getD k 0) 1))) := rfl
          have hj0 : (0 : Int) ≤ k2 := by omega
          have hj1 : (k2 : Int) < p.length := by omega
          have hy0' : (0 : Int) ≤ (p.getD k2 0 : Nat) := by omega
          have hy1' : ((p.getD k2 0 : Nat) : Int) < xss.length := by omega
          clear hA2 hfy
          generalize tm xss (p.getD k 0) 0 = x0 at *
          generalize tm xss (p.getD k 0) 1 = x1 at *
          generalize tm xss (p.getD k2 0) 0 = y0 at *
          generalize tm xss (p.getD k2 0) 1 = y1 at *
          generalize p.getD k2 0 = j at *
          generalize p.getD k 0 = i at *
          by_cases hc : min x0 y1 ≤ min y0 x1
          · have HS4 := Lib.hid (HST.out (HPB.out.trans (decide_eq_true hc)))
            have hcmp : decide (min y0 x1 < min x0 y1) = false := decide_eq_false (by omega)
            clear hc
            go_wp2
            go_quiet (fail)
            go_wp2
            go_quiet ((go_at_call 47; (first | exact quiet_same (l1Least_any _ _ _) | exact Calls.quiet_of ((l1Least_any _ _ _).mono fun _ _ h => ⟨h.1, 0, h.2.symm⟩))))
            go_wp2
            go_roundw
            case rel => exact ⟨k2 + 1, _, by omega, by omega, by go_num, HS4.out, rfl⟩
            case measure => simp [intOf]; omega
          · have HG4 := Lib.hid (HNO.out (HPB.out.trans (decide_eq_false hc)))
            have hcmp : decide (min y0 x1 < min x0 y1) = true := decide_eq_true (by omega)
            clear hc
            go_wp2
            go_quiet (fail)
            go_wp2
            go_quiet ((go_at_call 47; (first | exact quiet_same (l1Least_any _ _ _) | exact Calls.quiet_of ((l1Least_any _ _ _).mono fun _ _ h => ⟨h.1, 0, h.2.symm⟩))))
            go_wp2
            go_ret2
            exact ⟨by rw [HG4.out]; rfl, below_drewN (below_drewN (below_drewN (Below.refl _ _) _) _) _⟩
        · obtain rfl : k2 = p.length := by omega
          have HS5 : Hid (∀ a b, a < k + 1 → a < b → b < p.length → pairB xss (p.getD a 0) (p.getD b 0) = true) := fun a b h1 h2 h3 => by
            by_cases e : a = k
            · subst e; exact hA2.out b h2 h3
            · exact HA.out a b (by omega) h2 h3
          clear hA2
          go_wp2
          go_roundw
          case rel => exact ⟨k + 1, _, by omega, by go_num, HS5.out, rfl⟩
          case measure => simp [intOf]; omega
    · obtain rfl : k = p.length := by omega
      have HG : Hid (jsB xss p = true) := jsB_yes (fun a b h1 h2 => hA.out a b (by omega) h1 h2)
      clear hA
      go_wp2
      go_ret2
      exact ⟨by rw [HG.out]; rfl, below_drewN (Below.refl _ _) _⟩
set_option maxRecDepth 100000 in
set_option maxHeartbeats 2000000 in
theorem jsIn_any (A B : Option Addr) (c d : Nat) (xss : List (List Int)) (p : List Nat) (w : World) (hr : RowSS w A (xss.map ic)) (hq : Row w B (ic (p.map Int.ofNat))) (hs : Shop xss) (hm : xss.length = 0 ∨ mOf xss = 2) (hp : p.Perm (List.range xss.length)) (hd : p.length ≤ d) :
    Calls Try.prog 49 #[.slice A xss.length c, .slice B p.length d] w fun e w' => e = .returned (.bool (jsB xss p)) ∧ Below w.heap.size w w' := by
  have hpl : p.length = xss.length := by rw [hp.length_eq]; simp
  have HROW := Lib.hid (fun i (hi : i < xss.length) => hs.row hr hi)
  have HORD := Lib.hid (fun k (hk : k < p.length) => ord_at hq hk)
  have HLT := Lib.hid (fun k (hk : k < p.length) => permD_lt hp hk)
  have HM : Hid (0 < xss.length → mOf xss = 2) := fun h => by rcases hm with e | e <;> omega
  have h8 := hs.n8
  have HPL := Lib.hid hpl
  have hpl8 : p.length ≤ 8 := by omega
  clear hr hq hs hm hp hpl
  go_enter Try.func49, Try.ntmps49
  go_wp2
  go_loopw [11] (fun i wr => ∃ k q : Nat, k ≤ p.length ∧ i = .int .i64 k ∧ Hid (∀ a b, a < b → b < k → pairB xss (p.getD a 0) (p.getD b 0) = true) ∧ wr = w.drewN q) (fun i _ => p.length - (intOf i).toNat)
  case atStart => exact ⟨0, 0, Nat.zero_le _, rfl, fun _ _ _ h => absurd h (by omega), rfl⟩
  case round =>
    obtain ⟨k, q, hk, rfl, hA, rfl⟩ := hrel
    by_cases hlt : k < p.length
    · obtain ⟨ao, hB, hco⟩ := HORD.out k hlt
      subst hB
      have hx := HLT.out k hlt
      obtain ⟨ad, bx, dx, hA', hcx, hfx⟩ := HROW.out _ hx
      subst hA'
      rw [HM.out (by omega)] at hcx
      have hx0 := hfx 0 (by rw [HM.out (by omega)]; omega)
      have hx1 := hfx 1 (by rw [HM.out (by omega)]; omega)
      have hi0 : (0 : Int) ≤ k := by omega
      have hi1 : (k : Int) < p.length := by omega
      have hi2 : (k : Int) ≤ p.length := by omega
      have hx0' : (0 : Int) ≤ (p.getD k 0 : Nat) := by omega
      have hx1' : ((p.getD k 0 : Nat) : Int) < xss.length := by omega
      rw [show bx.add 0 = bx from rfl] at hx0
      rw [show bx.add 1 = (⟨bx.block, bx.off + 1, none⟩ : Addr) from rfl] at hx1
      have HA := Lib.hid hA.out
      have hco' : (w.drewN q).cell? (ao.add k) = some (.int .i64 ((p.getD k 0 : Nat) : Int)) := hco
      clear hA hfx
      generalize hj : p.getD k 0 = j at hco hco' hx hcx hx0 hx1 hx0' hx1'
      have HJ := Lib.hid hj
      clear hj
      go_wp2
      go_loopw [20] (fun i wr => ∃ k2 q2 : Nat, k2 ≤ k ∧ i = .int .i64 k2 ∧ Hid (∀ a, a < k2 → pairB xss (p.getD a 0) j = true) ∧ wr = w.drewN q2) (fun i _ => k - (intOf i).toNat)
      case atStart => exact ⟨0, _, Nat.zero_le _, rfl, fun a h => absurd h (by omega), rfl⟩
      case round =>
        obtain ⟨k2, q2, hk2, rfl, hA2, rfl⟩ := hrel
        by_cases hlt2 : k2 < k
        · have hlt3 : k2 < p.length := by omega
          obtain ⟨ao2, hB2, hco2⟩ := HORD.out k2 hlt3
          injection hB2 with hB2
          subst hB2
          have hy := HLT.out k2 hlt3
          obtain ⟨ad2, ay, dy, hA2', hcy, hfy⟩ := HROW.out _ hy
          injection hA2' with hA2'
          subst hA2'
          rw [HM.out (by omega)] at hcy
          have hy0 := hfy 0 (by rw [HM.out (by omega)]; omega)
          have hy1 := hfy 1 (by rw [HM.out (by omega)]; omega)
          rw [show ay.add 0 = ay from rfl] at hy0
          rw [show ay.add 1 = (⟨ay.block, ay.off + 1, none⟩ : Addr) from rfl] at hy1
          have HST : Hid (pairB xss (p.getD k2 0) j = true → ∀ a, a < k2 + 1 → pairB xss (p.getD a 0) j = true) := fun h a h2 => by
            by_cases e : a = k2
            · subst e; exact h
            · exact hA2.out a (by omega)
          have HNO := Lib.hid (fun h => jsB_no (xss := xss) (p := p) hlt2 hlt (by rw [HJ.out]; exact h))
          have HPB : Hid (pairB xss (p.getD k2 0) j = decide (min (tm xss (p.getD k2 0) 0) (tm xss j 1) ≤ min (tm xss j 0) (tm xss (p.getD k2 0) 1))) := rfl
          have hj0 : (0 : Int) ≤ k2 := by omega
          have hj1 : (k2 : Int) < k := by omega
          have hy0' : (0 : Int) ≤ (p.getD k2 0 : Nat) := by omega
          have hy1' : ((p.getD k2 0 : Nat) : Int) < xss.length := by omega
          have hco2' : (w.drewN q2).cell? (ao.add k2) = some (.int .i64 ((p.getD k2 0 : Nat) : Int)) := hco2
          clear hA2 hfy
          generalize tm xss j 0 = x0 at *
          generalize tm xss j 1 = x1 at *
          generalize tm xss (p.getD k2 0) 0 = y0 at *
          generalize tm xss (p.getD k2 0) 1 = y1 at *
          by_cases m1 : y0 ≤ x1
          · by_cases m2 : x0 ≤ y1
            · have HPC : Hid (pairB xss (p.getD k2 0) j = decide (y0 ≤ x0)) := by show _ = _; rw [HPB.out, show min y0 x1 = y0 by omega, show min x0 y1 = x0 by omega]
              clear HPB
              by_cases hc : y0 ≤ x0
              · have HS4 := Lib.hid (HST.out (HPC.out.trans (decide_eq_true hc)))
                generalize p.getD k2 0 = i at *
                go_wp2
                go_quiet (fail)
                go_wp2
                go_roundw
                case rel => exact ⟨k2 + 1, _, by omega, by go_num, HS4.out, rfl⟩
                case measure => simp [intOf]; omega
              · have HG4 := Lib.hid (HNO.out (HPC.out.trans (decide_eq_false hc)))
                generalize p.getD k2 0 = i at *
                go_wp2
                go_quiet (fail)
                go_wp2
                go_ret
                exact ⟨by rw [HG4.out]; rfl, by rw [World.drewN_drewN]; exact below_drewN (Below.refl _ _) _⟩
            · have HPC : Hid (pairB xss (p.getD k2 0) j = decide (y0 ≤ y1)) := by show _ = _; rw [HPB.out, show min y0 x1 = y0 by omega, show min x0 y1 = y1 by omega]
              clear HPB
              by_cases hc : y0 ≤ y1
              · have HS4 := Lib.hid (HST.out (HPC.out.trans (decide_eq_true hc)))
                generalize p.getD k2 0 = i at *
                go_wp2
                go_quiet (fail)
                go_wp2
                go_roundw
                case rel => exact ⟨k2 + 1, _, by omega, by go_num, HS4.out, rfl⟩
                case measure => simp [intOf]; omega
              · have HG4 := Lib.hid (HNO.out (HPC.out.trans (decide_eq_false hc)))
                generalize p.getD k2 0 = i at *
                go_wp2
                go_quiet (fail)
                go_wp2
                go_ret
                exact ⟨by rw [HG4.out]; rfl, by rw [World.drewN_drewN]; exact below_drewN (Below.refl _ _) _⟩
          · by_cases m2 : x0 ≤ y1
            · have HPC : Hid (pairB xss (p.getD k2 0) j = decide (x1 ≤ x0)) := by show _ = _; rw [HPB.out, show min y0 x1 = x1 by omega, show min x0 y1 = x0 by omega]
              clear HPB
              by_cases hc : x1 ≤ x0
              · have HS4 := Lib.hid (HST.out (HPC.out.trans (decide_eq_true hc)))
                generalize p.getD k2 0 = i at *
                go_wp2
                go_quiet (fail)
                go_wp2
                go_roundw
                case rel => exact ⟨k2 + 1, _, by omega, by go_num, HS4.out, rfl⟩
                case measure => simp [intOf]; omega
              · have HG4 := Lib.hid (HNO.out (HPC.out.trans (decide_eq_false hc)))
                generalize p.getD k2 0 = i at *
                go_wp2
                go_quiet (fail)
                go_wp2
                go_ret
                exact ⟨by rw [HG4.out]; rfl, by rw [World.drewN_drewN]; exact below_drewN (Below.refl _ _) _⟩
            · have HPC : Hid (pairB xss (p.getD k2 0) j = decide (x1 ≤ y1)) := by show _ = _; rw [HPB.out, show min y0 x1 = x1 by omega, show min x0 y1 = y1 by omega]
              clear HPB
              by_cases hc : x1 ≤ y1
              · have HS4 := Lib.hid (HST.out (HPC.out.trans (decide_eq_true hc)))
                generalize p.getD k2 0 = i at *
                go_wp2
                go_quiet (fail)
                go_wp2
                go_roundw
                case rel => exact ⟨k2 + 1, _, by omega, by go_num, HS4.out, rfl⟩
                case measure => simp [intOf]; omega
              · have HG4 := Lib.hid (HNO.out (HPC.out.trans (decide_eq_false hc)))
                generalize p.getD k2 0 = i at *
                go_wp2
                go_quiet (fail)
                go_wp2
                go_ret
                exact ⟨by rw [HG4.out]; rfl, by rw [World.drewN_drewN]; exact below_drewN (Below.refl _ _) _⟩
        · obtain rfl : k2 = k := by omega
          have HS5 : Hid (∀ a b, a < b → b < k2 + 1 → pairB xss (p.getD a 0) (p.getD b 0) = true) := fun a b h1 h2 => by
            by_cases e : b = k2
            · subst e; rw [HJ.out]; exact hA2.out a h1
            · exact HA.out a b h1 (by omega)
          clear hA2
          go_wp2
          go_roundw
          case rel => exact ⟨k2 + 1, _, by omega, by go_num, HS5.out, rfl⟩
          case measure => simp [intOf]; omega
    · obtain rfl : k = p.length := by omega
      have HG : Hid (jsB xss p = true) := jsB_yes (fun a b h1 h2 => hA.out a b h1 h2)
      clear hA
      go_wp2
      go_ret
      exact ⟨by rw [HG.out]; rfl, below_drewN (Below.refl _ _) _⟩
set_option maxHeartbeats 1000000 in
theorem spec_IsJohnsonSorted (A : Option Addr) (c : Nat) (B : Option Addr) (d : Nat) (xss : List (List Int)) (o : List Int) (w : World) (hr : RowSS w A (xss.map ic)) (hq : Row w B (ic o)) (hn : xss.length ≤ 10000000 ∧ totL xss ≤ 10000000) (hm : o.length ≤ 10000000 ∧ o.length ≤ d) :
    Calls Try.prog 19 #[.slice A xss.length c, .slice B o.length d] w (RetBB w (jsR xss o)) := by
  cases hon : onB xss 2
  · have HO := Lib.hid (jsR_off (o := o) hon)
    have HI := Lib.hid (hon ▸ l8Pair_any A c xss w hr hn)
    clear hr hq hon
    go_enter Try.func19, Try.ntmps19
    go_wp2_with fail
    refine HI.out.mono ?_
    rintro e _ ⟨rfl, q0, rfl⟩
    go_wp2
    go_ret2
    exact ⟨by rw [HO.out]; rfl, below_drewN (Below.refl _ _) _⟩
  · cases ho : ordB xss.length o
    · have HO := Lib.hid (jsR_ord ho)
      have HI := Lib.hid (hon ▸ l8Pair_any A c xss w hr hn)
      have HQ := Lib.hid (fun n => ho ▸ l2Order_any xss.length B d o (w.drewN n) hq (by omega))
      clear hr hq hon ho
      go_enter Try.func19, Try.ntmps19
      go_wp2_with fail
      refine HI.out.mono ?_
      rintro e _ ⟨rfl, q0, rfl⟩
      go_wp2_with fail
      refine (HQ.out _).mono ?_
      rintro e _ ⟨rfl, rfl⟩
      go_wp2
      go_ret2
      exact ⟨by rw [HO.out]; rfl, below_drewN (Below.refl _ _) _⟩
    · obtain ⟨p, rfl, hp, hpl, h8⟩ := ord_nat ho
      obtain ⟨hs, hm2⟩ := onB_out hon
      rw [jsR_on hon ho, List.length_map]
      exact spec_jsIn A B c d xss p w hr hq hs hm2 hp hon ho hn
set_option maxHeartbeats 1000000 in
theorem impl_IsJohnsonSorted (A : Option Addr) (c : Nat) (B : Option Addr) (d : Nat) (xss : List (List Int)) (o : List Int) (w : World) (hr : RowSS w A (xss.map ic)) (hq : Row w B (ic o)) (hn : xss.length ≤ 10000000 ∧ totL xss ≤ 10000000) (hm : o.length ≤ 10000000 ∧ o.length ≤ d) :
    Calls Try.prog 21 #[.slice A xss.length c, .slice B o.length d] w (RetBB w (jsR xss o)) := by
  cases hon : onB xss 2
  · have HO := Lib.hid (jsR_off (o := o) hon)
    have HI := Lib.hid (hon ▸ shopOn_any A c xss 2 w hr hn)
    clear hr hq hon
    go_enter Try.func21, Try.ntmps21
    go_wp2_with fail
    refine HI.out.mono ?_
    rintro e _ ⟨rfl, q0, rfl⟩
    go_wp2
    go_ret2
    exact ⟨by rw [HO.out]; rfl, below_drewN (Below.refl _ _) _⟩
  · cases ho : ordB xss.length o
    · have HO := Lib.hid (jsR_ord ho)
      have HI := Lib.hid (hon ▸ shopOn_any A c xss 2 w hr hn)
      have HQ := Lib.hid (fun n => ho ▸ IsOrder_any xss.length B d o (w.drewN n) hq (by omega))
      clear hr hq hon ho
      go_enter Try.func21, Try.ntmps21
      go_wp2_with fail
      refine HI.out.mono ?_
      rintro e _ ⟨rfl, q0, rfl⟩
      go_wp2_with fail
      refine (HQ.out _).mono ?_
      rintro e w1 ⟨rfl, hb⟩
      go_wp2
      go_ret2
      exact ⟨by rw [HO.out]; rfl, (below_drewN (Below.refl _ _) q0).trans hb⟩
    · have HI := Lib.hid (hon ▸ shopOn_any A c xss 2 w hr hn)
      have HQ := Lib.hid (fun n => ho ▸ IsOrder_any xss.length B d o (w.drewN n) hq (by omega))
      obtain ⟨p, rfl, hp, hpl, h8⟩ := ord_nat ho
      obtain ⟨hs, hm2⟩ := onB_out hon
      rw [jsR_on hon ho]
      rw [List.length_map] at HQ hm ⊢
      have HJ := Lib.hid (fun (w1 : World) (hb : Below w.heap.size w w1) => jsIn_any A B c d xss p w1 (hr.below hb) (hq.below hb) hs hm2 hp hm.2)
      clear hr hq hon ho hs hm2 hp hpl hm
      go_enter Try.func21, Try.ntmps21
      go_wp2_with fail
      refine HI.out.mono ?_
      rintro e _ ⟨rfl, q0, rfl⟩
      go_wp2_with fail
      refine (HQ.out _).mono ?_
      rintro e w1 ⟨rfl, hb⟩
      have hb1 : Below w.heap.size w w1 := (below_drewN (Below.refl _ _) q0).trans hb
      have HB1 := Lib.hid hb1
      clear hb hb1
      go_wp2_with fail
      refine (HJ.out _ HB1.out).mono ?_
      rintro e w2 ⟨rfl, hb2⟩
      go_wp2
      go_ret2
      exact ⟨rfl, HB1.out.trans (hb2.mono HB1.out.size)⟩
end Go.Proofs.Ytdhndoccdfbefaa
