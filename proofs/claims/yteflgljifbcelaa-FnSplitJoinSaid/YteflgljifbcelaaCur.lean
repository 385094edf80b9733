/- The model's cursor over bytes (l1Cur): what its methods do to memory, and the bounds of what they return. -/
import Derived.Test.YteflgljifbcelaaMem
import Derived.Laws.BitsAllLaws
namespace Go.Proofs.Yteflgljifbcelaa
open Go.RowKit

/-- A cursor in block g over the bytes zs, at place 'p'. -/
structure Cur (w : World) (g : Nat) (A : Option Addr) (len cap : Nat) (zs : List Int) (p : Int) : Prop where
  blk : ∃ seed : Int, 0 ≤ seed ∧ seed ≤ 18446744073709551615 ∧ BlockIs w g 44 #[.slice A len cap, .int .i64 p, .int .u64 seed]
  row : Row w A (zs.map (Value.int .u8))
  len_eq : zs.length = len
  low : 0 < len → ∀ ad, A = some ad → ad.block < g
  bytes : ∀ z ∈ zs, 0 ≤ z ∧ z ≤ 255
  nat : 0 ≤ p

theorem u64_bd (x : Int) : 0 ≤ IntKind.u64.wrap x ∧ IntKind.u64.wrap x ≤ 18446744073709551615 := by rw [IntKind.wrap_u64]; omega
theorem mask_bd (x : Int) (h0 : 0 ≤ x) (h1 : x ≤ 18446744073709551615) : 0 ≤ wrap64 (bits BinOp.and IntKind.u64 (x / 1099511627776) 255) ∧ wrap64 (bits BinOp.and IntKind.u64 (x / 1099511627776) 255) ≤ 255 := by
  rw [u64_and _ _ (by omega) (by omega) (by omega) (by omega)]
  have : (x / 1099511627776).toNat &&& (255 : Int).toNat ≤ 255 := Nat.and_le_right
  rw [IntWalk.wrap64_in _ (by omega)]
  omega
theorem grown_set {w w' : World} {g : Nat} (h : w.grownBy w' (some g)) (i : Nat) (v : Value) : w.grownBy (w'.setCell ⟨g, i, none⟩ v) (some g) :=
  ⟨h.os, h.tape, h.output, by simpa [World.setCell] using h.size, fun k hk hne => (Below.heap_setCell _ _ _ _ (by rintro rfl; exact hne rfl)).trans (h.block k hk hne)⟩
theorem grown_drewN {w w' : World} {r : Option Nat} (h : w.grownBy w' r) (n : Nat) : w.grownBy (w'.drewN n) r := ⟨h.os, h.tape, h.output, h.size, h.block⟩
theorem grown_refl (w : World) (r : Option Nat) : w.grownBy w r := ⟨rfl, rfl, rfl, Nat.le_refl _, fun _ _ _ => rfl⟩
theorem grown_trans {a b c : World} {g : Nat} (h : a.grownBy b (some g)) (k : b.grownBy c (some g)) : a.grownBy c (some g) :=
  ⟨k.os.trans h.os, k.tape.trans h.tape, k.output.trans h.output, Nat.le_trans h.size k.size, fun i hi hne => (k.block i (Nat.lt_of_lt_of_le hi h.size) hne).trans (h.block i hi hne)⟩
theorem grown_below {w w' : World} {g : Nat} (h : w.grownBy w' (some g)) {B : Nat} (hB : B ≤ g) (hw : B ≤ w.heap.size) : Below B w w' :=
  ⟨h.os, h.tape, h.output, h.size, fun k hk => h.block k (by omega) (fun e => by injection e; omega)⟩
theorem Row.grown {w w' : World} {A : Option Addr} {cs : List Value} (h : Row w A cs) {g : Nat} (hg : w.grownBy w' (some g)) (hne : 0 < cs.length → ∀ ad, A = some ad → ad.block ≠ g) : Row w' A cs := fun hn => by
  obtain ⟨ad, e, hb, hc⟩ := h hn
  exact ⟨ad, e, Nat.lt_of_lt_of_le hb hg.size, fun j u hu => (World.cell?_of_block (hg.block _ (by rw [add_block]; exact hb) (by rw [add_block]; intro e'; injection e' with e'; exact hne hn ad e e'))).trans (hc j u hu)⟩
theorem Cur.after {w w' : World} {g : Nat} {A : Option Addr} {len cap : Nat} {zs : List Int} {p p' seed' : Int} (h : Cur w g A len cap zs p) (hs0 : 0 ≤ seed') (hs1 : seed' ≤ 18446744073709551615)
    (hB : BlockIs w' g 44 #[.slice A len cap, .int .i64 p', .int .u64 seed']) (hg : w.grownBy w' (some g)) (hp : 0 ≤ p') : Cur w' g A len cap zs p' :=
  ⟨⟨seed', hs0, hs1, hB⟩, h.row.grown hg (fun h0 ad e => by have := h.low (by rw [List.length_map, h.len_eq] at h0; exact h0) ad e; omega), h.len_eq, h.low, h.bytes, hp⟩

theorem Cur.alloc {w : World} {g : Nat} {A : Option Addr} {len cap : Nat} {zs : List Int} {p : Int} (h : Cur w g A len cap zs p) (o : Obj) : Cur (w.alloc o) g A len cap zs p := by
  obtain ⟨⟨sd, h0, h1, hB⟩, hr, hl, hlow, hby, hp⟩ := h
  exact ⟨⟨sd, h0, h1, hB.below ((Below.refl _ _).alloc (Nat.le_refl _) o)⟩, hr.alloc o, hl, hlow, hby, hp⟩
theorem Cur.lt {w : World} {g : Nat} {A : Option Addr} {len cap : Nat} {zs : List Int} {p : Int} (h : Cur w g A len cap zs p) : g < w.heap.size := by
  obtain ⟨⟨sd, h0, h1, hB⟩, _⟩ := h
  exact hB.lt
theorem Cur.drewN {w : World} {g : Nat} {A : Option Addr} {len cap : Nat} {zs : List Int} {p : Int} (h : Cur w g A len cap zs p) (n : Nat) : Cur (w.drewN n) g A len cap zs p := by
  obtain ⟨⟨sd, h0, h1, hB⟩, hr, hl, hlow, hby, hp⟩ := h
  exact ⟨⟨sd, h0, h1, hB.drewN n⟩, hr.drewN n, hl, hlow, hby, hp⟩

theorem next_any (w : World) (g : Nat) (A : Option Addr) (len cap : Nat) (zs : List Int) (p : Int) (h : Cur w g A len cap zs p) (hp : p ≤ 1000000) (hl : len ≤ 1000000) :
    Calls Try.prog 38 #[.pointer (some ⟨g, 0, none⟩)] w fun e w' => ∃ r : Int, e = .returned (.int .i64 r) ∧ 0 ≤ r ∧ r ≤ 255 ∧ Cur w' g A len cap zs (p + 1) ∧ w.grownBy w' (some g) := by
  have HC := Lib.hid h
  obtain ⟨⟨seed, hs0, hs1, hB⟩, hrow, hlen, hlow, hby, hp0⟩ := h
  have c0 : w.cell? ⟨g, 0, none⟩ = some (.slice A len cap) := hB.cell 0
  have c1 : w.cell? ⟨g, 1, none⟩ = some (.int .i64 p) := hB.cell 1
  have c2 : w.cell? ⟨g, 2, none⟩ = some (.int .u64 seed) := hB.cell 2
  have f1 := hB.frozen 1
  have f2 := hB.frozen 2
  have HB := Lib.hid hB
  have HS1 := Lib.hid hs1
  have fin : ∀ (n m : Nat) (sd r : Int), 0 ≤ sd → sd ≤ 18446744073709551615 → 0 ≤ r → r ≤ 255 → ∃ r' : Int, Ending.returned (.int .i64 r) = .returned (.int .i64 r') ∧ 0 ≤ r' ∧ r' ≤ 255 ∧ Cur ((((w.drewN n).setCell ⟨g, 1, none⟩ (.int .i64 (p + 1))).setCell ⟨g, 2, none⟩ (.int .u64 sd)).drewN m) g A len cap zs (p + 1) ∧ w.grownBy ((((w.drewN n).setCell ⟨g, 1, none⟩ (.int .i64 (p + 1))).setCell ⟨g, 2, none⟩ (.int .u64 sd)).drewN m) (some g) := by
    intro n m sd r h1 h2 h3 h4
    have hg : w.grownBy ((((w.drewN n).setCell ⟨g, 1, none⟩ (.int .i64 (p + 1))).setCell ⟨g, 2, none⟩ (.int .u64 sd)).drewN m) (some g) := grown_drewN (grown_set (grown_set (grown_drewN (grown_refl _ _) n) 1 _) 2 _) m
    exact ⟨r, rfl, h3, h4, HC.out.after h1 h2 ((((HB.out.drewN n).set 1 _).set 2 _).drewN m) hg (by omega), hg⟩
  have hsd := u64_bd (IntKind.u64.wrap (IntKind.u64.wrap (seed * 6364136223846793005)) + 462197)
  by_cases hlt : p < len
  · obtain ⟨ad, hA, hc⟩ := hrow.at_ (k := p.toNat) (by simp; omega)
    rw [List.getElem_map] at hc
    have hz := hby (zs[p.toNat]'(by omega)) (List.getElem_mem _)
    obtain ⟨hz0, hz1⟩ := hz
    generalize zs[p.toNat]'(by omega) = z at *
    subst hA
    have hle : p + 1 ≤ (len : Int) := by omega
    have hsz := u64_bd (IntKind.u64.wrap (IntKind.u64.wrap (seed * 6364136223846793005) + z) + 462197)
    have FIN2 := Lib.hid (fun n m => fin n m _ z hsz.1 hsz.2 hz0 hz1)
    clear hB hs1 fin hrow hlen hlow hby hsd hsz
    go_enter Try.func38, Try.ntmps38
    go_wp2
    go_quiet (fail)
    go_wp2
    go_quiet (fail)
    go_wp2
    go_quiet (fail)
    go_wp2
    go_ret
    exact FIN2.out _ _
  · have hge : (len : Int) < p + 1 := by omega
    have hm := mask_bd _ hsd.1 hsd.2
    have FIN2 := Lib.hid (fun n m => fin n m _ _ hsd.1 hsd.2 hm.1 hm.2)
    clear hB hs1 fin hm hsd hrow hlen hlow hby
    go_enter Try.func38, Try.ntmps38
    go_wp2
    go_quiet (fail)
    go_wp2
    go_quiet (fail)
    go_wp2
    go_ret
    exact FIN2.out _ _

theorem pick_any (w : World) (g : Nat) (A : Option Addr) (len cap : Nat) (zs : List Int) (p n : Int) (h : Cur w g A len cap zs p) (hp : p ≤ 999990) (hl : len ≤ 1000000) (h0 : 1 ≤ n) (h1 : n ≤ 60000) :
    Calls Try.prog 28 #[.pointer (some ⟨g, 0, none⟩), .int .i64 n] w fun e w' => ∃ r p' : Int, e = .returned (.int .i64 r) ∧ 0 ≤ r ∧ r < n ∧ Cur w' g A len cap zs p' ∧ p' ≤ p + 2 ∧ w.grownBy w' (some g) := by
  have HC := Lib.hid h
  clear h
  by_cases h2 : n ≤ 1
  · go_enter Try.func28, Try.ntmps28
    go_wp2
    go_ret
    exact ⟨0, p, rfl, by omega, by omega, HC.out, by omega, grown_refl _ _⟩
  · by_cases h3 : n ≤ 200
    · go_enter Try.func28, Try.ntmps28
      go_wp2_with fail
      refine (next_any w g A len cap zs p HC.out (by omega) hl).mono ?_
      rintro e w1 ⟨r, rfl, hr0, hr1, hc1, hg1⟩
      have HC1 := Lib.hid hc1
      have hm0 := Int.emod_nonneg r (show n ≠ 0 by omega)
      have hm1 := Int.emod_lt_of_pos r (show 0 < n by omega)
      clear hc1
      go_wp2
      go_ret
      exact ⟨_, p + 1, rfl, hm0, hm1, HC1.out, by omega, hg1⟩
    · go_enter Try.func28, Try.ntmps28
      go_wp2_with fail
      refine (next_any w g A len cap zs p HC.out (by omega) hl).mono ?_
      rintro e w1 ⟨r, rfl, hr0, hr1, hc1, hg1⟩
      have HC1 := Lib.hid hc1
      clear hc1
      go_wp2_with fail
      refine (next_any w1 g A len cap zs (p + 1) HC1.out (by omega) hl).mono ?_
      rintro e w2 ⟨r2, rfl, hr20, hr21, hc2, hg2⟩
      have HC2 := Lib.hid hc2
      have hm0 := Int.emod_nonneg (r * 256 + r2) (show n ≠ 0 by omega)
      have hm1 := Int.emod_lt_of_pos (r * 256 + r2) (show 0 < n by omega)
      clear hc2
      go_wp2
      go_ret
      exact ⟨_, p + 1 + 1, rfl, hm0, hm1, HC2.out, by omega, grown_trans hg1 hg2⟩

theorem one_any (w : World) (g : Nat) (A : Option Addr) (len cap : Nat) (zs : List Int) (p n : Int) (h : Cur w g A len cap zs p) (hp : p ≤ 999990) (hl : len ≤ 1000000) (h0 : 1 ≤ n) (h1 : n ≤ 60000) :
    Calls Try.prog 29 #[.pointer (some ⟨g, 0, none⟩), .int .i64 n] w fun e w' => ∃ (b : Bool) (p' : Int), e = .returned (.bool b) ∧ Cur w' g A len cap zs p' ∧ p' ≤ p + 2 ∧ w.grownBy w' (some g) := by
  have HC := Lib.hid h
  clear h
  go_enter Try.func29, Try.ntmps29
  go_wp2_with fail
  refine (pick_any w g A len cap zs p n HC.out hp hl h0 h1).mono ?_
  rintro e w1 ⟨r, p', rfl, hr0, hr1, hc1, hp', hg1⟩
  have HC1 := Lib.hid hc1
  clear hc1
  go_wp2
  go_ret
  exact ⟨_, p', rfl, HC1.out, hp', hg1⟩

/-- One of some texts: the texts lie in a block that the cursor is not. -/
theorem of_any (w : World) (g : Nat) (A : Option Addr) (len cap : Nat) (zs : List Int) (p : Int) (h : Cur w g A len cap zs p) (hp : p ≤ 999990) (hl : len ≤ 1000000) (L : Nat) (c : Nat) (ts : List ByteArray) (hL : L ≠ g) (h0 : 1 ≤ ts.length) (h1 : ts.length ≤ 1000) (hr : Row w (some ⟨L, 0, none⟩) (ts.map Value.string)) :
    Calls Try.prog 26 #[.pointer (some ⟨g, 0, none⟩), .slice (some ⟨L, 0, none⟩) ts.length c] w fun e w' => ∃ (t : ByteArray) (p' : Int), e = .returned (.string t) ∧ t ∈ ts ∧ Cur w' g A len cap zs p' ∧ p' ≤ p + 2 ∧ w.grownBy w' (some g) := by
  have HC := Lib.hid h
  clear h
  go_enter Try.func26, Try.ntmps26
  go_wp2_with fail
  refine (pick_any w g A len cap zs p ts.length HC.out hp hl (by omega) (by omega)).mono ?_
  rintro e w1 ⟨r, p', rfl, hr0, hr1, hc1, hp', hg1⟩
  have HC1 := Lib.hid hc1
  clear hc1
  have hc := (hr.grown hg1 (fun _ ad e => by injection e with e; subst e; exact hL)).cell0 (k := r.toNat) (by simp; omega)
  rw [List.getElem_map] at hc
  have hmem : ts[r.toNat]'(by omega) ∈ ts := List.getElem_mem _
  generalize ts[r.toNat]'(by omega) = t at *
  clear hr hL
  go_wp2
  go_ret
  exact ⟨t, p', rfl, hmem, HC1.out, hp', hg1⟩
end Go.Proofs.Yteflgljifbcelaa
