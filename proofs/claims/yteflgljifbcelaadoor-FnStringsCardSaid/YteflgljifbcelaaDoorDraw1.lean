/- What the drawing functions of chapter 1 return: some number, some text, within bounds. -/
import Derived.Test.YteflgljifbcelaaDoorCur
import Derived.Test.YteflgljifbcelaaDoorNum
import Derived.OpenShut
import Derived.Laws.IdiomStrings
namespace Go.Proofs.YteflgljifbcelaaDoor
open Go.RowKit Go.ChangeShapes

theorem bytes_bd {zs : List Int} (h : ∀ n ∈ zs, (Lit.int .u8 n).wf = true) : ∀ z ∈ zs, 0 ≤ z ∧ z ≤ 255 := fun z hz => by
  have := bounds_u8 (h z hz)
  omega
/-- The bytes of an argument, as the cursor wants them. -/
structure Code (w : World) (A : Option Addr) (len : Nat) (zs : List Int) : Prop where
  row : Row w A (zs.map (Value.int .u8))
  len_eq : zs.length = len
  bytes : ∀ z ∈ zs, 0 ≤ z ∧ z ≤ 255
  small : len ≤ 65536
theorem Code.below {w w' : World} {A : Option Addr} {len : Nat} {zs : List Int} (h : Code w A len zs) (hb : Below w.heap.size w w') : Code w' A len zs := ⟨h.row.below hb, h.len_eq, h.bytes, h.small⟩
theorem Code.low {w : World} {A : Option Addr} {len : Nat} {zs : List Int} (h : Code w A len zs) (h0 : 0 < len) : ∀ ad, A = some ad → ad.block < w.heap.size := fun ad e => by
  obtain ⟨ad', e', hb, _⟩ := h.row (by rw [List.length_map, h.len_eq]; exact h0)
  rw [e] at e'; injection e' with e'; subst e'; exact hb
theorem Code.cur {w : World} {A : Option Addr} {len cap : Nat} {zs : List Int} (h : Code w A len zs)  : Cur (w.alloc (.cells #[.slice A len cap, .int .i64 0, .int .u64 0] 37)) w.heap.size A len cap zs 0 :=
  ⟨⟨0, by omega, by omega, BlockIs.new _ _ _⟩, h.row.alloc _, h.len_eq, h.low, h.bytes, by omega⟩

theorem DrawFormatInt_any (A : Option Addr) (len cap : Nat) (zs : List Int) (w : World) (h : Code w A len zs)  :
    Calls Tryd.prog 9 #[.slice A len cap] w fun e w' => ∃ n : Int, e = .returned (.int .i64 n) ∧ -1000000 ≤ n ∧ n ≤ 1000000 ∧ Below w.heap.size w w' := by
  have HC := Lib.hid (h.cur (cap := cap))
  have hl := h.small
  clear h
  go_enter Tryd.func9, Tryd.ntmps9
  go_wp2_with fail
  refine (pick_any _ w.heap.size A len cap zs 0 1000 HC.out (by omega) (by omega) (by omega) (by omega)).mono ?_
  rintro e w1 ⟨r, p', rfl, hr0, hr1, hc1, hp', hg1⟩
  have HC1 := Lib.hid hc1
  have HG1 := Lib.hid hg1
  clear hc1 hg1
  go_wp2_with fail
  refine (among_any _ w.heap.size A len cap zs p' (HC1.out.alloc _) (by omega) (by omega) w1.heap.size 9 [0, 1, -1, 10, 999999, -999999, 1000000, -1000000, r - 500] (by have := HC1.out.lt; omega) (by simp) (by simp) (Row.new w1 _ _)).mono ?_
  rintro e w2 ⟨n, p2, rfl, hn, hc2, hp2, hg2⟩
  have hb : Below w.heap.size w w2 := ((((Below.refl _ _).alloc (Nat.le_refl _) _).trans (grown_below HG1.out (Nat.le_refl _) (by simp))).alloc (by have := HC1.out.lt; omega) _).trans (grown_below hg2 (Nat.le_refl _) (by have := HC1.out.lt; simp; omega))
  have hn0 : -1000000 ≤ n ∧ n ≤ 1000000 := by simp at hn; omega
  clear hc2 hg2 hn
  go_wp2
  go_ret
  exact ⟨n, rfl, hn0.1, hn0.2, hb⟩

def shortS (b : Nat) : Value → Bool
  | .string t => decide (t.size ≤ b)
  | _ => false
theorem shortS_out {b : Nat} {v : Value} (h : shortS b v = true) : ∃ t, v = .string t ∧ t.size ≤ b := by
  cases v <;> simp [shortS] at h
  exact ⟨_, rfl, h⟩
theorem strings_of {b : Nat} : ∀ {cs : List Value}, cs.all (shortS b) = true → ∃ ts : List ByteArray, cs = ts.map Value.string ∧ ∀ t ∈ ts, t.size ≤ b
  | [], _ => ⟨[], rfl, by simp⟩
  | v :: cs, h => by
    rw [List.all_cons, Bool.and_eq_true] at h
    obtain ⟨t, rfl, ht⟩ := shortS_out h.1
    obtain ⟨ts, rfl, hts⟩ := strings_of h.2
    exact ⟨t :: ts, rfl, by intro x hx; rcases List.mem_cons.1 hx with rfl | hx; exact ht; exact hts x hx⟩
/-- One of some texts in a block that was just made. -/
theorem of_new (w : World) (g : Nat) (A : Option Addr) (len cap : Nat) (zs : List Int) (p : Int) (h : Cur w g A len cap zs p) (hp : p ≤ 999990) (hl : len ≤ 1000000) (t : TypeId) (n c b : Nat) (cs : Array Value) (hn : n = cs.size) (h0 : 1 ≤ n) (h1 : n ≤ 1000) (hcs : cs.toList.all (shortS b) = true) :
    Calls Tryd.prog 27 #[.pointer (some ⟨g, 0, none⟩), .slice (some ⟨w.heap.size, 0, none⟩) n c] (w.alloc (.cells cs t)) fun e w' => ∃ (x : ByteArray) (p' : Int), e = .returned (.string x) ∧ x.size ≤ b ∧ Cur w' g A len cap zs p' ∧ p' ≤ p + 2 ∧ w.grownBy w' (some g) := by
  subst hn
  have hr := Row.new w t cs
  obtain ⟨ts, hts, hsz⟩ := strings_of hcs
  have hlen : cs.size = ts.length := by rw [← Array.length_toList, hts, List.length_map]
  rw [hts] at hr
  rw [hlen] at h0 h1 ⊢
  refine (of_any _ g A len cap zs p (h.alloc _) hp hl w.heap.size c ts (by have := h.lt; omega) h0 h1 hr).mono ?_
  rintro e w' ⟨x, p', he, hx, hc, hp', hg⟩
  exact ⟨x, p', he, hsz x hx, hc, hp', grown_trans (alloc_grown w _ _) hg⟩

theorem any1_any (w : World) (g : Nat) (A : Option Addr) (len cap : Nat) (zs : List Int) (p : Int) (h : Cur w g A len cap zs p) (hp : p ≤ 999990) (hl : len ≤ 1000000) :
    Calls Tryd.prog 30 #[.pointer (some ⟨g, 0, none⟩)] w fun e w' => ∃ (x : ByteArray) (p' : Int), e = .returned (.string x) ∧ x.size ≤ 100 ∧ Cur w' g A len cap zs p' ∧ p' ≤ p + 2 ∧ w.grownBy w' (some g) := by
  have HC := Lib.hid h
  clear h
  go_enter Tryd.func30, Tryd.ntmps30
  go_wp2_with fail
  refine (of_new _ g A len cap zs p HC.out hp hl _ 9 _ 100 _ rfl (by omega) (by omega) (by kernel_rfl)).mono ?_
  rintro e w1 ⟨x, p', rfl, hx, hc1, hp', hg1⟩
  have HC1 := Lib.hid hc1
  clear hc1
  go_wp2
  go_ret
  exact ⟨x, p', rfl, hx, HC1.out, hp', hg1⟩

theorem itoa_len (n : Int) (h0 : -9000000000000000000 ≤ n) (h1 : n ≤ 9000000000000000000) : (Lib.itoa n).length ≤ 20 := by
  unfold Lib.itoa
  by_cases hn : n < 0
  · rw [if_pos hn, List.length_cons]; have := decDigits_len n.natAbs (by omega); omega
  · rw [if_neg hn]; have := decDigits_len n.toNat (by omega); omega

theorem DrawParseInt_any (A : Option Addr) (len cap : Nat) (zs : List Int) (w : World) (h : Code w A len zs)  :
    Calls Tryd.prog 12 #[.slice A len cap] w fun e w' => ∃ x : ByteArray, e = .returned (.string x) ∧ x.size ≤ 100 ∧ Below w.heap.size w w' := by
  have HC := Lib.hid (h.cur (cap := cap))
  have hl := h.small
  clear h
  go_enter Tryd.func12, Tryd.ntmps12
  go_wp2_with fail
  refine (one_any _ w.heap.size A len cap zs 0 2 HC.out (by omega) (by omega) (by omega) (by omega)).mono ?_
  rintro e w1 ⟨b, p1, rfl, hc1, hp1, hg1⟩
  have HC1 := Lib.hid hc1
  have hb1 : Below w.heap.size w w1 := ((Below.refl _ _).alloc (Nat.le_refl _) _).trans (grown_below hg1 (Nat.le_refl _) (by simp))
  clear hc1 hg1
  cases b with
  | true =>
    go_wp2_with fail
    refine (of_new _ w.heap.size A len cap zs p1 HC1.out (by omega) (by omega) _ 11 _ 100 _ rfl (by omega) (by omega) (by kernel_rfl)).mono ?_
    rintro e w2 ⟨x, p2, rfl, hx, hc2, hp2, hg2⟩
    have hb2 : Below w.heap.size w w2 := hb1.trans (grown_below hg2 (Nat.le_refl _) hb1.size)
    clear hc2 hg2
    go_wp2
    go_ret
    exact ⟨x, rfl, hx, hb2⟩
  | false =>
    go_wp2_with fail
    refine (pick_any _ w.heap.size A len cap zs p1 2000 HC1.out (by omega) (by omega) (by omega) (by omega)).mono ?_
    rintro e w2 ⟨r, p2, rfl, hr0, hr1, hc2, hp2, hg2⟩
    have hb2 : Below w.heap.size w w2 := hb1.trans (grown_below hg2 (Nat.le_refl _) hb1.size)
    clear hc2 hg2
    go_wp2_with fail
    refine (l1Num_any _ _ (by omega) (by omega)).mono ?_
    rintro e w3 ⟨rfl, m, rfl⟩
    have hlen := itoa_len (r - 1000) (by omega) (by omega)
    go_wp2
    go_ret
    exact ⟨_, rfl, by show Array.size _ ≤ _; simp; omega, below_drewN hb2 _⟩

theorem infoU8 : (Tryd.prog.info? 5).map (fun i => (i.zero, i.size, i.bytes)) = some (some (.int .u8 0), 1, 1) := by kernel_rfl
theorem DrawAppendChecksum_any (A : Option Addr) (len cap : Nat) (zs : List Int) (w : World) (h : Code w A len zs)  :
    Calls Tryd.prog 15 #[.slice A len cap] w fun e w' => ∃ x : ByteArray, e = .returned (.string x) ∧ x.size ≤ 4000 ∧ Below w.heap.size w w' := by
  have HC := Lib.hid (h.cur (cap := cap))
  have hl := h.small
  clear h
  go_enter Tryd.func15, Tryd.ntmps15
  go_wp2_with fail
  refine (one_any _ w.heap.size A len cap zs 0 20 HC.out (by omega) (by omega) (by omega) (by omega)).mono ?_
  rintro e w1 ⟨b, p1, rfl, hc1, hp1, hg1⟩
  have HC1 := Lib.hid hc1
  have hb1 : Below w.heap.size w w1 := ((Below.refl _ _).alloc (Nat.le_refl _) _).trans (grown_below hg1 (Nat.le_refl _) (by simp))
  clear hc1 hg1
  cases b with
  | true =>
    go_wp2_with fail
    refine (pick_any _ w.heap.size A len cap zs p1 10 HC1.out (by omega) (by omega) (by omega) (by omega)).mono ?_
    rintro e w2 ⟨r, p2, rfl, hr0, hr1, hc2, hp2, hg2⟩
    have hb2 : Below w.heap.size w w2 := hb1.trans (grown_below hg2 (Nat.le_refl _) hb1.size)
    obtain ⟨k, rfl⟩ := Int.eq_ofNat_of_zero_le hr0
    have hmk := run_make_row' (P := Tryd.prog) 22 5 (.int .u8 0) 1 Tryd.underlying22 infoU8 rfl .i64 .i64 (3990 + k) (by omega) (by omega) w2
    rw [show ((3990 + k : Nat) : Int) = 3990 + (k : Int) by omega] at hmk
    have hcv := run_convert_bytes_back (P := Tryd.prog) (w2.alloc (.cells (madeCells #[.int .u8 0] (3990 + k)) 5)) 22 9 5 ⟨w2.heap.size, 0, none⟩ (3990 + k) (List.replicate (3990 + k) 0) Tryd.underlying22 Tryd.underlying5 Tryd.underlying9 (fun j hj => by
      have hr := (Row.new w2 5 (madeCells #[.int .u8 0] (3990 + k))) (by rw [Array.length_toList, size_madeCells]; omega)
      obtain ⟨ad, e, _, hc⟩ := hr
      injection e with e
      subst e
      rw [List.length_replicate] at hj
      refine hc j _ ?_
      rw [Array.getElem?_toList, Array.getElem?_eq_getElem (by rw [size_madeCells]; exact hj)]
      simp [madeCells, Nat.mod_one])
    rw [List.length_replicate] at hcv
    clear hc2 hg2
    go_wp2
    go_ret
    exact ⟨_, rfl, by show Array.size _ ≤ _; simp; omega, hb2.alloc hb2.size _⟩
  | false =>
    go_wp2_with fail
    refine (any1_any _ w.heap.size A len cap zs p1 HC1.out (by omega) (by omega)).mono ?_
    rintro e w2 ⟨x, p2, rfl, hx, hc2, hp2, hg2⟩
    have hb2 : Below w.heap.size w w2 := hb1.trans (grown_below hg2 (Nat.le_refl _) hb1.size)
    clear hc2 hg2
    go_wp2
    go_ret
    exact ⟨x, rfl, by omega, hb2⟩
end Go.Proofs.YteflgljifbcelaaDoor
