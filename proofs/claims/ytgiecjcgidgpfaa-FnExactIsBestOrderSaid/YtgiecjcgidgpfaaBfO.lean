/- The best orders for a measure: the program's. -/
import Derived.Test.YtgiecjcgidgpfaaBfS
import Derived.Test.YtgiecjcgidgpfaaMeas
namespace Go.Proofs.Ytgiecjcgidgpfaa
open Go.RowKit
/-- A struct of the best orders. -/
def bestS (t : Bst) (A : Option Addr) (c : Nat) : Value := .agg #[.int .i64 t.v, .slice A t.first.length c, .int .i64 (t.n : Int)]
/-- The blocks that the search holds, where it begins. -/
def bl0 (n : Nat) : Bl := ⟨n + 1 + 1 + 1, n + 1 + 1 + 1, n + 1 + 1 + 1 + 1 + 1, n, n + 1 + 1 + 1 + 1 + 1 + 1, n + 1, n + 1 + 1 + 1 + 1 + 1 + 1 + 1, n + 1 + 1 + 1 + 1⟩
theorem env0 {AJ : Option Addr} {cJ : Nat} {js : List J} {o : Int} {fv : Value} {w W0 W1 W2 W3 W4 W5 W6 W7 : World} {mc : Array Value} (hm : mc.size = js.length)
    (h0 : W0 = w.alloc (.cells #[.slice AJ js.length cJ] 24)) (h1 : W1 = W0.alloc (.cells #[fv, .bool (isTop o)] 93)) (h2 : W2 = W1.alloc (.cells #[.int .i64 0, .slice none 0 0, .int .i64 0] 101)) (h3 : W3 = W2.alloc (.cells #[.int .i64 0, .slice none 0 0, .int .i64 0] 101))
    (h4 : W4 = W3.alloc (.cells mc 3)) (h5 : W5 = W4.alloc (.cells #[.slice (some ⟨w.heap.size + 1 + 1 + 1 + 1, 0, none⟩) 0 js.length] 25)) (h6 : W6 = W5.alloc (.cells #[.bool false, .bool false, .bool false, .bool false, .bool false, .bool false, .bool false, .bool false] 144))
    (h7 : W7 = W6.alloc (.cells #[.func (.func 172) #[] #[.pointer (some ⟨w.heap.size + 1 + 1 + 1, 0, none⟩), .pointer (some ⟨w.heap.size + 1 + 1 + 1 + 1 + 1, 0, none⟩), .pointer (some ⟨w.heap.size, 0, none⟩), .pointer (some ⟨w.heap.size + 1 + 1 + 1 + 1 + 1 + 1, 0, none⟩), .pointer (some ⟨w.heap.size + 1, 0, none⟩), .pointer (some ⟨w.heap.size + 1 + 1 + 1 + 1 + 1 + 1 + 1, 0, none⟩)]] 145)) :
    EnvB (bl0 w.heap.size) AJ cJ js o fv W7 [] bst0 none 0 ∧ Below W2.heap.size W2 W7 ∧ W2.heap.size = w.heap.size + 1 + 1 + 1 ∧ Below w.heap.size w W2 ∧ BlockIs W2 (w.heap.size + 1 + 1) 101 #[.int .i64 0, .slice none 0 0, .int .i64 0] := by
  have s0 : W0.heap.size = w.heap.size + 1 := by rw [h0]; simp
  have s1 : W1.heap.size = w.heap.size + 1 + 1 := by rw [h1, ← s0]; simp
  have s2 : W2.heap.size = w.heap.size + 1 + 1 + 1 := by rw [h2, ← s1]; simp
  have s3 : W3.heap.size = w.heap.size + 1 + 1 + 1 + 1 := by rw [h3, ← s2]; simp
  have s4 : W4.heap.size = w.heap.size + 1 + 1 + 1 + 1 + 1 := by rw [h4, ← s3]; simp
  have s5 : W5.heap.size = w.heap.size + 1 + 1 + 1 + 1 + 1 + 1 := by rw [h5, ← s4]; simp
  have s6 : W6.heap.size = w.heap.size + 1 + 1 + 1 + 1 + 1 + 1 + 1 := by rw [h6, ← s5]; simp
  have c7 : Below W6.heap.size W6 W7 := by rw [h7]; exact (Below.refl _ _).alloc (Nat.le_refl _) _
  have c6 : Below W5.heap.size W5 W7 := by
    have : Below W5.heap.size W5 W6 := by rw [h6]; exact (Below.refl _ _).alloc (Nat.le_refl _) _
    exact this.trans (c7.mono this.size)
  have c5 : Below W4.heap.size W4 W7 := by
    have : Below W4.heap.size W4 W5 := by rw [h5]; exact (Below.refl _ _).alloc (Nat.le_refl _) _
    exact this.trans (c6.mono this.size)
  have c4 : Below W3.heap.size W3 W7 := by
    have : Below W3.heap.size W3 W4 := by rw [h4]; exact (Below.refl _ _).alloc (Nat.le_refl _) _
    exact this.trans (c5.mono this.size)
  have c3 : Below W2.heap.size W2 W7 := by
    have : Below W2.heap.size W2 W3 := by rw [h3]; exact (Below.refl _ _).alloc (Nat.le_refl _) _
    exact this.trans (c4.mono this.size)
  have c2 : Below W1.heap.size W1 W7 := by
    have : Below W1.heap.size W1 W2 := by rw [h2]; exact (Below.refl _ _).alloc (Nat.le_refl _) _
    exact this.trans (c3.mono this.size)
  have c1 : Below W0.heap.size W0 W7 := by
    have : Below W0.heap.size W0 W1 := by rw [h1]; exact (Below.refl _ _).alloc (Nat.le_refl _) _
    exact this.trans (c2.mono this.size)
  have b2 : Below w.heap.size w W2 := by
    rw [h2, h1, h0]
    exact (((Below.refl _ _).alloc (Nat.le_refl _) _).alloc (by simp) _).alloc (by simp; omega) _
  have d0 := BlockIs.new w 24 #[.slice AJ js.length cJ]
  have d1 := BlockIs.new W0 93 #[fv, .bool (isTop o)]
  have d2 := BlockIs.new W1 101 #[.int .i64 0, .slice none 0 0, .int .i64 0]
  have d3 := BlockIs.new W2 101 #[.int .i64 0, .slice none 0 0, .int .i64 0]
  have d4 := BlockIs.new W3 3 mc
  have d5 := BlockIs.new W4 25 #[.slice (some ⟨w.heap.size + 1 + 1 + 1 + 1, 0, none⟩) 0 js.length]
  have d6 := BlockIs.new W5 144 #[.bool false, .bool false, .bool false, .bool false, .bool false, .bool false, .bool false, .bool false]
  have d7 := BlockIs.new W6 145 #[.func (.func 172) #[] #[.pointer (some ⟨w.heap.size + 1 + 1 + 1, 0, none⟩), .pointer (some ⟨w.heap.size + 1 + 1 + 1 + 1 + 1, 0, none⟩), .pointer (some ⟨w.heap.size, 0, none⟩), .pointer (some ⟨w.heap.size + 1 + 1 + 1 + 1 + 1 + 1, 0, none⟩), .pointer (some ⟨w.heap.size + 1, 0, none⟩), .pointer (some ⟨w.heap.size + 1 + 1 + 1 + 1 + 1 + 1 + 1, 0, none⟩)]]
  rw [← h0] at d0
  rw [← h1, s0] at d1
  rw [← h2, s1] at d2
  rw [← h3, s2] at d3
  rw [← h4, s3] at d4
  rw [← h5, s4] at d5
  rw [← h6, s5] at d6
  rw [← h7, s6] at d7
  exact ⟨⟨d3.below c4, ⟨rfl, .inl ⟨rfl, rfl⟩⟩, (by intro e; cases e), d5.below c6, ⟨mc, d4.below c5, hm, rfl⟩, d0.below c1, d6.below c7, d1.below c2, d7⟩, c3, s2, b2, d2⟩
theorem FnIs.up {B B' : Nat} {w : World} {o : Int} {fv : Value} (h : FnIs B w o fv) (hB : B ≤ B') : FnIs B' w o fv := by
  rcases h with h | h | ⟨h1, b, h2, h3, h4⟩ | ⟨h1, b, c, h2, h3, h4, h5, h6⟩ | ⟨h1, b, h2, h3, h4⟩ | ⟨h1, b, c, h2, h3, h4, h5, h6⟩ | ⟨h1, b, c, d, h2, h3, h4, h5, h6, h7, h8⟩
  · exact .inl h
  · exact .inr (.inl h)
  · exact .inr (.inr (.inl ⟨h1, b, h2, by omega, h4⟩))
  · exact .inr (.inr (.inr (.inl ⟨h1, b, c, h2, by omega, h4, by omega, h6⟩)))
  · exact .inr (.inr (.inr (.inr (.inl ⟨h1, b, h2, by omega, h4⟩))))
  · exact .inr (.inr (.inr (.inr (.inr (.inl ⟨h1, b, c, h2, by omega, h4, by omega, h6⟩)))))
  · exact .inr (.inr (.inr (.inr (.inr (.inr ⟨h1, b, c, d, h2, by omega, h4, by omega, h6, by omega, h8⟩)))))
section
variable {js : List J} {o : Int} {f : Nat} {caps : Array Value} {w : World} (AJ : Option Addr) (cJ : Nat) (hr : Row w AJ (jc js)) (hF : FnIs w.heap.size w o (.func (.func f) #[] caps)) (ho : isObj o = true) (hg : goodL js = true)
include hr hF ho hg
set_option maxRecDepth 100000 in
set_option maxHeartbeats 4000000 in
theorem bestFor_any : Calls Try.prog 156 #[.slice AJ js.length cJ, .agg #[.func (.func f) #[] caps, .bool (isTop o)]] w fun e w' => ∃ A c, e = .returned (bestS (bestL o js) A c) ∧ w'.ownsRow w.heap.size 3 1 (.slice A (bestL o js).first.length c) (bestL o js).first.length (ic (natI (bestL o js).first)) ∧ Below w.heap.size w w' := by
  obtain ⟨h8, hok⟩ := good_out hg
  obtain ⟨i0, hi, hz0, hz1, hz2⟩ := info_parts infoI
  have hmk := fun w' : World => run_make (P := Try.prog) (w := w') 25 3 i0 (.int .i64 0) Try.underlying25 hi hz0 .i64 .i64 0 (js.length : Int) (by omega) (by omega) (by rw [hz2]; omega) (by omega)
  simp only [hz1, Int.toNat_zero, Int.toNat_natCast, Nat.mul_one] at hmk
  generalize hmc : madeCells (Value.int IntKind.i64 0).cells js.length = mc at *
  have hms : mc.size = js.length := by rw [← hmc]; simp [size_madeCells]
  have HMS := Lib.hid hms
  clear hmc hms hz0 hz1 hz2 hi
  have hst := fun W : World => store_new Try.prog W .nilFunc (.func (.func 172) #[] #[.pointer (some ⟨w.heap.size + 1 + 1 + 1, 0, none⟩), .pointer (some ⟨w.heap.size + 1 + 1 + 1 + 1 + 1, 0, none⟩), .pointer (some ⟨w.heap.size, 0, none⟩), .pointer (some ⟨w.heap.size + 1 + 1 + 1 + 1 + 1 + 1, 0, none⟩), .pointer (some ⟨w.heap.size + 1, 0, none⟩), .pointer (some ⟨w.heap.size + 1 + 1 + 1 + 1 + 1 + 1 + 1, 0, none⟩)]) 145 rfl
  have hst' := hst (((((((w.alloc (.cells #[.slice AJ js.length cJ] 24)).alloc (.cells #[.func (.func f) #[] caps, .bool (isTop o)] 93)).alloc (.cells #[.int .i64 0, .slice none 0 0, .int .i64 0] 101)).alloc (.cells #[.int .i64 0, .slice none 0 0, .int .i64 0] 101)).alloc (.cells mc 3)).alloc (.cells #[.slice (some ⟨w.heap.size + 1 + 1 + 1 + 1, 0, none⟩) 0 js.length] 25)).alloc (.cells #[.bool false, .bool false, .bool false, .bool false, .bool false, .bool false, .bool false, .bool false] 144))
  simp at hst'
  obtain ⟨hE, hb7, hs2, hbw2, hres⟩ := env0 (AJ := AJ) (cJ := cJ) (js := js) (o := o) (fv := .func (.func f) #[] caps) (w := w) (mc := mc) HMS.out rfl rfl rfl rfl rfl rfl rfl rfl
  have hF2 := (hF.keep (fun b hb => hbw2.block b hb)).up (show w.heap.size ≤ w.heap.size + 1 + 1 + 1 by omega)
  rw [hs2] at hb7
  have hcall := bf_any (k := bl0 w.heap.size) (AJ := AJ) (cJ := cJ) (js := js) (o := o) hs2 (hr.below hbw2) hF2 (by show w.heap.size + 1 + 1 + 1 ≤ w.heap.size + 1 + 1 + 1 + 1 + 1; omega) (by show w.heap.size + 1 + 1 + 1 ≤ w.heap.size + 1 + 1 + 1 + 1 + 1 + 1; omega) (by show w.heap.size + 1 + 1 + 1 ≤ w.heap.size + 1 + 1 + 1 + 1; omega) ho hg (by show w.heap.size + 1 + 1 + 1 ≤ w.heap.size + 1 + 1 + 1; omega) js.length [] bst0 none 0 _ hb7 (by simp) List.nodup_nil (by simp) hE (by
    have : 8 ^ js.length ≤ 8 ^ 8 := Nat.pow_le_pow_right (by omega) h8
    show 0 + 8 ^ js.length ≤ _
    omega)
  rw [prog_best ho hg] at hcall
  have HC := Lib.hid hcall
  have HX := Lib.hid (And.intro hb7 (And.intro hbw2 (And.intro hres hs2)))
  clear hst hE hb7 hs2 hbw2 hres hcall hF2 hF hr
  go_enter Try.func156, Try.ntmps156
  go_wp2_with fail
  refine HC.out.mono ?_
  rintro e w8 ⟨rfl, ⟨A, c, hE8⟩, hb8⟩
  obtain ⟨hb7, hbw2, hres, hs2⟩ := HX.out
  have hb28 := hb7.trans hb8
  have hr8 : BlockIs w8 (w.heap.size + 1 + 1) 101 #[.int .i64 0, .slice none 0 0, .int .i64 0] := (hb28.block _ (by show w.heap.size + 1 + 1 < w.heap.size + 1 + 1 + 1; omega)).trans hres
  generalize htt : bestL o js = tt at *
  have HT := Lib.hid htt
  clear htt
  have g0 := hE8.best.cell 0
  have g1 := hE8.best.cell 1
  have g2 := hE8.best.cell 2
  have r0 := hr8.cell 0
  have r1 := hr8.cell 1
  have r2 := hr8.cell 2
  have f0 := hr8.frozen 0
  have f1 := hr8.frozen 1
  have f2 := hr8.frozen 2
  have hbase : (bl0 w.heap.size).best = w.heap.size + 1 + 1 + 1 := rfl
  rw [hbase] at g0 g1 g2
  simp at g0 g1 g2 r0 r1 r2
  have HZ := Lib.hid (And.intro hE8 (And.intro hr8 (hbw2.trans (hb28.mono (by show w.heap.size ≤ w.heap.size + 1 + 1 + 1; omega)))))
  clear hE8 hr8 hb28 hb8 hb7 hbw2 hres hs2 HX HC hst' hbase hmk
  go_wp2
  (try simp only [Exit.inBlock, Exit.then])
  refine bodyPost_ret (v := .agg #[.int .i64 tt.v, .slice A tt.first.length c, .int .i64 (tt.n : Int)]) (by simp [results, Try.results156, r0, r1, r2, go_sem]) rfl ?_
  obtain ⟨hE8, hr8, hbz⟩ := HZ.out
  refine ⟨A, c, by rw [HT.out]; rfl, ?_, ((hbz.setCell (p := ⟨w.heap.size + 1 + 1, 0, none⟩) (by show w.heap.size ≤ w.heap.size + 1 + 1; omega) _).setCell (p := ⟨w.heap.size + 1 + 1, 1, none⟩) (by show w.heap.size ≤ w.heap.size + 1 + 1; omega) _).setCell (p := ⟨w.heap.size + 1 + 1, 2, none⟩) (by show w.heap.size ≤ w.heap.size + 1 + 1; omega) _⟩
  rw [HT.out]
  exact own_lower (own_keep (own_keep (own_keep hE8.first hr8 (by decide) _ _) (hr8.set 0 _) (by decide) _ _) ((hr8.set 0 _).set 1 _) (by decide) _ _) (by show w.heap.size ≤ w.heap.size + 1 + 1 + 1; omega)
end
end Go.Proofs.Ytgiecjcgidgpfaa
