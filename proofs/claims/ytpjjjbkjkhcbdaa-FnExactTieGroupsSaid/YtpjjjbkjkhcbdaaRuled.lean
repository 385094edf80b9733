/- The ruled order: the program's. -/
import Derived.Test.YtpjjjbkjkhcbdaaSortI
namespace Go.Proofs.Ytpjjjbkjkhcbdaa
open Go.RowKit
/-- A list of one's own, at an address. -/
def RetL (w : World) (l : List Nat) (e : Ending) (w' : World) : Prop := ∃ g, e = .returned (.slice (some ⟨g, 0, none⟩) l.length l.length) ∧ w'.ownsRow w.heap.size 3 1 (.slice (some ⟨g, 0, none⟩) l.length l.length) l.length (ic (natI l)) ∧ Below w.heap.size w w'
section
variable {b : Nat} {A : Option Addr} {c : Nat} {js : List J} {ob : Int} (ho : isRule ob = true) (hg : goodL js = true)
include ho hg
set_option maxRecDepth 100000 in
set_option maxHeartbeats 1000000 in
theorem ruledOrder_any (w : World) (hB : BlockIs w b 28 #[.slice A js.length c]) (hr : Row w A (jc js)) :
    Calls Try.prog 146 #[fRule ob b, .int .i64 (js.length : Int)] w (RetL w (ruledL ob js)) := by
  obtain ⟨h8, hok⟩ := good_out hg
  obtain ⟨f, hf, hcf, hcall⟩ := rule_call (b := b) (A := A) (c := c) ho hg
  have hmk := run_make_row' (P := Try.prog) 35 3 (.int .i64 0) 8 Try.underlying35 infoI rfl .i64 .i64 js.length (by omega) (by omega)
  have HLL := Lib.hid (ruledL_len ob js)
  have HB := Lib.hid (And.intro hB hr)
  rw [hf]
  clear hf hB hr
  go_enter Try.func146, Try.ntmps146
  go_wp2
  go_loopw [11] (fun i wr => ∃ (k : Nat) (cs : Array Value), k ≤ js.length ∧ i = .int .i64 (k : Int) ∧ Hid (BlockIs wr w.heap.size 3 cs) ∧ Hid (Upto (ic (natI (List.range js.length))) k cs) ∧ Hid (Below w.heap.size w wr)) (fun i _ => js.length - (intOf i).toNat)
  case atStart =>
    exact ⟨0, _, Nat.zero_le _, rfl, BlockIs.new _ _ _, ⟨by rw [size_madeCells, ic_len]; simp, by omega⟩, (Below.refl _ _).alloc (Nat.le_refl _) _⟩
  case round =>
    obtain ⟨k, cs, hk, rfl, HBl, HU, HW⟩ := hrel
    clear hmk
    have hcl : (ic (natI (List.range js.length))).length = js.length := by rw [ic_len]; simp
    by_cases hlt : k < js.length
    · obtain ⟨v0, hv0⟩ : ∃ v, cs[k]? = some v := ⟨_, Array.getElem?_eq_getElem (by have := HU.out.1; omega)⟩
      have hck : wr.cell? ⟨w.heap.size, k, none⟩ = some v0 := by rw [HBl.out.cell, hv0]
      have hfz := HBl.out.frozen k
      have hst := HU.out.step (k := k) (by omega)
      have hget : (ic (natI (List.range js.length)))[k]'(by omega) = .int .i64 (k : Int) := by
        rw [ic_get _ k (by simp; omega)]; simp
      rw [hget] at hst
      have HS := Lib.hid hst
      have HB2 := Lib.hid (HBl.out.set k (.int .i64 (k : Int)))
      have hi0 : (0 : Int) ≤ k := by omega
      have hi1 : (k : Int) < js.length := by omega
      clear hv0 hst hget hcl HU HBl
      go_wp2
      go_roundw
      case rel => exact ⟨k + 1, _, by omega, by go_num, HB2.out, HS.out, HW.out.setCell (Nat.le_refl _) _⟩
      case measure => simp [intOf]; omega
    · obtain rfl : k = js.length := by omega
      have hU : Upto (ic (natI (List.range js.length))) (ic (natI (List.range js.length))).length cs := by
        have h := HU.out
        generalize hL : ic (natI (List.range js.length)) = L at *
        rw [hcl]; exact h
      have hsz : cs.size = js.length := by rw [hU.1, hcl]
      have hall := hU.all
      have hlt1 : w.heap.size < wr.heap.size := HBl.out.lt
      have hst0 := stable_any (ob := ob) (f := f) (b := b) (A := A) (c := c) hcf hcall hok wr (HB.out.1.below HW.out) (HB.out.2.below HW.out) w.heap.size js.length js.length (List.range js.length) (fun x hx => List.mem_range.1 hx) (by simp; omega)
        ⟨cs, HBl.out, hsz, by rw [List.take_of_length_le (by simp [hsz]), hall], World.grownBy.refl _ _, rfl⟩
        (fun h0 a ha => by
          obtain ⟨a', h1, h2, _⟩ := HB.out.2 (by rw [jc_len]; omega)
          rw [ha] at h1; injection h1 with h1; subst h1; omega)
      rw [isortL_ruled] at hst0
      simp only [List.length_range] at hst0
      have HST := Lib.hid hst0
      clear hU hall hst0 hcl hsz HU HBl hcall
      go_wp2_with fail
      refine HST.out.mono ?_
      rintro e w2 ⟨rfl, hs2⟩
      have HS2 := Lib.hid hs2
      clear hs2
      go_wp2
      go_ret
      obtain ⟨cur, h1, h2, h3, h4, h5⟩ := HS2.out
      refine ⟨w.heap.size, by rw [HLL.out]; rfl, ?_, HW.out.grown h4 (by omega) (fun j hj => by injection hj with hj; omega)⟩
      have := h1.own (base := w.heap.size) (n := js.length) (c := js.length) (size := 1) (Nat.le_refl _) (by omega) (Nat.le_refl _) (by unfold maxLen; omega) (by omega)
      rw [Nat.mul_one, h3] at this
      rw [HLL.out]
      exact this
end
end Go.Proofs.Ytpjjjbkjkhcbdaa
