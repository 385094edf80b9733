/- What the late rule has left after some jobs: the program's. -/
import Derived.Test.YtjnaicgmfnhjeaaLateI
import Derived.Test.YtjnaicgmfnhjeaaSorO
namespace Go.Proofs.Ytjnaicgmfnhjeaa
open Go.RowKit
def leftR (js : List J) (k : Int) : List Int × Bool := if plainL js && decide (0 ≤ k ∧ k ≤ js.length) then (natI (ascL js.length (lateGo js k.toNat).left), true) else ([], false)
theorem runR_k (js : List J) (k : Int) : runR js k = (plainL js && decide (0 ≤ k ∧ k ≤ js.length)) := by unfold runR; rw [ruled4]
theorem leftR_len (js : List J) (k : Int) : (leftR js k).1.length ≤ 1000 := by
  unfold leftR
  cases h : (plainL js && decide (0 ≤ k ∧ k ≤ js.length))
  · simp
  · rw [Bool.and_eq_true] at h
    have h1 := (good_out (plain_good h.1)).1
    have h2 : (ascL js.length (lateGo js k.toNat).left).length ≤ js.length := by
      have := List.length_filter_le (fun i => (lateGo js k.toNat).left.contains i) (List.range js.length)
      rwa [List.length_range] at this
    simp only [if_true, List.length_map]; omega
section
variable (A : Option Addr) (c : Nat) (js : List J) (k : Int) (w : World) (hr : Row w A (jc js)) (hn : js.length ≤ 10000000)
include hr hn
set_option maxRecDepth 100000 in
theorem impl_LeftAfter : Calls Try.prog 46 #[.slice A js.length c, .int .i64 k] w (RetIB w (leftR js k)) := by
  have HR : Hid (leftR js k = if plainL js && decide (0 ≤ k ∧ k ≤ js.length) then (natI (ascL js.length (lateGo js k.toNat).left), true) else ([], false)) := rfl
  rw [← runR_k] at HR
  have HC := Lib.hid (lateRun_any A c js w hr hn k)
  have hS0 : ∀ w : World, Calls Try.prog 122 #[.slice none 0 0] w fun e w' => e = .returned (.tuple #[]) ∧ w' = w := fun w => Try.slices_Sort_int_none none 0 w
  have HS0 := Lib.hid hS0
  clear hS0
  go_enter Try.func46, Try.ntmps46
  go_wp2_with fail
  refine HC.out.mono ?_
  rintro e w1 ⟨hb1, ⟨hx, rfl⟩ | ⟨hx, vt, vs, rfl, ho1, ho2⟩⟩
  · rw [hx] at HR
    have hK := BlockIs.new w1 99 #[.slice none 0 0, .slice none 0 0]
    have hbW := (Below.refl w1.heap.size w1).alloc (Nat.le_refl _) (.cells #[.slice none 0 0, .slice none 0 0] 99)
    have hc0 := hK.cell 0
    have HB := Lib.hid (hb1.trans (hbW.mono hb1.size))
    simp only [List.getElem?_toArray, List.getElem?_cons_zero] at hc0
    clear hb1 HC hx hK hbW
    go_wp2_with fail
    refine (HS0.out _).mono ?_
    rintro e _ ⟨rfl, rfl⟩
    go_wp2
    go_ret2
    exact ret_nilI (by rw [HR.out]; rfl) HB.out _ rfl
  · rw [hx] at HR
    have hkk : 0 ≤ k ∧ k ≤ js.length := by
      unfold runR at hx
      rw [Bool.and_eq_true] at hx
      exact of_decide_eq_true hx.2
    have hgd : goodL js = true := by
      unfold runR at hx
      rw [Bool.and_eq_true] at hx
      exact ruled_good hx.1
    have h8 := (good_out hgd).1
    have hkl : k.toNat ≤ (ruledL 4 js).length := by rw [ruledL_len]; omega
    have hst := lateGo_steps js k.toNat hkl
    have HSRT := Lib.hid (srtL_ascL (n := js.length) (l := (lateGo js k.toNat).left) ((List.nodup_append.1 (late_nodup js hkl)).1) (fun x hx => lateGo_lt js hkl hx))
    have hml : (lateGo js k.toNat).left.length ≤ 8 := by omega
    obtain ⟨At, ct, rfl, _⟩ := own_slice ho1
    obtain ⟨As, cs, rfl, _⟩ := own_slice ho2
    have HLN := Lib.hid (srtL_len (lateGo js k.toNat).left)
    generalize (lateGo js k.toNat).steps = st at *
    generalize (lateGo js k.toNat).left = lf at *
    generalize st.length = sn at *
    have hK := BlockIs.new w1 99 #[.slice At lf.length ct, .slice As sn cs]
    have hbW := (Below.refl w1.heap.size w1).alloc (Nat.le_refl _) (.cells #[.slice At lf.length ct, .slice As sn cs] 99)
    have hc0 := hK.cell 0
    simp only [List.getElem?_toArray, List.getElem?_cons_zero] at hc0
    have ho3 := own_blw ho1 hbW
    have HSO := Lib.hid (sort_own ho3 rfl (by omega))
    have HZ := Lib.hid (And.intro ho3 (And.intro (hb1.trans (hbW.mono hb1.size)) hK))
    clear hb1 ho1 ho2 ho3 HC hx hkk hgd hkl hst hK hbW
    go_wp2_with fail
    refine HSO.out.mono ?_
    rintro e w2 ⟨rfl, ho2, hg2⟩
    have HB2 := Lib.hid (HZ.out.2.1.grown hg2 HZ.out.2.1.size (fun j hj => (HZ.out.1.lt j hj).1))
    have hc1 := (block_apart HZ.out.2.2 HZ.out.1 (by decide) hg2).cell 0
    simp only [List.getElem?_toArray, List.getElem?_cons_zero] at hc1
    have HO2 := Lib.hid ho2
    clear ho2 hg2 HSO HZ hc0
    generalize lf.length = m at *
    go_wp2
    go_ret2
    exact ret_ownR (by rw [HR.out, ← HSRT.out]; rfl) HLN.out HO2.out HB2.out _ rfl
end
end Go.Proofs.Ytjnaicgmfnhjeaa
