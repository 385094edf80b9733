/- BlocksOf: the model's. -/
import Derived.Test.YtjnaicgmfnhjeaaBlkS
namespace Go.Proofs.Ytjnaicgmfnhjeaa
open Go.RowKit
theorem blocksR_bd (js : List J) (o : List Int) : (blocksR js o).1.length ≤ 1000 ∧ ((blocksR js o).1.map ic).length ≤ 1000 ∧ totC ((blocksR js o).1.map ic) ≤ 1000 ∧ (((blocksR js o).1.map ic).map List.length).length ≤ 1000 ∧ (((blocksR js o).1.map ic).map List.length).sum ≤ 1000 := by
  have h1 := blocksR_len js o
  have h2 : (((blocksR js o).1.map ic).map List.length).sum ≤ 1000 := by
    unfold blocksR
    cases ht : twoB js o
    · simp
    · obtain ⟨hg, p, rfl, hp, hpo⟩ := two_out ht
      have h8 := (good_out hg).1
      have hpl : p.length = js.length := by simpa using hp.length_eq
      have hf := congrArg List.length (blks_all js p p.length (Nat.le_refl _)).flat
      rw [List.length_flatten, List.take_length] at hf
      rw [if_pos rfl, hpo]
      show (((((blksTo js p p.length).map fun g => g.map Int.ofNat)).map ic).map List.length).sum ≤ 1000
      rw [List.map_map, List.map_map, show ((List.length ∘ ic) ∘ fun g : List Nat => g.map Int.ofNat) = List.length from funext fun g => by simp [ic_len]]
      omega
  exact ⟨h1, by rw [List.length_map]; exact h1, h2, by rw [List.length_map, List.length_map]; exact h1, h2⟩
theorem heldIntSS_n (A : Option Addr) (c n : Nat) (ns : List Nat) (k : Int) (w : World) (hnn : n = ns.length) (hr : RowSS w A (marksSS k.toNat ns)) (h0 : 0 ≤ k) (h1 : k ≤ 100000000) (hn : ns.length ≤ 10000000 ∧ ns.sum ≤ 10000000) :
    Calls Try.prog 28 #[.slice A n c, .int .i64 k] w fun e w' => e = .returned (.int .i64 (k + ns.sum)) ∧ w = w' := by
  subst hnn
  exact heldIntSS_seg A c ns k w hr h0 h1 hn
section
variable (A B : Option Addr) (c d : Nat) (js : List J) (o : List Int) (w : World) (hr : Row w A (jc js)) (hq : Row w B (ic o)) (hn : js.length ≤ 10000000) (hm : o.length ≤ 10000000)
include hr hq hn hm
theorem spec_BlocksOf : Calls Try.prog 18 #[.slice A js.length c, .slice B o.length d] w (RetSSB w (blocksR js o)) := by
  have HR : Hid (blocksR js o = if twoB js o then ((blksL js (natsOf o)).map fun g => g.map Int.ofNat, true) else ([], false)) := rfl
  cases ht : twoB js o
  · rw [ht] at HR
    have hba := (Below.refl w.heap.size w).alloc (Nat.le_refl _) (.cells #[] 23)
    have HO0 : Hid ((w.alloc (.cells #[] 23)).ownsRow w.heap.size 23 1 (.slice (some ⟨w.heap.size, 0, none⟩) 0 0) 0 [] ∧ Below w.heap.size w (w.alloc (.cells #[] 23))) := ⟨World.ownsRow_made w #[] 0 (Nat.le_refl _) (by unfold maxLen; omega) rfl, hba⟩
    have HTW := Lib.hid (l2Two_any A B c d js o _ (hr.below hba) (hq.below hba) hn hm)
    clear hba
    go_enter Try.func18, Try.ntmps18
    go_wp2_with fail
    refine HTW.out.mono ?_
    rintro e w1 ⟨rfl, hb1⟩
    have HF := Lib.hid (And.intro (own_blw HO0.out.1 hb1) (HO0.out.2.trans (hb1.mono HO0.out.2.size)))
    rw [ht]
    clear hb1 HO0
    go_wp2
    go_ret2
    exact ret_ownSS (gs := []) HR.out (Nat.le_refl _) (OwnV.nil HF.out.1) HF.out.2 _ rfl
  · obtain ⟨hg, p, rfl, hp, hpo⟩ := two_out ht
    rw [ht, hpo] at HR
    have h := spec_BlkYes A B c d js p w hr hq hg hp ht _ HR.out
    rw [show (natI p).length = p.length from List.length_map ..]
    exact h
end
end Go.Proofs.Ytjnaicgmfnhjeaa
