/- A precedence of n jobs: the model's. -/
import Derived.Test.YtjemjdlaoebffaaDoorPrs
import Derived.Test.YtjemjdlaoebffaaDoorPra
namespace Go.Proofs.YtjemjdlaoebffaaDoor
open Go.RowKit
set_option maxRecDepth 100000 in
set_option maxHeartbeats 1000000 in
theorem l4Good_any (A : Option Addr) (c : Nat) (n : Int) (E : List Pr) (w : World) (hr : Row w A (pc E)) (hl : E.length ≤ 10000000) :
    Calls Tryd.prog 55 #[.int .i64 n, .slice A E.length c] w fun e w' => e = .returned (.bool (precB n E)) ∧ Below w.heap.size w w' := by
  have H := Lib.hid (l4Pairs_any A c n E w hr hl)
  have HR := Lib.hid hr
  clear hr
  go_enter Tryd.func55, Tryd.ntmps55
  go_wp2_with fail
  refine H.out.mono ?_
  rintro e w1 ⟨b, rfl, ht, hf, hb⟩
  have HB := Lib.hid hb
  cases b
  · have HP := Lib.hid (hf rfl)
    clear ht hf hb
    go_wp2
    go_ret
    exact ⟨by rw [HP.out]; rfl, HB.out⟩
  · have hp := ht rfl
    obtain ⟨h0, h8, h28, hpt⟩ := pairs_out hp
    obtain ⟨m, rfl⟩ : ∃ m : Nat, n = (m : Int) := ⟨n.toNat, by omega⟩
    have HP := Lib.hid (precB_good hp)
    have hm : m ≤ 8 := by omega
    have HT := Lib.hid (l4Table_any A c m E w1 (HR.out.below hb) hl hm (edsIn_of (n := m) (by exact_mod_cast hpt)))
    clear ht hf hb hp h0 h8 h28 hpt
    go_wp2_with fail
    refine HT.out.mono ?_
    rintro e w2 ⟨gs, v, rfl, hTb, hgl, hb2⟩
    have HB2 := Lib.hid (HB.out.trans (hb2.mono HB.out.size))
    have HTb := Lib.hid hTb
    have HGL := Lib.hid hgl
    clear hTb hgl hb2
    go_wp2
    go_loop [6] (fun i => ∃ k : Nat, k ≤ m ∧ i = .int .i64 (k : Int) ∧ Hid (irrB m E k = true)) (fun i => m - (intOf i).toNat)
    case atStart => exact ⟨0, Nat.zero_le _, rfl, rfl⟩
    case round =>
      obtain ⟨k, hk, rfl, HI⟩ := hrel
      by_cases hlt : k < m
      · obtain ⟨g, cc, q, hV, hq, hcell, hBq, hqB, hgq, hrow⟩ := HTb.out.at_ (i := k) (by rw [HGL.out]; exact hlt)
        subst hV
        have hck := hrow k hlt
        have hk0 : (0 : Int) ≤ k := by omega
        have hk1 : (k : Int) < gs.length := by rw [HGL.out]; omega
        have hk2 : (k : Int) < m := by omega
        clear hrow hBq hq hgq
        cases htk : tabB m E k k
        · have HI2 : Hid (irrB m E (k + 1) = true) := by show _ = _; rw [irrB_succ, HI.out, htk]; rfl
          rw [htk] at hck
          clear htk
          go_wp2
          go_round
          case rel => exact ⟨k + 1, by omega, by go_num, HI2.out⟩
          case measure => simp [intOf]; omega
        · have HI2 : Hid (irrB m E m = false) := irrB_bad hlt htk
          rw [htk] at hck
          clear htk
          go_wp2
          go_ret
          exact ⟨by rw [HP.out, HI2.out]; rfl, HB2.out⟩
      · obtain rfl : k = m := by omega
        go_wp2
        go_ret
        exact ⟨by rw [HP.out, HI.out]; rfl, HB2.out⟩
end Go.Proofs.YtjemjdlaoebffaaDoor
