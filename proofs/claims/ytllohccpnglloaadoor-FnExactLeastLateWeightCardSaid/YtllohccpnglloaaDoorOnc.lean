/- bits.OnesCount at sets of at most eight jobs. -/
import Derived.Test.YtllohccpnglloaaDoorMbr
namespace Go.Proofs.YtllohccpnglloaaDoor
open Go.RowKit
def o1 (s : Int) : Int := IntKind.u64.wrap (bits BinOp.and IntKind.u64 (s / 2) 6148914691236517205 + bits BinOp.and IntKind.u64 s 6148914691236517205)
def o2 (x : Int) : Int := IntKind.u64.wrap (bits BinOp.and IntKind.u64 (x / 4) 3689348814741910323 + bits BinOp.and IntKind.u64 x 3689348814741910323)
def o3 (x : Int) : Int := bits BinOp.and IntKind.u64 (IntKind.u64.wrap (x / 16 + x)) 1085102592571150095
def o4 (x : Int) : Int := IntKind.u64.wrap (x + x / 256)
def o5 (x : Int) : Int := IntKind.u64.wrap (x + x / 65536)
def o6 (x : Int) : Int := IntKind.u64.wrap (x + x / 4294967296)
def onesI (s : Int) : Int := bits BinOp.and IntKind.i64 (wrap64 (o6 (o5 (o4 (o3 (o2 (o1 s))))))) 127
theorem ones_facts : ∀ s : Nat, s < 256 → 0 ≤ onesI (s : Int) ∧ onesI (s : Int) ≤ 8 := by decide +kernel
set_option maxRecDepth 100000 in
theorem ones64_any (s : Nat) (hs : s < 256) (w : World) :
    Calls Tryd.prog 78 #[.int .u64 (s : Int)] w fun e w' => ∃ n : Nat, e = .returned (.int .i64 (n : Int)) ∧ n ≤ 8 ∧ w = w' := by
  go_enter Tryd.func78, Tryd.ntmps78
  go_wp2
  go_ret
  obtain ⟨h0, h1⟩ := ones_facts s hs
  exact ⟨(onesI (s : Int)).toNat, by rw [Int.toNat_of_nonneg h0]; rfl, by omega, rfl⟩
theorem ones_any (s : Nat) (hs : s < 256) (w : World) :
    Calls Tryd.prog 64 #[.int .u64 (s : Int)] w fun e w' => ∃ n : Nat, e = .returned (.int .i64 (n : Int)) ∧ n ≤ 8 ∧ w = w' := by
  have H := Lib.hid (ones64_any s hs w)
  go_enter Tryd.func64, Tryd.ntmps64
  go_wp2_with fail
  refine H.out.mono ?_
  rintro e _ ⟨n, rfl, hn, rfl⟩
  go_wp2
  go_ret
  exact ⟨n, rfl, hn, rfl⟩
theorem size_any (s : Nat) (hs : s < 256) (w : World) :
    Calls Tryd.prog 59 #[.int .u64 (s : Int)] w fun e w' => ∃ n : Nat, e = .returned (.int .i64 (n : Int)) ∧ n ≤ 8 ∧ w = w' := by
  have H := Lib.hid (ones_any s hs w)
  go_enter Tryd.func59, Tryd.ntmps59
  go_wp2_with fail
  refine H.out.mono ?_
  rintro e _ ⟨n, rfl, hn, rfl⟩
  go_wp2
  go_ret
  exact ⟨n, rfl, hn, rfl⟩
end Go.Proofs.YtllohccpnglloaaDoor
