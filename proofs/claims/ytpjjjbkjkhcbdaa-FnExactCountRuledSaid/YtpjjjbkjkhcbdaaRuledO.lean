/- RuledOrder of both. -/
import Derived.Test.YtpjjjbkjkhcbdaaRuled
import Derived.Test.YtpjjjbkjkhcbdaaOrdS
namespace Go.Proofs.Ytpjjjbkjkhcbdaa
open Go.RowKit
def ruledR (js : List J) (o : Int) : List Int × Bool := if ruledB js o then (natI (ruledL o js), true) else ([], false)
theorem ruledR_len (js : List J) (o : Int) : (ruledR js o).1.length ≤ 8 := by
  unfold ruledR
  split
  · rename_i h
    have := (good_out (ruled_good h)).1
    simp only [List.length_map]
    rw [ruledL_len]; exact this
  · simp
section
variable (A : Option Addr) (c : Nat) (js : List J) (o : Int) (w : World) (hr : Row w A (jc js)) (hn : js.length ≤ 10000000)
include hr hn
end
end Go.Proofs.Ytpjjjbkjkhcbdaa
