/- SupplyOf: both contracts with the arguments in the law's order. -/
import Derived.Test.YtpoibjmkbljblaaDoorDmO
namespace Go.Proofs.YtpoibjmkbljblaaDoor
open Go.RowKit
theorem spec_SupplyOfW (A C B : Option Addr) (c b d : Nat) (js : List J) (en s : List Int) (w : World) (hr : Row w A (jc js)) (he : Row w C (ic en)) (hq : Row w B (ic s)) (hn : js.length ≤ 10000000) (hel : en.length ≤ 10000000) (hm : s.length ≤ 10000000) :
    Calls Tryd.prog 20 #[.slice A js.length c, .slice C en.length b, .slice B s.length d] w (RetNB w (supR js en s)) := spec_SupplyOf A B c d js s w hr hq hn hm C b en he hel
theorem impl_SupplyOfW (A C B : Option Addr) (c b d : Nat) (js : List J) (en s : List Int) (w : World) (hr : Row w A (jc js)) (he : Row w C (ic en)) (hq : Row w B (ic s)) (hn : js.length ≤ 10000000) (hel : en.length ≤ 10000000) (hm : s.length ≤ 10000000) (hT : TzTab w) :
    Calls Tryd.prog 21 #[.slice A js.length c, .slice C en.length b, .slice B s.length d] w (RetNB w (supR js en s)) := impl_SupplyOf A B c d js s w hr hq hn hm hT C b en he hel
end Go.Proofs.YtpoibjmkbljblaaDoor
