/- Lists of lists: each is no longer than all. -/
import Derived.Test.YteidhjmnononaaaJwM
import Derived.Test.YteidhjmnononaaaArgM
namespace Go.Proofs.Yteidhjmnononaaa
theorem totL_each {n : Nat} : ∀ {xss : List (List Int)}, totL xss ≤ n → ∀ xs ∈ xss, xs.length ≤ n
  | [], _, xs, hx => by cases hx
  | ys :: xss, h, xs, hx => by
    unfold totL at h
    rw [List.map_cons, List.sum_cons] at h
    rcases List.mem_cons.1 hx with rfl | hx
    · omega
    · exact totL_each (xss := xss) (show (xss.map List.length).sum ≤ n by omega) xs hx
end Go.Proofs.Yteidhjmnononaaa
