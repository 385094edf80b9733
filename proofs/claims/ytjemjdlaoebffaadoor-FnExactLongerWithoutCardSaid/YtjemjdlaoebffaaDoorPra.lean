/- precedenceOf and IsPrecedence of the program. -/
import Derived.Test.YtjemjdlaoebffaaDoorPrg
namespace Go.Proofs.YtjemjdlaoebffaaDoor
open Go.RowKit
theorem precB_good {m : Nat} {E : List Pr} (hp : pairsB (m : Int) E = true) : precB (m : Int) E = irrB m E m := by
  unfold precB; rw [hp, Bool.true_and, Int.toNat_natCast]
/-- What precedenceOf hands back. -/
def PrecOut (w : World) (n : Int) (E : List Pr) (e : Ending) (w' : World) : Prop := Below w.heap.size w w' ∧
  ((precB n E = true ∧ ∃ m : Nat, n = (m : Int) ∧ m ≤ 8 ∧ InE m E ∧ E.length ≤ 28 ∧ e = .returned (.tuple #[.agg (precC n (befN m (tabB m E))), .bool true])) ∨ (precB n E = false ∧ e = .returned (.tuple #[.agg precZ, .bool false])))
theorem precedenceOf_any (A : Option Addr) (c : Nat) (n : Int) (E : List Pr) (w : World) (hr : Row w A (pc E)) (hl : E.length ≤ 10000000) (hT : TzTab w) :
    Calls Tryd.prog 150 #[.int .i64 n, .slice A E.length c] w (PrecOut w n E) := by
  cases hp : pairsB n E
  · refine (precedenceOf_bad A c n E w hr hl hp).mono ?_
    rintro e w' ⟨hb, rfl⟩
    exact ⟨hb, .inr ⟨by unfold precB; rw [hp]; rfl, rfl⟩⟩
  · obtain ⟨h0, h8, h28, _⟩ := pairs_out hp
    obtain ⟨m, rfl⟩ : ∃ m : Nat, n = (m : Int) := ⟨n.toNat, by omega⟩
    have hin : InE m E := by have := pairs_in hp; rwa [Int.toNat_natCast] at this
    refine (precedenceOf_good A c m E w hr hl hT hp).mono ?_
    rintro e w' ⟨hb, ⟨hi, rfl⟩ | ⟨hi, rfl⟩⟩
    · exact ⟨hb, .inl ⟨by rw [precB_good hp, hi], m, rfl, by omega, hin, h28, rfl⟩⟩
    · exact ⟨hb, .inr ⟨by rw [precB_good hp, hi], rfl⟩⟩
end Go.Proofs.YtjemjdlaoebffaaDoor
