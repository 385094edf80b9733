/- Values of orders by criteria: plain. -/
import Derived.Test.YtjemjdlaoebffaaCtP
import Derived.Test.YtjemjdlaoebffaaEndsO
namespace Go.Proofs.Ytjemjdlaoebffaa
set_option linter.unusedVariables false
open Go.RowKit
def endC (ks : List Cr) (b : List Nat) : Nat → Int := mixF ks.length (fun i => lastGo (ks.getD i cr0).js b 0) (fun _ => 0)
def valC (ks : List Cr) (b : List Nat) : Nat → Int := mixF ks.length (fun i => partV (ks.getD i cr0).o (ks.getD i cr0).js b) (fun _ => 0)
def scA (V : Nat → Int) : Array Value := #[.int .i64 (V 0), .int .i64 (V 1), .int .i64 (V 2), .int .i64 (V 3)]
theorem endC_nil (ks : List Cr) : endC ks [] = fun _ => 0 := by
  funext j
  unfold endC mixF
  split <;> rfl
theorem valC_nil (ks : List Cr) : valC ks [] = fun _ => 0 := by
  funext j
  unfold valC mixF
  split <;> rfl
theorem endC_in {ks : List Cr} {i : Nat} (h : i < ks.length) (b : List Nat) : endC ks b i = lastGo (ks.getD i cr0).js b 0 := by unfold endC mixF; rw [if_pos h]
theorem valC_in {ks : List Cr} {i : Nat} (h : i < ks.length) (b : List Nat) : valC ks b i = partV (ks.getD i cr0).o (ks.getD i cr0).js b := by unfold valC mixF; rw [if_pos h]
theorem endC_step (ks : List Cr) (b : List Nat) (job : Nat) : mixF ks.length (newE ks job (endC ks b)) (endC ks b) = endC ks (b ++ [job]) := by
  funext i
  by_cases h : i < ks.length
  · rw [endC_in h]
    unfold mixF
    rw [if_pos h]
    unfold newE
    rw [endC_in h, last_snoc]
    rfl
  · unfold mixF endC mixF
    rw [if_neg h, if_neg h, if_neg h]
theorem partV_snocC (o : Int) (js : List J) (b : List Nat) (job : Nat) : partV o js (b ++ [job]) = extOf o b.length (partV o js b) (costOf o (js.getD job j0) (max (lastGo js b 0) (js.getD job j0).r + (js.getD job j0).t)) := by
  unfold partV costsL
  rw [costsGo_snoc, foldC_snoc, costsGo_len]
theorem valC_step (ks : List Cr) (b : List Nat) (job : Nat) : mixF ks.length (newV ks job b.length (endC ks b) (valC ks b)) (valC ks b) = valC ks (b ++ [job]) := by
  funext i
  by_cases h : i < ks.length
  · rw [valC_in h]
    unfold mixF
    rw [if_pos h]
    unfold newV newE
    rw [endC_in h, valC_in h, partV_snocC]
    rfl
  · unfold mixF valC mixF
    rw [if_neg h, if_neg h, if_neg h]
theorem endC_bd {B : Nat} {w : World} {A : Option Addr} {m : Nat} {ks : List Cr} (h : CritIs B w A m ks) {b : List Nat} (hb : ∀ j ∈ b, j < m) (hl : b.length ≤ 8) : ∀ i, i < ks.length → 0 ≤ endC ks b i ∧ endC ks b i ≤ 500 + 50 * (b.length : Nat) := by
  intro i hi
  obtain ⟨_, _, _, hg, hlen⟩ := h.2.2 i hi
  rw [endC_in hi, show ks.getD i cr0 = ks[i] by simp [List.getD, hi]]
  have hok := (good_out hg).2
  have hb' : ∀ j ∈ b, j < ks[i].js.length := fun j hj => by rw [hlen]; exact hb j hj
  have h1 := lastGo_nonneg hok hb'
  have h2 := lastGo_bd hok b 0 0 hb' (by omega) (by omega)
  simp only [Nat.zero_add] at h2
  exact ⟨h1, h2⟩
theorem valC_bd {B : Nat} {w : World} {A : Option Addr} {m : Nat} {ks : List Cr} (h : CritIs B w A m ks) {b : List Nat} (hb : ∀ j ∈ b, j < m) (hl : b.length ≤ 8) : ∀ i, i < ks.length → -500 ≤ valC ks b i ∧ valC ks b i ≤ 50000 * (b.length : Nat) := by
  intro i hi
  obtain ⟨_, _, ho, hg, hlen⟩ := h.2.2 i hi
  rw [valC_in hi, show ks.getD i cr0 = ks[i] by simp [List.getD, hi]]
  exact partV_bd ho hg b.length b rfl hl (fun j hj => by rw [hlen]; exact hb j hj)
end Go.Proofs.Ytjemjdlaoebffaa
