/- Plain words for the greedy order of the program: what is still to be done of each job. -/
import Derived.Test.YtnkoncplfedffaaChoP
namespace Go.Proofs.Ytnkoncplfedffaa
/-- What is still to be done, by eight numbers, when some jobs are in the order. -/
def greR (js : List J) (out : List Nat) : List Int := (List.range 8).map fun i => if i < js.length ∧ out.contains i = false then (js.getD i j0).t else 0
theorem greR_len (js : List J) (out : List Nat) : (greR js out).length = 8 := by unfold greR; simp
theorem greR_at (js : List J) (out : List Nat) {i : Nat} (h : i < 8) : (greR js out).getD i 0 = if i < js.length ∧ out.contains i = false then (js.getD i j0).t else 0 := by
  unfold greR; simp [List.getD_eq_getElem?_getD, h]
theorem greR_nil (js : List J) : greR js [] = timesR js := by
  rw [← timesTo_all]
  unfold greR timesTo
  apply List.map_congr_left
  intro i _
  by_cases h : i < js.length
  · rw [if_pos ⟨h, rfl⟩, if_pos h]
  · rw [if_neg (fun h' => h h'.1), if_neg h]
theorem greR_set (js : List J) (out : List Nat) (q : Nat) : (greR js out).set q 0 = greR js (out ++ [q]) := by
  apply List.ext_getElem?
  intro i
  unfold greR
  rw [List.getElem?_set]
  by_cases hi : i < 8
  · by_cases e : q = i
    · subst e
      rw [if_pos rfl, if_pos (by simpa using hi), List.getElem?_map, List.getElem?_range hi, Option.map_some, if_neg (by simp)]
    · rw [if_neg e, List.getElem?_map, List.getElem?_map, List.getElem?_range hi, Option.map_some, Option.map_some]
      have : (out ++ [q]).contains i = out.contains i := by
        simp only [List.contains_eq_mem, List.mem_append, List.mem_singleton, decide_eq_decide]
        exact ⟨fun h => h.resolve_right fun h' => e h'.symm, .inl⟩
      rw [this]
  · by_cases e : q = i
    · subst e; simp [hi]
    · simp [e, hi]
section
variable {js : List J} {now : Int} {out : List Nat}
theorem greR_zero (hg : goodL js = true) {i : Nat} (hi : i < js.length) : (greR js out).getD i 0 ≠ 0 ↔ out.contains i = false := by
  have h8 := (good_out hg).1
  have ht := okJ_out (okD hg hi)
  rw [greR_at js out (by omega)]
  constructor
  · intro h
    cases hc : out.contains i
    · rfl
    · rw [if_neg (fun h' => by rw [hc] at h'; cases h'.2)] at h; exact absurd rfl h
  · intro h
    rw [if_pos ⟨hi, h⟩]; omega
theorem greR_job (hg : goodL js = true) {q : Nat} (hq : q < js.length) (hn : q ∉ out) : (greR js out).getD q 0 = (js.getD q j0).t := by
  have h8 := (good_out hg).1
  rw [greR_at js out (by omega), if_pos ⟨hq, by rw [List.contains_eq_mem, decide_eq_false hn]⟩]
theorem greR_pick (hg : goodL js = true) : chPick js 4 (greR js out) now = gNext js out now := by
  refine pickTo_congr (fun i hi => ?_) (fun i _ _ => rfl)
  unfold chOk gOk
  congr 1
  rw [Bool.eq_iff_iff, decide_eq_true_iff, greR_zero hg hi, Bool.not_eq_true']
theorem greR_done (hg : goodL js = true) (hi : GIn js now out) : greR js out = List.replicate 8 0 ↔ ¬ out.length < js.length := by
  have h8 := (good_out hg).1
  constructor
  · intro h hl
    obtain ⟨i, h1, h2⟩ := one_out hl
    have := (greR_zero (out := out) hg h1).2 (by rw [List.contains_eq_mem, decide_eq_false h2])
    rw [h] at this
    apply this
    rw [List.getD_eq_getElem?_getD, List.getElem?_replicate]
    split <;> rfl
  · intro hl
    apply List.ext_getElem?
    intro i
    by_cases hi8 : i < 8
    · have : (greR js out).getD i 0 = 0 := by
        rw [greR_at js out hi8, if_neg]
        rintro ⟨h1, h2⟩
        have := all_in hi.nd hi.lt (by omega) h1
        rw [List.contains_eq_mem, decide_eq_true this] at h2
        cases h2
      rw [List.getElem?_replicate, if_pos hi8]
      rw [List.getD_eq_getElem?_getD] at this
      have hl8 : i < (greR js out).length := by rw [greR_len]; exact hi8
      rw [List.getElem?_eq_getElem hl8] at this ⊢
      rw [Option.getD_some] at this
      rw [this]
    · rw [List.getElem?_eq_none (by rw [greR_len]; omega), List.getElem?_eq_none (by simp; omega)]
theorem greR_bd (hg : goodL js = true) {i : Nat} (hi : i < 8) : 0 ≤ (greR js out).getD i 0 ∧ (greR js out).getD i 0 ≤ 50 := by
  rw [greR_at js out hi]
  split
  · rename_i h
    have := okJ_out (okD hg h.1); omega
  · omega
end
end Go.Proofs.Ytnkoncplfedffaa
