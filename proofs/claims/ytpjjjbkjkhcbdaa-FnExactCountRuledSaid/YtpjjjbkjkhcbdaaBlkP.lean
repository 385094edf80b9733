/- Plain words for blocks: their jobs are those of the order; where one ends. -/
import Derived.Test.YtpjjjbkjkhcbdaaIdleP
namespace Go.Proofs.Ytpjjjbkjkhcbdaa
theorem snocLast_snoc : ∀ (bs : List (List Nat)) (b : List Nat) (j : Nat), snocLast (bs ++ [b]) j = bs ++ [b ++ [j]]
  | [], _, _ => rfl
  | [c], _, _ => rfl
  | c :: d :: bs, b, j => by
    have := snocLast_snoc (d :: bs) b j
    show c :: snocLast (d :: (bs ++ [b])) j = _
    rw [show d :: (bs ++ [b]) = (d :: bs) ++ [b] from rfl, this]; rfl
/-- What is known of blocks of the first k jobs. -/
structure Blks (js : List J) (p : List Nat) (k : Nat) (bs : List (List Nat)) : Prop where
  flat : bs.flatten = p.take k
  ne : ∀ b ∈ bs, b ≠ []
  start : ∀ a : Nat, a < bs.length → 0 < a → lastGo js (p.take (bs.take a).flatten.length) 0 < (js.getD (p.getD (bs.take a).flatten.length 0) j0).r
  inner : ∀ (a : Nat) (ha : a < bs.length) (i : Nat), 0 < i → i < bs[a].length → ¬ lastGo js (p.take ((bs.take a).flatten.length + i)) 0 < (js.getD (p.getD ((bs.take a).flatten.length + i) 0) j0).r
theorem blksTo_len (js : List J) (p : List Nat) : ∀ k, (blksTo js p k).length ≤ k
  | 0 => Nat.le_refl _
  | k + 1 => by
    have ih := blksTo_len js p k
    unfold blksTo
    split
    · simp; omega
    · have : ∀ (bs : List (List Nat)) (j : Nat), (snocLast bs j).length ≤ max 1 bs.length := by
        intro bs
        induction bs with
        | nil => intro j; simp [snocLast]
        | cons b bs ih2 =>
          intro j
          cases bs with
          | nil => simp [snocLast]
          | cons c bs => have := ih2 j; show (b :: snocLast (c :: bs) j).length ≤ _; simp at *; omega
      have := this (blksTo js p k) (p.getD k 0)
      omega
theorem blks_all (js : List J) (p : List Nat) : ∀ k, k ≤ p.length → Blks js p k (blksTo js p k)
  | 0, _ => ⟨by simp [blksTo], by simp [blksTo], by simp [blksTo], by simp [blksTo]⟩
  | k + 1, hk => by
    have ih := blks_all js p k (by omega)
    have hkp : k < p.length := by omega
    have htk : p.take (k + 1) = p.take k ++ [p.getD k 0] := by rw [List.take_succ_eq_append_getElem hkp, getD_at p 0 hkp]
    have hfl : (blksTo js p k).flatten.length = k := by rw [ih.flat]; simp; omega
    by_cases hc : k = 0 ∨ lastGo js (p.take k) 0 < (js.getD (p.getD k 0) j0).r
    · have e : blksTo js p (k + 1) = blksTo js p k ++ [[p.getD k 0]] := by show (if _ then _ else _) = _; rw [if_pos hc]
      rw [e]
      refine ⟨by rw [List.flatten_append, ih.flat, htk]; simp, fun b hb => ?_, fun a ha h0 => ?_, fun a ha i hi0 hi => ?_⟩
      · rcases List.mem_append.1 hb with h | h
        · exact ih.ne b h
        · rw [List.mem_singleton.1 h]; simp
      · by_cases e2 : a < (blksTo js p k).length
        · rw [List.take_append_of_le_length (by omega)]; exact ih.start a e2 h0
        · have : a = (blksTo js p k).length := by simp at ha; omega
          subst this
          rw [List.take_left, hfl]
          rcases hc with h | h
          · subst h; simp [blksTo] at h0
          · exact h
      · by_cases e2 : a < (blksTo js p k).length
        · rw [List.getElem_append_left e2] at hi
          rw [List.take_append_of_le_length (by omega)]; exact ih.inner a e2 i hi0 hi
        · have : a = (blksTo js p k).length := by simp at ha; omega
          subst this
          rw [List.getElem_append_right (by omega)] at hi
          simp at hi; omega
    · have hk0 : 0 < k := by omega
      have hne : blksTo js p k ≠ [] := fun e => by rw [e] at hfl; simp at hfl; omega
      obtain ⟨bs, b, hbs⟩ : ∃ bs b, blksTo js p k = bs ++ [b] := by
        rcases List.eq_nil_or_concat (blksTo js p k) with h | ⟨bs, b, h⟩
        · exact absurd h hne
        · exact ⟨bs, b, by simpa using h⟩
      have e : blksTo js p (k + 1) = bs ++ [b ++ [p.getD k 0]] := by show (if _ then _ else _) = _; rw [if_neg hc, hbs, snocLast_snoc]
      rw [hbs] at ih hfl
      rw [e]
      have hlt : ∀ a, a ≤ bs.length → (bs ++ [b ++ [p.getD k 0]]).take a = (bs ++ [b]).take a := fun a ha => by
        rw [List.take_append_of_le_length ha, List.take_append_of_le_length ha]
      refine ⟨?_, fun c hc' => ?_, fun a ha h0 => ?_, fun a ha i hi0 hi => ?_⟩
      · have := ih.flat
        simp only [List.flatten_append, List.flatten_cons, List.flatten_nil, List.append_nil] at this ⊢
        rw [← List.append_assoc, this, htk]
      · rcases List.mem_append.1 hc' with h | h
        · exact ih.ne c (List.mem_append_left _ h)
        · rw [List.mem_singleton.1 h]; simp
      · have ha' : a ≤ bs.length := by simp at ha; omega
        rw [hlt a ha']
        exact ih.start a (by simp; omega) h0
      · have ha' : a ≤ bs.length := by simp at ha; omega
        rw [hlt a ha']
        by_cases e2 : a < bs.length
        · rw [List.getElem_append_left e2] at hi
          exact ih.inner a (by simp; omega) i hi0 (by rw [List.getElem_append_left e2]; exact hi)
        · have : a = bs.length := by omega
          subst this
          rw [List.getElem_append_right (by omega)] at hi
          simp only [Nat.sub_self, List.getElem_cons_zero, List.length_append, List.length_cons, List.length_nil] at hi
          by_cases e3 : i < b.length
          · exact ih.inner bs.length (by simp) i hi0 (by rw [List.getElem_append_right (by omega)]; simpa using e3)
          · have hib : i = b.length := by omega
            have hw : ((bs ++ [b]).take bs.length).flatten.length + i = k := by
              rw [List.take_left, hib, ← hfl]; simp
            rw [hw]
            omega
/-- The blocks of an order. -/
def blksL (js : List J) (p : List Nat) : List (List Nat) := blksTo js p p.length
end Go.Proofs.Ytpjjjbkjkhcbdaa
