/- A sealed text with one byte changed is no sealed text. -/
import Derived.Test.YteflgljifbcelaaDoorParse
namespace Go.Proofs.YteflgljifbcelaaDoor
open Go.RowKit

def sumStep (h : Int) (c : UInt8) : Int := (41 * h + (c.toNat : Int) + 1) % 999979
theorem sumS_fold (l : List UInt8) : sumS l = l.foldl sumStep 7 := rfl
theorem sumStep_bd (h : Int) (c : UInt8) : 0 ≤ sumStep h c ∧ sumStep h c < 999979 := by unfold sumStep; omega
theorem sumStep_inj {a b : Int} {c : UInt8} (ha : 0 ≤ a ∧ a < 999979) (hb : 0 ≤ b ∧ b < 999979) (h : sumStep a c = sumStep b c) : a = b := by
  unfold sumStep at h; omega
theorem fold_inj : ∀ (l : List UInt8) {a b : Int}, (0 ≤ a ∧ a < 999979) → (0 ≤ b ∧ b < 999979) → l.foldl sumStep a = l.foldl sumStep b → a = b
  | [], _, _, _, _, h => h
  | c :: l, a, b, ha, hb, h => sumStep_inj ha hb (fold_inj l (sumStep_bd a c) (sumStep_bd b c) h)
theorem fold_bd (l : List UInt8) {a : Int} (ha : 0 ≤ a ∧ a < 999979) : 0 ≤ l.foldl sumStep a ∧ l.foldl sumStep a < 999979 := by
  induction l generalizing a with
  | nil => exact ha
  | cons c l ih => exact ih (sumStep_bd a c)
theorem sum_changed (u v : List UInt8) (c d : UInt8) (h : sumS (u ++ c :: v) = sumS (u ++ d :: v)) : c = d := by
  rw [sumS_fold, sumS_fold, List.foldl_append, List.foldl_append, List.foldl_cons, List.foldl_cons] at h
  have hu := fold_bd u (a := 7) (by omega)
  have := fold_inj v (sumStep_bd _ _) (sumStep_bd _ _) h
  unfold sumStep at this
  have hc := c.toNat_lt
  have hd := d.toNat_lt
  exact UInt8.toNat_inj.1 (by omega)
theorem itoa_inj {a b : Int} (ha : 0 ≤ a) (hb : 0 ≤ b) (h : Lib.itoa a = Lib.itoa b) : a = b := by
  unfold Lib.itoa at h
  rw [if_neg (by omega), if_neg (by omega)] at h
  have := congrArg (valD 0) h
  rw [valD_dec, valD_dec] at this
  omega
theorem hasB_append {a b : List UInt8} {c : UInt8} : hasB (a ++ b) c = (hasB a c || hasB b c) := by
  unfold hasB; rw [List.contains_eq_any_beq, List.any_append, List.contains_eq_any_beq, List.contains_eq_any_beq]
theorem itoa_no (n : Int) (h : 0 ≤ n) : hasB (Lib.itoa n) 35 = false := by
  unfold Lib.itoa
  rw [if_neg (by omega)]
  have := all_dec n.toNat
  unfold hasB
  cases hc : (Lib.decDigits n.toNat).contains 35 with
  | false => rfl
  | true =>
    rw [List.contains_iff_mem] at hc
    have := List.all_eq_true.1 this 35 hc
    revert this; decide
theorem hasB_mid (a b : List UInt8) (c : UInt8) : hasB (a ++ c :: b) c = true := by rw [hasB_append, hasB_cons]; simp
/-- Where a list is cut at the one mark that it has, it is cut in one way. -/
theorem cut_once {c : UInt8} : ∀ {a b a' b' : List UInt8}, hasB a c = false → hasB a' c = false → a ++ c :: b = a' ++ c :: b' → a = a' ∧ b = b'
  | [], b, [], b', _, _, h => by simpa using h
  | [], b, x :: a', b', _, h', h => by
    rw [hasB_cons, Bool.or_eq_false_iff] at h'
    injection h with h1 h2
    exact absurd h1.symm (by simpa using h'.1)
  | x :: a, b, [], b', h', _, h => by
    rw [hasB_cons, Bool.or_eq_false_iff] at h'
    injection h with h1 h2
    exact absurd h1 (by simpa using h'.1)
  | x :: a, b, y :: a', b', ha, hb, h => by
    rw [hasB_cons, Bool.or_eq_false_iff] at ha hb
    injection h with h1 h2
    obtain ⟨e1, e2⟩ := cut_once ha.2 hb.2 h2
    exact ⟨by rw [h1, e1], e2⟩
theorem seal_changed (l : List UInt8) (hl : hasB l 35 = false) (u v : List UInt8) (c d : UInt8) (hcd : c ≠ d) (h : sealL l = u ++ c :: v) (t : List UInt8) (ht : hasB t 35 = false) : sealL t ≠ u ++ d :: v := by
  intro hs
  have bl := sumS_bd l
  have bt := sumS_bd t
  unfold sealL at h hs
  have nl := itoa_no (sumS l) bl.1
  have nt := itoa_no (sumS t) bt.1
  cases hu : hasB u 35 with
  | true =>
    -- the mark lies ahead of the changed byte
    obtain ⟨a, b, rfl, ha⟩ := exists_cut 35 u hu
    rw [List.append_assoc, List.cons_append] at h hs
    obtain ⟨e1, e2⟩ := cut_once hl ha h
    obtain ⟨e3, e4⟩ := cut_once ht ha hs
    have e5 : t = l := e3.trans e1.symm
    rw [e5, e2] at e4
    have := List.append_cancel_left e4
    injection this with h1 h2
    exact hcd h1
  | false =>
    by_cases hc : c = 35
    · subst hc
      obtain ⟨e1, e2⟩ := cut_once hl hu h
      -- the mark itself is changed: none is left
      have hn : hasB (u ++ d :: v) 35 = false := by
        rw [hasB_append, hu, hasB_cons, ← e2, nl, beq_eq_false_iff_ne.2 (Ne.symm hcd)]; rfl
      rw [← hs, hasB_mid] at hn
      cases hn
    · by_cases hd : d = 35
      · subst hd
        obtain ⟨e1, e2⟩ := cut_once ht hu hs
        have hn : hasB (u ++ c :: v) 35 = false := by
          rw [hasB_append, hu, hasB_cons, ← e2, nt, beq_eq_false_iff_ne.2 hc]; rfl
        rw [← h, hasB_mid] at hn
        cases hn
      · -- the mark lies behind the changed byte
        have hv : hasB v 35 = true := by
          have : hasB (u ++ c :: v) 35 = true := by rw [← h]; exact hasB_mid _ _ _
          rw [hasB_append, hu, hasB_cons, beq_eq_false_iff_ne.2 hc] at this
          simpa using this
        obtain ⟨a, b, rfl, ha⟩ := exists_cut 35 v hv
        have na : ∀ x : UInt8, x ≠ 35 → hasB (u ++ x :: a) 35 = false := fun x hx => by rw [hasB_append, hu, hasB_cons, ha, beq_eq_false_iff_ne.2 hx]; rfl
        rw [show u ++ c :: (a ++ 35 :: b) = (u ++ c :: a) ++ 35 :: b by simp] at h
        rw [show u ++ d :: (a ++ 35 :: b) = (u ++ d :: a) ++ 35 :: b by simp] at hs
        obtain ⟨e1, e2⟩ := cut_once hl (na c hc) h
        obtain ⟨e3, e4⟩ := cut_once ht (na d hd) hs
        have e5 := itoa_inj bl.1 bt.1 (e2.trans e4.symm)
        rw [e1, e3] at e5
        exact hcd (sum_changed u a c d e5)
/-- The text with one byte changed. -/
theorem noSeal_changed (x y : ByteArray) (hx : canSeal x) (k : Nat) (d : UInt8) (hk : k < (sealL x.data.toList).length) (hd : (sealL x.data.toList)[k] ≠ d) (hy : y.data.toList = (sealL x.data.toList).set k d) : noSeal y := by
  intro t ht he
  have h1 : sealL x.data.toList = (sealL x.data.toList).take k ++ (sealL x.data.toList)[k] :: (sealL x.data.toList).drop (k + 1) := by
    rw [← List.drop_eq_getElem_cons hk, List.take_append_drop]
  have h2 : (sealL x.data.toList).set k d = (sealL x.data.toList).take k ++ d :: (sealL x.data.toList).drop (k + 1) := by
    rw [List.set_eq_take_append_cons_drop, if_pos hk]
  have h3 : sealL t.data.toList = y.data.toList := by rw [← he]; show _ = (sealL t.data.toList).toArray.toList; simp
  exact seal_changed _ hx.2.1 _ _ _ _ hd h1 _ ht.2.1 (by rw [h3, hy, h2])
end Go.Proofs.YteflgljifbcelaaDoor
