/- Blocks: the program's. -/
import Derived.Test.YtpjjjbkjkhcbdaaSlsR
import Derived.Test.YtpjjjbkjkhcbdaaBlkP
import Derived.Test.YtpjjjbkjkhcbdaaSched
import Derived.Test.YtpjjjbkjkhcbdaaEndsO
namespace Go.Proofs.Ytpjjjbkjkhcbdaa
open Go.RowKit
def blocksR (js : List J) (o : List Int) : List (List Int) × Bool := if twoB js o then ((blksL js (natsOf o)).map fun g => g.map Int.ofNat, true) else ([], false)
theorem blocksR_len (js : List J) (o : List Int) : (blocksR js o).1.length ≤ 1000 := by
  unfold blocksR
  cases ht : twoB js o
  · simp
  · obtain ⟨hg, p, rfl, hp, hpo⟩ := two_out ht
    have h8 := (good_out hg).1
    have hl := blksTo_len js p p.length
    have hpl : p.length = js.length := by simpa using hp.length_eq
    rw [if_pos rfl, hpo]
    show ((blksTo js p p.length).map _).length ≤ 1000
    rw [List.length_map]; omega
theorem csS_map (gs : List (List Nat)) : (gs.map fun g => g.map Int.ofNat).map ic = csS gs := by unfold csS csS.gs1; rw [List.map_map]; rfl
theorem ic_snocN (b : List Nat) (x : Nat) : ic (b.map Int.ofNat) ++ [.int .i64 (x : Int)] = ic ((b ++ [x]).map Int.ofNat) := by unfold ic; simp
/-- The blocks when one more job has come. -/
theorem blksTo_new {js : List J} {p : List Nat} {k : Nat} (hk : k < p.length) (h : k = 0 ∨ lastGo js (p.take k) 0 < (js.getD p[k] j0).r) : blksTo js p (k + 1) = blksTo js p k ++ [[p[k]]] := by
  rw [← getD_at p 0 hk] at h ⊢
  show (if _ then _ else _) = _
  rw [if_pos h]
theorem blksTo_more {js : List J} {p : List Nat} {k : Nat} (hk : k < p.length) (h : ¬ (k = 0 ∨ lastGo js (p.take k) 0 < (js.getD p[k] j0).r)) : ∃ bs b, blksTo js p k = bs ++ [b] ∧ b.length ≤ k ∧ blksTo js p (k + 1) = bs ++ [b ++ [p[k]]] := by
  have ih := blks_all js p k (by omega)
  have hne : blksTo js p k ≠ [] := fun e => by
    have := ih.flat
    rw [e] at this
    have := congrArg List.length this
    simp at this
    omega
  obtain ⟨bs, b, hbs⟩ : ∃ bs b, blksTo js p k = bs ++ [b] := by
    rcases List.eq_nil_or_concat (blksTo js p k) with h | ⟨bs, b, h⟩
    · exact absurd h hne
    · exact ⟨bs, b, by simpa using h⟩
  refine ⟨bs, b, hbs, ?_, ?_⟩
  · have := congrArg List.length ih.flat
    rw [hbs] at this
    simp at this
    omega
  · rw [← getD_at p 0 hk] at h ⊢
    show (if _ then _ else _) = _
    rw [if_neg h, hbs, snocLast_snoc]
theorem ret_emptySS {w w1 : World} {r : List (List Int) × Bool} (hr : r = ([], false)) (hb : Below w.heap.size w w1) (e : Ending) (he : e = .returned (.tuple #[.slice (some ⟨w1.heap.size, 0, none⟩) 0 0, .bool false])) : RetSSB w r e (w1.alloc (.cells #[] 35)) := by
  subst hr he
  have h : (w1.alloc (.cells #[] 35)).ownsRow w.heap.size 35 1 (.slice (some ⟨w1.heap.size, 0, none⟩) 0 0) 0 [] := World.ownsRow_made w1 #[] 0 hb.size (by unfold maxLen; omega) rfl
  obtain ⟨A, c, hA, hs⟩ := (OwnV.nil (C := w.heap.size) h).seg (Nat.le_refl _)
  injection hA with e1 e2 e3
  subst e1 e3
  exact ⟨_, _, rfl, hs, hb.alloc hb.size _⟩
theorem ret_ownSS {w w' : World} {r : List (List Int) × Bool} {gs : List (List Nat)} {vs : List (Option Addr × Nat)} {v : Value} {b : Bool} (hr : r = (gs.map fun g => g.map Int.ofNat, b)) {C : Nat} (hBC : w.heap.size ≤ C) (ho : OwnV vs w.heap.size C w' v (csS gs)) (hb : Below w.heap.size w w') (e : Ending) (he : e = .returned (.tuple #[v, .bool b])) : RetSSB w r e w' := by
  subst hr he
  obtain ⟨A, c, rfl, hs⟩ := ho.seg hBC
  rw [csS_len] at hs
  refine ⟨A, c, ?_, ?_, hb⟩
  · rw [csS_len, List.length_map]
  · show SegSS _ _ _ _ (gs.map _).length _ _
    rw [csS_map, List.length_map]; exact hs
section
variable (A B : Option Addr) (c d : Nat) (js : List J) (p : List Nat) (w : World) (hr : Row w A (jc js)) (hq : Row w B (ic (natI p))) (hg : goodL js = true) (hp : p.Perm (List.range js.length))
include hr hq hg hp
end
section
variable (A B : Option Addr) (c d : Nat) (js : List J) (o : List Int) (w : World) (hr : Row w A (jc js)) (hq : Row w B (ic o)) (hn : js.length ≤ 10000000) (hm : o.length ≤ 10000000)
include hr hq hn hm
end
end Go.Proofs.Ytpjjjbkjkhcbdaa
