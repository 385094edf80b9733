/- The greedy order of the program. -/
import Derived.Test.YtnkoncplfedffaaGrqP
import Derived.Test.YtnkoncplfedffaaChf
import Derived.Test.YtnkoncplfedffaaGre
namespace Go.Proofs.Ytnkoncplfedffaa
open Go.RowKit
theorem own_block_lt {w : World} {B : Nat} {e : TypeId} {size n : Nat} {v : Value} {xs : List Value} (h : w.ownsRow B e size v n xs) {g : Nat} (hg : w.heap.size ≤ g) : v.ownBlock ≠ some g := fun hv => by
  have := h.lt g hv; omega
theorem app_grown_block {w5 w6 : World} {v : Value} {o : Obj} {g : Nat} {t : TypeId} {cs : Array Value} (hb : BlockIs w5 g t cs) (hgrow : (w5.alloc o).grownBy w6 v.ownBlock) (hne : v.ownBlock ≠ some g) : BlockIs w6 g t cs := app_block hb hgrow hne
theorem cells8 {w : World} {n : Nat} {t : TypeId} {a b c d e f g i : Int} (h : BlockIs w n t (ic [a, b, c, d, e, f, g, i]).toArray) : w.cell? ⟨n, 0, none⟩ = some (.int .i64 a) ∧ w.cell? ⟨n, 1, none⟩ = some (.int .i64 b) ∧ w.cell? ⟨n, 2, none⟩ = some (.int .i64 c) ∧ w.cell? ⟨n, 3, none⟩ = some (.int .i64 d) ∧ w.cell? ⟨n, 4, none⟩ = some (.int .i64 e) ∧ w.cell? ⟨n, 5, none⟩ = some (.int .i64 f) ∧ w.cell? ⟨n, 6, none⟩ = some (.int .i64 g) ∧ w.cell? ⟨n, 7, none⟩ = some (.int .i64 i) :=
  ⟨h.cell 0, h.cell 1, h.cell 2, h.cell 3, h.cell 4, h.cell 5, h.cell 6, h.cell 7⟩
/-- What the walk keeps from round to round. -/
structure GKeep (js : List J) (w : World) (g3 g : Nat) (v : Value) (out : List Nat) (wr : World) : Prop where
  own : wr.ownsRow w.heap.size 3 1 v out.length (ic (natI out))
  ch : BlockIs wr g3 76 #[.func (.func (fRank 4)) #[] #[], fLat, .bool true]
  rs : BlockIs wr g 105 (ic (greR js out)).toArray
  below : Below w.heap.size w wr
  ne3 : v.ownBlock ≠ some g3
  ne : v.ownBlock ≠ some g
  lo3 : w.heap.size ≤ g3
  lo : w.heap.size ≤ g
theorem GKeep.next {js : List J} {w : World} {g3 g : Nat} {v : Value} {out : List Nat} {wr w' : World} (h : GKeep js w g3 g v out wr) (hb : Below wr.heap.size wr w') : GKeep js w g3 g v out w' := by
  obtain ⟨A, c, rfl, _, _⟩ := own_slice h.own
  exact ⟨((Seg.of_own h.own).below hb).own, h.ch.below hb, h.rs.below hb, below_and h.below hb, h.ne3, h.ne, h.lo3, h.lo⟩
/-- The rests are copied to a block of the next round. -/
theorem GKeep.copy {js : List J} {w : World} {g3 g : Nat} {v : Value} {out : List Nat} {wr : World} (h : GKeep js w g3 g v out wr) : GKeep js w g3 wr.heap.size v out (wr.alloc (.cells (ic (greR js out)).toArray 105)) := by
  have hb : Below wr.heap.size wr (wr.alloc (.cells (ic (greR js out)).toArray 105)) := (Below.refl _ _).alloc (Nat.le_refl _) _
  have h' := h.next hb
  exact ⟨h'.own, h'.ch, BlockIs.new _ _ _, h'.below, h'.ne3, own_block_lt h.own (Nat.le_refl _), h'.lo3, h.below.size⟩
theorem GKeep.apart {js : List J} {w : World} {g3 g : Nat} {v : Value} {out : List Nat} {wr : World} (h : GKeep js w g3 g v out wr) : g3 ≠ g := fun e => by
  subst e
  have := h.ch.symm.trans h.rs
  injection this with this
  injection this with _ h2
  exact absurd h2 (by decide)
theorem own_other {w : World} {B : Nat} {e : TypeId} {size n : Nat} {v : Value} {xs : List Value} (h : w.ownsRow B e size v n xs) {a : Addr} (hne : v.ownBlock ≠ some a.block) (u : Value) : (w.setCell a u).ownsRow B e size v n xs := by
  refine ⟨h.1, ?_⟩
  rcases h.2 with h0 | ⟨g, cap, cur, rfl, hb, hg, hr⟩
  · exact .inl h0
  · refine .inr ⟨g, cap, cur, rfl, hb, ?_, hr⟩
    exact (Below.heap_setCell w a u g (fun e => hne (by rw [← e]; rfl))).trans hg
end Go.Proofs.Ytnkoncplfedffaa
