/- The late rule: sums of times, the longest job of a list; slices of one's own that lie apart. -/
import Derived.Test.YtpoibjmkbljblaaDoorWrongO
import Derived.Test.YtpoibjmkbljblaaDoorLateP
import Derived.Test.YtpoibjmkbljblaaDoorKb2
import Derived.Deep.QuietTactic
import Derived.BigQuiet
namespace Go.Proofs.YtpoibjmkbljblaaDoor
open Go.RowKit
theorem times_bd {js : List J} (hok : ∀ j ∈ js, okJ j = true) : ∀ (l : List Nat), (∀ j ∈ l, j < js.length) → 0 ≤ timesOf js l ∧ timesOf js l ≤ 50 * l.length
  | [], _ => by simp [timesOf]
  | x :: l, h => by
    have ih := times_bd hok l (fun j hj => h j (List.mem_cons_of_mem _ hj))
    have hx := okJ_out (getD_ok hok (h x List.mem_cons_self))
    unfold timesOf at *
    simp only [List.map_cons, List.sum_cons, List.length_cons]
    omega
theorem longTo_succ (js : List J) (l : List Nat) (k : Nat) : longTo js l (k + 1) = if timeN js (l.getD (longTo js l k) 0) < timeN js (l.getD k 0) then k else longTo js l k := rfl
section
variable (A B : Option Addr) (c d : Nat) (js : List J) (l : List Nat) (w : World) (hr : Row w A (jc js)) (hq : Row w B (ic (natI l))) (hok : ∀ j ∈ js, okJ j = true) (hl : ∀ j ∈ l, j < js.length) (hm : l.length ≤ 100)
include hr hq hok hl hm
end
/-- Two slices whose blocks are not the same. -/
def Apart (u v : Value) : Prop := ∀ g, u.ownBlock = some g → v.ownBlock ≠ some g
theorem Apart.symm {u v : Value} (h : Apart u v) : Apart v u := fun g hg e => h g e hg
section
variable {w w' w1 : World} {B n size : Nat} {e : TypeId} {u v v' : Value} {xs : List Value}
theorem own_apart (h : w.ownsRow B e size u n xs) (ha : Apart u v) (hg : w.grownBy w1 v.ownBlock) : w1.ownsRow B e size u n xs :=
  own_to h fun g hu _ hgl => hg.block g hgl fun e => ha g hu e.symm
theorem apart_app (h : w.ownsRow B e size u n xs) (ha : Apart u v) (hs : w.heap.size ≤ w'.heap.size) (hob : v'.ownBlock = v.ownBlock ∨ v'.ownBlock = some w'.heap.size) : Apart u v' := fun g hg e' => by
  rcases hob with h' | h'
  · exact ha g hg (h' ▸ e')
  · rw [h'] at e'
    injection e' with e'
    have := (own_type h hg).1
    omega
theorem apart_new (h : w.ownsRow B e size u n xs) {B' n' size' : Nat} {e' : TypeId} {ys : List Value} (h' : w'.ownsRow B' e' size' v n' ys) (hB : w.heap.size ≤ B') : Apart u v := fun g hg hg' => by
  have h1 := (own_type h hg).1
  have h2 := (own_type h' hg').2.1
  omega
theorem apart_type {B' n' size' : Nat} {e' : TypeId} {ys : List Value} (h : w.ownsRow B e size u n xs) (h' : w.ownsRow B' e' size' v n' ys) (hne : e ≠ e') : Apart u v := fun g hg hg' => by
  obtain ⟨_, _, c1, t1⟩ := own_type h hg
  obtain ⟨_, _, c2, t2⟩ := own_type h' hg'
  exact type_ne t1 t2 hne rfl
/-- A block that is of another type stays through a turn of a slice's block. -/
theorem block_apart {g : Nat} {t : TypeId} {cs : Array Value} (hb : BlockIs w g t cs) (h : w.ownsRow B e size v n xs) (hne : t ≠ e) (hg : w.grownBy w1 v.ownBlock) : BlockIs w1 g t cs :=
  (hg.block g hb.lt fun e' => by
    obtain ⟨_, _, c2, t2⟩ := own_type h e'.symm
    exact type_ne hb t2 hne rfl).trans hb
theorem own_setb {g : Nat} {t : TypeId} {cs : Array Value} (h : w.ownsRow B e size u n xs) (hb : BlockIs w g t cs) (hne : t ≠ e) (i : Nat) (x : Value) : (w.setCell ⟨g, i, none⟩ x).ownsRow B e size u n xs :=
  own_to h fun q hq _ _ => by
    obtain ⟨_, _, c1, t1⟩ := own_type h hq
    exact Below.heap_setCell _ _ _ _ (type_ne t1 hb (fun e => hne e.symm))
theorem own_row_keep {g : Nat} {t : TypeId} {cs : Array Value} (h : BlockIs w g t cs) (i : Nat) (x : Value) : BlockIs (w.setCell ⟨g, i, none⟩ x) g t (cs.setIfInBounds i x) := h.set i x
end
theorem own_succ {w : World} {B n size : Nat} {e : TypeId} {v : Value} {xs : List Value} (h : w.ownsRow B e size v (n + 1) xs) : ∃ g c, v = .slice (some ⟨g, 0, none⟩) (n + 1) c := by
  rcases h.2 with ⟨_, h0⟩ | ⟨g, cap, cur, hv, _⟩
  · omega
  · exact ⟨g, cap, hv⟩
theorem row_own {w : World} {B m n size c : Nat} {e : TypeId} {A : Option Addr} {xs : List Value} (h : w.ownsRow B e size (.slice A m c) n xs) : Row w A xs := by
  rcases id h.2 with ⟨hv, h0⟩ | ⟨g, cap, cur, hv, _⟩
  · have : xs = [] := List.eq_nil_of_length_eq_zero (by rw [h.1, h0, Nat.zero_mul])
    subst this; exact Row.nil _
  · have hm : m = n := by injection hv
    subst hm; exact Row.of_own h
theorem wpList_app_run {P : Program} {ops : Array Oper} {rest : List Oper} {o : Oper} {a : Act} {w w' : World} {Q : Exit → Act → World → Prop} (hgd : o.guard = none) (s x : Operand) (t : TypeId)
    (ho : o.op = .call { callee := .builtin .append, args := #[s, x], argTypes := #[t, t] }) (v u r : Value) (hs : a.eval s = v) (hx : a.eval x = u) (hr : (Builtin.append_ #[t, t] o.type #[v, u]).run P w = .ok r w')
    (h : wpList P ops Q rest (a.put o.dst r) w') : wpList P ops Q (o :: rest) a w := by
  refine wpList_plain hgd fun K hK => ?_
  unfold Oper.wp execOp
  simp only [ho, resolve, invoke, builtin, Sem.run_bind, Sem.run_pure, Result.andThen_ok, List.map_toArray, List.map_cons, List.map_nil, hs, hx, hr]
  exact hK _ _ h
theorem alloc_own {w : World} {B n size : Nat} {e : TypeId} {u : Value} {xs : List Value} (h : w.ownsRow B e size u n xs) (o : Obj) : (w.alloc o).ownsRow B e size u n xs := own_blw h ((Below.refl _ _).alloc (Nat.le_refl _) o)
end Go.Proofs.YtpoibjmkbljblaaDoor
