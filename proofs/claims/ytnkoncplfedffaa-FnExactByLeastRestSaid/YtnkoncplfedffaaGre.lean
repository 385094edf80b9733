/- The greedy order of the model. -/
import Derived.Test.YtnkoncplfedffaaGreP
import Derived.Test.YtnkoncplfedffaaOrd
import Derived.Test.YtnkoncplfedffaaGood
import Derived.Test.YtnkoncplfedffaaEnds
import Derived.Test.YtnkoncplfedffaaAppW
namespace Go.Proofs.Ytnkoncplfedffaa
open Go.RowKit
theorem hasI_nat (out : List Nat) (k : Nat) : hasI (natI out) (k : Int) = out.contains k := by
  unfold hasI natI
  rw [List.contains_eq_mem, decide_eq_decide]
  constructor
  · intro h
    obtain ⟨x, hx, e⟩ := List.mem_map.1 h
    rw [← Int.ofNat.inj e]; exact hx
  · intro h; exact List.mem_map.2 ⟨k, h, rfl⟩
theorem pickTo_no {ok : Nat → Bool} {rk : Nat → Int} {k : Nat} (h : ok k = false) : pickTo ok rk (k + 1) = pickTo ok rk k := by
  rw [pickTo, h, Bool.false_and, if_neg (by simp)]
theorem pickTo_first {ok : Nat → Bool} {rk : Nat → Int} {k : Nat} (h : ok k = true) (hp : pickTo ok rk k < 0) : pickTo ok rk (k + 1) = (k : Int) := by
  rw [pickTo, h, Bool.true_and, if_pos (by rw [Bool.or_eq_true]; exact .inl (decide_eq_true hp))]
theorem pickTo_less {ok : Nat → Bool} {rk : Nat → Int} {k b : Nat} (h : ok k = true) (hp : pickTo ok rk k = (b : Int)) (hr : rk k < rk b) : pickTo ok rk (k + 1) = (k : Int) := by
  rw [pickTo, h, Bool.true_and, hp, Int.toNat_natCast, if_pos (by rw [Bool.or_eq_true]; exact .inr (decide_eq_true hr))]
theorem pickTo_keep {ok : Nat → Bool} {rk : Nat → Int} {k b : Nat} (hp : pickTo ok rk k = (b : Int)) (hr : ¬ rk k < rk b) : pickTo ok rk (k + 1) = (b : Int) := by
  rw [pickTo, hp, Int.toNat_natCast, if_neg (by rw [Bool.and_eq_true, Bool.or_eq_true]; rintro ⟨_, h | h⟩; · have := of_decide_eq_true h; omega
                                                · exact hr (of_decide_eq_true h))]
theorem gOk_has {js : List J} {out : List Nat} {now : Int} {k : Nat} (h : hasI (natI out) (k : Int) = true) : gOk js out now k = false := by
  rw [hasI_nat] at h; unfold gOk; rw [h]; rfl
theorem gOk_late {js : List J} {out : List Nat} {now : Int} {k : Nat} (hk : k < js.length) (h : ¬ js[k].r ≤ now) : gOk js out now k = false := by
  unfold gOk; rw [getD_at js j0 hk, decide_eq_false h, Bool.and_false]
theorem gOk_yes {js : List J} {out : List Nat} {now : Int} {k : Nat} (hk : k < js.length) (h1 : hasI (natI out) (k : Int) = false) (h : js[k].r ≤ now) : gOk js out now k = true := by
  rw [hasI_nat] at h1; unfold gOk; rw [h1, getD_at js j0 hk, decide_eq_true h]; rfl
theorem dueN_at {js : List J} {k : Nat} (hk : k < js.length) : dueN js k = js[k].d := by unfold dueN; rw [getD_at js j0 hk]
theorem ic_natG (p : List Nat) (k : Nat) : ic (natI p) ++ [.int .i64 ((k : Nat) : Int)] = ic (natI (p ++ [k])) := by unfold ic; simp
theorem wpList_appG {P : Program} {ops : Array Oper} {rest : List Oper} {o : Oper} {a : Act} {w w' : World} {Q : Exit → Act → World → Prop} (hgd : o.guard = none) (s x : Operand) (t : TypeId)
    (ho : o.op = .call { callee := .builtin .append, args := #[s, x], argTypes := #[t, t] }) (v u r : Value) (hs : a.eval s = v) (hx : a.eval x = u) (hr : (Builtin.append_ #[t, t] o.type #[v, u]).run P w = .ok r w')
    (h : wpList P ops Q rest (a.put o.dst r) w') : wpList P ops Q (o :: rest) a w := by
  refine wpList_plain hgd fun K hK => ?_
  unfold Oper.wp execOp
  simp only [ho, resolve, invoke, builtin, Sem.run_bind, Sem.run_pure, Result.andThen_ok, List.map_toArray, List.map_cons, List.map_nil, hs, hx, hr]
  exact hK _ _ h
/-- How many elements a slice has. -/
def lenV : Value → Nat
  | .slice _ n _ => n
  | _ => 0
section
variable (A B : Option Addr) (c d : Nat) (js : List J) (out : List Nat) (now : Int) (w : World) (hr : Row w A (jc js)) (hq : Row w B (ic (natI out))) (hn : js.length ≤ 8) (hm : out.length ≤ 100000)
include hr hq hn hm
end
theorem gFin_in {js : List J} (hg : goodL js = true) {now : Int} {out : List Nat} (hi : GIn js now out) : out.length ≤ 8 ∧ now ≤ 900 := by
  have h8 := (good_out hg).1
  have := hi.le
  have := hi.now1
  omega
section
variable (A : Option Addr) (c : Nat) (js : List J) (w : World) (hr : Row w A (jc js))
include hr
end
end Go.Proofs.Ytnkoncplfedffaa
