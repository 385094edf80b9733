/- The late rule: sums of times, the longest job of a list; slices of one's own that lie apart. -/
import Derived.Test.YtjnaicgmfnhjeaaWrongO
import Derived.Test.YtjnaicgmfnhjeaaLateP
import Derived.Test.YtjnaicgmfnhjeaaOwnSS
import Derived.Deep.QuietTactic
import Derived.BigQuiet
namespace Go.Proofs.Ytjnaicgmfnhjeaa
open Go.RowKit
theorem times_bd {js : List J} (hok : ∀ j ∈ js, okJ j = true) : ∀ (l : List Nat), (∀ j ∈ l, j < js.length) → 0 ≤ timesOf js l ∧ timesOf js l ≤ 50 * l.length
  | [], _ => by simp [timesOf]
  | x :: l, h => by
    have ih := times_bd hok l (fun j hj => h j (List.mem_cons_of_mem _ hj))
    have hx := okJ_out (getD_ok hok (h x List.mem_cons_self))
    unfold timesOf at *
    simp only [List.map_cons, List.sum_cons, List.length_cons]
    omega
theorem longTo_succ (js : List J) (l : List Nat) (k : Nat) : longTo js l (k + 1) = if timeN js (l.getD (longTo js l k) 0) < timeN js (l.getD k 0) then k else longTo js l k := rfl
section
variable (A B : Option Addr) (c d : Nat) (js : List J) (l : List Nat) (w : World) (hr : Row w A (jc js)) (hq : Row w B (ic (natI l))) (hok : ∀ j ∈ js, okJ j = true) (hl : ∀ j ∈ l, j < js.length) (hm : l.length ≤ 100)
include hr hq hok hl hm
theorem l3Total_any : Calls Try.prog 165 #[.slice A js.length c, .slice B l.length d] w fun e w' => e = .returned (.int .i64 (timesOf js l)) ∧ w = w' := by
  have HBD : Hid (∀ k, k ≤ l.length → 0 ≤ timesOf js (l.take k) ∧ timesOf js (l.take k) ≤ 50 * 100) := fun k hk => by
    have := times_bd hok (l.take k) (fun j hj => hl j (List.mem_of_mem_take hj))
    simp only [List.length_take] at this
    omega
  go_enter Try.func165, Try.ntmps165
  go_wp2
  go_loop [5, 6] (fun s i => ∃ k : Nat, k ≤ l.length ∧ i = .int .i64 (k : Int) ∧ s = .int .i64 (timesOf js (l.take k))) (fun _ i => l.length - (intOf i).toNat)
  case atStart => exact ⟨0, Nat.zero_le _, rfl, rfl⟩
  case round =>
    obtain ⟨k, hk, rfl, rfl⟩ := hrel
    by_cases hlt : k < l.length
    · obtain ⟨b, hB', hc⟩ := hq.nat hlt
      subst hB'
      have hj := hl _ (List.getElem_mem hlt)
      obtain ⟨a, hA', hbl, c0, c1, c2, c3⟩ := hr.job hj
      subst hA'
      have hokj := okJ_out (hok _ (List.getElem_mem hj))
      have HT : Hid (timesOf js (l.take (k + 1)) = timesOf js (l.take k) + js[l[k]].t) := by
        show _ = _
        rw [List.take_succ_eq_append_getElem hlt, times_snoc]
        unfold timeN
        rw [getD_at js j0 hj]
      obtain ⟨b0, b1⟩ := HBD.out k hk
      have hk0 : (0 : Int) ≤ k := by omega
      have hk1 : (k : Int) < l.length := by omega
      have hj0 : (0 : Int) ≤ l[k] := by omega
      have hj1 : (l[k] : Int) < js.length := by omega
      clear hr hq hl hok
      generalize js[l[k]] = j at *
      generalize l[k] = x at *
      generalize timesOf js (l.take k) = s at *
      go_wp2
      go_round
      case rel => exact ⟨k + 1, by omega, by go_num, by rw [HT.out]⟩
      case measure => simp [intOf]; omega
    · obtain rfl : k = l.length := by omega
      go_wp2
      go_ret
      exact ⟨by first | rfl | rw [List.take_length], rfl⟩
omit hok in
set_option maxRecDepth 100000 in
theorem l3Longest_any (h0 : 0 < l.length) : Calls Try.prog 166 #[.slice A js.length c, .slice B l.length d] w fun e w' => e = .returned (.int .i64 (longL js l : Int)) ∧ ∃ m, w' = w.drewN m := by
  have H1 := Lib.hid (longTo_one js l)
  go_enter Try.func166, Try.ntmps166
  go_wp2
  go_loopw [5, 6] (fun s i wr => ∃ k m : Nat, 1 ≤ k ∧ k ≤ l.length ∧ i = .int .i64 (k : Int) ∧ s = .int .i64 (longTo js l k : Int) ∧ wr = w.drewN m) (fun _ i _ => l.length - (intOf i).toNat)
  case atStart => exact ⟨1, 0, by omega, by omega, rfl, by rw [H1.out]; rfl, rfl⟩
  case round =>
    obtain ⟨k, m, hk1, hk, rfl, rfl, rfl⟩ := hrel
    clear H1
    by_cases hlt : k < l.length
    · have hle := longTo_lt js l k
      have HS := Lib.hid (longTo_succ js l k)
      have hlo : longTo js l k < l.length := by omega
      rw [getD_at l 0 hlo, getD_at l 0 hlt] at HS
      generalize longTo js l k = a0 at *
      have hq' : Row (w.drewN m) B (ic (natI l)) := hq
      have hr' : Row (w.drewN m) A (jc js) := hr
      obtain ⟨b, hB', hc⟩ := hq'.nat hlt
      subst hB'
      obtain ⟨b', hB2, hc'⟩ := hq'.nat hlo
      injection hB2 with hB2
      subst hB2
      have hj := hl _ (List.getElem_mem hlt)
      have hj' := hl _ (List.getElem_mem hlo)
      obtain ⟨a, hA', hbl, c0, c1, c2, c3⟩ := hr'.job hj
      subst hA'
      obtain ⟨a', hA2, hbl', d0, d1, d2, d3⟩ := hr'.job hj'
      injection hA2 with hA2
      subst hA2
      unfold timeN at HS
      rw [getD_at js j0 hj, getD_at js j0 hj'] at HS
      have hi0 : (0 : Int) ≤ k := by omega
      have hi1 : (k : Int) < l.length := by omega
      have ha0 : (0 : Int) ≤ a0 := by omega
      have ha1 : (a0 : Int) < l.length := by omega
      have hx0 : (0 : Int) ≤ l[k] := by omega
      have hx1 : (l[k] : Int) < js.length := by omega
      have hy0 : (0 : Int) ≤ l[a0] := by omega
      have hy1 : (l[a0] : Int) < js.length := by omega
      have e0 : w.cell? (a.add (l[k] * 4)) = some (.int .i64 js[l[k]].t) := c0
      have e1 : w.cell? (a.add (l[a0] * 4)) = some (.int .i64 js[l[a0]].t) := d0
      have e2 : w.cell? (b.add k) = some (.int .i64 (l[k] : Int)) := hc
      have e3 : w.cell? (b.add a0) = some (.int .i64 (l[a0] : Int)) := hc'
      clear hr hq hl hr' hq'
      generalize js[l[k]] = j at *
      generalize js[l[a0]] = j' at *
      generalize l[k] = x at *
      generalize l[a0] = y at *
      by_cases hgt : j'.t < j.t
      · have HS2 : Hid (longTo js l (k + 1) = k) := by show _ = _; rw [HS.out, if_pos hgt]
        clear HS
        go_wp2
        go_quiet (fail)
        go_wp2
        go_roundw
        case rel => exact ⟨k + 1, _, by omega, by omega, by go_num, by rw [HS2.out], rfl⟩
        case measure => simp [intOf]; omega
      · have HS2 : Hid (longTo js l (k + 1) = a0) := by show _ = _; rw [HS.out, if_neg hgt]
        clear HS
        go_wp2
        go_quiet (fail)
        go_wp2
        go_roundw
        case rel => exact ⟨k + 1, _, by omega, by omega, by go_num, by rw [HS2.out], rfl⟩
        case measure => simp [intOf]; omega
    · obtain rfl : k = l.length := by omega
      go_wp2
      go_ret
      exact ⟨rfl, m, rfl⟩
omit hok in
set_option maxRecDepth 100000 in
theorem longestPlace_any (h0 : 0 < l.length) : Calls Try.prog 167 #[.slice A js.length c, .slice B l.length d] w fun e w' => e = .returned (.int .i64 (longL js l : Int)) ∧ ∃ m, w' = w.drewN m := by
  have H0 : Hid (longTo js l 0 = 0) := rfl
  go_enter Try.func167, Try.ntmps167
  go_wp2
  go_loopw [5, 10] (fun s i wr => ∃ k m : Nat, k ≤ l.length ∧ i = .int .i64 (k : Int) ∧ s = .int .i64 (longTo js l k : Int) ∧ wr = w.drewN m) (fun _ i _ => l.length - (intOf i).toNat)
  case atStart => exact ⟨0, 0, by omega, rfl, by rw [H0.out]; rfl, rfl⟩
  case round =>
    obtain ⟨k, m, hk, rfl, rfl, rfl⟩ := hrel
    clear H0
    by_cases hlt : k < l.length
    · have hle := longTo_lt js l k
      have HS := Lib.hid (longTo_succ js l k)
      have hlo : longTo js l k < l.length := by omega
      rw [getD_at l 0 hlo, getD_at l 0 hlt] at HS
      generalize longTo js l k = a0 at *
      have hq' : Row (w.drewN m) B (ic (natI l)) := hq
      have hr' : Row (w.drewN m) A (jc js) := hr
      obtain ⟨b, hB', hc⟩ := hq'.nat hlt
      subst hB'
      obtain ⟨b', hB2, hc'⟩ := hq'.nat hlo
      injection hB2 with hB2
      subst hB2
      have hj := hl _ (List.getElem_mem hlt)
      have hj' := hl _ (List.getElem_mem hlo)
      obtain ⟨a, hA', hbl, c0, c1, c2, c3⟩ := hr'.job hj
      subst hA'
      obtain ⟨a', hA2, hbl', d0, d1, d2, d3⟩ := hr'.job hj'
      injection hA2 with hA2
      subst hA2
      unfold timeN at HS
      rw [getD_at js j0 hj, getD_at js j0 hj'] at HS
      have hi0 : (0 : Int) ≤ k := by omega
      have hi1 : (k : Int) < l.length := by omega
      have ha0 : (0 : Int) ≤ a0 := by omega
      have ha1 : (a0 : Int) < l.length := by omega
      have hx0 : (0 : Int) ≤ l[k] := by omega
      have hx1 : (l[k] : Int) < js.length := by omega
      have hy0 : (0 : Int) ≤ l[a0] := by omega
      have hy1 : (l[a0] : Int) < js.length := by omega
      have e0 : w.cell? (a.add (l[k] * 4)) = some (.int .i64 js[l[k]].t) := c0
      have e1 : w.cell? (a.add (l[a0] * 4)) = some (.int .i64 js[l[a0]].t) := d0
      have e2 : w.cell? (b.add k) = some (.int .i64 (l[k] : Int)) := hc
      have e3 : w.cell? (b.add a0) = some (.int .i64 (l[a0] : Int)) := hc'
      clear hr hq hl hr' hq'
      generalize js[l[k]] = j at *
      generalize js[l[a0]] = j' at *
      generalize l[k] = x at *
      generalize l[a0] = y at *
      by_cases hgt : j'.t < j.t
      · have HS2 : Hid (longTo js l (k + 1) = k) := by show _ = _; rw [HS.out, if_pos hgt]
        clear HS
        go_wp2
        go_quiet (fail)
        go_wp2
        go_roundw
        case rel => exact ⟨k + 1, _, by omega, by go_num, by rw [HS2.out], rfl⟩
        case measure => simp [intOf]; omega
      · have HS2 : Hid (longTo js l (k + 1) = a0) := by show _ = _; rw [HS.out, if_neg hgt]
        clear HS
        go_wp2
        go_quiet (fail)
        go_wp2
        go_roundw
        case rel => exact ⟨k + 1, _, by omega, by go_num, by rw [HS2.out], rfl⟩
        case measure => simp [intOf]; omega
    · obtain rfl : k = l.length := by omega
      go_wp2
      go_ret
      exact ⟨rfl, m, rfl⟩
end
/-- Two slices whose blocks are not the same. -/
def Apart (u v : Value) : Prop := ∀ g, u.ownBlock = some g → v.ownBlock ≠ some g
theorem Apart.symm {u v : Value} (h : Apart u v) : Apart v u := fun g hg e => h g e hg
section
variable {w w' w1 : World} {B n size : Nat} {e : TypeId} {u v v' : Value} {xs : List Value}
theorem own_apart (h : w.ownsRow B e size u n xs) (ha : Apart u v) (hg : w.grownBy w1 v.ownBlock) : w1.ownsRow B e size u n xs :=
  own_to h fun g hu _ hgl => hg.block g hgl fun e => ha g hu e.symm
theorem apart_app (h : w.ownsRow B e size u n xs) (ha : Apart u v) (hs : w.heap.size ≤ w'.heap.size) (hob : v'.ownBlock = v.ownBlock ∨ v'.ownBlock = some w'.heap.size) : Apart u v' := fun g hg e' => by
  rcases hob with h' | h'
  · exact ha g hg (h' ▸ e')
  · rw [h'] at e'
    injection e' with e'
    have := (own_type h hg).1
    omega
theorem apart_new (h : w.ownsRow B e size u n xs) {B' n' size' : Nat} {e' : TypeId} {ys : List Value} (h' : w'.ownsRow B' e' size' v n' ys) (hB : w.heap.size ≤ B') : Apart u v := fun g hg hg' => by
  have h1 := (own_type h hg).1
  have h2 := (own_type h' hg').2.1
  omega
theorem apart_type {B' n' size' : Nat} {e' : TypeId} {ys : List Value} (h : w.ownsRow B e size u n xs) (h' : w.ownsRow B' e' size' v n' ys) (hne : e ≠ e') : Apart u v := fun g hg hg' => by
  obtain ⟨_, _, c1, t1⟩ := own_type h hg
  obtain ⟨_, _, c2, t2⟩ := own_type h' hg'
  exact type_ne t1 t2 hne rfl
/-- A block that is of another type stays through a turn of a slice's block. -/
theorem block_apart {g : Nat} {t : TypeId} {cs : Array Value} (hb : BlockIs w g t cs) (h : w.ownsRow B e size v n xs) (hne : t ≠ e) (hg : w.grownBy w1 v.ownBlock) : BlockIs w1 g t cs :=
  (hg.block g hb.lt fun e' => by
    obtain ⟨_, _, c2, t2⟩ := own_type h e'.symm
    exact type_ne hb t2 hne rfl).trans hb
theorem own_setb {g : Nat} {t : TypeId} {cs : Array Value} (h : w.ownsRow B e size u n xs) (hb : BlockIs w g t cs) (hne : t ≠ e) (i : Nat) (x : Value) : (w.setCell ⟨g, i, none⟩ x).ownsRow B e size u n xs :=
  own_to h fun q hq _ _ => by
    obtain ⟨_, _, c1, t1⟩ := own_type h hq
    exact Below.heap_setCell _ _ _ _ (type_ne t1 hb (fun e => hne e.symm))
theorem own_row_keep {g : Nat} {t : TypeId} {cs : Array Value} (h : BlockIs w g t cs) (i : Nat) (x : Value) : BlockIs (w.setCell ⟨g, i, none⟩ x) g t (cs.setIfInBounds i x) := h.set i x
end
theorem own_succ {w : World} {B n size : Nat} {e : TypeId} {v : Value} {xs : List Value} (h : w.ownsRow B e size v (n + 1) xs) : ∃ g c, v = .slice (some ⟨g, 0, none⟩) (n + 1) c := by
  rcases h.2 with ⟨_, h0⟩ | ⟨g, cap, cur, hv, _⟩
  · omega
  · exact ⟨g, cap, hv⟩
theorem row_own {w : World} {B m n size c : Nat} {e : TypeId} {A : Option Addr} {xs : List Value} (h : w.ownsRow B e size (.slice A m c) n xs) : Row w A xs := by
  rcases id h.2 with ⟨hv, h0⟩ | ⟨g, cap, cur, hv, _⟩
  · have : xs = [] := List.eq_nil_of_length_eq_zero (by rw [h.1, h0, Nat.zero_mul])
    subst this; exact Row.nil _
  · have hm : m = n := by injection hv
    subst hm; exact Row.of_own h
theorem wpList_app_run {P : Program} {ops : Array Oper} {rest : List Oper} {o : Oper} {a : Act} {w w' : World} {Q : Exit → Act → World → Prop} (hgd : o.guard = none) (s x : Operand) (t : TypeId)
    (ho : o.op = .call { callee := .builtin .append, args := #[s, x], argTypes := #[t, t] }) (v u r : Value) (hs : a.eval s = v) (hx : a.eval x = u) (hr : (Builtin.append_ #[t, t] o.type #[v, u]).run P w = .ok r w')
    (h : wpList P ops Q rest (a.put o.dst r) w') : wpList P ops Q (o :: rest) a w := by
  refine wpList_plain hgd fun K hK => ?_
  unfold Oper.wp execOp
  simp only [ho, resolve, invoke, builtin, Sem.run_bind, Sem.run_pure, Result.andThen_ok, List.map_toArray, List.map_cons, List.map_nil, hs, hx, hr]
  exact hK _ _ h
theorem alloc_own {w : World} {B n size : Nat} {e : TypeId} {u : Value} {xs : List Value} (h : w.ownsRow B e size u n xs) (o : Obj) : (w.alloc o).ownsRow B e size u n xs := own_blw h ((Below.refl _ _).alloc (Nat.le_refl _) o)
end Go.Proofs.Ytjnaicgmfnhjeaa
