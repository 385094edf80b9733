/- The split schedule of an order: SplitOf of both. -/
import Derived.Test.YtpjjjbkjkhcbdaaSpn
import Derived.Test.YtpjjjbkjkhcbdaaRst
import Derived.Test.YtpjjjbkjkhcbdaaSched
import Derived.Test.YtpjjjbkjkhcbdaaEndsO
import Derived.Test.YtpjjjbkjkhcbdaaAppW
import Derived.Test.YtpjjjbkjkhcbdaaRegInv
import Derived.Test.YtpjjjbkjkhcbdaaSetB
import Derived.Test.YtpjjjbkjkhcbdaaValP
namespace Go.Proofs.Ytpjjjbkjkhcbdaa
open Go.RowKit
def spOfL (js : List J) (p : List Nat) : List Sp := p.map fun (j : Nat) => ⟨(j : Int), (startsL js p).getD j 0, (endsL js p).getD j 0⟩
def spOfR (js : List J) (o : List Int) : List Sp × Bool := if twoB js o then (spOfL js (natsOf o), true) else ([], false)
theorem spOfL_len (js : List J) (p : List Nat) : (spOfL js p).length = p.length := by unfold spOfL; simp
theorem spOfR_len (js : List J) (o : List Int) : (spOfR js o).1.length ≤ 8 := by
  unfold spOfR
  cases h : twoB js o
  · simp
  · obtain ⟨hg, p, _, hp, hpo⟩ := two_out h
    have h8 := (good_out hg).1
    have hpl : p.length = js.length := by simpa using hp.length_eq
    simp only [if_true, spOfL_len, hpo]; omega
theorem spOfL_at (js : List J) (p : List Nat) (k : Nat) (hk : k < p.length) : (spOfL js p)[k]'(by rw [spOfL_len]; exact hk) = ⟨(p[k] : Int), (startsL js p).getD p[k] 0, (endsL js p).getD p[k] 0⟩ := by
  unfold spOfL; simp
theorem spc_append (xs ys : List Sp) : spc (xs ++ ys) = spc xs ++ spc ys := by unfold spc; simp
theorem spc_take_snoc (xs : List Sp) (k : Nat) (hk : k < xs.length) : spc (xs.take k) ++ cellsSp xs[k] = spc (xs.take (k + 1)) := by
  rw [List.take_succ_eq_append_getElem hk, spc_append]
  rfl
theorem ret_emptyT {w w1 : World} {r : List Sp × Bool} (hr : r = ([], false)) (hb : Below w.heap.size w w1) (e : Ending) (he : e = .returned (.tuple #[.slice (some ⟨w1.heap.size, 0, none⟩) 0 0, .bool false])) : RetTB w r e (w1.alloc (.cells #[] 70)) := by
  subst hr he
  have h := BlockIs.new w1 70 #[]
  have := h.own (base := w.heap.size) (n := 0) (c := 0) (size := 3) hb.size rfl (Nat.le_refl _) (by unfold maxLen; omega) (by simp)
  exact ⟨_, 0, rfl, Seg.of_own this, hb.alloc hb.size _⟩
theorem ret_ownT {w w' : World} {r : List Sp × Bool} {xs : List Sp} {v : Value} {n : Nat} {b : Bool} (hr : r = (xs, b)) (hn : xs.length = n) (ho : w'.ownsRow w.heap.size 70 3 v n (spc xs)) (hb : Below w.heap.size w w') (e : Ending) (he : e = .returned (.tuple #[v, .bool b])) : RetTB w r e w' := by
  subst hr hn
  obtain ⟨A, c, rfl, hs⟩ := seg_out ho
  subst he
  exact ⟨A, c, rfl, hs, hb⟩
section
variable (A B : Option Addr) (c d : Nat) (js : List J) (o : List Int) (w : World) (hr : Row w A (jc js)) (hq : Row w B (ic o)) (hn : js.length ≤ 10000000) (hm : o.length ≤ 10000000)
include hr hq hn hm
set_option maxRecDepth 100000 in
set_option maxHeartbeats 1000000 in
theorem impl_SplitOf : Calls Try.prog 36 #[.slice A js.length c, .slice B o.length d] w (RetTB w (spOfR js o)) := by
  have HR : Hid (spOfR js o = if twoB js o then (spOfL js (natsOf o), true) else ([], false)) := rfl
  cases ht : twoB js o
  · rw [ht] at HR
    go_enter Try.func36, Try.ntmps36
    go_wp2_with fail
    refine (isScheduled_any A B c d js o _ hr hq hn hm).mono ?_
    rintro e w1 ⟨rfl, hb1⟩
    rw [ht]
    go_wp2
    go_ret2
    exact ret_emptyT HR.out hb1 _ rfl
  · rw [ht] at HR
    obtain ⟨hg, p, rfl, hp, hpo⟩ := two_out ht
    have hol : (natI p).length = p.length := List.length_map ..
    rw [hol]
    have hpl : p.length = js.length := by simpa using hp.length_eq
    obtain ⟨h8, hok⟩ := good_out hg
    have hp8 : p.length ≤ 8 := by omega
    rw [hpo] at HR
    have HPL := Lib.hid hpl
    have HX := Lib.hid (And.intro hok (And.intro hg hp))
    have HSC : ∀ w, Row w A (jc js) → Row w B (ic (natI p)) → Calls Try.prog 79 #[.slice A js.length c, .slice B p.length d] w fun e w' => e = .returned (.bool true) ∧ Below w.heap.size w w' := fun w hr hq => by
      have := isScheduled_any A B c d js (natI p) w hr hq hn hm
      rwa [hol, ht] at this
    have hmk := run_make_rows (P := Try.prog) 30 70 (.agg #[.int .i64 0, .int .i64 0, .int .i64 0]) 3 24 Try.underlying30 infoSp .i64 .i64 p.length (by omega) (by omega)
    have HSC' := Lib.hid HSC
    clear hpl ht hol hpo HSC hok
    go_enter Try.func36, Try.ntmps36
    go_wp2_with fail
    refine (HSC'.out _ hr hq).mono ?_
    rintro e w1 ⟨rfl, hb1⟩
    go_wp2_with fail
    refine (endsIn_any A B c d js p _ (hr.below hb1) (hq.below hb1) hg hp).mono ?_
    rintro e w2 ⟨g, rfl, hg2, hB2, hb2⟩
    have HE2 := Lib.hid (hB2.below ((Below.refl w2.heap.size w2).alloc (Nat.le_refl _) (.cells (madeCells #[.int .i64 0, .int .i64 0, .int .i64 0] (p.length * 3)) 70)))
    have HB2 := Lib.hid (below_and hb1 hb2)
    have hgl := hB2.lt
    have hsz2 := (below_and hb1 hb2).size
    clear hb1 hB2 hb2 hg2 HSC' hg hp
    go_wp2
    go_loopw [23] (fun i wr => ∃ (k : Nat) (cs : Array Value), k ≤ p.length ∧ i = .int .i64 k ∧ BlockIs wr w2.heap.size 70 cs ∧ Hid (Upto (spc (spOfL js p)) (k * 3) cs) ∧ BlockIs wr g 3 (ic (endsL js p)).toArray ∧ Below w.heap.size w wr) (fun i _ => p.length - (intOf i).toNat)
    case atStart =>
      exact ⟨0, _, Nat.zero_le _, rfl, BlockIs.new _ _ _, ⟨by rw [size_madeCells, spc_len, spOfL_len]; omega, by omega⟩, HE2.out, HB2.out.alloc hsz2 _⟩
    case round =>
      obtain ⟨k, cs, hk, rfl, hB, hC, hE, hb⟩ := hrel
      clear hmk HE2 HB2
      by_cases hlt : k < p.length
      · obtain ⟨a, hA', hc⟩ := (hq.below hb).nat hlt
        subst hA'
        have hj : p[k] < js.length := perm_lt HX.out.2.2 (List.getElem_mem hlt)
        obtain ⟨ad, hA, hbl, hc0, hc1, hc2, hc3⟩ := (hr.below hb).job hj
        subst hA
        have hk0 : (0 : Int) ≤ k := by omega
        have hk1 : (k : Int) < p.length := by omega
        have hel : p[k] < (endsL js p).length := by rw [endsL_len]; exact hj
        have hce := hE.int hel
        have hbd := endsL_bd HX.out.2.1 HX.out.2.2 _ (List.getElem_mem hel)
        have hes := end_startL js p HX.out.2.2 p[k] hj
        have hokj := okJ_out (HX.out.1 _ (List.getElem_mem hj))
        rw [getD_at _ 0 hel, getD_at js j0 hj] at hes
        have hz : cs.size = 3 * p.length := by rw [hC.out.1, spc_len, spOfL_len]
        obtain ⟨v0, hk0'⟩ := hB.has (i := k * 3) (by omega)
        obtain ⟨v1, hk1'⟩ := hB.has (i := k * 3 + 1) (by omega)
        obtain ⟨v2, hk2'⟩ := hB.has (i := k * 3 + 2) (by omega)
        have hf0 := hB.frozen (k * 3)
        have hf1 := hB.frozen (k * 3 + 1)
        have hf2 := hB.frozen (k * 3 + 2)
        have HC := Lib.hid (hC.out.step3 (by rw [spOfL_len]; exact hlt))
        have hsp := spOfL_at js p k hlt
        rw [getD_at _ 0 hel] at hsp
        have hst : (startsL js p).getD p[k] 0 = (endsL js p)[p[k]] - js[p[k]].t := by omega
        rw [hst] at hsp
        rw [hsp] at HC
        have HB := Lib.hid (((hB.set3 (k * 3) ⟨(p[k] : Int), (endsL js p)[p[k]] - js[p[k]].t, (endsL js p)[p[k]]⟩)).drew)
        have hne : g ≠ w2.heap.size := by omega
        have HE := Lib.hid ((((hE.other (a := ⟨w2.heap.size, k * 3, none⟩) hne (.int .i64 (p[k] : Int))).other (a := ⟨w2.heap.size, k * 3 + 1, none⟩) hne (.int .i64 ((endsL js p)[p[k]] - js[p[k]].t))).other (a := ⟨w2.heap.size, k * 3 + 2, none⟩) hne (.int .i64 (endsL js p)[p[k]])).drew)
        have Hb := Lib.hid ((((hb.setCell (p := ⟨w2.heap.size, k * 3, none⟩) (by simpa using hsz2) (.int .i64 (p[k] : Int))).setCell (p := ⟨w2.heap.size, k * 3 + 1, none⟩) (by simpa using hsz2) (.int .i64 ((endsL js p)[p[k]] - js[p[k]].t))).setCell (p := ⟨w2.heap.size, k * 3 + 2, none⟩) (by simpa using hsz2) (.int .i64 (endsL js p)[p[k]])).drew)
        have hq0 : (0 : Int) ≤ p[k] := by omega
        have hq1 : (p[k] : Int) < js.length := by omega
        clear hz hB hC hE hb hr hq hes hst hsp
        generalize (endsL js p)[p[k]] = en at *
        generalize js[p[k]] = j at *
        clear hj hel
        generalize p[k] = q at *
        go_wp2
        go_still_tail 19, (by kernel_rfl)
        change wpList _ _ _ _ _ wr.drew
        go_wp2
        go_roundw
        case rel => exact ⟨k + 1, _, by omega, by go_num, HB.out, HC.out, HE.out, Hb.out⟩
        case measure => simp [intOf]; omega
      · obtain rfl : k = p.length := by omega
        have hC' := hC.out
        rw [show p.length * 3 = (spc (spOfL js p)).length by rw [spc_len, spOfL_len]; omega] at hC'
        have hsz : cs.size = p.length * 3 := by rw [hC'.1, spc_len, spOfL_len]; omega
        have hown := hB.own (base := w.heap.size) (n := p.length) (c := p.length) (size := 3) hsz2 (by omega) (Nat.le_refl _) (by unfold maxLen; omega) (by omega)
        rw [List.take_of_length_le (by simp [hsz]), hC'.all] at hown
        have HO := Lib.hid (And.intro hown hb)
        have HL := Lib.hid (spOfL_len js p)
        clear hB hC hE hb hr hq hown hC'
        go_wp2
        go_ret2
        exact ret_ownT HR.out HL.out HO.out.1 HO.out.2 _ rfl
omit hn hm hr hq in
theorem infoSp_parts : ∃ i : TypeInfo, Try.prog.info? 70 = some i ∧ i.zero = some (.agg #[.int .i64 0, .int .i64 0, .int .i64 0]) ∧ i.size = 3 ∧ i.bytes = 24 := by
  obtain ⟨i, hi, hzz⟩ := Option.map_eq_some_iff.1 infoSp
  simp only [Prod.mk.injEq] at hzz
  exact ⟨i, hi, hzz.1, hzz.2.1, hzz.2.2⟩
omit hn hm hr hq in
theorem exec_appendS {P : Program} {o : Oper} {ev : Operand → Value} {s x : Operand} {t : TypeId} {v u r : Value} {w w' : World} (ho : o.op = .call { callee := .builtin .append, args := #[s, x], argTypes := #[t, t] }) (hs : ev s = v) (hx : ev x = u) (hr : (Builtin.append_ #[t, t] o.type #[v, u]).run P w = .ok r w') : (execOp ev o).run P w = .ok (.value r) w' := by
  unfold execOp
  simp only [ho, resolve, invoke, builtin, Sem.run_bind, Sem.run_pure, Result.andThen_ok, List.map_toArray, List.map_cons, List.map_nil, hs, hx, hr]
omit hn hm hr hq in
theorem cell_span_new (w : World) (t : TypeId) (s : Sp) : ∀ j u, (cellsSp s)[j]? = some u → (w.alloc (.cells #[.int .i64 s.j, .int .i64 s.f, .int .i64 s.t] t)).cell? ((⟨w.heap.size, 0, none⟩ : Addr).add j) = some u := by
  intro j u hu
  obtain ⟨ad, e, _, hc⟩ := Row.new w t #[.int .i64 s.j, .int .i64 s.f, .int .i64 s.t] (by simp)
  obtain rfl := Option.some.inj e
  exact hc j u hu
set_option maxRecDepth 100000 in
set_option maxHeartbeats 2000000 in
theorem spec_SplitOf : Calls Try.prog 34 #[.slice A js.length c, .slice B o.length d] w (RetTB w (spOfR js o)) := by
  have HR : Hid (spOfR js o = if twoB js o then (spOfL js (natsOf o), true) else ([], false)) := rfl
  have hown0 : (w.alloc (.cells #[] 70)).ownsRow w.heap.size 70 3 (.slice (some ⟨w.heap.size, 0, none⟩) 0 0) 0 [] := World.ownsRow_made w #[] 0 (Nat.le_refl _) (by unfold maxLen; omega) rfl
  have hb0 := (Below.refl w.heap.size w).alloc (Nat.le_refl _) (.cells #[] 70)
  cases ht : twoB js o
  · rw [ht] at HR
    have HO := Lib.hid (And.intro hown0 hb0)
    have HRW := Lib.hid (And.intro (hr.below hb0) (hq.below hb0))
    clear hown0 hb0 hr hq
    go_enter Try.func34, Try.ntmps34
    go_wp2_with fail
    refine (l2Two_any A B c d js o _ HRW.out.1 HRW.out.2 hn hm).mono ?_
    rintro e w1 ⟨rfl, hb1⟩
    have HF := Lib.hid (And.intro ((Seg.of_own HO.out.1).below hb1).own (HO.out.2.trans (hb1.mono HO.out.2.size)))
    clear hb1
    rw [ht]
    go_wp2
    go_ret2
    exact ret_ownT (xs := []) HR.out rfl HF.out.1 HF.out.2 _ rfl
  · rw [ht] at HR
    obtain ⟨hg, p, rfl, hp, hpo⟩ := two_out ht
    have hol : (natI p).length = p.length := List.length_map ..
    rw [hol]
    have hpl : p.length = js.length := by simpa using hp.length_eq
    obtain ⟨h8, hok⟩ := good_out hg
    have hp8 : p.length ≤ 8 := by omega
    rw [hpo] at HR
    have HX := Lib.hid (And.intro hok (And.intro hg hp))
    have HSC : ∀ w, Row w A (jc js) → Row w B (ic (natI p)) → Calls Try.prog 76 #[.slice A js.length c, .slice B p.length d] w fun e w' => e = .returned (.bool true) ∧ Below w.heap.size w w' := fun w hr hq => by
      have := l2Two_any A B c d js (natI p) w hr hq hn hm
      rwa [hol, ht] at this
    have HSC' := Lib.hid HSC
    have HO := Lib.hid (And.intro hown0 hb0)
    have HRW := Lib.hid (And.intro hr hq)
    obtain ⟨i0, hi, hz0, hz1, hz2⟩ := infoSp_parts
    have HI := Lib.hid (And.intro hi (And.intro hz0 (And.intro hz1 hz2)))
    clear hpl ht hol hpo HSC hok hg hp hown0 hb0 hr hq hi hz0 hz1 hz2
    go_enter Try.func34, Try.ntmps34
    go_wp2_with fail
    refine (HSC'.out _ (HRW.out.1.below HO.out.2) (HRW.out.2.below HO.out.2)).mono ?_
    rintro e w1 ⟨rfl, hb1⟩
    have HB1 := Lib.hid (And.intro ((Seg.of_own HO.out.1).below hb1).own (HO.out.2.trans (hb1.mono HO.out.2.size)))
    clear hb1 HO
    go_wp2_with fail
    refine (l2Starts_any A B c d js p _ (HRW.out.1.below HB1.out.2) (HRW.out.2.below HB1.out.2) HX.out.2.1 HX.out.2.2).mono ?_
    rintro e w2 ⟨gs, rfl, hgs, hBs, hb2⟩
    have HB2 := Lib.hid (And.intro ((Seg.of_own HB1.out.1).below hb2).own (below_and HB1.out.2 hb2))
    have hgs1 : w1.heap.size ≤ gs := hgs
    clear hb2 hgs
    go_wp2_with fail
    refine (l2Ends_any A B c d js p _ (HRW.out.1.below HB2.out.2) (HRW.out.2.below HB2.out.2) HX.out.2.1 HX.out.2.2).mono ?_
    rintro e w3 ⟨ge, rfl, hge, hBe, hb3⟩
    have HB3 := Lib.hid (And.intro ((Seg.of_own HB2.out.1).below hb3).own (And.intro (hBs.below hb3) (And.intro hBe (below_and HB2.out.2 hb3))))
    have hlt1 : w.heap.size < w1.heap.size := by
      obtain ⟨_, h2⟩ := HB1.out.1.lt _ rfl
      exact h2
    have hge1 : w1.heap.size ≤ ge := by have := hBs.lt; omega
    clear hb3 hBs hBe hge HB1 HB2
    go_wp2
    go_loopw [6, 9] (fun v i wr => ∃ (k : Nat), k ≤ p.length ∧ i = .int .i64 k ∧ wr.ownsRow w.heap.size 70 3 v k (spc ((spOfL js p).take k)) ∧ v.ownBlock ≠ some gs ∧ v.ownBlock ≠ some ge ∧ BlockIs wr gs 3 (ic (startsL js p)).toArray ∧ BlockIs wr ge 3 (ic (endsL js p)).toArray ∧ Below w.heap.size w wr) (fun _ i _ => p.length - (intOf i).toNat)
    case atStart =>
      exact ⟨0, Nat.zero_le _, rfl, HB3.out.1, by intro h; injection h with h; simp at h; omega, by intro h; injection h with h; simp at h; omega, HB3.out.2.1, HB3.out.2.2.1, HB3.out.2.2.2⟩
    case round =>
      obtain ⟨k, hk, rfl, hown, hns, hne, hS, hE, hb⟩ := hrel
      clear HB3
      obtain ⟨Av, cv, rfl, _, _⟩ := own_slice hown
      by_cases hlt : k < p.length
      · obtain ⟨ap, hA', hc⟩ := (HRW.out.2.below hb).nat hlt
        have hj : p[k] < js.length := perm_lt HX.out.2.2 (List.getElem_mem hlt)
        have hk0 : (0 : Int) ≤ k := by omega
        have hk1 : (k : Int) < p.length := by omega
        have hel : p[k] < (endsL js p).length := by rw [endsL_len]; exact hj
        have hsl : p[k] < (startsL js p).length := by rw [startsL_len]; exact hj
        have hce := hE.int hel
        have hcs := hS.int hsl
        have hsp := spOfL_at js p k hlt
        rw [getD_at _ 0 hel, getD_at _ 0 hsl] at hsp
        have hkl : k < (spOfL js p).length := by rw [spOfL_len]; exact hlt
        have hT := spc_take_snoc (spOfL js p) k hkl
        rw [hsp] at hT
        have hsz := hb.size
        obtain ⟨hi, hz0, hz1, hz2⟩ := HI.out
        obtain ⟨v', w7, hrun, hown', hgrow, hat⟩ := append_at (P := Try.prog) (wr.drew.alloc (.cells #[.int .i64 (p[k] : Int), .int .i64 (startsL js p)[p[k]], .int .i64 (endsL js p)[p[k]]] 70)) w.heap.size 30 30 70 i0 (.agg #[.int .i64 0, .int .i64 0, .int .i64 0]) 3 24 Try.underlying30 hi hz0 hz1 hz2 rfl (by decide) (.slice Av k cv) k (spc ((spOfL js p).take k)) (World.ownsRow.alloc (w := wr.drew) hown _) ⟨wr.heap.size, 0, none⟩ 1 1 (cellsSp ⟨(p[k] : Int), (startsL js p)[p[k]], (endsL js p)[p[k]]⟩) rfl (cell_span_new wr.drew _ ⟨(p[k] : Int), (startsL js p)[p[k]], (endsL js p)[p[k]]⟩) (by intro u hu; simp [cellsSp] at hu; rcases hu with rfl | rfl | rfl <;> rfl) (by omega) (by have hmx : (8 : Nat) + 1 ≤ maxLen := (by unfold maxLen; omega); omega) (by omega) (by show w.heap.size ≤ _; simp; omega)
        rw [hT] at hown'
        have hbd : Below wr.heap.size wr wr.drew := (Below.refl _ _).drew
        have hb7 := app_grown (w := w) (wr := wr.drew) (hb.drew) hsz hown hgrow
        have hs7 := app_block (wr := wr.drew) hS hgrow hns
        have he7 := app_block (wr := wr.drew) hE hgrow hne
        have hns7 := app_ne (wr := wr.drew) hS.lt hns hat
        have hne7 := app_ne (wr := wr.drew) hE.lt hne hat
        have HF := Lib.hid (And.intro hown' (And.intro hns7 (And.intro hne7 (And.intro hs7 (And.intro he7 hb7)))))
        have HRUN := Lib.hid hrun
        have hq0 : (0 : Int) ≤ p[k] := by omega
        have hq1 : (p[k] : Int) < js.length := by omega
        obtain ⟨a7, hA7, hc7⟩ := (HRW.out.2.below hb7).nat hlt
        subst hA'
        injection hA7 with hA7
        subst hA7
        have hbW : Below wr.heap.size wr (wr.drew.alloc (.cells #[.int .i64 (p[k] : Int), .int .i64 (startsL js p)[p[k]], .int .i64 (endsL js p)[p[k]]] 70)) := hbd.alloc (Nat.le_refl _) _
        have hcl := lt_of_cell hc
        have HC0 : Hid (wr.drew.cell? (ap.add k) = some (.int .i64 (p[k] : Int)) ∧ wr.drew.cell? ⟨gs, p[k], none⟩ = some (.int .i64 (startsL js p)[p[k]]) ∧ wr.drew.cell? ⟨ge, p[k], none⟩ = some (.int .i64 (endsL js p)[p[k]])) := ⟨hc, hcs, hce⟩
        have HC1 := Lib.hid (And.intro ((hbW.cell (p := ap.add k) hcl).trans hc) (And.intro ((hbW.cell (p := ⟨gs, p[k], none⟩) hS.lt).trans hcs) ((hbW.cell (p := ⟨ge, p[k], none⟩) hE.lt).trans hce)))
        have HC7 := Lib.hid (And.intro hc7 (And.intro (hs7.int hsl) (he7.int hel)))
        clear hbW hcl hc7 hc hcs hce
        clear hown hns hne hS hE hb hT hsp hown' hgrow hat hb7 hs7 he7 hns7 hne7 hrun hi hz0 hz1 hz2 hkl
        generalize (endsL js p)[p[k]] = en at *
        generalize (startsL js p)[p[k]] = st at *
        generalize p[k] = q at *
        go_wp2
        refine wp_region_detL (by kernel_rfl) (fun L w' => (L.getD 20 true = false → w' = wr.drew) ∧ (L.getD 20 true = true → L.getD 21 true = false → w' = (wr.drew.alloc (.cells #[.int .i64 (q : Int), .int .i64 st, .int .i64 en] 70))) ∧ (L.getD 21 true = true → w' = w7) ∧ w'.cell? (ap.add k) = some (.int .i64 (q : Int)) ∧ w'.cell? ⟨gs, q, none⟩ = some (.int .i64 st) ∧ w'.cell? ⟨ge, q, none⟩ = some (.int .i64 en))
          (fun kk => #[.slice Av k cv, .slice (some ap) p.length d, .int .i64 (k : Int), .pointer (some (ap.add k)), .int .i64 (q : Int), .slice (some ⟨gs, 0, none⟩) js.length js.length, .slice (some ap) p.length d, .int .i64 (k : Int), .pointer (some (ap.add k)), .int .i64 (q : Int), .pointer (some ⟨gs, q, none⟩), .int .i64 st, .slice (some ⟨ge, 0, none⟩) js.length js.length, .slice (some ap) p.length d, .int .i64 (k : Int), .pointer (some (ap.add k)), .int .i64 (q : Int), .pointer (some ⟨ge, q, none⟩), .int .i64 en, .agg #[.int .i64 (q : Int), .int .i64 st, .int .i64 en], .slice (some ⟨wr.heap.size, 0, none⟩) 1 1, v', v'].getD kk undef) (by kernel_rfl) (by kernel_rfl) ⟨fun _ => rfl, (fun h => by cases h), (fun h => by cases h), HC0.out.1, HC0.out.2.1, HC0.out.2.2⟩ ?_ ?_
        · intro L tm w' hall hS hsz hlow hval
          have ht : tm = #[.slice A js.length c, .slice (some ap) p.length d, undef, undef, .slice none 0 0, .bool false, v', .slice (some ⟨gs, 0, none⟩) js.length js.length, .slice (some ⟨ge, 0, none⟩) js.length js.length, .int .i64 (k : Int), .slice (some ⟨w.heap.size, 0, none⟩) 0 0, .slice A js.length c, .slice (some ap) p.length d, .bool true, .bool false, undef, .slice A js.length c, .slice (some ap) p.length d, .slice (some ⟨gs, 0, none⟩) js.length js.length, .slice A js.length c, .slice (some ap) p.length d, .slice (some ⟨ge, 0, none⟩) js.length js.length, .int .i64 (k : Int), .slice (some ap) p.length d, .int .i64 (p.length : Int), .bool true, u26, u27, .slice Av k cv, .slice (some ap) p.length d, .int .i64 (k : Int), .pointer (some (ap.add k)), .int .i64 (q : Int), .slice (some ⟨gs, 0, none⟩) js.length js.length, .slice (some ap) p.length d, .int .i64 (k : Int), .pointer (some (ap.add k)), .int .i64 (q : Int), .pointer (some ⟨gs, q, none⟩), .int .i64 st, .slice (some ⟨ge, 0, none⟩) js.length js.length, .slice (some ap) p.length d, .int .i64 (k : Int), .pointer (some (ap.add k)), .int .i64 (q : Int), .pointer (some ⟨ge, q, none⟩), .int .i64 en, .agg #[.int .i64 (q : Int), .int .i64 st, .int .i64 en], .slice (some ⟨wr.heap.size, 0, none⟩) 1 1, v', undef] := by
            refine arr_of _ _ hsz fun t ht => ?_
            have ht' : t < 51 := ht
            rcases (by omega : t = 0 ∨ t = 1 ∨ t = 2 ∨ t = 3 ∨ t = 4 ∨ t = 5 ∨ t = 6 ∨ t = 7 ∨ t = 8 ∨ t = 9 ∨ t = 10 ∨ t = 11 ∨ t = 12 ∨ t = 13 ∨ t = 14 ∨ t = 15 ∨ t = 16 ∨ t = 17 ∨ t = 18 ∨ t = 19 ∨ t = 20 ∨ t = 21 ∨ t = 22 ∨ t = 23 ∨ t = 24 ∨ t = 25 ∨ t = 26 ∨ t = 27 ∨ t = 28 ∨ t = 29 ∨ t = 30 ∨ t = 31 ∨ t = 32 ∨ t = 33 ∨ t = 34 ∨ t = 35 ∨ t = 36 ∨ t = 37 ∨ t = 38 ∨ t = 39 ∨ t = 40 ∨ t = 41 ∨ t = 42 ∨ t = 43 ∨ t = 44 ∨ t = 45 ∨ t = 46 ∨ t = 47 ∨ t = 48 ∨ t = 49 ∨ t = 50) with rfl | rfl | rfl | rfl | rfl | rfl | rfl | rfl | rfl | rfl | rfl | rfl | rfl | rfl | rfl | rfl | rfl | rfl | rfl | rfl | rfl | rfl | rfl | rfl | rfl | rfl | rfl | rfl | rfl | rfl | rfl | rfl | rfl | rfl | rfl | rfl | rfl | rfl | rfl | rfl | rfl | rfl | rfl | rfl | rfl | rfl | rfl | rfl | rfl | rfl | rfl
            · exact hlow 0 (by kernel_rfl)
            · exact hlow 1 (by kernel_rfl)
            · exact hlow 2 (by kernel_rfl)
            · exact hlow 3 (by kernel_rfl)
            · exact hlow 4 (by kernel_rfl)
            · exact hlow 5 (by kernel_rfl)
            · exact hval 22 _ 6 rfl rfl
            · exact hlow 7 (by kernel_rfl)
            · exact hlow 8 (by kernel_rfl)
            · exact hlow 9 (by kernel_rfl)
            · exact hlow 10 (by kernel_rfl)
            · exact hlow 11 (by kernel_rfl)
            · exact hlow 12 (by kernel_rfl)
            · exact hlow 13 (by kernel_rfl)
            · exact hlow 14 (by kernel_rfl)
            · exact hlow 15 (by kernel_rfl)
            · exact hlow 16 (by kernel_rfl)
            · exact hlow 17 (by kernel_rfl)
            · exact hlow 18 (by kernel_rfl)
            · exact hlow 19 (by kernel_rfl)
            · exact hlow 20 (by kernel_rfl)
            · exact hlow 21 (by kernel_rfl)
            · exact hlow 22 (by kernel_rfl)
            · exact hlow 23 (by kernel_rfl)
            · exact hlow 24 (by kernel_rfl)
            · exact hlow 25 (by kernel_rfl)
            · exact hlow 26 (by kernel_rfl)
            · exact hlow 27 (by kernel_rfl)
            · exact hval 0 _ 28 rfl rfl
            · exact hval 1 _ 29 rfl rfl
            · exact hval 2 _ 30 rfl rfl
            · exact hval 3 _ 31 rfl rfl
            · exact hval 4 _ 32 rfl rfl
            · exact hval 5 _ 33 rfl rfl
            · exact hval 6 _ 34 rfl rfl
            · exact hval 7 _ 35 rfl rfl
            · exact hval 8 _ 36 rfl rfl
            · exact hval 9 _ 37 rfl rfl
            · exact hval 10 _ 38 rfl rfl
            · exact hval 11 _ 39 rfl rfl
            · exact hval 12 _ 40 rfl rfl
            · exact hval 13 _ 41 rfl rfl
            · exact hval 14 _ 42 rfl rfl
            · exact hval 15 _ 43 rfl rfl
            · exact hval 16 _ 44 rfl rfl
            · exact hval 17 _ 45 rfl rfl
            · exact hval 18 _ 46 rfl rfl
            · exact hval 19 _ 47 rfl rfl
            · exact hval 20 _ 48 rfl rfl
            · exact hval 21 _ 49 rfl rfl
            · exact hlow 50 (by kernel_rfl)
          subst ht
          clear hlow hval hsz
          obtain ⟨_, _, h7, _⟩ := hS
          obtain rfl := h7 (hall 21 (by decide))
          go_wp2
          go_roundw
          case rel => exact ⟨k + 1, by omega, by go_num, HF.out.1, HF.out.2.1, HF.out.2.2.1, HF.out.2.2.2.1, HF.out.2.2.2.2.1, HF.out.2.2.2.2.2⟩
          case measure => simp [intOf]; omega
        · intro L a w' kk op hLs ho hLi hLd hLn ⟨hS1, hS2, hS3, c0, c1, c2⟩ hlow hdep hold
          have hkk : kk < 23 := (Array.getElem?_eq_some_iff.1 ho).1
          have l1 : a.tmps[1]?.getD undef = .slice (some ap) p.length d := by rw [← Array.getD_eq_getD_getElem?]; exact hlow 1 (by kernel_rfl)
          have l7 : a.tmps[7]?.getD undef = .slice (some ⟨gs, 0, none⟩) js.length js.length := by rw [← Array.getD_eq_getD_getElem?]; exact hlow 7 (by kernel_rfl)
          have l8 : a.tmps[8]?.getD undef = .slice (some ⟨ge, 0, none⟩) js.length js.length := by rw [← Array.getD_eq_getD_getElem?]; exact hlow 8 (by kernel_rfl)
          have l9 : a.tmps[9]?.getD undef = .int .i64 (k : Int) := by rw [← Array.getD_eq_getD_getElem?]; exact hlow 9 (by kernel_rfl)
          have D : ∀ j oj d, edgeB _ kk j = true → _ → _ → a.tmps[d]?.getD undef = _ := fun j oj d h1 h2 h3 => (Array.getD_eq_getD_getElem? ..).symm.trans (hdep j oj d h1 h2 h3)
          rcases (by omega : kk = 0 ∨ kk = 1 ∨ kk = 2 ∨ kk = 3 ∨ kk = 4 ∨ kk = 5 ∨ kk = 6 ∨ kk = 7 ∨ kk = 8 ∨ kk = 9 ∨ kk = 10 ∨ kk = 11 ∨ kk = 12 ∨ kk = 13 ∨ kk = 14 ∨ kk = 15 ∨ kk = 16 ∨ kk = 17 ∨ kk = 18 ∨ kk = 19 ∨ kk = 20 ∨ kk = 21 ∨ kk = 22) with rfl | rfl | rfl | rfl | rfl | rfl | rfl | rfl | rfl | rfl | rfl | rfl | rfl | rfl | rfl | rfl | rfl | rfl | rfl | rfl | rfl | rfl | rfl
          · obtain rfl := Option.some.inj ho
            have l6 : a.tmps[6]?.getD undef = .slice Av k cv := (Array.getD_eq_getD_getElem? ..).symm.trans (hold 22 _ 6 (by kernel_rfl) rfl rfl)
            exact ⟨rfl, .inl ⟨w', by simp [execOp, Act.eval, l6, go_sem], ⟨fun h => hS1 (by rw [set_ne (by decide)] at h; exact h), fun h h2 => hS2 (by rw [set_ne (by decide)] at h; exact h) (by rw [set_ne (by decide)] at h2; exact h2), fun h => hS3 (by rw [set_ne (by decide)] at h; exact h), c0, c1, c2⟩⟩⟩
          · obtain rfl := Option.some.inj ho
            exact ⟨rfl, .inl ⟨w', by simp [execOp, Act.eval, l1, go_sem], ⟨fun h => hS1 (by rw [set_ne (by decide)] at h; exact h), fun h h2 => hS2 (by rw [set_ne (by decide)] at h; exact h) (by rw [set_ne (by decide)] at h2; exact h2), fun h => hS3 (by rw [set_ne (by decide)] at h; exact h), c0, c1, c2⟩⟩⟩
          · obtain rfl := Option.some.inj ho
            exact ⟨rfl, .inl ⟨w', by simp [execOp, Act.eval, l9, go_sem], ⟨fun h => hS1 (by rw [set_ne (by decide)] at h; exact h), fun h h2 => hS2 (by rw [set_ne (by decide)] at h; exact h) (by rw [set_ne (by decide)] at h2; exact h2), fun h => hS3 (by rw [set_ne (by decide)] at h; exact h), c0, c1, c2⟩⟩⟩
          · obtain rfl := Option.some.inj ho
            have e29 : a.tmps[29]?.getD undef = .slice (some ap) p.length d := D 1 _ 29 (by kernel_rfl) rfl rfl
            have e30 : a.tmps[30]?.getD undef = .int .i64 (k : Int) := D 2 _ 30 (by kernel_rfl) rfl rfl
            exact ⟨rfl, .inl ⟨w', by simp [execOp, Act.eval, e29, e30, hk0, hk1, go_sem], ⟨fun h => hS1 (by rw [set_ne (by decide)] at h; exact h), fun h h2 => hS2 (by rw [set_ne (by decide)] at h; exact h) (by rw [set_ne (by decide)] at h2; exact h2), fun h => hS3 (by rw [set_ne (by decide)] at h; exact h), c0, c1, c2⟩⟩⟩
          · obtain rfl := Option.some.inj ho
            have e31 : a.tmps[31]?.getD undef = .pointer (some (ap.add k)) := D 3 _ 31 (by kernel_rfl) rfl rfl
            exact ⟨rfl, .inl ⟨w', by simp [execOp, Act.eval, e31, c0, go_sem], ⟨fun h => hS1 (by rw [set_ne (by decide)] at h; exact h), fun h h2 => hS2 (by rw [set_ne (by decide)] at h; exact h) (by rw [set_ne (by decide)] at h2; exact h2), fun h => hS3 (by rw [set_ne (by decide)] at h; exact h), c0, c1, c2⟩⟩⟩
          · obtain rfl := Option.some.inj ho
            exact ⟨rfl, .inl ⟨w', by simp [execOp, Act.eval, l7, go_sem], ⟨fun h => hS1 (by rw [set_ne (by decide)] at h; exact h), fun h h2 => hS2 (by rw [set_ne (by decide)] at h; exact h) (by rw [set_ne (by decide)] at h2; exact h2), fun h => hS3 (by rw [set_ne (by decide)] at h; exact h), c0, c1, c2⟩⟩⟩
          · obtain rfl := Option.some.inj ho
            exact ⟨rfl, .inl ⟨w', by simp [execOp, Act.eval, l1, go_sem], ⟨fun h => hS1 (by rw [set_ne (by decide)] at h; exact h), fun h h2 => hS2 (by rw [set_ne (by decide)] at h; exact h) (by rw [set_ne (by decide)] at h2; exact h2), fun h => hS3 (by rw [set_ne (by decide)] at h; exact h), c0, c1, c2⟩⟩⟩
          · obtain rfl := Option.some.inj ho
            exact ⟨rfl, .inl ⟨w', by simp [execOp, Act.eval, l9, go_sem], ⟨fun h => hS1 (by rw [set_ne (by decide)] at h; exact h), fun h h2 => hS2 (by rw [set_ne (by decide)] at h; exact h) (by rw [set_ne (by decide)] at h2; exact h2), fun h => hS3 (by rw [set_ne (by decide)] at h; exact h), c0, c1, c2⟩⟩⟩
          · obtain rfl := Option.some.inj ho
            have e34 : a.tmps[34]?.getD undef = .slice (some ap) p.length d := D 6 _ 34 (by kernel_rfl) rfl rfl
            have e35 : a.tmps[35]?.getD undef = .int .i64 (k : Int) := D 7 _ 35 (by kernel_rfl) rfl rfl
            exact ⟨rfl, .inl ⟨w', by simp [execOp, Act.eval, e34, e35, hk0, hk1, go_sem], ⟨fun h => hS1 (by rw [set_ne (by decide)] at h; exact h), fun h h2 => hS2 (by rw [set_ne (by decide)] at h; exact h) (by rw [set_ne (by decide)] at h2; exact h2), fun h => hS3 (by rw [set_ne (by decide)] at h; exact h), c0, c1, c2⟩⟩⟩
          · obtain rfl := Option.some.inj ho
            have e36 : a.tmps[36]?.getD undef = .pointer (some (ap.add k)) := D 8 _ 36 (by kernel_rfl) rfl rfl
            exact ⟨rfl, .inl ⟨w', by simp [execOp, Act.eval, e36, c0, go_sem], ⟨fun h => hS1 (by rw [set_ne (by decide)] at h; exact h), fun h h2 => hS2 (by rw [set_ne (by decide)] at h; exact h) (by rw [set_ne (by decide)] at h2; exact h2), fun h => hS3 (by rw [set_ne (by decide)] at h; exact h), c0, c1, c2⟩⟩⟩
          · obtain rfl := Option.some.inj ho
            have e33 : a.tmps[33]?.getD undef = .slice (some ⟨gs, 0, none⟩) js.length js.length := D 5 _ 33 (by kernel_rfl) rfl rfl
            have e37 : a.tmps[37]?.getD undef = .int .i64 (q : Int) := D 9 _ 37 (by kernel_rfl) rfl rfl
            exact ⟨rfl, .inl ⟨w', by simp [execOp, Act.eval, e33, e37, hq0, hq1, go_sem], ⟨fun h => hS1 (by rw [set_ne (by decide)] at h; exact h), fun h h2 => hS2 (by rw [set_ne (by decide)] at h; exact h) (by rw [set_ne (by decide)] at h2; exact h2), fun h => hS3 (by rw [set_ne (by decide)] at h; exact h), c0, c1, c2⟩⟩⟩
          · obtain rfl := Option.some.inj ho
            have e38 : a.tmps[38]?.getD undef = .pointer (some ⟨gs, q, none⟩) := D 10 _ 38 (by kernel_rfl) rfl rfl
            exact ⟨rfl, .inl ⟨w', by simp [execOp, Act.eval, e38, c1, go_sem], ⟨fun h => hS1 (by rw [set_ne (by decide)] at h; exact h), fun h h2 => hS2 (by rw [set_ne (by decide)] at h; exact h) (by rw [set_ne (by decide)] at h2; exact h2), fun h => hS3 (by rw [set_ne (by decide)] at h; exact h), c0, c1, c2⟩⟩⟩
          · obtain rfl := Option.some.inj ho
            exact ⟨rfl, .inl ⟨w', by simp [execOp, Act.eval, l8, go_sem], ⟨fun h => hS1 (by rw [set_ne (by decide)] at h; exact h), fun h h2 => hS2 (by rw [set_ne (by decide)] at h; exact h) (by rw [set_ne (by decide)] at h2; exact h2), fun h => hS3 (by rw [set_ne (by decide)] at h; exact h), c0, c1, c2⟩⟩⟩
          · obtain rfl := Option.some.inj ho
            exact ⟨rfl, .inl ⟨w', by simp [execOp, Act.eval, l1, go_sem], ⟨fun h => hS1 (by rw [set_ne (by decide)] at h; exact h), fun h h2 => hS2 (by rw [set_ne (by decide)] at h; exact h) (by rw [set_ne (by decide)] at h2; exact h2), fun h => hS3 (by rw [set_ne (by decide)] at h; exact h), c0, c1, c2⟩⟩⟩
          · obtain rfl := Option.some.inj ho
            exact ⟨rfl, .inl ⟨w', by simp [execOp, Act.eval, l9, go_sem], ⟨fun h => hS1 (by rw [set_ne (by decide)] at h; exact h), fun h h2 => hS2 (by rw [set_ne (by decide)] at h; exact h) (by rw [set_ne (by decide)] at h2; exact h2), fun h => hS3 (by rw [set_ne (by decide)] at h; exact h), c0, c1, c2⟩⟩⟩
          · obtain rfl := Option.some.inj ho
            have e41 : a.tmps[41]?.getD undef = .slice (some ap) p.length d := D 13 _ 41 (by kernel_rfl) rfl rfl
            have e42 : a.tmps[42]?.getD undef = .int .i64 (k : Int) := D 14 _ 42 (by kernel_rfl) rfl rfl
            exact ⟨rfl, .inl ⟨w', by simp [execOp, Act.eval, e41, e42, hk0, hk1, go_sem], ⟨fun h => hS1 (by rw [set_ne (by decide)] at h; exact h), fun h h2 => hS2 (by rw [set_ne (by decide)] at h; exact h) (by rw [set_ne (by decide)] at h2; exact h2), fun h => hS3 (by rw [set_ne (by decide)] at h; exact h), c0, c1, c2⟩⟩⟩
          · obtain rfl := Option.some.inj ho
            have e43 : a.tmps[43]?.getD undef = .pointer (some (ap.add k)) := D 15 _ 43 (by kernel_rfl) rfl rfl
            exact ⟨rfl, .inl ⟨w', by simp [execOp, Act.eval, e43, c0, go_sem], ⟨fun h => hS1 (by rw [set_ne (by decide)] at h; exact h), fun h h2 => hS2 (by rw [set_ne (by decide)] at h; exact h) (by rw [set_ne (by decide)] at h2; exact h2), fun h => hS3 (by rw [set_ne (by decide)] at h; exact h), c0, c1, c2⟩⟩⟩
          · obtain rfl := Option.some.inj ho
            have e40 : a.tmps[40]?.getD undef = .slice (some ⟨ge, 0, none⟩) js.length js.length := D 12 _ 40 (by kernel_rfl) rfl rfl
            have e44 : a.tmps[44]?.getD undef = .int .i64 (q : Int) := D 16 _ 44 (by kernel_rfl) rfl rfl
            exact ⟨rfl, .inl ⟨w', by simp [execOp, Act.eval, e40, e44, hq0, hq1, go_sem], ⟨fun h => hS1 (by rw [set_ne (by decide)] at h; exact h), fun h h2 => hS2 (by rw [set_ne (by decide)] at h; exact h) (by rw [set_ne (by decide)] at h2; exact h2), fun h => hS3 (by rw [set_ne (by decide)] at h; exact h), c0, c1, c2⟩⟩⟩
          · obtain rfl := Option.some.inj ho
            have e45 : a.tmps[45]?.getD undef = .pointer (some ⟨ge, q, none⟩) := D 17 _ 45 (by kernel_rfl) rfl rfl
            exact ⟨rfl, .inl ⟨w', by simp [execOp, Act.eval, e45, c2, go_sem], ⟨fun h => hS1 (by rw [set_ne (by decide)] at h; exact h), fun h h2 => hS2 (by rw [set_ne (by decide)] at h; exact h) (by rw [set_ne (by decide)] at h2; exact h2), fun h => hS3 (by rw [set_ne (by decide)] at h; exact h), c0, c1, c2⟩⟩⟩
          · obtain rfl := Option.some.inj ho
            have e32 : a.tmps[32]?.getD undef = .int .i64 (q : Int) := D 4 _ 32 (by kernel_rfl) rfl rfl
            have e39 : a.tmps[39]?.getD undef = .int .i64 st := D 11 _ 39 (by kernel_rfl) rfl rfl
            have e46 : a.tmps[46]?.getD undef = .int .i64 en := D 18 _ 46 (by kernel_rfl) rfl rfl
            exact ⟨rfl, .inl ⟨w', by simp [execOp, Act.eval, e32, e39, e46, go_sem], ⟨fun h => hS1 (by rw [set_ne (by decide)] at h; exact h), fun h h2 => hS2 (by rw [set_ne (by decide)] at h; exact h) (by rw [set_ne (by decide)] at h2; exact h2), fun h => hS3 (by rw [set_ne (by decide)] at h; exact h), c0, c1, c2⟩⟩⟩
          · obtain rfl := Option.some.inj ho
            have e47 : a.tmps[47]?.getD undef = .agg #[.int .i64 (q : Int), .int .i64 st, .int .i64 en] := D 19 _ 47 (by kernel_rfl) rfl rfl
            obtain rfl := hS1 hLi
            have n21 : L.getD 21 true = false := hLn 21 (by kernel_rfl)
            refine ⟨rfl, .inl ⟨(wr.drew.alloc (.cells #[.int .i64 (q : Int), .int .i64 st, .int .i64 en] 70)), by simp [execOp, Act.eval, e47, go_sem], fun h => ?_, fun _ _ => rfl, fun h => ?_, HC1.out.1, HC1.out.2.1, HC1.out.2.2⟩⟩
            · rw [set_eq (by rw [hLs]; decide)] at h; cases h
            · rw [set_ne (by decide), n21] at h; cases h
          · obtain rfl := Option.some.inj ho
            have e28 : a.tmps[28]?.getD undef = .slice Av k cv := D 0 _ 28 (by kernel_rfl) rfl rfl
            have e48 : a.tmps[48]?.getD undef = .slice (some ⟨wr.heap.size, 0, none⟩) 1 1 := D 20 _ 48 (by kernel_rfl) rfl rfl
            obtain rfl := hS2 (hLd 20 (by kernel_rfl)) hLi
            refine ⟨rfl, .inl ⟨w7, exec_appendS rfl ((Array.getD_eq_getD_getElem? ..).trans e28) ((Array.getD_eq_getD_getElem? ..).trans e48) HRUN.out, fun h => ?_, fun _ h => ?_, fun _ => rfl, HC7.out.1, HC7.out.2.1, HC7.out.2.2⟩⟩
            · rw [set_ne (by decide), hLd 20 (by kernel_rfl)] at h; cases h
            · rw [set_eq (by rw [hLs]; decide)] at h; cases h
          · obtain rfl := Option.some.inj ho
            have e49 : a.tmps[49]?.getD undef = v' := D 21 _ 49 (by kernel_rfl) rfl rfl
            exact ⟨rfl, .inl ⟨w', by simp [execOp, Act.eval, e49, go_sem], ⟨fun h => hS1 (by rw [set_ne (by decide)] at h; exact h), fun h h2 => hS2 (by rw [set_ne (by decide)] at h; exact h) (by rw [set_ne (by decide)] at h2; exact h2), fun h => hS3 (by rw [set_ne (by decide)] at h; exact h), c0, c1, c2⟩⟩⟩
      · obtain rfl : k = p.length := by omega
        rw [List.take_of_length_le (by rw [spOfL_len]; omega)] at hown
        have HO := Lib.hid (And.intro hown hb)
        have HL := Lib.hid (spOfL_len js p)
        clear hown hns hne hS hE hb
        go_wp2
        go_ret2
        exact ret_ownT HR.out HL.out HO.out.1 HO.out.2 _ rfl
end
end Go.Proofs.Ytpjjjbkjkhcbdaa
