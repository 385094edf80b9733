/- Demands and supplies: the program's. -/
import Derived.Test.YtpoibjmkbljblaaDoorSmo
import Derived.Test.YtpoibjmkbljblaaDoorDmT
namespace Go.Proofs.YtpoibjmkbljblaaDoor
open Go.RowKit
theorem members_any (s : Int) (w : World) : Calls Tryd.prog 99 #[.int .u64 s] w fun e w' => e = .returned (.func (.func 139) #[] #[.pointer (some ⟨w.heap.size, 0, none⟩)]) ∧ w' = w.alloc (.cells #[.int .u64 s] 63) := callsIn_wide.1 (members_in 5 s w)
set_option maxRecDepth 100000 in
set_option maxHeartbeats 1000000 in
theorem demand1_any (A : Option Addr) (c gb x : Nat) (js : List J) (w : World) (hr : Row w A (jc js)) (hb : BlockIs w gb 61 #[.slice A js.length c]) (hx : x < js.length) (hok : ∀ j ∈ js, okJ j = true) :
    Calls Tryd.prog 100 #[.int .i64 (x : Int), .pointer (some ⟨gb, 0, none⟩)] w fun e w' => e = .returned (.int .i64 (sqF js x)) ∧ Below w.heap.size w w' := by
  have d0 := hb.cell 0
  simp only [List.getElem?_toArray, List.getElem?_cons_zero] at d0
  obtain ⟨ad, rfl, hz9, cj, cj1, cj2, cj3⟩ := hr.job hx
  have h1 := tmF_bd hok hx
  have h2 := sqF_bd hok hx
  have ht : tmF js x = js[x].t := by unfold tmF; rw [getD_at js j0 hx]
  have HQ : Hid (sqF js x = tmF js x * tmF js x) := rfl
  rw [← ht] at cj
  have hx0 : (0 : Int) ≤ x := by omega
  have hx1 : (x : Int) < js.length := by omega
  clear cj1 cj2 cj3 hz9 hr hb hx hok ht
  generalize sqF js x = q at *
  generalize tmF js x = t at *
  have hw : IntKind.i64.wrap (t * t) = q := by rw [← HQ.out]; exact IntWalk.i64_in q (by omega)
  go_enter Tryd.func100, Tryd.ntmps100
  go_wp2
  go_quiet (fail)
  go_wp2
  go_ret
  exact ⟨rfl, below_drewN (Below.refl _ _) _⟩
set_option maxRecDepth 100000 in
set_option maxHeartbeats 1000000 in
theorem supply1_any (A C : Option Addr) (c b gb x : Nat) (js : List J) (en : List Int) (w : World) (hr : Row w A (jc js)) (he : Row w C (ic en)) (hb : BlockIs w gb 70 #[.slice A js.length c, .slice C en.length b]) (hx : x < js.length) (hok : ∀ j ∈ js, okJ j = true) (hv : vecB js.length en = true) :
    Calls Tryd.prog 103 #[.int .i64 (x : Int), .pointer (some ⟨gb, 0, none⟩)] w fun e w' => e = .returned (.int .i64 (spF js en x)) ∧ Below w.heap.size w w' := by
  have d0 := hb.cell 0
  have d1 := hb.cell 1
  simp only [List.getElem?_toArray, List.getElem?_cons_zero, List.getElem?_cons_succ] at d0 d1
  obtain ⟨ad, rfl, hz9, cj, cj1, cj2, cj3⟩ := hr.job hx
  have hel := (vec_out hv).1
  obtain ⟨ed, rfl, ce⟩ := he.int (k := x) (by omega)
  rw [← getD_at en 0] at ce
  have h2 := spF_bd hok hv hx
  have ht : tmF js x = js[x].t := by unfold tmF; rw [getD_at js j0 hx]
  have HQ : Hid (spF js en x = tmF js x * en.getD x 0) := rfl
  rw [← ht] at cj
  have hx0 : (0 : Int) ≤ x := by omega
  have hx1 : (x : Int) < js.length := by omega
  have hx2 : (x : Int) < en.length := by omega
  clear cj1 cj2 cj3 hz9 hr hb hx hok ht he hv hel
  generalize spF js en x = q at *
  generalize tmF js x = t at *
  generalize en.getD x 0 = ev at *
  have hw : IntKind.i64.wrap (t * ev) = q := by rw [← HQ.out]; exact IntWalk.i64_in q (by omega)
  go_enter Tryd.func103, Tryd.ntmps103
  go_wp2
  go_quiet (fail)
  go_wp2
  go_ret
  exact ⟨rfl, below_drewN (Below.refl _ _) _⟩
section
variable (A : Option Addr) (c s : Nat) (js : List J) (w : World) (hs : s < 256) (hr : Row w A (jc js)) (hok : ∀ j ∈ js, okJ j = true) (hlt : ∀ k, s.testBit k = true → k < js.length) (hT : TzTab w)
include hs hr hok hlt hT
set_option maxRecDepth 100000 in
set_option maxHeartbeats 2000000 in
theorem demand_any : Calls Tryd.prog 50 #[.slice A js.length c, .int .u64 (s : Int)] w fun e w' => e = .returned (.int .i64 (demL js (memB s))) ∧ Below w.heap.size w w' := by
  have HD : Hid (demL js (memB s) = (sumF (tmF js) (memB s) * sumF (tmF js) (memB s) + sumF (sqF js) (memB s)) / 2) := rfl
  have HTB : Hid (timeB js s = sumF (tmF js) (memB s)) := rfl
  obtain ⟨b1, b2, b3⟩ := dem_bd hok (memB s) (fun k hk => hlt k ((memB_mem hs).1 hk)) (memB_len s)
  have hb1 := (Below.refl w.heap.size w).alloc (Nat.le_refl _) (.cells #[.slice A js.length c] 61)
  have hB1 := BlockIs.new w 61 #[.slice A js.length c]
  have hz1 : (w.alloc (.cells #[.slice A js.length c] 61)).heap.size = w.heap.size + 1 := by simp
  have HTM := Lib.hid (timeOf_any A c s js (w.alloc (.cells #[.slice A js.length c] 61)) hs (hr.below hb1) hok hlt (hT.below hb1))
  have HSO := Lib.hid (fun (W : World) (hb : Below (w.heap.size + 1) (w.alloc (.cells #[.slice A js.length c] 61)) W) => by
    have hbw := hb1.trans (hb.mono (Nat.le_succ _))
    have hbA := (Below.refl W.heap.size W).alloc (Nat.le_refl _) (.cells #[.int .u64 (s : Int)] 63)
    have hB2 := (hB1.below (by rw [hz1]; exact hb)).below hbA
    have hbw2 := hbw.trans (hbA.mono hbw.size)
    exact sumOf_any 100 w.heap.size W.heap.size s (sqF js) (W.alloc (.cells #[.int .u64 (s : Int)] 63)) hs (Boxed.new _ _ _) (hT.below hbw2) (enters_of Tryd.func100 (by kernel_rfl) rfl)
      (fun x hx W2 hb2 => demand1_any A c w.heap.size x js W2 (hr.below (hbw2.trans (hb2.mono hbw2.size))) (hB2.below hb2) (hlt x hx) hok)
      (fun x hx => by have := sqF_bd hok (hlt x hx); omega))
  have d0 := hB1.cell 0
  simp only [List.getElem?_toArray, List.getElem?_cons_zero] at d0
  have H1 := Lib.hid (And.intro hb1 hz1)
  rw [HTB.out] at HTM
  rw [hz1] at HTM
  clear hs hr hok hlt hT hB1 hb1 hz1 HTB
  generalize sumF (tmF js) (memB s) = s1 at *
  generalize sumF (sqF js) (memB s) = s2 at *
  obtain ⟨q, hq⟩ : ∃ q, q = s1 * s1 := ⟨_, rfl⟩
  rw [← hq] at b3 HD
  have hw1 : IntKind.i64.wrap (s1 * s1) = q := by rw [← hq]; exact IntWalk.i64_in q (by omega)
  have hw2 := IntWalk.i64_in (q + s2) (by omega)
  have hw3 : IntKind.i64.wrap ((q + s2).tdiv 2) = (q + s2) / 2 := by
    rw [Int.tdiv_eq_ediv_of_nonneg (by omega)]; exact IntWalk.i64_in _ (by omega)
  clear hq
  go_enter Tryd.func50, Tryd.ntmps50
  go_wp2_with fail
  refine HTM.out.mono ?_
  rintro e w2 ⟨rfl, hb2⟩
  have HB2 := Lib.hid (H1.out.1.trans (hb2.mono (Nat.le_succ _)))
  have HS := Lib.hid (HSO.out w2 hb2)
  clear hb2 HTM HSO
  go_wp2_with fail
  refine (members_any _ _).mono ?_
  rintro e _ ⟨rfl, rfl⟩
  go_wp2_with fail
  refine HS.out.mono ?_
  rintro e w3 ⟨rfl, hb3⟩
  have HB3 := Lib.hid ((HB2.out.alloc HB2.out.size (.cells #[.int .u64 (s : Int)] 63)).trans (hb3.mono (HB2.out.alloc HB2.out.size (.cells #[.int .u64 (s : Int)] 63)).size))
  clear hb3 HS
  go_wp2
  go_ret
  exact ⟨by rw [HD.out]; rfl, HB3.out⟩
end
end Go.Proofs.YtpoibjmkbljblaaDoor
