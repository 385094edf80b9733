/- slices.SortFunc at compareDue; the due order of a set: the program's. -/
import Derived.Test.YtllohccpnglloaaDoorSrt
import Derived.Test.YtllohccpnglloaaDoorLst
import Derived.Test.YtllohccpnglloaaDoorShelf
namespace Go.Proofs.YtllohccpnglloaaDoor
open Go.RowKit
theorem insSort0 (B : Option Addr) (d : Nat) (fv : Value) (w : World) :
    Calls Tryd.prog 65 #[.slice B 0 d, .int .i64 0, .int .i64 0, fv] w fun e w' => e = .returned (.tuple #[]) ∧ w = w' := by
  go_enter Tryd.func65, Tryd.ntmps65
  go_wp2
  refine wp_loop_rounds 1 ?_
  rw [rounds_succ]
  go_wp2
  go_end0
  exact ⟨rfl, rfl⟩
theorem pdq_any (P : World → Prop) (B : Option Addr) (n d : Nat) (L : Int) (fv : Value) (w : World) (hn : n ≤ 12)
    (hI : Calls Tryd.prog 65 #[.slice B n d, .int .i64 0, .int .i64 (n : Int), fv] w fun e w' => e = .returned (.tuple #[]) ∧ P w') :
    Calls Tryd.prog 60 #[.slice B n d, .int .i64 0, .int .i64 (n : Int), .int .i64 L, fv] w fun e w' => e = .returned (.tuple #[]) ∧ P w' := by
  have HI := Lib.hid hI
  clear hI
  go_enter Tryd.func60, Tryd.ntmps60
  go_wp2
  refine wp_loop_rounds 1 ?_
  rw [rounds_succ]
  go_wp2_with fail
  refine HI.out.mono ?_
  rintro e w' ⟨rfl, hp⟩
  have HP := Lib.hid hp
  clear hp
  go_wp2
  refine bodyPost_ret (results_none rfl _ _ _) rfl ?_
  exact ⟨rfl, HP.out⟩
theorem sortFunc_any (P : World → Prop) (B : Option Addr) (n d : Nat) (fv : Value) (w : World) (hn : n ≤ 12)
    (hI : Calls Tryd.prog 65 #[.slice B n d, .int .i64 0, .int .i64 (n : Int), fv] w fun e w' => e = .returned (.tuple #[]) ∧ P w') :
    Calls Tryd.prog 47 #[.slice B n d, fv] w fun e w' => e = .returned (.tuple #[]) ∧ P w' := by
  have HI : Hid (∀ L : Int, _) := fun L => pdq_any P B n d L fv w hn hI
  clear hI
  go_enter Tryd.func47, Tryd.ntmps47
  go_wp2_with fail
  refine (Tryd.bits_Len (n : Int) w (by omega) (by omega)).mono ?_
  rintro e w' ⟨rfl, rfl⟩
  go_wp2_with fail
  refine (HI.out _).mono ?_
  rintro e w' ⟨rfl, hp⟩
  have HP := Lib.hid hp
  clear hp
  go_wp2
  go_end0
  exact ⟨rfl, HP.out⟩
section
variable {js : List J} {A : Option Addr} {c : Nat} (hok : ∀ j ∈ js, okJ j = true) (h8 : js.length ≤ 8)
include hok h8
theorem sortD_own (B0 : Nat) (w : World) (hr : Row w A (jc js)) (B : Option Addr) (d : Nat) (q : List Nat) (hown : w.ownsRow B0 3 1 (.slice B q.length d) q.length (ic (natI q))) (hq : ∀ x ∈ q, x < js.length) (hd : q.Nodup) (hl : q.length ≤ 12) (hA : 0 < js.length → ∀ a, A = some a → a.block < B0) :
    Calls Tryd.prog 47 #[.slice B q.length d, .func (.func FCD) #[.slice A js.length c] #[]] w fun e w' => e = .returned (.tuple #[]) ∧ (w'.ownsRow B0 3 1 (.slice B q.length d) q.length (ic (natI (dueL js q))) ∧ Below B0 w w') := by
  refine sortFunc_any (fun w' => w'.ownsRow B0 3 1 (.slice B q.length d) q.length (ic (natI (dueL js q))) ∧ Below B0 w w') B q.length d _ w hl ?_
  by_cases h0 : q.length = 0
  · have hq0 : q = [] := List.eq_nil_of_length_eq_zero h0
    subst hq0
    refine (insSort0 B d _ w).mono ?_
    rintro e w' ⟨rfl, rfl⟩
    exact ⟨rfl, hown, Below.refl _ _⟩
  · obtain ⟨g, cur, rfl, hg, hB, h1, h2, h3, h4⟩ := own_block hown (by omega)
    refine (insSortD_any hok h8 w hr g d cur.size q hq hd hl ⟨cur, hB, rfl, by rw [Nat.mul_one] at h4; exact h4, World.grownBy.refl _ _⟩ (fun hp a ha => by have := hA hp a ha; omega)).mono ?_
    rintro e w' ⟨rfl, cur', hB', hs', ht', hG⟩
    refine ⟨rfl, ?_, ⟨hG.os, hG.tape, hG.output, hG.size, fun k hk => hG.block k (by have := hB.lt; omega) (fun e => by injection e; omega)⟩⟩
    have h := hB'.own (base := B0) (n := q.length) (c := d) (size := 1) hg (by rw [hs']; exact h3) h1 h2 (by rw [hs', h3]; omega)
    rw [Nat.mul_one, ht'] at h
    exact h
end
theorem memB_nodup (s : Nat) : (memB s).Nodup := List.Nodup.sublist List.filter_sublist List.nodup_range
section
variable (A : Option Addr) (c : Nat) (js : List J) (w : World) (hr : Row w A (jc js)) (hok : ∀ j ∈ js, okJ j = true) (h8 : js.length ≤ 8) (s : Nat) (hs : s < 256) (hlt : ∀ k, s.testBit k = true → k < js.length) (hT : TzTab w)
include hr hok h8 hs hlt hT
set_option maxRecDepth 100000 in
theorem dueOrder_any : Calls Tryd.prog 36 #[.slice A js.length c, .int .u64 (s : Int)] w fun e w' => ∃ v, e = .returned v ∧ w'.ownsRow w.heap.size 3 1 v (memB s).length (ic (natI (dueL js (memB s)))) ∧ Below w.heap.size w w' := by
  have HL := Lib.hid (list_any s w hs hT)
  have HSO : Hid (∀ (w1 : World) (B : Option Addr) (d : Nat), Below w.heap.size w w1 → w1.ownsRow w.heap.size 3 1 (.slice B (memB s).length d) (memB s).length (ic (natI (memB s))) → Calls Tryd.prog 47 #[.slice B (memB s).length d, .func (.func FCD) #[.slice A js.length c] #[]] w1 fun e w' => e = .returned (.tuple #[]) ∧ (w'.ownsRow w.heap.size 3 1 (.slice B (memB s).length d) (memB s).length (ic (natI (dueL js (memB s)))) ∧ Below w.heap.size w1 w')) := fun w1 B d hb ho =>
    sortD_own hok h8 w.heap.size w1 (hr.below hb) B d (memB s) ho (fun x hx => hlt x ((memB_mem hs).1 hx)) (memB_nodup s) (by have := memB_len s; omega) (fun hp a ha => by
      obtain ⟨ad, e, hb', _⟩ := hr (by rw [jc_len]; omega)
      rw [ha] at e
      injection e with e
      rw [e]; exact hb')
  clear hr hok hlt hT
  generalize (memB s).length = n at *
  go_enter Tryd.func36, Tryd.ntmps36
  go_wp2_with fail
  refine HL.out.mono ?_
  rintro e w1 ⟨v, rfl, hown, hb1⟩
  obtain ⟨B, d, rfl, _, _⟩ := own_slice hown
  have HC := Lib.hid (HSO.out w1 B d hb1 hown)
  have HB1 := Lib.hid hb1
  clear hown hb1 HSO HL
  go_wp2_with fail
  refine HC.out.mono ?_
  rintro e w2 ⟨rfl, hown2, hb2⟩
  have HX := Lib.hid (And.intro hown2 (HB1.out.trans hb2))
  clear hown2 hb2
  go_wp2
  go_ret
  exact ⟨_, rfl, HX.out.1, HX.out.2⟩
end
end Go.Proofs.YtllohccpnglloaaDoor
