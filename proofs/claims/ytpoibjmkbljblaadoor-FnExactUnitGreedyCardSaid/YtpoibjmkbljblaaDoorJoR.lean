/- slices.SortStableFunc at the ranks; fallingOrder. -/
import Derived.Test.YtpoibjmkbljblaaDoorJoS
import Derived.Test.YtpoibjmkbljblaaDoorKb2
import Derived.Test.YtpoibjmkbljblaaDoorKb1
namespace Go.Proofs.YtpoibjmkbljblaaDoor
open Go.RowKit
theorem insSort0J (B : Option Addr) (d : Nat) (fv : Value) (w : World) :
    Calls Tryd.prog 169 #[.slice B 0 d, .int .i64 0, .int .i64 0, fv] w fun e w' => e = .returned (.tuple #[]) ∧ w = w' := by
  go_enter Tryd.func169, Tryd.ntmps169
  go_wp2
  refine wp_loop_rounds 1 ?_
  rw [rounds_succ]
  go_wp2
  go_end0
  exact ⟨rfl, rfl⟩
theorem stable_any (P : World → Prop) (B : Option Addr) (n d : Nat) (fv : Value) (w : World) (hn : n ≤ 12)
    (hI : Calls Tryd.prog 169 #[.slice B n d, .int .i64 0, .int .i64 (n : Int), fv] w fun e w' => e = .returned (.tuple #[]) ∧ P w') :
    Calls Tryd.prog 151 #[.slice B n d, .int .i64 (n : Int), fv] w fun e w' => e = .returned (.tuple #[]) ∧ P w' := by
  have HI := Lib.hid hI
  clear hI
  have h1 : ¬ (20 : Int) ≤ n := by omega
  have h2 : ¬ (20 : Int) < n := by omega
  go_enter Tryd.func151, Tryd.ntmps151
  go_wp2
  refine wp_loop_rounds 1 ?_
  rw [rounds_succ]
  go_wp2_with fail
  refine HI.out.mono ?_
  rintro e w' ⟨rfl, hp⟩
  have HP := Lib.hid hp
  clear hp
  go_wp2
  refine wp_loop_rounds 1 ?_
  rw [rounds_succ]
  go_wp2
  first
    | (refine bodyPost_ret (results_none rfl _ _ _) rfl ?_; exact ⟨rfl, HP.out⟩)
    | (go_end0; exact ⟨rfl, HP.out⟩)
theorem sortStable_any (P : World → Prop) (B : Option Addr) (n d : Nat) (fv : Value) (w : World) (hn : n ≤ 12)
    (hI : Calls Tryd.prog 169 #[.slice B n d, .int .i64 0, .int .i64 (n : Int), fv] w fun e w' => e = .returned (.tuple #[]) ∧ P w') :
    Calls Tryd.prog 120 #[.slice B n d, fv] w fun e w' => e = .returned (.tuple #[]) ∧ P w' := by
  have HI := Lib.hid (stable_any P B n d fv w hn hI)
  clear hI
  go_enter Tryd.func120, Tryd.ntmps120
  go_wp2_with fail
  refine HI.out.mono ?_
  rintro e w' ⟨rfl, hp⟩
  have HP := Lib.hid hp
  clear hp
  go_wp2
  go_end0
  exact ⟨rfl, HP.out⟩
theorem sortJ_own {rk : Nat → Int} {n0 gr cR : Nat} {R : Option Addr} (hrk : ∀ i, 0 ≤ rk i ∧ rk i ≤ 1000) (B0 : Nat) (w : World) (hr : RkIs rk n0 gr R cR w) (B : Option Addr) (d : Nat) (q : List Nat) (hown : w.ownsRow B0 3 1 (.slice B q.length d) q.length (ic (natI q))) (hq : ∀ x ∈ q, x < n0) (hup : ∀ k (hk : k < q.length), ∀ a ∈ q.take k, a < q[k]) (hd : q.Nodup) (hl : q.length ≤ 12) (hA : gr < B0 ∧ ∀ a, R = some a → 0 < n0 → a.block < B0) :
    Calls Tryd.prog 120 #[.slice B q.length d, .func (.func 121) #[] #[.pointer (some ⟨gr, 0, none⟩)]] w fun e w' => e = .returned (.tuple #[]) ∧ (w'.ownsRow B0 3 1 (.slice B q.length d) q.length (ic (natI (joL rk q))) ∧ Below B0 w w') := by
  refine sortStable_any (fun w' => w'.ownsRow B0 3 1 (.slice B q.length d) q.length (ic (natI (joL rk q))) ∧ Below B0 w w') B q.length d _ w hl ?_
  by_cases h0 : q.length = 0
  · have hq0 : q = [] := List.eq_nil_of_length_eq_zero h0
    subst hq0
    refine (insSort0J B d _ w).mono ?_
    rintro e w' ⟨rfl, rfl⟩
    exact ⟨rfl, hown, Below.refl _ _⟩
  · obtain ⟨g, cur, rfl, hg, hB, h1, h2, h3, h4⟩ := own_block hown (by omega)
    refine (insSortJ_any hrk w hr g d cur.size q hq hup hd hl ⟨cur, hB, rfl, by rw [Nat.mul_one] at h4; exact h4, World.grownBy.refl _ _⟩ ⟨by have := hA.1; omega, fun a ha hp => by have := hA.2 a ha hp; omega⟩).mono ?_
    rintro e w' ⟨rfl, cur', hB', hs', ht', hG⟩
    refine ⟨rfl, ?_, ⟨hG.os, hG.tape, hG.output, hG.size, fun k hk => hG.block k (by have := hB.lt; omega) (fun e => by injection e; omega)⟩⟩
    have h := hB'.own (base := B0) (n := q.length) (c := d) (size := 1) hg (by rw [hs']; exact h3) h1 h2 (by rw [hs', h3]; omega)
    rw [Nat.mul_one, ht'] at h
    exact h
theorem memB_allJ : ∀ n, n < 9 → memB (2 ^ n - 1) = List.range n := by decide +kernel
set_option maxRecDepth 100000 in
theorem fallingOrder_any (rk : Nat → Int) (hrk : ∀ i, 0 ≤ rk i ∧ rk i ≤ 1000) (R : Option Addr) (n cR : Nat) (w : World) (hn : n ≤ 8) (hr : Row w R (ic ((List.range n).map rk))) (hT : TzTab w) :
    Calls Tryd.prog 76 #[.slice R n cR] w fun e w' => ∃ v, e = .returned v ∧ w'.ownsRow w.heap.size 3 1 v n (ic (natI (joL rk (List.range n)))) ∧ Below w.heap.size w w' := by
  have hpow : 2 ^ n - 1 < 256 := by
    have : 2 ^ n ≤ 2 ^ 8 := Nat.pow_le_pow_right (by omega) hn
    omega
  have hb0 := (Below.refl w.heap.size w).alloc (Nat.le_refl _) (.cells #[.slice R n cR] 23)
  have hT0 := hT.below hb0
  have hsz : (w.alloc (.cells #[.slice R n cR] 23)).heap.size = w.heap.size + 1 := by simp
  have hRk : RkIs rk n w.heap.size R cR (w.alloc (.cells #[.slice R n cR] 23)) := ⟨BlockIs.new _ _ _, hr.below hb0⟩
  have hRb : ∀ a, R = some a → 0 < n → a.block < w.heap.size := fun a ha hp => by
    obtain ⟨ad, e, hb', _⟩ := hr (by rw [ic_len]; simpa using hp)
    rw [ha] at e
    injection e with e
    rw [e]; exact hb'
  have HL : Hid (∀ w1 : World, w1 = w.alloc (.cells #[.slice R n cR] 23) → Calls Tryd.prog 60 #[.int .u64 ((2 ^ n - 1 : Nat) : Int)] w1 fun e w' => ∃ v, e = .returned v ∧ w'.ownsRow (w.heap.size + 1) 3 1 v n (ic (natI (List.range n))) ∧ Below (w.heap.size + 1) w1 w') := fun w1 e1 => by
    subst e1
    have h := list_any (2 ^ n - 1) _ hpow hT0
    rw [memB_allJ n (by omega), List.length_range, hsz] at h
    exact h
  have HSO : Hid (∀ (w1 : World) (B : Option Addr) (d : Nat), Below (w.heap.size + 1) (w.alloc (.cells #[.slice R n cR] 23)) w1 → w1.ownsRow (w.heap.size + 1) 3 1 (.slice B n d) n (ic (natI (List.range n))) → Calls Tryd.prog 120 #[.slice B n d, .func (.func 121) #[] #[.pointer (some ⟨w.heap.size, 0, none⟩)]] w1 fun e w' => e = .returned (.tuple #[]) ∧ (w'.ownsRow (w.heap.size + 1) 3 1 (.slice B n d) n (ic (natI (joL rk (List.range n)))) ∧ Below (w.heap.size + 1) w1 w')) := fun w1 B d hb ho => by
    have h := sortJ_own hrk (w.heap.size + 1) w1 (hRk.below (by rw [hsz]; exact hb)) B d (List.range n) (by rw [List.length_range]; exact ho) (fun x hx => List.mem_range.1 hx) (fun k hk a ha => by
      rw [List.take_range] at ha
      have := List.mem_range.1 ha
      rw [List.getElem_range]
      omega) List.nodup_range (by rw [List.length_range]; omega) ⟨by omega, fun a ha hp => by have := hRb a ha hp; omega⟩
    rw [List.length_range] at h
    exact h
  have HB := Lib.hid (And.intro hb0 hsz)
  have HAJ := Lib.hid (allJobs_any n hn)
  have HBX := Lib.hid hRk.1
  clear hr hT hT0 hRk hRb hrk hb0 hsz hpow
  go_enter Tryd.func76, Tryd.ntmps76
  go_wp2_with fail
  refine (HAJ.out _).mono ?_
  rintro e _ ⟨rfl, rfl⟩
  go_wp2_with fail
  refine (HL.out _ rfl).mono ?_
  rintro e w1 ⟨v, rfl, hown, hb1⟩
  obtain ⟨B, d, rfl, _, _⟩ := own_slice hown
  have HC := Lib.hid (HSO.out w1 B d hb1 hown)
  have HB1 := Lib.hid hb1
  clear hown hb1 HSO HL
  go_wp2_with fail
  refine HC.out.mono ?_
  rintro e w2 ⟨rfl, hown2, hb2⟩
  have HX := Lib.hid (And.intro (own_lower hown2 (Nat.le_succ w.heap.size)) (HB.out.1.trans ((HB1.out.trans hb2).mono (Nat.le_succ _))))
  clear hown2 hb2
  go_wp2
  go_ret
  exact ⟨_, rfl, HX.out.1, HX.out.2⟩
end Go.Proofs.YtpoibjmkbljblaaDoor
