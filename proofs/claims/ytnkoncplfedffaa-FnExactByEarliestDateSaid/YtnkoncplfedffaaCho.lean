/- The rules of choice of the program: ranks, the job that is chosen, the next release. -/
import Derived.Test.YtnkoncplfedffaaChoP
import Derived.Test.YtnkoncplfedffaaRst
import Derived.Test.YtnkoncplfedffaaRegW
import Derived.Test.YtnkoncplfedffaaGood
import Derived.Test.YtnkoncplfedffaaCost
namespace Go.Proofs.Ytnkoncplfedffaa
open Go.RowKit
def fRank (o : Int) : FuncId := if o = 2 then 111 else 112
def rankOf (o : Int) (j : J) (r : Int) : Int := if o = 2 then r else j.d
theorem rank_call (o : Int) (j : J) (r : Int) (w : World) : Calls Try.prog (fRank o) #[.agg #[.int .i64 j.t, .int .i64 j.w, .int .i64 j.r, .int .i64 j.d], .int .i64 r] w fun e w' => e = .returned (.int .i64 (rankOf o j r)) ∧ Below w.heap.size w w' := by
  unfold fRank rankOf
  by_cases h : o = 2
  · rw [if_pos h, if_pos h]
    go_enter Try.func111, Try.ntmps111
    go_wp2
    go_ret
    exact ⟨rfl, (Below.refl _ _).alloc (Nat.le_refl _) _⟩
  · rw [if_neg h, if_neg h]
    go_enter Try.func112, Try.ntmps112
    go_wp2
    go_ret
    exact ⟨rfl, (Below.refl _ _).alloc (Nat.le_refl _) _⟩
theorem rank_func (o : Int) (args : Array Value) (w1 : World) : (callFunc (fRank o) args).run Try.prog w1 = .ok (.enter (fRank o) args) w1 := by
  unfold fRank
  split <;> kernel_rfl
theorem rankOf_at {o : Int} {js : List J} {R : List Int} {k : Nat} (hk : k < js.length) : rankOf o js[k] (R.getD k 0) = chRk js o R k := by
  unfold rankOf chRk dueN; rw [getD_at js j0 hk]
theorem nextTo_yes {js : List J} {now : Int} {k : Nat} (hk : k < js.length) (h : now < js[k].r) : nextTo js now (k + 1) = min (nextTo js now k) js[k].r := by
  rw [nextTo, getD_at js j0 hk, if_pos h]
theorem nextTo_no {js : List J} {now : Int} {k : Nat} (hk : k < js.length) (h : ¬ now < js[k].r) : nextTo js now (k + 1) = nextTo js now k := by
  rw [nextTo, getD_at js j0 hk, if_neg h]
set_option maxRecDepth 100000 in
set_option maxHeartbeats 1000000 in
theorem nextRelease_any (A : Option Addr) (c : Nat) (js : List J) (now : Int) (w : World) (hr : Row w A (jc js)) (hn : js.length ≤ 8) :
    Calls Try.prog 117 #[.slice A js.length c, .int .i64 now] w fun e w' => e = .returned (.int .i64 (nextR js now)) ∧ Below w.heap.size w w' := by
  have HE : Hid (nextR js now = nextTo js now js.length) := rfl
  have H0 : Hid (nextTo js now 0 = 1000) := rfl
  go_enter Try.func117, Try.ntmps117
  go_wp2
  go_loopw [5, 10] (fun b i wr => ∃ (k : Nat) (P : Int), k ≤ js.length ∧ i = .int .i64 (k : Int) ∧ b = .int .i64 P ∧ Hid (nextTo js now k = P) ∧ Below w.heap.size w wr) (fun _ i _ => js.length - (intOf i).toNat)
  case atStart => exact ⟨0, 1000, Nat.zero_le _, rfl, rfl, H0, Below.refl _ _⟩
  case round =>
    obtain ⟨k, P, hk, rfl, rfl, hP, hb⟩ := hrel
    clear H0
    by_cases hlt : k < js.length
    · have hk0 : (0 : Int) ≤ k := by omega
      have hk1 : (k : Int) < js.length := by omega
      obtain ⟨ad, hA, hbl, e0, e1, e2, e3⟩ := (hr.below hb).job hlt
      subst hA
      have HB := Lib.hid (hb.alloc hb.size (.cells #[.int .i64 js[k].t, .int .i64 js[k].w, .int .i64 js[k].r, .int .i64 js[k].d] 52))
      by_cases hlr : now < js[k].r
      · have HN : Hid (nextTo js now (k + 1) = min P js[k].r) := by show _ = _; rw [nextTo_yes hlt hlr, hP.out]
        have d1 : decide (now < js[k].r) = true := decide_eq_true hlr
        clear hr hb hP
        generalize js[k] = j at *
        by_cases hm : j.r < P
        · rw [show min P j.r = j.r by omega] at HN
          go_wp2
          go_roundw
          case rel => exact ⟨k + 1, _, by omega, by go_num, rfl, by first | exact HN | (rw [if_pos hm]; exact HN), HB.out⟩
          case measure => simp [intOf]; omega
        · rw [show min P j.r = P by omega] at HN
          go_wp2
          go_roundw
          case rel => exact ⟨k + 1, _, by omega, by go_num, rfl, by first | exact HN | (rw [if_neg hm]; exact HN), HB.out⟩
          case measure => simp [intOf]; omega
      · have HN : Hid (nextTo js now (k + 1) = P) := (nextTo_no hlt hlr).trans hP.out
        have d1 : decide (now < js[k].r) = false := decide_eq_false hlr
        clear hr hb hP
        generalize js[k] = j at *
        go_wp2
        go_roundw
        case rel => exact ⟨k + 1, P, by omega, by go_num, rfl, HN, HB.out⟩
        case measure => simp [intOf]; omega
    · obtain rfl : k = js.length := by omega
      have HF : Hid (nextR js now = P) := HE.out.trans hP.out
      clear HE hP
      go_wp2
      go_ret
      exact ⟨by rw [HF.out]; rfl, hb⟩
theorem pickTo_noC {ok : Nat → Bool} {rk : Nat → Int} {k : Nat} (h : ok k = false) : pickTo ok rk (k + 1) = pickTo ok rk k := by
  rw [pickTo, h, Bool.false_and, if_neg (by simp)]
theorem pickTo_firstC {ok : Nat → Bool} {rk : Nat → Int} {k : Nat} (h : ok k = true) (hp : pickTo ok rk k < 0) : pickTo ok rk (k + 1) = (k : Int) := by
  rw [pickTo, h, Bool.true_and, if_pos (by rw [Bool.or_eq_true]; exact .inl (decide_eq_true hp))]
theorem pickTo_next {ok : Nat → Bool} {rk : Nat → Int} {k b : Nat} (h : ok k = true) (hp : pickTo ok rk k = (b : Int)) : pickTo ok rk (k + 1) = if rk k < rk b then (k : Int) else (b : Int) := by
  rw [pickTo, h, Bool.true_and, hp, Int.toNat_natCast]
  by_cases hr : rk k < rk b
  · rw [if_pos (by rw [Bool.or_eq_true]; exact .inr (decide_eq_true hr)), if_pos hr]
  · rw [if_neg (by rw [Bool.or_eq_true]; rintro (h | h); · have := of_decide_eq_true h; omega
                   · exact hr (of_decide_eq_true h)), if_neg hr]
theorem chOk_zero {js : List J} {R : List Int} {now : Int} {k : Nat} (h : R.getD k 0 = 0) : chOk js R now k = false := by
  unfold chOk; rw [decide_eq_false (fun h' => h' h), Bool.false_and]
theorem chOk_late {js : List J} {R : List Int} {now : Int} {k : Nat} (hk : k < js.length) (h : now < js[k].r) : chOk js R now k = false := by
  unfold chOk; rw [getD_at js j0 hk, decide_eq_false (show ¬ js[k].r ≤ now by omega), Bool.and_false]
theorem chOk_yes {js : List J} {R : List Int} {now : Int} {k : Nat} (hk : k < js.length) (h1 : R.getD k 0 ≠ 0) (h : ¬ now < js[k].r) : chOk js R now k = true := by
  unfold chOk; rw [getD_at js j0 hk, decide_eq_true h1, decide_eq_true (show js[k].r ≤ now by omega)]; rfl
set_option maxRecDepth 100000 in
set_option maxHeartbeats 4000000 in
theorem chosen_any (A : Option Addr) (c : Nat) (js : List J) (o now : Int) (R : List Int) (fv : Value) (tp : Bool) (w : World) (hr : Row w A (jc js)) (hn : js.length ≤ 8) (hR : R.length = 8) :
    Calls Try.prog 118 #[.agg #[.func (.func (fRank o)) #[] #[], fv, .bool tp], .slice A js.length c, .int .i64 now, agg8 R] w fun e w' => e = .returned (.int .i64 (chPick js o R now)) ∧ Below w.heap.size w w' := by
  have HE : Hid (chPick js o R now = pickTo (chOk js R now) (chRk js o R) js.length) := rfl
  have H0 : Hid (pickTo (chOk js R now) (chRk js o R) 0 = -1) := rfl
  have HRL := Lib.hid hR
  have hC0 : BlockIs ((w.alloc (.cells #[.func (.func (fRank o)) #[] #[], fv, .bool tp] 76)).alloc (.cells (ic R).toArray 105)) w.heap.size 76 #[.func (.func (fRank o)) #[] #[], fv, .bool tp] :=
    (BlockIs.new w 76 _).below ((Below.refl _ _).alloc (Nat.le_refl _) _)
  have hC1 : BlockIs ((w.alloc (.cells #[.func (.func (fRank o)) #[] #[], fv, .bool tp] 76)).alloc (.cells (ic R).toArray 105)) (w.heap.size + 1) 105 (ic R).toArray := by
    have := BlockIs.new (w.alloc (.cells #[.func (.func (fRank o)) #[] #[], fv, .bool tp] 76)) 105 (ic R).toArray
    rwa [show (w.alloc (.cells #[.func (.func (fRank o)) #[] #[], fv, .bool tp] 76)).heap.size = w.heap.size + 1 by simp] at this
  have hC2 : Below w.heap.size w ((w.alloc (.cells #[.func (.func (fRank o)) #[] #[], fv, .bool tp] 76)).alloc (.cells (ic R).toArray 105)) := ((Below.refl _ _).alloc (Nat.le_refl _) _).alloc (by simp) _
  have HC := Lib.hid (And.intro hC0 (And.intro hC1 hC2))
  have HRF := Lib.hid (rank_func o)
  clear hC0 hC1 hC2 hR
  go_enter Try.func118, Try.ntmps118
  go_wp2
  go_loopw [9, 14] (fun b i wr => ∃ (k : Nat) (P : Int), k ≤ js.length ∧ i = .int .i64 (k : Int) ∧ b = .int .i64 P ∧ Hid (pickTo (chOk js R now) (chRk js o R) k = P) ∧ BlockIs wr w.heap.size 76 #[.func (.func (fRank o)) #[] #[], fv, .bool tp] ∧ BlockIs wr (w.heap.size + 1) 105 (ic R).toArray ∧ Below w.heap.size w wr) (fun _ i _ => js.length - (intOf i).toNat)
  case atStart => exact ⟨0, -1, Nat.zero_le _, rfl, rfl, H0, HC.out.1, HC.out.2.1, HC.out.2.2⟩
  case round =>
    obtain ⟨k, P, hk, rfl, rfl, hP, hC, hQ, hb⟩ := hrel
    clear H0 HC
    by_cases hlt : k < js.length
    · have hk0 : (0 : Int) ≤ k := by omega
      have hk1 : (k : Int) < js.length := by omega
      have hk8 : (k : Int) < 8 := by omega
      obtain ⟨ad, hA, hbl, e0, e1, e2, e3⟩ := (hr.below hb).job hlt
      subst hA
      have hkR : k < R.length := by rw [HRL.out]; omega
      obtain ⟨W, hW⟩ : ∃ W, W = wr.alloc (.cells #[.int .i64 js[k].t, .int .i64 js[k].w, .int .i64 js[k].r, .int .i64 js[k].d] 52) := ⟨_, rfl⟩
      have hbW : Below wr.heap.size wr W := by rw [hW]; exact (Below.refl _ _).alloc (Nat.le_refl _) _
      have hJ : BlockIs W wr.heap.size 52 #[.int .i64 js[k].t, .int .i64 js[k].w, .int .i64 js[k].r, .int .i64 js[k].d] := by rw [hW]; exact BlockIs.new _ _ _
      have hCW := hC.below hbW
      have hQW := hQ.below hbW
      have hck := hQW.int hkR
      rw [← getD_at R 0 hkR] at hck
      have hBW := below_and hb hbW
      have hck' := hck
      have hj2 := hJ.cell 2
      simp only [List.getElem?_toArray, List.getElem?_cons_zero, List.getElem?_cons_succ] at hj2
      rw [hW] at hck hj2
      have HX := Lib.hid (And.intro hCW (And.intro hQW hBW))
      have HW := Lib.hid hW
      have HJ := Lib.hid hJ
      by_cases hz : R.getD k 0 = 0
      · have HN : Hid (pickTo (chOk js R now) (chRk js o R) (k + 1) = P) := (pickTo_noC (chOk_zero hz)).trans hP.out
        rw [hz] at hck
        clear hr hb hP hC hQ hz hbW hJ hCW hQW hBW hck' hW
        generalize js[k] = j at *
        go_wp2
        rw [← HW.out]
        go_roundw
        case rel => exact ⟨k + 1, P, by omega, by go_num, rfl, HN, HX.out.1, HX.out.2.1, HX.out.2.2⟩
        case measure => simp [intOf]; omega
      · have b1 : (R.getD k 0 == 0) = false := by rw [beq_eq_false_iff_ne]; exact hz
        have b2 : decide (R.getD k 0 = 0) = false := decide_eq_false hz
        by_cases hlr : now < js[k].r
        · have HN : Hid (pickTo (chOk js R now) (chRk js o R) (k + 1) = P) := (pickTo_noC (chOk_late hlt hlr)).trans hP.out
          have d1 : decide (now < js[k].r) = true := decide_eq_true hlr
          clear hr hb hP hC hQ hbW hJ hCW hQW hBW hck' hW
          generalize js[k] = j at *
          generalize R.getD k 0 = rr at *
          go_wp2
          rw [← HW.out]
          go_roundw
          case rel => exact ⟨k + 1, P, by omega, by go_num, rfl, HN, HX.out.1, HX.out.2.1, HX.out.2.2⟩
          case measure => simp [intOf]; omega
        · have d1 : decide (now < js[k].r) = false := decide_eq_false hlr
          have hok := chOk_yes hlt hz hlr
          rcases pickTo_spec (chOk js R now) (chRk js o R) k with ⟨hp, _⟩ | ⟨b, hp, hbk, _, _⟩
          · have HN := Lib.hid (pickTo_firstC hok (by rw [hp]; omega) (rk := chRk js o R))
            rw [hP.out] at hp
            subst hp
            clear hr hb hP hC hQ hbW hJ hCW hQW hBW hck' hW hok
            generalize js[k] = j at *
            generalize R.getD k 0 = rr at *
            go_wp2
            rw [← HW.out]
            go_quiet (fail)
            go_wp2
            go_roundw
            case rel => exact ⟨k + 1, (k : Int), by omega, by go_num, rfl, HN, HX.out.1.drewN _, HX.out.2.1.drewN _, below_drewN HX.out.2.2 _⟩
            case measure => simp [intOf]; omega
          · have HN := Lib.hid (pickTo_next hok hp)
            rw [hP.out] at hp
            subst hp
            obtain ⟨ab, hAb, hbb, g0, g1, g2, g3⟩ := (hr.below hBW).job (show b < js.length by omega)
            injection hAb with hAb
            subst hAb
            have hbR : b < R.length := by rw [HRL.out]; omega
            have hcb := hQW.int hbR
            rw [← getD_at R 0 hbR] at hcb
            have HRK := Lib.hid (rankOf_at (o := o) (R := R) hlt)
            have HRB := Lib.hid (rankOf_at (o := o) (R := R) (show b < js.length by omega))
            clear hr hb hP hC hQ hok hbW
            generalize js[k] = j at *
            generalize js[b] = jb at *
            generalize R.getD k 0 = rr at *
            generalize R.getD b 0 = rb at *
            go_wp2
            rw [← HW.out]
            rw [← HRK.out, ← HRB.out] at HN
            have hbm : ((b : Int) == -1) = false := by rw [beq_eq_false_iff_ne]; omega
            have hbi0 : (0 : Int) ≤ b := by omega
            have hbi1 : (b : Int) < js.length := by omega
            have hbi8 : (b : Int) < 8 := by omega
            clear HE HX HW hW hck hj2 e0 e1 e2 e3 hz b1 b2 d1
            refine wp_region_detW (by kernel_rfl) (fun L w' => Below W.heap.size W w')
              (fun kk => #[.int .i64 (b : Int), .bool false, .bool false, .pointer (some ⟨w.heap.size, 0, none⟩), .func (.func (fRank o)) #[] #[], .agg #[.int .i64 j.t, .int .i64 j.w, .int .i64 j.r, .int .i64 j.d], .int .i64 (k : Int), .pointer (some ⟨w.heap.size + 1, k, none⟩), .int .i64 rr, .int .i64 (rankOf o j rr), .pointer (some ⟨w.heap.size, 0, none⟩), .func (.func (fRank o)) #[] #[], .slice (some ad) js.length c, .int .i64 (b : Int), .pointer (some (ad.add (b * 4))), .agg #[.int .i64 jb.t, .int .i64 jb.w, .int .i64 jb.r, .int .i64 jb.d], .int .i64 (b : Int), .pointer (some ⟨w.heap.size + 1, b, none⟩), .int .i64 rb, .int .i64 (rankOf o jb rb), .bool (decide (rankOf o j rr < rankOf o jb rb)), .bool (decide (rankOf o j rr < rankOf o jb rb))].getD kk undef) (by kernel_rfl) (by kernel_rfl) ((Below.refl _ _).drew) ?_ ?_
            · intro _ tm w' _ hS hsz hlow hval
              have ht : tm = #[.agg #[.func (.func (fRank o)) #[] #[], fv, .bool tp], .slice (some ad) js.length c, .int .i64 now, agg8 R, .pointer (some ⟨w.heap.size, 0, none⟩), undef, undef, .pointer (some ⟨w.heap.size + 1, 0, none⟩), .int .i64 0, .int .i64 (b : Int), .int .i64 (k : Int), .pointer (some ⟨wr.heap.size, 0, none⟩), .slice (some ad) js.length c, .int .i64 (js.length : Int), .int .i64 (k : Int), .bool true, .int .i64 (k : Int), .pointer (some (ad.add (k * 4))), .agg #[.int .i64 j.t, .int .i64 j.w, .int .i64 j.r, .int .i64 j.d], .int .i64 (k : Int), .pointer (some ⟨w.heap.size + 1, k, none⟩), .int .i64 rr, .bool false, .bool false, .pointer (some ⟨wr.heap.size, 2, none⟩), .int .i64 j.r, .int .i64 now, .bool false, .bool false, .int .i64 (b : Int), .bool false, .bool false, .pointer (some ⟨w.heap.size, 0, none⟩), .func (.func (fRank o)) #[] #[], .agg #[.int .i64 j.t, .int .i64 j.w, .int .i64 j.r, .int .i64 j.d], .int .i64 (k : Int), .pointer (some ⟨w.heap.size + 1, k, none⟩), .int .i64 rr, .int .i64 (rankOf o j rr), .pointer (some ⟨w.heap.size, 0, none⟩), .func (.func (fRank o)) #[] #[], .slice (some ad) js.length c, .int .i64 (b : Int), .pointer (some (ad.add (b * 4))), .agg #[.int .i64 jb.t, .int .i64 jb.w, .int .i64 jb.r, .int .i64 jb.d], .int .i64 (b : Int), .pointer (some ⟨w.heap.size + 1, b, none⟩), .int .i64 rb, .int .i64 (rankOf o jb rb), .bool (decide (rankOf o j rr < rankOf o jb rb)), .bool (decide (rankOf o j rr < rankOf o jb rb)), u51, u52, undef] := by
                refine arr_of _ _ hsz fun t ht => ?_
                have ht' : t < 54 := ht
                rcases (by omega : t = 0 ∨ t = 1 ∨ t = 2 ∨ t = 3 ∨ t = 4 ∨ t = 5 ∨ t = 6 ∨ t = 7 ∨ t = 8 ∨ t = 9 ∨ t = 10 ∨ t = 11 ∨ t = 12 ∨ t = 13 ∨ t = 14 ∨ t = 15 ∨ t = 16 ∨ t = 17 ∨ t = 18 ∨ t = 19 ∨ t = 20 ∨ t = 21 ∨ t = 22 ∨ t = 23 ∨ t = 24 ∨ t = 25 ∨ t = 26 ∨ t = 27 ∨ t = 28 ∨ t = 29 ∨ t = 30 ∨ t = 31 ∨ t = 32 ∨ t = 33 ∨ t = 34 ∨ t = 35 ∨ t = 36 ∨ t = 37 ∨ t = 38 ∨ t = 39 ∨ t = 40 ∨ t = 41 ∨ t = 42 ∨ t = 43 ∨ t = 44 ∨ t = 45 ∨ t = 46 ∨ t = 47 ∨ t = 48 ∨ t = 49 ∨ t = 50 ∨ t = 51 ∨ t = 52 ∨ t = 53) with rfl | rfl | rfl | rfl | rfl | rfl | rfl | rfl | rfl | rfl | rfl | rfl | rfl | rfl | rfl | rfl | rfl | rfl | rfl | rfl | rfl | rfl | rfl | rfl | rfl | rfl | rfl | rfl | rfl | rfl | rfl | rfl | rfl | rfl | rfl | rfl | rfl | rfl | rfl | rfl | rfl | rfl | rfl | rfl | rfl | rfl | rfl | rfl | rfl | rfl | rfl | rfl | rfl | rfl
                · exact hlow 0 (by kernel_rfl)
                · exact hlow 1 (by kernel_rfl)
                · exact hlow 2 (by kernel_rfl)
                · exact hlow 3 (by kernel_rfl)
                · exact hlow 4 (by kernel_rfl)
                · exact hlow 5 (by kernel_rfl)
                · exact hlow 6 (by kernel_rfl)
                · exact hlow 7 (by kernel_rfl)
                · exact hlow 8 (by kernel_rfl)
                · exact hlow 9 (by kernel_rfl)
                · exact hlow 10 (by kernel_rfl)
                · exact hlow 11 (by kernel_rfl)
                · exact hlow 12 (by kernel_rfl)
                · exact hlow 13 (by kernel_rfl)
                · exact hlow 14 (by kernel_rfl)
                · exact hlow 15 (by kernel_rfl)
                · exact hlow 16 (by kernel_rfl)
                · exact hlow 17 (by kernel_rfl)
                · exact hlow 18 (by kernel_rfl)
                · exact hlow 19 (by kernel_rfl)
                · exact hlow 20 (by kernel_rfl)
                · exact hlow 21 (by kernel_rfl)
                · exact hlow 22 (by kernel_rfl)
                · exact hlow 23 (by kernel_rfl)
                · exact hlow 24 (by kernel_rfl)
                · exact hlow 25 (by kernel_rfl)
                · exact hlow 26 (by kernel_rfl)
                · exact hlow 27 (by kernel_rfl)
                · exact hlow 28 (by kernel_rfl)
                · exact hval 0 _ 29 rfl rfl
                · exact hval 1 _ 30 rfl rfl
                · exact hval 2 _ 31 rfl rfl
                · exact hval 3 _ 32 rfl rfl
                · exact hval 4 _ 33 rfl rfl
                · exact hval 5 _ 34 rfl rfl
                · exact hval 6 _ 35 rfl rfl
                · exact hval 7 _ 36 rfl rfl
                · exact hval 8 _ 37 rfl rfl
                · exact hval 9 _ 38 rfl rfl
                · exact hval 10 _ 39 rfl rfl
                · exact hval 11 _ 40 rfl rfl
                · exact hval 12 _ 41 rfl rfl
                · exact hval 13 _ 42 rfl rfl
                · exact hval 14 _ 43 rfl rfl
                · exact hval 15 _ 44 rfl rfl
                · exact hval 16 _ 45 rfl rfl
                · exact hval 17 _ 46 rfl rfl
                · exact hval 18 _ 47 rfl rfl
                · exact hval 19 _ 48 rfl rfl
                · exact hval 20 _ 49 rfl rfl
                · exact hval 21 _ 50 rfl rfl
                · exact hlow 51 (by kernel_rfl)
                · exact hlow 52 (by kernel_rfl)
                · exact hlow 53 (by kernel_rfl)
              subst ht
              clear hlow hval hsz
              by_cases hlt2 : rankOf o j rr < rankOf o jb rb
              · rw [if_pos hlt2] at HN
                have d9 : decide (rankOf o j rr < rankOf o jb rb) = true := decide_eq_true hlt2
                rw [d9]
                go_wp2
                go_roundw
                case rel => exact ⟨k + 1, (k : Int), by omega, by go_num, rfl, HN, hCW.below hS, hQW.below hS, below_and hBW hS⟩
                case measure => simp [intOf]; omega
              · rw [if_neg hlt2] at HN
                have d9 : decide (rankOf o j rr < rankOf o jb rb) = false := decide_eq_false hlt2
                rw [d9]
                go_wp2
                go_roundw
                case rel => exact ⟨k + 1, (b : Int), by omega, by go_num, rfl, HN, hCW.below hS, hQW.below hS, below_and hBW hS⟩
                case measure => simp [intOf]; omega
            · intro L a w' kk op hLs ho hLi hLd hLn hS0 hlow hdep hold
              have hkk : kk < 22 := (Array.getElem?_eq_some_iff.1 ho).1
              have l1 : a.tmps[1]?.getD undef = .slice (some ad) js.length c := by rw [← Array.getD_eq_getD_getElem?]; exact hlow 1 (by kernel_rfl)
              have l4 : a.tmps[4]?.getD undef = .pointer (some ⟨w.heap.size, 0, none⟩) := by rw [← Array.getD_eq_getD_getElem?]; exact hlow 4 (by kernel_rfl)
              have l7 : a.tmps[7]?.getD undef = .pointer (some ⟨w.heap.size + 1, 0, none⟩) := by rw [← Array.getD_eq_getD_getElem?]; exact hlow 7 (by kernel_rfl)
              have l9 : a.tmps[9]?.getD undef = .int .i64 (b : Int) := by rw [← Array.getD_eq_getD_getElem?]; exact hlow 9 (by kernel_rfl)
              have l10 : a.tmps[10]?.getD undef = .int .i64 (k : Int) := by rw [← Array.getD_eq_getD_getElem?]; exact hlow 10 (by kernel_rfl)
              have l11 : a.tmps[11]?.getD undef = .pointer (some ⟨wr.heap.size, 0, none⟩) := by rw [← Array.getD_eq_getD_getElem?]; exact hlow 11 (by kernel_rfl)
              have D : ∀ j oj d, edgeB _ kk j = true → _ → _ → a.tmps[d]?.getD undef = _ := fun j oj d h1 h2 h3 => (Array.getD_eq_getD_getElem? ..).symm.trans (hdep j oj d h1 h2 h3)
              have c0 := (hCW.below hS0).cell 0
              have j0' := (hJ.below hS0).cell 0
              have j1' := (hJ.below hS0).cell 1
              have j2' := (hJ.below hS0).cell 2
              have j3' := (hJ.below hS0).cell 3
              simp only [List.getElem?_toArray, List.getElem?_cons_zero, List.getElem?_cons_succ] at c0 j0' j1' j2' j3'
              have q0 := (hS0.cell (p := ⟨w.heap.size + 1, k, none⟩) hQW.lt).trans hck'
              have q1 := (hS0.cell (p := ⟨w.heap.size + 1, b, none⟩) hQW.lt).trans hcb
              have g0' := (hS0.cell (p := ad.add (b * 4)) (by rw [add_block]; exact hbb)).trans g0
              have g1' := (hS0.cell (p := ⟨(ad.add (b * 4)).block, (ad.add (b * 4)).off + 1, none⟩) (by show (ad.add (b * 4)).block < _; rw [add_block]; exact hbb)).trans g1
              have g2' := (hS0.cell (p := ⟨(ad.add (b * 4)).block, (ad.add (b * 4)).off + 2, none⟩) (by show (ad.add (b * 4)).block < _; rw [add_block]; exact hbb)).trans g2
              have g3' := (hS0.cell (p := ⟨(ad.add (b * 4)).block, (ad.add (b * 4)).off + 3, none⟩) (by show (ad.add (b * 4)).block < _; rw [add_block]; exact hbb)).trans g3
              have hrf := HRF.out
              rcases (by omega : kk = 0 ∨ kk = 1 ∨ kk = 2 ∨ kk = 3 ∨ kk = 4 ∨ kk = 5 ∨ kk = 6 ∨ kk = 7 ∨ kk = 8 ∨ kk = 9 ∨ kk = 10 ∨ kk = 11 ∨ kk = 12 ∨ kk = 13 ∨ kk = 14 ∨ kk = 15 ∨ kk = 16 ∨ kk = 17 ∨ kk = 18 ∨ kk = 19 ∨ kk = 20 ∨ kk = 21) with rfl | rfl | rfl | rfl | rfl | rfl | rfl | rfl | rfl | rfl | rfl | rfl | rfl | rfl | rfl | rfl | rfl | rfl | rfl | rfl | rfl | rfl
              · obtain rfl := Option.some.inj ho
                exact ⟨wanted_free rfl, .inl ⟨w', by simp [execOp, Act.eval, l9, go_sem], hS0⟩⟩
              · obtain rfl := Option.some.inj ho
                have e29 : a.tmps[29]?.getD undef = .int .i64 (b : Int) := D 0 _ 29 (by kernel_rfl) rfl rfl
                exact ⟨wanted_free rfl, .inl ⟨w', by simp [execOp, Act.eval, e29, hbm, go_sem], hS0⟩⟩
              · obtain rfl := Option.some.inj ho
                have e30 : a.tmps[30]?.getD undef = .bool false := D 1 _ 30 (by kernel_rfl) rfl rfl
                exact ⟨wanted_free rfl, .inl ⟨w', by simp [execOp, Act.eval, e30, go_sem], hS0⟩⟩
              · obtain rfl := Option.some.inj ho
                have e31 : a.tmps[31]?.getD undef = .bool false := D 2 _ 31 (by kernel_rfl) rfl rfl
                exact ⟨wanted_guard (g := 2) (d := 31) (b := false) rfl rfl rfl ((Array.getD_eq_getD_getElem? ..).trans e31), .inl ⟨w', by simp [execOp, Act.eval, l4, go_sem], hS0⟩⟩
              · obtain rfl := Option.some.inj ho
                have e31 : a.tmps[31]?.getD undef = .bool false := D 2 _ 31 (by kernel_rfl) rfl rfl
                have e32 : a.tmps[32]?.getD undef = .pointer (some ⟨w.heap.size, 0, none⟩) := D 3 _ 32 (by kernel_rfl) rfl rfl
                exact ⟨wanted_guard (g := 2) (d := 31) (b := false) rfl rfl rfl ((Array.getD_eq_getD_getElem? ..).trans e31), .inl ⟨w', by simp [execOp, Act.eval, e32, c0, go_sem], hS0⟩⟩
              · obtain rfl := Option.some.inj ho
                have e31 : a.tmps[31]?.getD undef = .bool false := D 2 _ 31 (by kernel_rfl) rfl rfl
                exact ⟨wanted_guard (g := 2) (d := 31) (b := false) rfl rfl rfl ((Array.getD_eq_getD_getElem? ..).trans e31), .inl ⟨w', by simp [execOp, Act.eval, l11, j0', j1', j2', j3', go_sem], hS0⟩⟩
              · obtain rfl := Option.some.inj ho
                have e31 : a.tmps[31]?.getD undef = .bool false := D 2 _ 31 (by kernel_rfl) rfl rfl
                exact ⟨wanted_guard (g := 2) (d := 31) (b := false) rfl rfl rfl ((Array.getD_eq_getD_getElem? ..).trans e31), .inl ⟨w', by simp [execOp, Act.eval, l10, go_sem], hS0⟩⟩
              · obtain rfl := Option.some.inj ho
                have e31 : a.tmps[31]?.getD undef = .bool false := D 2 _ 31 (by kernel_rfl) rfl rfl
                have e35 : a.tmps[35]?.getD undef = .int .i64 (k : Int) := D 6 _ 35 (by kernel_rfl) rfl rfl
                exact ⟨wanted_guard (g := 2) (d := 31) (b := false) rfl rfl rfl ((Array.getD_eq_getD_getElem? ..).trans e31), .inl ⟨w', by simp [execOp, Act.eval, l7, e35, hk0, hk8, go_sem], hS0⟩⟩
              · obtain rfl := Option.some.inj ho
                have e31 : a.tmps[31]?.getD undef = .bool false := D 2 _ 31 (by kernel_rfl) rfl rfl
                have e36 : a.tmps[36]?.getD undef = .pointer (some ⟨w.heap.size + 1, k, none⟩) := D 7 _ 36 (by kernel_rfl) rfl rfl
                exact ⟨wanted_guard (g := 2) (d := 31) (b := false) rfl rfl rfl ((Array.getD_eq_getD_getElem? ..).trans e31), .inl ⟨w', by simp [execOp, Act.eval, e36, q0, go_sem], hS0⟩⟩
              · obtain rfl := Option.some.inj ho
                have e31 : a.tmps[31]?.getD undef = .bool false := D 2 _ 31 (by kernel_rfl) rfl rfl
                have e33 : a.tmps[33]?.getD undef = .func (.func (fRank o)) #[] #[] := D 4 _ 33 (by kernel_rfl) rfl rfl
                have e34 : a.tmps[34]?.getD undef = .agg #[.int .i64 j.t, .int .i64 j.w, .int .i64 j.r, .int .i64 j.d] := D 5 _ 34 (by kernel_rfl) rfl rfl
                have e37 : a.tmps[37]?.getD undef = .int .i64 rr := D 8 _ 37 (by kernel_rfl) rfl rfl
                refine ⟨wanted_guard (g := 2) (d := 31) (b := false) rfl rfl rfl ((Array.getD_eq_getD_getElem? ..).trans e31), .inr ⟨(fRank o), #[.agg #[.int .i64 j.t, .int .i64 j.w, .int .i64 j.r, .int .i64 j.d], .int .i64 rr], by simp [execOp, Act.eval, e33, e34, e37, hrf, go_sem], (rank_call o j rr w').mono ?_⟩⟩
                rintro e w'' ⟨rfl, hb2⟩
                exact ⟨rfl, below_and hS0 hb2⟩
              · obtain rfl := Option.some.inj ho
                have e31 : a.tmps[31]?.getD undef = .bool false := D 2 _ 31 (by kernel_rfl) rfl rfl
                exact ⟨wanted_guard (g := 2) (d := 31) (b := false) rfl rfl rfl ((Array.getD_eq_getD_getElem? ..).trans e31), .inl ⟨w', by simp [execOp, Act.eval, l4, go_sem], hS0⟩⟩
              · obtain rfl := Option.some.inj ho
                have e31 : a.tmps[31]?.getD undef = .bool false := D 2 _ 31 (by kernel_rfl) rfl rfl
                have e39 : a.tmps[39]?.getD undef = .pointer (some ⟨w.heap.size, 0, none⟩) := D 10 _ 39 (by kernel_rfl) rfl rfl
                exact ⟨wanted_guard (g := 2) (d := 31) (b := false) rfl rfl rfl ((Array.getD_eq_getD_getElem? ..).trans e31), .inl ⟨w', by simp [execOp, Act.eval, e39, c0, go_sem], hS0⟩⟩
              · obtain rfl := Option.some.inj ho
                have e31 : a.tmps[31]?.getD undef = .bool false := D 2 _ 31 (by kernel_rfl) rfl rfl
                exact ⟨wanted_guard (g := 2) (d := 31) (b := false) rfl rfl rfl ((Array.getD_eq_getD_getElem? ..).trans e31), .inl ⟨w', by simp [execOp, Act.eval, l1, go_sem], hS0⟩⟩
              · obtain rfl := Option.some.inj ho
                have e31 : a.tmps[31]?.getD undef = .bool false := D 2 _ 31 (by kernel_rfl) rfl rfl
                exact ⟨wanted_guard (g := 2) (d := 31) (b := false) rfl rfl rfl ((Array.getD_eq_getD_getElem? ..).trans e31), .inl ⟨w', by simp [execOp, Act.eval, l9, go_sem], hS0⟩⟩
              · obtain rfl := Option.some.inj ho
                have e31 : a.tmps[31]?.getD undef = .bool false := D 2 _ 31 (by kernel_rfl) rfl rfl
                have e41 : a.tmps[41]?.getD undef = .slice (some ad) js.length c := D 12 _ 41 (by kernel_rfl) rfl rfl
                have e42 : a.tmps[42]?.getD undef = .int .i64 (b : Int) := D 13 _ 42 (by kernel_rfl) rfl rfl
                exact ⟨wanted_guard (g := 2) (d := 31) (b := false) rfl rfl rfl ((Array.getD_eq_getD_getElem? ..).trans e31), .inl ⟨w', by simp [execOp, Act.eval, e41, e42, hbi0, hbi1, go_sem], hS0⟩⟩
              · obtain rfl := Option.some.inj ho
                have e31 : a.tmps[31]?.getD undef = .bool false := D 2 _ 31 (by kernel_rfl) rfl rfl
                have e43 : a.tmps[43]?.getD undef = .pointer (some (ad.add (b * 4))) := D 14 _ 43 (by kernel_rfl) rfl rfl
                exact ⟨wanted_guard (g := 2) (d := 31) (b := false) rfl rfl rfl ((Array.getD_eq_getD_getElem? ..).trans e31), .inl ⟨w', by simp [execOp, Act.eval, e43, g0', g1', g2', g3', go_sem], hS0⟩⟩
              · obtain rfl := Option.some.inj ho
                have e31 : a.tmps[31]?.getD undef = .bool false := D 2 _ 31 (by kernel_rfl) rfl rfl
                exact ⟨wanted_guard (g := 2) (d := 31) (b := false) rfl rfl rfl ((Array.getD_eq_getD_getElem? ..).trans e31), .inl ⟨w', by simp [execOp, Act.eval, l9, go_sem], hS0⟩⟩
              · obtain rfl := Option.some.inj ho
                have e31 : a.tmps[31]?.getD undef = .bool false := D 2 _ 31 (by kernel_rfl) rfl rfl
                have e45 : a.tmps[45]?.getD undef = .int .i64 (b : Int) := D 16 _ 45 (by kernel_rfl) rfl rfl
                exact ⟨wanted_guard (g := 2) (d := 31) (b := false) rfl rfl rfl ((Array.getD_eq_getD_getElem? ..).trans e31), .inl ⟨w', by simp [execOp, Act.eval, l7, e45, hbi0, hbi8, go_sem], hS0⟩⟩
              · obtain rfl := Option.some.inj ho
                have e31 : a.tmps[31]?.getD undef = .bool false := D 2 _ 31 (by kernel_rfl) rfl rfl
                have e46 : a.tmps[46]?.getD undef = .pointer (some ⟨w.heap.size + 1, b, none⟩) := D 17 _ 46 (by kernel_rfl) rfl rfl
                exact ⟨wanted_guard (g := 2) (d := 31) (b := false) rfl rfl rfl ((Array.getD_eq_getD_getElem? ..).trans e31), .inl ⟨w', by simp [execOp, Act.eval, e46, q1, go_sem], hS0⟩⟩
              · obtain rfl := Option.some.inj ho
                have e31 : a.tmps[31]?.getD undef = .bool false := D 2 _ 31 (by kernel_rfl) rfl rfl
                have e40 : a.tmps[40]?.getD undef = .func (.func (fRank o)) #[] #[] := D 11 _ 40 (by kernel_rfl) rfl rfl
                have e44 : a.tmps[44]?.getD undef = .agg #[.int .i64 jb.t, .int .i64 jb.w, .int .i64 jb.r, .int .i64 jb.d] := D 15 _ 44 (by kernel_rfl) rfl rfl
                have e47 : a.tmps[47]?.getD undef = .int .i64 rb := D 18 _ 47 (by kernel_rfl) rfl rfl
                refine ⟨wanted_guard (g := 2) (d := 31) (b := false) rfl rfl rfl ((Array.getD_eq_getD_getElem? ..).trans e31), .inr ⟨(fRank o), #[.agg #[.int .i64 jb.t, .int .i64 jb.w, .int .i64 jb.r, .int .i64 jb.d], .int .i64 rb], by simp [execOp, Act.eval, e40, e44, e47, hrf, go_sem], (rank_call o jb rb w').mono ?_⟩⟩
                rintro e w'' ⟨rfl, hb2⟩
                exact ⟨rfl, below_and hS0 hb2⟩
              · obtain rfl := Option.some.inj ho
                have e31 : a.tmps[31]?.getD undef = .bool false := D 2 _ 31 (by kernel_rfl) rfl rfl
                have e38 : a.tmps[38]?.getD undef = .int .i64 (rankOf o j rr) := D 9 _ 38 (by kernel_rfl) rfl rfl
                have e48 : a.tmps[48]?.getD undef = .int .i64 (rankOf o jb rb) := D 19 _ 48 (by kernel_rfl) rfl rfl
                exact ⟨wanted_guard (g := 2) (d := 31) (b := false) rfl rfl rfl ((Array.getD_eq_getD_getElem? ..).trans e31), .inl ⟨w', by simp [execOp, Act.eval, e38, e48, go_sem], hS0⟩⟩
              · obtain rfl := Option.some.inj ho
                have e31 : a.tmps[31]?.getD undef = .bool false := D 2 _ 31 (by kernel_rfl) rfl rfl
                have e49 : a.tmps[49]?.getD undef = .bool (decide (rankOf o j rr < rankOf o jb rb)) := D 20 _ 49 (by kernel_rfl) rfl rfl
                exact ⟨wanted_free rfl, .inl ⟨w', by simp [execOp, Act.eval, e31, e49, go_sem], hS0⟩⟩
    · obtain rfl : k = js.length := by omega
      have HF : Hid (chPick js o R now = P) := HE.out.trans hP.out
      clear HE hP
      go_wp2
      go_ret
      exact ⟨by rw [HF.out]; rfl, hb⟩
end Go.Proofs.Ytnkoncplfedffaa
