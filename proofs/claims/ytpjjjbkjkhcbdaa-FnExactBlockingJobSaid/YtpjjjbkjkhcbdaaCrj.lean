/- The critical part of the greedy order: the program's. -/
import Derived.Test.YtpjjjbkjkhcbdaaCri
import Derived.Test.YtpjjjbkjkhcbdaaGri
import Derived.Test.YtpjjjbkjkhcbdaaSchedE
namespace Go.Proofs.Ytpjjjbkjkhcbdaa
open Go.RowKit
/-- A part of a block of one's own: n numbers from a place on. -/
def SegO (w : World) (lo hi : Nat) (A : Option Addr) (n : Nat) (cs : List Value) : Prop :=
  ∃ g o cur, A = some ⟨g, o, none⟩ ∧ lo ≤ g ∧ g < hi ∧ hi ≤ w.heap.size ∧ BlockIs w g 3 cur ∧ (cur.toList.drop o).take n = cs ∧ cs.length = n
theorem segO_cell {cur : Array Value} {o n : Nat} {cs : List Value} (h : (cur.toList.drop o).take n = cs) {j : Nat} {u : Value} (hu : cs[j]? = some u) : cur[o + j]? = some u := by
  subst h
  rw [List.getElem?_take] at hu
  split at hu
  · rw [List.getElem?_drop, Array.getElem?_toList] at hu; exact hu
  · cases hu
theorem SegO.row {w : World} {lo hi : Nat} {A : Option Addr} {n : Nat} {cs : List Value} (h : SegO w lo hi A n cs) : Row w A cs := by
  obtain ⟨g, o, cur, rfl, h1, h2, h3, h4, h5, h6⟩ := h
  intro h0
  refine ⟨_, rfl, h4.lt, fun j u hu => ?_⟩
  have hc := segO_cell h5 hu
  unfold Addr.add
  by_cases hj : j = 0
  · subst hj; rw [if_pos rfl, h4.cell]; simpa using hc
  · rw [if_neg hj, h4.cell]; exact hc
theorem SegO.keep {w w' : World} {lo hi : Nat} {A : Option Addr} {n : Nat} {cs : List Value} {a b : Nat} (h : SegO w lo hi A n cs) (ht : Touch a b w w') (hd : hi ≤ a ∨ b ≤ lo) : SegO w' lo hi A n cs := by
  obtain ⟨g, o, cur, rfl, h1, h2, h3, h4, h5, h6⟩ := h
  exact ⟨g, o, cur, rfl, h1, h2, Nat.le_trans h3 ht.size, (ht.block g (by omega) (by omega)).trans h4, h5, h6⟩
theorem SegO.below {w w' : World} {lo hi : Nat} {A : Option Addr} {n : Nat} {cs : List Value} (h : SegO w lo hi A n cs) (hb : Below w.heap.size w w') : SegO w' lo hi A n cs :=
  h.keep (Touch.of_below hi hi hb) (.inl (Nat.le_refl _))
/-- What a function hands back: a list of ints, a part of a block of its own, and a bool. -/
def RetIO (w : World) (r : List Int × Bool) (e : Ending) (w' : World) : Prop :=
  ∃ A c, e = .returned (.tuple #[.slice A r.1.length c, .bool r.2]) ∧ SegO w' w.heap.size w'.heap.size A r.1.length (ic r.1) ∧ Below w.heap.size w w'
theorem segO_own {w : World} {B : Nat} {A : Option Addr} {n c : Nat} {cs : List Value} (h : w.ownsRow B 3 1 (.slice A n c) n cs) (hn : 0 < n) : SegO w B w.heap.size A n cs := by
  obtain ⟨g, cur, hA, hB, hb, h1, h2, h3, h4⟩ := own_block h hn
  exact ⟨g, 0, cur, hA, hB, hb.lt, Nat.le_refl _, hb, by simpa using h4, by have := h.1; simpa using this⟩
theorem ret_emptyO {w w1 : World} {r : List Int × Bool} (hr : r = ([], false)) (hb : Below w.heap.size w w1) (e : Ending) (he : e = .returned (.tuple #[.slice (some ⟨w1.heap.size, 0, none⟩) 0 0, .bool false])) : RetIO w r e (w1.alloc (.cells #[] 3)) := by
  subst hr he
  exact ⟨_, 0, rfl, ⟨w1.heap.size, 0, #[], rfl, hb.size, by simp, Nat.le_refl _, BlockIs.new _ _ _, rfl, rfl⟩, hb.alloc hb.size _⟩
theorem ret_segO {w w' : World} {r : List Int × Bool} {p : List Nat} {A : Option Addr} {c n : Nat} (hr : r = (natI p, true)) (hn : p.length = n) (ho : SegO w' w.heap.size w'.heap.size A n (ic (natI p))) (hb : Below w.heap.size w w') (e : Ending) (he : e = .returned (.tuple #[.slice A n c, .bool true])) : RetIO w r e w' := by
  subst hr hn he
  refine ⟨A, c, by rw [List.length_map], ?_, hb⟩
  rw [List.length_map]; exact ho
theorem marked_o {k n i o : Nat} {cs : Array Value} (hz : o + n ≤ cs.size) (hi : i < n) (h : ∀ j, j < i → cs[o + j]? = some (.int .i64 ((k + j : Nat) : Int))) : ∀ j, j < i + 1 → (cs.setIfInBounds (o + i) (.int .i64 ((k + i : Nat) : Int)))[o + j]? = some (.int .i64 ((k + j : Nat) : Int)) := by
  intro j hj
  rw [Array.getElem?_setIfInBounds]
  by_cases e : i = j
  · subst e; rw [if_pos rfl, if_pos (by omega)]
  · rw [if_neg (by omega)]; exact h j (by omega)
set_option maxRecDepth 100000 in
theorem markIntS_o (A : Option Addr) (c n lo hi : Nat) (k : Int) (cs0 : List Value) (w : World) (h : SegO w lo hi A n cs0) (h0 : 0 ≤ k) (h1 : k ≤ 1000000000) (hn : n ≤ 100000000) :
    Calls Try.prog 30 #[.slice A n c, .int .i64 k] w fun e w' => e = .returned (.int .i64 (k + n)) ∧ SegO w' lo hi A n (marksI k.toNat n) ∧ Touch lo hi w w' := by
  obtain ⟨k0, rfl⟩ : ∃ k0 : Nat, k = (k0 : Int) := ⟨k.toNat, by omega⟩
  rw [Int.toNat_natCast]
  obtain ⟨g, o, cur, rfl, hlo, hhi, hsz, hB0, hT, hL⟩ := h
  have hzc : o + n ≤ cur.size ∨ n = 0 := by
    have := congrArg List.length hT
    rw [List.length_take, List.length_drop, hL, Array.length_toList] at this
    omega
  by_cases hn0 : n = 0
  · subst hn0
    refine (markIntS_none _ c k0 w).mono ?_
    rintro e w' ⟨rfl, rfl⟩
    exact ⟨by simp, ⟨g, o, cur, rfl, hlo, hhi, hsz, hB0, by simp [marksI, nums, ic], by simp [marksI, nums, ic]⟩, Touch.refl _ _ _⟩
  have hz : o + n ≤ cur.size := by omega
  obtain ⟨ad, had⟩ : ∃ ad : Addr, ad = ⟨g, o, none⟩ := ⟨_, rfl⟩
  have hadd : ∀ m : Nat, ad.add m = ⟨g, o + m, none⟩ := fun m => by
    subst had
    unfold Addr.add
    by_cases hm : m = 0
    · subst hm; rfl
    · rw [if_neg hm]
  have HAD := Lib.hid hadd
  rw [← had]
  clear hadd hT hL hzc had
  go_enter Try.func30, Try.ntmps30
  go_wp2
  go_loopw [1, 5] (fun k i wr => ∃ (m : Nat) (cs : Array Value), m ≤ n ∧ i = .int .i64 (m : Int) ∧ k = .int .i64 ((k0 + m : Nat) : Int) ∧ cs.size = cur.size ∧ BlockIs wr g 3 cs ∧ Hid (∀ j, j < m → cs[o + j]? = some (.int .i64 ((k0 + j : Nat) : Int))) ∧ w.grownBy wr (some g)) (fun _ i _ => n - (intOf i).toNat)
  case atStart => exact ⟨0, cur, Nat.zero_le _, rfl, by go_num, rfl, hB0, (fun _ h => absurd h (by omega)), ⟨rfl, rfl, rfl, Nat.le_refl _, fun _ _ _ => rfl⟩⟩
  case round =>
    obtain ⟨m, cs, hm, rfl, rfl, hzz, hB, hM, hG⟩ := hrel
    by_cases hlt : m < n
    · have HM := Lib.hid (marked_o (by omega) hlt hM.out)
      have hi' : (m : Int) < n := by omega
      have hi0 : (0 : Int) ≤ m := by omega
      obtain ⟨v0, hv0⟩ := hB.has (i := o + m) (by omega)
      have hfz := hB.frozen (o + m)
      rw [← HAD.out m] at hv0 hfz
      have HS := Lib.hid (hB.set (o + m) (.int .i64 ((k0 + m : Nat) : Int)))
      have HG := Lib.hid (grown_setCell hG (o + m) (.int .i64 ((k0 + m : Nat) : Int)))
      have hcast : ((k0 + m : Nat) : Int) = (k0 : Int) + m := by omega
      rw [← HAD.out m, hcast] at HS HG
      have HZ2 := Lib.hid hzz
      clear hB hM hG hB0 hz hzz
      go_wp2
      go_roundw
      case rel => exact ⟨m + 1, _, by omega, by go_num, by go_num, by simpa using HZ2.out, HS.out, by rw [← hcast]; exact HM, HG.out⟩
      case measure => simp [intOf]; omega
    · obtain rfl : m = n := by omega
      have HR : Hid ((cs.toList.drop o).take m = marksI k0 m) := by
        show _ = _
        apply List.ext_getElem?
        intro j
        by_cases hj : j < m
        · rw [List.getElem?_take, if_pos hj, List.getElem?_drop, Array.getElem?_toList, hM.out j hj, List.getElem?_eq_getElem (by rw [marksI_len]; exact hj), marksI_get k0 m j hj]
        · rw [List.getElem?_eq_none (by simp; omega), List.getElem?_eq_none (by rw [marksI_len]; omega)]
      have had0 := HAD.out 0
      rw [show ad.add 0 = ad from rfl, Nat.add_zero] at had0
      have HA0 := Lib.hid had0
      clear hM had0
      go_wp2
      go_ret
      exact ⟨by first | rfl | rw [show ((k0 + m : Nat) : Int) = (k0 : Int) + m by omega], ⟨g, o, cs, congrArg some HA0.out, hlo, hhi, Nat.le_trans hsz hG.size, hB, HR.out, marksI_len k0 m⟩, Touch.of_grown hG hlo hhi⟩
section
variable (A : Option Addr) (c : Nat) (js : List J) (w : World) (hr : Row w A (jc js))
include hr
set_option maxRecDepth 100000 in
set_option maxHeartbeats 4000000 in
theorem criticalPart_any (hg : goodL js = true) (h0 : 0 < js.length) : Calls Try.prog 95 #[.slice A js.length c] w fun e w' => ∃ B d, e = .returned (.slice B (critL js (greedyL js)).length d) ∧ SegO w' w.heap.size w'.heap.size B (critL js (greedyL js)).length (ic (natI (critL js (greedyL js)))) ∧ Below w.heap.size w w' := by
  have hp := greedy_perm hg
  have hpl := greedy_len hg
  have HGR := Lib.hid (greedyOrder_any A c js w hr hg)
  generalize greedyL js = p at *
  obtain ⟨h8, hok⟩ := good_out hg
  have HX := Lib.hid (And.intro hg (And.intro hp (And.intro hok hpl)))
  have hr0 := Lib.hid hr
  have hM : maxTo js p js.length < js.length := maxTo_lt js p js.length h0
  have HM := Lib.hid hM
  clear hg hp hok hr hM
  go_enter Try.func95, Try.ntmps95
  go_wp2_with fail
  refine HGR.out.mono ?_
  rintro e w1 ⟨v, rfl, ho, hb1⟩
  obtain ⟨go, cur, hBO, hgo, hkeep⟩ : ∃ go cur, (∃ co, v = .slice (some ⟨go, 0, none⟩) js.length co ∧ js.length ≤ co ∧ cur.size = co * 1) ∧ w.heap.size ≤ go ∧ BlockIs w1 go 3 cur ∧ cur.toList.take (js.length * 1) = ic (natI p) := by
    obtain ⟨Ao, co, rfl, hnco, _⟩ := own_slice ho
    obtain ⟨go, cur, rfl, hB, hbk, h1, h2, h3, h4⟩ := own_block ho h0
    exact ⟨go, cur, ⟨co, rfl, hnco, h3⟩, hB, hbk, h4⟩
  obtain ⟨co, rfl, hnco, hcsz⟩ := hBO
  have hrow : Row w1 (some ⟨go, 0, none⟩) (ic (natI p)) := by
    obtain ⟨Ao, co', he, _, hrw⟩ := own_slice ho
    injection he with he
    rw [he]; exact hrw
  obtain ⟨ao, hao⟩ : ∃ ao : Addr, ao = ⟨go, 0, none⟩ := ⟨_, rfl⟩
  rw [← hao] at hrow ⊢
  have HAO := Lib.hid hao
  have HO := Lib.hid (And.intro hrow (And.intro hb1 (And.intro hgo hkeep)))
  have HCS := Lib.hid hcsz
  clear ho hrow hb1 HGR hao hkeep hcsz
  go_wp2
  go_loopw [4, 5, 6, 7, 8, 16] (fun f l gt bg en i wr => ∃ (k : Nat), k ≤ js.length ∧ i = .int .i64 (k : Int) ∧ f = .int .i64 ((begTo js p (maxTo js p k) : Nat) : Int) ∧ l = .int .i64 ((maxTo js p k : Nat) : Int) ∧ gt = .int .i64 (grtTo js p k) ∧ bg = .int .i64 ((begTo js p (k - 1) : Nat) : Int) ∧ en = .int .i64 (nowAt js p k) ∧ Below w1.heap.size w1 wr) (fun _ _ _ _ _ i _ => js.length - (intOf i).toNat)
  case atStart => exact ⟨0, Nat.zero_le _, rfl, rfl, rfl, rfl, rfl, rfl, Below.refl _ _⟩
  case round =>
    obtain ⟨k, hk, rfl, rfl, rfl, rfl, rfl, rfl, hb⟩ := hrel
    by_cases hlt : k < js.length
    · have hkp : k < p.length := by rw [HX.out.2.2.2]; exact hlt
      have hxj : p[k] < js.length := perm_lt HX.out.2.1 (List.getElem_mem hkp)
      obtain ⟨a1, hA1, o1⟩ := (HO.out.1.below hb).nat hkp
      injection hA1 with hA1
      subst hA1
      obtain ⟨ad, hA, hbl, e0, e1, e2, e3⟩ := (hr0.out.below (below_and HO.out.2.1 hb)).job hxj
      subst hA
      have hns := nowAt_succ js p hkp
      have hla : lateAt js p k = nowAt js p (k + 1) - js[p[k]].d := by unfold lateAt dueN; rw [getD_at p 0 hkp, getD_at js j0 hxj]
      have hbr : brkB js p k = decide (nowAt js p k < js[p[k]].r) := by unfold brkB; rw [getD_at p 0 hkp, getD_at js j0 hxj]
      rw [getD_at p 0 hkp, getD_at js j0 hxj] at hns
      have b0 := nowAt_bd HX.out.1 HX.out.2.1 k
      have b1 := nowAt_bd HX.out.1 HX.out.2.1 (k + 1)
      have hokj := HX.out.2.2.1 _ (List.getElem_mem hxj)
      have b3 := okJ_out hokj
      have HEA := Lib.hid (fun w' : World => endAfter_any (nowAt js p k) js[p[k]] w' hokj b0.1 (by omega))
      have hk0 : (0 : Int) ≤ k := by omega
      have hk1 : (k : Int) < js.length := by omega
      have hx0 : (0 : Int) ≤ p[k] := by omega
      have hx1 : (p[k] : Int) < js.length := by omega
      have HLA := Lib.hid hla
      have HGT : Hid (0 < k → grtTo js p k = lateAt js p (maxTo js p k)) := fun h => grtTo_at h
      have HGN : Hid (grtTo js p (k + 1) = lateAt js p (maxTo js p (k + 1))) := grtTo_at (by omega)
      have HM0 : Hid (k = 0 → maxTo js p (k + 1) = 0) := fun h => by subst h; exact maxTo_one js p
      have HBB := Lib.hid hb
      have hgb : -500 ≤ grtTo js p k ∧ grtTo js p k ≤ 900 := by
        unfold grtTo
        split
        · omega
        · rename_i hk00
          have hMp : maxTo js p k < p.length := by have := maxTo_lt js p k (by omega); omega
          have c1 := nowAt_bd HX.out.1 HX.out.2.1 (maxTo js p k + 1)
          have c2 := dueN_bd HX.out.1 HX.out.2.1 hMp
          unfold lateAt; omega
      rw [← hns] at HEA
      clear hns hla hokj hb
      generalize hL : lateAt js p k = lk at *
      have HL := Lib.hid hL
      clear hL
      by_cases hk00 : k = 0
      · by_cases hbk : nowAt js p k < js[p[k]].r
        · skip
          have hd0 : decide (nowAt js p k < js[p[k]].r) = true := decide_eq_true hbk
          have HBG : Hid ((begTo js p ((k + 1) - 1) : Nat) = k) := by show _ = _; rw [Nat.add_sub_cancel]; exact begTo_step (by rw [hbr]; exact hd0)
          have HMX := Lib.hid (HM0.out hk00)
          have HFI : Hid (begTo js p (maxTo js p (k + 1)) = begTo js p ((k + 1) - 1)) := by show _ = _; rw [HMX.out, Nat.add_sub_cancel, hk00]
          have HLS : Hid (maxTo js p (k + 1) = k) := by show _ = _; rw [HMX.out, hk00]
          have HGR : Hid (grtTo js p (k + 1) = lk) := by show _ = _; rw [HGN.out, HLS.out]; exact HL.out
          have z1 : ((k : Int) == 0) = true := by rw [beq_iff_eq]; omega
          have z2 : decide ((k : Int) = 0) = true := decide_eq_true (by omega)
          have z3 : decide (k = 0) = true := decide_eq_true hk00
          have z4 : (k == 0) = true := by rw [beq_iff_eq]; exact hk00
          clear hk00
          have HR : Hid (∀ W' : World, Below wr.heap.size wr W' → ∃ q, q = ad ∧ W'.cell? (ad.add (p[k] * 4)) = some (.int .i64 js[p[k]].t) ∧ W'.cell? ⟨(ad.add (p[k] * 4)).block, (ad.add (p[k] * 4)).off + 3, none⟩ = some (.int .i64 js[p[k]].d)) := fun W' hW' => by
            obtain ⟨ad', hA', _, f0, _, _, f3⟩ := (hr0.out.below (below_and HO.out.2.1 (below_and HBB.out hW'))).job hxj
            injection hA' with hA'
            subst hA'
            exact ⟨ad, rfl, f0, f3⟩
          clear hbr HGT HGN HM0 HMX HL
          have HLK := Lib.hid HLA.out
          clear HLA
          generalize js[p[k]] = j at *
          clear hxj
          generalize p[k] = x at *
          generalize hnx : nowAt js p (k + 1) = nx at *
          have HNX := Lib.hid hnx
          clear hnx
          generalize nowAt js p k = now at *
          generalize grtTo js p k = gt at *
          generalize begTo js p (k - 1) = bg at *
          obtain rfl := HLK.out
          go_wp2_with fail
          refine (HEA.out _).mono ?_
          rintro e w5 ⟨rfl, hb5⟩
          obtain ⟨_, rfl, q0, q3⟩ := HR.out w5 hb5
          have HB5 := Lib.hid (below_and HBB.out hb5)
          clear e0 e1 e2 e3 o1 HEA hb5
          go_wp2
          go_roundw
          case rel => exact ⟨k + 1, by omega, by go_num, by rw [HFI.out, HBG.out], by rw [HLS.out], by rw [HGR.out], by rw [HBG.out], by rw [HNX.out], HB5.out⟩
          case measure => simp [intOf]; omega
        · skip
          have hd0 : decide (nowAt js p k < js[p[k]].r) = false := decide_eq_false hbk
          have HBG : Hid ((begTo js p ((k + 1) - 1) : Nat) = begTo js p (k - 1)) := by show _ = _; rw [Nat.add_sub_cancel]; exact begTo_same (by rw [hbr]; exact hd0)
          have HMX := Lib.hid (HM0.out hk00)
          have HFI : Hid (begTo js p (maxTo js p (k + 1)) = begTo js p ((k + 1) - 1)) := by show _ = _; rw [HMX.out, Nat.add_sub_cancel, hk00]
          have HLS : Hid (maxTo js p (k + 1) = k) := by show _ = _; rw [HMX.out, hk00]
          have HGR : Hid (grtTo js p (k + 1) = lk) := by show _ = _; rw [HGN.out, HLS.out]; exact HL.out
          have z1 : ((k : Int) == 0) = true := by rw [beq_iff_eq]; omega
          have z2 : decide ((k : Int) = 0) = true := decide_eq_true (by omega)
          have z3 : decide (k = 0) = true := decide_eq_true hk00
          have z4 : (k == 0) = true := by rw [beq_iff_eq]; exact hk00
          clear hk00
          have HR : Hid (∀ W' : World, Below wr.heap.size wr W' → ∃ q, q = ad ∧ W'.cell? (ad.add (p[k] * 4)) = some (.int .i64 js[p[k]].t) ∧ W'.cell? ⟨(ad.add (p[k] * 4)).block, (ad.add (p[k] * 4)).off + 3, none⟩ = some (.int .i64 js[p[k]].d)) := fun W' hW' => by
            obtain ⟨ad', hA', _, f0, _, _, f3⟩ := (hr0.out.below (below_and HO.out.2.1 (below_and HBB.out hW'))).job hxj
            injection hA' with hA'
            subst hA'
            exact ⟨ad, rfl, f0, f3⟩
          clear hbr HGT HGN HM0 HMX HL
          have HLK := Lib.hid HLA.out
          clear HLA
          generalize js[p[k]] = j at *
          clear hxj
          generalize p[k] = x at *
          generalize hnx : nowAt js p (k + 1) = nx at *
          have HNX := Lib.hid hnx
          clear hnx
          generalize nowAt js p k = now at *
          generalize grtTo js p k = gt at *
          generalize begTo js p (k - 1) = bg at *
          obtain rfl := HLK.out
          go_wp2_with fail
          refine (HEA.out _).mono ?_
          rintro e w5 ⟨rfl, hb5⟩
          obtain ⟨_, rfl, q0, q3⟩ := HR.out w5 hb5
          have HB5 := Lib.hid (below_and HBB.out hb5)
          clear e0 e1 e2 e3 o1 HEA hb5
          go_wp2
          go_roundw
          case rel => exact ⟨k + 1, by omega, by go_num, by rw [HFI.out, HBG.out], by rw [HLS.out], by rw [HGR.out], by rw [HBG.out], by rw [HNX.out], HB5.out⟩
          case measure => simp [intOf]; omega
      · by_cases hgr : grtTo js p k < lk
        · by_cases hbk : nowAt js p k < js[p[k]].r
          · skip
            have hd0 : decide (nowAt js p k < js[p[k]].r) = true := decide_eq_true hbk
            have HBG : Hid ((begTo js p ((k + 1) - 1) : Nat) = k) := by show _ = _; rw [Nat.add_sub_cancel]; exact begTo_step (by rw [hbr]; exact hd0)
            have HMX := Lib.hid (maxTo_up (js := js) (p := p) (k := k) (by rw [← HGT.out (by omega)]; rw [HL.out]; exact hgr))
            have HFI : Hid (begTo js p (maxTo js p (k + 1)) = begTo js p ((k + 1) - 1)) := by show _ = _; rw [HMX.out, Nat.add_sub_cancel]
            have HLS : Hid (maxTo js p (k + 1) = k) := HMX
            have HGR : Hid (grtTo js p (k + 1) = lk) := by show _ = _; rw [HGN.out, HLS.out]; exact HL.out
            have d1 : decide (grtTo js p k < lk) = true := decide_eq_true hgr
            have z1 : ((k : Int) == 0) = false := by rw [beq_eq_false_iff_ne]; omega
            have z2 : decide ((k : Int) = 0) = false := decide_eq_false (by omega)
            have z3 : decide (k = 0) = false := decide_eq_false hk00
            have z4 : (k == 0) = false := by rw [beq_eq_false_iff_ne]; exact hk00
            have HR : Hid (∀ W' : World, Below wr.heap.size wr W' → ∃ q, q = ad ∧ W'.cell? (ad.add (p[k] * 4)) = some (.int .i64 js[p[k]].t) ∧ W'.cell? ⟨(ad.add (p[k] * 4)).block, (ad.add (p[k] * 4)).off + 3, none⟩ = some (.int .i64 js[p[k]].d)) := fun W' hW' => by
              obtain ⟨ad', hA', _, f0, _, _, f3⟩ := (hr0.out.below (below_and HO.out.2.1 (below_and HBB.out hW'))).job hxj
              injection hA' with hA'
              subst hA'
              exact ⟨ad, rfl, f0, f3⟩
            clear hbr HGT HGN HM0 HMX HL
            have HLK := Lib.hid HLA.out
            clear HLA
            generalize js[p[k]] = j at *
            clear hxj
            generalize p[k] = x at *
            generalize hnx : nowAt js p (k + 1) = nx at *
            have HNX := Lib.hid hnx
            clear hnx
            generalize nowAt js p k = now at *
            generalize grtTo js p k = gt at *
            generalize begTo js p (k - 1) = bg at *
            obtain rfl := HLK.out
            go_wp2_with fail
            refine (HEA.out _).mono ?_
            rintro e w5 ⟨rfl, hb5⟩
            obtain ⟨_, rfl, q0, q3⟩ := HR.out w5 hb5
            have HB5 := Lib.hid (below_and HBB.out hb5)
            clear e0 e1 e2 e3 o1 HEA hb5
            go_wp2
            go_roundw
            case rel => exact ⟨k + 1, by omega, by go_num, by rw [HFI.out, HBG.out], by rw [HLS.out], by rw [HGR.out], by rw [HBG.out], by rw [HNX.out], HB5.out⟩
            case measure => simp [intOf]; omega
          · skip
            have hd0 : decide (nowAt js p k < js[p[k]].r) = false := decide_eq_false hbk
            have HBG : Hid ((begTo js p ((k + 1) - 1) : Nat) = begTo js p (k - 1)) := by show _ = _; rw [Nat.add_sub_cancel]; exact begTo_same (by rw [hbr]; exact hd0)
            have HMX := Lib.hid (maxTo_up (js := js) (p := p) (k := k) (by rw [← HGT.out (by omega)]; rw [HL.out]; exact hgr))
            have HFI : Hid (begTo js p (maxTo js p (k + 1)) = begTo js p ((k + 1) - 1)) := by show _ = _; rw [HMX.out, Nat.add_sub_cancel]
            have HLS : Hid (maxTo js p (k + 1) = k) := HMX
            have HGR : Hid (grtTo js p (k + 1) = lk) := by show _ = _; rw [HGN.out, HLS.out]; exact HL.out
            have d1 : decide (grtTo js p k < lk) = true := decide_eq_true hgr
            have z1 : ((k : Int) == 0) = false := by rw [beq_eq_false_iff_ne]; omega
            have z2 : decide ((k : Int) = 0) = false := decide_eq_false (by omega)
            have z3 : decide (k = 0) = false := decide_eq_false hk00
            have z4 : (k == 0) = false := by rw [beq_eq_false_iff_ne]; exact hk00
            have HR : Hid (∀ W' : World, Below wr.heap.size wr W' → ∃ q, q = ad ∧ W'.cell? (ad.add (p[k] * 4)) = some (.int .i64 js[p[k]].t) ∧ W'.cell? ⟨(ad.add (p[k] * 4)).block, (ad.add (p[k] * 4)).off + 3, none⟩ = some (.int .i64 js[p[k]].d)) := fun W' hW' => by
              obtain ⟨ad', hA', _, f0, _, _, f3⟩ := (hr0.out.below (below_and HO.out.2.1 (below_and HBB.out hW'))).job hxj
              injection hA' with hA'
              subst hA'
              exact ⟨ad, rfl, f0, f3⟩
            clear hbr HGT HGN HM0 HMX HL
            have HLK := Lib.hid HLA.out
            clear HLA
            generalize js[p[k]] = j at *
            clear hxj
            generalize p[k] = x at *
            generalize hnx : nowAt js p (k + 1) = nx at *
            have HNX := Lib.hid hnx
            clear hnx
            generalize nowAt js p k = now at *
            generalize grtTo js p k = gt at *
            generalize begTo js p (k - 1) = bg at *
            obtain rfl := HLK.out
            go_wp2_with fail
            refine (HEA.out _).mono ?_
            rintro e w5 ⟨rfl, hb5⟩
            obtain ⟨_, rfl, q0, q3⟩ := HR.out w5 hb5
            have HB5 := Lib.hid (below_and HBB.out hb5)
            clear e0 e1 e2 e3 o1 HEA hb5
            go_wp2
            go_roundw
            case rel => exact ⟨k + 1, by omega, by go_num, by rw [HFI.out, HBG.out], by rw [HLS.out], by rw [HGR.out], by rw [HBG.out], by rw [HNX.out], HB5.out⟩
            case measure => simp [intOf]; omega
        · by_cases hbk : nowAt js p k < js[p[k]].r
          · skip
            have hd0 : decide (nowAt js p k < js[p[k]].r) = true := decide_eq_true hbk
            have HBG : Hid ((begTo js p ((k + 1) - 1) : Nat) = k) := by show _ = _; rw [Nat.add_sub_cancel]; exact begTo_step (by rw [hbr]; exact hd0)
            have HMX := Lib.hid (maxTo_stay (js := js) (p := p) (k := k) (by rw [← HGT.out (by omega)]; rw [HL.out]; exact hgr))
            have HFI : Hid (begTo js p (maxTo js p (k + 1)) = begTo js p (maxTo js p k)) := by show _ = _; rw [HMX.out]
            have HLS : Hid (maxTo js p (k + 1) = maxTo js p k) := HMX
            have HGR : Hid (grtTo js p (k + 1) = grtTo js p k) := by show _ = _; rw [HGN.out, HLS.out]; exact (HGT.out (by omega)).symm
            have d1 : decide (grtTo js p k < lk) = false := decide_eq_false hgr
            have z1 : ((k : Int) == 0) = false := by rw [beq_eq_false_iff_ne]; omega
            have z2 : decide ((k : Int) = 0) = false := decide_eq_false (by omega)
            have z3 : decide (k = 0) = false := decide_eq_false hk00
            have z4 : (k == 0) = false := by rw [beq_eq_false_iff_ne]; exact hk00
            have HR : Hid (∀ W' : World, Below wr.heap.size wr W' → ∃ q, q = ad ∧ W'.cell? (ad.add (p[k] * 4)) = some (.int .i64 js[p[k]].t) ∧ W'.cell? ⟨(ad.add (p[k] * 4)).block, (ad.add (p[k] * 4)).off + 3, none⟩ = some (.int .i64 js[p[k]].d)) := fun W' hW' => by
              obtain ⟨ad', hA', _, f0, _, _, f3⟩ := (hr0.out.below (below_and HO.out.2.1 (below_and HBB.out hW'))).job hxj
              injection hA' with hA'
              subst hA'
              exact ⟨ad, rfl, f0, f3⟩
            clear hbr HGT HGN HM0 HMX HL
            have HLK := Lib.hid HLA.out
            clear HLA
            generalize js[p[k]] = j at *
            clear hxj
            generalize p[k] = x at *
            generalize hnx : nowAt js p (k + 1) = nx at *
            have HNX := Lib.hid hnx
            clear hnx
            generalize nowAt js p k = now at *
            generalize grtTo js p k = gt at *
            generalize begTo js p (k - 1) = bg at *
            generalize begTo js p (maxTo js p k) = fi at *
            generalize maxTo js p k = ls at *
            obtain rfl := HLK.out
            go_wp2_with fail
            refine (HEA.out _).mono ?_
            rintro e w5 ⟨rfl, hb5⟩
            obtain ⟨_, rfl, q0, q3⟩ := HR.out w5 hb5
            have HB5 := Lib.hid (below_and HBB.out hb5)
            clear e0 e1 e2 e3 o1 HEA hb5
            go_wp2
            go_roundw
            case rel => exact ⟨k + 1, by omega, by go_num, by rw [HFI.out], by rw [HLS.out], by rw [HGR.out], by rw [HBG.out], by rw [HNX.out], HB5.out⟩
            case measure => simp [intOf]; omega
          · skip
            have hd0 : decide (nowAt js p k < js[p[k]].r) = false := decide_eq_false hbk
            have HBG : Hid ((begTo js p ((k + 1) - 1) : Nat) = begTo js p (k - 1)) := by show _ = _; rw [Nat.add_sub_cancel]; exact begTo_same (by rw [hbr]; exact hd0)
            have HMX := Lib.hid (maxTo_stay (js := js) (p := p) (k := k) (by rw [← HGT.out (by omega)]; rw [HL.out]; exact hgr))
            have HFI : Hid (begTo js p (maxTo js p (k + 1)) = begTo js p (maxTo js p k)) := by show _ = _; rw [HMX.out]
            have HLS : Hid (maxTo js p (k + 1) = maxTo js p k) := HMX
            have HGR : Hid (grtTo js p (k + 1) = grtTo js p k) := by show _ = _; rw [HGN.out, HLS.out]; exact (HGT.out (by omega)).symm
            have d1 : decide (grtTo js p k < lk) = false := decide_eq_false hgr
            have z1 : ((k : Int) == 0) = false := by rw [beq_eq_false_iff_ne]; omega
            have z2 : decide ((k : Int) = 0) = false := decide_eq_false (by omega)
            have z3 : decide (k = 0) = false := decide_eq_false hk00
            have z4 : (k == 0) = false := by rw [beq_eq_false_iff_ne]; exact hk00
            have HR : Hid (∀ W' : World, Below wr.heap.size wr W' → ∃ q, q = ad ∧ W'.cell? (ad.add (p[k] * 4)) = some (.int .i64 js[p[k]].t) ∧ W'.cell? ⟨(ad.add (p[k] * 4)).block, (ad.add (p[k] * 4)).off + 3, none⟩ = some (.int .i64 js[p[k]].d)) := fun W' hW' => by
              obtain ⟨ad', hA', _, f0, _, _, f3⟩ := (hr0.out.below (below_and HO.out.2.1 (below_and HBB.out hW'))).job hxj
              injection hA' with hA'
              subst hA'
              exact ⟨ad, rfl, f0, f3⟩
            clear hbr HGT HGN HM0 HMX HL
            have HLK := Lib.hid HLA.out
            clear HLA
            generalize js[p[k]] = j at *
            clear hxj
            generalize p[k] = x at *
            generalize hnx : nowAt js p (k + 1) = nx at *
            have HNX := Lib.hid hnx
            clear hnx
            generalize nowAt js p k = now at *
            generalize grtTo js p k = gt at *
            generalize begTo js p (k - 1) = bg at *
            generalize begTo js p (maxTo js p k) = fi at *
            generalize maxTo js p k = ls at *
            obtain rfl := HLK.out
            go_wp2_with fail
            refine (HEA.out _).mono ?_
            rintro e w5 ⟨rfl, hb5⟩
            obtain ⟨_, rfl, q0, q3⟩ := HR.out w5 hb5
            have HB5 := Lib.hid (below_and HBB.out hb5)
            clear e0 e1 e2 e3 o1 HEA hb5
            go_wp2
            go_roundw
            case rel => exact ⟨k + 1, by omega, by go_num, by rw [HFI.out], by rw [HLS.out], by rw [HGR.out], by rw [HBG.out], by rw [HNX.out], HB5.out⟩
            case measure => simp [intOf]; omega
    · obtain rfl : k = js.length := by omega
      have hfl := begTo_le js p (maxTo js p js.length)
      have hlen : (critL js p).length = maxTo js p js.length + 1 - begTo js p (maxTo js p js.length) := by rw [critL_len js p (by rw [HX.out.2.2.2]; exact h0), HX.out.2.2.2]
      have hcr : critL js p = (p.drop (begTo js p (maxTo js p js.length))).take (maxTo js p js.length + 1 - begTo js p (maxTo js p js.length)) := by unfold critL; rw [HX.out.2.2.2]
      have hM := HM.out
      generalize begTo js p (maxTo js p js.length) = F at *
      generalize maxTo js p js.length = M at *
      have HLN := Lib.hid hlen
      have HCR := Lib.hid hcr
      have HBB := Lib.hid hb
      have hF0 : (0 : Int) ≤ F := by omega
      have hM0 : (0 : Int) ≤ M := by omega
      have hM9 : (M : Int) ≤ 8 := by omega
      clear hlen hcr hb
      go_wp2_with (refine wpList_slice_lh rfl _ _ _ rfl ao js.length co F (M + 1) _ _ rfl rfl rfl (by omega) (by omega) (by omega) (by omega) (by omega) ?_)
      go_ret
      obtain ⟨h1, h2, h3, h4, h5⟩ := HO.out
      refine ⟨some (ao.add F), co - F, by rw [HLN.out]; rfl, ⟨go, F, cur, ?_, h3, ?_, Nat.le_refl _, h4.below HBB.out, ?_, ?_⟩, below_and h2 HBB.out⟩
      · rw [HAO.out]
        unfold Addr.add
        by_cases hF : F = 0
        · subst hF; rfl
        · rw [if_neg hF]; simp
      · exact Nat.lt_of_lt_of_le h4.lt HBB.out.size
      · rw [HLN.out, HCR.out, ← nat_sub]
        unfold ic
        rw [List.map_take, List.map_drop]
        change _ = ((ic (natI p)).drop F).take (M + 1 - F)
        rw [← h5, List.drop_take, List.take_take]
        congr 1
        omega
      · rw [ic_len, List.length_map]
end
end Go.Proofs.Ytpjjjbkjkhcbdaa
