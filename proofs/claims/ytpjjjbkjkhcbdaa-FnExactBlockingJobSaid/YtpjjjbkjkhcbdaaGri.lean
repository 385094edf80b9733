/- The greedy order of the program. -/
import Derived.Test.YtpjjjbkjkhcbdaaGrqP
import Derived.Test.YtpjjjbkjkhcbdaaChf
import Derived.Test.YtpjjjbkjkhcbdaaGre
namespace Go.Proofs.Ytpjjjbkjkhcbdaa
open Go.RowKit
theorem own_block_lt {w : World} {B : Nat} {e : TypeId} {size n : Nat} {v : Value} {xs : List Value} (h : w.ownsRow B e size v n xs) {g : Nat} (hg : w.heap.size ≤ g) : v.ownBlock ≠ some g := fun hv => by
  have := h.lt g hv; omega
theorem app_grown_block {w5 w6 : World} {v : Value} {o : Obj} {g : Nat} {t : TypeId} {cs : Array Value} (hb : BlockIs w5 g t cs) (hgrow : (w5.alloc o).grownBy w6 v.ownBlock) (hne : v.ownBlock ≠ some g) : BlockIs w6 g t cs := app_block hb hgrow hne
theorem cells8 {w : World} {n : Nat} {t : TypeId} {a b c d e f g i : Int} (h : BlockIs w n t (ic [a, b, c, d, e, f, g, i]).toArray) : w.cell? ⟨n, 0, none⟩ = some (.int .i64 a) ∧ w.cell? ⟨n, 1, none⟩ = some (.int .i64 b) ∧ w.cell? ⟨n, 2, none⟩ = some (.int .i64 c) ∧ w.cell? ⟨n, 3, none⟩ = some (.int .i64 d) ∧ w.cell? ⟨n, 4, none⟩ = some (.int .i64 e) ∧ w.cell? ⟨n, 5, none⟩ = some (.int .i64 f) ∧ w.cell? ⟨n, 6, none⟩ = some (.int .i64 g) ∧ w.cell? ⟨n, 7, none⟩ = some (.int .i64 i) :=
  ⟨h.cell 0, h.cell 1, h.cell 2, h.cell 3, h.cell 4, h.cell 5, h.cell 6, h.cell 7⟩
/-- What the walk keeps from round to round. -/
structure GKeep (js : List J) (w : World) (g3 g : Nat) (v : Value) (out : List Nat) (wr : World) : Prop where
  own : wr.ownsRow w.heap.size 3 1 v out.length (ic (natI out))
  ch : BlockIs wr g3 93 #[.func (.func (fRank 4)) #[] #[], fLat, .bool true]
  rs : BlockIs wr g 111 (ic (greR js out)).toArray
  below : Below w.heap.size w wr
  ne3 : v.ownBlock ≠ some g3
  ne : v.ownBlock ≠ some g
  lo3 : w.heap.size ≤ g3
  lo : w.heap.size ≤ g
theorem GKeep.next {js : List J} {w : World} {g3 g : Nat} {v : Value} {out : List Nat} {wr w' : World} (h : GKeep js w g3 g v out wr) (hb : Below wr.heap.size wr w') : GKeep js w g3 g v out w' := by
  obtain ⟨A, c, rfl, _, _⟩ := own_slice h.own
  exact ⟨((Seg.of_own h.own).below hb).own, h.ch.below hb, h.rs.below hb, below_and h.below hb, h.ne3, h.ne, h.lo3, h.lo⟩
/-- The rests are copied to a block of the next round. -/
theorem GKeep.copy {js : List J} {w : World} {g3 g : Nat} {v : Value} {out : List Nat} {wr : World} (h : GKeep js w g3 g v out wr) : GKeep js w g3 wr.heap.size v out (wr.alloc (.cells (ic (greR js out)).toArray 111)) := by
  have hb : Below wr.heap.size wr (wr.alloc (.cells (ic (greR js out)).toArray 111)) := (Below.refl _ _).alloc (Nat.le_refl _) _
  have h' := h.next hb
  exact ⟨h'.own, h'.ch, BlockIs.new _ _ _, h'.below, h'.ne3, own_block_lt h.own (Nat.le_refl _), h'.lo3, h.below.size⟩
theorem GKeep.apart {js : List J} {w : World} {g3 g : Nat} {v : Value} {out : List Nat} {wr : World} (h : GKeep js w g3 g v out wr) : g3 ≠ g := fun e => by
  subst e
  have := h.ch.symm.trans h.rs
  injection this with this
  injection this with _ h2
  exact absurd h2 (by decide)
theorem own_other {w : World} {B : Nat} {e : TypeId} {size n : Nat} {v : Value} {xs : List Value} (h : w.ownsRow B e size v n xs) {a : Addr} (hne : v.ownBlock ≠ some a.block) (u : Value) : (w.setCell a u).ownsRow B e size v n xs := by
  refine ⟨h.1, ?_⟩
  rcases h.2 with h0 | ⟨g, cap, cur, rfl, hb, hg, hr⟩
  · exact .inl h0
  · refine .inr ⟨g, cap, cur, rfl, hb, ?_, hr⟩
    exact (Below.heap_setCell w a u g (fun e => hne (by rw [← e]; rfl))).trans hg
set_option maxRecDepth 100000 in
set_option maxHeartbeats 4000000 in
theorem greedyOrder_any (A : Option Addr) (c : Nat) (js : List J) (w : World) (hr : Row w A (jc js)) (hg : goodL js = true) :
    Calls Try.prog 93 #[.slice A js.length c] w fun e w' => ∃ v, e = .returned v ∧ w'.ownsRow w.heap.size 3 1 v js.length (ic (natI (greedyL js))) ∧ Below w.heap.size w w' := by
  obtain ⟨i0, hi, hz0, hz1, hz2⟩ := info_parts infoI
  have h8 := (good_out hg).1
  have HG := Lib.hid hg
  have HGL := Lib.hid (greedy_len hg)
  have hmk := fun w' : World => run_make (P := Try.prog) (w := w') 35 3 i0 (.int .i64 0) Try.underlying35 hi hz0 .i64 .i64 0 (js.length : Int) (by omega) (by omega) (by rw [hz2]; omega) (by omega)
  simp only [hz1, Int.toNat_zero, Int.toNat_natCast, Nat.mul_one] at hmk
  have hms : (madeCells (Value.int .i64 0).cells js.length).size = js.length * 1 := by simp [size_madeCells]
  generalize madeCells (Value.int IntKind.i64 0).cells js.length = mc at *
  have HI := Lib.hid (And.intro hi (And.intro hz0 (And.intro hz1 hz2)))
  have hr0 := Lib.hid hr
  clear hi hz0 hz1 hz2 hg
  go_enter Try.func93, Try.ntmps93
  go_wp2_with fail
  refine (choiceOf_any 4 (.inr rfl) w).mono ?_
  rintro e w1 ⟨rfl, hb1⟩
  rw [show chV 4 = .agg #[.func (.func 150) #[] #[], fLat, .bool true] from rfl]
  have s0 := store_at Try.prog (w1.alloc (.cells #[.nilFunc, .nilFunc, .bool false] 93)) ⟨w1.heap.size, 0, none⟩ _ (.func (.func 150) #[] #[]) rfl ((BlockIs.new w1 93 #[.nilFunc, .nilFunc, .bool false]).cell 0) ((BlockIs.new w1 93 #[.nilFunc, .nilFunc, .bool false]).frozen 0)
  have s1 := store_at Try.prog (w1.alloc (.cells #[.func (.func 150) #[] #[], .nilFunc, .bool false] 93)) ⟨w1.heap.size, 1, none⟩ _ fLat rfl ((BlockIs.new w1 93 #[.func (.func 150) #[] #[], .nilFunc, .bool false]).cell 1) ((BlockIs.new w1 93 #[.func (.func 150) #[] #[], .nilFunc, .bool false]).frozen 1)
  rw [World.setCell_alloc_at _ _ _ _ _ rfl] at s0 s1
  simp only [List.setIfInBounds_toArray, List.set_cons_zero, List.set_cons_succ] at s0 s1
  obtain ⟨W3, hW3⟩ : ∃ W3, W3 = (w1.alloc (.cells #[.func (.func 150) #[] #[], fLat, .bool true] 93)).alloc (.cells mc 3) := ⟨_, rfl⟩
  have hK3 : BlockIs W3 w1.heap.size 93 #[.func (.func (fRank 4)) #[] #[], fLat, .bool true] := by
    rw [hW3]; exact (BlockIs.new w1 93 #[.func (.func (fRank 4)) #[] #[], fLat, .bool true]).below ((Below.refl _ _).alloc (Nat.le_refl _) _)
  have hb3 : Below w.heap.size w W3 := by rw [hW3]; exact (hb1.alloc hb1.size _).alloc (by have := hb1.size; simp; omega) _
  have hO3 : W3.ownsRow w.heap.size 3 1 (.slice (some ⟨w1.heap.size + 1, 0, none⟩) 0 js.length) 0 (ic (natI [])) := by
    have hbi : BlockIs W3 (w1.heap.size + 1) 3 mc := by
      rw [hW3]
      have := BlockIs.new (w1.alloc (.cells #[.func (.func 150) #[] #[], fLat, .bool true] 93)) 3 mc
      rwa [show (w1.alloc (.cells #[.func (.func 150) #[] #[], fLat, .bool true] 93)).heap.size = w1.heap.size + 1 by simp] at this
    exact hbi.own (n := 0) (c := js.length) (size := 1) (by have := hb1.size; omega) hms (Nat.zero_le _) (by unfold maxLen; omega) (by simp)
  have HW3 := Lib.hid hW3
  have HX := Lib.hid (And.intro hK3 (And.intro hb3 hO3))
  have hz1' := hb1.size
  clear hK3 hb3 hO3 hb1 hW3 hms
  go_wp2_with fail
  rw [← HW3.out]
  refine (restsOf_any A c js W3 (hr.below HX.out.2.1) h8).mono ?_
  rintro e w4 ⟨rfl, hb4⟩
  clear s0 s1 hmk
  have HK : Hid (GKeep js w w1.heap.size w4.heap.size (.slice (some ⟨w1.heap.size + 1, 0, none⟩) 0 js.length) [] (w4.alloc (.cells (ic (timesR js)).toArray 111))) := by
    rw [← greR_nil]
    have hb5 : Below w4.heap.size w4 (w4.alloc (.cells (ic (greR js [])).toArray 111)) := (Below.refl _ _).alloc (Nat.le_refl _) _
    have ho := ((Seg.of_own HX.out.2.2).below hb4).own
    refine ⟨((Seg.of_own ho).below hb5).own, (HX.out.1.below hb4).below hb5, BlockIs.new _ _ _, below_and (below_and HX.out.2.1 hb4) hb5, ?_, own_block_lt ho (Nat.le_refl _), hz1', (below_and HX.out.2.1 hb4).size⟩
    intro h; injection h with h; simp at h
  obtain ⟨a, b, c', d, e, f, g, i, hT⟩ := list8 (R := timesR js) (restOf_len _ _)
  rw [hT] at HK
  rw [hT, show agg8 [a, b, c', d, e, f, g, i] = .agg #[.int .i64 a, .int .i64 b, .int .i64 c', .int .i64 d, .int .i64 e, .int .i64 f, .int .i64 g, .int .i64 i] from rfl]
  rw [show (ic [a, b, c', d, e, f, g, i]).toArray = #[.int .i64 a, .int .i64 b, .int .i64 c', .int .i64 d, .int .i64 e, .int .i64 f, .int .i64 g, .int .i64 i] from rfl] at HK
  clear HX hb4 hT hr
  go_wp2
  go_loopw [5, 6, 7] (fun v x p wr => ∃ (out : List Nat) (now : Int) (g : Nat), x = .int .i64 now ∧ p = .pointer (some ⟨g, 0, none⟩) ∧ Hid (GKeep js w w1.heap.size g v out wr) ∧ Hid (GIn js now out) ∧ Hid (gFin js now out = greedyL js)) (fun v x _ _ => (500 - intOf x).toNat + (js.length - lenV v))
  case atStart => exact ⟨[], 0, w4.heap.size, rfl, rfl, HK, gIn_zero js, rfl⟩
  case round =>
    clear HK
    obtain ⟨out, now, g5, rfl, rfl, hK, hI, hF⟩ := hrel
    obtain ⟨Av, cv, rfl, hnc, _⟩ := own_slice hK.out.own
    have hle := hI.out.le
    have h0 := hI.out.now0
    have h9 := (gFin_in HG.out hI.out).2
    obtain ⟨r0, r1, r2, r3, r4, r5, r6, r7, hR⟩ := list8 (greR_len js out)
    have hrs := hK.out.rs
    rw [hR] at hrs
    obtain ⟨q0, q1, q2, q3, q4, q5, q6, q7⟩ := cells8 hrs
    clear hrs
    go_wp2_with fail
    refine (areDone_any [r0, r1, r2, r3, r4, r5, r6, r7] rfl wr).mono ?_
    rintro e w5 ⟨rfl, hb5⟩
    have HD := Lib.hid (greR_done HG.out hI.out)
    rw [hR] at HD
    have HK5 := Lib.hid (hK.out.next hb5)
    clear q0 q1 q2 q3 q4 q5 q6 q7 hK hb5
    by_cases hlt : out.length < js.length
    · have hd : decide ([r0, r1, r2, r3, r4, r5, r6, r7] = List.replicate 8 0) = false := decide_eq_false fun h => HD.out.1 h hlt
      rw [hd]
      have hrs := HK5.out.rs
      rw [hR] at hrs
      obtain ⟨q0, q1, q2, q3, q4, q5, q6, q7⟩ := cells8 hrs
      have k0 := HK5.out.ch.cell 0
      have k1 := HK5.out.ch.cell 1
      have k2 := HK5.out.ch.cell 2
      simp only [List.getElem?_toArray, List.getElem?_cons_zero, List.getElem?_cons_succ] at k0 k1 k2
      clear hrs hd HD
      go_wp2_with fail
      have HCC := chosen_any A c js 4 now [r0, r1, r2, r3, r4, r5, r6, r7] fLat true w5 (hr0.out.below HK5.out.below) h8 rfl
      refine HCC.mono ?_
      rintro e w6 ⟨rfl, hb6⟩
      rw [← hR, greR_pick HG.out]
      have HK6 := Lib.hid (HK5.out.next hb6)
      clear q0 q1 q2 q3 q4 q5 q6 q7 k0 k1 k2 HK5 hb6 HCC
      by_cases hn : gNext js out now < 0
      · have HI2 := Lib.hid (gFin_skip HG.out hI.out hlt hn)
        have h5 := gNext_none HG.out hlt hn
        have hngt := nextTo_gt js now (by omega) js.length
        have hge := (pickTo_range (gOk js out now) (dueN js) js.length).1
        have hP : gNext js out now = -1 := by
          have : -1 ≤ gNext js out now := hge
          omega
        rw [hP]
        clear hge hn hP
        go_wp2_with fail
        refine (nextRelease_any A c js now w6 (hr0.out.below HK6.out.below) h8).mono ?_
        rintro e w7 ⟨rfl, hb7⟩
        have HK7 := Lib.hid (HK6.out.next hb7)
        have hrs := HK7.out.rs
        rw [hR] at hrs
        obtain ⟨q0, q1, q2, q3, q4, q5, q6, q7⟩ := cells8 hrs
        have HK8 := Lib.hid HK7.out.copy
        rw [hR] at HK8
        rw [show (ic [r0, r1, r2, r3, r4, r5, r6, r7]).toArray = #[.int .i64 r0, .int .i64 r1, .int .i64 r2, .int .i64 r3, .int .i64 r4, .int .i64 r5, .int .i64 r6, .int .i64 r7] from rfl] at HK8
        change now < nextR js now at hngt
        have HFN : Hid (gFin js (nextR js now) out = greedyL js) := HI2.out.1.symm.trans hF.out
        have HIN := Lib.hid HI2.out.2
        clear hrs HK6 HK7 hb7 hI hF HI2
        generalize nextR js now = nx at *
        go_wp2
        go_roundw
        case rel => exact ⟨out, nx, w7.heap.size, rfl, rfl, HK8, HIN, HFN⟩
        case measure => simp [intOf, lenV]; omega
      · have hn' : 0 ≤ gNext js out now := by omega
        have HI2 := Lib.hid (hI.out.take HG.out hn')
        have HF2 := Lib.hid ((gFin_take HG.out hI.out hlt hn').symm.trans hF.out)
        obtain ⟨hq, hqo, _⟩ := gNext_in hn'
        obtain ⟨q, hqe⟩ : ∃ q : Nat, gNext js out now = (q : Int) := ⟨_, (Int.toNat_of_nonneg hn').symm⟩
        rw [hqe, Int.toNat_natCast] at HI2 HF2 hq hqo
        rw [hqe]
        have hokj := okJ_out (okD HG.out hq)
        have hrj := greR_job HG.out hq hqo
        have hqR : q < (greR js out).length := by rw [greR_len]; omega
        rw [getD_at _ 0 hqR, getD_at js j0 hq] at hrj
        rw [getD_at js j0 hq] at HI2 HF2 hokj
        have hsz := HK6.out.below.size
        obtain ⟨i0', z0, z1, z2⟩ := HI.out
        obtain ⟨v', w7, hrun, hown', hgrow, hat⟩ := append_at (P := Try.prog) (w6.alloc (.cells #[.int .i64 (q : Int)] 3)) w.heap.size 35 35 3 i0 (.int .i64 0) 1 8 Try.underlying35 i0' z0 z1 z2 rfl (by decide) (.slice Av out.length cv) out.length (ic (natI out)) (HK6.out.own.alloc _) ⟨w6.heap.size, 0, none⟩ 1 1 [.int .i64 (q : Int)] rfl (cell_one_new _ _ _) (by intro u hu; simp at hu; subst hu; rfl) (by omega) (by have hmx : (8 : Nat) + 1 ≤ maxLen := (by unfold maxLen; omega); omega) (by omega) (by simp; omega)
        have hb7 := app_grown HK6.out.below hsz HK6.out.own hgrow
        have hrs7 := app_block HK6.out.rs hgrow HK6.out.ne
        have hch7 := app_block HK6.out.ch hgrow HK6.out.ne3
        have hne7 := app_ne HK6.out.rs.lt HK6.out.ne hat
        have hne3 := app_ne HK6.out.ch.lt HK6.out.ne3 hat
        rw [ic_natG] at hown'
        obtain ⟨Av', cv', rfl, _⟩ := own_slice hown'
        have hck := hrs7.int hqR
        rw [hrj] at hck
        have hfz := hrs7.frozen q
        have hrs8 := hrs7.set q (.int .i64 0)
        rw [ic_set, greR_set] at hrs8
        have hK8 : GKeep js w w1.heap.size g5 (.slice Av' (out.length + 1) cv') (out ++ [q]) (w7.setCell ⟨g5, q, none⟩ (.int .i64 0)) := by
          refine ⟨?_, hch7.other (a := ⟨g5, q, none⟩) HK6.out.apart _, hrs8, hb7.setCell (p := ⟨g5, q, none⟩) HK6.out.lo _, hne3, hne7, HK6.out.lo3, HK6.out.lo⟩
          rw [List.length_append]
          exact own_other hown' (a := ⟨g5, q, none⟩) hne7 _
        obtain ⟨s0, s1, s2, s3, s4, s5, s6, s7, hS⟩ := list8 (greR_len js (out ++ [q]))
        rw [hS] at hrs8
        obtain ⟨t0, t1, t2, t3, t4, t5, t6, t7⟩ := cells8 hrs8
        have HK9 := Lib.hid hK8.copy
        rw [hS] at HK9
        rw [show (ic [s0, s1, s2, s3, s4, s5, s6, s7]).toArray = #[.int .i64 s0, .int .i64 s1, .int .i64 s2, .int .i64 s3, .int .i64 s4, .int .i64 s5, .int .i64 s6, .int .i64 s7] from rfl] at HK9
        have HRUN := Lib.hid hrun
        have hq0 : (0 : Int) ≤ q := by omega
        have hq1 : (q : Int) < 8 := by omega
        have hqm : ((q : Int) == -1) = false := by rw [beq_eq_false_iff_ne]; omega
        have hqm2 : decide ((q : Int) = -1) = false := decide_eq_false (by omega)
        have hzz : ((w7.setCell ⟨g5, q, none⟩ (.int .i64 0)).heap.size) = w7.heap.size := by simp [World.setCell]
        clear hI hF HK6 hrun hown' hgrow hat hb7 hrs7 hch7 hne7 hne3 hrs8 hK8 i0' z0 z1 z2 hqe hn hn' hrj hR hS hqR
        generalize js[q] = j at *
        go_wp2_with (at_builtin; refine wpList_appG rfl _ _ _ rfl _ _ _ rfl rfl HRUN.out ?_; clear HRUN)
        go_roundw
        case rel => exact ⟨out ++ [q], now + j.t, w7.heap.size, by go_num, by first | rfl | (rw [hzz]), by rw [hzz] at HK9; exact HK9, HI2, HF2⟩
        case measure => simp [intOf, lenV]; omega
    · have hd : decide ([r0, r1, r2, r3, r4, r5, r6, r7] = List.replicate 8 0) = true := decide_eq_true (HD.out.2 hlt)
      rw [hd]
      have HF' : Hid (out = greedyL js) := by show _ = _; rw [← hF.out]; exact (gFin_done (by omega)).symm
      have hol : out.length = js.length := by omega
      have hown := HK5.out.own
      rw [HF'.out, HGL.out] at hown
      have HX := Lib.hid (And.intro hown HK5.out.below)
      clear hd HD HK5 hI hF HF' hown hR
      rw [hol]
      go_wp2
      go_ret
      exact ⟨_, rfl, HX.out.1, HX.out.2⟩
end Go.Proofs.Ytpjjjbkjkhcbdaa
