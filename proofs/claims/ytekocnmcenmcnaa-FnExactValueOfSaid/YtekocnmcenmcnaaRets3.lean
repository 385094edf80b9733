/- IdleTime: the model's and the program's. -/
import Derived.Test.YtekocnmcenmcnaaRets2
namespace Go.Proofs.Ytekocnmcenmcnaa
open Go.RowKit
def timesS (js : List J) : Int := (js.map J.t).sum
theorem sum_take_succ (js : List J) (k : Nat) (h : k < js.length) : timesS (js.take (k + 1)) = timesS (js.take k) + js[k].t := by
  unfold timesS; rw [List.take_succ_eq_append_getElem h, List.map_append, List.sum_append]; rw [List.map_cons, List.map_nil, List.sum_cons, List.sum_nil, Int.add_zero]
theorem times_bd (js : List J) (hok : ∀ j ∈ js, okJ j = true) : 0 ≤ timesS js ∧ timesS js ≤ 50 * js.length := by
  induction js with
  | nil => simp [timesS]
  | cons j js ih =>
    have := ih fun x hx => hok x (List.mem_cons_of_mem _ hx)
    obtain ⟨a, b, _⟩ := okJ_out (hok j List.mem_cons_self)
    unfold timesS at *
    simp only [List.map_cons, List.sum_cons, List.length_cons]
    omega
theorem l2Times_any (A : Option Addr) (c : Nat) (js : List J) (w : World) (hr : Row w A (jc js)) (hg : goodL js = true) :
    Calls Try.prog 68 #[.slice A js.length c] w fun e w' => e = .returned (.int .i64 (timesS js)) ∧ w = w' := by
  obtain ⟨h8, hok⟩ := good_out hg
  go_enter Try.func68, Try.ntmps68
  go_wp2
  go_loop [3, 4] (fun s i => ∃ (k : Nat) (t : Int), k ≤ js.length ∧ i = .int .i64 k ∧ s = .int .i64 t ∧ Hid (t = timesS (js.take k)) ∧ 0 ≤ t ∧ t ≤ 50 * k) (fun _ i => js.length - (intOf i).toNat)
  case atStart => exact ⟨0, 0, Nat.zero_le _, rfl, rfl, rfl, by omega, by omega⟩
  case round =>
    obtain ⟨k, t, hk, rfl, rfl, hT, h0, h1⟩ := hrel
    by_cases hlt : k < js.length
    · obtain ⟨ad, hA, hbl, hc0, hc1, hc2, hc3⟩ := hr.job hlt
      subst hA
      have HT : Hid (t + js[k].t = timesS (js.take (k + 1))) := by show _ = _; rw [sum_take_succ js k hlt, hT.out]
      obtain ⟨t0, t1, _, _, _, _, _, _⟩ := okJ_out (hok _ (List.getElem_mem hlt))
      have hk0 : (0 : Int) ≤ k := by omega
      have hk1 : (k : Int) < js.length := by omega
      clear hT hr
      generalize js[k] = j at *
      go_wp2
      go_round
      case rel => exact ⟨k + 1, t + j.t, by omega, by go_num, by go_num, HT, by omega, by omega⟩
      case measure => simp [intOf]; omega
    · obtain rfl : k = js.length := by omega
      have hT' := hT.out
      rw [List.take_of_length_le (by omega)] at hT'
      have HT := Lib.hid hT'
      clear hT hT'
      go_wp2
      go_ret
      exact ⟨by rw [← HT.out]; rfl, rfl⟩
theorem l2Last_any (A : Option Addr) (c : Nat) (xs : List Int) (w : World) (hr : Row w A (ic xs)) (hn : xs.length ≤ 100000) :
    Calls Try.prog 67 #[.slice A xs.length c] w fun e w' => e = .returned (.int .i64 (mostGo xs 0)) ∧ w = w' := by
  go_enter Try.func67, Try.ntmps67
  go_wp2
  go_loop [3, 4] (fun s i => ∃ (k : Nat) (t : Int), k ≤ xs.length ∧ i = .int .i64 k ∧ s = .int .i64 t ∧ Hid (mostGo (xs.drop k) t = mostGo xs 0)) (fun _ i => xs.length - (intOf i).toNat)
  case atStart => exact ⟨0, 0, Nat.zero_le _, rfl, rfl, rfl⟩
  case round =>
    obtain ⟨k, t, hk, rfl, rfl, hT⟩ := hrel
    by_cases hlt : k < xs.length
    · obtain ⟨ad, hA, hc⟩ := hr.int hlt
      subst hA
      have HT : Hid (mostGo (xs.drop (k + 1)) (max t xs[k]) = mostGo xs 0) := by show _ = _; rw [← mostGo_drop xs k t hlt, hT.out]
      have hk0 : (0 : Int) ≤ k := by omega
      have hk1 : (k : Int) < xs.length := by omega
      clear hT hr
      generalize xs[k] = x at *
      go_wp2_with fail
      refine (l1Most_any t x _).mono ?_
      rintro e w1 ⟨rfl, rfl⟩
      go_wp2
      go_round
      case rel => exact ⟨k + 1, max t x, by omega, by go_num, by go_num, HT⟩
      case measure => simp [intOf]; omega
    · obtain rfl : k = xs.length := by omega
      have hT' := hT.out
      rw [List.drop_eq_nil_of_le (by omega)] at hT'
      have HT : Hid (t = mostGo xs 0) := hT'
      clear hT hT'
      go_wp2
      go_ret
      exact ⟨by rw [← HT.out]; rfl, rfl⟩
theorem idleGo_drop (js : List J) (p : List Nat) (k : Nat) (now : Int) (h : k < p.length) :
    idleGo js (p.drop k) now = max ((js.getD p[k] j0).r - now) 0 + idleGo js (p.drop (k + 1)) (max now (js.getD p[k] j0).r + (js.getD p[k] j0).t) := by
  rw [List.drop_eq_getElem_cons h]; rfl
theorem most_bd : ∀ (xs : List Int) (m : Int), (∀ x ∈ xs, 0 ≤ x ∧ x ≤ 900) → 0 ≤ m → m ≤ 900 → 0 ≤ mostGo xs m ∧ mostGo xs m ≤ 900
  | [], _, _, h0, h1 => ⟨h0, h1⟩
  | x :: xs, m, h, h0, h1 => by
    have hx := h x List.mem_cons_self
    exact most_bd xs _ (fun y hy => h y (List.mem_cons_of_mem _ hy)) (by omega) (by omega)
section
variable (A B : Option Addr) (c d : Nat) (js : List J) (o : List Int) (w : World) (hr : Row w A (jc js)) (hq : Row w B (ic o)) (hn : js.length ≤ 10000000) (hm : o.length ≤ 10000000)
include hr hq hn hm
theorem spec_IdleTime : Calls Try.prog 24 #[.slice A js.length c, .slice B o.length d] w (RetNB w (idleR js o)) := by
  have HR : Hid (idleR js o = if twoB js o then (idleGo js (natsOf o) 0, true) else (0, false)) := rfl
  cases ht : twoB js o
  · rw [ht] at HR
    go_enter Try.func24, Try.ntmps24
    go_wp2_with fail
    refine (l2Two_any A B c d js o _ hr hq hn hm).mono ?_
    rintro e w1 ⟨rfl, hb1⟩
    rw [ht]
    go_wp2
    go_ret2
    exact ⟨by rw [HR.out]; rfl, hb1⟩
  · rw [ht] at HR
    obtain ⟨hg, p0, hpo, hp, hpn⟩ := two_out ht
    rw [← hpn] at hp
    clear hpo
    have HI := Lib.hid (idle_eq hg hp)
    have HL := Lib.hid (endsL_len js (natsOf o))
    have h8 := (good_out hg).1
    have hmb := most_bd (endsL js (natsOf o)) 0 (endsL_bd hg hp) (by omega) (by omega)
    have htb := times_bd js (good_out hg).2
    have HG := Lib.hid hg
    clear hp hpn hg
    go_enter Try.func24, Try.ntmps24
    go_wp2_with fail
    refine (l2Two_any A B c d js o _ hr hq hn hm).mono ?_
    rintro e w1 ⟨rfl, hb1⟩
    rw [ht]
    go_wp2_with fail
    refine (l2Ends_o A B c d js o _ (hr.below hb1) (hq.below hb1) ht).mono ?_
    rintro e w2 ⟨g, rfl, hg2, hB2, hb2⟩
    have hl2 := l2Last_any (some ⟨g, 0, none⟩) js.length (endsL js (natsOf o)) w2 (seg_of_block hB2 (Nat.zero_le _) (by rw [HL.out]; unfold maxLen; omega)).row (by rw [HL.out]; omega)
    rw [HL.out] at hl2
    have HL2 := Lib.hid hl2
    clear hl2
    go_wp2_with fail
    refine HL2.out.mono ?_
    rintro e w3 ⟨rfl, rfl⟩
    go_wp2_with fail
    refine (l2Times_any A c js _ ((hr.below hb1).below hb2) HG.out).mono ?_
    rintro e w3 ⟨rfl, rfl⟩
    go_wp2
    go_ret2
    exact ⟨by rw [HR.out]; simp only [if_true]; rw [← HI.out]; rfl, hb1.trans (hb2.mono hb1.size)⟩
set_option maxRecDepth 100000 in
theorem impl_IdleTime : Calls Try.prog 23 #[.slice A js.length c, .slice B o.length d] w (RetNB w (idleR js o)) := by
  have HR : Hid (idleR js o = if twoB js o then (idleGo js (natsOf o) 0, true) else (0, false)) := rfl
  cases ht : twoB js o
  · rw [ht] at HR
    go_enter Try.func23, Try.ntmps23
    go_wp2_with fail
    refine (isScheduled_any A B c d js o _ hr hq hn hm).mono ?_
    rintro e w1 ⟨rfl, hb1⟩
    rw [ht]
    go_wp2
    go_ret2
    exact ⟨by rw [HR.out]; rfl, hb1⟩
  · rw [ht] at HR
    obtain ⟨hg, p, hpo, hp, hpn⟩ := two_out ht
    obtain ⟨h8, hok⟩ := good_out hg
    rw [hpn] at HR
    have hpl : p.length = js.length := by simpa using hp.length_eq
    have hol : o.length = p.length := by rw [hpo]; simp
    have HO := Lib.hid hpo
    have HPL := Lib.hid hpl
    have HOL := Lib.hid hol
    have HT := Lib.hid ht
    have hp8 : p.length ≤ 8 := by omega
    clear hpo hpn hpl hol ht
    go_enter Try.func23, Try.ntmps23
    go_wp2_with fail
    refine (isScheduled_any A B c d js o _ hr hq hn hm).mono ?_
    rintro e w1 ⟨rfl, hb1⟩
    rw [HT.out]
    rw [HOL.out]
    go_wp2
    go_loopw [6, 7, 16] (fun s v i wr => ∃ (k : Nat) (now idle : Int), k ≤ p.length ∧ i = .int .i64 k ∧ v = .int .i64 now ∧ s = .int .i64 idle ∧ 0 ≤ now ∧ now ≤ 500 + 50 * k ∧ 0 ≤ idle ∧ idle ≤ 500 * k ∧ Hid (idle + idleGo js (p.drop k) now = idleGo js p 0) ∧ Below w.heap.size w wr) (fun _ _ i _ => p.length - (intOf i).toNat)
    case atStart => exact ⟨0, 0, 0, Nat.zero_le _, rfl, rfl, rfl, by omega, by omega, by omega, by omega, by show _ = _; simp, hb1⟩
    case round =>
      obtain ⟨k, now, idle, hk, rfl, rfl, rfl, hn0, hn1, hi0, hi1, hE, hb⟩ := hrel
      clear hb1
      by_cases hlt : k < p.length
      · obtain ⟨a, hA', hc⟩ := (Row.below (by rw [← HO.out]; exact hq) hb : Row wr B (ic (natI p))).nat hlt
        subst hA'
        have hj : p[k] < js.length := perm_lt hp (List.getElem_mem hlt)
        obtain ⟨ad, hA, hbl, hc0, hc1, hc2, hc3⟩ := (hr.below hb).job hj
        subst hA
        have hokj := hok _ (List.getElem_mem hj)
        have HE : Hid (idle + max (js[p[k]].r - now) 0 + idleGo js (p.drop (k + 1)) (max now js[p[k]].r + js[p[k]].t) = idleGo js p 0) := by
          have := hE.out
          rw [idleGo_drop js p k now hlt, getD_at js j0 hj] at this
          show _ = _
          omega
        obtain ⟨s0, s1⟩ := step_bd hokj hn0 hn1
        obtain ⟨_, _, _, _, r0, r1, _, _⟩ := okJ_out hokj
        have HB := Lib.hid hb
        have HQ := Lib.hid hq
        have HRr := Lib.hid hr
        clear hE hr hq hb
        generalize js[p[k]] = j at *
        generalize p[k] = q at *
        have hq0 : (0 : Int) ≤ q := by omega
        have hq1 : (q : Int) < js.length := by omega
        by_cases hcmp : 0 ≤ j.r - now
        · have hm : max (j.r - now) 0 = j.r - now := by omega
          rw [hm] at HE
          clear hm
          go_wp2_with fail
          refine (endAfter_any now j _ hokj hn0 (by omega)).mono ?_
          rintro e w2 ⟨rfl, hb2⟩
          go_wp2
          go_roundw
          case rel => exact ⟨k + 1, _, _, by omega, by go_num, rfl, rfl, s0, s1, by omega, by omega, HE, HB.out.trans (hb2.mono HB.out.size)⟩
          case measure => simp [intOf]; omega
        · have hm : max (j.r - now) 0 = 0 := by omega
          rw [hm] at HE
          clear hm
          go_wp2_with fail
          refine (endAfter_any now j _ hokj hn0 (by omega)).mono ?_
          rintro e w2 ⟨rfl, hb2⟩
          go_wp2
          go_roundw
          case rel => exact ⟨k + 1, _, _, by omega, by go_num, rfl, rfl, s0, s1, by omega, by omega, by have := HE.out; rw [Int.add_zero] at this; exact this, HB.out.trans (hb2.mono HB.out.size)⟩
          case measure => simp [intOf]; omega
      · have hE' := hE.out
        rw [List.drop_eq_nil_of_le (by omega)] at hE'
        have HE : Hid (idle = idleGo js p 0) := by
          show _ = _
          have : idleGo js ([] : List Nat) now = 0 := rfl
          omega
        clear hE hE'
        go_wp2
        go_ret2
        exact ⟨by rw [HR.out]; simp only [if_true]; rw [← HE.out]; rfl, hb⟩
end
end Go.Proofs.Ytekocnmcenmcnaa
