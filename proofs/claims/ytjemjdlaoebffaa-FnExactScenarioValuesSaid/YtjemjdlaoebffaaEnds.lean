/- Starts and ends of a valid order: the model's and the program's. -/
import Derived.Test.YtjemjdlaoebffaaSchedE
import Derived.Deep.QuietTactic
import Derived.BigQuiet
namespace Go.Proofs.Ytjemjdlaoebffaa
open Go.RowKit

abbrev natI (p : List Nat) : List Int := p.map Int.ofNat
theorem Row.nat {w : World} {A : Option Addr} {p : List Nat} (h : Row w A (ic (natI p))) {k : Nat} (hk : k < p.length) : ∃ ad, A = some ad ∧ w.cell? (ad.add k) = some (.int .i64 ((p[k] : Nat) : Int)) := by
  obtain ⟨ad, hA, hc⟩ := h.int (k := k) (by simpa using hk)
  exact ⟨ad, hA, by rw [hc]; simp⟩
theorem ic_set (xs : List Int) (j : Nat) (x : Int) : (ic xs).toArray.setIfInBounds j (.int .i64 x) = (ic (xs.set j x)).toArray := by
  unfold ic; simp [List.map_set]
theorem ic_made (n : Nat) : madeCells #[.int .i64 0] n = (ic (List.replicate n 0)).toArray := by
  apply Array.ext'
  apply List.ext_getElem?
  intro i
  by_cases h : i < n
  · simp [madeCells, ic, h, Nat.mod_one]
  · simp [madeCells, ic, h]
theorem BlockIs.int {w : World} {g : Nat} {t : TypeId} {xs : List Int} (h : BlockIs w g t (ic xs).toArray) {k : Nat} (hk : k < xs.length) : w.cell? ⟨g, k, none⟩ = some (.int .i64 xs[k]) := by
  rw [h.cell]; unfold ic; simp [hk]
theorem endsGo_drop (js : List J) (p : List Nat) (k : Nat) (now : Int) (xs : List Int) (h : k < p.length) :
    endsGo js (p.drop k) now xs = endsGo js (p.drop (k + 1)) (max now (js.getD p[k] j0).r + (js.getD p[k] j0).t) (xs.set p[k] (max now (js.getD p[k] j0).r + (js.getD p[k] j0).t)) := by
  rw [List.drop_eq_getElem_cons h]; rfl
theorem startsGo_drop (js : List J) (p : List Nat) (k : Nat) (now : Int) (xs : List Int) (h : k < p.length) :
    startsGo js (p.drop k) now xs = startsGo js (p.drop (k + 1)) (max now (js.getD p[k] j0).r + (js.getD p[k] j0).t) (xs.set p[k] (max now (js.getD p[k] j0).r)) := by
  rw [List.drop_eq_getElem_cons h]; rfl
theorem mix_step {α : Type} (es ss : List α) (k : Nat) (x : α) (h : es.length = ss.length) (hk : k < es.length) (hx : es[k] = x) : (es.take k ++ ss.drop k).set k x = es.take (k + 1) ++ ss.drop (k + 1) := by
  subst hx
  apply List.ext_getElem?
  intro i
  rcases Nat.lt_trichotomy i k with hi | hi | hi
  · rw [List.getElem?_set_ne (by omega), List.getElem?_append_left (by simp; omega), List.getElem?_append_left (by simp; omega), List.getElem?_take, List.getElem?_take, if_pos hi, if_pos (by omega)]
  · subst hi
    rw [List.getElem?_set_self (by simp; omega), List.getElem?_append_left (by simp; omega), List.getElem?_take, if_pos (by omega), List.getElem?_eq_getElem hk]
  · rw [List.getElem?_set_ne (by omega), List.getElem?_append_right (by simp; omega), List.getElem?_append_right (by simp; omega), List.getElem?_drop, List.getElem?_drop]
    simp only [List.length_take]
    congr 1; omega
theorem mix_len {α : Type} (es ss : List α) (k : Nat) (h : es.length = ss.length) (hk : k ≤ es.length) : (es.take k ++ ss.drop k).length = ss.length := by simp; omega
theorem mix_at {α : Type} (es ss : List α) (k : Nat) (h : es.length = ss.length) (hk : k < es.length) : (es.take k ++ ss.drop k)[k]'(by simp; omega) = ss[k] := by
  rw [List.getElem_append_right (by simp; omega)]
  simp [Nat.min_eq_left (Nat.le_of_lt hk)]

theorem seg_of_block {w : World} {g base : Nat} {t : TypeId} {xs : List Int} (h : BlockIs w g t (ic xs).toArray) (hb : base ≤ g) (hm : xs.length ≤ maxLen) : Seg w t 1 base w.heap.size (some ⟨g, 0, none⟩) xs.length xs.length (ic xs) := by
  have := h.own (base := base) (n := xs.length) (c := xs.length) (size := 1) hb (by simp [ic_len]) (Nat.le_refl _) hm (by simp [ic_len])
  rw [List.take_of_length_le (by simp [ic_len])] at this
  exact Seg.of_own this
theorem l1Most_still (x y m : Int) (h : max x y = m) (w : World) :
    Calls Try.prog 141 #[.int .i64 x, .int .i64 y] w fun e w' => e = .returned (.int .i64 m) ∧ w' = w := by
  subst h; exact l1Most_any x y w
theorem max_bd {x y b : Int} (hx : 0 ≤ x) (hx' : x ≤ b) (hy : y ≤ b) : 0 ≤ max x y ∧ max x y ≤ b := by omega
set_option maxRecDepth 100000 in
set_option maxHeartbeats 1000000 in
theorem l2Starts_any (A B : Option Addr) (c d : Nat) (js : List J) (p : List Nat) (w : World) (hr : Row w A (jc js)) (hq : Row w B (ic (natI p))) (hg : goodL js = true) (hp : p.Perm (List.range js.length)) :
    Calls Try.prog 118 #[.slice A js.length c, .slice B p.length d] w fun e w' => ∃ g, e = .returned (.slice (some ⟨g, 0, none⟩) js.length js.length) ∧ w.heap.size ≤ g ∧ BlockIs w' g 3 (ic (startsL js p)).toArray ∧ Below w.heap.size w w' := by
  obtain ⟨h8, hok⟩ := good_out hg
  have hpl : p.length = js.length := by simpa using hp.length_eq
  have hmk := run_make_row' (P := Try.prog) 39 3 (.int .i64 0) 8 Try.underlying39 infoI rfl .i64 .i64 js.length (by omega) (by omega)
  have HPL := Lib.hid hpl
  have hp8 : p.length ≤ 8 := by omega
  clear hpl
  go_enter Try.func118, Try.ntmps118
  go_wp2
  go_loopw [6, 7] (fun v i wr => ∃ (k : Nat) (now : Int) (xs : List Int), k ≤ p.length ∧ i = .int .i64 k ∧ v = .int .i64 now ∧ 0 ≤ now ∧ now ≤ 500 + 50 * k ∧ Hid (xs.length = js.length) ∧ BlockIs wr w.heap.size 3 (ic xs).toArray ∧ Hid (startsGo js (p.drop k) now xs = startsL js p) ∧ Below w.heap.size w wr) (fun _ i _ => p.length - (intOf i).toNat)
  case atStart =>
    exact ⟨0, 0, List.replicate js.length 0, Nat.zero_le _, rfl, rfl, by omega, by omega, List.length_replicate, by rw [← ic_made]; exact BlockIs.new _ _ _, rfl, (Below.refl _ _).alloc (Nat.le_refl _) _⟩
  case round =>
    obtain ⟨k, now, xs, hk, rfl, rfl, hn0, hn1, hxl, hB, hE, hb⟩ := hrel
    clear hmk
    by_cases hlt : k < p.length
    · obtain ⟨a, hA', hc⟩ := (hq.below hb).nat hlt
      subst hA'
      have hj : p[k] < js.length := perm_lt hp (List.getElem_mem hlt)
      obtain ⟨ad, hA, hbl, hc0, hc1, hc2, hc3⟩ := (hr.below hb).job hj
      subst hA
      have hokj := hok _ (List.getElem_mem hj)
      have HE : Hid (startsGo js (p.drop (k + 1)) (max now js[p[k]].r + js[p[k]].t) (xs.set p[k] (max now js[p[k]].r)) = startsL js p) := by
        have := hE.out
        rw [startsGo_drop js p k now xs hlt, getD_at js j0 hj] at this
        exact this
      obtain ⟨s0, s1⟩ := step_bd hokj hn0 hn1
      obtain ⟨t0, t1, _, _, r0, r1, _, _⟩ := okJ_out hokj
      have hxj : p[k] < xs.length := by rw [hxl.out]; exact hj
      have hck := hB.int hxj
      have hfz := hB.frozen p[k]
      have HBS := Lib.hid ((hb.setCell (p := ⟨w.heap.size, p[k], none⟩) (Nat.le_refl _) (.int .i64 (max now js[p[k]].r))).drew)
      have HBl := Lib.hid ((hB.set p[k] (.int .i64 (max now js[p[k]].r))).drew)
      rw [ic_set] at HBl
      have HX : Hid ((xs.set p[k] (max now js[p[k]].r)).length = js.length) := by show _ = _; rw [List.length_set]; exact hxl.out
      have HC : Hid ((xs.set p[k] (max now js[p[k]].r))[p[k]]'(by rw [List.length_set]; exact hxj) = max now js[p[k]].r) := by show _ = _; simp
      have HQ := Lib.hid hq
      have HR := Lib.hid hr
      have hlk := hlt
      clear hE hr hq hb hB hokj
      have hq0 : (0 : Int) ≤ p[k] := by omega
      have hq1 : (p[k] : Int) < js.length := by omega
      have hk0 : (0 : Int) ≤ k := by omega
      have hk1 : (k : Int) < p.length := by omega
      generalize hmx : max now js[p[k]].r = mx at *
      have HM := Lib.hid hmx
      clear hmx
      go_wp2
      go_still_tail 16, (by kernel_rfl)
      still_call (l1Most_still _ _ _ HM.out _)
      repeat still_step
      refine wpStill_nil ?_
      change wpList _ _ _ _ _ wr.drew
      go_wp2
      generalize (wr.setCell ⟨w.heap.size, p[k], none⟩ (Value.int .i64 mx)).drew = w3 at *
      clear hc hc0 hc1 hc2 hc3 hck hfz hbl
      obtain ⟨a3, hA3, hc⟩ := (HQ.out.below HBS.out).nat hlk
      injection hA3 with hA3
      subst hA3
      obtain ⟨ad3, hA3, _, hc0, hc1, hc2, hc3⟩ := (HR.out.below HBS.out).job hj
      injection hA3 with hA3
      subst hA3
      have hck := HBl.out.int (k := p[k]) (by rw [List.length_set]; exact hxj)
      rw [HC.out] at hck
      have hm := max_bd (x := now) (y := js[p[k]].r) (b := 500 + 50 * k) hn0 hn1 (by omega)
      rw [HM.out] at hm
      clear HC HM HQ HR
      generalize js[p[k]] = j at *
      generalize p[k] = q at *
      go_quiet (fail)
      go_wp2
      go_roundw
      case rel => exact ⟨k + 1, mx + j.t, _, by omega, by go_num, by go_num, s0, s1, HX, HBl.out, HE, below_drewN HBS.out _⟩
      case measure => simp [intOf]; omega
    · go_wp2
      go_ret
      have hE' := hE.out
      rw [List.drop_eq_nil_of_le (by omega)] at hE'
      have hxs : xs = startsL js p := hE'
      subst hxs
      exact ⟨_, rfl, Nat.le_refl _, hB, hb⟩

theorem ends_starts_at {js : List J} {p : List Nat} (hp : p.Perm (List.range js.length)) {k : Nat} (hk : k < js.length) (h1 : k < (endsL js p).length) (h2 : k < (startsL js p).length) : (endsL js p)[k] = (startsL js p)[k] + js[k].t := by
  have := end_startL js p hp k hk
  rwa [getD_at _ _ h1, getD_at _ _ h2, getD_at js j0 hk] at this
set_option maxRecDepth 100000 in
set_option maxHeartbeats 1000000 in
theorem l2Ends_any (A B : Option Addr) (c d : Nat) (js : List J) (p : List Nat) (w : World) (hr : Row w A (jc js)) (hq : Row w B (ic (natI p))) (hg : goodL js = true) (hp : p.Perm (List.range js.length)) :
    Calls Try.prog 95 #[.slice A js.length c, .slice B p.length d] w fun e w' => ∃ g, e = .returned (.slice (some ⟨g, 0, none⟩) js.length js.length) ∧ w.heap.size ≤ g ∧ BlockIs w' g 3 (ic (endsL js p)).toArray ∧ Below w.heap.size w w' := by
  obtain ⟨h8, hok⟩ := good_out hg
  go_enter Try.func95, Try.ntmps95
  go_wp2_with fail
  refine (l2Starts_any A B c d js p _ hr hq hg hp).mono ?_
  rintro e w1 ⟨g, rfl, hg1, hB1, hb1⟩
  go_wp2
  go_loopw [6] (fun i wr => ∃ (k : Nat), k ≤ js.length ∧ i = .int .i64 k ∧ BlockIs wr g 3 (ic ((endsL js p).take k ++ (startsL js p).drop k)).toArray ∧ Below w.heap.size w wr) (fun i _ => js.length - (intOf i).toNat)
  case atStart => exact ⟨0, Nat.zero_le _, rfl, by simpa using hB1, hb1⟩
  case round =>
    obtain ⟨k, hk, rfl, hB, hb⟩ := hrel
    clear hB1 hb1
    have hel := endsL_len js p
    have hsl := startsL_len js p
    by_cases hlt : k < js.length
    · obtain ⟨ad, hA, hbl, hc0, hc1, hc2, hc3⟩ := (hr.below hb).job hlt
      subst hA
      have hck := hB.int (k := k) (by rw [mix_len _ _ _ (by omega) (by omega)]; omega)
      rw [mix_at _ _ _ (by omega) (by omega)] at hck
      have hfz := hB.frozen k
      have he := ends_starts_at hp hlt (by omega) (by omega)
      have hbd := endsL_bd hg hp _ (List.getElem_mem (l := endsL js p) (n := k) (by omega))
      obtain ⟨t0, t1, _, _, _, _, _, _⟩ := okJ_out (hok _ (List.getElem_mem hlt))
      have HB := Lib.hid (hB.set k (.int .i64 ((endsL js p)[k]'(by omega))))
      rw [ic_set, mix_step _ _ k _ (by omega) (by omega) rfl] at HB
      have Hb := Lib.hid hb
      rw [he] at HB hbd
      have hk0 : (0 : Int) ≤ k := by omega
      have hk1 : (k : Int) < js.length := by omega
      generalize (startsL js p)[k]'(by rw [startsL_len]; exact hlt) = s at *
      generalize js[k] = j at *
      clear hB hb hel hsl he hr hq
      go_wp2
      go_still_tail 13, (by kernel_rfl)
      change wpList _ _ _ _ _ wr.drew
      go_wp2
      go_roundw
      case rel => exact ⟨k + 1, by omega, by go_num, HB.out.drew, (Hb.out.setCell (by exact hg1) _).drew⟩
      case measure => simp [intOf]; omega
    · obtain rfl : k = js.length := by omega
      rw [List.take_of_length_le (by omega), List.drop_eq_nil_of_le (by omega), List.append_nil] at hB
      have HB := Lib.hid hB
      clear hB
      go_wp2
      go_ret
      exact ⟨g, rfl, hg1, HB.out, hb⟩
end Go.Proofs.Ytjemjdlaoebffaa
