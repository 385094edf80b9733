/- Open schedules: plain; the model's side. -/
import Derived.Test.YtdhndoccdfbefaaShX
namespace Go.Proofs.Ytdhndoccdfbefaa
open Go.RowKit

def meetB (a la b lb : Int) : Bool := decide (0 < la ∧ 0 < lb ∧ a < b + lb ∧ b < a + la)
def sOk (x : Int) : Bool := inB x 0 1000000
def rowOk (m : Nat) (ys : List Int) : Bool := decide (ys.length = m) && ys.all sOk
def startsB (xss yss : List (List Int)) : Bool := decide (yss.length = xss.length) && yss.all (rowOk (mOf xss))
theorem rowOk_len {m : Nat} {ys : List Int} (h : ys.length ≠ m) : rowOk m ys = false := by unfold rowOk; rw [decide_eq_false h]; rfl
theorem rowOk_eq {m : Nat} {ys : List Int} (h : ys.length = m) : rowOk m ys = ys.all sOk := by unfold rowOk; rw [decide_eq_true h]; rfl
theorem starts_len {xss yss : List (List Int)} (h : yss.length ≠ xss.length) : startsB xss yss = false := by unfold startsB; rw [decide_eq_false h]; rfl
theorem starts_bad {xss yss : List (List Int)} {ys : List Int} (hm : ys ∈ yss) (h : rowOk (mOf xss) ys = false) : startsB xss yss = false := by
  unfold startsB
  rw [la_bad _ hm h, Bool.and_false]
theorem starts_yes {xss yss : List (List Int)} (h : yss.length = xss.length) (ha : ∀ i (hi : i < yss.length), rowOk (mOf xss) yss[i] = true) : startsB xss yss = true := by
  unfold startsB
  rw [decide_eq_true h, la_good _ ha]; rfl
/-- What starts are. -/
structure Starts (xss yss : List (List Int)) : Prop where
  len : yss.length = xss.length
  rows : ∀ i (hi : i < yss.length), yss[i].length = mOf xss
  tm : ∀ i k, 0 ≤ tm yss i k ∧ tm yss i k ≤ 1000000
theorem starts_out {xss yss : List (List Int)} (h : startsB xss yss = true) : Starts xss yss := by
  unfold startsB at h
  rw [Bool.and_eq_true, List.all_eq_true] at h
  have hr : ∀ i (hi : i < yss.length), yss[i].length = mOf xss ∧ ∀ x ∈ yss[i], sOk x = true := fun i hi => by
    have := h.2 _ (List.getElem_mem hi)
    unfold rowOk at this
    rw [Bool.and_eq_true, List.all_eq_true] at this
    exact ⟨of_decide_eq_true this.1, this.2⟩
  refine ⟨of_decide_eq_true h.1, fun i hi => (hr i hi).1, fun i k => ?_⟩
  by_cases hi : i < yss.length
  · by_cases hk : k < yss[i].length
    · rw [← tm_get hi hk]
      exact inB_out ((hr i hi).2 _ (List.getElem_mem hk))
    · unfold Proofs.Ytdhndoccdfbefaa.tm
      rw [show yss.getD i [] = yss[i] by simp [List.getD, hi], getD_out _ _ (by omega)]
      exact ⟨Int.le_refl _, by decide⟩
  · unfold Proofs.Ytdhndoccdfbefaa.tm
    rw [getD_out yss [] (by omega), getD_out [] 0 (by simp)]
    exact ⟨Int.le_refl _, by decide⟩
/-- A row of a list of lists that are all as long. -/
theorem rect_row {yss : List (List Int)} {m : Nat} (hm : 1 ≤ m) (hl : ∀ i (hi : i < yss.length), yss[i].length = m) {w : World} {A : Option Addr} (hr : RowSS w A (yss.map ic)) {i : Nat} (hi : i < yss.length) : ∃ ad b d, A = some ad ∧ w.cell? (ad.add i) = some (.slice (some b) m d) ∧ ∀ k, k < m → w.cell? (b.add k) = some (.int .i64 (tm yss i k)) := by
  obtain ⟨ad, B, d, rfl, hc, hrow⟩ := hr.at_ (k := i) (by simpa using hi)
  rw [List.getElem_map] at hc hrow
  rw [ic_len, hl i hi] at hc
  obtain ⟨b, rfl, _⟩ := hrow.at_ (k := 0) (by rw [ic_len, hl i hi]; omega)
  refine ⟨ad, b, d, rfl, hc, fun k hk => ?_⟩
  obtain ⟨b', hb, hc2⟩ := hrow.at_ (k := k) (by rw [ic_len, hl i hi]; exact hk)
  injection hb with hb
  subst hb
  rw [ic_get _ k (by rw [hl i hi]; exact hk), tm_get hi] at hc2
  exact hc2
def openP (xss yss : List (List Int)) : Prop := ∀ i, i < xss.length → ∀ k, k < mOf xss → (∀ h, h < k → meetB (tm yss i k) (tm xss i k) (tm yss i h) (tm xss i h) = false) ∧ (∀ j, j < i → meetB (tm yss i k) (tm xss i k) (tm yss j k) (tm xss j k) = false)
instance (xss yss : List (List Int)) : Decidable (openP xss yss) := by unfold openP; infer_instance
def openB (xss yss : List (List Int)) : Bool := startsB xss yss && decide (openP xss yss)
def openR (xss yss : List (List Int)) : Bool × Bool := if shopB xss then (openB xss yss, true) else (false, false)
theorem openB_no {xss yss : List (List Int)} (h : startsB xss yss = false) : openB xss yss = false := by unfold openB; rw [h]; rfl
theorem openB_not {xss yss : List (List Int)} (h : ¬ openP xss yss) : openB xss yss = false := by unfold openB; rw [decide_eq_false h, Bool.and_false]
theorem openB_yes {xss yss : List (List Int)} (h : startsB xss yss = true) (h' : openP xss yss) : openB xss yss = true := by unfold openB; rw [h, decide_eq_true h']; rfl
theorem openR_no {xss yss : List (List Int)} (h : shopB xss = false) : openR xss yss = (false, false) := by unfold openR; rw [h]; rfl
theorem openR_yes {xss yss : List (List Int)} (h : shopB xss = true) : openR xss yss = (openB xss yss, true) := by unfold openR; rw [h]; rfl
theorem meet_1 {a la b lb : Int} (h : ¬ 0 < la) : meetB a la b lb = false := decide_eq_false fun q => h q.1
theorem meet_2 {a la b lb : Int} (h : ¬ 0 < lb) : meetB a la b lb = false := decide_eq_false fun q => h q.2.1
theorem meet_3 {a la b lb : Int} (h : ¬ a < b + lb) : meetB a la b lb = false := decide_eq_false fun q => h q.2.2.1
theorem meet_4 {a la b lb : Int} (h : ¬ b < a + la) : meetB a la b lb = false := decide_eq_false fun q => h q.2.2.2
theorem meet_5 {a la b lb : Int} (h1 : 0 < la) (h2 : 0 < lb) (h3 : a < b + lb) (h4 : b < a + la) : meetB a la b lb = true := decide_eq_true ⟨h1, h2, h3, h4⟩
theorem l8Meet_any (a la b lb : Int) (w : World) (h1 : 0 ≤ a ∧ a ≤ 1000000) (h2 : 0 ≤ la ∧ la ≤ 30) (h3 : 0 ≤ b ∧ b ≤ 1000000) (h4 : 0 ≤ lb ∧ lb ≤ 30) :
    Calls Try.prog 82 #[.int .i64 a, .int .i64 la, .int .i64 b, .int .i64 lb] w fun e w' => e = .returned (.bool (meetB a la b lb)) ∧ w = w' := by
  by_cases c1 : 0 < la
  · by_cases c2 : 0 < lb
    · by_cases c3 : a < b + lb
      · by_cases c4 : b < a + la
        · have HO := Lib.hid (meet_5 c1 c2 c3 c4)
          go_enter Try.func82, Try.ntmps82
          go_wp2
          go_ret
          exact ⟨by rw [HO.out]; first | rfl | simp [results, go_sem, c4], rfl⟩
        · have HO := Lib.hid (meet_4 (la := la) (lb := lb) c4)
          go_enter Try.func82, Try.ntmps82
          go_wp2
          go_ret
          exact ⟨by rw [HO.out]; first | rfl | simp [results, go_sem, c4], rfl⟩
      · have HO := Lib.hid (meet_3 (la := la) (lb := lb) c3)
        go_enter Try.func82, Try.ntmps82
        go_wp2
        go_ret
        exact ⟨by rw [HO.out]; rfl, rfl⟩
    · have HO := Lib.hid (meet_2 (a := a) (la := la) (b := b) c2)
      go_enter Try.func82, Try.ntmps82
      go_wp2
      go_ret
      exact ⟨by rw [HO.out]; rfl, rfl⟩
  · have HO := Lib.hid (meet_1 (a := a) (b := b) (lb := lb) c1)
    go_enter Try.func82, Try.ntmps82
    go_wp2
    go_ret
    exact ⟨by rw [HO.out]; rfl, rfl⟩
set_option maxRecDepth 100000 in
set_option maxHeartbeats 4000000 in
theorem l8Starts_any (A : Option Addr) (c : Nat) (B : Option Addr) (d : Nat) (xss yss : List (List Int)) (w : World) (hr : RowSS w A (xss.map ic)) (hr2 : RowSS w B (yss.map ic)) (hs : Shop xss) (hn : yss.length ≤ 10000000 ∧ totL yss ≤ 10000000) :
    Calls Try.prog 81 #[.slice A xss.length c, .slice B yss.length d] w fun e w' => e = .returned (.bool (startsB xss yss)) ∧ ∃ q, w' = w.drewN q := by
  have h8 := hs.n8
  have hM3 := hs.m3
  have HROW := Lib.hid (fun i (hi : i < xss.length) => hs.row hr hi)
  have HR2 := Lib.hid hr2
  have HL : Hid (∀ k (hk : k < yss.length), yss[k].length ≤ 10000000) := fun k hk => by have := totL_le hk; omega
  clear hr hs hr2
  go_enter Try.func81, Try.ntmps81
  go_wp2
  go_loopw [5] (fun i wr => ∃ k q : Nat, k ≤ yss.length ∧ k ≤ xss.length ∧ i = .int .i64 (k : Int) ∧ Hid (∀ i (hi : i < yss.length), i < k → rowOk (mOf xss) yss[i] = true) ∧ wr = w.drewN q) (fun i _ => yss.length - (intOf i).toNat)
  case atStart => exact ⟨0, 0, Nat.zero_le _, Nat.zero_le _, rfl, fun _ _ h => absurd h (by omega), rfl⟩
  case round =>
    obtain ⟨k, q, hk, hk2, rfl, hA, rfl⟩ := hrel
    by_cases hlt : k < yss.length
    · by_cases hlt2 : k < xss.length
      · obtain ⟨ad, b, dd, hA', hcx, _⟩ := HROW.out k hlt2
        subst hA'
        obtain ⟨bd, Y, d2, hB', hcy, hrow⟩ := HR2.out.at_ (k := k) (by simpa using hlt)
        subst hB'
        rw [List.getElem_map] at hcy hrow
        rw [ic_len] at hcy
        have hyl := HL.out k hlt
        have HS := Lib.hid (fun h => lt_step (rowOk (mOf xss)) hA.out hlt h)
        have HG := Lib.hid (fun h => starts_bad (xss := xss) (List.getElem_mem hlt) h)
        have hi0 : (0 : Int) ≤ k := by omega
        have hi1 : (k : Int) < yss.length := by omega
        have hi2 : (k : Int) < xss.length := by omega
        have hcx' : (w.drewN q).cell? (ad.add k) = some (.slice (some b) (mOf xss) dd) := hcx
        clear hA
        generalize yss[k] = ys at *
        have hcy' : (w.drewN q).cell? (bd.add k) = some (.slice Y ys.length d2) := hcy
        by_cases he : ys.length = mOf xss
        · have HE := Lib.hid he
          have HOK := Lib.hid (rowOk_eq he)
          rw [he] at hcy hcy'
          have hbb : (((mOf xss : Nat) : Int) != ((mOf xss : Nat) : Int)) = false := by simp
          clear he hyl
          go_wp2
          go_quiet (fail)
          go_wp2
          go_loopw [6] (fun i wr => ∃ k2 q2 : Nat, k2 ≤ mOf xss ∧ i = .int .i64 (k2 : Int) ∧ Hid (∀ i (hi : i < ys.length), i < k2 → sOk ys[i] = true) ∧ wr = w.drewN q2) (fun i _ => mOf xss - (intOf i).toNat)
          case atStart => exact ⟨0, _, Nat.zero_le _, rfl, fun _ _ h => absurd h (by omega), by first | rfl | exact World.drewN_drewN _ _ _⟩
          case round =>
            obtain ⟨k2, q2, hk22, rfl, hA2, rfl⟩ := hrel
            have hcy2 : (w.drewN q2).cell? (bd.add k) = some (.slice Y (mOf xss) d2) := hcy
            by_cases hlt3 : k2 < mOf xss
            · have hlt4 : k2 < ys.length := by rw [HE.out]; exact hlt3
              obtain ⟨yb, hY, hcz⟩ := hrow.at_ (k := k2) (by rw [ic_len]; exact hlt4)
              subst hY
              rw [ic_get ys k2 hlt4] at hcz
              have hcz' : (w.drewN q2).cell? (yb.add k2) = some (.int .i64 ys[k2]) := hcz
              have hj0 : (0 : Int) ≤ k2 := by omega
              have hj1 : (k2 : Int) < (mOf xss : Nat) := by omega
              have HST := Lib.hid (fun h => lt_step sOk hA2.out hlt4 h)
              have HBAD := Lib.hid (fun h => HG.out (HOK.out.trans (la_bad sOk (List.getElem_mem hlt4) h)))
              clear hA2
              generalize ys[k2] = y at *
              have HIN0 := Lib.hid (fun w => l1In_any y 0 1000000 w)
              cases hy : inB y 0 1000000
              · have HBD := Lib.hid (HBAD.out hy)
                rw [hy] at HIN0
                clear hy
                go_wp2_with fail
                refine (HIN0.out _).mono ?_
                rintro e _ ⟨rfl, rfl⟩
                go_wp2
                go_ret
                exact ⟨by rw [HBD.out]; rfl, _, rfl⟩
              · have HBD := Lib.hid (HST.out hy)
                rw [hy] at HIN0
                clear hy
                go_wp2_with fail
                refine (HIN0.out _).mono ?_
                rintro e _ ⟨rfl, rfl⟩
                go_wp2
                go_roundw
                case rel => exact ⟨k2 + 1, _, by omega, by go_num, HBD.out, rfl⟩
                case measure => simp [intOf]; omega
            · obtain rfl : k2 = mOf xss := by omega
              have HBD := Lib.hid (HS.out (HOK.out.trans (la_good sOk fun i hi => hA2.out i hi (by rw [← HE.out]; exact hi))))
              clear hA2
              go_wp2
              go_roundw
              case rel => exact ⟨k + 1, _, by omega, by omega, by go_num, HBD.out, rfl⟩
              case measure => simp [intOf]; omega
        · have HBD := Lib.hid (HG.out (rowOk_len he))
          have hbb : (((ys.length : Nat) : Int) != ((mOf xss : Nat) : Int)) = true := by rw [bne_iff_ne]; omega
          clear he
          generalize ys.length = L at *
          generalize mOf xss = M at *
          go_wp2
          go_quiet (fail)
          go_wp2
          go_ret
          exact ⟨by rw [HBD.out]; rfl, _, by first | rfl | exact World.drewN_drewN _ _ _⟩
      · have hne : yss.length ≠ xss.length := by omega
        have HN := Lib.hid (starts_len hne)
        have hi1 : (k : Int) < yss.length := by omega
        have hi2 : ¬ (k : Int) < xss.length := by omega
        have hbb : (((yss.length : Nat) : Int) == ((xss.length : Nat) : Int)) = false := by rw [beq_eq_false_iff_ne]; omega
        clear hA hne
        go_wp2
        go_ret
        exact ⟨by rw [HN.out]; rfl, _, rfl⟩
    · obtain rfl : k = yss.length := by omega
      have hi1 : ¬ ((yss.length : Nat) : Int) < yss.length := by omega
      have HE : Hid (startsB xss yss = (((yss.length : Nat) : Int) == ((xss.length : Nat) : Int))) := by
        show _ = _
        by_cases e : yss.length = xss.length
        · rw [starts_yes e fun i hi => hA.out i hi hi, e]; simp
        · rw [starts_len e, eq_comm, beq_eq_false_iff_ne]; omega
      clear hA
      go_wp2
      go_ret
      exact ⟨by rw [HE.out]; rfl, _, rfl⟩
end Go.Proofs.Ytdhndoccdfbefaa
