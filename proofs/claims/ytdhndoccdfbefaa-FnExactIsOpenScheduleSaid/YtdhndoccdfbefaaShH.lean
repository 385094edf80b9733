/- Open schedules: whether a line's visits are apart. -/
import Derived.Test.YtdhndoccdfbefaaShD
namespace Go.Proofs.Ytdhndoccdfbefaa
open Go.RowKit

def apartP (s t : Nat → Int) (L : Nat) : Prop := ∀ x, x < L → ∀ y, y < x → meetB (s x) (t x) (s y) (t y) = false
instance (s t : Nat → Int) (L : Nat) : Decidable (apartP s t L) := by unfold apartP; infer_instance
def needL (s t : Nat → Int) : Nat → List Sp
  | 0 => []
  | k + 1 => if 0 < t k then needL s t k ++ [⟨0, s k, s k + t k⟩] else needL s t k
theorem need_step (s t : Nat → Int) (k : Nat) : needL s t (k + 1) = if 0 < t k then needL s t k ++ [⟨0, s k, s k + t k⟩] else needL s t k := rfl
theorem need_len (s t : Nat → Int) : ∀ k, (needL s t k).length ≤ k
  | 0 => Nat.le_refl _
  | k + 1 => by
    have := need_len s t k
    rw [need_step]
    split
    · simp; omega
    · omega
theorem need_mem (s t : Nat → Int) (x : Sp) : ∀ k, x ∈ needL s t k ↔ ∃ y, y < k ∧ 0 < t y ∧ x = ⟨0, s y, s y + t y⟩
  | 0 => by simp [needL]
  | k + 1 => by
    rw [need_step]
    have ih := need_mem s t x k
    by_cases h : 0 < t k
    · rw [if_pos h, List.mem_append, ih]
      constructor
      · rintro (⟨y, h1, h2⟩ | h1)
        · exact ⟨y, by omega, h2⟩
        · exact ⟨k, by omega, h, by simpa using h1⟩
      · rintro ⟨y, h1, h2, h3⟩
        by_cases e : y = k
        · subst e; exact .inr (by simp [h3])
        · exact .inl ⟨y, by omega, h2, h3⟩
    · rw [if_neg h, ih]
      constructor
      · rintro ⟨y, h1, h2⟩; exact ⟨y, by omega, h2⟩
      · rintro ⟨y, h1, h2, h3⟩
        by_cases e : y = k
        · subst e; exact absurd h2 h
        · exact ⟨y, by omega, h2, h3⟩
theorem need_any (s t : Nat → Int) (k : Nat) (h : 0 < t k) : (needL s t k).any (ovB (s k) (s k + t k)) = true ↔ ∃ y, y < k ∧ meetB (s k) (t k) (s y) (t y) = true := by
  rw [List.any_eq_true]
  unfold ovB meetB
  constructor
  · rintro ⟨x, hx, ho⟩
    obtain ⟨y, h1, h2, rfl⟩ := (need_mem s t x k).1 hx
    rw [Bool.and_eq_true, decide_eq_true_iff, decide_eq_true_iff] at ho
    exact ⟨y, h1, decide_eq_true ⟨h, h2, ho.1, ho.2⟩⟩
  · rintro ⟨y, h1, h2⟩
    have h3 := of_decide_eq_true h2
    refine ⟨⟨0, s y, s y + t y⟩, (need_mem s t _ k).2 ⟨y, h1, h3.2.1, rfl⟩, ?_⟩
    rw [Bool.and_eq_true, decide_eq_true_iff, decide_eq_true_iff]
    exact ⟨h3.2.2.1, h3.2.2.2⟩
theorem apart_step {s t : Nat → Int} {k : Nat} (h : ∀ x, x < k → ∀ y, y < x → meetB (s x) (t x) (s y) (t y) = false) (hk : ∀ y, y < k → meetB (s k) (t k) (s y) (t y) = false) : ∀ x, x < k + 1 → ∀ y, y < x → meetB (s x) (t x) (s y) (t y) = false := by
  intro x hx y hy
  by_cases e : x = k
  · subst e; exact hk y hy
  · exact h x (by omega) y hy
theorem app_span {R : Nat} {W : World} {v : Value} {n : Nat} {xs : List Value} (hown : W.ownsRow R 88 3 v n xs) (hR : R ≤ W.heap.size) (s : Sp) (hn : n ≤ 1000) :
    ∃ v' W', (Builtin.append_ #[86, 86] 86 #[v, .slice (some ⟨W.heap.size, 0, none⟩) 1 1]).run Try.prog (W.alloc (.cells #[.int .i64 s.j, .int .i64 s.f, .int .i64 s.t] 88)) = .ok v' W' ∧ W'.ownsRow R 88 3 v' (n + 1) (xs ++ cellsSp s) ∧ Below R W W' ∧ ∀ (q : Nat) (t : TypeId) (cs : Array Value), BlockIs W q t cs → t ≠ 88 → BlockIs W' q t cs := by
  have ho : (W.alloc (.cells #[.int .i64 s.j, .int .i64 s.f, .int .i64 s.t] 88)).ownsRow R 88 3 v n xs := own_to hown fun g _ _ hg => ((Below.refl W.heap.size W).alloc (Nat.le_refl _) _).block g hg
  obtain ⟨i, hi, hz⟩ := Option.map_eq_some_iff.1 infoSp
  injection hz with hz0 hz
  injection hz with hz1 hz2
  have hcell : ∀ j u, (cellsSp s)[j]? = some u → (W.alloc (.cells #[.int .i64 s.j, .int .i64 s.f, .int .i64 s.t] 88)).cell? ((⟨W.heap.size, 0, none⟩ : Addr).add j) = some u := by
    intro j u hu
    obtain ⟨ad, e, _, hc⟩ := Row.new W 88 #[.int .i64 s.j, .int .i64 s.f, .int .i64 s.t] (by simp)
    obtain rfl := Option.some.inj e
    exact hc j u hu
  obtain ⟨v', W', hr, h2, h3, _⟩ := append_at (P := Try.prog) (W.alloc (.cells #[.int .i64 s.j, .int .i64 s.f, .int .i64 s.t] 88)) R 86 86 88 i (.agg #[.int .i64 0, .int .i64 0, .int .i64 0]) 3 24 Try.underlying86 hi hz0 hz1 hz2 rfl (by decide) v n xs ho ⟨W.heap.size, 0, none⟩ 1 1 (cellsSp s) rfl
    hcell
    (by intro u hu; simp [cellsSp] at hu; rcases hu with rfl | rfl | rfl <;> rfl) (by omega) (by unfold maxLen; omega) (by omega) (by simp; omega)
  refine ⟨v', W', hr, h2, app_grown (Below.refl R W) hR hown h3, fun q t cs hq ht => app_block hq h3 fun e => ?_⟩
  obtain ⟨_, _, cur, hc⟩ := own_type hown e
  exact type_ne hq hc ht rfl
set_option maxRecDepth 100000 in
set_option maxHeartbeats 8000000 in
theorem apart_m (A : Option Addr) (c : Nat) (B : Option Addr) (d : Nat) (xss yss : List (List Int)) (v : Nat) (w : World) (hr : RowSS w A (xss.map ic)) (hr2 : RowSS w B (yss.map ic)) (hs : Shop xss) (hS : Starts xss yss) (hx : xss.length ≤ 10000000 ∧ totL xss ≤ 10000000) (hv : v < mOf xss) (S T : Nat → Int) (hSd : ∀ i, S i = tm yss i v) (hTd : ∀ i, T i = tm xss i v) :
    Calls Try.prog 86 #[.slice A xss.length c, .iface 78 (.int .i64 (v : Int)), .slice B yss.length d] w fun e w' => e = .returned (.bool (decide (apartP S T xss.length))) ∧ Below w.heap.size w w' := by
  have h8 := hs.n8
  have hM3 := hs.m3
  have hM1 := hs.m1
  have hb00 := (Below.refl w.heap.size w).alloc (Nat.le_refl _) (.cells #[] 88)
  have HV := Lib.hid (mVisits_any A c xss v (w.alloc (.cells #[] 88)) (hr.below hb00) hs hx)
  have HB00 := Lib.hid hb00
  have hown0 : (w.alloc (.cells #[] 88)).ownsRow w.heap.size 88 3 (.slice (some ⟨w.heap.size, 0, none⟩) 0 0) 0 [] := World.ownsRow_made w #[] 0 (Nat.le_refl _) (by unfold maxLen; omega) rfl
  have HOWN0 := Lib.hid hown0
  have HAT := Lib.hid (fun W (hb : Below w.heap.size w W) j k (hj : j < xss.length) (hk : k < mOf xss) => at_any A c xss j k W (hr.below hb) hs hj hk)
  have HROY := Lib.hid (fun W (hb : Below w.heap.size w W) i (hi : i < xss.length) => rect_row hM1 hS.rows (hr2.below hb) (i := i) (by rw [hS.len]; exact hi))
  have HSB := Lib.hid (fun i k => hS.tm i k)
  have HTB := Lib.hid (fun i k => hs.tm i k)
  have HLY := Lib.hid hS.len
  clear hr hr2 hs hS hb00 hown0
  go_enter Try.func86, Try.ntmps86
  go_wp2_with (go_at_call 113; refine HV.out.mono ?_; rintro e w1 ⟨g, rfl, hg, hB, hb1⟩)
  have hgg : w.heap.size < g := by have := hg; simp at this; omega
  have HB0 := Lib.hid hB
  have HB1 := Lib.hid (HB00.out.trans (hb1.mono (by simp)))
  have HO1 := Lib.hid (own_blw HOWN0.out hb1)
  clear hB hb1
  go_loopw [7, 17] (fun r0 i wr => ∃ (k : Nat) (r : Value), r = r0 ∧ k ≤ xss.length ∧ i = .int .i64 (k : Int) ∧ Hid (wr.ownsRow w.heap.size 88 3 r (needL S T k).length (spc (needL S T k)) ∧ BlockIs wr g 83 (freeA (visF (fun i => i) (fun _ => v) xss.length) (xss.length * 2)) ∧ Below w.heap.size w wr ∧ ∀ x, x < k → ∀ y, y < x → meetB (S x) (T x) (S y) (T y) = false)) (fun _ i _ => xss.length - (intOf i).toNat)
  case atStart => exact ⟨0, _, rfl, Nat.zero_le _, rfl, HO1.out, HB0.out, HB1.out, fun _ h => absurd h (by omega)⟩
  case round =>
    obtain ⟨k, r, rfl, hk, rfl, HI⟩ := hrel
    obtain ⟨wo, hwo⟩ : ∃ x, x = wr := ⟨wr, rfl⟩
    subst hwo
    by_cases hlt : k < xss.length
    · have hbb := HI.out.2.2.1
      have hsz := hbb.size
      have h0 := HI.out.2.1
      have c0 := h0.cell (k * 2)
      have c1 := h0.cell (k * 2 + 1)
      rw [freeA_get _ _ _ (by omega), vis_get0 _ _ hlt] at c0
      rw [freeA_get _ _ _ (by omega), vis_get1 _ _ hlt] at c1
      have hi0 : (0 : Int) ≤ k := by omega
      have hi1 : (k : Int) < (xss.length : Nat) := by omega
      have hsb : 0 ≤ S k ∧ S k ≤ 1000000 := by rw [hSd k]; exact HSB.out _ _
      have htb : 0 ≤ T k ∧ T k ≤ 30 := by rw [hTd k]; exact HTB.out _ _
      have hjj : (fun i => i) k < xss.length := by first | omega | (show k < _; omega) | (show v < _; omega)
      have hkk : (fun _ => v) k < mOf xss := by first | omega | (show k < _; omega) | (show v < _; omega)
      have hba := (Below.refl wo.heap.size wo).alloc (Nat.le_refl _) (.cells #[.int .i64 (((fun i => i) k : Nat) : Int), .int .i64 (((fun _ => v) k : Nat) : Int)] 83)
      have hvn := BlockIs.new wo 83 #[.int .i64 (((fun i => i) k : Nat) : Int), .int .i64 (((fun _ => v) k : Nat) : Int)]
      have d0 := hvn.cell 0
      have d1 := hvn.cell 1
      simp only [List.getElem?_toArray, List.getElem?_cons_zero, List.getElem?_cons_succ] at d0 d1
      obtain ⟨bd, yb, dy, hBd, hcy, hfy⟩ := HROY.out _ (hbb.trans (hba.mono hsz)) ((fun i => i) k) hjj
      subst hBd
      have hcf := hfy ((fun _ => v) k) hkk
      have hj0 : (0 : Int) ≤ (((fun i => i) k : Nat) : Int) := by omega
      have hj1 : (((fun i => i) k : Nat) : Int) < yss.length := by have := HLY.out; omega
      have hk0 : (0 : Int) ≤ (((fun _ => v) k : Nat) : Int) := by omega
      have hk1 : (((fun _ => v) k : Nat) : Int) < (mOf xss : Nat) := by omega
      have HA := Lib.hid (fun q => HAT.out ((wo.alloc (.cells #[.int .i64 (((fun i => i) k : Nat) : Int), .int .i64 (((fun _ => v) k : Nat) : Int)] 83)).drewN q) (below_drewN (hbb.trans (hba.mono hsz)) q) ((fun i => i) k) ((fun _ => v) k) hjj hkk)
      have HBA := Lib.hid hba
      have hts : tm yss ((fun i => i) k) ((fun _ => v) k) = S k := (hSd k).symm
      have htt : tm xss ((fun i => i) k) ((fun _ => v) k) = T k := (hTd k).symm
      rw [hts] at hcf
      rw [htt] at HA
      have HNE := Lib.hid (need_step S T k)
      have HAN := Lib.hid (need_any S T k)
      have HAP := Lib.hid (fun h => apart_step (s := S) (t := T) HI.out.2.2.2 h)
      have hnl := need_len S T k
      clear h0 hba hvn hfy hts htt hSd hTd
      generalize hsk : S k = s at *
      generalize htk : T k = t at *
      have HSK := Lib.hid hsk
      have HTK := Lib.hid htk
      clear hsk htk
      go_wp2
      go_quiet (fail)
      go_wp2_with fail
      refine (HA.out _).mono ?_
      rintro e w2 ⟨rfl, hb2⟩
      have hb20 : Below wo.heap.size wo w2 := (below_drewN HBA.out _).trans (hb2.mono (by simp))
      have HB2 := Lib.hid hb20
      have hsp := BlockIs.new w2 88 #[.int .i64 0, .int .i64 s, .int .i64 (s + t)]
      have hb3 := (Below.refl w2.heap.size w2).alloc (Nat.le_refl _) (.cells #[.int .i64 0, .int .i64 s, .int .i64 (s + t)] 88)
      have f0 := hsp.cell 0
      have f1 := hsp.cell 1
      have f2 := hsp.cell 2
      simp only [List.getElem?_toArray, List.getElem?_cons_zero, List.getElem?_cons_succ] at f0 f1 f2
      have HSP := Lib.hid hsp
      have hb30 : Below wo.heap.size wo (w2.alloc (.cells #[.int .i64 0, .int .i64 s, .int .i64 (s + t)] 88)) := hb20.trans (hb3.mono hb20.size)
      have HB3 := Lib.hid hb30
      clear hb2 hb20 hsp hb3 hb30
      obtain ⟨hown, hvis, _, hap⟩ := HI.out
      obtain ⟨A', c', hrr, _⟩ := own_slice hown
      subst hrr
      have HOWN := Lib.hid hown
      have HVIS := Lib.hid hvis
      have HBB := Lib.hid hbb
      clear HI hown hvis hbb hap
      by_cases ht0 : 0 < t
      · have heq : (s == s + t) = false := by rw [beq_eq_false_iff_ne]; omega
        have HC := Lib.hid (containsSp_any A' c' (needL S T k) w2.heap.size 0 s (s + t) (w2.alloc (.cells #[.int .i64 0, .int .i64 s, .int .i64 (s + t)] 88)) ((Row.of_own HOWN.out).below HB3.out) (by omega) HSP.out)
        have HAN2 := Lib.hid (HAN.out ht0)
        cases hov : (needL S T k).any (ovB s (s + t))
        · have HNO : Hid (∀ y, y < k → meetB s t (S y) (T y) = false) := fun y hy => by
            cases hm : meetB s t (S y) (T y) with
            | false => rfl
            | true =>
              have := HAN2.out.2 ⟨y, hy, hm⟩
              rw [hov] at this
              cases this
          rw [hov] at HC
          clear hov
          go_wp2_with fail
          refine HC.out.mono ?_
          rintro e w4 ⟨rfl, hb4⟩
          have hb40 := HB3.out.trans (hb4.mono HB3.out.size)
          have hsp4 := HSP.out.below hb4
          have g0 := hsp4.cell 0
          have g1 := hsp4.cell 1
          have g2 := hsp4.cell 2
          simp only [List.getElem?_toArray, List.getElem?_cons_zero, List.getElem?_cons_succ] at g0 g1 g2
          have hown4 := own_blw HOWN.out hb40
          obtain ⟨v', W', hrun, ho5, hb5, hk5⟩ := app_span hown4 (Nat.le_trans hsz hb40.size) ⟨0, s, s + t⟩ (by omega)
          have HRUN := Lib.hid hrun
          have HN : Hid (W'.ownsRow w.heap.size 88 3 v' (needL S T (k + 1)).length (spc (needL S T (k + 1))) ∧ BlockIs W' g 83 (freeA (visF (fun i => i) (fun _ => v) xss.length) (xss.length * 2)) ∧ Below w.heap.size w W' ∧ ∀ x, x < k + 1 → ∀ y, y < x → meetB (S x) (T x) (S y) (T y) = false) := by
            have hbw := HBB.out.trans (hb40.mono HBB.out.size)
            refine ⟨?_, ?_, hbw.trans hb5, HAP.out HNO.out⟩
            · rw [HNE.out, if_pos ht0]
              have e1 : (needL S T k ++ [(⟨0, s, s + t⟩ : Sp)]).length = (needL S T k).length + 1 := by simp
              have e2 : spc (needL S T k ++ [(⟨0, s, s + t⟩ : Sp)]) = spc (needL S T k) ++ cellsSp ⟨0, s, s + t⟩ := by unfold spc; simp
              rw [e1, e2]
              exact ho5
            · have hb6 := HVIS.out.below hb40
              exact hk5 _ _ _ hb6 (by decide)
          clear hb4 hb40 hsp4 hown4 hrun ho5 hb5 hk5
          go_wp2_with (at_builtin; refine wpList_app rfl _ _ _ rfl _ _ _ rfl rfl HRUN.out ?_; clear HRUN)
          go_roundw
          case rel => exact ⟨k + 1, _, rfl, by omega, by go_num, HN.out⟩
          case measure => simp [intOf]; omega
        · have HNO : Hid (decide (apartP S T xss.length) = false) := decide_eq_false fun h => by
            obtain ⟨y, hy, hm⟩ := HAN2.out.1 hov
            have := h k hlt y hy
            rw [HSK.out, HTK.out, hm] at this
            cases this
          rw [hov] at HC
          clear hov
          go_wp2_with fail
          refine HC.out.mono ?_
          rintro e w4 ⟨rfl, hb4⟩
          have HB4 := Lib.hid (HBB.out.trans ((HB3.out.trans (hb4.mono HB3.out.size)).mono HBB.out.size))
          clear hb4
          go_wp2
          go_ret
          exact ⟨by rw [HNO.out]; rfl, HB4.out⟩
      · have ht1 : t = 0 := by omega
        have heq : (s == s + t) = true := by rw [ht1]; simp
        have HN : Hid ((w2.alloc (.cells #[.int .i64 0, .int .i64 s, .int .i64 (s + t)] 88)).ownsRow w.heap.size 88 3 (.slice A' (needL S T k).length c') (needL S T (k + 1)).length (spc (needL S T (k + 1))) ∧ BlockIs (w2.alloc (.cells #[.int .i64 0, .int .i64 s, .int .i64 (s + t)] 88)) g 83 (freeA (visF (fun i => i) (fun _ => v) xss.length) (xss.length * 2)) ∧ Below w.heap.size w (w2.alloc (.cells #[.int .i64 0, .int .i64 s, .int .i64 (s + t)] 88)) ∧ ∀ x, x < k + 1 → ∀ y, y < x → meetB (S x) (T x) (S y) (T y) = false) := by
          refine ⟨?_, HVIS.out.below HB3.out, HBB.out.trans (HB3.out.mono HBB.out.size), HAP.out fun y hy => meet_1 ht0⟩
          rw [HNE.out, if_neg ht0]
          exact own_blw HOWN.out HB3.out
        clear ht0 ht1
        go_wp2
        go_roundw
        case rel => exact ⟨k + 1, _, rfl, by omega, by go_num, HN.out⟩
        case measure => simp [intOf]; omega
    · obtain rfl : k = xss.length := by omega
      have HF := Lib.hid HI.out.2.2.1
      have HY : Hid (decide (apartP S T xss.length) = true) := decide_eq_true HI.out.2.2.2
      clear HI
      go_wp2
      go_ret
      exact ⟨by rw [HY.out]; rfl, HF.out⟩
set_option maxRecDepth 100000 in
set_option maxHeartbeats 8000000 in
theorem apart_j (A : Option Addr) (c : Nat) (B : Option Addr) (d : Nat) (xss yss : List (List Int)) (v : Nat) (w : World) (hr : RowSS w A (xss.map ic)) (hr2 : RowSS w B (yss.map ic)) (hs : Shop xss) (hS : Starts xss yss) (hx : xss.length ≤ 10000000 ∧ totL xss ≤ 10000000) (hv : v < xss.length) (S T : Nat → Int) (hSd : ∀ i, S i = tm yss v i) (hTd : ∀ i, T i = tm xss v i) :
    Calls Try.prog 86 #[.slice A xss.length c, .iface 79 (.int .i64 (v : Int)), .slice B yss.length d] w fun e w' => e = .returned (.bool (decide (apartP S T (mOf xss)))) ∧ Below w.heap.size w w' := by
  have h8 := hs.n8
  have hM3 := hs.m3
  have hM1 := hs.m1
  have hb00 := (Below.refl w.heap.size w).alloc (Nat.le_refl _) (.cells #[] 88)
  have HV := Lib.hid (jVisits_any A c xss v (w.alloc (.cells #[] 88)) (hr.below hb00) hs hx)
  have HB00 := Lib.hid hb00
  have hown0 : (w.alloc (.cells #[] 88)).ownsRow w.heap.size 88 3 (.slice (some ⟨w.heap.size, 0, none⟩) 0 0) 0 [] := World.ownsRow_made w #[] 0 (Nat.le_refl _) (by unfold maxLen; omega) rfl
  have HOWN0 := Lib.hid hown0
  have HAT := Lib.hid (fun W (hb : Below w.heap.size w W) j k (hj : j < xss.length) (hk : k < mOf xss) => at_any A c xss j k W (hr.below hb) hs hj hk)
  have HROY := Lib.hid (fun W (hb : Below w.heap.size w W) i (hi : i < xss.length) => rect_row hM1 hS.rows (hr2.below hb) (i := i) (by rw [hS.len]; exact hi))
  have HSB := Lib.hid (fun i k => hS.tm i k)
  have HTB := Lib.hid (fun i k => hs.tm i k)
  have HLY := Lib.hid hS.len
  clear hr hr2 hs hS hb00 hown0
  go_enter Try.func86, Try.ntmps86
  go_wp2_with (go_at_call 114; refine HV.out.mono ?_; rintro e w1 ⟨g, rfl, hg, hB, hb1⟩)
  have hgg : w.heap.size < g := by have := hg; simp at this; omega
  have HB0 := Lib.hid hB
  have HB1 := Lib.hid (HB00.out.trans (hb1.mono (by simp)))
  have HO1 := Lib.hid (own_blw HOWN0.out hb1)
  clear hB hb1
  go_loopw [7, 17] (fun r0 i wr => ∃ (k : Nat) (r : Value), r = r0 ∧ k ≤ (mOf xss) ∧ i = .int .i64 (k : Int) ∧ Hid (wr.ownsRow w.heap.size 88 3 r (needL S T k).length (spc (needL S T k)) ∧ BlockIs wr g 83 (freeA (visF (fun _ => v) (fun i => i) (mOf xss)) ((mOf xss) * 2)) ∧ Below w.heap.size w wr ∧ ∀ x, x < k → ∀ y, y < x → meetB (S x) (T x) (S y) (T y) = false)) (fun _ i _ => (mOf xss) - (intOf i).toNat)
  case atStart => exact ⟨0, _, rfl, Nat.zero_le _, rfl, HO1.out, HB0.out, HB1.out, fun _ h => absurd h (by omega)⟩
  case round =>
    obtain ⟨k, r, rfl, hk, rfl, HI⟩ := hrel
    obtain ⟨wo, hwo⟩ : ∃ x, x = wr := ⟨wr, rfl⟩
    subst hwo
    by_cases hlt : k < (mOf xss)
    · have hbb := HI.out.2.2.1
      have hsz := hbb.size
      have h0 := HI.out.2.1
      have c0 := h0.cell (k * 2)
      have c1 := h0.cell (k * 2 + 1)
      rw [freeA_get _ _ _ (by omega), vis_get0 _ _ hlt] at c0
      rw [freeA_get _ _ _ (by omega), vis_get1 _ _ hlt] at c1
      have hi0 : (0 : Int) ≤ k := by omega
      have hi1 : (k : Int) < ((mOf xss) : Nat) := by omega
      have hsb : 0 ≤ S k ∧ S k ≤ 1000000 := by rw [hSd k]; exact HSB.out _ _
      have htb : 0 ≤ T k ∧ T k ≤ 30 := by rw [hTd k]; exact HTB.out _ _
      have hjj : (fun _ => v) k < xss.length := by first | omega | (show k < _; omega) | (show v < _; omega)
      have hkk : (fun i => i) k < mOf xss := by first | omega | (show k < _; omega) | (show v < _; omega)
      have hba := (Below.refl wo.heap.size wo).alloc (Nat.le_refl _) (.cells #[.int .i64 (((fun _ => v) k : Nat) : Int), .int .i64 (((fun i => i) k : Nat) : Int)] 83)
      have hvn := BlockIs.new wo 83 #[.int .i64 (((fun _ => v) k : Nat) : Int), .int .i64 (((fun i => i) k : Nat) : Int)]
      have d0 := hvn.cell 0
      have d1 := hvn.cell 1
      simp only [List.getElem?_toArray, List.getElem?_cons_zero, List.getElem?_cons_succ] at d0 d1
      obtain ⟨bd, yb, dy, hBd, hcy, hfy⟩ := HROY.out _ (hbb.trans (hba.mono hsz)) ((fun _ => v) k) hjj
      subst hBd
      have hcf := hfy ((fun i => i) k) hkk
      have hj0 : (0 : Int) ≤ (((fun _ => v) k : Nat) : Int) := by omega
      have hj1 : (((fun _ => v) k : Nat) : Int) < yss.length := by have := HLY.out; omega
      have hk0 : (0 : Int) ≤ (((fun i => i) k : Nat) : Int) := by omega
      have hk1 : (((fun i => i) k : Nat) : Int) < (mOf xss : Nat) := by omega
      have HA := Lib.hid (fun q => HAT.out ((wo.alloc (.cells #[.int .i64 (((fun _ => v) k : Nat) : Int), .int .i64 (((fun i => i) k : Nat) : Int)] 83)).drewN q) (below_drewN (hbb.trans (hba.mono hsz)) q) ((fun _ => v) k) ((fun i => i) k) hjj hkk)
      have HBA := Lib.hid hba
      have hts : tm yss ((fun _ => v) k) ((fun i => i) k) = S k := (hSd k).symm
      have htt : tm xss ((fun _ => v) k) ((fun i => i) k) = T k := (hTd k).symm
      rw [hts] at hcf
      rw [htt] at HA
      have HNE := Lib.hid (need_step S T k)
      have HAN := Lib.hid (need_any S T k)
      have HAP := Lib.hid (fun h => apart_step (s := S) (t := T) HI.out.2.2.2 h)
      have hnl := need_len S T k
      clear h0 hba hvn hfy hts htt hSd hTd
      generalize hsk : S k = s at *
      generalize htk : T k = t at *
      have HSK := Lib.hid hsk
      have HTK := Lib.hid htk
      clear hsk htk
      go_wp2
      go_quiet (fail)
      go_wp2_with fail
      refine (HA.out _).mono ?_
      rintro e w2 ⟨rfl, hb2⟩
      have hb20 : Below wo.heap.size wo w2 := (below_drewN HBA.out _).trans (hb2.mono (by simp))
      have HB2 := Lib.hid hb20
      have hsp := BlockIs.new w2 88 #[.int .i64 0, .int .i64 s, .int .i64 (s + t)]
      have hb3 := (Below.refl w2.heap.size w2).alloc (Nat.le_refl _) (.cells #[.int .i64 0, .int .i64 s, .int .i64 (s + t)] 88)
      have f0 := hsp.cell 0
      have f1 := hsp.cell 1
      have f2 := hsp.cell 2
      simp only [List.getElem?_toArray, List.getElem?_cons_zero, List.getElem?_cons_succ] at f0 f1 f2
      have HSP := Lib.hid hsp
      have hb30 : Below wo.heap.size wo (w2.alloc (.cells #[.int .i64 0, .int .i64 s, .int .i64 (s + t)] 88)) := hb20.trans (hb3.mono hb20.size)
      have HB3 := Lib.hid hb30
      clear hb2 hb20 hsp hb3 hb30
      obtain ⟨hown, hvis, _, hap⟩ := HI.out
      obtain ⟨A', c', hrr, _⟩ := own_slice hown
      subst hrr
      have HOWN := Lib.hid hown
      have HVIS := Lib.hid hvis
      have HBB := Lib.hid hbb
      clear HI hown hvis hbb hap
      by_cases ht0 : 0 < t
      · have heq : (s == s + t) = false := by rw [beq_eq_false_iff_ne]; omega
        have HC := Lib.hid (containsSp_any A' c' (needL S T k) w2.heap.size 0 s (s + t) (w2.alloc (.cells #[.int .i64 0, .int .i64 s, .int .i64 (s + t)] 88)) ((Row.of_own HOWN.out).below HB3.out) (by omega) HSP.out)
        have HAN2 := Lib.hid (HAN.out ht0)
        cases hov : (needL S T k).any (ovB s (s + t))
        · have HNO : Hid (∀ y, y < k → meetB s t (S y) (T y) = false) := fun y hy => by
            cases hm : meetB s t (S y) (T y) with
            | false => rfl
            | true =>
              have := HAN2.out.2 ⟨y, hy, hm⟩
              rw [hov] at this
              cases this
          rw [hov] at HC
          clear hov
          go_wp2_with fail
          refine HC.out.mono ?_
          rintro e w4 ⟨rfl, hb4⟩
          have hb40 := HB3.out.trans (hb4.mono HB3.out.size)
          have hsp4 := HSP.out.below hb4
          have g0 := hsp4.cell 0
          have g1 := hsp4.cell 1
          have g2 := hsp4.cell 2
          simp only [List.getElem?_toArray, List.getElem?_cons_zero, List.getElem?_cons_succ] at g0 g1 g2
          have hown4 := own_blw HOWN.out hb40
          obtain ⟨v', W', hrun, ho5, hb5, hk5⟩ := app_span hown4 (Nat.le_trans hsz hb40.size) ⟨0, s, s + t⟩ (by omega)
          have HRUN := Lib.hid hrun
          have HN : Hid (W'.ownsRow w.heap.size 88 3 v' (needL S T (k + 1)).length (spc (needL S T (k + 1))) ∧ BlockIs W' g 83 (freeA (visF (fun _ => v) (fun i => i) (mOf xss)) ((mOf xss) * 2)) ∧ Below w.heap.size w W' ∧ ∀ x, x < k + 1 → ∀ y, y < x → meetB (S x) (T x) (S y) (T y) = false) := by
            have hbw := HBB.out.trans (hb40.mono HBB.out.size)
            refine ⟨?_, ?_, hbw.trans hb5, HAP.out HNO.out⟩
            · rw [HNE.out, if_pos ht0]
              have e1 : (needL S T k ++ [(⟨0, s, s + t⟩ : Sp)]).length = (needL S T k).length + 1 := by simp
              have e2 : spc (needL S T k ++ [(⟨0, s, s + t⟩ : Sp)]) = spc (needL S T k) ++ cellsSp ⟨0, s, s + t⟩ := by unfold spc; simp
              rw [e1, e2]
              exact ho5
            · have hb6 := HVIS.out.below hb40
              exact hk5 _ _ _ hb6 (by decide)
          clear hb4 hb40 hsp4 hown4 hrun ho5 hb5 hk5
          go_wp2_with (at_builtin; refine wpList_app rfl _ _ _ rfl _ _ _ rfl rfl HRUN.out ?_; clear HRUN)
          go_roundw
          case rel => exact ⟨k + 1, _, rfl, by omega, by go_num, HN.out⟩
          case measure => simp [intOf]; omega
        · have HNO : Hid (decide (apartP S T (mOf xss)) = false) := decide_eq_false fun h => by
            obtain ⟨y, hy, hm⟩ := HAN2.out.1 hov
            have := h k hlt y hy
            rw [HSK.out, HTK.out, hm] at this
            cases this
          rw [hov] at HC
          clear hov
          go_wp2_with fail
          refine HC.out.mono ?_
          rintro e w4 ⟨rfl, hb4⟩
          have HB4 := Lib.hid (HBB.out.trans ((HB3.out.trans (hb4.mono HB3.out.size)).mono HBB.out.size))
          clear hb4
          go_wp2
          go_ret
          exact ⟨by rw [HNO.out]; rfl, HB4.out⟩
      · have ht1 : t = 0 := by omega
        have heq : (s == s + t) = true := by rw [ht1]; simp
        have HN : Hid ((w2.alloc (.cells #[.int .i64 0, .int .i64 s, .int .i64 (s + t)] 88)).ownsRow w.heap.size 88 3 (.slice A' (needL S T k).length c') (needL S T (k + 1)).length (spc (needL S T (k + 1))) ∧ BlockIs (w2.alloc (.cells #[.int .i64 0, .int .i64 s, .int .i64 (s + t)] 88)) g 83 (freeA (visF (fun _ => v) (fun i => i) (mOf xss)) ((mOf xss) * 2)) ∧ Below w.heap.size w (w2.alloc (.cells #[.int .i64 0, .int .i64 s, .int .i64 (s + t)] 88)) ∧ ∀ x, x < k + 1 → ∀ y, y < x → meetB (S x) (T x) (S y) (T y) = false) := by
          refine ⟨?_, HVIS.out.below HB3.out, HBB.out.trans (HB3.out.mono HBB.out.size), HAP.out fun y hy => meet_1 ht0⟩
          rw [HNE.out, if_neg ht0]
          exact own_blw HOWN.out HB3.out
        clear ht0 ht1
        go_wp2
        go_roundw
        case rel => exact ⟨k + 1, _, rfl, by omega, by go_num, HN.out⟩
        case measure => simp [intOf]; omega
    · obtain rfl : k = (mOf xss) := by omega
      have HF := Lib.hid HI.out.2.2.1
      have HY : Hid (decide (apartP S T (mOf xss)) = true) := decide_eq_true HI.out.2.2.2
      clear HI
      go_wp2
      go_ret
      exact ⟨by rw [HY.out]; rfl, HF.out⟩
end Go.Proofs.Ytdhndoccdfbefaa
