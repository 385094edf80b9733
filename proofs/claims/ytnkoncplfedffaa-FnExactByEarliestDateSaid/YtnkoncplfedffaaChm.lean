/- The model's schedule by a rule of choice. -/
import Derived.Test.YtnkoncplfedffaaPik
import Derived.Test.YtnkoncplfedffaaSpo
import Derived.Test.YtnkoncplfedffaaGri
import Derived.Test.YtnkoncplfedffaaSwapB
namespace Go.Proofs.Ytnkoncplfedffaa
open Go.RowKit
/-- The rests in a block. -/
def RB (w : World) (g : Nat) (R : List Int) : Prop := ∃ cur : Array Value, BlockIs w g 3 cur ∧ cur.toList.take R.length = ic R ∧ R.length ≤ cur.size
theorem RB.below {w w' : World} {g : Nat} {R : List Int} (h : RB w g R) (hb : Below w.heap.size w w') : RB w' g R := by
  obtain ⟨cur, h1, h2⟩ := h
  exact ⟨cur, h1.below hb, h2⟩
theorem RB.drewN {w : World} {g : Nat} {R : List Int} (h : RB w g R) (n : Nat) : RB (w.drewN n) g R := by
  obtain ⟨cur, h1, h2⟩ := h
  exact ⟨cur, h1.drewN n, h2⟩
theorem RB.lt {w : World} {g : Nat} {R : List Int} (h : RB w g R) : g < w.heap.size := by obtain ⟨_, h1, _⟩ := h; exact h1.lt
theorem RB.other {w : World} {g : Nat} {R : List Int} (h : RB w g R) {a : Addr} (hne : g ≠ a.block) (u : Value) : RB (w.setCell a u) g R := by
  obtain ⟨cur, h1, h2⟩ := h
  exact ⟨cur, h1.other hne u, h2⟩
theorem RB.at_ {w : World} {g : Nat} {R : List Int} (h : RB w g R) {k : Nat} (hk : k < R.length) : w.cell? ⟨g, k, none⟩ = some (.int .i64 R[k]) ∧ w.frozen? ⟨g, k, none⟩ = false := by
  obtain ⟨cur, h1, h2, h3⟩ := h
  refine ⟨?_, h1.frozen k⟩
  rw [h1.cell k, ← Array.getElem?_toList]
  have := congrArg (fun l => l[k]?) h2
  simp only [List.getElem?_take, hk, if_true] at this
  rw [this]
  unfold ic
  simp [hk]
theorem RB.row {w : World} {g : Nat} {R : List Int} (h : RB w g R) : Row w (some ⟨g, 0, none⟩) (ic R) := by
  intro h0
  rw [ic_len] at h0
  refine ⟨_, rfl, h.lt, fun j u hu => ?_⟩
  have hj : j < R.length := by
    have := (List.getElem?_eq_some_iff.1 hu).1
    rwa [ic_len] at this
  have hc := (h.at_ hj).1
  have he : u = .int .i64 R[j] := by
    unfold ic at hu
    simp [hj] at hu
    exact hu.symm
  subst he
  unfold Addr.add
  by_cases hz : j = 0
  · subst hz; rw [if_pos rfl]; exact hc
  · rw [if_neg hz]; simpa using hc
theorem RB.set {w : World} {g : Nat} {R : List Int} (h : RB w g R) {k : Nat} (x : Int) : RB (w.setCell ⟨g, k, none⟩ (.int .i64 x)) g (R.set k x) := by
  obtain ⟨cur, h1, h2, h3⟩ := h
  refine ⟨_, h1.set k _, ?_, by simpa using h3⟩
  rw [List.length_set, Array.toList_setIfInBounds, List.take_set, h2]
  unfold ic
  rw [List.map_set]
theorem rest_block {w : World} {B : Nat} {R : List Int} {n c : Nat} {ad : Addr} (h : w.ownsRow B 3 1 (.slice (some ad) n c) n (ic R)) (hn : R.length = n) : ∃ g, ad = ⟨g, 0, none⟩ ∧ B ≤ g ∧ RB w g R := by
  rcases h.2 with ⟨h0, _⟩ | ⟨g, cap, cur, h0, hB, hk, hnc, hcm, hcs, ht⟩
  · cases h0
  · injection h0 with h0
    injection h0 with h0
    subst hn
    exact ⟨g, h0, hB, cur, hk, by simpa using ht, by omega⟩
theorem RB.app {wr w1 : World} {v : Value} {o : Obj} {g : Nat} {R : List Int} (h : RB wr g R) (hgrow : (wr.alloc o).grownBy w1 v.ownBlock) (hne : v.ownBlock ≠ some g) : RB w1 g R := by
  obtain ⟨cur, h1, h2⟩ := h
  exact ⟨cur, app_block h1 hgrow hne, h2⟩
theorem cellsSp_one (s : Sp) : ∀ u ∈ cellsSp s, u.oneCell' = true := by
  intro u hu
  unfold cellsSp at hu
  simp at hu
  rcases hu with rfl | rfl | rfl <;> rfl
/-- A number of a span in a slice of one's own is set. -/
theorem ownT_set {w : World} {B : Nat} {A : Option Addr} {n c : Nat} {out : List Sp} (h : w.ownsRow B 67 3 (.slice A n c) n (spc out)) (hn : 0 < n) (ho : out.length = n) :
    ∃ g, A = some ⟨g, 0, none⟩ ∧ B ≤ g ∧ g < w.heap.size ∧ (∀ i, i < n * 3 → w.cell? ⟨g, i, none⟩ = (spc out)[i]? ∧ w.frozen? ⟨g, i, none⟩ = false ∧ ∀ u, (w.setCell ⟨g, i, none⟩ u).ownsRow B 67 3 (.slice A n c) n ((spc out).set i u)) := by
  obtain ⟨g, cur, rfl, hg, hB, h1, h2, h3, h4⟩ := own_block h hn
  refine ⟨g, rfl, hg, hB.lt, fun i hi => ⟨?_, hB.frozen i, fun u => ?_⟩⟩
  · rw [hB.cell i, ← h4, List.getElem?_take, if_pos hi, Array.getElem?_toList]
  · have := (hB.set i u).own (base := B) (n := n) (c := c) (size := 3) hg (by simpa using h3) h1 h2 (by simp [h3]; omega)
    rwa [Array.toList_setIfInBounds, List.take_set, h4] at this
theorem spc_set_last (ys : List Sp) (l : Sp) (t : Int) : (spc (ys ++ [l])).set (ys.length * 3 + 2) (.int .i64 t) = spc (ys ++ [⟨l.j, l.f, t⟩]) := by
  rw [spc_append, spc_append, List.set_append_right _ _ (by rw [spc_len]; omega), spc_len, show ys.length * 3 + 2 - 3 * ys.length = 2 by omega]
  rfl
theorem spc_last (ys : List Sp) (l : Sp) : (spc (ys ++ [l]))[ys.length * 3]? = some (.int .i64 l.j) ∧ (spc (ys ++ [l]))[ys.length * 3 + 2]? = some (.int .i64 l.t) := by
  have h0 := spc_get (ys ++ [l]) ys.length 0 (by simp) (by omega)
  have h2 := spc_get (ys ++ [l]) ys.length 2 (by simp) (by omega)
  simp only [List.getElem_append_right (Nat.le_refl _), Nat.sub_self, List.getElem_cons_zero] at h0 h2
  exact ⟨h0, h2⟩
theorem spc_snoc (out : List Sp) (s : Sp) : spc out ++ cellsSp s = spc (out ++ [s]) := by
  rw [spc_append]; unfold spc; simp
theorem putSp_nil (k : Nat) (f t : Int) : putSp [] k f t = [⟨k, f, t⟩] := rfl
theorem putSp_hit {ys : List Sp} {l : Sp} {k : Nat} {f t : Int} (h1 : l.j = (k : Int)) (h2 : l.t = f) : putSp (ys ++ [l]) k f t = ys ++ [⟨l.j, l.f, t⟩] := by
  unfold putSp
  rw [List.getLast?_concat]
  simp only
  rw [if_pos ⟨h1, h2⟩, List.dropLast_concat]
theorem putSp_miss {ys : List Sp} {l : Sp} {k : Nat} {f t : Int} (h : ¬ (l.j = (k : Int) ∧ l.t = f)) : putSp (ys ++ [l]) k f t = ys ++ [l] ++ [⟨k, f, t⟩] := by
  unfold putSp
  rw [List.getLast?_concat]
  simp only
  rw [if_neg h]
theorem sum_take_succ (R : List Int) (k : Nat) (hk : k < R.length) : (R.take (k + 1)).sum = (R.take k).sum + R[k] := by
  rw [List.take_succ_eq_append_getElem hk, List.sum_append]; simp
theorem sum_take_bd {R : List Int} (h : ∀ x ∈ R, 0 ≤ x) (k : Nat) : 0 ≤ (R.take k).sum ∧ (R.take k).sum ≤ R.sum := by
  have h1 : ∀ x ∈ R.take k, 0 ≤ x := fun x hx => h x (List.mem_of_mem_take hx)
  have h2 : ∀ x ∈ R.drop k, 0 ≤ x := fun x hx => h x (List.mem_of_mem_drop hx)
  have h3 := sum_nonneg h1
  have h4 := sum_nonneg h2
  have h5 : R.sum = (R.take k).sum + (R.drop k).sum := by rw [← List.sum_append, List.take_append_drop]
  omega
theorem l5Pick_any (A B : Option Addr) (c d : Nat) (js : List J) (R : List Int) (now o : Int) (ho : o = 2 ∨ o = 4) (w : World) (hr : Row w A (jc js)) (hq : Row w B (ic R)) (hlen : R.length = js.length) (hn : js.length ≤ 8) :
    Calls Try.prog 71 #[.slice A js.length c, .slice B js.length d, .int .i64 now, .int .i64 o] w fun e w' => e = .returned (.int .i64 (chPick js o R now)) ∧ ∃ m, w' = w.drewN m := by
  rcases ho with rfl | rfl
  · exact l5Pick_2 A B c d js R now w hr hq hlen hn
  · exact l5Pick_4 A B c d js R now w hr hq hlen hn

section
variable (A : Option Addr) (rd : Addr) (c d : Nat) (js : List J) (R : List Int) (from' o : Int) (w : World) (hr : Row w A (jc js)) (hq : Row w (some rd) (ic R)) (hg : goodL js = true) (hi : CIn js from' R) (hf : 0 ≤ from') (ho : o = 2 ∨ o = 4)
include hr hq hg hi ho
set_option maxRecDepth 100000 in
set_option maxHeartbeats 4000000 in
theorem l5Choose_any : Calls Try.prog 46 #[.slice A js.length c, .slice (some rd) js.length d, .int .i64 from', .int .i64 o] w fun e w' => ∃ v, e = .returned v ∧ w'.ownsRow w.heap.size 67 3 v (chFin js o from' R []).length (spc (chFin js o from' R [])) ∧ Below w.heap.size w w' := by
  obtain ⟨i0, ti, tz0, tz1, tz2⟩ := infoSp_parts
  have HI := Lib.hid (And.intro ti (And.intro tz0 (And.intro tz1 tz2)))
  have h8 := (good_out hg).1
  have HG := Lib.hid hg
  have hlen := hi.len
  have hown0 : (w.alloc (.cells #[] 67)).ownsRow w.heap.size 67 3 (.slice (some ⟨w.heap.size, 0, none⟩) 0 0) 0 [] := World.ownsRow_made w #[] 0 (Nat.le_refl _) (by unfold maxLen; omega) rfl
  have hb0 := (Below.refl w.heap.size w).alloc (Nat.le_refl _) (.cells #[] 67)
  have HLO := l1Own_some rd d R _ (hq.below hb0) (by omega)
  rw [hlen] at HLO
  have HLO' := Lib.hid HLO
  have HLN := Lib.hid hlen
  have HC := Lib.hid hi
  have HO0 := Lib.hid (And.intro hown0 hb0)
  have hr0 := Lib.hid hr
  have HOB := Lib.hid ho
  have hbd := hi.bd
  have hsb := hi.now0
  clear HLO hlen hown0 hb0 hq hi hg ti tz0 tz1 tz2 hr ho
  go_enter Try.func46, Try.ntmps46
  go_wp2_with fail
  refine HLO'.out.mono ?_
  rintro e w1 ⟨ad', c', rfl, hrest, hb1⟩
  obtain ⟨gR, rfl, hgR, hRB⟩ := rest_block hrest HLN.out
  simp only [World.size_alloc] at hgR
  have H1 := Lib.hid (And.intro ((Seg.of_own HO0.out.1).below hb1).own (And.intro hRB (HO0.out.2.trans (hb1.mono HO0.out.2.size))))
  clear hrest hRB hb1 HLO' HO0
  go_wp2
  go_loopw [11, 12] (fun s i wr => ∃ (k : Nat), k ≤ js.length ∧ i = .int .i64 (k : Int) ∧ s = .int .i64 (R.take k).sum ∧ wr = w1) (fun _ i _ => js.length - (intOf i).toNat)
  case atStart => exact ⟨0, Nat.zero_le _, rfl, rfl, rfl⟩
  case round =>
    obtain ⟨k, hk, rfl, rfl, rfl⟩ := hrel
    by_cases hlt : k < js.length
    · have hkR : k < R.length := by rw [HLN.out]; exact hlt
      have q1 := (H1.out.2.1.at_ hkR).1
      have hs := sum_take_bd HC.out.pos k
      have hs1 := sum_take_bd HC.out.pos (k + 1)
      have HS := Lib.hid (sum_take_succ R k hkR)
      rw [HS.out] at hs1
      have hk0 : (0 : Int) ≤ k := by omega
      have hk1 : (k : Int) < js.length := by omega
      have hwp := IntWalk.i64_in ((R.take k).sum + R[k]) (by omega)
      generalize (R.take k).sum = S at *
      generalize R[k] = x at *
      go_wp2
      go_roundw
      case rel => exact ⟨k + 1, by omega, by go_num, by rw [HS.out], by first | trivial | rfl⟩
      case measure => simp [intOf]; omega
    · obtain rfl : k = js.length := by omega
      rw [List.take_of_length_le (by rw [HLN.out]; exact Nat.le_refl _)]
      go_wp2
      go_loopw [9, 11, 13] (fun v s i wr => ∃ (out : List Sp) (R' : List Int) (now : Int), i = .int .i64 now ∧ s = .int .i64 R'.sum ∧ wr.ownsRow w.heap.size 67 3 v out.length (spc out) ∧ v.ownBlock ≠ some gR ∧ RB wr gR R' ∧ Hid (CIn js now R') ∧ Hid (chFin js o now R' out = chFin js o from' R []) ∧ (out.length : Int) ≤ now ∧ Below w.heap.size w wr) (fun _ _ i _ => (901 - intOf i).toNat)
      case atStart => exact ⟨[], R, from', rfl, rfl, H1.out.1, by intro h; injection h with h; simp at h; omega, H1.out.2.1, HC.out, rfl, by simpa using hsb, H1.out.2.2⟩
      case round =>
        obtain ⟨out, R', now, rfl, rfl, hown, hne, hRB, hC, hF, hol, hb⟩ := hrel
        clear H1 HC hbd hsb
        obtain ⟨Av, cv, rfl, hnc, hrow⟩ := own_slice hown
        have hbd := hC.out.bd
        have hn0 := hC.out.now0
        have hsn := sum_nonneg hC.out.pos
        by_cases hpos : 0 < R'.sum
        · have hnow := hC.out.before hpos
          have hr1 := Lib.hid (hr0.out.below hb)
          go_wp2_with fail
          refine (l5Pick_any A (some ⟨gR, 0, none⟩) c c' js R' now o HOB.out _ hr1.out hRB.row hC.out.len h8).mono ?_
          rintro e w5 ⟨rfl, m, hw5⟩
          have hb5 : Below w.heap.size w w5 := by rw [hw5]; exact below_drewN hb m
          have hown5 : w5.ownsRow w.heap.size 67 3 (.slice Av out.length cv) out.length (spc out) := by rw [hw5]; exact hown
          have hRB5 : RB w5 gR R' := by rw [hw5]; exact hRB.drewN m
          clear hw5 hb hown hRB hrow
          by_cases hn : chPick js o R' now < 0
          · have h5 := chPick_late HG.out hC.out hpos hn
            have HI2 := Lib.hid (hC.out.wait HG.out hpos hn (t := now + 1) (by omega) (by omega))
            have HF2 : Hid (chFin js o (now + 1) R' out = chFin js o from' R []) := (chFin_wait hC.out hpos hn).symm.trans hF.out
            clear hC hF
            obtain ⟨S, hS⟩ : ∃ S : Int, R'.sum = S := ⟨R'.sum, Eq.refl _⟩
            rw [hS] at hpos ⊢
            have HS := Lib.hid hS
            clear hS
            generalize chPick js o R' now = P at *
            go_wp2
            go_roundw
            case rel => exact ⟨out, R', now + 1, by go_num, by rw [HS.out], hown5, hne, hRB5, HI2, HF2, by omega, hb5⟩
            case measure => simp [intOf]; omega
          · obtain ⟨k, hk⟩ : ∃ k : Nat, chPick js o R' now = (k : Int) := ⟨_, (Int.toNat_of_nonneg (by omega)).symm⟩
            have hkj : k < js.length := by
              have := (chPick_in (js := js) (obj := o) (R := R') (now := now) (by omega)).1
              rwa [hk, Int.toNat_natCast] at this
            have hkR : k < R'.length := by rw [hC.out.len]; exact hkj
            have hx0 : R'.getD k 0 ≠ 0 := by
              have := (chPick_in (js := js) (obj := o) (R := R') (now := now) (by omega)).2.1
              rwa [hk, Int.toNat_natCast] at this
            have hx1 := hC.out.at0 k
            have hx2 := hC.out.at1 hkj
            have HI2 := Lib.hid (hC.out.take hkj (d := 1) (by omega) (by omega))
            have HF2 := Lib.hid ((chFin_take (out := out) hC.out hpos hk).symm.trans hF.out)
            have HSS := Lib.hid (sum_set R' k (R'.getD k 0 - 1) hkR)
            obtain ⟨y1, y2⟩ := hRB5.at_ hkR
            rw [hk]
            rw [getD_at R' 0 hkR] at hx0 hx1 hx2 HI2 HF2 HSS
            have HS2 : Hid ((R'.set k (R'[k] - 1)).sum = R'.sum - 1) := by show _ = _; have := HSS.out; omega
            have hk0 : (0 : Int) ≤ k := by omega
            have hk1 : (k : Int) < js.length := by omega
            have hk2 : ¬ ((k : Int) < 0) := by omega
            clear hC hF hk hn HSS
            obtain ⟨x, hx⟩ : ∃ x : Int, R'[k] = x := ⟨R'[k], Eq.refl _⟩
            rw [hx] at y1 hx0 hx1 hx2 HI2 HF2 HS2
            obtain ⟨S, hS⟩ : ∃ S : Int, R'.sum = S := ⟨R'.sum, Eq.refl _⟩
            rw [hS] at hpos HS2 hx2 hbd hsn ⊢
            clear hS
            have hsz := hb5.size
            have hgR0 : w.heap.size ≤ gR := by omega
            have hwx := IntWalk.i64_in (x - 1) (by omega)
            have hwS := IntWalk.i64_in (S - 1) (by omega)
            have hwn := IntWalk.i64_in (now + 1) (by omega)
            obtain rfl | ⟨ys, l, rfl⟩ : out = [] ∨ ∃ ys l, out = ys ++ [l] := by
              rcases List.eq_nil_or_concat out with h | ⟨ys, l, h⟩
              · exact .inl h
              · exact .inr ⟨ys, l, by rw [h, List.concat_eq_append]⟩
            · obtain ⟨n, hn⟩ : ∃ n : Nat, ([] : List Sp).length = n := ⟨_, Eq.refl _⟩
              rw [hn] at hown5 hol hne ⊢
              have hnm : (n : Int) - 1 = -1 := by rw [← hn]; rfl
              have hwm := IntWalk.i64_in (-1) (by omega)
              have HLO2 : Hid ((([] : List Sp) ++ [(⟨(k : Int), now, now + 1⟩ : Sp)]).length = n + 1) := by show _ = _; rw [← hn]; rfl
              have hol' : n ≤ 900 := by omega
              obtain ⟨ti, tz0, tz1, tz2⟩ := HI.out
              obtain ⟨v', w7, hrun, hown', hgrow, hat⟩ := append_at (P := Try.prog) (w5.alloc (.cells #[.int .i64 (k : Int), .int .i64 now, .int .i64 (now + 1)] 67)) w.heap.size 34 34 67 i0 (.agg #[.int .i64 0, .int .i64 0, .int .i64 0]) 3 24 Try.underlying34 ti tz0 tz1 tz2 rfl (by decide) (.slice Av n cv) n (spc ([] : List Sp)) (hown5.alloc _) ⟨w5.heap.size, 0, none⟩ 1 1 (cellsSp ⟨(k : Int), now, now + 1⟩) rfl (cell_span_new w5 _ ⟨(k : Int), now, now + 1⟩) (cellsSp_one _) (by omega) (by have hmx : (900 : Nat) + 1 ≤ maxLen := (by unfold maxLen; omega); omega) (by omega) (by simp; omega)
              have hb7 := app_grown hb5 hsz hown5 hgrow
              have hRB7 := hRB5.app hgrow hne
              have hne7 := app_ne hRB5.lt hne hat
              rw [spc_snoc] at hown'
              obtain ⟨Av', cv', rfl, _⟩ := own_slice hown'
              obtain ⟨u1, u2⟩ := hRB7.at_ hkR
              rw [hx] at u1
              have HX := Lib.hid (And.intro (own_other hown' (a := ⟨gR, k, none⟩) hne7 (.int .i64 (x - 1))) (And.intro hne7 (And.intro (hRB7.set (k := k) (x - 1)) (hb7.setCell (p := ⟨gR, k, none⟩) hgR0 (.int .i64 (x - 1))))))
              have HRUN := Lib.hid hrun
              rw [show putSp [] k now (now + 1) = ([] : List Sp) ++ [(⟨(k : Int), now, now + 1⟩ : Sp)] from rfl] at HF2
              clear hown' hb7 hgrow hat hown5 hb5 hRB5 hRB7 ti tz0 tz1 tz2 hrun hne hne7 y1 y2 hx hkR hn
              go_wp2_with (at_builtin; refine wpList_appG rfl _ _ _ rfl _ _ _ rfl rfl HRUN.out ?_; clear HRUN)
              go_roundw
              case rel => exact ⟨([] : List Sp) ++ [(⟨(k : Int), now, now + 1⟩ : Sp)], R'.set k (x - 1), now + 1, by go_num, by rw [HS2.out], by rw [HLO2.out]; exact HX.out.1, HX.out.2.1, HX.out.2.2.1, HI2, HF2, by rw [HLO2.out]; omega, HX.out.2.2.2⟩
              case measure => simp [intOf]; omega
            · obtain ⟨n, hn⟩ : ∃ n : Nat, (ys ++ [l]).length = n := ⟨_, Eq.refl _⟩
              obtain ⟨m, hm⟩ : ∃ m : Nat, ys.length = m := ⟨_, Eq.refl _⟩
              have hnl : n = m + 1 := by rw [← hn, ← hm]; simp
              rw [hn] at hown5 hol hne ⊢
              obtain ⟨g, hA, hg, hgl, hcs⟩ := ownT_set hown5 (by omega) hn
              subst hA
              have hsl := spc_last ys l
              rw [hm] at hsl
              have cl0 := (hcs (m * 3) (by omega)).1.trans hsl.1
              have cl2 := (hcs (m * 3 + 2) (by omega)).1.trans hsl.2
              have cf2 := (hcs (m * 3 + 2) (by omega)).2.1
              have hgg : gR ≠ g := fun e => hne (by rw [e]; rfl)
              have hnm : (n : Int) - 1 = (m : Int) := by omega
              have hwm := IntWalk.i64_in (m : Int) (by omega)
              have hm0 : (0 : Int) ≤ m := by omega
              have hm1 : (m : Int) < n := by omega
              have HLO2 : Hid ((ys ++ [l] ++ [(⟨(k : Int), now, now + 1⟩ : Sp)]).length = n + 1) := by show _ = _; rw [List.length_append, hn]; rfl
              have HN := Lib.hid hn
              by_cases h1 : l.j = (k : Int)
              · have b1 : (l.j == (k : Int)) = true := by rw [beq_iff_eq]; exact h1
                have b3 : decide (l.j = (k : Int)) = true := decide_eq_true h1
                by_cases h2 : l.t = now
                · have b2 : (l.t == now) = true := by rw [beq_iff_eq]; exact h2
                  have b4 : decide (l.t = now) = true := decide_eq_true h2
                  have hown8 := (hcs (m * 3 + 2) (by omega)).2.2 (.int .i64 (now + 1))
                  rw [← hm, spc_set_last, hm] at hown8
                  have hRB8 := hRB5.other (a := ⟨g, m * 3 + 2, none⟩) hgg (.int .i64 (now + 1))
                  obtain ⟨u1, u2⟩ := hRB8.at_ hkR
                  rw [hx] at u1
                  have HL3 : Hid ((ys ++ [(⟨l.j, l.f, now + 1⟩ : Sp)]).length = n) := by show _ = _; rw [← HN.out]; simp
                  have HX := Lib.hid (And.intro (own_other hown8 (a := ⟨gR, k, none⟩) hne (.int .i64 (x - 1))) (And.intro hne (And.intro (hRB8.set (k := k) (x - 1)) ((hb5.setCell (p := ⟨g, m * 3 + 2, none⟩) hg (.int .i64 (now + 1))).setCell (p := ⟨gR, k, none⟩) hgR0 (.int .i64 (x - 1))))))
                  rw [putSp_hit h1 h2] at HF2
                  clear hown8 hRB8 hb5 hRB5 hown5 hcs hne y1 y2 hx hkR hn hm hnl h1 h2 hsl hgg
                  go_wp2
                  go_roundw
                  case rel => exact ⟨ys ++ [⟨l.j, l.f, now + 1⟩], R'.set k (x - 1), now + 1, by go_num, by rw [HS2.out], by rw [HL3.out]; exact HX.out.1, HX.out.2.1, HX.out.2.2.1, HI2, HF2, by rw [HL3.out]; omega, HX.out.2.2.2⟩
                  case measure => simp [intOf]; omega
                · have b2 : (l.t == now) = false := by rw [beq_eq_false_iff_ne]; exact h2
                  have b4 : decide (l.t = now) = false := decide_eq_false h2
                  have hol' : n ≤ 900 := by omega
                  obtain ⟨ti, tz0, tz1, tz2⟩ := HI.out
                  obtain ⟨v', w7, hrun, hown', hgrow, hat⟩ := append_at (P := Try.prog) (w5.alloc (.cells #[.int .i64 (k : Int), .int .i64 now, .int .i64 (now + 1)] 67)) w.heap.size 34 34 67 i0 (.agg #[.int .i64 0, .int .i64 0, .int .i64 0]) 3 24 Try.underlying34 ti tz0 tz1 tz2 rfl (by decide) (.slice (some ⟨g, 0, none⟩) n cv) n (spc (ys ++ [l])) (hown5.alloc _) ⟨w5.heap.size, 0, none⟩ 1 1 (cellsSp ⟨(k : Int), now, now + 1⟩) rfl (cell_span_new w5 _ ⟨(k : Int), now, now + 1⟩) (cellsSp_one _) (by omega) (by have hmx : (900 : Nat) + 1 ≤ maxLen := (by unfold maxLen; omega); omega) (by omega) (by simp; omega)
                  have hb7 := app_grown hb5 hsz hown5 hgrow
                  have hRB7 := hRB5.app hgrow hne
                  have hne7 := app_ne hRB5.lt hne hat
                  rw [spc_snoc] at hown'
                  obtain ⟨Av', cv', rfl, _⟩ := own_slice hown'
                  obtain ⟨u1, u2⟩ := hRB7.at_ hkR
                  rw [hx] at u1
                  have HX := Lib.hid (And.intro (own_other hown' (a := ⟨gR, k, none⟩) hne7 (.int .i64 (x - 1))) (And.intro hne7 (And.intro (hRB7.set (k := k) (x - 1)) (hb7.setCell (p := ⟨gR, k, none⟩) hgR0 (.int .i64 (x - 1))))))
                  have HRUN := Lib.hid hrun
                  rw [putSp_miss (fun h => h2 h.2)] at HF2
                  clear hown' hb7 hgrow hat hown5 hb5 hRB5 hRB7 ti tz0 tz1 tz2 hrun hne hne7 y1 y2 hx hkR hn hm hnl h1 h2 hsl hgg hcs
                  go_wp2_with (at_builtin; refine wpList_appG rfl _ _ _ rfl _ _ _ rfl rfl HRUN.out ?_; clear HRUN)
                  go_roundw
                  case rel => exact ⟨(ys ++ [l]) ++ [(⟨(k : Int), now, now + 1⟩ : Sp)], R'.set k (x - 1), now + 1, by go_num, by rw [HS2.out], by rw [HLO2.out]; exact HX.out.1, HX.out.2.1, HX.out.2.2.1, HI2, HF2, by rw [HLO2.out]; omega, HX.out.2.2.2⟩
                  case measure => simp [intOf]; omega
              · have b1 : (l.j == (k : Int)) = false := by rw [beq_eq_false_iff_ne]; exact h1
                have b3 : decide (l.j = (k : Int)) = false := decide_eq_false h1
                have hol' : n ≤ 900 := by omega
                obtain ⟨ti, tz0, tz1, tz2⟩ := HI.out
                obtain ⟨v', w7, hrun, hown', hgrow, hat⟩ := append_at (P := Try.prog) (w5.alloc (.cells #[.int .i64 (k : Int), .int .i64 now, .int .i64 (now + 1)] 67)) w.heap.size 34 34 67 i0 (.agg #[.int .i64 0, .int .i64 0, .int .i64 0]) 3 24 Try.underlying34 ti tz0 tz1 tz2 rfl (by decide) (.slice (some ⟨g, 0, none⟩) n cv) n (spc (ys ++ [l])) (hown5.alloc _) ⟨w5.heap.size, 0, none⟩ 1 1 (cellsSp ⟨(k : Int), now, now + 1⟩) rfl (cell_span_new w5 _ ⟨(k : Int), now, now + 1⟩) (cellsSp_one _) (by omega) (by have hmx : (900 : Nat) + 1 ≤ maxLen := (by unfold maxLen; omega); omega) (by omega) (by simp; omega)
                have hb7 := app_grown hb5 hsz hown5 hgrow
                have hRB7 := hRB5.app hgrow hne
                have hne7 := app_ne hRB5.lt hne hat
                rw [spc_snoc] at hown'
                obtain ⟨Av', cv', rfl, _⟩ := own_slice hown'
                obtain ⟨u1, u2⟩ := hRB7.at_ hkR
                rw [hx] at u1
                have HX := Lib.hid (And.intro (own_other hown' (a := ⟨gR, k, none⟩) hne7 (.int .i64 (x - 1))) (And.intro hne7 (And.intro (hRB7.set (k := k) (x - 1)) (hb7.setCell (p := ⟨gR, k, none⟩) hgR0 (.int .i64 (x - 1))))))
                have HRUN := Lib.hid hrun
                rw [putSp_miss (fun h => h1 h.1)] at HF2
                clear hown' hb7 hgrow hat hown5 hb5 hRB5 hRB7 ti tz0 tz1 tz2 hrun hne hne7 y1 y2 hx hkR hn hm hnl h1 hsl hgg hcs
                go_wp2_with (at_builtin; refine wpList_appG rfl _ _ _ rfl _ _ _ rfl rfl HRUN.out ?_; clear HRUN)
                go_roundw
                case rel => exact ⟨(ys ++ [l]) ++ [(⟨(k : Int), now, now + 1⟩ : Sp)], R'.set k (x - 1), now + 1, by go_num, by rw [HS2.out], by rw [HLO2.out]; exact HX.out.1, HX.out.2.1, HX.out.2.2.1, HI2, HF2, by rw [HLO2.out]; omega, HX.out.2.2.2⟩
                case measure => simp [intOf]; omega
        · have HF' : Hid (out = chFin js o from' R []) := by show _ = _; rw [← hF.out]; exact (chFin_done hpos).symm
          have HX := Lib.hid (And.intro hown hb)
          clear hown hb hC hF hrow hRB
          obtain ⟨S, hS⟩ : ∃ S : Int, R'.sum = S := ⟨R'.sum, Eq.refl _⟩
          rw [hS] at hpos ⊢
          clear hS
          go_wp2
          go_ret
          exact ⟨_, rfl, by rw [← HF'.out]; exact HX.out.1, HX.out.2⟩
end
end Go.Proofs.Ytnkoncplfedffaa
