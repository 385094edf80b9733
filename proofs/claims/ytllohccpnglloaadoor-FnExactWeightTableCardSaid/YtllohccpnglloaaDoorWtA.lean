/- WeightTable: the plain side, the model's and the program's. -/
import Derived.Test.YtllohccpnglloaaDoorJobP
import Derived.Test.YtllohccpnglloaaDoorJobs
import Derived.Test.YtllohccpnglloaaDoorDul
import Derived.Test.YtllohccpnglloaaDoorTot
import Derived.Test.YtllohccpnglloaaDoorOwnM
import Derived.Test.YtllohccpnglloaaDoorOwnSS
import Derived.StillTailTactics
import Derived.Test.YtllohccpnglloaaDoorEnds
import Derived.Test.YtllohccpnglloaaDoorRegInv
import Derived.Test.YtllohccpnglloaaDoorShelf
import Derived.Laws.CopyOwn
import Derived.Test.YtllohccpnglloaaDoorSegH
namespace Go.Proofs.YtllohccpnglloaaDoor
/-- One place of the table. -/
def cellW (T : List Int) (t : Nat) (wt : Int) (k : Nat) : List Int := if 0 ≤ T.getD (k - t) 0 then T.set k (max (T.getD k 0) (T.getD (k - t) 0 + wt)) else T
/-- The first d places, from the one at hi down. -/
def downW (T : List Int) (t : Nat) (wt : Int) (hi : Nat) : Nat → List Int
  | 0 => T
  | d + 1 => cellW (downW T t wt hi d) t wt (hi - d)
theorem cellW_len (T : List Int) (t : Nat) (wt : Int) (k : Nat) : (cellW T t wt k).length = T.length := by
  unfold cellW
  split
  · rw [List.length_set]
  · rfl
theorem downW_len (T : List Int) (t : Nat) (wt : Int) (hi : Nat) : ∀ d, (downW T t wt hi d).length = T.length
  | 0 => rfl
  | d + 1 => by
    show (cellW _ _ _ _).length = _
    rw [cellW_len, downW_len T t wt hi d]
def okT (b : Int) (T : List Int) : Prop := ∀ x ∈ T, -1 ≤ x ∧ x ≤ b
theorem okT_get {b : Int} {T : List Int} (h : okT b T) (hb : 0 ≤ b) (k : Nat) : -1 ≤ T.getD k 0 ∧ T.getD k 0 ≤ b := by
  by_cases hk : k < T.length
  · have e : T.getD k 0 = T[k] := by simp [List.getD, hk]
    rw [e]
    exact h _ (List.getElem_mem hk)
  · have e : T.getD k 0 = 0 := by simp [List.getD, List.getElem?_eq_none (show T.length ≤ k by omega)]
    rw [e]
    omega
theorem cellW_ok {b : Int} {T : List Int} (h : okT b T) (hb : 0 ≤ b) (t : Nat) {wt : Int} (hw : 0 ≤ wt ∧ wt ≤ 50) (k : Nat) : okT (b + 50) (cellW T t wt k) := by
  unfold cellW
  split
  · intro x hx
    rcases List.mem_or_eq_of_mem_set hx with hx | rfl
    · have := h x hx
      omega
    · have h1 := okT_get h hb k
      have h2 := okT_get h hb (k - t)
      omega
  · intro x hx
    have := h x hx
    omega
theorem downW_ok {b : Int} {T : List Int} (h : okT b T) (hb : 0 ≤ b) (t : Nat) {wt : Int} (hw : 0 ≤ wt ∧ wt ≤ 50) (hi : Nat) : ∀ d : Nat, okT (b + 50 * d) (downW T t wt hi d)
  | 0 => fun x hx => by have := h x hx; omega
  | d + 1 => by
    have h1 := cellW_ok (downW_ok h hb t hw hi d) (by omega) t hw (hi - d)
    intro x hx
    have := h1 x hx
    omega
/-- How many places a job's round visits. -/
def endW (j : J) (m : Nat) : Nat := min j.d.toNat m
def wayW (j : J) (m : Nat) : Nat := endW j m + 1 - j.t.toNat
/-- The table behind the first jobs of an order. -/
def tabW (js : List J) (q : List Nat) (m : Nat) : Nat → List Int
  | 0 => 0 :: List.replicate m (-1)
  | i + 1 => downW (tabW js q m i) (js.getD (q.getD i 0) j0).t.toNat (js.getD (q.getD i 0) j0).w (endW (js.getD (q.getD i 0) j0) m) (wayW (js.getD (q.getD i 0) j0) m)
theorem tabW_len (js : List J) (q : List Nat) (m : Nat) : ∀ i, (tabW js q m i).length = m + 1
  | 0 => by show (0 :: List.replicate m (-1 : Int)).length = _; simp
  | i + 1 => by
    show (downW _ _ _ _ _).length = _
    rw [downW_len, tabW_len js q m i]
theorem tabW_ok {js : List J} (hok : ∀ j ∈ js, okJ j = true) (q : List Nat) (hq : ∀ x ∈ q, x < js.length) {m : Nat} (hm : m ≤ 400) : ∀ i : Nat, i ≤ q.length → okT (50 * 401 * i) (tabW js q m i)
  | 0, _ => by
    intro x hx
    have hx' : x ∈ (0 :: List.replicate m (-1 : Int)) := hx
    rcases List.mem_cons.1 hx' with rfl | h
    · omega
    · rw [(List.mem_replicate.1 h).2]
      omega
  | i + 1, hi => by
    have hx : q.getD i 0 < js.length := by
      have e : q.getD i 0 = q[i] := by simp [List.getD, show i < q.length by omega]
      rw [e]; exact hq _ (List.getElem_mem _)
    have hj : okJ (js.getD (q.getD i 0) j0) = true := by
      have e : js.getD (q.getD i 0) j0 = js[q.getD i 0] := by rw [List.getD_eq_getElem?_getD, List.getElem?_eq_getElem hx]; rfl
      rw [e]; exact hok _ (List.getElem_mem hx)
    have hw := okJ_out hj
    have h := downW_ok (tabW_ok hok q hq hm i (by omega)) (by omega) (js.getD (q.getD i 0) j0).t.toNat (wt := (js.getD (q.getD i 0) j0).w) (by omega) (endW (js.getD (q.getD i 0) j0) m) (wayW (js.getD (q.getD i 0) j0) m)
    have hd : wayW (js.getD (q.getD i 0) j0) m ≤ 401 := by unfold wayW endW; omega
    intro x hx
    have := h x hx
    omega
open Go.RowKit
theorem l1Least_any (x y : Int) (w : World) :
    Calls Tryd.prog 31 #[.int .i64 x, .int .i64 y] w fun e w' => e = .returned (.int .i64 (min x y)) ∧ w = w' := by
  by_cases hlt : x < y
  · go_enter Tryd.func31, Tryd.ntmps31
    go_wp2
    go_ret
    exact ⟨by rw [show min x y = x by omega]; rfl, rfl⟩
  · go_enter Tryd.func31, Tryd.ntmps31
    go_wp2
    go_ret
    exact ⟨by rw [show min x y = y by omega]; rfl, rfl⟩
theorem app_one {R : Nat} {W : World} {v : Value} {n : Nat} {xs : List Value} (hown : W.ownsRow R 3 1 v n xs) (hR : R ≤ W.heap.size) (x : Int) (hn : n ≤ 1000) :
    ∃ v' W', (Builtin.append_ #[24, 24] 24 #[v, .slice (some ⟨W.heap.size, 0, none⟩) 1 1]).run Tryd.prog (W.alloc (.cells #[.int .i64 x] 3)) = .ok v' W' ∧ W'.ownsRow R 3 1 v' (n + 1) (xs ++ [.int .i64 x]) ∧ Below R W W' := by
  have hb := (Below.refl R W).alloc hR (.cells #[.int .i64 x] 3)
  have ho : (W.alloc (.cells #[.int .i64 x] 3)).ownsRow R 3 1 v n xs := own_to hown fun g _ _ hg => ((Below.refl W.heap.size W).alloc (Nat.le_refl _) _).block g hg
  obtain ⟨i, hi, hz⟩ := Option.map_eq_some_iff.1 infoI
  injection hz with hz0 hz
  injection hz with hz1 hz2
  obtain ⟨v', W', hr, h2, h3, _⟩ := append_at (P := Tryd.prog) (W.alloc (.cells #[.int .i64 x] 3)) R 24 24 3 i (.int .i64 0) 1 8 Tryd.underlying24 hi hz0 hz1 hz2 rfl (by decide) v n xs ho ⟨W.heap.size, 0, none⟩ 1 1 [.int .i64 x] rfl
    (cell_one_new W _ 3)
    (by intro u hu; simp at hu; subst hu; rfl) (by omega) (by unfold maxLen; omega) (by omega) (by simp; omega)
  exact ⟨v', W', hr, h2, app_grown (Below.refl R W) hR hown h3⟩
theorem BlockIs.awayW {w : World} {g : Nat} {t : TypeId} {cs : Array Value} (h : BlockIs w g t cs) {g' : Nat} (hne : g ≠ g') (i : Nat) (u : Value) : BlockIs (w.setCell ⟨g', i, none⟩ u) g t cs :=
  (Below.heap_setCell w ⟨g', i, none⟩ u g hne).trans h
theorem own_setI {w : World} {B g n c : Nat} {T : List Int} (h : w.ownsRow B 3 1 (.slice (some ⟨g, 0, none⟩) n c) n (ic T)) {k : Nat} (hk : k < n) : (∀ x : Int, (w.setCell ⟨g, k, none⟩ (.int .i64 x)).ownsRow B 3 1 (.slice (some ⟨g, 0, none⟩) n c) n (ic (T.set k x))) ∧ w.cell? ⟨g, k, none⟩ = some (.int .i64 (T.getD k 0)) ∧ w.frozen? ⟨g, k, none⟩ = false ∧ B ≤ g ∧ g < w.heap.size := by
  have hl : T.length = n := by have := h.1; rw [ic_len] at this; omega
  have hrow := (Row.of_own h).int (k := k) (by omega)
  obtain ⟨g', cur, hA, hg, hB, h1, h2, h3, h4⟩ := own_block h (by omega)
  injection hA with hA
  injection hA with hA
  subst hA
  obtain ⟨ad, hA, hc⟩ := hrow
  injection hA with hA
  subst hA
  rw [Addr.add_lit, Nat.zero_add] at hc
  refine ⟨fun x => ?_, by rw [hc]; simp [List.getD, show k < T.length by omega], hB.frozen k, hg, hB.lt⟩
  have h5 := (hB.set k (.int .i64 x)).own (base := B) (n := n) (c := c) (size := 1) hg (by rw [Array.size_setIfInBounds]; exact h3) h1 h2 (by rw [Array.size_setIfInBounds, h3]; omega)
  rw [Array.toList_setIfInBounds, List.take_set, h4] at h5
  have e : (ic T).set k (.int .i64 x) = ic (T.set k x) := by unfold ic; rw [List.map_set]
  rw [e] at h5
  exact h5
/-- A place of the table, told with numbers. -/
theorem cellW_yes {T : List Int} {t k : Nat} {wt : Int} (h : 0 ≤ T.getD (k - t) 0) : T.set k (max (T.getD k 0) (T.getD (k - t) 0 + wt)) = cellW T t wt k := by unfold cellW; rw [if_pos h]
theorem cellW_no {T : List Int} {t k : Nat} {wt : Int} (h : ¬ 0 ≤ T.getD (k - t) 0) : T = cellW T t wt k := by unfold cellW; rw [if_neg h]
theorem tabW_succ (js : List J) (q : List Nat) (m i : Nat) (hi : i < q.length) (hx : q[i] < js.length) : tabW js q m (i + 1) = downW (tabW js q m i) js[q[i]].t.toNat js[q[i]].w (endW js[q[i]] m) (wayW js[q[i]] m) := by
  have e1 : q.getD i 0 = q[i] := by simp [List.getD, hi]
  show downW _ (js.getD (q.getD i 0) j0).t.toNat (js.getD (q.getD i 0) j0).w (endW (js.getD (q.getD i 0) j0) m) (wayW (js.getD (q.getD i 0) j0) m) = _
  rw [e1, getD_at js j0 hx]
set_option maxRecDepth 100000 in
set_option maxHeartbeats 4000000 in
theorem l6Table_any (A : Option Addr) (c : Nat) (js : List J) (w : World) (hr : Row w A (jc js)) (hg : goodL js = true) (m : Nat) (hm : totL js = (m : Int)) (hm4 : m ≤ 400) :
    Calls Tryd.prog 17 #[.slice A js.length c] w fun e w' => ∃ v, e = .returned v ∧ w'.ownsRow w.heap.size 3 1 v (m + 1) (ic (tabW js (dueL js (List.range js.length)) m js.length)) ∧ Below w.heap.size w w' := by
  obtain ⟨h8, hok⟩ := good_out hg
  have HS0 : Hid (∀ W, Below w.heap.size w W → Calls Tryd.prog 30 #[.slice A js.length c] W fun e w' => e = .returned (.int .i64 (m : Int)) ∧ Below W.heap.size W w') := fun W hb => by
    have h := l2Sum_any A c js W (hr.below hb) hg
    rw [hm] at h
    exact h
  have HQ : Hid (∀ (B : Option Addr) (d : Nat) (w' : World), Below w.heap.size w w' → Row w' B (ic (natI (List.range js.length))) → Calls Tryd.prog 28 #[.slice A js.length c, .slice B js.length d] w' fun e w'' => ∃ v, e = .returned v ∧ w''.ownsRow w'.heap.size 3 1 v js.length (ic (natI (dueL js (List.range js.length)))) ∧ Below w'.heap.size w' w'') := fun B d w' hb hrw => by
    have h := l6Due_any A B c d js (List.range js.length) w' (hr.below hb) hrw (fun x hx => List.mem_range.1 hx) (by rw [List.length_range]; exact h8)
    rw [List.length_range] at h
    exact h
  have hql : (dueL js (List.range js.length)).length = js.length := by rw [dueL_len, List.length_range]
  have hqm : ∀ x ∈ dueL js (List.range js.length), x < js.length := fun x hx => List.mem_range.1 (dueTo_mem (by omega) hx)
  have HJ := Lib.hid (fun W (hb : Below w.heap.size w W) k (hk : k < js.length) => (hr.below hb).job hk)
  clear hr hg hm
  go_enter Tryd.func17, Tryd.ntmps17
  go_wp2_with fail
  refine (l6All_any A js.length c h8 _).mono ?_
  rintro e w2 ⟨v, rfl, hown, hb2⟩
  obtain ⟨B0, d0, rfl, _, hrow⟩ := own_slice hown
  have HC := Lib.hid (HQ.out B0 d0 w2 hb2 hrow)
  have HB2 := Lib.hid hb2
  clear hown hrow hb2 HQ
  go_wp2_with fail
  refine HC.out.mono ?_
  rintro e w1 ⟨v, rfl, hown, hb3⟩
  obtain ⟨B, dB, rfl, _, hrow⟩ := own_slice hown
  have HB1 := Lib.hid (HB2.out.trans (hb3.mono HB2.out.size))
  have HRB := Lib.hid hrow
  clear hown hb3 hrow HC HB2
  have H0 : Hid ((w1.alloc (.cells #[.int .i64 0] 3)).ownsRow w1.heap.size 3 1 (.slice (some ⟨w1.heap.size, 0, none⟩) 1 1) 1 (ic (0 :: List.replicate 0 (-1))) ∧ Below w1.heap.size w1 (w1.alloc (.cells #[.int .i64 0] 3))) := ⟨(BlockIs.new w1 3 #[.int .i64 0]).own (base := w1.heap.size) (n := 1) (c := 1) (size := 1) (Nat.le_refl _) rfl (Nat.le_refl _) (by unfold maxLen; omega) (Nat.le_refl _), (Below.refl _ _).alloc (Nat.le_refl _) _⟩
  generalize hq : dueL js (List.range js.length) = q at *
  go_wp2
  go_loopw [4, 5] (fun v i wr => ∃ k : Nat, k ≤ m ∧ i = .int .i64 (k : Int) ∧ Hid (wr.ownsRow w1.heap.size 3 1 v (k + 1) (ic (0 :: List.replicate k (-1)))) ∧ Hid (Below w1.heap.size w1 wr)) (fun _ i _ => m - (intOf i).toNat)
  case atStart => exact ⟨0, Nat.zero_le _, rfl, H0.out.1, H0.out.2⟩
  case round =>
    obtain ⟨k, hk, rfl, hown, hb⟩ := hrel
    clear H0
    have HSM := Lib.hid (HS0.out wr (HB1.out.trans (hb.out.mono HB1.out.size)))
    obtain ⟨Av, cv, rfl, hnc, _⟩ := own_slice hown.out
    go_wp2_with fail
    refine HSM.out.mono ?_
    rintro e w3 ⟨rfl, hb3⟩
    have HO3 := Lib.hid (own_below hown.out hb3)
    have HB3 := Lib.hid (hb.out.trans (hb3.mono hb.out.size))
    clear hown hb hb3 HSM
    by_cases hlt : k < m
    · obtain ⟨v', W', hr, ho, hbb⟩ := app_one HO3.out HB3.out.size (-1) (by omega)
      rw [ic_snoc, show (0 :: List.replicate k (-1 : Int)) ++ [-1] = 0 :: List.replicate (k + 1) (-1) by rw [List.replicate_succ']; rfl] at ho
      have HX := Lib.hid (And.intro ho (HB3.out.trans hbb))
      have HRUN := Lib.hid hr
      obtain ⟨Av', cv', rfl, _⟩ := own_slice ho
      clear hr ho hbb HO3 HB3
      go_wp2_with (at_builtin; refine wpList_appL rfl _ _ _ rfl _ _ _ rfl rfl HRUN.out ?_; clear HRUN)
      go_roundw
      case rel => exact ⟨k + 1, by omega, by go_num, HX.out.1, HX.out.2⟩
      case measure => simp [intOf]; omega
    · obtain rfl : k = m := by omega
      have hnew := HO3.out
      obtain ⟨g, cur, hAv, _, _, _, _, _, _⟩ := own_block hnew (by omega)
      subst hAv
      have HT0 : Hid (w3.ownsRow w1.heap.size 3 1 (.slice (some ⟨g, 0, none⟩) (k + 1) cv) (k + 1) (ic (tabW js q k 0))) := hnew
      clear hnew HO3 HS0
      go_wp2
      go_loopw [6] (fun iv wr => ∃ i : Nat, i ≤ js.length ∧ iv = .int .i64 (i : Int) ∧ Hid (wr.ownsRow w1.heap.size 3 1 (.slice (some ⟨g, 0, none⟩) (k + 1) cv) (k + 1) (ic (tabW js q k i))) ∧ Hid (Below w1.heap.size w1 wr)) (fun iv _ => js.length - (intOf iv).toNat)
      case atStart => exact ⟨0, Nat.zero_le _, rfl, HT0, HB3⟩
      case round =>
        obtain ⟨i, hi, rfl, hT, hb⟩ := hrel
        clear HT0 HB3
        by_cases hlt : i < js.length
        · have hiq : i < q.length := by omega
          have hqi : q[i] < js.length := hqm _ (List.getElem_mem hiq)
          obtain ⟨bd, hB, hqc⟩ := (HRB.out.below hb.out).nat hiq
          subst hB
          have hbw : Below w.heap.size w wr := HB1.out.trans (hb.out.mono HB1.out.size)
          obtain ⟨ad, hA, hadb, a0, a1, a2, a3⟩ := HJ.out wr hbw _ hqi
          subst hA
          have hoj := hok _ (List.getElem_mem hqi)
          have HSUC := Lib.hid (tabW_succ js q k i hiq hqi)
          have HTO := Lib.hid (tabW_ok hok q (by exact hqm) hm4 i (by omega))
          have HTL := Lib.hid (tabW_len js q k i)
          generalize q[i] = x at *
          generalize tabW js q k i = T0 at *
          generalize js[x] = j at *
          obtain ⟨t0, t1, w0, w1', _, _, dd0, dd1⟩ := okJ_out hoj
          obtain ⟨wo, rfl⟩ : ∃ wo : World, wo = wr := ⟨_, rfl⟩
          have hbo : Below w1.heap.size w1 (wo.alloc (.cells #[.int .i64 j.t, .int .i64 j.w, .int .i64 j.r, .int .i64 j.d] 39)) := hb.out.alloc hb.out.size _
          have HO := Lib.hid (And.intro (own_below hT.out ((Below.refl wo.heap.size wo).alloc (Nat.le_refl _) (.cells #[.int .i64 j.t, .int .i64 j.w, .int .i64 j.r, .int .i64 j.d] 39))) (And.intro (BlockIs.new wo 39 #[.int .i64 j.t, .int .i64 j.w, .int .i64 j.r, .int .i64 j.d]) hbo))
          have hi0 : (0 : Int) ≤ i := by omega
          have hi1 : (i : Int) < js.length := by omega
          have hx0 : (0 : Int) ≤ x := by omega
          have hx1 : (x : Int) < js.length := by omega
          obtain ⟨hh, hhe⟩ : ∃ hh : Nat, hh = endW j k := ⟨_, rfl⟩
          have hmin : min j.d ((k : Int)) = (hh : Int) := by rw [hhe]; unfold endW; omega
          have hhk : hh ≤ k := by rw [hhe]; unfold endW; omega
          have hway : wayW j k = hh + 1 - j.t.toNat := by rw [hhe]; rfl
          rw [hway, ← hhe] at HSUC
          have hgo : g < wo.heap.size := (own_setI hT.out (k := 0) (by omega)).2.2.2.2
          clear hbo hT hb hbw hok hqm hoj hway hhe HJ
          generalize j.d = dd at *
          generalize j.r = rr at *
          generalize j.w = wt at *
          generalize j.t = tt at *
          obtain ⟨t, rfl⟩ : ∃ t : Nat, tt = (t : Int) := ⟨tt.toNat, by omega⟩
          rw [Int.toNat_natCast] at HSUC
          go_wp2_with fail
          refine (l1Least_any _ _ _).mono ?_
          rintro e _ ⟨rfl, rfl⟩
          rw [hmin]
          clear hmin
          go_wp2
          go_loopw [8] (fun kv wi => ∃ d p : Nat, d + p = hh ∧ d ≤ hh + 1 - t ∧ kv = .int .i64 (p : Int) ∧ Hid (wi.ownsRow w1.heap.size 3 1 (.slice (some ⟨g, 0, none⟩) (k + 1) cv) (k + 1) (ic (downW T0 t wt hh d))) ∧ Hid (BlockIs wi wo.heap.size 39 #[.int .i64 (t : Int), .int .i64 wt, .int .i64 rr, .int .i64 dd] ∧ Below w1.heap.size w1 wi)) (fun kv _ => (intOf kv).toNat)
          case atStart => exact ⟨0, hh, by omega, by omega, rfl, HO.out.1, HO.out.2⟩
          case round =>
            obtain ⟨d, p, hdp, hd, rfl, hT, hbb⟩ := hrel
            clear HO
            obtain ⟨f0, f1, f2, f3⟩ : wr.cell? ⟨wo.heap.size, 0, none⟩ = some (.int .i64 (t : Int)) ∧ wr.cell? ⟨wo.heap.size, 1, none⟩ = some (.int .i64 wt) ∧ wr.cell? ⟨wo.heap.size, 2, none⟩ = some (.int .i64 rr) ∧ wr.cell? ⟨wo.heap.size, 3, none⟩ = some (.int .i64 dd) := ⟨hbb.out.1.cell 0, hbb.out.1.cell 1, hbb.out.1.cell 2, hbb.out.1.cell 3⟩
            by_cases hlp : t ≤ p
            · obtain ⟨e, he⟩ : ∃ e : Nat, e + t = p := ⟨p - t, by omega⟩
              have hTb := downW_ok HTO.out (by omega) t ⟨w0, w1'⟩ hh d
              have hb1 := okT_get hTb (by omega) p
              have hb2 := okT_get hTb (by omega) e
              obtain ⟨hset, hcp, hfp, hgb, hgl⟩ := own_setI hT.out (k := p) (by omega)
              obtain ⟨_, hce, _, _, _⟩ := own_setI hT.out (k := e) (by omega)
              have HD : Hid (downW T0 t wt hh (d + 1) = cellW (downW T0 t wt hh d) t wt p) := by show cellW _ t wt (hh - d) = _; rw [show hh - d = p by omega]
              have hpe : p - t = e := by omega
              have hpi : (p : Int) - (t : Int) = (e : Int) := by omega
              have hp0 : (0 : Int) ≤ p := by omega
              have hp1 : (p : Int) < (k : Int) + 1 := by omega
              have he0 : (0 : Int) ≤ e := by omega
              have hwe := IntWalk.i64_in (e : Int) (by omega)
              have he1 : (e : Int) < (k : Int) + 1 := by omega
              have hlp' : decide ((t : Int) ≤ (p : Int)) = true := decide_eq_true (by omega)
              by_cases hy : 0 ≤ (downW T0 t wt hh d).getD e 0
              · have HN := Lib.hid (hset (max ((downW T0 t wt hh d).getD p 0) ((downW T0 t wt hh d).getD e 0 + wt)))
                have hyes := cellW_yes (T := downW T0 t wt hh d) (t := t) (k := p) (wt := wt) (by rw [hpe]; exact hy)
                rw [hpe] at hyes
                rw [hyes, ← HD.out] at HN
                have HBN := Lib.hid (And.intro (BlockIs.awayW hbb.out.1 (g' := g) (by omega) p (.int .i64 (max ((downW T0 t wt hh d).getD p 0) ((downW T0 t wt hh d).getD e 0 + wt)))) (hbb.out.2.setCell (p := ⟨g, p, none⟩) hgb (.int .i64 (max ((downW T0 t wt hh d).getD p 0) ((downW T0 t wt hh d).getD e 0 + wt)))))
                clear hset hyes HD hT hTb hbb HTO HSUC
                generalize (downW T0 t wt hh d).getD p 0 = vp at *
                generalize (downW T0 t wt hh d).getD e 0 = ve at *
                have hwv := IntWalk.i64_in (ve + wt) (by omega)
                generalize hmx : max vp (ve + wt) = mx at *
                have HM := Lib.hid hmx
                clear hmx
                have hy' : decide (0 ≤ ve) = true := decide_eq_true hy
                go_wp2
                go_still_tail 18, (by kernel_rfl)
                still_call (l1Most_still _ _ _ HM.out _)
                repeat still_step
                refine wpStill_nil ?_
                change wpList _ _ _ _ _ wr.drew
                go_wp2
                go_roundw
                case rel => exact ⟨d + 1, p - 1, by omega, by omega, by go_num, own_below HN.out (Below.refl _ _).drew, ⟨HBN.out.1.drew, HBN.out.2.drew⟩⟩
                case measure => simp [intOf]; omega
              · have hno := cellW_no (T := downW T0 t wt hh d) (t := t) (k := p) (wt := wt) (by rw [hpe]; exact hy)
                have HN : Hid (wr.ownsRow w1.heap.size 3 1 (.slice (some ⟨g, 0, none⟩) (k + 1) cv) (k + 1) (ic (downW T0 t wt hh (d + 1)))) := by
                  show World.ownsRow _ _ _ _ _ _ _
                  rw [HD.out, ← hno]; exact hT.out
                clear hset hno HD hT hTb HTO HSUC
                generalize (downW T0 t wt hh d).getD p 0 = vp at *
                generalize (downW T0 t wt hh d).getD e 0 = ve at *
                have hy' : decide (0 ≤ ve) = false := decide_eq_false hy
                go_wp2
                go_roundw
                case rel => exact ⟨d + 1, p - 1, by omega, by omega, by go_num, HN.out, hbb.out⟩
                case measure => simp [intOf]; omega
            · have hlp' : decide ((t : Int) ≤ (p : Int)) = false := decide_eq_false (by omega)
              have hde : d = hh + 1 - t := by omega
              have HN : Hid (wr.ownsRow w1.heap.size 3 1 (.slice (some ⟨g, 0, none⟩) (k + 1) cv) (k + 1) (ic (tabW js q k (i + 1)))) := by
                show World.ownsRow _ _ _ _ _ _ _
                rw [HSUC.out, ← hde]; exact hT.out
              clear hT HSUC HTO hde
              go_wp2
              go_roundw
              case rel => exact ⟨i + 1, by omega, by go_num, HN.out, hbb.out.2⟩
              case measure => simp [intOf]; omega
        · obtain rfl : i = js.length := by omega
          have HX := Lib.hid (And.intro (own_lower hT.out HB1.out.size) (HB1.out.trans (hb.out.mono HB1.out.size)))
          clear hT hb HJ HRB
          go_wp2
          go_ret
          exact ⟨.slice (some ⟨g, 0, none⟩) (k + 1) cv, rfl, by rw [hq]; exact HX.out.1, HX.out.2⟩
def repW (n m : Nat) : List Int := List.replicate n (-1) ++ List.replicate (m - n) 0
theorem repW_len {n m : Nat} (h : n ≤ m) : (repW n m).length = m := by unfold repW; simp; omega
theorem repW_splice {n m k : Nat} (h : n + k ≤ m) : splice (ic (repW n m)) n (ic (List.replicate k (-1))) = ic (repW (n + k) m) := by
  unfold splice ic repW
  simp only [List.map_append, List.map_replicate, List.length_replicate]
  rw [List.take_append_of_le_length (by simp), List.take_of_length_le (by simp), List.drop_append, List.drop_of_length_le (by simp), List.nil_append, List.length_replicate, List.drop_replicate]
  simp only [← List.append_assoc, List.replicate_append_replicate]
  rw [show m - n - (n + k - n) = m - (n + k) by omega]
theorem repW_zero (m : Nat) : List.replicate m (0 : Int) = repW 0 m := by unfold repW; simp
theorem repW_all (m : Nat) : repW m m = List.replicate m (-1) := by unfold repW; simp
theorem repW_src {w : World} {g n m : Nat} (hB : BlockIs w g 3 (ic (repW n m)).toArray) (k : Nat) (hk : k ≤ n) : ∀ j v, (ic (List.replicate k (-1 : Int)))[j]? = some v → w.cell? ((⟨g, 0, none⟩ : Addr).add j) = some v := by
  intro j v hj
  rw [Addr.add_lit, Nat.zero_add, hB.cell j, List.getElem?_toArray]
  have hjk : j < k := by
    have := (List.getElem?_eq_some_iff.1 hj).1
    rw [ic_len] at this
    simpa using this
  unfold ic repW at *
  rw [List.map_append, List.getElem?_append_left (by simp; omega)]
  rw [← hj]
  simp [hjk, show j < n by omega]
theorem rep_one {k : Nat} : ∀ v ∈ ic (List.replicate k (-1 : Int)), v.oneCell' = true := by
  intro v hv
  unfold ic at hv
  rw [List.map_replicate] at hv
  rw [(List.mem_replicate.1 hv).2]
  rfl
theorem keepL7 {L : Array Bool} {i : Nat} {p q : Prop} (hi : i ≠ 7) (h : (L.getD 7 true = false → p) ∧ (L.getD 7 true = true → q)) : ((L.setIfInBounds i true).getD 7 true = false → p) ∧ ((L.setIfInBounds i true).getD 7 true = true → q) := by
  rw [getD_set_true, if_neg (fun h => hi h.1)]; exact h
theorem setL7 {L : Array Bool} {p q : Prop} (hs : L.size = 10) (h : q) : ((L.setIfInBounds 7 true).getD 7 true = false → p) ∧ ((L.setIfInBounds 7 true).getD 7 true = true → q) := by
  rw [getD_set_true, if_pos ⟨rfl, by rw [hs]; decide⟩]
  exact ⟨fun h => (by cases h), fun _ => h⟩
theorem infoI1 : (Tryd.prog.info? 3).map (·.size) = some 1 := by kernel_rfl
set_option maxRecDepth 100000 in
set_option maxHeartbeats 4000000 in
theorem repeat_any (A : Addr) (cA m : Nat) (w : World) (hx : w.cell? A = some (.int .i64 (-1))) (hAb : A.block < w.heap.size) (hm1 : 1 ≤ m) (hm : m ≤ 1000) :
    Calls Tryd.prog 35 #[.slice (some A) 1 cA, .int .i64 (m : Int)] w fun e w' => ∃ g, e = .returned (.slice (some ⟨g, 0, none⟩) m m) ∧ w.heap.size ≤ g ∧ BlockIs w' g 3 (ic (List.replicate m (-1))).toArray ∧ Below w.heap.size w w' := by
  have HMUL : Hid (∀ W : World, Calls Tryd.prog 45 #[.int .u64 1, .int .u64 (m : Int)] W fun e w' => e = .returned (.tuple #[.int .u64 0, .int .u64 (m : Int)]) ∧ w' = W) := fun W => by
    have h := Tryd.bits_Mul 1 m (by omega) (by omega) W
    rw [show 1 * m / 18446744073709551616 = 0 by omega, show 1 * m % 18446744073709551616 = m by omega] at h
    exact h
  have hmk := run_make_row' (P := Tryd.prog) 24 3 (.int .i64 0) 8 Tryd.underlying24 infoI rfl .i64 .i64 m (by omega) (by omega)
  have hm0 : ¬ (m : Int) < 0 := by omega
  have hm9 : ¬ (9223372036854775807 : Int) < m := by omega
  have hmp : (0 : Int) ≤ m := by omega
  have H1 : Hid (BlockIs (w.alloc (.cells (madeCells #[.int .i64 0] m) 3)) w.heap.size 3 (ic (repW 0 m)).toArray ∧ Below w.heap.size w (w.alloc (.cells (madeCells #[.int .i64 0] m) 3))) := ⟨by rw [← repW_zero, ← ic_made]; exact BlockIs.new _ _ _, (Below.refl _ _).alloc (Nat.le_refl _) _⟩
  have H2 : Hid ((ic (List.replicate 1 (-1 : Int))).length = Nat.min 1 m ∧ ∀ j v, (ic (List.replicate 1 (-1 : Int)))[j]? = some v → (w.alloc (.cells (madeCells #[.int .i64 0] m) 3)).cell? (A.add j) = some v) := by
    refine ⟨by show 1 = min 1 m; omega, fun j v hj => ?_⟩
    have hj0 : j = 0 := by
      have := (List.getElem?_eq_some_iff.1 hj).1
      rw [ic_len] at this
      simpa using this
    subst hj0
    have hv : some (Value.int .i64 (-1)) = some v := hj
    rw [← hv, ← hx]
    exact ((Below.refl w.heap.size w).alloc (Nat.le_refl _) _).cell hAb
  have H3 : Hid (0 + (ic (List.replicate 1 (-1 : Int))).length ≤ (ic (repW 0 m)).length) := by show _ ≤ _; rw [ic_len, ic_len, repW_len (by omega)]; simp; omega
  have HS : Hid (((ic (repW 0 m)).toArray.toList.take 0 ++ ic (List.replicate 1 (-1)) ++ (ic (repW 0 m)).toArray.toList.drop (0 + (ic (List.replicate 1 (-1 : Int))).length)) = ic (repW 1 m)) := by
    have h := repW_splice (n := 0) (m := m) (k := 1) (by omega)
    rw [Nat.zero_add] at h
    exact h
  have hcp := run_copy_row (P := Tryd.prog) (w.alloc (.cells (madeCells #[.int .i64 0] m) 3)) 24 24 3 3 w.heap.size 0 m m A 1 cA (ic (repW 0 m)).toArray 3 (ic (List.replicate 1 (-1))) Tryd.underlying24 infoI1 H1.out.1 H2.out.1 H2.out.2 (by rw [← Array.length_toList]; exact H3.out) rep_one
  rw [HS.out] at hcp
  have hB4 : BlockIs ((w.alloc (.cells (madeCells #[.int .i64 0] m) 3)).setRow w.heap.size (ic (repW 1 m)).toArray) w.heap.size 3 (ic (repW 1 m)).toArray := setRow_heap _ _ _ _ _ _ H1.out.1
  have hb4 := below_setRow H1.out.2 (Nat.le_refl _) (ic (repW 1 m)).toArray
  have H4 := Lib.hid (And.intro hB4 hb4)
  have HCP := Lib.hid hcp
  clear hx hB4 hb4 hcp H1 H2 H3 HS
  go_enter Tryd.func35, Tryd.ntmps35
  go_wp2_with fail
  refine (HMUL.out _).mono ?_
  rintro e w' ⟨rfl, hww⟩
  obtain rfl := hww.symm
  go_wp2
  rw [HCP.out]
  generalize hw4 : World.setRow _ _ _ = w4 at *
  clear hw4 HCP
  go_wp2
  rw [show (ic [-1]).length = 1 from rfl]
  go_loopw [8] (fun nv wr => ∃ n : Nat, 1 ≤ n ∧ n ≤ m ∧ nv = .int .i64 (n : Int) ∧ Hid (BlockIs wr w.heap.size 3 (ic (repW n m)).toArray) ∧ Hid (Below w.heap.size w wr)) (fun nv _ => m - (intOf nv).toNat)
  case atStart => exact ⟨1, Nat.le_refl _, hm1, rfl, H4.out.1, H4.out.2⟩
  case round =>
    obtain ⟨n, hn1, hn, rfl, hB, hb⟩ := hrel
    clear H4 hmk
    by_cases hlt : n < m
    · obtain ⟨k, hk⟩ : ∃ k, k = min n (m - n) := ⟨_, rfl⟩
      have H5 : Hid ((ic (List.replicate k (-1 : Int))).length = Nat.min n (m - n)) := by show _ = min n (m - n); rw [ic_len, List.length_replicate, hk]
      have H6 := Lib.hid (repW_src hB.out k (by omega))
      have H7 : Hid (n + (ic (List.replicate k (-1 : Int))).length ≤ (ic (repW n m)).length) := by show _ ≤ _; rw [ic_len, ic_len, repW_len (by omega)]; simp; omega
      have HS : Hid (((ic (repW n m)).toArray.toList.take n ++ ic (List.replicate k (-1)) ++ (ic (repW n m)).toArray.toList.drop (n + (ic (List.replicate k (-1 : Int))).length)) = ic (repW (n + k) m)) := by
        have h := repW_splice (n := n) (m := m) (k := k) (by omega)
        unfold splice at h
        show _ = _
        rw [List.append_assoc]
        exact h
      have hcp := run_copy_row (P := Tryd.prog) (ty := 3) wr.drew 24 24 3 w.heap.size n (m - n) (m - n) ⟨w.heap.size, 0, none⟩ n m (ic (repW n m)).toArray 3 (ic (List.replicate k (-1))) Tryd.underlying24 infoI1 hB.out H5.out H6.out (by rw [← Array.length_toList]; exact H7.out) rep_one
      rw [HS.out] at hcp
      have hB4 : BlockIs (wr.drew.setRow w.heap.size (ic (repW (n + k) m)).toArray) w.heap.size 3 (ic (repW (n + k) m)).toArray := setRow_heap _ _ _ _ _ _ hB.out
      have hb4 := below_setRow hb.out.drew (Nat.le_refl _) (ic (repW (n + k) m)).toArray
      have H4 := Lib.hid (And.intro hB4 hb4)
      rw [show goInt (ic (List.replicate k (-1 : Int))).length = .int .i64 (k : Int) by rw [ic_len, List.length_replicate]; rfl] at hcp
      have HCP := Lib.hid hcp
      clear hB4 hb4 hcp HS H5 H6 H7 hB hb
      have hne : ¬ m = n := by omega
      have hn0 : (0 : Int) ≤ n := by omega
      have hnm : (n : Int) ≤ m := by omega
      have hnlt : (n : Int) < m := by omega
      obtain ⟨w5, hw5⟩ : ∃ w5, wr.drew.setRow w.heap.size (ic (repW (n + k) m)).toArray = w5 := ⟨_, rfl⟩
      rw [hw5] at H4 HCP
      clear hw5
      have hk1 : 1 ≤ k := by omega
      have hkm : n + k ≤ m := by omega
      have hwr := IntWalk.i64_in ((n : Int) + k) (by omega)
      have hrd : ∀ q : Prop, True := fun _ => trivial
      clear hrd
      go_wp2
      clear hk hm0 hm9
      refine wp_region_detL (by kernel_rfl) (fun L w' => (L.getD 7 true = false → w' = wr.drew) ∧ (L.getD 7 true = true → w' = w5))
        (fun kk => #[.int .i64 (n : Int), .slice (some ⟨w.heap.size, 0, none⟩) m m, .int .i64 (n : Int), .slice (some ⟨w.heap.size, n, none⟩) (m - n) (m - n), .slice (some ⟨w.heap.size, 0, none⟩) m m, .int .i64 (n : Int), .slice (some ⟨w.heap.size, 0, none⟩) n m, .int .i64 (k : Int), .int .i64 ((n : Int) + k), .int .i64 ((n : Int) + k)].getD kk undef) (by kernel_rfl) (by kernel_rfl) ⟨fun _ => rfl, fun h => by cases h⟩ ?_ ?_
      · intro L tm w' hall hS hsz hlow hval
        have ht : tm = #[.slice (some A) 1 cA, .int .i64 (m : Int), undef, undef, .slice none 0 0, .int .u64 0, .int .u64 (m : Int), .slice (some ⟨w.heap.size, 0, none⟩) m m, .int .i64 ((n : Int) + k), .int .i64 (m : Int), .bool false, undef, .tuple #[.int .u64 0, .int .u64 (m : Int)], .slice (some A) 1 cA, .int .i64 1, .int .u64 1, .int .i64 (m : Int), .int .u64 (m : Int), .tuple #[.int .u64 0, .int .u64 (m : Int)], .int .u64 0, .int .u64 (m : Int), .int .u64 0, .bool false, .bool false, .int .u64 (m : Int), .bool (decide (9223372036854775807 < (m : Int))), .bool (decide (9223372036854775807 < (m : Int))), undef, .int .u64 (m : Int), .int .i64 (m : Int), .slice (some ⟨w.heap.size, 0, none⟩) m m, .slice (some ⟨w.heap.size, 0, none⟩) m m, .slice (some A) 1 cA, .int .i64 1, .int .i64 (n : Int), .slice (some ⟨w.heap.size, 0, none⟩) m m, .int .i64 (m : Int), .bool true, .int .i64 (n : Int), .slice (some ⟨w.heap.size, 0, none⟩) m m, .int .i64 (n : Int), .slice (some ⟨w.heap.size, n, none⟩) (m - n) (m - n), .slice (some ⟨w.heap.size, 0, none⟩) m m, .int .i64 (n : Int), .slice (some ⟨w.heap.size, 0, none⟩) n m, .int .i64 (k : Int), .int .i64 ((n : Int) + k), undef] := by
          refine arr_of _ _ hsz fun t ht => ?_
          have ht' : t < 48 := ht
          rcases (by omega : t = 0 ∨ t = 1 ∨ t = 2 ∨ t = 3 ∨ t = 4 ∨ t = 5 ∨ t = 6 ∨ t = 7 ∨ t = 8 ∨ t = 9 ∨ t = 10 ∨ t = 11 ∨ t = 12 ∨ t = 13 ∨ t = 14 ∨ t = 15 ∨ t = 16 ∨ t = 17 ∨ t = 18 ∨ t = 19 ∨ t = 20 ∨ t = 21 ∨ t = 22 ∨ t = 23 ∨ t = 24 ∨ t = 25 ∨ t = 26 ∨ t = 27 ∨ t = 28 ∨ t = 29 ∨ t = 30 ∨ t = 31 ∨ t = 32 ∨ t = 33 ∨ t = 34 ∨ t = 35 ∨ t = 36 ∨ t = 37 ∨ t = 38 ∨ t = 39 ∨ t = 40 ∨ t = 41 ∨ t = 42 ∨ t = 43 ∨ t = 44 ∨ t = 45 ∨ t = 46 ∨ t = 47) with rfl | rfl | rfl | rfl | rfl | rfl | rfl | rfl | rfl | rfl | rfl | rfl | rfl | rfl | rfl | rfl | rfl | rfl | rfl | rfl | rfl | rfl | rfl | rfl | rfl | rfl | rfl | rfl | rfl | rfl | rfl | rfl | rfl | rfl | rfl | rfl | rfl | rfl | rfl | rfl | rfl | rfl | rfl | rfl | rfl | rfl | rfl | rfl
          · exact hlow 0 (by kernel_rfl)
          · exact hlow 1 (by kernel_rfl)
          · exact hlow 2 (by kernel_rfl)
          · exact hlow 3 (by kernel_rfl)
          · exact hlow 4 (by kernel_rfl)
          · exact hlow 5 (by kernel_rfl)
          · exact hlow 6 (by kernel_rfl)
          · exact hlow 7 (by kernel_rfl)
          · exact hval 9 _ 8 rfl rfl
          · exact hlow 9 (by kernel_rfl)
          · exact hlow 10 (by kernel_rfl)
          · exact hlow 11 (by kernel_rfl)
          · exact hlow 12 (by kernel_rfl)
          · exact hlow 13 (by kernel_rfl)
          · exact hlow 14 (by kernel_rfl)
          · exact hlow 15 (by kernel_rfl)
          · exact hlow 16 (by kernel_rfl)
          · exact hlow 17 (by kernel_rfl)
          · exact hlow 18 (by kernel_rfl)
          · exact hlow 19 (by kernel_rfl)
          · exact hlow 20 (by kernel_rfl)
          · exact hlow 21 (by kernel_rfl)
          · exact hlow 22 (by kernel_rfl)
          · exact hlow 23 (by kernel_rfl)
          · exact hlow 24 (by kernel_rfl)
          · exact hlow 25 (by kernel_rfl)
          · exact hlow 26 (by kernel_rfl)
          · exact hlow 27 (by kernel_rfl)
          · exact hlow 28 (by kernel_rfl)
          · exact hlow 29 (by kernel_rfl)
          · exact hlow 30 (by kernel_rfl)
          · exact hlow 31 (by kernel_rfl)
          · exact hlow 32 (by kernel_rfl)
          · exact hlow 33 (by kernel_rfl)
          · exact hlow 34 (by kernel_rfl)
          · exact hlow 35 (by kernel_rfl)
          · exact hlow 36 (by kernel_rfl)
          · exact hlow 37 (by kernel_rfl)
          · exact hval 0 _ 38 rfl rfl
          · exact hval 1 _ 39 rfl rfl
          · exact hval 2 _ 40 rfl rfl
          · exact hval 3 _ 41 rfl rfl
          · exact hval 4 _ 42 rfl rfl
          · exact hval 5 _ 43 rfl rfl
          · exact hval 6 _ 44 rfl rfl
          · exact hval 7 _ 45 rfl rfl
          · exact hval 8 _ 46 rfl rfl
          · exact hlow 47 (by kernel_rfl)
        subst ht
        clear hlow hval hsz
        obtain rfl := hS.2 (hall 7 (by decide))
        clear hS hall
        go_wp2
        go_roundw
        case rel => exact ⟨_, _, _, _, _, _, _, _, _, _, _, _, _, _, ⟨n + k, by omega, by omega, by go_num, H4.out.1, H4.out.2⟩, rfl⟩
        case measure => simp [intOf]; omega
      · intro L a w' kk op hLs ho hLi hLd hLn hS hlow hdep hold
        have hkk : kk < 10 := (Array.getElem?_eq_some_iff.1 ho).1
        have l7 : a.tmps[7]?.getD undef = .slice (some ⟨w.heap.size, 0, none⟩) m m := by rw [← Array.getD_eq_getD_getElem?]; exact hlow 7 (by kernel_rfl)
        have D : ∀ j oj d, edgeB _ kk j = true → _ → _ → a.tmps[d]?.getD undef = _ := fun j oj d h1 h2 h3 => (Array.getD_eq_getD_getElem? ..).symm.trans (hdep j oj d h1 h2 h3)
        rcases (by omega : kk = 0 ∨ kk = 1 ∨ kk = 2 ∨ kk = 3 ∨ kk = 4 ∨ kk = 5 ∨ kk = 6 ∨ kk = 7 ∨ kk = 8 ∨ kk = 9) with rfl | rfl | rfl | rfl | rfl | rfl | rfl | rfl | rfl | rfl
        · obtain rfl := Option.some.inj ho
          have l8 : a.tmps[8]?.getD undef = .int .i64 (n : Int) := (Array.getD_eq_getD_getElem? ..).symm.trans (hold 9 _ 8 (by kernel_rfl) rfl rfl)
          exact ⟨rfl, .inl ⟨w', by simp [execOp, Act.eval, l8, go_sem], keepL7 (by decide) hS⟩⟩
        · obtain rfl := Option.some.inj ho
          exact ⟨rfl, .inl ⟨w', by simp [execOp, Act.eval, l7, go_sem], keepL7 (by decide) hS⟩⟩
        · obtain rfl := Option.some.inj ho
          have l8 : a.tmps[8]?.getD undef = .int .i64 (n : Int) := (Array.getD_eq_getD_getElem? ..).symm.trans (hold 9 _ 8 (by kernel_rfl) rfl rfl)
          exact ⟨rfl, .inl ⟨w', by simp [execOp, Act.eval, l8, go_sem], keepL7 (by decide) hS⟩⟩
        · obtain rfl := Option.some.inj ho
          have e39 : a.tmps[39]?.getD undef = .slice (some ⟨w.heap.size, 0, none⟩) m m := D 1 _ 39 (by kernel_rfl) rfl rfl
          have e40 : a.tmps[40]?.getD undef = .int .i64 (n : Int) := D 2 _ 40 (by kernel_rfl) rfl rfl
          exact ⟨rfl, .inl ⟨w', by simp [execOp, Act.eval, e39, e40, hne, hn0, hnm, go_sem], keepL7 (by decide) hS⟩⟩
        · obtain rfl := Option.some.inj ho
          exact ⟨rfl, .inl ⟨w', by simp [execOp, Act.eval, l7, go_sem], keepL7 (by decide) hS⟩⟩
        · obtain rfl := Option.some.inj ho
          have l8 : a.tmps[8]?.getD undef = .int .i64 (n : Int) := (Array.getD_eq_getD_getElem? ..).symm.trans (hold 9 _ 8 (by kernel_rfl) rfl rfl)
          exact ⟨rfl, .inl ⟨w', by simp [execOp, Act.eval, l8, go_sem], keepL7 (by decide) hS⟩⟩
        · obtain rfl := Option.some.inj ho
          have e42 : a.tmps[42]?.getD undef = .slice (some ⟨w.heap.size, 0, none⟩) m m := D 4 _ 42 (by kernel_rfl) rfl rfl
          have e43 : a.tmps[43]?.getD undef = .int .i64 (n : Int) := D 5 _ 43 (by kernel_rfl) rfl rfl
          exact ⟨rfl, .inl ⟨w', by simp [execOp, Act.eval, e42, e43, hn0, hnm, go_sem], keepL7 (by decide) hS⟩⟩
        · obtain rfl := Option.some.inj ho
          have e41 : a.tmps[41]?.getD undef = .slice (some ⟨w.heap.size, n, none⟩) (m - n) (m - n) := D 3 _ 41 (by kernel_rfl) rfl rfl
          have e44 : a.tmps[44]?.getD undef = .slice (some ⟨w.heap.size, 0, none⟩) n m := D 6 _ 44 (by kernel_rfl) rfl rfl
          obtain rfl : w' = wr.drew := hS.1 hLi
          have h1 := HCP.out
          exact ⟨rfl, .inl ⟨w5, by simp [execOp, Act.eval, e41, e44, resolve, invoke, builtin, h1, Result.andThen], setL7 hLs rfl⟩⟩
        · obtain rfl := Option.some.inj ho
          have e38 : a.tmps[38]?.getD undef = .int .i64 (n : Int) := D 0 _ 38 (by kernel_rfl) rfl rfl
          have e45 : a.tmps[45]?.getD undef = .int .i64 (k : Int) := D 7 _ 45 (by kernel_rfl) rfl rfl
          exact ⟨rfl, .inl ⟨w', by simp [execOp, Act.eval, e38, e45, hwr, go_sem], keepL7 (by decide) hS⟩⟩
        · obtain rfl := Option.some.inj ho
          have e46 : a.tmps[46]?.getD undef = .int .i64 ((n : Int) + k) := D 8 _ 46 (by kernel_rfl) rfl rfl
          exact ⟨rfl, .inl ⟨w', by simp [execOp, Act.eval, e46, go_sem], keepL7 (by decide) hS⟩⟩
    · obtain rfl : n = m := by omega
      rw [repW_all] at hB
      go_wp2
      go_ret
      exact ⟨_, rfl, Nat.le_refl _, hB.out, hb.out⟩
set_option maxRecDepth 100000 in
set_option maxHeartbeats 4000000 in
theorem weightTable_any (A : Option Addr) (c : Nat) (js : List J) (w : World) (hr : Row w A (jc js)) (hok : ∀ j ∈ js, okJ j = true) (h8 : js.length ≤ 8) (m : Nat) (hm : totL js = (m : Int)) (hm4 : m ≤ 400) (hT : TzTab w) :
    Calls Tryd.prog 20 #[.slice A js.length c] w fun e w' => ∃ v, e = .returned v ∧ w'.ownsRow w.heap.size 3 1 v (m + 1) (ic (tabW js (dueL js (List.range js.length)) m js.length)) ∧ Below w.heap.size w w' := by
  have hpw := pow_lt js.length (by omega)
  have HTO : Hid (Calls Tryd.prog 34 #[.slice A js.length c, .int .u64 ((2 ^ js.length - 1 : Nat) : Int)] w fun e w' => e = .returned (.int .i64 (m : Int)) ∧ Below w.heap.size w w') := by
    have h := timeOf_any A c (2 ^ js.length - 1) js w hpw hr hok (fun k hk => all_bit (by omega) hk) hT
    rw [show timeB js (2 ^ js.length - 1) = (m : Int) by unfold timeB; rw [memB_all js.length (by omega)]; exact hm] at h
    exact h
  have HDU : Hid (∀ W, Below w.heap.size w W → Calls Tryd.prog 36 #[.slice A js.length c, .int .u64 ((2 ^ js.length - 1 : Nat) : Int)] W fun e w' => ∃ v, e = .returned v ∧ w'.ownsRow W.heap.size 3 1 v js.length (ic (natI (dueL js (List.range js.length)))) ∧ Below W.heap.size W w') := fun W hb => by
    have h := dueOrder_any A c js W (hr.below hb) hok h8 (2 ^ js.length - 1) hpw (fun k hk => all_bit (by omega) hk) (hT.below hb)
    rw [memB_all js.length (by omega), List.length_range] at h
    exact h
  have hql : (dueL js (List.range js.length)).length = js.length := by rw [dueL_len, List.length_range]
  have hqm : ∀ x ∈ dueL js (List.range js.length), x < js.length := fun x hx => List.mem_range.1 (dueTo_mem (by omega) hx)
  have HJ := Lib.hid (fun W (hb : Below w.heap.size w W) k (hk : k < js.length) => (hr.below hb).job hk)
  have HAL := Lib.hid (fun W => all_any A js.length c h8 W)
  clear hr hm hT
  generalize hq : dueL js (List.range js.length) = q at *
  generalize 2 ^ js.length - 1 = sx at *
  go_enter Tryd.func20, Tryd.ntmps20
  go_wp2_with fail
  refine (HAL.out _).mono ?_
  rintro e _ ⟨rfl, rfl⟩
  go_wp2_with fail
  refine HTO.out.mono ?_
  rintro e w1 ⟨rfl, hb1⟩
  have HRE : Hid (Calls Tryd.prog 35 #[.slice (some ⟨w1.heap.size, 0, none⟩) 1 1, .int .i64 ((m : Int) + 1)] (w1.alloc (.cells #[.int .i64 (-1)] 3)) fun e w' => ∃ g, e = .returned (.slice (some ⟨g, 0, none⟩) (m + 1) (m + 1)) ∧ w1.heap.size ≤ g ∧ BlockIs w' g 3 (ic ((-1) :: List.replicate m (-1))).toArray ∧ Below w1.heap.size w1 w') := by
    have h := repeat_any ⟨w1.heap.size, 0, none⟩ 1 (m + 1) (w1.alloc (.cells #[.int .i64 (-1)] 3)) ((BlockIs.new w1 3 #[.int .i64 (-1)]).cell 0) (by simp) (by omega) (by omega)
    rw [show ((m + 1 : Nat) : Int) = (m : Int) + 1 by omega] at h
    refine h.mono ?_
    rintro e w' ⟨g, rfl, h1, h2, h3⟩
    have hs1 : (w1.alloc (.cells #[.int .i64 (-1)] 3)).heap.size = w1.heap.size + 1 := by simp
    exact ⟨g, rfl, by omega, by rw [List.replicate_succ] at h2; exact h2, ((Below.refl w1.heap.size w1).alloc (Nat.le_refl _) _).trans (h3.mono (by omega))⟩
  have HB1 := Lib.hid hb1
  clear hb1 HTO
  go_wp2_with fail
  refine HRE.out.mono ?_
  rintro e w2 ⟨g, rfl, hg, hB2, hb2⟩
  have hgw : w.heap.size ≤ g := Nat.le_trans HB1.out.size hg
  have hf2 := hB2.frozen 0
  have hc2 := hB2.cell 0
  have hB3 := hB2.set 0 (.int .i64 0)
  rw [ic_set, show ((-1 : Int) :: List.replicate m (-1)).set 0 0 = 0 :: List.replicate m (-1) from rfl] at hB3
  have H3 := Lib.hid (And.intro hB3 ((HB1.out.trans (hb2.mono HB1.out.size)).setCell (p := ⟨g, 0, none⟩) hgw (.int .i64 0)))
  have hc2' : w2.cell? ⟨g, 0, none⟩ = some (.int .i64 (-1)) := hc2
  have hm00 : (0 : Int) < (m : Int) + 1 := by omega
  clear hB2 hB3 hb2 hc2 HRE HB1
  go_wp2_with fail
  refine (HAL.out _).mono ?_
  rintro e _ ⟨rfl, rfl⟩
  generalize hw3 : w2.setCell ⟨g, 0, none⟩ (.int .i64 0) = w3 at *
  clear hw3 hf2 hc2' hg
  have HD := Lib.hid (HDU.out w3 H3.out.2)
  clear HDU HAL
  go_wp2_with fail
  refine HD.out.mono ?_
  rintro e w4 ⟨v, rfl, hown, hb4⟩
  obtain ⟨B, d0, rfl, _, _⟩ := own_slice hown
  have HQ4 : Hid (w4.ownsRow w3.heap.size 3 1 (.slice B js.length d0) js.length (ic (natI q))) := hown
  have H4 : Hid (BlockIs w4 g 3 (ic (tabW js q m 0)).toArray ∧ Below w.heap.size w w4) := ⟨H3.out.1.below hb4, H3.out.2.trans (hb4.mono H3.out.2.size)⟩
  have hg3 : g < w3.heap.size := H3.out.1.lt
  clear hown hb4 H3 HD
  go_wp2
  go_loopw [25] (fun iv wr => ∃ i : Nat, i ≤ js.length ∧ iv = .int .i64 (i : Int) ∧ Hid (wr.ownsRow w3.heap.size 3 1 (.slice B js.length d0) js.length (ic (natI q))) ∧ Hid (BlockIs wr g 3 (ic (tabW js q m i)).toArray ∧ Below w.heap.size w wr)) (fun iv _ => js.length - (intOf iv).toNat)
  case atStart => exact ⟨0, Nat.zero_le _, rfl, HQ4, H4⟩
  case round =>
    obtain ⟨i, hi, rfl, hQ, hT⟩ := hrel
    clear HQ4 H4
    by_cases hlt : i < js.length
    · have hiq : i < q.length := by omega
      have hqi : q[i] < js.length := hqm _ (List.getElem_mem hiq)
      obtain ⟨bd, hB, hqc⟩ := (Row.of_own hQ.out).nat hiq
      subst hB
      obtain ⟨ad, hA, hadb, a0, a1, a2, a3⟩ := HJ.out wr hT.out.2 _ hqi
      subst hA
      have hoj := hok _ (List.getElem_mem hqi)
      have HSUC := Lib.hid (tabW_succ js q m i hiq hqi)
      have HTO := Lib.hid (tabW_ok hok q (by exact hqm) hm4 i (by omega))
      have HTL := Lib.hid (tabW_len js q m i)
      generalize q[i] = x at *
      generalize tabW js q m i = T0 at *
      generalize js[x] = j at *
      obtain ⟨t0, t1, w0, w1', _, _, dd0, dd1⟩ := okJ_out hoj
      obtain ⟨wo, rfl⟩ : ∃ wo : World, wo = wr := ⟨_, rfl⟩
      have hal := (Below.refl wo.heap.size wo).alloc (Nat.le_refl _) (.cells #[.int .i64 j.t, .int .i64 j.w, .int .i64 j.r, .int .i64 j.d] 39)
      have hg4 : g < wo.heap.size := hT.out.1.lt
      have HO := Lib.hid (And.intro (own_below hQ.out hal) (And.intro (BlockIs.new wo 39 #[.int .i64 j.t, .int .i64 j.w, .int .i64 j.r, .int .i64 j.d]) (And.intro (hT.out.1.below hal) (hT.out.2.trans (hal.mono hT.out.2.size)))))
      have hz3 : w3.heap.size ≤ wo.heap.size ∨ True := .inr trivial
      clear hz3 hal
      have hi0 : (0 : Int) ≤ i := by omega
      have hi1 : (i : Int) < js.length := by omega
      have hx0 : (0 : Int) ≤ x := by omega
      have hx1 : (x : Int) < js.length := by omega
      obtain ⟨hh, hhe⟩ : ∃ hh : Nat, hh = endW j m := ⟨_, rfl⟩
      have hmin : min j.d ((m : Int)) = (hh : Int) := by rw [hhe]; unfold endW; omega
      have hhk : hh ≤ m := by rw [hhe]; unfold endW; omega
      have hway : wayW j m = hh + 1 - j.t.toNat := by rw [hhe]; rfl
      rw [hway, ← hhe] at HSUC
      clear hT hQ hok hqm hoj hway hhe HJ
      generalize j.d = dd at *
      generalize j.r = rr at *
      generalize j.w = wt at *
      generalize j.t = tt at *
      obtain ⟨t, rfl⟩ : ∃ t : Nat, tt = (t : Int) := ⟨tt.toNat, by omega⟩
      rw [Int.toNat_natCast] at HSUC
      go_wp2
      go_loopw [8] (fun kv wi => ∃ d p : Nat, d + p = hh ∧ d ≤ hh + 1 - t ∧ kv = .int .i64 (p : Int) ∧ Hid (wi.ownsRow w3.heap.size 3 1 (.slice (some bd) js.length d0) js.length (ic (natI q))) ∧ Hid (BlockIs wi wo.heap.size 39 #[.int .i64 (t : Int), .int .i64 wt, .int .i64 rr, .int .i64 dd] ∧ BlockIs wi g 3 (ic (downW T0 t wt hh d)).toArray ∧ Below w.heap.size w wi)) (fun kv _ => (intOf kv).toNat)
      case atStart => exact ⟨0, hh, by omega, by omega, by rw [← hmin], HO.out.1, HO.out.2⟩
      case round =>
        obtain ⟨d, p, hdp, hd, rfl, hQ, hbb⟩ := hrel
        clear HO
        obtain ⟨f0, f1, f2, f3⟩ : wr.cell? ⟨wo.heap.size, 0, none⟩ = some (.int .i64 (t : Int)) ∧ wr.cell? ⟨wo.heap.size, 1, none⟩ = some (.int .i64 wt) ∧ wr.cell? ⟨wo.heap.size, 2, none⟩ = some (.int .i64 rr) ∧ wr.cell? ⟨wo.heap.size, 3, none⟩ = some (.int .i64 dd) := ⟨hbb.out.1.cell 0, hbb.out.1.cell 1, hbb.out.1.cell 2, hbb.out.1.cell 3⟩
        have hLD : (downW T0 t wt hh d).length = m + 1 := by rw [downW_len]; exact HTL.out
        by_cases hlp : t ≤ p
        · obtain ⟨e, he⟩ : ∃ e : Nat, e + t = p := ⟨p - t, by omega⟩
          have hTb := downW_ok HTO.out (by omega) t ⟨w0, w1'⟩ hh d
          have hb1 := okT_get hTb (by omega) p
          have hb2 := okT_get hTb (by omega) e
          have hcp : wr.cell? ⟨g, p, none⟩ = some (.int .i64 ((downW T0 t wt hh d).getD p 0)) := by
            rw [hbb.out.2.1.int (k := p) (by omega)]; simp [List.getD, show p < (downW T0 t wt hh d).length by omega]
          have hce : wr.cell? ⟨g, e, none⟩ = some (.int .i64 ((downW T0 t wt hh d).getD e 0)) := by
            rw [hbb.out.2.1.int (k := e) (by omega)]; simp [List.getD, show e < (downW T0 t wt hh d).length by omega]
          have hfp := hbb.out.2.1.frozen p
          have HD : Hid (downW T0 t wt hh (d + 1) = cellW (downW T0 t wt hh d) t wt p) := by show cellW _ t wt (hh - d) = _; rw [show hh - d = p by omega]
          have hpe : p - t = e := by omega
          have hpi : (p : Int) - (t : Int) = (e : Int) := by omega
          have hp0 : (0 : Int) ≤ p := by omega
          have hp1 : (p : Int) < (m : Int) + 1 := by omega
          have he0 : (0 : Int) ≤ e := by omega
          have hwe := IntWalk.i64_in (e : Int) (by omega)
          have he1 : (e : Int) < (m : Int) + 1 := by omega
          have hlp' : decide ((t : Int) ≤ (p : Int)) = true := decide_eq_true (by omega)
          by_cases hy : 0 ≤ (downW T0 t wt hh d).getD e 0
          · have HN := Lib.hid (hbb.out.2.1.set p (.int .i64 (max ((downW T0 t wt hh d).getD p 0) ((downW T0 t wt hh d).getD e 0 + wt))))
            have hyes := cellW_yes (T := downW T0 t wt hh d) (t := t) (k := p) (wt := wt) (by rw [hpe]; exact hy)
            rw [hpe] at hyes
            rw [ic_set, hyes, ← HD.out] at HN
            have HBN := Lib.hid (And.intro (BlockIs.awayW hbb.out.1 (g' := g) (by omega) p (.int .i64 (max ((downW T0 t wt hh d).getD p 0) ((downW T0 t wt hh d).getD e 0 + wt)))) (hbb.out.2.2.setCell (p := ⟨g, p, none⟩) hgw (.int .i64 (max ((downW T0 t wt hh d).getD p 0) ((downW T0 t wt hh d).getD e 0 + wt)))))
            have HQN := Lib.hid (ownsRow_setCell_below hQ.out (a := ⟨g, p, none⟩) hg3 (.int .i64 (max ((downW T0 t wt hh d).getD p 0) ((downW T0 t wt hh d).getD e 0 + wt))))
            clear hyes HD hTb hbb HTO HSUC hLD hQ HTL
            generalize (downW T0 t wt hh d).getD p 0 = vp at *
            generalize (downW T0 t wt hh d).getD e 0 = ve at *
            have hwv := IntWalk.i64_in (ve + wt) (by omega)
            have hy' : decide (0 ≤ ve) = true := decide_eq_true hy
            have hyn : ¬ ve = -1 := by omega
            have hyb : (ve != -1) = true := by simp [hyn]
            go_wp2
            go_still_tail 12, (by kernel_rfl)
            change wpList _ _ _ _ _ wr.drew
            go_wp2
            go_roundw
            case rel => exact ⟨d + 1, p - 1, by omega, by omega, by go_num, own_below HQN.out (Below.refl _ _).drew, ⟨HBN.out.1.drew, HN.out.drew, HBN.out.2.drew⟩⟩
            case measure => simp [intOf]; omega
          · have hno := cellW_no (T := downW T0 t wt hh d) (t := t) (k := p) (wt := wt) (by rw [hpe]; exact hy)
            have HN : Hid (BlockIs wr g 3 (ic (downW T0 t wt hh (d + 1))).toArray) := by
              show BlockIs _ _ _ _
              rw [HD.out, ← hno]; exact hbb.out.2.1
            clear hno HD hTb HTO HSUC hLD HTL
            generalize (downW T0 t wt hh d).getD p 0 = vp at *
            generalize (downW T0 t wt hh d).getD e 0 = ve at *
            obtain rfl : ve = -1 := by omega
            go_wp2
            go_roundw
            case rel => exact ⟨d + 1, p - 1, by omega, by omega, by go_num, hQ, ⟨hbb.out.1, HN.out, hbb.out.2.2⟩⟩
            case measure => simp [intOf]; omega
        · have hlp' : decide ((t : Int) ≤ (p : Int)) = false := decide_eq_false (by omega)
          have hde : d = hh + 1 - t := by omega
          have HN : Hid (BlockIs wr g 3 (ic (tabW js q m (i + 1))).toArray) := by
            show BlockIs _ _ _ _
            rw [HSUC.out, ← hde]; exact hbb.out.2.1
          clear HSUC HTO hde hLD HTL
          go_wp2
          go_roundw
          case rel => exact ⟨i + 1, by omega, by go_num, hQ, ⟨HN.out, hbb.out.2.2⟩⟩
          case measure => simp [intOf]; omega
    · obtain rfl : i = js.length := by omega
      have hown := hT.out.1.own (base := w.heap.size) (n := m + 1) (c := m + 1) (size := 1) hgw (by rw [List.size_toArray, ic_len, tabW_len, Nat.mul_one]) (Nat.le_refl _) (by unfold maxLen; omega) (by rw [List.size_toArray, ic_len, tabW_len]; omega)
      rw [List.toList_toArray, List.take_of_length_le (by rw [ic_len, tabW_len]; omega)] at hown
      have HX := Lib.hid (And.intro hown hT.out.2)
      clear hT hQ hown HJ
      go_wp2
      go_ret
      exact ⟨.slice (some ⟨g, 0, none⟩) (m + 1) (m + 1), rfl, HX.out.1, HX.out.2⟩
theorem ret_ownW {w w' : World} {r : List Int × Bool} {xs : List Int} {v : Value} {n : Nat} {b : Bool} (hr : r = (xs, b)) (hn : xs.length = n) (ho : w'.ownsRow w.heap.size 3 1 v n (ic xs)) (hb : Below w.heap.size w w') (e : Ending) (he : e = .returned (.tuple #[v, .bool b])) : RetIB w r e w' := by
  subst hr hn
  obtain ⟨A, c, rfl, hs⟩ := seg_out ho
  subst he
  exact ⟨A, c, rfl, hs, hb⟩
def wtR (js : List J) : List Int × Bool := if plainL js then (tabW js (dueL js (List.range js.length)) (totL js).toNat js.length, true) else ([], false)
theorem tot_bd {js : List J} (h : goodL js = true) : totL js = ((totL js).toNat : Int) ∧ (totL js).toNat ≤ 400 := by
  obtain ⟨h8, hok⟩ := good_out h
  have h1 := sumT_bd hok (List.range js.length) (fun k hk => List.mem_range.1 hk)
  rw [List.length_range] at h1
  unfold totL
  omega
theorem wtR_len (js : List J) : (wtR js).1.length ≤ 401 := by
  unfold wtR
  split
  · rename_i h
    have h4 := (tot_bd (plain_good h)).2
    show (tabW _ _ _ _).length ≤ 401
    rw [tabW_len]; omega
  · exact Nat.zero_le _
section
variable (A : Option Addr) (c : Nat) (js : List J) (w : World) (hr : Row w A (jc js)) (hn : js.length ≤ 10000000)
include hr hn
set_option maxRecDepth 100000 in
theorem spec_WeightTable : Calls Tryd.prog 6 #[.slice A js.length c] w (RetIB w (wtR js)) := by
  cases hp : plainL js
  · have HR : Hid (wtR js = ([], false)) := by show _ = _; unfold wtR; rw [hp]; rfl
    go_enter Tryd.func6, Tryd.ntmps6
    go_wp2_with fail
    refine (l6Good_any A c js _ hr (by omega)).mono ?_
    rintro e w1 ⟨rfl, hb1⟩
    rw [hp]
    go_wp2
    go_ret2
    exact ret_empty HR.out hb1 _ rfl
  · have HR : Hid (wtR js = (tabW js (dueL js (List.range js.length)) (totL js).toNat js.length, true)) := by show _ = _; unfold wtR; rw [hp]; rfl
    have hg := plain_good hp
    obtain ⟨hm, hm4⟩ := tot_bd hg
    have HT : Hid (∀ W, Below w.heap.size w W → Calls Tryd.prog 17 #[.slice A js.length c] W fun e w' => ∃ v, e = .returned v ∧ w'.ownsRow W.heap.size 3 1 v ((totL js).toNat + 1) (ic (tabW js (dueL js (List.range js.length)) (totL js).toNat js.length)) ∧ Below W.heap.size W w') := fun W hb => l6Table_any A c js W (hr.below hb) hg _ hm hm4
    go_enter Tryd.func6, Tryd.ntmps6
    go_wp2_with fail
    refine (l6Good_any A c js _ hr (by omega)).mono ?_
    rintro e w1 ⟨rfl, hb1⟩
    rw [hp]
    have HC := Lib.hid (HT.out w1 hb1)
    have HB := Lib.hid hb1
    clear hb1 HT hm
    go_wp2_with fail
    refine HC.out.mono ?_
    rintro e w3 ⟨v, rfl, hown, hb3⟩
    have HX := Lib.hid (And.intro (own_lower hown HB.out.size) (HB.out.trans (hb3.mono HB.out.size)))
    clear hown hb3
    go_wp2
    go_ret2
    exact ret_ownW HR.out (tabW_len _ _ _ _) HX.out.1 HX.out.2 _ rfl
set_option maxRecDepth 100000 in
theorem impl_WeightTable (hT : TzTab w) : Calls Tryd.prog 8 #[.slice A js.length c] w (RetIB w (wtR js)) := by
  have HT := Lib.hid hT
  clear hT
  go_enter Tryd.func8, Tryd.ntmps8
  go_wp2_with fail
  refine (plainListOf_any A c js w hr (by omega)).mono ?_
  rintro e w1 ⟨hb1, ⟨hp, rfl⟩ | ⟨hp, rfl⟩⟩
  · have HR : Hid (wtR js = (tabW js (dueL js (List.range js.length)) (totL js).toNat js.length, true)) := by show _ = _; unfold wtR; rw [hp]; rfl
    have hg := plain_good hp
    obtain ⟨h8, hok⟩ := good_out hg
    obtain ⟨hm, hm4⟩ := tot_bd hg
    have HC := Lib.hid (weightTable_any A c js w1 (hr.below hb1) hok h8 _ hm hm4 (HT.out.below hb1))
    have HB := Lib.hid hb1
    clear hok hb1 hp hm
    go_wp2_with fail
    refine HC.out.mono ?_
    rintro e w2 ⟨v, rfl, hown, hb2⟩
    have HX := Lib.hid (And.intro (own_lower hown HB.out.size) (HB.out.trans (hb2.mono HB.out.size)))
    clear hown hb2
    go_wp2
    go_ret2
    exact ret_ownW HR.out (tabW_len _ _ _ _) HX.out.1 HX.out.2 _ rfl
  · have HR : Hid (wtR js = ([], false)) := by show _ = _; unfold wtR; rw [hp]; rfl
    go_wp2
    go_ret2
    exact ret_empty HR.out hb1 _ rfl
end
end Go.Proofs.YtllohccpnglloaaDoor
