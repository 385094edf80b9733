/- LlA: WtA, BestP, EaP, Tmp, Ris, Rsi, Blo, Rat, Llw in one text. -/
import Derived.Test.YtllohccpnglloaaDoorJobP
import Derived.Test.YtllohccpnglloaaDoorJobs
import Derived.Test.YtllohccpnglloaaDoorDul
import Derived.Test.YtllohccpnglloaaDoorTot
import Derived.Test.YtllohccpnglloaaDoorOwnM
import Derived.Test.YtllohccpnglloaaDoorOwnSS
import Derived.StillTailTactics
import Derived.Test.YtllohccpnglloaaDoorEnds
import Derived.Test.YtllohccpnglloaaDoorRegInv
import Derived.Test.YtllohccpnglloaaDoorShelf
import Derived.Laws.CopyOwn
import Derived.Test.YtllohccpnglloaaDoorSegH
import Derived.Test.YtllohccpnglloaaDoorIdleP
import Derived.Test.YtllohccpnglloaaDoorDueP
import Derived.Test.YtllohccpnglloaaDoorRulP
import Derived.Test.YtllohccpnglloaaDoorBitP
import Derived.Test.YtllohccpnglloaaDoorEndsO
import Derived.Test.YtllohccpnglloaaDoorMbr
import Derived.Test.YtllohccpnglloaaDoorGood
import Derived.Test.YtllohccpnglloaaDoorMem
namespace Go.Proofs.YtllohccpnglloaaDoor
section
/-- One place of the table. -/
def cellW (T : List Int) (t : Nat) (wt : Int) (k : Nat) : List Int := if 0 ≤ T.getD (k - t) 0 then T.set k (max (T.getD k 0) (T.getD (k - t) 0 + wt)) else T
/-- The first d places, from the one at hi down. -/
def downW (T : List Int) (t : Nat) (wt : Int) (hi : Nat) : Nat → List Int
  | 0 => T
  | d + 1 => cellW (downW T t wt hi d) t wt (hi - d)
theorem cellW_len (T : List Int) (t : Nat) (wt : Int) (k : Nat) : (cellW T t wt k).length = T.length := by
  unfold cellW
  split
  · rw [List.length_set]
  · rfl
theorem downW_len (T : List Int) (t : Nat) (wt : Int) (hi : Nat) : ∀ d, (downW T t wt hi d).length = T.length
  | 0 => rfl
  | d + 1 => by
    show (cellW _ _ _ _).length = _
    rw [cellW_len, downW_len T t wt hi d]
def okT (b : Int) (T : List Int) : Prop := ∀ x ∈ T, -1 ≤ x ∧ x ≤ b
theorem okT_get {b : Int} {T : List Int} (h : okT b T) (hb : 0 ≤ b) (k : Nat) : -1 ≤ T.getD k 0 ∧ T.getD k 0 ≤ b := by
  by_cases hk : k < T.length
  · have e : T.getD k 0 = T[k] := by simp [List.getD, hk]
    rw [e]
    exact h _ (List.getElem_mem hk)
  · have e : T.getD k 0 = 0 := by simp [List.getD, List.getElem?_eq_none (show T.length ≤ k by omega)]
    rw [e]
    omega
theorem cellW_ok {b : Int} {T : List Int} (h : okT b T) (hb : 0 ≤ b) (t : Nat) {wt : Int} (hw : 0 ≤ wt ∧ wt ≤ 50) (k : Nat) : okT (b + 50) (cellW T t wt k) := by
  unfold cellW
  split
  · intro x hx
    rcases List.mem_or_eq_of_mem_set hx with hx | rfl
    · have := h x hx
      omega
    · have h1 := okT_get h hb k
      have h2 := okT_get h hb (k - t)
      omega
  · intro x hx
    have := h x hx
    omega
theorem downW_ok {b : Int} {T : List Int} (h : okT b T) (hb : 0 ≤ b) (t : Nat) {wt : Int} (hw : 0 ≤ wt ∧ wt ≤ 50) (hi : Nat) : ∀ d : Nat, okT (b + 50 * d) (downW T t wt hi d)
  | 0 => fun x hx => by have := h x hx; omega
  | d + 1 => by
    have h1 := cellW_ok (downW_ok h hb t hw hi d) (by omega) t hw (hi - d)
    intro x hx
    have := h1 x hx
    omega
/-- How many places a job's round visits. -/
def endW (j : J) (m : Nat) : Nat := min j.d.toNat m
def wayW (j : J) (m : Nat) : Nat := endW j m + 1 - j.t.toNat
/-- The table behind the first jobs of an order. -/
def tabW (js : List J) (q : List Nat) (m : Nat) : Nat → List Int
  | 0 => 0 :: List.replicate m (-1)
  | i + 1 => downW (tabW js q m i) (js.getD (q.getD i 0) j0).t.toNat (js.getD (q.getD i 0) j0).w (endW (js.getD (q.getD i 0) j0) m) (wayW (js.getD (q.getD i 0) j0) m)
theorem tabW_len (js : List J) (q : List Nat) (m : Nat) : ∀ i, (tabW js q m i).length = m + 1
  | 0 => by show (0 :: List.replicate m (-1 : Int)).length = _; simp
  | i + 1 => by
    show (downW _ _ _ _ _).length = _
    rw [downW_len, tabW_len js q m i]
theorem tabW_ok {js : List J} (hok : ∀ j ∈ js, okJ j = true) (q : List Nat) (hq : ∀ x ∈ q, x < js.length) {m : Nat} (hm : m ≤ 400) : ∀ i : Nat, i ≤ q.length → okT (50 * 401 * i) (tabW js q m i)
  | 0, _ => by
    intro x hx
    have hx' : x ∈ (0 :: List.replicate m (-1 : Int)) := hx
    rcases List.mem_cons.1 hx' with rfl | h
    · omega
    · rw [(List.mem_replicate.1 h).2]
      omega
  | i + 1, hi => by
    have hx : q.getD i 0 < js.length := by
      have e : q.getD i 0 = q[i] := by simp [List.getD, show i < q.length by omega]
      rw [e]; exact hq _ (List.getElem_mem _)
    have hj : okJ (js.getD (q.getD i 0) j0) = true := by
      have e : js.getD (q.getD i 0) j0 = js[q.getD i 0] := by rw [List.getD_eq_getElem?_getD, List.getElem?_eq_getElem hx]; rfl
      rw [e]; exact hok _ (List.getElem_mem hx)
    have hw := okJ_out hj
    have h := downW_ok (tabW_ok hok q hq hm i (by omega)) (by omega) (js.getD (q.getD i 0) j0).t.toNat (wt := (js.getD (q.getD i 0) j0).w) (by omega) (endW (js.getD (q.getD i 0) j0) m) (wayW (js.getD (q.getD i 0) j0) m)
    have hd : wayW (js.getD (q.getD i 0) j0) m ≤ 401 := by unfold wayW endW; omega
    intro x hx
    have := h x hx
    omega
open Go.RowKit
theorem l1Least_any (x y : Int) (w : World) :
    Calls Tryd.prog 31 #[.int .i64 x, .int .i64 y] w fun e w' => e = .returned (.int .i64 (min x y)) ∧ w = w' := by
  by_cases hlt : x < y
  · go_enter Tryd.func31, Tryd.ntmps31
    go_wp2
    go_ret
    exact ⟨by rw [show min x y = x by omega]; rfl, rfl⟩
  · go_enter Tryd.func31, Tryd.ntmps31
    go_wp2
    go_ret
    exact ⟨by rw [show min x y = y by omega]; rfl, rfl⟩
theorem app_one {R : Nat} {W : World} {v : Value} {n : Nat} {xs : List Value} (hown : W.ownsRow R 3 1 v n xs) (hR : R ≤ W.heap.size) (x : Int) (hn : n ≤ 1000) :
    ∃ v' W', (Builtin.append_ #[24, 24] 24 #[v, .slice (some ⟨W.heap.size, 0, none⟩) 1 1]).run Tryd.prog (W.alloc (.cells #[.int .i64 x] 3)) = .ok v' W' ∧ W'.ownsRow R 3 1 v' (n + 1) (xs ++ [.int .i64 x]) ∧ Below R W W' := by
  have hb := (Below.refl R W).alloc hR (.cells #[.int .i64 x] 3)
  have ho : (W.alloc (.cells #[.int .i64 x] 3)).ownsRow R 3 1 v n xs := own_to hown fun g _ _ hg => ((Below.refl W.heap.size W).alloc (Nat.le_refl _) _).block g hg
  obtain ⟨i, hi, hz⟩ := Option.map_eq_some_iff.1 infoI
  injection hz with hz0 hz
  injection hz with hz1 hz2
  obtain ⟨v', W', hr, h2, h3, _⟩ := append_at (P := Tryd.prog) (W.alloc (.cells #[.int .i64 x] 3)) R 24 24 3 i (.int .i64 0) 1 8 Tryd.underlying24 hi hz0 hz1 hz2 rfl (by decide) v n xs ho ⟨W.heap.size, 0, none⟩ 1 1 [.int .i64 x] rfl
    (cell_one_new W _ 3)
    (by intro u hu; simp at hu; subst hu; rfl) (by omega) (by unfold maxLen; omega) (by omega) (by simp; omega)
  exact ⟨v', W', hr, h2, app_grown (Below.refl R W) hR hown h3⟩
theorem BlockIs.awayW {w : World} {g : Nat} {t : TypeId} {cs : Array Value} (h : BlockIs w g t cs) {g' : Nat} (hne : g ≠ g') (i : Nat) (u : Value) : BlockIs (w.setCell ⟨g', i, none⟩ u) g t cs :=
  (Below.heap_setCell w ⟨g', i, none⟩ u g hne).trans h
theorem own_setI {w : World} {B g n c : Nat} {T : List Int} (h : w.ownsRow B 3 1 (.slice (some ⟨g, 0, none⟩) n c) n (ic T)) {k : Nat} (hk : k < n) : (∀ x : Int, (w.setCell ⟨g, k, none⟩ (.int .i64 x)).ownsRow B 3 1 (.slice (some ⟨g, 0, none⟩) n c) n (ic (T.set k x))) ∧ w.cell? ⟨g, k, none⟩ = some (.int .i64 (T.getD k 0)) ∧ w.frozen? ⟨g, k, none⟩ = false ∧ B ≤ g ∧ g < w.heap.size := by
  have hl : T.length = n := by have := h.1; rw [ic_len] at this; omega
  have hrow := (Row.of_own h).int (k := k) (by omega)
  obtain ⟨g', cur, hA, hg, hB, h1, h2, h3, h4⟩ := own_block h (by omega)
  injection hA with hA
  injection hA with hA
  subst hA
  obtain ⟨ad, hA, hc⟩ := hrow
  injection hA with hA
  subst hA
  rw [Addr.add_lit, Nat.zero_add] at hc
  refine ⟨fun x => ?_, by rw [hc]; simp [List.getD, show k < T.length by omega], hB.frozen k, hg, hB.lt⟩
  have h5 := (hB.set k (.int .i64 x)).own (base := B) (n := n) (c := c) (size := 1) hg (by rw [Array.size_setIfInBounds]; exact h3) h1 h2 (by rw [Array.size_setIfInBounds, h3]; omega)
  rw [Array.toList_setIfInBounds, List.take_set, h4] at h5
  have e : (ic T).set k (.int .i64 x) = ic (T.set k x) := by unfold ic; rw [List.map_set]
  rw [e] at h5
  exact h5
/-- A place of the table, told with numbers. -/
theorem cellW_yes {T : List Int} {t k : Nat} {wt : Int} (h : 0 ≤ T.getD (k - t) 0) : T.set k (max (T.getD k 0) (T.getD (k - t) 0 + wt)) = cellW T t wt k := by unfold cellW; rw [if_pos h]
theorem cellW_no {T : List Int} {t k : Nat} {wt : Int} (h : ¬ 0 ≤ T.getD (k - t) 0) : T = cellW T t wt k := by unfold cellW; rw [if_neg h]
theorem tabW_succ (js : List J) (q : List Nat) (m i : Nat) (hi : i < q.length) (hx : q[i] < js.length) : tabW js q m (i + 1) = downW (tabW js q m i) js[q[i]].t.toNat js[q[i]].w (endW js[q[i]] m) (wayW js[q[i]] m) := by
  have e1 : q.getD i 0 = q[i] := by simp [List.getD, hi]
  show downW _ (js.getD (q.getD i 0) j0).t.toNat (js.getD (q.getD i 0) j0).w (endW (js.getD (q.getD i 0) j0) m) (wayW (js.getD (q.getD i 0) j0) m) = _
  rw [e1, getD_at js j0 hx]
set_option maxRecDepth 100000 in
set_option maxHeartbeats 4000000 in
theorem l6Table_any (A : Option Addr) (c : Nat) (js : List J) (w : World) (hr : Row w A (jc js)) (hg : goodL js = true) (m : Nat) (hm : totL js = (m : Int)) (hm4 : m ≤ 400) :
    Calls Tryd.prog 17 #[.slice A js.length c] w fun e w' => ∃ v, e = .returned v ∧ w'.ownsRow w.heap.size 3 1 v (m + 1) (ic (tabW js (dueL js (List.range js.length)) m js.length)) ∧ Below w.heap.size w w' := by
  obtain ⟨h8, hok⟩ := good_out hg
  have HS0 : Hid (∀ W, Below w.heap.size w W → Calls Tryd.prog 30 #[.slice A js.length c] W fun e w' => e = .returned (.int .i64 (m : Int)) ∧ Below W.heap.size W w') := fun W hb => by
    have h := l2Sum_any A c js W (hr.below hb) hg
    rw [hm] at h
    exact h
  have HQ : Hid (∀ (B : Option Addr) (d : Nat) (w' : World), Below w.heap.size w w' → Row w' B (ic (natI (List.range js.length))) → Calls Tryd.prog 28 #[.slice A js.length c, .slice B js.length d] w' fun e w'' => ∃ v, e = .returned v ∧ w''.ownsRow w'.heap.size 3 1 v js.length (ic (natI (dueL js (List.range js.length)))) ∧ Below w'.heap.size w' w'') := fun B d w' hb hrw => by
    have h := l6Due_any A B c d js (List.range js.length) w' (hr.below hb) hrw (fun x hx => List.mem_range.1 hx) (by rw [List.length_range]; exact h8)
    rw [List.length_range] at h
    exact h
  have hql : (dueL js (List.range js.length)).length = js.length := by rw [dueL_len, List.length_range]
  have hqm : ∀ x ∈ dueL js (List.range js.length), x < js.length := fun x hx => List.mem_range.1 (dueTo_mem (by omega) hx)
  have HJ := Lib.hid (fun W (hb : Below w.heap.size w W) k (hk : k < js.length) => (hr.below hb).job hk)
  clear hr hg hm
  go_enter Tryd.func17, Tryd.ntmps17
  go_wp2_with fail
  refine (l6All_any A js.length c h8 _).mono ?_
  rintro e w2 ⟨v, rfl, hown, hb2⟩
  obtain ⟨B0, d0, rfl, _, hrow⟩ := own_slice hown
  have HC := Lib.hid (HQ.out B0 d0 w2 hb2 hrow)
  have HB2 := Lib.hid hb2
  clear hown hrow hb2 HQ
  go_wp2_with fail
  refine HC.out.mono ?_
  rintro e w1 ⟨v, rfl, hown, hb3⟩
  obtain ⟨B, dB, rfl, _, hrow⟩ := own_slice hown
  have HB1 := Lib.hid (HB2.out.trans (hb3.mono HB2.out.size))
  have HRB := Lib.hid hrow
  clear hown hb3 hrow HC HB2
  have H0 : Hid ((w1.alloc (.cells #[.int .i64 0] 3)).ownsRow w1.heap.size 3 1 (.slice (some ⟨w1.heap.size, 0, none⟩) 1 1) 1 (ic (0 :: List.replicate 0 (-1))) ∧ Below w1.heap.size w1 (w1.alloc (.cells #[.int .i64 0] 3))) := ⟨(BlockIs.new w1 3 #[.int .i64 0]).own (base := w1.heap.size) (n := 1) (c := 1) (size := 1) (Nat.le_refl _) rfl (Nat.le_refl _) (by unfold maxLen; omega) (Nat.le_refl _), (Below.refl _ _).alloc (Nat.le_refl _) _⟩
  generalize hq : dueL js (List.range js.length) = q at *
  go_wp2
  go_loopw [4, 5] (fun v i wr => ∃ k : Nat, k ≤ m ∧ i = .int .i64 (k : Int) ∧ Hid (wr.ownsRow w1.heap.size 3 1 v (k + 1) (ic (0 :: List.replicate k (-1)))) ∧ Hid (Below w1.heap.size w1 wr)) (fun _ i _ => m - (intOf i).toNat)
  case atStart => exact ⟨0, Nat.zero_le _, rfl, H0.out.1, H0.out.2⟩
  case round =>
    obtain ⟨k, hk, rfl, hown, hb⟩ := hrel
    clear H0
    have HSM := Lib.hid (HS0.out wr (HB1.out.trans (hb.out.mono HB1.out.size)))
    obtain ⟨Av, cv, rfl, hnc, _⟩ := own_slice hown.out
    go_wp2_with fail
    refine HSM.out.mono ?_
    rintro e w3 ⟨rfl, hb3⟩
    have HO3 := Lib.hid (own_below hown.out hb3)
    have HB3 := Lib.hid (hb.out.trans (hb3.mono hb.out.size))
    clear hown hb hb3 HSM
    by_cases hlt : k < m
    · obtain ⟨v', W', hr, ho, hbb⟩ := app_one HO3.out HB3.out.size (-1) (by omega)
      rw [ic_snoc, show (0 :: List.replicate k (-1 : Int)) ++ [-1] = 0 :: List.replicate (k + 1) (-1) by rw [List.replicate_succ']; rfl] at ho
      have HX := Lib.hid (And.intro ho (HB3.out.trans hbb))
      have HRUN := Lib.hid hr
      obtain ⟨Av', cv', rfl, _⟩ := own_slice ho
      clear hr ho hbb HO3 HB3
      go_wp2_with (at_builtin; refine wpList_appL rfl _ _ _ rfl _ _ _ rfl rfl HRUN.out ?_; clear HRUN)
      go_roundw
      case rel => exact ⟨k + 1, by omega, by go_num, HX.out.1, HX.out.2⟩
      case measure => simp [intOf]; omega
    · obtain rfl : k = m := by omega
      have hnew := HO3.out
      obtain ⟨g, cur, hAv, _, _, _, _, _, _⟩ := own_block hnew (by omega)
      subst hAv
      have HT0 : Hid (w3.ownsRow w1.heap.size 3 1 (.slice (some ⟨g, 0, none⟩) (k + 1) cv) (k + 1) (ic (tabW js q k 0))) := hnew
      clear hnew HO3 HS0
      go_wp2
      go_loopw [6] (fun iv wr => ∃ i : Nat, i ≤ js.length ∧ iv = .int .i64 (i : Int) ∧ Hid (wr.ownsRow w1.heap.size 3 1 (.slice (some ⟨g, 0, none⟩) (k + 1) cv) (k + 1) (ic (tabW js q k i))) ∧ Hid (Below w1.heap.size w1 wr)) (fun iv _ => js.length - (intOf iv).toNat)
      case atStart => exact ⟨0, Nat.zero_le _, rfl, HT0, HB3⟩
      case round =>
        obtain ⟨i, hi, rfl, hT, hb⟩ := hrel
        clear HT0 HB3
        by_cases hlt : i < js.length
        · have hiq : i < q.length := by omega
          have hqi : q[i] < js.length := hqm _ (List.getElem_mem hiq)
          obtain ⟨bd, hB, hqc⟩ := (HRB.out.below hb.out).nat hiq
          subst hB
          have hbw : Below w.heap.size w wr := HB1.out.trans (hb.out.mono HB1.out.size)
          obtain ⟨ad, hA, hadb, a0, a1, a2, a3⟩ := HJ.out wr hbw _ hqi
          subst hA
          have hoj := hok _ (List.getElem_mem hqi)
          have HSUC := Lib.hid (tabW_succ js q k i hiq hqi)
          have HTO := Lib.hid (tabW_ok hok q (by exact hqm) hm4 i (by omega))
          have HTL := Lib.hid (tabW_len js q k i)
          generalize q[i] = x at *
          generalize tabW js q k i = T0 at *
          generalize js[x] = j at *
          obtain ⟨t0, t1, w0, w1', _, _, dd0, dd1⟩ := okJ_out hoj
          obtain ⟨wo, rfl⟩ : ∃ wo : World, wo = wr := ⟨_, rfl⟩
          have hbo : Below w1.heap.size w1 (wo.alloc (.cells #[.int .i64 j.t, .int .i64 j.w, .int .i64 j.r, .int .i64 j.d] 39)) := hb.out.alloc hb.out.size _
          have HO := Lib.hid (And.intro (own_below hT.out ((Below.refl wo.heap.size wo).alloc (Nat.le_refl _) (.cells #[.int .i64 j.t, .int .i64 j.w, .int .i64 j.r, .int .i64 j.d] 39))) (And.intro (BlockIs.new wo 39 #[.int .i64 j.t, .int .i64 j.w, .int .i64 j.r, .int .i64 j.d]) hbo))
          have hi0 : (0 : Int) ≤ i := by omega
          have hi1 : (i : Int) < js.length := by omega
          have hx0 : (0 : Int) ≤ x := by omega
          have hx1 : (x : Int) < js.length := by omega
          obtain ⟨hh, hhe⟩ : ∃ hh : Nat, hh = endW j k := ⟨_, rfl⟩
          have hmin : min j.d ((k : Int)) = (hh : Int) := by rw [hhe]; unfold endW; omega
          have hhk : hh ≤ k := by rw [hhe]; unfold endW; omega
          have hway : wayW j k = hh + 1 - j.t.toNat := by rw [hhe]; rfl
          rw [hway, ← hhe] at HSUC
          have hgo : g < wo.heap.size := (own_setI hT.out (k := 0) (by omega)).2.2.2.2
          clear hbo hT hb hbw hok hqm hoj hway hhe HJ
          generalize j.d = dd at *
          generalize j.r = rr at *
          generalize j.w = wt at *
          generalize j.t = tt at *
          obtain ⟨t, rfl⟩ : ∃ t : Nat, tt = (t : Int) := ⟨tt.toNat, by omega⟩
          rw [Int.toNat_natCast] at HSUC
          go_wp2_with fail
          refine (l1Least_any _ _ _).mono ?_
          rintro e _ ⟨rfl, rfl⟩
          rw [hmin]
          clear hmin
          go_wp2
          go_loopw [8] (fun kv wi => ∃ d p : Nat, d + p = hh ∧ d ≤ hh + 1 - t ∧ kv = .int .i64 (p : Int) ∧ Hid (wi.ownsRow w1.heap.size 3 1 (.slice (some ⟨g, 0, none⟩) (k + 1) cv) (k + 1) (ic (downW T0 t wt hh d))) ∧ Hid (BlockIs wi wo.heap.size 39 #[.int .i64 (t : Int), .int .i64 wt, .int .i64 rr, .int .i64 dd] ∧ Below w1.heap.size w1 wi)) (fun kv _ => (intOf kv).toNat)
          case atStart => exact ⟨0, hh, by omega, by omega, rfl, HO.out.1, HO.out.2⟩
          case round =>
            obtain ⟨d, p, hdp, hd, rfl, hT, hbb⟩ := hrel
            clear HO
            obtain ⟨f0, f1, f2, f3⟩ : wr.cell? ⟨wo.heap.size, 0, none⟩ = some (.int .i64 (t : Int)) ∧ wr.cell? ⟨wo.heap.size, 1, none⟩ = some (.int .i64 wt) ∧ wr.cell? ⟨wo.heap.size, 2, none⟩ = some (.int .i64 rr) ∧ wr.cell? ⟨wo.heap.size, 3, none⟩ = some (.int .i64 dd) := ⟨hbb.out.1.cell 0, hbb.out.1.cell 1, hbb.out.1.cell 2, hbb.out.1.cell 3⟩
            by_cases hlp : t ≤ p
            · obtain ⟨e, he⟩ : ∃ e : Nat, e + t = p := ⟨p - t, by omega⟩
              have hTb := downW_ok HTO.out (by omega) t ⟨w0, w1'⟩ hh d
              have hb1 := okT_get hTb (by omega) p
              have hb2 := okT_get hTb (by omega) e
              obtain ⟨hset, hcp, hfp, hgb, hgl⟩ := own_setI hT.out (k := p) (by omega)
              obtain ⟨_, hce, _, _, _⟩ := own_setI hT.out (k := e) (by omega)
              have HD : Hid (downW T0 t wt hh (d + 1) = cellW (downW T0 t wt hh d) t wt p) := by show cellW _ t wt (hh - d) = _; rw [show hh - d = p by omega]
              have hpe : p - t = e := by omega
              have hpi : (p : Int) - (t : Int) = (e : Int) := by omega
              have hp0 : (0 : Int) ≤ p := by omega
              have hp1 : (p : Int) < (k : Int) + 1 := by omega
              have he0 : (0 : Int) ≤ e := by omega
              have hwe := IntWalk.i64_in (e : Int) (by omega)
              have he1 : (e : Int) < (k : Int) + 1 := by omega
              have hlp' : decide ((t : Int) ≤ (p : Int)) = true := decide_eq_true (by omega)
              by_cases hy : 0 ≤ (downW T0 t wt hh d).getD e 0
              · have HN := Lib.hid (hset (max ((downW T0 t wt hh d).getD p 0) ((downW T0 t wt hh d).getD e 0 + wt)))
                have hyes := cellW_yes (T := downW T0 t wt hh d) (t := t) (k := p) (wt := wt) (by rw [hpe]; exact hy)
                rw [hpe] at hyes
                rw [hyes, ← HD.out] at HN
                have HBN := Lib.hid (And.intro (BlockIs.awayW hbb.out.1 (g' := g) (by omega) p (.int .i64 (max ((downW T0 t wt hh d).getD p 0) ((downW T0 t wt hh d).getD e 0 + wt)))) (hbb.out.2.setCell (p := ⟨g, p, none⟩) hgb (.int .i64 (max ((downW T0 t wt hh d).getD p 0) ((downW T0 t wt hh d).getD e 0 + wt)))))
                clear hset hyes HD hT hTb hbb HTO HSUC
                generalize (downW T0 t wt hh d).getD p 0 = vp at *
                generalize (downW T0 t wt hh d).getD e 0 = ve at *
                have hwv := IntWalk.i64_in (ve + wt) (by omega)
                generalize hmx : max vp (ve + wt) = mx at *
                have HM := Lib.hid hmx
                clear hmx
                have hy' : decide (0 ≤ ve) = true := decide_eq_true hy
                go_wp2
                go_still_tail 18, (by kernel_rfl)
                still_call (l1Most_still _ _ _ HM.out _)
                repeat still_step
                refine wpStill_nil ?_
                change wpList _ _ _ _ _ wr.drew
                go_wp2
                go_roundw
                case rel => exact ⟨d + 1, p - 1, by omega, by omega, by go_num, own_below HN.out (Below.refl _ _).drew, ⟨HBN.out.1.drew, HBN.out.2.drew⟩⟩
                case measure => simp [intOf]; omega
              · have hno := cellW_no (T := downW T0 t wt hh d) (t := t) (k := p) (wt := wt) (by rw [hpe]; exact hy)
                have HN : Hid (wr.ownsRow w1.heap.size 3 1 (.slice (some ⟨g, 0, none⟩) (k + 1) cv) (k + 1) (ic (downW T0 t wt hh (d + 1)))) := by
                  show World.ownsRow _ _ _ _ _ _ _
                  rw [HD.out, ← hno]; exact hT.out
                clear hset hno HD hT hTb HTO HSUC
                generalize (downW T0 t wt hh d).getD p 0 = vp at *
                generalize (downW T0 t wt hh d).getD e 0 = ve at *
                have hy' : decide (0 ≤ ve) = false := decide_eq_false hy
                go_wp2
                go_roundw
                case rel => exact ⟨d + 1, p - 1, by omega, by omega, by go_num, HN.out, hbb.out⟩
                case measure => simp [intOf]; omega
            · have hlp' : decide ((t : Int) ≤ (p : Int)) = false := decide_eq_false (by omega)
              have hde : d = hh + 1 - t := by omega
              have HN : Hid (wr.ownsRow w1.heap.size 3 1 (.slice (some ⟨g, 0, none⟩) (k + 1) cv) (k + 1) (ic (tabW js q k (i + 1)))) := by
                show World.ownsRow _ _ _ _ _ _ _
                rw [HSUC.out, ← hde]; exact hT.out
              clear hT HSUC HTO hde
              go_wp2
              go_roundw
              case rel => exact ⟨i + 1, by omega, by go_num, HN.out, hbb.out.2⟩
              case measure => simp [intOf]; omega
        · obtain rfl : i = js.length := by omega
          have HX := Lib.hid (And.intro (own_lower hT.out HB1.out.size) (HB1.out.trans (hb.out.mono HB1.out.size)))
          clear hT hb HJ HRB
          go_wp2
          go_ret
          exact ⟨.slice (some ⟨g, 0, none⟩) (k + 1) cv, rfl, by rw [hq]; exact HX.out.1, HX.out.2⟩
def repW (n m : Nat) : List Int := List.replicate n (-1) ++ List.replicate (m - n) 0
theorem repW_len {n m : Nat} (h : n ≤ m) : (repW n m).length = m := by unfold repW; simp; omega
theorem repW_splice {n m k : Nat} (h : n + k ≤ m) : splice (ic (repW n m)) n (ic (List.replicate k (-1))) = ic (repW (n + k) m) := by
  unfold splice ic repW
  simp only [List.map_append, List.map_replicate, List.length_replicate]
  rw [List.take_append_of_le_length (by simp), List.take_of_length_le (by simp), List.drop_append, List.drop_of_length_le (by simp), List.nil_append, List.length_replicate, List.drop_replicate]
  simp only [← List.append_assoc, List.replicate_append_replicate]
  rw [show m - n - (n + k - n) = m - (n + k) by omega]
theorem repW_zero (m : Nat) : List.replicate m (0 : Int) = repW 0 m := by unfold repW; simp
theorem repW_all (m : Nat) : repW m m = List.replicate m (-1) := by unfold repW; simp
theorem repW_src {w : World} {g n m : Nat} (hB : BlockIs w g 3 (ic (repW n m)).toArray) (k : Nat) (hk : k ≤ n) : ∀ j v, (ic (List.replicate k (-1 : Int)))[j]? = some v → w.cell? ((⟨g, 0, none⟩ : Addr).add j) = some v := by
  intro j v hj
  rw [Addr.add_lit, Nat.zero_add, hB.cell j, List.getElem?_toArray]
  have hjk : j < k := by
    have := (List.getElem?_eq_some_iff.1 hj).1
    rw [ic_len] at this
    simpa using this
  unfold ic repW at *
  rw [List.map_append, List.getElem?_append_left (by simp; omega)]
  rw [← hj]
  simp [hjk, show j < n by omega]
theorem rep_one {k : Nat} : ∀ v ∈ ic (List.replicate k (-1 : Int)), v.oneCell' = true := by
  intro v hv
  unfold ic at hv
  rw [List.map_replicate] at hv
  rw [(List.mem_replicate.1 hv).2]
  rfl
theorem keepL7 {L : Array Bool} {i : Nat} {p q : Prop} (hi : i ≠ 7) (h : (L.getD 7 true = false → p) ∧ (L.getD 7 true = true → q)) : ((L.setIfInBounds i true).getD 7 true = false → p) ∧ ((L.setIfInBounds i true).getD 7 true = true → q) := by
  rw [getD_set_true, if_neg (fun h => hi h.1)]; exact h
theorem setL7 {L : Array Bool} {p q : Prop} (hs : L.size = 10) (h : q) : ((L.setIfInBounds 7 true).getD 7 true = false → p) ∧ ((L.setIfInBounds 7 true).getD 7 true = true → q) := by
  rw [getD_set_true, if_pos ⟨rfl, by rw [hs]; decide⟩]
  exact ⟨fun h => (by cases h), fun _ => h⟩
theorem infoI1 : (Tryd.prog.info? 3).map (·.size) = some 1 := by kernel_rfl
set_option maxRecDepth 100000 in
set_option maxHeartbeats 4000000 in
theorem repeat_any (A : Addr) (cA m : Nat) (w : World) (hx : w.cell? A = some (.int .i64 (-1))) (hAb : A.block < w.heap.size) (hm1 : 1 ≤ m) (hm : m ≤ 1000) :
    Calls Tryd.prog 35 #[.slice (some A) 1 cA, .int .i64 (m : Int)] w fun e w' => ∃ g, e = .returned (.slice (some ⟨g, 0, none⟩) m m) ∧ w.heap.size ≤ g ∧ BlockIs w' g 3 (ic (List.replicate m (-1))).toArray ∧ Below w.heap.size w w' := by
  have HMUL : Hid (∀ W : World, Calls Tryd.prog 45 #[.int .u64 1, .int .u64 (m : Int)] W fun e w' => e = .returned (.tuple #[.int .u64 0, .int .u64 (m : Int)]) ∧ w' = W) := fun W => by
    have h := Tryd.bits_Mul 1 m (by omega) (by omega) W
    rw [show 1 * m / 18446744073709551616 = 0 by omega, show 1 * m % 18446744073709551616 = m by omega] at h
    exact h
  have hmk := run_make_row' (P := Tryd.prog) 24 3 (.int .i64 0) 8 Tryd.underlying24 infoI rfl .i64 .i64 m (by omega) (by omega)
  have hm0 : ¬ (m : Int) < 0 := by omega
  have hm9 : ¬ (9223372036854775807 : Int) < m := by omega
  have hmp : (0 : Int) ≤ m := by omega
  have H1 : Hid (BlockIs (w.alloc (.cells (madeCells #[.int .i64 0] m) 3)) w.heap.size 3 (ic (repW 0 m)).toArray ∧ Below w.heap.size w (w.alloc (.cells (madeCells #[.int .i64 0] m) 3))) := ⟨by rw [← repW_zero, ← ic_made]; exact BlockIs.new _ _ _, (Below.refl _ _).alloc (Nat.le_refl _) _⟩
  have H2 : Hid ((ic (List.replicate 1 (-1 : Int))).length = Nat.min 1 m ∧ ∀ j v, (ic (List.replicate 1 (-1 : Int)))[j]? = some v → (w.alloc (.cells (madeCells #[.int .i64 0] m) 3)).cell? (A.add j) = some v) := by
    refine ⟨by show 1 = min 1 m; omega, fun j v hj => ?_⟩
    have hj0 : j = 0 := by
      have := (List.getElem?_eq_some_iff.1 hj).1
      rw [ic_len] at this
      simpa using this
    subst hj0
    have hv : some (Value.int .i64 (-1)) = some v := hj
    rw [← hv, ← hx]
    exact ((Below.refl w.heap.size w).alloc (Nat.le_refl _) _).cell hAb
  have H3 : Hid (0 + (ic (List.replicate 1 (-1 : Int))).length ≤ (ic (repW 0 m)).length) := by show _ ≤ _; rw [ic_len, ic_len, repW_len (by omega)]; simp; omega
  have HS : Hid (((ic (repW 0 m)).toArray.toList.take 0 ++ ic (List.replicate 1 (-1)) ++ (ic (repW 0 m)).toArray.toList.drop (0 + (ic (List.replicate 1 (-1 : Int))).length)) = ic (repW 1 m)) := by
    have h := repW_splice (n := 0) (m := m) (k := 1) (by omega)
    rw [Nat.zero_add] at h
    exact h
  have hcp := run_copy_row (P := Tryd.prog) (w.alloc (.cells (madeCells #[.int .i64 0] m) 3)) 24 24 3 3 w.heap.size 0 m m A 1 cA (ic (repW 0 m)).toArray 3 (ic (List.replicate 1 (-1))) Tryd.underlying24 infoI1 H1.out.1 H2.out.1 H2.out.2 (by rw [← Array.length_toList]; exact H3.out) rep_one
  rw [HS.out] at hcp
  have hB4 : BlockIs ((w.alloc (.cells (madeCells #[.int .i64 0] m) 3)).setRow w.heap.size (ic (repW 1 m)).toArray) w.heap.size 3 (ic (repW 1 m)).toArray := setRow_heap _ _ _ _ _ _ H1.out.1
  have hb4 := below_setRow H1.out.2 (Nat.le_refl _) (ic (repW 1 m)).toArray
  have H4 := Lib.hid (And.intro hB4 hb4)
  have HCP := Lib.hid hcp
  clear hx hB4 hb4 hcp H1 H2 H3 HS
  go_enter Tryd.func35, Tryd.ntmps35
  go_wp2_with fail
  refine (HMUL.out _).mono ?_
  rintro e w' ⟨rfl, hww⟩
  obtain rfl := hww.symm
  go_wp2
  rw [HCP.out]
  generalize hw4 : World.setRow _ _ _ = w4 at *
  clear hw4 HCP
  go_wp2
  rw [show (ic [-1]).length = 1 from rfl]
  go_loopw [8] (fun nv wr => ∃ n : Nat, 1 ≤ n ∧ n ≤ m ∧ nv = .int .i64 (n : Int) ∧ Hid (BlockIs wr w.heap.size 3 (ic (repW n m)).toArray) ∧ Hid (Below w.heap.size w wr)) (fun nv _ => m - (intOf nv).toNat)
  case atStart => exact ⟨1, Nat.le_refl _, hm1, rfl, H4.out.1, H4.out.2⟩
  case round =>
    obtain ⟨n, hn1, hn, rfl, hB, hb⟩ := hrel
    clear H4 hmk
    by_cases hlt : n < m
    · obtain ⟨k, hk⟩ : ∃ k, k = min n (m - n) := ⟨_, rfl⟩
      have H5 : Hid ((ic (List.replicate k (-1 : Int))).length = Nat.min n (m - n)) := by show _ = min n (m - n); rw [ic_len, List.length_replicate, hk]
      have H6 := Lib.hid (repW_src hB.out k (by omega))
      have H7 : Hid (n + (ic (List.replicate k (-1 : Int))).length ≤ (ic (repW n m)).length) := by show _ ≤ _; rw [ic_len, ic_len, repW_len (by omega)]; simp; omega
      have HS : Hid (((ic (repW n m)).toArray.toList.take n ++ ic (List.replicate k (-1)) ++ (ic (repW n m)).toArray.toList.drop (n + (ic (List.replicate k (-1 : Int))).length)) = ic (repW (n + k) m)) := by
        have h := repW_splice (n := n) (m := m) (k := k) (by omega)
        unfold splice at h
        show _ = _
        rw [List.append_assoc]
        exact h
      have hcp := run_copy_row (P := Tryd.prog) (ty := 3) wr.drew 24 24 3 w.heap.size n (m - n) (m - n) ⟨w.heap.size, 0, none⟩ n m (ic (repW n m)).toArray 3 (ic (List.replicate k (-1))) Tryd.underlying24 infoI1 hB.out H5.out H6.out (by rw [← Array.length_toList]; exact H7.out) rep_one
      rw [HS.out] at hcp
      have hB4 : BlockIs (wr.drew.setRow w.heap.size (ic (repW (n + k) m)).toArray) w.heap.size 3 (ic (repW (n + k) m)).toArray := setRow_heap _ _ _ _ _ _ hB.out
      have hb4 := below_setRow hb.out.drew (Nat.le_refl _) (ic (repW (n + k) m)).toArray
      have H4 := Lib.hid (And.intro hB4 hb4)
      rw [show goInt (ic (List.replicate k (-1 : Int))).length = .int .i64 (k : Int) by rw [ic_len, List.length_replicate]; rfl] at hcp
      have HCP := Lib.hid hcp
      clear hB4 hb4 hcp HS H5 H6 H7 hB hb
      have hne : ¬ m = n := by omega
      have hn0 : (0 : Int) ≤ n := by omega
      have hnm : (n : Int) ≤ m := by omega
      have hnlt : (n : Int) < m := by omega
      obtain ⟨w5, hw5⟩ : ∃ w5, wr.drew.setRow w.heap.size (ic (repW (n + k) m)).toArray = w5 := ⟨_, rfl⟩
      rw [hw5] at H4 HCP
      clear hw5
      have hk1 : 1 ≤ k := by omega
      have hkm : n + k ≤ m := by omega
      have hwr := IntWalk.i64_in ((n : Int) + k) (by omega)
      have hrd : ∀ q : Prop, True := fun _ => trivial
      clear hrd
      go_wp2
      clear hk hm0 hm9
      refine wp_region_detL (by kernel_rfl) (fun L w' => (L.getD 7 true = false → w' = wr.drew) ∧ (L.getD 7 true = true → w' = w5))
        (fun kk => #[.int .i64 (n : Int), .slice (some ⟨w.heap.size, 0, none⟩) m m, .int .i64 (n : Int), .slice (some ⟨w.heap.size, n, none⟩) (m - n) (m - n), .slice (some ⟨w.heap.size, 0, none⟩) m m, .int .i64 (n : Int), .slice (some ⟨w.heap.size, 0, none⟩) n m, .int .i64 (k : Int), .int .i64 ((n : Int) + k), .int .i64 ((n : Int) + k)].getD kk undef) (by kernel_rfl) (by kernel_rfl) ⟨fun _ => rfl, fun h => by cases h⟩ ?_ ?_
      · intro L tm w' hall hS hsz hlow hval
        have ht : tm = #[.slice (some A) 1 cA, .int .i64 (m : Int), undef, undef, .slice none 0 0, .int .u64 0, .int .u64 (m : Int), .slice (some ⟨w.heap.size, 0, none⟩) m m, .int .i64 ((n : Int) + k), .int .i64 (m : Int), .bool false, undef, .tuple #[.int .u64 0, .int .u64 (m : Int)], .slice (some A) 1 cA, .int .i64 1, .int .u64 1, .int .i64 (m : Int), .int .u64 (m : Int), .tuple #[.int .u64 0, .int .u64 (m : Int)], .int .u64 0, .int .u64 (m : Int), .int .u64 0, .bool false, .bool false, .int .u64 (m : Int), .bool (decide (9223372036854775807 < (m : Int))), .bool (decide (9223372036854775807 < (m : Int))), undef, .int .u64 (m : Int), .int .i64 (m : Int), .slice (some ⟨w.heap.size, 0, none⟩) m m, .slice (some ⟨w.heap.size, 0, none⟩) m m, .slice (some A) 1 cA, .int .i64 1, .int .i64 (n : Int), .slice (some ⟨w.heap.size, 0, none⟩) m m, .int .i64 (m : Int), .bool true, .int .i64 (n : Int), .slice (some ⟨w.heap.size, 0, none⟩) m m, .int .i64 (n : Int), .slice (some ⟨w.heap.size, n, none⟩) (m - n) (m - n), .slice (some ⟨w.heap.size, 0, none⟩) m m, .int .i64 (n : Int), .slice (some ⟨w.heap.size, 0, none⟩) n m, .int .i64 (k : Int), .int .i64 ((n : Int) + k), undef] := by
          refine arr_of _ _ hsz fun t ht => ?_
          have ht' : t < 48 := ht
          rcases (by omega : t = 0 ∨ t = 1 ∨ t = 2 ∨ t = 3 ∨ t = 4 ∨ t = 5 ∨ t = 6 ∨ t = 7 ∨ t = 8 ∨ t = 9 ∨ t = 10 ∨ t = 11 ∨ t = 12 ∨ t = 13 ∨ t = 14 ∨ t = 15 ∨ t = 16 ∨ t = 17 ∨ t = 18 ∨ t = 19 ∨ t = 20 ∨ t = 21 ∨ t = 22 ∨ t = 23 ∨ t = 24 ∨ t = 25 ∨ t = 26 ∨ t = 27 ∨ t = 28 ∨ t = 29 ∨ t = 30 ∨ t = 31 ∨ t = 32 ∨ t = 33 ∨ t = 34 ∨ t = 35 ∨ t = 36 ∨ t = 37 ∨ t = 38 ∨ t = 39 ∨ t = 40 ∨ t = 41 ∨ t = 42 ∨ t = 43 ∨ t = 44 ∨ t = 45 ∨ t = 46 ∨ t = 47) with rfl | rfl | rfl | rfl | rfl | rfl | rfl | rfl | rfl | rfl | rfl | rfl | rfl | rfl | rfl | rfl | rfl | rfl | rfl | rfl | rfl | rfl | rfl | rfl | rfl | rfl | rfl | rfl | rfl | rfl | rfl | rfl | rfl | rfl | rfl | rfl | rfl | rfl | rfl | rfl | rfl | rfl | rfl | rfl | rfl | rfl | rfl | rfl
          · exact hlow 0 (by kernel_rfl)
          · exact hlow 1 (by kernel_rfl)
          · exact hlow 2 (by kernel_rfl)
          · exact hlow 3 (by kernel_rfl)
          · exact hlow 4 (by kernel_rfl)
          · exact hlow 5 (by kernel_rfl)
          · exact hlow 6 (by kernel_rfl)
          · exact hlow 7 (by kernel_rfl)
          · exact hval 9 _ 8 rfl rfl
          · exact hlow 9 (by kernel_rfl)
          · exact hlow 10 (by kernel_rfl)
          · exact hlow 11 (by kernel_rfl)
          · exact hlow 12 (by kernel_rfl)
          · exact hlow 13 (by kernel_rfl)
          · exact hlow 14 (by kernel_rfl)
          · exact hlow 15 (by kernel_rfl)
          · exact hlow 16 (by kernel_rfl)
          · exact hlow 17 (by kernel_rfl)
          · exact hlow 18 (by kernel_rfl)
          · exact hlow 19 (by kernel_rfl)
          · exact hlow 20 (by kernel_rfl)
          · exact hlow 21 (by kernel_rfl)
          · exact hlow 22 (by kernel_rfl)
          · exact hlow 23 (by kernel_rfl)
          · exact hlow 24 (by kernel_rfl)
          · exact hlow 25 (by kernel_rfl)
          · exact hlow 26 (by kernel_rfl)
          · exact hlow 27 (by kernel_rfl)
          · exact hlow 28 (by kernel_rfl)
          · exact hlow 29 (by kernel_rfl)
          · exact hlow 30 (by kernel_rfl)
          · exact hlow 31 (by kernel_rfl)
          · exact hlow 32 (by kernel_rfl)
          · exact hlow 33 (by kernel_rfl)
          · exact hlow 34 (by kernel_rfl)
          · exact hlow 35 (by kernel_rfl)
          · exact hlow 36 (by kernel_rfl)
          · exact hlow 37 (by kernel_rfl)
          · exact hval 0 _ 38 rfl rfl
          · exact hval 1 _ 39 rfl rfl
          · exact hval 2 _ 40 rfl rfl
          · exact hval 3 _ 41 rfl rfl
          · exact hval 4 _ 42 rfl rfl
          · exact hval 5 _ 43 rfl rfl
          · exact hval 6 _ 44 rfl rfl
          · exact hval 7 _ 45 rfl rfl
          · exact hval 8 _ 46 rfl rfl
          · exact hlow 47 (by kernel_rfl)
        subst ht
        clear hlow hval hsz
        obtain rfl := hS.2 (hall 7 (by decide))
        clear hS hall
        go_wp2
        go_roundw
        case rel => exact ⟨_, _, _, _, _, _, _, _, _, _, _, _, _, _, ⟨n + k, by omega, by omega, by go_num, H4.out.1, H4.out.2⟩, rfl⟩
        case measure => simp [intOf]; omega
      · intro L a w' kk op hLs ho hLi hLd hLn hS hlow hdep hold
        have hkk : kk < 10 := (Array.getElem?_eq_some_iff.1 ho).1
        have l7 : a.tmps[7]?.getD undef = .slice (some ⟨w.heap.size, 0, none⟩) m m := by rw [← Array.getD_eq_getD_getElem?]; exact hlow 7 (by kernel_rfl)
        have D : ∀ j oj d, edgeB _ kk j = true → _ → _ → a.tmps[d]?.getD undef = _ := fun j oj d h1 h2 h3 => (Array.getD_eq_getD_getElem? ..).symm.trans (hdep j oj d h1 h2 h3)
        rcases (by omega : kk = 0 ∨ kk = 1 ∨ kk = 2 ∨ kk = 3 ∨ kk = 4 ∨ kk = 5 ∨ kk = 6 ∨ kk = 7 ∨ kk = 8 ∨ kk = 9) with rfl | rfl | rfl | rfl | rfl | rfl | rfl | rfl | rfl | rfl
        · obtain rfl := Option.some.inj ho
          have l8 : a.tmps[8]?.getD undef = .int .i64 (n : Int) := (Array.getD_eq_getD_getElem? ..).symm.trans (hold 9 _ 8 (by kernel_rfl) rfl rfl)
          exact ⟨rfl, .inl ⟨w', by simp [execOp, Act.eval, l8, go_sem], keepL7 (by decide) hS⟩⟩
        · obtain rfl := Option.some.inj ho
          exact ⟨rfl, .inl ⟨w', by simp [execOp, Act.eval, l7, go_sem], keepL7 (by decide) hS⟩⟩
        · obtain rfl := Option.some.inj ho
          have l8 : a.tmps[8]?.getD undef = .int .i64 (n : Int) := (Array.getD_eq_getD_getElem? ..).symm.trans (hold 9 _ 8 (by kernel_rfl) rfl rfl)
          exact ⟨rfl, .inl ⟨w', by simp [execOp, Act.eval, l8, go_sem], keepL7 (by decide) hS⟩⟩
        · obtain rfl := Option.some.inj ho
          have e39 : a.tmps[39]?.getD undef = .slice (some ⟨w.heap.size, 0, none⟩) m m := D 1 _ 39 (by kernel_rfl) rfl rfl
          have e40 : a.tmps[40]?.getD undef = .int .i64 (n : Int) := D 2 _ 40 (by kernel_rfl) rfl rfl
          exact ⟨rfl, .inl ⟨w', by simp [execOp, Act.eval, e39, e40, hne, hn0, hnm, go_sem], keepL7 (by decide) hS⟩⟩
        · obtain rfl := Option.some.inj ho
          exact ⟨rfl, .inl ⟨w', by simp [execOp, Act.eval, l7, go_sem], keepL7 (by decide) hS⟩⟩
        · obtain rfl := Option.some.inj ho
          have l8 : a.tmps[8]?.getD undef = .int .i64 (n : Int) := (Array.getD_eq_getD_getElem? ..).symm.trans (hold 9 _ 8 (by kernel_rfl) rfl rfl)
          exact ⟨rfl, .inl ⟨w', by simp [execOp, Act.eval, l8, go_sem], keepL7 (by decide) hS⟩⟩
        · obtain rfl := Option.some.inj ho
          have e42 : a.tmps[42]?.getD undef = .slice (some ⟨w.heap.size, 0, none⟩) m m := D 4 _ 42 (by kernel_rfl) rfl rfl
          have e43 : a.tmps[43]?.getD undef = .int .i64 (n : Int) := D 5 _ 43 (by kernel_rfl) rfl rfl
          exact ⟨rfl, .inl ⟨w', by simp [execOp, Act.eval, e42, e43, hn0, hnm, go_sem], keepL7 (by decide) hS⟩⟩
        · obtain rfl := Option.some.inj ho
          have e41 : a.tmps[41]?.getD undef = .slice (some ⟨w.heap.size, n, none⟩) (m - n) (m - n) := D 3 _ 41 (by kernel_rfl) rfl rfl
          have e44 : a.tmps[44]?.getD undef = .slice (some ⟨w.heap.size, 0, none⟩) n m := D 6 _ 44 (by kernel_rfl) rfl rfl
          obtain rfl : w' = wr.drew := hS.1 hLi
          have h1 := HCP.out
          exact ⟨rfl, .inl ⟨w5, by simp [execOp, Act.eval, e41, e44, resolve, invoke, builtin, h1, Result.andThen], setL7 hLs rfl⟩⟩
        · obtain rfl := Option.some.inj ho
          have e38 : a.tmps[38]?.getD undef = .int .i64 (n : Int) := D 0 _ 38 (by kernel_rfl) rfl rfl
          have e45 : a.tmps[45]?.getD undef = .int .i64 (k : Int) := D 7 _ 45 (by kernel_rfl) rfl rfl
          exact ⟨rfl, .inl ⟨w', by simp [execOp, Act.eval, e38, e45, hwr, go_sem], keepL7 (by decide) hS⟩⟩
        · obtain rfl := Option.some.inj ho
          have e46 : a.tmps[46]?.getD undef = .int .i64 ((n : Int) + k) := D 8 _ 46 (by kernel_rfl) rfl rfl
          exact ⟨rfl, .inl ⟨w', by simp [execOp, Act.eval, e46, go_sem], keepL7 (by decide) hS⟩⟩
    · obtain rfl : n = m := by omega
      rw [repW_all] at hB
      go_wp2
      go_ret
      exact ⟨_, rfl, Nat.le_refl _, hB.out, hb.out⟩
set_option maxRecDepth 100000 in
set_option maxHeartbeats 4000000 in
theorem weightTable_any (A : Option Addr) (c : Nat) (js : List J) (w : World) (hr : Row w A (jc js)) (hok : ∀ j ∈ js, okJ j = true) (h8 : js.length ≤ 8) (m : Nat) (hm : totL js = (m : Int)) (hm4 : m ≤ 400) (hT : TzTab w) :
    Calls Tryd.prog 20 #[.slice A js.length c] w fun e w' => ∃ v, e = .returned v ∧ w'.ownsRow w.heap.size 3 1 v (m + 1) (ic (tabW js (dueL js (List.range js.length)) m js.length)) ∧ Below w.heap.size w w' := by
  have hpw := pow_lt js.length (by omega)
  have HTO : Hid (Calls Tryd.prog 34 #[.slice A js.length c, .int .u64 ((2 ^ js.length - 1 : Nat) : Int)] w fun e w' => e = .returned (.int .i64 (m : Int)) ∧ Below w.heap.size w w') := by
    have h := timeOf_any A c (2 ^ js.length - 1) js w hpw hr hok (fun k hk => all_bit (by omega) hk) hT
    rw [show timeB js (2 ^ js.length - 1) = (m : Int) by unfold timeB; rw [memB_all js.length (by omega)]; exact hm] at h
    exact h
  have HDU : Hid (∀ W, Below w.heap.size w W → Calls Tryd.prog 36 #[.slice A js.length c, .int .u64 ((2 ^ js.length - 1 : Nat) : Int)] W fun e w' => ∃ v, e = .returned v ∧ w'.ownsRow W.heap.size 3 1 v js.length (ic (natI (dueL js (List.range js.length)))) ∧ Below W.heap.size W w') := fun W hb => by
    have h := dueOrder_any A c js W (hr.below hb) hok h8 (2 ^ js.length - 1) hpw (fun k hk => all_bit (by omega) hk) (hT.below hb)
    rw [memB_all js.length (by omega), List.length_range] at h
    exact h
  have hql : (dueL js (List.range js.length)).length = js.length := by rw [dueL_len, List.length_range]
  have hqm : ∀ x ∈ dueL js (List.range js.length), x < js.length := fun x hx => List.mem_range.1 (dueTo_mem (by omega) hx)
  have HJ := Lib.hid (fun W (hb : Below w.heap.size w W) k (hk : k < js.length) => (hr.below hb).job hk)
  have HAL := Lib.hid (fun W => all_any A js.length c h8 W)
  clear hr hm hT
  generalize hq : dueL js (List.range js.length) = q at *
  generalize 2 ^ js.length - 1 = sx at *
  go_enter Tryd.func20, Tryd.ntmps20
  go_wp2_with fail
  refine (HAL.out _).mono ?_
  rintro e _ ⟨rfl, rfl⟩
  go_wp2_with fail
  refine HTO.out.mono ?_
  rintro e w1 ⟨rfl, hb1⟩
  have HRE : Hid (Calls Tryd.prog 35 #[.slice (some ⟨w1.heap.size, 0, none⟩) 1 1, .int .i64 ((m : Int) + 1)] (w1.alloc (.cells #[.int .i64 (-1)] 3)) fun e w' => ∃ g, e = .returned (.slice (some ⟨g, 0, none⟩) (m + 1) (m + 1)) ∧ w1.heap.size ≤ g ∧ BlockIs w' g 3 (ic ((-1) :: List.replicate m (-1))).toArray ∧ Below w1.heap.size w1 w') := by
    have h := repeat_any ⟨w1.heap.size, 0, none⟩ 1 (m + 1) (w1.alloc (.cells #[.int .i64 (-1)] 3)) ((BlockIs.new w1 3 #[.int .i64 (-1)]).cell 0) (by simp) (by omega) (by omega)
    rw [show ((m + 1 : Nat) : Int) = (m : Int) + 1 by omega] at h
    refine h.mono ?_
    rintro e w' ⟨g, rfl, h1, h2, h3⟩
    have hs1 : (w1.alloc (.cells #[.int .i64 (-1)] 3)).heap.size = w1.heap.size + 1 := by simp
    exact ⟨g, rfl, by omega, by rw [List.replicate_succ] at h2; exact h2, ((Below.refl w1.heap.size w1).alloc (Nat.le_refl _) _).trans (h3.mono (by omega))⟩
  have HB1 := Lib.hid hb1
  clear hb1 HTO
  go_wp2_with fail
  refine HRE.out.mono ?_
  rintro e w2 ⟨g, rfl, hg, hB2, hb2⟩
  have hgw : w.heap.size ≤ g := Nat.le_trans HB1.out.size hg
  have hf2 := hB2.frozen 0
  have hc2 := hB2.cell 0
  have hB3 := hB2.set 0 (.int .i64 0)
  rw [ic_set, show ((-1 : Int) :: List.replicate m (-1)).set 0 0 = 0 :: List.replicate m (-1) from rfl] at hB3
  have H3 := Lib.hid (And.intro hB3 ((HB1.out.trans (hb2.mono HB1.out.size)).setCell (p := ⟨g, 0, none⟩) hgw (.int .i64 0)))
  have hc2' : w2.cell? ⟨g, 0, none⟩ = some (.int .i64 (-1)) := hc2
  have hm00 : (0 : Int) < (m : Int) + 1 := by omega
  clear hB2 hB3 hb2 hc2 HRE HB1
  go_wp2_with fail
  refine (HAL.out _).mono ?_
  rintro e _ ⟨rfl, rfl⟩
  generalize hw3 : w2.setCell ⟨g, 0, none⟩ (.int .i64 0) = w3 at *
  clear hw3 hf2 hc2' hg
  have HD := Lib.hid (HDU.out w3 H3.out.2)
  clear HDU HAL
  go_wp2_with fail
  refine HD.out.mono ?_
  rintro e w4 ⟨v, rfl, hown, hb4⟩
  obtain ⟨B, d0, rfl, _, _⟩ := own_slice hown
  have HQ4 : Hid (w4.ownsRow w3.heap.size 3 1 (.slice B js.length d0) js.length (ic (natI q))) := hown
  have H4 : Hid (BlockIs w4 g 3 (ic (tabW js q m 0)).toArray ∧ Below w.heap.size w w4) := ⟨H3.out.1.below hb4, H3.out.2.trans (hb4.mono H3.out.2.size)⟩
  have hg3 : g < w3.heap.size := H3.out.1.lt
  clear hown hb4 H3 HD
  go_wp2
  go_loopw [25] (fun iv wr => ∃ i : Nat, i ≤ js.length ∧ iv = .int .i64 (i : Int) ∧ Hid (wr.ownsRow w3.heap.size 3 1 (.slice B js.length d0) js.length (ic (natI q))) ∧ Hid (BlockIs wr g 3 (ic (tabW js q m i)).toArray ∧ Below w.heap.size w wr)) (fun iv _ => js.length - (intOf iv).toNat)
  case atStart => exact ⟨0, Nat.zero_le _, rfl, HQ4, H4⟩
  case round =>
    obtain ⟨i, hi, rfl, hQ, hT⟩ := hrel
    clear HQ4 H4
    by_cases hlt : i < js.length
    · have hiq : i < q.length := by omega
      have hqi : q[i] < js.length := hqm _ (List.getElem_mem hiq)
      obtain ⟨bd, hB, hqc⟩ := (Row.of_own hQ.out).nat hiq
      subst hB
      obtain ⟨ad, hA, hadb, a0, a1, a2, a3⟩ := HJ.out wr hT.out.2 _ hqi
      subst hA
      have hoj := hok _ (List.getElem_mem hqi)
      have HSUC := Lib.hid (tabW_succ js q m i hiq hqi)
      have HTO := Lib.hid (tabW_ok hok q (by exact hqm) hm4 i (by omega))
      have HTL := Lib.hid (tabW_len js q m i)
      generalize q[i] = x at *
      generalize tabW js q m i = T0 at *
      generalize js[x] = j at *
      obtain ⟨t0, t1, w0, w1', _, _, dd0, dd1⟩ := okJ_out hoj
      obtain ⟨wo, rfl⟩ : ∃ wo : World, wo = wr := ⟨_, rfl⟩
      have hal := (Below.refl wo.heap.size wo).alloc (Nat.le_refl _) (.cells #[.int .i64 j.t, .int .i64 j.w, .int .i64 j.r, .int .i64 j.d] 39)
      have hg4 : g < wo.heap.size := hT.out.1.lt
      have HO := Lib.hid (And.intro (own_below hQ.out hal) (And.intro (BlockIs.new wo 39 #[.int .i64 j.t, .int .i64 j.w, .int .i64 j.r, .int .i64 j.d]) (And.intro (hT.out.1.below hal) (hT.out.2.trans (hal.mono hT.out.2.size)))))
      have hz3 : w3.heap.size ≤ wo.heap.size ∨ True := .inr trivial
      clear hz3 hal
      have hi0 : (0 : Int) ≤ i := by omega
      have hi1 : (i : Int) < js.length := by omega
      have hx0 : (0 : Int) ≤ x := by omega
      have hx1 : (x : Int) < js.length := by omega
      obtain ⟨hh, hhe⟩ : ∃ hh : Nat, hh = endW j m := ⟨_, rfl⟩
      have hmin : min j.d ((m : Int)) = (hh : Int) := by rw [hhe]; unfold endW; omega
      have hhk : hh ≤ m := by rw [hhe]; unfold endW; omega
      have hway : wayW j m = hh + 1 - j.t.toNat := by rw [hhe]; rfl
      rw [hway, ← hhe] at HSUC
      clear hT hQ hok hqm hoj hway hhe HJ
      generalize j.d = dd at *
      generalize j.r = rr at *
      generalize j.w = wt at *
      generalize j.t = tt at *
      obtain ⟨t, rfl⟩ : ∃ t : Nat, tt = (t : Int) := ⟨tt.toNat, by omega⟩
      rw [Int.toNat_natCast] at HSUC
      go_wp2
      go_loopw [8] (fun kv wi => ∃ d p : Nat, d + p = hh ∧ d ≤ hh + 1 - t ∧ kv = .int .i64 (p : Int) ∧ Hid (wi.ownsRow w3.heap.size 3 1 (.slice (some bd) js.length d0) js.length (ic (natI q))) ∧ Hid (BlockIs wi wo.heap.size 39 #[.int .i64 (t : Int), .int .i64 wt, .int .i64 rr, .int .i64 dd] ∧ BlockIs wi g 3 (ic (downW T0 t wt hh d)).toArray ∧ Below w.heap.size w wi)) (fun kv _ => (intOf kv).toNat)
      case atStart => exact ⟨0, hh, by omega, by omega, by rw [← hmin], HO.out.1, HO.out.2⟩
      case round =>
        obtain ⟨d, p, hdp, hd, rfl, hQ, hbb⟩ := hrel
        clear HO
        obtain ⟨f0, f1, f2, f3⟩ : wr.cell? ⟨wo.heap.size, 0, none⟩ = some (.int .i64 (t : Int)) ∧ wr.cell? ⟨wo.heap.size, 1, none⟩ = some (.int .i64 wt) ∧ wr.cell? ⟨wo.heap.size, 2, none⟩ = some (.int .i64 rr) ∧ wr.cell? ⟨wo.heap.size, 3, none⟩ = some (.int .i64 dd) := ⟨hbb.out.1.cell 0, hbb.out.1.cell 1, hbb.out.1.cell 2, hbb.out.1.cell 3⟩
        have hLD : (downW T0 t wt hh d).length = m + 1 := by rw [downW_len]; exact HTL.out
        by_cases hlp : t ≤ p
        · obtain ⟨e, he⟩ : ∃ e : Nat, e + t = p := ⟨p - t, by omega⟩
          have hTb := downW_ok HTO.out (by omega) t ⟨w0, w1'⟩ hh d
          have hb1 := okT_get hTb (by omega) p
          have hb2 := okT_get hTb (by omega) e
          have hcp : wr.cell? ⟨g, p, none⟩ = some (.int .i64 ((downW T0 t wt hh d).getD p 0)) := by
            rw [hbb.out.2.1.int (k := p) (by omega)]; simp [List.getD, show p < (downW T0 t wt hh d).length by omega]
          have hce : wr.cell? ⟨g, e, none⟩ = some (.int .i64 ((downW T0 t wt hh d).getD e 0)) := by
            rw [hbb.out.2.1.int (k := e) (by omega)]; simp [List.getD, show e < (downW T0 t wt hh d).length by omega]
          have hfp := hbb.out.2.1.frozen p
          have HD : Hid (downW T0 t wt hh (d + 1) = cellW (downW T0 t wt hh d) t wt p) := by show cellW _ t wt (hh - d) = _; rw [show hh - d = p by omega]
          have hpe : p - t = e := by omega
          have hpi : (p : Int) - (t : Int) = (e : Int) := by omega
          have hp0 : (0 : Int) ≤ p := by omega
          have hp1 : (p : Int) < (m : Int) + 1 := by omega
          have he0 : (0 : Int) ≤ e := by omega
          have hwe := IntWalk.i64_in (e : Int) (by omega)
          have he1 : (e : Int) < (m : Int) + 1 := by omega
          have hlp' : decide ((t : Int) ≤ (p : Int)) = true := decide_eq_true (by omega)
          by_cases hy : 0 ≤ (downW T0 t wt hh d).getD e 0
          · have HN := Lib.hid (hbb.out.2.1.set p (.int .i64 (max ((downW T0 t wt hh d).getD p 0) ((downW T0 t wt hh d).getD e 0 + wt))))
            have hyes := cellW_yes (T := downW T0 t wt hh d) (t := t) (k := p) (wt := wt) (by rw [hpe]; exact hy)
            rw [hpe] at hyes
            rw [ic_set, hyes, ← HD.out] at HN
            have HBN := Lib.hid (And.intro (BlockIs.awayW hbb.out.1 (g' := g) (by omega) p (.int .i64 (max ((downW T0 t wt hh d).getD p 0) ((downW T0 t wt hh d).getD e 0 + wt)))) (hbb.out.2.2.setCell (p := ⟨g, p, none⟩) hgw (.int .i64 (max ((downW T0 t wt hh d).getD p 0) ((downW T0 t wt hh d).getD e 0 + wt)))))
            have HQN := Lib.hid (ownsRow_setCell_below hQ.out (a := ⟨g, p, none⟩) hg3 (.int .i64 (max ((downW T0 t wt hh d).getD p 0) ((downW T0 t wt hh d).getD e 0 + wt))))
            clear hyes HD hTb hbb HTO HSUC hLD hQ HTL
            generalize (downW T0 t wt hh d).getD p 0 = vp at *
            generalize (downW T0 t wt hh d).getD e 0 = ve at *
            have hwv := IntWalk.i64_in (ve + wt) (by omega)
            have hy' : decide (0 ≤ ve) = true := decide_eq_true hy
            have hyn : ¬ ve = -1 := by omega
            have hyb : (ve != -1) = true := by simp [hyn]
            go_wp2
            go_still_tail 12, (by kernel_rfl)
            change wpList _ _ _ _ _ wr.drew
            go_wp2
            go_roundw
            case rel => exact ⟨d + 1, p - 1, by omega, by omega, by go_num, own_below HQN.out (Below.refl _ _).drew, ⟨HBN.out.1.drew, HN.out.drew, HBN.out.2.drew⟩⟩
            case measure => simp [intOf]; omega
          · have hno := cellW_no (T := downW T0 t wt hh d) (t := t) (k := p) (wt := wt) (by rw [hpe]; exact hy)
            have HN : Hid (BlockIs wr g 3 (ic (downW T0 t wt hh (d + 1))).toArray) := by
              show BlockIs _ _ _ _
              rw [HD.out, ← hno]; exact hbb.out.2.1
            clear hno HD hTb HTO HSUC hLD HTL
            generalize (downW T0 t wt hh d).getD p 0 = vp at *
            generalize (downW T0 t wt hh d).getD e 0 = ve at *
            obtain rfl : ve = -1 := by omega
            go_wp2
            go_roundw
            case rel => exact ⟨d + 1, p - 1, by omega, by omega, by go_num, hQ, ⟨hbb.out.1, HN.out, hbb.out.2.2⟩⟩
            case measure => simp [intOf]; omega
        · have hlp' : decide ((t : Int) ≤ (p : Int)) = false := decide_eq_false (by omega)
          have hde : d = hh + 1 - t := by omega
          have HN : Hid (BlockIs wr g 3 (ic (tabW js q m (i + 1))).toArray) := by
            show BlockIs _ _ _ _
            rw [HSUC.out, ← hde]; exact hbb.out.2.1
          clear HSUC HTO hde hLD HTL
          go_wp2
          go_roundw
          case rel => exact ⟨i + 1, by omega, by go_num, hQ, ⟨HN.out, hbb.out.2.2⟩⟩
          case measure => simp [intOf]; omega
    · obtain rfl : i = js.length := by omega
      have hown := hT.out.1.own (base := w.heap.size) (n := m + 1) (c := m + 1) (size := 1) hgw (by rw [List.size_toArray, ic_len, tabW_len, Nat.mul_one]) (Nat.le_refl _) (by unfold maxLen; omega) (by rw [List.size_toArray, ic_len, tabW_len]; omega)
      rw [List.toList_toArray, List.take_of_length_le (by rw [ic_len, tabW_len]; omega)] at hown
      have HX := Lib.hid (And.intro hown hT.out.2)
      clear hT hQ hown HJ
      go_wp2
      go_ret
      exact ⟨.slice (some ⟨g, 0, none⟩) (m + 1) (m + 1), rfl, HX.out.1, HX.out.2⟩
theorem ret_ownW {w w' : World} {r : List Int × Bool} {xs : List Int} {v : Value} {n : Nat} {b : Bool} (hr : r = (xs, b)) (hn : xs.length = n) (ho : w'.ownsRow w.heap.size 3 1 v n (ic xs)) (hb : Below w.heap.size w w') (e : Ending) (he : e = .returned (.tuple #[v, .bool b])) : RetIB w r e w' := by
  subst hr hn
  obtain ⟨A, c, rfl, hs⟩ := seg_out ho
  subst he
  exact ⟨A, c, rfl, hs, hb⟩
def wtR (js : List J) : List Int × Bool := if plainL js then (tabW js (dueL js (List.range js.length)) (totL js).toNat js.length, true) else ([], false)
theorem tot_bd {js : List J} (h : goodL js = true) : totL js = ((totL js).toNat : Int) ∧ (totL js).toNat ≤ 400 := by
  obtain ⟨h8, hok⟩ := good_out h
  have h1 := sumT_bd hok (List.range js.length) (fun k hk => List.mem_range.1 hk)
  rw [List.length_range] at h1
  unfold totL
  omega
theorem wtR_len (js : List J) : (wtR js).1.length ≤ 401 := by
  unfold wtR
  split
  · rename_i h
    have h4 := (tot_bd (plain_good h)).2
    show (tabW _ _ _ _).length ≤ 401
    rw [tabW_len]; omega
  · exact Nat.zero_le _
section
variable (A : Option Addr) (c : Nat) (js : List J) (w : World) (hr : Row w A (jc js)) (hn : js.length ≤ 10000000)
include hr hn
set_option maxRecDepth 100000 in
theorem spec_WeightTable : Calls Tryd.prog 6 #[.slice A js.length c] w (RetIB w (wtR js)) := by
  cases hp : plainL js
  · have HR : Hid (wtR js = ([], false)) := by show _ = _; unfold wtR; rw [hp]; rfl
    go_enter Tryd.func6, Tryd.ntmps6
    go_wp2_with fail
    refine (l6Good_any A c js _ hr (by omega)).mono ?_
    rintro e w1 ⟨rfl, hb1⟩
    rw [hp]
    go_wp2
    go_ret2
    exact ret_empty HR.out hb1 _ rfl
  · have HR : Hid (wtR js = (tabW js (dueL js (List.range js.length)) (totL js).toNat js.length, true)) := by show _ = _; unfold wtR; rw [hp]; rfl
    have hg := plain_good hp
    obtain ⟨hm, hm4⟩ := tot_bd hg
    have HT : Hid (∀ W, Below w.heap.size w W → Calls Tryd.prog 17 #[.slice A js.length c] W fun e w' => ∃ v, e = .returned v ∧ w'.ownsRow W.heap.size 3 1 v ((totL js).toNat + 1) (ic (tabW js (dueL js (List.range js.length)) (totL js).toNat js.length)) ∧ Below W.heap.size W w') := fun W hb => l6Table_any A c js W (hr.below hb) hg _ hm hm4
    go_enter Tryd.func6, Tryd.ntmps6
    go_wp2_with fail
    refine (l6Good_any A c js _ hr (by omega)).mono ?_
    rintro e w1 ⟨rfl, hb1⟩
    rw [hp]
    have HC := Lib.hid (HT.out w1 hb1)
    have HB := Lib.hid hb1
    clear hb1 HT hm
    go_wp2_with fail
    refine HC.out.mono ?_
    rintro e w3 ⟨v, rfl, hown, hb3⟩
    have HX := Lib.hid (And.intro (own_lower hown HB.out.size) (HB.out.trans (hb3.mono HB.out.size)))
    clear hown hb3
    go_wp2
    go_ret2
    exact ret_ownW HR.out (tabW_len _ _ _ _) HX.out.1 HX.out.2 _ rfl
set_option maxRecDepth 100000 in
theorem impl_WeightTable (hT : TzTab w) : Calls Tryd.prog 8 #[.slice A js.length c] w (RetIB w (wtR js)) := by
  have HT := Lib.hid hT
  clear hT
  go_enter Tryd.func8, Tryd.ntmps8
  go_wp2_with fail
  refine (plainListOf_any A c js w hr (by omega)).mono ?_
  rintro e w1 ⟨hb1, ⟨hp, rfl⟩ | ⟨hp, rfl⟩⟩
  · have HR : Hid (wtR js = (tabW js (dueL js (List.range js.length)) (totL js).toNat js.length, true)) := by show _ = _; unfold wtR; rw [hp]; rfl
    have hg := plain_good hp
    obtain ⟨h8, hok⟩ := good_out hg
    obtain ⟨hm, hm4⟩ := tot_bd hg
    have HC := Lib.hid (weightTable_any A c js w1 (hr.below hb1) hok h8 _ hm hm4 (HT.out.below hb1))
    have HB := Lib.hid hb1
    clear hok hb1 hp hm
    go_wp2_with fail
    refine HC.out.mono ?_
    rintro e w2 ⟨v, rfl, hown, hb2⟩
    have HX := Lib.hid (And.intro (own_lower hown HB.out.size) (HB.out.trans (hb2.mono HB.out.size)))
    clear hown hb2
    go_wp2
    go_ret2
    exact ret_ownW HR.out (tabW_len _ _ _ _) HX.out.1 HX.out.2 _ rfl
  · have HR : Hid (wtR js = ([], false)) := by show _ = _; unfold wtR; rw [hp]; rfl
    go_wp2
    go_ret2
    exact ret_empty HR.out hb1 _ rfl
end
end
section

/-- Costs taken together: the greatest, or the sum; 0 if there are none. -/
def joinC (o : Int) (v c : Int) : Int := if isTop o then max v c else v + c
def foldC (o : Int) : List Int → Int
  | [] => 0
  | c :: cs => cs.foldl (joinC o) c
theorem joinC_comm (o a b c : Int) : joinC o (joinC o a b) c = joinC o (joinC o a c) b := by
  unfold joinC; cases isTop o <;> simp <;> omega
theorem joinC_swap (o a b : Int) : joinC o a b = joinC o b a := by
  unfold joinC; cases isTop o <;> simp <;> omega
theorem foldl_joinC_perm (o : Int) {xs ys : List Int} (h : xs.Perm ys) : ∀ c, xs.foldl (joinC o) c = ys.foldl (joinC o) c := by
  induction h with
  | nil => intro c; rfl
  | cons x _ ih => intro c; exact ih _
  | swap x y l => intro c; simp only [List.foldl_cons]; rw [joinC_comm]
  | trans _ _ h1 h2 => intro c; exact (h1 c).trans (h2 c)
theorem foldl_joinC_out (o : Int) : ∀ (xs : List Int) (a c : Int), xs.foldl (joinC o) (joinC o a c) = joinC o (xs.foldl (joinC o) a) c
  | [], _, _ => rfl
  | x :: xs, a, c => by
    simp only [List.foldl_cons]
    rw [joinC_comm, foldl_joinC_out o xs]
theorem foldC_perm (o : Int) {xs ys : List Int} (h : xs.Perm ys) : foldC o xs = foldC o ys := by
  induction h with
  | nil => rfl
  | cons x h _ => exact foldl_joinC_perm o h x
  | swap x y l => show l.foldl _ (joinC o _ _) = l.foldl _ (joinC o _ _); rw [joinC_swap]
  | trans _ _ h1 h2 => exact h1.trans h2
theorem foldC_snoc (o : Int) (xs : List Int) (c : Int) : foldC o (xs ++ [c]) = extOf o xs.length (foldC o xs) c := by
  cases xs with
  | nil => rfl
  | cons x xs =>
    show (xs ++ [c]).foldl (joinC o) x = _
    rw [List.foldl_append]
    rfl
theorem valGo_fold (o : Int) : ∀ (js : List J) (es : List Int) (k : Nat) (v : Int), 0 < k → valGo o js es k v = (List.zipWith (costOf o) js es).foldl (joinC o) v
  | [], _, _, _, _ => by simp [valGo]
  | _ :: _, [], _, _, _ => by simp [valGo]
  | j :: js, e :: es, k, v, hk => by
    show valGo o js es (k + 1) _ = _
    rw [valGo_fold o js es (k + 1) _ (by omega)]
    simp only [List.zipWith_cons_cons, List.foldl_cons]
    unfold extOf
    rw [if_neg (by omega)]
    rfl
theorem valOf_fold (o : Int) (js : List J) (es : List Int) : valOf o js es = foldC o (List.zipWith (costOf o) js es) := by
  cases js with
  | nil => simp [valOf, valGo, foldC]
  | cons j js =>
    cases es with
    | nil => simp [valOf, valGo, foldC]
    | cons e es =>
      show valGo o js es 1 _ = _
      rw [valGo_fold o js es 1 _ (by omega)]
      rfl
/-- The costs along an order, behind a time. -/
def costsGo (o : Int) (js : List J) : List Nat → Int → List Int
  | [], _ => []
  | j :: p, now => costOf o (js.getD j j0) (max now (js.getD j j0).r + (js.getD j j0).t) :: costsGo o js p (max now (js.getD j j0).r + (js.getD j j0).t)
def costsL (o : Int) (js : List J) (p : List Nat) : List Int := costsGo o js p 0
theorem costsGo_len (o : Int) (js : List J) : ∀ (p : List Nat) (now : Int), (costsGo o js p now).length = p.length
  | [], _ => rfl
  | j :: p, now => by unfold costsGo; simp [costsGo_len o js p]
theorem costsGo_snoc (o : Int) (js : List J) (j : Nat) : ∀ (p : List Nat) (now : Int), costsGo o js (p ++ [j]) now = costsGo o js p now ++ [costOf o (js.getD j j0) (max (lastGo js p now) (js.getD j j0).r + (js.getD j j0).t)]
  | [], _ => rfl
  | i :: p, now => by
    show _ :: costsGo o js (p ++ [j]) _ = _
    rw [costsGo_snoc o js j p]; rfl
theorem costs_map (o : Int) (js : List J) : ∀ (p : List Nat) (now : Int) (xs : List Int), p.Nodup → (∀ j ∈ p, j < xs.length) → costsGo o js p now = p.map fun j => costOf o (js.getD j j0) ((endsGo js p now xs).getD j 0)
  | [], _, _, _, _ => rfl
  | j :: p, now, xs, hd, hl => by
    obtain ⟨h1, h2⟩ := List.nodup_cons.1 hd
    unfold costsGo endsGo
    rw [List.map_cons, endsGo_out js p _ _ j h1, getD_set_eq _ _ _ _ (hl j List.mem_cons_self)]
    rw [costs_map o js p _ (xs.set j (max now (js.getD j j0).r + (js.getD j j0).t)) h2 (fun k hk => by simp only [List.length_set]; exact hl k (List.mem_cons_of_mem _ hk))]
theorem zip_range (o : Int) (js : List J) (es : List Int) (h : es.length = js.length) : List.zipWith (costOf o) js es = (List.range js.length).map fun j => costOf o (js.getD j j0) (es.getD j 0) := by
  apply List.ext_getElem
  · simp [h]
  · intro i h1 h2
    have hi : i < js.length := by simpa using h2
    simp only [List.getElem_zipWith, List.getElem_map, List.getElem_range]
    rw [getD_at js j0 hi, getD_at es 0 (by omega)]
/-- The value of an order, and of the beginning of one. -/
def partV (o : Int) (js : List J) (b : List Nat) : Int := foldC o (costsL o js b)
theorem partV_full (o : Int) (js : List J) {p : List Nat} (hp : p.Perm (List.range js.length)) : valOf o js (endsL js p) = partV o js p := by
  rw [valOf_fold, zip_range o js _ (endsL_len js p)]
  unfold partV costsL
  rw [costs_map o js p 0 (List.replicate js.length 0) (perm_nodup hp) (fun j hj => by simpa using perm_lt hp hj)]
  exact foldC_perm o (hp.symm.map _)
theorem partV_snoc (o : Int) (js : List J) (b : List Nat) (j : Nat) : partV o js (b ++ [j]) = extOf o b.length (partV o js b) (costOf o (js.getD j j0) (max (lastGo js b 0) (js.getD j j0).r + (js.getD j j0).t)) := by
  unfold partV costsL
  rw [costsGo_snoc, foldC_snoc, costsGo_len]
theorem lastGo_nonneg {js : List J} (hg : ∀ j ∈ js, okJ j = true) {b : List Nat} (hb : ∀ j ∈ b, j < js.length) : 0 ≤ lastGo js b 0 := last_ge js hg b 0 hb
theorem lastGo_bd {js : List J} (hg : ∀ j ∈ js, okJ j = true) : ∀ (b : List Nat) (now : Int) (m : Nat), (∀ j ∈ b, j < js.length) → 0 ≤ now → now ≤ 500 + 50 * m → lastGo js b now ≤ 500 + 50 * (m + b.length : Nat)
  | [], now, m, _, _, h => by show now ≤ _; simpa using h
  | j :: b, now, m, hb, h0, h1 => by
    obtain ⟨s0, s1⟩ := step_bd (getD_ok hg (hb j List.mem_cons_self)) h0 h1
    have := lastGo_bd hg b _ (m + 1) (fun k hk => hb k (List.mem_cons_of_mem _ hk)) s0 s1
    show lastGo js b _ ≤ _
    simp only [List.length_cons]
    omega
theorem partV_up {o : Int} (ho : isObj o = true) {js : List J} (hg : goodL js = true) {b : List Nat} (hb : ∀ j ∈ b, j < js.length) (hb8 : b.length < 8) (hne : b ≠ []) {j : Nat} (hj : j < js.length) : partV o js b ≤ partV o js (b ++ [j]) := by
  obtain ⟨h8, hok⟩ := good_out hg
  rw [partV_snoc]
  unfold extOf
  have hl : b.length ≠ 0 := fun e => hne (List.eq_nil_of_length_eq_zero e)
  rw [if_neg hl]
  have e0 := lastGo_nonneg hok hb
  have e1 := lastGo_bd hok b 0 0 hb (by omega) (by omega)
  obtain ⟨s0, s1⟩ := step_bd (m := b.length) (getD_ok hok hj) e0 (by omega)
  have hc := (cost_bd ho (getD_ok hok hj) s0 (by omega)).2.2
  cases ht : isTop o
  · have := hc ht; simp only [Bool.false_eq_true, if_false]; omega
  · simp only [if_true]; omega

/-- What is known of the best orders so far: their value, the first one, and how many there are. -/
structure Bst where
  v : Int
  first : List Nat
  n : Nat
def bst0 : Bst := ⟨0, [], 0⟩
/-- A whole order is held against the best ones. -/
def leafB (b : List Nat) (v : Int) (t : Bst) : Bst := if t.n = 0 ∨ v < t.v then ⟨v, b, 1⟩ else if v = t.v then ⟨t.v, t.first, t.n + 1⟩ else t
/-- The model's search: all orders that begin so. -/
def specTry (o : Int) (js : List J) : Nat → List Nat → Bst → Bst
  | 0, b, t => leafB b (partV o js b) t
  | m + 1, b, t => (List.range js.length).foldl (fun t j => if j ∈ b then t else specTry o js m (b ++ [j]) t) t
/-- The program's search, which leaves out beginnings whose value is too great. -/
def progTry (o : Int) (js : List J) : Nat → List Nat → Bst → Bst
  | 0, b, t => if 0 < t.n ∧ t.v < partV o js b then t else leafB b (partV o js b) t
  | m + 1, b, t => if 0 < t.n ∧ t.v < partV o js b then t else (List.range js.length).foldl (fun t j => if j ∈ b then t else progTry o js m (b ++ [j]) t) t
theorem foldl_same {α : Type} (f : α → Nat → α) (t : α) : ∀ l : List Nat, (∀ j ∈ l, f t j = t) → l.foldl f t = t
  | [], _ => rfl
  | j :: l, h => by
    rw [List.foldl_cons, h j List.mem_cons_self]
    exact foldl_same f t l fun k hk => h k (List.mem_cons_of_mem _ hk)
theorem foldl_eq {α : Type} (f g : α → Nat → α) : ∀ (l : List Nat) (t : α), (∀ j ∈ l, ∀ t, f t j = g t j) → l.foldl f t = l.foldl g t
  | [], _, _ => rfl
  | j :: l, t, h => by
    rw [List.foldl_cons, List.foldl_cons, h j List.mem_cons_self]
    exact foldl_eq f g l _ fun k hk => h k (List.mem_cons_of_mem _ hk)
theorem spec_over {o : Int} (ho : isObj o = true) {js : List J} (hg : goodL js = true) : ∀ (m : Nat) (b : List Nat) (t : Bst), b.length + m = js.length → (∀ j ∈ b, j < js.length) → b ≠ [] → 0 < t.n → t.v < partV o js b → specTry o js m b t = t
  | 0, b, t, _, _, _, hn, hv => by
    show leafB b _ t = t
    unfold leafB
    rw [if_neg (by omega), if_neg (by omega)]
  | m + 1, b, t, hl, hb, hne, hn, hv => by
    obtain ⟨h8, _⟩ := good_out hg
    refine foldl_same _ t _ fun j hj => ?_
    by_cases hjb : j ∈ b
    · rw [if_pos hjb]
    · rw [if_neg hjb]
      have hj' : j < js.length := List.mem_range.1 hj
      have := partV_up ho hg hb (by omega) hne hj'
      refine spec_over ho hg m (b ++ [j]) t (by simp; omega) ?_ (by simp) hn (by omega)
      intro k hk
      rcases List.mem_append.1 hk with h | h
      · exact hb k h
      · rw [List.mem_singleton.1 h]; exact hj'
theorem prog_spec {o : Int} (ho : isObj o = true) {js : List J} (hg : goodL js = true) : ∀ (m : Nat) (b : List Nat) (t : Bst), b.length + m = js.length → (∀ j ∈ b, j < js.length) → (b ≠ [] ∨ t.n = 0) → progTry o js m b t = specTry o js m b t
  | 0, b, t, hl, hb, hne => by
    show (if _ then _ else _) = leafB _ _ _
    by_cases h : 0 < t.n ∧ t.v < partV o js b
    · rw [if_pos h]
      unfold leafB
      rw [if_neg (by omega), if_neg (by omega)]
    · rw [if_neg h]
  | m + 1, b, t, hl, hb, hne => by
    unfold progTry
    by_cases h : 0 < t.n ∧ t.v < partV o js b
    · rw [if_pos h]
      exact (spec_over ho hg (m + 1) b t hl hb (by rcases hne with h' | h'; exact h'; omega) h.1 h.2).symm
    · rw [if_neg h]
      refine foldl_eq _ _ _ _ fun j hj t' => ?_
      by_cases hjb : j ∈ b
      · rw [if_pos hjb, if_pos hjb]
      · rw [if_neg hjb, if_neg hjb]
        have hj' : j < js.length := List.mem_range.1 hj
        refine prog_spec ho hg m (b ++ [j]) t' (by simp; omega) ?_ (.inl (by simp))
        intro k hk
        rcases List.mem_append.1 hk with h | h
        · exact hb k h
        · rw [List.mem_singleton.1 h]; exact hj'
/-- The best orders. -/
def bestL (o : Int) (js : List J) : Bst := specTry o js js.length [] bst0
theorem prog_best {o : Int} (ho : isObj o = true) {js : List J} (hg : goodL js = true) : progTry o js js.length [] bst0 = bestL o js :=
  prog_spec ho hg _ _ _ (by simp) (by simp) (.inr rfl)
/-- How often a search counts at most. -/
theorem foldl_count {m : Nat} (f : Bst → Nat → Bst) : ∀ (l : List Nat) (t : Bst), (∀ t j, (f t j).n ≤ max 1 (t.n + m)) → 1 ≤ m → (l.foldl f t).n ≤ max 1 (t.n + l.length * m)
  | [], t, _, _ => by simp; omega
  | j :: l, t, h, hm => by
    rw [List.foldl_cons]
    have h1 := foldl_count f l (f t j) h hm
    have h2 := h t j
    have : (l.length + 1) * m = l.length * m + m := by rw [Nat.add_mul, Nat.one_mul]
    simp only [List.length_cons]
    omega
end
section
/-- The value, and the end, of the first k jobs of an order. -/
def latTo (js : List J) (p : List Nat) (k : Nat) : Int := partV 4 js (p.take k)
def nowTo (js : List J) (p : List Nat) (k : Nat) : Int := lastGo js (p.take k) 0
section
variable {js : List J} {p : List Nat} (hok : ∀ j ∈ js, okJ j = true) (h0 : ∀ j ∈ js, j.r = 0) (hp : ∀ x ∈ p, x < js.length)
include hok h0 hp
theorem nowTo_bd : ∀ k, k ≤ p.length → 0 ≤ nowTo js p k ∧ nowTo js p k ≤ 50 * (k : Int)
  | 0, _ => by unfold nowTo; simp [lastGo]
  | k + 1, hk => by
    have h1 := nowTo_bd k (by omega)
    have hx := hp _ (List.getElem_mem (show k < p.length by omega))
    have hj := okJ_out (hok _ (List.getElem_mem hx))
    have hr := h0 _ (List.getElem_mem hx)
    unfold nowTo at *
    rw [List.take_succ_eq_append_getElem (by omega), lastGo_snoc, getD_at js j0 hx]
    omega
theorem nowTo_succ {k : Nat} (hk : k < p.length) : nowTo js p (k + 1) = nowTo js p k + (js[p[k]]'(hp _ (List.getElem_mem hk))).t := by
  have h1 := nowTo_bd hok h0 hp k (by omega)
  have hx := hp _ (List.getElem_mem hk)
  have hr := h0 _ (List.getElem_mem hx)
  unfold nowTo at *
  rw [List.take_succ_eq_append_getElem hk, lastGo_snoc, getD_at js j0 hx]
  omega
omit hok h0 in
theorem latTo_succ {k : Nat} (hk : k < p.length) : latTo js p (k + 1) = extOf 4 k (latTo js p k) (costOf 4 (js[p[k]]'(hp _ (List.getElem_mem hk))) (nowTo js p (k + 1))) := by
  have hx := hp _ (List.getElem_mem hk)
  unfold latTo nowTo
  rw [List.take_succ_eq_append_getElem hk, partV_snoc, lastGo_snoc, List.length_take, Nat.min_eq_left (by omega), getD_at js j0 hx]
theorem latTo_bd (h8 : p.length ≤ 8) : ∀ k, k ≤ p.length → -500 ≤ latTo js p k ∧ latTo js p k ≤ 50000 * (k : Int)
  | 0, _ => by unfold latTo; simp [partV, costsL, costsGo, foldC]
  | k + 1, hk => by
    have h1 := latTo_bd h8 k (by omega)
    have h2 := nowTo_bd hok h0 hp (k + 1) hk
    have hx := hp _ (List.getElem_mem (show k < p.length by omega))
    have hj := hok _ (List.getElem_mem hx)
    obtain ⟨c0, c1, c2⟩ := cost_bd (o := 4) rfl hj h2.1 (by omega : nowTo js p (k + 1) ≤ 1000)
    have h3 := ext_bd (o := 4) (k := k) h1.1 h1.2 c0 c1 c2
    rw [latTo_succ hp (by omega)]
    exact h3
end
theorem latTo_all (js : List J) (p : List Nat) : latTo js p p.length = partV 4 js p := by unfold latTo; rw [List.take_length]
def latL (js : List J) (p : List Nat) : Int := partV 4 js p
theorem plain_zero {js : List J} (h : plainL js = true) : ∀ j ∈ js, j.r = 0 := by
  unfold plainL at h
  rw [Bool.and_eq_true] at h
  have h2 := h.2
  unfold plain0 at h2
  rw [List.all_eq_true] at h2
  intro j hj
  simpa using h2 j hj
end
section
/-- The sum of the Times of the first k jobs of an order. -/
def gonTo (js : List J) (p : List Nat) : Nat → Int
  | 0 => 0
  | k + 1 => gonTo js p k + (js.getD (p.getD k 0) j0).t
/-- No job of an order ends behind its date. -/
def timlyB (js : List J) (p : List Nat) : Bool := decide (∀ k, k < p.length → gonTo js p (k + 1) ≤ (js.getD (p.getD k 0) j0).d)
def latJ (e : Int) (j : J) : J := ⟨j.t, 0, 0, j.d + e⟩
def latsL (js : List J) (e : Int) : List J := js.map (latJ e)
theorem latsL_len (js : List J) (e : Int) : (latsL js e).length = js.length := by unfold latsL; simp
theorem latsL_at (js : List J) (e : Int) (k : Nat) (hk : k < js.length) : (latsL js e)[k]'(by rw [latsL_len]; exact hk) = latJ e js[k] := by unfold latsL; simp
theorem latsL_getD (js : List J) (e : Int) (k : Nat) (hk : k < js.length) : (latsL js e).getD k j0 = latJ e (js.getD k j0) := by
  rw [getD_at (latsL js e) j0 (by rw [latsL_len]; exact hk), getD_at js j0 hk, latsL_at js e k hk]
theorem soonB_later (js : List J) (e : Int) {i k : Nat} (hi : i < js.length) (hk : k < js.length) : soonB (latsL js e) i k = soonB js i k := by
  unfold soonB
  rw [latsL_getD js e i hi, latsL_getD js e k hk]
  show (if (js.getD i j0).d + e ≠ (js.getD k j0).d + e then decide ((js.getD i j0).d + e < (js.getD k j0).d + e) else if (js.getD i j0).t ≠ (js.getD k j0).t then decide ((js.getD i j0).t < (js.getD k j0).t) else decide (i < k)) = _
  by_cases h : (js.getD i j0).d = (js.getD k j0).d
  · have e1 : ¬ ((js.getD i j0).d + e ≠ (js.getD k j0).d + e) := by omega
    have e2 : ¬ ((js.getD i j0).d ≠ (js.getD k j0).d) := by omega
    rw [if_neg e1, if_neg e2]
  · have e1 : (js.getD i j0).d + e ≠ (js.getD k j0).d + e := by omega
    rw [if_pos e1, if_pos h]
    by_cases h2 : (js.getD i j0).d < (js.getD k j0).d
    · rw [decide_eq_true h2, decide_eq_true (by omega)]
    · rw [decide_eq_false h2, decide_eq_false (by omega)]
theorem insD_later (js : List J) (e : Int) {x : Nat} (hx : x < js.length) : ∀ ys : List Nat, (∀ y ∈ ys, y < js.length) → insD (latsL js e) x ys = insD js x ys
  | [], _ => rfl
  | y :: ys, h => by
    unfold insD
    rw [soonB_later js e (h y (by simp)) hx, insD_later js e hx ys (fun a ha => h a (by simp [ha]))]
theorem dueTo_later (js : List J) (e : Int) (l : List Nat) (hl : ∀ x ∈ l, x < js.length) : ∀ k, k ≤ l.length → dueTo (latsL js e) l k = dueTo js l k
  | 0, _ => rfl
  | k + 1, h => by
    have hx : l.getD k 0 < js.length := by rw [getD_at l 0 (by omega)]; exact hl _ (List.getElem_mem _)
    unfold dueTo
    rw [dueTo_later js e l hl k (by omega), insD_later js e hx _ (fun y hy => hl y (dueTo_mem (by omega) hy))]
theorem dueL_later (js : List J) (e : Int) (l : List Nat) (hl : ∀ x ∈ l, x < js.length) : dueL (latsL js e) l = dueL js l := dueTo_later js e l hl _ (Nat.le_refl _)
section
variable {js : List J} {p : List Nat} (hok : ∀ j ∈ js, okJ j = true) (h0 : ∀ j ∈ js, j.r = 0) (hp : ∀ x ∈ p, x < js.length)
include hok h0 hp
theorem gonTo_later (e : Int) : ∀ k, k ≤ p.length → gonTo (latsL js e) p k = nowTo js p k
  | 0, _ => by unfold nowTo gonTo; simp [lastGo]
  | k + 1, hk => by
    have hx := hp _ (List.getElem_mem (show k < p.length by omega))
    rw [nowTo_succ hok h0 hp (by omega), ← gonTo_later e k (by omega)]
    show gonTo (latsL js e) p k + _ = _
    rw [getD_at p 0 (by omega), latsL_getD js e _ hx, getD_at js j0 hx]
    rfl
theorem latTo_le {e : Int} (he : 0 ≤ e) : ∀ k, k ≤ p.length → (latTo js p k ≤ e ↔ ∀ i, i < k → gonTo (latsL js e) p (i + 1) ≤ ((latsL js e).getD (p.getD i 0) j0).d)
  | 0, _ => ⟨fun _ i hi => absurd hi (by omega), fun _ => by unfold latTo; simp [partV, costsL, costsGo, foldC]; exact he⟩
  | k + 1, hk => by
    have hx := hp _ (List.getElem_mem (show k < p.length by omega))
    have ih := latTo_le he k (by omega)
    have hd : ((latsL js e).getD (p.getD k 0) j0).d = (js[p[k]]'hx).d + e := by
      rw [getD_at p 0 (by omega), latsL_getD js e _ hx, getD_at js j0 hx]; rfl
    have hstep : latTo js p (k + 1) ≤ e ↔ latTo js p k ≤ e ∧ gonTo (latsL js e) p (k + 1) ≤ ((latsL js e).getD (p.getD k 0) j0).d := by
      rw [latTo_succ hp (by omega), costOf_4, gonTo_later hok h0 hp e (k + 1) hk, hd]
      unfold extOf
      by_cases hz : k = 0
      · subst hz
        have hl : latTo js p 0 ≤ e := ih.2 (fun i hi => absurd hi (by omega))
        rw [if_pos rfl]
        constructor
        · intro h; exact ⟨hl, by omega⟩
        · intro h; omega
      · rw [if_neg hz, show isTop 4 = true from rfl, if_pos rfl]
        omega
    rw [hstep, ih]
    constructor
    · rintro ⟨h1, h2⟩ i hi
      by_cases hik : i = k
      · subst hik; exact h2
      · exact h1 i (by omega)
    · intro h; exact ⟨fun i hi => h i (by omega), h k (by omega)⟩
end
theorem timly_later {js : List J} (hok : ∀ j ∈ js, okJ j = true) (h0 : ∀ j ∈ js, j.r = 0) {e : Int} (he : 0 ≤ e) (l : List Nat) (hl : ∀ x ∈ l, x < js.length) :
    timlyB (latsL js e) (dueL (latsL js e) l) = decide (latL js (dueL js l) ≤ e) := by
  rw [dueL_later js e l hl]
  have hpm : ∀ x ∈ dueL js l, x < js.length := fun x hx => hl x ((dueL_perm js l).mem_iff.1 hx)
  have h := latTo_le hok h0 hpm he _ (Nat.le_refl _)
  rw [latTo_all] at h
  unfold timlyB latL
  exact (decide_eq_decide.2 h).symm
end
section
def inRis (s : List Int) (x : Nat) : Bool := s.contains (x : Int)
/-- Strictly ascending, of n jobs. -/
def risOk (n : Nat) (s : List Int) (i : Nat) : Bool := decide (0 ≤ s.getD i 0 ∧ s.getD i 0 < n) && (decide (i = 0) || decide (s.getD (i - 1) 0 < s.getD i 0))
def risTo (n : Nat) (s : List Int) (k : Nat) : Bool := (List.range k).all (risOk n s)
def risL (n : Nat) (s : List Int) : Bool := risTo n s s.length
theorem risTo_bad {n : Nat} {s : List Int} {k m : Nat} (h : k < m) (hk : risOk n s k = false) : risTo n s m = false := by
  unfold risTo; rw [List.all_eq_false]; exact ⟨k, List.mem_range.2 h, by rw [hk]; simp⟩
theorem risTo_succ (n : Nat) (s : List Int) (k : Nat) : risTo n s (k + 1) = (risTo n s k && risOk n s k) := by
  unfold risTo; rw [List.range_succ, List.all_append]; simp
theorem risTo_at {n : Nat} {s : List Int} {k m : Nat} (h : risTo n s m = true) (hk : k < m) : risOk n s k = true := by
  unfold risTo at h; exact List.all_eq_true.1 h k (List.mem_range.2 hk)
/-- Such a list is the numbers of 0..n-1 that are in it. -/
theorem ris_nat {n : Nat} {s : List Int} (h : risL n s = true) : s = ((List.range n).filter (inRis s)).map Int.ofNat := by
  have hb : ∀ k (hk : k < s.length), 0 ≤ s[k] ∧ s[k] < n := fun k hk => by
    have := risTo_at h hk
    unfold risOk at this
    simp only [Bool.and_eq_true, decide_eq_true_eq] at this
    rw [List.getD_eq_getElem?_getD, List.getElem?_eq_getElem hk] at this
    exact this.1
  have hst : ∀ k (hk : k + 1 < s.length), s[k]'(by omega) < s[k + 1] := fun k hk => by
    have := risTo_at h hk
    unfold risOk at this
    simp only [Bool.and_eq_true, Bool.or_eq_true, decide_eq_true_eq, Nat.add_sub_cancel] at this
    rw [List.getD_eq_getElem?_getD, List.getD_eq_getElem?_getD, List.getElem?_eq_getElem hk, List.getElem?_eq_getElem (show k < s.length by omega)] at this
    simp only [Option.getD_some] at this
    omega
  have hpw : s.Pairwise (· < ·) := by
    rw [List.pairwise_iff_getElem]
    intro i j hi hj hij
    have : ∀ d, ∀ (hd : i + d + 1 < s.length), s[i] < s[i + d + 1] := by
      intro d
      induction d with
      | zero => exact fun hd => hst i hd
      | succ d ih => exact fun hd => Int.lt_trans (ih (by omega)) (hst (i + d + 1) hd)
    have h2 := this (j - i - 1) (by omega)
    simp only [show i + (j - i - 1) + 1 = j by omega] at h2
    exact h2
  have hn : s = (s.map Int.toNat).map Int.ofNat := by
    rw [List.map_map]
    conv => lhs; rw [← List.map_id s]
    refine List.map_congr_left fun x hx => ?_
    obtain ⟨k, hk, rfl⟩ := List.getElem_of_mem hx
    have := hb k hk
    simp only [id, Function.comp, Int.ofNat_eq_natCast]
    omega
  conv => lhs; rw [hn]
  congr 1
  have h1 : (s.map Int.toNat).Pairwise (· < ·) := by
    rw [List.pairwise_iff_getElem]
    intro i j hi hj hij
    rw [List.length_map] at hi hj
    have a := List.pairwise_iff_getElem.1 hpw i j hi hj hij
    have b := hb i hi
    rw [List.getElem_map, List.getElem_map]
    omega
  refine strict_ext2 h1 (List.Pairwise.filter _ List.pairwise_lt_range) fun x => ?_
  rw [List.mem_filter, List.mem_range, List.mem_map]
  unfold inRis
  constructor
  · rintro ⟨y, hy, rfl⟩
    obtain ⟨k, hk, rfl⟩ := List.getElem_of_mem hy
    have b := hb k hk
    refine ⟨by omega, ?_⟩
    rw [List.contains_iff_mem, show ((s[k].toNat : Nat) : Int) = s[k] by omega]
    exact List.getElem_mem _
  · rintro ⟨h1, h2⟩
    exact ⟨(x : Int), by rwa [List.contains_iff_mem] at h2, by omega⟩
theorem risOk_bad {n : Nat} {s : List Int} {k : Nat} (hk : k < s.length) (h : ¬ (0 ≤ s[k] ∧ s[k] < n)) : risOk n s k = false := by
  unfold risOk; rw [getD_at s 0 hk, decide_eq_false h, Bool.false_and]
theorem risOk_back {n : Nat} {s : List Int} {k : Nat} (hk : k + 1 < s.length) (h : s[k + 1] ≤ s[k]'(by omega)) : risOk n s (k + 1) = false := by
  unfold risOk
  rw [getD_at s 0 hk, Nat.add_sub_cancel, getD_at s 0 (show k < s.length by omega), decide_eq_false (show ¬ k + 1 = 0 by omega), decide_eq_false (show ¬ (s[k]'(by omega) < s[k + 1]) by omega), Bool.or_false, Bool.and_false]
theorem risOk_first {n : Nat} {s : List Int} (hk : 0 < s.length) (h : (0 : Int) ≤ s[0] ∧ s[0] < n) : risOk n s 0 = true := by
  unfold risOk; rw [getD_at s 0 hk, decide_eq_true h]; rfl
theorem risOk_next {n : Nat} {s : List Int} {k : Nat} (hk : k + 1 < s.length) (h : 0 ≤ s[k + 1] ∧ s[k + 1] < n) (h2 : s[k]'(by omega) < s[k + 1]) : risOk n s (k + 1) = true := by
  unfold risOk
  rw [getD_at s 0 hk, Nat.add_sub_cancel, getD_at s 0 (show k < s.length by omega), decide_eq_true h, decide_eq_true h2, Bool.or_true]; rfl
theorem risL_step {n : Nat} {s : List Int} {k : Nat} (h : risTo n s k = true) (h2 : risOk n s k = true) : risTo n s (k + 1) = true := by rw [risTo_succ, h, h2]; rfl
theorem ris8 {n : Nat} {s : List Int} (h : risL n s = true) (hn : n ≤ 8) : risL 8 s = true := by
  unfold risL risTo at *
  rw [List.all_eq_true] at *
  intro k hk
  have h1 := h k hk
  unfold risOk at *
  simp only [Bool.and_eq_true, decide_eq_true_eq] at *
  exact ⟨⟨h1.1.1, by have := h1.1.2; omega⟩, h1.2⟩
theorem ris_at {n : Nat} {s : List Int} (h : risL n s = true) {k : Nat} (hk : k < s.length) : 0 ≤ s[k] ∧ s[k] < n := by
  have h1 := risTo_at h hk
  unfold risOk at h1
  simp only [Bool.and_eq_true, decide_eq_true_eq] at h1
  rw [getD_at s 0 hk] at h1
  exact h1.1
/-- The set of the first k numbers of a list. -/
def numTo (s : List Int) : Nat → Nat
  | 0 => 0
  | k + 1 => addB (numTo s k) (s.getD k 0).toNat
def numS (s : List Int) : Nat := numTo s s.length
theorem numTo_lt {s : List Int} (h : risL 8 s = true) : ∀ k, k ≤ s.length → numTo s k < 256
  | 0, _ => by unfold numTo; omega
  | k + 1, hk => by
    have h1 := ris_at h (show k < s.length by omega)
    unfold numTo
    rw [getD_at s 0 (by omega)]
    exact add_lt (numTo_lt h k (by omega)) (by omega)
theorem numTo_bit {s : List Int} (h : risL 8 s = true) (i : Nat) : ∀ k, k ≤ s.length → ((numTo s k).testBit i = true ↔ (i : Int) ∈ s.take k)
  | 0, _ => by unfold numTo; simp
  | k + 1, hk => by
    have h1 := ris_at h (show k < s.length by omega)
    have ih := numTo_bit h i k (by omega)
    unfold numTo
    rw [bit_add, List.take_succ_eq_append_getElem (by omega), List.mem_append, Bool.or_eq_true, ih, getD_at s 0 (by omega), List.mem_singleton, decide_eq_true_eq]
    constructor
    · rintro (g | g)
      · exact .inl g
      · exact .inr (by omega)
    · rintro (g | g)
      · exact .inl g
      · exact .inr (by omega)
theorem numS_lt {s : List Int} (h : risL 8 s = true) : numS s < 256 := numTo_lt h _ (Nat.le_refl _)
theorem numS_mem {s : List Int} (h : risL 8 s = true) : natI (memB (numS s)) = s := by
  have hs := ris_nat h
  conv => rhs; rw [hs]
  unfold natI memB
  have hf : (List.range 8).filter (fun i => (numS s).testBit i) = (List.range 8).filter (inRis s) := by
    refine List.filter_congr fun i _ => ?_
    have h1 := numTo_bit h i s.length (Nat.le_refl _)
    rw [List.take_length] at h1
    unfold inRis
    cases hb : s.contains (i : Int)
    · cases hc : (numS s).testBit i
      · rfl
      · have := h1.1 hc
        rw [← List.contains_iff_mem, hb] at this
        cases this
    · exact h1.2 (List.contains_iff_mem.1 hb)
  rw [hf]
theorem numS_in {n : Nat} {s : List Int} (h : risL n s = true) (hn : n ≤ 8) {k : Nat} (hk : (numS s).testBit k = true) : k < n := by
  have h1 := numTo_bit (ris8 h hn) k s.length (Nat.le_refl _)
  rw [List.take_length] at h1
  obtain ⟨i, hi, he⟩ := List.getElem_of_mem (h1.1 hk)
  have := ris_at h hi
  omega
theorem lats0_t (js : List J) (x : Nat) : ((latsL js 0).getD x j0).t = (js.getD x j0).t ∧ ((latsL js 0).getD x j0).d = (js.getD x j0).d := by
  by_cases hx : x < js.length
  · rw [latsL_getD js 0 x hx]; exact ⟨rfl, Int.add_zero _⟩
  · have e1 : (latsL js 0).getD x j0 = j0 := by rw [List.getD_eq_getElem?_getD, List.getElem?_eq_none (by rw [latsL_len]; omega)]; rfl
    have e2 : js.getD x j0 = j0 := by rw [List.getD_eq_getElem?_getD, List.getElem?_eq_none (by omega)]; rfl
    rw [e1, e2]; exact ⟨rfl, rfl⟩
theorem gonTo_zero (js : List J) (p : List Nat) : ∀ k, gonTo (latsL js 0) p k = gonTo js p k
  | 0 => rfl
  | k + 1 => by
    show gonTo (latsL js 0) p k + _ = gonTo js p k + _
    rw [gonTo_zero js p k, (lats0_t js _).1]
theorem timly_zero (js : List J) (p : List Nat) : timlyB (latsL js 0) p = timlyB js p := by
  unfold timlyB
  rw [decide_eq_decide]
  constructor
  · intro h k hk
    have := h k hk
    rw [gonTo_zero, (lats0_t js _).2] at this
    exact this
  · intro h k hk
    rw [gonTo_zero, (lats0_t js _).2]
    exact h k hk
theorem timly_lat {js : List J} (hok : ∀ j ∈ js, okJ j = true) (h0 : ∀ j ∈ js, j.r = 0) (l : List Nat) (hl : ∀ x ∈ l, x < js.length) : timlyB js (dueL js l) = decide (latL js (dueL js l) ≤ 0) := by
  rw [← timly_zero js (dueL js l), ← dueL_later js 0 l hl]
  rw [timly_later hok h0 (Int.le_refl 0) l hl, dueL_later js 0 l hl]
/-- IsTimely. -/
def timelyR (js : List J) (s : List Int) : Bool × Bool := if plainL js && risL js.length s then (decide (latL js (dueL js (memB (numS s))) ≤ 0), true) else (false, false)
end
section
open Go.RowKit
section
variable (B : Option Addr) (d n : Nat) (s : List Int) (w : World) (hq : Row w B (ic s)) (hm : s.length ≤ 10000000)
include hq hm
end
end
section
open Go.RowKit
theorem BlockIs.away {w : World} {g : Nat} {t : TypeId} {cs : Array Value} (h : BlockIs w g t cs) {g' : Nat} (hne : g ≠ g') (i : Nat) (u : Value) : BlockIs (w.setCell ⟨g', i, none⟩ u) g t cs :=
  (Below.heap_setCell w ⟨g', i, none⟩ u g hne).trans h
/-- A call that draws nothing, met in a quiet region of a world as it stands. -/
theorem quiet_eq {P : Program} {f : FuncId} {args : Array Value} {w : World} {n : Nat} {v : Value}
    (h : Calls P f args (w.drewN n) fun e w' => e = .returned v ∧ w.drewN n = w') : Calls P f args (w.drewN n) fun e w'' => e = .returned v ∧ ∃ m, w'' = w.drewN m :=
  h.mono fun _ _ ⟨he, hm⟩ => ⟨he, n, hm.symm⟩
end
section
open Go.RowKit Go.Shelf
attribute [local go_sem] Oper.semAt_some
def sumW (js : List J) (l : List Nat) : Int := (l.map fun k => (js.getD k j0).w).sum
theorem sumW_snoc (js : List J) (l : List Nat) (k : Nat) : sumW js (l ++ [k]) = sumW js l + (js.getD k j0).w := by unfold sumW; simp
theorem sumW_bd {js : List J} (hok : ∀ j ∈ js, okJ j = true) : ∀ l : List Nat, (∀ k ∈ l, k < js.length) → 0 ≤ sumW js l ∧ sumW js l ≤ 50 * (l.length : Int)
  | [], _ => by simp [sumW]
  | k :: l, h => by
    have h1 := sumW_bd hok l (fun x hx => h x (List.mem_cons_of_mem _ hx))
    have hk := h k List.mem_cons_self
    have h2 := okJ_out (hok _ (List.getElem_mem hk))
    have e : sumW js (k :: l) = js[k].w + sumW js l := by unfold sumW; simp [List.getD, hk]
    rw [e, List.length_cons]
    omega
theorem block_own {β : Type} (g : Nat) (t : TypeId) (f : β → Array Value) : Own (fun s W => BlockIs W g t (f s)) := fun s X Y row hs hg hrow =>
  (hg.block g (Array.getElem?_eq_some_iff.1 hs).1 (fun e => by
    obtain ⟨o, ho, hc⟩ := hrow g e.symm
    rw [show X.heap[g]? = _ from hs] at ho
    cases ho; cases hc)).trans hs
section
variable (A : Option Addr) (c s : Nat) (js : List J) (w : World) (hs : s < 256) (hr : Row w A (jc js)) (hok : ∀ j ∈ js, okJ j = true) (hlt : ∀ k, s.testBit k = true → k < js.length) (hT : TzTab w)
include hs hr hok hlt hT
set_option maxRecDepth 100000 in
set_option maxHeartbeats 4000000 in
theorem ratioOf_any : Calls Tryd.prog 23 #[.slice A js.length c, .int .u64 (s : Int)] w fun e w' => e = .returned (.agg #[.int .i64 (sumW js (memB s)), .int .i64 (sumT js (memB s))]) ∧ Below w.heap.size w w' := by
  have s1 : (w.alloc (.cells #[.slice A js.length c] 27)).heap.size = w.heap.size + 1 := by simp
  have s2 : ((w.alloc (.cells #[.slice A js.length c] 27)).alloc (.cells #[.int .i64 0, .int .i64 0] 49)).heap.size = w.heap.size + 1 + 1 := by simp
  have s3 : (((w.alloc (.cells #[.slice A js.length c] 27)).alloc (.cells #[.int .i64 0, .int .i64 0] 49)).alloc (.cells #[.int .i64 0, .int .i64 0] 49)).heap.size = w.heap.size + 1 + 1 + 1 := by simp
  have s4 : ((((w.alloc (.cells #[.slice A js.length c] 27)).alloc (.cells #[.int .i64 0, .int .i64 0] 49)).alloc (.cells #[.int .i64 0, .int .i64 0] 49)).alloc (.cells #[.int .u64 (s : Int)] 52)).heap.size = w.heap.size + 1 + 1 + 1 + 1 := by simp
  have b0 := BlockIs.new w 27 #[.slice A js.length c]
  have b1 := BlockIs.new (w.alloc (.cells #[.slice A js.length c] 27)) 49 #[.int .i64 0, .int .i64 0]
  have b2 := BlockIs.new ((w.alloc (.cells #[.slice A js.length c] 27)).alloc (.cells #[.int .i64 0, .int .i64 0] 49)) 49 #[.int .i64 0, .int .i64 0]
  have b3 := BlockIs.new (((w.alloc (.cells #[.slice A js.length c] 27)).alloc (.cells #[.int .i64 0, .int .i64 0] 49)).alloc (.cells #[.int .i64 0, .int .i64 0] 49)) 52 #[.int .u64 (s : Int)]
  have g1 := (Below.refl (w.alloc (.cells #[.slice A js.length c] 27)).heap.size (w.alloc (.cells #[.slice A js.length c] 27))).alloc (Nat.le_refl _) (.cells #[.int .i64 0, .int .i64 0] 49)
  have g2 := (Below.refl ((w.alloc (.cells #[.slice A js.length c] 27)).alloc (.cells #[.int .i64 0, .int .i64 0] 49)).heap.size ((w.alloc (.cells #[.slice A js.length c] 27)).alloc (.cells #[.int .i64 0, .int .i64 0] 49))).alloc (Nat.le_refl _) (.cells #[.int .i64 0, .int .i64 0] 49)
  have g3 := (Below.refl (((w.alloc (.cells #[.slice A js.length c] 27)).alloc (.cells #[.int .i64 0, .int .i64 0] 49)).alloc (.cells #[.int .i64 0, .int .i64 0] 49)).heap.size (((w.alloc (.cells #[.slice A js.length c] 27)).alloc (.cells #[.int .i64 0, .int .i64 0] 49)).alloc (.cells #[.int .i64 0, .int .i64 0] 49))).alloc (Nat.le_refl _) (.cells #[.int .u64 (s : Int)] 52)
  have hb4 := (((Below.refl w.heap.size w).alloc (Nat.le_refl _) (.cells #[.slice A js.length c] 27)).trans (g1.mono (by rw [s1]; omega))).trans ((g2.mono (by rw [s2]; omega)).trans (g3.mono (by rw [s3]; omega)))
  have c0 := ((b0.below g1).below g2).below g3
  have c1 := (b1.below g2).below g3
  have c2 := b2.below g3
  rw [s1] at c1
  rw [s2] at c2
  rw [s3] at b3
  have H3 := Lib.hid (And.intro c0 (And.intro c1 (And.intro c2 (And.intro b3 hb4))))
  have HR := Lib.hid hr
  have HT := Lib.hid hT
  clear b0 b1 b2 b3 g1 g2 g3 c0 c1 c2 hb4 hr hT s1 s2 s3
  refine (callsIn_wide (n := 6)).1 ?_
  refine callsIn_of_wp_marks Tryd.func23 rfl trivial ?_ rfl
  simp only [Tryd.ntmps23, List.size_toArray, List.length_cons, List.length_nil, Nat.reduceAdd, Nat.reduceSub, Array.replicate_succ, Array.replicate_zero, List.push_toArray, List.append_toArray, List.nil_append, List.cons_append]
  gi_wp2_with (refine ⟨trivial, ?_⟩; gi_at_call 37; refine (members_in 5 _ _).mono ?_; rintro e w' ⟨rfl, rfl⟩)
  generalize ((((w.alloc (.cells #[.slice A js.length c] 27)).alloc (.cells #[.int .i64 0, .int .i64 0] 49)).alloc (.cells #[.int .i64 0, .int .i64 0] 49)).alloc (.cells #[.int .u64 (s : Int)] 52)) = w3 at *
  obtain ⟨b0, b1, b2, b3, hb3⟩ := H3.out
  refine wpIn_rangeFunc_ownG (F := Fence.wide) rfl (by omega) (gf := 49) (lb := #[.pointer (some ⟨w.heap.size + 1 + 1 + 1, 0, none⟩)]) rfl trivial (enters_of Tryd.func49 (by kernel_rfl) rfl)
    (members_stops 5 (by omega) (w.heap.size + 1 + 1 + 1) s hs w3 (by omega) b3 (HT.out.below hb3))
    (fun h k t => k (h t)) (fun W l' o o' hl ho hc _ => KeepsTz.put ho hc) (Below.refl _ _) (fun _ => rfl)
    (fun (pre : List (Mb s)) W => ((BlockIs W w.heap.size 27 #[.slice A js.length c] ∧ BlockIs W (w.heap.size + 1) 49 #[.int .i64 0, .int .i64 0]) ∧ BlockIs W (w.heap.size + 1 + 1) 49 #[.int .i64 (sumW js (vals pre)), .int .i64 (sumT js (vals pre))]) ∧ Below w.heap.size w W)
    (fun _ _ _ => False)
    (OwnFrom.and (OwnFrom.and (OwnFrom.and (Own.from (block_own _ _ _) _) (Own.from (block_own _ _ _) _)) (Own.from (block_own _ _ _) _)) (ownFrom_below (Nat.le_refl _) (by omega)))
    (fun _ _ _ _ _ h _ _ => h)
    ⟨⟨⟨b0, b1⟩, b2⟩, hb3⟩
    (fun x => { tmps := #[.slice A js.length c, .int .u64 (s : Int), .pointer (some ⟨w.heap.size, 0, none⟩), undef, .pointer (some ⟨w.heap.size + 1, 0, none⟩), .pointer (some ⟨w.heap.size + 1 + 1, 0, none⟩), .int .i64 (x.1 : Int), .agg #[.int .i64 0, .int .i64 0], .int .u64 (s : Int), .func (.func 49) #[] #[.pointer (some ⟨w.heap.size + 1 + 1 + 1, 0, none⟩)], .int .i64 (x.1 : Int), undef, undef, undef, undef, undef, undef, undef, undef, undef, undef, undef, undef, undef, undef, undef, undef, undef, undef, undef], defers := [] }) ?assign ?body ?done ?stop
  case assign =>
    intro l' x W K hK
    unfold encM
    gi_wp2
    exact hK
  case body =>
    rintro l' pre ⟨x, hx⟩ W ⟨⟨⟨y0, y1⟩, y2⟩, hb⟩ hl
    have hxl := hlt x hx
    have hmo : Tryd.prog.follows .mixedOrders = true := by kernel_rfl
    obtain ⟨ad, rfl, hadb, cj0, cj1, cj2, cj3⟩ := (HR.out.below hb).job hxl
    have HSN : Hid (sumT js (vals (pre ++ [(⟨x, hx⟩ : Mb s)])) = sumT js (vals pre) + js[x].t) := by show _ = _; rw [vals_snoc, sumT_snoc, getD_at js j0 hxl]
    have HWN : Hid (sumW js (vals (pre ++ [(⟨x, hx⟩ : Mb s)])) = sumW js (vals pre) + js[x].w) := by show _ = _; rw [vals_snoc, sumW_snoc, getD_at js j0 hxl]
    have hpl : (vals pre).length ≤ 8 := by have h1 := memB_len s; rw [vals_len]; omega
    have hbd := sumT_bd hok (vals pre) (fun k hk => by obtain ⟨z, _, rfl⟩ := List.mem_map.1 hk; exact hlt _ z.2)
    have hbw := sumW_bd hok (vals pre) (fun k hk => by obtain ⟨z, _, rfl⟩ := List.mem_map.1 hk; exact hlt _ z.2)
    have hjt := okJ_out (hok _ (List.getElem_mem hxl))
    have hadx : (ad.add (x * 4)).block ≠ w.heap.size + 1 + 1 := by
      obtain ⟨ad2, e2, hb2, _⟩ := HR.out.job hxl
      cases e2
      rw [add_block]; omega
    obtain ⟨W1, hW1⟩ : ∃ W1, W1 = W.drew := ⟨_, rfl⟩
    have q0 : W1.cell? ⟨w.heap.size, 0, none⟩ = some (.slice (some ad) js.length c) := by rw [hW1]; exact (y0.cell 0).trans rfl
    have q1 : W1.cell? ⟨w.heap.size + 1 + 1, 0, none⟩ = some (.int .i64 (sumW js (vals pre))) := by rw [hW1]; exact (y2.cell 0).trans rfl
    have f1 : W1.frozen? ⟨w.heap.size + 1 + 1, 0, none⟩ = false := by rw [hW1]; exact y2.frozen 0
    have qj : W1.cell? ⟨(ad.add (x * 4)).block, (ad.add (x * 4)).off + 1, none⟩ = some (.int .i64 js[x].w) := by rw [hW1]; exact cj1
    have hx0 : (0 : Int) ≤ x := by omega
    have hx1 : (x : Int) < js.length := by omega
    generalize js[x] = j at *
    generalize sumT js (vals pre) = sm at *
    generalize sumW js (vals pre) = sw at *
    have hwr := IntWalk.i64_in (sm + j.t) (by omega)
    have hww := IntWalk.i64_in (sw + j.w) (by omega)
    dsimp only
    gi_wp2
    refine wpIn_region_detX (fun _ => trivial) (by kernel_rfl) hmo (fun (_ : Unit) (L : Array Bool) w' => (L.getD 9 true = false → w' = W1) ∧ (L.getD 9 true = true → w' = W1.setCell ⟨w.heap.size + 1 + 1, 0, none⟩ (.int .i64 (sw + j.w)))) (fun _ k => (#[.pointer (some ⟨w.heap.size + 1 + 1, 0, none⟩), .int .i64 sw, .slice (some ad) js.length c, .int .i64 (x : Int), .pointer (some (ad.add (x * 4))), .pointer (some ⟨(ad.add (x * 4)).block, (ad.add (x * 4)).off + 1, none⟩), .int .i64 j.w, .int .i64 (sw + j.w), .pointer (some ⟨w.heap.size + 1 + 1, 0, none⟩), undef] : Array Value).getD k undef) () (by kernel_rfl) (by kernel_rfl) ⟨fun _ => hW1.symm, fun h => by cases h⟩ ?_ ?_
    · intro _ L tm w' hall hS hsz hlow hval
      obtain rfl := hS.2 (hall 9 (by decide))
      have ht : tm = #[.slice (some ad) js.length c, .int .u64 (s : Int), .pointer (some ⟨w.heap.size, 0, none⟩), undef, .pointer (some ⟨w.heap.size + 1, 0, none⟩), .pointer (some ⟨w.heap.size + 1 + 1, 0, none⟩), .int .i64 (x : Int), .agg #[.int .i64 0, .int .i64 0], .int .u64 (s : Int), .func (.func 49) #[] #[.pointer (some ⟨w.heap.size + 1 + 1 + 1, 0, none⟩)], .int .i64 (x : Int), .pointer (some ⟨w.heap.size + 1 + 1, 0, none⟩), .int .i64 sw, .slice (some ad) js.length c, .int .i64 (x : Int), .pointer (some (ad.add (x * 4))), .pointer (some ⟨(ad.add (x * 4)).block, (ad.add (x * 4)).off + 1, none⟩), .int .i64 j.w, .int .i64 (sw + j.w), .pointer (some ⟨w.heap.size + 1 + 1, 0, none⟩), undef, undef, undef, undef, undef, undef, undef, undef, undef, undef] := by
        refine arr_of _ _ hsz fun t ht => ?_
        have ht' : t < 30 := ht
        rcases (by omega : t = 0 ∨ t = 1 ∨ t = 2 ∨ t = 3 ∨ t = 4 ∨ t = 5 ∨ t = 6 ∨ t = 7 ∨ t = 8 ∨ t = 9 ∨ t = 10 ∨ t = 11 ∨ t = 12 ∨ t = 13 ∨ t = 14 ∨ t = 15 ∨ t = 16 ∨ t = 17 ∨ t = 18 ∨ t = 19 ∨ t = 20 ∨ t = 21 ∨ t = 22 ∨ t = 23 ∨ t = 24 ∨ t = 25 ∨ t = 26 ∨ t = 27 ∨ t = 28 ∨ t = 29) with rfl | rfl | rfl | rfl | rfl | rfl | rfl | rfl | rfl | rfl | rfl | rfl | rfl | rfl | rfl | rfl | rfl | rfl | rfl | rfl | rfl | rfl | rfl | rfl | rfl | rfl | rfl | rfl | rfl | rfl
        · exact hlow 0 (by kernel_rfl)
        · exact hlow 1 (by kernel_rfl)
        · exact hlow 2 (by kernel_rfl)
        · exact hlow 3 (by kernel_rfl)
        · exact hlow 4 (by kernel_rfl)
        · exact hlow 5 (by kernel_rfl)
        · exact hlow 6 (by kernel_rfl)
        · exact hlow 7 (by kernel_rfl)
        · exact hlow 8 (by kernel_rfl)
        · exact hlow 9 (by kernel_rfl)
        · exact hlow 10 (by kernel_rfl)
        · exact hval 0 _ 11 rfl rfl
        · exact hval 1 _ 12 rfl rfl
        · exact hval 2 _ 13 rfl rfl
        · exact hval 3 _ 14 rfl rfl
        · exact hval 4 _ 15 rfl rfl
        · exact hval 5 _ 16 rfl rfl
        · exact hval 6 _ 17 rfl rfl
        · exact hval 7 _ 18 rfl rfl
        · exact hval 8 _ 19 rfl rfl
        · exact hlow 20 (by kernel_rfl)
        · exact hlow 21 (by kernel_rfl)
        · exact hlow 22 (by kernel_rfl)
        · exact hlow 23 (by kernel_rfl)
        · exact hlow 24 (by kernel_rfl)
        · exact hlow 25 (by kernel_rfl)
        · exact hlow 26 (by kernel_rfl)
        · exact hlow 27 (by kernel_rfl)
        · exact hlow 28 (by kernel_rfl)
        · exact hlow 29 (by kernel_rfl)
      subst ht
      clear hlow hval hsz hall hS
      have HW1 := Lib.hid hW1
      clear hW1 q1 f1 q0 qj
      have hb1 : Below w.heap.size w (W1.setCell ⟨w.heap.size + 1 + 1, 0, none⟩ (.int .i64 (sw + j.w))) := (show Below w.heap.size w W1 by rw [HW1.out]; exact hb.drew).setCell (p := ⟨w.heap.size + 1 + 1, 0, none⟩) (by simp; omega) _
      have x0 : BlockIs W1 w.heap.size 27 #[.slice (some ad) js.length c] := by rw [HW1.out]; exact y0
      have x1 : BlockIs W1 (w.heap.size + 1) 49 #[.int .i64 0, .int .i64 0] := by rw [HW1.out]; exact y1
      have x2 : BlockIs W1 (w.heap.size + 1 + 1) 49 #[.int .i64 sw, .int .i64 sm] := by rw [HW1.out]; exact y2
      have x3 : W1.cell? (ad.add (x * 4)) = some (.int .i64 j.t) := by rw [HW1.out]; exact cj0
      obtain ⟨W2, hW2⟩ : ∃ W2, W2 = (W1.setCell ⟨w.heap.size + 1 + 1, 0, none⟩ (.int .i64 (sw + j.w))).drew := ⟨_, rfl⟩
      have hb2 : Below w.heap.size w W2 := by rw [hW2]; exact hb1.drew
      have z0 : BlockIs W2 w.heap.size 27 #[.slice (some ad) js.length c] := by rw [hW2]; exact (x0.away (by omega) _ _).drew
      have z1 : BlockIs W2 (w.heap.size + 1) 49 #[.int .i64 0, .int .i64 0] := by rw [hW2]; exact (x1.away (by omega) _ _).drew
      have z2 : BlockIs W2 (w.heap.size + 1 + 1) 49 #[.int .i64 (sw + j.w), .int .i64 sm] := by rw [hW2]; exact (x2.set 0 (.int .i64 (sw + j.w))).drew
      have q0 : W2.cell? ⟨w.heap.size, 0, none⟩ = some (.slice (some ad) js.length c) := (z0.cell 0).trans rfl
      have q1 : W2.cell? ⟨w.heap.size + 1 + 1, 1, none⟩ = some (.int .i64 sm) := (z2.cell 1).trans rfl
      have f1 : W2.frozen? ⟨w.heap.size + 1 + 1, 1, none⟩ = false := z2.frozen 1
      have qj : W2.cell? (ad.add (x * 4)) = some (.int .i64 j.t) := by
        rw [hW2]
        show (W1.setCell ⟨w.heap.size + 1 + 1, 0, none⟩ (.int .i64 (sw + j.w))).cell? (ad.add (x * 4)) = _
        rw [← x3]
        exact World.cell?_setCell_other (h := fun e => hadx (by rw [← e])) ..
      clear x0 x1 x2 x3 y0 y1 y2 hb hb1 cj0 cj1 cj2 cj3
      try dsimp only
      gi_wp2
      refine wpIn_region_detX (fun _ => trivial) (by kernel_rfl) hmo (fun (_ : Unit) (L : Array Bool) w' => (L.getD 9 true = false → w' = W2) ∧ (L.getD 9 true = true → w' = W2.setCell ⟨w.heap.size + 1 + 1, 1, none⟩ (.int .i64 (sm + j.t)))) (fun _ k => (#[.pointer (some ⟨w.heap.size + 1 + 1, 1, none⟩), .int .i64 sm, .slice (some ad) js.length c, .int .i64 (x : Int), .pointer (some (ad.add (x * 4))), .pointer (some (ad.add (x * 4))), .int .i64 j.t, .int .i64 (sm + j.t), .pointer (some ⟨w.heap.size + 1 + 1, 1, none⟩), undef] : Array Value).getD k undef) () (by kernel_rfl) (by kernel_rfl) ⟨fun _ => hW2.symm, fun h => by cases h⟩ ?_ ?_
      · intro _ L tm w' hall hS hsz hlow hval
        obtain rfl := hS.2 (hall 9 (by decide))
        have ht : tm = #[.slice (some ad) js.length c, .int .u64 (s : Int), .pointer (some ⟨w.heap.size, 0, none⟩), undef, .pointer (some ⟨w.heap.size + 1, 0, none⟩), .pointer (some ⟨w.heap.size + 1 + 1, 0, none⟩), .int .i64 (x : Int), .agg #[.int .i64 0, .int .i64 0], .int .u64 (s : Int), .func (.func 49) #[] #[.pointer (some ⟨w.heap.size + 1 + 1 + 1, 0, none⟩)], .int .i64 (x : Int), .pointer (some ⟨w.heap.size + 1 + 1, 0, none⟩), .int .i64 sw, .slice (some ad) js.length c, .int .i64 (x : Int), .pointer (some (ad.add (x * 4))), .pointer (some ⟨(ad.add (x * 4)).block, (ad.add (x * 4)).off + 1, none⟩), .int .i64 j.w, .int .i64 (sw + j.w), .pointer (some ⟨w.heap.size + 1 + 1, 0, none⟩), .pointer (some ⟨w.heap.size + 1 + 1, 1, none⟩), .int .i64 sm, .slice (some ad) js.length c, .int .i64 (x : Int), .pointer (some (ad.add (x * 4))), .pointer (some (ad.add (x * 4))), .int .i64 j.t, .int .i64 (sm + j.t), .pointer (some ⟨w.heap.size + 1 + 1, 1, none⟩), undef] := by
          refine arr_of _ _ hsz fun t ht => ?_
          have ht' : t < 30 := ht
          rcases (by omega : t = 0 ∨ t = 1 ∨ t = 2 ∨ t = 3 ∨ t = 4 ∨ t = 5 ∨ t = 6 ∨ t = 7 ∨ t = 8 ∨ t = 9 ∨ t = 10 ∨ t = 11 ∨ t = 12 ∨ t = 13 ∨ t = 14 ∨ t = 15 ∨ t = 16 ∨ t = 17 ∨ t = 18 ∨ t = 19 ∨ t = 20 ∨ t = 21 ∨ t = 22 ∨ t = 23 ∨ t = 24 ∨ t = 25 ∨ t = 26 ∨ t = 27 ∨ t = 28 ∨ t = 29) with rfl | rfl | rfl | rfl | rfl | rfl | rfl | rfl | rfl | rfl | rfl | rfl | rfl | rfl | rfl | rfl | rfl | rfl | rfl | rfl | rfl | rfl | rfl | rfl | rfl | rfl | rfl | rfl | rfl | rfl
          · exact hlow 0 (by kernel_rfl)
          · exact hlow 1 (by kernel_rfl)
          · exact hlow 2 (by kernel_rfl)
          · exact hlow 3 (by kernel_rfl)
          · exact hlow 4 (by kernel_rfl)
          · exact hlow 5 (by kernel_rfl)
          · exact hlow 6 (by kernel_rfl)
          · exact hlow 7 (by kernel_rfl)
          · exact hlow 8 (by kernel_rfl)
          · exact hlow 9 (by kernel_rfl)
          · exact hlow 10 (by kernel_rfl)
          · exact hlow 11 (by kernel_rfl)
          · exact hlow 12 (by kernel_rfl)
          · exact hlow 13 (by kernel_rfl)
          · exact hlow 14 (by kernel_rfl)
          · exact hlow 15 (by kernel_rfl)
          · exact hlow 16 (by kernel_rfl)
          · exact hlow 17 (by kernel_rfl)
          · exact hlow 18 (by kernel_rfl)
          · exact hlow 19 (by kernel_rfl)
          · exact hval 0 _ 20 rfl rfl
          · exact hval 1 _ 21 rfl rfl
          · exact hval 2 _ 22 rfl rfl
          · exact hval 3 _ 23 rfl rfl
          · exact hval 4 _ 24 rfl rfl
          · exact hval 5 _ 25 rfl rfl
          · exact hval 6 _ 26 rfl rfl
          · exact hval 7 _ 27 rfl rfl
          · exact hval 8 _ 28 rfl rfl
          · exact hlow 29 (by kernel_rfl)
        subst ht
        clear hlow hval hsz hall hS
        have HW2 := Lib.hid hW2
        clear hW2
        gi_wp2
        have hbe : Below w.heap.size w (W2.setCell ⟨w.heap.size + 1 + 1, 1, none⟩ (.int .i64 (sm + j.t))) := hb2.setCell (p := ⟨w.heap.size + 1 + 1, 1, none⟩) (by simp; omega) _
        have n2 := z2.set 1 (.int .i64 (sm + j.t))
        have k1 : KeepsOthers W W1 := by rw [HW1.out]; exact KeepsOthers.drew W
        have k3 : KeepsOthers (W1.setCell ⟨w.heap.size + 1 + 1, 0, none⟩ (.int .i64 (sw + j.w))) W2 := by rw [HW2.out]; exact KeepsOthers.drew _
        exact ⟨((k1.trans (KeepsOthers.setCell _ _ _)).trans (k3.trans (KeepsOthers.setCell _ _ _))).from _, fun _ => HT.out.below hbe, ⟨⟨z0.away (by omega) _ _, z1.away (by omega) _ _⟩, by rw [HSN.out, HWN.out]; exact n2⟩, hbe⟩
      · intro _ L a' w' i op hLs ho hLi hLd hLn hS hlow hdep _
        have hi : i < 10 := (Array.getElem?_eq_some_iff.1 ho).1
        rcases (by omega : i = 0 ∨ i = 1 ∨ i = 2 ∨ i = 3 ∨ i = 4 ∨ i = 5 ∨ i = 6 ∨ i = 7 ∨ i = 8 ∨ i = 9) with rfl | rfl | rfl | rfl | rfl | rfl | rfl | rfl | rfl | rfl
        · obtain rfl := Option.some.inj ho
          have e5 : a'.tmps[5]?.getD undef = .pointer (some ⟨w.heap.size + 1 + 1, 0, none⟩) := (Array.getD_eq_getD_getElem? ..).symm.trans (hlow 5 (by kernel_rfl))
          have hK : ((L.setIfInBounds 0 true).getD 9 true = false → w' = W2) ∧ ((L.setIfInBounds 0 true).getD 9 true = true → w' = W2.setCell ⟨w.heap.size + 1 + 1, 1, none⟩ (.int .i64 (sm + j.t))) := by rw [getD_set_true, if_neg (fun h => by cases h.1)]; exact hS
          exact .inl ⟨wanted_free rfl, .inl ⟨(), _, fun _ _ => rfl, by simp [execOp, Act.eval, e5, go_sem], hK⟩⟩
        · obtain rfl := Option.some.inj ho
          have e20 : a'.tmps[20]?.getD undef = .pointer (some ⟨w.heap.size + 1 + 1, 1, none⟩) := (Array.getD_eq_getD_getElem? ..).symm.trans (hdep 0 _ 20 (by kernel_rfl) rfl rfl)
          have hK : ((L.setIfInBounds 1 true).getD 9 true = false → w' = W2) ∧ ((L.setIfInBounds 1 true).getD 9 true = true → w' = W2.setCell ⟨w.heap.size + 1 + 1, 1, none⟩ (.int .i64 (sm + j.t))) := by rw [getD_set_true, if_neg (fun h => by cases h.1)]; exact hS
          obtain rfl : W2 = w' := (hS.1 (hLn 9 (by kernel_rfl))).symm
          exact .inl ⟨wanted_free rfl, .inl ⟨(), _, fun _ _ => rfl, by simp [execOp, Act.eval, e20, q1, go_sem], hK⟩⟩
        · obtain rfl := Option.some.inj ho
          have e2 : a'.tmps[2]?.getD undef = .pointer (some ⟨w.heap.size, 0, none⟩) := (Array.getD_eq_getD_getElem? ..).symm.trans (hlow 2 (by kernel_rfl))
          have hK : ((L.setIfInBounds 2 true).getD 9 true = false → w' = W2) ∧ ((L.setIfInBounds 2 true).getD 9 true = true → w' = W2.setCell ⟨w.heap.size + 1 + 1, 1, none⟩ (.int .i64 (sm + j.t))) := by rw [getD_set_true, if_neg (fun h => by cases h.1)]; exact hS
          obtain rfl : W2 = w' := (hS.1 (hLn 9 (by kernel_rfl))).symm
          exact .inl ⟨wanted_free rfl, .inl ⟨(), _, fun _ _ => rfl, by simp [execOp, Act.eval, e2, q0, go_sem], hK⟩⟩
        · obtain rfl := Option.some.inj ho
          have e6 : a'.tmps[6]?.getD undef = .int .i64 (x : Int) := (Array.getD_eq_getD_getElem? ..).symm.trans (hlow 6 (by kernel_rfl))
          have hK : ((L.setIfInBounds 3 true).getD 9 true = false → w' = W2) ∧ ((L.setIfInBounds 3 true).getD 9 true = true → w' = W2.setCell ⟨w.heap.size + 1 + 1, 1, none⟩ (.int .i64 (sm + j.t))) := by rw [getD_set_true, if_neg (fun h => by cases h.1)]; exact hS
          exact .inl ⟨wanted_free rfl, .inl ⟨(), _, fun _ _ => rfl, by simp [execOp, Act.eval, e6, go_sem], hK⟩⟩
        · obtain rfl := Option.some.inj ho
          have e22 : a'.tmps[22]?.getD undef = .slice (some ad) js.length c := (Array.getD_eq_getD_getElem? ..).symm.trans (hdep 2 _ 22 (by kernel_rfl) rfl rfl)
          have e23 : a'.tmps[23]?.getD undef = .int .i64 (x : Int) := (Array.getD_eq_getD_getElem? ..).symm.trans (hdep 3 _ 23 (by kernel_rfl) rfl rfl)
          have hK : ((L.setIfInBounds 4 true).getD 9 true = false → w' = W2) ∧ ((L.setIfInBounds 4 true).getD 9 true = true → w' = W2.setCell ⟨w.heap.size + 1 + 1, 1, none⟩ (.int .i64 (sm + j.t))) := by rw [getD_set_true, if_neg (fun h => by cases h.1)]; exact hS
          exact .inl ⟨wanted_free rfl, .inl ⟨(), _, fun _ _ => rfl, by simp [execOp, Act.eval, e22, e23, hx0, hx1, go_sem], hK⟩⟩
        · obtain rfl := Option.some.inj ho
          have e24 : a'.tmps[24]?.getD undef = .pointer (some (ad.add (x * 4))) := (Array.getD_eq_getD_getElem? ..).symm.trans (hdep 4 _ 24 (by kernel_rfl) rfl rfl)
          have hK : ((L.setIfInBounds 5 true).getD 9 true = false → w' = W2) ∧ ((L.setIfInBounds 5 true).getD 9 true = true → w' = W2.setCell ⟨w.heap.size + 1 + 1, 1, none⟩ (.int .i64 (sm + j.t))) := by rw [getD_set_true, if_neg (fun h => by cases h.1)]; exact hS
          exact .inl ⟨wanted_free rfl, .inl ⟨(), _, fun _ _ => rfl, by simp [execOp, Act.eval, e24, go_sem], hK⟩⟩
        · obtain rfl := Option.some.inj ho
          have e25 : a'.tmps[25]?.getD undef = .pointer (some (ad.add (x * 4))) := (Array.getD_eq_getD_getElem? ..).symm.trans (hdep 5 _ 25 (by kernel_rfl) rfl rfl)
          have hK : ((L.setIfInBounds 6 true).getD 9 true = false → w' = W2) ∧ ((L.setIfInBounds 6 true).getD 9 true = true → w' = W2.setCell ⟨w.heap.size + 1 + 1, 1, none⟩ (.int .i64 (sm + j.t))) := by rw [getD_set_true, if_neg (fun h => by cases h.1)]; exact hS
          obtain rfl : W2 = w' := (hS.1 (hLn 9 (by kernel_rfl))).symm
          exact .inl ⟨wanted_free rfl, .inl ⟨(), _, fun _ _ => rfl, by simp [execOp, Act.eval, e25, qj, go_sem], hK⟩⟩
        · obtain rfl := Option.some.inj ho
          have e21 : a'.tmps[21]?.getD undef = .int .i64 sm := (Array.getD_eq_getD_getElem? ..).symm.trans (hdep 1 _ 21 (by kernel_rfl) rfl rfl)
          have e26 : a'.tmps[26]?.getD undef = .int .i64 j.t := (Array.getD_eq_getD_getElem? ..).symm.trans (hdep 6 _ 26 (by kernel_rfl) rfl rfl)
          have hK : ((L.setIfInBounds 7 true).getD 9 true = false → w' = W2) ∧ ((L.setIfInBounds 7 true).getD 9 true = true → w' = W2.setCell ⟨w.heap.size + 1 + 1, 1, none⟩ (.int .i64 (sm + j.t))) := by rw [getD_set_true, if_neg (fun h => by cases h.1)]; exact hS
          exact .inl ⟨wanted_free rfl, .inl ⟨(), _, fun _ _ => rfl, by simp [execOp, Act.eval, e21, e26, hwr, go_sem], hK⟩⟩
        · obtain rfl := Option.some.inj ho
          have e5 : a'.tmps[5]?.getD undef = .pointer (some ⟨w.heap.size + 1 + 1, 0, none⟩) := (Array.getD_eq_getD_getElem? ..).symm.trans (hlow 5 (by kernel_rfl))
          have hK : ((L.setIfInBounds 8 true).getD 9 true = false → w' = W2) ∧ ((L.setIfInBounds 8 true).getD 9 true = true → w' = W2.setCell ⟨w.heap.size + 1 + 1, 1, none⟩ (.int .i64 (sm + j.t))) := by rw [getD_set_true, if_neg (fun h => by cases h.1)]; exact hS
          exact .inl ⟨wanted_free rfl, .inl ⟨(), _, fun _ _ => rfl, by simp [execOp, Act.eval, e5, go_sem], hK⟩⟩
        · obtain rfl := Option.some.inj ho
          have e28 : a'.tmps[28]?.getD undef = .pointer (some ⟨w.heap.size + 1 + 1, 1, none⟩) := (Array.getD_eq_getD_getElem? ..).symm.trans (hdep 8 _ 28 (by kernel_rfl) rfl rfl)
          have e27 : a'.tmps[27]?.getD undef = .int .i64 (sm + j.t) := (Array.getD_eq_getD_getElem? ..).symm.trans (hdep 7 _ 27 (by kernel_rfl) rfl rfl)
          obtain rfl : W2 = w' := (hS.1 hLi).symm
          have hK : ((L.setIfInBounds 9 true).getD 9 true = false → W2.setCell ⟨w.heap.size + 1 + 1, 1, none⟩ (.int .i64 (sm + j.t)) = W2) ∧ ((L.setIfInBounds 9 true).getD 9 true = true → W2.setCell ⟨w.heap.size + 1 + 1, 1, none⟩ (.int .i64 (sm + j.t)) = W2.setCell ⟨w.heap.size + 1 + 1, 1, none⟩ (.int .i64 (sm + j.t))) := ⟨fun h => (by rw [getD_set_true, if_pos ⟨rfl, by rw [hLs]; decide⟩] at h; cases h), fun _ => rfl⟩
          exact .inl ⟨wanted_free rfl, .inr ⟨(), W2.setCell ⟨w.heap.size + 1 + 1, 1, none⟩ (.int .i64 (sm + j.t)), fun _ _ => rfl, rfl, by simp [execOp, Act.eval, e28, e27, q1, f1, go_sem], hK⟩⟩
    · intro _ L a' w' i op hLs ho hLi hLd hLn hS hlow hdep _
      have hi : i < 10 := (Array.getElem?_eq_some_iff.1 ho).1
      rcases (by omega : i = 0 ∨ i = 1 ∨ i = 2 ∨ i = 3 ∨ i = 4 ∨ i = 5 ∨ i = 6 ∨ i = 7 ∨ i = 8 ∨ i = 9) with rfl | rfl | rfl | rfl | rfl | rfl | rfl | rfl | rfl | rfl
      · obtain rfl := Option.some.inj ho
        have e5 : a'.tmps[5]?.getD undef = .pointer (some ⟨w.heap.size + 1 + 1, 0, none⟩) := (Array.getD_eq_getD_getElem? ..).symm.trans (hlow 5 (by kernel_rfl))
        have hK : ((L.setIfInBounds 0 true).getD 9 true = false → w' = W1) ∧ ((L.setIfInBounds 0 true).getD 9 true = true → w' = W1.setCell ⟨w.heap.size + 1 + 1, 0, none⟩ (.int .i64 (sw + j.w))) := by rw [getD_set_true, if_neg (fun h => by cases h.1)]; exact hS
        exact .inl ⟨wanted_free rfl, .inl ⟨(), _, fun _ _ => rfl, by simp [execOp, Act.eval, e5, go_sem], hK⟩⟩
      · obtain rfl := Option.some.inj ho
        have e11 : a'.tmps[11]?.getD undef = .pointer (some ⟨w.heap.size + 1 + 1, 0, none⟩) := (Array.getD_eq_getD_getElem? ..).symm.trans (hdep 0 _ 11 (by kernel_rfl) rfl rfl)
        have hK : ((L.setIfInBounds 1 true).getD 9 true = false → w' = W1) ∧ ((L.setIfInBounds 1 true).getD 9 true = true → w' = W1.setCell ⟨w.heap.size + 1 + 1, 0, none⟩ (.int .i64 (sw + j.w))) := by rw [getD_set_true, if_neg (fun h => by cases h.1)]; exact hS
        obtain rfl : W1 = w' := (hS.1 (hLn 9 (by kernel_rfl))).symm
        exact .inl ⟨wanted_free rfl, .inl ⟨(), _, fun _ _ => rfl, by simp [execOp, Act.eval, e11, q1, go_sem], hK⟩⟩
      · obtain rfl := Option.some.inj ho
        have e2 : a'.tmps[2]?.getD undef = .pointer (some ⟨w.heap.size, 0, none⟩) := (Array.getD_eq_getD_getElem? ..).symm.trans (hlow 2 (by kernel_rfl))
        have hK : ((L.setIfInBounds 2 true).getD 9 true = false → w' = W1) ∧ ((L.setIfInBounds 2 true).getD 9 true = true → w' = W1.setCell ⟨w.heap.size + 1 + 1, 0, none⟩ (.int .i64 (sw + j.w))) := by rw [getD_set_true, if_neg (fun h => by cases h.1)]; exact hS
        obtain rfl : W1 = w' := (hS.1 (hLn 9 (by kernel_rfl))).symm
        exact .inl ⟨wanted_free rfl, .inl ⟨(), _, fun _ _ => rfl, by simp [execOp, Act.eval, e2, q0, go_sem], hK⟩⟩
      · obtain rfl := Option.some.inj ho
        have e6 : a'.tmps[6]?.getD undef = .int .i64 (x : Int) := (Array.getD_eq_getD_getElem? ..).symm.trans (hlow 6 (by kernel_rfl))
        have hK : ((L.setIfInBounds 3 true).getD 9 true = false → w' = W1) ∧ ((L.setIfInBounds 3 true).getD 9 true = true → w' = W1.setCell ⟨w.heap.size + 1 + 1, 0, none⟩ (.int .i64 (sw + j.w))) := by rw [getD_set_true, if_neg (fun h => by cases h.1)]; exact hS
        exact .inl ⟨wanted_free rfl, .inl ⟨(), _, fun _ _ => rfl, by simp [execOp, Act.eval, e6, go_sem], hK⟩⟩
      · obtain rfl := Option.some.inj ho
        have e13 : a'.tmps[13]?.getD undef = .slice (some ad) js.length c := (Array.getD_eq_getD_getElem? ..).symm.trans (hdep 2 _ 13 (by kernel_rfl) rfl rfl)
        have e14 : a'.tmps[14]?.getD undef = .int .i64 (x : Int) := (Array.getD_eq_getD_getElem? ..).symm.trans (hdep 3 _ 14 (by kernel_rfl) rfl rfl)
        have hK : ((L.setIfInBounds 4 true).getD 9 true = false → w' = W1) ∧ ((L.setIfInBounds 4 true).getD 9 true = true → w' = W1.setCell ⟨w.heap.size + 1 + 1, 0, none⟩ (.int .i64 (sw + j.w))) := by rw [getD_set_true, if_neg (fun h => by cases h.1)]; exact hS
        exact .inl ⟨wanted_free rfl, .inl ⟨(), _, fun _ _ => rfl, by simp [execOp, Act.eval, e13, e14, hx0, hx1, go_sem], hK⟩⟩
      · obtain rfl := Option.some.inj ho
        have e15 : a'.tmps[15]?.getD undef = .pointer (some (ad.add (x * 4))) := (Array.getD_eq_getD_getElem? ..).symm.trans (hdep 4 _ 15 (by kernel_rfl) rfl rfl)
        have hK : ((L.setIfInBounds 5 true).getD 9 true = false → w' = W1) ∧ ((L.setIfInBounds 5 true).getD 9 true = true → w' = W1.setCell ⟨w.heap.size + 1 + 1, 0, none⟩ (.int .i64 (sw + j.w))) := by rw [getD_set_true, if_neg (fun h => by cases h.1)]; exact hS
        exact .inl ⟨wanted_free rfl, .inl ⟨(), _, fun _ _ => rfl, by simp [execOp, Act.eval, e15, go_sem], hK⟩⟩
      · obtain rfl := Option.some.inj ho
        have e16 : a'.tmps[16]?.getD undef = .pointer (some ⟨(ad.add (x * 4)).block, (ad.add (x * 4)).off + 1, none⟩) := (Array.getD_eq_getD_getElem? ..).symm.trans (hdep 5 _ 16 (by kernel_rfl) rfl rfl)
        have hK : ((L.setIfInBounds 6 true).getD 9 true = false → w' = W1) ∧ ((L.setIfInBounds 6 true).getD 9 true = true → w' = W1.setCell ⟨w.heap.size + 1 + 1, 0, none⟩ (.int .i64 (sw + j.w))) := by rw [getD_set_true, if_neg (fun h => by cases h.1)]; exact hS
        obtain rfl : W1 = w' := (hS.1 (hLn 9 (by kernel_rfl))).symm
        exact .inl ⟨wanted_free rfl, .inl ⟨(), _, fun _ _ => rfl, by simp [execOp, Act.eval, e16, qj, go_sem], hK⟩⟩
      · obtain rfl := Option.some.inj ho
        have e12 : a'.tmps[12]?.getD undef = .int .i64 sw := (Array.getD_eq_getD_getElem? ..).symm.trans (hdep 1 _ 12 (by kernel_rfl) rfl rfl)
        have e17 : a'.tmps[17]?.getD undef = .int .i64 j.w := (Array.getD_eq_getD_getElem? ..).symm.trans (hdep 6 _ 17 (by kernel_rfl) rfl rfl)
        have hK : ((L.setIfInBounds 7 true).getD 9 true = false → w' = W1) ∧ ((L.setIfInBounds 7 true).getD 9 true = true → w' = W1.setCell ⟨w.heap.size + 1 + 1, 0, none⟩ (.int .i64 (sw + j.w))) := by rw [getD_set_true, if_neg (fun h => by cases h.1)]; exact hS
        exact .inl ⟨wanted_free rfl, .inl ⟨(), _, fun _ _ => rfl, by simp [execOp, Act.eval, e12, e17, hww, go_sem], hK⟩⟩
      · obtain rfl := Option.some.inj ho
        have e5 : a'.tmps[5]?.getD undef = .pointer (some ⟨w.heap.size + 1 + 1, 0, none⟩) := (Array.getD_eq_getD_getElem? ..).symm.trans (hlow 5 (by kernel_rfl))
        have hK : ((L.setIfInBounds 8 true).getD 9 true = false → w' = W1) ∧ ((L.setIfInBounds 8 true).getD 9 true = true → w' = W1.setCell ⟨w.heap.size + 1 + 1, 0, none⟩ (.int .i64 (sw + j.w))) := by rw [getD_set_true, if_neg (fun h => by cases h.1)]; exact hS
        exact .inl ⟨wanted_free rfl, .inl ⟨(), _, fun _ _ => rfl, by simp [execOp, Act.eval, e5, go_sem], hK⟩⟩
      · obtain rfl := Option.some.inj ho
        have e19 : a'.tmps[19]?.getD undef = .pointer (some ⟨w.heap.size + 1 + 1, 0, none⟩) := (Array.getD_eq_getD_getElem? ..).symm.trans (hdep 8 _ 19 (by kernel_rfl) rfl rfl)
        have e18 : a'.tmps[18]?.getD undef = .int .i64 (sw + j.w) := (Array.getD_eq_getD_getElem? ..).symm.trans (hdep 7 _ 18 (by kernel_rfl) rfl rfl)
        obtain rfl : W1 = w' := (hS.1 hLi).symm
        have hK : ((L.setIfInBounds 9 true).getD 9 true = false → W1.setCell ⟨w.heap.size + 1 + 1, 0, none⟩ (.int .i64 (sw + j.w)) = W1) ∧ ((L.setIfInBounds 9 true).getD 9 true = true → W1.setCell ⟨w.heap.size + 1 + 1, 0, none⟩ (.int .i64 (sw + j.w)) = W1.setCell ⟨w.heap.size + 1 + 1, 0, none⟩ (.int .i64 (sw + j.w))) := ⟨fun h => (by rw [getD_set_true, if_pos ⟨rfl, by rw [hLs]; decide⟩] at h; cases h), fun _ => rfl⟩
        exact .inl ⟨wanted_free rfl, .inr ⟨(), W1.setCell ⟨w.heap.size + 1 + 1, 0, none⟩ (.int .i64 (sw + j.w)), fun _ _ => rfl, rfl, by simp [execOp, Act.eval, e19, e18, q1, f1, go_sem], hK⟩⟩
  case done =>
    rintro D ys W hD hys ⟨⟨⟨y0, y1⟩, y2⟩, hb⟩ hK
    have q1 : W.cell? ⟨w.heap.size + 1 + 1, 0, none⟩ = some (.int .i64 (sumW js (vals ys))) := (y2.cell 0).trans rfl
    have q2 : W.cell? ⟨w.heap.size + 1 + 1, 1, none⟩ = some (.int .i64 (sumT js (vals ys))) := (y2.cell 1).trans rfl
    have r1 : W.cell? ⟨w.heap.size + 1, 0, none⟩ = some (.int .i64 0) := (y1.cell 0).trans rfl
    have r2 : W.cell? ⟨w.heap.size + 1, 1, none⟩ = some (.int .i64 0) := (y1.cell 1).trans rfl
    have f1 := y1.frozen 0
    have f2 := y1.frozen 1
    rw [hys] at q1 q2
    gi_wp2
    have hK' : ((W.setCell ⟨w.heap.size + 1, 0, none⟩ (.int .i64 (sumW js (memB s)))).setCell ⟨w.heap.size + 1, 1, none⟩ (.int .i64 (sumT js (memB s)))).heap[D]? = some (Obj.deferred (some [])) :=
      (Below.heap_setCell _ ⟨w.heap.size + 1, 1, none⟩ _ D (by show D ≠ w.heap.size + 1; omega)).trans ((Below.heap_setCell _ ⟨w.heap.size + 1, 0, none⟩ _ D (by show D ≠ w.heap.size + 1; omega)).trans hK)
    have z1 := (y1.set 0 (.int .i64 (sumW js (memB s)))).set 1 (.int .i64 (sumT js (memB s)))
    have z2 := block_own (w.heap.size + 1) 49 (fun _ : Unit => _) () _ _ (some D) z1 (grownBy_putObj' _ D (.deferred none)) (fun r e => by cases e; exact ⟨_, hK', rfl⟩)
    have hbe : Below w.heap.size w ((W.setCell ⟨w.heap.size + 1, 0, none⟩ (.int .i64 (sumW js (memB s)))).setCell ⟨w.heap.size + 1, 1, none⟩ (.int .i64 (sumT js (memB s)))) := (hb.setCell (p := ⟨w.heap.size + 1, 0, none⟩) (by show w.heap.size ≤ w.heap.size + 1; omega) _).setCell (p := ⟨w.heap.size + 1, 1, none⟩) (by show w.heap.size ≤ w.heap.size + 1; omega) _
    refine ⟨by simp, .inl ⟨_, _, rfl, run_takeDeferred hK', ?_⟩⟩
    refine ⟨.agg #[.int .i64 (sumW js (memB s)), .int .i64 (sumT js (memB s))], ?_, rfl, hbe.trans (belowK_b (w := w3) (by omega) _ D _ _ (by omega) hK' rfl rfl)⟩
    generalize World.putObj _ D _ = V at z2 ⊢
    have e1 : V.cell? ⟨w.heap.size + 1, 0, none⟩ = some (.int .i64 (sumW js (memB s))) := (z2.cell 0).trans rfl
    have e2 : V.cell? ⟨w.heap.size + 1, 1, none⟩ = some (.int .i64 (sumT js (memB s))) := (z2.cell 1).trans rfl
    simp [results, Tryd.f23, e1, e2, go_sem]
  case stop =>
    rintro D cd pre W _ _ h _
    exact h.elim
end
end
section
open Go.RowKit
def fL (f : Int → Int → Int) (xs : List Int) (k : Nat) : Int := ((xs.take k).drop 1).foldl f (xs.getD 0 0)
theorem fL_one (f : Int → Int → Int) {xs : List Int} (h : 0 < xs.length) : fL f xs 1 = xs[0] := by
  unfold fL
  rw [show (xs.take 1).drop 1 = [] by simp]
  simp [List.getD, h]
theorem fL_step (f : Int → Int → Int) {xs : List Int} {k : Nat} (hk : k < xs.length) (h : 1 ≤ k) : fL f xs (k + 1) = f (fL f xs k) xs[k] := by
  unfold fL
  rw [List.take_succ_eq_append_getElem hk, List.drop_append_of_le_length (by simp; omega), List.foldl_append]
  rfl
def maxF (a b : Int) : Int := if a < b then b else a
theorem maxF_eq (a b : Int) : maxF a b = max a b := by unfold maxF; split <;> omega
theorem max_any (A : Option Addr) (c : Nat) (xs : List Int) (w : World) (hr : Row w A (ic xs)) (hn : xs.length ≤ 100000000) (h1 : 1 ≤ xs.length) :
    Calls Tryd.prog 25 #[.slice A xs.length c] w fun e w' => e = .returned (.int .i64 (fL maxF xs xs.length)) ∧ ∃ q, w' = w.drewN q := by
  obtain ⟨a, hA, h0⟩ := hr.at_ (k := 0) (by rw [ic_len]; omega)
  subst hA
  rw [ic_get xs 0 (by omega), show a.add 0 = a from rfl] at h0
  have HSTEP := Lib.hid (fun k hk h => fL_step maxF (xs := xs) (k := k) hk h)
  have HR := Lib.hid hr
  have HF : Hid (fL maxF xs 1 = xs[0]) := fL_one maxF (by omega)
  generalize hfn : fL maxF xs = F at *
  have HFN := Lib.hid hfn
  clear hr hfn
  have hp : (1 : Int) ≤ xs.length := by omega
  have hp2 : (0 : Int) < xs.length := by omega
  generalize xs[0] = x0 at *
  obtain rfl := HF.out
  go_enter Tryd.func25, Tryd.ntmps25
  go_wp2
  go_loopw [3, 4] (fun z i wr => ∃ k q : Nat, 1 ≤ k ∧ k ≤ xs.length ∧ i = .int .i64 (k : Int) ∧ z = .int .i64 (F k) ∧ wr = w.drewN q) (fun _ i _ => xs.length - (intOf i).toNat)
  case atStart => exact ⟨1, 0, by omega, by omega, rfl, rfl, rfl⟩
  case round =>
    obtain ⟨k, q, hk1, hk, rfl, rfl, rfl⟩ := hrel
    by_cases hlt : k < xs.length
    · obtain ⟨a', hA', hc0⟩ := HR.out.at_ (k := k) (by rw [ic_len]; exact hlt)
      injection hA' with hA'
      subst hA'
      rw [ic_get xs k hlt] at hc0
      have hs := HSTEP.out k hlt hk1
      have hc0' : (w.drewN q).cell? (a.add k) = some (.int .i64 xs[k]) := hc0
      generalize xs[k] = x at *
      have hi0 : (0 : Int) ≤ k := by omega
      have hi1 : (k : Int) < xs.length := by omega
      have HS := Lib.hid hs
      clear hs HR
      generalize F k = u at *
      go_wp2
      all_goals
        go_roundw
        case rel => exact ⟨k + 1, _, by omega, by omega, by go_num, by rw [HS.out, maxF_eq], rfl⟩
        case measure => simp [intOf]; omega
    · obtain rfl : k = xs.length := by omega
      go_wp2
      go_ret
      exact ⟨rfl, _, rfl⟩
theorem l2Last_any (A : Option Addr) (c : Nat) (xs : List Int) (w : World) (hr : Row w A (ic xs)) (hn : xs.length ≤ 100000) :
    Calls Tryd.prog 22 #[.slice A xs.length c] w fun e w' => e = .returned (.int .i64 (mostGo xs 0)) ∧ w = w' := by
  go_enter Tryd.func22, Tryd.ntmps22
  go_wp2
  go_loop [3, 4] (fun s i => ∃ (k : Nat) (t : Int), k ≤ xs.length ∧ i = .int .i64 k ∧ s = .int .i64 t ∧ Hid (mostGo (xs.drop k) t = mostGo xs 0)) (fun _ i => xs.length - (intOf i).toNat)
  case atStart => exact ⟨0, 0, Nat.zero_le _, rfl, rfl, rfl⟩
  case round =>
    obtain ⟨k, t, hk, rfl, rfl, hT⟩ := hrel
    by_cases hlt : k < xs.length
    · obtain ⟨ad, hA, hc⟩ := hr.int hlt
      subst hA
      have HT : Hid (mostGo (xs.drop (k + 1)) (max t xs[k]) = mostGo xs 0) := by show _ = _; rw [← mostGo_drop xs k t hlt, hT.out]
      have hk0 : (0 : Int) ≤ k := by omega
      have hk1 : (k : Int) < xs.length := by omega
      clear hT hr
      generalize xs[k] = x at *
      go_wp2_with fail
      refine (l1Most_any t x _).mono ?_
      rintro e w1 ⟨rfl, rfl⟩
      go_wp2
      go_round
      case rel => exact ⟨k + 1, max t x, by omega, by go_num, by go_num, HT⟩
      case measure => simp [intOf]; omega
    · obtain rfl : k = xs.length := by omega
      have hT' := hT.out
      rw [List.drop_eq_nil_of_le (by omega)] at hT'
      have HT : Hid (t = mostGo xs 0) := hT'
      clear hT hT'
      go_wp2
      go_ret
      exact ⟨by rw [← HT.out]; rfl, rfl⟩
theorem most_fold : ∀ (r : List Int) (x : Int), r.foldl maxF x = mostGo r x
  | [], _ => rfl
  | y :: r, x => by
    show r.foldl maxF (maxF x y) = mostGo r (max x y)
    rw [show maxF x y = max x y by unfold maxF; split <;> omega]
    exact most_fold r (max x y)
theorem fL_most {xs : List Int} (h1 : 1 ≤ xs.length) (h0 : 0 ≤ xs.getD 0 0) : fL maxF xs xs.length = mostGo xs 0 := by
  cases xs with
  | nil => simp at h1
  | cons x r =>
    have hx : 0 ≤ x := h0
    unfold fL
    rw [List.take_length]
    show r.foldl maxF x = mostGo r (max 0 x)
    rw [most_fold, show max 0 x = x by omega]
theorem cellW_head (T : List Int) (t : Nat) (wt : Int) (k : Nat) : T.getD 0 0 ≤ (cellW T t wt k).getD 0 0 := by
  unfold cellW
  split
  · cases T with
    | nil => exact Int.le_refl _
    | cons a l =>
      cases k with
      | zero =>
        show a ≤ max a _
        omega
      | succ k => exact Int.le_refl _
  · exact Int.le_refl _
theorem downW_head (T : List Int) (t : Nat) (wt : Int) (hi : Nat) : ∀ d, T.getD 0 0 ≤ (downW T t wt hi d).getD 0 0
  | 0 => Int.le_refl _
  | d + 1 => Int.le_trans (downW_head T t wt hi d) (cellW_head _ _ _ _)
theorem tabW_head (js : List J) (q : List Nat) (m : Nat) : ∀ i, 0 ≤ (tabW js q m i).getD 0 0
  | 0 => Int.le_refl _
  | i + 1 => Int.le_trans (tabW_head js q m i) (downW_head _ _ _ _ _)
theorem rat_f0 (x y : Int) (w : World) : (Instr.field 49 (.agg #[.int .i64 x, .int .i64 y]) 0).run Tryd.prog w = .ok (.int .i64 x) w := by kernel_rfl
def tabL (js : List J) : List Int := tabW js (dueL js (List.range js.length)) (totL js).toNat js.length
def lwR (js : List J) : Int × Bool := if plainL js then (sumW js (List.range js.length) - mostGo (tabL js) 0, true) else (0, false)
theorem tabL_bd {js : List J} (h : goodL js = true) : (tabL js).length = (totL js).toNat + 1 ∧ 0 ≤ mostGo (tabL js) 0 ∧ mostGo (tabL js) 0 ≤ 160400 := by
  obtain ⟨h8, hok⟩ := good_out h
  have hq : (dueL js (List.range js.length)).length = js.length := by rw [dueL_len, List.length_range]
  have h1 := tabW_ok hok (dueL js (List.range js.length)) (fun x hx => List.mem_range.1 (dueTo_mem (by omega) hx)) (tot_bd h).2 js.length (by omega)
  refine ⟨tabW_len _ _ _ _, (most_ge _ _).1, most_le _ _ (fun x hx => ?_) (by omega)⟩
  have := h1 x hx
  omega
def wTo (js : List J) (k : Nat) : Int := sumW js (List.range k)
theorem wTo_succ (js : List J) (k : Nat) (hk : k < js.length) : wTo js (k + 1) = wTo js k + js[k].w := by
  unfold wTo; rw [List.range_succ, sumW_snoc, getD_at js j0 hk]
section
variable (A : Option Addr) (c : Nat) (js : List J) (w : World) (hr : Row w A (jc js)) (hn : js.length ≤ 10000000)
include hr hn
set_option maxRecDepth 100000 in
set_option maxHeartbeats 1000000 in
theorem spec_LeastLateWeight : Calls Tryd.prog 14 #[.slice A js.length c] w (RetNB w (lwR js)) := by
  cases hp : plainL js
  · have HR : Hid (lwR js = (0, false)) := by show _ = _; unfold lwR; rw [hp]; rfl
    go_enter Tryd.func14, Tryd.ntmps14
    go_wp2_with fail
    refine (l6Good_any A c js _ hr (by omega)).mono ?_
    rintro e w1 ⟨rfl, hb1⟩
    rw [hp]
    go_wp2
    go_ret2
    exact ⟨by rw [HR.out]; rfl, hb1⟩
  · have HR : Hid (lwR js = (wTo js js.length - mostGo (tabL js) 0, true)) := by show _ = _; unfold lwR; rw [hp]; rfl
    have hg := plain_good hp
    obtain ⟨h8, hok⟩ := good_out hg
    obtain ⟨hm, hm4⟩ := tot_bd hg
    obtain ⟨hl, hb0, hb1⟩ := tabL_bd hg
    have HT : Hid (∀ W, Below w.heap.size w W → Calls Tryd.prog 17 #[.slice A js.length c] W fun e w' => ∃ v, e = .returned v ∧ w'.ownsRow W.heap.size 3 1 v (tabL js).length (ic (tabL js)) ∧ Below W.heap.size W w') := fun W hb => by
      have h := l6Table_any A c js W (hr.below hb) hg _ hm hm4
      rw [← hl] at h
      exact h
    have hlm : (tabL js).length ≤ 100000 := by omega
    have HOK := Lib.hid hok
    clear hm hm4 hl hok
    generalize tabL js = TL at *
    go_enter Tryd.func14, Tryd.ntmps14
    go_wp2_with fail
    refine (l6Good_any A c js _ hr (by omega)).mono ?_
    rintro e w1 ⟨rfl, hb1'⟩
    rw [hp]
    go_wp2
    go_loopw [4, 5] (fun sv i wr => ∃ k : Nat, k ≤ js.length ∧ i = .int .i64 k ∧ sv = .int .i64 (wTo js k) ∧ Below w.heap.size w wr) (fun _ i _ => js.length - (intOf i).toNat)
    case atStart => exact ⟨0, Nat.zero_le _, rfl, rfl, hb1'⟩
    case round =>
      obtain ⟨k, hk, rfl, rfl, hb⟩ := hrel
      clear hb1'
      have hbd := sumW_bd HOK.out (List.range k) (fun x hx => by have := List.mem_range.1 hx; omega)
      rw [List.length_range] at hbd
      have hbd1 : 0 ≤ wTo js k := hbd.1
      have hbd2 : wTo js k ≤ 50 * (k : Int) := hbd.2
      clear hbd
      by_cases hlt : k < js.length
      · obtain ⟨a, hA', _, hc0, hc1, hc2, hc3⟩ := (hr.below hb).job hlt
        subst hA'
        have hi : (0 : Int) ≤ k := by omega
        have hi' : (k : Int) < js.length := by omega
        have hjt := okJ_out (HOK.out _ (List.getElem_mem hlt))
        have HS := Lib.hid (wTo_succ js k hlt)
        clear hr HT
        generalize wTo js k = t1 at *
        generalize js[k] = j at *
        go_wp2
        go_roundw
        case rel => exact ⟨k + 1, by omega, by go_num, by rw [HS.out], hb⟩
        case measure => simp [intOf]; omega
      · obtain rfl : k = js.length := by omega
        have HC := Lib.hid (HT.out wr hb)
        have HB := Lib.hid hb
        clear hr HT hb
        generalize wTo js js.length = t1 at *
        go_wp2_with fail
        refine HC.out.mono ?_
        rintro e w3 ⟨v, rfl, hown, hb3⟩
        obtain ⟨Av, cv, rfl, _, hrow⟩ := own_slice hown
        have HL := Lib.hid (l2Last_any Av cv TL w3 hrow hlm)
        have HX := Lib.hid (HB.out.trans (hb3.mono HB.out.size))
        clear hown hrow hb3 HC
        generalize mostGo TL 0 = mm at *
        go_wp2_with fail
        refine HL.out.mono ?_
        rintro e _ ⟨rfl, rfl⟩
        have hwm := IntWalk.i64_in (t1 - mm) (by omega)
        go_wp2
        go_ret2
        exact ⟨by rw [HR.out]; rfl, HX.out⟩
set_option maxRecDepth 100000 in
set_option maxHeartbeats 1000000 in
theorem impl_LeastLateWeight (hT : TzTab w) : Calls Tryd.prog 15 #[.slice A js.length c] w (RetNB w (lwR js)) := by
  have HT := Lib.hid hT
  clear hT
  go_enter Tryd.func15, Tryd.ntmps15
  go_wp2_with fail
  refine (plainListOf_any A c js w hr (by omega)).mono ?_
  rintro e w1 ⟨hb1, ⟨hp, rfl⟩ | ⟨hp, rfl⟩⟩
  · have HR : Hid (lwR js = (sumW js (List.range js.length) - mostGo (tabL js) 0, true)) := by show _ = _; unfold lwR; rw [hp]; rfl
    have hg := plain_good hp
    obtain ⟨h8, hok⟩ := good_out hg
    obtain ⟨hm, hm4⟩ := tot_bd hg
    obtain ⟨hl, hm0, hm1⟩ := tabL_bd hg
    have hpw := pow_lt js.length (by omega)
    have hsw := sumW_bd hok (List.range js.length) (fun x hx => List.mem_range.1 hx)
    rw [List.length_range] at hsw
    have HRA : Hid (∀ W, Below w.heap.size w W → Calls Tryd.prog 23 #[.slice A js.length c, .int .u64 ((2 ^ js.length - 1 : Nat) : Int)] W fun e w' => e = .returned (.agg #[.int .i64 (sumW js (List.range js.length)), .int .i64 (sumT js (List.range js.length))]) ∧ Below W.heap.size W w') := fun W hb => by
      have h := ratioOf_any A c (2 ^ js.length - 1) js W hpw (hr.below hb) hok (fun k hk => all_bit (by omega) hk) (HT.out.below hb)
      rw [memB_all js.length (by omega)] at h
      exact h
    have HWT : Hid (∀ W, Below w.heap.size w W → Calls Tryd.prog 20 #[.slice A js.length c] W fun e w' => ∃ v, e = .returned v ∧ w'.ownsRow W.heap.size 3 1 v (tabL js).length (ic (tabL js)) ∧ Below W.heap.size W w') := fun W hb => by
      have h := weightTable_any A c js W (hr.below hb) hok h8 _ hm hm4 (HT.out.below hb)
      rw [← hl] at h
      exact h
    have HFM : Hid (fL maxF (tabL js) (tabL js).length = mostGo (tabL js) 0) := fL_most (by omega) (tabW_head _ _ _ _)
    have hlm : 1 ≤ (tabL js).length ∧ (tabL js).length ≤ 100000 := by omega
    have HAL := Lib.hid (fun W => all_any A js.length c h8 W)
    have HB := Lib.hid hb1
    clear hok hb1 hp hm hl hm4 hpw hg
    generalize tabL js = TL at *
    generalize sumW js (List.range js.length) = sw at *
    generalize sumT js (List.range js.length) = st at *
    generalize 2 ^ js.length - 1 = sx at *
    go_wp2_with fail
    refine (HAL.out _).mono ?_
    rintro e _ ⟨rfl, rfl⟩
    go_wp2_with fail
    refine (HRA.out _ HB.out).mono ?_
    rintro e w2 ⟨rfl, hb2⟩
    have HB2 := Lib.hid (HB.out.trans (hb2.mono HB.out.size))
    have hf0 := rat_f0 sw st w2
    clear hb2 HRA
    go_wp2_with fail
    refine (HWT.out _ HB2.out).mono ?_
    rintro e w3 ⟨v, rfl, hown, hb3⟩
    obtain ⟨Av, cv, rfl, _, hrow⟩ := own_slice hown
    have HL := Lib.hid (max_any Av cv TL w3 hrow (by omega) hlm.1)
    rw [HFM.out] at HL
    have HX := Lib.hid (HB2.out.trans (hb3.mono HB2.out.size))
    clear hown hrow hb3 HWT HFM
    generalize mostGo TL 0 = mm at *
    go_wp2_with fail
    refine HL.out.mono ?_
    rintro e _ ⟨rfl, q2, rfl⟩
    have hwm := IntWalk.i64_in (sw - mm) (by omega)
    go_wp2
    go_ret2
    exact ⟨by rw [HR.out]; rfl, HX.out.trans (below_drewN (Below.refl _ _) q2)⟩
  · have HR : Hid (lwR js = (0, false)) := by show _ = _; unfold lwR; rw [hp]; rfl
    go_wp2
    go_ret2
    exact ⟨by rw [HR.out]; rfl, hb1⟩
end
end
end Go.Proofs.YtllohccpnglloaaDoor
