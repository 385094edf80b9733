/- The model's search, all of it. Made by tools/mk_try.py. -/
import Derived.Test.YtgiecjcgidgpfaaTryS
import Derived.Test.YtgiecjcgidgpfaaRegInvK
namespace Go.Proofs.Ytgiecjcgidgpfaa
open Go.RowKit
theorem but_t2 {a2 b2 v0 v1 v3 v4 v5 v6 v7 v8 v9 : Value} (j : Nat) (h2 : j ≠ 2) : (#[v0, v1, a2, v3, v4, v5, v6, v7, v8, v9] : Array Value).getD j undef = (#[v0, v1, b2, v3, v4, v5, v6, v7, v8, v9] : Array Value).getD j undef := by
  rcases (by omega : j = 0 ∨ j = 1 ∨ j = 3 ∨ j = 4 ∨ j = 5 ∨ j = 6 ∨ j = 7 ∨ j = 8 ∨ j = 9 ∨ 9 < j) with rfl | rfl | rfl | rfl | rfl | rfl | rfl | rfl | rfl | h
  all_goals first | rfl | (simp only [Array.getD_eq_getD_getElem?]; rw [Array.getElem?_eq_none (by simp; omega), Array.getElem?_eq_none (by simp; omega)])
theorem but_t4 {a4 b4 v0 v1 v2 v3 v5 v6 v7 v8 v9 : Value} (j : Nat) (h4 : j ≠ 4) : (#[v0, v1, v2, v3, a4, v5, v6, v7, v8, v9] : Array Value).getD j undef = (#[v0, v1, v2, v3, b4, v5, v6, v7, v8, v9] : Array Value).getD j undef := by
  rcases (by omega : j = 0 ∨ j = 1 ∨ j = 2 ∨ j = 3 ∨ j = 5 ∨ j = 6 ∨ j = 7 ∨ j = 8 ∨ j = 9 ∨ 9 < j) with rfl | rfl | rfl | rfl | rfl | rfl | rfl | rfl | rfl | h
  all_goals first | rfl | (simp only [Array.getD_eq_getD_getElem?]; rw [Array.getElem?_eq_none (by simp; omega), Array.getElem?_eq_none (by simp; omega)])
theorem but_t5 {a5 b5 v0 v1 v2 v3 v4 v6 v7 v8 v9 : Value} (j : Nat) (h5 : j ≠ 5) : (#[v0, v1, v2, v3, v4, a5, v6, v7, v8, v9] : Array Value).getD j undef = (#[v0, v1, v2, v3, v4, b5, v6, v7, v8, v9] : Array Value).getD j undef := by
  rcases (by omega : j = 0 ∨ j = 1 ∨ j = 2 ∨ j = 3 ∨ j = 4 ∨ j = 6 ∨ j = 7 ∨ j = 8 ∨ j = 9 ∨ 9 < j) with rfl | rfl | rfl | rfl | rfl | rfl | rfl | rfl | rfl | h
  all_goals first | rfl | (simp only [Array.getD_eq_getD_getElem?]; rw [Array.getElem?_eq_none (by simp; omega), Array.getElem?_eq_none (by simp; omega)])
theorem but_t8 {a8 b8 v0 v1 v2 v3 v4 v5 v6 v7 v9 : Value} (j : Nat) (h8 : j ≠ 8) : (#[v0, v1, v2, v3, v4, v5, v6, v7, a8, v9] : Array Value).getD j undef = (#[v0, v1, v2, v3, v4, v5, v6, v7, b8, v9] : Array Value).getD j undef := by
  rcases (by omega : j = 0 ∨ j = 1 ∨ j = 2 ∨ j = 3 ∨ j = 4 ∨ j = 5 ∨ j = 6 ∨ j = 7 ∨ j = 9 ∨ 9 < j) with rfl | rfl | rfl | rfl | rfl | rfl | rfl | rfl | rfl | h
  all_goals first | rfl | (simp only [Array.getD_eq_getD_getElem?]; rw [Array.getElem?_eq_none (by simp; omega), Array.getElem?_eq_none (by simp; omega)])
theorem BlockIs.set_ne' {w : World} {g : Nat} {t : TypeId} {cs : Array Value} (h : BlockIs w g t cs) {n : Nat} (hn : g ≠ n) (i : Nat) (u : Value) : BlockIs (w.setCell ⟨n, i, none⟩ u) g t cs := by
  unfold BlockIs at h ⊢
  rw [← h]
  exact Below.heap_setCell _ _ _ _ hn
theorem own_set_type {w : World} {B n : Nat} {v : Value} {xs : List Value} {cs : Array Value} {g : Nat} (h : w.ownsRow B 3 1 v n xs) (hM : BlockIs w g 107 cs) (i : Nat) (u : Value) : (w.setCell ⟨g, i, none⟩ u).ownsRow B 3 1 v n xs := by
  refine ⟨h.1, ?_⟩
  rcases h.2 with hn | ⟨k, cap, cur, hv, hB, hk, r⟩
  · exact .inl hn
  · refine .inr ⟨k, cap, cur, hv, hB, ?_, r⟩
    rw [← hk]
    refine Below.heap_setCell _ _ _ _ (fun e => ?_)
    unfold BlockIs at hM
    first
    | (rw [e] at hk; rw [hk] at hM; injection hM with hM; injection hM with _ h2 _; exact absurd h2 (by decide))
    | (rw [← e] at hk; rw [hk] at hM; injection hM with hM; injection hM with _ h2 _; exact absurd h2 (by decide))
theorem own_set3 {w : World} {B n : Nat} {v : Value} {xs : List Value} {cs : Array Value} {g : Nat} (h : w.ownsRow B 3 1 v n xs) (hM : BlockIs w g 107 cs) (u0 u1 u2 : Value) : (((w.setCell ⟨g, 0, none⟩ u0).setCell ⟨g, 1, none⟩ u1).setCell ⟨g, 2, none⟩ u2).ownsRow B 3 1 v n xs :=
  own_set_type (own_set_type (own_set_type h hM 0 u0) (hM.set 0 u0) 1 u1) ((hM.set 0 u0).set 1 u1) 2 u2
section
variable {o : Int} (ho : isObj o = true) {js : List J} (hg : goodL js = true) (AJ : Option Addr) (cJ B : Nat)
include hg
set_option maxRecDepth 100000 in
set_option maxHeartbeats 4000000 in
theorem l2Try_step (m : Nat) (IH : ∀ (b : List Nat) (t : Bst) (s : Value) (Ab : Addr) (cb : Nat) (w : World), B ≤ w.heap.size → b.length + m = js.length → b.Nodup → (∀ j ∈ b, j < js.length) → Row w AJ (jc js) → Row w (some Ab) (ic (natI b)) → BestIs B w t s → t.n + 8 ^ m ≤ 1000000000 →
      Calls Try.prog 158 #[.slice AJ js.length cJ, .slice (some Ab) b.length cb, .int .i64 o, bestV t s] w (TryOut B w (specTry o js m b t)))
    (b : List Nat) (t : Bst) (s : Value) (Ab : Addr) (cb : Nat) (w : World) (hB : B ≤ w.heap.size) (hl : b.length + (m + 1) = js.length) (hd : b.Nodup) (hb : ∀ j ∈ b, j < js.length) (hr : Row w AJ (jc js)) (hq : Row w (some Ab) (ic (natI b))) (hs : BestIs B w t s) (hC : t.n + 8 ^ (m + 1) ≤ 1000000000) :
    Calls Try.prog 158 #[.slice AJ js.length cJ, .slice (some Ab) b.length cb, .int .i64 o, bestV t s] w (TryOut B w (specTry o js (m + 1) b t)) := by
  obtain ⟨A, c, rfl, _, _⟩ := own_slice hs
  obtain ⟨h8, _⟩ := good_out hg
  obtain ⟨i0, hi, hz0, hz1, hz2⟩ := info_parts infoI
  have hbl : ((b.length : Int) == js.length) = false := beq_eq_false_iff_ne.2 (by omega)
  have hbl' : ¬ (b.length : Int) = js.length := by omega
  have hM0 := BlockIs.new w 107 #[.slice A t.first.length c, .int .i64 t.v, .int .i64 (t.n : Int)]
  have hb0 := (Below.refl w.heap.size w).alloc (Nat.le_refl _) (.cells #[.slice A t.first.length c, .int .i64 t.v, .int .i64 (t.n : Int)] 107)
  generalize hw0 : w.alloc (.cells #[.slice A t.first.length c, .int .i64 t.v, .int .i64 (t.n : Int)] 107) = w0 at *
  have hz0' : w0.heap.size = w.heap.size + 1 := by rw [← hw0]; simp
  have hR0 := BlockIs.new w0 107 #[.slice none 0 0, .int .i64 0, .int .i64 0]
  have hM1 := hM0.below ((Below.refl w0.heap.size w0).alloc (Nat.le_refl _) (.cells #[.slice none 0 0, .int .i64 0, .int .i64 0] 107))
  have hb1 := hb0.alloc (by omega) (.cells #[.slice none 0 0, .int .i64 0, .int .i64 0] 107)
  rw [hz0'] at hR0
  have HX := Lib.hid (And.intro hR0 (And.intro hM1 (And.intro hb1 (hs.below hb1))))
  have HZB := Lib.hid hB
  clear hR0 hM1 hb1 hM0 hb0
  go_enter Try.func158, Try.ntmps158
  unfold bestV
  go_wp2
  go_loopw [10] (fun i wr => ∃ (k : Nat) (s' : Value), k ≤ js.length ∧ i = .int .i64 k ∧ Hid (BlockIs wr w.heap.size 107 #[s', .int .i64 (tryTo o js m b t k).v, .int .i64 ((tryTo o js m b t k).n : Int)]) ∧ Hid (BlockIs wr (w.heap.size + 1) 107 #[.slice none 0 0, .int .i64 0, .int .i64 0]) ∧ Hid (BestIs B wr (tryTo o js m b t k) s') ∧ Hid (Below w.heap.size w wr)) (fun i _ => js.length - (intOf i).toNat)
  case atStart => exact ⟨0, .slice A t.first.length c, Nat.zero_le _, rfl, Lib.hid HX.out.2.1, Lib.hid HX.out.1, Lib.hid HX.out.2.2.2, Lib.hid HX.out.2.2.1⟩
  case round =>
    obtain ⟨k, s', hk, rfl, HM, HR, HSB, HB⟩ := hrel
    clear HX
    obtain ⟨A', c', rfl, _, _⟩ := own_slice HSB.out
    have HZ := Lib.hid HB.out.size
    have hz2' : w.heap.size + 1 < wr.heap.size := HR.out.lt
    by_cases hlt : k < js.length
    · have hhas := l1Has_any (some Ab) cb (natI b) (k : Int) wr (hq.below HB.out) (by rw [natI_len]; omega)
      rw [natI_len] at hhas
      have HHAS := Lib.hid hhas
      clear hhas
      by_cases hin : k ∈ b
      · have HT1 := Lib.hid (tryTo_in (o := o) (js := js) (m := m) (t := t) hin)
        have hh := hasI_yes (natI_mem.2 hin)
        go_wp2_with fail
        refine HHAS.out.mono ?_
        rintro e _ ⟨rfl, rfl⟩
        rw [hh]
        go_wp2
        go_roundw
        case rel => exact ⟨k + 1, .slice A' (tryTo o js m b t k).first.length c', by omega, by go_num, by rw [HT1.out]; exact HM, HR, by rw [HT1.out]; exact HSB, HB⟩
        case measure => simp [intOf]; omega
      · have HT1 := Lib.hid (tryTo_out (o := o) (js := js) (m := m) (t := t) hin)
        have hh := hasI_no (fun h => hin (natI_mem.1 h))
        have HCAP := Lib.hid (tryTo_cap (o := o) h8 (m := m) (b := b) (t := t) hlt hC)
        have HND := Lib.hid (show (b ++ [k]).Nodup from List.nodup_append.2 ⟨hd, by simp, by intro x hx y hy; simp at hy; subst hy; exact fun e => hin (e ▸ hx)⟩)
        have HLT := Lib.hid (show ∀ j ∈ b ++ [k], j < js.length from fun j hj => by
          rcases List.mem_append.1 hj with h | h
          · exact hb j h
          · rw [List.mem_singleton.1 h]; exact hlt)
        have HOWN : ∀ w' : World, Below w.heap.size wr w' → Calls Try.prog 115 #[.slice (some Ab) b.length cb] w' fun e w'' => ∃ ad' c', e = .returned (.slice (some ad') b.length c') ∧ w''.ownsRow w'.heap.size 3 1 (.slice (some ad') b.length c') b.length (ic (natI b)) ∧ Below w'.heap.size w' w'' := fun w' hb9 => by
          have h := l1Own_some Ab cb (natI b) w' (hq.below (HB.out.trans hb9)) (by rw [natI_len]; omega)
          rwa [natI_len] at h
        have hkb : b.length < 9 := by omega
        go_wp2_with fail
        refine HHAS.out.mono ?_
        rintro e _ ⟨rfl, rfl⟩
        rw [hh]
        go_wp2
        refine wp_region_detK (by kernel_rfl) (fun x L w' => Below w.heap.size wr w' ∧ (L.getD 9 true = false → Below wr.heap.size wr w') ∧ (L.getD 2 true = true → L.getD 5 true = false → w'.ownsRow wr.heap.size 3 1 x.1 b.length (ic (natI b))) ∧ (L.getD 4 true = true → L.getD 5 true = false → BlockIs w' x.2.1 3 #[.int .i64 (k : Int)]) ∧ (L.getD 5 true = true → L.getD 8 true = false → w'.ownsRow wr.heap.size 3 1 x.2.2.1 (b.length + 1) (ic (natI (b ++ [k])))) ∧ (L.getD 8 true = true → L.getD 5 true = true ∧ BestIs B w' (tryTo o js m b t (k + 1)) x.2.2.2) ∧ (L.getD 9 true = true → L.getD 8 true = true ∧ BlockIs w' w.heap.size 107 #[x.2.2.2, .int .i64 (tryTo o js m b t (k + 1)).v, .int .i64 ((tryTo o js m b t (k + 1)).n : Int)] ∧ BlockIs w' (w.heap.size + 1) 107 #[.slice none 0 0, .int .i64 0, .int .i64 0]))
          (fun x kk => #[.slice AJ js.length cJ, .slice (some Ab) b.length cb, x.1, .int .i64 (k : Int), .slice (some ⟨x.2.1, 0, none⟩) 1 1, x.2.2.1, .int .i64 o, .agg #[.slice A' (tryTo o js m b t k).first.length c', .int .i64 (tryTo o js m b t k).v, .int .i64 ((tryTo o js m b t k).n : Int)], bestV (tryTo o js m b t (k + 1)) x.2.2.2, undef].getD kk undef) (undef, 0, undef, undef) (by kernel_rfl) (by kernel_rfl) ⟨(Below.refl _ _).drew, (fun _ => (Below.refl _ _).drew), (fun h => by cases h), (fun h => by cases h), (fun h => by cases h), (fun h => by cases h), fun h => by cases h⟩ ?_ ?_
        · intro x L tm w' hall hS hsz hlow hval
          have ht : tm = #[.slice AJ js.length cJ, .slice (some Ab) b.length cb, .int .i64 o, .agg #[.slice A t.first.length c, .int .i64 t.v, .int .i64 (t.n : Int)], undef, undef, undef, .pointer (some ⟨w.heap.size, 0, none⟩), .pointer (some ⟨w.heap.size + 1, 0, none⟩), undef, .int .i64 (k : Int), .slice (some Ab) b.length cb, .int .i64 (b.length : Int), .slice AJ js.length cJ, .int .i64 (js.length : Int), .bool false, undef, undef, undef, undef, undef, undef, undef, undef, undef, undef, undef, undef, undef, undef, undef, undef, undef, undef, undef, undef, undef, undef, undef, undef, undef, undef, .int .i64 (k : Int), .slice AJ js.length cJ, .int .i64 (js.length : Int), .bool true, u46, u47, .slice (some Ab) b.length cb, .int .i64 (k : Int), .bool false, .bool true, .slice AJ js.length cJ, .slice (some Ab) b.length cb, x.1, .int .i64 (k : Int), .slice (some ⟨x.2.1, 0, none⟩) 1 1, x.2.2.1, .int .i64 o, .agg #[.slice A' (tryTo o js m b t k).first.length c', .int .i64 (tryTo o js m b t k).v, .int .i64 ((tryTo o js m b t k).n : Int)], bestV (tryTo o js m b t (k + 1)) x.2.2.2, undef] := by
            refine arr_of _ _ hsz fun t ht => ?_
            have ht' : t < 62 := ht
            rcases (by omega : t = 0 ∨ t = 1 ∨ t = 2 ∨ t = 3 ∨ t = 4 ∨ t = 5 ∨ t = 6 ∨ t = 7 ∨ t = 8 ∨ t = 9 ∨ t = 10 ∨ t = 11 ∨ t = 12 ∨ t = 13 ∨ t = 14 ∨ t = 15 ∨ t = 16 ∨ t = 17 ∨ t = 18 ∨ t = 19 ∨ t = 20 ∨ t = 21 ∨ t = 22 ∨ t = 23 ∨ t = 24 ∨ t = 25 ∨ t = 26 ∨ t = 27 ∨ t = 28 ∨ t = 29 ∨ t = 30 ∨ t = 31 ∨ t = 32 ∨ t = 33 ∨ t = 34 ∨ t = 35 ∨ t = 36 ∨ t = 37 ∨ t = 38 ∨ t = 39 ∨ t = 40 ∨ t = 41 ∨ t = 42 ∨ t = 43 ∨ t = 44 ∨ t = 45 ∨ t = 46 ∨ t = 47 ∨ t = 48 ∨ t = 49 ∨ t = 50 ∨ t = 51 ∨ t = 52 ∨ t = 53 ∨ t = 54 ∨ t = 55 ∨ t = 56 ∨ t = 57 ∨ t = 58 ∨ t = 59 ∨ t = 60 ∨ t = 61) with rfl | rfl | rfl | rfl | rfl | rfl | rfl | rfl | rfl | rfl | rfl | rfl | rfl | rfl | rfl | rfl | rfl | rfl | rfl | rfl | rfl | rfl | rfl | rfl | rfl | rfl | rfl | rfl | rfl | rfl | rfl | rfl | rfl | rfl | rfl | rfl | rfl | rfl | rfl | rfl | rfl | rfl | rfl | rfl | rfl | rfl | rfl | rfl | rfl | rfl | rfl | rfl | rfl | rfl | rfl | rfl | rfl | rfl | rfl | rfl | rfl | rfl
            · exact hlow 0 (by kernel_rfl)
            · exact hlow 1 (by kernel_rfl)
            · exact hlow 2 (by kernel_rfl)
            · exact hlow 3 (by kernel_rfl)
            · exact hlow 4 (by kernel_rfl)
            · exact hlow 5 (by kernel_rfl)
            · exact hlow 6 (by kernel_rfl)
            · exact hlow 7 (by kernel_rfl)
            · exact hlow 8 (by kernel_rfl)
            · exact hlow 9 (by kernel_rfl)
            · exact hlow 10 (by kernel_rfl)
            · exact hlow 11 (by kernel_rfl)
            · exact hlow 12 (by kernel_rfl)
            · exact hlow 13 (by kernel_rfl)
            · exact hlow 14 (by kernel_rfl)
            · exact hlow 15 (by kernel_rfl)
            · exact hlow 16 (by kernel_rfl)
            · exact hlow 17 (by kernel_rfl)
            · exact hlow 18 (by kernel_rfl)
            · exact hlow 19 (by kernel_rfl)
            · exact hlow 20 (by kernel_rfl)
            · exact hlow 21 (by kernel_rfl)
            · exact hlow 22 (by kernel_rfl)
            · exact hlow 23 (by kernel_rfl)
            · exact hlow 24 (by kernel_rfl)
            · exact hlow 25 (by kernel_rfl)
            · exact hlow 26 (by kernel_rfl)
            · exact hlow 27 (by kernel_rfl)
            · exact hlow 28 (by kernel_rfl)
            · exact hlow 29 (by kernel_rfl)
            · exact hlow 30 (by kernel_rfl)
            · exact hlow 31 (by kernel_rfl)
            · exact hlow 32 (by kernel_rfl)
            · exact hlow 33 (by kernel_rfl)
            · exact hlow 34 (by kernel_rfl)
            · exact hlow 35 (by kernel_rfl)
            · exact hlow 36 (by kernel_rfl)
            · exact hlow 37 (by kernel_rfl)
            · exact hlow 38 (by kernel_rfl)
            · exact hlow 39 (by kernel_rfl)
            · exact hlow 40 (by kernel_rfl)
            · exact hlow 41 (by kernel_rfl)
            · exact hlow 42 (by kernel_rfl)
            · exact hlow 43 (by kernel_rfl)
            · exact hlow 44 (by kernel_rfl)
            · exact hlow 45 (by kernel_rfl)
            · exact hlow 46 (by kernel_rfl)
            · exact hlow 47 (by kernel_rfl)
            · exact hlow 48 (by kernel_rfl)
            · exact hlow 49 (by kernel_rfl)
            · exact hlow 50 (by kernel_rfl)
            · exact hlow 51 (by kernel_rfl)
            · exact hval 0 _ 52 rfl rfl
            · exact hval 1 _ 53 rfl rfl
            · exact hval 2 _ 54 rfl rfl
            · exact hval 3 _ 55 rfl rfl
            · exact hval 4 _ 56 rfl rfl
            · exact hval 5 _ 57 rfl rfl
            · exact hval 6 _ 58 rfl rfl
            · exact hval 7 _ 59 rfl rfl
            · exact hval 8 _ 60 rfl rfl
            · exact hlow 61 (by kernel_rfl)
          subst ht
          clear hlow hval hsz
          obtain ⟨hb0, _, _, _, _, hS8, hS9⟩ := hS
          have HBS := Lib.hid (hS8 (hall 8 (by decide))).2
          have HM9 := Lib.hid (hS9 (hall 9 (by decide))).2
          have HB9 := Lib.hid (HB.out.trans hb0)
          clear hS8 hS9 hall hb0
          go_wp2
          go_roundw
          case rel => exact ⟨k + 1, x.2.2.2, by omega, by go_num, Lib.hid HM9.out.1, Lib.hid HM9.out.2, HBS, HB9⟩
          case measure => simp [intOf]; omega
        · intro x L a w' kk op hLs ho hLi hLd hLn ⟨hS0, hS1, hS2, hS4, hS5, hS8, hS9⟩ hlow hdep hold
          have hkk : kk < 10 := (Array.getElem?_eq_some_iff.1 ho).1
          have l0 : a.tmps[0]?.getD undef = .slice AJ js.length cJ := by rw [← Array.getD_eq_getD_getElem?]; exact hlow 0 (by kernel_rfl)
          have l1 : a.tmps[1]?.getD undef = .slice (some Ab) b.length cb := by rw [← Array.getD_eq_getD_getElem?]; exact hlow 1 (by kernel_rfl)
          have l2 : a.tmps[2]?.getD undef = .int .i64 o := by rw [← Array.getD_eq_getD_getElem?]; exact hlow 2 (by kernel_rfl)
          have l7 : a.tmps[7]?.getD undef = .pointer (some ⟨w.heap.size, 0, none⟩) := by rw [← Array.getD_eq_getD_getElem?]; exact hlow 7 (by kernel_rfl)
          have l10 : a.tmps[10]?.getD undef = .int .i64 (k : Int) := by rw [← Array.getD_eq_getD_getElem?]; exact hlow 10 (by kernel_rfl)
          have D : ∀ j oj d, edgeB _ kk j = true → _ → _ → a.tmps[d]?.getD undef = _ := fun j oj d h1 h2 h3 => (Array.getD_eq_getD_getElem? ..).symm.trans (hdep j oj d h1 h2 h3)
          have K : ∀ {kk : Nat}, kk ≠ 2 → kk ≠ 4 → kk ≠ 5 → kk ≠ 8 → kk ≠ 9 → Below w.heap.size wr w' ∧ ((L.setIfInBounds kk true).getD 9 true = false → Below wr.heap.size wr w') ∧ ((L.setIfInBounds kk true).getD 2 true = true → (L.setIfInBounds kk true).getD 5 true = false → w'.ownsRow wr.heap.size 3 1 x.1 b.length (ic (natI b))) ∧ ((L.setIfInBounds kk true).getD 4 true = true → (L.setIfInBounds kk true).getD 5 true = false → BlockIs w' x.2.1 3 #[.int .i64 (k : Int)]) ∧ ((L.setIfInBounds kk true).getD 5 true = true → (L.setIfInBounds kk true).getD 8 true = false → w'.ownsRow wr.heap.size 3 1 x.2.2.1 (b.length + 1) (ic (natI (b ++ [k])))) ∧ ((L.setIfInBounds kk true).getD 8 true = true → (L.setIfInBounds kk true).getD 5 true = true ∧ BestIs B w' (tryTo o js m b t (k + 1)) x.2.2.2) ∧ ((L.setIfInBounds kk true).getD 9 true = true → (L.setIfInBounds kk true).getD 8 true = true ∧ BlockIs w' w.heap.size 107 #[x.2.2.2, .int .i64 (tryTo o js m b t (k + 1)).v, .int .i64 ((tryTo o js m b t (k + 1)).n : Int)] ∧ BlockIs w' (w.heap.size + 1) 107 #[.slice none 0 0, .int .i64 0, .int .i64 0]) := fun h2 h4 h5 h8 h9 => ⟨hS0, by rw [set_ne h9]; exact hS1, by rw [set_ne h2, set_ne h5]; exact hS2, by rw [set_ne h4, set_ne h5]; exact hS4, by rw [set_ne h5, set_ne h8]; exact hS5, by rw [set_ne h8, set_ne h5]; exact hS8, by rw [set_ne h9, set_ne h8]; exact hS9⟩
          have N9 : L.getD 8 true = false → L.getD 9 true = false := fun h => by
            cases h9 : L.getD 9 true
            · rfl
            · have := (hS9 h9).1; rw [h] at this; cases this
          have hqw := hq.below (HB.out.trans (hS0.mono (Nat.le_refl _)))
          rcases (by omega : kk = 0 ∨ kk = 1 ∨ kk = 2 ∨ kk = 3 ∨ kk = 4 ∨ kk = 5 ∨ kk = 6 ∨ kk = 7 ∨ kk = 8 ∨ kk = 9) with rfl | rfl | rfl | rfl | rfl | rfl | rfl | rfl | rfl | rfl
          · obtain rfl := Option.some.inj ho
            exact ⟨rfl, .inl ⟨x, w', fun _ _ => rfl, by simp [execOp, Act.eval, l0, go_sem], K (by decide) (by decide) (by decide) (by decide) (by decide)⟩⟩
          · obtain rfl := Option.some.inj ho
            exact ⟨rfl, .inl ⟨x, w', fun _ _ => rfl, by simp [execOp, Act.eval, l1, go_sem], K (by decide) (by decide) (by decide) (by decide) (by decide)⟩⟩
          · obtain rfl := Option.some.inj ho
            have e53 : a.tmps[53]?.getD undef = .slice (some Ab) b.length cb := D 1 _ 53 (by kernel_rfl) rfl rfl
            refine ⟨rfl, .inr (.inl ⟨115, #[.slice (some Ab) b.length cb], by simp [execOp, Act.eval, e53, go_sem], (HOWN w' hS0).mono ?_⟩)⟩
            rintro e w'' ⟨ad', c', rfl, hown, hb4⟩
            refine ⟨(.slice (some ad') b.length c', x.2), fun j hj => ?_, rfl, hS0.trans (hb4.mono (Nat.le_trans HZ.out hS0.size)), (fun h => ?_), (fun _ _ => own_lower hown hS0.size), (fun h h' => ?_), (fun h => ?_), (fun h => ?_), fun h => ?_⟩
            · have n2 : j ≠ 2 := fun e => by subst e; rw [hLi] at hj; cases hj
              exact but_t2 j n2
            · rw [set_ne (by decide)] at h; exact (hS1 h).trans (hb4.mono (hS1 h).size)
            · rw [set_ne (by decide)] at h h'; exact (hS4 h h').below hb4
            · rw [set_ne (by decide), hLn 5 (by kernel_rfl)] at h; cases h
            · rw [set_ne (by decide)] at h ⊢; exact ⟨(hS8 h).1, (hS8 h).2.below hb4⟩
            · rw [set_ne (by decide)] at h ⊢; exact ⟨(hS9 h).1, (hS9 h).2.1.below hb4, (hS9 h).2.2.below hb4⟩
          · obtain rfl := Option.some.inj ho
            exact ⟨rfl, .inl ⟨x, w', fun _ _ => rfl, by simp [execOp, Act.eval, l10, go_sem], K (by decide) (by decide) (by decide) (by decide) (by decide)⟩⟩
          · obtain rfl := Option.some.inj ho
            have e55 : a.tmps[55]?.getD undef = .int .i64 (k : Int) := D 3 _ 55 (by kernel_rfl) rfl rfl
            refine ⟨rfl, .inl ⟨(x.1, w'.heap.size, x.2.2), w'.alloc (.cells #[.int .i64 (k : Int)] 3), fun j hj => ?_, by simp [execOp, Act.eval, e55, go_sem], hS0.alloc (Nat.le_trans HZ.out hS0.size) _, (fun h => ?_), (fun h h' => ?_), (fun _ _ => BlockIs.new _ _ _), (fun h => ?_), (fun h => ?_), fun h => ?_⟩⟩
            · have n4 : j ≠ 4 := fun e => by subst e; rw [hLi] at hj; cases hj
              exact but_t4 j n4
            · rw [set_ne (by decide)] at h; exact (hS1 h).alloc (hS1 h).size _
            · rw [set_ne (by decide)] at h h'; exact (hS2 h h').alloc _
            · rw [set_ne (by decide), hLn 5 (by kernel_rfl)] at h; cases h
            · rw [set_ne (by decide)] at h ⊢; exact ⟨(hS8 h).1, (hS8 h).2.below ((Below.refl w'.heap.size w').alloc (Nat.le_refl _) (.cells #[.int .i64 (k : Int)] 3))⟩
            · rw [set_ne (by decide)] at h ⊢; exact ⟨(hS9 h).1, (hS9 h).2.1.below ((Below.refl w'.heap.size w').alloc (Nat.le_refl _) (.cells #[.int .i64 (k : Int)] 3)), (hS9 h).2.2.below ((Below.refl w'.heap.size w').alloc (Nat.le_refl _) (.cells #[.int .i64 (k : Int)] 3))⟩
          · obtain rfl := Option.some.inj ho
            have e54 : a.tmps[54]?.getD undef = x.1 := D 2 _ 54 (by kernel_rfl) rfl rfl
            have e56 : a.tmps[56]?.getD undef = .slice (some ⟨x.2.1, 0, none⟩) 1 1 := D 4 _ 56 (by kernel_rfl) rfl rfl
            have x54 : a.eval (.tmp 54) = x.1 := by simp [Act.eval, e54]
            have x56 : a.eval (.tmp 56) = .slice (some ⟨x.2.1, 0, none⟩) 1 1 := by simp [Act.eval, e56]
            have hown := hS2 (hLd 2 (by kernel_rfl)) hLi
            have hB8 := hS4 (hLd 4 (by kernel_rfl)) hLi
            have f8 : L.getD 8 true = false := hLn 8 (by kernel_rfl)
            have hsrc : ∀ j u, (ic [(k : Int)])[j]? = some u → w'.cell? ((⟨x.2.1, 0, none⟩ : Addr).add j) = some u := fun j u hu => by rw [Addr.add_lit, Nat.zero_add, hB8.cell, ← Array.getElem?_toList]; exact hu
            obtain ⟨v', w'', hrun, hown', hgrow, hnil⟩ := run_append_own (P := Try.prog) w' wr.heap.size 25 25 3 i0 (.int .i64 0) 1 8 Try.underlying25 hi hz0 hz1 hz2 rfl (by decide) x.1 b.length _ hown ⟨x.2.1, 0, none⟩ 1 1 (ic [(k : Int)]) rfl hsrc ic_one (by unfold maxLen; omega) (by omega) hS0.size
            have hS1' := hS1 (N9 f8)
            have hbz : Below wr.heap.size wr w'' := hS1'.grown hgrow hS1'.size (fun b hb => (hown.lt b hb).1)
            refine ⟨rfl, .inl ⟨(x.1, x.2.1, v', x.2.2.2), w'', fun j hj => ?_, exec_append rfl x54 x56 hrun, hbz.mono HZ.out, (fun _ => hbz), (fun _ h => ?_), (fun _ h => ?_), (fun _ _ => ?_), (fun h => ?_), fun h => ?_⟩⟩
            · have n5 : j ≠ 5 := fun e => by subst e; rw [hLi] at hj; cases hj
              exact but_t5 j n5
            · rw [set_eq (by rw [hLs]; decide)] at h; cases h
            · rw [set_eq (by rw [hLs]; decide)] at h; cases h
            · have hx : ic (natI b) ++ ic [(k : Int)] = ic (natI (b ++ [k])) := by rw [natI_snoc]; unfold ic; simp
              rw [hx] at hown'; exact hown'
            · rw [set_ne (by decide), f8] at h; cases h
            · rw [set_ne (by decide), N9 f8] at h; cases h
          · obtain rfl := Option.some.inj ho
            exact ⟨rfl, .inl ⟨x, w', fun _ _ => rfl, by simp [execOp, Act.eval, l2, go_sem], K (by decide) (by decide) (by decide) (by decide) (by decide)⟩⟩
          · obtain rfl := Option.some.inj ho
            have hM := HM.out.below (hS1 (N9 (hLn 8 (by kernel_rfl))))
            have hc0 := hM.cell 0
            have hc1 := hM.cell 1
            have hc2 := hM.cell 2
            simp at hc0 hc1 hc2
            exact ⟨rfl, .inl ⟨x, w', fun _ _ => rfl, by simp [execOp, Act.eval, l7, hc0, hc1, hc2, go_sem], K (by decide) (by decide) (by decide) (by decide) (by decide)⟩⟩
          · obtain rfl := Option.some.inj ho
            have e52 : a.tmps[52]?.getD undef = .slice AJ js.length cJ := D 0 _ 52 (by kernel_rfl) rfl rfl
            have e57 : a.tmps[57]?.getD undef = x.2.2.1 := D 5 _ 57 (by kernel_rfl) rfl rfl
            have e58 : a.tmps[58]?.getD undef = .int .i64 o := D 6 _ 58 (by kernel_rfl) rfl rfl
            have e59 : a.tmps[59]?.getD undef = .agg #[.slice A' (tryTo o js m b t k).first.length c', .int .i64 (tryTo o js m b t k).v, .int .i64 ((tryTo o js m b t k).n : Int)] := D 7 _ 59 (by kernel_rfl) rfl rfl
            have hown := hS5 (hLd 5 (by kernel_rfl)) hLi
            obtain ⟨A9, c9, hx9, _, hrow9⟩ := own_slice hown
            rw [hx9] at e57
            have hS1' := hS1 (N9 hLi)
            obtain ⟨a9, hA9, _⟩ := hrow9 (by rw [ic_len, natI_len]; simp)
            have HH := IH (b ++ [k]) (tryTo o js m b t k) (.slice A' (tryTo o js m b t k).first.length c') a9 c9 w' (Nat.le_trans HZB.out (Nat.le_trans HZ.out hS0.size)) (by simp; omega) HND.out HLT.out (hr.below (HB.out.trans (hS0.mono (Nat.le_refl _)))) (by rw [← hA9]; exact hrow9) (HSB.out.below hS1') HCAP.out
            rw [← HT1.out, ← hA9, show (b ++ [k]).length = b.length + 1 by simp] at HH
            refine ⟨rfl, .inr (.inl ⟨158, #[.slice AJ js.length cJ, .slice A9 (b.length + 1) c9, .int .i64 o, .agg #[.slice A' (tryTo o js m b t k).first.length c', .int .i64 (tryTo o js m b t k).v, .int .i64 ((tryTo o js m b t k).n : Int)]], by simp [execOp, Act.eval, e52, e57, e58, e59, go_sem], (HH).mono ?_⟩)⟩
            rintro e w'' ⟨s9, rfl, hbs, hb5⟩
            refine ⟨(x.1, x.2.1, x.2.2.1, s9), fun j hj => ?_, rfl, hS0.trans (hb5.mono (Nat.le_trans HZ.out hS0.size)), (fun _ => hS1'.trans (hb5.mono hS1'.size)), (fun h h' => ?_), (fun h h' => ?_), (fun _ h => ?_), (fun _ => ⟨by rw [set_ne (by decide)]; exact hLd 5 (by kernel_rfl), hbs⟩), fun h => ?_⟩
            · have n8 : j ≠ 8 := fun e => by subst e; rw [hLi] at hj; cases hj
              have f9 := N9 hLi
              have n9 : j ≠ 9 := fun e => by subst e; rw [f9] at hj; cases hj
              exact but_t8 j n8
            · rw [set_ne (by decide), hLd 5 (by kernel_rfl)] at h'; cases h'
            · rw [set_ne (by decide), hLd 5 (by kernel_rfl)] at h'; cases h'
            · rw [set_eq (by rw [hLs]; decide)] at h; cases h
            · rw [set_ne (by decide), N9 hLi] at h; cases h
          · obtain rfl := Option.some.inj ho
            have e60 : a.tmps[60]?.getD undef = bestV (tryTo o js m b t (k + 1)) x.2.2.2 := D 8 _ 60 (by kernel_rfl) rfl rfl
            obtain ⟨HL5, hbs⟩ := hS8 (hLd 8 (by kernel_rfl))
            obtain ⟨A9, c9, hx9, _, _⟩ := own_slice hbs
            have f9 : L.getD 9 true = false := hLi
            have hS1' := hS1 f9
            have hM := HM.out.below hS1'
            have hR := HR.out.below hS1'
            have hc0 := hM.cell 0
            have hc1 := hM.cell 1
            have hc2 := hM.cell 2
            have hf0 := hM.frozen 0
            have hf1 := hM.frozen 1
            have hf2 := hM.frozen 2
            simp at hc0 hc1 hc2
            refine ⟨rfl, .inr (.inr ⟨x, ((w'.setCell ⟨w.heap.size, 0, none⟩ x.2.2.2).setCell ⟨w.heap.size, 1, none⟩ (.int .i64 (tryTo o js m b t (k + 1)).v)).setCell ⟨w.heap.size, 2, none⟩ (.int .i64 ((tryTo o js m b t (k + 1)).n : Int)), fun _ _ => rfl, rfl, ?_, ((hS0.setCell (Nat.le_refl _) _).setCell (Nat.le_refl _) _).setCell (Nat.le_refl _) _, (fun h => ?_), (fun h h' => ?_), (fun h h' => ?_), (fun _ h => ?_), (fun _ => ?_), fun _ => ⟨?_, ((hM.set 0 _).set 1 _).set 2 _, ?_⟩⟩)⟩
            · rw [hx9] at e60 ⊢; unfold bestV at e60; simp [execOp, Act.eval, e60, l7, hc0, hc1, hc2, hf0, hf1, hf2, go_sem]
            · rw [set_eq (by rw [hLs]; decide)] at h; cases h
            · rw [set_ne (by decide), HL5] at h'; cases h'
            · rw [set_ne (by decide), HL5] at h'; cases h'
            · rw [set_ne (by decide), hLd 8 (by kernel_rfl)] at h; cases h
            · exact ⟨by rw [set_ne (by decide)]; exact HL5, own_set3 hbs hM _ _ _⟩
            · rw [set_ne (by decide)]; exact hLd 8 (by kernel_rfl)
            · exact ((hR.set_ne' (by omega) _ _).set_ne' (by omega) _ _).set_ne' (by omega) _ _
    · obtain rfl : k = js.length := by omega
      have HT := Lib.hid (show specTry o js (m + 1) b t = tryTo o js m b t js.length from rfl)
      have hm0 := HM.out.cell 0
      have hm1 := HM.out.cell 1
      have hm2 := HM.out.cell 2
      have hr0 := HR.out.cell 0
      have hr1 := HR.out.cell 1
      have hr2 := HR.out.cell 2
      have hf0 := HR.out.frozen 0
      have hf1 := HR.out.frozen 1
      have hf2 := HR.out.frozen 2
      simp at hm0 hm1 hm2 hr0 hr1 hr2
      go_wp2
      (try simp only [Exit.inBlock, Exit.then])
      refine bodyPost_ret (v := .agg #[.slice A' (tryTo o js m b t js.length).first.length c', .int .i64 (tryTo o js m b t js.length).v, .int .i64 ((tryTo o js m b t js.length).n : Int)]) (by simp [results, Try.results158, hr0, hr1, hr2, go_sem]) rfl ?_
      have hbz := (((HB.out.setCell (p := ⟨w.heap.size + 1, 0, none⟩) (by simp) (.slice A' (tryTo o js m b t js.length).first.length c')).setCell (p := ⟨w.heap.size + 1, 1, none⟩) (by simp) (.int .i64 (tryTo o js m b t js.length).v)).setCell (p := ⟨w.heap.size + 1, 2, none⟩) (by simp) (.int .i64 ((tryTo o js m b t js.length).n : Int)))
      refine ⟨.slice A' (tryTo o js m b t js.length).first.length c', ?_, ?_, hbz⟩
      · rw [HT.out]; unfold bestV; simp
      · rw [HT.out]
        exact own_set3 HSB.out HR.out _ _ _
include ho
theorem l2Try_any : ∀ (m : Nat) (b : List Nat) (t : Bst) (s : Value) (Ab : Addr) (cb : Nat) (w : World), B ≤ w.heap.size → b.length + m = js.length → b.Nodup → (∀ j ∈ b, j < js.length) → Row w AJ (jc js) → Row w (some Ab) (ic (natI b)) → BestIs B w t s → t.n + 8 ^ m ≤ 1000000000 →
      Calls Try.prog 158 #[.slice AJ js.length cJ, .slice (some Ab) b.length cb, .int .i64 o, bestV t s] w (TryOut B w (specTry o js m b t)) := by
  intro m
  induction m with
  | zero => exact fun b t s Ab cb w hB hl hd hb hr hq hs hC => l2Try_leaf ho hg AJ cJ B b t s Ab cb w hB (by omega) (nodup_perm hd hb (by omega)) hr hq hs (by omega)
  | succ m ih => exact fun b t s Ab cb w hB hl hd hb hr hq hs hC => l2Try_step hg AJ cJ B m ih b t s Ab cb w hB hl hd hb hr hq hs hC
set_option maxRecDepth 100000 in
theorem l2All_any (w : World) (hr : Row w AJ (jc js)) : Calls Try.prog 111 #[.slice AJ js.length cJ, .int .i64 o] w (TryOut w.heap.size w (bestL o js)) := by
  obtain ⟨h8, _⟩ := good_out hg
  have hpw : 8 ^ js.length ≤ 8 ^ 8 := Nat.pow_le_pow_right (by omega) h8
  have hcap : bst0.n + 8 ^ js.length ≤ 1000000000 := by
    have : (8 : Nat) ^ 8 = 16777216 := by decide
    show 0 + _ ≤ _
    omega
  have hb0 := (Below.refl w.heap.size w).alloc (Nat.le_refl _) (.cells #[.slice none 0 0, .int .i64 0, .int .i64 0] 107)
  have hR0 := BlockIs.new w 107 #[.slice none 0 0, .int .i64 0, .int .i64 0]
  generalize hw0 : w.alloc (.cells #[.slice none 0 0, .int .i64 0, .int .i64 0] 107) = w0 at *
  have hz0 : w0.heap.size = w.heap.size + 1 := by rw [← hw0]; simp
  have hb1 := hb0.alloc hb0.size (.cells #[] 3)
  have hR1 := hR0.below ((Below.refl w0.heap.size w0).alloc (Nat.le_refl _) (.cells #[] 3))
  have hcall := l2Try_any ho hg AJ cJ w.heap.size js.length [] bst0 (.slice none 0 0) ⟨w0.heap.size, 0, none⟩ 0 (w0.alloc (.cells #[] 3)) hb1.size (by simp) List.nodup_nil (by simp) (hr.below hb1) (Row.new w0 _ #[]) (World.ownsRow_nil _ _ _ _) hcap
  rw [hz0] at hcall
  have HC := Lib.hid hcall
  have HX := Lib.hid (And.intro hb1 hR1)
  clear hcall hb0 hb1 hR0 hR1 hcap hpw
  go_enter Try.func111, Try.ntmps111
  go_wp2_with fail
  refine HC.out.mono ?_
  rintro e w1 ⟨s', rfl, hbs, hbx⟩
  have hbb := HX.out.1.trans (hbx.mono HX.out.1.size)
  have hR2 := HX.out.2.below hbx
  have HE := Lib.hid (And.intro hbs (And.intro hbb hR2))
  have hr0 := hR2.cell 0
  have hr1 := hR2.cell 1
  have hr2 := hR2.cell 2
  have hf0 := hR2.frozen 0
  have hf1 := hR2.frozen 1
  have hf2 := hR2.frozen 2
  simp at hr0 hr1 hr2
  clear hbs hbx hbb HC HX hR2
  obtain ⟨A, c, rfl, _, _⟩ := own_slice HE.out.1
  unfold bestV
  generalize hv : specTry o js js.length [] bst0 = tt at *
  go_wp2
  (try simp only [Exit.inBlock, Exit.then])
  refine bodyPost_ret (v := .agg #[.slice A tt.first.length c, .int .i64 tt.v, .int .i64 (tt.n : Int)]) (by simp [results, Try.results111, hr0, hr1, hr2, go_sem]) rfl ?_
  have hbz := (((HE.out.2.1.setCell (p := ⟨w.heap.size, 0, none⟩) (Nat.le_refl _) (.slice A tt.first.length c)).setCell (p := ⟨w.heap.size, 1, none⟩) (Nat.le_refl _) (.int .i64 tt.v)).setCell (p := ⟨w.heap.size, 2, none⟩) (Nat.le_refl _) (.int .i64 (tt.n : Int)))
  have HT : bestL o js = tt := hv
  refine ⟨.slice A tt.first.length c, ?_, ?_, hbz⟩
  · rw [HT]; unfold bestV; simp
  · rw [HT]; exact own_set3 HE.out.1 HE.out.2.2 _ _ _
end
end Go.Proofs.Ytgiecjcgidgpfaa
