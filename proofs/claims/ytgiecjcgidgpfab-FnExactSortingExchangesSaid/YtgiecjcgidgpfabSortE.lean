/- SortingExchanges of the model. -/
import Derived.Test.YtgiecjcgidgpfabWrongO
import Derived.Test.YtgiecjcgidgpfabSwapS
import Derived.Test.YtgiecjcgidgpfabOwnSS
import Derived.Test.YtgiecjcgidgpfabOwnM
import Derived.Deep.LoopGhost
namespace Go.Proofs.Ytgiecjcgidgpfab
open Go.RowKit
/-- What a function hands back: two lists of ints, memory of its own in blocks of their own, and a bool. -/
def RetIIB (w : World) (r : List Int × List Int × Bool) (e : Ending) (w' : World) : Prop :=
  ∃ A c A' c' lo lo', e = .returned (.tuple #[.slice A r.1.length c, .slice A' r.2.1.length c', .bool r.2.2]) ∧ Seg w' 3 1 lo (lo + 1) A r.1.length c (ic r.1) ∧ Seg w' 3 1 lo' (lo' + 1) A' r.2.1.length c' (ic r.2.1) ∧
    (w.heap.size ≤ lo ∧ lo < w'.heap.size ∧ w.heap.size ≤ lo' ∧ lo' < w'.heap.size ∧ lo ≠ lo') ∧ Below w.heap.size w w'
theorem seg_single {w : World} {B g n c : Nat} {cs : List Value} (h : w.ownsRow B 3 1 (.slice (some ⟨g, 0, none⟩) n c) n cs) : Seg w 3 1 g (g + 1) (some ⟨g, 0, none⟩) n c cs ∧ B ≤ g ∧ g < w.heap.size := by
  obtain ⟨h1, h2, _⟩ := own_type (g := g) h rfl
  refine ⟨⟨⟨h.1, ?_⟩, fun ad ha => by injection ha with ha; subst ha; exact Nat.lt_succ_self g, h1⟩, h2, h1⟩
  rcases h.2 with ⟨hv, _⟩ | ⟨g', cap, cur, hv, hB, hg, r⟩
  · cases hv
  · have : g = g' := by injection hv with hv _ _; injection hv with hv; injection hv
    subst this
    exact .inr ⟨g, cap, cur, hv, Nat.le_refl _, hg, r⟩
theorem own_addr {w : World} {B n : Nat} {v : Value} {cs : List Value} (h : w.ownsRow B 3 1 v n cs) (hn : v ≠ .slice none 0 0) : ∃ g c, v = .slice (some ⟨g, 0, none⟩) n c := by
  rcases h.2 with ⟨hv, _⟩ | ⟨g, cap, cur, hv, _⟩
  · exact absurd hv hn
  · exact ⟨g, cap, hv⟩
/-- A slice stays as it was through an append to another one. -/
theorem own_beside {wr w1 : World} {B n : Nat} {v v9 : Value} {xs : List Value} {o : Obj} (h : wr.ownsRow B 3 1 v n xs) (hne : v.ownBlock ≠ v9.ownBlock) (hg : (wr.alloc o).grownBy w1 v9.ownBlock) : w1.ownsRow B 3 1 v n xs := by
  have h' := own_blw h ((Below.refl wr.heap.size wr).alloc (Nat.le_refl _) o)
  exact own_to h' fun g hv _ hgl => hg.block g hgl fun e => hne (by rw [hv, e])
def sortO (js : List J) (o : List Int) (ob : Int) : List Int × List Int × Bool := if bothB js o ob then (natI (sortR ob js (natsOf o)).1, natI (sortR ob js (natsOf o)).2, true) else ([], [], false)
theorem sortO_len (js : List J) (o : List Int) (ob : Int) : (sortO js o ob).1.length ≤ 100 ∧ (sortO js o ob).2.1.length ≤ 8 := by
  unfold sortO
  split
  · rename_i h
    obtain ⟨_, p, rfl, _, hl, h8, _⟩ := both_out h
    have h1 := sortGo_len ob js (cntN ob js p + 1) p []
    have h2 := cntN_le ob js p
    have h3 : p.length * p.length ≤ 8 * 8 := Nat.mul_le_mul (by omega) (by omega)
    simp only [natsOf_natI, List.length_map]
    unfold sortR
    simp at h1
    exact ⟨by omega, by omega⟩
  · simp
theorem swI_natI (p : List Nat) (k : Nat) (h : k + 1 < p.length) : swI (natI p) k = natI (swN p k) := by
  unfold swI swN natI
  rw [List.map_set, List.map_set]
  have e1 : (p.map Int.ofNat).getD (k + 1) 0 = Int.ofNat (p.getD (k + 1) 0) := by simp [List.getD, h]
  have e0 : (p.map Int.ofNat).getD k 0 = Int.ofNat (p.getD k 0) := by
    have : k < p.length := by omega
    simp [List.getD, this]
  rw [e1, e0]
/-- What holds of the exchanges when so many are left. -/
structure SortSt (ob : Int) (js : List J) (p0 : List Nat) (gg : Nat) (p q : List Nat) : Prop where
  len : p.length = p0.length
  lt : ∀ j ∈ p, j < js.length
  go : sortGo ob js gg p q = sortR ob js p0
  few : cntN ob js p < gg
  pl : q.length + gg ≤ 200
theorem SortSt.zero {ob : Int} {js : List J} {p : List Nat} (hp : ∀ j ∈ p, j < js.length) (h8 : p.length ≤ 8) : SortSt ob js p (cntN ob js p + 1) p [] := by
  have h2 := cntN_le ob js p
  have h3 : p.length * p.length ≤ 8 * 8 := Nat.mul_le_mul h8 h8
  exact ⟨rfl, hp, rfl, Nat.lt_succ_self _, by simp; omega⟩
theorem SortSt.stop {ob : Int} {js : List J} {p0 p q : List Nat} {gg : Nat} (h : SortSt ob js p0 gg p q) (hv : wrongV ob js p = none) : sortR ob js p0 = (q, p) := by
  rw [← h.go]
  obtain ⟨g', rfl⟩ : ∃ g', gg = g' + 1 := ⟨gg - 1, by have := h.few; omega⟩
  unfold sortGo; rw [hv]
theorem SortSt.step {ob : Int} {js : List J} {p0 p q : List Nat} {gg k : Nat} (h : SortSt ob js p0 gg p q) (hv : wrongV ob js p = some k) : ∃ g', gg = g' + 1 ∧ k + 1 < p.length ∧ SortSt ob js p0 g' (swN p k) (q ++ [k]) := by
  obtain ⟨g', rfl⟩ : ∃ g', gg = g' + 1 := ⟨gg - 1, by have := h.few; omega⟩
  obtain ⟨h1, h2⟩ := wrong_out ob js hv
  have h3 := cnt_swap ob js p k h1 h2
  refine ⟨g', rfl, h1, ⟨by rw [swN_len]; exact h.len, fun j hj => h.lt j ((swN_perm p k h1).mem_iff.1 hj), ?_, by have := h.few; omega, by have := h.pl; simp; omega⟩⟩
  rw [← h.go]
  conv => rhs; unfold sortGo
  rw [hv]
section
variable (A B : Option Addr) (ad : Addr) (c d : Nat) (js : List J) (p0 : List Nat) (ob : Int) (w : World) (hr : Row w A (jc js)) (hq : Row w (some ad) (ic (natI p0))) (hn : js.length ≤ 10000000) (hbo : bothB js (natI p0) ob = true)
include hr hq hn hbo
set_option maxRecDepth 100000 in
set_option maxHeartbeats 4000000 in
theorem spec_SortYes : Calls Try.prog 45 #[.slice A js.length c, .slice (some ad) p0.length d, .int .i64 ob] w (RetIIB w (natI (sortR ob js p0).1, natI (sortR ob js p0).2, true)) := by
  obtain ⟨hu, p, hpp, _, hpl, h8, hlt⟩ := both_out hbo
  have hpe := natI_inj hpp
  subst hpe
  have hok := (good_out (ruled_good hu)).2
  have hru := isRule_of hu
  have hl8 : p0.length ≤ 8 := by omega
  obtain ⟨i0, hi, hz0, hz1, hz2⟩ := info_parts infoI
  have hb0 := (Below.refl w.heap.size w).alloc (Nat.le_refl _) (.cells #[] 3)
  have hown0 : (w.alloc (.cells #[] 3)).ownsRow w.heap.size 3 1 (.slice (some ⟨w.heap.size, 0, none⟩) 0 0) 0 [] := World.ownsRow_made w #[] 0 (Nat.le_refl _) (by unfold maxLen; omega) rfl
  have hbt := l3Both_any A (some ad) c d p0.length js (natI p0) ob _ (by simp) (hr.below hb0) (hq.below hb0) hn (by simp; omega)
  have HBT := Lib.hid hbt
  have H0 := Lib.hid (And.intro hown0 hb0)
  have HST := Lib.hid (SortSt.zero (ob := ob) hlt hl8)
  clear hbt hown0 hb0 hpl
  go_enter Try.func45, Try.ntmps45
  go_wp2_with fail
  refine HBT.out.mono ?_
  rintro e w1 ⟨rfl, hb1⟩
  rw [hbo]
  have H1 := Lib.hid (And.intro (own_blw H0.out.1 hb1) (H0.out.2.trans (hb1.mono H0.out.2.size)))
  have hz1' : w.heap.size < w1.heap.size := by have := hb1.size; simp at this; omega
  clear H0 hb1 HBT
  have hlo := l1Own_some ad d (natI p0) w1 (hq.below H1.out.2) (by simp; omega)
  simp only [List.length_map] at hlo
  have HLO := Lib.hid hlo
  clear hlo
  go_wp2_with fail
  refine HLO.out.mono ?_
  rintro e w2 ⟨ad2, c2, rfl, hown2, hb2⟩
  have hne : (Value.slice (some ad2) p0.length c2).ownBlock ≠ (Value.slice (some ⟨w.heap.size, 0, none⟩) 0 0).ownBlock := fun e => by
    obtain ⟨_, h, _⟩ := own_type hown2 (g := ad2.block) rfl
    have he : ad2.block = w.heap.size := Option.some.inj e
    omega
  have H2 := Lib.hid (And.intro (own_blw H1.out.1 hb2) (And.intro (own_low hown2 H1.out.2.size) (H1.out.2.trans (hb2.mono H1.out.2.size))))
  have HNE := Lib.hid hne
  clear hown2 hb2 H1 HLO hne
  go_wp2_with fail
  refine (l3Wrong_any A (some ad2) c c2 js p0 ob _ (hr.below H2.out.2.2) (Row.of_own H2.out.2.1) hok hru hlt (by omega)).mono ?_
  rintro e w3 ⟨rfl, hb3⟩
  have H3 := Lib.hid (And.intro (own_blw H2.out.1 hb3) (And.intro (own_blw H2.out.2.1 hb3) (H2.out.2.2.trans (hb3.mono H2.out.2.2.size))))
  clear hb3 H2
  go_wp2
  go_loopg [9, 10, 11] (cntN ob js p0 + 1) (fun gg v9 v10 i wr => ∃ (p q : List Nat) (ad3 : Addr) (c3 : Nat), Hid (SortSt ob js p0 gg p q) ∧ v10 = .slice (some ad3) p0.length c3 ∧ i = .int .i64 (wrongN ob js p) ∧ Hid (wr.ownsRow w.heap.size 3 1 v9 q.length (ic (natI q)) ∧ v9 ≠ .slice none 0 0 ∧ (Value.slice (some ad3) p0.length c3).ownBlock ≠ v9.ownBlock ∧ wr.ownsRow w.heap.size 3 1 (.slice (some ad3) p0.length c3) p0.length (ic (natI p)) ∧ Below w.heap.size w wr))
  case atStart => exact ⟨p0, [], ad2, c2, HST, rfl, rfl, ⟨H3.out.1, (fun e => by cases e), HNE.out, H3.out.2.1, H3.out.2.2⟩⟩
  case round =>
    obtain ⟨p, q, ad3, c3, HS, rfl, rfl, HW⟩ := hrel
    clear H3 HST HNE
    rcases wrong_cases ob js p with ⟨hv, hN, _⟩ | ⟨k, hv, hN, _⟩
    · have HE := Lib.hid (HS.out.stop hv)
      have HPL := Lib.hid HS.out.len
      obtain ⟨g9, c9, h9⟩ := own_addr HW.out.1 HW.out.2.1
      subst h9
      rw [hN]
      clear hv hN
      go_wp2
      go_ret3
      obtain ⟨o9, _, hne, o10, hb⟩ := HW.out
      obtain ⟨g10, c10, h10⟩ := own_addr o10 (fun e => by cases e)
      have had : ad3 = ⟨g10, 0, none⟩ ∧ c3 = c10 := by
        injection h10 with e1 _ e3
        injection e1 with e1
        exact ⟨e1, e3⟩
      obtain ⟨rfl, rfl⟩ := had
      obtain ⟨s9, a9, b9⟩ := seg_single o9
      obtain ⟨s10, a10, b10⟩ := seg_single o10
      refine ⟨some ⟨g9, 0, none⟩, c9, some ⟨g10, 0, none⟩, c3, g9, g10, ?_, ?_, ?_, ⟨a9, b9, a10, b10, fun e => hne (by subst e; rfl)⟩, hb⟩
      · rw [HE.out]; simp only [List.length_map]; rw [HPL.out]; rfl
      · rw [HE.out]; simp only [List.length_map]; exact s9
      · rw [HE.out]; simp only [List.length_map]; rw [HPL.out]; exact s10
    · obtain ⟨g', rfl, hk1, hst⟩ := HS.out.step hv
      have HS2 := Lib.hid hst
      have hlen := HS.out.len
      have hql : q.length ≤ 200 := by have := HS.out.pl; omega
      have hk0 : (0 : Int) ≤ k := by omega
      have HSWI := Lib.hid (swI_natI p k hk1)
      rw [hN]
      have hk1' : k + 1 < p0.length := by omega
      have hpl8 : p.length ≤ 8 := by omega
      have HLEN := Lib.hid hlen
      clear hv hN hst HS hk1 hlen
      have hown9 := HW.out.1.alloc (.cells #[.int .i64 (k : Int)] 3)
      have HSRC := row_src (Row.new wr 3 #[.int .i64 (k : Int)])
      go_wp2_with (at_builtin; refine wpList_append_at _ rfl _ _ 32 rfl w.heap.size 3 i0 (.int .i64 0) 1 8 Try.underlying32 hi hz0 hz1 hz2 rfl (by decide) _ _ _ rfl hown9 ⟨wr.heap.size, 0, none⟩ 1 1 [.int .i64 (k : Int)] rfl rfl HSRC (by intro u hu; rw [List.mem_singleton.1 hu]; rfl) (by omega) (by unfold maxLen; omega) (by omega) (by have := HW.out.2.2.2.2.size; simp; omega) ?_; intro v9' w4 hown9' hgrow hob)
      have HB0 : Hid (wr.heap.size ≤ wr.heap.size) := Nat.le_refl _
      have hbe : Below w.heap.size w w4 := (HW.out.2.2.2.2.alloc HW.out.2.2.2.2.size _).grown hgrow (by have := HW.out.2.2.2.2.size; simp; omega) (fun j hj => (HW.out.1.lt j hj).1)
      have h10 := own_beside HW.out.2.2.2.1 HW.out.2.2.1 hgrow
      have hne4 : (Value.slice (some ad3) p0.length c3).ownBlock ≠ v9'.ownBlock := fun e => by
        rcases hob with h | h
        · exact HW.out.2.2.1 (e.trans h)
        · have := (HW.out.2.2.2.1.lt ad3.block rfl).2
          rw [h] at e
          have he : ad3.block = (wr.alloc (.cells #[.int .i64 (k : Int)] 3)).heap.size := Option.some.inj e
          simp at he
          omega
      have hnn : v9' ≠ .slice none 0 0 := fun e => by
        subst e
        rcases hown9'.2 with ⟨_, h0⟩ | ⟨g, cap, cur, hv, _⟩
        · omega
        · cases hv
      have hx : ic (natI q) ++ [Value.int .i64 (k : Int)] = ic (natI (q ++ [k])) := by unfold ic natI; simp
      rw [hx] at hown9'
      have H4 := Lib.hid (And.intro hown9' (And.intro hnn (And.intro hne4 (And.intro h10 hbe))))
      have hsw := l2Swap_any ad3 c3 (natI p) k w4 (Row.of_own h10) (by simp; omega) (by simp; have := HLEN.out; omega)
      rw [HSWI.out] at hsw
      simp only [List.length_map] at hsw
      rw [HLEN.out] at hsw
      have HSW := Lib.hid hsw
      clear hown9' hgrow hob hbe h10 hne4 hnn hx hsw hown9 HSRC HB0 HW
      go_wp2_with fail
      refine HSW.out.mono ?_
      rintro e w5 ⟨v5, rfl, hown5, hb5⟩
      have hp0 : 0 < p0.length := by omega
      obtain ⟨g5, c5, h5⟩ := own_addr hown5 (fun e => by
        subst e
        rcases hown5.2 with ⟨_, h0⟩ | ⟨g, cap, cur, hv, _⟩
        · omega
        · cases hv)
      subst h5
      have hlt5 := (own_type hown5 (g := g5) rfl).2.1
      have H5 := Lib.hid (And.intro (own_blw H4.out.1 hb5) (And.intro (own_low hown5 H4.out.2.2.2.2.size) (H4.out.2.2.2.2.trans (hb5.mono H4.out.2.2.2.2.size))))
      have hne5 : (Value.slice (some ⟨g5, 0, none⟩) p0.length c5).ownBlock ≠ v9'.ownBlock := fun e => by
        have := (H4.out.1.lt g5 e.symm).2
        omega
      have HNE5 := Lib.hid (And.intro H4.out.2.1 hne5)
      have hwr := l3Wrong_any A (some ⟨g5, 0, none⟩) c c5 js (swN p k) ob w5 (hr.below H5.out.2.2) (Row.of_own H5.out.2.1) hok hru HS2.out.lt (by rw [swN_len]; omega)
      rw [swN_len, HLEN.out] at hwr
      have HWR := Lib.hid hwr
      clear hown5 hb5 hlt5 hne5 hwr H4 HSW
      go_wp2_with fail
      refine HWR.out.mono ?_
      rintro e w6 ⟨rfl, hb6⟩
      have H6 := Lib.hid (And.intro (own_blw H5.out.1 hb6) (And.intro (own_blw H5.out.2.1 hb6) (H5.out.2.2.trans (hb6.mono H5.out.2.2.size))))
      clear H5 hb6 HWR
      go_wp2
      go_roundg g'
      case rel => exact ⟨swN p k, q ++ [k], ⟨g5, 0, none⟩, c5, HS2.out, rfl, rfl, ⟨by rw [List.length_append]; exact H6.out.1, HNE5.out.1, HNE5.out.2, H6.out.2.1, H6.out.2.2⟩⟩
      case measure => omega
end
end Go.Proofs.Ytgiecjcgidgpfab
