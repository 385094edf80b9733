/- SortingExchanges of both. -/
import Derived.Test.YtgiecjcgidgpfabSortE
import Derived.Test.YtgiecjcgidgpfabSortI
import Derived.Laws.CopyOwn
namespace Go.Proofs.Ytgiecjcgidgpfab
open Go.RowKit
theorem ret_iib {w w1 : World} (hb : Below w.heap.size w w1) : RetIIB w ([], [], false) (.returned (.tuple #[.slice (some ⟨w1.heap.size, 0, none⟩) 0 0, .slice (some ⟨w1.heap.size + 1, 0, none⟩) 0 0, .bool false])) ((w1.alloc (.cells #[] 3)).alloc (.cells #[] 3)) := by
  have o1 : (w1.alloc (.cells #[] 3)).ownsRow w.heap.size 3 1 (.slice (some ⟨w1.heap.size, 0, none⟩) 0 0) 0 [] := World.ownsRow_made w1 #[] 0 hb.size (by unfold maxLen; omega) rfl
  have hs1 : (w1.alloc (.cells #[] 3)).heap.size = w1.heap.size + 1 := by simp
  have o2 : ((w1.alloc (.cells #[] 3)).alloc (.cells #[] 3)).ownsRow w.heap.size 3 1 (.slice (some ⟨w1.heap.size + 1, 0, none⟩) 0 0) 0 [] := by
    have := World.ownsRow_made (w1.alloc (.cells #[] 3)) (e := 3) (base := w.heap.size) (size := 1) #[] 0 (by rw [hs1]; have := hb.size; omega) (by unfold maxLen; omega) rfl
    rw [hs1] at this; exact this
  obtain ⟨s1, a1, b1⟩ := seg_single (o1.alloc (.cells #[] 3))
  obtain ⟨s2, a2, b2⟩ := seg_single o2
  exact ⟨_, 0, _, 0, w1.heap.size, w1.heap.size + 1, rfl, s1, s2, ⟨a1, b1, a2, b2, by omega⟩, (hb.alloc hb.size _).alloc (by rw [hs1]; have := hb.size; omega) _⟩
theorem row_of_block {w : World} {g : Nat} {t : TypeId} {cs : Array Value} (h : BlockIs w g t cs) : Row w (some ⟨g, 0, none⟩) cs.toList := fun _ =>
  ⟨_, rfl, h.lt, fun j u hu => by rw [Addr.add_lit, Nat.zero_add, h.cell, ← Array.getElem?_toList]; exact hu⟩
theorem swN_cells (p : List Nat) (k : Nat) (h : k + 1 < p.length) : (((ic (natI p)).toArray.setIfInBounds k (.int .i64 (p[k + 1] : Int))).setIfInBounds (k + 1) (.int .i64 ((p[k]'(by omega) : Nat) : Int))) = (ic (natI (swN p k))).toArray := by
  unfold swN
  rw [getD_at p 0 h, getD_at p 0 (show k < p.length by omega)]
  simp [ic, natI, List.map_set]
theorem splice_all (L cs : List Value) (h : L.length = cs.length) : splice L 0 cs = cs := by
  unfold splice
  simp [h]
theorem own_set_ne {w : World} {B n g : Nat} {v : Value} {xs : List Value} (h : w.ownsRow B 3 1 v n xs) (hne : v.ownBlock ≠ some g) (i : Nat) (u : Value) : (w.setCell ⟨g, i, none⟩ u).ownsRow B 3 1 v n xs :=
  own_to h fun q hq _ _ => Below.heap_setCell _ _ _ _ (fun e => hne (by rw [hq, e]))
section
variable (A : Option Addr) (ad : Addr) (c d : Nat) (js : List J) (p0 : List Nat) (ob : Int) (w : World) (hr : Row w A (jc js)) (hq : Row w (some ad) (ic (natI p0))) (hn : js.length ≤ 10000000) (hbo : bothB js (natI p0) ob = true)
include hr hq hn hbo
set_option maxRecDepth 100000 in
set_option maxHeartbeats 4000000 in
theorem impl_SortYes : Calls Try.prog 46 #[.slice A js.length c, .slice (some ad) p0.length d, .int .i64 ob] w (RetIIB w (natI (sortR ob js p0).1, natI (sortR ob js p0).2, true)) := by
  obtain ⟨hu, p, hpp, _, hpl, h8, hlt⟩ := both_out hbo
  have hpe := natI_inj hpp
  subst hpe
  have hgd := ruled_good hu
  have hru := isRule_of hu
  have hl8 : p0.length ≤ 8 := by omega
  obtain ⟨i0, hi, hz0, hz1, hz2⟩ := info_parts infoI
  have hsz1 : (Try.prog.info? 3).map (·.size) = some 1 := by rw [hi]; simp [hz1]
  have hmk := run_make_row' (P := Try.prog) 32 3 (.int .i64 0) 8 Try.underlying32 infoI rfl .i64 .i64 p0.length (by omega) (by omega)
  have HRF := Lib.hid (ruleFor_any A (some ad) c d p0.length js (natI p0) ob w (by simp) hr hq hn (by simp; omega))
  have HST := Lib.hid (SortSt.zero (ob := ob) hlt hl8)
  have hwp := wrong_cases ob js
  clear hpl
  go_enter Try.func46, Try.ntmps46
  go_wp2_with fail
  refine HRF.out.mono ?_
  rintro e w1 ⟨hb1, ⟨hbx, v, rfl⟩ | ⟨_, b, rfl, hB, hbs⟩⟩
  · rw [hbo] at hbx; cases hbx
  have HNI : Hid (∀ (w' : World) (B : Option Addr) (dd : Nat) (p : List Nat), Below w1.heap.size w1 w' → Row w' B (ic (natI p)) → (∀ j ∈ p, j < js.length) → p.length ≤ 100000 → Calls Try.prog 70 #[fRule ob b, .slice B p.length dd] w' fun e w'' => e = .returned (.tuple #[.int .i64 (wrongP ob js p).1, .bool (wrongP ob js p).2]) ∧ Below w'.heap.size w' w'') :=
    fun w' B dd p hb' hrow hlt' hl' => (nextInversion_any hru hgd w' (hB.below hb') ((hr.below hb1).below hb') B dd p hrow hlt' hl').mono fun _ _ ⟨he, m, hm⟩ => ⟨he, hm ▸ below_drewN (Below.refl _ _) m⟩
  have HB1 := Lib.hid (And.intro hb1 (hq.below hb1))
  clear hB hbs hb1 HRF
  unfold fRule at *
  generalize fRuleN ob = f at *
  obtain ⟨mcl, hmcl⟩ : ∃ l : List Value, l = (madeCells (Value.int IntKind.i64 0).cells p0.length).toList := ⟨_, rfl⟩
  have hmcs : mcl.length = p0.length := by rw [hmcl]; simp [size_madeCells]
  have hmca : madeCells (Value.int IntKind.i64 0).cells p0.length = mcl.toArray := by rw [hmcl]
  have HMS := Lib.hid hmcs
  have HB2 : Hid ((w1.alloc (.cells (madeCells #[Value.int IntKind.i64 0] p0.length) 3)).heap[w1.heap.size]? = some (.cells mcl.toArray 3 (0, 0))) := by
    have h := BlockIs.new w1 3 (madeCells (Value.int IntKind.i64 0).cells p0.length)
    show _ = _
    rw [← hmca]; exact h
  have hbm := (Below.refl w1.heap.size w1).alloc (Nat.le_refl _) (.cells (madeCells #[Value.int IntKind.i64 0] p0.length) 3)
  clear hmcl hmcs hmca
  have HSRC := Lib.hid (HB1.out.2.below hbm)
  go_wp2_with (with_reducible refine wpList_copy_splice rfl _ _ _ _ rfl 3 Try.underlying32 hsz1 _ _ _ _ _ _ rfl rfl w1.heap.size 0 mcl 3 HB2.out (ic (natI p0)) (by rw [ic_len]; simp) (fun _ => ⟨rfl, ad, rfl, row_src HSRC.out⟩) (by rw [ic_len, HMS.out]; simp) ic_one w1.heap.size w1 hbm (Nat.le_refl _) ?_; intro w2 HC2 hb2)
  have hBs : BlockIs w2 w1.heap.size 3 (ic (natI p0)).toArray := by
    have h := HC2.out
    rw [splice_all mcl (ic (natI p0)) (by rw [HMS.out, ic_len]; simp)] at h
    exact h
  have hba := (Below.refl w2.heap.size w2).alloc (Nat.le_refl _) (.cells #[] 3)
  have hown0 : (w2.alloc (.cells #[] 3)).ownsRow w1.heap.size 3 1 (.slice (some ⟨w2.heap.size, 0, none⟩) 0 0) 0 [] := World.ownsRow_made w2 #[] 0 hb2.size (by unfold maxLen; omega) rfl
  have hlt12 := hBs.lt
  have H0 := Lib.hid (And.intro hown0 (And.intro (hBs.below hba) (hb2.trans (hba.mono hb2.size))))
  clear hown0 hBs hba hb2 HC2 HB2 hbm HSRC hmk
  go_loopg [12] (cntN ob js p0 + 1) (fun gg v12 wr => ∃ (p q : List Nat), Hid (SortSt ob js p0 gg p q) ∧ Hid (wr.ownsRow w1.heap.size 3 1 v12 q.length (ic (natI q)) ∧ v12 ≠ .slice none 0 0 ∧ v12.ownBlock ≠ some w1.heap.size ∧ BlockIs wr w1.heap.size 3 (ic (natI p)).toArray ∧ Below w1.heap.size w1 wr))
  case atStart => exact ⟨p0, [], HST, ⟨H0.out.1, (fun e => by cases e), (fun e => by have he : w2.heap.size = w1.heap.size := Option.some.inj e; omega), H0.out.2.1, H0.out.2.2⟩⟩
  case round =>
    obtain ⟨p, q, HS, HW⟩ := hrel
    clear H0 HST
    have hni := HNI.out wr (some ⟨w1.heap.size, 0, none⟩) p0.length p HW.out.2.2.2.2 (row_of_block HW.out.2.2.2.1) HS.out.lt (by have := HS.out.len; omega)
    rw [HS.out.len] at hni
    have HN := Lib.hid hni
    clear hni
    rcases hwp p with ⟨hv, _, hP⟩ | ⟨k, hv, _, hP⟩
    · have HE := Lib.hid (HS.out.stop hv)
      have HPL := Lib.hid HS.out.len
      rw [hP] at HN
      obtain ⟨g9, c9, h9⟩ := own_addr HW.out.1 HW.out.2.1
      subst h9
      clear hv hP hwp
      go_wp2_with fail
      refine HN.out.mono ?_
      rintro e w4 ⟨rfl, hb4⟩
      obtain ⟨o9, _, hne, hBl, hb⟩ := HW.out
      have o9' := own_blw o9 hb4
      have hBl' := hBl.below hb4
      have hcl : (ic (natI p)).length = p0.length := by rw [ic_len, List.length_map]; exact HPL.out
      have o10 : w4.ownsRow w1.heap.size 3 1 (.slice (some ⟨w1.heap.size, 0, none⟩) p0.length p0.length) p0.length (ic (natI p)) := by
        have := hBl'.own (base := w1.heap.size) (n := p0.length) (c := p0.length) (size := 1) (Nat.le_refl _) (by simp [hcl]) (Nat.le_refl _) (by unfold maxLen; omega) (by simp [hcl])
        rwa [Nat.mul_one, List.take_of_length_le (by simp [hcl])] at this
      have HZ := Lib.hid (And.intro o9' (And.intro o10 (HB1.out.1.trans ((hb.trans (hb4.mono hb.size)).mono HB1.out.1.size))))
      have HZ2 := Lib.hid HB1.out.1.size
      have HNE := Lib.hid hne
      clear o9 o9' o10 hBl hBl' hb hb4 hcl hne HW HN
      go_wp2
      go_ret3
      obtain ⟨o9, o10, hb⟩ := HZ.out
      obtain ⟨s9, a9, b9⟩ := seg_single (own_low o9 HZ2.out)
      obtain ⟨s10, a10, b10⟩ := seg_single (own_low o10 HZ2.out)
      refine ⟨some ⟨g9, 0, none⟩, c9, some ⟨w1.heap.size, 0, none⟩, p0.length, g9, w1.heap.size, ?_, ?_, ?_, ⟨a9, b9, a10, b10, fun e => HNE.out (by rw [← e]; rfl)⟩, hb⟩
      · rw [HE.out]; simp only [List.length_map]; rw [HPL.out]; rfl
      · rw [HE.out]; simp only [List.length_map]; exact s9
      · rw [HE.out]; simp only [List.length_map]; rw [HPL.out]; exact s10
    · obtain ⟨g', rfl, hk1, hst⟩ := HS.out.step hv
      have HS2 := Lib.hid hst
      have hql : q.length ≤ 200 := by have := HS.out.pl; omega
      have hlen := HS.out.len
      have hk0 : (0 : Int) ≤ k := by omega
      have hki : (k : Int) + 1 < p0.length := by omega
      have hkj : (k : Int) < p0.length := by omega
      have hkl : (0 : Int) ≤ (k : Int) + 1 := by omega
      have hsw := IntWalk.i64_in ((k : Int) + 1) (by omega)
      have HCE := Lib.hid (swN_cells p k hk1)
      rw [hP] at HN
      clear hv hP hst HS hlen
      go_wp2_with fail
      refine HN.out.mono ?_
      rintro e w4 ⟨rfl, hb4⟩
      have H4 := Lib.hid (And.intro (own_blw HW.out.1 hb4) (And.intro (HW.out.2.2.2.1.below hb4) (HW.out.2.2.2.2.trans (hb4.mono HW.out.2.2.2.2.size))))
      have HV := Lib.hid (And.intro HW.out.2.1 HW.out.2.2.1)
      clear hb4 HW HN
      have hown9 := H4.out.1.alloc (.cells #[.int .i64 (k : Int)] 3)
      have HSRC := row_src (Row.new w4 3 #[.int .i64 (k : Int)])
      go_wp2_with (at_builtin; refine wpList_append_at _ rfl _ _ 32 rfl w1.heap.size 3 i0 (.int .i64 0) 1 8 Try.underlying32 hi hz0 hz1 hz2 rfl (by decide) _ _ _ rfl hown9 ⟨w4.heap.size, 0, none⟩ 1 1 [.int .i64 (k : Int)] rfl rfl HSRC (by intro u hu; rw [List.mem_singleton.1 hu]; rfl) (by omega) (by unfold maxLen; omega) (by omega) (by have := H4.out.2.2.size; simp; omega) ?_; intro v9' w5 hown9' hgrow hob)
      have hB5 := app_block H4.out.2.1 hgrow HV.out.2
      have hne5 : v9'.ownBlock ≠ some w1.heap.size := fun e => by
        rcases hob with h | h
        · exact HV.out.2 (h.symm.trans e)
        · rw [h] at e
          have he : (w4.alloc (.cells #[.int .i64 (k : Int)] 3)).heap.size = w1.heap.size := Option.some.inj e
          have := H4.out.2.2.size
          simp at he
          omega
      have hnn : v9' ≠ .slice none 0 0 := fun e => by
        subst e
        rcases hown9'.2 with ⟨_, h0⟩ | ⟨g, cap, cur, hv, _⟩
        · omega
        · cases hv
      have hx : ic (natI q) ++ [Value.int .i64 (k : Int)] = ic (natI (q ++ [k])) := by unfold ic natI; simp
      rw [hx] at hown9'
      have hbe : Below w1.heap.size w1 w5 := (H4.out.2.2.alloc H4.out.2.2.size _).grown hgrow (by have := H4.out.2.2.size; simp; omega) (fun j hj => (H4.out.1.lt j hj).1)
      have c0 := hB5.cell k
      have c1 := hB5.cell (k + 1)
      have f0 := hB5.frozen k
      have f1 := hB5.frozen (k + 1)
      have g0 : (ic (natI p)).toArray[k]? = some (.int .i64 ((p[k]'(by omega) : Nat) : Int)) := by
        have hkp : k < p.length := by omega
        simp [ic, natI, hkp]
      have g1 : (ic (natI p)).toArray[k + 1]? = some (.int .i64 ((p[k + 1] : Nat) : Int)) := by simp [ic, natI, hk1]
      rw [g0] at c0
      rw [g1] at c1
      have HB5 := Lib.hid ((hB5.set k (.int .i64 ((p[k + 1] : Nat) : Int))).set (k + 1) (.int .i64 ((p[k]'(by omega) : Nat) : Int)))
      rw [HCE.out] at HB5
      have HZ := Lib.hid (And.intro hown9' (And.intro hnn (And.intro hne5 hbe)))
      clear hB5 hne5 hnn hx hbe g0 g1 hown9' hgrow hob H4 HV HCE hown9 HSRC
      generalize hxx : (p[k]'(by omega) : Nat) = x0 at *
      generalize hyy : p[k + 1] = y0 at *
      clear hxx hyy
      go_wp2
      go_region
      all_goals
        go_wp2
        go_roundg g'
        case rel =>
          have o1 := own_set_ne (own_set_ne HZ.out.1 HZ.out.2.2.1 k (.int .i64 (y0 : Int))) HZ.out.2.2.1 (k + 1) (.int .i64 (x0 : Int))
          have b1 := (HZ.out.2.2.2.setCell (p := ⟨w1.heap.size, k, none⟩) (Nat.le_refl _) (.int .i64 (y0 : Int))).setCell (p := ⟨w1.heap.size, k + 1, none⟩) (Nat.le_refl _) (.int .i64 (x0 : Int))
          exact ⟨swN p k, q ++ [k], HS2.out, ⟨by rw [List.length_append]; exact o1, HZ.out.2.1, HZ.out.2.2.1, HB5.out, by first | exact b1 | exact b1.drew⟩⟩
        case measure => omega
end
section
variable (A : Option Addr) (ad : Addr) (c d n : Nat) (js : List J) (o : List Int) (ob : Int) (w : World) (hno : n = o.length) (hr : Row w A (jc js)) (hq : Row w (some ad) (ic o)) (hn : js.length ≤ 10000000) (hm : o.length ≤ 10000000)
include hno hr hq hn hm
set_option maxRecDepth 100000 in
theorem spec_SortAny : Calls Try.prog 45 #[.slice A js.length c, .slice (some ad) n d, .int .i64 ob] w (RetIIB w (sortO js o ob)) := by
  have HNO := Lib.hid hno
  clear hno
  cases hbo : bothB js o ob
  · have HR : Hid (sortO js o ob = ([], [], false)) := by show _ = _; unfold sortO; rw [hbo]; rfl
    have hb0 := (Below.refl w.heap.size w).alloc (Nat.le_refl _) (.cells #[] 3)
    have HBT := Lib.hid (l3Both_any A (some ad) c d n js o ob _ HNO.out (hr.below hb0) (hq.below hb0) hn hm)
    have hown0 : (w.alloc (.cells #[] 3)).ownsRow w.heap.size 3 1 (.slice (some ⟨w.heap.size, 0, none⟩) 0 0) 0 [] := World.ownsRow_made w #[] 0 (Nat.le_refl _) (by unfold maxLen; omega) rfl
    have H0 := Lib.hid (And.intro hown0 hb0)
    clear hown0 hb0
    go_enter Try.func45, Try.ntmps45
    go_wp2_with fail
    refine HBT.out.mono ?_
    rintro e w1 ⟨rfl, hb1⟩
    rw [hbo]
    have hz : w.heap.size < w1.heap.size := by have := hb1.size; simp at this; omega
    have H1 := Lib.hid (And.intro (own_blw H0.out.1 hb1) (H0.out.2.trans (hb1.mono H0.out.2.size)))
    clear H0 hb1 HBT
    go_wp2
    go_ret3
    rw [HR.out]
    have o1 := H1.out.1.alloc (.cells #[] 3)
    have o2 : (w1.alloc (.cells #[] 3)).ownsRow w.heap.size 3 1 (.slice (some ⟨w1.heap.size, 0, none⟩) 0 0) 0 [] := World.ownsRow_made w1 #[] 0 H1.out.2.size (by unfold maxLen; omega) rfl
    obtain ⟨s1, a1, b1⟩ := seg_single o1
    obtain ⟨s2, a2, b2⟩ := seg_single o2
    exact ⟨_, 0, _, 0, w.heap.size, w1.heap.size, rfl, s1, s2, ⟨a1, b1, a2, b2, by omega⟩, H1.out.2.alloc H1.out.2.size _⟩
  · obtain ⟨_, p, rfl, _, _⟩ := both_out hbo
    obtain rfl : n = p.length := by rw [HNO.out]; simp
    have HR : sortO js (natI p) ob = (natI (sortR ob js p).1, natI (sortR ob js p).2, true) := by unfold sortO; rw [hbo, natsOf_natI]; rfl
    rw [HR]
    exact spec_SortYes A ad c d js p ob w hr hq hn hbo
set_option maxRecDepth 100000 in
theorem impl_SortAny : Calls Try.prog 46 #[.slice A js.length c, .slice (some ad) n d, .int .i64 ob] w (RetIIB w (sortO js o ob)) := by
  have HNO := Lib.hid hno
  clear hno
  cases hbo : bothB js o ob
  · have HR : Hid (sortO js o ob = ([], [], false)) := by show _ = _; unfold sortO; rw [hbo]; rfl
    have HRF := Lib.hid (ruleFor_any A (some ad) c d n js o ob w HNO.out hr hq hn hm)
    go_enter Try.func46, Try.ntmps46
    go_wp2_with fail
    refine HRF.out.mono ?_
    rintro e w1 ⟨hb1, ⟨_, v, rfl⟩ | ⟨hbx, _⟩⟩
    · have HB := Lib.hid hb1
      clear hb1 HRF
      go_wp2
      go_ret3
      rw [HR.out]
      exact ret_iib HB.out
    · rw [hbo] at hbx; cases hbx
  · obtain ⟨_, p, rfl, _, _⟩ := both_out hbo
    obtain rfl : n = p.length := by rw [HNO.out]; simp
    have HR : sortO js (natI p) ob = (natI (sortR ob js p).1, natI (sortR ob js p).2, true) := by unfold sortO; rw [hbo, natsOf_natI]; rfl
    rw [HR]
    exact impl_SortYes A ad c d js p ob w hr hq hn hbo
end
section
variable (A : Option Addr) (ad : Addr) (c d : Nat) (js : List J) (o : List Int) (ob : Int) (w : World) (hr : Row w A (jc js)) (hq : Row w (some ad) (ic o)) (hn : js.length ≤ 10000000) (hm : o.length ≤ 10000000)
include hr hq hn hm
theorem spec_SortingExchanges : Calls Try.prog 45 #[.slice A js.length c, .slice (some ad) o.length d, .int .i64 ob] w (RetIIB w (sortO js o ob)) := spec_SortAny A ad c d _ js o ob w rfl hr hq hn hm
theorem impl_SortingExchanges : Calls Try.prog 46 #[.slice A js.length c, .slice (some ad) o.length d, .int .i64 ob] w (RetIIB w (sortO js o ob)) := impl_SortAny A ad c d _ js o ob w rfl hr hq hn hm
end
end Go.Proofs.Ytgiecjcgidgpfab
