/- Texts joined: Tmp Tml RetBB Taf. -/
import Derived.Test.YtnkoncplfedffaaDoorMga4
import Derived.IntWalk
namespace Go.Proofs.YtnkoncplfedffaaDoor
/-- The sum of the Times of the first k jobs of an order. -/
def gonTo (js : List J) (p : List Nat) : Nat → Int
  | 0 => 0
  | k + 1 => gonTo js p k + (js.getD (p.getD k 0) j0).t
/-- No job of an order ends behind its date. -/
def timlyB (js : List J) (p : List Nat) : Bool := decide (∀ k, k < p.length → gonTo js p (k + 1) ≤ (js.getD (p.getD k 0) j0).d)
def latJ (e : Int) (j : J) : J := ⟨j.t, 0, 0, j.d + e⟩
def latsL (js : List J) (e : Int) : List J := js.map (latJ e)
theorem latsL_len (js : List J) (e : Int) : (latsL js e).length = js.length := by unfold latsL; simp
theorem latsL_at (js : List J) (e : Int) (k : Nat) (hk : k < js.length) : (latsL js e)[k]'(by rw [latsL_len]; exact hk) = latJ e js[k] := by unfold latsL; simp
theorem latsL_getD (js : List J) (e : Int) (k : Nat) (hk : k < js.length) : (latsL js e).getD k j0 = latJ e (js.getD k j0) := by
  rw [getD_at (latsL js e) j0 (by rw [latsL_len]; exact hk), getD_at js j0 hk, latsL_at js e k hk]
theorem soonB_later (js : List J) (e : Int) {i k : Nat} (hi : i < js.length) (hk : k < js.length) : soonB (latsL js e) i k = soonB js i k := by
  unfold soonB
  rw [latsL_getD js e i hi, latsL_getD js e k hk]
  show (if (js.getD i j0).d + e ≠ (js.getD k j0).d + e then decide ((js.getD i j0).d + e < (js.getD k j0).d + e) else if (js.getD i j0).t ≠ (js.getD k j0).t then decide ((js.getD i j0).t < (js.getD k j0).t) else decide (i < k)) = _
  by_cases h : (js.getD i j0).d = (js.getD k j0).d
  · have e1 : ¬ ((js.getD i j0).d + e ≠ (js.getD k j0).d + e) := by omega
    have e2 : ¬ ((js.getD i j0).d ≠ (js.getD k j0).d) := by omega
    rw [if_neg e1, if_neg e2]
  · have e1 : (js.getD i j0).d + e ≠ (js.getD k j0).d + e := by omega
    rw [if_pos e1, if_pos h]
    by_cases h2 : (js.getD i j0).d < (js.getD k j0).d
    · rw [decide_eq_true h2, decide_eq_true (by omega)]
    · rw [decide_eq_false h2, decide_eq_false (by omega)]
theorem insD_later (js : List J) (e : Int) {x : Nat} (hx : x < js.length) : ∀ ys : List Nat, (∀ y ∈ ys, y < js.length) → insD (latsL js e) x ys = insD js x ys
  | [], _ => rfl
  | y :: ys, h => by
    unfold insD
    rw [soonB_later js e (h y (by simp)) hx, insD_later js e hx ys (fun a ha => h a (by simp [ha]))]
theorem dueTo_later (js : List J) (e : Int) (l : List Nat) (hl : ∀ x ∈ l, x < js.length) : ∀ k, k ≤ l.length → dueTo (latsL js e) l k = dueTo js l k
  | 0, _ => rfl
  | k + 1, h => by
    have hx : l.getD k 0 < js.length := by rw [getD_at l 0 (by omega)]; exact hl _ (List.getElem_mem _)
    unfold dueTo
    rw [dueTo_later js e l hl k (by omega), insD_later js e hx _ (fun y hy => hl y (dueTo_mem (by omega) hy))]
theorem dueL_later (js : List J) (e : Int) (l : List Nat) (hl : ∀ x ∈ l, x < js.length) : dueL (latsL js e) l = dueL js l := dueTo_later js e l hl _ (Nat.le_refl _)
section
variable {js : List J} {p : List Nat} (hok : ∀ j ∈ js, okJ j = true) (h0 : ∀ j ∈ js, j.r = 0) (hp : ∀ x ∈ p, x < js.length)
include hok h0 hp
theorem gonTo_later (e : Int) : ∀ k, k ≤ p.length → gonTo (latsL js e) p k = nowTo js p k
  | 0, _ => by unfold nowTo gonTo; simp [lastGo]
  | k + 1, hk => by
    have hx := hp _ (List.getElem_mem (show k < p.length by omega))
    rw [nowTo_succ hok h0 hp (by omega), ← gonTo_later e k (by omega)]
    show gonTo (latsL js e) p k + _ = _
    rw [getD_at p 0 (by omega), latsL_getD js e _ hx, getD_at js j0 hx]
    rfl
theorem latTo_le {e : Int} (he : 0 ≤ e) : ∀ k, k ≤ p.length → (latTo js p k ≤ e ↔ ∀ i, i < k → gonTo (latsL js e) p (i + 1) ≤ ((latsL js e).getD (p.getD i 0) j0).d)
  | 0, _ => ⟨fun _ i hi => absurd hi (by omega), fun _ => by unfold latTo; simp [partV, costsL, costsGo, foldC]; exact he⟩
  | k + 1, hk => by
    have hx := hp _ (List.getElem_mem (show k < p.length by omega))
    have ih := latTo_le he k (by omega)
    have hd : ((latsL js e).getD (p.getD k 0) j0).d = (js[p[k]]'hx).d + e := by
      rw [getD_at p 0 (by omega), latsL_getD js e _ hx, getD_at js j0 hx]; rfl
    have hstep : latTo js p (k + 1) ≤ e ↔ latTo js p k ≤ e ∧ gonTo (latsL js e) p (k + 1) ≤ ((latsL js e).getD (p.getD k 0) j0).d := by
      rw [latTo_succ hp (by omega), costOf_4, gonTo_later hok h0 hp e (k + 1) hk, hd]
      unfold extOf
      by_cases hz : k = 0
      · subst hz
        have hl : latTo js p 0 ≤ e := ih.2 (fun i hi => absurd hi (by omega))
        rw [if_pos rfl]
        constructor
        · intro h; exact ⟨hl, by omega⟩
        · intro h; omega
      · rw [if_neg hz, show isTop 4 = true from rfl, if_pos rfl]
        omega
    rw [hstep, ih]
    constructor
    · rintro ⟨h1, h2⟩ i hi
      by_cases hik : i = k
      · subst hik; exact h2
      · exact h1 i (by omega)
    · intro h; exact ⟨fun i hi => h i (by omega), h k (by omega)⟩
end
theorem timly_later {js : List J} (hok : ∀ j ∈ js, okJ j = true) (h0 : ∀ j ∈ js, j.r = 0) {e : Int} (he : 0 ≤ e) (l : List Nat) (hl : ∀ x ∈ l, x < js.length) :
    timlyB (latsL js e) (dueL (latsL js e) l) = decide (latL js (dueL js l) ≤ e) := by
  rw [dueL_later js e l hl]
  have hpm : ∀ x ∈ dueL js l, x < js.length := fun x hx => hl x ((dueL_perm js l).mem_iff.1 hx)
  have h := latTo_le hok h0 hpm he _ (Nat.le_refl _)
  rw [latTo_all] at h
  unfold timlyB latL
  exact (decide_eq_decide.2 h).symm
end Go.Proofs.YtnkoncplfedffaaDoor

namespace Go.Proofs.YtnkoncplfedffaaDoor
open Go.RowKit
theorem gonTo_bd {js : List J} {p : List Nat} (ht : ∀ j ∈ js, 0 ≤ j.t ∧ j.t ≤ 50) : ∀ k, 0 ≤ gonTo js p k ∧ gonTo js p k ≤ 50 * (k : Int)
  | 0 => by unfold gonTo; omega
  | k + 1 => by
    have h1 := gonTo_bd (p := p) ht k
    have h2 : 0 ≤ (js.getD (p.getD k 0) j0).t ∧ (js.getD (p.getD k 0) j0).t ≤ 50 := by
      by_cases hx : p.getD k 0 < js.length
      · rw [getD_at js j0 hx]; exact ht _ (List.getElem_mem hx)
      · rw [List.getD_eq_getElem?_getD, List.getElem?_eq_none (by omega)]; simp [j0]
    show 0 ≤ gonTo js p k + _ ∧ gonTo js p k + _ ≤ _
    omega
section
variable (A B : Option Addr) (c d : Nat) (js : List J) (l : List Nat) (w : World) (hr : Row w A (jc js)) (hq : Row w B (ic (natI l))) (hl : ∀ x ∈ l, x < js.length) (hn : l.length ≤ 8) (ht : ∀ j ∈ js, 0 ≤ j.t ∧ j.t ≤ 50)
include hr hq hl hn ht
set_option maxRecDepth 100000 in
set_option maxHeartbeats 4000000 in
theorem l6Timely_any : Calls Tryd.prog 43 #[.slice A js.length c, .slice B l.length d] w fun e w' => e = .returned (.bool (timlyB js (dueL js l))) ∧ Below w.heap.size w w' := by
  have hpm : ∀ x ∈ dueL js l, x < js.length := fun x hx => hl x ((dueL_perm js l).mem_iff.1 hx)
  have hpl : (dueL js l).length = l.length := dueL_len _ _
  have HC := Lib.hid (l6Due_any A B c d js l w hr hq hl hn)
  rw [← hpl] at HC
  have hp8 : (dueL js l).length ≤ 8 := by omega
  have hld : l.length = (dueL js l).length := hpl.symm
  have HR := Lib.hid hr
  clear hr hq hl hn hpl
  generalize dueL js l = p at *
  rw [hld]
  clear hld
  have HT : Hid (timlyB js p = decide (∀ k, k < p.length → gonTo js p (k + 1) ≤ (js.getD (p.getD k 0) j0).d)) := rfl
  go_enter Tryd.func43, Tryd.ntmps43
  go_wp2_with fail
  refine HC.out.mono ?_
  rintro e w2 ⟨v, rfl, hown, hb2⟩
  obtain ⟨B2, d2, rfl, _, hrow⟩ := own_slice hown
  have HB2 := Lib.hid hb2
  have HO2 := Lib.hid hrow
  clear hown hrow hb2 HC
  go_wp2
  go_loopw [6, 7] (fun nv iv wr => ∃ k : Nat, k ≤ p.length ∧ iv = .int .i64 (k : Int) ∧ nv = .int .i64 (gonTo js p k) ∧ (∀ i, i < k → gonTo js p (i + 1) ≤ (js.getD (p.getD i 0) j0).d) ∧ Hid (Below w2.heap.size w2 wr)) (fun _ iv _ => p.length - (intOf iv).toNat)
  case atStart => exact ⟨0, Nat.zero_le _, rfl, rfl, fun i hi => absurd hi (by omega), Lib.hid (Below.refl _ _)⟩
  case round =>
    obtain ⟨k, hk, rfl, rfl, hall, HB⟩ := hrel
    by_cases hlt : k < p.length
    · have hk0 : (0 : Int) ≤ k := by omega
      have hk1 : (k : Int) < p.length := by omega
      have hxl := hpm _ (List.getElem_mem hlt)
      obtain ⟨bd, hBe, hcx⟩ := (HO2.out.below HB.out).nat hlt
      subst hBe
      have hbw := HB2.out.trans (HB.out.mono HB2.out.size)
      obtain ⟨ad, hA, hadb, c0, c1, c2, c3⟩ := (HR.out.below hbw).job hxl
      subst hA
      have n1 := gonTo_bd (p := p) ht k
      have hjt := ht _ (List.getElem_mem hxl)
      have HN : Hid (gonTo js p (k + 1) = gonTo js p k + (js[p[k]]'hxl).t) := by
        show _ = _
        show gonTo js p k + _ = _
        rw [getD_at p 0 hlt, getD_at js j0 hxl]
      have HD : Hid ((js.getD (p.getD k 0) j0).d = (js[p[k]]'hxl).d) := by
        show _ = _
        rw [getD_at p 0 hlt, getD_at js j0 hxl]
      have hx0 : (0 : Int) ≤ p[k] := by omega
      have hx1 : (p[k] : Int) < js.length := by omega
      have HBW := Lib.hid hbw
      have HALL := Lib.hid hall
      clear hbw ht hall
      generalize hjx : js[p[k]] = j at *
      clear hjx
      generalize hpk : p[k] = x at *
      clear hpk
      have hin := IntWalk.i64_in (gonTo js p k + j.t) (by omega)
      by_cases hlate : j.d < gonTo js p k + j.t
      · go_wp2
        go_ret
        have hf : timlyB js p = false := by
          rw [HT.out]
          refine decide_eq_false fun h => ?_
          have := h k hlt
          rw [HN.out, HD.out] at this
          omega
        rw [hf]
        exact ⟨rfl, HBW.out⟩
      · go_wp2
        go_roundw
        case rel => exact ⟨k + 1, by omega, by go_num, by rw [HN.out], fun i hi => by
          by_cases hik : i = k
          · subst hik; rw [HN.out, HD.out]; omega
          · exact HALL.out i (by omega), HB⟩
        case measure => simp [intOf]; omega
    · obtain rfl : k = p.length := by omega
      have HBW := Lib.hid (HB2.out.trans (HB.out.mono HB2.out.size))
      go_wp2
      go_ret
      exact ⟨by rw [HT.out, decide_eq_true hall]; rfl, HBW.out⟩
end
end Go.Proofs.YtnkoncplfedffaaDoor

namespace Go.Proofs.YtnkoncplfedffaaDoor
open Go.RowKit
def RetBB (w : World) (r : Bool × Bool) (e : Ending) (w' : World) : Prop := e = .returned (.tuple #[.bool r.1, .bool r.2]) ∧ Below w.heap.size w w'
end Go.Proofs.YtnkoncplfedffaaDoor

namespace Go.Proofs.YtnkoncplfedffaaDoor
open Go.RowKit
def afterR (js : List J) (e : Int) : Bool × Bool := if plainL js && inB e 0 400 then (decide (latL js (dueL js (List.range js.length)) ≤ e), true) else (false, false)
theorem cell_listT {w : World} {g : Nat} {t : TypeId} {cs : List Value} (h : BlockIs w g t cs.toArray) {i : Nat} {u : Value} (hu : cs[i]? = some u) : w.cell? ((⟨g, 0, none⟩ : Addr).add i) = some u := by
  have := h.cell i
  unfold Addr.add
  by_cases h0 : i = 0
  · subst h0; rw [if_pos rfl, this]; simpa using hu
  · rw [if_neg h0]; simp only [Nat.zero_add]; rw [this]; simpa using hu
theorem but_taf {a15 a16 b15 b16 v0 v1 v10 v11 v12 v13 v14 v2 v3 v4 v5 v6 v7 v8 v9 : Value} (j : Nat) (h15 : j ≠ 15) (h16 : j ≠ 16) : (#[v0, v1, v2, v3, v4, v5, v6, v7, v8, v9, v10, v11, v12, v13, v14, a15, a16] : Array Value).getD j undef = (#[v0, v1, v2, v3, v4, v5, v6, v7, v8, v9, v10, v11, v12, v13, v14, b15, b16] : Array Value).getD j undef := by
  rcases (by omega : j = 0 ∨ j = 1 ∨ j = 2 ∨ j = 3 ∨ j = 4 ∨ j = 5 ∨ j = 6 ∨ j = 7 ∨ j = 8 ∨ j = 9 ∨ j = 10 ∨ j = 11 ∨ j = 12 ∨ j = 13 ∨ j = 14 ∨ 16 < j) with rfl | rfl | rfl | rfl | rfl | rfl | rfl | rfl | rfl | rfl | rfl | rfl | rfl | rfl | rfl | h
  all_goals first | rfl | (simp only [Array.getD_eq_getD_getElem?]; rw [Array.getElem?_eq_none (by simp; omega), Array.getElem?_eq_none (by simp; omega)])
section
variable (A : Option Addr) (c : Nat) (js : List J) (e : Int) (w : World) (hr : Row w A (jc js)) (hn : js.length ≤ 10000000)
include hr hn
set_option maxRecDepth 100000 in
set_option maxHeartbeats 4000000 in
theorem spec_TimelyAfter : Calls Tryd.prog 25 #[.slice A js.length c, .int .i64 e] w (RetBB w (afterR js e)) := by
  have HR : Hid (afterR js e = if plainL js && inB e 0 400 then (decide (latL js (dueL js (List.range js.length)) ≤ e), true) else (false, false)) := rfl
  cases hp : plainL js
  · rw [hp] at HR
    go_enter Tryd.func25, Tryd.ntmps25
    go_wp2_with fail
    refine (l6Good_any A c js _ hr (by omega)).mono ?_
    rintro e1 w1 ⟨rfl, hb1⟩
    rw [hp]
    go_wp2
    go_ret2
    exact ⟨by rw [HR.out]; rfl, hb1⟩
  · rw [hp] at HR
    cases hin : inB e 0 400
    · rw [hin] at HR
      go_enter Tryd.func25, Tryd.ntmps25
      go_wp2_with fail
      refine (l6Good_any A c js _ hr (by omega)).mono ?_
      rintro e1 w1 ⟨rfl, hb1⟩
      rw [hp]
      go_wp2_with fail
      refine (l1In_any _ _ _ _).mono ?_
      rintro e1 _ ⟨rfl, rfl⟩
      rw [hin]
      go_wp2
      go_ret2
      exact ⟨by rw [HR.out]; rfl, hb1⟩
    · rw [hin] at HR
      obtain ⟨he0, he1⟩ := inB_out hin
      obtain ⟨h8, hok⟩ := good_out (plain_good hp)
      obtain ⟨i0, hi, hz0, hz1, hz2⟩ := info_parts infoJ
      have HML := Lib.hid (latsL_len js e)
      have HTL := Lib.hid (timly_later hok (plain_zero hp) he0 (List.range js.length) (fun x hx => List.mem_range.1 hx))
      have HQ : Hid (∀ (A2 : Option Addr) (c2 : Nat) (w' : World), Row w' A2 (jc (latsL js e)) → ∀ (B : Option Addr) (d : Nat) (w'' : World), Below w'.heap.size w' w'' → Row w'' B (ic (natI (List.range js.length))) → Calls Tryd.prog 43 #[.slice A2 js.length c2, .slice B js.length d] w'' fun e1 w3 => e1 = .returned (.bool (timlyB (latsL js e) (dueL (latsL js e) (List.range js.length)))) ∧ Below w''.heap.size w'' w3) := fun A2 c2 w' h1 B d w'' hb h2 => by
        have h := l6Timely_any A2 B c2 d (latsL js e) (List.range js.length) w'' (h1.below hb) h2 (fun x hx => by rw [latsL_len]; exact List.mem_range.1 hx) (by rw [List.length_range]; exact h8) (fun j hj => by
          unfold latsL at hj
          obtain ⟨i, hi', rfl⟩ := List.mem_map.1 hj
          have := okJ_out (hok i hi')
          exact ⟨by show 0 ≤ i.t; omega, by show i.t ≤ 50; omega⟩)
        rw [latsL_len, List.length_range] at h
        exact h
      go_enter Tryd.func25, Tryd.ntmps25
      go_wp2_with fail
      refine (l6Good_any A c js _ hr (by omega)).mono ?_
      rintro e1 w1 ⟨rfl, hb1⟩
      rw [hp]
      go_wp2_with fail
      refine (l1In_any _ _ _ _).mono ?_
      rintro e1 _ ⟨rfl, rfl⟩
      rw [hin]
      have hown1 : (w1.alloc (.cells #[] 50)).ownsRow w.heap.size 50 4 (.slice (some ⟨w1.heap.size, 0, none⟩) 0 0) 0 (jc []) := World.ownsRow_made w1 #[] 0 hb1.size (by unfold maxLen; omega) rfl
      have hbb := hb1.alloc hb1.size (.cells #[] 50)
      have HS := Lib.hid (And.intro hown1 hbb)
      clear hown1 hb1 hbb hp
      go_wp2
      go_loopw [6, 7] (fun v i wr => ∃ (k : Nat) (v' : Value), k ≤ js.length ∧ i = .int .i64 k ∧ v = v' ∧ Hid (wr.ownsRow w.heap.size 50 4 v' k (jc ((latsL js e).take k))) ∧ Hid (Below w.heap.size w wr)) (fun _ i _ => js.length - (intOf i).toNat)
      case atStart => exact ⟨0, _, Nat.zero_le _, rfl, rfl, Lib.hid HS.out.1, Lib.hid HS.out.2⟩
      case round =>
        obtain ⟨k, v, hk, rfl, rfl, HO, Hb⟩ := hrel
        clear HS
        by_cases hlt : k < js.length
        · obtain ⟨_, _, _, _, r0, r1, d0, d1⟩ := okJ_out (hok _ (List.getElem_mem hlt))
          obtain ⟨ad, hA, _, _⟩ := (hr.below Hb.out).job hlt
          subst hA
          have hk0 : (0 : Int) ≤ k := by omega
          have hk1 : (k : Int) < js.length := by omega
          clear HQ HTL
          go_wp2
          generalize hj : js[k] = j at *
          refine wp_region_detG (by kernel_rfl) (fun x L w' => Below w.heap.size w w' ∧ (L.getD 14 true = false → w'.heap.size = wr.heap.size) ∧ (L.getD 15 true = false → w'.ownsRow w.heap.size 50 4 u6 k (jc ((latsL js e).take k))) ∧ (L.getD 14 true = true → L.getD 15 true = false → BlockIs w' wr.heap.size 50 #[.int .i64 j.t, .int .i64 0, .int .i64 0, .int .i64 (j.d + e)]) ∧ (L.getD 15 true = true → w'.ownsRow w.heap.size 50 4 x (k + 1) (jc ((latsL js e).take (k + 1)))))
            (fun x kk => #[u6, .slice (some ad) js.length c, .int .i64 (k : Int), .pointer (some (ad.add (k * 4))), .pointer (some (ad.add (k * 4))), .int .i64 j.t, .slice (some ad) js.length c, .int .i64 (k : Int), .pointer (some (ad.add (k * 4))), .pointer (some ⟨(ad.add (k * 4)).block, (ad.add (k * 4)).off + 3, none⟩), .int .i64 j.d, .int .i64 e, .int .i64 (j.d + e), .agg #[.int .i64 j.t, .int .i64 0, .int .i64 0, .int .i64 (j.d + e)], .slice (some ⟨wr.heap.size, 0, none⟩) 1 1, x, x].getD kk undef) undef (by kernel_rfl) (by kernel_rfl) ⟨Hb.out.drew, fun _ => rfl, fun _ => HO.out, (fun h => by cases h), fun h => by cases h⟩ ?_ ?_
          · intro x L tm w' hall hS hsz hlow hval
            have ht : tm = #[.slice (some ad) js.length c, .int .i64 e, undef, undef, .bool false, .bool false, x, .int .i64 (k : Int), .slice (some ad) js.length c, .bool true, .bool false, .bool false, .int .i64 e, .bool true, .bool false, .bool false, .slice (some ⟨w1.heap.size, 0, none⟩) 0 0, .int .i64 (k : Int), .slice (some ad) js.length c, .int .i64 (js.length : Int), .bool true, u21, u22, u6, .slice (some ad) js.length c, .int .i64 (k : Int), .pointer (some (ad.add (k * 4))), .pointer (some (ad.add (k * 4))), .int .i64 j.t, .slice (some ad) js.length c, .int .i64 (k : Int), .pointer (some (ad.add (k * 4))), .pointer (some ⟨(ad.add (k * 4)).block, (ad.add (k * 4)).off + 3, none⟩), .int .i64 j.d, .int .i64 e, .int .i64 (j.d + e), .agg #[.int .i64 j.t, .int .i64 0, .int .i64 0, .int .i64 (j.d + e)], .slice (some ⟨wr.heap.size, 0, none⟩) 1 1, x, undef, undef, undef, undef] := by
              refine arr_of _ _ hsz fun t ht => ?_
              have ht' : t < 43 := ht
              rcases (by omega : t = 0 ∨ t = 1 ∨ t = 2 ∨ t = 3 ∨ t = 4 ∨ t = 5 ∨ t = 6 ∨ t = 7 ∨ t = 8 ∨ t = 9 ∨ t = 10 ∨ t = 11 ∨ t = 12 ∨ t = 13 ∨ t = 14 ∨ t = 15 ∨ t = 16 ∨ t = 17 ∨ t = 18 ∨ t = 19 ∨ t = 20 ∨ t = 21 ∨ t = 22 ∨ t = 23 ∨ t = 24 ∨ t = 25 ∨ t = 26 ∨ t = 27 ∨ t = 28 ∨ t = 29 ∨ t = 30 ∨ t = 31 ∨ t = 32 ∨ t = 33 ∨ t = 34 ∨ t = 35 ∨ t = 36 ∨ t = 37 ∨ t = 38 ∨ t = 39 ∨ t = 40 ∨ t = 41 ∨ t = 42) with rfl | rfl | rfl | rfl | rfl | rfl | rfl | rfl | rfl | rfl | rfl | rfl | rfl | rfl | rfl | rfl | rfl | rfl | rfl | rfl | rfl | rfl | rfl | rfl | rfl | rfl | rfl | rfl | rfl | rfl | rfl | rfl | rfl | rfl | rfl | rfl | rfl | rfl | rfl | rfl | rfl | rfl | rfl
              · exact hlow 0 (by kernel_rfl)
              · exact hlow 1 (by kernel_rfl)
              · exact hlow 2 (by kernel_rfl)
              · exact hlow 3 (by kernel_rfl)
              · exact hlow 4 (by kernel_rfl)
              · exact hlow 5 (by kernel_rfl)
              · exact hval 16 _ 6 rfl rfl
              · exact hlow 7 (by kernel_rfl)
              · exact hlow 8 (by kernel_rfl)
              · exact hlow 9 (by kernel_rfl)
              · exact hlow 10 (by kernel_rfl)
              · exact hlow 11 (by kernel_rfl)
              · exact hlow 12 (by kernel_rfl)
              · exact hlow 13 (by kernel_rfl)
              · exact hlow 14 (by kernel_rfl)
              · exact hlow 15 (by kernel_rfl)
              · exact hlow 16 (by kernel_rfl)
              · exact hlow 17 (by kernel_rfl)
              · exact hlow 18 (by kernel_rfl)
              · exact hlow 19 (by kernel_rfl)
              · exact hlow 20 (by kernel_rfl)
              · exact hlow 21 (by kernel_rfl)
              · exact hlow 22 (by kernel_rfl)
              · exact hval 0 _ 23 rfl rfl
              · exact hval 1 _ 24 rfl rfl
              · exact hval 2 _ 25 rfl rfl
              · exact hval 3 _ 26 rfl rfl
              · exact hval 4 _ 27 rfl rfl
              · exact hval 5 _ 28 rfl rfl
              · exact hval 6 _ 29 rfl rfl
              · exact hval 7 _ 30 rfl rfl
              · exact hval 8 _ 31 rfl rfl
              · exact hval 9 _ 32 rfl rfl
              · exact hval 10 _ 33 rfl rfl
              · exact hval 11 _ 34 rfl rfl
              · exact hval 12 _ 35 rfl rfl
              · exact hval 13 _ 36 rfl rfl
              · exact hval 14 _ 37 rfl rfl
              · exact hval 15 _ 38 rfl rfl
              · exact hlow 39 (by kernel_rfl)
              · exact hlow 40 (by kernel_rfl)
              · exact hlow 41 (by kernel_rfl)
              · exact hlow 42 (by kernel_rfl)
            subst ht
            clear hlow hval hsz
            obtain ⟨hbz, _, _, _, hS4⟩ := hS
            have HO4 := Lib.hid (hS4 (hall 15 (by decide)))
            have HB4 := Lib.hid hbz
            clear hS4 hbz hall
            go_wp2
            go_roundw
            case rel => exact ⟨k + 1, x, by omega, by go_num, rfl, HO4.out, HB4.out⟩
            case measure => simp [intOf]; omega
          · intro x L a w' kk op hLs ho hLi hLd hLn ⟨hS0, hS1, hS2, hS3, hS4⟩ hlow hdep hold
            have hkk : kk < 17 := (Array.getElem?_eq_some_iff.1 ho).1
            have l0 : a.tmps[0]?.getD undef = .slice (some ad) js.length c := by rw [← Array.getD_eq_getD_getElem?]; exact hlow 0 (by kernel_rfl)
            have l1 : a.tmps[1]?.getD undef = .int .i64 e := by rw [← Array.getD_eq_getD_getElem?]; exact hlow 1 (by kernel_rfl)
            have l7 : a.tmps[7]?.getD undef = .int .i64 (k : Int) := by rw [← Array.getD_eq_getD_getElem?]; exact hlow 7 (by kernel_rfl)
            have D : ∀ j oj d, edgeB _ kk j = true → _ → _ → a.tmps[d]?.getD undef = _ := fun j oj d h1 h2 h3 => (Array.getD_eq_getD_getElem? ..).symm.trans (hdep j oj d h1 h2 h3)
            have K : ∀ {kk : Nat}, kk ≠ 14 → kk ≠ 15 → Below w.heap.size w w' ∧ ((L.setIfInBounds kk true).getD 14 true = false → w'.heap.size = wr.heap.size) ∧ ((L.setIfInBounds kk true).getD 15 true = false → w'.ownsRow w.heap.size 50 4 u6 k (jc ((latsL js e).take k))) ∧ ((L.setIfInBounds kk true).getD 14 true = true → (L.setIfInBounds kk true).getD 15 true = false → BlockIs w' wr.heap.size 50 #[.int .i64 j.t, .int .i64 0, .int .i64 0, .int .i64 (j.d + e)]) ∧ ((L.setIfInBounds kk true).getD 15 true = true → w'.ownsRow w.heap.size 50 4 x (k + 1) (jc ((latsL js e).take (k + 1)))) := fun h6 h7 => ⟨hS0, by rw [set_ne h6]; exact hS1, by rw [set_ne h7]; exact hS2, by rw [set_ne h6, set_ne h7]; exact hS3, by rw [set_ne h7]; exact hS4⟩
            obtain ⟨ad', hA', _, g0, g1, g2, g3⟩ := (hr.below hS0).job hlt
            injection hA' with hA'
            subst hA'
            rw [hj] at g0 g1 g2 g3
            rcases (by omega : kk = 0 ∨ kk = 1 ∨ kk = 2 ∨ kk = 3 ∨ kk = 4 ∨ kk = 5 ∨ kk = 6 ∨ kk = 7 ∨ kk = 8 ∨ kk = 9 ∨ kk = 10 ∨ kk = 11 ∨ kk = 12 ∨ kk = 13 ∨ kk = 14 ∨ kk = 15 ∨ kk = 16) with rfl | rfl | rfl | rfl | rfl | rfl | rfl | rfl | rfl | rfl | rfl | rfl | rfl | rfl | rfl | rfl | rfl
            · obtain rfl := Option.some.inj ho
              have l6 : a.tmps[6]?.getD undef = u6 := (Array.getD_eq_getD_getElem? ..).symm.trans (hold 16 _ 6 (by kernel_rfl) rfl rfl)
              exact ⟨rfl, .inl ⟨x, w', fun _ _ => rfl, by simp [execOp, Act.eval, l6, go_sem], K (by decide) (by decide)⟩⟩
            · obtain rfl := Option.some.inj ho
              exact ⟨rfl, .inl ⟨x, w', fun _ _ => rfl, by simp [execOp, Act.eval, l0, go_sem], K (by decide) (by decide)⟩⟩
            · obtain rfl := Option.some.inj ho
              exact ⟨rfl, .inl ⟨x, w', fun _ _ => rfl, by simp [execOp, Act.eval, l7, go_sem], K (by decide) (by decide)⟩⟩
            · obtain rfl := Option.some.inj ho
              have e25 : a.tmps[25]?.getD undef = .int .i64 (k : Int) := D 2 _ 25 (by kernel_rfl) rfl rfl
              have e24 : a.tmps[24]?.getD undef = .slice (some ad) js.length c := D 1 _ 24 (by kernel_rfl) rfl rfl
              exact ⟨rfl, .inl ⟨x, w', fun _ _ => rfl, by simp [execOp, Act.eval, e25, e24, hk0, hk1, go_sem], K (by decide) (by decide)⟩⟩
            · obtain rfl := Option.some.inj ho
              have e26 : a.tmps[26]?.getD undef = .pointer (some (ad.add (k * 4))) := D 3 _ 26 (by kernel_rfl) rfl rfl
              exact ⟨rfl, .inl ⟨x, w', fun _ _ => rfl, by simp [execOp, Act.eval, e26, go_sem], K (by decide) (by decide)⟩⟩
            · obtain rfl := Option.some.inj ho
              have e27 : a.tmps[27]?.getD undef = .pointer (some (ad.add (k * 4))) := D 4 _ 27 (by kernel_rfl) rfl rfl
              exact ⟨rfl, .inl ⟨x, w', fun _ _ => rfl, by simp [execOp, Act.eval, e27, g0, go_sem], K (by decide) (by decide)⟩⟩
            · obtain rfl := Option.some.inj ho
              exact ⟨rfl, .inl ⟨x, w', fun _ _ => rfl, by simp [execOp, Act.eval, l0, go_sem], K (by decide) (by decide)⟩⟩
            · obtain rfl := Option.some.inj ho
              exact ⟨rfl, .inl ⟨x, w', fun _ _ => rfl, by simp [execOp, Act.eval, l7, go_sem], K (by decide) (by decide)⟩⟩
            · obtain rfl := Option.some.inj ho
              have e30 : a.tmps[30]?.getD undef = .int .i64 (k : Int) := D 7 _ 30 (by kernel_rfl) rfl rfl
              have e29 : a.tmps[29]?.getD undef = .slice (some ad) js.length c := D 6 _ 29 (by kernel_rfl) rfl rfl
              exact ⟨rfl, .inl ⟨x, w', fun _ _ => rfl, by simp [execOp, Act.eval, e30, e29, hk0, hk1, go_sem], K (by decide) (by decide)⟩⟩
            · obtain rfl := Option.some.inj ho
              have e31 : a.tmps[31]?.getD undef = .pointer (some (ad.add (k * 4))) := D 8 _ 31 (by kernel_rfl) rfl rfl
              exact ⟨rfl, .inl ⟨x, w', fun _ _ => rfl, by simp [execOp, Act.eval, e31, go_sem], K (by decide) (by decide)⟩⟩
            · obtain rfl := Option.some.inj ho
              have e32 : a.tmps[32]?.getD undef = .pointer (some ⟨(ad.add (k * 4)).block, (ad.add (k * 4)).off + 3, none⟩) := D 9 _ 32 (by kernel_rfl) rfl rfl
              exact ⟨rfl, .inl ⟨x, w', fun _ _ => rfl, by simp [execOp, Act.eval, e32, g3, go_sem], K (by decide) (by decide)⟩⟩
            · obtain rfl := Option.some.inj ho
              exact ⟨rfl, .inl ⟨x, w', fun _ _ => rfl, by simp [execOp, Act.eval, l1, go_sem], K (by decide) (by decide)⟩⟩
            · obtain rfl := Option.some.inj ho
              have e33 : a.tmps[33]?.getD undef = .int .i64 j.d := D 10 _ 33 (by kernel_rfl) rfl rfl
              have e34 : a.tmps[34]?.getD undef = .int .i64 e := D 11 _ 34 (by kernel_rfl) rfl rfl
              exact ⟨rfl, .inl ⟨x, w', fun _ _ => rfl, by simp [execOp, Act.eval, e33, e34, go_sem]; exact IntWalk.i64_in _ (by omega), K (by decide) (by decide)⟩⟩
            · obtain rfl := Option.some.inj ho
              have e28 : a.tmps[28]?.getD undef = .int .i64 j.t := D 5 _ 28 (by kernel_rfl) rfl rfl
              have e35 : a.tmps[35]?.getD undef = .int .i64 (j.d + e) := D 12 _ 35 (by kernel_rfl) rfl rfl
              exact ⟨rfl, .inl ⟨x, w', fun _ _ => rfl, by simp [execOp, Act.eval, e28, e35, go_sem], K (by decide) (by decide)⟩⟩
            · obtain rfl := Option.some.inj ho
              have e36 : a.tmps[36]?.getD undef = .agg #[.int .i64 j.t, .int .i64 0, .int .i64 0, .int .i64 (j.d + e)] := D 13 _ 36 (by kernel_rfl) rfl rfl
              have hsz1 := hS1 hLi
              have n15 : L.getD 15 true = false := hLn 15 (by kernel_rfl)
              refine ⟨rfl, .inl ⟨x, w'.alloc (.cells #[.int .i64 j.t, .int .i64 0, .int .i64 0, .int .i64 (j.d + e)] 50), fun _ _ => rfl, by simp [execOp, Act.eval, e36, go_sem] <;> exact hsz1, hS0.alloc hS0.size _, fun h => ?_, fun _ => (hS2 n15).alloc _, fun _ _ => ?_, fun h => ?_⟩⟩
              · rw [set_eq (by rw [hLs]; decide)] at h; cases h
              · have := BlockIs.new w' 50 #[.int .i64 j.t, .int .i64 0, .int .i64 0, .int .i64 (j.d + e)]
                rwa [hsz1] at this
              · rw [set_ne (by decide), n15] at h; cases h
            · obtain rfl := Option.some.inj ho
              have e23 : a.tmps[23]?.getD undef = u6 := D 0 _ 23 (by kernel_rfl) rfl rfl
              have e37 : a.tmps[37]?.getD undef = .slice (some ⟨wr.heap.size, 0, none⟩) 1 1 := D 14 _ 37 (by kernel_rfl) rfl rfl
              have t14 : L.getD 14 true = true := hLd 14 (by kernel_rfl)
              have hown := hS2 hLi
              have hB3 := hS3 t14 hLi
              have x23 : a.eval (.tmp 23) = u6 := by simp [Act.eval, e23]
              have x37 : a.eval (.tmp 37) = .slice (some ⟨wr.heap.size, 0, none⟩) 1 1 := by simp [Act.eval, e37]
              obtain ⟨v', w'', hrun, hown', hgrow, _⟩ := append_at (P := Tryd.prog) w' w.heap.size 26 26 50 i0 (.agg #[.int .i64 0, .int .i64 0, .int .i64 0, .int .i64 0]) 4 32 Tryd.underlying26 hi hz0 hz1 hz2 rfl (by decide) u6 k _ hown ⟨wr.heap.size, 0, none⟩ 1 1 [.int .i64 j.t, .int .i64 0, .int .i64 0, .int .i64 (j.d + e)] rfl (fun i u hu => cell_listT hB3 hu) (by intro u hu; simp at hu; rcases hu with rfl | rfl | rfl | rfl <;> rfl) (by omega) (by unfold maxLen; omega) (by omega) hS0.size
              have hbz : Below w.heap.size w w'' := hS0.grown hgrow hS0.size (fun b hb => (hown.lt b hb).1)
              refine ⟨rfl, .inl ⟨v', w'', fun i hi' => ?_, exec_append rfl x23 x37 hrun, hbz, fun h => ?_, fun h => ?_, fun _ h => ?_, fun _ => ?_⟩⟩
              · have n15 : i ≠ 15 := fun e => by subst e; rw [hLi] at hi'; cases hi'
                have f16 : L.getD 16 true = false := hLn 16 (by kernel_rfl)
                have n16 : i ≠ 16 := fun e => by subst e; rw [f16] at hi'; cases hi'
                exact but_taf i n15 n16
              · rw [set_ne (by decide), t14] at h; cases h
              · rw [set_eq (by rw [hLs]; decide)] at h; cases h
              · rw [set_eq (by rw [hLs]; decide)] at h; cases h
              · have hx : jc ((latsL js e).take k) ++ [.int .i64 j.t, .int .i64 0, .int .i64 0, .int .i64 (j.d + e)] = jc ((latsL js e).take (k + 1)) := by
                  rw [List.take_succ_eq_append_getElem (by rw [latsL_len]; exact hlt), latsL_at js e k hlt, hj]; simp [jc, cellsJ, latJ]
                rw [hx] at hown'; exact hown'
            · obtain rfl := Option.some.inj ho
              have e38 : a.tmps[38]?.getD undef = x := D 15 _ 38 (by kernel_rfl) rfl rfl
              exact ⟨rfl, .inl ⟨x, w', fun _ _ => rfl, by simp [execOp, Act.eval, e38, go_sem], K (by decide) (by decide)⟩⟩
        · obtain rfl : k = js.length := by omega
          have ho := HO.out
          rw [List.take_of_length_le (by rw [latsL_len]; exact Nat.le_refl _)] at ho
          obtain ⟨A2, c2, hv, _, hrow⟩ := own_slice ho
          subst hv
          have HC := Lib.hid (HQ.out A2 c2 wr hrow)
          have HB9 := Lib.hid Hb.out
          clear HO ho hrow HQ
          go_wp2_with fail
          refine (l6All_any A2 js.length c2 h8 _).mono ?_
          rintro e1 w4 ⟨v, rfl, hown, hb4⟩
          obtain ⟨B4, d4, rfl, _, hrow4⟩ := own_slice hown
          have HC4 := Lib.hid (HC.out B4 d4 w4 hb4 hrow4)
          have HB4 := Lib.hid (HB9.out.trans (hb4.mono HB9.out.size))
          clear hown hrow4 hb4 HC
          go_wp2_with fail
          refine HC4.out.mono ?_
          rintro e1 w5 ⟨rfl, hb5⟩
          have HB5 := Lib.hid (HB4.out.trans (hb5.mono HB4.out.size))
          clear hb5
          rw [HTL.out]
          go_wp2
          go_ret2
          exact ⟨by rw [HR.out]; rfl, HB5.out⟩
set_option maxRecDepth 100000 in
theorem impl_TimelyAfter (hT : TzTab w) : Calls Tryd.prog 26 #[.slice A js.length c, .int .i64 e] w (RetBB w (afterR js e)) := by
  have HR : Hid (afterR js e = if plainL js && inB e 0 400 then (decide (latL js (dueL js (List.range js.length)) ≤ e), true) else (false, false)) := rfl
  have HT := Lib.hid hT
  clear hT
  by_cases hlo : e < 0
  · have hin : inB e 0 400 = false := inB_no (by omega)
    rw [hin, Bool.and_false] at HR
    go_enter Tryd.func26, Tryd.ntmps26
    go_wp2_with fail
    refine (plainListOf_any A c js w hr (by omega)).mono ?_
    rintro e1 w1 ⟨hb1, ⟨hp, rfl⟩ | ⟨hp, rfl⟩⟩
    all_goals
      go_wp2
      go_ret2
      exact ⟨by rw [HR.out]; rfl, hb1⟩
  · by_cases hhi : 400 < e
    · have hin : inB e 0 400 = false := inB_no (by omega)
      rw [hin, Bool.and_false] at HR
      go_enter Tryd.func26, Tryd.ntmps26
      go_wp2_with fail
      refine (plainListOf_any A c js w hr (by omega)).mono ?_
      rintro e1 w1 ⟨hb1, ⟨hp, rfl⟩ | ⟨hp, rfl⟩⟩
      all_goals
        go_wp2
        go_ret2
        exact ⟨by rw [HR.out]; rfl, hb1⟩
    · have hin : inB e 0 400 = true := inB_yes (by omega) (by omega)
      rw [hin, Bool.and_true] at HR
      go_enter Tryd.func26, Tryd.ntmps26
      go_wp2_with fail
      refine (plainListOf_any A c js w hr (by omega)).mono ?_
      rintro e1 w1 ⟨hb1, ⟨hp, rfl⟩ | ⟨hp, rfl⟩⟩
      · rw [hp] at HR
        obtain ⟨h8, hok⟩ := good_out (plain_good hp)
        have hpw := pow_lt js.length (by omega)
        have HC := Lib.hid (latest_any A c js w1 (hr.below hb1) hok h8 (plain_zero hp) (2 ^ js.length - 1) hpw (fun k hk => all_bit (by omega) hk) (HT.out.below hb1))
        rw [memB_all js.length (by omega)] at HC
        clear hok hpw hp
        go_wp2_with fail
        refine (all_any A js.length c h8 _).mono ?_
        rintro e1 _ ⟨rfl, rfl⟩
        generalize 2 ^ js.length - 1 = sx at *
        go_wp2_with fail
        refine HC.out.mono ?_
        rintro e1 w2 ⟨rfl, hb2⟩
        go_wp2
        go_ret2
        exact ⟨by rw [HR.out]; rfl, hb1.trans (hb2.mono hb1.size)⟩
      · rw [hp] at HR
        go_wp2
        go_ret2
        exact ⟨by rw [HR.out]; rfl, hb1⟩
end
end Go.Proofs.YtnkoncplfedffaaDoor
