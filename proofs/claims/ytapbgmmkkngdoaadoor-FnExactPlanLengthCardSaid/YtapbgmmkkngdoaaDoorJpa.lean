/- Texts joined: Pln Ends EndsO TlS SpP TkP Tkn TkS Wlo ClI RegZ TlI. -/
import Derived.Test.YtapbgmmkkngdoaaDoorPlain
import Derived.Test.YtapbgmmkkngdoaaDoorSchedE
import Derived.Deep.QuietTactic
import Derived.BigQuiet
import Derived.Test.YtapbgmmkkngdoaaDoorClS
import Derived.Test.YtapbgmmkkngdoaaDoorTlP
import Derived.Test.YtapbgmmkkngdoaaDoorJobP
import Derived.Test.YtapbgmmkkngdoaaDoorPrecP
import Derived.Test.YtapbgmmkkngdoaaDoorGroP
import Derived.Test.YtapbgmmkkngdoaaDoorSegH
import Derived.Test.YtapbgmmkkngdoaaDoorPra
import Derived.Test.YtapbgmmkkngdoaaDoorRegX
import Derived.RangeFuncCalls
import Derived.Shelf.RegionOpen
namespace Go.Proofs.YtapbgmmkkngdoaaDoor
open Go.RowKit
section
variable (A : Option Addr) (c : Nat) (js : List J) (w : World) (hr : Row w A (jc js)) (hn : js.length ≤ 100000000)
include hr hn
/-- A list that is not plain is handed on as none. -/
def PlnIs (A : Option Addr) (c : Nat) (js : List J) (w : World) (e : Ending) (w' : World) : Prop :=
  Below w.heap.size w w' ∧ ((plainL js = true ∧ e = .returned (.tuple #[.slice A js.length c, .bool true])) ∨ (plainL js = false ∧ e = .returned (.tuple #[.slice none 0 0, .bool false])))
theorem plainListOf_any : Calls Tryd.prog 86 #[.slice A js.length c] w (PlnIs A c js w) := by
  cases hp : plainL js
  · go_enter Tryd.func86, Tryd.ntmps86
    go_wp2_with fail
    refine (impl_IsPlain A c js _ hr hn).mono ?_
    rintro e w1 ⟨rfl, hb1⟩
    rw [hp]
    go_wp2
    go_ret2
    exact ⟨hb1, .inr ⟨hp, rfl⟩⟩
  · go_enter Tryd.func86, Tryd.ntmps86
    go_wp2_with fail
    refine (impl_IsPlain A c js _ hr hn).mono ?_
    rintro e w1 ⟨rfl, hb1⟩
    rw [hp]
    go_wp2
    go_ret2
    exact ⟨hb1, .inl ⟨hp, rfl⟩⟩
end
end Go.Proofs.YtapbgmmkkngdoaaDoor

namespace Go.Proofs.YtapbgmmkkngdoaaDoor
open Go.RowKit

abbrev natI (p : List Nat) : List Int := p.map Int.ofNat
theorem Row.nat {w : World} {A : Option Addr} {p : List Nat} (h : Row w A (ic (natI p))) {k : Nat} (hk : k < p.length) : ∃ ad, A = some ad ∧ w.cell? (ad.add k) = some (.int .i64 ((p[k] : Nat) : Int)) := by
  obtain ⟨ad, hA, hc⟩ := h.int (k := k) (by simpa using hk)
  exact ⟨ad, hA, by rw [hc]; simp⟩
theorem ic_set (xs : List Int) (j : Nat) (x : Int) : (ic xs).toArray.setIfInBounds j (.int .i64 x) = (ic (xs.set j x)).toArray := by
  unfold ic; simp [List.map_set]
theorem ic_made (n : Nat) : madeCells #[.int .i64 0] n = (ic (List.replicate n 0)).toArray := by
  apply Array.ext'
  apply List.ext_getElem?
  intro i
  by_cases h : i < n
  · simp [madeCells, ic, h, Nat.mod_one]
  · simp [madeCells, ic, h]
theorem BlockIs.int {w : World} {g : Nat} {t : TypeId} {xs : List Int} (h : BlockIs w g t (ic xs).toArray) {k : Nat} (hk : k < xs.length) : w.cell? ⟨g, k, none⟩ = some (.int .i64 xs[k]) := by
  rw [h.cell]; unfold ic; simp [hk]
theorem endsGo_drop (js : List J) (p : List Nat) (k : Nat) (now : Int) (xs : List Int) (h : k < p.length) :
    endsGo js (p.drop k) now xs = endsGo js (p.drop (k + 1)) (max now (js.getD p[k] j0).r + (js.getD p[k] j0).t) (xs.set p[k] (max now (js.getD p[k] j0).r + (js.getD p[k] j0).t)) := by
  rw [List.drop_eq_getElem_cons h]; rfl
theorem startsGo_drop (js : List J) (p : List Nat) (k : Nat) (now : Int) (xs : List Int) (h : k < p.length) :
    startsGo js (p.drop k) now xs = startsGo js (p.drop (k + 1)) (max now (js.getD p[k] j0).r + (js.getD p[k] j0).t) (xs.set p[k] (max now (js.getD p[k] j0).r)) := by
  rw [List.drop_eq_getElem_cons h]; rfl
theorem mix_step {α : Type} (es ss : List α) (k : Nat) (x : α) (h : es.length = ss.length) (hk : k < es.length) (hx : es[k] = x) : (es.take k ++ ss.drop k).set k x = es.take (k + 1) ++ ss.drop (k + 1) := by
  subst hx
  apply List.ext_getElem?
  intro i
  rcases Nat.lt_trichotomy i k with hi | hi | hi
  · rw [List.getElem?_set_ne (by omega), List.getElem?_append_left (by simp; omega), List.getElem?_append_left (by simp; omega), List.getElem?_take, List.getElem?_take, if_pos hi, if_pos (by omega)]
  · subst hi
    rw [List.getElem?_set_self (by simp; omega), List.getElem?_append_left (by simp; omega), List.getElem?_take, if_pos (by omega), List.getElem?_eq_getElem hk]
  · rw [List.getElem?_set_ne (by omega), List.getElem?_append_right (by simp; omega), List.getElem?_append_right (by simp; omega), List.getElem?_drop, List.getElem?_drop]
    simp only [List.length_take]
    congr 1; omega
theorem mix_len {α : Type} (es ss : List α) (k : Nat) (h : es.length = ss.length) (hk : k ≤ es.length) : (es.take k ++ ss.drop k).length = ss.length := by simp; omega
theorem mix_at {α : Type} (es ss : List α) (k : Nat) (h : es.length = ss.length) (hk : k < es.length) : (es.take k ++ ss.drop k)[k]'(by simp; omega) = ss[k] := by
  rw [List.getElem_append_right (by simp; omega)]
  simp [Nat.min_eq_left (Nat.le_of_lt hk)]

theorem seg_of_block {w : World} {g base : Nat} {t : TypeId} {xs : List Int} (h : BlockIs w g t (ic xs).toArray) (hb : base ≤ g) (hm : xs.length ≤ maxLen) : Seg w t 1 base w.heap.size (some ⟨g, 0, none⟩) xs.length xs.length (ic xs) := by
  have := h.own (base := base) (n := xs.length) (c := xs.length) (size := 1) hb (by simp [ic_len]) (Nat.le_refl _) hm (by simp [ic_len])
  rw [List.take_of_length_le (by simp [ic_len])] at this
  exact Seg.of_own this
theorem l1Most_still (x y m : Int) (h : max x y = m) (w : World) :
    Calls Tryd.prog 89 #[.int .i64 x, .int .i64 y] w fun e w' => e = .returned (.int .i64 m) ∧ w' = w := by
  subst h; exact l1Most_any x y w
theorem max_bd {x y b : Int} (hx : 0 ≤ x) (hx' : x ≤ b) (hy : y ≤ b) : 0 ≤ max x y ∧ max x y ≤ b := by omega
theorem ends_starts_at {js : List J} {p : List Nat} (hp : p.Perm (List.range js.length)) {k : Nat} (hk : k < js.length) (h1 : k < (endsL js p).length) (h2 : k < (startsL js p).length) : (endsL js p)[k] = (startsL js p)[k] + js[k].t := by
  have := end_startL js p hp k hk
  rwa [getD_at _ _ h1, getD_at _ _ h2, getD_at js j0 hk] at this
end Go.Proofs.YtapbgmmkkngdoaaDoor

namespace Go.Proofs.YtapbgmmkkngdoaaDoor
open Go.RowKit

def natsOf (o : List Int) : List Nat := o.map Int.toNat
theorem natsOf_natI (p : List Nat) : natsOf (natI p) = p := by
  unfold natsOf natI
  rw [List.map_map, show (Int.toNat ∘ Int.ofNat) = id from rfl, List.map_id]
theorem two_out {js : List J} {o : List Int} (h : twoB js o = true) : goodL js = true ∧ ∃ p : List Nat, o = natI p ∧ p.Perm (List.range js.length) ∧ natsOf o = p := by
  unfold twoB at h
  rw [Bool.and_eq_true] at h
  obtain ⟨p, rfl, hp, _, _⟩ := ord_nat h.2
  exact ⟨h.1, p, rfl, hp, natsOf_natI p⟩
/-- What a function hands back: an int and a bool. -/
def RetNB (w : World) (r : Int × Bool) (e : Ending) (w' : World) : Prop := e = .returned (.tuple #[.int .i64 r.1, .bool r.2]) ∧ Below w.heap.size w w'
theorem ret_empty {w w1 : World} {r : List Int × Bool} (hr : r = ([], false)) (hb : Below w.heap.size w w1) (e : Ending) (he : e = .returned (.tuple #[.slice (some ⟨w1.heap.size, 0, none⟩) 0 0, .bool false])) : RetIB w r e (w1.alloc (.cells #[] 3)) := by
  subst hr he
  have h := BlockIs.new w1 3 (ic []).toArray
  exact ⟨_, 0, rfl, seg_of_block h hb.size (by simp), hb.alloc hb.size _⟩
theorem ret_block {w w' : World} {r : List Int × Bool} {xs : List Int} {g : Nat} (hr : r = (xs, true)) (hg : w.heap.size ≤ g) (hB : BlockIs w' g 3 (ic xs).toArray) (hm : xs.length ≤ 100000000) (hb : Below w.heap.size w w') (e : Ending) (he : e = .returned (.tuple #[.slice (some ⟨g, 0, none⟩) xs.length xs.length, .bool true])) : RetIB w r e w' := by
  subst hr he
  exact ⟨_, xs.length, rfl, seg_of_block hB hg (by unfold maxLen; simp; omega), hb⟩

section
variable (A B : Option Addr) (c d : Nat) (js : List J) (o : List Int) (w : World) (hr : Row w A (jc js)) (hq : Row w B (ic o)) (hn : js.length ≤ 10000000) (hm : o.length ≤ 10000000)
include hr hq hn hm
end
end Go.Proofs.YtapbgmmkkngdoaaDoor

namespace Go.Proofs.YtapbgmmkkngdoaaDoor
open Go.RowKit
def goodB (js : List J) (m : Int) (E : List Pr) : Bool := goodL js && (plain0 js && (inB m 1 4 && precB js.length E))
set_option maxRecDepth 100000 in
set_option maxHeartbeats 1000000 in
theorem l7Good_any (A C : Option Addr) (c d : Nat) (js : List J) (m : Int) (E : List Pr) (w : World) (hr : Row w A (jc js)) (hq : Row w C (pc E)) (hn : js.length ≤ 10000000) (hl : E.length ≤ 10000000) :
    Calls Tryd.prog 58 #[.slice A js.length c, .int .i64 m, .slice C E.length d] w fun e w' => e = .returned (.bool (goodB js m E)) ∧ Below w.heap.size w w' := by
  have HD : Hid (goodB js m E = (goodL js && (plain0 js && (inB m 1 4 && precB js.length E)))) := rfl
  have H1 := Lib.hid (l2Good_any A c js w hr (by omega))
  have H2 := Lib.hid (fun W (hb : Below w.heap.size w W) => l3Plain_any A c js W (hr.below hb) (by omega))
  have H4 := Lib.hid (fun W (hb : Below w.heap.size w W) => l4Good_any C d (js.length : Int) E W (hq.below hb) hl)
  clear hr hq
  go_enter Tryd.func58, Tryd.ntmps58
  go_wp2_with fail
  refine H1.out.mono ?_
  rintro e w1 ⟨rfl, hb1⟩
  cases hg : goodL js
  · rw [hg] at HD
    clear hg
    go_wp2
    go_ret
    exact ⟨by rw [HD.out]; rfl, hb1⟩
  · rw [hg] at HD
    clear hg
    have HB1 := Lib.hid hb1
    clear hb1
    go_wp2_with fail
    refine (H2.out w1 HB1.out).mono ?_
    rintro e w2 ⟨rfl, hb2⟩
    have HB2 := Lib.hid (HB1.out.trans (hb2.mono HB1.out.size))
    clear hb2
    cases hp : plain0 js
    · rw [hp] at HD
      clear hp
      go_wp2
      go_ret
      exact ⟨by rw [HD.out]; rfl, HB2.out⟩
    · rw [hp] at HD
      clear hp
      go_wp2_with fail
      refine (l1In_any m 1 4 _).mono ?_
      rintro e _ ⟨rfl, rfl⟩
      cases hm : inB m 1 4
      · rw [hm] at HD
        clear hm
        go_wp2
        go_ret
        exact ⟨by rw [HD.out]; rfl, HB2.out⟩
      · rw [hm] at HD
        clear hm
        go_wp2_with fail
        refine (H4.out w2 HB2.out).mono ?_
        rintro e w3 ⟨rfl, hb3⟩
        have HB3 := Lib.hid (HB2.out.trans (hb3.mono HB2.out.size))
        clear hb3
        cases hq : precB js.length E
        · rw [hq] at HD
          clear hq
          go_wp2
          go_ret
          exact ⟨by rw [HD.out]; rfl, HB3.out⟩
        · rw [hq] at HD
          clear hq
          go_wp2
          go_ret
          exact ⟨by rw [HD.out]; rfl, HB3.out⟩
section
variable {Bs : Nat} {A : Option Addr} {c : Nat} {js : List J} {E : List Pr} {gs : List Nat} {g cc : Nat} {w : World}
set_option maxRecDepth 100000 in
set_option maxHeartbeats 2000000 in
theorem l7Tail_any (hr : Row w A (jc js)) (hok : ∀ j ∈ js, okJ j = true) (h8 : js.length ≤ 8) (hirr : irrB js.length E js.length = true) (hTb : TabR Bs js.length (tabB js.length E) gs (.slice (some ⟨g, 0, none⟩) gs.length cc) w) (hgl : gs.length = js.length) : ∀ (f j : Nat), f ≤ 9 → j < js.length → cntS js.length (tabB js.length E) j < f →
    Calls Tryd.prog 85 #[.slice A js.length c, .slice (some ⟨g, 0, none⟩) gs.length cc, .int .i64 (j : Int)] w fun e w' => e = .returned (.int .i64 (tailF js (tabB js.length E) js.length f j)) ∧ w = w' := by
  intro f
  induction f with
  | zero => intro j _ _ h; omega
  | succ f ih =>
    intro j hf9 hj hcj
    have HIH := Lib.hid (fun i (hi : i < js.length) (ht : tabB js.length E j i = true) => ih i (by omega) hi (by have := cntS_lt hirr hi ht; omega))
    have HTB := Lib.hid hTb
    have HGL := Lib.hid hgl
    have HRES : Hid (tailF js (tabB js.length E) js.length (f + 1) j = (js.getD j j0).t + mostTo (fun i => tailF js (tabB js.length E) js.length f i) (tabB js.length E j) js.length) := rfl
    have HBD : Hid (∀ k, k ≤ js.length → 0 ≤ mostTo (fun i => tailF js (tabB js.length E) js.length f i) (tabB js.length E j) k ∧ mostTo (fun i => tailF js (tabB js.length E) js.length f i) (tabB js.length E j) k ≤ 50 * (f : Int)) := fun k hk => most_bd (by omega) k fun i hi _ => (tailF_bd hok _ f i (by omega)).2
    have HMS := Lib.hid (mostTo_succ (fun i => tailF js (tabB js.length E) js.length f i) (tabB js.length E j))
    obtain ⟨ad, hA, _, hc0, hc1, hc2, hc3⟩ := hr.job hj
    subst hA
    have hjt := okJ_out (hok _ (List.getElem_mem hj))
    have hgj := getD_at js j0 hj
    rw [hgj] at HRES
    have hj0 : (0 : Int) ≤ j := by omega
    have hj1 : (j : Int) < js.length := by omega
    have hj2 : (j : Int) < gs.length := by rw [hgl]; omega
    generalize js[j] = jb at *
    clear ih hTb hgl hgj hr hcj
    go_enter Tryd.func85, Tryd.ntmps85
    go_wp2
    go_loop [7, 8] (fun mv iv => ∃ k : Nat, k ≤ js.length ∧ iv = .int .i64 (k : Int) ∧ mv = .int .i64 (mostTo (fun i => tailF js (tabB js.length E) js.length f i) (tabB js.length E j) k)) (fun _ iv => js.length - (intOf iv).toNat)
    case atStart => exact ⟨0, Nat.zero_le _, rfl, rfl⟩
    case round =>
      obtain ⟨k, hk, rfl, rfl⟩ := hrel
      by_cases hlt : k < js.length
      · obtain ⟨g1, c1, q, hV, hq, hcell, _, _, _, hrow⟩ := HTB.out.at_ (i := j) (by rw [HGL.out]; exact hj)
        obtain ⟨rfl, rfl⟩ : g = g1 ∧ cc = c1 := by
          injection hV with e1 _ e3
          injection e1 with e1
          injection e1 with e1 _ _
          exact ⟨e1, e3⟩
        have hck := hrow k hlt
        have hk0 : (0 : Int) ≤ k := by omega
        have hk1 : (k : Int) < js.length := by omega
        have HS := Lib.hid (HMS.out k)
        clear hrow hV hq
        cases ht : tabB js.length E j k
        · rw [ht] at hck HS
          clear ht
          generalize mostTo (fun i => tailF js (tabB js.length E) js.length f i) (tabB js.length E j) k = mk at *
          go_wp2
          go_round
          case rel => exact ⟨k + 1, by omega, by go_num, by rw [HS.out]; rfl⟩
          case measure => simp [intOf]; omega
        · have HC := Lib.hid (HIH.out k hlt ht)
          rw [ht] at hck HS
          clear ht
          generalize mostTo (fun i => tailF js (tabB js.length E) js.length f i) (tabB js.length E j) k = mk at *
          go_wp2_with fail
          refine HC.out.mono ?_
          rintro e _ ⟨rfl, rfl⟩
          go_wp2_with fail
          refine (l1Most_any _ _ _).mono ?_
          rintro e _ ⟨rfl, rfl⟩
          go_wp2
          go_round
          case rel => exact ⟨k + 1, by omega, by go_num, by rw [HS.out]; rfl⟩
          case measure => simp [intOf]; omega
      · obtain rfl : k = js.length := by omega
        have hbd := HBD.out _ (Nat.le_refl _)
        generalize mostTo (fun i => tailF js (tabB js.length E) js.length f i) (tabB js.length E j) js.length = mk at *
        go_wp2
        go_ret
        exact ⟨by rw [HRES.out]; rfl, rfl⟩
end
theorem infoIp : (Tryd.prog.info? 3).map (fun i => (i.zero, i.size, i.bytes)) = some (some (.int .i64 0), 1, 8) := by kernel_rfl
/-- Blocks that hold no ints are as they were. -/
def KeepI (w w' : World) : Prop := ∀ q t cs, t ≠ 3 → BlockIs w q t cs → BlockIs w' q t cs
theorem TabR.keepI {B n : Nat} {T : Nat → Nat → Bool} {gs : List Nat} {v : Value} {w w' : World} (h : TabR B n T gs v w) (hk : KeepI w w') : TabR B n T gs v w' := by
  refine ⟨own_to h.1 fun q hq _ _ => ?_, fun i hi => ⟨hk _ _ _ (by decide) (h.2.1 i hi).1, (h.2.1 i hi).2⟩, h.2.2⟩
  obtain ⟨_, _, c1, t1⟩ := own_type h.1 hq
  exact (hk _ _ _ (by decide) t1).trans t1.symm
theorem pushI {w0 w : World} {v : Value} {xs : List Int} (h : w.ownsRow w0.heap.size 3 1 v xs.length (ic xs)) (hb : Below w0.heap.size w0 w) (x : Int) (hl : xs.length ≤ 1000) :
    ∃ v' w3, (Builtin.append_ #[29, 29] 29 #[v, .slice (some ⟨w.heap.size, 0, none⟩) 1 1]).run Tryd.prog (w.alloc (.cells #[.int .i64 x] 3)) = .ok v' w3 ∧
      w3.ownsRow w0.heap.size 3 1 v' (xs ++ [x]).length (ic (xs ++ [x])) ∧ Below w0.heap.size w0 w3 ∧ KeepI w w3 := by
  obtain ⟨i1, hj, hy0, hy1, hy2⟩ := info_parts infoIp
  have hb1 := hb.alloc hb.size (.cells #[.int .i64 x] 3)
  have hbw : Below w.heap.size w (w.alloc (.cells #[.int .i64 x] 3)) := (Below.refl _ w).alloc (Nat.le_refl _) _
  have h2 := own_blw h hbw
  have hsrc := row_srcS (Row.new w 3 #[.int .i64 x])
  obtain ⟨v', w3, hrun, ho3, hgr, _⟩ := append_at (P := Tryd.prog) (w.alloc (.cells #[.int .i64 x] 3)) w0.heap.size 29 29 3 i1 (.int .i64 0) 1 8 Tryd.underlying29 hj hy0 hy1 hy2 rfl (by decide) _ _ _ h2 ⟨w.heap.size, 0, none⟩ 1 1 [.int .i64 x] rfl hsrc (by intro u hu; simp at hu; subst hu; rfl) (by omega) (by unfold maxLen; omega) (by omega) hb1.size
  refine ⟨v', w3, hrun, ?_, hb1.grown hgr hb1.size (fun j hj => (h2.lt j hj).1), fun q t cs ht hB => ?_⟩
  · unfold ic at ho3 ⊢
    simpa using ho3
  · have hB1 := hB.below hbw
    refine (hgr.block q hB1.lt fun e => ?_).trans hB1
    obtain ⟨_, _, c1, t1⟩ := own_type h2 e.symm
    exact type_ne hB1 t1 ht rfl
def tailsTo (js : List J) (E : List Ed) (k : Nat) : List Int := (List.range k).map fun j => tailF js (tabB js.length E) js.length 9 j
theorem tailsTo_succ (js : List J) (E : List Ed) (k : Nat) : tailsTo js E (k + 1) = tailsTo js E k ++ [tailF js (tabB js.length E) js.length 9 k] := by unfold tailsTo; rw [List.range_succ, List.map_append]; rfl
theorem tailsTo_len (js : List J) (E : List Ed) (k : Nat) : (tailsTo js E k).length = k := by unfold tailsTo; simp
set_option maxRecDepth 100000 in
set_option maxHeartbeats 2000000 in
theorem l7Tails_any (A C : Option Addr) (c d : Nat) (js : List J) (E : List Pr) (w : World) (hr : Row w A (jc js)) (hq : Row w C (pc E)) (hl : E.length ≤ 10000000) (hok : ∀ j ∈ js, okJ j = true) (h8 : js.length ≤ 8) (hirr : irrB js.length E js.length = true) (hE : EdsIn js.length E) :
    Calls Tryd.prog 59 #[.slice A js.length c, .slice C E.length d] w fun e w' => ∃ v, e = .returned v ∧ w'.ownsRow w.heap.size 3 1 v (tailsL js E).length (ic (tailsL js E)) ∧ Below w.heap.size w w' := by
  have hb0 := (Below.refl w.heap.size w).alloc (Nat.le_refl _) (.cells #[] 3)
  have h0 : (w.alloc (.cells #[] 3)).ownsRow w.heap.size 3 1 (.slice (some ⟨w.heap.size, 0, none⟩) 0 0) 0 (ic []) := World.ownsRow_made w #[] 0 (Nat.le_refl _) (by unfold maxLen; omega) rfl
  have H0 := Lib.hid (And.intro hb0 h0)
  have HTB := Lib.hid (l4Table_any C d js.length E _ (hq.below hb0) hl h8 hE)
  have HR := Lib.hid hr
  have HLL : Hid (tailsTo js E js.length = tailsL js E) := rfl
  clear hb0 h0 hr hq hE
  go_enter Tryd.func59, Tryd.ntmps59
  go_wp2_with fail
  refine HTB.out.mono ?_
  rintro e w2 ⟨gs, v, rfl, hTb, hgl, hb2⟩
  have HB2 := Lib.hid (H0.out.1.trans (hb2.mono H0.out.1.size))
  have HO2 := Lib.hid (own_blw H0.out.2 hb2)
  have hsz := H0.out.1.size
  obtain ⟨Bs, hBs⟩ : ∃ Bs, Bs = (w.alloc (.cells #[] 3)).heap.size := ⟨_, rfl⟩
  rw [← hBs] at hTb
  have HTb := Lib.hid hTb
  have HGL := Lib.hid hgl
  clear hTb hgl hb2 HTB H0 hBs
  go_wp2
  go_loopw [5, 7] (fun u i wr => ∃ (k : Nat) (U : Value), k ≤ js.length ∧ i = .int .i64 (k : Int) ∧ U = u ∧ Hid (wr.ownsRow w.heap.size 3 1 U (tailsTo js E k).length (ic (tailsTo js E k))) ∧ Hid (TabR Bs js.length (tabB js.length E) gs v wr) ∧ Hid (Below w.heap.size w wr)) (fun _ i _ => js.length - (intOf i).toNat)
  case atStart => exact ⟨0, _, Nat.zero_le _, rfl, rfl, HO2.out, HTb.out, HB2.out⟩
  case round =>
    obtain ⟨k, U, hk, rfl, rfl, hO, hTb, hb⟩ := hrel
    clear HO2 HTb HB2
    by_cases hlt : k < js.length
    · obtain ⟨g, cc, q, hV, _, _, _, _, _, _⟩ := hTb.out.at_ (i := k) (by rw [HGL.out]; exact hlt)
      subst hV
      have HC := Lib.hid (l7Tail_any (c := c) (HR.out.below hb.out) hok h8 hirr hTb.out HGL.out 9 k (by omega) hlt (by have := cntS_le js.length (tabB js.length E) k; omega))
      obtain ⟨v', w3, hrun, hO3, hb3, hk3⟩ := pushI (w0 := w) hO.out hb.out (tailF js (tabB js.length E) js.length 9 k) (by rw [tailsTo_len]; omega)
      have HRUN := Lib.hid hrun
      have HY := Lib.hid (And.intro hO3 (And.intro (hTb.out.keepI hk3) hb3))
      rw [← tailsTo_succ] at HY
      clear hrun hO3 hb3 hk3 hO hTb hb
      generalize tailF js (tabB js.length E) js.length 9 k = tk at *
      go_wp2_with (first | (at_builtin; refine wpList_app rfl _ _ _ rfl _ _ _ rfl rfl HRUN.out ?_; clear HRUN) | (go_at_call 85; refine HC.out.mono ?_; rintro e _ ⟨rfl, rfl⟩))
      go_roundw
      case rel => exact ⟨k + 1, _, by omega, by go_num, rfl, HY.out.1, HY.out.2.1, HY.out.2.2⟩
      case measure => simp [intOf]; omega
    · obtain rfl : k = js.length := by omega
      go_wp2
      go_ret
      exact ⟨U, rfl, by rw [← HLL.out]; exact hO.out, hb.out⟩
def tailsR (js : List J) (E : List Pr) : List Int × Bool := if goodB js 1 E then (tailsL js E, true) else ([], false)
theorem tailsR_len (js : List J) (E : List Pr) : (tailsR js E).1.length ≤ 8 := by
  unfold tailsR
  split
  · rename_i h
    unfold goodB at h
    rw [Bool.and_eq_true] at h
    obtain ⟨h8, _⟩ := good_out h.1
    rw [tailsL_len]; exact h8
  · simp
theorem good_parts {js : List J} {m : Int} {E : List Pr} (h : goodB js m E = true) : (∀ j ∈ js, okJ j = true) ∧ js.length ≤ 8 ∧ irrB js.length E js.length = true ∧ EdsIn js.length E ∧ plainL js = true ∧ precB js.length E = true ∧ inB m 1 4 = true := by
  unfold goodB at h
  simp only [Bool.and_eq_true] at h
  obtain ⟨h8, hok⟩ := good_out h.1
  obtain ⟨n, hn, _, hE⟩ := prec_nat h.2.2.2
  have hn' : js.length = n := by omega
  subst hn'
  refine ⟨hok, h8, ?_, hE, by unfold plainL; rw [h.1, h.2.1]; rfl, h.2.2.2, h.2.2.1⟩
  have hp := h.2.2.2
  rw [← precB_good (by unfold precB at hp; rw [Bool.and_eq_true] at hp; exact hp.1), hp]
theorem ret_ownIr {w w' : World} {r : List Int × Bool} {p : List Int} {v : Value} (hr : r = (p, true)) (ho : w'.ownsRow w.heap.size 3 1 v p.length (ic p)) (hb : Below w.heap.size w w') (e : Ending) (he : e = .returned (.tuple #[v, .bool true])) : RetIB w r e w' := by
  obtain ⟨A, c, rfl, hs⟩ := seg_out ho
  subst hr he
  exact ⟨A, c, rfl, hs, hb⟩
set_option maxRecDepth 100000 in
set_option maxHeartbeats 1000000 in
theorem spec_TailsOf (A C : Option Addr) (c d : Nat) (js : List J) (E : List Pr) (w : World) (hr : Row w A (jc js)) (hq : Row w C (pc E)) (hn : js.length ≤ 10000000) (hl : E.length ≤ 10000000) :
    Calls Tryd.prog 27 #[.slice A js.length c, .slice C E.length d] w (RetIB w (tailsR js E)) := by
  have HRR : Hid (tailsR js E = if goodB js 1 E then (tailsL js E, true) else ([], false)) := rfl
  have HG := Lib.hid (l7Good_any A C c d js 1 E w hr hq hn hl)
  have HR := Lib.hid hr
  have HQ := Lib.hid hq
  clear hr hq
  go_enter Tryd.func27, Tryd.ntmps27
  go_wp2_with fail
  refine HG.out.mono ?_
  rintro e w1 ⟨rfl, hb1⟩
  cases hg : goodB js 1 E
  · rw [hg] at HRR
    have HB := Lib.hid hb1
    clear hg hb1
    go_wp2
    go_ret2
    exact ret_empty HRR.out HB.out _ rfl
  · rw [hg] at HRR
    obtain ⟨hok, h8, hirr, hE, _, _, _⟩ := good_parts hg
    have HT := Lib.hid (l7Tails_any A C c d js E w1 (HR.out.below hb1) (HQ.out.below hb1) hl hok h8 hirr hE)
    have HB := Lib.hid hb1
    clear hg hb1 hok h8 hirr hE
    go_wp2_with fail
    refine HT.out.mono ?_
    rintro e w2 ⟨v, rfl, ho, hb2⟩
    have HO := Lib.hid (And.intro (own_low ho HB.out.size) (HB.out.trans (hb2.mono HB.out.size)))
    clear ho hb2
    go_wp2
    go_ret2
    exact ret_ownIr (p := tailsL js E) HRR.out HO.out.1 HO.out.2 _ rfl
end Go.Proofs.YtapbgmmkkngdoaaDoor

namespace Go.Proofs.YtapbgmmkkngdoaaDoor

structure Sp where
  j : Int
  f : Int
  t : Int
def sp0 : Sp := ⟨0, 0, 0⟩
/-- A span may stand behind one that ends at a time and has a job. -/
def spOk (js : List J) (s : Sp) (now last : Int) : Bool :=
  decide (0 ≤ s.j ∧ s.j < js.length ∧ now ≤ s.f ∧ (js.getD s.j.toNat j0).r ≤ s.f ∧ s.f < s.t ∧ ¬ (s.j = last ∧ s.f = now) ∧ s.t ≤ 1000)
theorem spOk_out {js : List J} {s : Sp} {now last : Int} (h : spOk js s now last = true) : 0 ≤ s.j ∧ s.j < js.length ∧ now ≤ s.f ∧ (js.getD s.j.toNat j0).r ≤ s.f ∧ s.f < s.t ∧ ¬ (s.j = last ∧ s.f = now) ∧ s.t ≤ 1000 := by
  unfold spOk at h; exact of_decide_eq_true h
theorem spOk_not {js : List J} {s : Sp} {now last : Int} (h : spOk js s now last = false) : ¬ (0 ≤ s.j ∧ s.j < js.length ∧ now ≤ s.f ∧ (js.getD s.j.toNat j0).r ≤ s.f ∧ s.f < s.t ∧ ¬ (s.j = last ∧ s.f = now) ∧ s.t ≤ 1000) := by
  unfold spOk at h; exact of_decide_eq_false h
def addD (d : List Int) (s : Sp) : List Int := d.set s.j.toNat (d.getD s.j.toNat 0 + s.t - s.f)
def spGo (js : List J) : List Sp → List Int → Int → Int → Bool
  | [], d, _, _ => decide (d = js.map J.t)
  | s :: ss, d, now, last => spOk js s now last && spGo js ss (addD d s) s.t s.j
def splitB (js : List J) (ss : List Sp) : Bool := spGo js ss (List.replicate js.length 0) 0 (-1)
def spBothB (js : List J) (ss : List Sp) : Bool := goodL js && splitB js ss
theorem spGo_drop (js : List J) (ss : List Sp) (k : Nat) (d : List Int) (now last : Int) (h : k < ss.length) :
    spGo js (ss.drop k) d now last = (spOk js ss[k] now last && spGo js (ss.drop (k + 1)) (addD d ss[k]) ss[k].t ss[k].j) := by
  rw [List.drop_eq_getElem_cons h]; rfl
theorem spGo_bad {js : List J} {ss : List Sp} {k : Nat} {d : List Int} {now last : Int} {b : Bool} (h : k < ss.length) (hE : spGo js (ss.drop k) d now last = b) (ho : spOk js ss[k] now last = false) : b = false := by
  rw [spGo_drop js ss k d now last h, ho] at hE; exact hE.symm
theorem spGo_step {js : List J} {ss : List Sp} {k : Nat} {d : List Int} {now last : Int} {b : Bool} (h : k < ss.length) (hE : spGo js (ss.drop k) d now last = b) (ho : spOk js ss[k] now last = true) : spGo js (ss.drop (k + 1)) (addD d ss[k]) ss[k].t ss[k].j = b := by
  rw [spGo_drop js ss k d now last h, ho] at hE; exact hE
theorem spGo_end {js : List J} {ss : List Sp} {k : Nat} {d : List Int} {now last : Int} {b : Bool} (h : ss.length ≤ k) (hE : spGo js (ss.drop k) d now last = b) : b = decide (d = js.map J.t) := by
  rw [List.drop_eq_nil_of_le h] at hE; exact hE.symm
theorem addD_len (d : List Int) (s : Sp) : (addD d s).length = d.length := by unfold addD; simp
/-- What is done of each job is at most the time. -/
def DoneIn (d : List Int) (now : Int) : Prop := ∀ i, 0 ≤ d.getD i 0 ∧ d.getD i 0 ≤ now
theorem doneIn_zero (n : Nat) : DoneIn (List.replicate n 0) 0 := fun i => by
  simp only [List.getD_eq_getElem?_getD, List.getElem?_replicate]
  split <;> simp
theorem doneIn_step {js : List J} {d : List Int} {s : Sp} {now last : Int} (h : DoneIn d now) (ho : spOk js s now last = true) : DoneIn (addD d s) s.t := fun i => by
  obtain ⟨_, _, h1, _, h2, _, _⟩ := spOk_out ho
  have hi := h i
  have hj := h s.j.toNat
  unfold addD
  by_cases e : s.j.toNat = i
  · by_cases hl : s.j.toNat < d.length
    · subst e
      rw [getD_set_eq _ _ _ _ hl]; omega
    · rw [List.set_eq_of_length_le (by omega)]; omega
  · rw [getD_set_ne _ _ _ _ _ e]; omega

/-- What is still to be done, by eight numbers. -/
def restOf (js : List J) (d : List Int) : List Int := (List.range 8).map fun i => (js.map J.t).getD i 0 - d.getD i 0
theorem restOf_len (js : List J) (d : List Int) : (restOf js d).length = 8 := by unfold restOf; simp
theorem restOf_at (js : List J) (d : List Int) (i : Nat) (h : i < 8) : (restOf js d).getD i 0 = (js.map J.t).getD i 0 - d.getD i 0 := by
  unfold restOf; simp [List.getD_eq_getElem?_getD, h]
theorem restOf_set (js : List J) (d : List Int) (k : Nat) (x : Int) (h : k < d.length) (h8 : d.length ≤ 8) : (restOf js d).set k ((js.map J.t).getD k 0 - x) = restOf js (d.set k x) := by
  apply List.ext_getElem?
  intro i
  unfold restOf
  rw [List.getElem?_set]
  by_cases hi : i < 8
  · by_cases e : k = i
    · subst e
      simp [hi, List.getD_eq_getElem?_getD, h]
    · simp [hi, e, List.getD_eq_getElem?_getD, List.getElem?_set_ne e]
  · have : k ≠ i := by have := h8; omega
    simp [this, hi]
theorem restOf_done (js : List J) (d : List Int) (hd : d.length = js.length) (h8 : js.length ≤ 8) : restOf js d = List.replicate 8 0 ↔ d = js.map J.t := by
  constructor
  · intro h
    apply List.ext_getElem?
    intro i
    by_cases hi : i < js.length
    · have h1 := restOf_at js d i (by omega)
      rw [h] at h1
      have h2 : (List.replicate 8 (0 : Int)).getD i 0 = 0 := by rw [List.getD_eq_getElem?_getD, List.getElem?_replicate]; split <;> rfl
      rw [h2] at h1
      have hid : i < d.length := by omega
      simp only [List.getD_eq_getElem?_getD, List.getElem?_map, List.getElem?_eq_getElem hi, List.getElem?_eq_getElem hid, Option.map_some, Option.getD_some] at h1 ⊢
      rw [show d[i] = js[i].t by omega]
    · rw [List.getElem?_eq_none (by omega), List.getElem?_eq_none (by simp; omega)]
  · intro h
    subst h
    apply List.ext_getElem?
    intro i
    unfold restOf
    by_cases hi : i < 8
    · rw [List.getElem?_replicate, if_pos hi, List.getElem?_map, List.getElem?_range hi, Option.map_some, Int.sub_self]
    · rw [List.getElem?_replicate, if_neg hi, List.getElem?_eq_none (by simp; omega)]
/-- The times of the jobs and zeros: what is to be done at first. -/
def timesR (js : List J) : List Int := restOf js (List.replicate js.length 0)
/-- The same by jobs: those behind the k-th one are still to be laid. -/
def timesTo (js : List J) (k : Nat) : List Int := (List.range 8).map fun i => if i < k then (js.getD i j0).t else 0
theorem timesTo_zero (js : List J) : timesTo js 0 = List.replicate 8 0 := rfl
theorem timesTo_len (js : List J) (k : Nat) : (timesTo js k).length = 8 := by unfold timesTo; simp
theorem timesTo_succ (js : List J) (k : Nat) (hk : k < js.length) : (timesTo js k).set k js[k].t = timesTo js (k + 1) := by
  apply List.ext_getElem?
  intro i
  unfold timesTo
  rw [List.getElem?_set]
  by_cases hi : i < 8
  · by_cases e : k = i
    · subst e; simp [hi, hk]
    · simp only [e, if_false, List.getElem?_map, List.getElem?_range hi, Option.map_some]
      by_cases h : i < k
      · rw [if_pos h, if_pos (by omega)]
      · rw [if_neg h, if_neg (by omega)]
  · by_cases e : k = i
    · subst e; simp [hi]
    · simp [e, hi]
theorem timesTo_all (js : List J) : timesTo js js.length = timesR js := by
  apply List.ext_getElem?
  intro i
  unfold timesTo timesR restOf
  by_cases hi : i < 8
  · simp only [List.getElem?_map, List.getElem?_range hi, Option.map_some, List.getD_eq_getElem?_getD, List.getElem?_replicate]
    by_cases h : i < js.length
    · simp [h]
    · simp [h]
  · simp [hi]
/-- The ends of the jobs in a list of spans, written over each other. -/
def spEnds (n : Nat) : List Sp → List Int → List Int
  | [], xs => xs
  | s :: ss, xs => spEnds n ss (xs.set s.j.toNat s.t)
def spEndsL (js : List J) (ss : List Sp) : List Int := spEnds js.length ss (List.replicate js.length 0)
theorem spEnds_len (n : Nat) : ∀ (ss : List Sp) (xs : List Int), (spEnds n ss xs).length = xs.length
  | [], _ => rfl
  | s :: ss, xs => by unfold spEnds; rw [spEnds_len n ss]; simp
theorem spEndsL_len (js : List J) (ss : List Sp) : (spEndsL js ss).length = js.length := by unfold spEndsL; rw [spEnds_len]; simp
theorem spEnds_drop (n : Nat) (ss : List Sp) (k : Nat) (xs : List Int) (h : k < ss.length) : spEnds n (ss.drop k) xs = spEnds n (ss.drop (k + 1)) (xs.set ss[k].j.toNat ss[k].t) := by
  rw [List.drop_eq_getElem_cons h]; rfl
/-- Each span of a split schedule has a job and ends in time. -/
theorem spGo_mem (js : List J) : ∀ (ss : List Sp) (d : List Int) (now last : Int), spGo js ss d now last = true → 0 ≤ now → ∀ s ∈ ss, 0 ≤ s.j ∧ s.j < js.length ∧ 0 ≤ s.f ∧ s.f < s.t ∧ s.t ≤ 1000
  | [], _, _, _, _, _, s, hs => by cases hs
  | a :: ss, d, now, last, h, h0, s, hs => by
    unfold spGo at h
    rw [Bool.and_eq_true] at h
    obtain ⟨h1, h2, h3, h4, h5, h6, h7⟩ := spOk_out h.1
    rcases List.mem_cons.1 hs with e | e
    · subst e; exact ⟨h1, h2, by omega, h5, h7⟩
    · exact spGo_mem js ss _ _ _ h.2 (by omega) s e
theorem split_mem {js : List J} {ss : List Sp} (h : splitB js ss = true) : ∀ s ∈ ss, 0 ≤ s.j ∧ s.j < js.length ∧ 0 ≤ s.f ∧ s.f < s.t ∧ s.t ≤ 1000 := spGo_mem js ss _ _ _ h (Int.le_refl _)
theorem spEnds_bd (n : Nat) : ∀ (ss : List Sp) (xs : List Int), (∀ s ∈ ss, 0 ≤ s.t ∧ s.t ≤ 1000) → (∀ x ∈ xs, 0 ≤ x ∧ x ≤ 1000) → ∀ x ∈ spEnds n ss xs, 0 ≤ x ∧ x ≤ 1000
  | [], _, _, h => h
  | s :: ss, xs, hs, h => by
    unfold spEnds
    refine spEnds_bd n ss _ (fun a ha => hs a (List.mem_cons_of_mem _ ha)) fun x hx => ?_
    rcases List.mem_or_eq_of_mem_set hx with e | e
    · exact h x e
    · rw [e]; exact hs s List.mem_cons_self
theorem spEndsL_bd {js : List J} {ss : List Sp} (h : splitB js ss = true) : ∀ x ∈ spEndsL js ss, 0 ≤ x ∧ x ≤ 1000 :=
  spEnds_bd _ ss _ (fun s hs => by obtain ⟨_, _, _, _, _⟩ := split_mem h s hs; omega) (fun x hx => by rw [List.eq_of_mem_replicate hx]; omega)
/-- A split schedule is short: each span lies behind the one ahead of it. -/
theorem spGo_short (js : List J) : ∀ (ss : List Sp) (d : List Int) (now last : Int), spGo js ss d now last = true → now ≤ 1000 → (ss.length : Int) + now ≤ 1000
  | [], _, _, _, _, h => by simp; omega
  | a :: ss, d, now, last, h, h0 => by
    unfold spGo at h
    rw [Bool.and_eq_true] at h
    obtain ⟨h1, h2, h3, h4, h5, h6, h7⟩ := spOk_out h.1
    have := spGo_short js ss _ _ _ h.2 h7
    simp only [List.length_cons]; omega
theorem split_short {js : List J} {ss : List Sp} (h : splitB js ss = true) : ss.length ≤ 1000 := by
  have := spGo_short js ss _ _ _ h (by omega)
  omega
end Go.Proofs.YtapbgmmkkngdoaaDoor

namespace Go.Proofs.YtapbgmmkkngdoaaDoor
def tkAt (ss : List Sp) (i : Nat) : Sp := ss.getD i sp0
def jAt (js : List J) (i : Nat) : Int := (js.getD i j0).t
def tkOk (m : Int) (k : Nat) (s : Sp) : Bool := decide (s.j = (k : Int) ∧ 0 ≤ s.f ∧ s.f < m ∧ 0 ≤ s.t ∧ s.t ≤ 500)
def tksB (n : Nat) (m : Int) (ss : List Sp) : Bool := decide (ss.length = n) && (List.range n).all fun k => tkOk m k (tkAt ss k)
/-- The first of a pair of jobs is not over when the second begins. -/
def runsB (js : List J) (ss : List Sp) (i k : Nat) : Bool := decide ((tkAt ss k).t < (tkAt ss i).t + jAt js i)
def clash (js : List J) (T : Nat → Nat → Bool) (ss : List Sp) (i k : Nat) : Bool :=
  (T i k && runsB js ss i k) || (decide (i < k) && (decide ((tkAt ss i).f = (tkAt ss k).f) && (runsB js ss i k && runsB js ss k i)))
def planB (js : List J) (m : Int) (T : Nat → Nat → Bool) (ss : List Sp) : Bool :=
  tksB js.length m ss && (List.range js.length).all fun i => (List.range js.length).all fun k => !clash js T ss i k
/-- As the program asks it, of a job and one before it. -/
def clash2 (js : List J) (T : Nat → Nat → Bool) (ss : List Sp) (i j : Nat) : Bool :=
  (decide ((tkAt ss i).f = (tkAt ss j).f) && (runsB js ss j i && runsB js ss i j)) || ((T i j && runsB js ss i j) || (T j i && runsB js ss j i))
theorem clash2_eq (js : List J) (T : Nat → Nat → Bool) (ss : List Sp) {i j : Nat} (h : j < i) : clash2 js T ss i j = (clash js T ss i j || clash js T ss j i) := by
  unfold clash2 clash
  have h1 : decide (i < j) = false := decide_eq_false (by omega)
  have h2 : decide (j < i) = true := decide_eq_true h
  have h3 : decide ((tkAt ss i).f = (tkAt ss j).f) = decide ((tkAt ss j).f = (tkAt ss i).f) := by
    by_cases e : (tkAt ss i).f = (tkAt ss j).f
    · rw [decide_eq_true e, decide_eq_true e.symm]
    · rw [decide_eq_false e, decide_eq_false (fun q => e q.symm)]
  rw [h1, h2, h3]
  cases T i j <;> cases T j i <;> cases runsB js ss i j <;> cases runsB js ss j i <;> cases decide ((tkAt ss j).f = (tkAt ss i).f) <;> rfl
theorem tks_no_len {n : Nat} {m : Int} {ss : List Sp} (h : ¬ ss.length = n) : tksB n m ss = false := by unfold tksB; rw [decide_eq_false h]; rfl
theorem tks_bad {n : Nat} {m : Int} {ss : List Sp} {k : Nat} (hk : k < n) (h : tkOk m k (tkAt ss k) = false) : tksB n m ss = false := by
  unfold tksB
  rw [List.all_eq_false.2 ⟨k, List.mem_range.2 hk, by rw [h]; decide⟩, Bool.and_false]
theorem tks_good {n : Nat} {m : Int} {ss : List Sp} (hl : ss.length = n) (h : ∀ k, k < n → tkOk m k (tkAt ss k) = true) : tksB n m ss = true := by
  unfold tksB
  rw [decide_eq_true hl, List.all_eq_true.2 (fun k hk => h k (List.mem_range.1 hk))]; rfl
theorem tks_out {n : Nat} {m : Int} {ss : List Sp} (h : tksB n m ss = true) : ss.length = n ∧ ∀ k, k < n → tkOk m k (tkAt ss k) = true := by
  unfold tksB at h
  rw [Bool.and_eq_true] at h
  exact ⟨of_decide_eq_true h.1, fun k hk => List.all_eq_true.1 h.2 k (List.mem_range.2 hk)⟩
theorem tkOk_out {m : Int} {k : Nat} {s : Sp} (h : tkOk m k s = true) : s.j = (k : Int) ∧ 0 ≤ s.f ∧ s.f < m ∧ 0 ≤ s.t ∧ s.t ≤ 500 := of_decide_eq_true h
theorem plan_no {js : List J} {m : Int} {T : Nat → Nat → Bool} {ss : List Sp} (h : tksB js.length m ss = false) : planB js m T ss = false := by unfold planB; rw [h]; rfl
theorem plan_bad {js : List J} {m : Int} {T : Nat → Nat → Bool} {ss : List Sp} {i k : Nat} (hi : i < js.length) (hk : k < js.length) (h : clash js T ss i k = true) : planB js m T ss = false := by
  unfold planB
  rw [List.all_eq_false.2 ⟨i, List.mem_range.2 hi, by rw [List.all_eq_false.2 ⟨k, List.mem_range.2 hk, by rw [h]; decide⟩]; decide⟩, Bool.and_false]
theorem plan_good {js : List J} {m : Int} {T : Nat → Nat → Bool} {ss : List Sp} (ht : tksB js.length m ss = true) (h : ∀ i, i < js.length → ∀ k, k < js.length → clash js T ss i k = false) : planB js m T ss = true := by
  unfold planB
  rw [ht, Bool.true_and]
  exact List.all_eq_true.2 fun i hi => List.all_eq_true.2 fun k hk => by rw [h i (List.mem_range.1 hi) k (List.mem_range.1 hk)]; rfl
theorem plan_out {js : List J} {m : Int} {T : Nat → Nat → Bool} {ss : List Sp} (h : planB js m T ss = true) : tksB js.length m ss = true := by
  unfold planB at h; rw [Bool.and_eq_true] at h; exact h.1
theorem plan_bad2 {js : List J} {m : Int} {T : Nat → Nat → Bool} {ss : List Sp} {i j : Nat} (hi : i < js.length) (hj : j < i) (h : clash2 js T ss i j = true) : planB js m T ss = false := by
  rw [clash2_eq js T ss hj, Bool.or_eq_true] at h
  rcases h with h | h
  · exact plan_bad hi (by omega) h
  · exact plan_bad (by omega) hi h
theorem plan_good2 {js : List J} {m : Int} {T : Nat → Nat → Bool} {ss : List Sp} (ht : tksB js.length m ss = true) (hirr : ∀ i, i < js.length → T i i = false) (h : ∀ i, i < js.length → ∀ j, j < i → clash2 js T ss i j = false) : planB js m T ss = true := by
  refine plan_good ht fun i hi k hk => ?_
  rcases Nat.lt_trichotomy i k with hik | hik | hik
  · have := h k hk i hik
    rw [clash2_eq js T ss hik, Bool.or_eq_false_iff] at this
    exact this.2
  · subst hik
    unfold clash
    rw [hirr i hi, decide_eq_false (Nat.lt_irrefl i)]; rfl
  · have := h i hi k hik
    rw [clash2_eq js T ss hik, Bool.or_eq_false_iff] at this
    exact this.1
theorem irr_at {n : Nat} {E : List Ed} (h : irrB n E n = true) : ∀ i, i < n → tabB n E i i = false := fun i hi => by
  have := List.all_eq_true.1 h i (List.mem_range.2 hi)
  simpa using this
def endsT (js : List J) (ss : List Sp) : List Int := (List.range js.length).map fun i => (tkAt ss i).t + jAt js i
theorem endsT_len (js : List J) (ss : List Sp) : (endsT js ss).length = js.length := by unfold endsT; simp
theorem endsT_at (js : List J) (ss : List Sp) (i : Nat) (h : i < (endsT js ss).length) : (endsT js ss)[i] = (tkAt ss i).t + jAt js i := by simp [endsT]
end Go.Proofs.YtapbgmmkkngdoaaDoor

namespace Go.Proofs.YtapbgmmkkngdoaaDoor
open Go.RowKit

def cellsSp (j : Sp) : List Value := [.int .i64 j.j, .int .i64 j.f, .int .i64 j.t]
abbrev aggSp (j : Sp) : Value := .agg #[.int .i64 j.j, .int .i64 j.f, .int .i64 j.t]
def spc (js : List Sp) : List Value := js.flatMap cellsSp
theorem spc_len : ∀ js : List Sp, (spc js).length = 3 * js.length
  | [] => rfl
  | j :: js => by
    show (cellsSp j ++ spc js).length = _
    rw [List.length_append, spc_len js]; simp [cellsSp]; omega
theorem spc_get : ∀ (js : List Sp) (k i : Nat) (hk : k < js.length), i < 3 → (spc js)[k * 3 + i]? = (cellsSp js[k])[i]?
  | [], _, _, h, _ => by cases h
  | j :: js, 0, i, _, hi => by
    show (cellsSp j ++ spc js)[0 * 3 + i]? = _
    rw [List.getElem?_append_left (by simp [cellsSp]; omega)]
    simp
  | j :: js, k + 1, i, h, hi => by
    show (cellsSp j ++ spc js)[(k + 1) * 3 + i]? = _
    rw [List.getElem?_append_right (by simp [cellsSp]; omega)]
    rw [show (k + 1) * 3 + i - (cellsSp j).length = k * 3 + i by simp [cellsSp]; omega]
    exact spc_get js k i (by simpa using h) hi
theorem Row.span {w : World} {A : Option Addr} {js : List Sp} (h : Row w A (spc js)) {k : Nat} (hk : k < js.length) : ∃ ad, A = some ad ∧ ad.block < w.heap.size ∧
    w.cell? (ad.add (k * 3)) = some (.int .i64 js[k].j) ∧ w.cell? ⟨(ad.add (k * 3)).block, (ad.add (k * 3)).off + 1, none⟩ = some (.int .i64 js[k].f) ∧ w.cell? ⟨(ad.add (k * 3)).block, (ad.add (k * 3)).off + 2, none⟩ = some (.int .i64 js[k].t) := by
  obtain ⟨ad, hA, hb, hc⟩ := h (by rw [spc_len]; omega)
  refine ⟨ad, hA, hb, ?_, ?_, ?_⟩
  · exact hc _ _ (spc_get js k 0 hk (by omega))
  · exact (congrArg w.cell? (add_add ad (k * 3) 1)).trans (hc _ _ (spc_get js k 1 hk (by omega)))
  · exact (congrArg w.cell? (add_add ad (k * 3) 2)).trans (hc _ _ (spc_get js k 2 hk (by omega)))

theorem toTask_any (j : Sp) (w : World) :
    Calls Tryd.prog 68 #[.agg #[.int .i64 j.j, .int .i64 j.f, .int .i64 j.t]] w fun e w' => e = .returned (.agg #[.int .i64 j.j, .int .i64 j.f, .int .i64 j.t]) ∧ Below w.heap.size w w' := by
  go_enter Tryd.func68, Tryd.ntmps68
  go_wp2
  exact bodyPost_ret (v := .agg #[.int .i64 j.j, .int .i64 j.f, .int .i64 j.t]) (by simp [results, Tryd.results68, go_sem]) rfl ⟨rfl, by
    repeat (first | exact Below.refl _ _ | refine Below.setCell ?_ (by simp; try omega) _ | refine Below.alloc ?_ (by simp; try omega) _)⟩
theorem infoSp : (Tryd.prog.info? 96).map (fun i => (i.zero, i.size, i.bytes)) = some (some (.agg #[.int .i64 0, .int .i64 0, .int .i64 0]), 3, 24) := by kernel_rfl
/-- Three cells of a block, from a place on, are set. -/
def set3 (cs : Array Value) (p : Nat) (j : Sp) : Array Value := ((cs.setIfInBounds p (.int .i64 j.j)).setIfInBounds (p + 1) (.int .i64 j.f)).setIfInBounds (p + 2) (.int .i64 j.t)
theorem set3_size (cs : Array Value) (p : Nat) (j : Sp) : (set3 cs p j).size = cs.size := by unfold set3; simp
theorem Upto.step3 {js : List Sp} {k : Nat} {cs : Array Value} (h : Upto (spc js) (k * 3) cs) (hk : k < js.length) : Upto (spc js) ((k + 1) * 3) (set3 cs (k * 3) js[k]) := by
  have hl := spc_len js
  have g0 : (spc js)[k * 3]'(by omega) = .int .i64 js[k].j := by
    have := spc_get js k 0 hk (by omega); rw [List.getElem?_eq_getElem (by omega)] at this; exact Option.some.inj this
  have g1 : (spc js)[k * 3 + 1]'(by omega) = .int .i64 js[k].f := by
    have := spc_get js k 1 hk (by omega); rw [List.getElem?_eq_getElem (by omega)] at this; exact Option.some.inj this
  have g2 : (spc js)[k * 3 + 2]'(by omega) = .int .i64 js[k].t := by
    have := spc_get js k 2 hk (by omega); rw [List.getElem?_eq_getElem (by omega)] at this; exact Option.some.inj this
  have h1 := h.step (by omega)
  rw [g0] at h1
  have h2 := h1.step (by omega)
  rw [g1] at h2
  have h3 := h2.step (by omega)
  rw [g2] at h3
  rw [show (k + 1) * 3 = k * 3 + 1 + 1 + 1 by omega]
  exact h3
theorem BlockIs.set3 {w : World} {g : Nat} {t : TypeId} {cs : Array Value} (h : BlockIs w g t cs) (p : Nat) (j : Sp) :
    BlockIs (((w.setCell ⟨g, p, none⟩ (.int .i64 j.j)).setCell ⟨g, p + 1, none⟩ (.int .i64 j.f)).setCell ⟨g, p + 2, none⟩ (.int .i64 j.t)) g t (set3 cs p j) :=
  ((h.set p _).set (p + 1) _).set (p + 2) _
theorem toTaskS_any (A : Option Addr) (c : Nat) (js : List Sp) (w : World) (hr : Row w A (spc js)) (hn : js.length ≤ 10000000) :
    Calls Tryd.prog 38 #[.slice A js.length c] w fun e w' => ∃ g, e = .returned (.slice (some ⟨g, 0, none⟩) js.length js.length) ∧ w.heap.size ≤ g ∧ w'.ownsRow w.heap.size 96 3 (.slice (some ⟨g, 0, none⟩) js.length js.length) js.length (spc js) ∧ Below w.heap.size w w' := by
  have hmk := run_make_rows (P := Tryd.prog) 51 96 (.agg #[.int .i64 0, .int .i64 0, .int .i64 0]) 3 24 Tryd.underlying51 infoSp .i64 .i64 js.length (by omega) (by omega)
  go_enter Tryd.func38, Tryd.ntmps38
  go_wp2
  go_loopw [4] (fun i wr => ∃ (k : Nat) (cs : Array Value), k ≤ js.length ∧ i = .int .i64 k ∧ BlockIs wr w.heap.size 96 cs ∧ Hid (Upto (spc js) (k * 3) cs) ∧ Below w.heap.size w wr) (fun i _ => js.length - (intOf i).toNat)
  case atStart =>
    exact ⟨0, _, Nat.zero_le _, rfl, BlockIs.new _ _ _, ⟨by rw [size_madeCells, spc_len]; omega, by omega⟩, (Below.refl _ _).alloc (Nat.le_refl _) _⟩
  case round =>
    obtain ⟨k, cs, hk, rfl, hB, hC, hb⟩ := hrel
    clear hmk
    by_cases hlt : k < js.length
    · obtain ⟨ad, hA, hbl, hc0, hc1, hc2⟩ := (hr.below hb).span hlt
      subst hA
      go_wp2_with fail
      refine (toTask_any js[k] _).mono ?_
      rintro e w1 ⟨rfl, hb1⟩
      have hz : cs.size = 3 * js.length := by rw [hC.out.1, spc_len]
      have hB1 := hB.below hb1
      obtain ⟨v0, hk0⟩ := hB1.has (i := k * 3) (by omega)
      obtain ⟨v1, hk1⟩ := hB1.has (i := k * 3 + 1) (by omega)
      obtain ⟨v2, hk2⟩ := hB1.has (i := k * 3 + 2) (by omega)
      have hf0 := hB1.frozen (k * 3)
      have hf1 := hB1.frozen (k * 3 + 1)
      have hf2 := hB1.frozen (k * 3 + 2)
      have HC := Lib.hid (hC.out.step3 hlt)
      have HB := Lib.hid (hB1.set3 (k * 3) js[k])
      have Hb := Lib.hid (hb.trans (hb1.mono hb.size))
      clear hz hB1 hB hC hb hb1 hr hc0 hc1 hc2
      generalize js[k] = j at *
      go_wp2
      go_roundw
      case rel => exact ⟨k + 1, _, by omega, by go_num, HB.out, HC.out, ((Hb.out.setCell (Nat.le_refl _) _).setCell (Nat.le_refl _) _).setCell (Nat.le_refl _) _⟩
      case measure => simp [intOf]; omega
    · go_wp2
      go_ret
      obtain rfl : k = js.length := by omega
      refine ⟨_, rfl, Nat.le_refl _, ?_, hb⟩
      have hC' := hC.out
      rw [show js.length * 3 = (spc js).length by rw [spc_len]; omega] at hC'
      have hsz : cs.size = js.length * 3 := by rw [hC'.1, spc_len]; omega
      have := hB.own (base := w.heap.size) (n := js.length) (c := js.length) (size := 3) (Nat.le_refl _) (by omega) (Nat.le_refl _) (by unfold maxLen; omega) (by omega)
      rwa [List.take_of_length_le (by simp [hsz]), hC'.all] at this

theorem eqTask_same (j : Sp) (w : World) :
    Calls Tryd.prog 70 #[.agg #[.int .i64 j.j, .int .i64 j.f, .int .i64 j.t], .agg #[.int .i64 j.j, .int .i64 j.f, .int .i64 j.t]] w fun e w' => e = .returned (.bool true) ∧ Below w.heap.size w w' := by
  go_enter Tryd.func70, Tryd.ntmps70
  go_wp2
  go_ret
  exact ⟨rfl, ((Below.refl _ _).alloc (Nat.le_refl _) _).alloc (by simp) _⟩
theorem eqTaskS_same (A B : Option Addr) (c d : Nat) (js : List Sp) (w : World) (hr : Row w A (spc js)) (hq : Row w B (spc js)) (hn : js.length ≤ 10000000) :
    Calls Tryd.prog 40 #[.slice A js.length c, .slice B js.length d] w fun e w' => e = .returned (.bool true) ∧ Below w.heap.size w w' := by
  go_enter Tryd.func40, Tryd.ntmps40
  go_wp2
  go_loopw [5] (fun i wr => ∃ k : Nat, k ≤ js.length ∧ i = .int .i64 k ∧ Below w.heap.size w wr) (fun i _ => js.length - (intOf i).toNat)
  case atStart => exact ⟨0, Nat.zero_le _, rfl, Below.refl _ _⟩
  case round =>
    obtain ⟨k, hk, rfl, hb⟩ := hrel
    by_cases hlt : k < js.length
    · obtain ⟨a, hA, _, hc0, hc1, hc2⟩ := (hr.below hb).span hlt
      obtain ⟨b, hB, _, hd0, hd1, hd2⟩ := (hq.below hb).span hlt
      subst hA hB
      have HB := Lib.hid hb
      clear hr hq hb
      generalize js[k] = j at *
      have hi : (0 : Int) ≤ k := by omega
      have hi' : (k : Int) < js.length := by omega
      go_wp2
      go_region_with (go_at_call 70; refine (eqTask_same j _).mono ?_; rintro e w1 ⟨rfl, hb1⟩)
      all_goals
        go_wp2
        go_roundw
        case rel => exact ⟨k + 1, by omega, by go_num, HB.out.trans ((⟨hb1.os, hb1.tape, hb1.output, hb1.size, hb1.block⟩ : Below wr.heap.size wr w1).mono HB.out.size)⟩
        case measure => simp [intOf]; omega
    · go_wp2
      go_ret
      exact ⟨rfl, hb⟩
def numSp (k : Nat) : Sp := ⟨(k : Int), (k : Int) + 1, (k : Int) + 1 + 1⟩
def numsSp (k n : Nat) : List Sp := (List.range n).map fun i => numSp (k + 3 * i)
theorem numsSp_len (k n : Nat) : (numsSp k n).length = n := by unfold numsSp; simp
theorem numsSp_get (k n i : Nat) (h : i < n) : (numsSp k n)[i]'(by rw [numsSp_len]; exact h) = numSp (k + 3 * i) := by unfold numsSp; simp
theorem PreC.step3 {js : List Sp} {k : Nat} {cs : Array Value} (h : PreC (spc js) (k * 3) cs) (hk : k < js.length) : PreC (spc js) ((k + 1) * 3) (set3 cs (k * 3) js[k]) := by
  have hl := spc_len js
  have g0 : (spc js)[k * 3]'(by omega) = .int .i64 js[k].j := by
    have := spc_get js k 0 hk (by omega); rw [List.getElem?_eq_getElem (by omega)] at this; exact Option.some.inj this
  have g1 : (spc js)[k * 3 + 1]'(by omega) = .int .i64 js[k].f := by
    have := spc_get js k 1 hk (by omega); rw [List.getElem?_eq_getElem (by omega)] at this; exact Option.some.inj this
  have g2 : (spc js)[k * 3 + 2]'(by omega) = .int .i64 js[k].t := by
    have := spc_get js k 2 hk (by omega); rw [List.getElem?_eq_getElem (by omega)] at this; exact Option.some.inj this
  have h1 := h.step (by omega)
  rw [g0] at h1
  have h2 := h1.step (by omega)
  rw [g1] at h2
  have h3 := h2.step (by omega)
  rw [g2] at h3
  rw [show (k + 1) * 3 = k * 3 + 1 + 1 + 1 by omega]
  exact h3
theorem toTaskS_seg (A : Option Addr) (c : Nat) (js : List Sp) (w : World) (hr : Row w A (spc js)) (hn : js.length ≤ 10000000) :
    Calls Tryd.prog 38 #[.slice A js.length c] w fun e w' => ∃ g, e = .returned (.slice (some ⟨g, 0, none⟩) js.length js.length) ∧ Seg w' 96 3 w.heap.size w'.heap.size (some ⟨g, 0, none⟩) js.length js.length (spc js) ∧ Below w.heap.size w w' :=
  (toTaskS_any A c js w hr hn).mono fun _ _ ⟨g, he, _, ho, hb⟩ => ⟨g, he, Seg.of_own ho, hb⟩
/-- What a function hands back: a list of spans, memory of its own, and a bool. -/
def RetTB (w : World) (r : List Sp × Bool) (e : Ending) (w' : World) : Prop :=
  ∃ A c, e = .returned (.tuple #[.slice A r.1.length c, .bool r.2]) ∧ Seg w' 96 3 w.heap.size w'.heap.size A r.1.length c (spc r.1) ∧ Below w.heap.size w w'
end Go.Proofs.YtapbgmmkkngdoaaDoor

namespace Go.Proofs.YtapbgmmkkngdoaaDoor
set_option linter.unusedSimpArgs false
open Go.RowKit
/-- Two new blocks. -/
theorem two_blocks (wr : World) (t : TypeId) (X Y : Array Value) : Below wr.heap.size wr ((wr.alloc (.cells X t)).alloc (.cells Y t)).drew ∧ BlockIs ((wr.alloc (.cells X t)).alloc (.cells Y t)).drew wr.heap.size t X ∧ BlockIs ((wr.alloc (.cells X t)).alloc (.cells Y t)).drew (wr.heap.size + 1) t Y := by
  have h1 := (Below.refl wr.heap.size wr).alloc (Nat.le_refl _) (.cells X t)
  have e : (wr.alloc (.cells X t)).heap.size = wr.heap.size + 1 := by simp
  have h2 := BlockIs.new (wr.alloc (.cells X t)) t Y
  rw [e] at h2
  exact ⟨(h1.alloc h1.size _).drew, ((BlockIs.new wr t X).below ((Below.refl _ _).alloc (Nat.le_refl _) _)).drew, h2.drew⟩
set_option maxRecDepth 100000 in
set_option maxHeartbeats 2000000 in
theorem l7Plan_any (A C D : Option Addr) (c d b : Nat) (js : List J) (m : Int) (E : List Pr) (ss : List Sp) (w : World) (hr : Row w A (jc js)) (hq : Row w C (pc E)) (hs : Row w D (spc ss)) (hl : E.length ≤ 10000000) (hg : goodB js m E = true) :
    Calls Tryd.prog 67 #[.slice A js.length c, .int .i64 m, .slice C E.length d, .slice D ss.length b] w fun e w' => e = .returned (.bool (planB js m (tabB js.length E) ss)) ∧ Below w.heap.size w w' := by
  obtain ⟨hok, h8, hirr, hE, hpl, _, hmm⟩ := good_parts hg
  obtain ⟨hm1, hm4⟩ := inB_out hmm
  have HTB := Lib.hid (l4Table_any C d js.length E w hq hl h8 hE)
  have HR := Lib.hid hr
  have HS := Lib.hid hs
  have HOK := Lib.hid hok
  clear hr hq hs hok hirr hE hpl hmm hg
  generalize hTT : tabB js.length E = T at *
  clear hTT
  have hmw : IntKind.i64.wrap (m - 1) = m - 1 := IntWalk.i64_in _ (by omega)
  go_enter Tryd.func67, Tryd.ntmps67
  go_wp2_with fail
  refine HTB.out.mono ?_
  rintro e w1 ⟨gs, v, rfl, hT, hgl, hb1⟩
  obtain ⟨Av, cv, rfl, _, _⟩ := own_slice hT.1
  have HT := Lib.hid hT
  have HB1 := Lib.hid hb1
  have HGL := Lib.hid hgl
  clear hT hb1 HTB hgl
  by_cases hlen : ss.length = js.length
  · go_wp2
    go_loopw [10] (fun iv wr => ∃ k : Nat, k ≤ js.length ∧ iv = .int .i64 (k : Int) ∧ Hid (∀ i, i < k → tkOk m i (tkAt ss i) = true) ∧ Below w1.heap.size w1 wr) (fun iv _ => js.length - (intOf iv).toNat)
    case atStart => exact ⟨0, Nat.zero_le _, rfl, fun i hi => absurd hi (Nat.not_lt_zero i), Below.refl _ _⟩
    case round =>
      obtain ⟨k, hk, rfl, hO, hb⟩ := hrel
      have hbw := HB1.out.trans (hb.mono HB1.out.size)
      by_cases hlt : k < js.length
      · have hks : k < ss.length := by omega
        obtain ⟨ad, hA', hbl, hc0, hc1, hc2⟩ := (HS.out.below hbw).span hks
        subst hA'
        have hk0 : (0 : Int) ≤ k := by omega
        have hk1 : (k : Int) < ss.length := by omega
        have hgj : tkAt ss k = ss[k] := getD_at ss sp0 hks
        have HO : Hid (tkOk m k ss[k] = true → ∀ i, i < k + 1 → tkOk m i (tkAt ss i) = true) := fun h i hi => by
          rcases Nat.lt_succ_iff_lt_or_eq.1 hi with hi | rfl
          · exact hO.out i hi
          · rw [hgj]; exact h
        have HN : Hid (tkOk m k ss[k] = false → planB js m T ss = false) := fun h => plan_no (tks_bad hlt (by rw [hgj]; exact h))
        generalize ss[k] = s at *
        obtain ⟨x, f, t⟩ := s
        dsimp only at hc0 hc1 hc2
        have HB := Lib.hid ((hb.alloc hb.size (.cells #[.int .i64 x, .int .i64 f, .int .i64 t] 96)))
        have HF := Lib.hid (HB1.out.trans (HB.out.mono HB1.out.size))
        have HBW := Lib.hid hbw
        clear hO hb hgj hbw
        by_cases hx : x = (k : Int)
        · subst hx
          cases hf : inB f 0 (m - 1)
          · have hbad := HN.out (decide_eq_false (fun h => inB_not hf ⟨h.2.1, by have := h.2.2.1; dsimp only at this; omega⟩))
            clear HO HN
            go_wp2_with fail
            refine (l1In_any _ _ _ _).mono ?_
            rintro e _ ⟨rfl, rfl⟩
            rw [hf]
            go_wp2
            go_ret
            exact ⟨by rw [hbad]; rfl, HF.out⟩
          · cases ht : inB t 0 500
            · have hbad := HN.out (decide_eq_false (fun h => inB_not ht h.2.2.2))
              clear HO HN
              go_wp2_with fail
              refine (l1In_any _ _ _ _).mono ?_
              rintro e _ ⟨rfl, rfl⟩
              rw [hf]
              go_wp2_with fail
              refine (l1In_any _ _ _ _).mono ?_
              rintro e _ ⟨rfl, rfl⟩
              rw [ht]
              go_wp2
              go_ret
              exact ⟨by rw [hbad]; rfl, HF.out⟩
            · have hfo := inB_out hf
              have hto := inB_out ht
              have HO2 := Lib.hid (HO.out (decide_eq_true ⟨rfl, hfo.1, by dsimp only; omega, hto.1, hto.2⟩))
              clear HO HN hfo hto
              go_wp2_with fail
              refine (l1In_any _ _ _ _).mono ?_
              rintro e _ ⟨rfl, rfl⟩
              rw [hf]
              go_wp2_with fail
              refine (l1In_any _ _ _ _).mono ?_
              rintro e _ ⟨rfl, rfl⟩
              rw [ht]
              go_wp2
              go_roundw
              case rel => exact ⟨k + 1, by omega, by go_num, HO2.out, HB.out⟩
              case measure => simp [intOf]; omega
        · have hbad := HN.out (decide_eq_false (fun h => hx h.1))
          clear HO HN
          go_wp2
          go_ret
          exact ⟨by rw [hbad]; rfl, HF.out⟩
      · obtain rfl : k = js.length := by omega
        have HTK := Lib.hid (tks_good hlen hO.out)
        have HB2 := Lib.hid hbw
        have HTR := Lib.hid (HT.out.below hb)
        clear hO hb HT hbw HB1
        go_wp2
        go_loopw [12] (fun iv wr => ∃ k : Nat, k ≤ js.length ∧ iv = .int .i64 (k : Int) ∧ Hid (∀ i, i < k → ∀ l, l < js.length → clash js T ss i l = false) ∧ Below w.heap.size w wr ∧ TabR w.heap.size js.length T gs (Value.slice Av gs.length cv) wr) (fun iv _ => js.length - (intOf iv).toNat)
        case atStart => exact ⟨0, Nat.zero_le _, rfl, fun i hi => absurd hi (Nat.not_lt_zero i), HB2.out, HTR.out⟩
        case round =>
          obtain ⟨k, hk, rfl, hO, hbK, hTK⟩ := hrel
          by_cases hlt : k < js.length
          · go_wp2
            go_loopw [13] (fun iv wr => ∃ l : Nat, l ≤ js.length ∧ iv = .int .i64 (l : Int) ∧ Hid (∀ i, i < l → clash js T ss k i = false) ∧ Below w.heap.size w wr ∧ TabR w.heap.size js.length T gs (Value.slice Av gs.length cv) wr) (fun iv _ => js.length - (intOf iv).toNat)
            case atStart => exact ⟨0, Nat.zero_le _, rfl, fun i hi => absurd hi (Nat.not_lt_zero i), hbK, hTK⟩
            case round =>
              obtain ⟨l, hl2, rfl, hL, hbL, hTL⟩ := hrel
              by_cases hll : l < js.length
              · have hks : k < ss.length := by omega
                have hls : l < ss.length := by omega
                obtain ⟨ad, hA', hbl, a0, a1, a2⟩ := (HS.out.below hbL).span hks
                subst hA'
                obtain ⟨ad', hA', _, b0, b1, b2⟩ := (HS.out.below hbL).span hls
                obtain rfl := Option.some.inj hA'
                have hk0 : (0 : Int) ≤ k := by omega
                have hk1 : (k : Int) < ss.length := by omega
                have hl0 : (0 : Int) ≤ l := by omega
                have hl1 : (l : Int) < ss.length := by omega
                have hgk : tkAt ss k = ss[k] := getD_at ss sp0 hks
                have hgl : tkAt ss l = ss[l] := getD_at ss sp0 hls
                have hk2 := tkOk_out ((tks_out HTK.out).2 k hlt)
                have hl2' := tkOk_out ((tks_out HTK.out).2 l hll)
                have HL2 : Hid (clash js T ss k l = false → ∀ i, i < l + 1 → clash js T ss k i = false) := fun h i hi => by
                  rcases Nat.lt_succ_iff_lt_or_eq.1 hi with hi | rfl
                  · exact hL.out i hi
                  · exact h
                have HBad : Hid (clash js T ss k l = true → planB js m T ss = false) := fun h => plan_bad hlt hll h
                rw [hgk] at hk2
                rw [hgl] at hl2'
                generalize ss[k] = s1 at *
                generalize ss[l] = s2 at *
                obtain ⟨x1, f1, t1⟩ := s1
                obtain ⟨x2, f2, t2⟩ := s2
                dsimp only at a0 a1 a2 b0 b1 b2 hk2 hl2'
                obtain ⟨rfl, _, _, q0, q1⟩ := hk2
                obtain ⟨rfl, _, _, q2, q3⟩ := hl2'
                have hsz := hbL.size
                have hblk : (ad.add (k * 3)).block < wr.heap.size := by rw [add_block]; exact hbl
                have hbll : (ad.add (l * 3)).block < wr.heap.size := by rw [add_block]; exact hbl
                clear hA' hL hO
                go_wp2
                go_region
                · obtain ⟨hwW, xb, yb⟩ := two_blocks wr 96 #[.int .i64 (k : Int), .int .i64 f1, .int .i64 t1] #[.int .i64 (l : Int), .int .i64 f2, .int .i64 t2]
                  generalize ((wr.alloc (.cells #[.int .i64 (k : Int), .int .i64 f1, .int .i64 t1] 96)).alloc (.cells #[.int .i64 (l : Int), .int .i64 f2, .int .i64 t2] 96)).drew = W at hwW xb yb ⊢
                  have hbW := hbL.trans (hwW.mono hbL.size)
                  have HTW := Lib.hid (hTL.below hwW)
                  obtain ⟨aj, hAj, _, c0, _, _, _⟩ := (HR.out.below hbW).job hlt
                  subst hAj
                  obtain ⟨aj', hAj, _, d0, _, _, _⟩ := (HR.out.below hbW).job hll
                  obtain rfl := Option.some.inj hAj
                  obtain ⟨g1, c1, q, hV, hqq, hcell, _, _, _, hrow⟩ := HTW.out.at_ (i := k) (by rw [HGL.out]; exact hlt)
                  injection hV with hV1 _ hV2
                  subst hV1 hV2
                  have hcr := hrow l hll
                  have hkg : (k : Int) < gs.length := by rw [HGL.out]; omega
                  have hln : (l : Int) < js.length := by omega
                  have hp1 := okJ_out (HOK.out _ (List.getElem_mem hlt))
                  have hp2 := okJ_out (HOK.out _ (List.getElem_mem hll))
                  have e1 : jAt js k = js[k].t := congrArg J.t (getD_at js j0 hlt)
                  have e2 : jAt js l = js[l].t := congrArg J.t (getD_at js j0 hll)
                  have HCL : Hid (clash js T ss k l = ((T k l && decide (t2 < t1 + js[k].t)) || (decide (k < l) && (decide (f1 = f2) && (decide (t2 < t1 + js[k].t) && decide (t1 < t2 + js[l].t)))))) := by show _ = _; unfold clash runsB; rw [hgk, hgl, e1, e2]
                  have xc1 : W.cell? ⟨wr.heap.size, 1, none⟩ = some (.int .i64 f1) := (xb.cell 1).trans rfl
                  have xc2 : W.cell? ⟨wr.heap.size, 2, none⟩ = some (.int .i64 t1) := (xb.cell 2).trans rfl
                  have yc1 : W.cell? ⟨(wr.heap.size + 1), 1, none⟩ = some (.int .i64 f2) := (yb.cell 1).trans rfl
                  have yc2 : W.cell? ⟨(wr.heap.size + 1), 2, none⟩ = some (.int .i64 t2) := (yb.cell 2).trans rfl
                  generalize hTT : T k l = tkl at *
                  generalize js[k].t = p1 at *
                  generalize js[l].t = p2 at *
                  have HBW := Lib.hid hbW
                  have w1 : IntKind.i64.wrap (t1 + p1) = t1 + p1 := IntWalk.i64_in _ (by omega)
                  have w2 : IntKind.i64.wrap (t2 + p2) = t2 + p2 := IntWalk.i64_in _ (by omega)
                  clear xb yb hbW hwW hTL hrow hqq e1 e2 hp1 hp2 hgk hgl a0 a1 a2 b0 b1 b2 hbl hblk hbll hTT
                  by_cases hR : t2 < t1 + p1
                  · have hR' : (decide (t1 + p1 ≤ t2)) = false := decide_eq_false (by omega)
                    have HRB := Lib.hid (decide_eq_true hR)
                    go_wp2
                    go_quiet (fail)
                    cases tkl
                    · by_cases hkl : k < l
                      · have hkl' : (k : Int) < l := by omega
                        by_cases hf : f1 = f2
                        · subst hf
                          by_cases hx : t1 < t2 + p2
                          · skip
                            have hcl := HCL.out
                            rw [HRB.out] at hcl
                            simp only [hkl, hx, decide_true, decide_false, Bool.and_true, Bool.and_false, Bool.true_and, Bool.false_and, Bool.or_false, Bool.or_true, Bool.false_or, Bool.true_or, Bool.or_self, Bool.and_self] at hcl
                            have hbad := HBad.out hcl
                            clear hcl HCL HBad HL2
                            go_wp2
                            go_quiet (fail)
                            go_wp2
                            go_ret
                            exact ⟨by rw [hbad]; rfl, below_drewN (below_drewN HBW.out _) _⟩
                          · have hx2 : decide (t1 < t2 + p2) = false := decide_eq_false hx
                            have hcl := HCL.out
                            rw [HRB.out] at hcl
                            simp only [hkl, hx, decide_true, decide_false, Bool.and_true, Bool.and_false, Bool.true_and, Bool.false_and, Bool.or_false, Bool.or_true, Bool.false_or, Bool.true_or, Bool.or_self, Bool.and_self] at hcl
                            have HL3 := Lib.hid (HL2.out hcl)
                            clear hcl HCL HBad HL2
                            go_wp2
                            go_quiet (fail)
                            go_wp2
                            go_roundw
                            case rel => exact ⟨l + 1, by omega, by go_num, HL3.out, below_drewN HBW.out _, HTW.out.below (below_drewN (Below.refl _ _) _)⟩
                            case measure => simp [intOf]; omega
                        · have hf2 : (f1 == f2) = false := by simpa using hf
                          have hcl := HCL.out
                          rw [HRB.out] at hcl
                          simp only [hkl, hf, decide_true, decide_false, Bool.and_true, Bool.and_false, Bool.true_and, Bool.false_and, Bool.or_false, Bool.or_true, Bool.false_or, Bool.true_or, Bool.or_self, Bool.and_self] at hcl
                          have HL3 := Lib.hid (HL2.out hcl)
                          clear hcl HCL HBad HL2
                          go_wp2
                          go_quiet (fail)
                          go_wp2
                          go_roundw
                          case rel => exact ⟨l + 1, by omega, by go_num, HL3.out, below_drewN HBW.out _, HTW.out.below (below_drewN (Below.refl _ _) _)⟩
                          case measure => simp [intOf]; omega
                      · have hkl' : decide ((k : Int) < l) = false := decide_eq_false (by omega)
                        have hcl := HCL.out
                        rw [HRB.out] at hcl
                        simp only [hkl, decide_true, decide_false, Bool.and_true, Bool.and_false, Bool.true_and, Bool.false_and, Bool.or_false, Bool.or_true, Bool.false_or, Bool.true_or, Bool.or_self, Bool.and_self] at hcl
                        have HL3 := Lib.hid (HL2.out hcl)
                        clear hcl HCL HBad HL2
                        go_wp2
                        go_quiet (fail)
                        go_wp2
                        go_roundw
                        case rel => exact ⟨l + 1, by omega, by go_num, HL3.out, below_drewN HBW.out _, HTW.out.below (below_drewN (Below.refl _ _) _)⟩
                        case measure => simp [intOf]; omega
                    · skip
                      have hcl := HCL.out
                      rw [HRB.out] at hcl
                      simp only [decide_true, decide_false, Bool.and_true, Bool.and_false, Bool.true_and, Bool.false_and, Bool.or_false, Bool.or_true, Bool.false_or, Bool.true_or, Bool.or_self, Bool.and_self] at hcl
                      have hbad := HBad.out hcl
                      clear hcl HCL HBad HL2
                      go_wp2
                      go_quiet (fail)
                      go_wp2
                      go_ret
                      exact ⟨by rw [hbad]; rfl, below_drewN (below_drewN HBW.out _) _⟩
                  · have hR' : t1 + p1 ≤ t2 := by omega
                    have HRB := Lib.hid (decide_eq_false hR)
                    go_wp2
                    go_quiet (fail)
                    cases tkl
                    · by_cases hkl : k < l
                      · have hkl' : (k : Int) < l := by omega
                        by_cases hf : f1 = f2
                        · subst hf
                          have hcl := HCL.out
                          rw [HRB.out] at hcl
                          simp only [hkl, decide_true, decide_false, Bool.and_true, Bool.and_false, Bool.true_and, Bool.false_and, Bool.or_false, Bool.or_true, Bool.false_or, Bool.true_or, Bool.or_self, Bool.and_self] at hcl
                          have HL3 := Lib.hid (HL2.out hcl)
                          clear hcl HCL HBad HL2
                          go_wp2
                          go_quiet (fail)
                          go_wp2
                          go_roundw
                          case rel => exact ⟨l + 1, by omega, by go_num, HL3.out, below_drewN HBW.out _, HTW.out.below (below_drewN (Below.refl _ _) _)⟩
                          case measure => simp [intOf]; omega
                        · have hf2 : (f1 == f2) = false := by simpa using hf
                          have hcl := HCL.out
                          rw [HRB.out] at hcl
                          simp only [hkl, hf, decide_true, decide_false, Bool.and_true, Bool.and_false, Bool.true_and, Bool.false_and, Bool.or_false, Bool.or_true, Bool.false_or, Bool.true_or, Bool.or_self, Bool.and_self] at hcl
                          have HL3 := Lib.hid (HL2.out hcl)
                          clear hcl HCL HBad HL2
                          go_wp2
                          go_quiet (fail)
                          go_wp2
                          go_roundw
                          case rel => exact ⟨l + 1, by omega, by go_num, HL3.out, below_drewN HBW.out _, HTW.out.below (below_drewN (Below.refl _ _) _)⟩
                          case measure => simp [intOf]; omega
                      · have hkl' : decide ((k : Int) < l) = false := decide_eq_false (by omega)
                        have hcl := HCL.out
                        rw [HRB.out] at hcl
                        simp only [hkl, decide_true, decide_false, Bool.and_true, Bool.and_false, Bool.true_and, Bool.false_and, Bool.or_false, Bool.or_true, Bool.false_or, Bool.true_or, Bool.or_self, Bool.and_self] at hcl
                        have HL3 := Lib.hid (HL2.out hcl)
                        clear hcl HCL HBad HL2
                        go_wp2
                        go_quiet (fail)
                        go_wp2
                        go_roundw
                        case rel => exact ⟨l + 1, by omega, by go_num, HL3.out, below_drewN HBW.out _, HTW.out.below (below_drewN (Below.refl _ _) _)⟩
                        case measure => simp [intOf]; omega
                    · by_cases hkl : k < l
                      · have hkl' : (k : Int) < l := by omega
                        by_cases hf : f1 = f2
                        · subst hf
                          have hcl := HCL.out
                          rw [HRB.out] at hcl
                          simp only [hkl, decide_true, decide_false, Bool.and_true, Bool.and_false, Bool.true_and, Bool.false_and, Bool.or_false, Bool.or_true, Bool.false_or, Bool.true_or, Bool.or_self, Bool.and_self] at hcl
                          have HL3 := Lib.hid (HL2.out hcl)
                          clear hcl HCL HBad HL2
                          go_wp2
                          go_quiet (fail)
                          go_wp2
                          go_roundw
                          case rel => exact ⟨l + 1, by omega, by go_num, HL3.out, below_drewN HBW.out _, HTW.out.below (below_drewN (Below.refl _ _) _)⟩
                          case measure => simp [intOf]; omega
                        · have hf2 : (f1 == f2) = false := by simpa using hf
                          have hcl := HCL.out
                          rw [HRB.out] at hcl
                          simp only [hkl, hf, decide_true, decide_false, Bool.and_true, Bool.and_false, Bool.true_and, Bool.false_and, Bool.or_false, Bool.or_true, Bool.false_or, Bool.true_or, Bool.or_self, Bool.and_self] at hcl
                          have HL3 := Lib.hid (HL2.out hcl)
                          clear hcl HCL HBad HL2
                          go_wp2
                          go_quiet (fail)
                          go_wp2
                          go_roundw
                          case rel => exact ⟨l + 1, by omega, by go_num, HL3.out, below_drewN HBW.out _, HTW.out.below (below_drewN (Below.refl _ _) _)⟩
                          case measure => simp [intOf]; omega
                      · have hkl' : decide ((k : Int) < l) = false := decide_eq_false (by omega)
                        have hcl := HCL.out
                        rw [HRB.out] at hcl
                        simp only [hkl, decide_true, decide_false, Bool.and_true, Bool.and_false, Bool.true_and, Bool.false_and, Bool.or_false, Bool.or_true, Bool.false_or, Bool.true_or, Bool.or_self, Bool.and_self] at hcl
                        have HL3 := Lib.hid (HL2.out hcl)
                        clear hcl HCL HBad HL2
                        go_wp2
                        go_quiet (fail)
                        go_wp2
                        go_roundw
                        case rel => exact ⟨l + 1, by omega, by go_num, HL3.out, below_drewN HBW.out _, HTW.out.below (below_drewN (Below.refl _ _) _)⟩
                        case measure => simp [intOf]; omega
                · obtain ⟨hwW, yb, xb⟩ := two_blocks wr 96 #[.int .i64 (l : Int), .int .i64 f2, .int .i64 t2] #[.int .i64 (k : Int), .int .i64 f1, .int .i64 t1]
                  generalize ((wr.alloc (.cells #[.int .i64 (l : Int), .int .i64 f2, .int .i64 t2] 96)).alloc (.cells #[.int .i64 (k : Int), .int .i64 f1, .int .i64 t1] 96)).drew = W at hwW xb yb ⊢
                  have hbW := hbL.trans (hwW.mono hbL.size)
                  have HTW := Lib.hid (hTL.below hwW)
                  obtain ⟨aj, hAj, _, c0, _, _, _⟩ := (HR.out.below hbW).job hlt
                  subst hAj
                  obtain ⟨aj', hAj, _, d0, _, _, _⟩ := (HR.out.below hbW).job hll
                  obtain rfl := Option.some.inj hAj
                  obtain ⟨g1, c1, q, hV, hqq, hcell, _, _, _, hrow⟩ := HTW.out.at_ (i := k) (by rw [HGL.out]; exact hlt)
                  injection hV with hV1 _ hV2
                  subst hV1 hV2
                  have hcr := hrow l hll
                  have hkg : (k : Int) < gs.length := by rw [HGL.out]; omega
                  have hln : (l : Int) < js.length := by omega
                  have hp1 := okJ_out (HOK.out _ (List.getElem_mem hlt))
                  have hp2 := okJ_out (HOK.out _ (List.getElem_mem hll))
                  have e1 : jAt js k = js[k].t := congrArg J.t (getD_at js j0 hlt)
                  have e2 : jAt js l = js[l].t := congrArg J.t (getD_at js j0 hll)
                  have HCL : Hid (clash js T ss k l = ((T k l && decide (t2 < t1 + js[k].t)) || (decide (k < l) && (decide (f1 = f2) && (decide (t2 < t1 + js[k].t) && decide (t1 < t2 + js[l].t)))))) := by show _ = _; unfold clash runsB; rw [hgk, hgl, e1, e2]
                  have xc1 : W.cell? ⟨(wr.heap.size + 1), 1, none⟩ = some (.int .i64 f1) := (xb.cell 1).trans rfl
                  have xc2 : W.cell? ⟨(wr.heap.size + 1), 2, none⟩ = some (.int .i64 t1) := (xb.cell 2).trans rfl
                  have yc1 : W.cell? ⟨wr.heap.size, 1, none⟩ = some (.int .i64 f2) := (yb.cell 1).trans rfl
                  have yc2 : W.cell? ⟨wr.heap.size, 2, none⟩ = some (.int .i64 t2) := (yb.cell 2).trans rfl
                  generalize hTT : T k l = tkl at *
                  generalize js[k].t = p1 at *
                  generalize js[l].t = p2 at *
                  have HBW := Lib.hid hbW
                  have w1 : IntKind.i64.wrap (t1 + p1) = t1 + p1 := IntWalk.i64_in _ (by omega)
                  have w2 : IntKind.i64.wrap (t2 + p2) = t2 + p2 := IntWalk.i64_in _ (by omega)
                  clear xb yb hbW hwW hTL hrow hqq e1 e2 hp1 hp2 hgk hgl a0 a1 a2 b0 b1 b2 hbl hblk hbll hTT
                  by_cases hR : t2 < t1 + p1
                  · have hR' : (decide (t1 + p1 ≤ t2)) = false := decide_eq_false (by omega)
                    have HRB := Lib.hid (decide_eq_true hR)
                    go_wp2
                    go_quiet (fail)
                    cases tkl
                    · by_cases hkl : k < l
                      · have hkl' : (k : Int) < l := by omega
                        by_cases hf : f1 = f2
                        · subst hf
                          by_cases hx : t1 < t2 + p2
                          · skip
                            have hcl := HCL.out
                            rw [HRB.out] at hcl
                            simp only [hkl, hx, decide_true, decide_false, Bool.and_true, Bool.and_false, Bool.true_and, Bool.false_and, Bool.or_false, Bool.or_true, Bool.false_or, Bool.true_or, Bool.or_self, Bool.and_self] at hcl
                            have hbad := HBad.out hcl
                            clear hcl HCL HBad HL2
                            go_wp2
                            go_quiet (fail)
                            go_wp2
                            go_ret
                            exact ⟨by rw [hbad]; rfl, below_drewN (below_drewN HBW.out _) _⟩
                          · have hx2 : decide (t1 < t2 + p2) = false := decide_eq_false hx
                            have hcl := HCL.out
                            rw [HRB.out] at hcl
                            simp only [hkl, hx, decide_true, decide_false, Bool.and_true, Bool.and_false, Bool.true_and, Bool.false_and, Bool.or_false, Bool.or_true, Bool.false_or, Bool.true_or, Bool.or_self, Bool.and_self] at hcl
                            have HL3 := Lib.hid (HL2.out hcl)
                            clear hcl HCL HBad HL2
                            go_wp2
                            go_quiet (fail)
                            go_wp2
                            go_roundw
                            case rel => exact ⟨l + 1, by omega, by go_num, HL3.out, below_drewN HBW.out _, HTW.out.below (below_drewN (Below.refl _ _) _)⟩
                            case measure => simp [intOf]; omega
                        · have hf2 : (f1 == f2) = false := by simpa using hf
                          have hcl := HCL.out
                          rw [HRB.out] at hcl
                          simp only [hkl, hf, decide_true, decide_false, Bool.and_true, Bool.and_false, Bool.true_and, Bool.false_and, Bool.or_false, Bool.or_true, Bool.false_or, Bool.true_or, Bool.or_self, Bool.and_self] at hcl
                          have HL3 := Lib.hid (HL2.out hcl)
                          clear hcl HCL HBad HL2
                          go_wp2
                          go_quiet (fail)
                          go_wp2
                          go_roundw
                          case rel => exact ⟨l + 1, by omega, by go_num, HL3.out, below_drewN HBW.out _, HTW.out.below (below_drewN (Below.refl _ _) _)⟩
                          case measure => simp [intOf]; omega
                      · have hkl' : decide ((k : Int) < l) = false := decide_eq_false (by omega)
                        have hcl := HCL.out
                        rw [HRB.out] at hcl
                        simp only [hkl, decide_true, decide_false, Bool.and_true, Bool.and_false, Bool.true_and, Bool.false_and, Bool.or_false, Bool.or_true, Bool.false_or, Bool.true_or, Bool.or_self, Bool.and_self] at hcl
                        have HL3 := Lib.hid (HL2.out hcl)
                        clear hcl HCL HBad HL2
                        go_wp2
                        go_quiet (fail)
                        go_wp2
                        go_roundw
                        case rel => exact ⟨l + 1, by omega, by go_num, HL3.out, below_drewN HBW.out _, HTW.out.below (below_drewN (Below.refl _ _) _)⟩
                        case measure => simp [intOf]; omega
                    · skip
                      have hcl := HCL.out
                      rw [HRB.out] at hcl
                      simp only [decide_true, decide_false, Bool.and_true, Bool.and_false, Bool.true_and, Bool.false_and, Bool.or_false, Bool.or_true, Bool.false_or, Bool.true_or, Bool.or_self, Bool.and_self] at hcl
                      have hbad := HBad.out hcl
                      clear hcl HCL HBad HL2
                      go_wp2
                      go_quiet (fail)
                      go_wp2
                      go_ret
                      exact ⟨by rw [hbad]; rfl, below_drewN (below_drewN HBW.out _) _⟩
                  · have hR' : t1 + p1 ≤ t2 := by omega
                    have HRB := Lib.hid (decide_eq_false hR)
                    go_wp2
                    go_quiet (fail)
                    cases tkl
                    · by_cases hkl : k < l
                      · have hkl' : (k : Int) < l := by omega
                        by_cases hf : f1 = f2
                        · subst hf
                          have hcl := HCL.out
                          rw [HRB.out] at hcl
                          simp only [hkl, decide_true, decide_false, Bool.and_true, Bool.and_false, Bool.true_and, Bool.false_and, Bool.or_false, Bool.or_true, Bool.false_or, Bool.true_or, Bool.or_self, Bool.and_self] at hcl
                          have HL3 := Lib.hid (HL2.out hcl)
                          clear hcl HCL HBad HL2
                          go_wp2
                          go_quiet (fail)
                          go_wp2
                          go_roundw
                          case rel => exact ⟨l + 1, by omega, by go_num, HL3.out, below_drewN HBW.out _, HTW.out.below (below_drewN (Below.refl _ _) _)⟩
                          case measure => simp [intOf]; omega
                        · have hf2 : (f1 == f2) = false := by simpa using hf
                          have hcl := HCL.out
                          rw [HRB.out] at hcl
                          simp only [hkl, hf, decide_true, decide_false, Bool.and_true, Bool.and_false, Bool.true_and, Bool.false_and, Bool.or_false, Bool.or_true, Bool.false_or, Bool.true_or, Bool.or_self, Bool.and_self] at hcl
                          have HL3 := Lib.hid (HL2.out hcl)
                          clear hcl HCL HBad HL2
                          go_wp2
                          go_quiet (fail)
                          go_wp2
                          go_roundw
                          case rel => exact ⟨l + 1, by omega, by go_num, HL3.out, below_drewN HBW.out _, HTW.out.below (below_drewN (Below.refl _ _) _)⟩
                          case measure => simp [intOf]; omega
                      · have hkl' : decide ((k : Int) < l) = false := decide_eq_false (by omega)
                        have hcl := HCL.out
                        rw [HRB.out] at hcl
                        simp only [hkl, decide_true, decide_false, Bool.and_true, Bool.and_false, Bool.true_and, Bool.false_and, Bool.or_false, Bool.or_true, Bool.false_or, Bool.true_or, Bool.or_self, Bool.and_self] at hcl
                        have HL3 := Lib.hid (HL2.out hcl)
                        clear hcl HCL HBad HL2
                        go_wp2
                        go_quiet (fail)
                        go_wp2
                        go_roundw
                        case rel => exact ⟨l + 1, by omega, by go_num, HL3.out, below_drewN HBW.out _, HTW.out.below (below_drewN (Below.refl _ _) _)⟩
                        case measure => simp [intOf]; omega
                    · by_cases hkl : k < l
                      · have hkl' : (k : Int) < l := by omega
                        by_cases hf : f1 = f2
                        · subst hf
                          have hcl := HCL.out
                          rw [HRB.out] at hcl
                          simp only [hkl, decide_true, decide_false, Bool.and_true, Bool.and_false, Bool.true_and, Bool.false_and, Bool.or_false, Bool.or_true, Bool.false_or, Bool.true_or, Bool.or_self, Bool.and_self] at hcl
                          have HL3 := Lib.hid (HL2.out hcl)
                          clear hcl HCL HBad HL2
                          go_wp2
                          go_quiet (fail)
                          go_wp2
                          go_roundw
                          case rel => exact ⟨l + 1, by omega, by go_num, HL3.out, below_drewN HBW.out _, HTW.out.below (below_drewN (Below.refl _ _) _)⟩
                          case measure => simp [intOf]; omega
                        · have hf2 : (f1 == f2) = false := by simpa using hf
                          have hcl := HCL.out
                          rw [HRB.out] at hcl
                          simp only [hkl, hf, decide_true, decide_false, Bool.and_true, Bool.and_false, Bool.true_and, Bool.false_and, Bool.or_false, Bool.or_true, Bool.false_or, Bool.true_or, Bool.or_self, Bool.and_self] at hcl
                          have HL3 := Lib.hid (HL2.out hcl)
                          clear hcl HCL HBad HL2
                          go_wp2
                          go_quiet (fail)
                          go_wp2
                          go_roundw
                          case rel => exact ⟨l + 1, by omega, by go_num, HL3.out, below_drewN HBW.out _, HTW.out.below (below_drewN (Below.refl _ _) _)⟩
                          case measure => simp [intOf]; omega
                      · have hkl' : decide ((k : Int) < l) = false := decide_eq_false (by omega)
                        have hcl := HCL.out
                        rw [HRB.out] at hcl
                        simp only [hkl, decide_true, decide_false, Bool.and_true, Bool.and_false, Bool.true_and, Bool.false_and, Bool.or_false, Bool.or_true, Bool.false_or, Bool.true_or, Bool.or_self, Bool.and_self] at hcl
                        have HL3 := Lib.hid (HL2.out hcl)
                        clear hcl HCL HBad HL2
                        go_wp2
                        go_quiet (fail)
                        go_wp2
                        go_roundw
                        case rel => exact ⟨l + 1, by omega, by go_num, HL3.out, below_drewN HBW.out _, HTW.out.below (below_drewN (Below.refl _ _) _)⟩
                        case measure => simp [intOf]; omega
              · obtain rfl : l = js.length := by omega
                have hO2 : Hid (∀ i, i < k + 1 → ∀ l, l < js.length → clash js T ss i l = false) := fun i hi => by
                  rcases Nat.lt_succ_iff_lt_or_eq.1 hi with hi | rfl
                  · exact hO.out i hi
                  · exact hL.out
                clear hO hL
                go_wp2
                go_roundw
                case rel => exact ⟨k + 1, by omega, by go_num, hO2, hbL, hTL⟩
                case measure => simp [intOf]; omega
          · obtain rfl : k = js.length := by omega
            have hgd := plan_good HTK.out hO.out
            clear hO
            go_wp2
            go_ret
            exact ⟨by rw [hgd]; rfl, hbK⟩
  · have hbad := plan_no (js := js) (T := T) (tks_no_len (m := m) hlen)
    go_wp2
    go_ret
    exact ⟨by rw [hbad]; rfl, HB1.out⟩
end Go.Proofs.YtapbgmmkkngdoaaDoor

namespace Go.Proofs.YtapbgmmkkngdoaaDoor
open Go.RowKit
def wlC (J : Value) (n : Int) (B : Nat → Nat) : Array Value := #[J, .int .i64 n, .int .u64 (B 0 : Int), .int .u64 (B 1 : Int), .int .u64 (B 2 : Int), .int .u64 (B 3 : Int), .int .u64 (B 4 : Int), .int .u64 (B 5 : Int), .int .u64 (B 6 : Int), .int .u64 (B 7 : Int)]
def wlZ : Array Value := #[.slice none 0 0, .int .i64 0, .int .u64 0, .int .u64 0, .int .u64 0, .int .u64 0, .int .u64 0, .int .u64 0, .int .u64 0, .int .u64 0]
def set10 (w : World) (g : Nat) (J : Value) (n : Int) (B : Nat → Nat) : World := (((((((((w.setCell ⟨g, 0, none⟩ J).setCell ⟨g, 1, none⟩ (.int .i64 n)).setCell ⟨g, 2, none⟩ (.int .u64 (B 0 : Int))).setCell ⟨g, 3, none⟩ (.int .u64 (B 1 : Int))).setCell ⟨g, 4, none⟩ (.int .u64 (B 2 : Int))).setCell ⟨g, 5, none⟩ (.int .u64 (B 3 : Int))).setCell ⟨g, 6, none⟩ (.int .u64 (B 4 : Int))).setCell ⟨g, 7, none⟩ (.int .u64 (B 5 : Int))).setCell ⟨g, 8, none⟩ (.int .u64 (B 6 : Int))).setCell ⟨g, 9, none⟩ (.int .u64 (B 7 : Int))
theorem set10_size (w : World) (g : Nat) (J : Value) (n : Int) (B : Nat → Nat) : (set10 w g J n B).heap.size = w.heap.size := by simp [set10, World.setCell]
theorem set10_cells (cs : Array Value) (hs : cs.size = 10) (J : Value) (n : Int) (B : Nat → Nat) : (((((((((cs.setIfInBounds 0 J).setIfInBounds 1 (.int .i64 n)).setIfInBounds 2 (.int .u64 (B 0 : Int))).setIfInBounds 3 (.int .u64 (B 1 : Int))).setIfInBounds 4 (.int .u64 (B 2 : Int))).setIfInBounds 5 (.int .u64 (B 3 : Int))).setIfInBounds 6 (.int .u64 (B 4 : Int))).setIfInBounds 7 (.int .u64 (B 5 : Int))).setIfInBounds 8 (.int .u64 (B 6 : Int))).setIfInBounds 9 (.int .u64 (B 7 : Int)) = wlC J n B := by
  apply Array.ext
  · simp [hs, wlC]
  · intro i h1 h2
    have : i < 10 := h2
    rcases (by omega : i = 0 ∨ i = 1 ∨ i = 2 ∨ i = 3 ∨ i = 4 ∨ i = 5 ∨ i = 6 ∨ i = 7 ∨ i = 8 ∨ i = 9) with rfl | rfl | rfl | rfl | rfl | rfl | rfl | rfl | rfl | rfl <;> simp [wlC, hs]
theorem block_set10 {w : World} {g : Nat} {cs : Array Value} (h : BlockIs w g 86 cs) (hs : cs.size = 10) (J : Value) (n : Int) (B : Nat → Nat) : BlockIs (set10 w g J n B) g 86 (wlC J n B) := by
  have := (((((((((h.set 0 J).set 1 (.int .i64 n)).set 2 (.int .u64 (B 0 : Int))).set 3 (.int .u64 (B 1 : Int))).set 4 (.int .u64 (B 2 : Int))).set 5 (.int .u64 (B 3 : Int))).set 6 (.int .u64 (B 4 : Int))).set 7 (.int .u64 (B 5 : Int))).set 8 (.int .u64 (B 6 : Int))).set 9 (.int .u64 (B 7 : Int))
  rw [set10_cells cs hs J n B] at this
  exact this
theorem below_set10 {H : Nat} {w0 w : World} (h : Below H w0 w) {g : Nat} (hg : H ≤ g) (J : Value) (n : Int) (B : Nat → Nat) : Below H w0 (set10 w g J n B) :=
  (((((((((h.setCell (p := ⟨g, 0, none⟩) hg _).setCell (p := ⟨g, 1, none⟩) hg _).setCell (p := ⟨g, 2, none⟩) hg _).setCell (p := ⟨g, 3, none⟩) hg _).setCell (p := ⟨g, 4, none⟩) hg _).setCell (p := ⟨g, 5, none⟩) hg _).setCell (p := ⟨g, 6, none⟩) hg _).setCell (p := ⟨g, 7, none⟩) hg _).setCell (p := ⟨g, 8, none⟩) hg _).setCell (p := ⟨g, 9, none⟩) hg _
theorem load10 {g : Nat} {cs : Array Value} {w : World} (h : BlockIs w g 86 cs) (hs : cs.size = 10) : (loadVar 86 ⟨g, 0, none⟩).run Tryd.prog w = .ok (.agg cs) w :=
  run_loadVar_row w g 86 86 cs (0, 0) _ h Tryd.underlying86 rfl (by rw [hs]; kernel_rfl)
theorem results_cellW {fn : Func} {p q : Tmp} (h : fn.results = #[.cell p 86, .tmp q]) (tmps : Array Value) (w : World) (g : Nat) {cs : Array Value}
    (hp : tmps.getD p undef = .pointer (some ⟨g, 0, none⟩)) (hB : BlockIs w g 86 cs) (hs : cs.size = 10) :
    (results fn tmps).run Tryd.prog w = .ok (.tuple #[.agg cs, tmps.getD q undef]) w := by
  have hp' : tmps[p]?.getD undef = .pointer (some ⟨g, 0, none⟩) := by simpa using hp
  simp [results, h, hp', asAddr, load10 hB hs]
def precForB (js : List J) (E : List Pr) : Bool := goodL js && precB js.length E
set_option maxRecDepth 100000 in
set_option maxHeartbeats 4000000 in
theorem precedenceFor_any (A C : Option Addr) (c d : Nat) (js : List J) (E : List Pr) (w : World) (hr : Row w A (jc js)) (hq : Row w C (pc E)) (hn : js.length ≤ 10000000) (hl : E.length ≤ 10000000) (hT : TzTab w) :
    Calls Tryd.prog 87 #[.slice A js.length c, .slice C E.length d] w fun e w' => Below w.heap.size w w' ∧ ((precForB js E = true ∧ js.length ≤ 8 ∧ e = .returned (.tuple #[.agg (precC (js.length : Int) (befN js.length (tabB js.length E))), .bool true])) ∨ (precForB js E = false ∧ e = .returned (.tuple #[.agg precZ, .bool false]))) := by
  have b0 := (Below.refl w.heap.size w).alloc (Nat.le_refl _) (.cells precZ 62)
  have h0 := BlockIs.new w 62 precZ
  have HJ := Lib.hid (IsJobs_any A c js _ (hr.below b0) (by omega))
  have HPO := Lib.hid (fun W (hb : Below w.heap.size w W) => precedenceOf_any C d (js.length : Int) E W (hq.below hb) hl (hT.below hb))
  have HD : Hid (precForB js E = (goodL js && precB js.length E)) := rfl
  have H0 := Lib.hid (And.intro b0 h0)
  clear b0 h0 hr hq hT
  cases hg : goodL js
  · rw [hg] at HJ HD
    clear hg
    go_enter Tryd.func87, Tryd.ntmps87
    go_wp2_with fail
    refine HJ.out.mono ?_
    rintro e w1 ⟨rfl, hb1⟩
    have hb := H0.out.1.trans (hb1.mono H0.out.1.size)
    have hB := H0.out.2.below hb1
    have z0 := hB.cell 0
    have z1 := hB.cell 1
    have z2 := hB.cell 2
    have z3 := hB.cell 3
    have z4 := hB.cell 4
    have z5 := hB.cell 5
    have z6 := hB.cell 6
    have z7 := hB.cell 7
    have z8 := hB.cell 8
    have f0 := hB.frozen 0
    have f1 := hB.frozen 1
    have f2 := hB.frozen 2
    have f3 := hB.frozen 3
    have f4 := hB.frozen 4
    have f5 := hB.frozen 5
    have f6 := hB.frozen 6
    have f7 := hB.frozen 7
    have f8 := hB.frozen 8
    simp only [precZ, List.getElem?_toArray, List.getElem?_cons_zero, List.getElem?_cons_succ] at z0 z1 z2 z3 z4 z5 z6 z7 z8
    have HS := Lib.hid (And.intro (below_set9 hb (Nat.le_refl _) 0 fun _ => 0) (block_set9 hB rfl 0 fun _ => 0))
    clear hb hB hb1 H0 HJ
    go_wp2
    exact bodyPost_ret (v := .tuple #[.agg precZ, .bool false]) (results_cellP (p := 4) (q := 5) rfl _ _ w.heap.size rfl HS.out.2 rfl) rfl ⟨HS.out.1, .inr ⟨HD.out, rfl⟩⟩
  · rw [hg, Bool.true_and] at HD
    rw [hg] at HJ
    clear hg
    go_enter Tryd.func87, Tryd.ntmps87
    go_wp2_with fail
    refine HJ.out.mono ?_
    rintro e w1 ⟨rfl, hb1⟩
    have hb := H0.out.1.trans (hb1.mono H0.out.1.size)
    have HB1 := Lib.hid (And.intro hb (H0.out.2.below hb1))
    have HC := Lib.hid (HPO.out w1 hb)
    clear hb hb1 H0 HJ HPO
    go_wp2_with fail
    refine HC.out.mono ?_
    rintro e w2 ⟨hb2, ⟨hp, m, hm, hm8, _, _, rfl⟩ | ⟨hp, rfl⟩⟩
    · obtain rfl : js.length = m := by omega
      have hB := HB1.out.2.below hb2
      have hb := HB1.out.1.trans (hb2.mono HB1.out.1.size)
      have z0 := hB.cell 0
      have z1 := hB.cell 1
      have z2 := hB.cell 2
      have z3 := hB.cell 3
      have z4 := hB.cell 4
      have z5 := hB.cell 5
      have z6 := hB.cell 6
      have z7 := hB.cell 7
      have z8 := hB.cell 8
      have f0 := hB.frozen 0
      have f1 := hB.frozen 1
      have f2 := hB.frozen 2
      have f3 := hB.frozen 3
      have f4 := hB.frozen 4
      have f5 := hB.frozen 5
      have f6 := hB.frozen 6
      have f7 := hB.frozen 7
      have f8 := hB.frozen 8
      simp only [precZ, List.getElem?_toArray, List.getElem?_cons_zero, List.getElem?_cons_succ] at z0 z1 z2 z3 z4 z5 z6 z7 z8
      have HS := Lib.hid (And.intro (below_set9 hb (Nat.le_refl _) (js.length : Int) (befN js.length (tabB js.length E))) (block_set9 hB rfl (js.length : Int) (befN js.length (tabB js.length E))))
      have HP := Lib.hid (HD.out.trans hp)
      clear hb hB hb2 HB1 HC hp
      unfold precC
      go_wp2
      exact bodyPost_ret (v := .tuple #[.agg (precC (js.length : Int) (befN js.length (tabB js.length E))), .bool true]) (results_cellP (p := 4) (q := 5) rfl _ _ w.heap.size rfl HS.out.2 rfl) rfl ⟨HS.out.1, .inl ⟨HP.out, hm8, rfl⟩⟩
    · have hB := HB1.out.2.below hb2
      have hb := HB1.out.1.trans (hb2.mono HB1.out.1.size)
      have z0 := hB.cell 0
      have z1 := hB.cell 1
      have z2 := hB.cell 2
      have z3 := hB.cell 3
      have z4 := hB.cell 4
      have z5 := hB.cell 5
      have z6 := hB.cell 6
      have z7 := hB.cell 7
      have z8 := hB.cell 8
      have f0 := hB.frozen 0
      have f1 := hB.frozen 1
      have f2 := hB.frozen 2
      have f3 := hB.frozen 3
      have f4 := hB.frozen 4
      have f5 := hB.frozen 5
      have f6 := hB.frozen 6
      have f7 := hB.frozen 7
      have f8 := hB.frozen 8
      simp only [precZ, List.getElem?_toArray, List.getElem?_cons_zero, List.getElem?_cons_succ] at z0 z1 z2 z3 z4 z5 z6 z7 z8
      have HS := Lib.hid (And.intro (below_set9 hb (Nat.le_refl _) 0 fun _ => 0) (block_set9 hB rfl 0 fun _ => 0))
      have HP := Lib.hid (HD.out.trans hp)
      clear hb hB hb2 HB1 HC hp
      unfold precZ
      go_wp2
      exact bodyPost_ret (v := .tuple #[.agg precZ, .bool false]) (results_cellP (p := 4) (q := 5) rfl _ _ w.heap.size rfl HS.out.2 rfl) rfl ⟨HS.out.1, .inr ⟨HP.out, rfl⟩⟩
def wlB (js : List J) (E : List Pr) : Bool := plainL js && precB js.length E
/-- What workloadOf hands back. -/
def WlOut (w : World) (A : Option Addr) (c : Nat) (js : List J) (E : List Pr) (ok : Bool) (e : Ending) (w' : World) : Prop := Below w.heap.size w w' ∧
  ((ok = true ∧ js.length ≤ 8 ∧ e = .returned (.tuple #[.agg (wlC (.slice A js.length c) (js.length : Int) (befN js.length (tabB js.length E))), .bool true])) ∨ (ok = false ∧ e = .returned (.tuple #[.agg wlZ, .bool false])))
set_option maxRecDepth 100000 in
set_option maxHeartbeats 4000000 in
theorem workloadOf_any (A C : Option Addr) (c d : Nat) (js : List J) (E : List Pr) (w : World) (hr : Row w A (jc js)) (hq : Row w C (pc E)) (hn : js.length ≤ 10000000) (hl : E.length ≤ 10000000) (hT : TzTab w) :
    Calls Tryd.prog 61 #[.slice A js.length c, .slice C E.length d] w (WlOut w A c js E (wlB js E)) := by
  have b0 := (Below.refl w.heap.size w).alloc (Nat.le_refl _) (.cells wlZ 86)
  have h0 := BlockIs.new w 86 wlZ
  have HPL := Lib.hid (plainListOf_any A c js _ (hr.below b0) (by omega))
  have HPF := Lib.hid (fun W (hb : Below w.heap.size w W) => precedenceFor_any A C c d js E W (hr.below hb) (hq.below hb) hn hl (hT.below hb))
  have HD : Hid (wlB js E = (plainL js && precB js.length E)) := rfl
  have HDG : Hid (plainL js = true → goodL js = true) := plain_good
  have HDF : Hid (precForB js E = (goodL js && precB js.length E)) := rfl
  have H0 := Lib.hid (And.intro b0 h0)
  clear b0 h0 hr hq hT
  go_enter Tryd.func61, Tryd.ntmps61
  go_wp2_with fail
  refine HPL.out.mono ?_
  rintro e w1 ⟨hb1, ⟨hp, rfl⟩ | ⟨hp, rfl⟩⟩
  · have hb := H0.out.1.trans (hb1.mono H0.out.1.size)
    have HB1 := Lib.hid (And.intro hb (H0.out.2.below hb1))
    have HC := Lib.hid (HPF.out w1 hb)
    have HG := Lib.hid (HDG.out hp)
    rw [hp, Bool.true_and] at HD
    clear hb hb1 H0 HPL HPF hp HDG
    go_wp2_with fail
    refine HC.out.mono ?_
    rintro e w2 ⟨hb2, ⟨hf, h8, rfl⟩ | ⟨hf, rfl⟩⟩
    · have hwl : wlB js E = true := by
        rw [HDF.out, HG.out, Bool.true_and] at hf
        rw [HD.out, hf]
      have HWL := Lib.hid hwl
      have hb := HB1.out.1.trans (hb2.mono HB1.out.1.size)
      have hbA := hb.alloc hb.size (.cells (precC (js.length : Int) (befN js.length (tabB js.length E))) 62)
      have hB := (HB1.out.2.below hb2).below ((Below.refl _ _).alloc (Nat.le_refl _) (.cells (precC (js.length : Int) (befN js.length (tabB js.length E))) 62))
      have z0 := hB.cell 0
      have z1 := hB.cell 1
      have z2 := hB.cell 2
      have z3 := hB.cell 3
      have z4 := hB.cell 4
      have z5 := hB.cell 5
      have z6 := hB.cell 6
      have z7 := hB.cell 7
      have z8 := hB.cell 8
      have z9 := hB.cell 9
      have f0 := hB.frozen 0
      have f1 := hB.frozen 1
      have f2 := hB.frozen 2
      have f3 := hB.frozen 3
      have f4 := hB.frozen 4
      have f5 := hB.frozen 5
      have f6 := hB.frozen 6
      have f7 := hB.frozen 7
      have f8 := hB.frozen 8
      have f9 := hB.frozen 9
      simp only [wlZ, List.getElem?_toArray, List.getElem?_cons_zero, List.getElem?_cons_succ] at z0 z1 z2 z3 z4 z5 z6 z7 z8 z9
      have HS := Lib.hid (And.intro (below_set10 hbA (Nat.le_refl _) (.slice A js.length c) (js.length : Int) (befN js.length (tabB js.length E))) (block_set10 hB rfl (.slice A js.length c) (js.length : Int) (befN js.length (tabB js.length E))))
      clear hb hB hb2 HB1 HC hf hwl hbA
      unfold precC
      unfold precC at z0 z1 z2 z3 z4 z5 z6 z7 z8 z9 f0 f1 f2 f3 f4 f5 f6 f7 f8 f9
      go_wp2
      exact bodyPost_ret (v := .tuple #[.agg (wlC (.slice A js.length c) (js.length : Int) (befN js.length (tabB js.length E))), .bool true]) (results_cellW (p := 4) (q := 5) rfl _ _ w.heap.size rfl HS.out.2 rfl) rfl ⟨HS.out.1, .inl ⟨HWL.out, h8, rfl⟩⟩
    · have hwl : wlB js E = false := by
        rw [HDF.out, HG.out, Bool.true_and] at hf
        rw [HD.out, hf]
      have HWL := Lib.hid hwl
      have hb := HB1.out.1.trans (hb2.mono HB1.out.1.size)
      have hbA := hb.alloc hb.size (.cells precZ 62)
      have hB := (HB1.out.2.below hb2).below ((Below.refl _ _).alloc (Nat.le_refl _) (.cells precZ 62))
      have z0 := hB.cell 0
      have z1 := hB.cell 1
      have z2 := hB.cell 2
      have z3 := hB.cell 3
      have z4 := hB.cell 4
      have z5 := hB.cell 5
      have z6 := hB.cell 6
      have z7 := hB.cell 7
      have z8 := hB.cell 8
      have z9 := hB.cell 9
      have f0 := hB.frozen 0
      have f1 := hB.frozen 1
      have f2 := hB.frozen 2
      have f3 := hB.frozen 3
      have f4 := hB.frozen 4
      have f5 := hB.frozen 5
      have f6 := hB.frozen 6
      have f7 := hB.frozen 7
      have f8 := hB.frozen 8
      have f9 := hB.frozen 9
      simp only [wlZ, List.getElem?_toArray, List.getElem?_cons_zero, List.getElem?_cons_succ] at z0 z1 z2 z3 z4 z5 z6 z7 z8 z9
      have HS := Lib.hid (And.intro (below_set10 hbA (Nat.le_refl _) (.slice none 0 0) 0 fun _ => 0) (block_set10 hB rfl (.slice none 0 0) 0 fun _ => 0))
      clear hb hB hb2 HB1 HC hf hwl hbA
      unfold precZ
      unfold precZ at z0 z1 z2 z3 z4 z5 z6 z7 z8 z9 f0 f1 f2 f3 f4 f5 f6 f7 f8 f9
      go_wp2
      exact bodyPost_ret (v := .tuple #[.agg wlZ, .bool false]) (results_cellW (p := 4) (q := 5) rfl _ _ w.heap.size rfl HS.out.2 rfl) rfl ⟨HS.out.1, .inr ⟨HWL.out, rfl⟩⟩
  · have hb := H0.out.1.trans (hb1.mono H0.out.1.size)
    have HB1 := Lib.hid (And.intro hb (H0.out.2.below hb1))
    have HC := Lib.hid (HPF.out w1 hb)
    rw [hp, Bool.false_and] at HD
    clear hb hb1 H0 HPL HPF hp HDG HDF
    go_wp2_with fail
    refine HC.out.mono ?_
    rintro e w2 ⟨hb2, hcase⟩
    obtain ⟨P9, b9, rfl, hsz⟩ : ∃ P9 b9, e = .returned (.tuple #[.agg P9, .bool b9]) ∧ ∃ n B, P9 = precC n B := by
      rcases hcase with ⟨_, _, rfl⟩ | ⟨_, rfl⟩
      · exact ⟨_, _, rfl, _, _, rfl⟩
      · exact ⟨_, _, rfl, _, _, precZ_eq.symm⟩
    obtain ⟨n9, B9, rfl⟩ := hsz
    clear hcase
    have hb := HB1.out.1.trans (hb2.mono HB1.out.1.size)
    have hbA := hb.alloc hb.size (.cells (precC n9 B9) 62)
    have hB := (HB1.out.2.below hb2).below ((Below.refl _ _).alloc (Nat.le_refl _) (.cells (precC n9 B9) 62))
    have z0 := hB.cell 0
    have z1 := hB.cell 1
    have z2 := hB.cell 2
    have z3 := hB.cell 3
    have z4 := hB.cell 4
    have z5 := hB.cell 5
    have z6 := hB.cell 6
    have z7 := hB.cell 7
    have z8 := hB.cell 8
    have z9 := hB.cell 9
    have f0 := hB.frozen 0
    have f1 := hB.frozen 1
    have f2 := hB.frozen 2
    have f3 := hB.frozen 3
    have f4 := hB.frozen 4
    have f5 := hB.frozen 5
    have f6 := hB.frozen 6
    have f7 := hB.frozen 7
    have f8 := hB.frozen 8
    have f9 := hB.frozen 9
    simp only [wlZ, List.getElem?_toArray, List.getElem?_cons_zero, List.getElem?_cons_succ] at z0 z1 z2 z3 z4 z5 z6 z7 z8 z9
    have HS := Lib.hid (And.intro (below_set10 hbA (Nat.le_refl _) (.slice none 0 0) 0 fun _ => 0) (block_set10 hB rfl (.slice none 0 0) 0 fun _ => 0))
    clear hb hB hb2 HB1 HC hbA
    unfold precC
    unfold precC at z0 z1 z2 z3 z4 z5 z6 z7 z8 z9 f0 f1 f2 f3 f4 f5 f6 f7 f8 f9
    go_wp2
    exact bodyPost_ret (v := .tuple #[.agg wlZ, .bool false]) (results_cellW (p := 4) (q := 5) rfl _ _ w.heap.size rfl HS.out.2 rfl) rfl ⟨HS.out.1, .inr ⟨HD.out, rfl⟩⟩
def onB (js : List J) (m : Int) (E : List Pr) : Bool := inB m 1 4 && wlB js E
set_option maxRecDepth 100000 in
set_option maxHeartbeats 4000000 in
theorem workloadOn_any (A C : Option Addr) (c d : Nat) (js : List J) (m : Int) (E : List Pr) (w : World) (hr : Row w A (jc js)) (hq : Row w C (pc E)) (hn : js.length ≤ 10000000) (hl : E.length ≤ 10000000) (hT : TzTab w) :
    Calls Tryd.prog 65 #[.slice A js.length c, .int .i64 m, .slice C E.length d] w (WlOut w A c js E (onB js m E)) := by
  have b0 := (Below.refl w.heap.size w).alloc (Nat.le_refl _) (.cells wlZ 86)
  have h0 := BlockIs.new w 86 wlZ
  have HWO := Lib.hid (workloadOf_any A C c d js E _ (hr.below b0) (hq.below b0) hn hl (hT.below b0))
  have HD : Hid (onB js m E = (inB m 1 4 && wlB js E)) := rfl
  have H0 := Lib.hid (And.intro b0 h0)
  clear b0 h0 hr hq hT
  by_cases h1 : m < 1
  · have HF : Hid (onB js m E = false) := by show _ = _; rw [HD.out, inB_no (by omega)]; rfl
    clear HWO
    go_enter Tryd.func65, Tryd.ntmps65
    go_wp2
    exact bodyPost_ret (v := .tuple #[.agg wlZ, .bool false]) (results_cellW (p := 6) (q := 7) rfl _ _ w.heap.size rfl H0.out.2 rfl) rfl ⟨H0.out.1, .inr ⟨HF.out, rfl⟩⟩
  · by_cases h4 : 4 < m
    · have HF : Hid (onB js m E = false) := by show _ = _; rw [HD.out, inB_no (by omega)]; rfl
      clear HWO
      go_enter Tryd.func65, Tryd.ntmps65
      go_wp2
      exact bodyPost_ret (v := .tuple #[.agg wlZ, .bool false]) (results_cellW (p := 6) (q := 7) rfl _ _ w.heap.size rfl H0.out.2 rfl) rfl ⟨H0.out.1, .inr ⟨HF.out, rfl⟩⟩
    · have HT1 : Hid (onB js m E = wlB js E) := by show _ = _; rw [HD.out, inB_yes (by omega) (by omega)]; rfl
      go_enter Tryd.func65, Tryd.ntmps65
      go_wp2_with fail
      refine HWO.out.mono ?_
      rintro e w1 ⟨hb1, ⟨hw, h8, rfl⟩ | ⟨hw, rfl⟩⟩
      · have hb := H0.out.1.trans (hb1.mono H0.out.1.size)
        have hB := H0.out.2.below hb1
        have HW := Lib.hid (HT1.out.trans hw)
        have z0 := hB.cell 0
        have z1 := hB.cell 1
        have z2 := hB.cell 2
        have z3 := hB.cell 3
        have z4 := hB.cell 4
        have z5 := hB.cell 5
        have z6 := hB.cell 6
        have z7 := hB.cell 7
        have z8 := hB.cell 8
        have z9 := hB.cell 9
        have f0 := hB.frozen 0
        have f1 := hB.frozen 1
        have f2 := hB.frozen 2
        have f3 := hB.frozen 3
        have f4 := hB.frozen 4
        have f5 := hB.frozen 5
        have f6 := hB.frozen 6
        have f7 := hB.frozen 7
        have f8 := hB.frozen 8
        have f9 := hB.frozen 9
        simp only [wlZ, List.getElem?_toArray, List.getElem?_cons_zero, List.getElem?_cons_succ] at z0 z1 z2 z3 z4 z5 z6 z7 z8 z9
        have HS := Lib.hid (And.intro (below_set10 hb (Nat.le_refl _) (.slice A js.length c) (js.length : Int) (befN js.length (tabB js.length E))) (block_set10 hB rfl (.slice A js.length c) (js.length : Int) (befN js.length (tabB js.length E))))
        clear hb hB hb1 H0 HWO hw
        unfold wlC
        go_wp2
        exact bodyPost_ret (v := .tuple #[.agg (wlC (.slice A js.length c) (js.length : Int) (befN js.length (tabB js.length E))), .bool true]) (results_cellW (p := 6) (q := 7) rfl _ _ w.heap.size rfl HS.out.2 rfl) rfl ⟨HS.out.1, .inl ⟨HW.out, h8, rfl⟩⟩
      · have hb := H0.out.1.trans (hb1.mono H0.out.1.size)
        have hB := H0.out.2.below hb1
        have HW := Lib.hid (HT1.out.trans hw)
        have z0 := hB.cell 0
        have z1 := hB.cell 1
        have z2 := hB.cell 2
        have z3 := hB.cell 3
        have z4 := hB.cell 4
        have z5 := hB.cell 5
        have z6 := hB.cell 6
        have z7 := hB.cell 7
        have z8 := hB.cell 8
        have z9 := hB.cell 9
        have f0 := hB.frozen 0
        have f1 := hB.frozen 1
        have f2 := hB.frozen 2
        have f3 := hB.frozen 3
        have f4 := hB.frozen 4
        have f5 := hB.frozen 5
        have f6 := hB.frozen 6
        have f7 := hB.frozen 7
        have f8 := hB.frozen 8
        have f9 := hB.frozen 9
        simp only [wlZ, List.getElem?_toArray, List.getElem?_cons_zero, List.getElem?_cons_succ] at z0 z1 z2 z3 z4 z5 z6 z7 z8 z9
        have HS := Lib.hid (And.intro (below_set10 hb (Nat.le_refl _) (.slice none 0 0) 0 fun _ => 0) (block_set10 hB rfl (.slice none 0 0) 0 fun _ => 0))
        clear hb hB hb1 H0 HWO hw
        unfold wlZ
        go_wp2
        exact bodyPost_ret (v := .tuple #[.agg wlZ, .bool false]) (results_cellW (p := 6) (q := 7) rfl _ _ w.heap.size rfl HS.out.2 rfl) rfl ⟨HS.out.1, .inr ⟨HW.out, rfl⟩⟩
theorem tlB (js : List J) (E : List Pr) : wlB js E = (plainL js && precB js.length E) := rfl
end Go.Proofs.YtapbgmmkkngdoaaDoor

namespace Go.Proofs.YtapbgmmkkngdoaaDoor
open Go.RowKit
set_option maxRecDepth 100000 in
set_option maxHeartbeats 1000000 in
theorem comesBefore_any (n : Int) (B : Nat → Nat) (hB8 : ∀ j, j < 8 → B j < 256) (i j : Nat) (hi : i < 8) (hj : j < 8) (w : World) :
    Calls Tryd.prog 77 #[.agg (precC n B), .int .i64 (i : Int), .int .i64 (j : Int)] w fun e w' => e = .returned (.bool ((B j).testBit i)) ∧ Below w.heap.size w w' := by
  have hb := (Below.refl w.heap.size w).alloc (Nat.le_refl _) (.cells (precC n B) 62)
  have hc := ((BlockIs.new w 62 (precC n B)).cell (1 + j)).trans (precC_at n B hj)
  have HH := Lib.hid (has_any (B j) i (hB8 j hj) hi)
  have HB := Lib.hid hb
  have hj0 : (0 : Int) ≤ j := by omega
  have hj1 : (j : Int) < 8 := by omega
  clear hb
  go_enter Tryd.func77, Tryd.ntmps77
  go_wp2_with fail
  refine (HH.out _).mono ?_
  rintro e _ ⟨rfl, rfl⟩
  go_wp2
  go_ret
  exact ⟨rfl, HB.out⟩
def bitT (B : Nat → Nat) (i j : Nat) : Bool := (B j).testBit i
theorem clsTo_congr {n : Nat} {T U : Nat → Nat → Bool} (h : ∀ i j, i < n → j < n → T i j = U i j) : ∀ k, k ≤ n → clsTo n T k = clsTo n U k
  | 0, _ => rfl
  | k + 1, hk => by
    rw [clsTo_succ, clsTo_succ, clsTo_congr h k (by omega)]
    congr 1
    have : ∀ m, m ≤ n → rowTo T k m = rowTo U k m := by
      intro m
      induction m with
      | zero => intro _; rfl
      | succ m ih =>
        intro hm
        rw [rowTo_succ, rowTo_succ, ih (by omega), h k m (by omega) (by omega)]
    exact this n (Nat.le_refl _)
theorem bitT_tab (m : Nat) (E : List Ed) : clsTo m (bitT (befN m (tabB m E))) m = closL m E :=
  clsTo_congr (fun i j hi _ => by unfold bitT; rw [bef_bit, decide_eq_true hi, Bool.true_and]) m (Nat.le_refl _)
set_option maxRecDepth 100000 in
set_option maxHeartbeats 4000000 in
theorem pairs_any (m : Nat) (hm : m ≤ 8) (B : Nat → Nat) (hB8 : ∀ j, j < 8 → B j < 256) (w : World) :
    Calls Tryd.prog 48 #[.agg (precC (m : Int) B)] w fun e w' => ∃ v, e = .returned v ∧ w'.ownsRow w.heap.size 56 2 v (clsTo m (bitT B) m).length (pc (clsTo m (bitT B) m)) ∧ Below w.heap.size w w' := by
  have hb1 := (Below.refl w.heap.size w).alloc (Nat.le_refl _) (.cells (precC (m : Int) B) 62)
  have hB1 := BlockIs.new w 62 (precC (m : Int) B)
  have hb2 := hb1.alloc hb1.size (.cells #[] 56)
  have hB2 := hB1.below ((Below.refl _ _).alloc (Nat.le_refl _) (.cells #[] 56))
  have h0 : ((w.alloc (.cells (precC (m : Int) B) 62)).alloc (.cells #[] 56)).ownsRow w.heap.size 56 2 (.slice (some ⟨(w.alloc (.cells (precC (m : Int) B) 62)).heap.size, 0, none⟩) 0 0) 0 (pc []) := World.ownsRow_made _ #[] 0 hb1.size (by unfold maxLen; omega) rfl
  rw [World.size_alloc] at h0
  have H0 := Lib.hid (And.intro h0 (And.intro hB2 hb2))
  have hc0 := hB1.cell 0
  clear hb1 hB1 hb2 hB2 h0 hc0
  have ep : (precC (m : Int) B) = #[.int .i64 m, .int .u64 (B 0 : Int), .int .u64 (B 1 : Int), .int .u64 (B 2 : Int), .int .u64 (B 3 : Int), .int .u64 (B 4 : Int), .int .u64 (B 5 : Int), .int .u64 (B 6 : Int), .int .u64 (B 7 : Int)] := rfl
  rw [ep]
  clear ep
  go_enter Tryd.func48, Tryd.ntmps48
  go_wp2
  go_loopw [3, 9] (fun u i wr => ∃ (k : Nat) (U : Value), k ≤ m ∧ i = .int .i64 (k : Int) ∧ U = u ∧ Hid (wr.ownsRow w.heap.size 56 2 U (clsTo m (bitT B) k).length (pc (clsTo m (bitT B) k)) ∧ BlockIs wr w.heap.size 62 (precC (m : Int) B) ∧ Below w.heap.size w wr)) (fun _ i _ => m - (intOf i).toNat)
  case atStart => exact ⟨0, _, Nat.zero_le _, rfl, rfl, H0.out⟩
  case round =>
    obtain ⟨i, U, hi, rfl, rfl, HO⟩ := hrel
    clear H0
    by_cases hlti : i < m
    · have hc0 := (HO.out.2.1.cell 0).trans (precC_0 (m : Int) B)
      go_wp2
      clear hc0
      obtain ⟨wo, rfl⟩ : ∃ wo : World, wo = wr := ⟨_, rfl⟩
      go_loopw [3, 14] (fun u jv wr => ∃ (j : Nat) (U2 : Value), j ≤ m ∧ jv = .int .i64 (j : Int) ∧ U2 = u ∧ Hid (wr.ownsRow w.heap.size 56 2 U2 (clsTo m (bitT B) i ++ rowTo (bitT B) i j).length (pc (clsTo m (bitT B) i ++ rowTo (bitT B) i j)) ∧ BlockIs wr w.heap.size 62 (precC (m : Int) B) ∧ Below w.heap.size w wr)) (fun _ jv _ => m - (intOf jv).toNat)
      case atStart => exact ⟨0, _, Nat.zero_le _, rfl, rfl, by rw [show rowTo (bitT B) i 0 = [] from rfl, List.append_nil]; exact HO.out⟩
      case round =>
        clear HO
        obtain ⟨j, U2, hj, rfl, rfl, HO⟩ := hrel
        by_cases hltj : j < m
        · have hBk := HO.out.2.1
          have c0 := hBk.cell 0
          have c1 := hBk.cell 1
          have c2 := hBk.cell 2
          have c3 := hBk.cell 3
          have c4 := hBk.cell 4
          have c5 := hBk.cell 5
          have c6 := hBk.cell 6
          have c7 := hBk.cell 7
          have c8 := hBk.cell 8
          simp only [precC, List.getElem?_toArray, List.getElem?_cons_zero, List.getElem?_cons_succ] at c0 c1 c2 c3 c4 c5 c6 c7 c8
          have HCB := Lib.hid (comesBefore_any (m : Int) B hB8 i j (by omega) (by omega) wr)
          have HRW := Lib.hid (rowTo_succ (bitT B) i j)
          have HBT : Hid (bitT B i j = (B j).testBit i) := rfl
          clear hBk
          go_wp2_with fail
          refine HCB.out.mono ?_
          rintro e w5 ⟨rfl, hb5⟩
          clear c0 c1 c2 c3 c4 c5 c6 c7 c8 HCB
          have HO5 := Lib.hid (And.intro (own_blw HO.out.1 hb5) (And.intro (HO.out.2.1.below hb5) (HO.out.2.2.trans (hb5.mono HO.out.2.2.size))))
          clear HO hb5
          cases hc : (B j).testBit i
          · rw [show bitT B i j = false from HBT.out.trans hc, if_neg (by decide)] at HRW
            clear hc
            go_wp2
            go_roundw
            case rel => exact ⟨j + 1, _, by omega, by go_num, rfl, by rw [HRW.out]; exact HO5.out⟩
            case measure => simp [intOf]; omega
          · rw [show bitT B i j = true from HBT.out.trans hc, if_pos rfl] at HRW
            obtain ⟨v', w3, hrun, hO3, hb3, hk3⟩ := pushP (w0 := w) HO5.out.1 HO5.out.2.2 ((i : Int), (j : Int)) (cls_bd m (bitT B) i j hlti hltj hm)
            have HRUN := Lib.hid hrun
            have HYES := Lib.hid (And.intro hO3 (And.intro (hk3 _ _ _ (by decide) HO5.out.2.1) hb3))
            rw [List.append_assoc] at HYES
            clear hc hrun hO3 hb3 hk3 HO5
            go_wp2_with (at_builtin; refine wpList_app rfl _ _ _ rfl _ _ _ rfl rfl HRUN.out ?_; clear HRUN)
            go_roundw
            case rel => exact ⟨j + 1, _, by omega, by go_num, rfl, by rw [HRW.out]; exact HYES.out⟩
            case measure => simp [intOf]; omega
        · obtain rfl : j = m := by omega
          go_wp2
          go_roundw
          case rel => exact ⟨i + 1, _, by omega, by go_num, rfl, by rw [clsTo_succ]; exact HO.out⟩
          case measure => simp [intOf]; omega
    · obtain rfl : i = m := by omega
      go_wp2
      go_ret
      exact ⟨U, rfl, HO.out.1, HO.out.2.2⟩
set_option maxRecDepth 100000 in
set_option maxHeartbeats 1000000 in
theorem impl_PrecedenceClosure (A : Option Addr) (c : Nat) (n : Int) (E : List Pr) (w : World) (hr : Row w A (pc E)) (hl : E.length ≤ 10000000) (hT : TzTab w) :
    Calls Tryd.prog 17 #[.int .i64 n, .slice A E.length c] w (RetPB w (closR n E)) := by
  have HRR : Hid (closR n E = if precB n E then (closL n.toNat E, true) else ([], false)) := rfl
  have H := Lib.hid (precedenceOf_any A c n E w hr hl hT)
  go_enter Tryd.func17, Tryd.ntmps17
  go_wp2_with fail
  refine H.out.mono ?_
  rintro e w1 ⟨hb, ⟨hp, m, rfl, hm, _, _, rfl⟩ | ⟨hp, rfl⟩⟩
  · rw [hp, Int.toNat_natCast] at HRR
    have HP := Lib.hid (pairs_any m hm (befN m (tabB m E)) (fun j _ => bef_lt hm _ j) (w1.alloc (.cells (precC (m : Int) (befN m (tabB m E))) 62)))
    rw [bitT_tab] at HP
    have HB := Lib.hid (hb.alloc hb.size (.cells (precC (m : Int) (befN m (tabB m E))) 62))
    clear hp hb
    unfold precC
    unfold precC at HP HB
    go_wp2_with fail
    refine HP.out.mono ?_
    rintro e w2 ⟨v, rfl, ho, hb2⟩
    have HO := Lib.hid (And.intro (own_low ho HB.out.size) (HB.out.trans (hb2.mono HB.out.size)))
    clear ho hb2 HB HP
    go_wp2
    go_ret2
    exact ret_ownPr (p := closL m E) HRR.out HO.out.1 HO.out.2 _ rfl
  · rw [hp] at HRR
    have HB := Lib.hid hb
    clear hp hb
    unfold precZ
    go_wp2
    go_ret2
    refine ret_emptyP HRR.out (HB.out.alloc HB.out.size _) _ ?_
    rw [World.size_alloc]
    rfl
end Go.Proofs.YtapbgmmkkngdoaaDoor

namespace Go.Proofs.YtapbgmmkkngdoaaDoor
section
variable {F : Fence} {n : Nat} {P : Program} {ops : Array Oper} {Q : Exit → Act → World → Prop}
theorem wpOpIn_enterZ (hF : ∀ f, F.fn f) (hdp : F.depth = none) (hCI : ∀ f args w R, Calls P f args w R → CallsIn F (n - 1) P f args w R) (hc : calmB ops = true) {i : Nat} {o : Oper} {a : Act} {w w' : World} {f : FuncId} {args : Array Value} {K : Act → World → Prop} (ho : ops[i]? = some o) (hg : Region.wanted o (yielded ops a.tmps) = true) (hr : (execOp a.eval o).run P w = .ok (.enter f args) w') (hK : Calls P f args w' fun e w'' => ∃ v, e = .returned v ∧ K (a.put o.dst v) w'') : wpOpIn F n P ops Q i K a w := by
  refine wpOpIn_step ho fun K' hKK => ?_
  rw [if_pos hg]
  refine ⟨fun f _ => hF f, ?_⟩
  rw [semAt_calm hc ho, hr]
  refine ⟨fun h => ?_, (hCI _ _ _ _ hK).mono ?_⟩
  · rw [hdp] at h; cases h
  · rintro e w'' ⟨v, rfl, h⟩
    exact hKK _ _ h
/-- As wp_region_detY, within a round. -/
theorem wpIn_region_detZ (hF : ∀ f, F.fn f) (hdp : F.depth = none) (hCI : ∀ f args w R, Calls P f args w R → CallsIn F (n - 1) P f args w R) (hcalm : calmB ops = true) {id : Nat} {tm0 : Array Value} {df : List Deferred} {w : World} (hm : P.follows .mixedOrders = true) (S : Array Bool → World → Prop) (val : Nat → Value) (hback : backBB ops = true) (hown : ownDst ops tm0.size = true)
    (h0 : S (Array.replicate ops.size false) w.drew)
    (hdone : ∀ (L : Array Bool) (tm : Array Value) (w : World), (∀ i, i < ops.size → L.getD i true = true) → S L w → tm.size = tm0.size → (∀ t, ((List.range ops.size).all fun j => !((ops[j]?).bind (·.dst) == some t)) = true → tm.getD t undef = tm0.getD t undef) → (∀ j o d, ops[j]? = some o → o.dst = some d → tm.getD d undef = val j) → Q .normal ⟨tm, df⟩ w)
    (hstep : ∀ (L : Array Bool) (a : Act) (w : World) (i : Nat) (o : Oper), L.size = ops.size → ops[i]? = some o → L.getD i true = false → (∀ j, edgeB ops i j = true → L.getD j true = true) → (∀ j, edgeB ops j i = true → L.getD j true = false) → S L w → (∀ t, ((List.range ops.size).all fun j => !((ops[j]?).bind (·.dst) == some t)) = true → a.tmps.getD t undef = tm0.getD t undef) →
      (∀ j oj d, edgeB ops i j = true → ops[j]? = some oj → oj.dst = some d → a.tmps.getD d undef = val j) →
      (∀ j oj d, edgeB ops j i = true → ops[j]? = some oj → oj.dst = some d → a.tmps.getD d undef = tm0.getD d undef) → Region.wanted o (yielded ops a.tmps) = true ∧ StepY P (S (L.setIfInBounds i true)) o a w (val i)) :
    (Code.region id ops true).wpIn F n P Q ⟨tm0, df⟩ w := by
  refine wpIn_region_invB hm (fun L a w => S L w ∧ a.defers = df ∧ a.tmps.size = tm0.size ∧ (∀ t, ((List.range ops.size).all fun j => !((ops[j]?).bind (·.dst) == some t)) = true → a.tmps.getD t undef = tm0.getD t undef) ∧ (∀ j o d, ops[j]? = some o → o.dst = some d → L.getD j true = true → a.tmps.getD d undef = val j) ∧ (∀ j o d, ops[j]? = some o → o.dst = some d → L.getD j true = false → a.tmps.getD d undef = tm0.getD d undef)) (back_ofB hback) ?_ ?_ ?_
  · refine ⟨h0, rfl, rfl, fun _ _ => rfl, fun j o d ho _ hl => ?_, fun _ _ _ _ _ _ => rfl⟩
    have hj : j < ops.size := (Array.getElem?_eq_some_iff.1 ho).1
    simp [Array.getD_eq_getD_getElem?, hj] at hl
  · intro L a w ⟨hS, hdf, hsz, hlow, hval, _⟩ hall
    obtain ⟨tm, df'⟩ := a
    simp only at hdf hsz
    subst hdf
    exact hdone L tm w hall hS hsz hlow (fun j o d ho hd => hval j o d ho hd (hall j (Array.getElem?_eq_some_iff.1 ho).1))
  · intro L a w i o hC ⟨hS, hdf, hsz, hlow, hval, hold⟩ ho hl hd
    obtain ⟨hg, hst⟩ := hstep L a w i o hC.1 ho hl (fun j he => dep_of ho hd he) (fun j he => hC.no he hl) hS hlow (fun j oj d he hoj hdj => hval j oj d hoj hdj (dep_of ho hd he)) (fun j oj d he hoj hdj => hold j oj d hoj hdj (hC.no he hl))
    have next : ∀ w', S (L.setIfInBounds i true) w' → S (L.setIfInBounds i true) w' ∧ (a.put o.dst (val i)).defers = df ∧ (a.put o.dst (val i)).tmps.size = tm0.size ∧ (∀ t, ((List.range ops.size).all fun j => !((ops[j]?).bind (·.dst) == some t)) = true → (a.put o.dst (val i)).tmps.getD t undef = tm0.getD t undef) ∧ (∀ j o' d, ops[j]? = some o' → o'.dst = some d → (L.setIfInBounds i true).getD j true = true → (a.put o.dst (val i)).tmps.getD d undef = val j) ∧ (∀ j o' d, ops[j]? = some o' → o'.dst = some d → (L.setIfInBounds i true).getD j true = false → (a.put o.dst (val i)).tmps.getD d undef = tm0.getD d undef) := by
      intro w' hS'
      cases hod : o.dst with
      | none =>
        refine ⟨hS', hdf, hsz, hlow, fun j o' d ho' hd' hl' => ?_, fun j o' d ho' hd' hl' => ?_⟩
        · have hne : i ≠ j := fun e => by subst e; rw [ho] at ho'; injection ho' with ho'; subst ho'; rw [hod] at hd'; cases hd'
          rw [getD_set_true, if_neg (fun h => hne h.1)] at hl'
          exact hval j o' d ho' hd' hl'
        · have hne : i ≠ j := fun e => by subst e; rw [ho] at ho'; injection ho' with ho'; subst ho'; rw [hod] at hd'; cases hd'
          rw [getD_set_true, if_neg (fun h => hne h.1)] at hl'
          exact hold j o' d ho' hd' hl'
      | some d0 =>
        have hput : ∀ t, (a.put (some d0) (val i)).tmps.getD t undef = if d0 = t ∧ t < a.tmps.size then val i else a.tmps.getD t undef := by
          intro t
          unfold Act.put
          simp only [Array.getD_eq_getD_getElem?, Array.getElem?_setIfInBounds]
          by_cases e : d0 = t
          · subst e
            by_cases h : d0 < a.tmps.size
            · simp [h]
            · simp [h]
          · simp [e]
        refine ⟨hS', hdf, by simp [Act.put, hsz], fun t ht => ?_, fun j o' d ho' hd' hl' => ?_, fun j o' d ho' hd' hl' => ?_⟩
        · rw [hput, if_neg (fun h => ?_)]
          · exact hlow t ht
          · have := List.all_eq_true.1 ht i (List.mem_range.2 (Array.getElem?_eq_some_iff.1 ho).1)
            rw [ho] at this
            simp [hod, h.1] at this
        · rw [hput]
          by_cases e : d0 = d
          · subst e
            have hij := ownDst_inj hown ho hod ho' hd'
            subst hij
            rw [if_pos ⟨rfl, by rw [hsz]; exact ownDst_lt hown ho hod⟩]
          · rw [if_neg (fun h => e h.1)]
            have hne : i ≠ j := fun e' => by subst e'; rw [ho] at ho'; injection ho' with ho'; subst ho'; rw [hod] at hd'; injection hd' with hd'; exact e hd'
            rw [getD_set_true, if_neg (fun h => hne h.1)] at hl'
            exact hval j o' d ho' hd' hl'
        · have hli : i ≠ j := fun e => by
            subst e
            have hC1 : i < L.size := by rw [hC.1]; exact (Array.getElem?_eq_some_iff.1 ho).1
            rw [getD_set_true, if_pos ⟨rfl, hC1⟩] at hl'; cases hl'
          rw [getD_set_true, if_neg (fun h => hli h.1)] at hl'
          have hdd : d0 ≠ d := fun e => by subst e; exact hli (ownDst_inj hown ho' hd' ho hod)
          rw [hput, if_neg (fun h => hdd h.1)]
          exact hold j o' d ho' hd' hl'
    rcases hst with (⟨w', hr, hS'⟩ | ⟨f, args, hr, hc⟩) | ⟨w', hnd, hr, hS'⟩
    · exact wpOpIn_valueX hF hcalm ho hg hr (next w' hS')
    · refine wpOpIn_enterZ hF hdp hCI hcalm ho hg hr (hc.mono ?_)
      rintro e w' ⟨rfl, hS'⟩
      exact ⟨_, rfl, next w' hS'⟩
    · refine wpOpIn_skipX hF hcalm ho hg hr ?_
      have h := next w' hS'
      rw [hnd] at h ⊢
      exact h
end
end Go.Proofs.YtapbgmmkkngdoaaDoor

namespace Go.Proofs.YtapbgmmkkngdoaaDoor
open Go.RowKit Go.Shelf
attribute [local go_sem] Oper.semAt_some
set_option maxRecDepth 100000 in
set_option maxHeartbeats 2000000 in
theorem behind_any (m : Nat) (hm : m ≤ 8) (B : Nat → Nat) (hB8 : ∀ j, j < 8 → B j < 256) (i : Nat) (hi : i < 8) (w : World) :
    Calls Tryd.prog 106 #[.agg (precC (m : Int) B), .int .i64 (i : Int)] w fun e w' => e = .returned (.int .u64 (bitsN m (bitT B i) : Nat)) ∧ Below w.heap.size w w' := by
  have H0 := Lib.hid (And.intro ((Below.refl w.heap.size w).alloc (Nat.le_refl _) (.cells (precC (m : Int) B) 62)) (BlockIs.new w 62 (precC (m : Int) B)))
  have HBT : Hid (∀ k, bitT B i k = (B k).testBit i) := fun k => rfl
  have HBS := Lib.hid (bits_succ · (bitT B i))
  have HBL : Hid (∀ k, k ≤ 8 → bitsN k (bitT B i) < 256) := fun k hk => bits_lt hk _
  have ep : (precC (m : Int) B) = #[.int .i64 m, .int .u64 (B 0 : Int), .int .u64 (B 1 : Int), .int .u64 (B 2 : Int), .int .u64 (B 3 : Int), .int .u64 (B 4 : Int), .int .u64 (B 5 : Int), .int .u64 (B 6 : Int), .int .u64 (B 7 : Int)] := rfl
  rw [ep]
  clear ep
  go_enter Tryd.func106, Tryd.ntmps106
  go_wp2
  go_loopw [5, 9] (fun sv kv wr => ∃ k : Nat, k ≤ m ∧ kv = .int .i64 (k : Int) ∧ sv = .int .u64 (bitsN k (bitT B i) : Nat) ∧ Hid (Below w.heap.size w wr ∧ BlockIs wr w.heap.size 62 (precC (m : Int) B))) (fun _ kv _ => m - (intOf kv).toNat)
  case atStart => exact ⟨0, Nat.zero_le _, rfl, rfl, H0.out⟩
  case round =>
    obtain ⟨k, hk, rfl, rfl, HW⟩ := hrel
    clear H0
    by_cases hlt : k < m
    · have hBk := HW.out.2
      have c0 := hBk.cell 0
      have c1 := hBk.cell 1
      have c2 := hBk.cell 2
      have c3 := hBk.cell 3
      have c4 := hBk.cell 4
      have c5 := hBk.cell 5
      have c6 := hBk.cell 6
      have c7 := hBk.cell 7
      have c8 := hBk.cell 8
      simp only [precC, List.getElem?_toArray, List.getElem?_cons_zero, List.getElem?_cons_succ] at c0 c1 c2 c3 c4 c5 c6 c7 c8
      have HC := Lib.hid (comesBefore_any (m : Int) B hB8 i k (by omega) (by omega) wr)
      have HS := Lib.hid (HBS.out k)
      rw [HBT.out] at HS
      have hsl := HBL.out k (by omega)
      clear hBk
      generalize bitsN k (bitT B i) = sk at *
      go_wp2_with fail
      refine HC.out.mono ?_
      rintro e w5 ⟨rfl, hb5⟩
      have HW5 := Lib.hid (And.intro (HW.out.1.trans (hb5.mono HW.out.1.size)) (HW.out.2.below hb5))
      clear HW hb5 HC c0 c1 c2 c3 c4 c5 c6 c7 c8
      cases hc : (B k).testBit i
      · rw [hc] at HS
        clear hc
        go_wp2
        go_roundw
        case rel => exact ⟨k + 1, by omega, by go_num, by rw [HS.out]; rfl, HW5.out⟩
        case measure => simp [intOf]; omega
      · rw [hc] at HS
        clear hc
        go_wp2_with fail
        refine (with_any sk k hsl (by omega) _).mono ?_
        rintro e _ ⟨rfl, rfl⟩
        go_wp2
        go_roundw
        case rel => exact ⟨k + 1, by omega, by go_num, by rw [HS.out]; rfl, HW5.out⟩
        case measure => simp [intOf]; omega
    · obtain rfl : k = m := by omega
      go_wp2
      go_ret
      exact ⟨rfl, HW.out.1⟩
theorem exec_load10 {o : Oper} {ev : Operand → Value} {x : Operand} {g : Nat} {cs : Array Value} {w : World} (ho : o.op = .load 86 x) (hx : ev x = .pointer (some ⟨g, 0, none⟩)) (h : BlockIs w g 86 cs) (hs : cs.size = 10) :
    (execOp ev o).run Tryd.prog w = .ok (.value (.agg cs)) w := by
  unfold execOp
  simp only [ho, hx, Instr.loadAt, Instr.sureAddr, Sem.run_bind, Sem.run_pure, Result.andThen_ok, load10 h hs]
theorem keepsO_below {W W' : World} (h : Below W.heap.size W W') : KeepsOthers W W' :=
  ⟨h.size, fun k _ hk _ => (h.block k (Array.getElem?_eq_some_iff.1 hk).1).trans hk⟩
-- TAIL
section
variable {A : Option Addr} {c : Nat} {js : List J} {E : List Pr}
set_option maxRecDepth 100000 in
set_option maxHeartbeats 4000000 in
theorem tail_any (hok : ∀ j ∈ js, okJ j = true) (h8 : js.length ≤ 8) (hirr : irrB js.length E js.length = true) : ∀ (f j : Nat) (w : World), f ≤ 9 → j < js.length → cntS js.length (tabB js.length E) j < f → Row w A (jc js) → TzTab w →
    Calls Tryd.prog 88 #[.agg (wlC (.slice A js.length c) (js.length : Int) (befN js.length (tabB js.length E))), .int .i64 (j : Int)] w fun e w' => e = .returned (.int .i64 (tailF js (tabB js.length E) js.length f j)) ∧ Below w.heap.size w w' := by
  intro f
  induction f with
  | zero => intro j w _ _ h; omega
  | succ f ih =>
    intro j w hf9 hj hcj hr hT
    have HIH := Lib.hid (fun i (hi : i < js.length) (ht : tabB js.length E j i = true) W => ih i W (by omega) hi (by have := cntS_lt hirr hi ht; omega))
    have HR := Lib.hid hr
    have HT := Lib.hid hT
    have HRES : Hid (tailF js (tabB js.length E) js.length (f + 1) j = js[j].t + mostL (fun i => tailF js (tabB js.length E) js.length f i) (memB (bitsN js.length (tabB js.length E j)))) := by
      show _ = _
      rw [memB_bits h8, mostL_filter, ← getD_at js j0 hj]
      rfl
    have HBT : Hid (bitsN js.length (bitT (befN js.length (tabB js.length E)) j) = bitsN js.length (tabB js.length E j)) := by
      show _ = _
      have : ∀ k, bitT (befN js.length (tabB js.length E)) j k = tabB js.length E j k := fun k => by unfold bitT; rw [bef_bit, decide_eq_true hj, Bool.true_and]
      congr 1
      funext k
      exact this k
    have HMEM : Hid (∀ x, (bitsN js.length (tabB js.length E j)).testBit x = true → x < js.length ∧ tabB js.length E j x = true) := fun x hx => by
      rw [bits_bit, Bool.and_eq_true, decide_eq_true_eq] at hx
      exact hx
    have hs : bitsN js.length (tabB js.length E j) < 256 := bits_lt h8 _
    have HGB : Hid (∀ x, x < js.length → 0 ≤ tailF js (tabB js.length E) js.length f x ∧ tailF js (tabB js.length E) js.length f x ≤ 50 * (f : Int)) := fun x hx => tailF_bd hok _ f x hx
    have HBE := Lib.hid (fun W => behind_any js.length h8 (befN js.length (tabB js.length E)) (fun k _ => bef_lt h8 _ k) j (by omega) W)
    rw [HBT.out] at HBE
    have hjt := okJ_out (hok _ (List.getElem_mem hj))
    clear ih hr hT hcj hirr HBT
    rw [HRES.out]
    clear HRES
    generalize befN js.length (tabB js.length E) = B at *
    generalize bitsN js.length (tabB js.length E j) = s at *
    generalize tailF js (tabB js.length E) js.length f = tf at *
    have hb1 := (Below.refl w.heap.size w).alloc (Nat.le_refl _) (.cells (wlC (.slice A js.length c) (js.length : Int) B) 86)
    have hB1 := BlockIs.new w 86 (wlC (.slice A js.length c) (js.length : Int) B)
    have hb2 := hb1.alloc hb1.size (.cells #[.int .i64 0] 3)
    have hB2 := hB1.below ((Below.refl _ _).alloc (Nat.le_refl _) (.cells #[.int .i64 0] 3))
    have hx2 := Boxed.new (w.alloc (.cells (wlC (.slice A js.length c) (js.length : Int) B) 86)) 3 (.int .i64 0)
    rw [World.size_alloc] at hx2
    have H2 := Lib.hid (And.intro hb2 (And.intro hB2 hx2))
    have c0 := hB2.cell 0
    have c1 := hB2.cell 1
    have c2 := hB2.cell 2
    have c3 := hB2.cell 3
    have c4 := hB2.cell 4
    have c5 := hB2.cell 5
    have c6 := hB2.cell 6
    have c7 := hB2.cell 7
    have c8 := hB2.cell 8
    have c9 := hB2.cell 9
    simp only [wlC, List.getElem?_toArray, List.getElem?_cons_zero, List.getElem?_cons_succ] at c0 c1 c2 c3 c4 c5 c6 c7 c8 c9
    clear hb1 hB1 hb2 hB2 hx2
    have ew : wlC (.slice A js.length c) (js.length : Int) B = #[.slice A js.length c, .int .i64 (js.length : Int), .int .u64 (B 0 : Int), .int .u64 (B 1 : Int), .int .u64 (B 2 : Int), .int .u64 (B 3 : Int), .int .u64 (B 4 : Int), .int .u64 (B 5 : Int), .int .u64 (B 6 : Int), .int .u64 (B 7 : Int)] := rfl
    rw [ew]
    refine (callsIn_wide (n := 6)).1 ?_
    refine callsIn_of_wp_marks Tryd.func88 rfl trivial ?_ rfl
    simp only [Tryd.ntmps88, List.size_toArray, List.length_cons, List.length_nil, Nat.reduceAdd, Nat.reduceSub, Array.replicate_succ, Array.replicate_zero, List.push_toArray, List.append_toArray, List.nil_append, List.cons_append]
    gi_wp2_with (first
      | (refine ⟨trivial, ?_⟩; gi_at_call 106; refine (callsIn_wide.2 (HBE.out _)).mono ?_; rintro e W1 ⟨rfl, hbW1⟩)
      | (refine ⟨trivial, ?_⟩; gi_at_call 78; refine (members_in 5 _ _).mono ?_; rintro e w' ⟨rfl, rfl⟩))
    clear c0 c1 c2 c3 c4 c5 c6 c7 c8 c9 HBE
    have H3 := Lib.hid (And.intro (H2.out.1.trans (hbW1.mono H2.out.1.size)) (And.intro (H2.out.2.1.below hbW1) ((show BlockIs _ (w.heap.size + 1) 3 #[.int .i64 0] from H2.out.2.2).below hbW1)))
    have hz1 : w.heap.size + 1 < W1.heap.size := by have := H3.out.2.2.lt; exact this
    clear H2 hbW1
    have b2 := Boxed.new W1 59 (.int .u64 (s : Int))
    have hbA : Below W1.heap.size W1 (W1.alloc (.cells #[.int .u64 (s : Int)] 59)) := (Below.refl _ _).alloc (Nat.le_refl _) _
    have H4 := Lib.hid (And.intro (H3.out.1.alloc H3.out.1.size (.cells #[.int .u64 (s : Int)] 59)) (And.intro (H3.out.2.1.below hbA) (And.intro (show Boxed _ (w.heap.size + 1) 3 (.int .i64 0) from H3.out.2.2.below hbA) b2)))
    have hz4 : (W1.alloc (.cells #[.int .u64 (s : Int)] 59)).heap.size = W1.heap.size + 1 := by simp
    clear H3 b2 hbA
    obtain ⟨gS, hgS⟩ : ∃ gS, gS = W1.heap.size := ⟨_, rfl⟩
    rw [← hgS] at H4 hz4 hz1 ⊢
    clear hgS
    generalize W1.alloc (.cells #[.int .u64 (s : Int)] 59) = w3 at *
    obtain ⟨hb3, hB3, hx3, b2⟩ := H4.out
    refine wpIn_rangeFunc_ownG (F := Fence.wide) rfl (by omega) (gf := 100) (lb := #[.pointer (some ⟨gS, 0, none⟩)]) rfl trivial (enters_of Tryd.func100 (by kernel_rfl) rfl)
      (members_stops 5 (by omega) gS s hs w3 (by omega) b2 (HT.out.below hb3))
      (fun h k t => k (h t)) (fun W l' o o' hl ho hc _ => KeepsTz.put ho hc) (Below.refl _ _) (fun _ => rfl)
      (fun (pre : List (Mb s)) W => (BlockIs W w.heap.size 86 (wlC (.slice A js.length c) (js.length : Int) B) ∧ Boxed W (w.heap.size + 1) 3 (.int .i64 (mostL tf (vals pre)))) ∧ Below w.heap.size w W)
      (fun _ _ _ => False)
      (OwnFrom.and (OwnFrom.and (Own.from (block_ownF _ _ _) _) (Own.from (boxed_own _ _ _) _)) (ownFrom_below (Nat.le_refl _) (by omega)))
      (fun _ _ _ _ _ h _ _ => h)
      ⟨⟨hB3, hx3⟩, hb3⟩
      (fun x => { tmps := #[.agg #[.slice A js.length c, .int .i64 (js.length : Int), .int .u64 (B 0 : Int), .int .u64 (B 1 : Int), .int .u64 (B 2 : Int), .int .u64 (B 3 : Int), .int .u64 (B 4 : Int), .int .u64 (B 5 : Int), .int .u64 (B 6 : Int), .int .u64 (B 7 : Int)], .int .i64 (j : Int), .pointer (some ⟨w.heap.size, 0, none⟩), undef, .int .i64 0, .pointer (some ⟨w.heap.size + 1, 0, none⟩), .int .i64 (x.1 : Int), .pointer (some ⟨w.heap.size, 1, none⟩), .agg #[.int .i64 (js.length : Int), .int .u64 (B 0 : Int), .int .u64 (B 1 : Int), .int .u64 (B 2 : Int), .int .u64 (B 3 : Int), .int .u64 (B 4 : Int), .int .u64 (B 5 : Int), .int .u64 (B 6 : Int), .int .u64 (B 7 : Int)], .int .i64 (j : Int), .int .u64 (s : Int), .func (.func 100) #[] #[.pointer (some ⟨gS, 0, none⟩)], .int .i64 (x.1 : Int), undef, undef, undef, undef, undef, undef, undef, undef, undef, undef, undef, undef, undef], defers := [] }) ?assign ?body ?done ?stop
    case assign =>
      intro l' x W K hK
      unfold encM
      gi_wp2
      exact hK
    case body =>
      rintro l' pre ⟨x, hx⟩ W ⟨⟨y0, y1⟩, hb⟩ hl
      obtain ⟨hxl, htx⟩ := HMEM.out x hx
      have hmo : Tryd.prog.follows .mixedOrders = true := by kernel_rfl
      have HSN : Hid (mostL tf (vals (pre ++ [(⟨x, hx⟩ : Mb s)])) = max (mostL tf (vals pre)) (tf x)) := by show _ = _; rw [vals_snoc, mostL_snoc]
      have hgx := HGB.out x hxl
      have hx0 : (0 : Int) ≤ x := by omega
      have HCX := Lib.hid (HIH.out x hxl htx)
      have hrW := HR.out
      generalize mostL tf (vals pre) = sm at *
      generalize tf x = tx at *
      dsimp only
      gi_wp2
      have hKO : KeepsOthers W W.drew := KeepsOthers.drew W
      have hmx : (if sm < tx then tx else sm) = max sm tx := by split <;> omega
      have kb : ∀ {X Y : World}, (KeepsOthers W X ∧ Below w.heap.size w X ∧ BlockIs X w.heap.size 86 (wlC (.slice A js.length c) (js.length : Int) B)) → Below X.heap.size X Y → (KeepsOthers W Y ∧ Below w.heap.size w Y ∧ BlockIs Y w.heap.size 86 (wlC (.slice A js.length c) (js.length : Int) B)) := fun h hb => ⟨h.1.trans (keepsO_below hb), h.2.1.trans (hb.mono h.2.1.size), h.2.2.below hb⟩
      have ob : ∀ {X Y : World}, (BlockIs X (w.heap.size + 1) 3 #[.int .i64 sm]) → Below X.heap.size X Y → (BlockIs Y (w.heap.size + 1) 3 #[.int .i64 sm]) := fun h hb => h.below hb
      have nb : ∀ {X Y : World}, (BlockIs X (w.heap.size + 1) 3 #[.int .i64 (max sm tx)]) → Below X.heap.size X Y → (BlockIs Y (w.heap.size + 1) 3 #[.int .i64 (max sm tx)]) := fun h hb => h.below hb
      refine wpIn_region_detZ (fun _ => trivial) rfl (fun _ _ _ _ h => (callsIn_wide.2 h).inRound l') (by kernel_rfl) hmo (fun L w' => (KeepsOthers W w' ∧ Below w.heap.size w w' ∧ BlockIs w' w.heap.size 86 (wlC (.slice A js.length c) (js.length : Int) B)) ∧ (L.getD 5 true = false → BlockIs w' (w.heap.size + 1) 3 #[.int .i64 sm]) ∧ (L.getD 5 true = true → BlockIs w' (w.heap.size + 1) 3 #[.int .i64 (max sm tx)])) (fun kk => (#[.int .i64 sm, .agg #[.slice A js.length c, .int .i64 (js.length : Int), .int .u64 (B 0 : Int), .int .u64 (B 1 : Int), .int .u64 (B 2 : Int), .int .u64 (B 3 : Int), .int .u64 (B 4 : Int), .int .u64 (B 5 : Int), .int .u64 (B 6 : Int), .int .u64 (B 7 : Int)], .int .i64 (x : Int), .int .i64 tx, .int .i64 (max sm tx), undef] : Array Value).getD kk undef) (by kernel_rfl) (by kernel_rfl) ⟨⟨hKO, hb.drew, y0⟩, fun _ => y1, fun h => by cases h⟩ ?_ ?_
      · intro L tm w' hall hS hsz hlow hval
        have ht : tm = #[.agg #[.slice A js.length c, .int .i64 (js.length : Int), .int .u64 (B 0 : Int), .int .u64 (B 1 : Int), .int .u64 (B 2 : Int), .int .u64 (B 3 : Int), .int .u64 (B 4 : Int), .int .u64 (B 5 : Int), .int .u64 (B 6 : Int), .int .u64 (B 7 : Int)], .int .i64 (j : Int), .pointer (some ⟨w.heap.size, 0, none⟩), undef, .int .i64 0, .pointer (some ⟨w.heap.size + 1, 0, none⟩), .int .i64 (x : Int), .pointer (some ⟨w.heap.size, 1, none⟩), .agg #[.int .i64 (js.length : Int), .int .u64 (B 0 : Int), .int .u64 (B 1 : Int), .int .u64 (B 2 : Int), .int .u64 (B 3 : Int), .int .u64 (B 4 : Int), .int .u64 (B 5 : Int), .int .u64 (B 6 : Int), .int .u64 (B 7 : Int)], .int .i64 (j : Int), .int .u64 (s : Int), .func (.func 100) #[] #[.pointer (some ⟨gS, 0, none⟩)], .int .i64 (x : Int), .int .i64 sm, .agg #[.slice A js.length c, .int .i64 (js.length : Int), .int .u64 (B 0 : Int), .int .u64 (B 1 : Int), .int .u64 (B 2 : Int), .int .u64 (B 3 : Int), .int .u64 (B 4 : Int), .int .u64 (B 5 : Int), .int .u64 (B 6 : Int), .int .u64 (B 7 : Int)], .int .i64 (x : Int), .int .i64 tx, .int .i64 (max sm tx), undef, undef, undef, undef, undef, undef, undef, undef] := by
          refine arr_of _ _ hsz fun t ht => ?_
          have ht' : t < 26 := ht
          rcases (by omega : t = 0 ∨ t = 1 ∨ t = 2 ∨ t = 3 ∨ t = 4 ∨ t = 5 ∨ t = 6 ∨ t = 7 ∨ t = 8 ∨ t = 9 ∨ t = 10 ∨ t = 11 ∨ t = 12 ∨ t = 13 ∨ t = 14 ∨ t = 15 ∨ t = 16 ∨ t = 17 ∨ t = 18 ∨ t = 19 ∨ t = 20 ∨ t = 21 ∨ t = 22 ∨ t = 23 ∨ t = 24 ∨ t = 25) with rfl | rfl | rfl | rfl | rfl | rfl | rfl | rfl | rfl | rfl | rfl | rfl | rfl | rfl | rfl | rfl | rfl | rfl | rfl | rfl | rfl | rfl | rfl | rfl | rfl | rfl
          · exact hlow 0 (by kernel_rfl)
          · exact hlow 1 (by kernel_rfl)
          · exact hlow 2 (by kernel_rfl)
          · exact hlow 3 (by kernel_rfl)
          · exact hlow 4 (by kernel_rfl)
          · exact hlow 5 (by kernel_rfl)
          · exact hlow 6 (by kernel_rfl)
          · exact hlow 7 (by kernel_rfl)
          · exact hlow 8 (by kernel_rfl)
          · exact hlow 9 (by kernel_rfl)
          · exact hlow 10 (by kernel_rfl)
          · exact hlow 11 (by kernel_rfl)
          · exact hlow 12 (by kernel_rfl)
          · exact hval 0 _ 13 rfl rfl
          · exact hval 1 _ 14 rfl rfl
          · exact hval 2 _ 15 rfl rfl
          · exact hval 3 _ 16 rfl rfl
          · exact hval 4 _ 17 rfl rfl
          · exact hlow 18 (by kernel_rfl)
          · exact hlow 19 (by kernel_rfl)
          · exact hlow 20 (by kernel_rfl)
          · exact hlow 21 (by kernel_rfl)
          · exact hlow 22 (by kernel_rfl)
          · exact hlow 23 (by kernel_rfl)
          · exact hlow 24 (by kernel_rfl)
          · exact hlow 25 (by kernel_rfl)
        subst ht
        have HF := Lib.hid (And.intro hS.1 (hS.2.2 (hall 5 (by decide))))
        clear hlow hval hsz hall hS
        gi_wp2
        exact ⟨HF.out.1.1.from _, fun _ => HT.out.below HF.out.1.2.1, ⟨HF.out.1.2.2, by rw [HSN.out]; exact HF.out.2⟩, HF.out.1.2.1⟩
      · intro L ac w' q op hLs hop hLi hLd hLn ⟨hS0, hS1, hS2⟩ hlow hdep _
        have hq : q < 6 := (Array.getElem?_eq_some_iff.1 hop).1
        have K : ∀ {WK : World} {q : Nat}, q ≠ 5 → (KeepsOthers W WK ∧ Below w.heap.size w WK ∧ BlockIs WK w.heap.size 86 (wlC (.slice A js.length c) (js.length : Int) B)) → (L.getD 5 true = false → BlockIs WK (w.heap.size + 1) 3 #[.int .i64 sm]) → (L.getD 5 true = true → BlockIs WK (w.heap.size + 1) 3 #[.int .i64 (max sm tx)]) → (KeepsOthers W WK ∧ Below w.heap.size w WK ∧ BlockIs WK w.heap.size 86 (wlC (.slice A js.length c) (js.length : Int) B)) ∧ ((L.setIfInBounds q true).getD 5 true = false → BlockIs WK (w.heap.size + 1) 3 #[.int .i64 sm]) ∧ ((L.setIfInBounds q true).getD 5 true = true → BlockIs WK (w.heap.size + 1) 3 #[.int .i64 (max sm tx)]) := by
          intro WK q h9 ka kb2 kc
          rw [getD_set_true, if_neg (fun h => h9 h.1)]
          exact ⟨ka, kb2, kc⟩
        rcases (by omega : q = 0 ∨ q = 1 ∨ q = 2 ∨ q = 3 ∨ q = 4 ∨ q = 5) with rfl | rfl | rfl | rfl | rfl | rfl
        · obtain rfl := Option.some.inj hop
          have e5 : ac.tmps[5]?.getD undef = .pointer (some ⟨w.heap.size + 1, 0, none⟩) := (Array.getD_eq_getD_getElem? ..).symm.trans (hlow 5 (by kernel_rfl))
          have hc := (hS1 (hLn 5 (by kernel_rfl))).cell 0
          simp only [List.getElem?_toArray, List.getElem?_cons_zero] at hc
          exact ⟨wanted_free rfl, .inl (.inl ⟨w', by simp [execOp, Act.eval, e5, hc, go_sem], K (by decide) hS0 hS1 hS2⟩)⟩
        · obtain rfl := Option.some.inj hop
          have e2 : ac.tmps[2]?.getD undef = .pointer (some ⟨w.heap.size, 0, none⟩) := (Array.getD_eq_getD_getElem? ..).symm.trans (hlow 2 (by kernel_rfl))
          exact ⟨wanted_free rfl, .inl (.inl ⟨w', exec_load10 (x := .tmp 2) rfl (hlow 2 (by kernel_rfl)) hS0.2.2 rfl, K (by decide) hS0 hS1 hS2⟩)⟩
        · obtain rfl := Option.some.inj hop
          have e6 : ac.tmps[6]?.getD undef = .int .i64 (x : Int) := (Array.getD_eq_getD_getElem? ..).symm.trans (hlow 6 (by kernel_rfl))
          exact ⟨wanted_free rfl, .inl (.inl ⟨w', by simp [execOp, Act.eval, e6, go_sem], K (by decide) hS0 hS1 hS2⟩)⟩
        · obtain rfl := Option.some.inj hop
          have e14 : ac.tmps[14]?.getD undef = .agg #[.slice A js.length c, .int .i64 (js.length : Int), .int .u64 (B 0 : Int), .int .u64 (B 1 : Int), .int .u64 (B 2 : Int), .int .u64 (B 3 : Int), .int .u64 (B 4 : Int), .int .u64 (B 5 : Int), .int .u64 (B 6 : Int), .int .u64 (B 7 : Int)] := (Array.getD_eq_getD_getElem? ..).symm.trans (hdep 1 _ 14 (by kernel_rfl) rfl rfl)
          have e15 : ac.tmps[15]?.getD undef = .int .i64 (x : Int) := (Array.getD_eq_getD_getElem? ..).symm.trans (hdep 2 _ 15 (by kernel_rfl) rfl rfl)
          refine ⟨wanted_free rfl, .inl (.inr ⟨88, #[.agg #[.slice A js.length c, .int .i64 (js.length : Int), .int .u64 (B 0 : Int), .int .u64 (B 1 : Int), .int .u64 (B 2 : Int), .int .u64 (B 3 : Int), .int .u64 (B 4 : Int), .int .u64 (B 5 : Int), .int .u64 (B 6 : Int), .int .u64 (B 7 : Int)], .int .i64 (x : Int)], by simp [execOp, Act.eval, e14, e15, go_sem], (HCX.out w' (HR.out.below hS0.2.1) (HT.out.below hS0.2.1)).mono ?_⟩)⟩
          rintro e w2 ⟨rfl, hb⟩
          exact ⟨rfl, K (by decide) (kb hS0 hb) (fun h => ob (hS1 h) hb) (fun h => nb (hS2 h) hb)⟩
        · obtain rfl := Option.some.inj hop
          have e13 : ac.tmps[13]?.getD undef = .int .i64 sm := (Array.getD_eq_getD_getElem? ..).symm.trans (hdep 0 _ 13 (by kernel_rfl) rfl rfl)
          have e16 : ac.tmps[16]?.getD undef = .int .i64 tx := (Array.getD_eq_getD_getElem? ..).symm.trans (hdep 3 _ 16 (by kernel_rfl) rfl rfl)
          exact ⟨wanted_free rfl, .inl (.inl ⟨w', by simp [execOp, Act.eval, e13, e16, hmx, go_sem], K (by decide) hS0 hS1 hS2⟩)⟩
        · obtain rfl := Option.some.inj hop
          have e5 : ac.tmps[5]?.getD undef = .pointer (some ⟨w.heap.size + 1, 0, none⟩) := (Array.getD_eq_getD_getElem? ..).symm.trans (hlow 5 (by kernel_rfl))
          have e17 : ac.tmps[17]?.getD undef = .int .i64 (max sm tx) := (Array.getD_eq_getD_getElem? ..).symm.trans (hdep 4 _ 17 (by kernel_rfl) rfl rfl)
          have hO := hS1 hLi
          have hc := hO.cell 0
          simp only [List.getElem?_toArray, List.getElem?_cons_zero] at hc
          have fz := hO.frozen 0
          refine ⟨wanted_free rfl, .inr ⟨w'.setCell ⟨w.heap.size + 1, 0, none⟩ (.int .i64 (max sm tx)), rfl, by simp [execOp, Act.eval, e5, e17, hc, fz, go_sem], ?_⟩⟩
          refine ⟨⟨hS0.1.trans (KeepsOthers.setCell _ _ _), hS0.2.1.setCell (p := ⟨w.heap.size + 1, 0, none⟩) (by show _ ≤ w.heap.size + 1; omega) _, hS0.2.2.away (g' := w.heap.size + 1) (by omega) _ _⟩, fun h => ?_, fun _ => hO.set 0 _⟩
          rw [getD_set_true, if_pos ⟨rfl, by rw [hLs]; decide⟩] at h
          cases h
    case done =>
      rintro D ys W hD hys ⟨⟨y0, y1⟩, hb⟩ hK
      have hmo : Tryd.prog.follows .mixedOrders = true := by kernel_rfl
      rw [hys] at y1
      have hml := mostL_bd (g := tf) (m := 50 * (f : Int)) (by omega) (memB s) (fun i hi => (HGB.out i (HMEM.out i ((memB_mem hs).1 hi)).1).2)
      obtain ⟨ad, rfl, _, hc0, hc1, hc2, hc3⟩ := HR.out.job hj
      have HJ := Lib.hid (fun W' (h : Below w.heap.size w W') => (HR.out.below h).job hj)
      have hj1 : (j : Int) < js.length := by omega
      have hj0 : (0 : Int) ≤ j := by omega
      obtain ⟨mm, hmm⟩ : ∃ mm, mostL tf (memB s) = mm := ⟨_, rfl⟩
      rw [hmm] at y1 hml
      have HMM := Lib.hid hmm
      clear hmm
      have hwr := IntWalk.i64_in (js[j].t + mm) (by omega)
      clear hc0 hc1 hc2 hc3
      have HJT : Hid (∀ W', Below w.heap.size w W' → W'.cell? (ad.add (j * 4)) = some (.int .i64 js[j].t)) := fun W' h => by
        obtain ⟨ad', e, _, hc, _⟩ := HJ.out W' h
        obtain rfl := Option.some.inj e
        exact hc
      clear HJ
      obtain ⟨tj, htj⟩ : ∃ tj, js[j].t = tj := ⟨_, rfl⟩
      rw [htj] at HJT hwr
      have HTJ := Lib.hid htj
      clear htj hjt
      gi_wp2
      refine wpIn_region_detZ (fun _ => trivial) rfl (fun _ _ _ _ h => callsIn_wide.2 h) (by kernel_rfl) hmo (fun L w' => w' = W.drew) (fun kk => (#[.pointer (some ⟨w.heap.size, 0, none⟩), .slice (some ad) js.length c, .int .i64 (j : Int), .pointer (some (ad.add (j * 4))), .pointer (some (ad.add (j * 4))), .int .i64 tj, .int .i64 mm, .int .i64 (tj + mm), .int .i64 (tj + mm)] : Array Value).getD kk undef) (by kernel_rfl) (by kernel_rfl) rfl ?_ ?_
      · intro L tm w' hall hS hsz hlow hval
        have ht : tm = #[.agg #[.slice (some ad) js.length c, .int .i64 (js.length : Int), .int .u64 (B 0 : Int), .int .u64 (B 1 : Int), .int .u64 (B 2 : Int), .int .u64 (B 3 : Int), .int .u64 (B 4 : Int), .int .u64 (B 5 : Int), .int .u64 (B 6 : Int), .int .u64 (B 7 : Int)], .int .i64 (j : Int), .pointer (some ⟨w.heap.size, 0, none⟩), undef, .int .i64 (tj + mm), .pointer (some ⟨w.heap.size + 1, 0, none⟩), undef, .pointer (some ⟨w.heap.size, 1, none⟩), .agg #[.int .i64 (js.length : Int), .int .u64 (B 0 : Int), .int .u64 (B 1 : Int), .int .u64 (B 2 : Int), .int .u64 (B 3 : Int), .int .u64 (B 4 : Int), .int .u64 (B 5 : Int), .int .u64 (B 6 : Int), .int .u64 (B 7 : Int)], .int .i64 (j : Int), .int .u64 (s : Int), .func (.func 100) #[] #[.pointer (some ⟨gS, 0, none⟩)], undef, undef, undef, undef, undef, undef, .pointer (some ⟨w.heap.size, 0, none⟩), .slice (some ad) js.length c, .int .i64 (j : Int), .pointer (some (ad.add (j * 4))), .pointer (some (ad.add (j * 4))), .int .i64 tj, .int .i64 mm, .int .i64 (tj + mm)] := by
          refine arr_of _ _ hsz fun t ht => ?_
          have ht' : t < 26 := ht
          rcases (by omega : t = 0 ∨ t = 1 ∨ t = 2 ∨ t = 3 ∨ t = 4 ∨ t = 5 ∨ t = 6 ∨ t = 7 ∨ t = 8 ∨ t = 9 ∨ t = 10 ∨ t = 11 ∨ t = 12 ∨ t = 13 ∨ t = 14 ∨ t = 15 ∨ t = 16 ∨ t = 17 ∨ t = 18 ∨ t = 19 ∨ t = 20 ∨ t = 21 ∨ t = 22 ∨ t = 23 ∨ t = 24 ∨ t = 25) with rfl | rfl | rfl | rfl | rfl | rfl | rfl | rfl | rfl | rfl | rfl | rfl | rfl | rfl | rfl | rfl | rfl | rfl | rfl | rfl | rfl | rfl | rfl | rfl | rfl | rfl
          · exact hlow 0 (by kernel_rfl)
          · exact hlow 1 (by kernel_rfl)
          · exact hlow 2 (by kernel_rfl)
          · exact hlow 3 (by kernel_rfl)
          · exact hval 8 _ 4 rfl rfl
          · exact hlow 5 (by kernel_rfl)
          · exact hlow 6 (by kernel_rfl)
          · exact hlow 7 (by kernel_rfl)
          · exact hlow 8 (by kernel_rfl)
          · exact hlow 9 (by kernel_rfl)
          · exact hlow 10 (by kernel_rfl)
          · exact hlow 11 (by kernel_rfl)
          · exact hlow 12 (by kernel_rfl)
          · exact hlow 13 (by kernel_rfl)
          · exact hlow 14 (by kernel_rfl)
          · exact hlow 15 (by kernel_rfl)
          · exact hlow 16 (by kernel_rfl)
          · exact hlow 17 (by kernel_rfl)
          · exact hval 0 _ 18 rfl rfl
          · exact hval 1 _ 19 rfl rfl
          · exact hval 2 _ 20 rfl rfl
          · exact hval 3 _ 21 rfl rfl
          · exact hval 4 _ 22 rfl rfl
          · exact hval 5 _ 23 rfl rfl
          · exact hval 6 _ 24 rfl rfl
          · exact hval 7 _ 25 rfl rfl
        subst ht
        have HF := Lib.hid hS
        clear hlow hval hsz hall hS
        obtain rfl : w' = W.drew := HF.out
        gi_wp2
        refine ⟨by simp, .inl ⟨_, _, rfl, run_takeDeferred hK, ?_⟩⟩
        exact ⟨_, results_tmp rfl _ _ _, by rw [HTJ.out, show mostL (fun i => tf i) (memB s) = mm from HMM.out]; rfl, hb.drew.trans (belowK_b (w := w3) (by omega) W.drew D _ _ (by omega) hK rfl rfl)⟩
      · intro L ac w' q op hLs hop hLi hLd hLn hS0 hlow hdep _
        have hq : q < 9 := (Array.getElem?_eq_some_iff.1 hop).1
        rcases (by omega : q = 0 ∨ q = 1 ∨ q = 2 ∨ q = 3 ∨ q = 4 ∨ q = 5 ∨ q = 6 ∨ q = 7 ∨ q = 8) with rfl | rfl | rfl | rfl | rfl | rfl | rfl | rfl | rfl
        · obtain rfl := Option.some.inj hop
          have e2 : ac.tmps[2]?.getD undef = .pointer (some ⟨w.heap.size, 0, none⟩) := (Array.getD_eq_getD_getElem? ..).symm.trans (hlow 2 (by kernel_rfl))
          exact ⟨wanted_free rfl, .inl (.inl ⟨w', by simp [execOp, Act.eval, e2, go_sem], hS0⟩)⟩
        · obtain rfl := Option.some.inj hop
          have e18 : ac.tmps[18]?.getD undef = .pointer (some ⟨w.heap.size, 0, none⟩) := (Array.getD_eq_getD_getElem? ..).symm.trans (hdep 0 _ 18 (by kernel_rfl) rfl rfl)
          have hc : w'.cell? ⟨w.heap.size, 0, none⟩ = some (.slice (some ad) js.length c) := by rw [hS0]; exact y0.cell 0
          exact ⟨wanted_free rfl, .inl (.inl ⟨w', by simp [execOp, Act.eval, e18, hc, go_sem], hS0⟩)⟩
        · obtain rfl := Option.some.inj hop
          have e1 : ac.tmps[1]?.getD undef = .int .i64 (j : Int) := (Array.getD_eq_getD_getElem? ..).symm.trans (hlow 1 (by kernel_rfl))
          exact ⟨wanted_free rfl, .inl (.inl ⟨w', by simp [execOp, Act.eval, e1, go_sem], hS0⟩)⟩
        · obtain rfl := Option.some.inj hop
          have e19 : ac.tmps[19]?.getD undef = .slice (some ad) js.length c := (Array.getD_eq_getD_getElem? ..).symm.trans (hdep 1 _ 19 (by kernel_rfl) rfl rfl)
          have e20 : ac.tmps[20]?.getD undef = .int .i64 (j : Int) := (Array.getD_eq_getD_getElem? ..).symm.trans (hdep 2 _ 20 (by kernel_rfl) rfl rfl)
          exact ⟨wanted_free rfl, .inl (.inl ⟨w', by simp [execOp, Act.eval, e19, e20, hj0, hj1, go_sem], hS0⟩)⟩
        · obtain rfl := Option.some.inj hop
          have e21 : ac.tmps[21]?.getD undef = .pointer (some (ad.add (j * 4))) := (Array.getD_eq_getD_getElem? ..).symm.trans (hdep 3 _ 21 (by kernel_rfl) rfl rfl)
          exact ⟨wanted_free rfl, .inl (.inl ⟨w', by simp [execOp, Act.eval, e21, go_sem], hS0⟩)⟩
        · obtain rfl := Option.some.inj hop
          have e22 : ac.tmps[22]?.getD undef = .pointer (some (ad.add (j * 4))) := (Array.getD_eq_getD_getElem? ..).symm.trans (hdep 4 _ 22 (by kernel_rfl) rfl rfl)
          have hc : w'.cell? (ad.add (j * 4)) = some (.int .i64 tj) := by rw [hS0]; exact HJT.out W.drew hb.drew
          exact ⟨wanted_free rfl, .inl (.inl ⟨w', by simp [execOp, Act.eval, e22, hc, go_sem], hS0⟩)⟩
        · obtain rfl := Option.some.inj hop
          have e5 : ac.tmps[5]?.getD undef = .pointer (some ⟨w.heap.size + 1, 0, none⟩) := (Array.getD_eq_getD_getElem? ..).symm.trans (hlow 5 (by kernel_rfl))
          have hc : w'.cell? ⟨w.heap.size + 1, 0, none⟩ = some (.int .i64 mm) := by rw [hS0]; exact y1.cell
          exact ⟨wanted_free rfl, .inl (.inl ⟨w', by simp [execOp, Act.eval, e5, hc, go_sem], hS0⟩)⟩
        · obtain rfl := Option.some.inj hop
          have e23 : ac.tmps[23]?.getD undef = .int .i64 tj := (Array.getD_eq_getD_getElem? ..).symm.trans (hdep 5 _ 23 (by kernel_rfl) rfl rfl)
          have e24 : ac.tmps[24]?.getD undef = .int .i64 mm := (Array.getD_eq_getD_getElem? ..).symm.trans (hdep 6 _ 24 (by kernel_rfl) rfl rfl)
          exact ⟨wanted_free rfl, .inl (.inl ⟨w', by simp [execOp, Act.eval, e23, e24, hwr, go_sem], hS0⟩)⟩
        · obtain rfl := Option.some.inj hop
          have e25 : ac.tmps[25]?.getD undef = .int .i64 (tj + mm) := (Array.getD_eq_getD_getElem? ..).symm.trans (hdep 7 _ 25 (by kernel_rfl) rfl rfl)
          exact ⟨wanted_free rfl, .inl (.inl ⟨w', by simp [execOp, Act.eval, e25, go_sem], hS0⟩)⟩
    case stop =>
      rintro D cd pre W _ _ h _
      exact h.elim
end
end Go.Proofs.YtapbgmmkkngdoaaDoor
