/- Arguments that are slices of slices of numbers ([][]int), opened to lists; the law's helpers over them. -/
import Derived.Test.YteidhjmnononaaaOwnSS
import Derived.Test.YteidhjmnononaaaSegH
import Derived.OpenShut
namespace Go.Proofs.Yteidhjmnononaaa
open Go.RowKit Go.ChangeShapes Go.WideShapes Go.Deep

def wfL (xs : List Int) : Prop := xs.length ≤ maxLen ∧ ∀ n ∈ xs, (Lit.int .i64 n).wf = true
/-- A slice of slices of numbers that came in. -/
def IsSSA (w : World) (A : Option Addr) (len cap : Nat) (xss : List (List Int)) : Prop := xss.length = len ∧ len ≤ cap ∧ cap ≤ maxLen ∧ RowSS w A (xss.map ic) ∧ ∀ xs ∈ xss, wfL xs
section
variable {H : Type} {enc : TypeId × Value → H} {P : Program} {w : World} {base : Nat} {held : Bool}
theorem open_ss {t e k : TypeId} {fuel : Nat} {cs : List Value} {x : DataW H × List MemPlace} (ht : P.underlying t = some (.slice e)) (he : P.underlying e = some (.slice k))
    (hC : P.cellsOf e = 1) (hk : P.cellsOf k = 1) (i0 : P.underlying k = some (.int .i64))
    (h : DataW.trod enc P w base (fun _ => true) held fuel t cs = some x) : ∃ A len cap js, cs = [.slice A len cap] ∧ IsSSA w A len cap js := by
  rcases open_slice ht h with ⟨h0, _⟩ | ⟨a, len, cap, m, n, D, Pl, hcs, hb, hl, hm, hmm, hx, hi⟩
  · exact ⟨none, 0, 0, [], h0, rfl, Nat.le_refl _, Nat.zero_le _, ⟨[], rfl, Row.nil _, fun i h => by cases h⟩, by simp⟩
  · have key : ∀ i : Nat, ∃ p : (Option Addr × Nat) × List Int, i < len → w.cell? (a.add i) = some (.slice p.1.1 p.2.length p.1.2) ∧ Row w p.1.1 (ic p.2) ∧ wfL p.2 := by
      intro i
      by_cases him : i < len
      · obtain ⟨cs', hc, ht'⟩ := hi i (by rw [hmm]; simp; omega)
        rw [hC, Nat.mul_one] at hc
        rcases open_ints he i0 hk ht' with ⟨e1, _⟩ | ⟨b, l, c, zs, e1, _, hlc, hcm, hz, _, hcell, hwf⟩
        · subst e1
          exact ⟨((none, 0), []), fun _ => ⟨Go.ChangeShapes.cell_of_cells?_one hc, Row.nil _, Nat.zero_le _, by simp⟩⟩
        · subst e1
          have hI : IsInts .i64 w (some b) l c zs := .inr ⟨b, rfl, hlc, hcm, by simpa using hz, hcell, hwf⟩
          obtain ⟨o, ho, hr, hm', hw⟩ := hI.row
          exact ⟨((some b, c), o), fun _ => ⟨by rw [ho]; exact Go.ChangeShapes.cell_of_cells?_one hc, hr, hm', hw⟩⟩
      · exact ⟨((none, 0), []), fun h => absurd h him⟩
    obtain ⟨f, hf⟩ := Classical.axiomOfChoice key
    refine ⟨some a, len, cap, (List.range len).map fun i => (f i).2, hcs, by simp, hl, hm, ⟨(List.range len).map fun i => (f i).1, by simp, fun hn => ?_, ?_⟩, ?_⟩
    · have hlen : (slC ((List.range len).map fun i => (f i).1) (((List.range len).map fun i => (f i).2).map ic)).length = len := by rw [slC_len (by simp)]; simp
      rw [hlen] at hn
      have hb := lt_of_cell (hf 0 (by omega)).1
      rw [add_block] at hb
      refine ⟨a, rfl, hb, fun j u hu => ?_⟩
      obtain ⟨hj, hu'⟩ := List.getElem?_eq_some_iff.1 hu
      rw [hlen] at hj
      rw [slC_get (by simp) (by simpa using hj)] at hu'
      rw [(hf j hj).1, ← hu']
      simp [ic_len]
    · intro i h1 h2
      simp only [List.length_map, List.length_range] at h1
      simp only [List.getElem_map, List.getElem_range]
      exact (hf i h1).2.1
    · intro xs hx
      obtain ⟨i, hi, rfl⟩ := List.mem_map.1 hx
      exact (hf i (List.mem_range.1 hi)).2.2
end
theorem argM_kinds : Try.prog.underlying 25 = some (.slice 40) ∧ Try.prog.underlying 40 = some (.slice 3) ∧ Try.prog.cellsOf 40 = 1 ∧ Try.prog.cellsOf 3 = 1 :=
  ⟨Try.underlying25, Try.underlying40, by kernel_rfl, by kernel_rfl⟩

/-- How many numbers there are in all. -/
def totL (xss : List (List Int)) : Nat := (xss.map List.length).sum
theorem totC_ic (xss : List (List Int)) : totC (xss.map ic) = totL xss := by
  unfold totC totL
  congr 1
  rw [List.map_map]
  apply List.map_congr_left
  intro xs _
  exact ic_len xs
theorem totL_take (xss : List (List Int)) (k : Nat) (hk : k < xss.length) : totL (xss.take (k + 1)) = totL (xss.take k) + xss[k].length := by
  unfold totL
  rw [List.take_succ_eq_append_getElem hk, List.map_append, List.sum_append]
  simp
theorem totL_le {xss : List (List Int)} {k : Nat} (hk : k < xss.length) : xss[k].length ≤ totL xss := by
  have h1 := totL_take xss k hk
  have h2 : ∀ (l : List (List Int)) (m : Nat), totL (l.take m) ≤ totL l := fun l => by
    induction l with
    | nil => intro m; simp [totL]
    | cons x l ih =>
      intro m
      cases m with
      | zero => simp [totL]
      | succ m => have := ih m; unfold totL at *; simp only [List.take_succ_cons, List.map_cons, List.sum_cons]; omega
  have := h2 xss (k + 1)
  omega
theorem szIntS_any (A : Option Addr) (n c : Nat) (left : Int) (w : World) (hn : n ≤ maxLen) (h0 : 0 ≤ left) (h1 : left ≤ 1048576) :
    Calls Try.prog 13 #[.slice A n c, .int .i64 left] w fun e w' => ((e = .returned (.int .i64 (left - n)) ∧ (n : Int) ≤ left) ∨ (e = .returned (.int .i64 (-1)) ∧ left < n)) ∧ w = w' := by
  unfold maxLen at hn
  by_cases h : (n : Int) ≤ left
  · go_enter Try.func13, Try.ntmps13
    go_wp2
    go_ret
    first | exact ⟨.inl ⟨rfl, h⟩, rfl⟩ | exact ⟨.inl rfl, rfl⟩
  · go_enter Try.func13, Try.ntmps13
    go_wp2
    go_ret
    first | exact ⟨.inr ⟨rfl, by omega⟩, rfl⟩ | exact ⟨.inr rfl, rfl⟩
theorem szIntSS_any (A : Option Addr) (n c : Nat) (xss : List (List Int)) (L : Int) (w : World) (hl : n = xss.length) (hr : RowSS w A (xss.map ic)) (hn : xss.length ≤ maxLen) (hs : ∀ xs ∈ xss, wfL xs) (h0 : 0 ≤ L) (hL : L ≤ 1048576) :
    Calls Try.prog 5 #[.slice A n c, .int .i64 L] w fun e w' => ((∃ r : Int, e = .returned (.int .i64 r) ∧ 0 ≤ r ∧ (xss.length : Int) + totL xss + r = L) ∨ (e = .returned (.int .i64 (-1)))) ∧ w = w' := by
  subst hl
  unfold maxLen at hn
  by_cases h1 : (xss.length : Int) ≤ L
  · go_enter Try.func5, Try.ntmps5
    go_wp2
    go_loop [1, 5] (fun l i => ∃ (k : Nat) (r : Int), k ≤ xss.length ∧ i = .int .i64 k ∧ l = .int .i64 r ∧ 0 ≤ r ∧ r ≤ 1048576 ∧ Hid ((xss.length : Int) + totL (xss.take k) + r = L)) (fun _ i => xss.length - (intOf i).toNat)
    case atStart => exact ⟨0, _, Nat.zero_le _, rfl, rfl, by omega, by omega, by show _ = L; simp [totL]; omega⟩
    case round =>
      obtain ⟨k, r, hk, rfl, rfl, hr0, hr1, hR⟩ := hrel
      by_cases hlt : k < xss.length
      · obtain ⟨ad, B, d, rfl, hc, _⟩ := hr.at_ (k := k) (by simpa using hlt)
        rw [List.getElem_map, ic_len] at hc
        have hsz := (hs xss[k] (List.getElem_mem hlt)).1
        have HS := Lib.hid (totL_take xss k hlt)
        generalize xss[k] = xs at *
        go_wp2_with fail
        refine (szIntS_any B xs.length d r _ hsz hr0 hr1).mono ?_
        rintro e _ ⟨⟨rfl, hge⟩ | ⟨rfl, hge⟩, rfl⟩
        · go_wp2
          go_round
          case rel => exact ⟨k + 1, _, by omega, by go_num, rfl, by omega, by omega, by have := HS.out; have := hR.out; show _ = L; omega⟩
          case measure => simp [intOf]; omega
        · go_wp2
          go_ret
          exact ⟨.inr rfl, rfl⟩
      · go_wp2
        go_ret
        obtain rfl : k = xss.length := by omega
        have h2 := hR.out
        rw [List.take_of_length_le (Nat.le_refl _)] at h2
        exact ⟨.inl ⟨r, rfl, hr0, h2⟩, rfl⟩
  · go_enter Try.func5, Try.ntmps5
    go_wp2
    go_ret
    exact ⟨.inr rfl, rfl⟩

/-- A list of n lists, told by a function. -/
def tabV (n : Nat) (f : Nat → List Value) : List (List Value) := (List.range n).map f
theorem tabV_len (n : Nat) (f : Nat → List Value) : (tabV n f).length = n := by simp [tabV]
theorem tabV_get (n : Nat) (f : Nat → List Value) (i : Nat) (h : i < (tabV n f).length) : (tabV n f)[i] = f i := by simp [tabV]
def updV (f : Nat → List Value) (m : Nat) (cs : List Value) : Nat → List Value := fun i => if i = m then cs else f i
theorem tabV_set (n : Nat) (f : Nat → List Value) (m : Nat) (cs : List Value) : (tabV n f).set m cs = tabV n (updV f m cs) := by
  apply List.ext_getElem
  · simp [tabV]
  · intro i h1 h2
    rw [List.getElem_set, tabV_get, tabV_get]
    unfold updV
    by_cases e : m = i
    · rw [if_pos e, if_pos e.symm]
    · rw [if_neg e, if_neg (fun x => e x.symm)]
theorem tabV_ext {n : Nat} {f g : Nat → List Value} (h : ∀ i, i < n → f i = g i) : tabV n f = tabV n g := by
  unfold tabV
  exact List.map_congr_left fun i hi => h i (List.mem_range.1 hi)
theorem tabV_of {n : Nat} {f : Nat → List Value} {l : List (List Value)} (hl : l.length = n) (h : ∀ i (hi : i < l.length), f i = l[i]) : tabV n f = l := by
  apply List.ext_getElem
  · simp [tabV, hl]
  · intro i h1 h2
    rw [tabV_get]; exact h i h2
theorem slC_nils (n : Nat) (f : Nat → List Value) (hf : ∀ i, i < n → f i = []) : slC (List.replicate n (none, 0)) (tabV n f) = List.replicate n (.slice none 0 0) := by
  apply List.ext_getElem
  · rw [slC_len (by simp [tabV])]; simp [tabV]
  · intro i h1 h2
    have hi : i < n := by simpa using h2
    rw [slC_get (by simp [tabV]) (by simpa [tabV] using hi)]
    simp [tabV, hf i hi]
/-- A new row of nil slices. -/
theorem OwnV.new {w : World} {B C g n : Nat} {f : Nat → List Value} (hf : ∀ i, i < n → f i = []) (hB : BlockIs w g 40 (madeCells #[.slice none 0 0] n)) (hg : B ≤ g) (hn : n ≤ maxLen) :
    OwnV (List.replicate n (none, 0)) B C w (.slice (some ⟨g, 0, none⟩) n n) (tabV n f) := by
  refine ⟨by simp [tabV], ?_, ?_, ?_⟩
  · rw [slC_nils n f hf, tabV_len]
    have := hB.own (base := B) (n := n) (c := n) (size := 1) hg (by rw [size_madeCells]; omega) (Nat.le_refl _) hn (by rw [size_madeCells]; omega)
    rwa [toList_madeCells_one, List.take_of_length_le (by simp)] at this
  · intro i h1 h2
    have hi : i < n := by simpa using h2
    have : (tabV n f)[i] = [] := by rw [tabV_get, hf i hi]
    simp only [this, List.getElem_replicate]
    exact ⟨rfl, .inl ⟨rfl, rfl⟩⟩
  · intro i j hi hj a b _ ha
    simp at ha
/-- One of them is stored where it stood. -/
theorem OwnV.put {vs : List (Option Addr × Nat)} {B C : Nat} {w w' : World} {v : Value} {css : List (List Value)} (h : OwnV vs B C w v css) {g cap : Nat} (hv : v = .slice (some ⟨g, 0, none⟩) css.length cap) {m : Nat} (hm : m < css.length) (hb : Below w.heap.size w w') {A' : Option Addr} {c' n' : Nat} {cs : List Value} (hn' : n' = cs.length)
    (hnew : w'.ownsRow C 3 1 (.slice A' n' c') n' cs) (hg : ∀ a, A' = some a → w.heap.size ≤ a.block) :
    OwnV (vs.set m (A', c')) B C (w'.setCell ⟨g, m, none⟩ (.slice A' n' c')) v (css.set m cs) ∧ (∃ u, w'.cell? ⟨g, m, none⟩ = some u) ∧ w'.frozen? ⟨g, m, none⟩ = false ∧ B ≤ g ∧ g < w.heap.size := by
  subst hn'
  have hlt := fun i hi a ha => h.lt i hi (a := a) ha
  have h' := h.below hb
  have hself := (own_type (g := g) h.2.1 (by rw [hv]; rfl)).1
  obtain ⟨h1, h2, h3, h4⟩ := h'
  subst hv
  obtain ⟨hgl, hgB, _, htp⟩ := own_type (g := g) h2 rfl
  obtain ⟨g', cur, hA, hgb, hB, hn, hc, hs, ht⟩ := own_block h2 (by omega)
  injection hA with hA
  injection hA with hA _ _
  subst hA
  have hcell : cur[m]? = some (.slice (vs[m]'(by omega)).1 css[m].length (vs[m]'(by omega)).2) := by
    have := congrArg (fun l : List Value => l[m]?) ht
    simp only [Nat.mul_one] at this
    rw [List.getElem?_take, if_pos hm, Array.getElem?_toList, List.getElem?_eq_getElem (by rw [slC_len h1]; exact hm), slC_get h1 hm] at this
    exact this
  refine ⟨⟨by simp [h1], ?_, ?_, ?_⟩, ⟨_, by rw [hB.cell]; exact hcell⟩, hB.frozen m, hgB, hself⟩
  · rw [← slC_set vs css h1 m]
    have hset := hB.set m (.slice A' cs.length c')
    have := hset.own (base := B) (n := css.length) (c := cap) (size := 1) hgb (by simpa using hs) hn hc (by simp only [Array.size_setIfInBounds]; omega)
    rw [Nat.mul_one, take_setv (cs := slC vs css) (show cur.toList.take css.length = slC vs css by rw [Nat.mul_one] at ht; exact ht) hm] at this
    simpa using this
  · intro i hi hiv
    simp only [List.length_set] at hi hiv
    have hstep : ∀ {u : Value} {n : Nat} {xs : List Value}, w'.ownsRow C 3 1 u n xs → (w'.setCell ⟨g, m, none⟩ (.slice A' cs.length c')).ownsRow C 3 1 u n xs := fun hu => own_to hu fun q hq _ _ => by
      obtain ⟨_, _, c1, t1⟩ := own_type hu hq
      exact Below.heap_setCell _ _ _ _ (type_ne t1 hB (by decide))
    by_cases e : m = i
    · subst e
      simp only [List.getElem_set_self]
      exact hstep hnew
    · rw [List.getElem_set_ne e, List.getElem_set_ne e]
      exact hstep (h3 i hi hiv)
  · intro i j hi hj a b hne ha hb'
    simp only [List.length_set] at hi hj
    have hfar : ∀ q (hq : q < vs.length) (b : Addr), vs[q].1 = some b → ∀ a', A' = some a' → a'.block ≠ b.block := fun q hq b hb a' ha' e' => by
      have := (hlt q hq b hb).1
      have := hg a' ha'
      omega
    by_cases ei : m = i
    · subst ei
      rw [List.getElem_set_self] at ha
      rw [List.getElem_set_ne hne] at hb'
      exact hfar j hj b hb' a ha
    · rw [List.getElem_set_ne ei] at ha
      by_cases ej : m = j
      · subst ej
        rw [List.getElem_set_self] at hb'
        exact fun e' => hfar i hi a ha b hb' e'.symm
      · rw [List.getElem_set_ne ej] at hb'
        exact h4 i j hi hj a b hne ha hb'
theorem infoSl : (Try.prog.info? 40).map (fun i => (i.zero, i.size, i.bytes)) = some (some (.slice none 0 0), 1, 24) := by kernel_rfl
/-- The first k rows of a list of lists. -/
def upTo (xss : List (List Int)) (k : Nat) : Nat → List Value := fun i => if i < k then ic (xss.getD i []) else []
theorem upTo_step (xss : List (List Int)) (k : Nat) (hk : k < xss.length) : tabV xss.length (updV (upTo xss k) k (ic xss[k])) = tabV xss.length (upTo xss (k + 1)) := by
  apply tabV_ext
  intro i hi
  unfold updV upTo
  by_cases e : i = k
  · subst e
    rw [if_pos rfl, if_pos (by omega)]
    simp [List.getD, hk]
  · rw [if_neg e]
    by_cases h : i < k
    · rw [if_pos h, if_pos (by omega)]
    · rw [if_neg h, if_neg (by omega)]
theorem upTo_all (xss : List (List Int)) : tabV xss.length (upTo xss xss.length) = xss.map ic := by
  apply tabV_of (by simp)
  intro i hi
  have hi' : i < xss.length := by simpa using hi
  unfold upTo
  rw [if_pos hi']
  simp [List.getD, hi']
theorem toIntSS_seg (A : Option Addr) (n c : Nat) (xss : List (List Int)) (w : World) (hl : n = xss.length) (hr : RowSS w A (xss.map ic)) (hn : xss.length ≤ 10000000) (hm : totL xss ≤ 10000000) :
    Calls Try.prog 8 #[.slice A n c] w fun e w' => ∃ g, e = .returned (.slice (some ⟨g, 0, none⟩) n n) ∧ SegSS w' w.heap.size w'.heap.size (some ⟨g, 0, none⟩) n n (xss.map ic) ∧ Below w.heap.size w w' := by
  subst hl
  have hmk := run_make_row' (P := Try.prog) 25 40 (.slice none 0 0) 24 Try.underlying25 infoSl rfl .i64 .i64 xss.length (by omega) (by omega)
  go_enter Try.func8, Try.ntmps8
  go_wp2
  go_loopw [4] (fun i wr => ∃ (k : Nat) (vs : List (Option Addr × Nat)), k ≤ xss.length ∧ i = .int .i64 k ∧ Hid (OwnV vs w.heap.size w.heap.size wr (.slice (some ⟨w.heap.size, 0, none⟩) xss.length xss.length) (tabV xss.length (upTo xss k))) ∧ Below w.heap.size w wr) (fun i _ => xss.length - (intOf i).toNat)
  case atStart =>
    exact ⟨0, _, Nat.zero_le _, rfl, OwnV.new (fun i _ => by unfold upTo; rw [if_neg (by omega)]) (BlockIs.new _ _ _) (Nat.le_refl _) (by unfold maxLen; omega), (Below.refl _ _).alloc (Nat.le_refl _) _⟩
  case round =>
    obtain ⟨k, vs, hk, rfl, hV, hb⟩ := hrel
    clear hmk
    by_cases hlt : k < xss.length
    · obtain ⟨ad, B, d, hA, hc, hrow⟩ := (hr.below hb).at_ (k := k) (by simpa using hlt)
      subst hA
      rw [List.getElem_map] at hc hrow
      rw [ic_len] at hc
      have hxl := totL_le hlt
      have HV := Lib.hid (fun (w1 : World) (g1 : Nat) (hb1 : Below wr.heap.size wr w1) (ho : w1.ownsRow wr.heap.size 3 1 (.slice (some ⟨g1, 0, none⟩) xss[k].length xss[k].length) xss[k].length (ic xss[k])) (hg : wr.heap.size ≤ g1) =>
        hV.out.put (by rw [tabV_len]) (by rw [tabV_len]; exact hlt) hb1 (m := k) (cs := ic xss[k]) (by rw [ic_len]) (own_low ho hb.size) (fun a ha => by injection ha with ha; subst ha; exact hg))
      have HU := Lib.hid (upTo_step xss k hlt)
      have HB := Lib.hid hb
      clear hV hr hb
      generalize xss[k] = xs at *
      go_wp2_with fail
      refine (toIntS_any B d xs wr hrow (by omega)).mono ?_
      rintro e w1 ⟨g1, rfl, hg1, ho1, hb1⟩
      obtain ⟨ho2, ⟨u, hcu⟩, hfz, _, _⟩ := HV.out w1 g1 hb1 ho1 hg1
      rw [tabV_set, HU.out] at ho2
      have HO := Lib.hid ho2
      have HB2 := Lib.hid (HB.out.trans (hb1.mono HB.out.size))
      clear ho2 ho1 HV hrow hb1
      go_wp2
      go_roundw
      case rel => exact ⟨k + 1, _, by omega, by go_num, HO.out, HB2.out.setCell (Nat.le_refl _) _⟩
      case measure => simp [intOf]; omega
    · go_wp2
      go_ret
      obtain rfl : k = xss.length := by omega
      have hv := hV.out
      rw [upTo_all] at hv
      obtain ⟨A', c', e', hs⟩ := hv.seg (Nat.le_refl _)
      injection e' with e1 e2 e3
      subst e1
      refine ⟨_, rfl, ?_, hb⟩
      rw [← e2, ← e3] at hs
      exact hs
end Go.Proofs.Yteidhjmnononaaa
