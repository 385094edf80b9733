/- Texts joined: JoP Blo RegZ DmP. -/
import Derived.Test.YtjemjdlaoebffaaDoorKb2
import Derived.Test.YtjemjdlaoebffaaDoorMem
import Derived.Test.YtjemjdlaoebffaaDoorKb1
import Derived.RangeFuncCalls
set_option linter.unusedSimpArgs false
set_option linter.unusedVariables false
section
namespace Go.Proofs.YtjemjdlaoebffaaDoor
/-- What is compared: ranks, then numbers. -/
def cmpJ (rk : Nat → Int) (i k : Nat) : Int := if rk k - rk i ≠ 0 then rk k - rk i else (i : Int) - k
def fB (rk : Nat → Int) (i k : Nat) : Bool := decide (cmpJ rk i k < 0)
theorem fB_low (rk : Nat → Int) {i k : Nat} (h : k < i) : fB rk i k = decide (rk k - rk i < 0) := by
  unfold fB cmpJ
  rw [Bool.eq_iff_iff, decide_eq_true_iff, decide_eq_true_iff]
  split <;> omega
theorem fB_up (rk : Nat → Int) {i k : Nat} (h : i < k) : fB rk i k = decide (rk k ≤ rk i) := by
  unfold fB cmpJ
  rw [Bool.eq_iff_iff, decide_eq_true_iff, decide_eq_true_iff]
  split <;> omega
theorem fJ_total {rk : Nat → Int} {i k : Nat} (h : i ≠ k) (h1 : fB rk i k = false) : fB rk k i = true := by
  have h2 := of_decide_eq_false h1
  refine decide_eq_true ?_
  unfold cmpJ at *
  split at h2 <;> split <;> omega
theorem fJ_trans {rk : Nat → Int} {i k m : Nat} (h1 : fB rk i k = true) (h2 : fB rk k m = true) : fB rk i m = true := by
  have h1 := of_decide_eq_true h1
  have h2 := of_decide_eq_true h2
  refine decide_eq_true ?_
  unfold cmpJ at *
  split at h1 <;> split at h2 <;> split <;> omega
theorem fJ_asym {rk : Nat → Int} {i k : Nat} (h : fB rk i k = true) : fB rk k i = false := by
  have h1 := of_decide_eq_true h
  refine decide_eq_false ?_
  unfold cmpJ at *
  split at h1 <;> split <;> omega
/-- A job put behind all that come before it. -/
def insJ (rk : Nat → Int) (x : Nat) : List Nat → List Nat
  | [] => [x]
  | y :: ys => if fB rk y x then y :: insJ rk x ys else x :: y :: ys
def joTo (rk : Nat → Int) (l : List Nat) : Nat → List Nat
  | 0 => []
  | k + 1 => insJ rk (l.getD k 0) (joTo rk l k)
def joL (rk : Nat → Int) (l : List Nat) : List Nat := joTo rk l l.length
theorem insJ_perm (rk : Nat → Int) (x : Nat) : ∀ ys : List Nat, (insJ rk x ys).Perm (x :: ys)
  | [] => List.Perm.refl _
  | y :: ys => by
    unfold insJ
    split
    · exact ((insJ_perm rk x ys).cons y).trans (List.Perm.swap x y ys)
    · exact List.Perm.refl _
theorem insJ_at (rk : Nat → Int) (x : Nat) : ∀ (ys : List Nat) (k : Nat), k ≤ ys.length → (∀ a ∈ ys.take k, fB rk a x = true) → (∀ h : k < ys.length, fB rk ys[k] x = false) → insJ rk x ys = ys.take k ++ [x] ++ ys.drop k
  | [], k, _, _, _ => by simp [insJ]
  | y :: ys, 0, _, _, h => by
    have := h (by simp)
    simp only [List.getElem_cons_zero] at this
    unfold insJ
    rw [this]
    rfl
  | y :: ys, k + 1, hk, h1, h2 => by
    have hy : fB rk y x = true := h1 y (by simp)
    unfold insJ
    rw [if_pos hy, insJ_at rk x ys k (by simpa using hk) (fun a ha => h1 a (by simp [ha])) (fun h => by have := h2 (by simpa using h); simpa using this)]
    simp
theorem joTo_len (rk : Nat → Int) (l : List Nat) : ∀ k, (joTo rk l k).length = k
  | 0 => rfl
  | k + 1 => by
    have := (insJ_perm rk (l.getD k 0) (joTo rk l k)).length_eq
    unfold joTo
    rw [this, List.length_cons, joTo_len rk l k]
theorem joTo_perm (rk : Nat → Int) (l : List Nat) : ∀ k, k ≤ l.length → (joTo rk l k).Perm (l.take k)
  | 0, _ => by simp [joTo]
  | k + 1, h => by
    have e : l.take (k + 1) = l.take k ++ [l.getD k 0] := by
      rw [List.take_succ_eq_append_getElem (by omega)]
      congr 2
      simp [List.getD, show k < l.length by omega]
    unfold joTo
    rw [e]
    exact ((insJ_perm rk _ _).trans ((joTo_perm rk l k (by omega)).cons _)).trans (List.perm_append_singleton _ _).symm
theorem joTo_mem {rk : Nat → Int} {l : List Nat} {k x : Nat} (hk : k ≤ l.length) (h : x ∈ joTo rk l k) : x ∈ l := List.mem_of_mem_take ((joTo_perm rk l k hk).mem_iff.1 h)
theorem joL_perm (rk : Nat → Int) (l : List Nat) : (joL rk l).Perm l := by
  have := joTo_perm rk l l.length (Nat.le_refl _)
  rwa [List.take_length] at this
theorem joL_len (rk : Nat → Int) (l : List Nat) : (joL rk l).length = l.length := joTo_len _ _ _
def FirL (rk : Nat → Int) (l : List Nat) : Prop := l.Pairwise fun a b => fB rk a b = true
theorem insJ_sorted {rk : Nat → Int} {x : Nat} : ∀ {ys : List Nat}, FirL rk ys → x ∉ ys → FirL rk (insJ rk x ys)
  | [], _, _ => by unfold insJ; exact List.pairwise_singleton _ _
  | y :: ys, h, hx => by
    obtain ⟨h1, h2⟩ := List.pairwise_cons.1 h
    unfold insJ
    split
    · rename_i hy
      refine List.pairwise_cons.2 ⟨fun z hz => ?_, insJ_sorted h2 (fun e => hx (List.mem_cons_of_mem _ e))⟩
      rcases List.mem_cons.1 ((insJ_perm rk x ys).mem_iff.1 hz) with e | e
      · rw [e]; exact hy
      · exact h1 z e
    · rename_i hy
      have hxy : fB rk x y = true := fJ_total (fun e => hx (by rw [← e]; exact List.mem_cons_self)) (by simpa using hy)
      refine List.pairwise_cons.2 ⟨fun z hz => ?_, h⟩
      rcases List.mem_cons.1 hz with e | e
      · rw [e]; exact hxy
      · exact fJ_trans hxy (h1 z e)
theorem joTo_fresh {rk : Nat → Int} {l : List Nat} (hd : l.Nodup) {k : Nat} (hk : k < l.length) : l[k] ∉ joTo rk l k := fun h => by
  have h1 := (joTo_perm rk l k (by omega)).mem_iff.1 h
  obtain ⟨i, hi, he⟩ := List.mem_iff_getElem.1 h1
  rw [List.getElem_take] at he
  rw [List.length_take] at hi
  have := (List.getElem_inj hd).1 he
  omega
theorem joTo_sorted {rk : Nat → Int} {l : List Nat} (hd : l.Nodup) : ∀ k, k ≤ l.length → FirL rk (joTo rk l k)
  | 0, _ => List.Pairwise.nil
  | k + 1, h => by
    have e : l.getD k 0 = l[k] := by simp [List.getD, show k < l.length by omega]
    unfold joTo
    rw [e]
    exact insJ_sorted (joTo_sorted hd k (by omega)) (joTo_fresh hd (by omega))
theorem joTo_succ {rk : Nat → Int} {l : List Nat} {k : Nat} (hk : k < l.length) : joTo rk l (k + 1) = insJ rk l[k] (joTo rk l k) := by
  have e : l.getD k 0 = l[k] := by simp [List.getD, hk]
  rw [← e]; rfl
theorem joTo_one (rk : Nat → Int) (q : List Nat) : joTo rk q 1 ++ q.drop 1 = q ∨ q = [] := by
  cases q with
  | nil => exact .inr rfl
  | cons x q => exact .inl rfl
/-- Put in from the back. -/
theorem insJ_back {rk : Nat → Int} {x : Nat} {out : List Nat} (hs : FirL rk out) (hx : x ∉ out) {j : Nat} (hj : j ≤ out.length) (h1 : ∀ h : 0 < j, fB rk x (out[j - 1]'(by omega)) = false) (h2 : ∀ i (h : i < out.length), j ≤ i → fB rk x out[i] = true) : insJ rk x out = out.take j ++ [x] ++ out.drop j := by
  refine insJ_at rk x out j hj (fun a ha => ?_) (fun h => fJ_asym (h2 j h (Nat.le_refl _)))
  obtain ⟨i, hi, rfl⟩ := List.mem_iff_getElem.1 ha
  rw [List.length_take] at hi
  rw [List.getElem_take]
  have hj0 : 0 < j := by omega
  have hlast : fB rk (out[j - 1]'(by omega)) x = true := fJ_total (fun e => hx (by rw [e]; exact List.getElem_mem _)) (h1 hj0)
  by_cases e : i = j - 1
  · subst e; exact hlast
  · exact fJ_trans (List.pairwise_iff_getElem.1 hs i (j - 1) (by omega) (by omega) (by omega)) hlast
end Go.Proofs.YtjemjdlaoebffaaDoor

end
section
namespace Go.Proofs.YtjemjdlaoebffaaDoor
open Go.RowKit
theorem BlockIs.away {w : World} {g : Nat} {t : TypeId} {cs : Array Value} (h : BlockIs w g t cs) {g' : Nat} (hne : g ≠ g') (i : Nat) (u : Value) : BlockIs (w.setCell ⟨g', i, none⟩ u) g t cs :=
  (Below.heap_setCell w ⟨g', i, none⟩ u g hne).trans h
/-- A call that draws nothing, met in a quiet region of a world as it stands. -/
theorem quiet_eq {P : Program} {f : FuncId} {args : Array Value} {w : World} {n : Nat} {v : Value}
    (h : Calls P f args (w.drewN n) fun e w' => e = .returned v ∧ w.drewN n = w') : Calls P f args (w.drewN n) fun e w'' => e = .returned v ∧ ∃ m, w'' = w.drewN m :=
  h.mono fun _ _ ⟨he, hm⟩ => ⟨he, n, hm.symm⟩
end Go.Proofs.YtjemjdlaoebffaaDoor

end
section
namespace Go.Proofs.YtjemjdlaoebffaaDoor
section
variable {F : Fence} {n : Nat} {P : Program} {ops : Array Oper} {Q : Exit → Act → World → Prop}
theorem wpOpIn_enterZ (hF : ∀ f, F.fn f) (hdp : F.depth = none) (hCI : ∀ f args w R, Calls P f args w R → CallsIn F (n - 1) P f args w R) (hc : calmB ops = true) {i : Nat} {o : Oper} {a : Act} {w w' : World} {f : FuncId} {args : Array Value} {K : Act → World → Prop} (ho : ops[i]? = some o) (hg : Region.wanted o (yielded ops a.tmps) = true) (hr : (execOp a.eval o).run P w = .ok (.enter f args) w') (hK : Calls P f args w' fun e w'' => ∃ v, e = .returned v ∧ K (a.put o.dst v) w'') : wpOpIn F n P ops Q i K a w := by
  refine wpOpIn_step ho fun K' hKK => ?_
  rw [if_pos hg]
  refine ⟨fun f _ => hF f, ?_⟩
  rw [semAt_calm hc ho, hr]
  refine ⟨fun h => ?_, (hCI _ _ _ _ hK).mono ?_⟩
  · rw [hdp] at h; cases h
  · rintro e w'' ⟨v, rfl, h⟩
    exact hKK _ _ h
/-- As wp_region_detY, within a round. -/
theorem wpIn_region_detZ (hF : ∀ f, F.fn f) (hdp : F.depth = none) (hCI : ∀ f args w R, Calls P f args w R → CallsIn F (n - 1) P f args w R) (hcalm : calmB ops = true) {id : Nat} {tm0 : Array Value} {df : List Deferred} {w : World} (hm : P.follows .mixedOrders = true) (S : Array Bool → World → Prop) (val : Nat → Value) (hback : backBB ops = true) (hown : ownDst ops tm0.size = true)
    (h0 : S (Array.replicate ops.size false) w.drew)
    (hdone : ∀ (L : Array Bool) (tm : Array Value) (w : World), (∀ i, i < ops.size → L.getD i true = true) → S L w → tm.size = tm0.size → (∀ t, ((List.range ops.size).all fun j => !((ops[j]?).bind (·.dst) == some t)) = true → tm.getD t undef = tm0.getD t undef) → (∀ j o d, ops[j]? = some o → o.dst = some d → tm.getD d undef = val j) → Q .normal ⟨tm, df⟩ w)
    (hstep : ∀ (L : Array Bool) (a : Act) (w : World) (i : Nat) (o : Oper), L.size = ops.size → ops[i]? = some o → L.getD i true = false → (∀ j, edgeB ops i j = true → L.getD j true = true) → (∀ j, edgeB ops j i = true → L.getD j true = false) → S L w → (∀ t, ((List.range ops.size).all fun j => !((ops[j]?).bind (·.dst) == some t)) = true → a.tmps.getD t undef = tm0.getD t undef) →
      (∀ j oj d, edgeB ops i j = true → ops[j]? = some oj → oj.dst = some d → a.tmps.getD d undef = val j) →
      (∀ j oj d, edgeB ops j i = true → ops[j]? = some oj → oj.dst = some d → a.tmps.getD d undef = tm0.getD d undef) → Region.wanted o (yielded ops a.tmps) = true ∧ StepY P (S (L.setIfInBounds i true)) o a w (val i)) :
    (Code.region id ops true).wpIn F n P Q ⟨tm0, df⟩ w := by
  refine wpIn_region_invB hm (fun L a w => S L w ∧ a.defers = df ∧ a.tmps.size = tm0.size ∧ (∀ t, ((List.range ops.size).all fun j => !((ops[j]?).bind (·.dst) == some t)) = true → a.tmps.getD t undef = tm0.getD t undef) ∧ (∀ j o d, ops[j]? = some o → o.dst = some d → L.getD j true = true → a.tmps.getD d undef = val j) ∧ (∀ j o d, ops[j]? = some o → o.dst = some d → L.getD j true = false → a.tmps.getD d undef = tm0.getD d undef)) (back_ofB hback) ?_ ?_ ?_
  · refine ⟨h0, rfl, rfl, fun _ _ => rfl, fun j o d ho _ hl => ?_, fun _ _ _ _ _ _ => rfl⟩
    have hj : j < ops.size := (Array.getElem?_eq_some_iff.1 ho).1
    simp [Array.getD_eq_getD_getElem?, hj] at hl
  · intro L a w ⟨hS, hdf, hsz, hlow, hval, _⟩ hall
    obtain ⟨tm, df'⟩ := a
    simp only at hdf hsz
    subst hdf
    exact hdone L tm w hall hS hsz hlow (fun j o d ho hd => hval j o d ho hd (hall j (Array.getElem?_eq_some_iff.1 ho).1))
  · intro L a w i o hC ⟨hS, hdf, hsz, hlow, hval, hold⟩ ho hl hd
    obtain ⟨hg, hst⟩ := hstep L a w i o hC.1 ho hl (fun j he => dep_of ho hd he) (fun j he => hC.no he hl) hS hlow (fun j oj d he hoj hdj => hval j oj d hoj hdj (dep_of ho hd he)) (fun j oj d he hoj hdj => hold j oj d hoj hdj (hC.no he hl))
    have next : ∀ w', S (L.setIfInBounds i true) w' → S (L.setIfInBounds i true) w' ∧ (a.put o.dst (val i)).defers = df ∧ (a.put o.dst (val i)).tmps.size = tm0.size ∧ (∀ t, ((List.range ops.size).all fun j => !((ops[j]?).bind (·.dst) == some t)) = true → (a.put o.dst (val i)).tmps.getD t undef = tm0.getD t undef) ∧ (∀ j o' d, ops[j]? = some o' → o'.dst = some d → (L.setIfInBounds i true).getD j true = true → (a.put o.dst (val i)).tmps.getD d undef = val j) ∧ (∀ j o' d, ops[j]? = some o' → o'.dst = some d → (L.setIfInBounds i true).getD j true = false → (a.put o.dst (val i)).tmps.getD d undef = tm0.getD d undef) := by
      intro w' hS'
      cases hod : o.dst with
      | none =>
        refine ⟨hS', hdf, hsz, hlow, fun j o' d ho' hd' hl' => ?_, fun j o' d ho' hd' hl' => ?_⟩
        · have hne : i ≠ j := fun e => by subst e; rw [ho] at ho'; injection ho' with ho'; subst ho'; rw [hod] at hd'; cases hd'
          rw [getD_set_true, if_neg (fun h => hne h.1)] at hl'
          exact hval j o' d ho' hd' hl'
        · have hne : i ≠ j := fun e => by subst e; rw [ho] at ho'; injection ho' with ho'; subst ho'; rw [hod] at hd'; cases hd'
          rw [getD_set_true, if_neg (fun h => hne h.1)] at hl'
          exact hold j o' d ho' hd' hl'
      | some d0 =>
        have hput : ∀ t, (a.put (some d0) (val i)).tmps.getD t undef = if d0 = t ∧ t < a.tmps.size then val i else a.tmps.getD t undef := by
          intro t
          unfold Act.put
          simp only [Array.getD_eq_getD_getElem?, Array.getElem?_setIfInBounds]
          by_cases e : d0 = t
          · subst e
            by_cases h : d0 < a.tmps.size
            · simp [h]
            · simp [h]
          · simp [e]
        refine ⟨hS', hdf, by simp [Act.put, hsz], fun t ht => ?_, fun j o' d ho' hd' hl' => ?_, fun j o' d ho' hd' hl' => ?_⟩
        · rw [hput, if_neg (fun h => ?_)]
          · exact hlow t ht
          · have := List.all_eq_true.1 ht i (List.mem_range.2 (Array.getElem?_eq_some_iff.1 ho).1)
            rw [ho] at this
            simp [hod, h.1] at this
        · rw [hput]
          by_cases e : d0 = d
          · subst e
            have hij := ownDst_inj hown ho hod ho' hd'
            subst hij
            rw [if_pos ⟨rfl, by rw [hsz]; exact ownDst_lt hown ho hod⟩]
          · rw [if_neg (fun h => e h.1)]
            have hne : i ≠ j := fun e' => by subst e'; rw [ho] at ho'; injection ho' with ho'; subst ho'; rw [hod] at hd'; injection hd' with hd'; exact e hd'
            rw [getD_set_true, if_neg (fun h => hne h.1)] at hl'
            exact hval j o' d ho' hd' hl'
        · have hli : i ≠ j := fun e => by
            subst e
            have hC1 : i < L.size := by rw [hC.1]; exact (Array.getElem?_eq_some_iff.1 ho).1
            rw [getD_set_true, if_pos ⟨rfl, hC1⟩] at hl'; cases hl'
          rw [getD_set_true, if_neg (fun h => hli h.1)] at hl'
          have hdd : d0 ≠ d := fun e => by subst e; exact hli (ownDst_inj hown ho' hd' ho hod)
          rw [hput, if_neg (fun h => hdd h.1)]
          exact hold j o' d ho' hd' hl'
    rcases hst with (⟨w', hr, hS'⟩ | ⟨f, args, hr, hc⟩) | ⟨w', hnd, hr, hS'⟩
    · exact wpOpIn_valueX hF hcalm ho hg hr (next w' hS')
    · refine wpOpIn_enterZ hF hdp hCI hcalm ho hg hr (hc.mono ?_)
      rintro e w' ⟨rfl, hS'⟩
      exact ⟨_, rfl, next w' hS'⟩
    · refine wpOpIn_skipX hF hcalm ho hg hr ?_
      have h := next w' hS'
      rw [hnd] at h ⊢
      exact h
end
end Go.Proofs.YtjemjdlaoebffaaDoor

end
section
namespace Go.Proofs.YtjemjdlaoebffaaDoor
def sumF (g : Nat → Int) (l : List Nat) : Int := (l.map g).sum
theorem sumF_snoc (g : Nat → Int) (l : List Nat) (k : Nat) : sumF g (l ++ [k]) = sumF g l + g k := by unfold sumF; simp
theorem sumF_bd {g : Nat → Int} {m : Int} : ∀ l : List Nat, (∀ k ∈ l, 0 ≤ g k ∧ g k ≤ m) → 0 ≤ sumF g l ∧ sumF g l ≤ m * (l.length : Int)
  | [], _ => by simp [sumF]
  | k :: l, h => by
    have h1 := sumF_bd (g := g) (m := m) l (fun x hx => h x (List.mem_cons_of_mem _ hx))
    have h2 := h k List.mem_cons_self
    have e : sumF g (k :: l) = g k + sumF g l := by unfold sumF; simp
    rw [e, List.length_cons, Int.natCast_add, Int.mul_add]
    omega
def tmF (js : List J) (k : Nat) : Int := (js.getD k j0).t
def sqF (js : List J) (k : Nat) : Int := tmF js k * tmF js k
def spF (js : List J) (e : List Int) (k : Nat) : Int := tmF js k * e.getD k 0
theorem sumT_F (js : List J) (l : List Nat) : sumT js l = sumF (tmF js) l := rfl
theorem tmF_bd {js : List J} (hok : ∀ j ∈ js, okJ j = true) {k : Nat} (hk : k < js.length) : 1 ≤ tmF js k ∧ tmF js k ≤ 50 := by
  have h := okJ_out (hok _ (List.getElem_mem hk))
  unfold tmF
  rw [getD_at js j0 hk]
  omega
theorem mul_bdm {a b m n : Int} (h1 : 0 ≤ a) (h2 : a ≤ m) (h3 : 0 ≤ b) (h4 : b ≤ n) : 0 ≤ a * b ∧ a * b ≤ m * n :=
  ⟨Int.mul_nonneg h1 h3, Int.mul_le_mul h2 h4 h3 (by omega)⟩
theorem sqF_bd {js : List J} (hok : ∀ j ∈ js, okJ j = true) {k : Nat} (hk : k < js.length) : 0 ≤ sqF js k ∧ sqF js k ≤ 2500 := by
  have h := tmF_bd hok hk
  exact mul_bdm (m := 50) (n := 50) (by omega) (by omega) (by omega) (by omega)
def demL (js : List J) (l : List Nat) : Int := (sumF (tmF js) l * sumF (tmF js) l + sumF (sqF js) l) / 2
theorem dem_bd {js : List J} (hok : ∀ j ∈ js, okJ j = true) (l : List Nat) (hl : ∀ k ∈ l, k < js.length) (h8 : l.length ≤ 8) :
    (0 ≤ sumF (tmF js) l ∧ sumF (tmF js) l ≤ 400) ∧ (0 ≤ sumF (sqF js) l ∧ sumF (sqF js) l ≤ 20000) ∧ (0 ≤ sumF (tmF js) l * sumF (tmF js) l ∧ sumF (tmF js) l * sumF (tmF js) l ≤ 160000) := by
  have a := sumF_bd (g := tmF js) (m := 50) l (fun k hk => by have := tmF_bd hok (hl k hk); omega)
  have b := sumF_bd (g := sqF js) (m := 2500) l (fun k hk => sqF_bd hok (hl k hk))
  have c := mul_bdm (m := 400) (n := 400) a.1 (show sumF (tmF js) l ≤ 400 by omega) a.1 (show sumF (tmF js) l ≤ 400 by omega)
  omega
/-- An end vector. -/
def vecB (n : Nat) (e : List Int) : Bool := decide (e.length = n) && e.all fun x => decide (0 ≤ x ∧ x ≤ 2000)
theorem vec_out {n : Nat} {e : List Int} (h : vecB n e = true) : e.length = n ∧ ∀ x ∈ e, 0 ≤ x ∧ x ≤ 2000 := by
  unfold vecB at h
  rw [Bool.and_eq_true, decide_eq_true_eq, List.all_eq_true] at h
  exact ⟨h.1, fun x hx => of_decide_eq_true (h.2 x hx)⟩
theorem vec_at {n : Nat} {e : List Int} (h : vecB n e = true) (k : Nat) : 0 ≤ e.getD k 0 ∧ e.getD k 0 ≤ 2000 := by
  rcases Nat.lt_or_ge k e.length with hk | hk
  · rw [getD_at e 0 hk]; exact (vec_out h).2 _ (List.getElem_mem hk)
  · rw [List.getD_eq_getElem?_getD, List.getElem?_eq_none hk]; simp
def supL (js : List J) (e : List Int) (l : List Nat) : Int := sumF (spF js e) l
theorem spF_bd {js : List J} {e : List Int} (hok : ∀ j ∈ js, okJ j = true) (he : vecB js.length e = true) {k : Nat} (hk : k < js.length) : 0 ≤ spF js e k ∧ spF js e k ≤ 100000 := by
  have h := tmF_bd hok hk
  have h2 := vec_at he k
  exact mul_bdm (m := 50) (n := 2000) (by omega) (by omega) (by omega) (by omega)
def demR (js : List J) (s : List Int) : Int × Bool := if plainL js && risL js.length s then (demL js (memB (numS s)), true) else (0, false)
def supR (js : List J) (e s : List Int) : Int × Bool := if (plainL js && vecB js.length e) && risL js.length s then (supL js e (memB (numS s)), true) else (0, false)
/-- The jobs by their numbers in an end vector. -/
def rkE (e : List Int) (i : Nat) : Int := 2000 - e.getD i 0
def eoL (e : List Int) : List Nat := joL (rkE e) (List.range e.length)
theorem eoL_perm (e : List Int) : (eoL e).Perm (List.range e.length) := joL_perm _ _
theorem eoL_len (e : List Int) : (eoL e).length = e.length := by unfold eoL; rw [joL_len, List.length_range]
theorem eoL_in (e : List Int) {x : Nat} (h : x ∈ eoL e) : x < e.length := List.mem_range.1 ((eoL_perm e).mem_iff.1 h)
/-- The set of the first jobs of an order. -/
def setP (p : List Nat) (k : Nat) : Nat := (p.take k).foldl addB 0
theorem setP_zero (p : List Nat) : setP p 0 = 0 := rfl
theorem setP_succ {p : List Nat} {k : Nat} (hk : k < p.length) : setP p (k + 1) = addB (setP p k) p[k] := by
  unfold setP; rw [List.take_succ_eq_append_getElem hk, List.foldl_append]; rfl
def isShB (js : List J) (e : List Int) (s : Nat) : Bool := decide (supL js e (memB s) < demL js (memB s))
def shGo (js : List J) (e : List Int) (p : List Nat) : Nat → Nat → Option Nat
  | 0, _ => none
  | f + 1, k => if isShB js e (setP p (k + 1)) then some (setP p (k + 1)) else shGo js e p f (k + 1)
def shL (js : List J) (e : List Int) : Option Nat := shGo js e (eoL e) e.length 0
def shortR (js : List J) (e : List Int) : List Int × Bool := if plainL js && vecB js.length e then (match shL js e with | some s => (natI (memB s), true) | none => ([], false)) else ([], false)
def balR (js : List J) (e : List Int) : Bool × Bool := if plainL js && vecB js.length e then ((shL js e).isNone && decide (supL js e (List.range js.length) = demL js (List.range js.length)), true) else (false, false)
def ovR (js : List J) (e : List Int) : Bool × Bool := if plainL js && vecB js.length e then (decide (endsL js (eoL e) = e), true) else (false, false)
theorem addB_lt8 : ∀ s, s < 256 → ∀ j, j < 8 → addB s j < 256 := by decide +kernel
theorem memB_add : ∀ s, s < 256 → ∀ j, j < 8 → ∀ i, i < 8 → ((addB s j).testBit i = (s.testBit i || decide (i = j))) := by decide +kernel
theorem setP_lt {p : List Nat} (h : ∀ x ∈ p, x < 8) : ∀ k, k ≤ p.length → setP p k < 256
  | 0, _ => by rw [setP_zero]; omega
  | k + 1, hk => by
    rw [setP_succ (by omega)]
    exact addB_lt8 _ (setP_lt h k (by omega)) _ (h _ (List.getElem_mem _))
theorem setP_bit {p : List Nat} {n : Nat} (hn : n ≤ 8) (h : ∀ x ∈ p, x < n) {i : Nat} : ∀ k, k ≤ p.length → (setP p k).testBit i = true → i < n
  | 0, _, hb => by rw [setP_zero] at hb; simp at hb
  | k + 1, hk, hb => by
    have h8 : i < 8 := by
      rcases Nat.lt_or_ge i 8 with h1 | h1
      · exact h1
      · have h2 := setP_lt (p := p) (fun x hx => Nat.lt_of_lt_of_le (h x hx) hn) (k + 1) hk
        rw [Nat.testBit_lt_two_pow (Nat.lt_of_lt_of_le h2 (Nat.pow_le_pow_right (by omega) h1 : 2 ^ 8 ≤ 2 ^ i))] at hb
        cases hb
    have hx := h _ (List.getElem_mem (show k < p.length by omega))
    rw [setP_succ (by omega), memB_add _ (setP_lt (fun x hx => Nat.lt_of_lt_of_le (h x hx) hn) k (by omega)) _ (by omega) _ h8, Bool.or_eq_true] at hb
    rcases hb with hb | hb
    · exact setP_bit hn h k (by omega) hb
    · have := of_decide_eq_true hb; omega
end Go.Proofs.YtjemjdlaoebffaaDoor

end
