/- Texts joined: JoP Blo RegZ DmP Smo DmS DmT DmI DmJ DmV. -/
import Derived.Test.YtpoibjmkbljblaaDoorKb2
import Derived.Test.YtpoibjmkbljblaaDoorMem
import Derived.Test.YtpoibjmkbljblaaDoorKb1
import Derived.RangeFuncCalls
set_option linter.unusedSimpArgs false
set_option linter.unusedVariables false
section
namespace Go.Proofs.YtpoibjmkbljblaaDoor
/-- What is compared: ranks, then numbers. -/
def cmpJ (rk : Nat → Int) (i k : Nat) : Int := if rk k - rk i ≠ 0 then rk k - rk i else (i : Int) - k
def fB (rk : Nat → Int) (i k : Nat) : Bool := decide (cmpJ rk i k < 0)
theorem fB_low (rk : Nat → Int) {i k : Nat} (h : k < i) : fB rk i k = decide (rk k - rk i < 0) := by
  unfold fB cmpJ
  rw [Bool.eq_iff_iff, decide_eq_true_iff, decide_eq_true_iff]
  split <;> omega
theorem fB_up (rk : Nat → Int) {i k : Nat} (h : i < k) : fB rk i k = decide (rk k ≤ rk i) := by
  unfold fB cmpJ
  rw [Bool.eq_iff_iff, decide_eq_true_iff, decide_eq_true_iff]
  split <;> omega
theorem fJ_total {rk : Nat → Int} {i k : Nat} (h : i ≠ k) (h1 : fB rk i k = false) : fB rk k i = true := by
  have h2 := of_decide_eq_false h1
  refine decide_eq_true ?_
  unfold cmpJ at *
  split at h2 <;> split <;> omega
theorem fJ_trans {rk : Nat → Int} {i k m : Nat} (h1 : fB rk i k = true) (h2 : fB rk k m = true) : fB rk i m = true := by
  have h1 := of_decide_eq_true h1
  have h2 := of_decide_eq_true h2
  refine decide_eq_true ?_
  unfold cmpJ at *
  split at h1 <;> split at h2 <;> split <;> omega
theorem fJ_asym {rk : Nat → Int} {i k : Nat} (h : fB rk i k = true) : fB rk k i = false := by
  have h1 := of_decide_eq_true h
  refine decide_eq_false ?_
  unfold cmpJ at *
  split at h1 <;> split <;> omega
/-- A job put behind all that come before it. -/
def insJ (rk : Nat → Int) (x : Nat) : List Nat → List Nat
  | [] => [x]
  | y :: ys => if fB rk y x then y :: insJ rk x ys else x :: y :: ys
def joTo (rk : Nat → Int) (l : List Nat) : Nat → List Nat
  | 0 => []
  | k + 1 => insJ rk (l.getD k 0) (joTo rk l k)
def joL (rk : Nat → Int) (l : List Nat) : List Nat := joTo rk l l.length
theorem insJ_perm (rk : Nat → Int) (x : Nat) : ∀ ys : List Nat, (insJ rk x ys).Perm (x :: ys)
  | [] => List.Perm.refl _
  | y :: ys => by
    unfold insJ
    split
    · exact ((insJ_perm rk x ys).cons y).trans (List.Perm.swap x y ys)
    · exact List.Perm.refl _
theorem insJ_at (rk : Nat → Int) (x : Nat) : ∀ (ys : List Nat) (k : Nat), k ≤ ys.length → (∀ a ∈ ys.take k, fB rk a x = true) → (∀ h : k < ys.length, fB rk ys[k] x = false) → insJ rk x ys = ys.take k ++ [x] ++ ys.drop k
  | [], k, _, _, _ => by simp [insJ]
  | y :: ys, 0, _, _, h => by
    have := h (by simp)
    simp only [List.getElem_cons_zero] at this
    unfold insJ
    rw [this]
    rfl
  | y :: ys, k + 1, hk, h1, h2 => by
    have hy : fB rk y x = true := h1 y (by simp)
    unfold insJ
    rw [if_pos hy, insJ_at rk x ys k (by simpa using hk) (fun a ha => h1 a (by simp [ha])) (fun h => by have := h2 (by simpa using h); simpa using this)]
    simp
theorem joTo_len (rk : Nat → Int) (l : List Nat) : ∀ k, (joTo rk l k).length = k
  | 0 => rfl
  | k + 1 => by
    have := (insJ_perm rk (l.getD k 0) (joTo rk l k)).length_eq
    unfold joTo
    rw [this, List.length_cons, joTo_len rk l k]
theorem joTo_perm (rk : Nat → Int) (l : List Nat) : ∀ k, k ≤ l.length → (joTo rk l k).Perm (l.take k)
  | 0, _ => by simp [joTo]
  | k + 1, h => by
    have e : l.take (k + 1) = l.take k ++ [l.getD k 0] := by
      rw [List.take_succ_eq_append_getElem (by omega)]
      congr 2
      simp [List.getD, show k < l.length by omega]
    unfold joTo
    rw [e]
    exact ((insJ_perm rk _ _).trans ((joTo_perm rk l k (by omega)).cons _)).trans (List.perm_append_singleton _ _).symm
theorem joTo_mem {rk : Nat → Int} {l : List Nat} {k x : Nat} (hk : k ≤ l.length) (h : x ∈ joTo rk l k) : x ∈ l := List.mem_of_mem_take ((joTo_perm rk l k hk).mem_iff.1 h)
theorem joL_perm (rk : Nat → Int) (l : List Nat) : (joL rk l).Perm l := by
  have := joTo_perm rk l l.length (Nat.le_refl _)
  rwa [List.take_length] at this
theorem joL_len (rk : Nat → Int) (l : List Nat) : (joL rk l).length = l.length := joTo_len _ _ _
def FirL (rk : Nat → Int) (l : List Nat) : Prop := l.Pairwise fun a b => fB rk a b = true
theorem insJ_sorted {rk : Nat → Int} {x : Nat} : ∀ {ys : List Nat}, FirL rk ys → x ∉ ys → FirL rk (insJ rk x ys)
  | [], _, _ => by unfold insJ; exact List.pairwise_singleton _ _
  | y :: ys, h, hx => by
    obtain ⟨h1, h2⟩ := List.pairwise_cons.1 h
    unfold insJ
    split
    · rename_i hy
      refine List.pairwise_cons.2 ⟨fun z hz => ?_, insJ_sorted h2 (fun e => hx (List.mem_cons_of_mem _ e))⟩
      rcases List.mem_cons.1 ((insJ_perm rk x ys).mem_iff.1 hz) with e | e
      · rw [e]; exact hy
      · exact h1 z e
    · rename_i hy
      have hxy : fB rk x y = true := fJ_total (fun e => hx (by rw [← e]; exact List.mem_cons_self)) (by simpa using hy)
      refine List.pairwise_cons.2 ⟨fun z hz => ?_, h⟩
      rcases List.mem_cons.1 hz with e | e
      · rw [e]; exact hxy
      · exact fJ_trans hxy (h1 z e)
theorem joTo_fresh {rk : Nat → Int} {l : List Nat} (hd : l.Nodup) {k : Nat} (hk : k < l.length) : l[k] ∉ joTo rk l k := fun h => by
  have h1 := (joTo_perm rk l k (by omega)).mem_iff.1 h
  obtain ⟨i, hi, he⟩ := List.mem_iff_getElem.1 h1
  rw [List.getElem_take] at he
  rw [List.length_take] at hi
  have := (List.getElem_inj hd).1 he
  omega
theorem joTo_sorted {rk : Nat → Int} {l : List Nat} (hd : l.Nodup) : ∀ k, k ≤ l.length → FirL rk (joTo rk l k)
  | 0, _ => List.Pairwise.nil
  | k + 1, h => by
    have e : l.getD k 0 = l[k] := by simp [List.getD, show k < l.length by omega]
    unfold joTo
    rw [e]
    exact insJ_sorted (joTo_sorted hd k (by omega)) (joTo_fresh hd (by omega))
theorem joTo_succ {rk : Nat → Int} {l : List Nat} {k : Nat} (hk : k < l.length) : joTo rk l (k + 1) = insJ rk l[k] (joTo rk l k) := by
  have e : l.getD k 0 = l[k] := by simp [List.getD, hk]
  rw [← e]; rfl
theorem joTo_one (rk : Nat → Int) (q : List Nat) : joTo rk q 1 ++ q.drop 1 = q ∨ q = [] := by
  cases q with
  | nil => exact .inr rfl
  | cons x q => exact .inl rfl
/-- Put in from the back. -/
theorem insJ_back {rk : Nat → Int} {x : Nat} {out : List Nat} (hs : FirL rk out) (hx : x ∉ out) {j : Nat} (hj : j ≤ out.length) (h1 : ∀ h : 0 < j, fB rk x (out[j - 1]'(by omega)) = false) (h2 : ∀ i (h : i < out.length), j ≤ i → fB rk x out[i] = true) : insJ rk x out = out.take j ++ [x] ++ out.drop j := by
  refine insJ_at rk x out j hj (fun a ha => ?_) (fun h => fJ_asym (h2 j h (Nat.le_refl _)))
  obtain ⟨i, hi, rfl⟩ := List.mem_iff_getElem.1 ha
  rw [List.length_take] at hi
  rw [List.getElem_take]
  have hj0 : 0 < j := by omega
  have hlast : fB rk (out[j - 1]'(by omega)) x = true := fJ_total (fun e => hx (by rw [e]; exact List.getElem_mem _)) (h1 hj0)
  by_cases e : i = j - 1
  · subst e; exact hlast
  · exact fJ_trans (List.pairwise_iff_getElem.1 hs i (j - 1) (by omega) (by omega) (by omega)) hlast
end Go.Proofs.YtpoibjmkbljblaaDoor

end
section
namespace Go.Proofs.YtpoibjmkbljblaaDoor
open Go.RowKit
theorem BlockIs.away {w : World} {g : Nat} {t : TypeId} {cs : Array Value} (h : BlockIs w g t cs) {g' : Nat} (hne : g ≠ g') (i : Nat) (u : Value) : BlockIs (w.setCell ⟨g', i, none⟩ u) g t cs :=
  (Below.heap_setCell w ⟨g', i, none⟩ u g hne).trans h
/-- A call that draws nothing, met in a quiet region of a world as it stands. -/
theorem quiet_eq {P : Program} {f : FuncId} {args : Array Value} {w : World} {n : Nat} {v : Value}
    (h : Calls P f args (w.drewN n) fun e w' => e = .returned v ∧ w.drewN n = w') : Calls P f args (w.drewN n) fun e w'' => e = .returned v ∧ ∃ m, w'' = w.drewN m :=
  h.mono fun _ _ ⟨he, hm⟩ => ⟨he, n, hm.symm⟩
end Go.Proofs.YtpoibjmkbljblaaDoor

end
section
namespace Go.Proofs.YtpoibjmkbljblaaDoor
section
variable {F : Fence} {n : Nat} {P : Program} {ops : Array Oper} {Q : Exit → Act → World → Prop}
theorem wpOpIn_enterZ (hF : ∀ f, F.fn f) (hdp : F.depth = none) (hCI : ∀ f args w R, Calls P f args w R → CallsIn F (n - 1) P f args w R) (hc : calmB ops = true) {i : Nat} {o : Oper} {a : Act} {w w' : World} {f : FuncId} {args : Array Value} {K : Act → World → Prop} (ho : ops[i]? = some o) (hg : Region.wanted o (yielded ops a.tmps) = true) (hr : (execOp a.eval o).run P w = .ok (.enter f args) w') (hK : Calls P f args w' fun e w'' => ∃ v, e = .returned v ∧ K (a.put o.dst v) w'') : wpOpIn F n P ops Q i K a w := by
  refine wpOpIn_step ho fun K' hKK => ?_
  rw [if_pos hg]
  refine ⟨fun f _ => hF f, ?_⟩
  rw [semAt_calm hc ho, hr]
  refine ⟨fun h => ?_, (hCI _ _ _ _ hK).mono ?_⟩
  · rw [hdp] at h; cases h
  · rintro e w'' ⟨v, rfl, h⟩
    exact hKK _ _ h
/-- As wp_region_detY, within a round. -/
theorem wpIn_region_detZ (hF : ∀ f, F.fn f) (hdp : F.depth = none) (hCI : ∀ f args w R, Calls P f args w R → CallsIn F (n - 1) P f args w R) (hcalm : calmB ops = true) {id : Nat} {tm0 : Array Value} {df : List Deferred} {w : World} (hm : P.follows .mixedOrders = true) (S : Array Bool → World → Prop) (val : Nat → Value) (hback : backBB ops = true) (hown : ownDst ops tm0.size = true)
    (h0 : S (Array.replicate ops.size false) w.drew)
    (hdone : ∀ (L : Array Bool) (tm : Array Value) (w : World), (∀ i, i < ops.size → L.getD i true = true) → S L w → tm.size = tm0.size → (∀ t, ((List.range ops.size).all fun j => !((ops[j]?).bind (·.dst) == some t)) = true → tm.getD t undef = tm0.getD t undef) → (∀ j o d, ops[j]? = some o → o.dst = some d → tm.getD d undef = val j) → Q .normal ⟨tm, df⟩ w)
    (hstep : ∀ (L : Array Bool) (a : Act) (w : World) (i : Nat) (o : Oper), L.size = ops.size → ops[i]? = some o → L.getD i true = false → (∀ j, edgeB ops i j = true → L.getD j true = true) → (∀ j, edgeB ops j i = true → L.getD j true = false) → S L w → (∀ t, ((List.range ops.size).all fun j => !((ops[j]?).bind (·.dst) == some t)) = true → a.tmps.getD t undef = tm0.getD t undef) →
      (∀ j oj d, edgeB ops i j = true → ops[j]? = some oj → oj.dst = some d → a.tmps.getD d undef = val j) →
      (∀ j oj d, edgeB ops j i = true → ops[j]? = some oj → oj.dst = some d → a.tmps.getD d undef = tm0.getD d undef) → Region.wanted o (yielded ops a.tmps) = true ∧ StepY P (S (L.setIfInBounds i true)) o a w (val i)) :
    (Code.region id ops true).wpIn F n P Q ⟨tm0, df⟩ w := by
  refine wpIn_region_invB hm (fun L a w => S L w ∧ a.defers = df ∧ a.tmps.size = tm0.size ∧ (∀ t, ((List.range ops.size).all fun j => !((ops[j]?).bind (·.dst) == some t)) = true → a.tmps.getD t undef = tm0.getD t undef) ∧ (∀ j o d, ops[j]? = some o → o.dst = some d → L.getD j true = true → a.tmps.getD d undef = val j) ∧ (∀ j o d, ops[j]? = some o → o.dst = some d → L.getD j true = false → a.tmps.getD d undef = tm0.getD d undef)) (back_ofB hback) ?_ ?_ ?_
  · refine ⟨h0, rfl, rfl, fun _ _ => rfl, fun j o d ho _ hl => ?_, fun _ _ _ _ _ _ => rfl⟩
    have hj : j < ops.size := (Array.getElem?_eq_some_iff.1 ho).1
    simp [Array.getD_eq_getD_getElem?, hj] at hl
  · intro L a w ⟨hS, hdf, hsz, hlow, hval, _⟩ hall
    obtain ⟨tm, df'⟩ := a
    simp only at hdf hsz
    subst hdf
    exact hdone L tm w hall hS hsz hlow (fun j o d ho hd => hval j o d ho hd (hall j (Array.getElem?_eq_some_iff.1 ho).1))
  · intro L a w i o hC ⟨hS, hdf, hsz, hlow, hval, hold⟩ ho hl hd
    obtain ⟨hg, hst⟩ := hstep L a w i o hC.1 ho hl (fun j he => dep_of ho hd he) (fun j he => hC.no he hl) hS hlow (fun j oj d he hoj hdj => hval j oj d hoj hdj (dep_of ho hd he)) (fun j oj d he hoj hdj => hold j oj d hoj hdj (hC.no he hl))
    have next : ∀ w', S (L.setIfInBounds i true) w' → S (L.setIfInBounds i true) w' ∧ (a.put o.dst (val i)).defers = df ∧ (a.put o.dst (val i)).tmps.size = tm0.size ∧ (∀ t, ((List.range ops.size).all fun j => !((ops[j]?).bind (·.dst) == some t)) = true → (a.put o.dst (val i)).tmps.getD t undef = tm0.getD t undef) ∧ (∀ j o' d, ops[j]? = some o' → o'.dst = some d → (L.setIfInBounds i true).getD j true = true → (a.put o.dst (val i)).tmps.getD d undef = val j) ∧ (∀ j o' d, ops[j]? = some o' → o'.dst = some d → (L.setIfInBounds i true).getD j true = false → (a.put o.dst (val i)).tmps.getD d undef = tm0.getD d undef) := by
      intro w' hS'
      cases hod : o.dst with
      | none =>
        refine ⟨hS', hdf, hsz, hlow, fun j o' d ho' hd' hl' => ?_, fun j o' d ho' hd' hl' => ?_⟩
        · have hne : i ≠ j := fun e => by subst e; rw [ho] at ho'; injection ho' with ho'; subst ho'; rw [hod] at hd'; cases hd'
          rw [getD_set_true, if_neg (fun h => hne h.1)] at hl'
          exact hval j o' d ho' hd' hl'
        · have hne : i ≠ j := fun e => by subst e; rw [ho] at ho'; injection ho' with ho'; subst ho'; rw [hod] at hd'; cases hd'
          rw [getD_set_true, if_neg (fun h => hne h.1)] at hl'
          exact hold j o' d ho' hd' hl'
      | some d0 =>
        have hput : ∀ t, (a.put (some d0) (val i)).tmps.getD t undef = if d0 = t ∧ t < a.tmps.size then val i else a.tmps.getD t undef := by
          intro t
          unfold Act.put
          simp only [Array.getD_eq_getD_getElem?, Array.getElem?_setIfInBounds]
          by_cases e : d0 = t
          · subst e
            by_cases h : d0 < a.tmps.size
            · simp [h]
            · simp [h]
          · simp [e]
        refine ⟨hS', hdf, by simp [Act.put, hsz], fun t ht => ?_, fun j o' d ho' hd' hl' => ?_, fun j o' d ho' hd' hl' => ?_⟩
        · rw [hput, if_neg (fun h => ?_)]
          · exact hlow t ht
          · have := List.all_eq_true.1 ht i (List.mem_range.2 (Array.getElem?_eq_some_iff.1 ho).1)
            rw [ho] at this
            simp [hod, h.1] at this
        · rw [hput]
          by_cases e : d0 = d
          · subst e
            have hij := ownDst_inj hown ho hod ho' hd'
            subst hij
            rw [if_pos ⟨rfl, by rw [hsz]; exact ownDst_lt hown ho hod⟩]
          · rw [if_neg (fun h => e h.1)]
            have hne : i ≠ j := fun e' => by subst e'; rw [ho] at ho'; injection ho' with ho'; subst ho'; rw [hod] at hd'; injection hd' with hd'; exact e hd'
            rw [getD_set_true, if_neg (fun h => hne h.1)] at hl'
            exact hval j o' d ho' hd' hl'
        · have hli : i ≠ j := fun e => by
            subst e
            have hC1 : i < L.size := by rw [hC.1]; exact (Array.getElem?_eq_some_iff.1 ho).1
            rw [getD_set_true, if_pos ⟨rfl, hC1⟩] at hl'; cases hl'
          rw [getD_set_true, if_neg (fun h => hli h.1)] at hl'
          have hdd : d0 ≠ d := fun e => by subst e; exact hli (ownDst_inj hown ho' hd' ho hod)
          rw [hput, if_neg (fun h => hdd h.1)]
          exact hold j o' d ho' hd' hl'
    rcases hst with (⟨w', hr, hS'⟩ | ⟨f, args, hr, hc⟩) | ⟨w', hnd, hr, hS'⟩
    · exact wpOpIn_valueX hF hcalm ho hg hr (next w' hS')
    · refine wpOpIn_enterZ hF hdp hCI hcalm ho hg hr (hc.mono ?_)
      rintro e w' ⟨rfl, hS'⟩
      exact ⟨_, rfl, next w' hS'⟩
    · refine wpOpIn_skipX hF hcalm ho hg hr ?_
      have h := next w' hS'
      rw [hnd] at h ⊢
      exact h
end
end Go.Proofs.YtpoibjmkbljblaaDoor

end
section
namespace Go.Proofs.YtpoibjmkbljblaaDoor
def sumF (g : Nat → Int) (l : List Nat) : Int := (l.map g).sum
theorem sumF_snoc (g : Nat → Int) (l : List Nat) (k : Nat) : sumF g (l ++ [k]) = sumF g l + g k := by unfold sumF; simp
theorem sumF_bd {g : Nat → Int} {m : Int} : ∀ l : List Nat, (∀ k ∈ l, 0 ≤ g k ∧ g k ≤ m) → 0 ≤ sumF g l ∧ sumF g l ≤ m * (l.length : Int)
  | [], _ => by simp [sumF]
  | k :: l, h => by
    have h1 := sumF_bd (g := g) (m := m) l (fun x hx => h x (List.mem_cons_of_mem _ hx))
    have h2 := h k List.mem_cons_self
    have e : sumF g (k :: l) = g k + sumF g l := by unfold sumF; simp
    rw [e, List.length_cons, Int.natCast_add, Int.mul_add]
    omega
def tmF (js : List J) (k : Nat) : Int := (js.getD k j0).t
def sqF (js : List J) (k : Nat) : Int := tmF js k * tmF js k
def spF (js : List J) (e : List Int) (k : Nat) : Int := tmF js k * e.getD k 0
theorem sumT_F (js : List J) (l : List Nat) : sumT js l = sumF (tmF js) l := rfl
theorem tmF_bd {js : List J} (hok : ∀ j ∈ js, okJ j = true) {k : Nat} (hk : k < js.length) : 1 ≤ tmF js k ∧ tmF js k ≤ 50 := by
  have h := okJ_out (hok _ (List.getElem_mem hk))
  unfold tmF
  rw [getD_at js j0 hk]
  omega
theorem mul_bdm {a b m n : Int} (h1 : 0 ≤ a) (h2 : a ≤ m) (h3 : 0 ≤ b) (h4 : b ≤ n) : 0 ≤ a * b ∧ a * b ≤ m * n :=
  ⟨Int.mul_nonneg h1 h3, Int.mul_le_mul h2 h4 h3 (by omega)⟩
theorem sqF_bd {js : List J} (hok : ∀ j ∈ js, okJ j = true) {k : Nat} (hk : k < js.length) : 0 ≤ sqF js k ∧ sqF js k ≤ 2500 := by
  have h := tmF_bd hok hk
  exact mul_bdm (m := 50) (n := 50) (by omega) (by omega) (by omega) (by omega)
def demL (js : List J) (l : List Nat) : Int := (sumF (tmF js) l * sumF (tmF js) l + sumF (sqF js) l) / 2
theorem dem_bd {js : List J} (hok : ∀ j ∈ js, okJ j = true) (l : List Nat) (hl : ∀ k ∈ l, k < js.length) (h8 : l.length ≤ 8) :
    (0 ≤ sumF (tmF js) l ∧ sumF (tmF js) l ≤ 400) ∧ (0 ≤ sumF (sqF js) l ∧ sumF (sqF js) l ≤ 20000) ∧ (0 ≤ sumF (tmF js) l * sumF (tmF js) l ∧ sumF (tmF js) l * sumF (tmF js) l ≤ 160000) := by
  have a := sumF_bd (g := tmF js) (m := 50) l (fun k hk => by have := tmF_bd hok (hl k hk); omega)
  have b := sumF_bd (g := sqF js) (m := 2500) l (fun k hk => sqF_bd hok (hl k hk))
  have c := mul_bdm (m := 400) (n := 400) a.1 (show sumF (tmF js) l ≤ 400 by omega) a.1 (show sumF (tmF js) l ≤ 400 by omega)
  omega
/-- An end vector. -/
def vecB (n : Nat) (e : List Int) : Bool := decide (e.length = n) && e.all fun x => decide (0 ≤ x ∧ x ≤ 2000)
theorem vec_out {n : Nat} {e : List Int} (h : vecB n e = true) : e.length = n ∧ ∀ x ∈ e, 0 ≤ x ∧ x ≤ 2000 := by
  unfold vecB at h
  rw [Bool.and_eq_true, decide_eq_true_eq, List.all_eq_true] at h
  exact ⟨h.1, fun x hx => of_decide_eq_true (h.2 x hx)⟩
theorem vec_at {n : Nat} {e : List Int} (h : vecB n e = true) (k : Nat) : 0 ≤ e.getD k 0 ∧ e.getD k 0 ≤ 2000 := by
  rcases Nat.lt_or_ge k e.length with hk | hk
  · rw [getD_at e 0 hk]; exact (vec_out h).2 _ (List.getElem_mem hk)
  · rw [List.getD_eq_getElem?_getD, List.getElem?_eq_none hk]; simp
def supL (js : List J) (e : List Int) (l : List Nat) : Int := sumF (spF js e) l
theorem spF_bd {js : List J} {e : List Int} (hok : ∀ j ∈ js, okJ j = true) (he : vecB js.length e = true) {k : Nat} (hk : k < js.length) : 0 ≤ spF js e k ∧ spF js e k ≤ 100000 := by
  have h := tmF_bd hok hk
  have h2 := vec_at he k
  exact mul_bdm (m := 50) (n := 2000) (by omega) (by omega) (by omega) (by omega)
def demR (js : List J) (s : List Int) : Int × Bool := if plainL js && risL js.length s then (demL js (memB (numS s)), true) else (0, false)
def supR (js : List J) (e s : List Int) : Int × Bool := if (plainL js && vecB js.length e) && risL js.length s then (supL js e (memB (numS s)), true) else (0, false)
/-- The jobs by their numbers in an end vector. -/
def rkE (e : List Int) (i : Nat) : Int := 2000 - e.getD i 0
def eoL (e : List Int) : List Nat := joL (rkE e) (List.range e.length)
theorem eoL_perm (e : List Int) : (eoL e).Perm (List.range e.length) := joL_perm _ _
theorem eoL_len (e : List Int) : (eoL e).length = e.length := by unfold eoL; rw [joL_len, List.length_range]
theorem eoL_in (e : List Int) {x : Nat} (h : x ∈ eoL e) : x < e.length := List.mem_range.1 ((eoL_perm e).mem_iff.1 h)
/-- The set of the first jobs of an order. -/
def setP (p : List Nat) (k : Nat) : Nat := (p.take k).foldl addB 0
theorem setP_zero (p : List Nat) : setP p 0 = 0 := rfl
theorem setP_succ {p : List Nat} {k : Nat} (hk : k < p.length) : setP p (k + 1) = addB (setP p k) p[k] := by
  unfold setP; rw [List.take_succ_eq_append_getElem hk, List.foldl_append]; rfl
def isShB (js : List J) (e : List Int) (s : Nat) : Bool := decide (supL js e (memB s) < demL js (memB s))
def shGo (js : List J) (e : List Int) (p : List Nat) : Nat → Nat → Option Nat
  | 0, _ => none
  | f + 1, k => if isShB js e (setP p (k + 1)) then some (setP p (k + 1)) else shGo js e p f (k + 1)
def shL (js : List J) (e : List Int) : Option Nat := shGo js e (eoL e) e.length 0
def shortR (js : List J) (e : List Int) : List Int × Bool := if plainL js && vecB js.length e then (match shL js e with | some s => (natI (memB s), true) | none => ([], false)) else ([], false)
def balR (js : List J) (e : List Int) : Bool × Bool := if plainL js && vecB js.length e then ((shL js e).isNone && decide (supL js e (List.range js.length) = demL js (List.range js.length)), true) else (false, false)
def ovR (js : List J) (e : List Int) : Bool × Bool := if plainL js && vecB js.length e then (decide (endsL js (eoL e) = e), true) else (false, false)
theorem addB_lt8 : ∀ s, s < 256 → ∀ j, j < 8 → addB s j < 256 := by decide +kernel
theorem memB_add : ∀ s, s < 256 → ∀ j, j < 8 → ∀ i, i < 8 → ((addB s j).testBit i = (s.testBit i || decide (i = j))) := by decide +kernel
theorem setP_lt {p : List Nat} (h : ∀ x ∈ p, x < 8) : ∀ k, k ≤ p.length → setP p k < 256
  | 0, _ => by rw [setP_zero]; omega
  | k + 1, hk => by
    rw [setP_succ (by omega)]
    exact addB_lt8 _ (setP_lt h k (by omega)) _ (h _ (List.getElem_mem _))
theorem setP_bit {p : List Nat} {n : Nat} (hn : n ≤ 8) (h : ∀ x ∈ p, x < n) {i : Nat} : ∀ k, k ≤ p.length → (setP p k).testBit i = true → i < n
  | 0, _, hb => by rw [setP_zero] at hb; simp at hb
  | k + 1, hk, hb => by
    have h8 : i < 8 := by
      rcases Nat.lt_or_ge i 8 with h1 | h1
      · exact h1
      · have h2 := setP_lt (p := p) (fun x hx => Nat.lt_of_lt_of_le (h x hx) hn) (k + 1) hk
        rw [Nat.testBit_lt_two_pow (Nat.lt_of_lt_of_le h2 (Nat.pow_le_pow_right (by omega) h1 : 2 ^ 8 ≤ 2 ^ i))] at hb
        cases hb
    have hx := h _ (List.getElem_mem (show k < p.length by omega))
    rw [setP_succ (by omega), memB_add _ (setP_lt (fun x hx => Nat.lt_of_lt_of_le (h x hx) hn) k (by omega)) _ (by omega) _ h8, Bool.or_eq_true] at hb
    rcases hb with hb | hb
    · exact setP_bit hn h k (by omega) hb
    · have := of_decide_eq_true hb; omega
end Go.Proofs.YtpoibjmkbljblaaDoor

end
section
namespace Go.Proofs.YtpoibjmkbljblaaDoor
open Go.RowKit Go.Shelf
attribute [local go_sem] Oper.semAt_some
theorem keepsO_belowS {W W' : World} (h : Below W.heap.size W W') : KeepsOthers W W' :=
  ⟨h.size, fun k _ hk _ => (h.block k (Array.getElem?_eq_some_iff.1 hk).1).trans hk⟩
section
variable (FN gb Bs s : Nat) (g : Nat → Int) (w : World) (hs : s < 256) (hBx : Boxed w Bs 63 (.int .u64 (s : Int))) (hT : TzTab w)
  (hcf : ∀ (args : Array Value) (w1 : World), (callFunc FN args).run Tryd.prog w1 = .ok (.enter FN args) w1)
  (hC : ∀ x, s.testBit x = true → ∀ W, Below w.heap.size w W → Calls Tryd.prog FN #[.int .i64 (x : Int), .pointer (some ⟨gb, 0, none⟩)] W fun e W' => e = .returned (.int .i64 (g x)) ∧ Below W.heap.size W W')
  (hg : ∀ x, s.testBit x = true → 0 ≤ g x ∧ g x ≤ 1000000000)
include hs hBx hT hcf hC hg
set_option maxRecDepth 100000 in
set_option maxHeartbeats 4000000 in
theorem sumOf_any : Calls Tryd.prog 98 #[.func (.func 139) #[] #[.pointer (some ⟨Bs, 0, none⟩)], .func (.func FN) #[] #[.pointer (some ⟨gb, 0, none⟩)]] w fun e w' => e = .returned (.int .i64 (sumF g (memB s))) ∧ Below w.heap.size w w' := by
  have hlB := hBx.lt
  have b0 : Boxed ((w.alloc (.cells #[.func (.func FN) #[] #[.pointer (some ⟨gb, 0, none⟩)]] 113)).alloc (.cells #[.int .i64 0] 3)) w.heap.size 113 (.func (.func FN) #[] #[.pointer (some ⟨gb, 0, none⟩)]) := (Boxed.new w 113 (.func (.func FN) #[] #[.pointer (some ⟨gb, 0, none⟩)])).alloc _
  have b1 : Boxed ((w.alloc (.cells #[.func (.func FN) #[] #[.pointer (some ⟨gb, 0, none⟩)]] 113)).alloc (.cells #[.int .i64 0] 3)) (w.heap.size + 1) 3 (.int .i64 0) := by
    have h := Boxed.new (w.alloc (.cells #[.func (.func FN) #[] #[.pointer (some ⟨gb, 0, none⟩)]] 113)) 3 (.int .i64 0)
    rwa [World.size_alloc] at h
  have hb3 : Below w.heap.size w ((w.alloc (.cells #[.func (.func FN) #[] #[.pointer (some ⟨gb, 0, none⟩)]] 113)).alloc (.cells #[.int .i64 0] 3)) := ((Below.refl _ w).alloc (Nat.le_refl _) _).alloc (by simp) _
  have hz3 : ((w.alloc (.cells #[.func (.func FN) #[] #[.pointer (some ⟨gb, 0, none⟩)]] 113)).alloc (.cells #[.int .i64 0] 3)).heap.size = w.heap.size + 1 + 1 := by simp
  have H3 := Lib.hid (And.intro b0 (And.intro b1 (And.intro ((show BlockIs w Bs 63 #[.int .u64 (s : Int)] from hBx).below hb3) hb3)))
  have HT := Lib.hid hT
  have HC := Lib.hid hC
  have HG := Lib.hid hg
  have HCF := Lib.hid hcf
  clear b0 b1 hb3 hT hC hg hBx hcf
  refine (callsIn_wide (n := 6)).1 ?_
  refine callsIn_of_wp_marks Tryd.func98 rfl trivial ?_ rfl
  simp only [Tryd.ntmps98, List.size_toArray, List.length_cons, List.length_nil, Nat.reduceAdd, Nat.reduceSub, Array.replicate_succ, Array.replicate_zero, List.push_toArray, List.append_toArray, List.nil_append, List.cons_append]
  gi_wp2
  generalize (w.alloc (.cells #[.func (.func FN) #[] #[.pointer (some ⟨gb, 0, none⟩)]] 113)).alloc (.cells #[.int .i64 0] 3) = w3 at *
  obtain ⟨b0, b1, b2, hb3⟩ := H3.out
  refine wpIn_rangeFunc_ownG (F := Fence.wide) rfl (by omega) (gf := 139) (lb := #[.pointer (some ⟨Bs, 0, none⟩)]) rfl trivial (enters_of Tryd.func139 (by kernel_rfl) rfl)
    (members_stops 5 (by omega) Bs s hs w3 (by omega) b2 (HT.out.below hb3))
    (fun h k t => k (h t)) (fun W l' o o' hl ho hc _ => KeepsTz.put ho hc) (Below.refl _ _) (fun _ => rfl)
    (fun (pre : List (Mb s)) W => (Boxed W w.heap.size 113 (.func (.func FN) #[] #[.pointer (some ⟨gb, 0, none⟩)]) ∧ Boxed W (w.heap.size + 1) 3 (.int .i64 (sumF g (vals pre)))) ∧ Below w.heap.size w W)
    (fun _ _ _ => False)
    (OwnFrom.and (OwnFrom.and (Own.from (boxed_own _ _ _) _) (Own.from (boxed_own _ _ _) _)) (ownFrom_below (Nat.le_refl _) (by omega)))
    (fun _ _ _ _ _ h _ _ => h)
    ⟨⟨b0, b1⟩, hb3⟩
    (fun x => { tmps := #[.func (.func 139) #[] #[.pointer (some ⟨Bs, 0, none⟩)], .func (.func FN) #[] #[.pointer (some ⟨gb, 0, none⟩)], undef, .pointer (some ⟨w.heap.size, 0, none⟩), .int .i64 0, .pointer (some ⟨w.heap.size + 1, 0, none⟩), .int .i64 (x.1 : Int), .func (.func 139) #[] #[.pointer (some ⟨Bs, 0, none⟩)], .int .i64 (x.1 : Int), undef, undef, undef, undef, undef, undef], defers := [] }) ?assign ?body ?done ?stop
  case assign =>
    intro l' x W K hK
    unfold encM
    gi_wp2
    exact hK
  case body =>
    rintro l' pre ⟨x, hx⟩ W ⟨⟨y0, y1⟩, hb⟩ hl
    have hmo : Tryd.prog.follows .mixedOrders = true := by kernel_rfl
    have HSN : Hid (sumF g (vals (pre ++ [(⟨x, hx⟩ : Mb s)])) = sumF g (vals pre) + g x) := by show _ = _; rw [vals_snoc, sumF_snoc]
    have hgx := HG.out x hx
    have hpl : (vals pre).length ≤ 8 := by have h1 := memB_len s; rw [vals_len]; omega
    have hbd := sumF_bd (g := g) (m := 1000000000) (vals pre) (fun k hk => by obtain ⟨z, _, rfl⟩ := List.mem_map.1 hk; exact HG.out _ z.2)
    have HCX := Lib.hid (HC.out x hx)
    have hcf := HCF.out
    generalize sumF g (vals pre) = sm at *
    generalize g x = tx at *
    dsimp only
    gi_wp2
    have hKO : KeepsOthers W W.drew := KeepsOthers.drew W
    have hmx := IntWalk.i64_in (sm + tx) (by omega)
    have kb : ∀ {X Y : World}, (KeepsOthers W X ∧ Below w.heap.size w X ∧ BlockIs X w.heap.size 113 #[.func (.func FN) #[] #[.pointer (some ⟨gb, 0, none⟩)]]) → Below X.heap.size X Y → (KeepsOthers W Y ∧ Below w.heap.size w Y ∧ BlockIs Y w.heap.size 113 #[.func (.func FN) #[] #[.pointer (some ⟨gb, 0, none⟩)]]) := fun h hb => ⟨h.1.trans (keepsO_belowS hb), h.2.1.trans (hb.mono h.2.1.size), h.2.2.below hb⟩
    have ob : ∀ {X Y : World}, (BlockIs X (w.heap.size + 1) 3 #[.int .i64 sm]) → Below X.heap.size X Y → (BlockIs Y (w.heap.size + 1) 3 #[.int .i64 sm]) := fun h hb => h.below hb
    have nb : ∀ {X Y : World}, (BlockIs X (w.heap.size + 1) 3 #[.int .i64 (sm + tx)]) → Below X.heap.size X Y → (BlockIs Y (w.heap.size + 1) 3 #[.int .i64 (sm + tx)]) := fun h hb => h.below hb
    refine wpIn_region_detZ (fun _ => trivial) rfl (fun _ _ _ _ h => (callsIn_wide.2 h).inRound l') (by kernel_rfl) hmo (fun L w' => (KeepsOthers W w' ∧ Below w.heap.size w w' ∧ BlockIs w' w.heap.size 113 #[.func (.func FN) #[] #[.pointer (some ⟨gb, 0, none⟩)]]) ∧ (L.getD 5 true = false → BlockIs w' (w.heap.size + 1) 3 #[.int .i64 sm]) ∧ (L.getD 5 true = true → BlockIs w' (w.heap.size + 1) 3 #[.int .i64 (sm + tx)])) (fun kk => (#[.int .i64 sm, .func (.func FN) #[] #[.pointer (some ⟨gb, 0, none⟩)], .int .i64 (x : Int), .int .i64 tx, .int .i64 (sm + tx), undef] : Array Value).getD kk undef) (by kernel_rfl) (by kernel_rfl) ⟨⟨hKO, hb.drew, y0⟩, fun _ => y1, fun h => by cases h⟩ ?_ ?_
    · intro L tm w' hall hS hsz hlow hval
      have ht : tm = #[.func (.func 139) #[] #[.pointer (some ⟨Bs, 0, none⟩)], .func (.func FN) #[] #[.pointer (some ⟨gb, 0, none⟩)], undef, .pointer (some ⟨w.heap.size, 0, none⟩), .int .i64 0, .pointer (some ⟨w.heap.size + 1, 0, none⟩), .int .i64 (x : Int), .func (.func 139) #[] #[.pointer (some ⟨Bs, 0, none⟩)], .int .i64 (x : Int), .int .i64 sm, .func (.func FN) #[] #[.pointer (some ⟨gb, 0, none⟩)], .int .i64 (x : Int), .int .i64 tx, .int .i64 (sm + tx), undef] := by
        refine arr_of _ _ hsz fun t ht => ?_
        have ht' : t < 15 := ht
        rcases (by omega : t = 0 ∨ t = 1 ∨ t = 2 ∨ t = 3 ∨ t = 4 ∨ t = 5 ∨ t = 6 ∨ t = 7 ∨ t = 8 ∨ t = 9 ∨ t = 10 ∨ t = 11 ∨ t = 12 ∨ t = 13 ∨ t = 14) with rfl | rfl | rfl | rfl | rfl | rfl | rfl | rfl | rfl | rfl | rfl | rfl | rfl | rfl | rfl
        · exact hlow 0 (by kernel_rfl)
        · exact hlow 1 (by kernel_rfl)
        · exact hlow 2 (by kernel_rfl)
        · exact hlow 3 (by kernel_rfl)
        · exact hlow 4 (by kernel_rfl)
        · exact hlow 5 (by kernel_rfl)
        · exact hlow 6 (by kernel_rfl)
        · exact hlow 7 (by kernel_rfl)
        · exact hlow 8 (by kernel_rfl)
        · exact hval 0 _ 9 rfl rfl
        · exact hval 1 _ 10 rfl rfl
        · exact hval 2 _ 11 rfl rfl
        · exact hval 3 _ 12 rfl rfl
        · exact hval 4 _ 13 rfl rfl
        · exact hlow 14 (by kernel_rfl)
      subst ht
      have HF := Lib.hid (And.intro hS.1 (hS.2.2 (hall 5 (by decide))))
      clear hlow hval hsz hall hS
      gi_wp2
      exact ⟨HF.out.1.1.from _, fun _ => HT.out.below HF.out.1.2.1, ⟨HF.out.1.2.2, by rw [HSN.out]; exact HF.out.2⟩, HF.out.1.2.1⟩
    · intro L ac w' q op hLs hop hLi hLd hLn ⟨hS0, hS1, hS2⟩ hlow hdep _
      have hq : q < 6 := (Array.getElem?_eq_some_iff.1 hop).1
      have K : ∀ {WK : World} {q : Nat}, q ≠ 5 → (KeepsOthers W WK ∧ Below w.heap.size w WK ∧ BlockIs WK w.heap.size 113 #[.func (.func FN) #[] #[.pointer (some ⟨gb, 0, none⟩)]]) → (L.getD 5 true = false → BlockIs WK (w.heap.size + 1) 3 #[.int .i64 sm]) → (L.getD 5 true = true → BlockIs WK (w.heap.size + 1) 3 #[.int .i64 (sm + tx)]) → (KeepsOthers W WK ∧ Below w.heap.size w WK ∧ BlockIs WK w.heap.size 113 #[.func (.func FN) #[] #[.pointer (some ⟨gb, 0, none⟩)]]) ∧ ((L.setIfInBounds q true).getD 5 true = false → BlockIs WK (w.heap.size + 1) 3 #[.int .i64 sm]) ∧ ((L.setIfInBounds q true).getD 5 true = true → BlockIs WK (w.heap.size + 1) 3 #[.int .i64 (sm + tx)]) := by
        intro WK q h9 ka kb2 kc
        rw [getD_set_true, if_neg (fun h => h9 h.1)]
        exact ⟨ka, kb2, kc⟩
      rcases (by omega : q = 0 ∨ q = 1 ∨ q = 2 ∨ q = 3 ∨ q = 4 ∨ q = 5) with rfl | rfl | rfl | rfl | rfl | rfl
      · obtain rfl := Option.some.inj hop
        have e5 : ac.tmps[5]?.getD undef = .pointer (some ⟨w.heap.size + 1, 0, none⟩) := (Array.getD_eq_getD_getElem? ..).symm.trans (hlow 5 (by kernel_rfl))
        have hc := (hS1 (hLn 5 (by kernel_rfl))).cell 0
        simp only [List.getElem?_toArray, List.getElem?_cons_zero] at hc
        exact ⟨wanted_free rfl, .inl (.inl ⟨w', by simp [execOp, Act.eval, e5, hc, go_sem], K (by decide) hS0 hS1 hS2⟩)⟩
      · obtain rfl := Option.some.inj hop
        have e3 : ac.tmps[3]?.getD undef = .pointer (some ⟨w.heap.size, 0, none⟩) := (Array.getD_eq_getD_getElem? ..).symm.trans (hlow 3 (by kernel_rfl))
        have hc := hS0.2.2.cell 0
        simp only [List.getElem?_toArray, List.getElem?_cons_zero] at hc
        exact ⟨wanted_free rfl, .inl (.inl ⟨w', by simp [execOp, Act.eval, e3, hc, go_sem], K (by decide) hS0 hS1 hS2⟩)⟩
      · obtain rfl := Option.some.inj hop
        have e6 : ac.tmps[6]?.getD undef = .int .i64 (x : Int) := (Array.getD_eq_getD_getElem? ..).symm.trans (hlow 6 (by kernel_rfl))
        exact ⟨wanted_free rfl, .inl (.inl ⟨w', by simp [execOp, Act.eval, e6, go_sem], K (by decide) hS0 hS1 hS2⟩)⟩
      · obtain rfl := Option.some.inj hop
        have e10 : ac.tmps[10]?.getD undef = .func (.func FN) #[] #[.pointer (some ⟨gb, 0, none⟩)] := (Array.getD_eq_getD_getElem? ..).symm.trans (hdep 1 _ 10 (by kernel_rfl) rfl rfl)
        have e11 : ac.tmps[11]?.getD undef = .int .i64 (x : Int) := (Array.getD_eq_getD_getElem? ..).symm.trans (hdep 2 _ 11 (by kernel_rfl) rfl rfl)
        refine ⟨wanted_free rfl, .inl (.inr ⟨FN, #[.int .i64 (x : Int), .pointer (some ⟨gb, 0, none⟩)], by simp [execOp, Act.eval, e10, e11, hcf, go_sem], (HCX.out w' hS0.2.1).mono ?_⟩)⟩
        rintro e w2 ⟨rfl, hb⟩
        exact ⟨rfl, K (by decide) (kb hS0 hb) (fun h => ob (hS1 h) hb) (fun h => nb (hS2 h) hb)⟩
      · obtain rfl := Option.some.inj hop
        have e9 : ac.tmps[9]?.getD undef = .int .i64 sm := (Array.getD_eq_getD_getElem? ..).symm.trans (hdep 0 _ 9 (by kernel_rfl) rfl rfl)
        have e12 : ac.tmps[12]?.getD undef = .int .i64 tx := (Array.getD_eq_getD_getElem? ..).symm.trans (hdep 3 _ 12 (by kernel_rfl) rfl rfl)
        exact ⟨wanted_free rfl, .inl (.inl ⟨w', by simp [execOp, Act.eval, e9, e12, hmx, go_sem], K (by decide) hS0 hS1 hS2⟩)⟩
      · obtain rfl := Option.some.inj hop
        have e5 : ac.tmps[5]?.getD undef = .pointer (some ⟨w.heap.size + 1, 0, none⟩) := (Array.getD_eq_getD_getElem? ..).symm.trans (hlow 5 (by kernel_rfl))
        have e13 : ac.tmps[13]?.getD undef = .int .i64 (sm + tx) := (Array.getD_eq_getD_getElem? ..).symm.trans (hdep 4 _ 13 (by kernel_rfl) rfl rfl)
        have hO := hS1 hLi
        have hc := hO.cell 0
        simp only [List.getElem?_toArray, List.getElem?_cons_zero] at hc
        have fz := hO.frozen 0
        refine ⟨wanted_free rfl, .inr ⟨w'.setCell ⟨w.heap.size + 1, 0, none⟩ (.int .i64 (sm + tx)), rfl, by simp [execOp, Act.eval, e5, e13, hc, fz, go_sem], ?_⟩⟩
        refine ⟨⟨hS0.1.trans (KeepsOthers.setCell _ _ _), hS0.2.1.setCell (p := ⟨w.heap.size + 1, 0, none⟩) (by show _ ≤ w.heap.size + 1; omega) _, hS0.2.2.away (g' := w.heap.size + 1) (by omega) _ _⟩, fun h => ?_, fun _ => hO.set 0 _⟩
        rw [getD_set_true, if_pos ⟨rfl, by rw [hLs]; decide⟩] at h
        cases h
  case done =>
    rintro D ys W hD hys ⟨⟨y0, y1⟩, hb⟩ hK
    have hc := y1.cell
    rw [hys] at hc
    gi_wp2
    refine ⟨by simp, .inl ⟨_, _, rfl, run_takeDeferred hK, ?_⟩⟩
    exact ⟨_, results_tmp rfl _ _ _, rfl, hb.trans (belowK_b (w := w3) (by omega) W D _ _ (by omega) hK rfl rfl)⟩
  case stop =>
    rintro D cd pre W _ _ h _
    exact h.elim
end
end Go.Proofs.YtpoibjmkbljblaaDoor

end
section
namespace Go.Proofs.YtpoibjmkbljblaaDoor
open Go.RowKit
theorem natI_len (p : List Nat) : (natI p).length = p.length := by unfold natI; rw [List.length_map]
section
variable (A B : Option Addr) (c d : Nat) (js : List J) (l : List Nat) (w : World) (hr : Row w A (jc js)) (hq : Row w B (ic (natI l))) (hl : ∀ x ∈ l, x < js.length) (hn : l.length ≤ 8) (hok : ∀ j ∈ js, okJ j = true)
include hr hq hl hn hok
set_option maxRecDepth 100000 in
set_option maxHeartbeats 4000000 in
theorem l10Demand_any : Calls Tryd.prog 47 #[.slice A js.length c, .slice B l.length d] w fun e w' => e = .returned (.int .i64 (demL js l)) ∧ Below w.heap.size w w' := by
  have HBD : Hid (∀ k, k ≤ l.length → (0 ≤ sumF (tmF js) (l.take k) ∧ sumF (tmF js) (l.take k) ≤ 400) ∧ (0 ≤ sumF (sqF js) (l.take k) ∧ sumF (sqF js) (l.take k) ≤ 20000) ∧ (0 ≤ sumF (tmF js) (l.take k) * sumF (tmF js) (l.take k) ∧ sumF (tmF js) (l.take k) * sumF (tmF js) (l.take k) ≤ 160000)) := fun k hk =>
    dem_bd hok (l.take k) (fun x hx => hl x (List.mem_of_mem_take hx)) (by rw [List.length_take]; omega)
  have HST : Hid (∀ k (h : k < l.length), sumF (tmF js) (l.take (k + 1)) = sumF (tmF js) (l.take k) + tmF js l[k] ∧ sumF (sqF js) (l.take (k + 1)) = sumF (sqF js) (l.take k) + tmF js l[k] * tmF js l[k]) := fun k h => by
    rw [List.take_succ_eq_append_getElem h, sumF_snoc, sumF_snoc]; exact ⟨rfl, rfl⟩
  have HT : Hid (demL js l = (sumF (tmF js) (l.take l.length) * sumF (tmF js) (l.take l.length) + sumF (sqF js) (l.take l.length)) / 2) := by show _ = _; rw [List.take_length]; rfl
  have HR := Lib.hid hr
  have HQ := Lib.hid hq
  have HTB : Hid (∀ k (h : k < l.length), ∃ hx : l[k] < js.length, tmF js l[k] = js[l[k]].t ∧ 1 ≤ tmF js l[k] ∧ tmF js l[k] ≤ 50 ∧ 0 ≤ tmF js l[k] * tmF js l[k] ∧ tmF js l[k] * tmF js l[k] ≤ 2500) := fun k h => by
    have hx := hl _ (List.getElem_mem h)
    have h1 := tmF_bd hok hx
    have h2 := sqF_bd hok hx
    exact ⟨hx, by unfold tmF; rw [getD_at js j0 hx], h1.1, h1.2, h2.1, h2.2⟩
  clear hr hq hl hok
  go_enter Tryd.func47, Tryd.ntmps47
  go_wp2
  go_loopw [5, 6, 7] (fun av bv iv wr => ∃ k : Nat, k ≤ l.length ∧ iv = .int .i64 (k : Int) ∧ av = .int .i64 (sumF (tmF js) (l.take k)) ∧ bv = .int .i64 (sumF (sqF js) (l.take k)) ∧ Hid (Below w.heap.size w wr)) (fun _ _ iv _ => l.length - (intOf iv).toNat)
  case atStart => exact ⟨0, Nat.zero_le _, rfl, rfl, rfl, Lib.hid (Below.refl _ _)⟩
  case round =>
    obtain ⟨k, hk, rfl, rfl, rfl, HB⟩ := hrel
    by_cases hlt : k < l.length
    · have hk0 : (0 : Int) ≤ k := by omega
      have hk1 : (k : Int) < l.length := by omega
      obtain ⟨hx, ht, ht1, ht2, hs1, hs2⟩ := HTB.out k hlt
      obtain ⟨bd, rfl, hcx⟩ := (HQ.out.below HB.out).nat hlt
      obtain ⟨ad, rfl, hadb, c0, c1, c2, c3⟩ := (HR.out.below HB.out).job hx
      have hbd := HBD.out k hk
      have HS := Lib.hid (HST.out k hlt)
      rw [← ht] at c0
      have hx0 : (0 : Int) ≤ l[k] := by omega
      have hx1 : (l[k] : Int) < js.length := by omega
      clear ht c1 c2 c3 HT HBD HST HTB
      generalize tmF js l[k] = t at *
      generalize sumF (tmF js) (l.take k) = s1 at *
      generalize sumF (sqF js) (l.take k) = s2 at *
      generalize l[k] = x at *
      obtain ⟨q, hq⟩ : ∃ q, q = t * t := ⟨_, rfl⟩
      rw [← hq] at hs1 hs2 HS
      have hw1 := IntWalk.i64_in (s1 + t) (by omega)
      have hw2 : IntKind.i64.wrap (t * t) = q := by rw [← hq]; exact IntWalk.i64_in q (by omega)
      have hw3 := IntWalk.i64_in (s2 + q) (by omega)
      clear hq
      go_wp2
      go_quiet (fail)
      go_wp2
      go_roundw
      case rel => exact ⟨k + 1, by omega, by go_num, by rw [HS.out.1], by rw [HS.out.2], below_drewN HB.out _⟩
      case measure => simp [intOf]; omega
    · obtain rfl : k = l.length := by omega
      obtain ⟨h1, h2, h3⟩ := HBD.out l.length (Nat.le_refl _)
      clear HBD HST HTB
      generalize sumF (tmF js) (l.take l.length) = s1 at *
      generalize sumF (sqF js) (l.take l.length) = s2 at *
      obtain ⟨q, hq⟩ : ∃ q, q = s1 * s1 := ⟨_, rfl⟩
      rw [← hq] at h3 HT
      have hw1 : IntKind.i64.wrap (s1 * s1) = q := by rw [← hq]; exact IntWalk.i64_in q (by omega)
      have hw2 := IntWalk.i64_in (q + s2) (by omega)
      have hw3 : IntKind.i64.wrap ((q + s2).tdiv 2) = (q + s2) / 2 := by
        rw [Int.tdiv_eq_ediv_of_nonneg (by omega)]; exact IntWalk.i64_in _ (by omega)
      clear hq
      go_wp2
      go_ret
      exact ⟨by rw [HT.out]; rfl, HB.out⟩
end
theorem l10Vector_any (A B : Option Addr) (c d : Nat) (js : List J) (e : List Int) (w : World) (hq : Row w B (ic e)) (_hn : js.length ≤ 100000000) (hm : e.length ≤ 100000000) :
    Calls Tryd.prog 52 #[.slice A js.length c, .slice B e.length d] w fun r w' => r = .returned (.bool (vecB js.length e)) ∧ Below w.heap.size w w' := by
  have HV : Hid (vecB js.length e = (decide (e.length = js.length) && e.all fun x => decide (0 ≤ x ∧ x ≤ 2000))) := rfl
  have HQ := Lib.hid hq
  clear hq
  go_enter Tryd.func52, Tryd.ntmps52
  go_wp2
  go_loopw [5] (fun iv wr => ∃ k : Nat, k ≤ e.length ∧ iv = .int .i64 (k : Int) ∧ Hid (∀ i (h : i < e.length), i < k → 0 ≤ e[i] ∧ e[i] ≤ 2000) ∧ Hid (Below w.heap.size w wr)) (fun iv _ => e.length - (intOf iv).toNat)
  case atStart => exact ⟨0, Nat.zero_le _, rfl, fun _ _ h => absurd h (by omega), Lib.hid (Below.refl _ _)⟩
  case round =>
    obtain ⟨k, hk, rfl, HA, HB⟩ := hrel
    by_cases hlt : k < e.length
    · have hk0 : (0 : Int) ≤ k := by omega
      have hk1 : (k : Int) < e.length := by omega
      obtain ⟨bd, rfl, hcx⟩ := (HQ.out.below HB.out).int hlt
      have HG : Hid ((0 ≤ e[k] ∧ e[k] ≤ 2000) → ∀ i (h : i < e.length), i < k + 1 → 0 ≤ e[i] ∧ e[i] ≤ 2000) := fun h0 i h hi => by
        by_cases he : i = k
        · subst he; exact h0
        · exact HA.out i h (by omega)
      have HN : Hid (¬ (0 ≤ e[k] ∧ e[k] ≤ 2000) → vecB js.length e = false) := fun h0 => by
        rw [HV.out, Bool.and_eq_false_iff]
        exact .inr (List.all_eq_false.2 ⟨e[k], List.getElem_mem hlt, by simpa using h0⟩)
      generalize e[k] = x at *
      by_cases hx : 0 ≤ x ∧ x ≤ 2000
      · have HG2 := Lib.hid (HG.out hx)
        have hd : inB x 0 2000 = true := by unfold inB; exact decide_eq_true hx
        clear HG HN
        go_wp2_with fail
        refine (l1In_any x 0 2000 _).mono ?_
        rintro r _ ⟨rfl, rfl⟩
        rw [hd]
        go_wp2
        go_roundw
        case rel => exact ⟨k + 1, by omega, by go_num, HG2.out, HB⟩
        case measure => simp [intOf]; omega
      · have HN2 := Lib.hid (HN.out hx)
        have hd : inB x 0 2000 = false := by unfold inB; exact decide_eq_false hx
        clear HG HN
        go_wp2_with fail
        refine (l1In_any x 0 2000 _).mono ?_
        rintro r _ ⟨rfl, rfl⟩
        rw [hd]
        go_wp2
        go_ret
        exact ⟨by rw [HN2.out]; rfl, HB.out⟩
    · obtain rfl : k = e.length := by omega
      have HF : Hid (vecB js.length e = decide (e.length = js.length)) := by
        show _ = _
        rw [HV.out, List.all_eq_true.2 (fun x hx => by
          obtain ⟨i, h, rfl⟩ := List.getElem_of_mem hx
          exact decide_eq_true (HA.out i h h)), Bool.and_true]
      by_cases he : e.length = js.length
      · have hd : decide (e.length = js.length) = true := decide_eq_true he
        have hei : ((e.length : Int) == (js.length : Int)) = true := by rw [he]; simp
        rw [hd] at HF
        have HE := Lib.hid he
        clear he hd
        go_wp2
        go_ret
        exact ⟨by rw [HF.out]; rfl, HB.out⟩
      · have hd : decide (e.length = js.length) = false := decide_eq_false he
        have hei : ((e.length : Int) == (js.length : Int)) = false := by simp; omega
        rw [hd] at HF
        clear hd
        go_wp2
        go_ret
        exact ⟨by rw [HF.out]; rfl, HB.out⟩
end Go.Proofs.YtpoibjmkbljblaaDoor

end
section
namespace Go.Proofs.YtpoibjmkbljblaaDoor
open Go.RowKit
section
variable (A B C : Option Addr) (c d b : Nat) (js : List J) (en : List Int) (l : List Nat) (w : World) (hr : Row w A (jc js)) (he : Row w C (ic en)) (hq : Row w B (ic (natI l))) (hl : ∀ x ∈ l, x < js.length) (hn : l.length ≤ 8) (hok : ∀ j ∈ js, okJ j = true) (hv : vecB js.length en = true)
include hr he hq hl hn hok hv
set_option maxRecDepth 100000 in
set_option maxHeartbeats 4000000 in
theorem l10Supply_any : Calls Tryd.prog 53 #[.slice A js.length c, .slice C en.length b, .slice B l.length d] w fun e w' => e = .returned (.int .i64 (supL js en l)) ∧ Below w.heap.size w w' := by
  have HBD : Hid (∀ k, k ≤ l.length → 0 ≤ sumF (spF js en) (l.take k) ∧ sumF (spF js en) (l.take k) ≤ 1000000) := fun k hk => by
    have h := sumF_bd (g := spF js en) (m := 100000) (l.take k) (fun x hx => spF_bd hok hv (hl x (List.mem_of_mem_take hx)))
    rw [List.length_take] at h
    omega
  have HST : Hid (∀ k (h : k < l.length), sumF (spF js en) (l.take (k + 1)) = sumF (spF js en) (l.take k) + tmF js l[k] * en.getD l[k] 0) := fun k h => by
    rw [List.take_succ_eq_append_getElem h, sumF_snoc]; rfl
  have HT : Hid (supL js en l = sumF (spF js en) (l.take l.length)) := by show _ = _; rw [List.take_length]; rfl
  have HTB : Hid (∀ k (h : k < l.length), ∃ hx : l[k] < js.length, tmF js l[k] = js[l[k]].t ∧ 0 ≤ tmF js l[k] * en.getD l[k] 0 ∧ tmF js l[k] * en.getD l[k] 0 ≤ 100000) := fun k h => by
    have hx := hl _ (List.getElem_mem h)
    have h2 := spF_bd hok hv hx
    exact ⟨hx, by unfold tmF; rw [getD_at js j0 hx], h2.1, h2.2⟩
  have HR := Lib.hid hr
  have HQ := Lib.hid hq
  have HE := Lib.hid he
  have HEL := Lib.hid (vec_out hv).1
  clear hr hq he hl hok hv
  go_enter Tryd.func53, Tryd.ntmps53
  go_wp2
  go_loopw [7, 8] (fun av iv wr => ∃ k : Nat, k ≤ l.length ∧ iv = .int .i64 (k : Int) ∧ av = .int .i64 (sumF (spF js en) (l.take k)) ∧ Hid (Below w.heap.size w wr)) (fun _ iv _ => l.length - (intOf iv).toNat)
  case atStart => exact ⟨0, Nat.zero_le _, rfl, rfl, Lib.hid (Below.refl _ _)⟩
  case round =>
    obtain ⟨k, hk, rfl, rfl, HB⟩ := hrel
    by_cases hlt : k < l.length
    · have hk0 : (0 : Int) ≤ k := by omega
      have hk1 : (k : Int) < l.length := by omega
      obtain ⟨hx, ht, hs1, hs2⟩ := HTB.out k hlt
      obtain ⟨bd, rfl, hcx⟩ := (HQ.out.below HB.out).nat hlt
      obtain ⟨ad, rfl, hadb, c0, c1, c2, c3⟩ := (HR.out.below HB.out).job hx
      obtain ⟨ed, rfl, hce⟩ := (HE.out.below HB.out).int (k := l[k]) (by rw [HEL.out]; exact hx)
      rw [← getD_at en 0] at hce
      have hbd := HBD.out k hk
      have HS := Lib.hid (HST.out k hlt)
      rw [← ht] at c0
      have hx0 : (0 : Int) ≤ l[k] := by omega
      have hx1 : (l[k] : Int) < js.length := by omega
      have hx2 : (l[k] : Int) < en.length := by rw [HEL.out]; exact hx1
      clear ht c1 c2 c3 HT HBD HST HTB HEL
      generalize en.getD l[k] 0 = ev at *
      generalize tmF js l[k] = t at *
      generalize sumF (spF js en) (l.take k) = s1 at *
      generalize l[k] = x at *
      obtain ⟨q, hq⟩ : ∃ q, q = t * ev := ⟨_, rfl⟩
      rw [← hq] at hs1 hs2 HS
      have hw2 : IntKind.i64.wrap (t * ev) = q := by rw [← hq]; exact IntWalk.i64_in q (by omega)
      have hw3 := IntWalk.i64_in (s1 + q) (by omega)
      clear hq
      go_wp2
      go_quiet (fail)
      go_wp2
      go_roundw
      case rel => exact ⟨k + 1, by omega, by go_num, by rw [HS.out], below_drewN HB.out _⟩
      case measure => simp [intOf]; omega
    · obtain rfl : k = l.length := by omega
      go_wp2
      go_ret
      exact ⟨by rw [HT.out]; rfl, HB.out⟩
end
section
variable (A B : Option Addr) (c d : Nat) (js : List J) (s : List Int) (w : World) (hr : Row w A (jc js)) (hq : Row w B (ic s)) (hn : js.length ≤ 10000000) (hm : s.length ≤ 10000000)
include hr hq hn hm
set_option maxRecDepth 100000 in
theorem spec_DemandOf : Calls Tryd.prog 14 #[.slice A js.length c, .slice B s.length d] w (RetNB w (demR js s)) := by
  have HR : Hid (demR js s = if plainL js && risL js.length s then (demL js (memB (numS s)), true) else (0, false)) := rfl
  cases hp : plainL js
  · rw [hp] at HR
    go_enter Tryd.func14, Tryd.ntmps14
    go_wp2_with fail
    refine (l6Good_any A c js _ hr (by omega)).mono ?_
    rintro e1 w1 ⟨rfl, hb1⟩
    rw [hp]
    go_wp2
    go_ret2
    exact ⟨by rw [HR.out]; rfl, hb1⟩
  · rw [hp] at HR
    cases hs : risL js.length s
    · rw [hs] at HR
      go_enter Tryd.func14, Tryd.ntmps14
      go_wp2_with fail
      refine (l6Good_any A c js _ hr (by omega)).mono ?_
      rintro e1 w1 ⟨rfl, hb1⟩
      rw [hp]
      go_wp2_with fail
      refine (l6Set_any A B c d js s w1 (hq.below hb1) hn hm).mono ?_
      rintro e1 w2 ⟨rfl, m, rfl⟩
      rw [hs]
      have HB := Lib.hid (below_drewN hb1 m)
      clear hb1
      go_wp2
      go_ret2
      exact ⟨by rw [HR.out]; rfl, HB.out⟩
    · rw [hs] at HR
      obtain ⟨h8, hok⟩ := good_out (plain_good hp)
      have hs8 := ris8 hs h8
      have hnm := numS_mem hs8
      have hlm : (memB (numS s)).length = s.length := by
        conv => rhs; rw [← hnm]
        unfold natI; rw [List.length_map]
      have hin : ∀ x ∈ memB (numS s), x < js.length := fun x hx => numS_in hs h8 ((memB_mem (numS_lt hs8)).1 hx)
      have HQ : Hid (∀ w' : World, Below w.heap.size w w' → Calls Tryd.prog 47 #[.slice A js.length c, .slice B s.length d] w' fun e1 w3 => e1 = .returned (.int .i64 (demL js (memB (numS s)))) ∧ Below w'.heap.size w' w3) := fun w' hb => by
        have h := l10Demand_any A B c d js (memB (numS s)) w' (hr.below hb) (by rw [hnm]; exact hq.below hb) hin (memB_len _) hok
        rw [hlm] at h
        exact h
      clear hnm hlm hin hs8 hok
      go_enter Tryd.func14, Tryd.ntmps14
      go_wp2_with fail
      refine (l6Good_any A c js _ hr (by omega)).mono ?_
      rintro e1 w1 ⟨rfl, hb1⟩
      rw [hp]
      go_wp2_with fail
      refine (l6Set_any A B c d js s w1 (hq.below hb1) hn hm).mono ?_
      rintro e1 w2 ⟨rfl, m, rfl⟩
      rw [hs]
      have HB := Lib.hid (below_drewN hb1 m)
      clear hb1
      go_wp2_with fail
      refine (HQ.out _ HB.out).mono ?_
      rintro e1 w3 ⟨rfl, hb3⟩
      have HB3 := Lib.hid (HB.out.trans (hb3.mono HB.out.size))
      clear hb3
      go_wp2
      go_ret2
      exact ⟨by rw [HR.out]; rfl, HB3.out⟩
variable (C : Option Addr) (b : Nat) (en : List Int) (he : Row w C (ic en)) (hel : en.length ≤ 10000000)
include he hel
set_option maxRecDepth 100000 in
theorem spec_SupplyOf : Calls Tryd.prog 20 #[.slice A js.length c, .slice C en.length b, .slice B s.length d] w (RetNB w (supR js en s)) := by
  have HR : Hid (supR js en s = if (plainL js && vecB js.length en) && risL js.length s then (supL js en (memB (numS s)), true) else (0, false)) := rfl
  cases hp : plainL js
  · rw [hp] at HR
    go_enter Tryd.func20, Tryd.ntmps20
    go_wp2_with fail
    refine (l6Good_any A c js _ hr (by omega)).mono ?_
    rintro e1 w1 ⟨rfl, hb1⟩
    rw [hp]
    go_wp2
    go_ret2
    exact ⟨by rw [HR.out]; rfl, hb1⟩
  · rw [hp] at HR
    cases hv : vecB js.length en
    · rw [hv] at HR
      go_enter Tryd.func20, Tryd.ntmps20
      go_wp2_with fail
      refine (l6Good_any A c js _ hr (by omega)).mono ?_
      rintro e1 w1 ⟨rfl, hb1⟩
      rw [hp]
      go_wp2_with fail
      refine (l10Vector_any A C c b js en w1 (he.below hb1) (by omega) (by omega)).mono ?_
      rintro e1 w2 ⟨rfl, hb2⟩
      rw [hv]
      have HB := Lib.hid (hb1.trans (hb2.mono hb1.size))
      clear hb1 hb2
      go_wp2
      go_ret2
      exact ⟨by rw [HR.out]; rfl, HB.out⟩
    · rw [hv] at HR
      cases hs : risL js.length s
      · rw [hs] at HR
        go_enter Tryd.func20, Tryd.ntmps20
        go_wp2_with fail
        refine (l6Good_any A c js _ hr (by omega)).mono ?_
        rintro e1 w1 ⟨rfl, hb1⟩
        rw [hp]
        go_wp2_with fail
        refine (l10Vector_any A C c b js en w1 (he.below hb1) (by omega) (by omega)).mono ?_
        rintro e1 w2 ⟨rfl, hb2⟩
        rw [hv]
        have HB := Lib.hid (hb1.trans (hb2.mono hb1.size))
        clear hb1 hb2
        go_wp2_with fail
        refine (l6Set_any A B c d js s w2 (hq.below HB.out) hn hm).mono ?_
        rintro e1 w3 ⟨rfl, m, rfl⟩
        rw [hs]
        have HB3 := Lib.hid (below_drewN HB.out m)
        clear HB
        go_wp2
        go_ret2
        exact ⟨by rw [HR.out]; rfl, HB3.out⟩
      · rw [hs] at HR
        obtain ⟨h8, hok⟩ := good_out (plain_good hp)
        have hs8 := ris8 hs h8
        have hnm := numS_mem hs8
        have hlm : (memB (numS s)).length = s.length := by
          conv => rhs; rw [← hnm]
          unfold natI; rw [List.length_map]
        have hin : ∀ x ∈ memB (numS s), x < js.length := fun x hx => numS_in hs h8 ((memB_mem (numS_lt hs8)).1 hx)
        have HQ : Hid (∀ w' : World, Below w.heap.size w w' → Calls Tryd.prog 53 #[.slice A js.length c, .slice C en.length b, .slice B s.length d] w' fun e1 w3 => e1 = .returned (.int .i64 (supL js en (memB (numS s)))) ∧ Below w'.heap.size w' w3) := fun w' hb => by
          have h := l10Supply_any A B C c d b js en (memB (numS s)) w' (hr.below hb) (he.below hb) (by rw [hnm]; exact hq.below hb) hin (memB_len _) hok hv
          rw [hlm] at h
          exact h
        clear hnm hlm hin hs8 hok
        go_enter Tryd.func20, Tryd.ntmps20
        go_wp2_with fail
        refine (l6Good_any A c js _ hr (by omega)).mono ?_
        rintro e1 w1 ⟨rfl, hb1⟩
        rw [hp]
        go_wp2_with fail
        refine (l10Vector_any A C c b js en w1 (he.below hb1) (by omega) (by omega)).mono ?_
        rintro e1 w2 ⟨rfl, hb2⟩
        rw [hv]
        have HB := Lib.hid (hb1.trans (hb2.mono hb1.size))
        clear hb1 hb2
        go_wp2_with fail
        refine (l6Set_any A B c d js s w2 (hq.below HB.out) hn hm).mono ?_
        rintro e1 w3 ⟨rfl, m, rfl⟩
        rw [hs]
        have HB3 := Lib.hid (below_drewN HB.out m)
        clear HB
        go_wp2_with fail
        refine (HQ.out _ HB3.out).mono ?_
        rintro e1 w4 ⟨rfl, hb4⟩
        have HB4 := Lib.hid (HB3.out.trans (hb4.mono HB3.out.size))
        clear hb4
        go_wp2
        go_ret2
        exact ⟨by rw [HR.out]; rfl, HB4.out⟩
end
end Go.Proofs.YtpoibjmkbljblaaDoor

end
section
namespace Go.Proofs.YtpoibjmkbljblaaDoor
open Go.RowKit
theorem members_any (s : Int) (w : World) : Calls Tryd.prog 99 #[.int .u64 s] w fun e w' => e = .returned (.func (.func 139) #[] #[.pointer (some ⟨w.heap.size, 0, none⟩)]) ∧ w' = w.alloc (.cells #[.int .u64 s] 63) := callsIn_wide.1 (members_in 5 s w)
set_option maxRecDepth 100000 in
set_option maxHeartbeats 1000000 in
theorem demand1_any (A : Option Addr) (c gb x : Nat) (js : List J) (w : World) (hr : Row w A (jc js)) (hb : BlockIs w gb 61 #[.slice A js.length c]) (hx : x < js.length) (hok : ∀ j ∈ js, okJ j = true) :
    Calls Tryd.prog 100 #[.int .i64 (x : Int), .pointer (some ⟨gb, 0, none⟩)] w fun e w' => e = .returned (.int .i64 (sqF js x)) ∧ Below w.heap.size w w' := by
  have d0 := hb.cell 0
  simp only [List.getElem?_toArray, List.getElem?_cons_zero] at d0
  obtain ⟨ad, rfl, hz9, cj, cj1, cj2, cj3⟩ := hr.job hx
  have h1 := tmF_bd hok hx
  have h2 := sqF_bd hok hx
  have ht : tmF js x = js[x].t := by unfold tmF; rw [getD_at js j0 hx]
  have HQ : Hid (sqF js x = tmF js x * tmF js x) := rfl
  rw [← ht] at cj
  have hx0 : (0 : Int) ≤ x := by omega
  have hx1 : (x : Int) < js.length := by omega
  clear cj1 cj2 cj3 hz9 hr hb hx hok ht
  generalize sqF js x = q at *
  generalize tmF js x = t at *
  have hw : IntKind.i64.wrap (t * t) = q := by rw [← HQ.out]; exact IntWalk.i64_in q (by omega)
  go_enter Tryd.func100, Tryd.ntmps100
  go_wp2
  go_quiet (fail)
  go_wp2
  go_ret
  exact ⟨rfl, below_drewN (Below.refl _ _) _⟩
set_option maxRecDepth 100000 in
set_option maxHeartbeats 1000000 in
theorem supply1_any (A C : Option Addr) (c b gb x : Nat) (js : List J) (en : List Int) (w : World) (hr : Row w A (jc js)) (he : Row w C (ic en)) (hb : BlockIs w gb 70 #[.slice A js.length c, .slice C en.length b]) (hx : x < js.length) (hok : ∀ j ∈ js, okJ j = true) (hv : vecB js.length en = true) :
    Calls Tryd.prog 103 #[.int .i64 (x : Int), .pointer (some ⟨gb, 0, none⟩)] w fun e w' => e = .returned (.int .i64 (spF js en x)) ∧ Below w.heap.size w w' := by
  have d0 := hb.cell 0
  have d1 := hb.cell 1
  simp only [List.getElem?_toArray, List.getElem?_cons_zero, List.getElem?_cons_succ] at d0 d1
  obtain ⟨ad, rfl, hz9, cj, cj1, cj2, cj3⟩ := hr.job hx
  have hel := (vec_out hv).1
  obtain ⟨ed, rfl, ce⟩ := he.int (k := x) (by omega)
  rw [← getD_at en 0] at ce
  have h2 := spF_bd hok hv hx
  have ht : tmF js x = js[x].t := by unfold tmF; rw [getD_at js j0 hx]
  have HQ : Hid (spF js en x = tmF js x * en.getD x 0) := rfl
  rw [← ht] at cj
  have hx0 : (0 : Int) ≤ x := by omega
  have hx1 : (x : Int) < js.length := by omega
  have hx2 : (x : Int) < en.length := by omega
  clear cj1 cj2 cj3 hz9 hr hb hx hok ht he hv hel
  generalize spF js en x = q at *
  generalize tmF js x = t at *
  generalize en.getD x 0 = ev at *
  have hw : IntKind.i64.wrap (t * ev) = q := by rw [← HQ.out]; exact IntWalk.i64_in q (by omega)
  go_enter Tryd.func103, Tryd.ntmps103
  go_wp2
  go_quiet (fail)
  go_wp2
  go_ret
  exact ⟨rfl, below_drewN (Below.refl _ _) _⟩
section
variable (A : Option Addr) (c s : Nat) (js : List J) (w : World) (hs : s < 256) (hr : Row w A (jc js)) (hok : ∀ j ∈ js, okJ j = true) (hlt : ∀ k, s.testBit k = true → k < js.length) (hT : TzTab w)
include hs hr hok hlt hT
set_option maxRecDepth 100000 in
set_option maxHeartbeats 2000000 in
theorem demand_any : Calls Tryd.prog 50 #[.slice A js.length c, .int .u64 (s : Int)] w fun e w' => e = .returned (.int .i64 (demL js (memB s))) ∧ Below w.heap.size w w' := by
  have HD : Hid (demL js (memB s) = (sumF (tmF js) (memB s) * sumF (tmF js) (memB s) + sumF (sqF js) (memB s)) / 2) := rfl
  have HTB : Hid (timeB js s = sumF (tmF js) (memB s)) := rfl
  obtain ⟨b1, b2, b3⟩ := dem_bd hok (memB s) (fun k hk => hlt k ((memB_mem hs).1 hk)) (memB_len s)
  have hb1 := (Below.refl w.heap.size w).alloc (Nat.le_refl _) (.cells #[.slice A js.length c] 61)
  have hB1 := BlockIs.new w 61 #[.slice A js.length c]
  have hz1 : (w.alloc (.cells #[.slice A js.length c] 61)).heap.size = w.heap.size + 1 := by simp
  have HTM := Lib.hid (timeOf_any A c s js (w.alloc (.cells #[.slice A js.length c] 61)) hs (hr.below hb1) hok hlt (hT.below hb1))
  have HSO := Lib.hid (fun (W : World) (hb : Below (w.heap.size + 1) (w.alloc (.cells #[.slice A js.length c] 61)) W) => by
    have hbw := hb1.trans (hb.mono (Nat.le_succ _))
    have hbA := (Below.refl W.heap.size W).alloc (Nat.le_refl _) (.cells #[.int .u64 (s : Int)] 63)
    have hB2 := (hB1.below (by rw [hz1]; exact hb)).below hbA
    have hbw2 := hbw.trans (hbA.mono hbw.size)
    exact sumOf_any 100 w.heap.size W.heap.size s (sqF js) (W.alloc (.cells #[.int .u64 (s : Int)] 63)) hs (Boxed.new _ _ _) (hT.below hbw2) (enters_of Tryd.func100 (by kernel_rfl) rfl)
      (fun x hx W2 hb2 => demand1_any A c w.heap.size x js W2 (hr.below (hbw2.trans (hb2.mono hbw2.size))) (hB2.below hb2) (hlt x hx) hok)
      (fun x hx => by have := sqF_bd hok (hlt x hx); omega))
  have d0 := hB1.cell 0
  simp only [List.getElem?_toArray, List.getElem?_cons_zero] at d0
  have H1 := Lib.hid (And.intro hb1 hz1)
  rw [HTB.out] at HTM
  rw [hz1] at HTM
  clear hs hr hok hlt hT hB1 hb1 hz1 HTB
  generalize sumF (tmF js) (memB s) = s1 at *
  generalize sumF (sqF js) (memB s) = s2 at *
  obtain ⟨q, hq⟩ : ∃ q, q = s1 * s1 := ⟨_, rfl⟩
  rw [← hq] at b3 HD
  have hw1 : IntKind.i64.wrap (s1 * s1) = q := by rw [← hq]; exact IntWalk.i64_in q (by omega)
  have hw2 := IntWalk.i64_in (q + s2) (by omega)
  have hw3 : IntKind.i64.wrap ((q + s2).tdiv 2) = (q + s2) / 2 := by
    rw [Int.tdiv_eq_ediv_of_nonneg (by omega)]; exact IntWalk.i64_in _ (by omega)
  clear hq
  go_enter Tryd.func50, Tryd.ntmps50
  go_wp2_with fail
  refine HTM.out.mono ?_
  rintro e w2 ⟨rfl, hb2⟩
  have HB2 := Lib.hid (H1.out.1.trans (hb2.mono (Nat.le_succ _)))
  have HS := Lib.hid (HSO.out w2 hb2)
  clear hb2 HTM HSO
  go_wp2_with fail
  refine (members_any _ _).mono ?_
  rintro e _ ⟨rfl, rfl⟩
  go_wp2_with fail
  refine HS.out.mono ?_
  rintro e w3 ⟨rfl, hb3⟩
  have HB3 := Lib.hid ((HB2.out.alloc HB2.out.size (.cells #[.int .u64 (s : Int)] 63)).trans (hb3.mono (HB2.out.alloc HB2.out.size (.cells #[.int .u64 (s : Int)] 63)).size))
  clear hb3 HS
  go_wp2
  go_ret
  exact ⟨by rw [HD.out]; rfl, HB3.out⟩
end
end Go.Proofs.YtpoibjmkbljblaaDoor

end
section
namespace Go.Proofs.YtpoibjmkbljblaaDoor
open Go.RowKit
section
variable (A : Option Addr) (c s : Nat) (js : List J) (w : World) (hs : s < 256) (hr : Row w A (jc js)) (hok : ∀ j ∈ js, okJ j = true) (hlt : ∀ k, s.testBit k = true → k < js.length) (hT : TzTab w)
variable (C : Option Addr) (b : Nat) (en : List Int) (he : Row w C (ic en)) (hv : vecB js.length en = true)
include hs hr hok hlt hT he hv
set_option maxRecDepth 100000 in
set_option maxHeartbeats 2000000 in
theorem supply_any : Calls Tryd.prog 56 #[.agg #[.slice A js.length c, .slice C en.length b], .int .u64 (s : Int)] w fun e w' => e = .returned (.int .i64 (supL js en (memB s))) ∧ Below w.heap.size w w' := by
  have HD : Hid (supL js en (memB s) = sumF (spF js en) (memB s)) := rfl
  have hb1 := (Below.refl w.heap.size w).alloc (Nat.le_refl _) (.cells #[.slice A js.length c, .slice C en.length b] 70)
  have hB1 := BlockIs.new w 70 #[.slice A js.length c, .slice C en.length b]
  have hz1 : (w.alloc (.cells #[.slice A js.length c, .slice C en.length b] 70)).heap.size = w.heap.size + 1 := by simp
  have hbA := (Below.refl _ (w.alloc (.cells #[.slice A js.length c, .slice C en.length b] 70))).alloc (Nat.le_refl _) (.cells #[.int .u64 (s : Int)] 63)
  have hB2 := hB1.below hbA
  have hbw2 := hb1.trans (hbA.mono hb1.size)
  have HS := Lib.hid (sumOf_any 103 w.heap.size (w.alloc (.cells #[.slice A js.length c, .slice C en.length b] 70)).heap.size s (spF js en) ((w.alloc (.cells #[.slice A js.length c, .slice C en.length b] 70)).alloc (.cells #[.int .u64 (s : Int)] 63)) hs (Boxed.new _ _ _) (hT.below hbw2) (enters_of Tryd.func103 (by kernel_rfl) rfl)
      (fun x hx W2 hb2 => supply1_any A C c b w.heap.size x js en W2 (hr.below (hbw2.trans (hb2.mono hbw2.size))) (he.below (hbw2.trans (hb2.mono hbw2.size))) (hB2.below hb2) (hlt x hx) hok hv)
      (fun x hx => by have := spF_bd hok hv (hlt x hx); omega))
  rw [hz1] at HS
  have H1 := Lib.hid hb1
  clear hs hr hok hlt hT hB1 hb1 hz1 he hv hbA hB2 hbw2
  go_enter Tryd.func56, Tryd.ntmps56
  go_wp2_with fail
  refine (members_any _ _).mono ?_
  rintro e _ ⟨rfl, rfl⟩
  go_wp2_with fail
  refine HS.out.mono ?_
  rintro e w3 ⟨rfl, hb3⟩
  have HB2 := Lib.hid (H1.out.alloc H1.out.size (.cells #[.int .u64 (s : Int)] 63))
  have HB3 := Lib.hid (HB2.out.trans (hb3.mono HB2.out.size))
  clear hb3 HS
  go_wp2
  go_ret
  exact ⟨by rw [HD.out]; rfl, HB3.out⟩
end
end Go.Proofs.YtpoibjmkbljblaaDoor

end
section
namespace Go.Proofs.YtpoibjmkbljblaaDoor
open Go.RowKit
def inV (x : Int) : Bool := decide (0 ≤ x ∧ x ≤ 2000)
theorem endV1_any (x : Int) (w : World) : Calls Tryd.prog 102 #[.int .i64 x] w fun e w' => e = .returned (.bool (!inV x)) ∧ w = w' := by
  have HX : Hid (inV x = decide (0 ≤ x ∧ x ≤ 2000)) := rfl
  by_cases h1 : x < 0
  · have HF : Hid (inV x = false) := by show _ = _; rw [HX.out]; exact decide_eq_false (by omega)
    have d1 : decide (x < 0) = true := decide_eq_true h1
    clear HX
    go_enter Tryd.func102, Tryd.ntmps102
    go_wp2
    go_ret
    exact ⟨by rw [HF.out]; rfl, rfl⟩
  · by_cases h2 : 2000 < x
    · have HF : Hid (inV x = false) := by show _ = _; rw [HX.out]; exact decide_eq_false (by omega)
      have d1 : decide (x < 0) = false := decide_eq_false h1
      have d2 : decide (2000 < x) = true := decide_eq_true h2
      clear HX
      go_enter Tryd.func102, Tryd.ntmps102
      go_wp2
      go_ret
      exact ⟨by rw [HF.out]; rfl, rfl⟩
    · have HF : Hid (inV x = true) := by show _ = _; rw [HX.out]; exact decide_eq_true (by omega)
      have d1 : decide (x < 0) = false := decide_eq_false h1
      have d2 : decide (2000 < x) = false := decide_eq_false h2
      clear HX
      go_enter Tryd.func102, Tryd.ntmps102
      go_wp2
      go_ret
      exact ⟨by rw [HF.out]; rfl, rfl⟩
theorem allV_bad {e : List Int} {x : Int} (hx : x ∈ e) (h : inV x = false) : e.all inV = false := List.all_eq_false.2 ⟨x, hx, by rw [h]; decide⟩
theorem allV_of {e : List Int} (h : ∀ i (hi : i < e.length), i < e.length → inV e[i] = true) : e.all inV = true := List.all_eq_true.2 fun x hx => by
  obtain ⟨i, hi, rfl⟩ := List.getElem_of_mem hx
  exact h i hi hi
theorem allV_step {e : List Int} {k : Nat} (h : ∀ i (hi : i < e.length), i < k → inV e[i] = true) (hk : k < e.length) (h1 : inV e[k] = true) : ∀ i (hi : i < e.length), i < k + 1 → inV e[i] = true := fun i hi hik => by
  by_cases e1 : i = k
  · subst e1; exact h1
  · exact h i hi (by omega)
theorem indexV_any (B : Option Addr) (d : Nat) (e : List Int) (w : World) (hr : Row w B (ic e)) (hn : e.length ≤ 100000000) :
    Calls Tryd.prog 141 #[.slice B e.length d, .func (.func 102) #[] #[]] w fun r w' => ∃ i : Int, r = .returned (.int .i64 i) ∧ (0 ≤ i ↔ e.all inV = false) ∧ Below w.heap.size w w' := by
  have hcf : ∀ (args : Array Value) (w1 : World), (callFunc 102 args).run Tryd.prog w1 = .ok (.enter 102 args) w1 := enters_of Tryd.func102 (by kernel_rfl) rfl
  go_enter Tryd.func141, Tryd.ntmps141
  go_wp2
  go_loopw [8] (fun i wr => ∃ k : Nat, k ≤ e.length ∧ i = .int .i64 k ∧ Hid (∀ i (hi : i < e.length), i < k → inV e[i] = true) ∧ Below w.heap.size w wr) (fun i _ => e.length - (intOf i).toNat)
  case atStart => exact ⟨0, Nat.zero_le _, rfl, fun _ _ h => absurd h (by omega), Below.refl _ _⟩
  case round =>
    obtain ⟨k, hk, rfl, hA, hb⟩ := hrel
    by_cases hlt : k < e.length
    · obtain ⟨a, hA', hc0⟩ := (hr.below hb).int hlt
      subst hA'
      have HB := Lib.hid hb
      have hi : (0 : Int) ≤ k := by omega
      have hi' : (k : Int) < e.length := by omega
      cases ho : inV e[k]
      · have HG := Lib.hid (allV_bad (List.getElem_mem hlt) ho)
        clear hr hb hA
        generalize e[k] = x at *
        go_wp2_with fail
        refine (endV1_any x _).mono ?_
        rintro r _ ⟨rfl, rfl⟩
        rw [ho]
        go_wp2
        go_ret
        exact ⟨k, rfl, ⟨fun _ => HG.out, fun _ => by omega⟩, HB.out⟩
      · have HA := Lib.hid (allV_step hA.out hlt ho)
        clear hr hb hA
        generalize e[k] = x at *
        go_wp2_with fail
        refine (endV1_any x _).mono ?_
        rintro r _ ⟨rfl, rfl⟩
        rw [ho]
        go_wp2
        go_roundw
        case rel => exact ⟨k + 1, by omega, by go_num, HA.out, HB.out⟩
        case measure => simp [intOf]; omega
    · obtain rfl : k = e.length := by omega
      have HG := Lib.hid (allV_of hA.out)
      clear hA
      go_wp2
      go_ret
      exact ⟨-1, rfl, ⟨fun h => by omega, fun h => by rw [HG.out] at h; cases h⟩, hb⟩
theorem containsV_any (B : Option Addr) (d : Nat) (e : List Int) (w : World) (hr : Row w B (ic e)) (hn : e.length ≤ 100000000) :
    Calls Tryd.prog 101 #[.slice B e.length d, .func (.func 102) #[] #[]] w fun r w' => r = .returned (.bool (!e.all inV)) ∧ Below w.heap.size w w' := by
  go_enter Tryd.func101, Tryd.ntmps101
  go_wp2_with fail
  refine (indexV_any B d e _ hr hn).mono ?_
  rintro r w1 ⟨i, rfl, hr1, hb1⟩
  by_cases h0 : 0 ≤ i
  · have H := Lib.hid (hr1.1 h0)
    have d0 : decide (0 ≤ i) = true := decide_eq_true h0
    clear hr1
    go_wp2
    go_ret
    exact ⟨by rw [H.out]; rfl, hb1⟩
  · have H : Hid (e.all inV = true) := by
      show _ = _
      cases h : e.all inV with
      | true => rfl
      | false => exact absurd (hr1.2 h) h0
    have d0 : decide (0 ≤ i) = false := decide_eq_false h0
    clear hr1
    go_wp2
    go_ret
    exact ⟨by rw [H.out]; rfl, hb1⟩
/-- What endVectorOf hands back. -/
def VecIs (A : Option Addr) (c : Nat) (C : Option Addr) (b : Nat) (js : List J) (en : List Int) (w : World) (e : Ending) (w' : World) : Prop := Below w.heap.size w w' ∧
  (plainL js = true ∧ vecB js.length en = true ∧ e = .returned (.tuple #[.agg #[.slice A js.length c, .slice C en.length b], .bool true]) ∨
   (plainL js && vecB js.length en) = false ∧ e = .returned (.tuple #[.agg #[.slice none 0 0, .slice none 0 0], .bool false]))
set_option maxRecDepth 100000 in
set_option maxHeartbeats 2000000 in
theorem endVectorOf_any (A C : Option Addr) (c b : Nat) (js : List J) (en : List Int) (w : World) (hr : Row w A (jc js)) (he : Row w C (ic en)) (hn : js.length ≤ 10000000) (_hm : en.length ≤ 10000000) :
    Calls Tryd.prog 54 #[.slice A js.length c, .slice C en.length b] w (VecIs A c C b js en w) := by
  have HV : Hid (vecB js.length en = (decide (en.length = js.length) && en.all inV)) := rfl
  have hb0 := (Below.refl w.heap.size w).alloc (Nat.le_refl _) (.cells #[.slice none 0 0, .slice none 0 0] 70)
  have HB0 := Lib.hid (And.intro hb0 (BlockIs.new w 70 #[.slice none 0 0, .slice none 0 0]))
  have HP := Lib.hid (plainListOf_any A c js _ (hr.below hb0) (by omega))
  have HE := Lib.hid he
  clear hr he hb0
  go_enter Tryd.func54, Tryd.ntmps54
  go_wp2_with fail
  refine HP.out.mono ?_
  rintro e1 w1 ⟨hb1, hcase⟩
  have HW := Lib.hid (And.intro (HB0.out.1.trans (hb1.mono HB0.out.1.size)) (HB0.out.2.below hb1))
  clear hb1 HP HB0
  have q0 := HW.out.2.cell 0
  have q1 := HW.out.2.cell 1
  simp only [List.getElem?_toArray, List.getElem?_cons_zero, List.getElem?_cons_succ] at q0 q1
  have fz0 := HW.out.2.frozen 0
  have fz1 := HW.out.2.frozen 1
  rcases hcase with ⟨hp, rfl⟩ | ⟨hp, rfl⟩
  · by_cases hel : en.length = js.length
    · have hne : ((en.length : Int) != (js.length : Int)) = false := by rw [hel]; simp
      have HC := Lib.hid (containsV_any C b en w1 (HE.out.below HW.out.1) (by omega))
      have HEL := Lib.hid hel
      cases hv : en.all inV
      · have HN : Hid ((plainL js && vecB js.length en) = false) := by show _ = _; rw [HV.out, hv, Bool.and_false, Bool.and_false]
        rw [hv] at HC
        clear hv hel
        go_wp2_with fail
        refine HC.out.mono ?_
        rintro r w2 ⟨rfl, hb2⟩
        have HW2 := Lib.hid (And.intro (HW.out.1.trans (hb2.mono HW.out.1.size)) (HW.out.2.below hb2))
        clear hb2 HC HW q0 q1 fz0 fz1
        have q0 := HW2.out.2.cell 0
        have q1 := HW2.out.2.cell 1
        simp only [List.getElem?_toArray, List.getElem?_cons_zero, List.getElem?_cons_succ] at q0 q1
        have fz0 := HW2.out.2.frozen 0
        have fz1 := HW2.out.2.frozen 1
        go_wp2
        have hq := (HW2.out.2.set 0 (.slice none 0 0)).set 1 (.slice none 0 0)
        have hbf := (HW2.out.1.setCell (p := ⟨w.heap.size, 0, none⟩) (Nat.le_refl _) (.slice none 0 0)).setCell (p := ⟨w.heap.size, 1, none⟩) (Nat.le_refl _) (.slice none 0 0)
        generalize (w2.setCell ⟨w.heap.size, 0, none⟩ (.slice none 0 0)).setCell ⟨w.heap.size, 1, none⟩ (.slice none 0 0) = W at *
        have r0 := hq.cell 0
        have r1 := hq.cell 1
        simp at r0 r1
        exact bodyPost_ret (v := .tuple #[.agg #[.slice none 0 0, .slice none 0 0], .bool false]) (by simp [results, Tryd.results54, r0, r1, go_sem]) rfl ⟨hbf, .inr ⟨HN.out, rfl⟩⟩
      · have HN : Hid (vecB js.length en = true) := by show _ = _; rw [HV.out, hv, decide_eq_true hel]; rfl
        rw [hv] at HC
        clear hv hel
        go_wp2_with fail
        refine HC.out.mono ?_
        rintro r w2 ⟨rfl, hb2⟩
        have HW2 := Lib.hid (And.intro (HW.out.1.trans (hb2.mono HW.out.1.size)) (HW.out.2.below hb2))
        clear hb2 HC HW q0 q1 fz0 fz1
        have q0 := HW2.out.2.cell 0
        have q1 := HW2.out.2.cell 1
        simp only [List.getElem?_toArray, List.getElem?_cons_zero, List.getElem?_cons_succ] at q0 q1
        have fz0 := HW2.out.2.frozen 0
        have fz1 := HW2.out.2.frozen 1
        go_wp2
        have hq := (HW2.out.2.set 0 (.slice A js.length c)).set 1 (.slice C en.length b)
        have hbf := (HW2.out.1.setCell (p := ⟨w.heap.size, 0, none⟩) (Nat.le_refl _) (.slice A js.length c)).setCell (p := ⟨w.heap.size, 1, none⟩) (Nat.le_refl _) (.slice C en.length b)
        generalize (w2.setCell ⟨w.heap.size, 0, none⟩ (.slice A js.length c)).setCell ⟨w.heap.size, 1, none⟩ (.slice C en.length b) = W at *
        have r0 := hq.cell 0
        have r1 := hq.cell 1
        simp at r0 r1
        exact bodyPost_ret (v := .tuple #[.agg #[.slice A js.length c, .slice C en.length b], .bool true]) (by simp [results, Tryd.results54, r0, r1, go_sem]) rfl ⟨hbf, .inl ⟨hp, HN.out, rfl⟩⟩
    · have hne : ((en.length : Int) != (js.length : Int)) = true := by simp; omega
      have HN : Hid ((plainL js && vecB js.length en) = false) := by show _ = _; rw [HV.out, decide_eq_false hel, Bool.false_and, Bool.and_false]
      clear hel
      go_wp2
      have hq := (HW.out.2.set 0 (.slice none 0 0)).set 1 (.slice none 0 0)
      have hbf := (HW.out.1.setCell (p := ⟨w.heap.size, 0, none⟩) (Nat.le_refl _) (.slice none 0 0)).setCell (p := ⟨w.heap.size, 1, none⟩) (Nat.le_refl _) (.slice none 0 0)
      generalize (w1.setCell ⟨w.heap.size, 0, none⟩ (.slice none 0 0)).setCell ⟨w.heap.size, 1, none⟩ (.slice none 0 0) = W at *
      have r0 := hq.cell 0
      have r1 := hq.cell 1
      simp at r0 r1
      exact bodyPost_ret (v := .tuple #[.agg #[.slice none 0 0, .slice none 0 0], .bool false]) (by simp [results, Tryd.results54, r0, r1, go_sem]) rfl ⟨hbf, .inr ⟨HN.out, rfl⟩⟩
  · have HN : Hid ((plainL js && vecB js.length en) = false) := by show _ = _; rw [hp, Bool.false_and]
    clear hp
    go_wp2
    have hq := (HW.out.2.set 0 (.slice none 0 0)).set 1 (.slice none 0 0)
    have hbf := (HW.out.1.setCell (p := ⟨w.heap.size, 0, none⟩) (Nat.le_refl _) (.slice none 0 0)).setCell (p := ⟨w.heap.size, 1, none⟩) (Nat.le_refl _) (.slice none 0 0)
    generalize (w1.setCell ⟨w.heap.size, 0, none⟩ (.slice none 0 0)).setCell ⟨w.heap.size, 1, none⟩ (.slice none 0 0) = W at *
    have r0 := hq.cell 0
    have r1 := hq.cell 1
    simp at r0 r1
    exact bodyPost_ret (v := .tuple #[.agg #[.slice none 0 0, .slice none 0 0], .bool false]) (by simp [results, Tryd.results54, r0, r1, go_sem]) rfl ⟨hbf, .inr ⟨HN.out, rfl⟩⟩
end Go.Proofs.YtpoibjmkbljblaaDoor

end
