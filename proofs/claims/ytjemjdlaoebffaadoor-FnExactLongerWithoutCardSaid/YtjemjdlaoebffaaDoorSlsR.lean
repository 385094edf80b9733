/- Slices of slices of ints: what an append behind them, and an append behind one of them, does. -/
import Derived.Test.YtjemjdlaoebffaaDoorKb2
import Derived.Deep.RegionLaw
import Derived.Deep.RegionWith
namespace Go.Proofs.YtjemjdlaoebffaaDoor
open Go.RowKit
theorem step_app {P : Program} {ops : Array Oper} {o : Oper} {a : Act} {w w' : World} {K : Act → World → Prop} {Q : Exit → Act → World → Prop} {E : Prop} (hg : o.guard = none) (s x : Operand) (t : TypeId)
    (hop : o.op = Op.call { callee := Callee.builtin Builtin.append, args := #[s, x], argTypes := #[t, t] }) (v u r : Value) (hs : a.eval s = v) (hx : a.eval x = u) (hr : (Builtin.append_ #[t, t] o.type #[v, u]).run P w = .ok r w') (hK : K (a.put o.dst r) w') :
    if Region.wanted o (yielded ops a.tmps) = true then Oper.wp P o a w K Q else E := by
  have hw : Region.wanted o (yielded ops a.tmps) = true := by simp [Region.wanted, hg]
  rw [if_pos hw]
  unfold Oper.wp
  simp [execOp, hop, resolve, invoke, builtin, hs, hx, hr, Result.andThen]
  exact hK
theorem wpList_app {P : Program} {ops : Array Oper} {rest : List Oper} {o : Oper} {a : Act} {w w' : World} {Q : Exit → Act → World → Prop} (hgd : o.guard = none) (s x : Operand) (t : TypeId)
    (ho : o.op = .call { callee := .builtin .append, args := #[s, x], argTypes := #[t, t] }) (v u r : Value) (hs : a.eval s = v) (hx : a.eval x = u) (hr : (Builtin.append_ #[t, t] o.type #[v, u]).run P w = .ok r w')
    (h : wpList P ops Q rest (a.put o.dst r) w') : wpList P ops Q (o :: rest) a w := by
  refine wpList_plain hgd fun K hK => ?_
  unfold Oper.wp execOp
  simp only [ho, resolve, invoke, builtin, Sem.run_bind, Sem.run_pure, Result.andThen_ok, List.map_toArray, List.map_cons, List.map_nil, hs, hx, hr]
  exact hK _ _ h
theorem row_srcS {w : World} {ad : Addr} {cs : List Value} (h : Row w (some ad) cs) : ∀ j u, cs[j]? = some u → w.cell? (ad.add j) = some u := by
  intro j u hu
  obtain ⟨a', h1, _, h3⟩ := h (Nat.lt_of_le_of_lt (Nat.zero_le _) (List.getElem?_eq_some_iff.1 hu).1)
  obtain rfl := Option.some.inj h1
  exact h3 j u hu
theorem infoIS : (Tryd.prog.info? 3).map (fun i => (i.zero, i.size, i.bytes)) = some (some (.int .i64 0), 1, 8) := by kernel_rfl
theorem infoSS : (Tryd.prog.info? 23).map (fun i => (i.zero, i.size, i.bytes)) = some (some (.slice none 0 0), 1, 24) := by kernel_rfl
def csS (gs : List (List Nat)) : List (List Value) := gs.map fun g => ic (gs1 g) where gs1 (g : List Nat) : List Int := g.map Int.ofNat
theorem csS_len (gs : List (List Nat)) : (csS gs).length = gs.length := by unfold csS; simp
theorem csS_snoc (gs : List (List Nat)) (g : List Nat) : csS (gs ++ [g]) = csS gs ++ [ic (g.map Int.ofNat)] := by unfold csS csS.gs1; simp
/-- A block of ints that lay below a bound is as it was. -/
def KeepInt (C : Nat) (w w' : World) : Prop := ∀ g cs, g < C → BlockIs w g 3 cs → BlockIs w' g 3 cs
/-- Where a slice of them lies. -/
theorem OwnV.at_ {w : World} {vs : List (Option Addr × Nat)} {B C g cap : Nat} {css : List (List Value)} (h : OwnV vs B C w (.slice (some ⟨g, 0, none⟩) css.length cap) css) {m : Nat} (hm : m < css.length) :
    w.cell? ⟨g, m, none⟩ = some (.slice (vs[m]'(by have := h.1; omega)).1 css[m].length (vs[m]'(by have := h.1; omega)).2) := by
  have h1 := h.1
  have hr := Row.of_own h.2.1
  have := hr.cell0 (k := m) (by rw [slC_len h1]; exact hm)
  rw [this]
  exact congrArg some (slC_get h1 hm)
/-- One number more behind one of them. -/
theorem ext_at {w0 w : World} {C : Nat} {vs : List (Option Addr × Nat)} {g cap : Nat} {css : List (List Value)} (h : OwnV vs w0.heap.size C w (.slice (some ⟨g, 0, none⟩) css.length cap) css) (hBC : w0.heap.size ≤ C) (hC : C ≤ w.heap.size) (hb : Below w0.heap.size w0 w) (x : Int) {m : Nat} (hm : m < css.length) (hn : css[m].length ≤ 100) :
    ∃ v' w2 vs', (Builtin.append_ #[23, 23] 23 #[.slice (vs[m]'(by have := h.1; omega)).1 css[m].length (vs[m]'(by have := h.1; omega)).2, .slice (some ⟨w.heap.size, 0, none⟩) 1 1]).run Tryd.prog (w.alloc (.cells #[.int .i64 x] 3)) = .ok v' w2 ∧
      OwnV vs' w0.heap.size C (w2.setCell ⟨g, m, none⟩ v') (.slice (some ⟨g, 0, none⟩) css.length cap) (css.set m (css[m] ++ [.int .i64 x])) ∧ (∃ old, w2.cell? ⟨g, m, none⟩ = some old) ∧ w2.frozen? ⟨g, m, none⟩ = false ∧ (∃ A' n' c', v' = .slice A' n' c') ∧ Below w0.heap.size w0 (w2.setCell ⟨g, m, none⟩ v') ∧ KeepInt C w (w2.setCell ⟨g, m, none⟩ v') ∧ w.heap.size ≤ w2.heap.size := by
  obtain ⟨i0, hi, hz0, hz1, hz2⟩ := info_parts infoIS
  have h1 := h.1
  have hsz := hb.size
  have hb1 := hb.alloc hsz (.cells #[.int .i64 x] 3)
  have hbw : Below w.heap.size w (w.alloc (.cells #[.int .i64 x] 3)) := (Below.refl _ w).alloc (Nat.le_refl _) _
  have h2 := own_blw (h.2.2.1 m hm (by omega)) hbw
  have hsrc := row_srcS (Row.new w 3 #[.int .i64 x])
  obtain ⟨v', w2, hrun, ho2, hgr, hob⟩ := append_at (P := Tryd.prog) (w.alloc (.cells #[.int .i64 x] 3)) C 23 23 3 i0 (.int .i64 0) 1 8 Tryd.underlying23 hi hz0 hz1 hz2 rfl (by decide) _ _ _ h2 ⟨w.heap.size, 0, none⟩ 1 1 [.int .i64 x] rfl hsrc (by intro u hu; simp at hu; subst hu; rfl) (by omega) (by unfold maxLen; omega) (by omega) (by simp; omega)
  obtain ⟨A', c', rfl, _⟩ := own_slice ho2
  have hL : css[m].length + 1 = (css[m] ++ [Value.int .i64 x]).length := by simp
  rw [hL] at ho2 hob hrun
  obtain ⟨hV, hc, hf, hgB⟩ := OwnV.ext h rfl hm (.cells #[.int .i64 x] 3) ho2 hgr hob
  have hb2 : Below w0.heap.size w0 w2 := hb1.grown hgr hb1.size (fun j hj => Nat.le_trans hBC (h2.lt j hj).1)
  have hgo := own_type (g := g) h.2.1 rfl
  have hkeep : KeepInt C w (w2.setCell ⟨g, m, none⟩ (.slice A' (css[m] ++ [Value.int .i64 x]).length c')) := fun q cs hq hB => by
    have hB1 := hB.below hbw
    have hB2 : BlockIs w2 q 3 cs := (hgr.block q hB1.lt fun e => by have := (h2.lt q e.symm).1; omega).trans hB1
    obtain ⟨_, _, c1, t1⟩ := hgo
    exact (Below.heap_setCell _ _ _ _ (type_ne hB t1 (by decide))).trans hB2
  have hsz2 : w.heap.size ≤ w2.heap.size := Nat.le_trans hbw.size hgr.size
  exact ⟨_, w2, _, hrun, hV, ⟨_, hc⟩, hf, ⟨_, _, _, rfl⟩, hb2.setCell (p := ⟨g, m, none⟩) hgB _, hkeep, hsz2⟩
/-- One number more behind the last of them. -/
theorem ext_last {w0 w : World} {C : Nat} {vs : List (Option Addr × Nat)} {g cap n : Nat} {css : List (List Value)} {cs : List Value} (h : OwnV vs w0.heap.size C w (.slice (some ⟨g, 0, none⟩) (n + 1) cap) (css ++ [cs])) (hBC : w0.heap.size ≤ C) (hC : C ≤ w.heap.size) (hl : css.length = n) (hb : Below w0.heap.size w0 w) (x : Int) (hn : cs.length ≤ 100) :
    ∃ A' c', w.cell? ⟨g, n, none⟩ = some (.slice A' cs.length c') ∧ g < w.heap.size ∧ ∃ v' w2 vs', (Builtin.append_ #[23, 23] 23 #[.slice A' cs.length c', .slice (some ⟨w.heap.size, 0, none⟩) 1 1]).run Tryd.prog (w.alloc (.cells #[.int .i64 x] 3)) = .ok v' w2 ∧
      OwnV vs' w0.heap.size C (w2.setCell ⟨g, n, none⟩ v') (.slice (some ⟨g, 0, none⟩) (n + 1) cap) (css ++ [cs ++ [.int .i64 x]]) ∧ (∃ old, w2.cell? ⟨g, n, none⟩ = some old) ∧ w2.frozen? ⟨g, n, none⟩ = false ∧ (∃ A' n' c', v' = .slice A' n' c') ∧ Below w0.heap.size w0 (w2.setCell ⟨g, n, none⟩ v') ∧ KeepInt C w (w2.setCell ⟨g, n, none⟩ v') ∧ w.heap.size ≤ w2.heap.size := by
  subst hl
  have hL : css.length + 1 = (css ++ [cs]).length := by simp
  rw [hL] at h
  have hm : css.length < (css ++ [cs]).length := by simp
  have hat : (css ++ [cs])[css.length]'hm = cs := by rw [List.getElem_append_right (Nat.le_refl _)]; simp
  have hc := h.at_ hm
  have hg := (own_type (g := g) h.2.1 rfl).1
  obtain ⟨v', w2, vs', hrun, hV, ho, hf, hv, hb2, hk2, hz2⟩ := ext_at h hBC hC hb x hm (by rw [hat]; exact hn)
  rw [hat] at hc hrun hV
  rw [← hL, show (css ++ [cs]).set css.length (cs ++ [Value.int .i64 x]) = css ++ [cs ++ [Value.int .i64 x]] by rw [List.set_append_right _ _ (Nat.le_refl _)]; simp] at hV
  exact ⟨_, _, hc, hg, v', w2, vs', hrun, hV, ho, hf, hv, hb2, hk2, hz2⟩
end Go.Proofs.YtjemjdlaoebffaaDoor
