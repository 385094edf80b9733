/- What is still to be done of each job: the program's array. -/
import Derived.Test.YtnkoncplfedffaaSpn
import Derived.Test.YtnkoncplfedffaaEnds
import Derived.ChangeKeysEq
namespace Go.Proofs.Ytnkoncplfedffaa
open Go.RowKit
theorem forIn_ge {P : Program} {e : TypeId} (w : World) (xs ys : List Int) (D : Nat) (hE : ∀ a b : Int, (Op.equalIn D e (.int .i64 a) (.int .i64 b)).run P w = .ok (a == b) w) (hk : P.plainKey e = true) (hl : xs.length = ys.length) : ∀ (l : List Nat), (∀ i ∈ l, i < xs.length) →
    (forIn (m := Sem) l ((none, ()) : Option Bool × Unit) fun i _ => do
        let a ← part e (ic xs).toArray (i * 1)
        let b ← part e (ic ys).toArray (i * 1)
        let r ← Op.equalIn D e a b
        if (!r) = true then pure (.done (some false, ())) else pure (.yield (none, ()))).run P w = .ok (if l.all (fun i => xs.getD i 0 == ys.getD i 0) then (none, ()) else (some false, ())) w
  | [], _ => by simp
  | i :: l, h => by
    have hi := h i List.mem_cons_self
    have hx : (ic xs).toArray[i * 1]? = some (.int .i64 (xs.getD i 0)) := by simp [ic, hi]
    have hy : (ic ys).toArray[i * 1]? = some (.int .i64 (ys.getD i 0)) := by simp [ic, hl ▸ hi]
    have ih := forIn_ge w xs ys D hE hk hl l (fun j hj => h j (List.mem_cons_of_mem _ hj))
    simp only [List.forIn_cons, Sem.run_bind, run_part_plain w hk hx, run_part_plain w hk hy, Result.andThen_ok, hE]
    rw [List.all_cons]
    generalize (xs.getD i 0 == ys.getD i 0) = b
    cases b
    · simp
    · simp only [Bool.not_true, Bool.false_eq_true, if_false, Sem.run_pure, Result.andThen_ok, Bool.true_and]
      exact ih
theorem all_eq {xs ys : List Int} (h : xs.length = ys.length) : (List.range xs.length).all (fun i => xs.getD i 0 == ys.getD i 0) = decide (xs = ys) := by
  rw [Bool.eq_iff_iff, List.all_eq_true, decide_eq_true_iff]
  constructor
  · intro hall
    apply List.ext_getElem h
    intro i h1 h2
    have := hall i (List.mem_range.2 h1)
    rw [beq_iff_eq, List.getD_eq_getElem?_getD, List.getD_eq_getElem?_getD, List.getElem?_eq_getElem h1, List.getElem?_eq_getElem h2] at this
    exact this
  · rintro rfl i _
    simp
theorem run_eq_arrD {P : Program} {t e : TypeId} {i : TypeInfo} (xs ys : List Int) (w : World) (n D : Nat) (ht : P.underlying t = some (.array n e)) (hE : ∀ a b : Int, (Op.equalIn D e (.int .i64 a) (.int .i64 b)).run P w = .ok (a == b) w) (hi : P.info? e = some i) (hc : P.cellsOf e = 1) (hk : P.plainKey e = true) (hx : xs.length = n) (hy : ys.length = n) :
    (Op.equalIn (D + 1) t (.agg (ic xs).toArray) (.agg (ic ys).toArray)).run P w = .ok (decide (xs = ys)) w := by
  have := forIn_ge w xs ys D hE hk (hx.trans hy.symm) (List.range n) (fun j hj => by rw [hx]; exact List.mem_range.1 hj)
  simp only [Op.equalIn, Sem.run_bind, run_underlying ht, Result.andThen_ok, run_sizeOf w hi, hc, Std.Legacy.Range.forIn_eq_forIn_range']
  rw [show List.range' ([:n] : Std.Legacy.Range).start ([:n] : Std.Legacy.Range).size ([:n] : Std.Legacy.Range).step = List.range n by simp [Std.Legacy.Range.size, List.range_eq_range']]
  rw [this, ← hx, all_eq (hx.trans hy.symm)]
  cases hd : decide (xs = ys) <;> simp
theorem run_eq_arr {P : Program} {t e : TypeId} {i : TypeInfo} (xs ys : List Int) (w : World) (n d : Nat) (ht : P.underlying t = some (.array n e)) (he : P.underlying e = some (.int .i64)) (hi : P.info? e = some i) (hc : P.cellsOf e = 1) (hk : P.plainKey e = true) (hx : xs.length = n) (hy : ys.length = n) :
    (Op.equalIn (d + 2) t (.agg (ic xs).toArray) (.agg (ic ys).toArray)).run P w = .ok (decide (xs = ys)) w :=
  run_eq_arrD xs ys w n (d + 1) ht (fun a b => run_equalIn_int w d e .i64 .i64 a b he) hi hc hk hx hy
/-- An array of eight numbers as a value. -/
abbrev agg8 (R : List Int) : Value := .agg (ic R).toArray
theorem list8 {R : List Int} (h : R.length = 8) : ∃ a b c d e f g i, R = [a, b, c, d, e, f, g, i] := by
  obtain _ | ⟨a, R⟩ := R
  · cases h
  obtain _ | ⟨b, R⟩ := R
  · cases h
  obtain _ | ⟨c, R⟩ := R
  · cases h
  obtain _ | ⟨d, R⟩ := R
  · cases h
  obtain _ | ⟨e, R⟩ := R
  · cases h
  obtain _ | ⟨f, R⟩ := R
  · cases h
  obtain _ | ⟨g, R⟩ := R
  · cases h
  obtain _ | ⟨i, R⟩ := R
  · cases h
  obtain _ | ⟨j, R⟩ := R
  · exact ⟨a, b, c, d, e, f, g, i, rfl⟩
  · simp at h
theorem run_eq8 (xs : List Int) (h : xs.length = 8) (w : World) : (Op.equalIn 10000 105 (agg8 xs) (agg8 (List.replicate 8 0))).run Try.prog w = .ok (decide (xs = List.replicate 8 0)) w := by
  obtain ⟨i, hi, _⟩ := Option.map_eq_some_iff.1 infoI
  exact run_eq_arr (P := Try.prog) xs (List.replicate 8 0) w 8 9998 Try.underlying105 Try.underlying3 hi (by kernel_rfl) (by kernel_rfl) h rfl
set_option maxRecDepth 100000 in
theorem areDone_any (R : List Int) (h : R.length = 8) (w : World) :
    Calls Try.prog 116 #[agg8 R] w fun e w' => e = .returned (.bool (decide (R = List.replicate 8 0))) ∧ Below w.heap.size w w' := by
  have hq := run_eq8 R h (w.alloc (.cells (ic R).toArray 105))
  obtain ⟨a, b, c, d, e, f, g, i, rfl⟩ := list8 h
  clear h
  generalize decide ([a, b, c, d, e, f, g, i] = List.replicate 8 0) = ans at *
  have hE : (Op.equalIn 10000 105 (.agg #[.int .i64 a, .int .i64 b, .int .i64 c, .int .i64 d, .int .i64 e, .int .i64 f, .int .i64 g, .int .i64 i]) (.agg #[.int .i64 0, .int .i64 0, .int .i64 0, .int .i64 0, .int .i64 0, .int .i64 0, .int .i64 0, .int .i64 0])).run Try.prog (w.alloc (.cells #[.int .i64 a, .int .i64 b, .int .i64 c, .int .i64 d, .int .i64 e, .int .i64 f, .int .i64 g, .int .i64 i] 105)) = .ok ans (w.alloc (.cells #[.int .i64 a, .int .i64 b, .int .i64 c, .int .i64 d, .int .i64 e, .int .i64 f, .int .i64 g, .int .i64 i] 105)) := hq
  clear hq
  rw [show agg8 [a, b, c, d, e, f, g, i] = .agg #[.int .i64 a, .int .i64 b, .int .i64 c, .int .i64 d, .int .i64 e, .int .i64 f, .int .i64 g, .int .i64 i] from rfl]
  go_enter Try.func116, Try.ntmps116
  go_wp2
  go_ret
  exact ⟨rfl, (Below.refl _ _).alloc (Nat.le_refl _) _⟩
theorem BlockIs.other {w : World} {g : Nat} {t : TypeId} {cs : Array Value} (h : BlockIs w g t cs) {a : Addr} (hne : g ≠ a.block) (u : Value) : BlockIs (w.setCell a u) g t cs :=
  (Below.heap_setCell w a u g hne).trans h
theorem below_and {w W1 W2 : World} (h : Below w.heap.size w W1) (h2 : Below W1.heap.size W1 W2) : Below w.heap.size w W2 := h.trans (h2.mono h.size)
set_option maxRecDepth 100000 in
set_option maxHeartbeats 1000000 in
theorem restsOf_any (A : Option Addr) (c : Nat) (js : List J) (w : World) (hr : Row w A (jc js)) (h8 : js.length ≤ 8) :
    Calls Try.prog 80 #[.slice A js.length c] w fun e w' => e = .returned (agg8 (timesR js)) ∧ Below w.heap.size w w' := by
  have h0 : BlockIs ((w.alloc (.cells (ic (List.replicate 8 0)).toArray 105)).alloc (.cells (ic (List.replicate 8 0)).toArray 105)) w.heap.size 105 (ic (List.replicate 8 0)).toArray :=
    (BlockIs.new w 105 _).below ((Below.refl _ _).alloc (Nat.le_refl _) _)
  have h1 : BlockIs ((w.alloc (.cells (ic (List.replicate 8 0)).toArray 105)).alloc (.cells (ic (List.replicate 8 0)).toArray 105)) (w.heap.size + 1) 105 (ic (timesTo js 0)).toArray := by
    have := BlockIs.new (w.alloc (.cells (ic (List.replicate 8 0)).toArray 105)) 105 (ic (List.replicate 8 0)).toArray
    rwa [show (w.alloc (.cells (ic (List.replicate 8 0)).toArray 105)).heap.size = w.heap.size + 1 by simp] at this
  have h2 : Below w.heap.size w ((w.alloc (.cells (ic (List.replicate 8 0)).toArray 105)).alloc (.cells (ic (List.replicate 8 0)).toArray 105)) :=
    ((Below.refl _ _).alloc (Nat.le_refl _) _).alloc (by simp) _
  go_enter Try.func80, Try.ntmps80
  go_wp2
  go_loopw [9] (fun i wr => ∃ k : Nat, k ≤ js.length ∧ i = .int .i64 k ∧ BlockIs wr (w.heap.size + 1) 105 (ic (timesTo js k)).toArray ∧ BlockIs wr w.heap.size 105 (ic (List.replicate 8 0)).toArray ∧ Below w.heap.size w wr) (fun i _ => js.length - (intOf i).toNat)
  case atStart => exact ⟨0, Nat.zero_le _, rfl, h1, h0, h2⟩
  case round =>
    obtain ⟨k, hk, rfl, hB, hZ, hb⟩ := hrel
    clear h0 h1 h2
    by_cases hlt : k < js.length
    · obtain ⟨ad, hA, hbl, hc0, hc1, hc2, hc3⟩ := (hr.below hb).job hlt
      subst hA
      have hk0 : (0 : Int) ≤ k := by omega
      have hk1 : (k : Int) < 8 := by omega
      have hbW : Below wr.heap.size wr (wr.alloc (.cells #[.int .i64 js[k].t, .int .i64 js[k].w, .int .i64 js[k].r, .int .i64 js[k].d] 52)) := (Below.refl _ _).alloc (Nat.le_refl _) _
      have hBW := hB.below hbW
      have hck := hBW.int (k := k) (by rw [timesTo_len]; omega)
      have hfz := hBW.frozen k
      have HB := Lib.hid (hBW.set k (.int .i64 js[k].t))
      rw [ic_set, timesTo_succ js k hlt] at HB
      have HZ : Hid (BlockIs ((wr.alloc (.cells #[.int .i64 js[k].t, .int .i64 js[k].w, .int .i64 js[k].r, .int .i64 js[k].d] 52)).setCell ⟨w.heap.size + 1, k, none⟩ (.int .i64 js[k].t)) w.heap.size 105 (ic (List.replicate 8 0)).toArray) :=
        (hZ.below hbW).other (by simp) _
      have Hb := Lib.hid ((below_and hb hbW).setCell (p := ⟨w.heap.size + 1, k, none⟩) (by simp) (.int .i64 js[k].t))
      clear hr hb hB hZ hbW hBW
      generalize js[k] = j at *
      go_wp2
      go_roundw
      case rel => exact ⟨k + 1, by omega, by go_num, HB.out, HZ.out, Hb.out⟩
      case measure => simp [intOf]; omega
    · obtain rfl : k = js.length := by omega
      obtain ⟨a, b, c', d, e, f, g, i, hR⟩ := list8 (timesTo_len js js.length)
      rw [hR] at hB
      have HR : Hid (timesR js = [a, b, c', d, e, f, g, i]) := (timesTo_all js).symm.trans hR
      have hc0 := hB.cell 0
      have hz0 := hZ.cell 0
      have hf0 := hZ.frozen 0
      have hc1 := hB.cell 1
      have hz1 := hZ.cell 1
      have hf1 := hZ.frozen 1
      have hc2 := hB.cell 2
      have hz2 := hZ.cell 2
      have hf2 := hZ.frozen 2
      have hc3 := hB.cell 3
      have hz3 := hZ.cell 3
      have hf3 := hZ.frozen 3
      have hc4 := hB.cell 4
      have hz4 := hZ.cell 4
      have hf4 := hZ.frozen 4
      have hc5 := hB.cell 5
      have hz5 := hZ.cell 5
      have hf5 := hZ.frozen 5
      have hc6 := hB.cell 6
      have hz6 := hZ.cell 6
      have hf6 := hZ.frozen 6
      have hc7 := hB.cell 7
      have hz7 := hZ.cell 7
      have hf7 := hZ.frozen 7
      simp only [ic, List.replicate, List.map_cons, List.map_nil, List.getElem?_toArray, List.getElem?_cons_zero, List.getElem?_cons_succ] at hc0 hc1 hc2 hc3 hc4 hc5 hc6 hc7 hz0 hz1 hz2 hz3 hz4 hz5 hz6 hz7
      have Hb := Lib.hid (((((((((hb.setCell (p := ⟨w.heap.size, 0, none⟩) (Nat.le_refl _) (.int .i64 a)).setCell (p := ⟨w.heap.size, 1, none⟩) (Nat.le_refl _) (.int .i64 b)).setCell (p := ⟨w.heap.size, 2, none⟩) (Nat.le_refl _) (.int .i64 c')).setCell (p := ⟨w.heap.size, 3, none⟩) (Nat.le_refl _) (.int .i64 d)).setCell (p := ⟨w.heap.size, 4, none⟩) (Nat.le_refl _) (.int .i64 e)).setCell (p := ⟨w.heap.size, 5, none⟩) (Nat.le_refl _) (.int .i64 f)).setCell (p := ⟨w.heap.size, 6, none⟩) (Nat.le_refl _) (.int .i64 g)).setCell (p := ⟨w.heap.size, 7, none⟩) (Nat.le_refl _) (.int .i64 i)))
      have HZ := Lib.hid ((((((((hZ.set 0 (.int .i64 a)).set 1 (.int .i64 b)).set 2 (.int .i64 c')).set 3 (.int .i64 d)).set 4 (.int .i64 e)).set 5 (.int .i64 f)).set 6 (.int .i64 g)).set 7 (.int .i64 i))
      clear hr hb hB hZ hR
      go_wp2
      have hZ := HZ.out
      generalize World.setCell _ _ _ = W at *
      have hq : BlockIs W w.heap.size 105 #[.int .i64 a, .int .i64 b, .int .i64 c', .int .i64 d, .int .i64 e, .int .i64 f, .int .i64 g, .int .i64 i] := hZ
      have q0 := hq.cell 0
      have q1 := hq.cell 1
      have q2 := hq.cell 2
      have q3 := hq.cell 3
      have q4 := hq.cell 4
      have q5 := hq.cell 5
      have q6 := hq.cell 6
      have q7 := hq.cell 7
      simp only [List.getElem?_toArray, List.getElem?_cons_zero, List.getElem?_cons_succ] at q0 q1 q2 q3 q4 q5 q6 q7
      refine bodyPost_ret (v := .agg #[.int .i64 a, .int .i64 b, .int .i64 c', .int .i64 d, .int .i64 e, .int .i64 f, .int .i64 g, .int .i64 i]) (by simp [results, Try.results80, q0, q1, q2, q3, q4, q5, q6, q7, go_sem]) rfl ⟨?_, Hb.out⟩
      rw [HR.out]; rfl
end Go.Proofs.Ytnkoncplfedffaa
