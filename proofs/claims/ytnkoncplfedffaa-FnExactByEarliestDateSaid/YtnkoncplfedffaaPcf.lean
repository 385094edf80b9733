/- The pieces put together: the schedule by a rule of choice; the iterator's making. -/
import Derived.Test.YtnkoncplfedffaaPcs
import Derived.Test.YtnkoncplfedffaaCht
namespace Go.Proofs.Ytnkoncplfedffaa
open Go.RowKit
/-- The program's way to put a piece: it looks at the job alone. -/
def putJ (out : List Sp) (s : Sp) : List Sp :=
  match out.getLast? with
  | some l => if l.j = s.j then out.dropLast ++ [⟨l.j, l.f, s.t⟩] else out ++ [s]
  | none => [s]
theorem putJ_nil (s : Sp) : putJ [] s = [s] := rfl
theorem putJ_hit {ys : List Sp} {l s : Sp} (h : l.j = s.j) : putJ (ys ++ [l]) s = ys ++ [⟨l.j, l.f, s.t⟩] := by
  unfold putJ
  rw [List.getLast?_concat]
  simp only
  rw [if_pos h, List.dropLast_concat]
theorem putJ_miss {ys : List Sp} {l s : Sp} (h : ¬ l.j = s.j) : putJ (ys ++ [l]) s = ys ++ [l] ++ [s] := by
  unfold putJ
  rw [List.getLast?_concat]
  simp only
  rw [if_neg h]
theorem putJ_len (out : List Sp) (s : Sp) : (putJ out s).length ≤ out.length + 1 := by
  unfold putJ
  cases h : out.getLast? with
  | none => simp
  | some l =>
    simp only
    split
    · simp <;> omega
    · simp
def foldJ (ys : List Sp) : List Sp := ys.foldl putJ []
theorem foldJ_snoc (ys : List Sp) (s : Sp) : foldJ (ys ++ [s]) = putJ (foldJ ys) s := by unfold foldJ; rw [List.foldl_append]; rfl
theorem foldJ_len (ys : List Sp) : (foldJ ys).length ≤ ys.length := by
  have key : ∀ (ys out : List Sp), (ys.foldl putJ out).length ≤ out.length + ys.length := by
    intro ys
    induction ys with
    | nil => intro out; exact Nat.le_refl _
    | cons s ys ih =>
      intro out
      have h1 := ih (putJ out s)
      have h2 := putJ_len out s
      simp only [List.foldl_cons, List.length_cons]
      omega
  have := key ys []
  simpa [foldJ] using this
theorem putJ_put {js : List J} {o now : Int} {R : List Int} {out : List Sp} (h : MIn js now R out) {k : Nat} (hn : chPick js o R now = (k : Int)) (t : Int) : putJ out ⟨(k : Int), now, t⟩ = putSp out k now t := by
  unfold putJ putSp
  cases hl : out.getLast? with
  | none => rfl
  | some l =>
    simp only
    have hj := putSp_job h hn hl
    by_cases e : l.j = (k : Int)
    · rw [if_pos e, if_pos (hj.2 e)]
    · rw [if_neg e, if_neg (fun h => e h.1)]
theorem pcs_fold {js : List J} (hg : goodL js = true) {o n0 : Int} {R0 : List Int} (h0 : CIn js n0 R0) {ys : List Sp} {now : Int} {R : List Int} (h : Pcs js o n0 R0 ys now R) : CIn js now R ∧ MIn js now R (foldJ ys) ∧ chFin js o n0 R0 [] = chFin js o now R (foldJ ys) := by
  induction h with
  | nil => exact ⟨h0, mIn_nil, rfl⟩
  | @wait ys now R hp hs hn ih =>
    obtain ⟨i1, i2, i3⟩ := ih
    have hx := chFin_skip (out := foldJ ys) hg i1 hs hn
    exact ⟨hx.2, i2.wait hn (Int.le_of_lt (next_500 hg i1 hs hn).1), i3.trans hx.1⟩
  | @take ys now R k hp hn ih =>
    obtain ⟨i1, i2, i3⟩ := ih
    have hx := chFin_to (out := foldJ ys) i1 hn
    rw [foldJ_snoc, putJ_put i2 hn]
    exact ⟨hx.2, MIn.take hn (Int.le_of_lt (toR_gt i1 hn).2.1) _, i3.trans hx.1⟩
theorem pcs_done {js : List J} (hg : goodL js = true) {o : Int} {ys : List Sp} (h : ∃ now R, Pcs js o 0 (timesL js) ys now R ∧ ¬ 0 < R.sum) : foldJ ys = chL js o := by
  obtain ⟨now, R, hp, hs⟩ := h
  have := (pcs_fold hg (cIn_zero hg) hp).2.2
  unfold chL
  rw [this, chFin_done hs]
theorem times_pad {js : List J} (h8 : js.length ≤ 8) : timesR js = pad8 (timesL js) := by
  rw [← timesTo_all js]
  apply List.ext_getElem?
  intro i
  unfold timesTo pad8 timesL
  by_cases h : i < js.length
  · rw [List.getElem?_append_left (by simpa using h)]
    simp [h, show i < 8 by omega]
  · rw [List.getElem?_append_right (by simpa using h)]
    by_cases h2 : i < 8
    · rw [List.getElem?_replicate, if_pos (by rw [List.length_map]; omega)]
      simp [h, h2]
    · rw [List.getElem?_replicate, if_neg (by rw [List.length_map]; omega)]
      simp [h2]
/-- What pieces gives: its parameters are boxed. -/
theorem pieces_any (A : Option Addr) (c n : Nat) (now : Int) (f fv : Value) (tp : Bool) (a b c1 d1 e1 f1 g1 i1 : Int) (w : World) :
    Calls Try.prog 81 #[.agg #[f, fv, .bool tp], .slice A n c, .int .i64 now, .agg #[.int .i64 a, .int .i64 b, .int .i64 c1, .int .i64 d1, .int .i64 e1, .int .i64 f1, .int .i64 g1, .int .i64 i1]] w fun e w' =>
      e = .returned (.func (.func 115) #[] #[.pointer (some ⟨w.heap.size + 1 + 1, 0, none⟩), .pointer (some ⟨w.heap.size + 1 + 1 + 1, 0, none⟩), .pointer (some ⟨w.heap.size + 1, 0, none⟩), .pointer (some ⟨w.heap.size, 0, none⟩)]) ∧
      w' = (((w.alloc (.cells #[f, fv, .bool tp] 76)).alloc (.cells #[.slice A n c] 26)).alloc (.cells #[.int .i64 now] 3)).alloc (.cells #[.int .i64 a, .int .i64 b, .int .i64 c1, .int .i64 d1, .int .i64 e1, .int .i64 f1, .int .i64 g1, .int .i64 i1] 105) := by
  go_enter Try.func81, Try.ntmps81
  go_wp2
  go_ret
  exact ⟨rfl, rfl⟩
end Go.Proofs.Ytnkoncplfedffaa
