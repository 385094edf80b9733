/- Drawing: the bytes that come in, and one of some texts. -/
import Derived.Test.YteflgljifbcelaaCur
import Derived.OpenShut
import Derived.Laws.IdiomStrings
namespace Go.Proofs.Yteflgljifbcelaa
open Go.RowKit Go.ChangeShapes

theorem bytes_bd {zs : List Int} (h : ∀ n ∈ zs, (Lit.int .u8 n).wf = true) : ∀ z ∈ zs, 0 ≤ z ∧ z ≤ 255 := fun z hz => by
  have := bounds_u8 (h z hz)
  omega
/-- The bytes of an argument, as the cursor wants them. -/
structure Code (w : World) (A : Option Addr) (len : Nat) (zs : List Int) : Prop where
  row : Row w A (zs.map (Value.int .u8))
  len_eq : zs.length = len
  bytes : ∀ z ∈ zs, 0 ≤ z ∧ z ≤ 255
  small : len ≤ 65536
theorem Code.below {w w' : World} {A : Option Addr} {len : Nat} {zs : List Int} (h : Code w A len zs) (hb : Below w.heap.size w w') : Code w' A len zs := ⟨h.row.below hb, h.len_eq, h.bytes, h.small⟩
theorem Code.low {w : World} {A : Option Addr} {len : Nat} {zs : List Int} (h : Code w A len zs) (h0 : 0 < len) : ∀ ad, A = some ad → ad.block < w.heap.size := fun ad e => by
  obtain ⟨ad', e', hb, _⟩ := h.row (by rw [List.length_map, h.len_eq]; exact h0)
  rw [e] at e'; injection e' with e'; subst e'; exact hb
theorem Code.cur {w : World} {A : Option Addr} {len cap : Nat} {zs : List Int} (h : Code w A len zs)  : Cur (w.alloc (.cells #[.slice A len cap, .int .i64 0, .int .u64 0] 44)) w.heap.size A len cap zs 0 :=
  ⟨⟨0, by omega, by omega, BlockIs.new _ _ _⟩, h.row.alloc _, h.len_eq, h.low, h.bytes, by omega⟩

def shortS (b : Nat) : Value → Bool
  | .string t => decide (t.size ≤ b)
  | _ => false
theorem shortS_out {b : Nat} {v : Value} (h : shortS b v = true) : ∃ t, v = .string t ∧ t.size ≤ b := by
  cases v <;> simp [shortS] at h
  exact ⟨_, rfl, h⟩
theorem strings_of {b : Nat} : ∀ {cs : List Value}, cs.all (shortS b) = true → ∃ ts : List ByteArray, cs = ts.map Value.string ∧ ∀ t ∈ ts, t.size ≤ b
  | [], _ => ⟨[], rfl, by simp⟩
  | v :: cs, h => by
    rw [List.all_cons, Bool.and_eq_true] at h
    obtain ⟨t, rfl, ht⟩ := shortS_out h.1
    obtain ⟨ts, rfl, hts⟩ := strings_of h.2
    exact ⟨t :: ts, rfl, by intro x hx; rcases List.mem_cons.1 hx with rfl | hx; exact ht; exact hts x hx⟩
/-- One of some texts in a block that was just made. -/
theorem of_new (w : World) (g : Nat) (A : Option Addr) (len cap : Nat) (zs : List Int) (p : Int) (h : Cur w g A len cap zs p) (hp : p ≤ 999990) (hl : len ≤ 1000000) (t : TypeId) (n c b : Nat) (cs : Array Value) (hn : n = cs.size) (h0 : 1 ≤ n) (h1 : n ≤ 1000) (hcs : cs.toList.all (shortS b) = true) :
    Calls Try.prog 26 #[.pointer (some ⟨g, 0, none⟩), .slice (some ⟨w.heap.size, 0, none⟩) n c] (w.alloc (.cells cs t)) fun e w' => ∃ (x : ByteArray) (p' : Int), e = .returned (.string x) ∧ x.size ≤ b ∧ Cur w' g A len cap zs p' ∧ p' ≤ p + 2 ∧ w.grownBy w' (some g) := by
  subst hn
  have hr := Row.new w t cs
  obtain ⟨ts, hts, hsz⟩ := strings_of hcs
  have hlen : cs.size = ts.length := by rw [← Array.length_toList, hts, List.length_map]
  rw [hts] at hr
  rw [hlen] at h0 h1 ⊢
  refine (of_any _ g A len cap zs p (h.alloc _) hp hl w.heap.size c ts (by have := h.lt; omega) h0 h1 hr).mono ?_
  rintro e w' ⟨x, p', he, hx, hc, hp', hg⟩
  exact ⟨x, p', he, hsz x hx, hc, hp', grown_trans (alloc_grown w _ _) hg⟩

theorem any1_any (w : World) (g : Nat) (A : Option Addr) (len cap : Nat) (zs : List Int) (p : Int) (h : Cur w g A len cap zs p) (hp : p ≤ 999990) (hl : len ≤ 1000000) :
    Calls Try.prog 25 #[.pointer (some ⟨g, 0, none⟩)] w fun e w' => ∃ (x : ByteArray) (p' : Int), e = .returned (.string x) ∧ x.size ≤ 100 ∧ Cur w' g A len cap zs p' ∧ p' ≤ p + 2 ∧ w.grownBy w' (some g) := by
  have HC := Lib.hid h
  clear h
  go_enter Try.func25, Try.ntmps25
  go_wp2_with fail
  refine (of_new _ g A len cap zs p HC.out hp hl _ 9 _ 100 _ rfl (by omega) (by omega) (by kernel_rfl)).mono ?_
  rintro e w1 ⟨x, p', rfl, hx, hc1, hp', hg1⟩
  have HC1 := Lib.hid hc1
  clear hc1
  go_wp2
  go_ret
  exact ⟨x, p', rfl, hx, HC1.out, hp', hg1⟩

theorem infoU8 : (Try.prog.info? 5).map (fun i => (i.zero, i.size, i.bytes)) = some (some (.int .u8 0), 1, 1) := by kernel_rfl
theorem conv_zeros (w2 : World) (n : Nat) : (convert 22 9 (.slice (some ⟨w2.heap.size, 0, none⟩) n n)).run Try.prog (w2.alloc (.cells (madeCells #[.int .u8 0] n) 5)) = .ok (.string ⟨(List.replicate n 0).toArray⟩) (w2.alloc (.cells (madeCells #[.int .u8 0] n) 5)) := by
  have hcv := run_convert_bytes_back (P := Try.prog) (w2.alloc (.cells (madeCells #[.int .u8 0] n) 5)) 22 9 5 ⟨w2.heap.size, 0, none⟩ n (List.replicate n 0) Try.underlying22 Try.underlying5 Try.underlying9 (fun j hj => by
    rw [List.length_replicate] at hj
    have hr := (Row.new w2 5 (madeCells #[.int .u8 0] n)) (by rw [Array.length_toList, size_madeCells]; omega)
    obtain ⟨ad, e, _, hc⟩ := hr
    injection e with e
    subst e
    refine hc j _ ?_
    rw [Array.getElem?_toList, Array.getElem?_eq_getElem (by rw [size_madeCells]; exact hj)]
    simp [madeCells, Nat.mod_one])
  rwa [List.length_replicate] at hcv
theorem vBig_any (A : Option Addr) (len cap : Nat) (w : World) (h : len ≤ maxLen) :
    Calls Try.prog 8 #[.slice A len cap] w fun e w' => e = .returned (.bool (decide (65536 < len))) ∧ w = w' := by
  unfold maxLen at h
  by_cases g : 65536 < len
  all_goals
    go_enter Try.func8, Try.ntmps8
    go_wp2
    go_ret
    exact ⟨by simp <;> omega, rfl⟩
theorem code_of {w : World} {a : Option Addr} {len cap : Nat} {zs : List Int} (h : IsInts .u8 w a len cap zs) (hl : len ≤ 65536) : Code w a len (zs.take len) := by
  rcases h with ⟨rfl, rfl, rfl, rfl⟩ | ⟨x, rfl, h1, h2, h3, hc, hwf⟩
  · exact ⟨Row.nil _, rfl, by simp, by omega⟩
  · refine ⟨fun hn => ⟨x, rfl, ?_, fun j u hu => ?_⟩, by simp; omega, fun z hz => bytes_bd hwf z (List.mem_of_mem_take hz), hl⟩
    · have := lt_of_cell (hc 0 (by simp at hn; omega))
      rwa [add_block] at this
    · rw [List.getElem?_map, Option.map_eq_some_iff] at hu
      obtain ⟨z, g1, rfl⟩ := hu
      obtain ⟨g2, g3⟩ := List.getElem?_eq_some_iff.1 g1
      have hj : j < zs.length := by simp at g2; omega
      rw [hc j hj]
      rw [List.getElem_take] at g3
      subst g3
      simp [List.getD, hj]
end Go.Proofs.Yteflgljifbcelaa
