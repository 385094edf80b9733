/- What FnStrings asks of both sides at once. -/
import Derived.Test.YteflgljifbcelaaDoorDraw1
import Derived.Test.YteflgljifbcelaaDoorParse3
import Derived.Test.YteflgljifbcelaaDoorSealed
namespace Go.Proofs.YteflgljifbcelaaDoor
open Go.RowKit Go.ChangeShapes

theorem numB_small (n : Int) (h : inDec n) : (numB n).size ≤ 100 := by
  obtain ⟨h0, h1⟩ := h
  rw [numB_size]; have := itoa_len n (by omega) (by omega); omega
theorem fmt_both (n : Int) : ∃ (s : ByteArray) (ok : Bool), (∀ w, Calls Tryd.prog 11 #[.int .i64 n] w fun e w' => e = .returned (.tuple #[.string s, .bool ok]) ∧ ∃ m, w' = w.drewN m) ∧
    (∀ w, PowTab w → Calls Tryd.prog 10 #[.int .i64 n] w fun e w' => e = .returned (.tuple #[.string s, .bool ok]) ∧ Below w.heap.size w w') ∧ s.size ≤ 100 ∧ (ok = true → s = numB n ∧ inDec n) := by
  by_cases h : inDec n
  · exact ⟨numB n, true, fun w => spec_FormatInt_yes n w h.1 h.2, fun w ht => impl_FormatInt_yes n w h.1 h.2 ht, numB_small n h, fun _ => ⟨rfl, h⟩⟩
  · have h' : n < -999999 ∨ 999999 < n := by unfold inDec at h; omega
    exact ⟨⟨#[]⟩, false, fun w => spec_FormatInt_no n w h', fun w _ => impl_FormatInt_no n w h', Nat.zero_le _, fun h => by cases h⟩
theorem parse_both (t : ByteArray) (hm : t.size ≤ maxLen) : ∃ (m : Int) (ok : Bool), (∀ w, Calls Tryd.prog 14 #[.string t] w fun e w' => e = .returned (.tuple #[.int .i64 m, .bool ok]) ∧ ∃ m, w' = w.drewN m) ∧
    (∀ w, PowTab w → Calls Tryd.prog 13 #[.string t] w fun e w' => e = .returned (.tuple #[.int .i64 m, .bool ok]) ∧ Below w.heap.size w w') ∧ (∀ n, inDec n → t = numB n → m = n ∧ ok = true) := by
  by_cases h : ∃ n, inDec n ∧ numB n = t
  · obtain ⟨n, hn, rfl⟩ := h
    refine ⟨n, true, fun w => spec_Parse_yes n w hn, fun w ht => impl_Parse_yes n w hn ht, fun k hk e => ⟨?_, rfl⟩⟩
    have h1 := leadGo_itoa n hn.1 hn.2
    have h2 := leadGo_itoa k hk.1 hk.2
    rw [← numB_list, e, numB_list, h2] at h1
    exact h1.symm
  · have h' : noNum t := fun n hn he => h ⟨n, hn, he⟩
    exact ⟨0, false, fun w => spec_Parse_no t w hm h', fun w ht => impl_Parse_no t w hm h' ht, fun n hn e => absurd e.symm (h' n hn)⟩
theorem append_both (x : ByteArray) (hm : x.size ≤ maxLen) : ∃ (y : ByteArray) (ok : Bool), (∀ w, Calls Tryd.prog 17 #[.string x] w fun e w' => e = .returned (.tuple #[.string y, .bool ok]) ∧ ∃ m, w' = w.drewN m) ∧
    (∀ w, PowTab w → Calls Tryd.prog 16 #[.string x] w fun e w' => e = .returned (.tuple #[.string y, .bool ok]) ∧ Below w.heap.size w w') ∧ ((ok = true ∧ canSeal x ∧ y = sealB x) ∨ (ok = false ∧ y = ⟨#[]⟩)) := by
  by_cases h : canSeal x
  · exact ⟨sealB x, true, fun w => spec_Append_yes x w h, fun w ht => impl_Append_yes x w h ht, .inl ⟨rfl, h, rfl⟩⟩
  · exact ⟨⟨#[]⟩, false, fun w => spec_Append_no x w hm h, fun w ht => impl_Append_no x w hm h ht, .inr ⟨rfl, rfl⟩⟩

theorem vBig_any (A : Option Addr) (len cap : Nat) (w : World) (h : len ≤ maxLen) :
    Calls Tryd.prog 8 #[.slice A len cap] w fun e w' => e = .returned (.bool (decide (65536 < len))) ∧ w = w' := by
  unfold maxLen at h
  by_cases g : 65536 < len
  all_goals
    go_enter Tryd.func8, Tryd.ntmps8
    go_wp2
    go_ret
    exact ⟨by simp <;> omega, rfl⟩
theorem vAt_any (A : Option Addr) (len cap : Nat) (zs : List Int) (w : World) (i : Int) (h : Code w A len zs) (h0 : 0 ≤ i) (h1 : i ≤ 1000) :
    Calls Tryd.prog 19 #[.slice A len cap, .int .i64 i] w fun e w' => ∃ r : Int, e = .returned (.int .i64 r) ∧ 0 ≤ r ∧ r ≤ 255 ∧ w = w' := by
  obtain ⟨hr, hl, hb, hs⟩ := h
  by_cases g : i < len
  · obtain ⟨ad, rfl, hc⟩ := hr.at_ (k := i.toNat) (by simp; omega)
    rw [List.getElem_map] at hc
    obtain ⟨z0, z1⟩ := hb (zs[i.toNat]'(by omega)) (List.getElem_mem _)
    generalize zs[i.toNat]'(by omega) = z at *
    clear hr hb
    go_enter Tryd.func19, Tryd.ntmps19
    go_wp2
    go_ret
    exact ⟨z, rfl, z0, z1, rfl⟩
  · have m0 := Int.emod_nonneg (i * 7 + len) (show (256 : Int) ≠ 0 by omega)
    have m1 := Int.emod_lt_of_pos (i * 7 + len) (show (0 : Int) < 256 by omega)
    clear hr hb
    go_enter Tryd.func19, Tryd.ntmps19
    go_wp2
    go_ret
    exact ⟨_, rfl, m0, by omega, rfl⟩

/-- '[]byte(s)': a row of its own. -/
theorem bytes_of (w : World) (s : ByteArray) : ∃ g cap wb, (convert 9 22 (.string s)).run Tryd.prog w = .ok (.slice (some ⟨g, 0, none⟩) s.size cap) wb ∧ Below w.heap.size w wb ∧ w.heap.size ≤ g ∧
    (∀ j (hj : j < s.size), wb.cell? ⟨g, j, none⟩ = some (.int .u8 (s[j].toNat : Int))) ∧ (∀ j, j < s.size → wb.frozen? ⟨g, j, none⟩ = false) := by
  have hrow : (w.drew.alloc (.cells (bytesRow s (grownCap w s.size 0 5)) 5 ((bytesRow s (grownCap w s.size 0 5)).size, (bytesRow s (grownCap w s.size 0 5)).size + 1))).heap[w.heap.size]? = some (.cells (bytesRow s (grownCap w s.size 0 5)) 5 ((bytesRow s (grownCap w s.size 0 5)).size, (bytesRow s (grownCap w s.size 0 5)).size + 1)) := heap_alloc_new w.drew _
  refine ⟨w.heap.size, _, _, run_bytes_of_string w _ _ _ s Tryd.underlying9 Tryd.underlying22 Tryd.underlying5, ((Below.refl _ w).drew).alloc (Nat.le_refl _) _, Nat.le_refl _, fun j hj => ?_, fun j hj => ?_⟩
  · rw [cell_of_row _ _ j _ _ _ hrow, bytesRow_at s _ j hj]
    rfl
  · have hsz : s.size ≤ (bytesRow s (grownCap w s.size 0 5)).size := by unfold bytesRow; simp
    unfold World.frozen?
    simp only [hrow]
    generalize bytesRow s (grownCap w s.size 0 5) = R at hsz ⊢
    simp
    omega

theorem mask_one (r : Int) (h0 : 0 ≤ r) (_h1 : r ≤ 255) : ∃ m : Nat, IntKind.u8.wrap (IntKind.i64.wrap (1 + r.tmod 255)) = m ∧ 1 ≤ m ∧ m ≤ 255 := by
  rw [Int.tmod_eq_emod_of_nonneg h0, IntWalk.i64_in _ (by omega), IntWalk.u8_in _ (by omega)]
  exact ⟨(1 + r % 255).toNat, by omega, by omega, by omega⟩
theorem xor_ne (z m : Nat) (h1 : 1 ≤ m) : z ^^^ m ≠ z := by
  intro h
  have := congrArg (z ^^^ ·) h
  simp only [← Nat.xor_assoc, Nat.xor_self, Nat.zero_xor] at this
  omega
/-- The sealed text with one byte changed, as a string: no text is sealed so. -/
theorem changed_back (wb : World) (x : ByteArray) (hx : canSeal x) (g cap k n : Nat) (hk : k < (sealB x).size) (r : Int) (h0 : 0 ≤ r) (h1 : r ≤ 255)
    (hcell : ∀ j (hj : j < (sealB x).size), wb.cell? ⟨g, j, none⟩ = some (.int .u8 ((sealB x)[j].toNat : Int))) :
    ∃ y : ByteArray, y.size = (sealB x).size ∧ noSeal y ∧
      (convert 22 9 (.slice (some ⟨g, 0, none⟩) (sealB x).size cap)).run Tryd.prog ((wb.drewN n).setCell ⟨g, k, none⟩ (.int .u8 (bits BinOp.xor IntKind.u8 ((sealB x)[k].toNat : Int) (IntKind.u8.wrap (IntKind.i64.wrap (1 + r.tmod 255)))))) =
        .ok (.string y) ((wb.drewN n).setCell ⟨g, k, none⟩ (.int .u8 (bits BinOp.xor IntKind.u8 ((sealB x)[k].toNat : Int) (IntKind.u8.wrap (IntKind.i64.wrap (1 + r.tmod 255)))))) := by
  obtain ⟨m, hm, m0, m1⟩ := mask_one r h0 h1
  have hz := (sealB x)[k].toNat_lt
  rw [hm, u8_xor_nat _ _ (by omega) (by omega)]
  have hlt : (sealB x)[k].toNat ^^^ m < 2 ^ 8 := Nat.xor_lt_two_pow (by omega) (by omega)
  have hdn : (UInt8.ofNat ((sealB x)[k].toNat ^^^ m)).toNat = (sealB x)[k].toNat ^^^ m := by rw [UInt8.toNat_ofNat']; omega
  generalize hd : UInt8.ofNat ((sealB x)[k].toNat ^^^ m) = d at hdn
  have hlist : (sealB x).data.toList = sealL x.data.toList := by show (sealL x.data.toList).toArray.toList = _; simp
  have hkl : k < (sealL x.data.toList).length := by rw [← hlist]; simpa using hk
  have hget : ∀ j (hj : j < (sealB x).size), (sealB x)[j] = (sealL x.data.toList)[j]'(by rw [← hlist]; simpa using hj) := fun j hj => by
    have : (sealB x).data.toList[j]'(by simpa using hj) = (sealB x)[j] := rfl
    rw [← this]
    simp only [hlist]
  have hlen : ((sealL x.data.toList).set k d).length = (sealB x).size := by rw [List.length_set, ← hlist]; simp
  refine ⟨⟨((sealL x.data.toList).set k d).toArray⟩, by rw [size_mk, hlen], ?_, ?_⟩
  · refine noSeal_changed x _ hx k d hkl ?_ (toList_mk _)
    rw [← hget k hk]
    intro e
    have := congrArg UInt8.toNat e
    rw [hdn] at this
    exact xor_ne _ _ m0 this.symm
  · have := run_convert_bytes_back (P := Tryd.prog) ((wb.drewN n).setCell ⟨g, k, none⟩ (.int .u8 (((sealB x)[k].toNat ^^^ m : Nat) : Int))) 22 9 5 ⟨g, 0, none⟩ cap ((sealL x.data.toList).set k d) Tryd.underlying22 Tryd.underlying5 Tryd.underlying9 (fun j hj => by
      have hj' : j < (sealB x).size := by rw [hlen] at hj; exact hj
      have hadd : (⟨g, 0, none⟩ : Addr).add j = ⟨g, j, none⟩ := by
        unfold Addr.add
        by_cases h : j = 0
        · subst h; rfl
        · simp [h]
      rw [hadd]
      by_cases e : j = k
      · subst e
        rw [World.cell?_setCell_same _ _ _ (show (wb.drewN n).cell? _ = some _ from hcell j hj'), List.getElem_set_self, hdn]
        rfl
      · rw [World.cell?_setCell_other _ _ _ _ (by intro h; injection h with _ h; exact e h.symm), List.getElem_set_ne (fun h => e h.symm)]
        exact (hcell j hj').trans (by rw [hget j hj']))
    rwa [hlen] at this
end Go.Proofs.YteflgljifbcelaaDoor
