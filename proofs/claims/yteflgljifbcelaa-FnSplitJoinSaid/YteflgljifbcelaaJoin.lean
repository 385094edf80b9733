/- JoinStrings of the program and of the model. -/
import Derived.Test.YteflgljifbcelaaStrs
import Derived.Test.YteflgljifbcelaaStands
import Derived.Test.YteflgljifbcelaaShelf
import Derived.Lib.Join
import Derived.Lib.IndexAny
namespace Go.Proofs.Yteflgljifbcelaa
open Go.RowKit

theorem size_toList (s : ByteArray) : s.data.toList.length = s.size := by simp
def joinL (c : UInt8) (xs : List ByteArray) : List UInt8 := Lib.join (xs.map (·.data.toList)) [c]
theorem joinL_nil (c : UInt8) : joinL c [] = [] := rfl
theorem joinL_one (c : UInt8) (x : ByteArray) : joinL c [x] = x.data.toList := Lib.join_one _ _
theorem joinL_snoc (c : UInt8) (xs : List ByteArray) (x : ByteArray) (h : xs ≠ []) : joinL c (xs ++ [x]) = joinL c xs ++ c :: x.data.toList := by
  cases xs with
  | nil => exact absurd rfl h
  | cons y r =>
    unfold joinL
    rw [List.cons_append, List.map_cons, List.map_cons, Lib.join_cons, Lib.join_cons]
    unfold Lib.joinTail
    simp
theorem joinTail_len (c : UInt8) : ∀ r : List ByteArray, (Lib.joinTail [c] (r.map (·.data.toList))).length = lenSum r + r.length
  | [] => rfl
  | x :: r => by
    have ih := joinTail_len c r
    unfold Lib.joinTail lenSum at *
    simp only [List.map_cons, List.flatten_cons, List.length_append, List.length_cons, List.length_nil, List.sum_cons, ih, size_toList]
    omega
theorem joinL_len (c : UInt8) (xs : List ByteArray) (h : xs ≠ []) : (joinL c xs).length + 1 = lenSum xs + xs.length := by
  cases xs with
  | nil => exact absurd rfl h
  | cons x r =>
    unfold joinL
    rw [List.map_cons, Lib.join_cons, List.length_append, joinTail_len, size_toList]
    unfold lenSum
    simp only [List.map_cons, List.sum_cons, List.length_cons]
    omega
theorem take_ne {α : Type} {xs : List α} {k : Nat} (h : 0 < k) (hx : 0 < xs.length) : xs.take k ≠ [] := by
  intro e
  have := congrArg List.length e
  rw [List.length_take, List.length_nil] at this
  omega
theorem joinL_take_len (c : UInt8) (xs : List ByteArray) (k : Nat) (hk : k ≤ xs.length) : (joinL c (xs.take k)).length ≤ (joinL c xs).length := by
  by_cases h0 : k = 0
  · subst h0; simp [joinL_nil]
  · have h1 := joinL_len c (xs.take k) (take_ne (by omega) (by omega))
    have h2 := joinL_len c xs (by rintro rfl; simp at hk; omega)
    have h3 := lenSum_take_le xs k
    simp at h1
    omega

/-- Can the parts be joined? -/
def okJ (c : UInt8) (xs : List ByteArray) : Prop := (∀ x ∈ xs, hasB x.data.toList c = false) ∧ (joinL c xs).length ≤ 4000
def noSep (c : UInt8) (xs : List ByteArray) (k : Nat) : Prop := ∀ x ∈ xs.take k, hasB x.data.toList c = false
theorem noSep_step {c : UInt8} {xs : List ByteArray} {k : Nat} (h : noSep c xs k) (hk : k < xs.length) (hx : hasB xs[k].data.toList c = false) : noSep c xs (k + 1) := by
  intro x hm
  rw [List.take_succ_eq_append_getElem hk, List.mem_append, List.mem_singleton] at hm
  rcases hm with hm | rfl
  · exact h x hm
  · exact hx
theorem not_ok_sep {c : UInt8} {xs : List ByteArray} {k : Nat} (hk : k < xs.length) (hx : hasB xs[k].data.toList c = true) : ¬ okJ c xs := fun h => by
  have := h.1 _ (List.getElem_mem hk)
  rw [hx] at this; cases this
theorem not_ok_len {c : UInt8} {xs : List ByteArray} {k : Nat} (hk : k ≤ xs.length) (hx : 4000 < (joinL c (xs.take k)).length) : ¬ okJ c xs := fun h => by
  have := joinL_take_len c xs k hk
  have := h.2
  omega
theorem contains_c (s : ByteArray) (c : UInt8) (w : World) :
    Calls Try.prog 30 #[.string s, .string ⟨#[c]⟩] w fun e w' => e = .returned (.bool (hasB s.data.toList c)) ∧ w = w' :=
  (Try.strings_Contains_one s c w).mono fun _ _ ⟨h1, h2⟩ => ⟨by rw [h1]; unfold hasB; rw [Lib.contains_iff_indexByte], h2.symm⟩

/-- What JoinStrings answers. -/
def JoinAns (c : UInt8) (xs : List ByteArray) (e : Ending) : Prop :=
  (okJ c xs ∧ e = .returned (.tuple #[.string ⟨(joinL c xs).toArray⟩, .bool true])) ∨ (¬ okJ c xs ∧ e = .returned (.tuple #[.string ⟨#[]⟩, .bool false]))
/-- What has been joined when k parts are through, as a string. -/
def joinB (c : UInt8) (xs : List ByteArray) (k : Nat) : ByteArray := ⟨(joinL c (xs.take k)).toArray⟩
theorem joinB_size (c : UInt8) (xs : List ByteArray) (k : Nat) : (joinB c xs k).size = (joinL c (xs.take k)).length := by unfold joinB; show Array.size _ = _; simp
theorem joinB_first (c : UInt8) (xs : List ByteArray) (hk : 0 < xs.length) : joinB c xs 1 = xs[0] := by
  unfold joinB
  rw [List.take_succ_eq_append_getElem hk, List.take_zero, List.nil_append, joinL_one]
theorem joinB_step (c : UInt8) (xs : List ByteArray) (k : Nat) (h0 : 0 < k) (hk : k < xs.length) : (joinB c xs k ++ (⟨#[c]⟩ : ByteArray)) ++ xs[k] = joinB c xs (k + 1) := by
  unfold joinB
  rw [List.take_succ_eq_append_getElem hk, joinL_snoc _ _ _ (take_ne h0 (by omega))]
  apply ByteArray.ext
  apply Array.ext'
  simp

theorem joinB_size_step (c : UInt8) (xs : List ByteArray) (k : Nat) (h0 : 0 < k) (hk : k < xs.length) : (joinB c xs k).size + 1 + xs[k].size = (joinB c xs (k + 1)).size := by
  rw [joinB_size, joinB_size, List.take_succ_eq_append_getElem hk, joinL_snoc _ _ _ (take_ne h0 (by omega)), List.length_append, List.length_cons, size_toList]
  omega
theorem joinB_step0 (c : UInt8) (xs : List ByteArray) (k : Nat) (h0 : k = 0) (hk : k < xs.length) : joinB c xs k ++ xs[k] = joinB c xs (k + 1) := by
  subst h0
  rw [joinB_first c xs hk]
  unfold joinB
  apply ByteArray.ext
  simp [joinL_nil]
theorem joinB_size_step0 (c : UInt8) (xs : List ByteArray) (k : Nat) (h0 : k = 0) (hk : k < xs.length) : (joinB c xs k).size + xs[k].size = (joinB c xs (k + 1)).size := by
  subst h0
  rw [joinB_first c xs hk, joinB_size]
  simp [joinL_nil]

theorem spec_Join_any (A : Option Addr) (d : Nat) (xs : List ByteArray) (c : UInt8) (w : World) (hr : Row w A (xs.map Value.string)) (hn : xs.length ≤ 100000000) (hs : ∀ s ∈ xs, s.size ≤ 100000000) (h0 : 0 < xs.length) :
    Calls Try.prog 13 #[.slice A xs.length d, .string ⟨#[c]⟩] w fun e w' => JoinAns c xs e ∧ ∃ m, w' = w.drewN m := by
  have hc0 : ((xs.length : Int) == 0) = false := by rw [beq_eq_false_iff_ne]; omega
  go_enter Try.func13, Try.ntmps13
  go_wp2
  go_loopw [6, 7] (fun o i wr => ∃ (k m : Nat), k ≤ xs.length ∧ i = .int .i64 k ∧ o = .string (joinB c xs k) ∧ Hid (noSep c xs k) ∧ (joinB c xs k).size ≤ 4000 ∧ wr = w.drewN m) (fun _ i _ => xs.length - (intOf i).toNat)
  case atStart => exact ⟨0, 0, Nat.zero_le _, rfl, rfl, by intro x hx; simp at hx, by rw [joinB_size]; simp [joinL_nil], rfl⟩
  case round =>
    obtain ⟨k, m, hk, rfl, rfl, hS, hz, rfl⟩ := hrel
    by_cases hlt : k < xs.length
    · obtain ⟨a, hA, hc⟩ := hr.at_ (k := k) (by simpa using hlt)
      subst hA
      rw [List.getElem_map] at hc
      have hsz := hs xs[k] (List.getElem_mem hlt)
      have hsm : xs[k].size ≤ maxLen := by unfold maxLen; omega
      have hi : (0 : Int) ≤ k := by omega
      have hi' : (k : Int) < xs.length := by omega
      clear hr hs
      cases hb : hasB xs[k].data.toList c with
      | true =>
        have HN := Lib.hid (not_ok_sep hlt hb)
        have H : ∀ w, Calls Try.prog 32 #[.string xs[k], .int .u8 (c.toNat : Int)] w fun e w' => e = .returned (.bool true) ∧ w = w' := fun w => by
          have := l1Stands_any xs[k] c w hsm
          rw [hb] at this
          exact this
        have H' := Lib.hid H
        clear H hb
        go_wp2
        go_quiet ((go_at_call 32; exact quiet_same (H'.out _)))
        go_wp2
        go_ret2
        exact ⟨.inr ⟨HN.out, rfl⟩, _, by first | rfl | rw [World.drewN_drewN]⟩
      | false =>
        have HS := Lib.hid (noSep_step hS.out hlt hb)
        have H : ∀ w, Calls Try.prog 32 #[.string xs[k], .int .u8 (c.toNat : Int)] w fun e w' => e = .returned (.bool false) ∧ w = w' := fun w => by
          have := l1Stands_any xs[k] c w hsm
          rw [hb] at this
          exact this
        have H' := Lib.hid H
        clear H hb
        by_cases hz0 : k = 0
        · have hpos : ¬ (0 : Int) < k := by omega
          have HJ := Lib.hid (joinB_step0 c xs k hz0 hlt)
          have hsum := joinB_size_step0 c xs k hz0 hlt
          by_cases hl : (joinB c xs (k + 1)).size ≤ 4000
          · have hl' : (joinB c xs k).size + xs[k].size ≤ 4000 := by omega
            clear hz0 hsum
            go_wp2
            go_quiet ((go_at_call 32; exact quiet_same (H'.out _)))
            go_wp2
            go_roundw
            case rel => exact ⟨k + 1, _, by omega, by go_num, by rw [← HJ.out], HS.out, hl, rfl⟩
            case measure => simp [intOf]; omega
          · have HN := Lib.hid (not_ok_len (c := c) (xs := xs) (k := k + 1) (by omega) (by have := joinB_size c xs (k + 1); omega))
            have hl' : 4000 < (joinB c xs k).size + xs[k].size := by omega
            clear hz0 hsum
            go_wp2
            go_quiet ((go_at_call 32; exact quiet_same (H'.out _)))
            go_wp2
            go_ret2
            exact ⟨.inr ⟨HN.out, rfl⟩, _, by first | rfl | rw [World.drewN_drewN]⟩
        · have hpos : (0 : Int) < k := by omega
          have HJ := Lib.hid (joinB_step c xs k (by omega) hlt)
          by_cases hl : (joinB c xs (k + 1)).size ≤ 4000
          · have hl' : (joinB c xs k).size + 1 + xs[k].size ≤ 4000 := by
              have := joinB_size_step c xs k (by omega) hlt
              omega
            clear hz0
            go_wp2
            go_quiet ((go_at_call 32; exact quiet_same (H'.out _)))
            go_wp2
            go_roundw
            case rel => exact ⟨k + 1, _, by omega, by go_num, by rw [← HJ.out], HS.out, hl, rfl⟩
            case measure => simp [intOf]; omega
          · have HN := Lib.hid (not_ok_len (c := c) (xs := xs) (k := k + 1) (by omega) (by have := joinB_size c xs (k + 1); omega))
            have hl' : 4000 < (joinB c xs k).size + 1 + xs[k].size := by
              have := joinB_size_step c xs k (by omega) hlt
              omega
            clear hz0
            go_wp2
            go_quiet ((go_at_call 32; exact quiet_same (H'.out _)))
            go_wp2
            go_ret2
            exact ⟨.inr ⟨HN.out, rfl⟩, _, by first | rfl | rw [World.drewN_drewN]⟩
    · obtain rfl : k = xs.length := by omega
      have hall : joinB c xs xs.length = ⟨(joinL c xs).toArray⟩ := by unfold joinB; rw [List.take_of_length_le (Nat.le_refl _)]
      have HO : Hid (okJ c xs) := ⟨by have := hS.out; unfold noSep at this; rwa [List.take_of_length_le (Nat.le_refl _)] at this, by rw [joinB_size, List.take_of_length_le (Nat.le_refl _)] at hz; exact hz⟩
      rw [hall]
      clear hall hz
      go_wp2
      go_ret2
      exact ⟨.inl ⟨HO.out, rfl⟩, m, rfl⟩

theorem not_ok_sum {c : UInt8} {xs : List ByteArray} {k : Nat} (h0 : 0 < xs.length) (h : 4001 < lenSum (xs.take k) + xs.length) : ¬ okJ c xs := fun ho => by
  have h1 := joinL_len c xs (by rintro rfl; simp at h0)
  have h2 := lenSum_take_le xs k
  have := ho.2
  omega
theorem impl_Join_any (g o d : Nat) (xs : List ByteArray) (c : UInt8) (w : World) (hr : Row w (some ⟨g, o, none⟩) (xs.map Value.string)) (hn : xs.length ≤ 100000000) (hs : ∀ s ∈ xs, s.size ≤ 100000000) (h0 : 0 < xs.length) (hd : xs.length ≤ d) :
    Calls Try.prog 12 #[.slice (some ⟨g, o, none⟩) xs.length d, .string ⟨#[c]⟩] w fun e w' => JoinAns c xs e ∧ Below w.heap.size w w' := by
  have hc0 : ((xs.length : Int) == 0) = false := by rw [beq_eq_false_iff_ne]; omega
  go_enter Try.func12, Try.ntmps12
  go_wp2
  go_loop [6, 8, 22] (fun z _ i => ∃ (k q : Nat), k ≤ xs.length ∧ i = .int .i64 k ∧ z = .int .i64 q ∧ q + 1 = lenSum (xs.take k) + xs.length ∧ q ≤ 100000000 ∧ (k = 0 ∨ q ≤ 4000) ∧ Hid (noSep c xs k)) (fun _ _ i => xs.length - (intOf i).toNat)
  case atStart => exact ⟨0, xs.length - 1, Nat.zero_le _, rfl, by go_num, by simp [lenSum]; omega, by omega, .inl rfl, by intro x hx; simp at hx⟩
  case round =>
    obtain ⟨k, q, hk, rfl, rfl, hq, hq1, hq2, hS⟩ := hrel
    by_cases hlt : k < xs.length
    · have hc := (hr.cells (by simpa using h0)).2 k (.string xs[k]) (by rw [List.getElem?_map, List.getElem?_eq_getElem hlt]; rfl)
      have hsz := hs xs[k] (List.getElem_mem hlt)
      have hq' : q + xs[k].size + 1 = lenSum (xs.take (k + 1)) + xs.length := by rw [lenSum_take xs k hlt]; omega
      have HQ := Lib.hid hq'
      clear hr hs hq
      by_cases hbig : q + xs[k].size ≤ 4000
      · cases hb : hasB xs[k].data.toList c with
        | true =>
          have HN := Lib.hid (not_ok_sep hlt hb)
          have H : ∀ w, Calls Try.prog 30 #[.string xs[k], .string ⟨#[c]⟩] w fun e w' => e = .returned (.bool true) ∧ w = w' := fun w => by
            have := contains_c xs[k] c w
            rw [hb] at this
            exact this
          have H' := Lib.hid H
          clear H hb hq' hq2
          go_wp2_with (go_at_call 30; refine (H'.out _).mono ?_; rintro e w' ⟨rfl, rfl⟩)
          go_ret2
          exact ⟨.inr ⟨HN.out, rfl⟩, Below.refl _ _⟩
        | false =>
          have HS := Lib.hid (noSep_step hS.out hlt hb)
          have H : ∀ w, Calls Try.prog 30 #[.string xs[k], .string ⟨#[c]⟩] w fun e w' => e = .returned (.bool false) ∧ w = w' := fun w => by
            have := contains_c xs[k] c w
            rw [hb] at this
            exact this
          have H' := Lib.hid H
          clear H hb hq' hq2
          go_wp2_with (go_at_call 30; refine (H'.out _).mono ?_; rintro e w' ⟨rfl, rfl⟩)
          go_round
          case rel => exact ⟨k + 1, q + xs[k].size, by omega, by go_num, by go_num, HQ.out, by omega, .inr hbig, HS.out⟩
          case measure => simp [intOf]; omega
      · have HN := Lib.hid (not_ok_sum (c := c) (xs := xs) (k := k + 1) h0 (by omega))
        clear hq' hq2
        go_wp2
        go_ret2
        exact ⟨.inr ⟨HN.out, rfl⟩, Below.refl _ _⟩
    · obtain rfl : k = xs.length := by omega
      have hz : (joinL c xs).length ≤ 4000 := by
        have h1 := joinL_len c xs (by rintro rfl; simp at h0)
        rw [List.take_of_length_le (Nat.le_refl _)] at hq
        omega
      have HO : Hid (okJ c xs) := ⟨by have := hS.out; unfold noSep at this; rwa [List.take_of_length_le (Nat.le_refl _)] at this, hz⟩
      have hcl := hr.cells (by simpa using h0)
      have HJ := Lib.hid (Try.strings_Join g o d xs ⟨#[c]⟩ w (fun j x hx => hcl.2 j _ (by rw [List.getElem?_map, hx]; rfl)) hcl.1 (by omega) hd (by show (joinL c xs).length ≤ _; omega))
      clear hq hq2 hcl hr hs
      go_wp2_with (go_at_call 31; refine (HJ.out).mono ?_; rintro e w' ⟨rfl, hb⟩)
      go_ret2
      exact ⟨.inl ⟨HO.out, rfl⟩, hb⟩

theorem spec_Join_bad (A : Option Addr) (n d : Nat) (sep : ByteArray) (w : World) (hn : n ≤ 100000000) (_hs : sep.size ≤ 100000000) (h : sep.size ≠ 1 ∨ n = 0) :
    Calls Try.prog 13 #[.slice A n d, .string sep] w fun e w' => e = .returned (.tuple #[.string ⟨#[]⟩, .bool false]) ∧ w = w' := by
  by_cases h1 : sep.size = 1
  · have h2 : ((n : Int) == 0) = true := by rw [beq_iff_eq]; omega
    have h3 : ((sep.size : Int) != 1) = false := by simp; omega
    clear h h1
    go_enter Try.func13, Try.ntmps13
    go_wp2
    go_ret2
    exact ⟨rfl, rfl⟩
  · have h3 : ((sep.size : Int) == 1) = false := by rw [beq_eq_false_iff_ne]; omega
    clear h h1
    go_enter Try.func13, Try.ntmps13
    go_wp2
    go_ret2
    exact ⟨rfl, rfl⟩
theorem impl_Join_bad (A : Option Addr) (n d : Nat) (sep : ByteArray) (w : World) (hn : n ≤ 100000000) (_hs : sep.size ≤ 100000000) (h : sep.size ≠ 1 ∨ n = 0) :
    Calls Try.prog 12 #[.slice A n d, .string sep] w fun e w' => e = .returned (.tuple #[.string ⟨#[]⟩, .bool false]) ∧ w = w' := by
  by_cases h1 : n = 0
  · have h2 : ((n : Int) == 0) = true := by rw [beq_iff_eq]; omega
    clear h h1
    go_enter Try.func12, Try.ntmps12
    go_wp2
    go_ret2
    exact ⟨rfl, rfl⟩
  · have h2 : ((n : Int) == 0) = false := by rw [beq_eq_false_iff_ne]; omega
    have h3 : ((sep.size : Int) != 1) = true := by simp; omega
    clear h h1
    go_enter Try.func12, Try.ntmps12
    go_wp2
    go_ret2
    exact ⟨rfl, rfl⟩
theorem one_byte (s : ByteArray) (h : s.size = 1) : ∃ c, s = ⟨#[c]⟩ := by
  have hl : s.data.toList.length = 1 := by simpa using h
  match hd : s.data.toList, hl with
  | [c], _ => exact ⟨c, by apply ByteArray.ext; apply Array.ext'; simpa using hd⟩
/-- Both sides in one word: what JoinStrings answers, whatever the separator. -/
def JoinAll (sep : ByteArray) (xs : List ByteArray) (e : Ending) : Prop :=
  (∃ c, sep = ⟨#[c]⟩ ∧ 0 < xs.length ∧ JoinAns c xs e) ∨ ((sep.size ≠ 1 ∨ xs.length = 0) ∧ e = .returned (.tuple #[.string ⟨#[]⟩, .bool false]))
theorem JoinAll.same {sep : ByteArray} {xs : List ByteArray} {e e' : Ending} (h : JoinAll sep xs e) (h' : JoinAll sep xs e') : ∃ s b, e = .returned (.tuple #[.string s, .bool b]) ∧ e' = .returned (.tuple #[.string s, .bool b]) := by
  have size1 : ∀ c : UInt8, (⟨#[c]⟩ : ByteArray).size = 1 := fun _ => rfl
  rcases h with ⟨c, rfl, h0, h⟩ | ⟨hb, rfl⟩ <;> rcases h' with ⟨c', hc, h0', h'⟩ | ⟨hb', rfl⟩
  · have : c = c' := by have := congrArg (fun s : ByteArray => s.data.toList) hc; simpa using this
    subst this
    rcases h with ⟨a, rfl⟩ | ⟨a, rfl⟩ <;> rcases h' with ⟨a', rfl⟩ | ⟨a', rfl⟩
    · exact ⟨_, _, rfl, rfl⟩
    · exact absurd a a'
    · exact absurd a' a
    · exact ⟨_, _, rfl, rfl⟩
  · have := size1 c; omega
  · subst hc; have := size1 c'; omega
  · exact ⟨_, _, rfl, rfl⟩
theorem spec_Join (A : Option Addr) (d : Nat) (xs : List ByteArray) (sep : ByteArray) (w : World) (hr : Row w A (xs.map Value.string)) (hn : xs.length ≤ 100000000) (hs : ∀ s ∈ xs, s.size ≤ 100000000) (hz : sep.size ≤ 100000000) :
    Calls Try.prog 13 #[.slice A xs.length d, .string sep] w fun e w' => JoinAll sep xs e ∧ Below w.heap.size w w' := by
  by_cases h : sep.size ≠ 1 ∨ xs.length = 0
  · exact (spec_Join_bad A _ d sep w hn hz h).mono fun _ _ ⟨h1, h2⟩ => ⟨.inr ⟨h, h1⟩, h2 ▸ Below.refl _ _⟩
  · obtain ⟨c, rfl⟩ := one_byte sep (by omega)
    exact (spec_Join_any A d xs c w hr hn hs (by omega)).mono fun _ _ ⟨h1, m, h2⟩ => ⟨.inl ⟨c, rfl, by omega, h1⟩, h2 ▸ below_drewN (Below.refl _ _) m⟩
theorem impl_Join (g o d : Nat) (xs : List ByteArray) (sep : ByteArray) (w : World) (hr : Row w (some ⟨g, o, none⟩) (xs.map Value.string)) (hn : xs.length ≤ 100000000) (hs : ∀ s ∈ xs, s.size ≤ 100000000) (hz : sep.size ≤ 100000000) (hd : xs.length ≤ d) :
    Calls Try.prog 12 #[.slice (some ⟨g, o, none⟩) xs.length d, .string sep] w fun e w' => JoinAll sep xs e ∧ Below w.heap.size w w' := by
  by_cases h : sep.size ≠ 1 ∨ xs.length = 0
  · exact (impl_Join_bad _ _ d sep w hn hz h).mono fun _ _ ⟨h1, h2⟩ => ⟨.inr ⟨h, h1⟩, h2 ▸ Below.refl _ _⟩
  · obtain ⟨c, rfl⟩ := one_byte sep (by omega)
    exact (impl_Join_any g o d xs c w hr hn hs (by omega) hd).mono fun _ _ ⟨h1, h2⟩ => ⟨.inl ⟨c, rfl, by omega, h1⟩, h2⟩
end Go.Proofs.Yteflgljifbcelaa
