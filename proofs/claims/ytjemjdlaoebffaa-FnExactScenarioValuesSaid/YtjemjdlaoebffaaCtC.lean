/- Criteria of a list of jobs with two objectives: the program's. -/
import Derived.Test.YtjemjdlaoebffaaCtV
import Derived.Test.YtjemjdlaoebffaaGood
namespace Go.Proofs.Ytjemjdlaoebffaa
set_option linter.unusedSimpArgs false
set_option linter.unusedVariables false
open Go.RowKit
theorem FnIs.up {B B' : Nat} {w : World} {o : Int} {fv : Value} (h : FnIs B w o fv) (hB : B ≤ B') : FnIs B' w o fv := by
  rcases h with h | h | ⟨h, b, h1, h2, h3⟩ | ⟨h, b, c, h1, h2, h3, h4, h5⟩ | ⟨h, b, h1, h2, h3⟩ | ⟨h, b, c, h1, h2, h3, h4, h5⟩ | ⟨h, b, c, d, h1, h2, h3, h4, h5, h6, h7⟩
  · exact .inl h
  · exact .inr (.inl h)
  · exact .inr (.inr (.inl ⟨h, b, h1, by omega, h3⟩))
  · exact .inr (.inr (.inr (.inl ⟨h, b, c, h1, by omega, h3, by omega, h5⟩)))
  · exact .inr (.inr (.inr (.inr (.inl ⟨h, b, h1, by omega, h3⟩))))
  · exact .inr (.inr (.inr (.inr (.inr (.inl ⟨h, b, c, h1, by omega, h3, by omega, h5⟩)))))
  · exact .inr (.inr (.inr (.inr (.inr (.inr ⟨h, b, c, d, h1, by omega, h3, by omega, h5, by omega, h7⟩)))))
theorem FnIs.go {B B' : Nat} {w w' : World} {o : Int} {fv : Value} (h : FnIs B w o fv) (hB : B ≤ w.heap.size) (hb : Below w.heap.size w w') (hB' : B ≤ B') : FnIs B' w' o fv := (h.keep fun b hlt => hb.block b (by omega)).up hB'
def okC (js : List J) (f g : Int) : Bool := (isObj f && isObj g) && goodL js
/-- What pointCriteria hands back. -/
def PcPost (w : World) (A : Option Addr) (c : Nat) (js : List J) (f g : Int) (e : Ending) (w' : World) : Prop := Below w.heap.size w w' ∧
  ((okC js f g = false ∧ e = .returned (.tuple #[.slice none 0 0, .bool false])) ∨
   (okC js f g = true ∧ ∃ gc fv1 fv2, e = .returned (.tuple #[.slice (some ⟨gc, 0, none⟩) 2 2, .bool true]) ∧ CritIs w'.heap.size w' (some ⟨gc, 0, none⟩) js.length [⟨A, c, js, f, fv1⟩, ⟨A, c, js, g, fv2⟩]))
set_option maxRecDepth 100000 in
set_option maxHeartbeats 8000000 in
theorem pointCriteria_any (A : Option Addr) (c : Nat) (js : List J) (f g : Int) (w : World) (hr : Row w A (jc js)) (hn : js.length ≤ 10000000) :
    Calls Try.prog 62 #[.slice A js.length c, .int .i64 f, .int .i64 g] w (PcPost w A c js f g) := by
  have HR := Lib.hid hr
  clear hr
  go_enter Try.func62, Try.ntmps62
  go_wp2_with fail
  refine (measureOf_any f w).mono ?_
  rintro e w1 ⟨hb1, ⟨hf, rfl⟩ | ⟨hf, fv1, rfl, hfn1⟩⟩
  · have hst0 := store_pair Try.prog w1 .nilFunc .nilFunc (.bool false) 140 rfl
    have hbA := (Below.refl w1.heap.size w1).alloc (Nat.le_refl _) (.cells #[.nilFunc, .bool false] 140)
    have HA := Lib.hid (And.intro (BlockIs.new w1 140 #[.nilFunc, .bool false]) (hb1.trans (hbA.mono hb1.size)))
    clear hbA
    go_wp2_with fail
    refine (measureOf_any g _).mono ?_
    rintro e w2 ⟨hb2, ⟨hg, rfl⟩ | ⟨hg, fv2, rfl, hfn2⟩⟩
    · have HOK : Hid (okC js f g = false) := by show _ = _; unfold okC; rw [hf, hg]; rfl
      have hst3 := store_pair Try.prog w2 .nilFunc .nilFunc (.bool false) 140 rfl
      have HB := Lib.hid ((HA.out.2.trans (hb2.mono HA.out.2.size)).alloc (HA.out.2.trans (hb2.mono HA.out.2.size)).size (.cells #[.nilFunc, .bool false] 140))
      clear hb2 hg hf HA
      go_wp2
      go_ret2
      exact ⟨HB.out, .inl ⟨HOK.out, rfl⟩⟩
    · obtain ⟨ff2, caps2, rfl, _, _⟩ := cost_call hfn2
      have hst2 := store_pair Try.prog w2 (.func (.func ff2) #[] caps2) .nilFunc (.bool false) 140 rfl
      have hB2 := HA.out.2.trans (hb2.mono HA.out.2.size)
      have hbx := (Below.refl w2.heap.size w2).alloc (Nat.le_refl _) (.cells #[.func (.func ff2) #[] caps2, .bool (isTop g)] 140)
      have HOK : Hid (okC js f g = false) := by show _ = _; unfold okC; rw [hf]; rfl
      have HB := Lib.hid (hB2.trans (hbx.mono hB2.size))
      clear hb2 hB2 hbx hg hf hfn2 HA
      go_wp2
      go_ret2
      exact ⟨HB.out, .inl ⟨HOK.out, rfl⟩⟩
  · obtain ⟨ff1, caps1, rfl, _, _⟩ := cost_call hfn1
    have hst1 := store_pair Try.prog w1 (.func (.func ff1) #[] caps1) .nilFunc (.bool false) 140 rfl
    have hbA := (Below.refl w1.heap.size w1).alloc (Nat.le_refl _) (.cells #[.func (.func ff1) #[] caps1, .bool (isTop f)] 140)
    have HA := Lib.hid (And.intro (BlockIs.new w1 140 #[.func (.func ff1) #[] caps1, .bool (isTop f)]) (And.intro (hb1.trans (hbA.mono hb1.size)) (hfn1.go (Nat.le_refl _) hbA (Nat.le_refl _))))
    have hsA := hbA.size
    clear hbA hfn1 hb1
    go_wp2_with fail
    refine (measureOf_any g _).mono ?_
    rintro e w2 ⟨hb2, ⟨hg, rfl⟩ | ⟨hg, fv2, rfl, hfn2⟩⟩
    · have HOK : Hid (okC js f g = false) := by show _ = _; unfold okC; rw [hf, hg]; rfl
      have HB := Lib.hid ((HA.out.2.1.trans (hb2.mono HA.out.2.1.size)).alloc (HA.out.2.1.trans (hb2.mono HA.out.2.1.size)).size (.cells #[.nilFunc, .bool false] 140))
      have hst3 := store_pair Try.prog w2 .nilFunc .nilFunc (.bool false) 140 rfl
      clear hb2 hg hf HA
      go_wp2
      go_ret2
      exact ⟨HB.out, .inl ⟨HOK.out, rfl⟩⟩
    · obtain ⟨ff2, caps2, rfl, _, _⟩ := cost_call hfn2
      have hst2 := store_pair Try.prog w2 (.func (.func ff2) #[] caps2) .nilFunc (.bool false) 140 rfl
      have hB2 := HA.out.2.1.trans (hb2.mono HA.out.2.1.size)
      have hbx := (Below.refl w2.heap.size w2).alloc (Nat.le_refl _) (.cells #[.func (.func ff2) #[] caps2, .bool (isTop g)] 140)
      have HF1 := Lib.hid ((HA.out.2.2.go hsA hb2 (Nat.le_refl _)).go (Nat.le_trans hsA hb2.size) hbx (Nat.le_refl _))
      have HF2 := Lib.hid (hfn2.go (Nat.le_refl _) hbx (Nat.le_refl _))
      have HX := Lib.hid (And.intro (BlockIs.new w2 140 #[.func (.func ff2) #[] caps2, .bool (isTop g)]) (And.intro ((HA.out.1.below hb2).below hbx) (hB2.trans (hbx.mono hB2.size))))
      have hs2 := hb2.size
      have hsx : (w2.alloc (.cells #[.func (.func ff2) #[] caps2, .bool (isTop g)] 140)).heap.size = w2.heap.size + 1 := by simp
      have HJ := Lib.hid (IsJobs_any A c js _ (HR.out.below HX.out.2.2) (by omega))
      clear hb2 hB2 hbx hfn2 HA
      go_wp2_with fail
      refine HJ.out.mono ?_
      rintro e w3 ⟨rfl, hb3⟩
      have HB3 := Lib.hid (HX.out.2.2.trans (hb3.mono HX.out.2.2.size))
      have c0 := (HX.out.1.below hb3).cell 0
      have c1 := (HX.out.1.below hb3).cell 1
      have d0 := (HX.out.2.1.below hb3).cell 0
      have d1 := (HX.out.2.1.below hb3).cell 1
      simp only [List.getElem?_toArray, List.getElem?_cons_zero, List.getElem?_cons_succ] at c0 c1 d0 d1
      cases hgd : goodL js
      · have HOK : Hid (okC js f g = false) := by show _ = _; unfold okC; rw [hgd, Bool.and_false]
        clear hgd hf hg hb3
        go_wp2
        go_ret2
        exact ⟨HB3.out, .inl ⟨HOK.out, rfl⟩⟩
      · have HOK : Hid (okC js f g = true) := by show _ = _; unfold okC; rw [hf, hg, hgd]; rfl
        have hcs : crc [⟨A, c, js, f, .func (.func ff1) #[] caps1⟩, ⟨A, c, js, g, .func (.func ff2) #[] caps2⟩] = [.slice A js.length c, .func (.func ff1) #[] caps1, .bool (isTop f), .slice A js.length c, .func (.func ff2) #[] caps2, .bool (isTop g)] := rfl
        have hbz := (Below.refl w3.heap.size w3).alloc (Nat.le_refl _) (.cells #[.slice A js.length c, .func (.func ff1) #[] caps1, .bool (isTop f), .slice A js.length c, .func (.func ff2) #[] caps2, .bool (isTop g)] 144)
        have HROW := Lib.hid (Row.new w3 144 #[.slice A js.length c, .func (.func ff1) #[] caps1, .bool (isTop f), .slice A js.length c, .func (.func ff2) #[] caps2, .bool (isTop g)])
        have HF1' := Lib.hid ((HF1.out.go (by omega) hb3 (Nat.le_refl _)).go (by have := hb3.size; omega) hbz (Nat.le_refl _))
        have HF2' := Lib.hid ((HF2.out.go (by omega) hb3 (Nat.le_refl _)).go (by have := hb3.size; omega) hbz (Nat.le_refl _))
        have HBZ := Lib.hid (HB3.out.trans (hbz.mono HB3.out.size))
        have HGG := Lib.hid (And.intro hf (And.intro hg hgd))
        have HSZ : Hid (w1.heap.size ≤ (w3.alloc (.cells #[.slice A js.length c, .func (.func ff1) #[] caps1, .bool (isTop f), .slice A js.length c, .func (.func ff2) #[] caps2, .bool (isTop g)] 144)).heap.size ∧ w2.heap.size ≤ (w3.alloc (.cells #[.slice A js.length c, .func (.func ff1) #[] caps1, .bool (isTop f), .slice A js.length c, .func (.func ff2) #[] caps2, .bool (isTop g)] 144)).heap.size) := by
          have h1 := hb3.size
          have h2 := hbz.size
          show _ ∧ _
          omega
        clear hgd hf hg hb3 hbz hs2 hsA hsx
        go_wp2
        go_ret2
        refine ⟨HBZ.out, .inr ⟨HOK.out, w3.heap.size, .func (.func ff1) #[] caps1, .func (.func ff2) #[] caps2, rfl, ?_, Nat.le_refl _, ?_⟩⟩
        · rw [hcs]; exact HROW.out
        · intro i hi
          rcases (by simp at hi; omega : i = 0 ∨ i = 1) with rfl | rfl
          · exact ⟨HR.out.below HBZ.out, HF1'.out.up HSZ.out.1, HGG.out.1, HGG.out.2.2, rfl⟩
          · exact ⟨HR.out.below HBZ.out, HF2'.out.up HSZ.out.2, HGG.out.2.1, HGG.out.2.2, rfl⟩
end Go.Proofs.Ytjemjdlaoebffaa
