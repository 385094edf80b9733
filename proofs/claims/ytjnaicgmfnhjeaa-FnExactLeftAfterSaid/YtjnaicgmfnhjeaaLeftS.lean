/- What the late rule has left after some jobs: the model's. -/
import Derived.Test.YtjnaicgmfnhjeaaLeftI
import Derived.Test.YtjnaicgmfnhjeaaPut
namespace Go.Proofs.Ytjnaicgmfnhjeaa
open Go.RowKit
set_option maxRecDepth 100000 in
theorem l3At_any (A : Option Addr) (c : Nat) (l : List Nat) (x : Int) (w : World) (hq : Row w A (ic (natI l))) (hn : l.length ≤ 1000) :
    Calls Try.prog 120 #[.slice A l.length c, .int .i64 x] w fun e w' => ∃ r : Int, e = .returned (.int .i64 r) ∧ ((r = -1 ∧ ∀ y ∈ l, ((y : Nat) : Int) ≠ x) ∨ ∃ i : Nat, r = (i : Int) ∧ ∃ h : i < l.length, (l[i] : Int) = x) ∧ w = w' := by
  go_enter Try.func120, Try.ntmps120
  go_wp2
  go_loop [5] (fun i => ∃ k : Nat, k ≤ l.length ∧ i = .int .i64 (k : Int) ∧ Hid (∀ y ∈ l.take k, ((y : Nat) : Int) ≠ x)) (fun i => l.length - (intOf i).toNat)
  case atStart => exact ⟨0, Nat.zero_le _, rfl, fun y hy => by cases hy⟩
  case round =>
    obtain ⟨k, hk, rfl, HN⟩ := hrel
    by_cases hlt : k < l.length
    · obtain ⟨ad, hA, hc⟩ := hq.nat hlt
      subst hA
      have hk0 : (0 : Int) ≤ k := by omega
      have hk1 : (k : Int) < l.length := by omega
      by_cases he : (l[k] : Int) = x
      · have hb : (((l[k] : Nat) : Int) == x) = true := beq_iff_eq.2 he
        have HF : Hid (∃ i : Nat, (k : Int) = (i : Int) ∧ ∃ h : i < l.length, (l[i] : Int) = x) := ⟨k, rfl, hlt, he⟩
        clear he hq HN
        generalize l[k] = y at *
        go_wp2
        go_ret
        exact ⟨_, rfl, .inr HF.out, rfl⟩
      · have hb : (((l[k] : Nat) : Int) == x) = false := beq_eq_false_iff_ne.2 he
        have HN2 : Hid (∀ y ∈ l.take (k + 1), ((y : Nat) : Int) ≠ x) := fun y hy => by
          rw [List.take_succ_eq_append_getElem hlt] at hy
          rcases List.mem_append.1 hy with h | h
          · exact HN.out y h
          · rw [List.mem_singleton.1 h]; exact he
        clear he hq HN
        generalize l[k] = y at *
        go_wp2
        go_round
        case rel => exact ⟨k + 1, by omega, by go_num, HN2⟩
        case measure => simp [intOf]; omega
    · obtain rfl : k = l.length := by omega
      have HN2 : Hid (∀ y ∈ l, ((y : Nat) : Int) ≠ x) := fun y hy => HN.out y (by rw [List.take_length]; exact hy)
      clear HN
      go_wp2
      go_ret
      exact ⟨-1, rfl, .inl ⟨rfl, HN2.out⟩, rfl⟩
theorem putTo_len (st : List (Int × Int)) : ∀ k, (putTo st k).length ≤ k
  | 0 => Nat.le_refl _
  | k + 1 => by
    have h1 := putTo_len st k
    have h2 := put_len (st.getD k (0, 0)).1.toNat (putTo st k)
    show (putN _ (putTo st k)).length ≤ _
    omega
theorem outTo_len (st : List (Int × Int)) (l : List Nat) : ∀ k, (outTo st l k).length ≤ l.length
  | 0 => Nat.le_refl _
  | k + 1 => by
    have h1 := outTo_len st l k
    have h2 : (outN (st.getD k (0, 0)).2 (outTo st l k)).length ≤ (outTo st l k).length := List.length_filter_le _ _
    show (outN _ (outTo st l k)).length ≤ _
    omega
theorem ret_ownF {w w' : World} {r : List Int × Bool} {v : Value} (hr : r = ([], false)) (ho : w'.ownsRow w.heap.size 3 1 v 0 []) (hb : Below w.heap.size w w') (e : Ending) (he : e = .returned (.tuple #[v, .bool false])) : RetIB w r e w' := by
  subst hr
  obtain ⟨A, c, rfl, hs⟩ := seg_out ho
  subst he
  exact ⟨A, c, rfl, hs, hb⟩
section
variable (A : Option Addr) (c : Nat) (js : List J) (k : Int) (w : World) (hr : Row w A (jc js)) (hn : js.length ≤ 10000000)
include hr hn
set_option maxRecDepth 100000 in
set_option maxHeartbeats 1000000 in
theorem spec_LeftAfter : Calls Try.prog 45 #[.slice A js.length c, .int .i64 k] w (RetIB w (leftR js k)) := by
  have HR : Hid (leftR js k = if plainL js && decide (0 ≤ k ∧ k ≤ js.length) then (natI (ascL js.length (lateGo js k.toNat).left), true) else ([], false)) := rfl
  have hown0 : (w.alloc (.cells #[] 3)).ownsRow w.heap.size 3 1 (.slice (some ⟨w.heap.size, 0, none⟩) 0 0) 0 [] := World.ownsRow_made w #[] 0 (Nat.le_refl _) (by unfold maxLen; omega) rfl
  have hb0 := (Below.refl w.heap.size w).alloc (Nat.le_refl _) (.cells #[] 3)
  have H0 := Lib.hid (And.intro hown0 hb0)
  clear hown0 hb0
  cases hp : plainL js
  · rw [hp] at HR
    go_enter Try.func45, Try.ntmps45
    go_wp2_with fail
    refine (spec_IsPlain A c js _ (hr.below H0.out.2) (by omega)).mono ?_
    rintro e w1 ⟨rfl, hb1⟩
    rw [hp]
    have HZ := Lib.hid (And.intro (own_blw H0.out.1 hb1) (H0.out.2.trans (hb1.mono H0.out.2.size)))
    clear H0 hb1
    go_wp2
    go_ret2
    exact ret_ownF (by rw [HR.out]; rfl) HZ.out.1 HZ.out.2 _ rfl
  · cases hin : decide (0 ≤ k ∧ k ≤ js.length)
    · rw [hp, hin] at HR
      have hib : inB k 0 (js.length : Int) = false := hin
      go_enter Try.func45, Try.ntmps45
      go_wp2_with fail
      refine (spec_IsPlain A c js _ (hr.below H0.out.2) (by omega)).mono ?_
      rintro e w1 ⟨rfl, hb1⟩
      rw [hp]
      have HZ := Lib.hid (And.intro (own_blw H0.out.1 hb1) (H0.out.2.trans (hb1.mono H0.out.2.size)))
      clear H0 hb1
      go_wp2_with fail
      refine (l1In_any _ _ _ _).mono ?_
      rintro e _ ⟨rfl, rfl⟩
      rw [hib]
      go_wp2
      go_ret2
      exact ret_ownF (by rw [HR.out]; rfl) HZ.out.1 HZ.out.2 _ rfl
    · have hkk : 0 ≤ k ∧ k ≤ js.length := of_decide_eq_true hin
      rw [hp, hin] at HR
      have hib : inB k 0 (js.length : Int) = true := hin
      obtain ⟨m, rfl⟩ : ∃ m : Nat, k = (m : Int) := ⟨k.toNat, by omega⟩
      rw [Int.toNat_natCast] at HR
      have hm : m ≤ js.length := by omega
      have hg := plain_good hp
      have h8 := (good_out hg).1
      have HST := Lib.hid (late_lens js).1
      have HASC := Lib.hid (left_asc js hm)
      have HFS : Hid (∀ q (h : q < (lateGo js js.length).steps.length), ∃ x : Nat, (lateGo js js.length).steps[q].1 = (x : Int)) := fun q h => by
        have h1 := steps_fst js js.length (by rw [ruledL_len]; exact Nat.le_refl _) q (by rw [(late_lens js).1] at h; exact h)
        rw [getD_at _ _ h] at h1
        exact ⟨_, h1⟩
      clear hin hkk
      go_enter Try.func45, Try.ntmps45
      go_wp2_with fail
      refine (spec_IsPlain A c js _ (hr.below H0.out.2) (by omega)).mono ?_
      rintro e w1 ⟨rfl, hb1⟩
      rw [hp]
      have HZ := Lib.hid (And.intro (own_blw H0.out.1 hb1) (H0.out.2.trans (hb1.mono H0.out.2.size)))
      clear H0 hb1
      go_wp2_with fail
      refine (l1In_any _ _ _ _).mono ?_
      rintro e _ ⟨rfl, rfl⟩
      rw [hib]
      have HLR := Lib.hid (l3Rule_any A c js w1 (hr.below HZ.out.2) hg)
      go_wp2_with fail
      refine HLR.out.mono ?_
      rintro e w2 ⟨vt, vd, vs, rfl, ht, hd, hs, _, hb2⟩
      obtain ⟨At, ct, rfl, _⟩ := own_slice ht
      obtain ⟨Ad, cd, rfl, _⟩ := own_slice hd
      obtain ⟨As, cs, rfl, _⟩ := own_slice hs
      have hsz1 := HZ.out.2.size
      have H2 : Hid (w2.ownsRow w.heap.size 3 1 (.slice (some ⟨w.heap.size, 0, none⟩) 0 0) 0 [] ∧ w2.ownsRow w.heap.size 103 2 (.slice As (lateGo js js.length).steps.length cs) (lateGo js js.length).steps.length (pc (lateGo js js.length).steps) ∧ Below w.heap.size w w2) :=
        ⟨own_blw HZ.out.1 hb2, own_low hs hsz1, HZ.out.2.trans (hb2.mono hsz1)⟩
      generalize (lateGo js js.length).steps = st at *
      generalize (lateGo js js.length).left.length = lt at *
      generalize (lateGo js js.length).drop.length = ld at *
      have hstl : st.length = js.length := HST.out
      have hml : m ≤ st.length := by omega
      have hst8 : st.length ≤ 8 := by omega
      have hfd := late_f2 At Ad As lt ld st.length ct cd cs
      clear ht hd hs hb2 HLR HZ hsz1 hstl HST
      go_wp2
      go_loopw [6, 8] (fun v i wr => ∃ (q : Nat) (ad : Addr) (cc : Nat), q ≤ m ∧ i = .int .i64 (q : Int) ∧ v = .slice (some ad) (putTo st q).length cc ∧ Hid (wr.ownsRow w.heap.size 3 1 (.slice (some ad) (putTo st q).length cc) (putTo st q).length (ic (natI (putTo st q))) ∧ wr.ownsRow w.heap.size 103 2 (.slice As st.length cs) st.length (pc st) ∧ Below w.heap.size w wr)) (fun _ i _ => m - (intOf i).toNat)
      case atStart => exact ⟨0, ⟨w.heap.size, 0, none⟩, 0, Nat.zero_le _, rfl, rfl, H2⟩
      case round =>
        obtain ⟨q, ad, cc, hq, rfl, rfl, HK⟩ := hrel
        clear H2
        by_cases hlt : q < m
        · have hqs : q < st.length := by omega
          have hq0 : (0 : Int) ≤ q := by omega
          have hq1 : (q : Int) < st.length := by omega
          have hq2 : (q : Int) < m := by omega
          obtain ⟨ast, hAs, _, c0, c1⟩ := (Row.of_own HK.out.2.1).pair hqs
          subst hAs
          obtain ⟨x, hx⟩ := HFS.out q hqs
          have HPN : Hid (putTo st (q + 1) = putN x (putTo st q)) := by
            show putN (st.getD q (0, 0)).1.toNat (putTo st q) = _
            rw [getD_at st (0, 0) hqs, hx]; rfl
          rw [hx] at c0
          have hpl := putTo_len st q
          have HP := Lib.hid (l1Put_any ad cc w.heap.size (putTo st q) x wr HK.out.1 (putTo_strict st q) (by omega) HK.out.2.2.size)
          go_wp2_with fail
          refine HP.out.mono ?_
          rintro e w3 ⟨ad3, c3, rfl, ho3, hb3⟩
          have HK3 : Hid (w3.ownsRow w.heap.size 3 1 (.slice (some ad3) (putTo st (q + 1)).length c3) (putTo st (q + 1)).length (ic (natI (putTo st (q + 1)))) ∧ w3.ownsRow w.heap.size 103 2 (.slice (some ast) st.length cs) st.length (pc st) ∧ Below w.heap.size w w3) := by
            rw [HPN.out]; exact ⟨ho3, own_blw HK.out.2.1 hb3, HK.out.2.2.trans (hb3.mono HK.out.2.2.size)⟩
          rw [← HPN.out]
          clear ho3 hb3 HK HP c0 c1
          go_wp2
          go_roundw
          case rel => exact ⟨q + 1, ad3, c3, by omega, by go_num, rfl, HK3⟩
          case measure => simp [intOf]; omega
        · obtain rfl : q = m := by omega
          have HO := Lib.hid (putTo_strict st q)
          have hpl := putTo_len st q
          have HK1 : Hid (wr.ownsRow w.heap.size 3 1 (.slice (some ad) (outTo st (putTo st q) 0).length cc) (outTo st (putTo st q) 0).length (ic (natI (outTo st (putTo st q) 0))) ∧ wr.ownsRow w.heap.size 103 2 (.slice As st.length cs) st.length (pc st) ∧ Below w.heap.size w wr) := HK.out
          have e0 : (putTo st q).length = (outTo st (putTo st q) 0).length := rfl
          rw [e0]
          obtain ⟨wo, rfl⟩ : ∃ wo : World, wo = wr := ⟨_, rfl⟩
          obtain ⟨P, hP⟩ : ∃ P, P = putTo st q := ⟨_, rfl⟩
          rw [← hP] at HO hpl HK1 HASC ⊢
          clear HK hP e0
          go_wp2
          go_loopw [6, 9] (fun v i wi => ∃ (z : Nat) (AD : Option Addr) (cc : Nat), z ≤ q ∧ i = .int .i64 (z : Int) ∧ v = .slice AD (outTo st P z).length cc ∧ Hid (wi.ownsRow w.heap.size 3 1 (.slice AD (outTo st P z).length cc) (outTo st P z).length (ic (natI (outTo st P z))) ∧ wi.ownsRow w.heap.size 103 2 (.slice As st.length cs) st.length (pc st) ∧ Below w.heap.size w wi)) (fun _ i _ => q - (intOf i).toNat)
          case atStart => exact ⟨0, some ad, cc, Nat.zero_le _, rfl, rfl, HK1⟩
          case round =>
            obtain ⟨z, AD, cc, hz, rfl, rfl, HK⟩ := hrel
            clear HK1
            by_cases hlt : z < q
            · have hqs : z < st.length := by omega
              have hq0 : (0 : Int) ≤ z := by omega
              have hq1 : (z : Int) < st.length := by omega
              have hq2 : (z : Int) < q := by omega
              obtain ⟨ast, hAs, _, c0, c1⟩ := (Row.of_own HK.out.2.1).pair hqs
              subst hAs
              have HNX : Hid (outTo st P (z + 1) = outN st[z].2 (outTo st P z)) := by
                show outN (st.getD z (0, 0)).2 (outTo st P z) = _
                rw [getD_at st (0, 0) hqs]
              have hol := outTo_len st P z
              have HSTR := Lib.hid (outTo_strict st HO.out z)
              generalize outTo st P z = L at *
              have HAT := Lib.hid (l3At_any AD cc L st[z].2 wr (Row.of_own HK.out.1) (by omega))
              generalize st[z].2 = y at *
              generalize st[z].1 = x at *
              go_wp2_with fail
              refine HAT.out.mono ?_
              rintro e _ ⟨r, rfl, ⟨rfl, hno⟩ | ⟨i, rfl, hil, hie⟩, rfl⟩
              · have HS := Lib.hid (HNX.out.trans (outN_none hno))
                clear hno HNX HAT HSTR
                go_wp2
                go_roundw
                case rel => exact ⟨z + 1, AD, cc, by omega, by go_num, by rw [HS.out], by rw [HS.out]; exact HK.out⟩
                case measure => simp [intOf]; omega
              · have HS : Hid (outTo st P (z + 1) = L.eraseIdx i) := by
                  show _ = _
                  rw [HNX.out, ← hie]; exact outN_erase HSTR.out hil
                have hi0 : (0 : Int) ≤ i := by omega
                have hi1 : (i : Int) < L.length := by omega
                have hel : (L.eraseIdx i).length = L.length - 1 := List.length_eraseIdx_of_lt hil
                obtain ⟨adL, hadL⟩ : ∃ adL, AD = some adL := by
                  obtain ⟨g, _, hA, _⟩ := own_block HK.out.1 (by omega)
                  exact ⟨_, hA⟩
                subst hadL
                have HWO := Lib.hid (l3Without_any adL cc (natI L) i wr (Row.of_own HK.out.1) (by rw [List.length_map]; omega) (by rw [List.length_map]; exact (slice_some HK.out.1).2) (by rw [List.length_map]; exact hil))
                rw [List.length_map, natI_erase, ← hel] at HWO
                clear hel hie HNX HAT HSTR hil
                go_wp2_with fail
                refine HWO.out.mono ?_
                rintro e w5 ⟨v5, rfl, ho5, hb5⟩
                have HK5 : Hid (w5.ownsRow w.heap.size 3 1 v5 (L.eraseIdx i).length (ic (natI (L.eraseIdx i))) ∧ w5.ownsRow w.heap.size 103 2 (.slice (some ast) st.length cs) st.length (pc st) ∧ Below w.heap.size w w5) :=
                  ⟨own_low ho5 HK.out.2.2.size, own_blw HK.out.2.1 hb5, HK.out.2.2.trans (hb5.mono HK.out.2.2.size)⟩
                obtain ⟨A5, c5, rfl, _⟩ := own_slice ho5
                clear ho5 hb5 HK HWO c0 c1
                rw [← HS.out] at HK5 ⊢
                go_wp2
                go_roundw
                case rel => exact ⟨z + 1, A5, c5, by omega, by go_num, rfl, HK5⟩
                case measure => simp [intOf]; omega
            · obtain rfl : z = q := by omega
              have HF := Lib.hid (And.intro HK.out.1 HK.out.2.2)
              have HLN : Hid ((outTo st P z).length = (outTo st P z).length) := rfl
              clear HK
              go_wp2
              go_ret2
              exact ret_ownR (by rw [HR.out, ← HASC.out]; rfl) rfl HF.out.1 HF.out.2 _ rfl
end
end Go.Proofs.Ytjnaicgmfnhjeaa
