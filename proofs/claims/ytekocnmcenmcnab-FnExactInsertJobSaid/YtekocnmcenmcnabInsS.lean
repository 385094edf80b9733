/- InsertJob of the model. Made by tools/mk_ins.py. -/
import Derived.Test.YtekocnmcenmcnabIns
import Derived.Test.YtekocnmcenmcnabMeasI
import Derived.IntWalk
namespace Go.Proofs.Ytekocnmcenmcnab
open Go.RowKit
theorem exec_slice {P : Program} {o : Oper} {ev : Operand → Value} {x : Operand} {lo hi mx : Option Operand} {t : TypeId} {v : Value} {w : World} (ho : o.op = .slice t x lo hi mx) (hr : (Instr.sliceAt t (ev x) (lo.map ev) (hi.map ev) (mx.map ev)).run P w = .ok v w) : (execOp ev o).run P w = .ok (.value v) w := by
  unfold execOp
  simp [ho, hr, Result.andThen]
theorem exec_append {P : Program} {o : Oper} {ev : Operand → Value} {s x : Operand} {t : TypeId} {v u r : Value} {w w' : World} (ho : o.op = .call { callee := .builtin .append, args := #[s, x], argTypes := #[t, t] }) (hs : ev s = v) (hx : ev x = u) (hr : (Builtin.append_ #[t, t] o.type #[v, u]).run P w = .ok r w') : (execOp ev o).run P w = .ok (.value r) w' := by
  unfold execOp
  simp only [ho, resolve, invoke, builtin, Sem.run_bind, Sem.run_pure, Result.andThen_ok, List.map_toArray, List.map_cons, List.map_nil, hs, hx, hr]
theorem slice_h (ad : Addr) (n c : Nat) (h : Nat) (w : World) (hc : h ≤ c) : (Instr.sliceAt 30 (.slice (some ad) n c) none (some (.int .i64 (h : Int))) none).run Try.prog w = .ok (.slice (some ad) h c) w := by
  simp [hc, go_sem]
def tailAd (ad : Addr) (l c : Nat) : Addr := if c = l then ad else ad.add l
theorem slice_l (ad : Addr) (n c : Nat) (l : Nat) (w : World) (hl : l ≤ n) : (Instr.sliceAt 30 (.slice (some ad) n c) (some (.int .i64 (l : Int))) none none).run Try.prog w = .ok (.slice (some (tailAd ad l c)) (n - l) (c - l)) w := by
  unfold tailAd
  simp [hl, go_sem]
  split <;> simp_all
theorem tail_src {w : World} {ad : Addr} {xs : List Int} {l c : Nat} (hr : Row w (some ad) (ic xs)) (hc : xs.length ≤ c) : ∀ j u, (ic (xs.drop l))[j]? = some u → w.cell? ((tailAd ad l c).add j) = some u := by
  intro j u hu
  have hj : j < (xs.drop l).length := by have := (List.getElem?_eq_some_iff.1 hu).1; rwa [ic_len] at this
  have hj' : l + j < xs.length := by simp at hj; omega
  have hne : c ≠ l := by omega
  unfold tailAd
  rw [if_neg hne, Addr.add_add]
  refine row_src hr _ _ ?_
  unfold ic at hu ⊢
  rw [List.getElem?_map, List.getElem?_drop] at hu
  rw [List.getElem?_map]; exact hu
theorem own_lower {w : World} {B B' e size n : Nat} {v : Value} {xs : List Value} (h : w.ownsRow B' e size v n xs) (hB : B ≤ B') : w.ownsRow B e size v n xs :=
  ⟨h.1, h.2.imp id fun ⟨g, cap, cur, hv, hb, r⟩ => ⟨g, cap, cur, hv, Nat.le_trans hB hb, r⟩⟩
theorem own_below {w w' : World} {B n : Nat} {v : Value} {xs : List Value} (h : w.ownsRow B 3 1 v n xs) (hb : Below w.heap.size w w') : w'.ownsRow B 3 1 v n xs := by
  refine ⟨h.1, h.2.imp id fun ⟨g, cap, cur, hv, hB, hg, r⟩ => ⟨g, cap, cur, hv, hB, ?_, r⟩⟩
  rw [hb.block g (Array.getElem?_eq_some_iff.1 hg).1]; exact hg
theorem row_take {w : World} {A : Option Addr} {xs : List Int} (h : Row w A (ic xs)) (k : Nat) : Row w A (ic (xs.take k)) := by
  intro h0
  rw [ic_len] at h0
  obtain ⟨ad, h1, h2, h3⟩ := h (by rw [ic_len]; simp at h0; omega)
  refine ⟨ad, h1, h2, fun j u hu => h3 j u ?_⟩
  unfold ic at hu ⊢
  rw [List.map_take, List.getElem?_take] at hu
  split at hu
  · exact hu
  · cases hu
theorem own_part {ad : Addr} {c k : Nat} {xs : List Int} {w : World} (hr : Row w (some ad) (ic xs)) (hk : k ≤ xs.length) (hn : xs.length ≤ 100000) :
    Calls Try.prog 53 #[.slice (some ad) k c] w fun e w' => ∃ ad' c', e = .returned (.slice (some ad') k c') ∧ w'.ownsRow w.heap.size 3 1 (.slice (some ad') k c') k (ic (xs.take k)) ∧ Below w.heap.size w w' := by
  have hl : (xs.take k).length = k := by simp; omega
  have h := l1Own_some ad c (xs.take k) w (row_take hr k) (by omega)
  rwa [hl] at h
theorem slice_some {B n : Nat} {w : World} {ad : Addr} {k c : Nat} {xs : List Value} (h : w.ownsRow B 3 1 (.slice (some ad) k c) n xs) : k = n ∧ n ≤ c := by
  rcases h.2 with ⟨hv, _⟩ | ⟨g, cap, cur, hv, _, _, hc, _⟩
  · cases hv
  · injection hv with _ e2 e3
    exact ⟨e2, by omega⟩
theorem but_own {a3 b3 v0 v1 v2 v4 v5 v6 v7 v8 v9 : Value} (j : Nat) (h3 : j ≠ 3) : (#[v0, v1, v2, a3, v4, v5, v6, v7, v8, v9] : Array Value).getD j undef = (#[v0, v1, v2, b3, v4, v5, v6, v7, v8, v9] : Array Value).getD j undef := by
  rcases (by omega : j = 0 ∨ j = 1 ∨ j = 2 ∨ j = 4 ∨ j = 5 ∨ j = 6 ∨ j = 7 ∨ j = 8 ∨ j = 9 ∨ 9 < j) with rfl | rfl | rfl | rfl | rfl | rfl | rfl | rfl | rfl | h
  all_goals first | rfl | (simp only [Array.getD_eq_getD_getElem?]; rw [Array.getElem?_eq_none (by simp; omega), Array.getElem?_eq_none (by simp; omega)])
theorem but_app {a8 a9 b8 b9 v0 v1 v2 v3 v4 v5 v6 v7 : Value} (j : Nat) (h8 : j ≠ 8) (h9 : j ≠ 9) : (#[v0, v1, v2, v3, v4, v5, v6, v7, a8, a9] : Array Value).getD j undef = (#[v0, v1, v2, v3, v4, v5, v6, v7, b8, b9] : Array Value).getD j undef := by
  rcases (by omega : j = 0 ∨ j = 1 ∨ j = 2 ∨ j = 3 ∨ j = 4 ∨ j = 5 ∨ j = 6 ∨ j = 7 ∨ 9 < j) with rfl | rfl | rfl | rfl | rfl | rfl | rfl | rfl | h
  all_goals first | rfl | (simp only [Array.getD_eq_getD_getElem?]; rw [Array.getElem?_eq_none (by simp; omega), Array.getElem?_eq_none (by simp; omega)])
theorem but_own2 {a3 b3 v0 v1 v10 v11 v12 v13 v14 v15 v2 v4 v5 v6 v7 v8 v9 : Value} (j : Nat) (h3 : j ≠ 3) : (#[v0, v1, v2, a3, v4, v5, v6, v7, v8, v9, v10, v11, v12, v13, v14, v15] : Array Value).getD j undef = (#[v0, v1, v2, b3, v4, v5, v6, v7, v8, v9, v10, v11, v12, v13, v14, v15] : Array Value).getD j undef := by
  rcases (by omega : j = 0 ∨ j = 1 ∨ j = 2 ∨ j = 4 ∨ j = 5 ∨ j = 6 ∨ j = 7 ∨ j = 8 ∨ j = 9 ∨ j = 10 ∨ j = 11 ∨ j = 12 ∨ j = 13 ∨ j = 14 ∨ j = 15 ∨ 15 < j) with rfl | rfl | rfl | rfl | rfl | rfl | rfl | rfl | rfl | rfl | rfl | rfl | rfl | rfl | rfl | h
  all_goals first | rfl | (simp only [Array.getD_eq_getD_getElem?]; rw [Array.getElem?_eq_none (by simp; omega), Array.getElem?_eq_none (by simp; omega)])
theorem but_new2 {a8 b8 v0 v1 v10 v11 v12 v13 v14 v15 v2 v3 v4 v5 v6 v7 v9 : Value} (j : Nat) (h8 : j ≠ 8) : (#[v0, v1, v2, v3, v4, v5, v6, v7, a8, v9, v10, v11, v12, v13, v14, v15] : Array Value).getD j undef = (#[v0, v1, v2, v3, v4, v5, v6, v7, b8, v9, v10, v11, v12, v13, v14, v15] : Array Value).getD j undef := by
  rcases (by omega : j = 0 ∨ j = 1 ∨ j = 2 ∨ j = 3 ∨ j = 4 ∨ j = 5 ∨ j = 6 ∨ j = 7 ∨ j = 9 ∨ j = 10 ∨ j = 11 ∨ j = 12 ∨ j = 13 ∨ j = 14 ∨ j = 15 ∨ 15 < j) with rfl | rfl | rfl | rfl | rfl | rfl | rfl | rfl | rfl | rfl | rfl | rfl | rfl | rfl | rfl | h
  all_goals first | rfl | (simp only [Array.getD_eq_getD_getElem?]; rw [Array.getElem?_eq_none (by simp; omega), Array.getElem?_eq_none (by simp; omega)])
theorem but_app2 {a9 b9 v0 v1 v10 v11 v12 v13 v14 v15 v2 v3 v4 v5 v6 v7 v8 : Value} (j : Nat) (h9 : j ≠ 9) : (#[v0, v1, v2, v3, v4, v5, v6, v7, v8, a9, v10, v11, v12, v13, v14, v15] : Array Value).getD j undef = (#[v0, v1, v2, v3, v4, v5, v6, v7, v8, b9, v10, v11, v12, v13, v14, v15] : Array Value).getD j undef := by
  rcases (by omega : j = 0 ∨ j = 1 ∨ j = 2 ∨ j = 3 ∨ j = 4 ∨ j = 5 ∨ j = 6 ∨ j = 7 ∨ j = 8 ∨ j = 10 ∨ j = 11 ∨ j = 12 ∨ j = 13 ∨ j = 14 ∨ j = 15 ∨ 15 < j) with rfl | rfl | rfl | rfl | rfl | rfl | rfl | rfl | rfl | rfl | rfl | rfl | rfl | rfl | rfl | h
  all_goals first | rfl | (simp only [Array.getD_eq_getD_getElem?]; rw [Array.getElem?_eq_none (by simp; omega), Array.getElem?_eq_none (by simp; omega)])
theorem but_fin2 {a13 a14 b13 b14 v0 v1 v10 v11 v12 v15 v2 v3 v4 v5 v6 v7 v8 v9 : Value} (j : Nat) (h13 : j ≠ 13) (h14 : j ≠ 14) : (#[v0, v1, v2, v3, v4, v5, v6, v7, v8, v9, v10, v11, v12, a13, a14, v15] : Array Value).getD j undef = (#[v0, v1, v2, v3, v4, v5, v6, v7, v8, v9, v10, v11, v12, b13, b14, v15] : Array Value).getD j undef := by
  rcases (by omega : j = 0 ∨ j = 1 ∨ j = 2 ∨ j = 3 ∨ j = 4 ∨ j = 5 ∨ j = 6 ∨ j = 7 ∨ j = 8 ∨ j = 9 ∨ j = 10 ∨ j = 11 ∨ j = 12 ∨ j = 15 ∨ 15 < j) with rfl | rfl | rfl | rfl | rfl | rfl | rfl | rfl | rfl | rfl | rfl | rfl | rfl | rfl | h
  all_goals first | rfl | (simp only [Array.getD_eq_getD_getElem?]; rw [Array.getElem?_eq_none (by simp; omega), Array.getElem?_eq_none (by simp; omega)])
theorem ic_one {xs : List Int} : ∀ u ∈ ic xs, u.oneCell' = true := by intro u hu; unfold ic at hu; obtain ⟨x, _, rfl⟩ := List.mem_map.1 hu; rfl
section
variable (A : Option Addr) (c : Nat) (o : List Int) (f t : Int) (w : World) (hr : Row w A (ic o)) (hm : o.length ≤ 10000000 ∧ o.length ≤ c)
include hr hm
set_option maxRecDepth 100000 in
set_option maxHeartbeats 4000000 in
theorem spec_InsertJob : Calls Try.prog 31 #[.slice A o.length c, .int .i64 f, .int .i64 t] w (RetIB w (insR o f t)) := by
  cases hg : ordB o.length o
  · have HR : Hid (insR o f t = ([], false)) := insR_no (by unfold insB; rw [hg]; simp)
    go_enter Try.func31, Try.ntmps31
    go_wp2_with fail
    refine (l2Order_any _ A c o _ hr (by omega)).mono ?_
    rintro e _ ⟨rfl, rfl⟩
    rw [hg]
    go_wp2
    go_ret2
    exact ret_empty HR.out (Below.refl _ _) _ rfl
  · cases hf : inB f 0 (o.length - 1)
    · have HR : Hid (insR o f t = ([], false)) := insR_no (by unfold insB; rw [hf]; simp)
      go_enter Try.func31, Try.ntmps31
      go_wp2_with fail
      refine (l2Order_any _ A c o _ hr (by omega)).mono ?_
      rintro e _ ⟨rfl, rfl⟩
      rw [hg]
      go_wp2_with fail
      refine (l1In_any _ _ _ _).mono ?_
      rintro e _ ⟨rfl, rfl⟩
      rw [hf]
      go_wp2
      go_ret2
      exact ret_empty HR.out (Below.refl _ _) _ rfl
    · cases ht : inB t 0 (o.length - 1)
      · have HR : Hid (insR o f t = ([], false)) := insR_no (by unfold insB; rw [ht]; simp)
        go_enter Try.func31, Try.ntmps31
        go_wp2_with fail
        refine (l2Order_any _ A c o _ hr (by omega)).mono ?_
        rintro e _ ⟨rfl, rfl⟩
        rw [hg]
        go_wp2_with fail
        refine (l1In_any _ _ _ _).mono ?_
        rintro e _ ⟨rfl, rfl⟩
        rw [hf]
        go_wp2_with fail
        refine (l1In_any _ _ _ _).mono ?_
        rintro e _ ⟨rfl, rfl⟩
        rw [ht]
        go_wp2
        go_ret2
        exact ret_empty HR.out (Below.refl _ _) _ rfl
      · have HR0 : Hid (insR o f t = (movedI o f.toNat t.toNat, true)) := by
          show _ = _
          unfold insR insB
          rw [hg, hf, ht]; rfl
        obtain ⟨f0, f1⟩ := inB_out hf
        obtain ⟨t0, t1⟩ := inB_out ht
        obtain ⟨f', rfl⟩ : ∃ k : Nat, f = (k : Int) := ⟨f.toNat, by omega⟩
        obtain ⟨t', rfl⟩ : ∃ k : Nat, t = (k : Int) := ⟨t.toNat, by omega⟩
        have HR : Hid (insR o f' t' = (movedI o f' t', true)) := HR0
        clear HR0
        have hfl : f' < o.length := by omega
        have htl : t' < o.length := by omega
        have h8 := (ord_out hg).2.1
        have hrl := restI_len hfl
        have HML := Lib.hid (movedI_len hfl htl)
        have hf0 : (0 : Int) ≤ f' := by omega
        have hf1 : (f' : Int) < o.length := by omega
        obtain ⟨i0, hi, hz0, hz1, hz2⟩ := info_parts infoI
        obtain ⟨ad, rfl, _⟩ := hr.int hfl
        go_enter Try.func31, Try.ntmps31
        go_wp2_with fail
        refine (l2Order_any _ (some ad) c o _ hr (by omega)).mono ?_
        rintro e _ ⟨rfl, rfl⟩
        rw [hg]
        go_wp2_with fail
        refine (l1In_any _ _ _ _).mono ?_
        rintro e _ ⟨rfl, rfl⟩
        rw [hf]
        go_wp2_with fail
        refine (l1In_any _ _ _ _).mono ?_
        rintro e _ ⟨rfl, rfl⟩
        rw [ht]
        go_wp2
        refine wp_region_detG (by kernel_rfl) (fun x L w' => Below w.heap.size w w' ∧ (L.getD 3 true = true → L.getD 8 true = false → (x.1 ≠ .slice none 0 0 ∧ w'.ownsRow w.heap.size 3 1 x.1 f' (ic (o.take f')))) ∧ (L.getD 8 true = true → (x.2 ≠ .slice none 0 0 ∧ w'.ownsRow w.heap.size 3 1 x.2 (restI o f').length (ic (restI o f')))))
          (fun x kk => #[.slice (some ad) o.length c, .int .i64 (f' : Int), .slice (some ad) f' c, x.1, .slice (some ad) o.length c, .int .i64 (f' : Int), .int .i64 ((f' : Int) + 1), .slice (some (tailAd ad (f' + 1) c)) (o.length - (f' + 1)) (c - (f' + 1)), x.2, x.2].getD kk undef) (undef, undef) (by kernel_rfl) (by kernel_rfl) ⟨(Below.refl _ _).drew, (fun h => by cases h), fun h => by cases h⟩ ?_ ?_
        · intro x L tm w5 hall hS hsz hlow hval
          have ht : tm = #[.slice (some ad) o.length c, .int .i64 (f' : Int), .int .i64 (t' : Int), undef, undef, undef, .slice none 0 0, .bool false, .int .i64 (o.length : Int), x.2, .slice (some ad) o.length c, .int .i64 (o.length : Int), .int .i64 (o.length : Int), .slice (some ad) o.length c, .bool true, .bool false, .bool false, .int .i64 (f' : Int), .int .i64 (o.length : Int), .int .i64 ((o.length : Int) - 1), .bool true, .bool false, .bool false, .bool false, .int .i64 (t' : Int), .int .i64 (o.length : Int), .int .i64 ((o.length : Int) - 1), .bool true, .bool false, .bool false, undef, .slice (some ad) o.length c, .int .i64 (f' : Int), .slice (some ad) f' c, x.1, .slice (some ad) o.length c, .int .i64 (f' : Int), .int .i64 ((f' : Int) + 1), .slice (some (tailAd ad (f' + 1) c)) (o.length - (f' + 1)) (c - (f' + 1)), x.2, undef, undef, undef, undef, undef, undef, undef, undef, undef, undef, undef, undef, undef, undef] := by
            refine arr_of _ _ hsz fun t ht => ?_
            have ht' : t < 54 := ht
            rcases (by omega : t = 0 ∨ t = 1 ∨ t = 2 ∨ t = 3 ∨ t = 4 ∨ t = 5 ∨ t = 6 ∨ t = 7 ∨ t = 8 ∨ t = 9 ∨ t = 10 ∨ t = 11 ∨ t = 12 ∨ t = 13 ∨ t = 14 ∨ t = 15 ∨ t = 16 ∨ t = 17 ∨ t = 18 ∨ t = 19 ∨ t = 20 ∨ t = 21 ∨ t = 22 ∨ t = 23 ∨ t = 24 ∨ t = 25 ∨ t = 26 ∨ t = 27 ∨ t = 28 ∨ t = 29 ∨ t = 30 ∨ t = 31 ∨ t = 32 ∨ t = 33 ∨ t = 34 ∨ t = 35 ∨ t = 36 ∨ t = 37 ∨ t = 38 ∨ t = 39 ∨ t = 40 ∨ t = 41 ∨ t = 42 ∨ t = 43 ∨ t = 44 ∨ t = 45 ∨ t = 46 ∨ t = 47 ∨ t = 48 ∨ t = 49 ∨ t = 50 ∨ t = 51 ∨ t = 52 ∨ t = 53) with rfl | rfl | rfl | rfl | rfl | rfl | rfl | rfl | rfl | rfl | rfl | rfl | rfl | rfl | rfl | rfl | rfl | rfl | rfl | rfl | rfl | rfl | rfl | rfl | rfl | rfl | rfl | rfl | rfl | rfl | rfl | rfl | rfl | rfl | rfl | rfl | rfl | rfl | rfl | rfl | rfl | rfl | rfl | rfl | rfl | rfl | rfl | rfl | rfl | rfl | rfl | rfl | rfl | rfl
            · exact hlow 0 (by kernel_rfl)
            · exact hlow 1 (by kernel_rfl)
            · exact hlow 2 (by kernel_rfl)
            · exact hlow 3 (by kernel_rfl)
            · exact hlow 4 (by kernel_rfl)
            · exact hlow 5 (by kernel_rfl)
            · exact hlow 6 (by kernel_rfl)
            · exact hlow 7 (by kernel_rfl)
            · exact hlow 8 (by kernel_rfl)
            · exact hval 9 _ 9 rfl rfl
            · exact hlow 10 (by kernel_rfl)
            · exact hlow 11 (by kernel_rfl)
            · exact hlow 12 (by kernel_rfl)
            · exact hlow 13 (by kernel_rfl)
            · exact hlow 14 (by kernel_rfl)
            · exact hlow 15 (by kernel_rfl)
            · exact hlow 16 (by kernel_rfl)
            · exact hlow 17 (by kernel_rfl)
            · exact hlow 18 (by kernel_rfl)
            · exact hlow 19 (by kernel_rfl)
            · exact hlow 20 (by kernel_rfl)
            · exact hlow 21 (by kernel_rfl)
            · exact hlow 22 (by kernel_rfl)
            · exact hlow 23 (by kernel_rfl)
            · exact hlow 24 (by kernel_rfl)
            · exact hlow 25 (by kernel_rfl)
            · exact hlow 26 (by kernel_rfl)
            · exact hlow 27 (by kernel_rfl)
            · exact hlow 28 (by kernel_rfl)
            · exact hlow 29 (by kernel_rfl)
            · exact hlow 30 (by kernel_rfl)
            · exact hval 0 _ 31 rfl rfl
            · exact hval 1 _ 32 rfl rfl
            · exact hval 2 _ 33 rfl rfl
            · exact hval 3 _ 34 rfl rfl
            · exact hval 4 _ 35 rfl rfl
            · exact hval 5 _ 36 rfl rfl
            · exact hval 6 _ 37 rfl rfl
            · exact hval 7 _ 38 rfl rfl
            · exact hval 8 _ 39 rfl rfl
            · exact hlow 40 (by kernel_rfl)
            · exact hlow 41 (by kernel_rfl)
            · exact hlow 42 (by kernel_rfl)
            · exact hlow 43 (by kernel_rfl)
            · exact hlow 44 (by kernel_rfl)
            · exact hlow 45 (by kernel_rfl)
            · exact hlow 46 (by kernel_rfl)
            · exact hlow 47 (by kernel_rfl)
            · exact hlow 48 (by kernel_rfl)
            · exact hlow 49 (by kernel_rfl)
            · exact hlow 50 (by kernel_rfl)
            · exact hlow 51 (by kernel_rfl)
            · exact hlow 52 (by kernel_rfl)
            · exact hlow 53 (by kernel_rfl)
          subst ht
          clear hlow hval hsz
          obtain ⟨hbz, _, hS2⟩ := hS
          obtain ⟨hnn, hown⟩ := hS2 (hall 8 (by decide))
          obtain ⟨a9, c9, hx2⟩ := not_nil hown hnn
          generalize x.2 = y2 at *
          subst hx2
          generalize x.1 = u34 at *
          have hc9 := (slice_some hown).2
          have HRW := Lib.hid (Row.of_own hown)
          have HB5 := Lib.hid hbz
          clear hS2 hbz hall hown hnn
          go_wp2
          refine wp_region_detG (by kernel_rfl) (fun x L w' => Below w5.heap.size w5 w' ∧ (L.getD 3 true = true → L.getD 9 true = false → w'.ownsRow w5.heap.size 3 1 x.1 t' (ic ((restI o f').take t'))) ∧ (L.getD 8 true = true → L.getD 9 true = false → BlockIs w' x.2.1 3 #[.int .i64 o[f']]) ∧ (L.getD 9 true = true → L.getD 13 true = false → w'.ownsRow w5.heap.size 3 1 x.2.2.1 (t' + 1) (ic ((restI o f').take t' ++ [o[f']]))) ∧ (L.getD 13 true = true → L.getD 9 true = true ∧ w'.ownsRow w5.heap.size 3 1 x.2.2.2 o.length (ic (movedI o f' t'))))
            (fun x kk => #[.slice (some a9) (restI o f').length c9, .int .i64 (t' : Int), .slice (some a9) t' c9, x.1, .slice (some ad) o.length c, .int .i64 (f' : Int), .pointer (some (ad.add f')), .int .i64 o[f'], .slice (some ⟨x.2.1, 0, none⟩) 1 1, x.2.2.1, .slice (some a9) (restI o f').length c9, .int .i64 (t' : Int), .slice (some (tailAd a9 t' c9)) ((restI o f').length - t') (c9 - t'), x.2.2.2, x.2.2.2, .bool true].getD kk undef) (undef, 0, undef, undef) (by kernel_rfl) (by kernel_rfl) ⟨(Below.refl _ _).drew, (fun h => by cases h), (fun h => by cases h), (fun h => by cases h), fun h => by cases h⟩ ?_ ?_
          · intro x L tm w' hall hS hsz hlow hval
            have ht : tm = #[.slice (some ad) o.length c, .int .i64 (f' : Int), .int .i64 (t' : Int), undef, undef, undef, x.2.2.2, .bool true, .int .i64 (o.length : Int), .slice (some a9) (restI o f').length c9, .slice (some ad) o.length c, .int .i64 (o.length : Int), .int .i64 (o.length : Int), .slice (some ad) o.length c, .bool true, .bool false, .bool false, .int .i64 (f' : Int), .int .i64 (o.length : Int), .int .i64 ((o.length : Int) - 1), .bool true, .bool false, .bool false, .bool false, .int .i64 (t' : Int), .int .i64 (o.length : Int), .int .i64 ((o.length : Int) - 1), .bool true, .bool false, .bool false, undef, .slice (some ad) o.length c, .int .i64 (f' : Int), .slice (some ad) f' c, u34, .slice (some ad) o.length c, .int .i64 (f' : Int), .int .i64 ((f' : Int) + 1), .slice (some (tailAd ad (f' + 1) c)) (o.length - (f' + 1)) (c - (f' + 1)), .slice (some a9) (restI o f').length c9, .slice (some a9) (restI o f').length c9, .int .i64 (t' : Int), .slice (some a9) t' c9, x.1, .slice (some ad) o.length c, .int .i64 (f' : Int), .pointer (some (ad.add f')), .int .i64 o[f'], .slice (some ⟨x.2.1, 0, none⟩) 1 1, x.2.2.1, .slice (some a9) (restI o f').length c9, .int .i64 (t' : Int), .slice (some (tailAd a9 t' c9)) ((restI o f').length - t') (c9 - t'), x.2.2.2] := by
              refine arr_of _ _ hsz fun t ht => ?_
              have ht' : t < 54 := ht
              rcases (by omega : t = 0 ∨ t = 1 ∨ t = 2 ∨ t = 3 ∨ t = 4 ∨ t = 5 ∨ t = 6 ∨ t = 7 ∨ t = 8 ∨ t = 9 ∨ t = 10 ∨ t = 11 ∨ t = 12 ∨ t = 13 ∨ t = 14 ∨ t = 15 ∨ t = 16 ∨ t = 17 ∨ t = 18 ∨ t = 19 ∨ t = 20 ∨ t = 21 ∨ t = 22 ∨ t = 23 ∨ t = 24 ∨ t = 25 ∨ t = 26 ∨ t = 27 ∨ t = 28 ∨ t = 29 ∨ t = 30 ∨ t = 31 ∨ t = 32 ∨ t = 33 ∨ t = 34 ∨ t = 35 ∨ t = 36 ∨ t = 37 ∨ t = 38 ∨ t = 39 ∨ t = 40 ∨ t = 41 ∨ t = 42 ∨ t = 43 ∨ t = 44 ∨ t = 45 ∨ t = 46 ∨ t = 47 ∨ t = 48 ∨ t = 49 ∨ t = 50 ∨ t = 51 ∨ t = 52 ∨ t = 53) with rfl | rfl | rfl | rfl | rfl | rfl | rfl | rfl | rfl | rfl | rfl | rfl | rfl | rfl | rfl | rfl | rfl | rfl | rfl | rfl | rfl | rfl | rfl | rfl | rfl | rfl | rfl | rfl | rfl | rfl | rfl | rfl | rfl | rfl | rfl | rfl | rfl | rfl | rfl | rfl | rfl | rfl | rfl | rfl | rfl | rfl | rfl | rfl | rfl | rfl | rfl | rfl | rfl | rfl
              · exact hlow 0 (by kernel_rfl)
              · exact hlow 1 (by kernel_rfl)
              · exact hlow 2 (by kernel_rfl)
              · exact hlow 3 (by kernel_rfl)
              · exact hlow 4 (by kernel_rfl)
              · exact hlow 5 (by kernel_rfl)
              · exact hval 14 _ 6 rfl rfl
              · exact hval 15 _ 7 rfl rfl
              · exact hlow 8 (by kernel_rfl)
              · exact hlow 9 (by kernel_rfl)
              · exact hlow 10 (by kernel_rfl)
              · exact hlow 11 (by kernel_rfl)
              · exact hlow 12 (by kernel_rfl)
              · exact hlow 13 (by kernel_rfl)
              · exact hlow 14 (by kernel_rfl)
              · exact hlow 15 (by kernel_rfl)
              · exact hlow 16 (by kernel_rfl)
              · exact hlow 17 (by kernel_rfl)
              · exact hlow 18 (by kernel_rfl)
              · exact hlow 19 (by kernel_rfl)
              · exact hlow 20 (by kernel_rfl)
              · exact hlow 21 (by kernel_rfl)
              · exact hlow 22 (by kernel_rfl)
              · exact hlow 23 (by kernel_rfl)
              · exact hlow 24 (by kernel_rfl)
              · exact hlow 25 (by kernel_rfl)
              · exact hlow 26 (by kernel_rfl)
              · exact hlow 27 (by kernel_rfl)
              · exact hlow 28 (by kernel_rfl)
              · exact hlow 29 (by kernel_rfl)
              · exact hlow 30 (by kernel_rfl)
              · exact hlow 31 (by kernel_rfl)
              · exact hlow 32 (by kernel_rfl)
              · exact hlow 33 (by kernel_rfl)
              · exact hlow 34 (by kernel_rfl)
              · exact hlow 35 (by kernel_rfl)
              · exact hlow 36 (by kernel_rfl)
              · exact hlow 37 (by kernel_rfl)
              · exact hlow 38 (by kernel_rfl)
              · exact hlow 39 (by kernel_rfl)
              · exact hval 0 _ 40 rfl rfl
              · exact hval 1 _ 41 rfl rfl
              · exact hval 2 _ 42 rfl rfl
              · exact hval 3 _ 43 rfl rfl
              · exact hval 4 _ 44 rfl rfl
              · exact hval 5 _ 45 rfl rfl
              · exact hval 6 _ 46 rfl rfl
              · exact hval 7 _ 47 rfl rfl
              · exact hval 8 _ 48 rfl rfl
              · exact hval 9 _ 49 rfl rfl
              · exact hval 10 _ 50 rfl rfl
              · exact hval 11 _ 51 rfl rfl
              · exact hval 12 _ 52 rfl rfl
              · exact hval 13 _ 53 rfl rfl
            subst ht
            clear hlow hval hsz
            obtain ⟨hbz, _, _, _, hS4⟩ := hS
            have HO4 := Lib.hid (And.intro (hS4 (hall 13 (by decide))).2 hbz)
            clear hS4 hbz hall
            obtain ⟨A4, c4, hx4, _⟩ := own_slice HO4.out.1
            generalize x.2.2.2 = y4 at *
            subst hx4
            go_wp2
            go_ret2
            refine ⟨A4, c4, ?_, ?_, HB5.out.trans (HO4.out.2.mono HB5.out.size)⟩
            · rw [HR.out]; simp only; rw [HML.out]; rfl
            · rw [HR.out]; simp only; rw [HML.out]; exact Seg.of_own (own_lower HO4.out.1 HB5.out.size)
          · intro x L a w' kk op hLs ho hLi hLd hLn ⟨hS0, hS1, hS2, hS3, hS4⟩ hlow hdep hold
            have hkk : kk < 16 := (Array.getElem?_eq_some_iff.1 ho).1
            have l0 : a.tmps[0]?.getD undef = .slice (some ad) o.length c := by rw [← Array.getD_eq_getD_getElem?]; exact hlow 0 (by kernel_rfl)
            have l1 : a.tmps[1]?.getD undef = .int .i64 (f' : Int) := by rw [← Array.getD_eq_getD_getElem?]; exact hlow 1 (by kernel_rfl)
            have l2 : a.tmps[2]?.getD undef = .int .i64 (t' : Int) := by rw [← Array.getD_eq_getD_getElem?]; exact hlow 2 (by kernel_rfl)
            have l9 : a.tmps[9]?.getD undef = .slice (some a9) (restI o f').length c9 := by rw [← Array.getD_eq_getD_getElem?]; exact hlow 9 (by kernel_rfl)
            have D : ∀ j oj d, edgeB _ kk j = true → _ → _ → a.tmps[d]?.getD undef = _ := fun j oj d h1 h2 h3 => (Array.getD_eq_getD_getElem? ..).symm.trans (hdep j oj d h1 h2 h3)
            have K : ∀ {kk : Nat}, kk ≠ 3 → kk ≠ 8 → kk ≠ 9 → kk ≠ 13 → Below w5.heap.size w5 w' ∧ ((L.setIfInBounds kk true).getD 3 true = true → (L.setIfInBounds kk true).getD 9 true = false → w'.ownsRow w5.heap.size 3 1 x.1 t' (ic ((restI o f').take t'))) ∧ ((L.setIfInBounds kk true).getD 8 true = true → (L.setIfInBounds kk true).getD 9 true = false → BlockIs w' x.2.1 3 #[.int .i64 o[f']]) ∧ ((L.setIfInBounds kk true).getD 9 true = true → (L.setIfInBounds kk true).getD 13 true = false → w'.ownsRow w5.heap.size 3 1 x.2.2.1 (t' + 1) (ic ((restI o f').take t' ++ [o[f']]))) ∧ ((L.setIfInBounds kk true).getD 13 true = true → (L.setIfInBounds kk true).getD 9 true = true ∧ w'.ownsRow w5.heap.size 3 1 x.2.2.2 o.length (ic (movedI o f' t'))) := fun h3 h8 h9 h13 => ⟨hS0, by rw [set_ne h3, set_ne h9]; exact hS1, by rw [set_ne h8, set_ne h9]; exact hS2, by rw [set_ne h9, set_ne h13]; exact hS3, by rw [set_ne h13, set_ne h9]; exact hS4⟩
            obtain ⟨a', hA', hcell⟩ := (hr.below (HB5.out.trans (hS0.mono HB5.out.size))).int hfl
            injection hA' with hA'
            subst hA'
            rcases (by omega : kk = 0 ∨ kk = 1 ∨ kk = 2 ∨ kk = 3 ∨ kk = 4 ∨ kk = 5 ∨ kk = 6 ∨ kk = 7 ∨ kk = 8 ∨ kk = 9 ∨ kk = 10 ∨ kk = 11 ∨ kk = 12 ∨ kk = 13 ∨ kk = 14 ∨ kk = 15) with rfl | rfl | rfl | rfl | rfl | rfl | rfl | rfl | rfl | rfl | rfl | rfl | rfl | rfl | rfl | rfl
            · obtain rfl := Option.some.inj ho
              exact ⟨rfl, .inl ⟨x, w', fun _ _ => rfl, by simp [execOp, Act.eval, l9, go_sem], K (by decide) (by decide) (by decide) (by decide)⟩⟩
            · obtain rfl := Option.some.inj ho
              exact ⟨rfl, .inl ⟨x, w', fun _ _ => rfl, by simp [execOp, Act.eval, l2, go_sem], K (by decide) (by decide) (by decide) (by decide)⟩⟩
            · obtain rfl := Option.some.inj ho
              have e40 : a.tmps[40]?.getD undef = .slice (some a9) (restI o f').length c9 := D 0 _ 40 (by kernel_rfl) rfl rfl
              have e41 : a.tmps[41]?.getD undef = .int .i64 (t' : Int) := D 1 _ 41 (by kernel_rfl) rfl rfl
              have x40 : a.eval (.tmp 40) = .slice (some a9) (restI o f').length c9 := by simp [Act.eval, e40]
              have x41 : a.eval (.tmp 41) = .int .i64 (t' : Int) := by simp [Act.eval, e41]
              have hsl : (Instr.sliceAt 30 (a.eval (.tmp 40)) none ((some (Operand.tmp 41)).map a.eval) none).run Try.prog w' = .ok (.slice (some a9) t' c9) w' := by
                rw [x40, Option.map_some, x41]; exact slice_h a9 _ c9 t' w' (by omega)
              exact ⟨rfl, .inl ⟨x, w', fun _ _ => rfl, exec_slice rfl hsl, K (by decide) (by decide) (by decide) (by decide)⟩⟩
            · obtain rfl := Option.some.inj ho
              have e42 : a.tmps[42]?.getD undef = .slice (some a9) t' c9 := D 2 _ 42 (by kernel_rfl) rfl rfl
              refine ⟨rfl, .inr ⟨53, #[.slice (some a9) t' c9], by simp [execOp, Act.eval, e42, go_sem], (own_part (k := t') (HRW.out.below hS0) (by omega) (by omega)).mono ?_⟩⟩
              rintro e w'' ⟨ad', c', rfl, hown, hb4⟩
              refine ⟨(.slice (some ad') t' c', x.2), fun j hj => ?_, rfl, hS0.trans (hb4.mono hS0.size), (fun _ _ => own_lower hown hS0.size), (fun h h' => ?_), (fun h => ?_), fun h => ?_⟩
              · have n3 : j ≠ 3 := fun e => by subst e; rw [hLi] at hj; cases hj
                exact but_own2 j n3
              · rw [set_ne (by decide)] at h h'; exact (hS2 h h').below hb4
              · rw [set_ne (by decide), hLn 9 (by kernel_rfl)] at h; cases h
              · rw [set_ne (by decide)] at h; have h9 := (hS4 h).1; rw [hLn 9 (by kernel_rfl)] at h9; cases h9
            · obtain rfl := Option.some.inj ho
              exact ⟨rfl, .inl ⟨x, w', fun _ _ => rfl, by simp [execOp, Act.eval, l0, go_sem], K (by decide) (by decide) (by decide) (by decide)⟩⟩
            · obtain rfl := Option.some.inj ho
              exact ⟨rfl, .inl ⟨x, w', fun _ _ => rfl, by simp [execOp, Act.eval, l1, go_sem], K (by decide) (by decide) (by decide) (by decide)⟩⟩
            · obtain rfl := Option.some.inj ho
              have e44 : a.tmps[44]?.getD undef = .slice (some ad) o.length c := D 4 _ 44 (by kernel_rfl) rfl rfl
              have e45 : a.tmps[45]?.getD undef = .int .i64 (f' : Int) := D 5 _ 45 (by kernel_rfl) rfl rfl
              exact ⟨rfl, .inl ⟨x, w', fun _ _ => rfl, by simp [execOp, Act.eval, e44, e45, hf0, hf1, go_sem], K (by decide) (by decide) (by decide) (by decide)⟩⟩
            · obtain rfl := Option.some.inj ho
              have e46 : a.tmps[46]?.getD undef = .pointer (some (ad.add f')) := D 6 _ 46 (by kernel_rfl) rfl rfl
              exact ⟨rfl, .inl ⟨x, w', fun _ _ => rfl, by simp [execOp, Act.eval, e46, hcell, go_sem], K (by decide) (by decide) (by decide) (by decide)⟩⟩
            · obtain rfl := Option.some.inj ho
              have e47 : a.tmps[47]?.getD undef = .int .i64 o[f'] := D 7 _ 47 (by kernel_rfl) rfl rfl
              refine ⟨rfl, .inl ⟨(x.1, w'.heap.size, x.2.2), w'.alloc (.cells #[.int .i64 o[f']] 3), fun j hj => ?_, by simp [execOp, Act.eval, e47, go_sem], hS0.alloc hS0.size _, (fun h h' => ?_), (fun _ _ => BlockIs.new _ _ _), (fun h => ?_), fun h => ?_⟩⟩
              · have n8 : j ≠ 8 := fun e => by subst e; rw [hLi] at hj; cases hj
                exact but_new2 j n8
              · rw [set_ne (by decide)] at h h'; exact (hS1 h h').alloc _
              · rw [set_ne (by decide), hLn 9 (by kernel_rfl)] at h; cases h
              · rw [set_ne (by decide)] at h; have h9 := (hS4 h).1; rw [hLn 9 (by kernel_rfl)] at h9; cases h9
            · obtain rfl := Option.some.inj ho
              have e43 : a.tmps[43]?.getD undef = x.1 := D 3 _ 43 (by kernel_rfl) rfl rfl
              have e48 : a.tmps[48]?.getD undef = .slice (some ⟨x.2.1, 0, none⟩) 1 1 := D 8 _ 48 (by kernel_rfl) rfl rfl
              have x43 : a.eval (.tmp 43) = x.1 := by simp [Act.eval, e43]
              have x48 : a.eval (.tmp 48) = .slice (some ⟨x.2.1, 0, none⟩) 1 1 := by simp [Act.eval, e48]
              have hown := hS1 (hLd 3 (by kernel_rfl)) hLi
              have hB8 := hS2 (hLd 8 (by kernel_rfl)) hLi
              have hsrc : ∀ j u, (ic [o[f']])[j]? = some u → w'.cell? ((⟨x.2.1, 0, none⟩ : Addr).add j) = some u := fun j u hu => by rw [Addr.add_lit, Nat.zero_add, hB8.cell, ← Array.getElem?_toList]; exact hu
              obtain ⟨v', w'', hrun, hown', hgrow, hnil⟩ := run_append_own (P := Try.prog) w' w5.heap.size 30 30 3 i0 (.int .i64 0) 1 8 Try.underlying30 hi hz0 hz1 hz2 rfl (by decide) x.1 t' _ hown ⟨x.2.1, 0, none⟩ 1 1 (ic [o[f']]) rfl hsrc ic_one (by unfold maxLen; omega) (by omega) hS0.size
              have hbz : Below w5.heap.size w5 w'' := hS0.grown hgrow hS0.size (fun b hb => (hown.lt b hb).1)
              refine ⟨rfl, .inl ⟨(x.1, x.2.1, v', x.2.2.2), w'', fun j hj => ?_, exec_append rfl x43 x48 hrun, hbz, (fun _ h => ?_), (fun _ h => ?_), (fun _ _ => ?_), fun h => ?_⟩⟩
              · have n9 : j ≠ 9 := fun e => by subst e; rw [hLi] at hj; cases hj
                exact but_app2 j n9
              · rw [set_eq (by rw [hLs]; decide)] at h; cases h
              · rw [set_eq (by rw [hLs]; decide)] at h; cases h
              · have hx : ic ((restI o f').take t') ++ ic [o[f']] = ic ((restI o f').take t' ++ [o[f']]) := by unfold ic; simp
                rw [hx] at hown'; exact hown'
              · rw [set_ne (by decide), hLn 13 (by kernel_rfl)] at h; cases h
            · obtain rfl := Option.some.inj ho
              exact ⟨rfl, .inl ⟨x, w', fun _ _ => rfl, by simp [execOp, Act.eval, l9, go_sem], K (by decide) (by decide) (by decide) (by decide)⟩⟩
            · obtain rfl := Option.some.inj ho
              exact ⟨rfl, .inl ⟨x, w', fun _ _ => rfl, by simp [execOp, Act.eval, l2, go_sem], K (by decide) (by decide) (by decide) (by decide)⟩⟩
            · obtain rfl := Option.some.inj ho
              have e50 : a.tmps[50]?.getD undef = .slice (some a9) (restI o f').length c9 := D 10 _ 50 (by kernel_rfl) rfl rfl
              have e51 : a.tmps[51]?.getD undef = .int .i64 (t' : Int) := D 11 _ 51 (by kernel_rfl) rfl rfl
              have x50 : a.eval (.tmp 50) = .slice (some a9) (restI o f').length c9 := by simp [Act.eval, e50]
              have x51 : a.eval (.tmp 51) = .int .i64 (t' : Int) := by simp [Act.eval, e51]
              have hsl : (Instr.sliceAt 30 (a.eval (.tmp 50)) ((some (Operand.tmp 51)).map a.eval) none none).run Try.prog w' = .ok (.slice (some (tailAd a9 t' c9)) ((restI o f').length - t') (c9 - t')) w' := by
                rw [x50, Option.map_some, x51]; exact slice_l a9 _ c9 t' w' (by omega)
              exact ⟨rfl, .inl ⟨x, w', fun _ _ => rfl, exec_slice rfl hsl, K (by decide) (by decide) (by decide) (by decide)⟩⟩
            · obtain rfl := Option.some.inj ho
              have e49 : a.tmps[49]?.getD undef = x.2.2.1 := D 9 _ 49 (by kernel_rfl) rfl rfl
              have e52 : a.tmps[52]?.getD undef = .slice (some (tailAd a9 t' c9)) ((restI o f').length - t') (c9 - t') := D 12 _ 52 (by kernel_rfl) rfl rfl
              have x49 : a.eval (.tmp 49) = x.2.2.1 := by simp [Act.eval, e49]
              have x52 : a.eval (.tmp 52) = .slice (some (tailAd a9 t' c9)) ((restI o f').length - t') (c9 - t') := by simp [Act.eval, e52]
              have t9 : L.getD 9 true = true := hLd 9 (by kernel_rfl)
              have hown := hS3 t9 hLi
              obtain ⟨v', w'', hrun, hown', hgrow, hnil⟩ := run_append_own (P := Try.prog) w' w5.heap.size 30 30 3 i0 (.int .i64 0) 1 8 Try.underlying30 hi hz0 hz1 hz2 rfl (by decide) x.2.2.1 (t' + 1) _ hown (tailAd a9 t' c9) ((restI o f').length - t') (c9 - t') (ic ((restI o f').drop t')) (by rw [ic_len]; simp) (tail_src (HRW.out.below hS0) (by omega)) ic_one (by unfold maxLen; omega) (by omega) hS0.size
              have hbz : Below w5.heap.size w5 w'' := hS0.grown hgrow hS0.size (fun b hb => (hown.lt b hb).1)
              refine ⟨rfl, .inl ⟨(x.1, x.2.1, x.2.2.1, v'), w'', fun j hj => ?_, exec_append rfl x49 x52 hrun, hbz, (fun _ h => ?_), (fun _ h => ?_), (fun _ h => ?_), fun _ => ?_⟩⟩
              · have n13 : j ≠ 13 := fun e => by subst e; rw [hLi] at hj; cases hj
                have f14 : L.getD 14 true = false := hLn 14 (by kernel_rfl)
                have n14 : j ≠ 14 := fun e => by subst e; rw [f14] at hj; cases hj
                exact but_fin2 j n13 n14
              · rw [set_ne (by decide), t9] at h; cases h
              · rw [set_ne (by decide), t9] at h; cases h
              · rw [set_eq (by rw [hLs]; decide)] at h; cases h
              · have hx : ic ((restI o f').take t' ++ [o[f']]) ++ ic ((restI o f').drop t') = ic (movedI o f' t') := by unfold ic movedI; rw [getD_at o 0 hfl]; simp
                rw [hx, show t' + 1 + ((restI o f').length - t') = o.length by omega] at hown'; exact ⟨by rw [set_ne (by decide)]; exact t9, hown'⟩
            · obtain rfl := Option.some.inj ho
              have e53 : a.tmps[53]?.getD undef = x.2.2.2 := D 13 _ 53 (by kernel_rfl) rfl rfl
              exact ⟨rfl, .inl ⟨x, w', fun _ _ => rfl, by simp [execOp, Act.eval, e53, go_sem], K (by decide) (by decide) (by decide) (by decide)⟩⟩
            · obtain rfl := Option.some.inj ho
              exact ⟨rfl, .inl ⟨x, w', fun _ _ => rfl, by simp [execOp, go_sem], K (by decide) (by decide) (by decide) (by decide)⟩⟩
        · intro x L a w' kk op hLs ho hLi hLd hLn ⟨hS0, hS1, hS2⟩ hlow hdep hold
          have hkk : kk < 10 := (Array.getElem?_eq_some_iff.1 ho).1
          have l0 : a.tmps[0]?.getD undef = .slice (some ad) o.length c := by rw [← Array.getD_eq_getD_getElem?]; exact hlow 0 (by kernel_rfl)
          have l1 : a.tmps[1]?.getD undef = .int .i64 (f' : Int) := by rw [← Array.getD_eq_getD_getElem?]; exact hlow 1 (by kernel_rfl)
          have D : ∀ j oj d, edgeB _ kk j = true → _ → _ → a.tmps[d]?.getD undef = _ := fun j oj d h1 h2 h3 => (Array.getD_eq_getD_getElem? ..).symm.trans (hdep j oj d h1 h2 h3)
          have K : ∀ {kk : Nat}, kk ≠ 3 → kk ≠ 8 → Below w.heap.size w w' ∧ ((L.setIfInBounds kk true).getD 3 true = true → (L.setIfInBounds kk true).getD 8 true = false → (x.1 ≠ .slice none 0 0 ∧ w'.ownsRow w.heap.size 3 1 x.1 f' (ic (o.take f')))) ∧ ((L.setIfInBounds kk true).getD 8 true = true → (x.2 ≠ .slice none 0 0 ∧ w'.ownsRow w.heap.size 3 1 x.2 (restI o f').length (ic (restI o f')))) := fun h6 h7 => ⟨hS0, by rw [set_ne h6, set_ne h7]; exact hS1, by rw [set_ne h7]; exact hS2⟩
          rcases (by omega : kk = 0 ∨ kk = 1 ∨ kk = 2 ∨ kk = 3 ∨ kk = 4 ∨ kk = 5 ∨ kk = 6 ∨ kk = 7 ∨ kk = 8 ∨ kk = 9) with rfl | rfl | rfl | rfl | rfl | rfl | rfl | rfl | rfl | rfl
          · obtain rfl := Option.some.inj ho
            exact ⟨rfl, .inl ⟨x, w', fun _ _ => rfl, by simp [execOp, Act.eval, l0, go_sem], K (by decide) (by decide)⟩⟩
          · obtain rfl := Option.some.inj ho
            exact ⟨rfl, .inl ⟨x, w', fun _ _ => rfl, by simp [execOp, Act.eval, l1, go_sem], K (by decide) (by decide)⟩⟩
          · obtain rfl := Option.some.inj ho
            have e31 : a.tmps[31]?.getD undef = .slice (some ad) o.length c := D 0 _ 31 (by kernel_rfl) rfl rfl
            have e32 : a.tmps[32]?.getD undef = .int .i64 (f' : Int) := D 1 _ 32 (by kernel_rfl) rfl rfl
            have x31 : a.eval (.tmp 31) = .slice (some ad) o.length c := by simp [Act.eval, e31]
            have x32 : a.eval (.tmp 32) = .int .i64 (f' : Int) := by simp [Act.eval, e32]
            have hsl : (Instr.sliceAt 30 (a.eval (.tmp 31)) none ((some (Operand.tmp 32)).map a.eval) none).run Try.prog w' = .ok (.slice (some ad) f' c) w' := by
              rw [x31, Option.map_some, x32]; exact slice_h ad _ c f' w' (by omega)
            exact ⟨rfl, .inl ⟨x, w', fun _ _ => rfl, exec_slice rfl hsl, K (by decide) (by decide)⟩⟩
          · obtain rfl := Option.some.inj ho
            have e33 : a.tmps[33]?.getD undef = .slice (some ad) f' c := D 2 _ 33 (by kernel_rfl) rfl rfl
            refine ⟨rfl, .inr ⟨53, #[.slice (some ad) f' c], by simp [execOp, Act.eval, e33, go_sem], (own_part (k := f') (hr.below hS0) (by omega) (by omega)).mono ?_⟩⟩
            rintro e w'' ⟨ad', c', rfl, hown, hb4⟩
            refine ⟨(.slice (some ad') f' c', x.2), fun j hj => ?_, rfl, hS0.trans (hb4.mono hS0.size), (fun _ _ => ⟨(fun h => by cases h), own_lower hown hS0.size⟩), fun h => ?_⟩
            · have n3 : j ≠ 3 := fun e => by subst e; rw [hLi] at hj; cases hj
              exact but_own j n3
            · rw [set_ne (by decide), hLn 8 (by kernel_rfl)] at h; cases h
          · obtain rfl := Option.some.inj ho
            exact ⟨rfl, .inl ⟨x, w', fun _ _ => rfl, by simp [execOp, Act.eval, l0, go_sem], K (by decide) (by decide)⟩⟩
          · obtain rfl := Option.some.inj ho
            exact ⟨rfl, .inl ⟨x, w', fun _ _ => rfl, by simp [execOp, Act.eval, l1, go_sem], K (by decide) (by decide)⟩⟩
          · obtain rfl := Option.some.inj ho
            have e36 : a.tmps[36]?.getD undef = .int .i64 (f' : Int) := D 5 _ 36 (by kernel_rfl) rfl rfl
            exact ⟨rfl, .inl ⟨x, w', fun _ _ => rfl, by simp [execOp, Act.eval, e36, go_sem]; exact IntWalk.i64_in _ (by omega), K (by decide) (by decide)⟩⟩
          · obtain rfl := Option.some.inj ho
            have e35 : a.tmps[35]?.getD undef = .slice (some ad) o.length c := D 4 _ 35 (by kernel_rfl) rfl rfl
            have e37 : a.tmps[37]?.getD undef = .int .i64 ((f' : Int) + 1) := D 6 _ 37 (by kernel_rfl) rfl rfl
            have x35 : a.eval (.tmp 35) = .slice (some ad) o.length c := by simp [Act.eval, e35]
            have x37 : a.eval (.tmp 37) = .int .i64 ((f' : Int) + 1) := by simp [Act.eval, e37]
            have hsl : (Instr.sliceAt 30 (a.eval (.tmp 35)) ((some (Operand.tmp 37)).map a.eval) none none).run Try.prog w' = .ok (.slice (some (tailAd ad (f' + 1) c)) (o.length - (f' + 1)) (c - (f' + 1))) w' := by
              rw [x35, Option.map_some, x37]; exact slice_l ad _ c (f' + 1) w' (by omega)
            exact ⟨rfl, .inl ⟨x, w', fun _ _ => rfl, exec_slice rfl hsl, K (by decide) (by decide)⟩⟩
          · obtain rfl := Option.some.inj ho
            have e34 : a.tmps[34]?.getD undef = x.1 := D 3 _ 34 (by kernel_rfl) rfl rfl
            have e38 : a.tmps[38]?.getD undef = .slice (some (tailAd ad (f' + 1) c)) (o.length - (f' + 1)) (c - (f' + 1)) := D 7 _ 38 (by kernel_rfl) rfl rfl
            have x34 : a.eval (.tmp 34) = x.1 := by simp [Act.eval, e34]
            have x38 : a.eval (.tmp 38) = .slice (some (tailAd ad (f' + 1) c)) (o.length - (f' + 1)) (c - (f' + 1)) := by simp [Act.eval, e38]
            obtain ⟨hnn, hown⟩ := hS1 (hLd 3 (by kernel_rfl)) hLi
            obtain ⟨v', w'', hrun, hown', hgrow, hnil⟩ := run_append_own (P := Try.prog) w' w.heap.size 30 30 3 i0 (.int .i64 0) 1 8 Try.underlying30 hi hz0 hz1 hz2 rfl (by decide) x.1 f' _ hown (tailAd ad (f' + 1) c) (o.length - (f' + 1)) (c - (f' + 1)) (ic (o.drop (f' + 1))) (by rw [ic_len]; simp) (tail_src (hr.below hS0) hm.2) ic_one (by unfold maxLen; omega) (by omega) hS0.size
            have hbz : Below w.heap.size w w'' := hS0.grown hgrow hS0.size (fun b hb => (hown.lt b hb).1)
            refine ⟨rfl, .inl ⟨(x.1, v'), w'', fun i hi' => ?_, exec_append rfl x34 x38 hrun, hbz, fun _ h => ?_, fun _ => ⟨fun h => hnn (hnil.1 h).1, ?_⟩⟩⟩
            · have n8 : i ≠ 8 := fun e => by subst e; rw [hLi] at hi'; cases hi'
              have f9 : L.getD 9 true = false := hLn 9 (by kernel_rfl)
              have n9 : i ≠ 9 := fun e => by subst e; rw [f9] at hi'; cases hi'
              exact but_app i n8 n9
            · rw [set_eq (by rw [hLs]; decide)] at h; cases h
            · have hx : ic (o.take f') ++ ic (o.drop (f' + 1)) = ic (restI o f') := by unfold ic restI; simp
              rw [hx, show f' + (o.length - (f' + 1)) = (restI o f').length by omega] at hown'; exact hown'
          · obtain rfl := Option.some.inj ho
            have e39 : a.tmps[39]?.getD undef = x.2 := D 8 _ 39 (by kernel_rfl) rfl rfl
            exact ⟨rfl, .inl ⟨x, w', fun _ _ => rfl, by simp [execOp, Act.eval, e39, go_sem], K (by decide) (by decide)⟩⟩
end
end Go.Proofs.Ytekocnmcenmcnab
