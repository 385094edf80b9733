/- l1Split: the parts of a text, in a slice of its own. -/
import Derived.Test.YteflgljifbcelaaSplitP
import Derived.OwnWalk
import Derived.WalkSpells
import Derived.WalkSmall
import Derived.Maps.AppendAt
namespace Go.Proofs.Yteflgljifbcelaa
open Go.RowKit

theorem infoStr : (Try.prog.info? 9).map (fun i => (i.zero, i.size, i.bytes)) = some (some (.string ⟨#[]⟩), 1, 16) := by kernel_rfl

/-- What the loop of l1Split holds of its slots at every round's head. -/
def SplitRel (B : Nat) (w : World) (s : ByteArray) (c : UInt8) (v f i : Value) (wr : World) : Prop :=
  ∃ (k f0 : Nat) (ds : List (List UInt8)), k ≤ s.size ∧ i = .int .i64 k ∧ f = .int .i64 f0 ∧ SplitAt s.data.toList c ds f0 k ∧ wr.ownsRow B 9 1 v ds.length (ds.map strV) ∧ Below B w wr

theorem split_grown {B : Nat} {w wr w1 : World} {u5 v' : Value} {ds : List (List UInt8)} {o : Obj} {x : Value} {p : List UInt8} (hx : x = strV p)
    (hown : wr.ownsRow B 9 1 u5 ds.length (ds.map strV)) (hB : Below B w wr) (hBw : B ≤ wr.heap.size)
    (hown' : w1.ownsRow B 9 1 v' (ds.length + 1) (ds.map strV ++ [x])) (hgrow : (wr.alloc o).grownBy w1 u5.ownBlock) :
    w1.ownsRow B 9 1 v' (ds ++ [p]).length ((ds ++ [p]).map strV) ∧ Below B w w1 := by
  subst hx
  refine ⟨by simpa using hown', (hB.alloc hBw o).grown hgrow (by simp; omega) (fun j hj => (hown.lt j hj).1)⟩

theorem l1Split_any (s : ByteArray) (c : UInt8) (w : World) (hs : s.size ≤ 4000000) :
    Calls Try.prog 33 #[.string s, .int .u8 (c.toNat : Int)] w fun e w' =>
      ∃ v, e = .returned v ∧ w'.ownsRow w.heap.size 9 1 v (splitL c s.data.toList).length ((splitL c s.data.toList).map strV) ∧ Below w.heap.size w w' := by
  obtain ⟨i0, hi, hz0, hz1, hz2⟩ := info_parts infoStr
  go_enter Try.func33, Try.ntmps33
  go_wp2
  go_loopw [5, 6, 7] (fun v f i wr => ∃ (k f0 : Nat) (ds : List (List UInt8)), k ≤ s.size ∧ i = .int .i64 k ∧ f = .int .i64 f0 ∧ Hid (SplitAt s.data.toList c ds f0 k) ∧ wr.ownsRow w.heap.size 9 1 v ds.length (ds.map strV) ∧ Below w.heap.size w wr) (fun _ _ i _ => s.size - (intOf i).toNat)
  case atStart =>
    refine ⟨0, 0, [], Nat.zero_le _, rfl, rfl, SplitAt.start _ _, ?_, (Below.refl _ _).alloc (Nat.le_refl _) _⟩
    exact World.ownsRow_made w #[] 0 (Nat.le_refl _) (by unfold maxLen; omega) rfl
  case round =>
    obtain ⟨k, f0, ds, hk, rfl, rfl, hS, hown, hB⟩ := hrel
    have hfk := hS.out.le
    have hlen := hS.out.len
    have hsz := hB.size
    by_cases hlt : k < s.size
    · by_cases he : s[k] = c
      · have hb : ((s[k].toNat : Int) == (c.toNat : Int)) = true := by rw [he]; simp
        have HS := Lib.hid (hS.out.hit (by simpa using hlt) he)
        have hx := Lib.hid (extract_str s f0 k)
        clear hS he
        go_wp2_with (at_builtin; refine wpList_append_own _ rfl _ _ 26 rfl w.heap.size 9 i0 (.string ⟨#[]⟩) 1 16 Try.underlying26 hi hz0 hz1 hz2 rfl (by decide) _ _ _ rfl (hown.alloc _) ⟨wr.heap.size, 0, none⟩ 1 1 [.string (s.extract f0 k)] rfl rfl (cell_one_new _ _ _) (by intro u hu; simp at hu; subst hu; rfl) (by unfold maxLen; omega) (by omega) (by simp; omega) ?_; intro v' w1 hown' hgrow _)
        have hg := split_grown hx.out hown hB hsz hown' hgrow
        go_roundw
        case rel => exact ⟨k + 1, k + 1, _, by omega, by go_num, by go_num, HS.out, hg.1, hg.2⟩
        case measure => simp [intOf]; omega
      · have hb : ((s[k].toNat : Int) == (c.toNat : Int)) = false := by
          simp only [beq_eq_false_iff_ne, ne_eq]; intro h; exact he (UInt8.toNat_inj.1 (by omega))
        have HS := Lib.hid (hS.out.skip (by simpa using hlt) he)
        clear hS he
        go_wp2
        go_roundw
        case rel => exact ⟨k + 1, f0, ds, by omega, by go_num, rfl, HS.out, hown, hB⟩
        case measure => simp [intOf]; omega
    · have HS := Lib.hid (hS.out.done (by simp; omega))
      have hx := Lib.hid (extract_str s f0 s.size)
      clear hS
      go_wp2_with (at_builtin; refine wpList_append_own _ rfl _ _ 26 rfl w.heap.size 9 i0 (.string ⟨#[]⟩) 1 16 Try.underlying26 hi hz0 hz1 hz2 rfl (by decide) _ _ _ rfl (hown.alloc _) ⟨wr.heap.size, 0, none⟩ 1 1 [.string (s.extract f0 s.size)] rfl rfl (cell_one_new _ _ _) (by intro u hu; simp at hu; subst hu; rfl) (by unfold maxLen; omega) (by omega) (by simp; omega) ?_; intro v' w1 hown' hgrow _)

      have hg := split_grown (hx.out.trans (by rw [List.take_of_length_le (by simp)])) hown hB hsz hown' hgrow
      go_ret
      exact ⟨_, rfl, by rw [HS.out]; exact hg.1, hg.2⟩
end Go.Proofs.Yteflgljifbcelaa
