/-
  The library's contract of slices.Reverse laid at this program: a table of numbers, and the comparison of its body; reversing a row of one's own. No statement of the seat by itself.
-/
import Derived.Shelf.Slices.Reverse
import Derived.Sort.OwnSortedInts
import Derived.Test.YtalobfpmmembiaaMem
namespace Go.Proofs
open Go.Shelf
def Try.laysRev_ren : Go.Shelf.Ren := ⟨fun | 112 => 59 | n => n, fun | 28 => 24 | 3 => 3 | 4 => 4 | 0 => 0 | n => n, fun | n => n⟩
theorem Try.laysRev : Go.Proofs.Lays.n112 Try.prog Try.laysRev_ren := {
  mixed := by kernel_rfl
  f112 := Try.func59.trans (congrArg some (by kernel_rfl))
  t0 := Try.underlying0
  a0 := Try.isAgg0
  z0 := Try.sizeOf0
  v0 := Try.zeroValue0
  t3 := Try.underlying3
  a3 := Try.isAgg3
  z3 := Try.sizeOf3
  v3 := Try.zeroValue3
  t4 := Try.underlying4
  a4 := Try.isAgg4
  z4 := Try.sizeOf4
  v4 := Try.zeroValue4
  t28 := Try.underlying24
  a28 := Try.isAgg24
  z28 := Try.sizeOf24
  v28 := Try.zeroValue24 }
end Go.Proofs
namespace Go.Proofs.Ytalobfpmmembiaa
open Go.RowKit Go.Sort
theorem grow_none (W : World) : grow W #[] = W := by cases W; simp [grow]
theorem rev_any (B : Nat) (v : Value) (R : List Int) (w : World) (h : w.ownsRow B 3 1 v R.length (intV R)) (hs : R.length ≤ 1000) :
    Calls Try.prog 59 #[v] w fun e w' => e = .returned (.tuple #[]) ∧ w'.ownsRow B 3 1 v R.length (intV R.reverse) ∧ w.grownBy w' v.ownBlock := by
  rcases h.2 with ⟨rfl, hz⟩ | ⟨g, cap, cur, rfl, hg, hb, hn, hcm, hsz, hx⟩
  · have e : R = [] := List.eq_nil_of_length_eq_zero hz
    subst e
    refine Calls.mono (Any.slices_Reverse_int_empty Try.laysRev none 0 w) fun e w' ⟨he, hw⟩ => ⟨he, ?_, ?_⟩
    · subst hw; simpa using h
    · subst hw; exact ⟨rfl, rfl, rfl, Nat.le_refl _, fun _ _ _ => rfl⟩
  · have hx' : cur.toList.take R.length = R.map (Value.int .i64) := by simpa [intV] using hx
    have hc := Any.slices_Reverse_int Try.laysRev g 0 cap R w (holds_of_blockI hb hx') (by omega)
    refine Calls.mono hc fun e w' ⟨he, n, hw⟩ => ⟨he, ?_, ?_⟩
    · have := ownsRow_sortedI (w := w) (n := n) (os := #[]) (ss := R) (ts := R.reverse) (by simp) hg hb (by simpa using hn) hcm hsz
      rw [hw]
      rw [grow_none] at this
      simpa [intV] using this
    · have := grownBy_sortedI (w := w) (g := g) (n := n) (os := #[]) R.reverse.toArray
      rw [hw]
      rw [grow_none] at this
      exact this
end Go.Proofs.Ytalobfpmmembiaa
