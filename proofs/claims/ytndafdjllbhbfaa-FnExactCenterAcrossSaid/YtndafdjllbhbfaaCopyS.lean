/-
  Copies of yards: spec.l5Own. No statement of the seat by itself.
-/
import Derived.Test.YtndafdjllbhbfaaOwn
import Derived.Deep.RegionLaw
import Derived.Handy
namespace Go.Proofs.Ytndafdjllbhbfaa
open Go.RowKit

theorem Rows2.below {w w' : World} {B hi : Nat} {us : List Value} {Y : List (List Int)} (h : Rows2 w B hi us Y) (hb : Below w.heap.size w w') : Rows2 w' B hi us Y :=
  ⟨h.1, fun j u l hu hl => ⟨row_below (h.2.1 j u l hu hl).1 hb, (h.2.1 j u l hu hl).2⟩, h.2.2⟩
theorem cell_val_new (w : World) (x : Value) (T : TypeId) : ∀ j u, ([x] : List Value)[j]? = some u → (w.alloc (.cells #[x] T)).cell? ((⟨w.heap.size, 0, none⟩ : Addr).add j) = some u := by
  intro j u hj
  have h0 : j = 0 := by
    by_cases h : j = 0
    · exact h
    · rw [List.getElem?_eq_none (by simp; omega)] at hj; cases hj
  subst h0
  simp only [List.getElem?_cons_zero, Option.some.injEq] at hj
  subst hj
  exact cell_of (heap_alloc_new w _) rfl

end Go.Proofs.Ytndafdjllbhbfaa
