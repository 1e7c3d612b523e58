/-
  What the two ChooseStack return. No statement of the seat by itself.
-/
import Derived.Test.YtfbeoficgkkamaaChoS
namespace Go.Proofs.Ytfbeoficgkkamaa
open Go.RowKit

theorem choI_full {n : Int} {Y : List (List Int)} {i : Nat} {l : List Int} (hl : Y[i]? = some l) (h : l.length = 4) : choI n Y (i + 1) = choI n Y i := by
  rw [choI, getD_of hl, if_pos h]
theorem choI_open {n : Int} {Y : List (List Int)} {i : Nat} {l : List Int} (hl : Y[i]? = some l) (h : ¬ l.length = 4) : choI n Y (i + 1) = if suitO n (earL l) Y (choI n Y i) = true then some i else choI n Y i := by
  rw [choI, getD_of hl, if_neg h, earY_of hl]
theorem own_one (w : World) (x : Int) : (w.alloc (.cells #[.int .i64 x] 3)).ownsRow w.heap.size 3 1 (.slice (some ⟨w.heap.size, 0, none⟩) 1 1) 1 (intV [x]) :=
  ⟨rfl, .inr ⟨_, 1, #[.int .i64 x], rfl, Nat.le_refl _, heap_alloc_new w _, Nat.le_refl _, by decide, rfl, rfl⟩⟩
theorem choR_no {Y : List (List Int)} {x : Int} (h : choB Y x = false) : choR Y x = 0 := by simp [choR, h]
theorem choB_ask {Y : List (List Int)} {x : Int} (h : askP Y [x] = false) : choB Y x = false := by simp [choB, h]
theorem choB_none {Y : List (List Int)} {x : Int} (h : choY x Y = none) : choB Y x = false := by simp [choB, h]
theorem choB_some {Y : List (List Int)} {x : Int} {k : Nat} (h : askP Y [x] = true) (hk : choY x Y = some k) : choB Y x = true ∧ choR Y x = (k : Int) := by
  have : choB Y x = true := by simp [choB, h, hk]
  exact ⟨this, by simp [choR, this, hk, pkO]⟩

end Go.Proofs.Ytfbeoficgkkamaa
