/-
  What spec.l8Choose, the two ChooseStack and impl.suitsBetter return. No statement of the seat by itself.
-/
import Derived.Test.YtfbeoficgkkamaaArr
import Derived.Test.YtfbeoficgkkamaaEarI
import Derived.Test.YtfbeoficgkkamaaPlcR
namespace Go.Proofs.Ytfbeoficgkkamaa
open Go.RowKit

theorem choS_lt (n : Int) (Y : List (List Int)) : ∀ i, (∀ g, (choS n Y i).1 = some g → g < i) ∧ (∀ b, (choS n Y i).2 = some b → b < i)
  | 0 => ⟨fun g h => by simp [choS] at h, fun b h => by simp [choS] at h⟩
  | i + 1 => by
    have ih := choS_lt n Y i
    rw [choS]
    split
    · exact ⟨fun g h => by have := ih.1 g h; omega, fun b h => by have := ih.2 b h; omega⟩
    · refine ⟨fun g h => ?_, fun b h => ?_⟩
      · simp only at h
        split at h
        · cases h; omega
        · have := ih.1 g h; omega
      · simp only at h
        split at h
        · cases h; omega
        · have := ih.2 b h; omega
theorem choS_full {n : Int} {Y : List (List Int)} {i : Nat} {l : List Int} (hl : Y[i]? = some l) (h : l.length = 4) : choS n Y (i + 1) = choS n Y i := by
  rw [choS, getD_of hl, if_pos h]
theorem choS_open {n : Int} {Y : List (List Int)} {i : Nat} {l : List Int} (hl : Y[i]? = some l) (h : ¬ l.length = 4) : choS n Y (i + 1) =
    (if (decide (n < earL l) && lessO (earL l) Y (choS n Y i).1) = true then some i else (choS n Y i).1, if moreO (earL l) Y (choS n Y i).2 = true then some i else (choS n Y i).2) := by
  rw [choS, getD_of hl, if_neg h, earY_of hl]
theorem choE_fst {s : Option Nat × Option Nat} {g : Nat} (h : s.1 = some g) : choE s = some g := by
  obtain ⟨a, b⟩ := s
  simp only at h
  subst h
  rfl
theorem choE_snd {s : Option Nat × Option Nat} (h : s.1 = none) : choE s = s.2 := by
  obtain ⟨a, b⟩ := s
  simp only at h
  subst h
  rfl

end Go.Proofs.Ytfbeoficgkkamaa
