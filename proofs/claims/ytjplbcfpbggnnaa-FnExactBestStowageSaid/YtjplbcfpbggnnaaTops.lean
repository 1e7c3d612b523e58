/-
  What the two TopOf and the two FreePlaces return. No statement of the seat by itself.
-/
import Derived.Test.YtjplbcfpbggnnaaPlace
namespace Go.Proofs.Ytjplbcfpbggnnaa
open Go.RowKit

/-- The highest number of a stack, or 0. -/
def topL (l : List Int) : Int := if l.length = 0 then 0 else l.getD (l.length - 1) 0
def topR (Y : List (List Int)) (s : Int) : Int := if okS Y s = true then topL (Y.getD s.toNat []) else 0
theorem topR_no {Y : List (List Int)} {s : Int} (h : okS Y s = false) : topR Y s = 0 := by simp [topR, h]
theorem topR_yes {Y : List (List Int)} {i : Nat} {l : List Int} (h : okS Y (i : Int) = true) (hl : Y[i]? = some l) : topR Y (i : Int) = topL l := by
  simp only [topR, h, if_true, Int.toNat_natCast, getD_of hl]

/-- How many further numbers there is room for. -/
def freeR (Y : List (List Int)) : Int := if goodY Y = true then 4 * (Y.length : Int) - (tot Y : Nat) else 0
theorem tk_four {Y : List (List Int)} (h : rowsOk Y) : ∀ k, k ≤ Y.length → tk Y k ≤ 4 * k
  | 0, _ => by rw [tk_zero]; omega
  | k + 1, hk => by
    obtain ⟨l, hl⟩ := get_at (Y := Y) rfl (show k < Y.length by omega)
    have := tk_four h k (by omega)
    have := h l (List.mem_of_getElem? hl)
    rw [tk_succ hl]
    omega

end Go.Proofs.Ytjplbcfpbggnnaa
