/-
  The laws' own helpers on lists of lists of ints: eqIntSS, markIntSS, heldIntSS. No statement of the seat by itself.
-/
import Derived.Test.YtpljcpeghjplnaaYRow
namespace Go.Proofs.Ytpljcpeghjplnaa
open Go.RowKit

/-- The rows hold k0, k0 + 1 and so on, up to row k. -/
def mkY (k0 : Int) (Y : List (List Int)) (k : Nat) : List (List Int) := (List.range Y.length).map fun j => if j < k then runL (k0 + (tk Y j : Nat)) (Y.getD j []).length else Y.getD j []
theorem mkY_len (k0 : Int) (Y : List (List Int)) (k : Nat) : (mkY k0 Y k).length = Y.length := by simp [mkY]
theorem getD_of {Y : List (List Int)} {j : Nat} {l : List Int} (h : Y[j]? = some l) : Y.getD j [] = l := by simp [List.getD, h]
theorem lt_of_get {α : Type} {Y : List α} {j : Nat} {l : α} (h : Y[j]? = some l) : j < Y.length := by
  rcases Nat.lt_or_ge j Y.length with h' | h'
  · exact h'
  · rw [List.getElem?_eq_none h'] at h; cases h
theorem mkY_get {k0 : Int} {Y : List (List Int)} {k j : Nat} {l : List Int} (h : Y[j]? = some l) : (mkY k0 Y k)[j]? = some (if j < k then runL (k0 + (tk Y j : Nat)) l.length else l) := by
  have hj := lt_of_get h
  have h' : Y[j] = l := by rw [List.getElem?_eq_getElem hj] at h; exact Option.some.inj h
  simp [mkY, hj, h']
theorem mkY_zero (k0 : Int) (Y : List (List Int)) : mkY k0 Y 0 = Y := by
  apply List.ext_getElem?
  intro j
  rcases Nat.lt_or_ge j Y.length with h | h
  · rw [mkY_get (List.getElem?_eq_getElem h), if_neg (by omega), List.getElem?_eq_getElem h]
  · rw [List.getElem?_eq_none h, List.getElem?_eq_none (by rw [mkY_len]; exact h)]
theorem mkY_succ {k0 : Int} {Y : List (List Int)} {k : Nat} {l : List Int} (h : Y[k]? = some l) : (mkY k0 Y k).set k (runL (k0 + (tk Y k : Nat)) l.length) = mkY k0 Y (k + 1) := by
  have hk := lt_of_get h
  apply List.ext_getElem?
  intro j
  rcases Nat.lt_or_ge j Y.length with hj | hj
  · obtain ⟨m, hm⟩ := get_at rfl hj
    by_cases e : k = j
    · subst e
      rw [hm] at h
      cases h
      rw [List.getElem?_set_self (by rw [mkY_len]; exact hj), mkY_get hm, if_pos (by omega)]
    · rw [List.getElem?_set_ne e, mkY_get hm, mkY_get hm]
      by_cases h1 : j < k
      · rw [if_pos h1, if_pos (by omega)]
      · rw [if_neg h1, if_neg (by omega)]
  · rw [List.getElem?_eq_none (by rw [List.length_set, mkY_len]; exact hj), List.getElem?_eq_none (by rw [mkY_len]; exact hj)]

end Go.Proofs.Ytpljcpeghjplnaa
