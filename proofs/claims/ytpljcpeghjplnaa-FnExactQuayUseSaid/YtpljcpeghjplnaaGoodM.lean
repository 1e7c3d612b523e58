/-
  Stacks, at most M of them with at most H numbers each: whether they are valid. No statement of the seat by itself.
-/
import Derived.Test.YtpljcpeghjplnaaGood
namespace Go.Proofs.Ytpljcpeghjplnaa
open Go.RowKit

/-- Whether there are 1 to M stacks of at most H numbers, no number twice. -/
def goodH (M H : Nat) (Y : List (List Int)) : Bool := decide (1 ≤ Y.length ∧ Y.length ≤ M ∧ (∀ l ∈ Y, l.length ≤ H) ∧ Seen Y.flatten)
theorem goodH_iff {M H : Nat} {Y : List (List Int)} : goodH M H Y = true ↔ 1 ≤ Y.length ∧ Y.length ≤ M ∧ (∀ l ∈ Y, l.length ≤ H) ∧ Seen Y.flatten := by simp [goodH]
theorem goodH_not {M H : Nat} {Y : List (List Int)} (h : ¬ (1 ≤ Y.length ∧ Y.length ≤ M ∧ (∀ l ∈ Y, l.length ≤ H) ∧ Seen Y.flatten)) : goodH M H Y = false := by
  cases hb : goodH M H Y with
  | false => rfl
  | true => exact absurd (goodH_iff.1 hb) h
theorem goodY_H (Y : List (List Int)) : goodY Y = goodH 6 4 Y := decide_eq_decide.2 Iff.rfl
theorem goodH_row {M H : Nat} {Y : List (List Int)} {i : Nat} {l : List Int} (h : Y[i]? = some l) (hm : H < l.length) : goodH M H Y = false :=
  goodH_not fun ⟨_, _, h3, _⟩ => by have := h3 l (List.mem_of_getElem? h); omega
theorem goodH_range {M H : Nat} {Y : List (List Int)} {i k : Nat} {l : List Int} {x : Int} (h : Y[i]? = some l) (hx : l[k]? = some x) (hr : ¬ (1 ≤ x ∧ x ≤ 99)) : goodH M H Y = false :=
  goodH_not fun ⟨_, _, _, h4⟩ => hr (h4.1 x (flat_mem h hx))
theorem seen_twice {Y : List (List Int)} {i k : Nat} {l : List Int} {x : Int} (h : Y[i]? = some l) (hx : l[k]? = some x) (hm : x ∈ (Y.take i).flatten ++ l.take k) : ¬ Seen Y.flatten := fun h4 => by
  have hn := h4.2
  have e : l = l.take (k + 1) ++ l.drop (k + 1) := (List.take_append_drop _ _).symm
  have e2 : Y.flatten = ((Y.take i).flatten ++ l.take k) ++ (x :: (l.drop (k + 1) ++ (Y.drop (i + 1)).flatten)) := by
    rw [flat_split h]
    have e3 : l ++ (Y.drop (i + 1)).flatten = l.take k ++ (x :: (l.drop (k + 1) ++ (Y.drop (i + 1)).flatten)) := by
      calc l ++ (Y.drop (i + 1)).flatten = (l.take (k + 1) ++ l.drop (k + 1)) ++ (Y.drop (i + 1)).flatten := by rw [← e]
        _ = _ := by rw [take_next hx]; simp
    rw [e3, List.append_assoc]
  rw [e2] at hn
  exact (List.nodup_append.1 hn).2.2 x hm x (by simp) rfl
/-- What is known when the rows before i and k numbers of row i have been looked at. -/
def PartH (H : Nat) (Y : List (List Int)) (i : Nat) (l : List Int) (k : Nat) (S : List Int) : Prop := S = (Y.take i).flatten ++ l.take k ∧ Seen S ∧ S.length ≤ 4 * i + k ∧ ∀ (j : Nat) (r : List Int), j < i → Y[j]? = some r → r.length ≤ H
section
variable {M H : Nat} {Y : List (List Int)} {i k n : Nat} {l S : List Int} {x : Int}
theorem PartH.start (H : Nat) (Y : List (List Int)) : PartH H Y 0 [] 0 [] := ⟨by simp, ⟨fun x hx => by simp at hx, by simp⟩, by simp, fun j r hj => by omega⟩
theorem PartH.row (h : PartH H Y i [] 0 S) (l : List Int) : PartH H Y i l 0 S := by
  obtain ⟨h1, h2, h3, h4⟩ := h
  exact ⟨by simpa using h1, h2, h3, h4⟩
theorem PartH.step (h : PartH H Y i l k S) (hx : l[k]? = some x) (hr : 1 ≤ x ∧ x ≤ 99) (hn : ¬ x ∈ S) : PartH H Y i l (k + 1) (S ++ [x]) := by
  obtain ⟨h1, h2, h3, h4⟩ := h
  exact ⟨by rw [take_next hx, h1]; simp, seen_step h2 hr hn, by simp; omega, h4⟩
theorem PartH.next (h : PartH H Y i l k S) (hl : Y[i]? = some l) (hk : l.length = k) (h4 : k ≤ H) (hH : H ≤ 4) : PartH H Y (i + 1) [] 0 S := by
  obtain ⟨h1, h2, h3, h5⟩ := h
  refine ⟨?_, h2, by omega, fun j r hj hr => ?_⟩
  · rw [← hk, List.take_length] at h1
    rw [flat_succ hl, h1]; simp
  · by_cases e : j = i
    · subst e; rw [hl] at hr; cases hr; omega
    · exact h5 j r (by omega) hr
theorem PartH.done (h : PartH H Y n [] 0 S) (hn : Y.length = n) (h1 : 1 ≤ n) (h6 : n ≤ M) : goodH M H Y = true := by
  obtain ⟨e, h2, h3, h5⟩ := h
  refine goodH_iff.2 ⟨by omega, by omega, fun l hl => ?_, ?_⟩
  · obtain ⟨j, hj, e⟩ := List.mem_iff_getElem.1 hl
    exact h5 j l (by omega) (by rw [List.getElem?_eq_getElem hj, e])
  · rw [← hn, List.take_length] at e
    simp at e
    rw [← e]; exact h2
theorem PartH.no (h : PartH H Y i l k S) (hl : Y[i]? = some l) (hx : l[k]? = some x) (hm : x ∈ S) : goodH M H Y = false :=
  goodH_not fun ⟨_, _, _, h4⟩ => seen_twice hl hx (by rw [← h.1]; exact hm) h4
end
end Go.Proofs.Ytpljcpeghjplnaa
