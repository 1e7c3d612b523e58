/-
  A bay with a number more, or less; the store into the copy. No statement of the seat by itself.
-/
import Derived.Test.YtpljcpeghjplnaaHCopy
import Derived.Test.YtpljcpeghjplnaaTakeM
namespace Go.Proofs.Ytpljcpeghjplnaa
open Go.RowKit

theorem goodB_small {hh : Int} {Y : List (List Int)} (h : goodB hh Y = true) : Y.length ≤ 5 ∧ tot Y ≤ 24 := by
  obtain ⟨h1, h2, h3, _⟩ := goodB_rows h
  have := tot_bound 4 Y h3
  exact ⟨h2, by omega⟩
theorem putB_small {hh : Int} {Y : List (List Int)} {s : Nat} {x : Int} (h : goodB hh Y = true) : (putY Y s x).length ≤ 5 ∧ tot (putY Y s x) ≤ 30 := by
  obtain ⟨h1, h2, h3, _⟩ := goodB_rows h
  have hl : (putY Y s x).length ≤ 5 := by rw [putY_len]; exact h2
  have := tot_bound 5 (putY Y s x) fun l hl => by
    rcases List.mem_or_eq_of_mem_set hl with hm | rfl
    · have := h3 l hm; omega
    · have : (Y.getD s []).length ≤ 4 := by
        rcases Nat.lt_or_ge s Y.length with hs | hs
        · rw [getD_of (List.getElem?_eq_getElem hs)]; exact h3 _ (List.getElem_mem hs)
        · rw [List.getD, List.getElem?_eq_none hs]; simp
      rw [List.length_append, List.length_singleton]; omega
  exact ⟨hl, by omega⟩
def okPB (hh : Int) (Y : List (List Int)) (s x : Int) : Bool := okB hh Y s && goodB hh (putY Y s.toNat x)
def putRB (hh : Int) (Y : List (List Int)) (s x : Int) : List (List Int) := if okPB hh Y s x = true then putY Y s.toNat x else []
def putHB (hh : Int) (Y : List (List Int)) (s x : Int) : Int := if okPB hh Y s x = true then hh else 0
section
variable {hh : Int} {Y : List (List Int)} {s x : Int}
theorem okPB_no (h : okB hh Y s = false) : okPB hh Y s x = false := by simp [okPB, h]
theorem okPB_nat {s : Nat} (h : okB hh Y (s : Int) = true) : okPB hh Y (s : Int) x = goodB hh (putY Y s x) := by simp [okPB, h]
theorem putB_no (h : okPB hh Y s x = false) : putRB hh Y s x = [] ∧ putHB hh Y s x = 0 := by simp [putRB, putHB, h]
theorem putB_yes {s : Nat} (h : okPB hh Y (s : Int) x = true) : putRB hh Y (s : Int) x = putY Y s x ∧ putHB hh Y (s : Int) x = hh := by simp [putRB, putHB, h]
theorem putRB_small (hh : Int) (Y : List (List Int)) (s x : Int) : (putRB hh Y s x).length ≤ 1048576 ∧ tot (putRB hh Y s x) ≤ 1048576 := by
  unfold putRB
  split
  · rename_i h
    have hg : goodB hh Y = true := by
      simp only [okPB, Bool.and_eq_true] at h
      exact (okB_iff.1 h.1).1
    have := putB_small (s := s.toNat) (x := x) hg
    omega
  · simp [tot]
end

theorem own_at {w : World} {B hi g n c : Nat} {Y : List (List Int)} (h : OwnY w B hi (.slice (some ⟨g, 0, none⟩) n c) Y) : B ≤ g ∧ g < hi := by
  obtain ⟨_, hlt, us, h3, _⟩ := h
  exact ⟨row_base h3 g rfl, hlt g rfl⟩
end Go.Proofs.Ytpljcpeghjplnaa
