/-
  A bay whose highest number of a row is taken. No statement of the seat by itself.
-/
import Derived.Test.YtececghifehjeaaHPutM
namespace Go.Proofs.Ytececghifehjeaa
open Go.RowKit

def okU (hh : Int) (Y : List (List Int)) (s : Int) : Bool := okB hh Y s && decide (¬ (Y.getD s.toNat []).length = 0)
def unR (hh : Int) (Y : List (List Int)) (s : Int) : List (List Int) := if okU hh Y s = true then Y.set s.toNat ((Y.getD s.toNat []).take ((Y.getD s.toNat []).length - 1)) else []
def unH (hh : Int) (Y : List (List Int)) (s : Int) : Int := if okU hh Y s = true then hh else 0
def unX (hh : Int) (Y : List (List Int)) (s : Int) : Int := if okU hh Y s = true then (Y.getD s.toNat []).getD ((Y.getD s.toNat []).length - 1) 0 else 0
section
variable {hh : Int} {Y : List (List Int)}
theorem un_no {s : Int} (h : okU hh Y s = false) : unR hh Y s = [] ∧ unH hh Y s = 0 ∧ unX hh Y s = 0 := by simp [unR, unH, unX, h]
theorem okU_no {s : Int} (h : okB hh Y s = false) : okU hh Y s = false := by simp [okU, h]
theorem okU_empty {s : Nat} {l : List Int} (hl : Y[s]? = some l) (h0 : l.length = 0) : okU hh Y (s : Int) = false := by
  unfold okU
  rw [Int.toNat_natCast, getD_of hl, h0]
  simp
theorem un_yes {s k : Nat} {l : List Int} {x : Int} (h : okB hh Y (s : Int) = true) (hl : Y[s]? = some l) (hk : l.length = k + 1) (hx : l[k]? = some x) : okU hh Y (s : Int) = true ∧ unR hh Y (s : Int) = Y.set s (l.take k) ∧ unH hh Y (s : Int) = hh ∧ unX hh Y (s : Int) = x := by
  have ho : okU hh Y (s : Int) = true := by
    unfold okU
    rw [Int.toNat_natCast, getD_of hl, hk, h]
    simp
  refine ⟨ho, ?_, by simp [unH, ho], ?_⟩
  · unfold unR
    rw [if_pos ho, Int.toNat_natCast, getD_of hl, hk]
    rfl
  · unfold unX
    rw [if_pos ho, Int.toNat_natCast, getD_of hl, hk]
    simp [List.getD, hx]
theorem unR_small (hh : Int) (Y : List (List Int)) (s : Int) : (unR hh Y s).length ≤ 1048576 ∧ tot (unR hh Y s) ≤ 1048576 := by
  unfold unR
  split
  · rename_i h
    have hg : goodB hh Y = true := by
      simp only [okU, Bool.and_eq_true] at h
      exact (okB_iff.1 h.1).1
    obtain ⟨h1, h2, h3, _⟩ := goodB_rows hg
    have := tot_bound 4 (Y.set s.toNat ((Y.getD s.toNat []).take ((Y.getD s.toNat []).length - 1))) fun l hl => by
      rcases List.mem_or_eq_of_mem_set hl with hm | rfl
      · exact h3 l hm
      · refine Nat.le_trans (List.length_take_le _ _) ?_
        rcases Nat.lt_or_ge s.toNat Y.length with hs | hs
        · rw [getD_of (List.getElem?_eq_getElem hs)]; have := h3 _ (List.getElem_mem hs); omega
        · rw [List.getD, List.getElem?_eq_none hs]; simp
    rw [List.length_set] at this ⊢
    omega
  · simp [tot]
end
end Go.Proofs.Ytececghifehjeaa
