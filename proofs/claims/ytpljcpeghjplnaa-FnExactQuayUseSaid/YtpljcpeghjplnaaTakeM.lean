/-
  A yard with a top less; a store inside a region that draws its order. No statement of the seat by itself.
-/
import Derived.Test.YtpljcpeghjplnaaPutM
import Derived.Test.YtpljcpeghjplnaaFind
namespace Go.Proofs.Ytpljcpeghjplnaa
open Go.RowKit

/-- Where a number stands, if it is a top. -/
def tkO (Y : List (List Int)) (x : Int) : Option (Nat × Nat) := (plO Y x).filter fun p => decide (p.2 + 1 = (Y.getD p.1 []).length)
theorem tkO_none {Y : List (List Int)} {x : Int} (h : plO Y x = none) : tkO Y x = none := by simp [tkO, h]
theorem tkO_not {Y : List (List Int)} {x : Int} {i k : Nat} {l : List Int} (h : plO Y x = some (i, k)) (hl : Y[i]? = some l) (hk : ¬ k + 1 = l.length) : tkO Y x = none := by
  unfold tkO
  rw [h, Option.filter_some, if_neg (by rw [decide_eq_true_eq, getD_of hl]; exact hk)]
theorem tkO_yes {Y : List (List Int)} {x : Int} {i k : Nat} {l : List Int} (h : plO Y x = some (i, k)) (hl : Y[i]? = some l) (hk : k + 1 = l.length) : tkO Y x = some (i, k) := by
  unfold tkO
  rw [h, Option.filter_some, if_pos (by rw [decide_eq_true_eq, getD_of hl]; exact hk)]
def okT (Y : List (List Int)) (x : Int) : Bool := (tkO Y x).isSome
def takeR (Y : List (List Int)) (x : Int) : List (List Int) := match tkO Y x with
  | none => []
  | some p => Y.set p.1 ((Y.getD p.1 []).take p.2)
theorem take_no {Y : List (List Int)} {x : Int} (h : tkO Y x = none) : takeR Y x = [] ∧ okT Y x = false := by simp [takeR, okT, h]
theorem take_yes {Y : List (List Int)} {x : Int} {i k : Nat} {l : List Int} (h : tkO Y x = some (i, k)) (hl : Y[i]? = some l) : takeR Y x = Y.set i (l.take k) ∧ okT Y x = true := by
  unfold takeR okT
  rw [h]
  exact ⟨by show Y.set i ((Y.getD i []).take k) = _; rw [getD_of hl], rfl⟩
theorem set_small {Y : List (List Int)} {i k : Nat} (h : goodY Y = true) : (Y.set i ((Y.getD i []).take k)).length ≤ 6 ∧ tot (Y.set i ((Y.getD i []).take k)) ≤ 24 := by
  obtain ⟨h1, h2, h3, _⟩ := goodY_iff.1 h
  have hl : (Y.set i ((Y.getD i []).take k)).length ≤ 6 := by simpa using h2
  have := tot_bound 4 (Y.set i ((Y.getD i []).take k)) fun l hl => by
    rcases List.mem_or_eq_of_mem_set hl with hm | rfl
    · exact h3 l hm
    · have : (Y.getD i []).length ≤ 4 := by
        rcases Nat.lt_or_ge i Y.length with hs | hs
        · rw [getD_of (List.getElem?_eq_getElem hs)]; exact h3 _ (List.getElem_mem hs)
        · rw [List.getD, List.getElem?_eq_none hs]; simp
      rw [List.length_take]; omega
  exact ⟨hl, by omega⟩
theorem takeR_small (Y : List (List Int)) (x : Int) : (takeR Y x).length ≤ 1048576 ∧ tot (takeR Y x) ≤ 1048576 := by
  unfold takeR
  split
  · simp [tot]
  · rename_i p hp
    have hg : goodY Y = true := by
      cases hg : goodY Y with
      | true => rfl
      | false =>
        have := tkO_none (plO_bad (x := x) hg)
        rw [this] at hp
        cases hp
    have := set_small (i := p.1) (k := p.2) hg
    omega
theorem own_take {w : World} {B m c k : Nat} {a : Option Addr} {l : List Int} (h : w.ownsRow B 3 1 (.slice a m c) m (intV l)) (hk : k < m) : m ≤ c ∧ w.ownsRow B 3 1 (.slice a k c) k (intV (l.take k)) := by
  have hl := h.1
  rcases h.2 with ⟨_, hz⟩ | ⟨g, cap, cur, hv, hg, hb, hnc, hcm, hsz, hx⟩
  · omega
  · injection hv with e1 e2 e3
    subst e1 e3
    refine ⟨hnc, by rw [intV_len] at hl ⊢; simp; omega, .inr ⟨g, c, cur, rfl, hg, hb, by omega, hcm, hsz, ?_⟩⟩
    have e : intV (l.take k) = (intV l).take k := by simp [intV, List.map_take]
    rw [e, ← hx, List.take_take]
    congr 1
    omega
theorem dif_true {k m : Nat} (h : k + 1 = m) : ((k : Int) == (m : Int) - 1) = true := by rw [beq_iff_eq]; omega
theorem dif_false {k m : Nat} (h : ¬ k + 1 = m) : ((k : Int) == (m : Int) - 1) = false := by rw [beq_eq_false_iff_ne]; omega
end Go.Proofs.Ytpljcpeghjplnaa
