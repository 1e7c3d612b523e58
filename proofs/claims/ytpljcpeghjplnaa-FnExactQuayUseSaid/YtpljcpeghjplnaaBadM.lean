/-
  Plain mathematics: numbers put into an ascending list; the number that stands above the most smaller ones. No statement of the seat by itself.
-/
import Derived.Test.YtpljcpeghjplnaaEarM
namespace Go.Proofs.Ytpljcpeghjplnaa

/-- A list with a number put in before the first one that is not smaller. -/
def insI (x : Int) : List Int → List Int
  | [] => [x]
  | y :: L => if y < x then y :: insI x L else x :: y :: L
theorem insI_at (x : Int) : ∀ (L : List Int) (k : Nat), k ≤ L.length → (∀ (j : Nat) (y : Int), j < k → L[j]? = some y → y < x) → (∀ y, L[k]? = some y → ¬ y < x) → insI x L = L.take k ++ [x] ++ L.drop k
  | [], k, hk, _, _ => by obtain rfl : k = 0 := by simpa using hk
                          rfl
  | y :: L, 0, _, _, h2 => by
    rw [insI, if_neg (h2 y rfl)]; rfl
  | y :: L, k + 1, hk, h1, h2 => by
    rw [insI, if_pos (h1 0 y (by omega) rfl), insI_at x L k (by simpa using hk) (fun j z hj hz => h1 (j + 1) z (by omega) (by simpa using hz)) (fun z hz => h2 z (by simpa using hz))]
    rfl
theorem insI_perm (x : Int) : ∀ L, (insI x L).Perm (x :: L)
  | [] => List.Perm.refl _
  | y :: L => by
    rw [insI]
    split
    · exact ((insI_perm x L).cons y).trans (List.Perm.swap x y L)
    · exact List.Perm.refl _
theorem insI_asc (x : Int) : ∀ L, L.Pairwise (fun a b : Int => a ≤ b) → (insI x L).Pairwise (fun a b : Int => a ≤ b)
  | [], _ => by simp [insI]
  | y :: L, h => by
    rw [List.pairwise_cons] at h
    rw [insI]
    split
    · rename_i hy
      rw [List.pairwise_cons]
      refine ⟨fun a ha => ?_, insI_asc x L h.2⟩
      rcases List.mem_cons.1 ((insI_perm x L).mem_iff.1 ha) with e | e
      · omega
      · exact h.1 a e
    · rename_i hy
      rw [List.pairwise_cons]
      refine ⟨fun a ha => ?_, List.pairwise_cons.2 h⟩
      rcases List.mem_cons.1 ha with e | e
      · omega
      · have := h.1 a e; omega
/-- The numbers put in one after the other. -/
def srtI : List Int → List Int := List.foldl (fun L x => insI x L) []
theorem srtI_nil : srtI [] = [] := rfl
theorem srtI_snoc (l : List Int) (x : Int) : srtI (l ++ [x]) = insI x (srtI l) := by simp [srtI, List.foldl_append]
theorem srtI_both (n : Nat) : ∀ l : List Int, l.length = n → (srtI l).Perm l ∧ (srtI l).Pairwise fun a b : Int => a ≤ b := by
  induction n with
  | zero => intro l hl; rw [List.length_eq_zero_iff.1 hl, srtI_nil]; simp
  | succ n ih =>
    intro l hl
    obtain ⟨m, x, rfl⟩ := snoc_of hl
    have h := ih m (by simpa using hl)
    rw [srtI_snoc]
    refine ⟨(insI_perm x _).trans ((h.1.cons x).trans ?_), insI_asc x _ h.2⟩
    exact (List.perm_append_comm (l₁ := [x]) (l₂ := m))
theorem srtI_perm (l : List Int) : (srtI l).Perm l := (srtI_both _ l rfl).1
theorem srtI_asc (l : List Int) : (srtI l).Pairwise fun a b : Int => a ≤ b := (srtI_both _ l rfl).2
theorem srtI_len (l : List Int) : (srtI l).length = l.length := (srtI_perm l).length_eq
theorem srtI_mem (l : List Int) (x : Int) : x ∈ srtI l ↔ x ∈ l := (srtI_perm l).mem_iff
theorem srtI_is (l : List Int) : (l.mergeSort fun x y => decide (x ≤ y)) = srtI l := by
  refine List.Perm.eq_of_pairwise (le := fun a b : Int => a ≤ b) (fun a b _ _ h1 h2 => by omega) ?_ (srtI_asc l) ((List.mergeSort_perm l _).trans (srtI_perm l).symm)
  have := List.pairwise_mergeSort (le := fun x y : Int => decide (x ≤ y)) (fun a b c h1 h2 => by simp only [decide_eq_true_eq] at *; omega) (fun a b => by simp; omega) l
  exact this.imp fun {a b} h => by simpa using h
end Go.Proofs.Ytpljcpeghjplnaa
