/-
  Plain mathematics: valid stowages, possible plans, the rows of a plan. No statement of the seat by itself.
-/
import Derived.Test.YtpljcpeghjplnaaHPutM
import Derived.Test.YtpljcpeghjplnaaEarM
namespace Go.Proofs.Ytpljcpeghjplnaa

def goodZ (r h : Int) (P : List Int) : Bool := decide (1 ≤ r ∧ r ≤ 5 ∧ 1 ≤ h ∧ h ≤ 4 ∧ P.length ≤ 7 ∧ (P.length : Int) ≤ r * h ∧ ∀ x ∈ P, 1 ≤ x ∧ x ≤ 9)
theorem goodZ_iff {r h : Int} {P : List Int} : goodZ r h P = true ↔ 1 ≤ r ∧ r ≤ 5 ∧ 1 ≤ h ∧ h ≤ 4 ∧ P.length ≤ 7 ∧ (P.length : Int) ≤ r * h ∧ ∀ x ∈ P, 1 ≤ x ∧ x ≤ 9 := by simp [goodZ]
theorem goodZ_not {r h : Int} {P : List Int} (g : ¬ (1 ≤ r ∧ r ≤ 5 ∧ 1 ≤ h ∧ h ≤ 4 ∧ P.length ≤ 7 ∧ (P.length : Int) ≤ r * h ∧ ∀ x ∈ P, 1 ≤ x ∧ x ≤ 9)) : goodZ r h P = false := by
  unfold goodZ; exact decide_eq_false g
theorem goodZ_at {r h : Int} {P : List Int} {k : Nat} {x : Int} (hx : P[k]? = some x) (hn : ¬ (1 ≤ x ∧ x ≤ 9)) : goodZ r h P = false :=
  goodZ_not fun g => hn (g.2.2.2.2.2.2 x (List.mem_of_getElem? hx))

/-- The containers of a row, of the first k of a plan. -/
def rowZ (O : List Int) (k j : Nat) : List Int := ((List.range k).filter fun i => (O.getD i 0).toNat == j).map fun (i : Nat) => (i : Int) + 1
theorem rowZ_zero (O : List Int) (j : Nat) : rowZ O 0 j = [] := rfl
theorem rowZ_yes {O : List Int} {k j : Nat} (h : (O.getD k 0).toNat = j) : rowZ O (k + 1) j = rowZ O k j ++ [(k : Int) + 1] := by
  have h' : (O[k]?.getD 0).toNat = j := by simpa [List.getD] using h
  simp [rowZ, List.range_succ, List.filter_append, h']
theorem rowZ_no {O : List Int} {k j : Nat} (h : (O.getD k 0).toNat ≠ j) : rowZ O (k + 1) j = rowZ O k j := by
  have h' : ¬ (O[k]?.getD 0).toNat = j := by simpa [List.getD] using h
  simp [rowZ, List.range_succ, List.filter_append, h']
theorem rowZ_mono (O : List Int) (j : Nat) : ∀ {k m : Nat}, k ≤ m → (rowZ O k j).length ≤ (rowZ O m j).length := by
  intro k m h
  induction m with
  | zero => obtain rfl : k = 0 := by omega
            exact Nat.le_refl _
  | succ m ih =>
    by_cases e : k = m + 1
    · subst e; exact Nat.le_refl _
    · refine Nat.le_trans (ih (by omega)) ?_
      by_cases q : (O.getD m 0).toNat = j
      · rw [rowZ_yes q]; simp
      · rw [rowZ_no q]; exact Nat.le_refl _
theorem rowZ_len (O : List Int) (j : Nat) : ∀ k, (rowZ O k j).length ≤ k
  | 0 => Nat.le_refl _
  | k + 1 => by
    have := rowZ_len O j k
    by_cases q : (O.getD k 0).toNat = j
    · rw [rowZ_yes q]; simp; omega
    · rw [rowZ_no q]; omega
theorem rowZ_mem {O : List Int} {k j : Nat} {x : Int} : x ∈ rowZ O k j ↔ ∃ i : Nat, i < k ∧ (O.getD i 0).toNat = j ∧ x = (i : Int) + 1 := by
  simp only [rowZ, List.mem_map, List.mem_filter, List.mem_range, beq_iff_eq]
  constructor
  · rintro ⟨i, ⟨h1, h2⟩, rfl⟩; exact ⟨i, h1, h2, rfl⟩
  · rintro ⟨i, h1, h2, rfl⟩; exact ⟨i, ⟨h1, h2⟩, rfl⟩
theorem rowZ_asc (O : List Int) (j : Nat) : ∀ k, (rowZ O k j).Pairwise (· < ·)
  | 0 => List.Pairwise.nil
  | k + 1 => by
    by_cases q : (O.getD k 0).toNat = j
    · rw [rowZ_yes q, List.pairwise_append]
      refine ⟨rowZ_asc O j k, List.pairwise_singleton _ _, fun a ha b hb => ?_⟩
      obtain ⟨i, hi, -, rfl⟩ := rowZ_mem.1 ha
      simp only [List.mem_singleton] at hb
      subst hb; omega
    · rw [rowZ_no q]; exact rowZ_asc O j k

/-- The rows of the first k of a plan. -/
def bayZ (n : Nat) (O : List Int) : Nat → List (List Int)
  | 0 => List.replicate n []
  | k + 1 => putY (bayZ n O k) (O.getD k 0).toNat ((k : Int) + 1)
theorem bayZ_len (n : Nat) (O : List Int) : ∀ k, (bayZ n O k).length = n
  | 0 => by simp [bayZ]
  | k + 1 => by rw [bayZ, putY_len, bayZ_len n O k]
theorem bayZ_row {n : Nat} {O : List Int} {j : Nat} (hj : j < n) : ∀ k, (bayZ n O k)[j]? = some (rowZ O k j)
  | 0 => by simp [bayZ, rowZ, hj]
  | k + 1 => by
    have ih := bayZ_row (O := O) hj k
    rw [bayZ]
    by_cases q : (O.getD k 0).toNat = j
    · rw [rowZ_yes q, putY_of (q ▸ ih), q, List.getElem?_set_self (by rw [bayZ_len]; exact hj)]
    · rw [rowZ_no q]
      unfold putY
      rw [List.getElem?_set_ne q]
      exact ih
theorem bayZ_mem {n : Nat} {O : List Int} {k : Nat} {l : List Int} (h : l ∈ bayZ n O k) : ∃ j, j < n ∧ l = rowZ O k j := by
  obtain ⟨j, hj⟩ := List.getElem?_of_mem h
  have hl := lt_of_get hj
  rw [bayZ_len] at hl
  rw [bayZ_row hl] at hj
  exact ⟨j, hl, by injection hj with hj; exact hj.symm⟩
theorem bayZ_seen (n : Nat) (O : List Int) (k : Nat) (hk : k ≤ 99) : Seen (bayZ n O k).flatten := by
  constructor
  · intro x hx
    obtain ⟨l, hl, hx⟩ := List.mem_flatten.1 hx
    obtain ⟨j, -, rfl⟩ := bayZ_mem hl
    obtain ⟨i, hi, -, rfl⟩ := rowZ_mem.1 hx
    omega
  · rw [List.nodup_iff_pairwise_ne, List.pairwise_flatten]
    constructor
    · intro l hl
      obtain ⟨j, -, rfl⟩ := bayZ_mem hl
      exact (rowZ_asc O j k).imp fun h => by omega
    · rw [List.pairwise_iff_getElem]
      intro i j hi hj hij x hx y hy e
      subst e
      rw [bayZ_len] at hi hj
      have e1 : (bayZ n O k)[i]'(by rw [bayZ_len]; exact hi) = rowZ O k i := by
        have := bayZ_row (n := n) (O := O) hi k
        rw [List.getElem?_eq_getElem (by rw [bayZ_len]; exact hi)] at this
        injection this
      have e2 : (bayZ n O k)[j]'(by rw [bayZ_len]; exact hj) = rowZ O k j := by
        have := bayZ_row (n := n) (O := O) hj k
        rw [List.getElem?_eq_getElem (by rw [bayZ_len]; exact hj)] at this
        injection this
      rw [e1] at hx
      rw [e2] at hy
      obtain ⟨a, ha, hb, hc⟩ := rowZ_mem.1 hx
      obtain ⟨a', ha', hb', hc'⟩ := rowZ_mem.1 hy
      obtain rfl : a = a' := by omega
      omega
/-- Rows of a plan that are low enough make a valid bay. -/
theorem bayZ_good {r h : Int} {O : List Int} {k : Nat} (h1 : 1 ≤ r ∧ r ≤ 5) (h2 : 1 ≤ h ∧ h ≤ 4) (hk : k ≤ 99) : goodB h (bayZ r.toNat O k) = decide (∀ j, j < r.toNat → (rowZ O k j).length ≤ h.toNat) := by
  refine Bool.eq_iff_iff.2 ⟨fun g => decide_eq_true fun j hj => ?_, fun g => goodB_iff.2 ⟨h2, goodH_iff.2 ⟨?_, ?_, fun l hl => ?_, bayZ_seen _ _ _ hk⟩⟩⟩
  · exact (goodH_iff.1 (goodB_iff.1 g).2).2.2.1 _ (List.mem_of_getElem? (bayZ_row hj k))
  · rw [bayZ_len]; omega
  · rw [bayZ_len]; omega
  · obtain ⟨j, hj, rfl⟩ := bayZ_mem hl
    exact of_decide_eq_true g j hj

/-- A possible plan. -/
def planZ (r h : Int) (P O : List Int) : Bool := decide ((∀ x ∈ O, 0 ≤ x ∧ x < r) ∧ O.length = P.length ∧ ∀ j, j < r.toNat → (rowZ O O.length j).length ≤ h.toNat)
theorem planZ_iff {r h : Int} {P O : List Int} : planZ r h P O = true ↔ (∀ x ∈ O, 0 ≤ x ∧ x < r) ∧ O.length = P.length ∧ ∀ j, j < r.toNat → (rowZ O O.length j).length ≤ h.toNat := by simp [planZ]
theorem planZ_not {r h : Int} {P O : List Int} (g : ¬ ((∀ x ∈ O, 0 ≤ x ∧ x < r) ∧ O.length = P.length ∧ ∀ j, j < r.toNat → (rowZ O O.length j).length ≤ h.toNat)) : planZ r h P O = false := by
  unfold planZ; exact decide_eq_false g
theorem planZ_range {r h : Int} {P O : List Int} {k : Nat} {x : Int} (hx : O[k]? = some x) (hn : ¬ (0 ≤ x ∧ x < r)) : planZ r h P O = false :=
  planZ_not fun g => hn (g.1 x (List.mem_of_getElem? hx))
theorem planZ_len {r h : Int} {P O : List Int} (hn : O.length ≠ P.length) : planZ r h P O = false := planZ_not fun g => hn g.2.1
theorem planZ_full {r h : Int} {P O : List Int} {k : Nat} {x : Int} (hx : O[k]? = some x) (hr : 0 ≤ x ∧ x < r) (hf : (rowZ O k x.toNat).length = h.toNat) : planZ r h P O = false :=
  planZ_not fun g => by
    have e : (O.getD k 0).toNat = x.toNat := by simp [List.getD, hx]
    have h1 := rowZ_yes e
    have h2 := rowZ_mono O x.toNat (k := k + 1) (m := O.length) (lt_of_get hx)
    have h3 := g.2.2 x.toNat (by omega)
    rw [h1, List.length_append, List.length_singleton] at h2
    omega
/-- A valid stowage and a possible plan. -/
def okZ (r h : Int) (P O : List Int) : Bool := goodZ r h P && planZ r h P O
theorem okZ_iff {r h : Int} {P O : List Int} : okZ r h P O = true ↔ goodZ r h P = true ∧ planZ r h P O = true := by simp [okZ]
theorem okZ_l {r h : Int} {P O : List Int} (g : goodZ r h P = false) : okZ r h P O = false := by simp [okZ, g]
theorem okZ_r {r h : Int} {P O : List Int} (g : planZ r h P O = false) : okZ r h P O = false := by simp [okZ, g]
/-- What a possible plan is. -/
theorem okZ_get {r h : Int} {P O : List Int} (g : okZ r h P O = true) : (1 ≤ r ∧ r ≤ 5) ∧ (1 ≤ h ∧ h ≤ 4) ∧ P.length ≤ 7 ∧ O.length = P.length ∧ (∀ x ∈ P, 1 ≤ x ∧ x ≤ 9) ∧ (∀ x ∈ O, 0 ≤ x ∧ x < r) ∧ (∀ j, j < r.toNat → (rowZ O O.length j).length ≤ h.toNat) := by
  obtain ⟨a, b⟩ := okZ_iff.1 g
  obtain ⟨a1, a2, a3, a4, a5, a6, a7⟩ := goodZ_iff.1 a
  obtain ⟨b1, b2, b3⟩ := planZ_iff.1 b
  exact ⟨⟨a1, a2⟩, ⟨a3, a4⟩, a5, b2, a7, b1, b3⟩
/-- PlanBay's answer. -/
def pbH (r h : Int) (P O : List Int) : Int := if okZ r h P O = true then h else 0
def pbR (r h : Int) (P O : List Int) : List (List Int) := if okZ r h P O = true then bayZ r.toNat O O.length else []
theorem pb_no {r h : Int} {P O : List Int} (g : okZ r h P O = false) : pbH r h P O = 0 ∧ pbR r h P O = [] := by simp [pbH, pbR, g]
theorem pb_yes {r h : Int} {P O : List Int} (g : okZ r h P O = true) : pbH r h P O = h ∧ pbR r h P O = bayZ r.toNat O O.length := by simp [pbH, pbR, g]
theorem bayZ_small {r : Int} {O : List Int} {k : Nat} (h1 : r ≤ 5) (hk : k ≤ 7) : (bayZ r.toNat O k).length ≤ 5 ∧ tot (bayZ r.toNat O k) ≤ 35 := by
  have hl : (bayZ r.toNat O k).length ≤ 5 := by rw [bayZ_len]; omega
  have := tot_bound 7 (bayZ r.toNat O k) fun l hl => by
    obtain ⟨j, hj, rfl⟩ := bayZ_mem hl
    exact Nat.le_trans (rowZ_len O j k) hk
  exact ⟨hl, by omega⟩
theorem pb_small (r h : Int) (P O : List Int) : (pbR r h P O).length ≤ 1048576 ∧ tot (pbR r h P O) ≤ 1048576 := by
  by_cases g : okZ r h P O = true
  · rw [(pb_yes g).2]
    obtain ⟨h1, h2, h3, h4, h5, h6, h7⟩ := okZ_get g
    have := bayZ_small (O := O) (k := O.length) h1.2 (by omega)
    omega
  · rw [(pb_no (by simpa using g)).2]
    simp [tot]
end Go.Proofs.Ytpljcpeghjplnaa
