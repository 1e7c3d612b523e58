/-
  Plain mathematics: numbers of chosen places; ascending lists with the same members; the shifted containers of a plan. No statement of the seat by itself.
-/
import Derived.Test.YtpljcpeghjplnaaZM
import Derived.Test.YtpljcpeghjplnaaBadM
namespace Go.Proofs.Ytpljcpeghjplnaa

/-- The numbers, from 1, of the chosen places among the first n. -/
def numsW (p : Nat → Bool) (n : Nat) : List Int := ((List.range n).filter p).map fun (i : Nat) => (i : Int) + 1
theorem numsW_zero (p : Nat → Bool) : numsW p 0 = [] := rfl
theorem numsW_yes {p : Nat → Bool} {n : Nat} (h : p n = true) : numsW p (n + 1) = numsW p n ++ [(n : Int) + 1] := by simp [numsW, List.range_succ, List.filter_append, h]
theorem numsW_no {p : Nat → Bool} {n : Nat} (h : p n = false) : numsW p (n + 1) = numsW p n := by simp [numsW, List.range_succ, List.filter_append, h]
theorem numsW_len (p : Nat → Bool) : ∀ n, (numsW p n).length ≤ n
  | 0 => Nat.le_refl _
  | n + 1 => by
    have := numsW_len p n
    cases h : p n with
    | true => rw [numsW_yes h, List.length_append, List.length_singleton]; omega
    | false => rw [numsW_no h]; omega
theorem numsW_mem {p : Nat → Bool} {n : Nat} {x : Int} : x ∈ numsW p n ↔ ∃ i : Nat, i < n ∧ p i = true ∧ x = (i : Int) + 1 := by
  simp only [numsW, List.mem_map, List.mem_filter, List.mem_range]
  constructor
  · rintro ⟨i, ⟨h1, h2⟩, rfl⟩; exact ⟨i, h1, h2, rfl⟩
  · rintro ⟨i, h1, h2, rfl⟩; exact ⟨i, ⟨h1, h2⟩, rfl⟩
theorem numsW_asc (p : Nat → Bool) : ∀ n, (numsW p n).Pairwise (· < ·)
  | 0 => List.Pairwise.nil
  | n + 1 => by
    cases h : p n with
    | true =>
      rw [numsW_yes h, List.pairwise_append]
      refine ⟨numsW_asc p n, List.pairwise_singleton _ _, fun a ha b hb => ?_⟩
      obtain ⟨i, hi, -, rfl⟩ := numsW_mem.1 ha
      simp only [List.mem_singleton] at hb
      subst hb; omega
    | false => rw [numsW_no h]; exact numsW_asc p n
theorem numsW_ext {p q : Nat → Bool} {n : Nat} (h : ∀ i, i < n → p i = q i) : numsW p n = numsW q n := by
  unfold numsW
  rw [List.filter_congr fun i hi => h i (List.mem_range.1 hi)]
/-- All are chosen exactly if as many numbers are. -/
theorem numsW_all (p : Nat → Bool) : ∀ n, (numsW p n).length = n ↔ ∀ i, i < n → p i = true
  | 0 => by simp [numsW]
  | n + 1 => by
    have ih := numsW_all p n
    have hl := numsW_len p n
    cases h : p n with
    | true =>
      rw [numsW_yes h, List.length_append, List.length_singleton]
      constructor
      · intro e i hi
        by_cases q : i = n
        · rw [q, h]
        · exact ih.1 (by omega) i (by omega)
      · intro e
        rw [ih.2 fun i hi => e i (by omega)]
    | false =>
      rw [numsW_no h]
      constructor
      · intro e; omega
      · intro e; have := e n (by omega); rw [h] at this; cases this

theorem asc_ext : ∀ {A B : List Int}, A.Pairwise (· < ·) → B.Pairwise (· < ·) → (∀ x, x ∈ A ↔ x ∈ B) → A = B
  | [], [], _, _, _ => rfl
  | [], b :: B, _, _, h => by have := (h b).2 (List.mem_cons_self ..); simp at this
  | a :: A, [], _, _, h => by have := (h a).1 (List.mem_cons_self ..); simp at this
  | a :: A, b :: B, hA, hB, h => by
    obtain ⟨hA1, hA2⟩ := List.pairwise_cons.1 hA
    obtain ⟨hB1, hB2⟩ := List.pairwise_cons.1 hB
    have e : a = b := by
      rcases List.mem_cons.1 ((h a).1 (List.mem_cons_self ..)) with e | e
      · exact e
      · rcases List.mem_cons.1 ((h b).2 (List.mem_cons_self ..)) with e2 | e2
        · exact e2.symm
        · have := hA1 b e2; have := hB1 a e; omega
    subst e
    rw [asc_ext hA2 hB2 fun x => ?_]
    constructor
    · intro hx
      rcases List.mem_cons.1 ((h x).1 (List.mem_cons_of_mem _ hx)) with e | e
      · have := hA1 x hx; omega
      · exact e
    · intro hx
      rcases List.mem_cons.1 ((h x).2 (List.mem_cons_of_mem _ hx)) with e | e
      · have := hB1 x hx; omega
      · exact e
theorem asc_len : ∀ {A : List Int} {lo hi : Int}, A.Pairwise (· < ·) → (∀ x ∈ A, lo ≤ x ∧ x ≤ hi) → lo ≤ hi + 1 → (A.length : Int) ≤ hi - lo + 1
  | [], lo, hi, _, _, h => by simp; omega
  | a :: A, lo, hi, hA, hx, h => by
    obtain ⟨hA1, hA2⟩ := List.pairwise_cons.1 hA
    have ha := hx a (List.mem_cons_self ..)
    have := asc_len (lo := a + 1) (hi := hi) hA2 (fun x hm => ⟨by have := hA1 x hm; omega, (hx x (List.mem_cons_of_mem _ hm)).2⟩) (by omega)
    rw [List.length_cons]
    omega
/-- A number put into an ascending list, unless it is there. -/
def insU (x : Int) (S : List Int) : List Int := if x ∈ S then S else insI x S
theorem insU_in {x : Int} {S : List Int} (h : x ∈ S) : insU x S = S := by simp [insU, h]
theorem insU_out {x : Int} {S : List Int} (h : ¬ x ∈ S) : insU x S = insI x S := by simp [insU, h]
theorem insU_mem {x y : Int} {S : List Int} : y ∈ insU x S ↔ y = x ∨ y ∈ S := by
  by_cases h : x ∈ S
  · rw [insU_in h]
    constructor
    · exact .inr
    · rintro (rfl | e)
      · exact h
      · exact e
  · rw [insU_out h, (insI_perm x S).mem_iff, List.mem_cons]
theorem insU_asc {x : Int} {S : List Int} (hS : S.Pairwise (· < ·)) : (insU x S).Pairwise (· < ·) := by
  by_cases h : x ∈ S
  · rw [insU_in h]; exact hS
  · rw [insU_out h]
    have h1 := insI_asc x S (hS.imp fun h => by omega)
    have h2 : (insI x S).Nodup := ((insI_perm x S).nodup_iff).2 (List.nodup_cons.2 ⟨h, hS.imp fun h => by omega⟩)
    have h3 := List.pairwise_and_iff.2 ⟨h1, h2⟩
    exact h3.imp fun ⟨a, b⟩ => by omega

/-- The port of a container. -/
def ptZ (P : List Int) (x : Int) : Int := P.getD (x - 1).toNat 0
theorem ptZ_at (P : List Int) (i : Nat) : ptZ P ((i : Int) + 1) = P.getD i 0 := by
  unfold ptZ
  rw [show ((i : Int) + 1 - 1).toNat = i by omega]
/-- As the reference collects the shifted ones. -/
def shM (P l : List Int) (k : Nat) (S : List Int) : Nat → List Int
  | 0 => S
  | m + 1 => if ptZ P (l.getD m 0) < ptZ P (l.getD k 0) then insU (l.getD k 0) (shM P l k S m) else shM P l k S m
def shK (P l S : List Int) : Nat → List Int
  | 0 => S
  | k + 1 => shM P l k (shK P l S k) k
def shI (P : List Int) (Y : List (List Int)) : Nat → List Int
  | 0 => []
  | i + 1 => shK P (Y.getD i []) (shI P Y i) (Y.getD i []).length
theorem shM_asc {P l : List Int} {k : Nat} {S : List Int} (hS : S.Pairwise (· < ·)) : ∀ m, (shM P l k S m).Pairwise (· < ·)
  | 0 => hS
  | m + 1 => by
    rw [shM]
    split
    · exact insU_asc (shM_asc hS m)
    · exact shM_asc hS m
theorem shK_asc {P l S : List Int} (hS : S.Pairwise (· < ·)) : ∀ k, (shK P l S k).Pairwise (· < ·)
  | 0 => hS
  | k + 1 => shM_asc (shK_asc hS k) k
theorem shI_asc (P : List Int) (Y : List (List Int)) : ∀ i, (shI P Y i).Pairwise (· < ·)
  | 0 => List.Pairwise.nil
  | i + 1 => shK_asc (shI_asc P Y i) _
theorem shM_mem {P l : List Int} {k : Nat} {S : List Int} {x : Int} : ∀ m, x ∈ shM P l k S m ↔ (x = l.getD k 0 ∧ ∃ q, q < m ∧ ptZ P (l.getD q 0) < ptZ P (l.getD k 0)) ∨ x ∈ S
  | 0 => by simp [shM]
  | m + 1 => by
    have ih := shM_mem (P := P) (l := l) (k := k) (S := S) (x := x) m
    rw [shM]
    split
    · rename_i hc
      rw [insU_mem, ih]
      constructor
      · rintro (rfl | ⟨e, q, hq, hc2⟩ | e)
        · exact .inl ⟨rfl, m, by omega, hc⟩
        · exact .inl ⟨e, q, by omega, hc2⟩
        · exact .inr e
      · rintro (⟨e, q, hq, hc2⟩ | e)
        · exact .inl e
        · exact .inr (.inr e)
    · rename_i hc
      rw [ih]
      constructor
      · rintro (⟨e, q, hq, hc2⟩ | e)
        · exact .inl ⟨e, q, by omega, hc2⟩
        · exact .inr e
      · rintro (⟨e, q, hq, hc2⟩ | e)
        · refine .inl ⟨e, q, ?_, hc2⟩
          rcases Nat.lt_or_ge q m with h | h
          · exact h
          · obtain rfl : q = m := by omega
            exact absurd hc2 hc
        · exact .inr e
theorem shK_mem {P l S : List Int} {x : Int} : ∀ k, x ∈ shK P l S k ↔ (∃ t, t < k ∧ x = l.getD t 0 ∧ ∃ q, q < t ∧ ptZ P (l.getD q 0) < ptZ P (l.getD t 0)) ∨ x ∈ S
  | 0 => by simp [shK]
  | k + 1 => by
    rw [shK, shM_mem, shK_mem k]
    constructor
    · rintro (⟨e, q, hq, hc⟩ | ⟨t, ht, e, q, hq, hc⟩ | e)
      · exact .inl ⟨k, by omega, e, q, hq, hc⟩
      · exact .inl ⟨t, by omega, e, q, hq, hc⟩
      · exact .inr e
    · rintro (⟨t, ht, e, q, hq, hc⟩ | e)
      · by_cases h : t = k
        · subst h; exact .inl ⟨e, q, hq, hc⟩
        · exact .inr (.inl ⟨t, by omega, e, q, hq, hc⟩)
      · exact .inr (.inr e)
theorem shI_mem {P : List Int} {Y : List (List Int)} {x : Int} : ∀ i, x ∈ shI P Y i ↔ ∃ j, j < i ∧ ∃ t, t < (Y.getD j []).length ∧ x = (Y.getD j []).getD t 0 ∧ ∃ q, q < t ∧ ptZ P ((Y.getD j []).getD q 0) < ptZ P ((Y.getD j []).getD t 0)
  | 0 => by simp [shI]
  | i + 1 => by
    rw [shI, shK_mem, shI_mem i]
    constructor
    · rintro (⟨t, ht, e, q, hq, hc⟩ | ⟨j, hj, h⟩)
      · exact ⟨i, by omega, t, ht, e, q, hq, hc⟩
      · exact ⟨j, by omega, h⟩
    · rintro ⟨j, hj, h⟩
      by_cases e : j = i
      · subst e; exact .inl h
      · exact .inr ⟨j, by omega, h⟩
/-- Whether a container is shifted: a smaller port lies below it. -/
def shB (P O : List Int) (i : Nat) : Bool := (List.range i).any fun m => ((O.getD m 0).toNat == (O.getD i 0).toNat) && decide (P.getD m 0 < P.getD i 0)
theorem shB_iff {P O : List Int} {i : Nat} : shB P O i = true ↔ ∃ m, m < i ∧ (O.getD m 0).toNat = (O.getD i 0).toNat ∧ P.getD m 0 < P.getD i 0 := by
  simp [shB, List.any_eq_true]
theorem getDI2 {l : List Int} {t : Nat} (h : t < l.length) : l[t]? = some (l.getD t 0) := by
  rw [List.getElem?_eq_getElem h, List.getD, List.getElem?_eq_getElem h]; rfl
/-- Places of a row, and the containers there. -/
theorem rowZ_at {O : List Int} {n j t : Nat} (ht : t < (rowZ O n j).length) : ∃ i : Nat, i < n ∧ (O.getD i 0).toNat = j ∧ (rowZ O n j).getD t 0 = (i : Int) + 1 := by
  have h := List.mem_of_getElem? (getDI2 ht)
  obtain ⟨i, h1, h2, h3⟩ := rowZ_mem.1 h
  exact ⟨i, h1, h2, h3⟩
theorem rowZ_find {O : List Int} {n j i : Nat} (hi : i < n) (h : (O.getD i 0).toNat = j) : ∃ t, t < (rowZ O n j).length ∧ (rowZ O n j).getD t 0 = (i : Int) + 1 := by
  obtain ⟨t, ht⟩ := List.getElem?_of_mem (rowZ_mem.2 ⟨i, hi, h, rfl⟩)
  exact ⟨t, lt_of_get ht, by simp [List.getD, ht]⟩
theorem rowZ_lt {O : List Int} {n j q t : Nat} (hq : q < (rowZ O n j).length) (ht : t < (rowZ O n j).length) : (rowZ O n j).getD q 0 < (rowZ O n j).getD t 0 ↔ q < t := by
  have hp := rowZ_asc O j n
  have e1 : (rowZ O n j).getD q 0 = (rowZ O n j)[q] := by simp [List.getD, hq]
  have e2 : (rowZ O n j).getD t 0 = (rowZ O n j)[t] := by simp [List.getD, ht]
  rw [e1, e2]
  constructor
  · intro h
    rcases Nat.lt_trichotomy q t with h1 | h1 | h1
    · exact h1
    · subst h1; omega
    · have := List.pairwise_iff_getElem.1 hp t q ht hq h1; omega
  · intro h; exact List.pairwise_iff_getElem.1 hp q t hq ht h
theorem bayZ_getD {n : Nat} {O : List Int} {j : Nat} (hj : j < n) (k : Nat) : (bayZ n O k).getD j [] = rowZ O k j := getD_of (bayZ_row hj k)
/-- What lies below a place of a row. -/
theorem row_below_iff {O : List Int} {n j t i : Nat} {R : Int → Prop} (ht : t < (rowZ O n j).length) (e : (rowZ O n j).getD t 0 = (i : Int) + 1) : (∃ q, q < t ∧ R ((rowZ O n j).getD q 0)) ↔ ∃ m : Nat, m < i ∧ (O.getD m 0).toNat = j ∧ R ((m : Int) + 1) := by
  have hin : i < n := by
    obtain ⟨i', h1, -, h3⟩ := rowZ_at ht
    omega
  constructor
  · rintro ⟨q, hq, hR⟩
    obtain ⟨m, h1, h2, h3⟩ := rowZ_at (show q < (rowZ O n j).length by omega)
    have := (rowZ_lt (show q < (rowZ O n j).length by omega) ht).2 hq
    rw [h3] at hR
    exact ⟨m, by omega, h2, hR⟩
  · rintro ⟨m, h1, h2, hR⟩
    obtain ⟨q, h3, h4⟩ := rowZ_find (show m < n by omega) h2
    refine ⟨q, (rowZ_lt h3 ht).1 (by omega), ?_⟩
    rw [h4]; exact hR
/-- The reference's collection is the list of the shifted ones. -/
theorem shI_eq {P O : List Int} {n r : Nat} (hr : ∀ i, i < n → (O.getD i 0).toNat < r) : shI P (bayZ r O n) r = numsW (shB P O) n := by
  refine asc_ext (shI_asc _ _ _) (numsW_asc _ _) fun x => ?_
  rw [shI_mem, numsW_mem]
  constructor
  · rintro ⟨j, hj, t, ht, rfl, h⟩
    rw [bayZ_getD hj] at ht h ⊢
    obtain ⟨i, h1, h2, h3⟩ := rowZ_at ht
    refine ⟨i, h1, shB_iff.2 ?_, h3⟩
    rw [h3] at h
    obtain ⟨m, m1, m2, m3⟩ := (row_below_iff (R := fun y => ptZ P y < ptZ P ((i : Int) + 1)) ht h3).1 h
    rw [ptZ_at, ptZ_at] at m3
    exact ⟨m, m1, by rw [m2, h2], m3⟩
  · rintro ⟨i, h1, h2, rfl⟩
    obtain ⟨m, m1, m2, m3⟩ := shB_iff.1 h2
    obtain ⟨t, ht, e⟩ := rowZ_find h1 (j := (O.getD i 0).toNat) rfl
    refine ⟨_, hr i h1, t, by rw [bayZ_getD (hr i h1)]; exact ht, by rw [bayZ_getD (hr i h1)]; exact e.symm, ?_⟩
    rw [bayZ_getD (hr i h1), e]
    exact (row_below_iff (R := fun y => ptZ P y < ptZ P ((i : Int) + 1)) ht e).2 ⟨m, m1, m2, by rw [ptZ_at, ptZ_at]; exact m3⟩
end Go.Proofs.Ytpljcpeghjplnaa
