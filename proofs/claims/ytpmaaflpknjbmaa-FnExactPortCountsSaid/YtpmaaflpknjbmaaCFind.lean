/-
  Plain mathematics: the first container with an Id, and valid lists. No program stands in it.
-/
import Derived.Test.YtpmaaflpknjbmaaCId
namespace Go.Proofs.Ytpmaaflpknjbmaa.C

/-- The first of n containers that has an Id, or -1. -/
def findU (f : Nat → Cont) (id : ByteArray) : Nat → Int
  | 0 => -1
  | n + 1 => if 0 ≤ findU f id n then findU f id n else if (f n).id = id then (n : Int) else -1
theorem findU_miss (f : Nat → Cont) (id : ByteArray) : ∀ n, (∀ j, j < n → (f j).id ≠ id) → findU f id n = -1
  | 0, _ => rfl
  | n + 1, h => by
    have h1 := findU_miss f id n (fun j hj => h j (by omega))
    rw [findU, h1, if_neg (by decide), if_neg (h n (by omega))]
theorem findU_hit (f : Nat → Cont) (id : ByteArray) (k : Nat) (hk : (f k).id = id) (hm : ∀ j, j < k → (f j).id ≠ id) : ∀ n, k < n → findU f id n = (k : Int)
  | 0, h => by omega
  | n + 1, h => by
    by_cases e : k = n
    · subst e
      rw [findU, findU_miss f id k hm, if_neg (by decide), if_pos hk]
    · have h1 := findU_hit f id k hk hm n (by omega)
      rw [findU, h1, if_pos (by omega)]
/-- The two ways that a search ends. -/
theorem findU_cases (f : Nat → Cont) (id : ByteArray) : ∀ n, (∀ j, j < n → (f j).id ≠ id) ∨ ∃ k, k < n ∧ (f k).id = id ∧ ∀ j, j < k → (f j).id ≠ id
  | 0 => .inl fun j hj => by omega
  | n + 1 => by
    rcases findU_cases f id n with h | ⟨k, hk, he, hm⟩
    · by_cases e : (f n).id = id
      · exact .inr ⟨n, by omega, e, h⟩
      · exact .inl fun j hj => by
          by_cases e2 : j = n
          · subst e2; exact e
          · exact h j (by omega)
    · exact .inr ⟨k, by omega, he, hm⟩
theorem findU_bd (f : Nat → Cont) (id : ByteArray) (n : Nat) : -1 ≤ findU f id n ∧ findU f id n < (n : Int) ∨ findU f id n = -1 := by
  rcases findU_cases f id n with h | ⟨k, hk, he, hm⟩
  · exact .inr (findU_miss f id n h)
  · exact .inl (by rw [findU_hit f id k he hm n hk]; omega)
/-- An Id of the list is found at its own place just where it does not stand before. -/
theorem findU_own (f : Nat → Cont) (n i : Nat) (hi : i < n) : findU f (f i).id n = (i : Int) ↔ findU f (f i).id i = -1 := by
  rcases findU_cases f (f i).id i with h | ⟨k, hk, he, hm⟩
  · rw [findU_miss f _ i h, findU_hit f _ i rfl h n hi]
    simp
  · rw [findU_hit f _ k he hm i hk, findU_hit f _ k he hm n (by omega)]
    omega

/-- Whether container i of a list is good and no earlier one has its Id. -/
def okC (f : Nat → Cont) (i : Nat) : Bool := goodB (f i) && decide (findU f (f i).id i = -1)
/-- Whether n containers are a valid list. -/
def listB (n : Nat) (f : Nat → Cont) : Bool := decide (n ≤ 12) && (List.range n).all (okC f)
theorem listB_iff (n : Nat) (f : Nat → Cont) : listB n f = true ↔ n ≤ 12 ∧ ∀ i, i < n → okC f i = true := by
  simp [listB, List.all_eq_true]
theorem listB_big (n : Nat) (f : Nat → Cont) (h : 12 < n) : listB n f = false := by
  cases e : listB n f with
  | false => rfl
  | true => exact absurd ((listB_iff n f).1 e).1 (by omega)
theorem listB_no (n : Nat) (f : Nat → Cont) (i : Nat) (hi : i < n) (h : okC f i = false) : listB n f = false := by
  cases e : listB n f with
  | false => rfl
  | true => rw [((listB_iff n f).1 e).2 i hi] at h; cases h
theorem listB_yes (n : Nat) (f : Nat → Cont) (h12 : n ≤ 12) (h : ∀ i, i < n → okC f i = true) : listB n f = true := (listB_iff n f).2 ⟨h12, h⟩
theorem listB_good {n : Nat} {f : Nat → Cont} (h : listB n f = true) (i : Nat) (hi : i < n) : goodB (f i) = true := by
  have := ((listB_iff n f).1 h).2 i hi
  unfold okC at this
  simp at this
  exact this.1
theorem listB_dist {n : Nat} {f : Nat → Cont} (h : listB n f = true) (i j : Nat) (hij : i < j) (hj : j < n) : (f i).id ≠ (f j).id := by
  have := ((listB_iff n f).1 h).2 j hj
  unfold okC at this
  simp at this
  intro e
  rcases findU_cases f (f j).id j with h | ⟨k, hk, he, hm⟩
  · exact h i hij e
  · have := this.2
    rw [findU_hit f _ k he hm j hk] at this
    omega
end Go.Proofs.Ytpmaaflpknjbmaa.C
