/-
  Plain mathematics: round voyages, the ways between their calls, and the calls at a port. No program stands in it.
-/
import Derived.Lib.Hide
namespace Go.Proofs.YtefkcdhmiepbfaaDoor.R

/-- Whether call i of n is good. -/
def okR (n : Nat) (p d : Nat → Int) (i : Nat) : Bool := decide (1 ≤ p i ∧ p i ≤ 9 ∧ 1 ≤ d i ∧ d i ≤ 40 ∧ (1 < n → p i ≠ p ((i + 1) % n)))
/-- Whether n ports and m days are a rotation. -/
def rotB (n m : Nat) (p d : Nat → Int) : Bool := decide (1 ≤ n ∧ n ≤ 12 ∧ m = n) && (List.range n).all (okR n p d)
theorem rotB_iff (n m : Nat) (p d : Nat → Int) : rotB n m p d = true ↔ (1 ≤ n ∧ n ≤ 12 ∧ m = n) ∧ ∀ i, i < n → okR n p d i = true := by
  simp [rotB, List.all_eq_true]
theorem okR_iff (n : Nat) (p d : Nat → Int) (i : Nat) : okR n p d i = true ↔ 1 ≤ p i ∧ p i ≤ 9 ∧ 1 ≤ d i ∧ d i ≤ 40 ∧ (1 < n → p i ≠ p ((i + 1) % n)) := by
  unfold okR; exact decide_eq_true_iff
theorem rotB_size {n m : Nat} {p d : Nat → Int} (h : ¬ (1 ≤ n ∧ n ≤ 12 ∧ m = n)) : rotB n m p d = false := by
  cases e : rotB n m p d with
  | false => rfl
  | true => exact absurd ((rotB_iff n m p d).1 e).1 h
theorem rotB_call {n m : Nat} {p d : Nat → Int} {i : Nat} (hi : i < n) (h : ¬ okR n p d i = true) : rotB n m p d = false := by
  cases e : rotB n m p d with
  | false => rfl
  | true => exact absurd (((rotB_iff n m p d).1 e).2 i hi) h
/-- How a call can fail. -/
theorem okR_no {n : Nat} {p d : Nat → Int} {i : Nat} (h : ¬ okR n p d i = true) : p i < 1 ∨ 9 < p i ∨ (1 ≤ p i ∧ p i ≤ 9) ∧ (d i < 1 ∨ 40 < d i ∨ (1 ≤ d i ∧ d i ≤ 40) ∧ 1 < n ∧ p i = p ((i + 1) % n)) := by
  rw [okR_iff] at h
  by_cases h1 : p i < 1
  · exact .inl h1
  · by_cases h2 : 9 < p i
    · exact .inr (.inl h2)
    · refine .inr (.inr ⟨⟨by omega, by omega⟩, ?_⟩)
      by_cases h3 : d i < 1
      · exact .inl h3
      · by_cases h4 : 40 < d i
        · exact .inr (.inl h4)
        · refine .inr (.inr ⟨⟨by omega, by omega⟩, ?_⟩)
          by_cases h5 : 1 < n
          · refine ⟨h5, ?_⟩
            by_cases h6 : p i = p ((i + 1) % n)
            · exact h6
            · exact absurd ⟨by omega, by omega, by omega, by omega, fun _ => h6⟩ h
          · exact absurd ⟨by omega, by omega, by omega, by omega, fun h => absurd h h5⟩ h

/-- A good rotation, as far as the walks lean on it. -/
structure Good (n m : Nat) (p d : Nat → Int) : Prop where
  pos : 1 ≤ n
  top : n ≤ 12
  same : m = n
  port : ∀ i, i < n → 1 ≤ p i ∧ p i ≤ 9
  days : ∀ i, i < n → 1 ≤ d i ∧ d i ≤ 40
theorem good_of {n m : Nat} {p d : Nat → Int} (h : rotB n m p d = true) : Good n m p d := by
  obtain ⟨⟨h1, h2, h3⟩, h4⟩ := (rotB_iff n m p d).1 h
  exact ⟨h1, h2, h3, fun i hi => by have := (okR_iff n p d i).1 (h4 i hi); omega, fun i hi => by have := (okR_iff n p d i).1 (h4 i hi); omega⟩

/-- The sum of the first k days. -/
def sumD (d : Nat → Int) : Nat → Int
  | 0 => 0
  | k + 1 => sumD d k + d k
theorem sumD_bd {n m : Nat} {p d : Nat → Int} (h : Good n m p d) : ∀ k, k ≤ n → (k : Int) ≤ sumD d k ∧ sumD d k ≤ 40 * k
  | 0, _ => by simp [sumD]
  | k + 1, hk => by
    have h1 := sumD_bd h k (by omega)
    have h2 := h.days k (by omega)
    rw [sumD]
    omega
theorem sumD_mono {n m : Nat} {p d : Nat → Int} (h : Good n m p d) : ∀ k, k ≤ n → ∀ i, i ≤ k → sumD d i + (k - i : Nat) ≤ sumD d k
  | 0, _, i, hi => by obtain rfl : i = 0 := by omega
                      simp
  | k + 1, hk, i, hi => by
    by_cases e : i = k + 1
    · subst e; simp
    · have h1 := sumD_mono h k (by omega) i (by omega)
      have h2 := h.days k (by omega)
      rw [sumD]
      omega
/-- The way from call i to call k. -/
def wayD (n : Nat) (d : Nat → Int) (i k : Nat) : Int := if i ≤ k then sumD d k - sumD d i else sumD d n - sumD d i + sumD d k
theorem wayD_self (n : Nat) (d : Nat → Int) (i : Nat) : wayD n d i i = 0 := by simp [wayD]
theorem wayD_bd {n m : Nat} {p d : Nat → Int} (h : Good n m p d) (i k : Nat) (hi : i < n) (hk : k < n) : 0 ≤ wayD n d i k ∧ wayD n d i k < sumD d n := by
  have a := sumD_mono h n (Nat.le_refl _) k (by omega)
  have b := sumD_mono h n (Nat.le_refl _) i (by omega)
  have c := (sumD_bd h k (by omega)).1
  have c2 := (sumD_bd h i (by omega)).1
  unfold wayD
  split
  · rename_i hik
    have e := sumD_mono h k (by omega) i hik
    omega
  · have e := sumD_mono h i (by omega) k (by omega)
    omega
/-- One day further on the way. -/
theorem wayD_step {n : Nat} {d : Nat → Int} (i k : Nat) (hi : i < n) (hk : k < n) (hne : i ≠ k) : wayD n d i k = d i + wayD n d ((i + 1) % n) k := by
  have hs : sumD d (i + 1) = sumD d i + d i := rfl
  by_cases he : i + 1 = n
  · have e : (i + 1) % n = 0 := by rw [he]; exact Nat.mod_self n
    rw [e]
    unfold wayD
    rw [if_neg (by omega), if_pos (Nat.zero_le _)]
    have z : sumD d 0 = 0 := rfl
    rw [← he, hs, z]
    omega
  · have e : (i + 1) % n = i + 1 := Nat.mod_eq_of_lt (by omega)
    rw [e]
    unfold wayD
    by_cases hik : i ≤ k
    · rw [if_pos hik, if_pos (by omega), hs]; omega
    · rw [if_neg hik, if_neg (by omega), hs]; omega
/-- The way as a remainder. -/
theorem wayD_mod {n m : Nat} {p d : Nat → Int} (h : Good n m p d) (i k : Nat) (hi : i < n) (hk : k < n) : (sumD d k - sumD d i + sumD d n) % sumD d n = wayD n d i k := by
  have hb := wayD_bd h i k hi hk
  have hb2 := sumD_mono h n (Nat.le_refl _) i (by omega)
  unfold wayD at hb ⊢
  split at hb
  · rename_i hik
    rw [if_pos hik, Int.add_emod_right]
    exact Int.emod_eq_of_lt hb.1 hb.2
  · rename_i hik
    rw [if_neg hik]
    have e : sumD d k - sumD d i + sumD d n = sumD d n - sumD d i + sumD d k := by omega
    rw [e]
    exact Int.emod_eq_of_lt hb.1 hb.2
/-- There and back is the whole round. -/
theorem wayD_both {n : Nat} {d : Nat → Int} (i k : Nat) (hne : i ≠ k) : wayD n d i k + wayD n d k i = sumD d n := by
  unfold wayD
  by_cases h : i ≤ k
  · rw [if_pos h, if_neg (by omega)]; omega
  · rw [if_neg h, if_pos (by omega)]; omega

/-- How many calls lie on the way from i to k. -/
def stepsTo (n i k : Nat) : Nat := if i ≤ k then k - i else n - i + k
theorem stepsTo_step {n i k : Nat} (hi : i < n) (hk : k < n) (hne : i ≠ k) : stepsTo n ((i + 1) % n) k < stepsTo n i k := by
  unfold stepsTo
  by_cases he : i + 1 = n
  · have e : (i + 1) % n = 0 := by rw [he]; exact Nat.mod_self n
    rw [e, if_pos (Nat.zero_le _), if_neg (by omega)]; omega
  · have e : (i + 1) % n = i + 1 := Nat.mod_eq_of_lt (by omega)
    rw [e]
    by_cases hik : i ≤ k
    · rw [if_pos hik, if_pos (by omega)]; omega
    · rw [if_neg hik, if_neg (by omega)]; omega

/-- The first of s steps from call i whose call is at a port; s if there is none. -/
def hop (n : Nat) (p : Nat → Int) (i : Nat) (port : Int) : Nat → Nat
  | 0 => 0
  | s + 1 => if hop n p i port s < s then hop n p i port s else if p ((i + s) % n) = port then s else s + 1
theorem hop_miss (n : Nat) (p : Nat → Int) (i : Nat) (port : Int) : ∀ s, (∀ t, t < s → p ((i + t) % n) ≠ port) → hop n p i port s = s
  | 0, _ => rfl
  | s + 1, h => by
    have h1 := hop_miss n p i port s (fun t ht => h t (by omega))
    rw [hop, h1, if_neg (by omega), if_neg (h s (by omega))]
theorem hop_hit (n : Nat) (p : Nat → Int) (i : Nat) (port : Int) (k : Nat) (hk : p ((i + k) % n) = port) (hm : ∀ t, t < k → p ((i + t) % n) ≠ port) : ∀ s, k < s → hop n p i port s = k
  | 0, h => by omega
  | s + 1, h => by
    by_cases e : k = s
    · subst e
      rw [hop, hop_miss n p i port k hm, if_neg (by omega), if_pos hk]
    · have h1 := hop_hit n p i port k hk hm s (by omega)
      rw [hop, h1, if_pos (by omega)]
theorem hop_cases (n : Nat) (p : Nat → Int) (i : Nat) (port : Int) : ∀ s, (∀ t, t < s → p ((i + t) % n) ≠ port) ∨ ∃ k, k < s ∧ p ((i + k) % n) = port ∧ ∀ t, t < k → p ((i + t) % n) ≠ port
  | 0 => .inl fun t ht => by omega
  | s + 1 => by
    rcases hop_cases n p i port s with h | ⟨k, hk, he, hm⟩
    · by_cases e : p ((i + s) % n) = port
      · exact .inr ⟨s, by omega, e, h⟩
      · exact .inl fun t ht => by
          by_cases e2 : t = s
          · subst e2; exact e
          · exact h t (by omega)
    · exact .inr ⟨k, by omega, he, hm⟩
/-- The next call at a port, from call i on; none if there is no call at the port. -/
def nextC (n : Nat) (p : Nat → Int) (i : Nat) (port : Int) : Option Nat := if hop n p i port n < n then some ((i + hop n p i port n) % n) else none
theorem nextC_hit {n : Nat} {p : Nat → Int} {i : Nat} {port : Int} {k : Nat} (hkn : k < n) (hk : p ((i + k) % n) = port) (hm : ∀ t, t < k → p ((i + t) % n) ≠ port) : nextC n p i port = some ((i + k) % n) := by
  unfold nextC
  rw [hop_hit n p i port k hk hm n hkn, if_pos hkn]
theorem nextC_miss {n : Nat} {p : Nat → Int} {i : Nat} {port : Int} (h : ∀ t, t < n → p ((i + t) % n) ≠ port) : nextC n p i port = none := by
  unfold nextC
  rw [hop_miss n p i port n h, if_neg (by omega)]
theorem nextC_some {n : Nat} {p : Nat → Int} {i : Nat} {port : Int} {k : Nat} (h : nextC n p i port = some k) : k < n ∧ p k = port := by
  rcases hop_cases n p i port n with hm | ⟨t, ht, he, hm⟩
  · rw [nextC_miss hm] at h; cases h
  · rw [nextC_hit ht he hm] at h
    have e : (i + t) % n = k := by injection h
    subst e
    exact ⟨Nat.mod_lt _ (by omega), he⟩
/-- Whether there is a call at a port does not hang on where the search begins. -/
theorem nextC_none_iff {n : Nat} {p : Nat → Int} {i : Nat} {port : Int} (hi : i < n) : nextC n p i port = none ↔ ∀ k, k < n → p k ≠ port := by
  constructor
  · intro h k hk e
    rcases hop_cases n p i port n with hm | ⟨t, ht, he, hm⟩
    · by_cases hik : i ≤ k
      · refine hm (k - i) (by omega) ?_
        rw [show i + (k - i) = k by omega, Nat.mod_eq_of_lt hk]; exact e
      · refine hm (n - i + k) (by omega) ?_
        rw [show i + (n - i + k) = k + n by omega, Nat.add_mod_right, Nat.mod_eq_of_lt hk]; exact e
    · rw [nextC_hit ht he hm] at h; cases h
  · intro h
    exact nextC_miss fun t _ => h _ (Nat.mod_lt _ (by omega))
theorem nextC_none_any {n : Nat} {p : Nat → Int} {i j : Nat} {port : Int} (hi : i < n) (hj : j < n) (h : nextC n p i port = none) : nextC n p j port = none :=
  (nextC_none_iff hj).2 ((nextC_none_iff hi).1 h)
end Go.Proofs.YtefkcdhmiepbfaaDoor.R
