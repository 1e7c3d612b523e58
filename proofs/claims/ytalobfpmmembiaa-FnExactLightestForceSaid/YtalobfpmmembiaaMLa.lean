/-
  Plain mathematics of LightestForce: all orders of a list, the lightest one, the first of equal ones. No statement of the seat by itself.
-/
import Derived.Test.YtalobfpmmembiaaZN
namespace Go.Proofs.Ytalobfpmmembiaa

/-- Whether a list of weights is valid, with at most m of them. -/
def okW (x : Int) : Bool := decide (1 ≤ x ∧ x ≤ 32000)
theorem okW_iff {x : Int} : okW x = true ↔ 1 ≤ x ∧ x ≤ 32000 := by simp [okW]
def goodW (l : List Int) (m : Nat) : Bool := decide (l.length ≤ m) && l.all okW
theorem goodW_iff {l : List Int} {m : Nat} : goodW l m = true ↔ l.length ≤ m ∧ ∀ x ∈ l, 1 ≤ x ∧ x ≤ 32000 := by simp [goodW, okW]
theorem goodW_not {l : List Int} {m : Nat} (h : ¬ (l.length ≤ m ∧ ∀ x ∈ l, 1 ≤ x ∧ x ≤ 32000)) : goodW l m = false := by
  cases e : goodW l m with
  | false => rfl
  | true => exact absurd (goodW_iff.1 e) h
theorem goodW_at {l : List Int} {m k : Nat} {x : Int} (h : l[k]? = some x) (hx : ¬ (1 ≤ x ∧ x ≤ 32000)) : goodW l m = false :=
  goodW_not fun g => hx (g.2 x (List.mem_of_getElem? h))
theorem goodW_long {l : List Int} {m : Nat} (h : m < l.length) : goodW l m = false := goodW_not fun g => by omega
theorem goodW_len {l : List Int} {m : Nat} (h : goodW l m = true) : l.length ≤ m := (goodW_iff.1 h).1
theorem goodW_get {l : List Int} {m k : Nat} {x : Int} (h : goodW l m = true) (hx : l[k]? = some x) : 1 ≤ x ∧ x ≤ 32000 := (goodW_iff.1 h).2 x (List.mem_of_getElem? hx)
/-- The choice of the valid places. -/
def wAt (l : List Int) (i : Nat) : Bool := okW (l.getD i 0)
theorem wAt_get {l : List Int} {k : Nat} {x : Int} (h : l[k]? = some x) : wAt l k = okW x := by simp [wAt, List.getD, h]
theorem goodW_nums {l : List Int} {m : Nat} (h : l.length ≤ m) : goodW l m = decide ((numsW (wAt l) l.length).length = l.length) := by
  cases e : goodW l m with
  | true =>
    symm
    rw [decide_eq_true_iff, numsW_all]
    intro i hi
    obtain ⟨x, hx⟩ : ∃ x, l[i]? = some x := ⟨_, List.getElem?_eq_getElem hi⟩
    rw [wAt_get hx, okW_iff]
    exact goodW_get e hx
  | false =>
    symm
    rw [decide_eq_false_iff_not, numsW_all]
    intro ha
    rw [goodW_iff.2 ⟨h, fun x hx => by
      obtain ⟨i, hi⟩ := List.getElem?_of_mem hx
      have hl : i < l.length := by rcases Nat.lt_or_ge i l.length with q | q; exact q; rw [List.getElem?_eq_none q] at hi; cases hi
      rw [← okW_iff, ← wAt_get hi]
      exact ha i hl⟩] at e
    cases e

/-- The rules. -/
def okX (a b c : Int) : Bool := decide ((1 ≤ a ∧ a ≤ 200000) ∧ (0 ≤ b ∧ b ≤ 100) ∧ 1 ≤ c ∧ c ≤ 100000)
theorem okX_iff {a b c : Int} : okX a b c = true ↔ (1 ≤ a ∧ a ≤ 200000) ∧ (0 ≤ b ∧ b ≤ 100) ∧ 1 ≤ c ∧ c ≤ 100000 := by simp [okX]
theorem okX_not {a b c : Int} (h : ¬ ((1 ≤ a ∧ a ≤ 200000) ∧ (0 ≤ b ∧ b ≤ 100) ∧ 1 ≤ c ∧ c ≤ 100000)) : okX a b c = false := by simp [okX]; omega
/-- A valid column under valid rules. -/
def goodC (l : List Int) (a b c : Int) : Bool := goodW l 4 && okX a b c

/-- Sums. -/
theorem sum_take {l : List Int} {k : Nat} {x : Int} (h : l[k]? = some x) : (l.take (k + 1)).sum = (l.take k).sum + x := by
  rw [List.take_add_one, h]
  simp
theorem sum_bound (M : Int) : ∀ (l : List Int), (∀ x ∈ l, 0 ≤ x ∧ x ≤ M) → 0 ≤ l.sum ∧ l.sum ≤ l.length * M
  | [], _ => by simp
  | x :: l, h => by
    obtain ⟨a, b⟩ := sum_bound M l fun y hy => h y (List.mem_cons_of_mem _ hy)
    obtain ⟨c, d⟩ := h x List.mem_cons_self
    rw [List.sum_cons, List.length_cons]
    have e2 : ((l.length + 1 : Nat) : Int) * M = (l.length : Int) * M + M := by push_cast; rw [Int.add_mul]; omega
    omega
theorem sum_small (M : Int) (N : Nat) (l : List Int) (hN : l.length ≤ N) (hM : 0 ≤ M) (h : ∀ x ∈ l, 0 ≤ x ∧ x ≤ M) : 0 ≤ l.sum ∧ l.sum ≤ N * M := by
  obtain ⟨a, b⟩ := sum_bound M l h
  have : (l.length : Int) * M ≤ N * M := Int.mul_le_mul_of_nonneg_right (by omega) hM
  omega
theorem drop_sum {l : List Int} {k : Nat} : (l.drop k).sum = l.sum - (l.take k).sum := by
  have := congrArg List.sum (List.take_append_drop k l)
  rw [List.sum_append] at this
  omega

/-- The force at a foot below a sum of weights. -/
def frc (t s : Int) : Int := (t * s + 99) / 100
theorem frc_zero (t : Int) : frc t 0 = 0 := by simp [frc]
theorem frc_bound {t s S : Int} (h0 : 0 ≤ t) (h1 : t ≤ 100) (h2 : 0 ≤ s) (h3 : s ≤ S) : 0 ≤ frc t s ∧ frc t s ≤ S ∧ 0 ≤ t * s ∧ t * s ≤ 100 * S := by
  have p : 0 ≤ t * s := Int.mul_nonneg h0 h2
  have q1 : t * s ≤ t * S := Int.mul_le_mul_of_nonneg_left h3 h0
  have q2 : t * S ≤ 100 * S := Int.mul_le_mul_of_nonneg_right h1 (by omega)
  unfold frc
  omega
/-- The forces at the feet of the first k. -/
def frcs (t : Int) (l : List Int) : Nat → List Int
  | 0 => []
  | k + 1 => frcs t l k ++ [frc t (l.drop k).sum]
theorem frcs_len (t : Int) (l : List Int) : ∀ k, (frcs t l k).length = k
  | 0 => rfl
  | k + 1 => by rw [frcs, List.length_append, frcs_len t l k]; rfl
theorem frcs_get (t : Int) (l : List Int) : ∀ (n k : Nat), k < n → (frcs t l n)[k]? = some (frc t (l.drop k).sum)
  | n + 1, k, h => by
    rw [frcs]
    by_cases e : k < n
    · rw [List.getElem?_append_left (by rw [frcs_len]; exact e)]
      exact frcs_get t l n k e
    · obtain rfl : k = n := by omega
      rw [List.getElem?_append_right (by rw [frcs_len]; omega), frcs_len, Nat.sub_self]
      rfl
/-- The lashings for a force. -/
def lsh (st f : Int) : Int := (f + st - 1) / st
theorem lsh_mono {st f g : Int} (h : 1 ≤ st) (hf : f ≤ g) : lsh st f ≤ lsh st g := Int.ediv_le_ediv (by omega) (by omega)
theorem lsh_bound {st f : Int} (h1 : 1 ≤ st) (h2 : 0 ≤ f) : 0 ≤ lsh st f ∧ lsh st f ≤ f := by
  unfold lsh
  refine ⟨Int.ediv_nonneg (by omega) (by omega), ?_⟩
  by_cases h0 : f = 0
  · subst h0
    rw [Int.ediv_eq_zero_of_lt (by omega) (by omega)]
    omega
  · have : (f + st - 1) / st < f + 1 := by
      rw [Int.ediv_lt_iff_lt_mul (by omega)]
      have e : (f + 1) * st = f * st + st := by rw [Int.add_mul]; omega
      have : f * 1 ≤ f * st := Int.mul_le_mul_of_nonneg_left h1 h2
      omega
    omega
/-- The lashings of the first k forces. -/
def lshs (st : Int) (F : List Int) (k : Nat) : List Int := (F.take k).map (lsh st)
theorem lshs_len (st : Int) {F : List Int} {k : Nat} (h : k ≤ F.length) : (lshs st F k).length = k := by simp [lshs]; omega
theorem lshs_next {st : Int} {F : List Int} {k : Nat} {f : Int} (h : F[k]? = some f) : lshs st F (k + 1) = lshs st F k ++ [lsh st f] := by
  unfold lshs
  rw [List.take_add_one, h]
  simp
/-- Whether no foot needs more than four. -/
def few (st : Int) (F : List Int) : Bool := F.all fun f => decide (lsh st f ≤ 4)
theorem few_at {st : Int} {F : List Int} {k : Nat} {f : Int} (h : F[k]? = some f) (hf : ¬ lsh st f ≤ 4) : few st F = false := by
  cases e : few st F with
  | false => rfl
  | true =>
    unfold few at e
    rw [List.all_eq_true] at e
    exact absurd (of_decide_eq_true (e f (List.mem_of_getElem? h))) hf
theorem few_all {st : Int} {F : List Int} (h : ∀ (k : Nat) (f : Int), F[k]? = some f → lsh st f ≤ 4) : few st F = true := by
  unfold few
  rw [List.all_eq_true]
  intro f hf
  obtain ⟨k, hk⟩ := List.getElem?_of_mem hf
  exact decide_eq_true (h k f hk)
/-- What LashForces answers. -/
def foL (l : List Int) (a b c : Int) : List Int := if goodC l a b c = true then frcs b l l.length else []
/-- What LashingsNeeded answers. -/
def neB (l : List Int) (a b c : Int) : Bool := goodC l a b c && few c (frcs b l l.length)
def neL (l : List Int) (a b c : Int) : List Int := if neB l a b c = true then lshs c (frcs b l l.length) l.length else []
theorem foL_len (l : List Int) (a b c : Int) : (foL l a b c).length ≤ 4 := by
  unfold foL
  split
  · rename_i h
    rw [frcs_len]
    exact goodW_len (by simp [goodC] at h; exact h.1)
  · simp
theorem neL_len (l : List Int) (a b c : Int) : (neL l a b c).length ≤ 4 := by
  unfold neL
  split
  · rename_i h
    simp [neB, goodC] at h
    rw [lshs_len _ (by rw [frcs_len]; omega)]
    exact goodW_len h.1.1
  · simp
/-- What ColumnWeight answers. -/
def cwS (l : List Int) (a b c : Int) : Int := if goodC l a b c = true then l.sum else 0
def cwB (l : List Int) (a b c : Int) : Bool := goodC l a b c && decide (l.sum ≤ a)
/-- What AddOnTop answers. -/
def adB (l : List Int) (x a b c : Int) : Bool := neB (l ++ [x]) a b c && decide ((l ++ [x]).sum ≤ a)
def adL (l : List Int) (x a b c : Int) : List Int := if adB l x a b c = true then l ++ [x] else []
theorem adB_good {l : List Int} {x a b c : Int} (h : adB l x a b c = true) : goodC l a b c = true ∧ goodC (l ++ [x]) a b c = true := by
  simp only [adB, neB, Bool.and_eq_true] at h
  refine ⟨?_, h.1.1⟩
  have g := h.1.1
  simp only [goodC, Bool.and_eq_true] at g ⊢
  refine ⟨goodW_iff.2 ?_, g.2⟩
  obtain ⟨g1, g2⟩ := goodW_iff.1 g.1
  rw [List.length_append, List.length_singleton] at g1
  exact ⟨by omega, fun y hy => g2 y (List.mem_append_left _ hy)⟩
theorem adL_len (l : List Int) (x a b c : Int) : (adL l x a b c).length ≤ 4 := by
  unfold adL
  split
  · rename_i h
    have := (adB_good h).2
    simp only [goodC, Bool.and_eq_true] at this
    exact goodW_len this.1
  · simp

/-- Whether a list comes before another one of the same length. -/
def bef : List Int → List Int → Bool
  | x :: a, y :: b => if x = y then bef a b else decide (x < y)
  | _, _ => false
theorem bef_self : ∀ a, bef a a = false
  | [] => rfl
  | x :: a => by rw [bef, if_pos rfl]; exact bef_self a
theorem bef_trans : ∀ {a b c : List Int}, bef a b = true → bef b c = true → bef a c = true
  | [], _, _, h, _ => by simp [bef] at h
  | _ :: _, [], _, h, _ => by simp [bef] at h
  | _ :: _, _ :: _, [], _, h => by simp [bef] at h
  | x :: a, y :: b, z :: c, h1, h2 => by
    rw [bef] at h1 h2 ⊢
    by_cases e1 : x = y
    · subst e1
      rw [if_pos rfl] at h1
      by_cases e2 : x = z
      · rw [if_pos e2] at h2 ⊢
        exact bef_trans h1 h2
      · rw [if_neg e2] at h2 ⊢
        exact h2
    · rw [if_neg e1] at h1
      have l1 := of_decide_eq_true h1
      by_cases e2 : y = z
      · subst e2
        rw [if_neg e1]
        exact h1
      · rw [if_neg e2] at h2
        have l2 := of_decide_eq_true h2
        rw [if_neg (by omega)]
        exact decide_eq_true (by omega)
theorem bef_total : ∀ {a b : List Int}, a.length = b.length → bef a b = false → bef b a = false → a = b
  | [], [], _, _, _ => rfl
  | [], _ :: _, h, _, _ => by simp at h
  | _ :: _, [], h, _, _ => by simp at h
  | x :: a, y :: b, h, h1, h2 => by
    rw [bef] at h1 h2
    by_cases e : x = y
    · subst e
      rw [if_pos rfl] at h1 h2
      rw [bef_total (by simpa using h) h1 h2]
    · rw [if_neg e] at h1
      rw [if_neg fun q => e q.symm] at h2
      have := of_decide_eq_false h1
      have := of_decide_eq_false h2
      omega
theorem bef_cons (x : Int) (a b : List Int) : bef (x :: a) (x :: b) = bef a b := by rw [bef, if_pos rfl]

/-- B is the best of L: a member, none is lighter, and none that is as light comes before it. -/
def BestOf (f : List Int → Int) (L : List (List Int)) (B : List Int) : Prop := B ∈ L ∧ ∀ P ∈ L, f B < f P ∨ (f B = f P ∧ bef P B = false)
theorem best_one {f : List Int → Int} {L M : List (List Int)} {A B : List Int} (hA : BestOf f L A) (hB : BestOf f M B) (h1 : ∀ P, P ∈ L ↔ P ∈ M) (hl : A.length = B.length) : A = B := by
  rcases hA.2 B ((h1 B).2 hB.1) with p | ⟨p1, p2⟩
  · rcases hB.2 A ((h1 A).1 hA.1) with q | ⟨q1, _⟩ <;> omega
  · rcases hB.2 A ((h1 A).1 hA.1) with q | ⟨q1, q2⟩
    · omega
    · exact bef_total hl q2 p2

/-- The reference's step. -/
def stS (f : List Int → Int) (s : List Int × Int) (P : List Int) : List Int × Int := if (s.2 < 0 ∨ f P < s.2) ∨ (f P = s.2 ∧ bef P s.1 = true) then (P, f P) else s
/-- The program's step. -/
def stI (f : List Int → Int) (s : List Int × Int) (P : List Int) : List Int × Int := if f P < s.2 then (P, f P) else s
theorem stS_best (f : List Int → Int) : ∀ (M L : List (List Int)) (B : List Int), (∀ P ∈ L ++ M, 0 ≤ f P) → BestOf f L B → ∃ C, M.foldl (stS f) (B, f B) = (C, f C) ∧ BestOf f (L ++ M) C
  | [], L, B, _, h => ⟨B, rfl, by simpa using h⟩
  | P :: M, L, B, hf, h => by
    have key : ∃ C, stS f (B, f B) P = (C, f C) ∧ BestOf f (L ++ [P]) C := by
      have h0 := hf B (List.mem_append_left _ h.1)
      unfold stS
      by_cases c : (f B < 0 ∨ f P < f B) ∨ (f P = f B ∧ bef P B = true)
      · refine ⟨P, by rw [if_pos c], by simp, fun Q hQ => ?_⟩
        rcases List.mem_append.1 hQ with hQ | hQ
        · rcases h.2 Q hQ with p | ⟨p1, p2⟩
          · rcases c with (c | c) | c
            · omega
            · exact .inl (by omega)
            · exact .inl (by omega)
          · rcases c with (c | c) | c
            · omega
            · exact .inl (by omega)
            · refine .inr ⟨by omega, ?_⟩
              cases e : bef Q P with
              | false => rfl
              | true => rw [bef_trans e c.2] at p2; cases p2
        · rw [List.mem_singleton] at hQ
          subst hQ
          exact .inr ⟨rfl, bef_self _⟩
      · refine ⟨B, by rw [if_neg c], List.mem_append_left _ h.1, fun Q hQ => ?_⟩
        rcases List.mem_append.1 hQ with hQ | hQ
        · exact h.2 Q hQ
        · rw [List.mem_singleton] at hQ
          subst hQ
          have c1 : ¬ f Q < f B := fun q => c (.inl (.inr q))
          by_cases e : f B = f Q
          · refine .inr ⟨e, ?_⟩
            cases e2 : bef Q B with
            | false => rfl
            | true => exact absurd (.inr ⟨e.symm, e2⟩) c
          · exact .inl (by omega)
    obtain ⟨C, e, hC⟩ := key
    obtain ⟨D, e2, hD⟩ := stS_best f M (L ++ [P]) C (by simpa using hf) hC
    exact ⟨D, by rw [List.foldl_cons, e]; exact e2, by simpa using hD⟩
theorem foldS (f : List Int → Int) (L : List (List Int)) (h : L ≠ []) (hf : ∀ P ∈ L, 0 ≤ f P) : ∃ C, L.foldl (stS f) ([], -1) = (C, f C) ∧ BestOf f L C := by
  match L, h, hf with
  | P :: M, _, hf =>
    have e : stS f ([], -1) P = (P, f P) := by unfold stS; rw [if_pos (.inl (.inl (by simp)))]
    obtain ⟨C, e2, hC⟩ := stS_best f M [P] P (by simpa using hf) ⟨by simp, fun Q hQ => by rw [List.mem_singleton] at hQ; subst hQ; exact .inr ⟨rfl, bef_self _⟩⟩
    exact ⟨C, by rw [List.foldl_cons, e]; exact e2, by simpa using hC⟩

/-- Whatever comes before an earlier one was there earlier still. -/
def Firsts (L : List (List Int)) : Prop := ∀ (i j : Nat) (a b : List Int), i < j → L[i]? = some a → L[j]? = some b → bef b a = true → ∃ k, k < i ∧ L[k]? = some b
/-- The first of the lightest ones. -/
theorem stI_first (f : List Int → Int) : ∀ (M L : List (List Int)) (B : List Int) (i : Nat), L[i]? = some B → (∀ (j : Nat) (P : List Int), j < i → L[j]? = some P → f B < f P) → (∀ P ∈ L, f B ≤ f P) →
    ∃ (C : List Int) (k : Nat), M.foldl (stI f) (B, f B) = (C, f C) ∧ (L ++ M)[k]? = some C ∧ (∀ (j : Nat) (P : List Int), j < k → (L ++ M)[j]? = some P → f C < f P) ∧ ∀ P ∈ L ++ M, f C ≤ f P
  | [], L, B, i, h1, h2, h3 => ⟨B, i, rfl, by simpa using h1, by simpa using h2, by simpa using h3⟩
  | P :: M, L, B, i, h1, h2, h3 => by
    rw [show L ++ P :: M = (L ++ [P]) ++ M by simp, List.foldl_cons]
    have lt_i : i < L.length := by rcases Nat.lt_or_ge i L.length with h | h; exact h; rw [List.getElem?_eq_none h] at h1; cases h1
    by_cases c : f P < f B
    · have e : stI f (B, f B) P = (P, f P) := by unfold stI; rw [if_pos c]
      rw [e]
      refine stI_first f M (L ++ [P]) P L.length (by simp) (fun j Q hj hQ => ?_) fun Q hQ => ?_
      · rw [List.getElem?_append_left hj] at hQ
        have := h3 Q (List.mem_of_getElem? hQ)
        omega
      · rcases List.mem_append.1 hQ with q | q
        · have := h3 Q q; omega
        · rw [List.mem_singleton] at q; subst q; omega
    · have e : stI f (B, f B) P = (B, f B) := by unfold stI; rw [if_neg c]
      rw [e]
      refine stI_first f M (L ++ [P]) B i (by rw [List.getElem?_append_left lt_i]; exact h1) (fun j Q hj hQ => ?_) fun Q hQ => ?_
      · rw [List.getElem?_append_left (by omega)] at hQ
        exact h2 j Q hj hQ
      · rcases List.mem_append.1 hQ with q | q
        · exact h3 Q q
        · rw [List.mem_singleton] at q; subst q; omega
theorem foldI (f : List Int → Int) (top : Int) (L : List (List Int)) (h : L ≠ []) (ht : ∀ P ∈ L, f P < top) (hL : Firsts L) (B0 : List Int) : ∃ C, L.foldl (stI f) (B0, top) = (C, f C) ∧ BestOf f L C := by
  match L, h with
  | P :: M, _ =>
    have e : stI f (B0, top) P = (P, f P) := by unfold stI; rw [if_pos (ht P (by simp))]
    obtain ⟨C, k, e2, h1, h2, h3⟩ := stI_first f M [P] P 0 rfl (fun j Q hj => by omega) (fun Q hQ => by rw [List.mem_singleton] at hQ; subst hQ; omega)
    refine ⟨C, by rw [List.foldl_cons, e]; exact e2, List.mem_of_getElem? h1, fun Q hQ => ?_⟩
    have hq := h3 Q hQ
    by_cases eq : f C = f Q
    · refine .inr ⟨eq, ?_⟩
      cases eb : bef Q C with
      | false => rfl
      | true =>
        obtain ⟨j, hj⟩ := List.getElem?_of_mem hQ
        rcases Nat.lt_trichotomy j k with q | q | q
        · have := h2 j Q q hj; omega
        · subst q
          rw [show ([P] ++ M) = P :: M from rfl] at h1
          rw [h1] at hj
          cases hj
          rw [bef_self] at eb
          cases eb
        · obtain ⟨i, hi, hiq⟩ := hL k j C Q q h1 hj eb
          have := h2 i Q hi hiq
          omega
    · exact .inl (by omega)

theorem erase_perm : ∀ (R : List Int) (i : Nat) (h : i < R.length), (R[i] :: R.eraseIdx i).Perm R
  | [], i, h => by simp at h
  | x :: R, 0, h => by simp
  | x :: R, i + 1, h => by
    have ih := erase_perm R i (by simpa using h)
    simp only [List.getElem_cons_succ, List.eraseIdx_cons_succ]
    exact (List.Perm.swap _ _ _).trans (ih.cons x)
/-- The orders that the program visits. -/
def eoN : Nat → List Int → List (List Int)
  | 0, _ => [[]]
  | n + 1, R => (List.range R.length).flatMap fun i => (eoN n (R.eraseIdx i)).map fun P => R.getD i 0 :: P
theorem eoN_mem : ∀ (n : Nat) (R P : List Int), R.length = n → (P ∈ eoN n R ↔ P.Perm R)
  | 0, R, P, h => by
    have e : R = [] := List.eq_nil_of_length_eq_zero h
    subst e
    simp [eoN]
  | n + 1, R, P, h => by
    rw [eoN, List.mem_flatMap]
    constructor
    · rintro ⟨i, hi, hP⟩
      rw [List.mem_range] at hi
      obtain ⟨Q, hQ, rfl⟩ := List.mem_map.1 hP
      have h2 := (eoN_mem n (R.eraseIdx i) Q (by rw [List.length_eraseIdx, if_pos hi]; omega)).1 hQ
      rw [show R.getD i 0 = R[i] by simp [List.getD, List.getElem?_eq_getElem hi]]
      exact (h2.cons R[i]).trans (erase_perm R i hi)
    · intro hP
      match P, hP with
      | [], hP => have := hP.length_eq; simp at this; omega
      | x :: Q, hP =>
        have hx : x ∈ R := hP.subset (List.mem_cons_self)
        obtain ⟨i, hi⟩ := List.getElem?_of_mem hx
        have hil : i < R.length := by rcases Nat.lt_or_ge i R.length with q | q; exact q; rw [List.getElem?_eq_none q] at hi; cases hi
        have hxi : R[i] = x := by rw [List.getElem?_eq_getElem hil] at hi; exact Option.some.inj hi
        refine ⟨i, List.mem_range.2 hil, List.mem_map.2 ⟨Q, ?_, by rw [show R.getD i 0 = R[i] by simp [List.getD, List.getElem?_eq_getElem hil], hxi]⟩⟩
        refine (eoN_mem n (R.eraseIdx i) Q (by rw [List.length_eraseIdx, if_pos hil]; omega)).2 ?_
        have := hP.trans (erase_perm R i hil).symm
        rw [hxi] at this
        exact (List.perm_cons x).1 this
theorem eoN_ne (n : Nat) (R : List Int) (h : R.length = n) : eoN n R ≠ [] := fun e => by
  have := (eoN_mem n R R h).2 (List.Perm.refl _)
  rw [e] at this
  cases this
theorem firsts_map {L : List (List Int)} (x : Int) (h : Firsts L) : Firsts (L.map fun P => x :: P) := by
  intro i j a b hij ha hb hba
  rw [List.getElem?_map] at ha hb
  cases e1 : L[i]? with
  | none => rw [e1] at ha; cases ha
  | some a' =>
    cases e2 : L[j]? with
    | none => rw [e2] at hb; cases hb
    | some b' =>
      rw [e1] at ha
      rw [e2] at hb
      cases ha; cases hb
      rw [bef_cons] at hba
      obtain ⟨k, hk, hkb⟩ := h i j a' b' hij e1 e2 hba
      exact ⟨k, hk, by rw [List.getElem?_map, hkb]; rfl⟩
/-- The first blocks of a list of blocks. -/
def blks (g : Nat → List (List Int)) (j : Nat) : List (List Int) := (List.range j).flatMap g
theorem blks_succ (g : Nat → List (List Int)) (j : Nat) : blks g (j + 1) = blks g j ++ g j := by simp [blks, List.range_succ, List.flatMap_append]
theorem firsts_blks (g : Nat → List (List Int)) (n : Nat) (hg : ∀ i, i < n → Firsts (g i)) (hx : ∀ i j, i < j → j < n → g i = g j ∨ ∀ a ∈ g i, ∀ b ∈ g j, bef b a = false) :
    ∀ j, j ≤ n → Firsts (blks g j) ∧ ∀ q, j ≤ q → q < n → ∀ (i : Nat) (a b : List Int), (blks g j)[i]? = some a → b ∈ g q → bef b a = true → ∃ k, k < i ∧ (blks g j)[k]? = some b
  | 0, _ => ⟨fun i j a b _ h => by simp [blks] at h, fun q _ _ i a b h => by simp [blks] at h⟩
  | j + 1, hj => by
    obtain ⟨h1, h2⟩ := firsts_blks g n hg hx j (by omega)
    have hgj := hg j (by omega)
    rw [blks_succ]
    generalize hA : blks g j = A at *
    have low : ∀ {k : Nat} {c : List Int}, A[k]? = some c → (A ++ g j)[k]? = some c := fun {k c} h => by
      have : k < A.length := by rcases Nat.lt_or_ge k A.length with q | q; exact q; rw [List.getElem?_eq_none q] at h; cases h
      rw [List.getElem?_append_left this]; exact h
    have inner : ∀ (p r : Nat) (a b : List Int), (g j)[p]? = some a → (g j)[r]? = some b → bef b a = true → ∃ k, k < A.length + p ∧ (A ++ g j)[k]? = some b := fun p r a b hp hr hb => by
      rcases Nat.lt_trichotomy r p with q | q | q
      · exact ⟨A.length + r, by omega, by rw [List.getElem?_append_right (by omega)]; simpa using hr⟩
      · subst q; rw [hp] at hr; cases hr; rw [bef_self] at hb; cases hb
      · obtain ⟨k, hk, hkb⟩ := hgj p r a b q hp hr hb
        exact ⟨A.length + k, by omega, by rw [List.getElem?_append_right (by omega)]; simpa using hkb⟩
    constructor
    · intro p r a b hpr ha hb hba
      by_cases hr : r < A.length
      · rw [List.getElem?_append_left hr] at hb
        rw [List.getElem?_append_left (by omega)] at ha
        obtain ⟨k, hk, hkb⟩ := h1 p r a b hpr ha hb hba
        exact ⟨k, hk, low hkb⟩
      · rw [List.getElem?_append_right (by omega)] at hb
        by_cases hp : p < A.length
        · rw [List.getElem?_append_left hp] at ha
          obtain ⟨k, hk, hkb⟩ := h2 j (Nat.le_refl _) (by omega) p a b ha (List.mem_of_getElem? hb) hba
          exact ⟨k, hk, low hkb⟩
        · rw [List.getElem?_append_right (by omega)] at ha
          obtain ⟨k, hk, hkb⟩ := inner _ _ a b ha hb hba
          exact ⟨k, by omega, hkb⟩
    · intro q hq1 hq2 p a b ha hb hba
      by_cases hp : p < A.length
      · rw [List.getElem?_append_left hp] at ha
        obtain ⟨k, hk, hkb⟩ := h2 q (by omega) hq2 p a b ha hb hba
        exact ⟨k, hk, low hkb⟩
      · rw [List.getElem?_append_right (by omega)] at ha
        rcases hx j q (by omega) hq2 with e | e
        · rw [← e] at hb
          obtain ⟨r, hr⟩ := List.getElem?_of_mem hb
          obtain ⟨k, hk, hkb⟩ := inner _ _ a b ha hr hba
          exact ⟨k, by omega, hkb⟩
        · rw [e a (List.mem_of_getElem? ha) b hb] at hba
          cases hba
/-- In an ascending list two equal places leave the same rest. -/
theorem erase_same {R : List Int} (h : R.Pairwise fun a b : Int => a ≤ b) {i j : Nat} (hij : i < j) (hj : j < R.length) (he : R[i]'(by omega) = R[j]) : R.eraseIdx i = R.eraseIdx j := by
  apply List.ext_getElem?
  intro k
  rw [List.getElem?_eraseIdx, List.getElem?_eraseIdx]
  by_cases h1 : k < i
  · rw [if_pos h1, if_pos (by omega)]
  · rw [if_neg h1]
    by_cases h2 : k < j
    · rw [if_pos h2, List.getElem?_eq_getElem (by omega), List.getElem?_eq_getElem (by omega)]
      have a1 := fun (p q : Nat) (hp : p < R.length) (hq : q < R.length) (hpq : p < q) => (List.pairwise_iff_getElem.1 h) p q hp hq hpq
      have b1 : R[i]'(by omega) ≤ R[k]'(by omega) := by
        by_cases e : i = k
        · subst e; omega
        · exact a1 i k (by omega) (by omega) (by omega)
      have b2 : R[k]'(by omega) ≤ R[k + 1]'(by omega) := a1 k (k + 1) (by omega) (by omega) (by omega)
      have b3 : R[k + 1]'(by omega) ≤ R[j] := by
        by_cases e : k + 1 = j
        · subst e; omega
        · exact a1 (k + 1) j (by omega) hj (by omega)
      congr 1
      omega
    · rw [if_neg h2]
theorem eoN_firsts : ∀ (n : Nat) (R : List Int), R.length = n → (R.Pairwise fun a b : Int => a ≤ b) → Firsts (eoN n R)
  | 0, R, _, _ => fun i j a b hij ha hb => by
    have : j = 0 := by
      rcases Nat.eq_zero_or_pos j with h | h
      · exact h
      · rw [eoN, List.getElem?_eq_none (by simp; omega)] at hb; cases hb
    omega
  | n + 1, R, h, hp => by
    have := (firsts_blks (fun i => (eoN n (R.eraseIdx i)).map fun P => R.getD i 0 :: P) R.length (fun i hi => firsts_map _ (eoN_firsts n _ (by rw [List.length_eraseIdx, if_pos hi]; omega) (hp.sublist (List.eraseIdx_sublist _ _)))) (fun i j hij hj => by
      have ei : R.getD i 0 = R[i]'(by omega) := by simp [List.getD, List.getElem?_eq_getElem (show i < R.length by omega)]
      have ej : R.getD j 0 = R[j] := by simp [List.getD, List.getElem?_eq_getElem hj]
      have hle := (List.pairwise_iff_getElem.1 hp) i j (by omega) hj hij
      by_cases e : R[i]'(by omega) = R[j]
      · exact .inl (by simp only [ei, ej, e, erase_same hp hij hj e])
      · refine .inr fun a ha b hb => ?_
        obtain ⟨a', _, rfl⟩ := List.mem_map.1 ha
        obtain ⟨b', _, rfl⟩ := List.mem_map.1 hb
        rw [bef, ei, ej, if_neg fun q => e q.symm]
        exact decide_eq_false (by omega)) R.length (Nat.le_refl _)).1
    exact this

/-- The weights that are not used. -/
def unu : List Int → List Bool → List Int
  | x :: l, u :: U => if u = true then unu l U else x :: unu l U
  | _, _ => []
theorem unu_none : ∀ (l : List Int), unu l (List.replicate l.length false) = l
  | [] => rfl
  | x :: l => by simp only [List.length_cons, List.replicate_succ, unu]; simp [unu_none l]
theorem unu_take : ∀ (l : List Int) (U : List Bool) (i : Nat) (x : Int), l[i]? = some x → U[i]? = some false → (unu l U).Perm (x :: unu l (U.set i true))
  | [], _, i, x, h, _ => by simp at h
  | _ :: _, [], i, x, _, h => by simp at h
  | y :: l, u :: U, 0, x, h, hu => by
    simp at h hu
    subst h hu
    simp [unu]
  | y :: l, u :: U, i + 1, x, h, hu => by
    have ih := unu_take l U i x (by simpa using h) (by simpa using hu)
    simp only [List.set_cons_succ, unu]
    by_cases e : u = true
    · rw [if_pos e, if_pos e]; exact ih
    · rw [if_neg e, if_neg e]
      exact (ih.cons y).trans (List.Perm.swap _ _ _)
theorem unu_some : ∀ (l : List Int) (U : List Bool) (x : Int), x ∈ unu l U → ∃ i : Nat, l[i]? = some x ∧ U[i]? = some false
  | [], _, x, h => by simp [unu] at h
  | _ :: _, [], x, h => by simp [unu] at h
  | y :: l, u :: U, x, h => by
    rw [unu] at h
    by_cases e : u = true
    · rw [if_pos e] at h
      obtain ⟨i, h1, h2⟩ := unu_some l U x h
      exact ⟨i + 1, by simpa using h1, by simpa using h2⟩
    · rw [if_neg e] at h
      rcases List.mem_cons.1 h with q | q
      · exact ⟨0, by simp [q], by simp [e]⟩
      · obtain ⟨i, h1, h2⟩ := unu_some l U x q
        exact ⟨i + 1, by simpa using h1, by simpa using h2⟩
/-- The orders that the reference lists: n are left. -/
def soN (l : List Int) : Nat → List Bool → List (List Int)
  | 0, _ => [[]]
  | n + 1, U => (List.range l.length).flatMap fun i => if U.getD i true = true then [] else (soN l n (U.set i true)).map fun P => l.getD i 0 :: P
theorem soN_mem (l : List Int) : ∀ (n : Nat) (U : List Bool) (P : List Int), U.length = l.length → (unu l U).length = n → (P ∈ soN l n U ↔ P.Perm (unu l U))
  | 0, U, P, _, h => by
    have e : unu l U = [] := List.eq_nil_of_length_eq_zero h
    rw [e, soN]
    simp
  | n + 1, U, P, hU, h => by
    rw [soN, List.mem_flatMap]
    have next : ∀ (i : Nat) (x : Int), l[i]? = some x → U[i]? = some false → (unu l (U.set i true)).length = n := fun i x hx hu => by
      have := (unu_take l U i x hx hu).length_eq
      rw [List.length_cons] at this
      omega
    constructor
    · rintro ⟨i, hi, hP⟩
      rw [List.mem_range] at hi
      have hiU : i < U.length := by omega
      have eU : U.getD i true = U[i] := by simp [List.getD, List.getElem?_eq_getElem hiU]
      have el : l.getD i 0 = l[i] := by simp [List.getD, List.getElem?_eq_getElem hi]
      by_cases e : U[i] = true
      · rw [eU, if_pos e] at hP; cases hP
      · rw [eU, if_neg e] at hP
        obtain ⟨Q, hQ, rfl⟩ := List.mem_map.1 hP
        have hx := List.getElem?_eq_getElem hi
        have hu : U[i]? = some false := by rw [List.getElem?_eq_getElem hiU]; simpa using e
        have h2 := (soN_mem l n (U.set i true) Q (by simpa using hU) (next i _ hx hu)).1 hQ
        rw [el]
        exact (h2.cons _).trans (unu_take l U i _ hx hu).symm
    · intro hP
      match P, hP with
      | [], hP => have := hP.length_eq; simp at this; omega
      | x :: Q, hP =>
        obtain ⟨i, hx, hu⟩ := unu_some l U x (hP.subset List.mem_cons_self)
        have hi : i < l.length := by rcases Nat.lt_or_ge i l.length with q | q; exact q; rw [List.getElem?_eq_none q] at hx; cases hx
        refine ⟨i, List.mem_range.2 hi, ?_⟩
        rw [show U.getD i true = false by simp [List.getD, hu], if_neg (by simp), show l.getD i 0 = x by simp [List.getD, hx]]
        refine List.mem_map.2 ⟨Q, (soN_mem l n (U.set i true) Q (by simpa using hU) (next i x hx hu)).2 ?_, rfl⟩
        exact (List.perm_cons x).1 (hP.trans (unu_take l U i x hx hu))

/-- The sum of the forces of an order. -/
def fsm (b : Int) (P : List Int) : Int := (frcs b P P.length).sum
/-- What LightestForce answers. -/
def liP (l : List Int) (b : Int) : List Int × Int := (soN l l.length (List.replicate l.length false)).foldl (stS (fsm b)) ([], -1)
theorem sort_asc_is {l S : List Int} (h1 : S.Perm l) : ∀ P, P ∈ eoN S.length S ↔ P ∈ soN l l.length (List.replicate l.length false) := fun P => by
  rw [eoN_mem _ _ _ rfl, soN_mem l l.length _ P (by simp) (by rw [unu_none])]
  rw [unu_none]
  exact ⟨fun h => h.trans h1, fun h => h.trans h1.symm⟩
theorem li_same (l S : List Int) (b top : Int) (h1 : S.Perm l) (h2 : S.Pairwise fun x y : Int => x ≤ y) (hf : ∀ P, P.Perm l → 0 ≤ fsm b P) (ht : ∀ P, P.Perm l → fsm b P < top) :
    (eoN S.length S).foldl (stI (fsm b)) ([], top) = liP l b ∧ (liP l b).1.Perm l ∧ (liP l b).2 = fsm b (liP l b).1 := by
  have hs := sort_asc_is h1
  obtain ⟨C, e1, hC⟩ := foldI (fsm b) top (eoN S.length S) (eoN_ne _ _ rfl) (fun P hP => ht P (((eoN_mem _ _ _ rfl).1 hP).trans h1)) (eoN_firsts _ _ rfl h2) []
  have hne : soN l l.length (List.replicate l.length false) ≠ [] := fun e => by
    have := (hs S).1 ((eoN_mem _ _ _ rfl).2 (List.Perm.refl _))
    rw [e] at this
    cases this
  obtain ⟨D, e2, hD⟩ := foldS (fsm b) (soN l l.length (List.replicate l.length false)) hne (fun P hP => hf P (((eoN_mem _ _ _ rfl).1 ((hs P).2 hP)).trans h1))
  have pC := ((eoN_mem _ _ _ rfl).1 hC.1).trans h1
  have pD := ((eoN_mem _ _ _ rfl).1 ((hs D).2 hD.1)).trans h1
  have hCD : C = D := best_one hC hD hs (pC.length_eq.trans pD.length_eq.symm)
  subst hCD
  unfold liP
  rw [e1, e2]
  exact ⟨rfl, pC, rfl⟩
end Go.Proofs.Ytalobfpmmembiaa
