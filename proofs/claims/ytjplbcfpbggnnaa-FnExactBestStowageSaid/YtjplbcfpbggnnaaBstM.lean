/-
  Plain mathematics: the best placement of arrivals. No statement of the seat by itself.
-/
import Derived.Test.YtjplbcfpbggnnaaBadS
import Derived.Test.YtjplbcfpbggnnaaPlcR
namespace Go.Proofs.Ytjplbcfpbggnnaa

/-- How many numbers of a yard are badly placed. -/
def badN (Y : List (List Int)) : Nat := (badYL Y Y.length).length
def cmbB (k : Nat) (acc r : Option (List Int × Nat)) : Option (List Int × Nat) := match r with
  | none => acc
  | some (p, c) => match acc with
    | none => some ((k : Int) :: p, c)
    | some (q, d) => if c < d then some ((k : Int) :: p, c) else some (q, d)
def bstK (H : Nat) (f : List (List Int) → Option (List Int × Nat)) (x : Int) (Y : List (List Int)) : Nat → Option (List Int × Nat)
  | 0 => none
  | k + 1 => if (Y.getD k []).length = H then bstK H f x Y k else cmbB k (bstK H f x Y k) (f (putY Y k x))
/-- The best placement, and how many numbers are badly placed then. -/
def bst (H : Nat) : List Int → List (List Int) → Option (List Int × Nat)
  | [] => fun Y => some ([], badN Y)
  | x :: L => fun Y => bstK H (bst H L) x Y Y.length
theorem bst_nil (H : Nat) (Y : List (List Int)) : bst H [] Y = some ([], badN Y) := rfl
theorem bst_cons (H : Nat) (x : Int) (L : List Int) (Y : List (List Int)) : bst H (x :: L) Y = bstK H (bst H L) x Y Y.length := rfl
theorem bstK_full {H : Nat} {f : List (List Int) → Option (List Int × Nat)} {x : Int} {Y : List (List Int)} {k : Nat} {l : List Int} (hl : Y[k]? = some l) (h : l.length = H) : bstK H f x Y (k + 1) = bstK H f x Y k := by
  rw [bstK, getD_of hl, if_pos h]
theorem bstK_open {H : Nat} {f : List (List Int) → Option (List Int × Nat)} {x : Int} {Y : List (List Int)} {k : Nat} {l : List Int} (hl : Y[k]? = some l) (h : ¬ l.length = H) : bstK H f x Y (k + 1) = cmbB k (bstK H f x Y k) (f (putY Y k x)) := by
  rw [bstK, getD_of hl, if_neg h]

theorem badL_front {l : List Int} {x : Int} : ∀ k, k ≤ l.length → badL (l ++ [x]) k = badL l k
  | 0, _ => rfl
  | k + 1, h => by
    have e1 : (l ++ [x]).getD k 0 = l.getD k 0 := by rw [List.getD, List.getD, List.getElem?_append_left (by omega)]
    have e2 : (l ++ [x]).take k = l.take k := List.take_append_of_le_length (by omega)
    rw [badL, badL, badL_front k (by omega), e1, e2]
theorem badL_more (l : List Int) (x : Int) : badL (l ++ [x]) (l ++ [x]).length = badL l l.length ++ (if earL l < x then [x] else []) := by
  rw [List.length_append, List.length_singleton, badL, badL_front _ (Nat.le_refl _)]
  have e1 : (l ++ [x]).getD l.length 0 = x := by rw [List.getD, List.getElem?_append_right (Nat.le_refl _)]; simp
  have e2 : (l ++ [x]).take l.length = l := by simp
  rw [e1, e2]
theorem badYL_lo {Y : List (List Int)} {s : Nat} (l' : List Int) : ∀ i, i ≤ s → badYL (Y.set s l') i = badYL Y i
  | 0, _ => rfl
  | i + 1, h => by
    have e : (Y.set s l').getD i [] = Y.getD i [] := by rw [List.getD, List.getD, List.getElem?_set_ne (by omega)]
    rw [badYL, badYL, badYL_lo l' i (by omega), e]
theorem badYL_hi {Y : List (List Int)} {s : Nat} {l : List Int} {x : Int} (hl : Y[s]? = some l) : ∀ i, s < i → (badYL (Y.set s (l ++ [x])) i).length = (badYL Y i).length + (if earL l < x then 1 else 0)
  | 0, h => by omega
  | i + 1, h => by
    by_cases e : i = s
    · subst e
      have e1 : (Y.set i (l ++ [x])).getD i [] = l ++ [x] := by rw [List.getD, List.getElem?_set_self (lt_of_get hl)]; rfl
      rw [badYL, badYL, badYL_lo _ i (Nat.le_refl _), e1, getD_of hl, badL_more]
      simp only [List.length_append]
      split <;> simp <;> omega
    · have e1 : (Y.set s (l ++ [x])).getD i [] = Y.getD i [] := by rw [List.getD, List.getD, List.getElem?_set_ne (by omega)]
      rw [badYL, badYL, List.length_append, List.length_append, badYL_hi hl i (by omega), e1]
      omega
theorem badN_put {Y : List (List Int)} {s : Nat} {l : List Int} {x : Int} (hl : Y[s]? = some l) : badN (putY Y s x) = badN Y + (if earL l < x then 1 else 0) := by
  unfold badN
  rw [putY_len, putY_of hl]
  exact badYL_hi hl _ (lt_of_get hl)
theorem cmbB_le {k b : Nat} {acc r : Option (List Int × Nat)} (h1 : ∀ p c, acc = some (p, c) → b ≤ c) (h2 : ∀ p c, r = some (p, c) → b ≤ c) : ∀ p c, cmbB k acc r = some (p, c) → b ≤ c := by
  intro p c h
  unfold cmbB at h
  split at h
  · exact h1 p c h
  · rename_i p' c'
    split at h
    · cases h; exact h2 p' _ rfl
    · rename_i q d
      split at h
      · cases h; exact h2 p' _ rfl
      · cases h; exact h1 _ _ rfl
/-- More arrivals make it never fewer. -/
theorem bst_le {H : Nat} : ∀ (L : List Int) (Y : List (List Int)) (p : List Int) (c : Nat), bst H L Y = some (p, c) → badN Y ≤ c
  | [], Y, p, c, h => by rw [bst_nil] at h; cases h; exact Nat.le_refl _
  | x :: L, Y, p, c, h => by
    rw [bst_cons] at h
    have key : ∀ k, k ≤ Y.length → ∀ p c, bstK H (bst H L) x Y k = some (p, c) → badN Y ≤ c := by
      intro k
      induction k with
      | zero => intro _ p c h; simp [bstK] at h
      | succ k ih =>
        intro hk p c h
        have hg : Y[k]? = some (Y[k]'(by omega)) := List.getElem?_eq_getElem (by omega)
        by_cases h4 : (Y[k]'(by omega)).length = H
        · rw [bstK_full hg h4] at h
          exact ih (by omega) p c h
        · rw [bstK_open hg h4] at h
          refine cmbB_le (ih (by omega)) (fun p' c' h' => ?_) p c h
          have := bst_le L _ p' c' h'
          rw [badN_put hg] at this
          omega
    exact key _ (Nat.le_refl _) p c h
/-- What is found with what was found before. -/
def updB (s : Option (List Int × Nat)) (P : List Int) (r : Option (List Int × Nat)) : Option (List Int × Nat) := match r with
  | none => s
  | some (p, c) => match s with
    | none => some (P ++ p, c)
    | some (q, f) => if c < f then some (P ++ p, c) else some (q, f)
theorem updB_none (s : Option (List Int × Nat)) (P : List Int) : updB s P none = s := rfl
theorem updB_cmb (s acc r : Option (List Int × Nat)) (P : List Int) (k : Nat) : updB (updB s P acc) (P ++ [(k : Int)]) r = updB s P (cmbB k acc r) := by
  cases r with
  | none => rfl
  | some pc =>
    obtain ⟨p, c⟩ := pc
    have e : P ++ [(k : Int)] ++ p = P ++ (k : Int) :: p := by simp
    cases acc with
    | none =>
      cases s with
      | none => simp only [updB, cmbB, e]
      | some zf => obtain ⟨z, f⟩ := zf; simp only [updB, cmbB, e]
    | some qd =>
      obtain ⟨q, d⟩ := qd
      cases s with
      | none =>
        simp only [updB, cmbB, e]
        split <;> rfl
      | some zf =>
        obtain ⟨z, f⟩ := zf
        simp only [updB, cmbB, e]
        by_cases h1 : d < f
        · by_cases h2 : c < d
          · have h3 : c < f := by omega
            simp only [h1, h2, h3, if_true]
          · simp only [h1, h2, if_true, if_false]
        · by_cases h2 : c < d
          · simp only [h1, h2, if_true, if_false]
          · have h3 : ¬ c < f := by omega
            simp only [h1, h2, h3, if_false]
/-- Nothing better is found from a beginning that is not better already. -/
theorem updB_prune {H : Nat} {L : List Int} {Y : List (List Int)} {P q : List Int} {f : Nat} (h : f ≤ badN Y) : updB (some (q, f)) P (bst H L Y) = some (q, f) := by
  cases hb : bst H L Y with
  | none => rfl
  | some pc =>
    obtain ⟨p, c⟩ := pc
    have := bst_le L Y p c hb
    simp only [updB]
    rw [if_neg (by omega)]
theorem updB_leaf {H : Nat} {Y : List (List Int)} {P : List Int} {s : Option (List Int × Nat)} (h : ∀ q f, s = some (q, f) → ¬ f ≤ badN Y) : updB s P (bst H [] Y) = some (P, badN Y) := by
  rw [bst_nil]
  cases s with
  | none => simp [updB]
  | some zf =>
    obtain ⟨z, f⟩ := zf
    have := h z f rfl
    simp only [updB, List.append_nil]
    rw [if_pos (by omega)]
/-- What a search answers, as the programs tell it. -/
def bstC : Option (List Int × Nat) → Int
  | none => -1
  | some (_, c) => (c : Int)
def bstP (P : List Int) : Option (List Int × Nat) → List Int
  | none => []
  | some (p, _) => P ++ p
/-- What BestPlacement answers. -/
def bpO (Y : List (List Int)) (O : List Int) : Option (List Int × Nat) := if askP Y O = true then bst 4 O Y else none
def bpR (Y : List (List Int)) (O : List Int) : List Int := bstP [] (bpO Y O)
def bpX (Y : List (List Int)) (O : List Int) : Int := match bpO Y O with
  | none => 0
  | some (_, c) => (c : Int)
def bpB (Y : List (List Int)) (O : List Int) : Bool := (bpO Y O).isSome
theorem bst_len {H : Nat} : ∀ (L : List Int) (Y : List (List Int)) (p : List Int) (c : Nat), bst H L Y = some (p, c) → p.length = L.length
  | [], Y, p, c, h => by rw [bst_nil] at h; cases h; rfl
  | x :: L, Y, p, c, h => by
    rw [bst_cons] at h
    have key : ∀ k, ∀ p c, bstK H (bst H L) x Y k = some (p, c) → p.length = L.length + 1 := by
      intro k
      induction k with
      | zero => intro p c h; simp [bstK] at h
      | succ k ih =>
        intro p c h
        rw [bstK] at h
        split at h
        · exact ih p c h
        · unfold cmbB at h
          split at h
          · exact ih p c h
          · rename_i p' c' hb
            have h' := bst_len L _ p' c' hb
            split at h
            · cases h; simp [h']
            · rename_i q d hq
              split at h
              · cases h; simp [h']
              · cases h; exact ih _ _ hq
    exact key _ p c h
theorem bpR_len (Y : List (List Int)) (O : List Int) : (bpR Y O).length ≤ 1048576 := by
  unfold bpR bpO
  split
  · rename_i ha
    cases hb : bst 4 O Y with
    | none => simp [bstP]
    | some pc =>
      obtain ⟨p, c⟩ := pc
      have := bst_len O Y p c hb
      have := (askP_iff.1 ha).2.1
      simp only [bstP, List.nil_append]
      omega
  · simp [bstP]
/-- Rows as the search needs them. -/
def rowsH (H : Nat) (Y : List (List Int)) : Prop := Y.length ≤ 6 ∧ ∀ l ∈ Y, l.length ≤ H
theorem rowsH_put {H : Nat} {Y : List (List Int)} {k : Nat} {l : List Int} {x : Int} (h : rowsH H Y) (hl : Y[k]? = some l) (hne : ¬ l.length = H) : rowsH H (putY Y k x) := by
  refine ⟨by rw [putY_len]; exact h.1, fun r hr => ?_⟩
  rw [putY_of hl] at hr
  have := h.2 l (List.mem_of_getElem? hl)
  rcases List.mem_or_eq_of_mem_set hr with hm | rfl
  · exact h.2 r hm
  · rw [List.length_append, List.length_singleton]; omega
end Go.Proofs.Ytjplbcfpbggnnaa
