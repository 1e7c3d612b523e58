/-
  Plain mathematics: the findings of a yard. No program stands in it.
-/
import Derived.Test.YtonploneihnekaaFnd
import Derived.Test.YtonploneihnekaaPutM
import Derived.Test.YtonploneihnekaaCFind
namespace Go.Proofs.Ytonploneihnekaa
open Go.RowKit

/-- The container of a number. -/
def boxF (f : Nat → C.Cont) (x : Int) : C.Cont := f (x.toNat - 1)
/-- The rules that a container breaks on another one. -/
def rulU (c : C.Cont) : Option C.Cont → List Int
  | none => []
  | some b => (if b.weight < c.weight then [1] else []) ++ ((if c.size ≠ b.size then [2] else []) ++ (if c.cargo = 3 then [3] else []))
/-- The rule about power. -/
def rulG (c : C.Cont) (pw : Bool) : List Int := if c.cargo = 2 ∧ pw = false then [4] else []
/-- The rules that a container breaks. -/
def rulL (c : C.Cont) (b : Option C.Cont) (pw : Bool) : List Int := rulU c b ++ rulG c pw
theorem rulU_len (c : C.Cont) (b : Option C.Cont) : (rulU c b).length ≤ 3 := by
  cases b with
  | none => simp [rulU]
  | some b => simp only [rulU, List.length_append]; split <;> split <;> split <;> simp
theorem rulL_len (c : C.Cont) (b : Option C.Cont) (pw : Bool) : (rulL c b pw).length ≤ 4 := by
  have := rulU_len c b
  have h : (rulG c pw).length ≤ 1 := by unfold rulG; split <;> simp
  simp only [rulL, List.length_append]; omega
theorem rulL_mem (c : C.Cont) (b : Option C.Cont) (pw : Bool) : ∀ r ∈ rulL c b pw, 1 ≤ r ∧ r ≤ 4 := by
  intro r hr
  cases b with
  | none =>
    simp only [rulL, rulU, rulG, List.nil_append] at hr
    split at hr <;> simp at hr
    omega
  | some b =>
    simp only [rulL, rulU, rulG, List.mem_append] at hr
    rcases hr with (h | h | h) | h <;> split at h <;> simp at h <;> omega
/-- What stands below tier k of a stack. -/
def belF (f : Nat → C.Cont) (l : List Int) (k : Nat) : Option C.Cont := if k = 0 then none else some (boxF f (l.getD (k - 1) 0))
/-- The findings for tier k of stack i. -/
def atF (f : Nat → C.Cont) (p : Int) (i : Nat) (l : List Int) (k : Nat) : List Fnd := (rulL (boxF f (l.getD k 0)) (belF f l k) (decide ((i : Int) < p))).map fun r => (r, (i : Int), (k : Int))
/-- The findings for the tiers before k of stack i. -/
def rowF (f : Nat → C.Cont) (p : Int) (i : Nat) (l : List Int) : Nat → List Fnd
  | 0 => []
  | k + 1 => rowF f p i l k ++ atF f p i l k
/-- The findings for the stacks before i. -/
def yF (f : Nat → C.Cont) (p : Int) (Y : List (List Int)) : Nat → List Fnd
  | 0 => []
  | i + 1 => yF f p Y i ++ rowF f p i (Y.getD i []) (Y.getD i []).length
/-- All findings. -/
def finY (f : Nat → C.Cont) (p : Int) (Y : List (List Int)) : List Fnd := yF f p Y Y.length
theorem atF_len (f : Nat → C.Cont) (p : Int) (i : Nat) (l : List Int) (k : Nat) : (atF f p i l k).length ≤ 4 := by
  unfold atF; rw [List.length_map]; exact rulL_len _ _ _
theorem rowF_len (f : Nat → C.Cont) (p : Int) (i : Nat) (l : List Int) : ∀ k, (rowF f p i l k).length ≤ 4 * k
  | 0 => by simp [rowF]
  | k + 1 => by
    have h1 := rowF_len f p i l k
    have h2 := atF_len f p i l k
    simp only [rowF, List.length_append]; omega
theorem row_four {Y : List (List Int)} (h : goodY Y = true) {i : Nat} {l : List Int} (hl : Y[i]? = some l) : l.length ≤ 4 := (goodY_iff.1 h).2.2.1 l (List.mem_of_getElem? hl)
theorem yF_len (f : Nat → C.Cont) (p : Int) (Y : List (List Int)) (hg : goodY Y = true) : ∀ i, i ≤ Y.length → (yF f p Y i).length ≤ 16 * i
  | 0, _ => by simp [yF]
  | i + 1, h => by
    obtain ⟨l, hl⟩ := get_at rfl (show i < Y.length by omega)
    have h1 := yF_len f p Y hg i (by omega)
    have h2 := rowF_len f p i (Y.getD i []) (Y.getD i []).length
    have h3 := row_four hg hl
    rw [getD_of hl] at h2
    simp only [yF, List.length_append, getD_of hl]; omega
theorem finY_len (f : Nat → C.Cont) (p : Int) (Y : List (List Int)) (hg : goodY Y = true) : (finY f p Y).length ≤ 96 := by
  have h1 := yF_len f p Y hg Y.length (Nat.le_refl _)
  have h2 := (goodY_iff.1 hg).2.1
  unfold finY; omega
/-- Whether a number of a stack stands for no container. -/
def tallB (n : Nat) (l : List Int) : Bool := l.any fun x => decide ((n : Int) < x)
theorem tallB_no {n : Nat} {l : List Int} (h : tallB n l = false) : ∀ x ∈ l, x ≤ (n : Int) := fun x hx => by
  have := List.any_eq_false.1 h x hx
  simpa using this
theorem tallB_yes {n : Nat} {l : List Int} {k : Nat} {x : Int} (h : l[k]? = some x) (hx : (n : Int) < x) : tallB n l = true := List.any_eq_true.2 ⟨x, List.mem_of_getElem? h, by simpa using hx⟩
/-- Whether every number of the first i stacks stands for a container. -/
def fitB (n : Nat) (Y : List (List Int)) : Bool := Y.all fun l => !tallB n l
theorem fitB_no {n : Nat} {Y : List (List Int)} {i : Nat} {l : List Int} (h : Y[i]? = some l) (ht : tallB n l = true) : fitB n Y = false := by
  cases e : fitB n Y with
  | false => rfl
  | true =>
    have := List.all_eq_true.1 e l (List.mem_of_getElem? h)
    simp [ht] at this
theorem fitB_yes {n : Nat} {Y : List (List Int)} (h : ∀ (i : Nat) l, Y[i]? = some l → tallB n l = false) : fitB n Y = true := by
  refine List.all_eq_true.2 fun l hl => ?_
  obtain ⟨i, hi⟩ := List.getElem?_of_mem hl
  simp [h i l hi]
theorem fitB_row {n : Nat} {Y : List (List Int)} (h : fitB n Y = true) {i : Nat} {l : List Int} (hl : Y[i]? = some l) : tallB n l = false := by
  have := List.all_eq_true.1 h l (List.mem_of_getElem? hl)
  simpa using this
/-- Whether a yard and a list are valid and every number stands for a container. -/
def stF (n : Nat) (f : Nat → C.Cont) (Y : List (List Int)) : Bool := goodY Y && (C.listB n f && fitB n Y)
/-- Whether findings are asked of valid arguments. -/
def askF (n : Nat) (f : Nat → C.Cont) (Y : List (List Int)) (p : Int) : Bool := stF n f Y && (decide (0 ≤ p) && decide (p ≤ 6))
theorem stF_iff {n : Nat} {f : Nat → C.Cont} {Y : List (List Int)} : stF n f Y = true ↔ goodY Y = true ∧ C.listB n f = true ∧ fitB n Y = true := by simp [stF]
theorem askF_iff {n : Nat} {f : Nat → C.Cont} {Y : List (List Int)} {p : Int} : askF n f Y p = true ↔ stF n f Y = true ∧ 0 ≤ p ∧ p ≤ 6 := by simp [askF]
/-- What is known of a number that stands in a yard. -/
theorem box_in {n : Nat} {f : Nat → C.Cont} {Y : List (List Int)} (h : stF n f Y = true) {i k : Nat} {l : List Int} {x : Int} (hl : Y[i]? = some l) (hx : l[k]? = some x) : 1 ≤ x ∧ x ≤ (n : Int) ∧ n ≤ 12 := by
  obtain ⟨h1, h2, h3⟩ := stF_iff.1 h
  have a := (goodY_iff.1 h1).2.2.2.1 x (flat_mem hl hx)
  have b := tallB_no (fitB_row h3 hl) x (List.mem_of_getElem? hx)
  exact ⟨a.1, b, ((C.listB_iff n f).1 h2).1⟩
/-- What YardFindings answers. -/
def finR (n : Nat) (f : Nat → C.Cont) (Y : List (List Int)) (p : Int) : List Fnd := if askF n f Y p = true then finY f p Y else []
theorem finR_yes {n : Nat} {f : Nat → C.Cont} {Y : List (List Int)} {p : Int} (h : askF n f Y p = true) : finR n f Y p = finY f p Y := by simp [finR, h]
theorem finR_no {n : Nat} {f : Nat → C.Cont} {Y : List (List Int)} {p : Int} (h : askF n f Y p = false) : finR n f Y p = [] := by simp [finR, h]
theorem finR_len (n : Nat) (f : Nat → C.Cont) (Y : List (List Int)) (p : Int) : (finR n f Y p).length ≤ 96 := by
  cases h : askF n f Y p with
  | false => rw [finR_no h]; decide
  | true => rw [finR_yes h]; exact finY_len f p Y (stF_iff.1 (askF_iff.1 h).1).1
theorem keep_eq (n : Nat) (f : Nat → C.Cont) (Y : List (List Int)) (p : Int) : (askF n f Y p && decide (((finR n f Y p).length : Int) = 0)) = (askF n f Y p && (finY f p Y).isEmpty) := by
  cases h : askF n f Y p with
  | false => rfl
  | true =>
    rw [finR_yes h]
    cases finY f p Y <;> simp
    omega
theorem rowF_mem {f : Nat → C.Cont} {p : Int} {i : Nat} {l : List Int} : ∀ {k : Nat} {x : Fnd}, x ∈ rowF f p i l k → (1 ≤ x.1 ∧ x.1 ≤ 4) ∧ x.2.1 = (i : Int) ∧ 0 ≤ x.2.2 ∧ x.2.2 < (k : Int)
  | 0, x, h => by simp [rowF] at h
  | k + 1, x, h => by
    rcases List.mem_append.1 h with h | h
    · have := rowF_mem h
      omega
    · obtain ⟨r, hr, rfl⟩ := List.mem_map.1 h
      exact ⟨rulL_mem _ _ _ r hr, rfl, Int.natCast_nonneg _, by show (k : Int) < ((k + 1 : Nat) : Int); omega⟩
theorem yF_mem {f : Nat → C.Cont} {p : Int} {Y : List (List Int)} : ∀ {i : Nat} {x : Fnd}, x ∈ yF f p Y i → (1 ≤ x.1 ∧ x.1 ≤ 4) ∧ 0 ≤ x.2.1 ∧ x.2.1 < (i : Int)
  | 0, x, h => by simp [yF] at h
  | i + 1, x, h => by
    rcases List.mem_append.1 h with h | h
    · have := yF_mem h
      omega
    · have := rowF_mem h
      omega
theorem finY_mem {f : Nat → C.Cont} {p : Int} {Y : List (List Int)} (hg : goodY Y = true) {x : Fnd} (h : x ∈ finY f p Y) : (1 ≤ x.1 ∧ x.1 ≤ 4) ∧ 0 ≤ x.2.1 ∧ x.2.1 < 6 := by
  have := yF_mem h
  have := (goodY_iff.1 hg).2.1
  omega
end Go.Proofs.Ytonploneihnekaa
