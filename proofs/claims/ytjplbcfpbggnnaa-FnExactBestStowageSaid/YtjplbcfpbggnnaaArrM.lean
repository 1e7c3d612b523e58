/-
  Plain mathematics of arrivals. No statement of the seat by itself.
-/
import Derived.Test.YtjplbcfpbggnnaaOwnI
namespace Go.Proofs.Ytjplbcfpbggnnaa

def arrOK (Y : List (List Int)) (O : List Int) : Prop := O.length ≤ 5 ∧ O.Nodup ∧ ∀ x ∈ O, placeY Y x = none ∧ 1 ≤ x ∧ x ≤ 99
instance (Y : List (List Int)) (O : List Int) : Decidable (arrOK Y O) := by unfold arrOK; infer_instance
def arrB (Y : List (List Int)) (O : List Int) : Bool := decide (arrOK Y O)
/-- Whether a list are arrivals for a valid yard. -/
def askP (Y : List (List Int)) (O : List Int) : Bool := goodY Y && arrB Y O
theorem askP_iff {Y : List (List Int)} {O : List Int} : askP Y O = true ↔ goodY Y = true ∧ arrOK Y O := by simp [askP, arrB]
theorem arr_no {Y : List (List Int)} {O : List Int} (h : ¬ arrOK Y O) : arrB Y O = false := by simp [arrB, h]
theorem arr_some {Y : List (List Int)} {O : List Int} {k : Nat} {x : Int} {p : Nat × Nat} (hx : O[k]? = some x) (h : placeY Y x = some p) : arrB Y O = false :=
  arr_no fun ⟨_, _, h3⟩ => by have := (h3 x (List.mem_of_getElem? hx)).1; rw [h] at this; cases this
theorem arr_out {Y : List (List Int)} {O : List Int} {k : Nat} {x : Int} (hx : O[k]? = some x) (h : ¬ (1 ≤ x ∧ x ≤ 99)) : arrB Y O = false :=
  arr_no fun ⟨_, _, h3⟩ => h (h3 x (List.mem_of_getElem? hx)).2
theorem arr_twice {Y : List (List Int)} {O : List Int} {k : Nat} {x : Int} (hx : O[k]? = some x) (h : x ∈ O.take k) : arrB Y O = false :=
  arr_no fun ⟨_, h2, _⟩ => by
    have hk := lt_of_get hx
    have e := take_next hx
    have hn : (O.take (k + 1)).Nodup := h2.sublist (List.take_sublist _ _)
    rw [e] at hn
    exact (List.nodup_append.1 hn).2.2 x h x (by simp) rfl
/-- The first k are a part of arrivals. -/
def ArrPart (Y : List (List Int)) (O : List Int) (k : Nat) : Prop := (O.take k).Nodup ∧ ∀ x ∈ O.take k, placeY Y x = none ∧ 1 ≤ x ∧ x ≤ 99
theorem ArrPart.start (Y : List (List Int)) (O : List Int) : ArrPart Y O 0 := ⟨by simp, fun x hx => by simp at hx⟩
theorem ArrPart.step {Y : List (List Int)} {O : List Int} {k : Nat} {x : Int} (h : ArrPart Y O k) (hx : O[k]? = some x) (hp : placeY Y x = none) (hr : 1 ≤ x ∧ x ≤ 99) (hn : ¬ x ∈ O.take k) : ArrPart Y O (k + 1) := by
  unfold ArrPart
  rw [take_next hx]
  refine ⟨List.nodup_append.2 ⟨h.1, by simp, fun a ha b hb e => ?_⟩, fun y hy => ?_⟩
  · simp at hb
    subst hb
    subst e
    exact hn ha
  · rcases List.mem_append.1 hy with hy | hy
    · exact h.2 y hy
    · simp at hy
      subst hy
      exact ⟨hp, hr⟩
theorem ArrPart.done {Y : List (List Int)} {O : List Int} {n : Nat} (h : ArrPart Y O n) (hn : O.length = n) : arrB Y O = decide (O.length ≤ 5) := by
  unfold ArrPart at h
  rw [← hn, List.take_length] at h
  unfold arrB
  by_cases h8 : O.length ≤ 5
  · rw [decide_eq_true h8, decide_eq_true (show arrOK Y O from ⟨h8, h⟩)]
  · rw [decide_eq_false h8, decide_eq_false (show ¬ arrOK Y O from fun h => h8 h.1)]
theorem plB_of {Y : List (List Int)} {x : Int} (h : goodY Y = true) : plB Y x = (placeY Y x).isSome := by simp [plB, plO, h]
end Go.Proofs.Ytjplbcfpbggnnaa
