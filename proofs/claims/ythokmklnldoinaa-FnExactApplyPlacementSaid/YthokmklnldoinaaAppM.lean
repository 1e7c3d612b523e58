/-
  Plain mathematics of placements; what a call that applies one answers. No statement of the seat by itself.
-/
import Derived.Test.YthokmklnldoinaaPlcS
import Derived.Test.YthokmklnldoinaaPlcR
import Derived.BigQuiet
namespace Go.Proofs.Ythokmklnldoinaa
open Go.RowKit

theorem tot_put {x : Int} : ∀ {Y : List (List Int)} {s : Nat} {l : List Int}, Y[s]? = some l → tot (Y.set s (l ++ [x])) = tot Y + 1
  | [], s, l, h => by simp at h
  | r :: Y, 0, l, h => by
    have e : r = l := by simpa using h
    subst e
    simp [tot]; omega
  | r :: Y, s + 1, l, h => by
    have ih := tot_put (x := x) (Y := Y) (s := s) (l := l) (by simpa using h)
    simp [tot] at ih ⊢
    omega
theorem appG_tot {Y : List (List Int)} {O P : List Int} : ∀ k Z, appG Y O P k = some Z → tot Z ≤ tot Y + k
  | 0, Z, h => by cases h; exact Nat.le_refl _
  | k + 1, Z, h => by
    rw [appG] at h
    split at h
    · cases h
    · rename_i Z' h'
      have ih := appG_tot k Z' h'
      have hl := appG_len k Z' h'
      split at h
      · rename_i hr
        cases h
        have hg : Z'[(P.getD k 0).toNat]? = some (Z'[(P.getD k 0).toNat]'(by omega)) := List.getElem?_eq_getElem (by omega)
        rw [putY_of hg, tot_put hg]
        omega
      · cases h
theorem appP_no {Y : List (List Int)} {O P : List Int} (h : appP Y O P = none) : appY Y O P = [] ∧ appB Y O P = false := by simp [appY, appB, h]
theorem appP_yes {Y Z : List (List Int)} {O P : List Int} (h : appP Y O P = some Z) : appY Y O P = Z ∧ appB Y O P = true := by simp [appY, appB, h]
theorem app_ask {Y : List (List Int)} {O P : List Int} (h : askP Y O = false) : appP Y O P = none := by simp [appP, h]
theorem app_len {Y : List (List Int)} {O P : List Int} (h : P.length ≠ O.length) : appP Y O P = none := by simp [appP, h]
theorem app_end {Y : List (List Int)} {O P : List Int} (h : appG Y O P O.length = none) : appP Y O P = none := by
  unfold appP
  split
  · rw [h]
  · rfl
theorem app_stop {Y Z : List (List Int)} {O P : List Int} {k : Nat} {s : Int} (h : appG Y O P k = some Z) (hk : k < O.length) (hs : P[k]? = some s) (hr : ¬ (0 ≤ s ∧ s < (Y.length : Int))) : appP Y O P = none :=
  app_end (appG_none (appG_stop h hs hr) _ hk)
theorem app_bad {Y Z : List (List Int)} {O P : List Int} {k : Nat} (h : appG Y O P k = some Z) (hk : k ≤ O.length) (hb : goodY Z = false) : appP Y O P = none := by
  unfold appP
  split
  · cases he : appG Y O P O.length with
    | none => rfl
    | some Z' =>
      have := appG_bad h hb O.length Z' hk he
      simp [this]
  · rfl
theorem app_done {Y Z : List (List Int)} {O P : List Int} (ha : askP Y O = true) (hl : P.length = O.length) (h : appG Y O P O.length = some Z) (hg : goodY Z = true) : appP Y O P = some Z := by
  unfold appP
  rw [if_pos ⟨ha, hl⟩, h]
  simp [hg]
theorem retY_zero {w W : World} {v0 : Value} (h : Fr2 w W v0) : RetY w [] false (.returned (.tuple #[.agg #[.slice none 0 0], .bool false])) (W.setCell ⟨w.heap.size + 1, 0, none⟩ (.slice none 0 0)) :=
  ⟨none, 0, rfl, OwnY.nil _ _ _ (Nat.le_refl _), h.set _⟩
theorem PlSt.retY {w W : World} {v0 : Value} {A B g n c : Nat} {vp : Value} {Z : List (List Int)} {P : List Int} (h : PlSt w W v0 A B g n c vp Z P) :
    RetY w Z true (.returned (.tuple #[.agg #[.slice (some ⟨g, 0, none⟩) n c], .bool true])) (W.setCell ⟨w.heap.size + 1, 0, none⟩ (.slice (some ⟨g, 0, none⟩) n c)) := by
  obtain ⟨a, c2, u, he, h1, h2⟩ := h.ret
  injection he with he
  injection he with he
  have e0 : Value.agg #[.slice (some ⟨g, 0, none⟩) n c] = Value.agg #[.slice a Z.length c2] := by
    have := congrArg (fun a => a[0]?) he
    simpa using this
  injection e0 with e0
  have e1 : Value.slice (some ⟨g, 0, none⟩) n c = Value.slice a Z.length c2 := by
    have := congrArg (fun a => a[0]?) e0
    simpa using this
  exact ⟨a, c2, by rw [e1], h1.1, h2⟩
theorem PlSt.newC {w w1 w2 : World} {v0 : Value} {g n c : Nat} {Y : List (List Int)} (F1 : Fr2 w w1 v0) (h : OwnY w2 w1.heap.size w2.heap.size (.slice (some ⟨g, 0, none⟩) n c) Y) (hb : Below w1.heap.size w1 w2) :
    PlSt w (w2.alloc (.cells #[.slice (some ⟨g, 0, none⟩) n c] 26)) v0 w2.heap.size w1.heap.size g n c (.slice none 0 0) Y [] := by
  have hb1 := below_one w2 (.cells #[.slice (some ⟨g, 0, none⟩) n c] 26)
  have hz1 : (w2.alloc (.cells #[.slice (some ⟨g, 0, none⟩) n c] 26)).heap.size = w2.heap.size + 1 := by simp
  have hzb := hb.size
  have hl := F1.lt
  exact ⟨(F1.below hb).below hb1, ⟨(h.below hb1).mono (Nat.le_refl _) (by omega) (Nat.le_refl _), ⟨Nat.le_refl _, ⟨rfl, .inl ⟨rfl, rfl⟩⟩, fun b hb => by simp [Value.ownBlock] at hb⟩, fun g n c e j x hj hx b hb => by simp [Value.ownBlock] at hb⟩, heap_alloc_new w2 _, by omega, by omega⟩

end Go.Proofs.Ythokmklnldoinaa
