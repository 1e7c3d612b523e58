/-
  What holds of a yard with a number more on a stack. No statement of the seat by itself.
-/
import Derived.Test.YtdnbkfpcmjijlaaMoveM
import Derived.Test.YtdnbkfpcmjijlaaTakeM
import Derived.Test.YtdnbkfpcmjijlaaTops
import Derived.Test.YtdnbkfpcmjijlaaHeights
namespace Go.Proofs.Ytdnbkfpcmjijlaa
open Go.RowKit

theorem tot_append (A B : List (List Int)) : tot (A ++ B) = tot A + tot B := by simp [tot]
theorem tot_set_at {Y : List (List Int)} {i : Nat} {l r : List Int} (h : Y[i]? = some l) : tot (Y.set i r) + l.length = tot Y + r.length := by
  induction Y generalizing i with
  | nil => simp at h
  | cons a Y ih =>
    cases i with
    | zero =>
      simp only [List.getElem?_cons_zero, Option.some.injEq] at h
      subst h
      simp [tot]
      omega
    | succ i =>
      simp only [List.getElem?_cons_succ] at h
      have := ih h
      simp [tot] at this ⊢
      omega
/-- What the law asks of a number put on a stack. -/
structure PutFacts (Y M : List (List Int)) (s x : Int) (i m : Nat) : Prop where
  si : s = (i : Int)
  lt : i < Y.length
  put : putR Y s x = M
  len : M.length = Y.length
  good : goodY M = true
  goodY : Go.Proofs.Ytdnbkfpcmjijlaa.goodY Y = true
  okS : Go.Proofs.Ytdnbkfpcmjijlaa.okS M s = true
  top : topR M s = x
  pl : plO M x = some (i, m)
  take : takeR M x = Y
  okT : Go.Proofs.Ytdnbkfpcmjijlaa.okT M x = true
  row : ∃ l, M[i]? = some l ∧ l.length = m + 1
  free : freeR M = freeR Y - 1
  hLen : (heightR M).length = Y.length
  hAt : (heightR M)[i]? = some ((m : Int) + 1)
theorem put_facts {Y : List (List Int)} {s x : Int} (h : okP Y s x = true) : ∃ i m, PutFacts Y (putR Y s x) s x i m := by
  have h' := h
  simp only [okP, Bool.and_eq_true] at h'
  obtain ⟨ho, hg⟩ := h'
  obtain ⟨hy, h0, h1⟩ := okS_iff.1 ho
  obtain ⟨i, rfl⟩ : ∃ i : Nat, s = (i : Int) := ⟨s.toNat, by omega⟩
  have hi : i < Y.length := by omega
  rw [Int.toNat_natCast] at hg
  obtain ⟨l, hl⟩ := get_at (Y := Y) rfl hi
  have hM : putR Y (i : Int) x = Y.set i (l ++ [x]) := by rw [putR_yes h, putY_of hl]
  have hMi : (Y.set i (l ++ [x]))[i]? = some (l ++ [x]) := by simp [hi]
  have hgM : Go.Proofs.Ytdnbkfpcmjijlaa.goodY (Y.set i (l ++ [x])) = true := by rw [← putY_of hl]; exact hg
  have hlen : (Y.set i (l ++ [x])).length = Y.length := by simp
  have hx : (l ++ [x])[l.length]? = some x := by simp
  have hp := place_only hgM hMi hx
  have hpo : plO (Y.set i (l ++ [x])) x = some (i, l.length) := by rw [plO_good hgM, hp]
  have htk : tkO (Y.set i (l ++ [x])) x = some (i, l.length) := tkO_yes hpo hMi (by simp)
  obtain ⟨ht1, ht2⟩ := take_yes htk hMi
  have hoM : Go.Proofs.Ytdnbkfpcmjijlaa.okS (Y.set i (l ++ [x])) (i : Int) = true := okS_iff.2 ⟨hgM, by omega, by rw [hlen]; omega⟩
  refine ⟨i, l.length, rfl, hi, rfl, by rw [hM, hlen], by rw [hM]; exact hgM, hy, by rw [hM]; exact hoM, ?_, by rw [hM]; exact hpo, ?_, by rw [hM]; exact ht2, ⟨l ++ [x], by rw [hM]; exact hMi, by simp⟩, ?_, ?_, ?_⟩
  · rw [hM, topR_yes hoM hMi]
    simp [topL]
  · rw [hM, ht1, List.set_set]
    have e : (l ++ [x]).take l.length = l := by simp
    rw [e]
    apply List.ext_getElem?
    intro j
    by_cases e : i = j
    · subst e; rw [List.getElem?_set_self hi, hl]
    · rw [List.getElem?_set_ne e]
  · rw [hM]
    have := tot_set_at (r := l ++ [x]) hl
    simp only [freeR, hgM, hy, if_true, hlen]
    simp at this
    omega
  · rw [hM]
    simp [heightR, hgM, heightL]
  · rw [hM]
    simp [heightR, hgM, heightL, hi]
end Go.Proofs.Ytdnbkfpcmjijlaa
