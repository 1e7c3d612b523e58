/-
  What impl.parseCall returns at every text, told by the pieces of the text. No statement of the seat by itself.
-/
import Derived.Test.YtefkcdhmiepbfaaDoorCallI
import Derived.Test.YtefkcdhmiepbfaaDoorPieces
import Derived.Lib.IndexLaws
namespace Go.Proofs.YtefkcdhmiepbfaaDoor
open Go.RowKit

/-- The two numbers of a call's text, or none: its pieces at the colons are two numbers. -/
def callR (p : ByteArray) : Int × Int × Bool :=
  match pieces p 58 with
  | [a, b] => twoR (readL a.data.toList) (readL b.data.toList)
  | _ => (0, 0, false)
theorem twoR_no (a : Int × Bool) : twoR a (0, false) = (0, 0, false) := by simp [twoR]
theorem readL_nil : readL [] = (0, false) := readL_len [] (by simp [bodyOf])
theorem readL_colon (l : List UInt8) (k : Nat) (h : l[k]? = some 58) : readL l = (0, false) := by
  by_cases hb : 1 < l.length ∧ l.head? = some 45
  · have hbd : bodyOf l = l.tail := by unfold bodyOf; rw [if_pos hb]
    have hk : k ≠ 0 := by
      rintro rfl
      have h2 := hb.2
      rw [List.head?_eq_getElem?, h] at h2
      exact absurd h2 (by decide)
    obtain ⟨q, rfl⟩ := Nat.exists_eq_succ_of_ne_zero hk
    refine readL_bad l _ q 58 hbd.symm ?_ (by decide)
    rw [List.getElem?_tail]; exact h
  · have hbd : bodyOf l = l := by unfold bodyOf; rw [if_neg hb]
    exact readL_bad l _ k 58 hbd.symm h (by decide)
theorem toL_at (s : ByteArray) (k : Nat) (h : k < s.size) : s.data.toList[k]? = some s[k] := by
  rw [Array.getElem?_toList]
  exact Array.getElem?_eq_getElem h
theorem pst_calm (s : ByteArray) (c : UInt8) (a : Nat) (m : Nat) (h : ∀ k : Nat, a ≤ k → k < a + m → s.data.toList[k]? ≠ some c) : pst s c (a + m) = pst s c a := by
  induction m with
  | zero => rfl
  | succ m ih =>
    have := ih (fun k h1 h2 => h k h1 (by omega))
    rw [← Nat.add_assoc]
    by_cases hl : a + m < s.size
    · rw [pst_miss s c (a + m) hl (fun e => h (a + m) (by omega) (by omega) (by rw [toL_at s _ hl, e])), this]
    · rw [pst, dif_neg hl, this]
theorem pieces_none (s : ByteArray) (c : UInt8) (h : ∀ k : Nat, s.data.toList[k]? ≠ some c) : pieces s c = [s.extract 0 s.size] := by
  have := pst_calm s c 0 s.size (fun k _ _ => h k)
  rw [Nat.zero_add] at this
  unfold pieces
  rw [this]
  rfl
theorem pst_first (s : ByteArray) (c : UInt8) (i : Nat) (hi : i < s.size) (h1 : s.data.toList[i]? = some c) (h2 : ∀ k : Nat, k < i → s.data.toList[k]? ≠ some c) : pst s c (i + 1) = ([s.extract 0 i], i + 1) := by
  have h0 := pst_calm s c 0 i (fun k _ h => h2 k (by omega))
  rw [Nat.zero_add] at h0
  rw [toL_at s i hi] at h1
  rw [pst_hit s c i hi (by simpa using h1), h0]
  rfl
theorem callR_cut (p : ByteArray) (i : Nat) (hi : i < p.size) (h1 : p.data.toList[i]? = some 58) (h2 : ∀ k : Nat, k < i → p.data.toList[k]? ≠ some 58) :
    callR p = twoR (readL (p.extract 0 i).data.toList) (readL (p.extract (i + 1) p.size).data.toList) := by
  have hf := pst_first p 58 i hi h1 h2
  by_cases hr : ∃ k, i < k ∧ p.data.toList[k]? = some 58
  · obtain ⟨k, hk, hc⟩ := hr
    have hkl : k < p.size := by
      have := (List.getElem?_eq_some_iff.1 hc).1
      simpa using this
    have hb : readL (p.extract (i + 1) p.size).data.toList = (0, false) := by
      refine readL_colon _ (k - (i + 1)) ?_
      rw [ByteArray.data_extract, Array.toList_extract, List.extract_eq_take_drop, List.getElem?_take_of_lt (by omega), List.getElem?_drop, show i + 1 + (k - (i + 1)) = k by omega]
      exact hc
    rw [hb, twoR_no]
    have hl : 3 ≤ (pieces p 58).length := by
      have a1 := (pst_mono p 58 (i + 1) (k - (i + 1))).length_le
      rw [show i + 1 + (k - (i + 1)) = k by omega, hf] at a1
      have a2 := pst_hit p 58 k hkl (by rw [toL_at p k hkl] at hc; simpa using hc)
      have a3 := (pst_mono p 58 (k + 1) (p.size - (k + 1))).length_le
      rw [show k + 1 + (p.size - (k + 1)) = p.size by omega, a2] at a3
      rw [pieces_len]
      simp at a1 a3
      omega
    unfold callR
    generalize pieces p 58 = L at *
    match L, hl with
    | [], h => simp at h
    | [_], h => simp at h
    | [_, _], h => simp at h
    | _ :: _ :: _ :: _, _ => rfl
  · have h3 := pst_calm p 58 (i + 1) (p.size - (i + 1)) (fun k h _ e => hr ⟨k, by omega, e⟩)
    rw [show i + 1 + (p.size - (i + 1)) = p.size by omega, hf] at h3
    have hp : pieces p 58 = [p.extract 0 i, p.extract (i + 1) p.size] := by
      unfold pieces
      rw [h3]
      rfl
    unfold callR
    rw [hp]
theorem call_any (p : ByteArray) (hs : p.size ≤ 1048576) (w : World) (hT : Tabs w) : Calls Tryd.prog 33 #[.string p] w (CallP w (callR p)) := by
  by_cases h : Lib.indexByte p.data.toList 58 = -1
  · have e : callR p = twoR (readL p.data.toList) (readL (⟨#[]⟩ : ByteArray).data.toList) := by
      rw [show readL (⟨#[]⟩ : ByteArray).data.toList = (0, false) from readL_nil, twoR_no]
      unfold callR
      rw [pieces_none p 58 (Lib.indexByte_none h)]
    rw [e]
    exact call_walk p p ⟨#[]⟩ false hs (by decide) w hT (fun w => cut_none p 58 h w)
  · obtain ⟨i, hi⟩ := Int.eq_ofNat_of_zero_le (show 0 ≤ Lib.indexByte p.data.toList 58 by have := Lib.indexByte_ge p.data.toList 58; omega)
    obtain ⟨h1, h2⟩ := Lib.indexByte_some hi
    have hlt : i < p.size := by
      have := (List.getElem?_eq_some_iff.1 h1).1
      simpa using this
    rw [callR_cut p i hlt h1 h2]
    exact call_walk p _ _ true (by rw [ByteArray.size_extract]; omega) (by rw [ByteArray.size_extract]; omega) w hT (fun w => cut_some p 58 i hlt hs hi w)
end Go.Proofs.YtefkcdhmiepbfaaDoor
