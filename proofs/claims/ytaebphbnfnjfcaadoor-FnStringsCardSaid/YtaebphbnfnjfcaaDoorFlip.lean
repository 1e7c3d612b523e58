/-
  Plain mathematics: a checksummed text is read again, and one with another byte at one place is not. No program stands in it.
-/
import Derived.Test.YtaebphbnfnjfcaaDoorVerify
import Derived.Test.YtaebphbnfnjfcaaDoorRead
namespace Go.Proofs.YtaebphbnfnjfcaaDoor

theorem step_inj (c : UInt8) (h h' : Int) (b1 : 0 ≤ h) (b2 : h < 999979) (b3 : 0 ≤ h') (b4 : h' < 999979) (e : sumStep h c = sumStep h' c) : h = h' := by
  unfold sumStep at e
  omega
theorem step_byte (c c' : UInt8) (h : Int) (e : sumStep h c = sumStep h c') : c = c' := by
  unfold sumStep at e
  have h1 := c.toNat_lt
  have h2 := c'.toNat_lt
  apply UInt8.toNat_inj.1
  omega
theorem fold_inj (l : List UInt8) : ∀ h h' : Int, 0 ≤ h → h < 999979 → 0 ≤ h' → h' < 999979 → l.foldl sumStep h = l.foldl sumStep h' → h = h' := by
  induction l with
  | nil => intro h h' _ _ _ _ e; exact e
  | cons c l ih =>
    intro h h' b1 b2 b3 b4 e
    have s1 := sumStep_bd h c
    have s2 := sumStep_bd h' c
    exact step_inj c h h' b1 b2 b3 b4 (ih _ _ s1.1 s1.2 s2.1 s2.2 e)
/-- Another byte at one place: another checksum. -/
theorem sum_flip (X : List UInt8) (k : Nat) (c : UInt8) (hk : k < X.length) (hc : ¬ X[k] = c) : ¬ sumOf (X.set k c) = sumOf X := by
  intro e
  have e1 : X = X.take k ++ X[k] :: X.drop (k + 1) := by simp
  have e2 : X.set k c = X.take k ++ c :: X.drop (k + 1) := by rw [List.set_eq_take_append_cons_drop, if_pos hk]
  rw [e2] at e
  conv at e => rhs; rw [e1]
  unfold sumOf at e
  rw [List.foldl_append, List.foldl_append, List.foldl_cons, List.foldl_cons] at e
  have s1 := sumStep_bd ((X.take k).foldl sumStep 7) c
  have s2 := sumStep_bd ((X.take k).foldl sumStep 7) X[k]
  have := fold_inj _ _ _ s1.1 s1.2 s2.1 s2.2 e
  exact hc (step_byte _ _ _ this).symm

theorem flip_list (X D T E : List UInt8) (hX : 35 ∉ X) (hD : 35 ∉ D) (hT : 35 ∉ T) (hE : 35 ∉ E) (k : Nat) (c : UInt8) (hk : k < (X ++ 35 :: D).length) (hne : ¬ (X ++ 35 :: D)[k] = c) (h : T ++ 35 :: E = (X ++ 35 :: D).set k c) :
    (∃ hk : k < X.length, ¬ X[k] = c ∧ T = X.set k c ∧ E = D) ∨ (T = X ∧ ¬ E = D) := by
  have hlen := congrArg List.length h
  simp at hlen hk
  have other : ∀ i, ¬ k = i → (T ++ 35 :: E)[i]? = (X ++ 35 :: D)[i]? := fun i hi => by rw [h, List.getElem?_set_ne hi]
  have here : (T ++ 35 :: E)[k]? = some c := by rw [h, List.getElem?_set_self (by simp; omega)]
  have mX : (X ++ 35 :: D)[X.length]? = some 35 := by simp
  have mT : (T ++ 35 :: E)[T.length]? = some 35 := by simp
  rcases Nat.lt_trichotomy X.length T.length with hl | hl | hl
  · exfalso
    have a1 : (T ++ 35 :: E)[X.length]? ≠ some 35 := by
      rw [List.getElem?_append_left hl]
      exact fun e => hT (List.mem_of_getElem? e)
    have kX : k = X.length := Classical.byContradiction fun hn => a1 ((other _ hn).trans mX)
    have a2 := (other T.length (by omega)).symm.trans mT
    rw [List.getElem?_append_right (by omega), show T.length - X.length = (T.length - X.length - 1) + 1 by omega, List.getElem?_cons_succ] at a2
    exact hD (List.mem_of_getElem? a2)
  · by_cases hkx : k < X.length
    · left
      have h1 : T ++ 35 :: E = X.set k c ++ 35 :: D := by rw [h, List.set_append_left _ _ hkx]
      have := List.append_inj h1 (by simp [hl])
      refine ⟨hkx, fun e => hne ?_, this.1, (List.cons.inj this.2).2⟩
      rw [List.getElem_append_left hkx]
      exact e
    · right
      have h1 : T ++ 35 :: E = X ++ (35 :: D).set (k - X.length) c := by rw [h, List.set_append_right _ _ (by omega)]
      have h2 := List.append_inj h1 hl.symm
      refine ⟨h2.1, fun e => ?_⟩
      subst e
      have h3 := h2.2
      have h4 : ((35 :: E).set (k - X.length) c)[k - X.length]? = some c := List.getElem?_set_self (by simp; omega)
      rw [← h3] at h4
      apply hne
      have h5 : (X ++ 35 :: E)[k]? = some c := by rw [List.getElem?_append_right (by omega)]; exact h4
      rw [List.getElem?_eq_getElem (by simp; omega)] at h5
      exact Option.some.inj h5
  · exfalso
    have a1 : (X ++ 35 :: D)[T.length]? ≠ some 35 := by
      rw [List.getElem?_append_left hl]
      exact fun e => hX (List.mem_of_getElem? e)
    have kT : k = T.length := Classical.byContradiction fun hn => a1 ((other _ hn).symm.trans mT)
    have a2 := (other X.length (by omega)).trans mX
    rw [List.getElem?_append_right (by omega), show X.length - T.length = (X.length - T.length - 1) + 1 by omega, List.getElem?_cons_succ] at a2
    exact hE (List.mem_of_getElem? a2)

theorem not_mem_of_sep {s : ByteArray} (h : sepIn s 35 = false) : 35 ∉ s.data.toList := by
  unfold sepIn at h
  intro hm
  rw [List.contains_iff_mem.2 hm] at h
  cases h
theorem digs_not (s : ByteArray) : 35 ∉ digs s := fun hm => by
  have := digs_mem s 35 hm
  revert this
  decide
theorem itoa_inj (a b : Int) (a1 : 0 ≤ a) (a2 : a < 999979) (b1 : 0 ≤ b) (b2 : b < 999979) (h : Lib.itoa a = Lib.itoa b) : a = b := by
  have h1 := readL_itoa a (by omega) (by omega)
  have h2 := readL_itoa b (by omega) (by omega)
  rw [h, h2] at h1
  exact (Prod.mk.inj h1).1.symm
theorem seal_list (s : ByteArray) : (sealOf s).data.toList = s.data.toList ++ 35 :: digs s := by
  show (s.data.toList ++ [35] ++ digs s).toArray.toList = _
  simp

/-- A changed byte is detected. -/
theorem flip_seal (x y : ByteArray) (hx : sepIn x 35 = false) (k : Nat) (c : UInt8) (hk : k < (sealOf x).data.toList.length) (hne : ¬ (sealOf x).data.toList[k] = c) (hy : y.data.toList = (sealOf x).data.toList.set k c) : (verAns y).2 = false := by
  unfold verAns
  split
  · rename_i h
    exfalso
    obtain ⟨_, h⟩ := h
    rw [hy] at h
    simp only [seal_list] at h hk hne
    have hs1 := sumOf_bd x.data.toList
    have hs2 := sumOf_bd (headB y).data.toList
    rcases flip_list _ _ _ _ (not_mem_of_sep hx) (digs_not x) (not_mem_of_sep (head_sep y)) (digs_not _) k c hk hne h with ⟨hkx, hb, ht, he⟩ | ⟨ht, he⟩
    · have := itoa_inj _ _ hs2.1 hs2.2 hs1.1 hs1.2 he
      rw [ht] at this
      exact sum_flip _ k c hkx hb this
    · apply he
      unfold digs
      rw [ht]
  · rfl

/-- A checksummed text is read again. -/
theorem ver_seal (x : ByteArray) (hx : sepIn x 35 = false) (hs : (sealOf x).size ≤ 4000) : verAns (sealOf x) = (x, true) := by
  have hsz := sealOf_size x
  have hat : ∀ (j : Nat) (hj : j < (sealOf x).size), (sealOf x)[j] = (x.data.toList ++ 35 :: digs x)[j]'(by rw [← seal_list]; exact hj) := fun j hj => by
    have e : (sealOf x)[j] = (sealOf x).data.toList[j]'hj := rfl
    rw [e]
    simp only [seal_list]
  have hh : headB (sealOf x) = x := by
    rw [head_some (sealOf x) x.size (by omega) (by rw [hat]; simp) (fun j hj hlt => by
      rw [hat, List.getElem_append_left (by simpa using hlt)]
      exact fun e => not_mem_of_sep hx (e ▸ List.getElem_mem _))]
    apply ByteArray.ext
    apply Array.toList_inj.1
    rw [ByteArray.data_extract, Array.toList_extract, List.extract_eq_take_drop, seal_list]
    simp
  unfold verAns
  rw [hh, if_pos ⟨hs, rfl⟩]
end Go.Proofs.YtaebphbnfnjfcaaDoor
