/-
  Plain mathematics: the pieces of a text, joined with the separator, are the text again, and there is room for them. And the order of texts is strict. No program stands in it.
-/
import Derived.Test.YtaebphbnfnjfcaaJoinS
namespace Go.Proofs.Ytaebphbnfnjfcaa

/-- The bytes of the complete pieces, each with the separator behind it. -/
def cat (c : UInt8) (l : List ByteArray) : List UInt8 := (l.map fun x => x.data.toList ++ [c]).flatten
theorem cat_snoc (c : UInt8) (l : List ByteArray) (x : ByteArray) : cat c (l ++ [x]) = cat c l ++ x.data.toList ++ [c] := by simp [cat]

theorem extract_list (s : ByteArray) (a b : Nat) : (s.extract a b).data.toList = (s.data.toList.drop a).take (b - a) := by
  rw [ByteArray.data_extract, Array.toList_extract, List.extract_eq_take_drop]

theorem cut_at (l : List UInt8) (a k : Nat) (h : a ≤ k) (hk : k < l.length) : l.take a ++ (l.drop a).take (k - a) ++ [l[k]] = l.take (k + 1) := by
  have e : l.take a ++ (l.drop a).take (k - a) = l.take k := by
    rw [← List.take_add, show a + (k - a) = k by omega]
  rw [e, List.take_append_getElem hk]

theorem pst_cat (s : ByteArray) (c : UInt8) (k : Nat) : k ≤ s.size → cat c (pst s c k).1 = s.data.toList.take (pst s c k).2 := by
  induction k with
  | zero => intro _; simp [pst, cat]
  | succ k ih =>
    intro hk
    have hlt : k < s.size := by omega
    by_cases hc : s[k] = c
    · rw [pst_hit s c k hlt hc]
      simp only [cat_snoc]
      rw [ih (by omega), extract_list, ← cut_at _ (pst s c k).2 k (pst_le s c k) (by simpa using hlt)]
      have : s.data.toList[k]'(by simpa using hlt) = c := by rw [← hc]; rfl
      rw [this]
    · rw [pst_miss s c k hlt hc]
      exact ih (by omega)

theorem pst_tot (s : ByteArray) (c : UInt8) (k : Nat) : k ≤ s.size → tot (pst s c k).1 = (pst s c k).2 := by
  induction k with
  | zero => intro _; rfl
  | succ k ih =>
    intro hk
    have hlt : k < s.size := by omega
    by_cases hc : s[k] = c
    · rw [pst_hit s c k hlt hc]
      simp only [tot_snoc]
      rw [ih (by omega), ByteArray.size_extract]
      have := pst_le s c k
      omega
    · rw [pst_miss s c k hlt hc]
      exact ih (by omega)

theorem extract_no (s : ByteArray) (c : UInt8) (a b : Nat) (hb : b ≤ s.size) (h : ∀ (i : Nat) (hi : i < s.size), a ≤ i → i < b → ¬ s[i] = c) : sepIn (s.extract a b) c = false := by
  rw [Bool.eq_false_iff]
  intro hs
  obtain ⟨i, hi, e⟩ := (sepIn_iff _ _).1 hs
  rw [ByteArray.size_extract] at hi
  have hi2 : a + i < s.size := by omega
  refine h (a + i) hi2 (by omega) (by omega) ?_
  rw [← e]
  show s.data[a + i] = (s.extract a b).data[i]'_
  simp [ByteArray.data_extract]

theorem pst_no (s : ByteArray) (c : UInt8) (k : Nat) : k ≤ s.size → (∀ x ∈ (pst s c k).1, sepIn x c = false) ∧ ∀ (i : Nat) (hi : i < s.size), (pst s c k).2 ≤ i → i < k → ¬ s[i] = c := by
  induction k with
  | zero => intro _; exact ⟨by simp [pst], fun i hi _ h => by omega⟩
  | succ k ih =>
    intro hk
    have hlt : k < s.size := by omega
    obtain ⟨h1, h2⟩ := ih (by omega)
    by_cases hc : s[k] = c
    · rw [pst_hit s c k hlt hc]
      refine ⟨fun x hx => ?_, fun i hi ha hb => by simp at ha; omega⟩
      rcases List.mem_append.1 hx with h | h
      · exact h1 x h
      · rw [List.mem_singleton.1 h]
        exact extract_no s c _ _ (by omega) h2
    · rw [pst_miss s c k hlt hc]
      refine ⟨h1, fun i hi ha hb => ?_⟩
      by_cases hik : i = k
      · subst hik; exact hc
      · exact h2 i hi ha (by omega)

theorem pieces_no (s : ByteArray) (c : UInt8) : ∀ x ∈ pieces s c, sepIn x c = false := by
  intro x hx
  obtain ⟨h1, h2⟩ := pst_no s c s.size (Nat.le_refl _)
  unfold pieces at hx
  rcases List.mem_append.1 hx with h | h
  · exact h1 x h
  · rw [List.mem_singleton.1 h]
    exact extract_no s c _ _ (Nat.le_refl _) h2

theorem pieces_tot (s : ByteArray) (c : UInt8) : tot (pieces s c) = s.size + 1 := by
  unfold pieces
  rw [tot_snoc, pst_tot s c _ (Nat.le_refl _), ByteArray.size_extract]
  have := pst_le s c s.size
  omega

theorem roomAfter_some (c : UInt8) (ps : List ByteArray) : ∀ r, (∀ x ∈ ps, sepIn x c = false) → tot ps ≤ r → ∃ q, roomAfter c ps r = some q := by
  induction ps with
  | nil => intro r _ _; exact ⟨r, rfl⟩
  | cons p ps ih =>
    intro r h ht
    have e : tot (p :: ps) = p.size + 1 + tot ps := by simp [tot]
    rw [e] at ht
    rw [roomAfter, h p (by simp), if_neg (by simp; omega)]
    exact ih _ (fun x hx => h x (by simp [hx])) (by omega)

theorem join_snoc (c : UInt8) (l : List ByteArray) (x : ByteArray) : Lib.join ((l ++ [x]).map fun y => y.data.toList) [c] = cat c l ++ x.data.toList := by
  induction l with
  | nil => simp [cat, Lib.join_one]
  | cons y ys ih =>
    have hc : cat c (y :: ys) = y.data.toList ++ [c] ++ cat c ys := by simp [cat]
    rw [hc]
    obtain ⟨z, r, e⟩ : ∃ z r, (ys ++ [x]).map (fun y => y.data.toList) = z :: r := by
      cases hh : (ys ++ [x]).map (fun y => y.data.toList) with
      | nil => simp at hh
      | cons z r => exact ⟨z, r, rfl⟩
    have e2 : ((y :: ys) ++ [x]).map (fun y => y.data.toList) = y.data.toList :: (z :: r) := by
      rw [List.cons_append, List.map_cons, e]
    rw [e2]
    rw [e] at ih
    have e3 : Lib.join (y.data.toList :: z :: r) [c] = y.data.toList ++ ([c] ++ Lib.join (z :: r) [c]) := by
      simp [Lib.join, List.intercalate, List.intersperse]
    rw [e3, ih]
    simp

theorem pieces_join (s : ByteArray) (c : UInt8) : Lib.join ((pieces s c).map fun y => y.data.toList) [c] = s.data.toList := by
  unfold pieces
  rw [join_snoc, pst_cat s c _ (Nat.le_refl _), extract_list]
  rw [List.take_of_length_le (l := List.drop _ _) (by simp), List.take_append_drop]

theorem range_map (ps : List ByteArray) : (List.range ps.length).map (fun j => ps[j]?.getD ByteArray.empty) = ps := by
  apply List.ext_getElem
  · simp
  · intro i h1 h2
    simp [h2]

theorem back_ans (s : ByteArray) (c : UInt8) (hs : s.size ≤ 4000) : joinAns (fun j => (pieces s c)[j]?.getD ByteArray.empty) (pieces s c).length c = (s, true) := by
  obtain ⟨q, hq⟩ := roomAfter_some c (pieces s c) 4001 (pieces_no s c) (by rw [pieces_tot]; omega)
  rw [joinAns_some _ _ c q (by rw [range_map]; exact hq) (by rw [pieces_len]; omega)]
  have e : joinL (fun j => (pieces s c)[j]?.getD ByteArray.empty) (pieces s c).length c = s.data.toList := by
    unfold joinL
    rw [← pieces_join s c]
    conv => rhs; rw [← range_map (pieces s c)]
    rw [List.map_map]
    rfl
  rw [e]

theorem bytes_asym : ∀ (a b : List UInt8), Op.bytesLess a b = true → Op.bytesLess b a = false := by
  intro a
  induction a with
  | nil => intro b h; cases b <;> simp_all [Op.bytesLess]
  | cons x xs ih =>
    intro b h
    cases b with
    | nil => simp [Op.bytesLess] at h
    | cons y ys =>
      simp only [Op.bytesLess, Bool.or_eq_true, Bool.and_eq_true, decide_eq_true_eq, beq_iff_eq] at h
      simp only [Op.bytesLess]
      rcases h with h | ⟨rfl, h⟩
      · have h1 : ¬ y < x := fun h2 => by
          have a1 := UInt8.lt_iff_toNat_lt.1 h
          have a2 := UInt8.lt_iff_toNat_lt.1 h2
          omega
        have h3 : (y == x) = false := by
          rw [beq_eq_false_iff_ne]
          rintro rfl
          exact h1 h
        simp [h1, h3]
      · have h1 : ¬ x < x := fun h2 => by
          have a1 := UInt8.lt_iff_toNat_lt.1 h2
          omega
        simp [h1, ih _ h]
end Go.Proofs.Ytaebphbnfnjfcaa
