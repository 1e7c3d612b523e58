/-
  Plain mathematics of identifiers that are made: the check letter makes an identifier, and the next one has the same letters and greater digits. No program stands in it.
-/
import Derived.Test.YtpckcaejmkhdnaaDoorNextT
namespace Go.Proofs.YtpckcaejmkhdnaaDoor

theorem made_list (s : ByteArray) : (s ++ letterS s).data.toList = s.data.toList ++ [letterB s] := by
  simp [letterS]
theorem made_size (s : ByteArray) (h : s.size = 7) : (s ++ letterS s).size = 8 := by
  rw [ByteArray.size_append, h]; rfl
theorem made_id (s : ByteArray) (h : sevenB s = true) : idB (s ++ letterS s) = true := by
  have h7 := ((sevenB_iff s).1 h).1
  have h8 := made_size s h7
  have hh : head7 (s ++ letterS s) = s := by
    unfold head7
    have hl : s.data.toList.length = 7 := by rw [Array.length_toList]; exact h7
    have := cut_is (s ++ letterS s) 0 7 s.data.toList (by rw [made_list, List.drop_zero, List.take_append_of_le_length (by omega), List.take_of_length_le (by omega)])
    rw [this]
  rw [idB_iff]
  refine ⟨h8, by rw [hh]; exact h, ?_⟩
  rw [hh, ← letterB_toNat]
  congr 1
  rw [byteAt_lt _ 7 (by omega)]
  obtain ⟨a, b, c, d, e, f, g, rfl⟩ := bytes7 s h7
  rfl

theorem dig_lt (a b : Nat) : decide (dig a < dig b) = decide (a % 10 < b % 10) := by
  rw [decide_eq_decide, UInt8.lt_iff_toNat_lt, dig_toNat, dig_toNat]; omega
theorem dig_beq (a b : Nat) : (dig a == dig b) = decide (a % 10 = b % 10) := by
  rw [Bool.eq_iff_iff, beq_iff_eq, decide_eq_true_iff, ← UInt8.toNat_inj, dig_toNat, dig_toNat]; omega
/-- Four digits of a greater number are not less and not the same. -/
theorem four_gt (m : Nat) (h : m < 9999) : (Op.bytesLess (four (m + 1)) (four m) || four (m + 1) == four m) = false := by
  rw [← Bool.not_eq_true]
  simp only [four, Op.bytesLess, List.cons_beq_cons, dig_lt, dig_beq, Bool.or_eq_true, Bool.and_eq_true, decide_eq_true_eq, Bool.or_false, Bool.and_false]
  omega

/-- The identifier that follows: an identifier, with the same letters and greater digits. -/
theorem next_facts (s : ByteArray) (h : idB s = true) (h9 : ¬ num4 s = 9999) : idB (nextOf s) = true ∧ (nextOf s).size = 8 ∧ (nextOf s).extract 0 3 = s.extract 0 3 ∧ (Op.bytesLess ((nextOf s).extract 3 7).toList (s.extract 3 7).toList || ((nextOf s).extract 3 7).toList == (s.extract 3 7).toList) = false := by
  obtain ⟨f1, f2, f3, f4⟩ := head_facts s h
  have hup := upper_of_seven _ f1
  rw [f3] at hup
  have hsv := seven_numS (s.extract 0 3) (num4 s + 1) hup
  have hn4 : num4 s ≤ 9999 := by rw [← f2]; exact num4_le _ f1
  have hL : (s.extract 0 3).data.toList.length = 3 := by rw [Array.length_toList]; exact hup.1
  have hlist : (nextOf s).data.toList = (s.extract 0 3).data.toList ++ (four (num4 s + 1) ++ [letterB (numS (s.extract 0 3) (num4 s + 1))]) := by
    unfold nextOf
    rw [made_list]
    show ((s.extract 0 3).data.toList ++ four (num4 s + 1)) ++ _ = _
    rw [List.append_assoc]
  have e37 : ((nextOf s).extract 3 7).toList = four (num4 s + 1) := by
    rw [ByteArray.toList_eq, cut_list, hlist, List.drop_append_of_le_length (by omega), List.drop_of_length_le (by omega)]
    rfl
  have s37 : (s.extract 3 7).toList = four (num4 s) := by
    rw [f4, ByteArray.toList_eq]
    obtain ⟨a, b, c, d, e, f, g, ht, hd, he, hf, hg⟩ := digits_of_seven _ f1
    rw [← f2, ht, num4_bytes, cut_is (⟨#[a, b, c, d, e, f, g]⟩ : ByteArray) 3 _ [d, e, f, g] rfl]
    show [d, e, f, g] = four _
    unfold four
    have dg : ∀ (x : UInt8) (y : Nat), 48 ≤ x.toNat → x.toNat ≤ 57 → y % 10 = x.toNat - 48 → x = dig y := fun x y h1 h2 h3 => by
      rw [← UInt8.toNat_inj, dig_toNat, h3]; omega
    rw [← dg d _ hd.1 hd.2 (by omega), ← dg e _ he.1 he.2 (by omega), ← dg f _ hf.1 hf.2 (by omega), ← dg g _ hg.1 hg.2 (by omega)]
  refine ⟨made_id _ hsv, ?_, ?_, ?_⟩
  · exact made_size _ ((sevenB_iff _).1 hsv).1
  · apply ByteArray.ext
    rw [← Array.toList_inj, cut_list, hlist, List.drop_zero, List.take_append_of_le_length (by omega), List.take_of_length_le (by omega)]
  · rw [e37, s37]
    exact four_gt _ (by omega)
end Go.Proofs.YtpckcaejmkhdnaaDoor
