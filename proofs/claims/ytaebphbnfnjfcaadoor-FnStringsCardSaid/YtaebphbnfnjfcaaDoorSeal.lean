/-
  Texts with their checksums: what spec.l1Seal, spec.AppendChecksum and impl.AppendChecksum return. No statement of the seat by itself.
-/
import Derived.Test.YtaebphbnfnjfcaaDoorNum
import Derived.Test.YtaebphbnfnjfcaaDoorRead
import Derived.Test.YtaebphbnfnjfcaaDoorSum
import Derived.Test.YtaebphbnfnjfcaaDoorJoinI
namespace Go.Proofs.YtaebphbnfnjfcaaDoor
open Go.RowKit

/-- The decimal checksum of a text. -/
def digs (s : ByteArray) : List UInt8 := Lib.itoa (sumOf s.data.toList)
theorem digs_len (s : ByteArray) : (digs s).length ≤ 6 := by
  have h := sumOf_bd s.data.toList
  unfold digs
  obtain ⟨m, hm⟩ : ∃ m : Nat, sumOf s.data.toList = (m : Int) := ⟨(sumOf s.data.toList).toNat, by omega⟩
  rw [hm, itoa_of_nat]
  exact dd_len 5 m (by omega)
theorem dd_mem (k : Nat) : ∀ m, m < 10 ^ (k + 1) → ∀ b ∈ Lib.decDigits m, 48 ≤ b.toNat := by
  induction k with
  | zero =>
    intro m h b hb
    have h' : m < 10 := by simpa using h
    rw [dd_small m h'] at hb
    rw [List.mem_singleton.1 hb, UInt8.toNat_ofNat']; omega
  | succ k ih =>
    intro m h b hb
    by_cases hm : m < 10
    · rw [dd_small m hm] at hb
      rw [List.mem_singleton.1 hb, UInt8.toNat_ofNat']; omega
    · rw [dd_big m hm] at hb
      rcases List.mem_append.1 hb with h1 | h1
      · exact ih (m / 10) (by rw [Nat.div_lt_iff_lt_mul (by decide)]; rw [Nat.pow_succ] at h; exact h) b h1
      · rw [List.mem_singleton.1 h1, UInt8.toNat_ofNat']; omega
theorem digs_mem (s : ByteArray) : ∀ b ∈ digs s, 48 ≤ b.toNat := by
  have h := sumOf_bd s.data.toList
  unfold digs
  obtain ⟨m, hm⟩ : ∃ m : Nat, sumOf s.data.toList = (m : Int) := ⟨(sumOf s.data.toList).toNat, by omega⟩
  rw [hm, itoa_of_nat]
  exact dd_mem 5 m (by omega)
theorem digs_sep (s : ByteArray) : sepIn ⟨(digs s).toArray⟩ 35 = false := by
  unfold sepIn
  rw [← Bool.not_eq_true, List.contains_iff_mem]
  intro h
  have := digs_mem s 35 (by simpa using h)
  simp at this

/-- A text with its checksum. -/
def sealOf (s : ByteArray) : ByteArray := ⟨(s.data.toList ++ [35] ++ digs s).toArray⟩
theorem sealOf_size (s : ByteArray) : (sealOf s).size = s.size + 1 + (digs s).length := by
  show (s.data.toList ++ [35] ++ digs s).toArray.size = _
  simp; omega

/-- What both functions answer. -/
def sealAns (s : ByteArray) : ByteArray × Bool := if s.size ≤ 4000 ∧ sepIn s 35 = false ∧ (sealOf s).size ≤ 4000 then (sealOf s, true) else (⟨#[]⟩, false)

theorem add_seal (s : ByteArray) (d : List UInt8) : s ++ (⟨#[35]⟩ : ByteArray) ++ ⟨d.toArray⟩ = ⟨(s.data.toList ++ [35] ++ d).toArray⟩ := by
  apply ByteArray.ext
  simp

set_option maxHeartbeats 400000 in
theorem l1Seal_any (s : ByteArray) (hs : s.size ≤ 1048576) (w : World) :
    Calls Tryd.prog 34 #[.string s] w fun e w' => e = .returned (.string (sealOf s)) ∧ ∃ k, w' = w.drewN k := by
  have hb := sumOf_bd s.data.toList
  have hl : (Lib.itoa (sumOf s.data.toList)).length ≤ 6 := digs_len s
  go_enter Tryd.func34, Tryd.ntmps34
  go_wp2_with (first | (go_at_call 43; refine (l1Sum_any s _ (by unfold maxLen; omega)).mono ?_; rintro e w' ⟨rfl, rfl⟩) | (go_at_call 25; refine (l1Num_any _ _ (by omega) (by omega)).mono ?_; rintro e w' ⟨rfl, k, rfl⟩))
  go_ret
  exact ⟨ret_str (add_seal _ _), _, rfl⟩

theorem stands_hash (s : ByteArray) (b : Bool) (h : sepIn s 35 = b) (hs : s.size ≤ 1048576) (w : World) :
    Calls Tryd.prog 33 #[.string s, .int .u8 35] w fun e w' => e = .returned (.bool b) ∧ w' = w := stands_is s 35 b h hs w

set_option maxHeartbeats 1000000 in
theorem specSeal_any (s : ByteArray) (hs : s.size ≤ 1048576) (w : World) :
    Calls Tryd.prog 17 #[.string s] w fun e w' => e = .returned (.tuple #[.string (sealAns s).1, .bool (sealAns s).2]) ∧ ∃ k, w' = w.drewN k := by
  by_cases h1 : 4000 < s.size
  · have HA : Hid (sealAns s = (⟨#[]⟩, false)) := Lib.hid (by unfold sealAns; rw [if_neg (by omega)])
    have hb : decide (4000 < (s.size : Int)) = true := by simp; omega
    go_enter Tryd.func17, Tryd.ntmps17
    go_wp2_with fail
    go_ret2
    exact ⟨ret_strb HA.out, 0, rfl⟩
  · have hb : decide (4000 < (s.size : Int)) = false := by simp; omega
    by_cases h2 : sepIn s 35 = true
    · have HA : Hid (sealAns s = (⟨#[]⟩, false)) := Lib.hid (by unfold sealAns; rw [if_neg (by simp [h2])])
      have HS := Lib.hid h2
      clear h2
      go_enter Tryd.func17, Tryd.ntmps17
      go_wp2_with (go_at_call 33; refine (stands_hash s true HS.out hs _).mono ?_; rintro e w' ⟨rfl, rfl⟩)
      go_ret2
      exact ⟨ret_strb HA.out, 0, rfl⟩
    · have h2' : sepIn s 35 = false := by simpa using h2
      have HS := Lib.hid h2'
      by_cases h3 : 4000 < (sealOf s).size
      · have HA : Hid (sealAns s = (⟨#[]⟩, false)) := Lib.hid (by unfold sealAns; rw [if_neg (by omega)])
        have hb3 : decide (4000 < ((sealOf s).size : Int)) = true := by simp; omega
        clear h2 h2'
        go_enter Tryd.func17, Tryd.ntmps17
        go_wp2_with (first | (go_at_call 33; refine (stands_hash s false HS.out hs _).mono ?_; rintro e w' ⟨rfl, rfl⟩) | (go_at_call 34; refine (l1Seal_any s hs _).mono ?_; rintro e w' ⟨rfl, k, rfl⟩))
        go_ret2
        exact ⟨ret_strb HA.out, _, rfl⟩
      · have HA : Hid (sealAns s = (sealOf s, true)) := Lib.hid (by unfold sealAns; rw [if_pos ⟨by omega, h2', by omega⟩])
        have hb3 : decide (4000 < ((sealOf s).size : Int)) = false := by simp; omega
        clear h2 h2'
        go_enter Tryd.func17, Tryd.ntmps17
        go_wp2_with (first | (go_at_call 33; refine (stands_hash s false HS.out hs _).mono ?_; rintro e w' ⟨rfl, rfl⟩) | (go_at_call 34; refine (l1Seal_any s hs _).mono ?_; rintro e w' ⟨rfl, k, rfl⟩))
        go_ret2
        exact ⟨ret_strb HA.out, _, rfl⟩

/-- The two texts that are joined. -/
def sealF (s : ByteArray) (j : Nat) : ByteArray := if j = 0 then s else ⟨(digs s).toArray⟩

theorem seal_join (s : ByteArray) (hs : s.size ≤ 4000) : joinAns (sealF s) 2 35 = sealAns s := by
  have e : (List.range 2).map (sealF s) = [s, ⟨(digs s).toArray⟩] := rfl
  have hd : (⟨(digs s).toArray⟩ : ByteArray).size = (digs s).length := by show (digs s).toArray.size = _; simp
  have hj : joinL (sealF s) 2 35 = s.data.toList ++ [35] ++ digs s := by
    rw [joinL_succ _ 1 _ (by decide), joinL_one]
    rfl
  have hz := sealOf_size s
  unfold joinAns sealAns
  rw [e]
  simp only [roomAfter, digs_sep s]
  by_cases h1 : sepIn s 35 = true
  · simp [h1]
  · have h1' : sepIn s 35 = false := by simpa using h1
    have h2 : s.size < 4001 := by omega
    by_cases h3 : (sealOf s).size ≤ 4000
    · have h4 : (⟨(digs s).toArray⟩ : ByteArray).size < 4001 - (s.size + 1) := by rw [hd]; omega
      rw [if_pos (show s.size ≤ 4000 ∧ sepIn s 35 = false ∧ (sealOf s).size ≤ 4000 from ⟨hs, h1', h3⟩)]
      simp only [h1', h2, h4, decide_true]
      simp [hj, sealOf]
    · have h4 : ¬ (⟨(digs s).toArray⟩ : ByteArray).size < 4001 - (s.size + 1) := by rw [hd]; omega
      rw [if_neg (show ¬ (s.size ≤ 4000 ∧ sepIn s 35 = false ∧ (sealOf s).size ≤ 4000) from fun h => h3 h.2.2)]
      simp [h1', h2]
      omega

theorem seal_row (W : World) (s : ByteArray) (t : TypeId) (ht : t = 9) : RowAt (W.alloc (.cells #[.string s, .string ⟨(digs s).toArray⟩] t)) W.heap.size 2 2 (sealF s) := by
  subst ht
  refine ⟨#[.string s, .string ⟨(digs s).toArray⟩], World.alloc_heap_new W _, Nat.le_refl _, rfl, fun j hj => ?_⟩
  match j, hj with
  | 0, _ => rfl
  | 1, _ => rfl

theorem digs_size (s : ByteArray) : (⟨(digs s).toArray⟩ : ByteArray).size ≤ 6 := by
  have := digs_len s
  show (digs s).toArray.size ≤ 6
  simpa using this

theorem sealF_size (s : ByteArray) (hs : s.size ≤ 1048576) : ∀ j, j < 2 → (sealF s j).size ≤ 1048576 := by
  intro j hj
  unfold sealF
  split
  · exact hs
  · have := digs_size s; omega

set_option maxRecDepth 100000 in
set_option maxHeartbeats 1000000 in
theorem implSeal_any (s : ByteArray) (hs : s.size ≤ 1048576) (w : World) (htab : Lib.TabIs Tryd.prog w "internal/strconv.uint64pow10" .u64 Lib.pow10Tab) :
    Calls Tryd.prog 16 #[.string s] w fun e w' => e = .returned (.tuple #[.string (sealAns s).1, .bool (sealAns s).2]) ∧ Below w.heap.size w w' := by
  have HT := Lib.hid htab
  clear htab
  by_cases h1 : 4000 < s.size
  · have HA : Hid (sealAns s = (⟨#[]⟩, false)) := Lib.hid (by unfold sealAns; rw [if_neg (by omega)])
    go_enter Tryd.func16, Tryd.ntmps16
    go_wp2_with (go_at_call 31; refine (implSum_long s _ h1).mono ?_; rintro e w' ⟨rfl, rfl⟩)
    go_ret2
    exact ⟨ret_strb HA.out, Below.refl _ _⟩
  · have h4 : s.size ≤ 4000 := by omega
    have hb := sumOf_bd s.data.toList
    have HJ := Lib.hid (seal_join s h4)
    have HD : Hid (⟨(Lib.itoa (sumOf s.data.toList)).toArray⟩ = (⟨(digs s).toArray⟩ : ByteArray)) := Lib.hid rfl
    go_enter Tryd.func16, Tryd.ntmps16
    go_wp2_with (first | (go_at_call 31; refine (implSum_any s _ h4).mono ?_; rintro e w' ⟨rfl, rfl⟩) | (go_at_call 10; refine (implFormat_in _ _ (by omega) (by omega) HT.out).mono ?_; rintro e w1 ⟨rfl, hb1⟩; rw [HD.out]))
    refine (implJoin_rows w1.heap.size 2 2 (sealF s) 35 (by decide) (sealF_size s hs) _ (seal_row w1 s 9 rfl)).mono ?_
    rintro e w2 ⟨rfl, hb2⟩
    have HB : Hid (Below w.heap.size w w2) := Lib.hid ((hb1.alloc hb1.size _).trans (hb2.mono (by have := hb1.size; simp; omega)))
    clear hb1 hb2
    go_wp2_with fail
    go_ret2
    exact ⟨by rw [← HJ.out]; rfl, HB.out⟩
end Go.Proofs.YtaebphbnfnjfcaaDoor
