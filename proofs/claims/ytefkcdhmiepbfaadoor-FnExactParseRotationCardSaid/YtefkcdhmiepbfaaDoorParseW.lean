/-
  What spec.l1Read returns: the specification's reading of a decimal numeral. No statement of the seat by itself.
-/
import Derived.Test.YtefkcdhmiepbfaaDoorNum
import Derived.Test.YtefkcdhmiepbfaaDoorRead
import Derived.WalkKit
import Derived.Lib.Hide
import Derived.IntWalk
import Derived.Lib.IndexBytes
namespace Go.Proofs.YtefkcdhmiepbfaaDoor
open Go.RowKit

theorem l1In_yes (a lo hi : Int) (w : World) (h1 : lo ≤ a) (h2 : a ≤ hi) :
    Calls Tryd.prog 54 #[.int .i64 a, .int .i64 lo, .int .i64 hi] w fun e w' => e = .returned (.bool true) ∧ w = w' := by
  go_enter Tryd.func54, Tryd.ntmps54
  go_wp2_with fail
  go_ret
  exact ⟨by simp, rfl⟩
theorem l1In_no (a lo hi : Int) (w : World) (h : a < lo ∨ hi < a) :
    Calls Tryd.prog 54 #[.int .i64 a, .int .i64 lo, .int .i64 hi] w fun e w' => e = .returned (.bool false) ∧ w = w' := by
  by_cases h1 : a < lo
  · go_enter Tryd.func54, Tryd.ntmps54
    go_wp2_with fail
    go_ret
    exact ⟨rfl, rfl⟩
  · have h2 : hi < a := by omega
    have h3 : decide (a ≤ hi) = false := by simp; omega
    clear h
    go_enter Tryd.func54, Tryd.ntmps54
    go_wp2_with fail
    go_ret
    exact ⟨by simp, rfl⟩

theorem val_int {k : IntKind} {a b : Int} (h : a = b) : Value.int k a = .int k b := by rw [h]
theorem ret_pair {a : Int} {c : Bool} {x : Int × Bool} (h : x = (a, c)) : Ending.returned (.tuple #[.int .i64 a, .bool c]) = .returned (.tuple #[.int .i64 x.1, .bool x.2]) := by rw [h]
theorem str_eq (a : List UInt8) (s : ByteArray) (h : a = s.data.toList) : ((⟨a.toArray⟩ : ByteArray).toList == s.toList) = true ∧ (a == s.toList) = true := by
  rw [ByteArray.toList_eq, ByteArray.toList_eq]; simp [h]
theorem str_ne (a : List UInt8) (s : ByteArray) (h : ¬ a = s.data.toList) : ((⟨a.toArray⟩ : ByteArray).toList == s.toList) = false ∧ (a == s.toList) = false := by
  rw [ByteArray.toList_eq, ByteArray.toList_eq]; simp [h]
theorem read_step (t : ByteArray) (k m : Nat) (h : k < t.size) (hd : Lib.decFrom 0 (t.data.toList.take k) = some m) (d1 : 48 ≤ t[k].toNat) (d2 : t[k].toNat ≤ 57) :
    Lib.decFrom 0 (t.data.toList.take (k + 1)) = some (m * 10 + (t[k].toNat - 48)) :=
  Lib.decFrom_take t.data.toList k 0 m t[k] _ hd (by rw [List.getElem?_eq_getElem (by simpa using h)]; rfl) (by unfold Lib.digitVal; rw [if_pos ⟨d1, d2⟩])
theorem read_step_lt (t : ByteArray) (k m : Nat) (h : k < t.size) (h6 : t.size ≤ 6) (hd : Lib.decFrom 0 (t.data.toList.take k) = some m) (d1 : 48 ≤ t[k].toNat) (d2 : t[k].toNat ≤ 57) :
    m * 10 + (t[k].toNat - 48) < 1000000 := by
  have := Lib.decFrom_lt _ _ _ (read_step t k m h hd d1 d2)
  have hl : (t.data.toList.take (k + 1)).length ≤ 6 := by simp; omega
  have hp : 10 ^ (t.data.toList.take (k + 1)).length ≤ 10 ^ 6 := Nat.pow_le_pow_right (by decide) hl
  omega
theorem read_all (t : ByteArray) (k m : Nat) (hk : k ≤ t.size) (h : ¬ k < t.size) (hd : Lib.decFrom 0 (t.data.toList.take k) = some m) : Lib.decFrom 0 t.data.toList = some m := by
  rw [List.take_of_length_le (by simp; omega)] at hd
  exact hd
theorem readL_bad (l b : List UInt8) (k : Nat) (c : UInt8) (hb : b = bodyOf l) (hc : b[k]? = some c) (hd : ¬ (48 ≤ c.toNat ∧ c.toNat ≤ 57)) : readL l = (0, false) := by
  have hn : Lib.decFrom 0 (bodyOf l) = none := by
    cases h : Lib.decFrom 0 (bodyOf l) with
    | none => rfl
    | some n =>
      obtain ⟨d, e⟩ := Lib.digit_of_decFrom _ _ _ h k c (hb ▸ hc)
      unfold Lib.digitVal at e
      rw [if_neg hd] at e
      cases e
  unfold readL
  rw [hn]
  split <;> rfl
theorem readL_yes (l b : List UInt8) (m : Nat) (v : Int) (hb : b = bodyOf l) (h1 : 1 ≤ b.length) (h6 : b.length ≤ 6) (hd : Lib.decFrom 0 b = some m) (hv : rawOf l m = v) (hi : Lib.itoa v = l) : readL l = (v, true) := by
  subst hb
  unfold readL
  rw [if_pos ⟨h1, h6⟩, hd]
  simp only [hv]
  rw [if_pos hi]
theorem readL_no (l b : List UInt8) (m : Nat) (v : Int) (hb : b = bodyOf l) (hd : Lib.decFrom 0 b = some m) (hv : rawOf l m = v) (hi : ¬ Lib.itoa v = l) : readL l = (0, false) := by
  subst hb
  unfold readL
  rw [hd]
  simp only [hv]
  rw [if_neg hi]
  split <;> rfl
theorem readL_len (l : List UInt8) (h : ¬ (1 ≤ (bodyOf l).length ∧ (bodyOf l).length ≤ 6)) : readL l = (0, false) := by
  unfold readL; rw [if_neg h]
theorem body_plain (l : List UInt8) (h : ¬ (1 < l.length ∧ l.head? = some 45)) : l = bodyOf l := by
  unfold bodyOf; rw [if_neg h]
theorem raw_plain (l : List UInt8) (h : l = bodyOf l) (n : Nat) : rawOf l n = (n : Int) := by
  unfold rawOf; rw [← h, if_neg (by omega)]

set_option maxHeartbeats 1000000 in
theorem l1Read_A (s : ByteArray) (w : World) (hs : s.size = 1) (H1 : Hid (s.data.toList = bodyOf s.data.toList)) :
    Calls Tryd.prog 30 #[.string s] w fun e w' => e = .returned (.tuple #[.int .i64 (readL s.data.toList).1, .bool (readL s.data.toList).2]) ∧ ∃ k, w' = w.drewN k := by
  have hb : decide (1 < (s.size : Int)) = false := by simp; omega
  have hb2 : decide ((s.size : Int) < (s.size : Int)) = false := by simp
  have HT := H1
  have HV := Lib.hid (raw_plain _ H1.out)
  have h1 : 1 ≤ s.size := by omega
  have h6 : s.size ≤ 6 := by omega
  clear hs H1
  go_enter Tryd.func30, Tryd.ntmps30
  go_wp2_with (go_at_call 54; refine (l1In_yes _ _ _ _ (by omega) (by omega)).mono ?_; rintro e w' ⟨rfl, rfl⟩)
  go_loop [5, 6] (fun n i => ∃ k m : Nat, k ≤ s.size ∧ i = .int .i64 k ∧ n = .int .i64 m ∧ Hid (Lib.decFrom 0 (s.data.toList.take k) = some m) ∧ m < 1000000) (fun _ i => s.size - (intOf i).toNat)
  case atStart => exact ⟨0, 0, Nat.zero_le _, rfl, rfl, Lib.hid rfl, by decide⟩
  case round =>
    obtain ⟨k, m, hk, rfl, rfl, HD, hm⟩ := hrel
    by_cases hlt : k < s.size
    · by_cases hd : 48 ≤ s[k].toNat ∧ s[k].toNat ≤ 57
      · obtain ⟨d1, d2⟩ := hd
        have e1 : 48 ≤ (s[k].toNat : Int) := by omega
        have e2 : (s[k].toNat : Int) ≤ 57 := by omega
        have HN := Lib.hid (read_step s k m hlt HD.out d1 d2)
        have hm' := read_step_lt s k m hlt h6 HD.out d1 d2
        go_wp2_with fail
        go_round
        case rel => exact ⟨k + 1, m * 10 + (s[k].toNat - 48), by omega, by go_num, val_int (by omega), HN, hm'⟩
        case measure => simp [intOf]; omega
      · have HR := Lib.hid (readL_bad s.data.toList s.data.toList k s[k] HT.out (by simp [hlt]; rfl) hd)
        by_cases hlo : s[k].toNat < 48
        · have e1 : (s[k].toNat : Int) < 48 := by omega
          clear hd
          go_wp2_with fail
          go_ret2
          exact ⟨ret_pair HR.out, 0, rfl⟩
        · have e1 : 48 ≤ (s[k].toNat : Int) := by omega
          have e2 : 57 < (s[k].toNat : Int) := by omega
          clear hd
          go_wp2_with fail
          go_ret2
          exact ⟨ret_pair HR.out, 0, rfl⟩
    · have HF := Lib.hid (read_all s k m hk hlt HD.out)
      by_cases hi : Lib.itoa (m : Int) = s.data.toList
      · obtain ⟨hc1, hc2⟩ := str_eq _ s hi
        have HR := Lib.hid (readL_yes s.data.toList s.data.toList m (m : Int) HT.out h1 h6 HF.out (HV.out m) hi)
        clear hi
        go_wp2_with (go_at_call 55; refine (l1Num_any (m : Int) _ (by omega) (by omega)).mono ?_; rintro e w' ⟨rfl, q, rfl⟩)
        go_ret2
        exact ⟨ret_pair HR.out, _, rfl⟩
      · obtain ⟨hc1, hc2⟩ := str_ne _ s hi
        have HR := Lib.hid (readL_no s.data.toList s.data.toList m (m : Int) HT.out HF.out (HV.out m) hi)
        clear hi
        go_wp2_with (go_at_call 55; refine (l1Num_any (m : Int) _ (by omega) (by omega)).mono ?_; rintro e w' ⟨rfl, q, rfl⟩)
        go_ret2
        exact ⟨ret_pair HR.out, _, rfl⟩

set_option maxHeartbeats 1000000 in
theorem l1Read_B (s : ByteArray) (w : World) (hs : 1 < s.size) (h6 : s.size ≤ 6) (h0 : ((s[0].toNat : Int) == 45) = false) (H1 : Hid (s.data.toList = bodyOf s.data.toList)) :
    Calls Tryd.prog 30 #[.string s] w fun e w' => e = .returned (.tuple #[.int .i64 (readL s.data.toList).1, .bool (readL s.data.toList).2]) ∧ ∃ k, w' = w.drewN k := by
  have hb : decide (1 < (s.size : Int)) = true := by simp; omega
  have hb2 : decide ((s.size : Int) < (s.size : Int)) = false := by simp
  have HT := H1
  have HV := Lib.hid (raw_plain _ H1.out)
  have h1 : 1 ≤ s.size := by omega
  clear H1
  go_enter Tryd.func30, Tryd.ntmps30
  go_wp2_with (go_at_call 54; refine (l1In_yes _ _ _ _ (by omega) (by omega)).mono ?_; rintro e w' ⟨rfl, rfl⟩)
  go_loop [5, 6] (fun n i => ∃ k m : Nat, k ≤ s.size ∧ i = .int .i64 k ∧ n = .int .i64 m ∧ Hid (Lib.decFrom 0 (s.data.toList.take k) = some m) ∧ m < 1000000) (fun _ i => s.size - (intOf i).toNat)
  case atStart => exact ⟨0, 0, Nat.zero_le _, rfl, rfl, Lib.hid rfl, by decide⟩
  case round =>
    obtain ⟨k, m, hk, rfl, rfl, HD, hm⟩ := hrel
    by_cases hlt : k < s.size
    · by_cases hd : 48 ≤ s[k].toNat ∧ s[k].toNat ≤ 57
      · obtain ⟨d1, d2⟩ := hd
        have e1 : 48 ≤ (s[k].toNat : Int) := by omega
        have e2 : (s[k].toNat : Int) ≤ 57 := by omega
        have HN := Lib.hid (read_step s k m hlt HD.out d1 d2)
        have hm' := read_step_lt s k m hlt h6 HD.out d1 d2
        go_wp2_with fail
        go_round
        case rel => exact ⟨k + 1, m * 10 + (s[k].toNat - 48), by omega, by go_num, val_int (by omega), HN, hm'⟩
        case measure => simp [intOf]; omega
      · have HR := Lib.hid (readL_bad s.data.toList s.data.toList k s[k] HT.out (by simp [hlt]; rfl) hd)
        by_cases hlo : s[k].toNat < 48
        · have e1 : (s[k].toNat : Int) < 48 := by omega
          clear hd
          go_wp2_with fail
          go_ret2
          exact ⟨ret_pair HR.out, 0, rfl⟩
        · have e1 : 48 ≤ (s[k].toNat : Int) := by omega
          have e2 : 57 < (s[k].toNat : Int) := by omega
          clear hd
          go_wp2_with fail
          go_ret2
          exact ⟨ret_pair HR.out, 0, rfl⟩
    · have HF := Lib.hid (read_all s k m hk hlt HD.out)
      by_cases hi : Lib.itoa (m : Int) = s.data.toList
      · obtain ⟨hc1, hc2⟩ := str_eq _ s hi
        have HR := Lib.hid (readL_yes s.data.toList s.data.toList m (m : Int) HT.out h1 h6 HF.out (HV.out m) hi)
        clear hi
        go_wp2_with (go_at_call 55; refine (l1Num_any (m : Int) _ (by omega) (by omega)).mono ?_; rintro e w' ⟨rfl, q, rfl⟩)
        go_ret2
        exact ⟨ret_pair HR.out, _, rfl⟩
      · obtain ⟨hc1, hc2⟩ := str_ne _ s hi
        have HR := Lib.hid (readL_no s.data.toList s.data.toList m (m : Int) HT.out HF.out (HV.out m) hi)
        clear hi
        go_wp2_with (go_at_call 55; refine (l1Num_any (m : Int) _ (by omega) (by omega)).mono ?_; rintro e w' ⟨rfl, q, rfl⟩)
        go_ret2
        exact ⟨ret_pair HR.out, _, rfl⟩

theorem body_neg (s : ByteArray) (hs : 1 < s.size) (h : s[0].toNat = 45) : (s.extract 1 s.size).data.toList = bodyOf s.data.toList ∧ ∀ n : Nat, rawOf s.data.toList n = -(n : Int) := by
  have hl : 1 < s.data.toList.length := by simpa using hs
  have hh : s.data.toList.head? = some 45 := by
    have e : s[0] = 45 := UInt8.toNat_inj.1 h
    rw [List.head?_eq_getElem?, List.getElem?_eq_getElem (by omega)]
    exact congrArg some e
  have hb : bodyOf s.data.toList = s.data.toList.tail := by unfold bodyOf; rw [if_pos ⟨hl, hh⟩]
  constructor
  · rw [hb, Lib.extract_to_end]; simp
  · intro n; unfold rawOf; rw [hb, if_pos (by simp; omega)]

set_option maxHeartbeats 1000000 in
theorem l1Read_C (s : ByteArray) (w : World) (hs : 1 < s.size) (h7 : s.size ≤ 7) (h0 : ((s[0].toNat : Int) == 45) = true) (H1 : Hid ((s.extract 1 s.size).data.toList = bodyOf s.data.toList)) (HV : Hid (∀ n : Nat, rawOf s.data.toList n = -(n : Int))) :
    Calls Tryd.prog 30 #[.string s] w fun e w' => e = .returned (.tuple #[.int .i64 (readL s.data.toList).1, .bool (readL s.data.toList).2]) ∧ ∃ k, w' = w.drewN k := by
  have hb : decide (1 < (s.size : Int)) = true := by simp; omega
  go_enter Tryd.func30, Tryd.ntmps30
  go_wp2_with (go_at_call 54; refine (l1In_yes _ _ _ _ (by omega) (by omega)).mono ?_; rintro e w' ⟨rfl, rfl⟩)
  have hsz : (s.extract 1 s.size).size = s.size - 1 := by simp
  generalize s.extract 1 s.size = t at *
  have h1 : 1 ≤ t.size := by omega
  have h6 : t.size ≤ 6 := by omega
  have hts : t.size < s.size := by omega
  have HT := H1
  have HZ := Lib.hid hsz
  clear H1 hsz
  go_loop [5, 6] (fun n i => ∃ k m : Nat, k ≤ t.size ∧ i = .int .i64 k ∧ n = .int .i64 m ∧ Hid (Lib.decFrom 0 (t.data.toList.take k) = some m) ∧ m < 1000000) (fun _ i => t.size - (intOf i).toNat)
  case atStart => exact ⟨0, 0, Nat.zero_le _, rfl, rfl, Lib.hid rfl, by decide⟩
  case round =>
    obtain ⟨k, m, hk, rfl, rfl, HD, hm⟩ := hrel
    by_cases hlt : k < t.size
    · by_cases hd : 48 ≤ t[k].toNat ∧ t[k].toNat ≤ 57
      · obtain ⟨d1, d2⟩ := hd
        have e1 : 48 ≤ (t[k].toNat : Int) := by omega
        have e2 : (t[k].toNat : Int) ≤ 57 := by omega
        have HN := Lib.hid (read_step t k m hlt HD.out d1 d2)
        have hm' := read_step_lt t k m hlt h6 HD.out d1 d2
        go_wp2_with fail
        go_round
        case rel => exact ⟨k + 1, m * 10 + (t[k].toNat - 48), by omega, by go_num, val_int (by omega), HN, hm'⟩
        case measure => simp [intOf]; omega
      · have HR := Lib.hid (readL_bad s.data.toList t.data.toList k t[k] HT.out (by simp [hlt]; rfl) hd)
        by_cases hlo : t[k].toNat < 48
        · have e1 : (t[k].toNat : Int) < 48 := by omega
          clear hd
          go_wp2_with fail
          go_ret2
          exact ⟨ret_pair HR.out, 0, rfl⟩
        · have e1 : 48 ≤ (t[k].toNat : Int) := by omega
          have e2 : 57 < (t[k].toNat : Int) := by omega
          clear hd
          go_wp2_with fail
          go_ret2
          exact ⟨ret_pair HR.out, 0, rfl⟩
    · have HF := Lib.hid (read_all t k m hk hlt HD.out)
      by_cases hi : Lib.itoa (-(m : Int)) = s.data.toList
      · obtain ⟨hc1, hc2⟩ := str_eq _ s hi
        have HR := Lib.hid (readL_yes s.data.toList t.data.toList m (-(m : Int)) HT.out h1 h6 HF.out (HV.out m) hi)
        clear hi
        go_wp2_with (go_at_call 55; refine (l1Num_any (-(m : Int)) _ (by omega) (by omega)).mono ?_; rintro e w' ⟨rfl, q, rfl⟩)
        go_ret2
        exact ⟨ret_pair HR.out, _, rfl⟩
      · obtain ⟨hc1, hc2⟩ := str_ne _ s hi
        have HR := Lib.hid (readL_no s.data.toList t.data.toList m (-(m : Int)) HT.out HF.out (HV.out m) hi)
        clear hi
        go_wp2_with (go_at_call 55; refine (l1Num_any (-(m : Int)) _ (by omega) (by omega)).mono ?_; rintro e w' ⟨rfl, q, rfl⟩)
        go_ret2
        exact ⟨ret_pair HR.out, _, rfl⟩

theorem l1Read_out (s : ByteArray) (w : World) (h : s.size < 1 ∨ 6 < s.size) (h0 : ∀ h : 1 < s.size, ((s[0].toNat : Int) == 45) = false) (H1 : Hid (readL s.data.toList = (0, false))) :
    Calls Tryd.prog 30 #[.string s] w fun e w' => e = .returned (.tuple #[.int .i64 (readL s.data.toList).1, .bool (readL s.data.toList).2]) ∧ ∃ k, w' = w.drewN k := by
  by_cases hs : 1 < s.size
  · have hb : decide (1 < (s.size : Int)) = true := by simp; omega
    have h0' := h0 hs
    have hsz : 6 < s.size := by omega
    clear h0 h
    go_enter Tryd.func30, Tryd.ntmps30
    go_wp2_with (go_at_call 54; refine (l1In_no _ _ _ _ (by omega)).mono ?_; rintro e w' ⟨rfl, rfl⟩)
    go_ret2
    exact ⟨ret_pair H1.out, 0, rfl⟩
  · have hb : decide (1 < (s.size : Int)) = false := by simp; omega
    have hsz : s.size < 1 := by omega
    clear h0 h
    go_enter Tryd.func30, Tryd.ntmps30
    go_wp2_with (go_at_call 54; refine (l1In_no _ _ _ _ (by omega)).mono ?_; rintro e w' ⟨rfl, rfl⟩)
    go_ret2
    exact ⟨ret_pair H1.out, 0, rfl⟩

theorem l1Read_outneg (s : ByteArray) (w : World) (_hs : 1 < s.size) (h7 : 7 < s.size) (hm : s.size ≤ 1048576) (h0 : ((s[0].toNat : Int) == 45) = true) (H1 : Hid (readL s.data.toList = (0, false))) :
    Calls Tryd.prog 30 #[.string s] w fun e w' => e = .returned (.tuple #[.int .i64 (readL s.data.toList).1, .bool (readL s.data.toList).2]) ∧ ∃ k, w' = w.drewN k := by
  have hb : decide (1 < (s.size : Int)) = true := by simp; omega
  go_enter Tryd.func30, Tryd.ntmps30
  go_wp2_with (go_at_call 54; refine (l1In_no _ _ _ _ (by omega)).mono ?_; rintro e w' ⟨rfl, rfl⟩)
  go_ret2
  exact ⟨ret_pair H1.out, 0, rfl⟩

theorem l1Read_any (s : ByteArray) (w : World) (hm : s.size ≤ 1048576) :
    Calls Tryd.prog 30 #[.string s] w fun e w' => e = .returned (.tuple #[.int .i64 (readL s.data.toList).1, .bool (readL s.data.toList).2]) ∧ ∃ k, w' = w.drewN k := by
  have hlen : s.data.toList.length = s.size := by simp
  by_cases h0 : ∃ h : 1 < s.size, s[0].toNat = 45
  · obtain ⟨hs, h45⟩ := h0
    obtain ⟨hb, hv⟩ := body_neg s hs h45
    have hc : ((s[0].toNat : Int) == 45) = true := by rw [h45]; rfl
    by_cases h7 : s.size ≤ 7
    · exact l1Read_C s w hs h7 hc (Lib.hid hb) (Lib.hid hv)
    · refine l1Read_outneg s w hs (by omega) hm hc (Lib.hid (readL_len _ ?_))
      rw [← hb, Lib.extract_to_end]
      simp; omega
  · have hh : ¬ (1 < s.data.toList.length ∧ s.data.toList.head? = some 45) := by
      rintro ⟨h1, h2⟩
      have h1' : 1 < s.size := by omega
      apply h0
      refine ⟨h1', ?_⟩
      rw [List.head?_eq_getElem?, List.getElem?_eq_getElem (by omega)] at h2
      have e : s[0] = 45 := Option.some.inj h2
      rw [e]; rfl
    have hb := body_plain _ hh
    have hc : ∀ h : 1 < s.size, ((s[0].toNat : Int) == 45) = false := by
      intro h
      rw [beq_eq_false_iff_ne]
      intro e
      exact h0 ⟨h, by omega⟩
    by_cases h : s.size < 1 ∨ 6 < s.size
    · refine l1Read_out s w h hc (Lib.hid (readL_len _ ?_))
      rw [← hb]; omega
    · by_cases h1 : s.size = 1
      · exact l1Read_A s w h1 (Lib.hid hb)
      · exact l1Read_B s w (by omega) (by omega) (hc (by omega)) (Lib.hid hb)
end Go.Proofs.YtefkcdhmiepbfaaDoor
