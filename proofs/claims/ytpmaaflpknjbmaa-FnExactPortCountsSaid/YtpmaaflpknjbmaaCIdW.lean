/-
  What the two IsValidId functions return. No statement of the seat by itself.
-/
import Derived.Test.YtpmaaflpknjbmaaCCheck
import Derived.Deep.QuietTactic
import Derived.BigQuiet
import Derived.RegionTactic
import Derived.ChangeAlike
import Derived.Below
import Derived.Laws.StructEq
namespace Go.Proofs.Ytpmaaflpknjbmaa.C
open Go.RowKit

theorem calls_flip {P : Program} {f : FuncId} {args : Array Value} {w : World} {v : Value} (h : Calls P f args w fun e w' => e = .returned v ∧ w = w') : Calls P f args w fun e w' => e = .returned v ∧ w' = w :=
  h.mono fun _ _ ⟨he, hw⟩ => ⟨he, hw.symm⟩
theorem l2Seven_is (s : ByteArray) (b : Bool) (h : sevenB s = b) (w : World) (hs : s.size ≤ maxLen) : Calls Try.prog 60 #[.string s] w fun e w' => e = .returned (.bool b) ∧ w' = w := by
  subst h; exact calls_flip (l2Seven_any s w hs)

theorem byte_eq (s : ByteArray) (h8 : 7 < s.size) : ((s[7].toNat : Int) == ((letterB (s.extract 0 7)).toNat : Int)) = decide ((byteAt s 7).toNat = 65 + checkR (head7 s)) := by
  rw [byteAt_lt s 7 h8, ← letterB_toNat]
  show _ = decide (s[7].toNat = (letterB (s.extract 0 7)).toNat)
  rw [Bool.eq_iff_iff]; simp; omega

set_option maxHeartbeats 1000000 in
theorem l2Id_any (s : ByteArray) (w : World) (hs : s.size ≤ maxLen) :
    Calls Try.prog 49 #[.string s] w fun e w' => e = .returned (.bool (idB s)) ∧ ∃ n, w' = w.drewN n := by
  have hs' := hs
  unfold maxLen at hs'
  by_cases h8 : s.size = 8
  · have hsz : (s.extract 0 7).size ≤ maxLen := by rw [ByteArray.size_extract]; unfold maxLen; omega
    have HZ := Lib.hid hsz
    have H8 := Lib.hid h8
    have e8 : ((s.size : Int) == 8) = true := by simp [h8]
    have g8 : 7 < s.size := by omega
    have g7 : 7 ≤ s.size := by omega
    have g8i : (7 : Int) < (s.size : Int) := by omega
    clear h8 hsz hs
    cases h : sevenB (s.extract 0 7) with
    | false =>
      have HN : Hid (idB s = false) := Lib.hid (id_seven s h)
      have H := Lib.hid h
      clear h
      go_enter Try.func49, Try.ntmps49
      go_wp2_with fail
      go_quiet ((go_at_call 60; exact Calls.quiet_of_same (l2Seven_is _ _ H.out _ HZ.out)))
      go_wp2_with fail
      go_ret
      exact ⟨by rw [HN.out]; rfl, _, rfl⟩
    | true =>
      have H := Lib.hid h
      clear h
      have HB := Lib.hid (byte_eq s g8)
      have HI : Hid (idB s = decide ((byteAt s 7).toNat = 65 + checkR (head7 s))) := Lib.hid (by
        unfold idB
        rw [show sevenB (head7 s) = true from H.out, H8.out]; simp)
      go_enter Try.func49, Try.ntmps49
      go_wp2_with fail
      go_quiet ((first | (go_at_call 60; exact Calls.quiet_of_same (l2Seven_is _ _ H.out _ HZ.out)) | (go_at_call 61; exact Calls.quiet_of_same (calls_flip (l2Check_any _ _ H.out)))))
      go_wp2_with fail
      go_ret
      exact ⟨by rw [HI.out, ← HB.out]; rfl, _, rfl⟩
  · have HN := Lib.hid (id_size s h8)
    have e8 : ((s.size : Int) == 8) = false := by simp; omega
    clear h8
    go_enter Try.func49, Try.ntmps49
    go_wp2_with fail
    go_quiet (fail)
    go_wp2_with fail
    go_ret
    exact ⟨by rw [HN.out]; rfl, _, rfl⟩
theorem idFor_yes (s : ByteArray) (w : World) (h : sevenB s = true) (hs : s.size ≤ maxLen) :
    Calls Try.prog 62 #[.string s] w fun e w' => e = .returned (.tuple #[.agg #[.string s, .string (letterS s)], .bool true]) ∧ Below w.heap.size w w' := by
  have H := Lib.hid h
  clear h
  go_enter Try.func62, Try.ntmps62
  go_wp2_with (go_at_call 83; refine (implLetter_yes s _ H.out hs).mono ?_; rintro e w' ⟨rfl, rfl⟩)
  exact bodyPost_ret (v := .tuple #[.agg #[.string s, .string (letterS s)], .bool true]) (by simp [results, Try.results62, go_sem]) rfl ⟨rfl, ((Below.refl _ _).alloc (Nat.le_refl _) _)⟩
theorem idFor_no (s : ByteArray) (w : World) (h : sevenB s = false) (hs : s.size ≤ maxLen) :
    Calls Try.prog 62 #[.string s] w fun e w' => e = .returned (.tuple #[.agg #[.string ⟨#[]⟩, .string ⟨#[]⟩], .bool false]) ∧ Below w.heap.size w w' := by
  have H := Lib.hid h
  clear h
  go_enter Try.func62, Try.ntmps62
  go_wp2_with (go_at_call 83; refine (implLetter_no s _ H.out hs).mono ?_; rintro e w' ⟨rfl, rfl⟩)
  exact bodyPost_ret (v := .tuple #[.agg #[.string ⟨#[]⟩, .string ⟨#[]⟩], .bool false]) (by simp [results, Try.results62, go_sem]) rfl ⟨rfl, ((Below.refl _ _).alloc (Nat.le_refl _) _)⟩

theorem below_drew1 {n : Nat} {w w1 : World} (h : Below n w w1) : Below n w w1.drew := ⟨h.os, h.tape, h.output, h.size, h.block⟩
theorem bcell {W w1 : World} (hb : Below W.heap.size W w1) : (∀ b o, b < W.heap.size → w1.cell? ⟨b, o, none⟩ = W.cell? ⟨b, o, none⟩) ∧ (∀ b o, b < W.heap.size → w1.frozen? ⟨b, o, none⟩ = W.frozen? ⟨b, o, none⟩) :=
  ⟨fun b o h => hb.cell (p := ⟨b, o, none⟩) h, fun b o h => hb.frozen (p := ⟨b, o, none⟩) h⟩
theorem last_list (s : ByteArray) (h8 : s.size = 8) : (s.extract 7 s.size).toList = [byteAt s 7] := by
  have g8 : 7 < s.size := by omega
  rw [byteAt_lt s 7 g8, ByteArray.toList_eq, ByteArray.data_extract, Array.toList_extract, List.extract_eq_take_drop, List.drop_eq_getElem_cons (by simpa using g8), h8]
  rfl
theorem last_eq (s : ByteArray) (h8 : s.size = 8) : ((s.extract 7 s.size).toList == (letterS (s.extract 0 7)).toList) = decide ((byteAt s 7).toNat = 65 + checkR (head7 s)) := by
  rw [last_list s h8, ← letterB_toNat, ByteArray.toList_eq]
  show ([byteAt s 7] == [letterB (head7 s)]) = _
  rw [Bool.eq_iff_iff]
  simp [UInt8.toNat_inj]

set_option maxHeartbeats 1000000 in
theorem implId_any (s : ByteArray) (w : World) (hs : s.size ≤ maxLen) :
    Calls Try.prog 50 #[.string s] w fun e w' => e = .returned (.bool (idB s)) ∧ Below w.heap.size w w' := by
  have hs' := hs
  unfold maxLen at hs'
  by_cases h8 : s.size = 8
  · have hsz : (s.extract 0 7).size ≤ maxLen := by rw [ByteArray.size_extract]; unfold maxLen; omega
    have HZ := Lib.hid hsz
    have H8 := Lib.hid h8
    have e8 : ((s.size : Int) != 8) = false := by simp [h8]
    have g7i : (7 : Int) ≤ (s.size : Int) := by omega
    have g7 : 7 ≤ s.size := by omega
    clear h8 hsz hs
    cases h : sevenB (s.extract 0 7) with
    | false =>
      have HN : Hid (idB s = false) := Lib.hid (id_seven s h)
      have H := Lib.hid h
      clear h
      go_enter Try.func50, Try.ntmps50
      go_wp2_with fail
      go_region
      go_wp2_with (go_at_call 62; refine (idFor_no _ _ H.out HZ.out).mono ?_; rintro e w1 ⟨rfl, hb⟩)
      go_ret
      have hz : w.heap.size < w1.heap.size := by have := hb.size; simp at this; omega
      exact ⟨by rw [HN.out]; rfl, ((below_drew1 ((Below.refl _ w).alloc (Nat.le_refl _) _)).trans (hb.mono (by simp))).alloc (by omega) _⟩
    | true =>
      have H := Lib.hid h
      clear h
      have HL := Lib.hid (last_eq s H8.out)
      have HI : Hid (idB s = decide ((byteAt s 7).toNat = 65 + checkR (head7 s))) := Lib.hid (by
        unfold idB
        rw [show sevenB (head7 s) = true from H.out, H8.out]; simp)
      go_enter Try.func50, Try.ntmps50
      go_wp2_with fail
      go_region
      go_wp2_with fail
      refine (idFor_yes _ _ H.out HZ.out).mono ?_
      rintro e w1 ⟨rfl, hb⟩
      have hz : w.heap.size < w1.heap.size := by have := hb.size; simp at this; omega
      have c0 : w1.cell? ⟨w.heap.size, 0, none⟩ = some (.string (s.extract 0 7)) := (hb.cell (p := ⟨w.heap.size, 0, none⟩) (by simp)).trans (by simp)
      have c1 : w1.cell? ⟨w.heap.size, 1, none⟩ = some (.string (s.extract 7 s.size)) := (hb.cell (p := ⟨w.heap.size, 1, none⟩) (by simp)).trans (by simp)
      have B := Lib.hid hb
      clear hb
      have BB : Hid (Below w.heap.size w w1) := Lib.hid ((below_drew1 ((Below.refl _ w).alloc (Nat.le_refl _) _)).trans (B.out.mono (by simp)))
      cases hq : ((s.extract 7 s.size).toList == (letterS (s.extract 0 7)).toList) with
      | true =>
        have HV : Hid (idB s = true) := Lib.hid (by rw [HI.out, ← HL.out, hq])
        go_wp2_with fail
        go_ret
        exact ⟨by rw [HV.out]; rfl, BB.out.alloc (by omega) _⟩
      | false =>
        have HV : Hid (idB s = false) := Lib.hid (by rw [HI.out, ← HL.out, hq])
        go_wp2_with fail
        go_ret
        exact ⟨by rw [HV.out]; rfl, BB.out.alloc (by omega) _⟩
  · have HN := Lib.hid (id_size s h8)
    have e8 : ((s.size : Int) != 8) = true := by simp; omega
    clear h8
    go_enter Try.func50, Try.ntmps50
    go_wp2_with fail
    go_ret
    exact ⟨by rw [HN.out]; rfl, Below.refl _ _⟩
end Go.Proofs.Ytpmaaflpknjbmaa.C
