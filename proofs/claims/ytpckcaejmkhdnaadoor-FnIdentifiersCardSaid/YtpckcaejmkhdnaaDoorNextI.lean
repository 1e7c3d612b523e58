/-
  What impl.nextSerial and impl.NextId return. No statement of the seat by itself.
-/
import Derived.Test.YtpckcaejmkhdnaaDoorIdW
import Derived.Test.YtpckcaejmkhdnaaDoorNextM
import Derived.Test.YtpckcaejmkhdnaaDoorLaid
import Derived.Lib.AppendIntMem
import Derived.Lib.AtoiErrMem
import Derived.Lib.SmallJoins
import Derived.Lib.BufferOld
import Derived.Deep.LoopGhost
namespace Go.Proofs.YtpckcaejmkhdnaaDoor
open Go.RowKit

theorem below_drewN {n : Nat} {w w1 : World} (h : Below n w w1) (k : Nat) : Below n w (w1.drewN k) := ⟨h.os, h.tape, h.output, h.size, h.block⟩
theorem itoa_nat (m : Nat) : Lib.itoa (m : Int) = Lib.decDigits m := by
  unfold Lib.itoa; rw [if_neg (by omega)]; rfl
theorem atoi_good (s : ByteArray) (n : Int) (hl : s.size ≤ 18) (h : Lib.atoi s.data.toList = some n) (w : World) :
    Calls Tryd.prog 32 #[.string s] w fun e w' => e = .returned (.tuple #[.int .i64 n, .nilIface]) ∧ Below w.heap.size w w' :=
  (Tryd.strconv_Atoi s n hl h w).mono fun e w' ⟨he, t, hw⟩ => ⟨he, by rw [hw]; exact Lib.bytesWorld_below _ _ _⟩

set_option maxHeartbeats 1000000 in
theorem nextSerial_no (t : ByteArray) (w : World) (h : sevenB t = true) (h9 : num4 t = 9999) :
    Calls Tryd.prog 23 #[.string t] w fun e w' => e = .returned (.tuple #[.string ⟨#[]⟩, .bool false]) ∧ Below w.heap.size w w' := by
  obtain ⟨h4, ha⟩ := tail_is t h
  have hn := nines t h
  rw [h9] at hn
  have hn' : ((t.extract 3 t.size).toList == [57, 57, 57, 57]) = true := by simpa using hn
  have hsz := ((sevenB_iff t).1 h).1
  have g3 : 3 ≤ t.size := by omega
  have g3i : (3 : Int) ≤ (t.size : Int) := by omega
  have K4 := Lib.hid (show (t.extract 3 t.size).size ≤ 18 by omega)
  have KA := Lib.hid ha
  clear h4 ha hn hsz h h9
  go_enter Tryd.func23, Tryd.ntmps23
  go_wp2_with fail
  go_quiet (fail)
  go_wp2_with fail
  refine (atoi_good _ _ K4.out KA.out _).mono ?_
  rintro e w1 ⟨rfl, hb1⟩
  have B1 : Hid (Below w.heap.size w w1) := Lib.hid ((below_drewN (Below.refl _ w) nq).trans hb1)
  clear hb1
  go_wp2_with fail
  go_ret2
  exact ⟨rfl, B1.out⟩

/-- The buffer while it is filled up: the letters and k zeros. -/
def Fill (w wr : World) (B : Nat) (l : List UInt8) (k : Nat) : Prop := Lib.IsBuffer 56 5 B B (Lib.byteCells (l ++ List.replicate k 48)) wr ∧ Below w.heap.size w wr ∧ w.heap.size ≤ B ∧ B ≤ wr.heap.size
theorem rep_snoc (l : List UInt8) (k : Nat) : Lib.byteCells (l ++ List.replicate k 48) ++ [Value.int .u8 48] = Lib.byteCells (l ++ List.replicate (k + 1) 48) := by
  rw [List.replicate_succ', ← List.append_assoc, Lib.byteCells_append (l ++ List.replicate k 48)]; rfl

set_option maxRecDepth 100000 in
set_option maxHeartbeats 2000000 in
theorem nextSerial_yes (t : ByteArray) (w : World) (h : sevenB t = true) (h9 : ¬ num4 t = 9999) (htab : Lib.TabIs Tryd.prog w "internal/strconv.uint64pow10" .u64 Lib.pow10Tab) :
    Calls Tryd.prog 23 #[.string t] w fun e w' => e = .returned (.tuple #[.string (numS (t.extract 0 3) (num4 t + 1)), .bool true]) ∧ Below w.heap.size w w' := by
  obtain ⟨h4, ha⟩ := tail_is t h
  have hn := nines t h
  have hn' : ((t.extract 3 t.size).toList == [57, 57, 57, 57]) = false := by rw [hn]; simpa using h9
  have hsz := ((sevenB_iff t).1 h).1
  have hle := num4_le t h
  have hL : (t.extract 0 3).size = 3 := (upper_of_seven t h).1
  obtain ⟨p1, p2, p3⟩ := pads (num4 t + 1) (by omega)
  have g3 : 3 ≤ t.size := by omega
  have g3i : (3 : Int) ≤ (t.size : Int) := by omega
  have K4 := Lib.hid (show (t.extract 3 t.size).size ≤ 18 by omega)
  have KA := Lib.hid ha
  have HT := Lib.hid (Lib.tabBelow_of_tabIs htab)
  have KL : Hid ((t.extract 0 3).data.toList.length = 3) := Lib.hid (by rw [Array.length_toList]; exact hL)
  have hq1 : (Lib.decDigits (num4 t + 1)).length = (⟨(Lib.decDigits (num4 t + 1)).toArray⟩ : ByteArray).size := by simp [ByteArray.size]
  have KI : Hid (Lib.itoa ((num4 t : Int) + 1) = Lib.decDigits (num4 t + 1)) := Lib.hid (itoa_nat (num4 t + 1))
  have KP : Hid (List.replicate (4 - (Lib.decDigits (num4 t + 1)).length) 48 ++ Lib.decDigits (num4 t + 1) = four (num4 t + 1)) := Lib.hid p3
  generalize hD : (⟨(Lib.decDigits (num4 t + 1)).toArray⟩ : ByteArray) = D at *
  have KD := Lib.hid hD
  have KQ := Lib.hid hq1
  rw [hq1] at p1 p2
  clear h4 ha hn hsz h h9 htab hL p3 hq1 hD
  generalize num4 t = m at *
  go_enter Tryd.func23, Tryd.ntmps23
  go_wp2_with fail
  go_quiet (fail)
  go_wp2_with fail
  refine (atoi_good _ _ K4.out KA.out _).mono ?_
  rintro e w1 ⟨rfl, hb1⟩
  have B1 : Hid (Below w.heap.size w w1) := Lib.hid ((below_drewN (Below.refl _ w) nq).trans hb1)
  clear hb1
  go_wp2_with fail
  refine (Tryd.strconv_Itoa _ (by omega) (by omega) _ (HT.out _ B1.out)).mono ?_
  rw [KI.out, KD.out]
  rintro e w2 ⟨rfl, k2, os2, hw2⟩
  have B2 : Hid (Below w.heap.size w w2) := Lib.hid (by rw [hw2]; exact B1.out.trans (Lib.below_grow _ _ B1.out.size _ _))
  clear hw2
  go_wp2_with fail
  refine (Tryd.Buffer_WriteString w2.heap.size w2.heap.size [] (t.extract 0 3) _ (Lib.fresh_isBuffer 56 5 w2) (by simp) (by simp) (by have := KL.out; rw [Array.length_toList] at this; simp; omega)).mono ?_
  rintro e w3 ⟨rfl, h3, b3⟩
  have F3 : Hid (Fill w w3 w2.heap.size (t.extract 0 3).data.toList 0) := Lib.hid ⟨by simpa using h3, B2.out.trans ((((Below.refl _ w2).alloc (Nat.le_refl _) _).trans b3).mono B2.out.size), B2.out.size, by have := b3.size; simp at this; omega⟩
  clear h3 b3
  go_wp2_with fail
  go_loopg [30] 4 (fun gg _ wr => ∃ k : Nat, k + D.size ≤ 4 ∧ 4 - k ≤ gg ∧ Hid (Fill w wr w2.heap.size (t.extract 0 3).data.toList k))
  case atStart => exact ⟨0, by omega, by omega, F3⟩
  case round =>
    obtain ⟨k, hk, hg, FK⟩ := hrel
    obtain ⟨hI, hB, hb1, hb2⟩ := FK.out
    have hlen : (Lib.byteCells ((t.extract 0 3).data.toList ++ List.replicate k 48)).length = 3 + k := by rw [Lib.byteCells_length, List.length_append, KL.out]; simp
    have KLen := Lib.hid hlen
    clear hlen
    go_wp2_with fail
    refine (Tryd.Buffer_Len _ _ _ _ hI).mono ?_
    rw [KLen.out]
    rintro e w4 ⟨rfl, n4, hw4⟩
    have I4 : Hid (Lib.IsBuffer 56 5 w2.heap.size w2.heap.size (Lib.byteCells ((t.extract 0 3).data.toList ++ List.replicate k 48)) w4) := Lib.hid (by rw [hw4]; exact hI)
    have B4 : Hid (Below w.heap.size w w4) := Lib.hid (by rw [hw4]; exact below_drewN hB n4)
    have S4 : w2.heap.size ≤ w4.heap.size := by rw [hw4]; exact hb2
    clear hw4 hI hB hb2
    by_cases hlt : k + D.size < 4
    · go_wp2_with fail
      refine (Tryd.Buffer_WriteByte _ _ _ 48 _ I4.out S4 (Lib.byteCells_one _) (by rw [KLen.out]; omega)).mono ?_
      rintro e w5 ⟨rfl, h5, b5⟩
      rw [rep_snoc] at h5
      have F5 : Hid (Fill w w5 w2.heap.size (t.extract 0 3).data.toList (k + 1)) := Lib.hid ⟨h5, B4.out.trans (b5.mono hb1), hb1, Nat.le_trans S4 b5.size⟩
      clear h5 b5
      go_wp2_with fail
      go_roundg (4 - (k + 1))
      case measure => omega
      case rel => exact ⟨k + 1, by omega, by omega, F5⟩
    · have KE : Hid (k = 4 - D.size) := Lib.hid (by omega)
      go_wp2_with fail
      refine (Tryd.Buffer_WriteString _ _ _ D _ I4.out S4 (Lib.byteCells_one _) (by rw [KLen.out]; omega)).mono ?_
      rintro e w5 ⟨rfl, h5, b5⟩
      rw [← Lib.byteCells_append] at h5
      have I5 := Lib.hid h5
      have B5 : Hid (Below w.heap.size w w5) := Lib.hid (B4.out.trans (b5.mono hb1))
      clear h5 b5
      go_wp2_with fail
      refine (Tryd.Buffer_String _ _ _ _ I5.out).mono ?_
      rintro e w6 ⟨rfl, n6, hw6⟩
      have B6 : Hid (Below w.heap.size w w6) := Lib.hid (by rw [hw6]; exact below_drewN B5.out n6)
      clear hw6
      go_wp2_with fail
      go_ret2
      refine ⟨?_, B6.out⟩
      have e1 : List.take 3 t.data.toList ++ (List.replicate k 48 ++ D.data.toList) = (t.extract 0 3).data.toList ++ four (m + 1) := by
        rw [← KP.out, KE.out, KQ.out, ← KD.out, cut_list]; rfl
      rw [e1]
      rfl

set_option maxHeartbeats 1000000 in
theorem implNext_bad (s : ByteArray) (w : World) (h : idB s = false) (hs : s.size ≤ maxLen) :
    Calls Tryd.prog 11 #[.string s] w fun e w' => e = .returned (.tuple #[.string ⟨#[]⟩, .bool false]) ∧ Below w.heap.size w w' := by
  have H := Lib.hid h
  have HS := Lib.hid hs
  clear h hs
  go_enter Tryd.func11, Tryd.ntmps11
  go_wp2_with fail
  refine (implId_any s _ HS.out).mono ?_
  rw [H.out]
  rintro e w1 ⟨rfl, hb⟩
  have B := Lib.hid hb
  clear hb
  go_wp2_with fail
  go_ret2
  exact ⟨rfl, B.out⟩
set_option maxHeartbeats 1000000 in
theorem implNext_last (s : ByteArray) (w : World) (h : idB s = true) (h9 : num4 s = 9999) :
    Calls Tryd.prog 11 #[.string s] w fun e w' => e = .returned (.tuple #[.string ⟨#[]⟩, .bool false]) ∧ Below w.heap.size w w' := by
  have hsz := ((idB_iff s).1 h).1
  obtain ⟨f1, f2, f3, f4⟩ := head_facts s h
  have H := Lib.hid h
  have HS := Lib.hid (show s.size ≤ maxLen by unfold maxLen; omega)
  have g7 : 7 ≤ s.size := by omega
  have g7i : (7 : Int) ≤ (s.size : Int) := by omega
  have K1 := Lib.hid f1
  have K2 := Lib.hid (f2.trans h9)
  clear h h9 hsz f1 f2 f3 f4
  go_enter Tryd.func11, Tryd.ntmps11
  go_wp2_with fail
  refine (implId_any s _ HS.out).mono ?_
  rw [H.out]
  rintro e w1 ⟨rfl, hb⟩
  have B := Lib.hid hb
  clear hb
  go_wp2_with fail
  refine (nextSerial_no _ _ K1.out K2.out).mono ?_
  rintro e w2 ⟨rfl, hb2⟩
  have B2 : Hid (Below w.heap.size w w2) := Lib.hid (B.out.trans (hb2.mono B.out.size))
  clear hb2
  go_wp2_with fail
  go_ret2
  exact ⟨rfl, B2.out⟩

/-- The identifier that follows. -/
def nextOf (s : ByteArray) : ByteArray := numS (s.extract 0 3) (num4 s + 1) ++ letterS (numS (s.extract 0 3) (num4 s + 1))

set_option maxHeartbeats 1000000 in
theorem implNext_yes (s : ByteArray) (w : World) (h : idB s = true) (h9 : ¬ num4 s = 9999) (htab : Lib.TabIs Tryd.prog w "internal/strconv.uint64pow10" .u64 Lib.pow10Tab) :
    Calls Tryd.prog 11 #[.string s] w fun e w' => e = .returned (.tuple #[.string (nextOf s), .bool true]) ∧ Below w.heap.size w w' := by
  have hsz := ((idB_iff s).1 h).1
  obtain ⟨f1, f2, f3, f4⟩ := head_facts s h
  have hnx := fun W => nextSerial_yes (s.extract 0 7) W f1 (by rw [f2]; exact h9)
  have hup := upper_of_seven _ f1
  rw [f2, f3] at hnx
  rw [f3] at hup
  have HX := Lib.hid hnx
  have H := Lib.hid h
  have HS := Lib.hid (show s.size ≤ maxLen by unfold maxLen; omega)
  have HT := Lib.hid (Lib.tabBelow_of_tabIs htab)
  have g7 : 7 ≤ s.size := by omega
  have g7i : (7 : Int) ≤ (s.size : Int) := by omega
  have hv := seven_numS (s.extract 0 3) (num4 s + 1) hup
  unfold nextOf
  generalize numS (s.extract 0 3) (num4 s + 1) = N at *
  have KV := Lib.hid hv
  have hnz := ((sevenB_iff N).1 hv).1
  have hnz1 : N.size ≤ 7 := by omega
  have KN := Lib.hid (show N.size ≤ maxLen by unfold maxLen; omega)
  have hlz : (letterS N).size ≤ 1 := by unfold letterS; exact Nat.le_refl _
  clear h h9 hsz f1 f2 f3 f4 hnx htab hup hv hnz
  go_enter Tryd.func11, Tryd.ntmps11
  go_wp2_with fail
  refine (implId_any s _ HS.out).mono ?_
  rw [H.out]
  rintro e w1 ⟨rfl, hb⟩
  have B := Lib.hid hb
  clear hb
  go_wp2_with fail
  refine (HX.out _ (HT.out _ B.out)).mono ?_
  rintro e w2 ⟨rfl, hb2⟩
  have B2 : Hid (Below w.heap.size w w2) := Lib.hid (B.out.trans (hb2.mono B.out.size))
  clear hb2
  go_wp2_with fail
  refine (idFor_yes _ _ KV.out KN.out).mono ?_
  rintro e w3 ⟨rfl, hb3⟩
  have B3 : Hid (Below w.heap.size w w3) := Lib.hid (B2.out.trans (hb3.mono B2.out.size))
  clear hb3
  go_wp2_with fail
  go_ret2
  exact ⟨rfl, B3.out.alloc B3.out.size _⟩
end Go.Proofs.YtpckcaejmkhdnaaDoor
