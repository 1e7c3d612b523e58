/-
  What spec.l2Number returns. No statement of the seat by itself.
-/
import Derived.Test.YtpckcaejmkhdnaaDoorNextI
namespace Go.Proofs.YtpckcaejmkhdnaaDoor
open Go.RowKit

theorem ten_cases (d : Nat) (h : d < 10) : d = 0 ∨ d = 1 ∨ d = 2 ∨ d = 3 ∨ d = 4 ∨ d = 5 ∨ d = 6 ∨ d = 7 ∨ d = 8 ∨ d = 9 := by omega
theorem str_snoc (l : List UInt8) (x : ByteArray) (c : UInt8) (h : x = ⟨#[c]⟩) : (⟨l.toArray⟩ : ByteArray) ++ x = ⟨(l ++ [c]).toArray⟩ := by
  subst h
  apply ByteArray.ext
  simp
theorem val_str {a b : ByteArray} (h : a = b) : Value.string a = .string b := by rw [h]
/-- The divisor of round k. -/
def divK (k : Nat) : Nat := if k = 0 then 1000 else if k = 1 then 100 else if k = 2 then 10 else if k = 3 then 1 else 0
/-- The text after k digits. -/
def digK (m k : Nat) : UInt8 := if k = 0 then dig (m / 1000) else if k = 1 then dig (m / 100) else if k = 2 then dig (m / 10) else dig m
def upK (L : ByteArray) (m k : Nat) : List UInt8 := L.data.toList ++ (four m).take k
theorem upK_len (L : ByteArray) (m k : Nat) (h : L.size = 3) : (upK L m k).length ≤ 100 := by
  unfold upK four; simp; have : L.data.size = 3 := h; omega
theorem upK_snoc (L : ByteArray) (m k : Nat) (hk : k < 4) : upK L m (k + 1) = upK L m k ++ [digK m k] := by
  unfold upK
  rw [List.append_assoc]
  congr 1
  match k, hk with
  | 0, _ => rfl
  | 1, _ => rfl
  | 2, _ => rfl
  | 3, _ => rfl
theorem dig_at (q r : Nat) (h : q % 10 = r) : dig q = UInt8.ofNat (48 + r) := by unfold dig; rw [h]

set_option maxRecDepth 100000 in
set_option maxHeartbeats 4000000 in
theorem l2Number_any (L : ByteArray) (m : Nat) (w : World) (hL : Upper3 L) (hm : m ≤ 9999) :
    Calls Tryd.prog 25 #[.string L, .int .i64 (m : Int)] w fun e w' => e = .returned (.string (numS L m ++ letterS (numS L m))) ∧ Below w.heap.size w w' := by
  have K7 := Lib.hid (seven_numS L m hL)
  have KZ := Lib.hid hL.1
  clear hL
  go_enter Tryd.func25, Tryd.ntmps25
  go_wp2_with fail
  go_loopw [5, 6] (fun s d wr => ∃ (k : Nat) (l : List UInt8) (D : Int), k ≤ 4 ∧ Hid (l = upK L m k ∧ D = (divK k : Int)) ∧ s = .string ⟨l.toArray⟩ ∧ d = .int .i64 D ∧ Hid (Below w.heap.size w wr)) (fun _ d _ => (intOf d).toNat)
  case atStart => exact ⟨0, L.data.toList, 1000, by omega, Lib.hid ⟨by simp [upK], rfl⟩, rfl, rfl, Lib.hid (Below.refl _ _)⟩
  case round =>
    obtain ⟨k, l, D, hk, KK, rfl, rfl, HB⟩ := hrel
    have hll : l.length ≤ 100 := by rw [KK.out.1]; exact upK_len L m k KZ.out
    by_cases hlt : k < 4
    · have KD := Lib.hid (upK_snoc L m k hlt)
      rcases (show k = 0 ∨ k = 1 ∨ k = 2 ∨ k = 3 by omega) with rfl | rfl | rfl | rfl
      · obtain ⟨q, hq⟩ : ∃ q : Nat, q = m / 1000 := ⟨_, rfl⟩
        obtain ⟨el, eD⟩ := KK.out
        simp [divK] at eD
        subst eD
        have f1 : (m : Int).tdiv 1000 = (q : Int) := by rw [hq]; rfl
        have f1' : (m : Int) / 1000 = (q : Int) := by omega
        have KE : Hid (digK m 0 = dig q) := Lib.hid (by rw [hq]; rfl)
        have HL := Lib.hid el
        have hqb : q ≤ 9999 := by omega
        clear hq el
        obtain ⟨r, hr⟩ : ∃ r : Nat, q % 10 = r := ⟨_, rfl⟩
        have f2 : (q : Int).tmod 10 = (r : Int) := by show ((q % 10 : Nat) : Int) = r; omega
        have f2' : (q : Int) % 10 = (r : Int) := by omega
        have HR := Lib.hid (dig_at q r hr)
        have hr10 : r < 10 := by omega
        clear hr
        rcases ten_cases r hr10 with rfl | rfl | rfl | rfl | rfl | rfl | rfl | rfl | rfl | rfl
        all_goals
          simp only [Int.cast_ofNat_Int] at f2 f2'
          clear hr10
          go_wp2_with fail
          go_quiet (fail)
          go_wp2_with fail
          refine ⟨⟨1, l ++ [dig q], 100, by omega, Lib.hid ⟨by rw [HL.out, KD.out, KE.out], rfl⟩, val_str (by rw [HR.out]; exact str_snoc _ _ _ (by decide)), rfl, Lib.hid (below_drewN HB.out nq)⟩, by simp [intOf]⟩
      · obtain ⟨q, hq⟩ : ∃ q : Nat, q = m / 100 := ⟨_, rfl⟩
        obtain ⟨el, eD⟩ := KK.out
        simp [divK] at eD
        subst eD
        have f1 : (m : Int).tdiv 100 = (q : Int) := by rw [hq]; rfl
        have f1' : (m : Int) / 100 = (q : Int) := by omega
        have KE : Hid (digK m 1 = dig q) := Lib.hid (by rw [hq]; rfl)
        have HL := Lib.hid el
        have hqb : q ≤ 9999 := by omega
        clear hq el
        obtain ⟨r, hr⟩ : ∃ r : Nat, q % 10 = r := ⟨_, rfl⟩
        have f2 : (q : Int).tmod 10 = (r : Int) := by show ((q % 10 : Nat) : Int) = r; omega
        have f2' : (q : Int) % 10 = (r : Int) := by omega
        have HR := Lib.hid (dig_at q r hr)
        have hr10 : r < 10 := by omega
        clear hr
        rcases ten_cases r hr10 with rfl | rfl | rfl | rfl | rfl | rfl | rfl | rfl | rfl | rfl
        all_goals
          simp only [Int.cast_ofNat_Int] at f2 f2'
          clear hr10
          go_wp2_with fail
          go_quiet (fail)
          go_wp2_with fail
          refine ⟨⟨2, l ++ [dig q], 10, by omega, Lib.hid ⟨by rw [HL.out, KD.out, KE.out], rfl⟩, val_str (by rw [HR.out]; exact str_snoc _ _ _ (by decide)), rfl, Lib.hid (below_drewN HB.out nq)⟩, by simp [intOf]⟩
      · obtain ⟨q, hq⟩ : ∃ q : Nat, q = m / 10 := ⟨_, rfl⟩
        obtain ⟨el, eD⟩ := KK.out
        simp [divK] at eD
        subst eD
        have f1 : (m : Int).tdiv 10 = (q : Int) := by rw [hq]; rfl
        have f1' : (m : Int) / 10 = (q : Int) := by omega
        have KE : Hid (digK m 2 = dig q) := Lib.hid (by rw [hq]; rfl)
        have HL := Lib.hid el
        have hqb : q ≤ 9999 := by omega
        clear hq el
        obtain ⟨r, hr⟩ : ∃ r : Nat, q % 10 = r := ⟨_, rfl⟩
        have f2 : (q : Int).tmod 10 = (r : Int) := by show ((q % 10 : Nat) : Int) = r; omega
        have f2' : (q : Int) % 10 = (r : Int) := by omega
        have HR := Lib.hid (dig_at q r hr)
        have hr10 : r < 10 := by omega
        clear hr
        rcases ten_cases r hr10 with rfl | rfl | rfl | rfl | rfl | rfl | rfl | rfl | rfl | rfl
        all_goals
          simp only [Int.cast_ofNat_Int] at f2 f2'
          clear hr10
          go_wp2_with fail
          go_quiet (fail)
          go_wp2_with fail
          refine ⟨⟨3, l ++ [dig q], 1, by omega, Lib.hid ⟨by rw [HL.out, KD.out, KE.out], rfl⟩, val_str (by rw [HR.out]; exact str_snoc _ _ _ (by decide)), rfl, Lib.hid (below_drewN HB.out nq)⟩, by simp [intOf]⟩
      · obtain ⟨q, hq⟩ : ∃ q : Nat, q = m := ⟨_, rfl⟩
        obtain ⟨el, eD⟩ := KK.out
        simp [divK] at eD
        subst eD
        have f1 : (m : Int).tdiv 1 = (q : Int) := by rw [hq]; exact Int.tdiv_one _
        have f1' : (m : Int) / 1 = (q : Int) := by omega
        have KE : Hid (digK m 3 = dig q) := Lib.hid (by rw [hq]; rfl)
        have HL := Lib.hid el
        have hqb : q ≤ 9999 := by omega
        clear hq el
        obtain ⟨r, hr⟩ : ∃ r : Nat, q % 10 = r := ⟨_, rfl⟩
        have f2 : (q : Int).tmod 10 = (r : Int) := by show ((q % 10 : Nat) : Int) = r; omega
        have f2' : (q : Int) % 10 = (r : Int) := by omega
        have HR := Lib.hid (dig_at q r hr)
        have hr10 : r < 10 := by omega
        clear hr
        rcases ten_cases r hr10 with rfl | rfl | rfl | rfl | rfl | rfl | rfl | rfl | rfl | rfl
        all_goals
          simp only [Int.cast_ofNat_Int] at f2 f2'
          clear hr10
          go_wp2_with fail
          go_quiet (fail)
          go_wp2_with fail
          refine ⟨⟨4, l ++ [dig q], 0, by omega, Lib.hid ⟨by rw [HL.out, KD.out, KE.out], rfl⟩, val_str (by rw [HR.out]; exact str_snoc _ _ _ (by decide)), rfl, Lib.hid (below_drewN HB.out nq)⟩, by simp [intOf]⟩
    · obtain rfl : k = 4 := by omega
      obtain ⟨el, eD⟩ := KK.out
      simp [divK] at eD
      subst eD
      have e2 : (⟨l.toArray⟩ : ByteArray) = numS L m := by rw [el]; rfl
      clear el
      have hz7 : (numS L m).size ≤ 7 := by have := ((sevenB_iff _).1 K7.out).1; omega
      have hlz : (letterS (numS L m)).size ≤ 1 := by unfold letterS; exact Nat.le_refl _
      rw [e2]
      clear e2 hll
      generalize hS : numS L m = S at *
      have KS := Lib.hid hS
      clear hS
      go_wp2_with fail
      refine (l2Check_any _ _ K7.out).mono ?_
      rintro e w1 ⟨rfl, rfl⟩
      have hr := run_letter S wr.heap.size (wr.alloc (.cells #[.int .u8 ((letterB S).toNat : Int)] 5)) (by simp)
      go_wp2_with fail
      go_ret
      exact ⟨by rw [KS.out]; rfl, HB.out.alloc HB.out.size _⟩

end Go.Proofs.YtpckcaejmkhdnaaDoor
