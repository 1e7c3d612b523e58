/-
  What impl.numbersWhere returns over loaded containers; what the functions that are handed to it answer. No statement of the seat by itself.
-/
import Derived.Test.YtpflnjjckeeihaaZBox
import Derived.Test.YtpflnjjckeeihaaEarI
namespace Go.Proofs.Ytpflnjjckeeihaa
open Go.RowKit

set_option maxRecDepth 100000 in
set_option maxHeartbeats 8000000 in
theorem numsb_any (F : Nat) (caps : Array Value) (hE : Enters Try.prog F) (a : Option Addr) (n c : Nat) (p : Nat → Bool) (fp : Nat → Int) (fa : Nat → Option Addr) (fm fc : Nat → Nat) (hl : n ≤ 1048576) (w : World)
    (h : 0 < n → ∃ g off, a = some ⟨g, off, none⟩ ∧ g < w.heap.size ∧ ∀ i, i < n → w.cell? ⟨g, off + i * 2, none⟩ = some (.int .i64 (fp i)) ∧ w.cell? ⟨g, off + i * 2 + 1, none⟩ = some (.slice (fa i) (fm i) (fc i)))
    (hF : ∀ (i : Nat) (W : World), i < n → Below w.heap.size w W → Calls Try.prog F (#[.agg #[.int .i64 (fp i), .slice (fa i) (fm i) (fc i)]] ++ caps) W fun e w' => e = .returned (.bool (p i)) ∧ Below W.heap.size W w') :
    Calls Try.prog 56 #[.slice a n c, .func (.func F) #[] caps] w (NewN w (numsW p n)) := by
  obtain ⟨f3, hi3, hz0, hz1, hz2⟩ := info_is info3
  have HF := Lib.hid hF
  have HC := Lib.hid h
  clear h hF
  have R0 := Lib.hid (numS_start w)
  go_enter Try.func56, Try.ntmps56
  go_wp2_with fail
  go_loopw [5, 11] (fun s i wr => ∃ k : Nat, k ≤ n ∧ i = .int .i64 k ∧ Hid (NumS w wr s (numsW p k))) (fun _ i _ => n - (intOf i).toNat)
  case atStart => exact ⟨0, Nat.zero_le _, rfl, R0⟩
  case round =>
    obtain ⟨k, hk, rfl, HR⟩ := hrel
    rename World => wr
    by_cases hlt : k < n
    · obtain ⟨g, off, rfl, hg, hcc⟩ := HC.out (by omega)
      have o1 := (HR.out.2.1.cell (p := ⟨g, off + k * 2, none⟩) hg).trans (hcc k hlt).1
      have o2 := (HR.out.2.1.cell (p := ⟨g, off + k * 2 + 1, none⟩) hg).trans (hcc k hlt).2
      have hba := below_one wr (.cells #[.int .i64 (fp k), .slice (fa k) (fm k) (fc k)] 75)
      have HE := Lib.hid (HF.out k (wr.alloc (.cells #[.int .i64 (fp k), .slice (fa k) (fm k) (fc k)] 75)) hlt (HR.out.2.1.trans (hba.mono HR.out.2.1.size)))
      have RA := Lib.hid (HR.out.below hba)
      have hbl := numsW_len p k
      clear hcc hba
      go_wp2_with fail
      rw [hE, Oper.upon_enter]
      refine HE.out.mono ?_
      rintro e w1 ⟨rfl, hb⟩
      have R1 := Lib.hid (RA.out.below hb)
      clear hb o1 o2
      cases hp : p k with
      | true =>
        have HT := Lib.hid (numsW_yes hp)
        have hrow := R1.out.1
        have hz := R1.out.2.1.size
        generalize numsW p k = S at *
        clear hp
        go_wp2_with (at_builtin; refine wpList_append_own _ rfl _ _ 24 rfl w.heap.size 3 f3 (.int .i64 0) 1 8 Try.underlying24 hi3 hz0 hz1 hz2 rfl (by decide) _ _ _ rfl (hrow.alloc _) ⟨w1.heap.size, 0, none⟩ 1 1 [.int .i64 ((k : Int) + 1)] rfl rfl (cell_one_new _ _ _) (by simp [Value.oneCell']) (by unfold maxLen; omega) (by omega) (by simp; omega) ?_; intro v' w4 hown' hgrow hnil)
        have HN4 : Hid (NumS w w4 v' (numsW p (k + 1))) := Lib.hid (by rw [HT.out]; exact R1.out.push hown' hgrow (fun e => by have := (hnil.1 e).2; omega))
        clear hown' hgrow hnil hrow
        exact ⟨⟨k + 1, by omega, by go_num, HN4⟩, by simp [intOf]; omega⟩
      | false =>
        have HT := Lib.hid (numsW_no hp)
        clear hp
        go_wp2_with fail
        exact ⟨⟨k + 1, by omega, by go_num, Lib.hid (by rw [HT.out]; exact R1.out)⟩, by simp [intOf]; omega⟩
    · obtain rfl : k = n := by omega
      go_wp2_with fail
      go_ret
      exact HR.out.done2

theorem enters_shift : Enters Try.prog 57 := enters_of Try.func57 (by kernel_rfl) rfl
set_option maxHeartbeats 2000000 in
theorem isShifted_any (x : Int) (u : Value) (l : List Int) (hl : l.length ≤ 1048576) (w : World) (h : IL w u l) : Calls Try.prog 57 #[.agg #[.int .i64 x, u]] w fun e w' => e = .returned (.bool (decide (earL l < x))) ∧ Below w.heap.size w w' := by
  have HB := Lib.hid (below_one w (.cells #[.int .i64 x, u] 75))
  have c0 := cell_of (i := 0) (heap_alloc_new w (.cells #[.int .i64 x, u] 75)) rfl
  have c1 := cell_of (i := 1) (heap_alloc_new w (.cells #[.int .i64 x, u] 75)) rfl
  have HE := Lib.hid (fun W (hb : Below w.heap.size w W) => earliestIn_any u l hl W (h.below hb))
  have D1 := Lib.hid HB.out.drew
  have E1 := Lib.hid (HE.out _ D1.out)
  clear h
  generalize earL l = z at *
  go_enter Try.func57, Try.ntmps57
  go_wp2_with fail
  go_quiet ((go_at_call 77; exact Calls.quiet_of_same ((HE.out _ (below_drewN HB.out _)).mono fun _ _ ⟨a, b⟩ => ⟨a, b.symm⟩)))
  go_wp2_with fail
  go_ret
  exact ⟨rfl, below_drewN HB.out _⟩
end Go.Proofs.Ytpflnjjckeeihaa
