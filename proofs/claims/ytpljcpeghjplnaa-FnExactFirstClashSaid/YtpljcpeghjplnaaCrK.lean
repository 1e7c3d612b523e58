/-
  Comparisons of numbers in Go's library, whether a list is sorted; whether a list is a division, in the reference. No statement of the seat by itself.
-/
import Derived.Test.YtpljcpeghjplnaaCrS
namespace Go.Proofs.Ytpljcpeghjplnaa
open Go.RowKit

theorem isNaN_any (x : Int) (w : World) : Calls Try.prog 141 #[.int .i64 x] w fun e w' => e = .returned (.bool false) ∧ w = w' := by
  go_enter Try.func141, Try.ntmps141
  go_wp2
  go_ret
  exact ⟨by simp, rfl⟩

set_option maxHeartbeats 1000000 in
theorem less_any (x y : Int) (w : World) : Calls Try.prog 159 #[.int .i64 x, .int .i64 y] w fun e w' => e = .returned (.bool (decide (x < y))) ∧ w = w' := by
  have H := Lib.hid (fun W => isNaN_any x W)
  go_enter Try.func159, Try.ntmps159
  go_wp2_with fail
  refine (H.out _).mono ?_
  rintro e w1 ⟨rfl, rfl⟩
  go_wp2_with fail
  go_ret
  exact ⟨rfl, rfl⟩

/-- -1, 0 or 1. -/
def cmpC (x y : Int) : Int := if x < y then -1 else if y < x then 1 else 0
set_option maxHeartbeats 1000000 in
theorem compare_any (x y : Int) (w : World) : Calls Try.prog 111 #[.int .i64 x, .int .i64 y] w fun e w' => e = .returned (.int .i64 (cmpC x y)) ∧ w = w' := by
  have H1 := Lib.hid (fun W => isNaN_any x W)
  have H2 := Lib.hid (fun W => isNaN_any y W)
  unfold cmpC
  by_cases h1 : x < y
  · rw [if_pos h1]
    go_enter Try.func111, Try.ntmps111
    go_wp2_with fail
    refine (H1.out _).mono ?_
    rintro e w1 ⟨rfl, rfl⟩
    go_wp2_with fail
    refine (H2.out _).mono ?_
    rintro e w1 ⟨rfl, rfl⟩
    go_wp2_with fail
    go_ret
    exact ⟨rfl, rfl⟩
  · rw [if_neg h1]
    by_cases h2 : y < x
    case' pos => rw [if_pos h2]
    case' neg => rw [if_neg h2]
    all_goals
      go_enter Try.func111, Try.ntmps111
      go_wp2_with fail
      refine (H1.out _).mono ?_
      rintro e w1 ⟨rfl, rfl⟩
      go_wp2_with fail
      refine (H2.out _).mono ?_
      rintro e w1 ⟨rfl, rfl⟩
      go_wp2_with fail
      go_ret
      exact ⟨rfl, rfl⟩

set_option maxRecDepth 100000 in
set_option maxHeartbeats 2000000 in
theorem sorted_any (v : Value) (l : List Int) (h0 : 1 ≤ l.length) (hl : l.length ≤ 1000) (w : World) (h : IL w v l) :
    Calls Try.prog 152 #[v] w fun e w' => e = .returned (.bool (ascB l)) ∧ Below w.heap.size w w' := by
  obtain ⟨n, hn⟩ : ∃ n, l.length = n := ⟨_, rfl⟩
  have HN := Lib.hid hn
  obtain ⟨a, c, rfl, hc⟩ := h
  obtain ⟨g, off, rfl, hg, hcc⟩ := hc (by omega)
  have HC := Lib.hid hcc
  rw [hn] at hl h0 ⊢
  clear hc hn hcc
  have B0 := Lib.hid (Below.refl w.heap.size w)
  go_enter Try.func152, Try.ntmps152
  go_wp2_with fail
  go_loopw [3] (fun i wr => ∃ (k : Nat) (y : Int), k + 1 ≤ n ∧ i = .int .i64 y ∧ Hid (y = (k : Int)) ∧ Hid (Below w.heap.size w wr) ∧ Hid (∀ j, k ≤ j → j + 1 < l.length → l.getD j 0 ≤ l.getD (j + 1) 0)) (fun i _ => (intOf i).toNat)
  case atStart => exact ⟨n - 1, (n : Int) - 1, by omega, by go_num, Lib.hid (by omega), B0, Lib.hid fun j h1 h2 => by have := HN.out; omega⟩
  case round =>
    obtain ⟨k, y, hk, rfl, HY, HB, HA⟩ := hrel
    have hy0 : 0 ≤ y := by have := HY.out; omega
    have hy1 : y ≤ 1000 := by have := HY.out; omega
    by_cases h1 : 0 < y
    · obtain ⟨j, rfl⟩ : ∃ j, k = j + 1 := ⟨k - 1, by have := HY.out; omega⟩
      have hyn : y < (n : Int) := by have := HY.out; omega
      obtain ⟨x1, hx1⟩ := get_at HN.out (show j + 1 < n by omega)
      obtain ⟨x0, hx0⟩ := get_at HN.out (show j < n by omega)
      have o1 := (HB.out.cell (p := ⟨g, off + (j + 1), none⟩) hg).trans (HC.out (j + 1) x1 hx1)
      have o0 := (HB.out.cell (p := ⟨g, off + j, none⟩) hg).trans (HC.out j x0 hx0)
      have HE := Lib.hid (fun W => less_any x1 x0 W)
      have G1 : Hid (l.getD (j + 1) 0 = x1) := Lib.hid (by simp [List.getD, hx1])
      have G0 : Hid (l.getD j 0 = x0) := Lib.hid (by simp [List.getD, hx0])
      obtain rfl : y = ((j + 1 : Nat) : Int) := HY.out
      clear hx0 hx1 HY
      by_cases hq : x1 < x0
      · have HF : Hid (ascB l = false) := Lib.hid (ascB_not (i := j) (by have := HN.out; omega) (by rw [G1.out, G0.out]; omega))
        rw [decide_eq_true hq] at HE
        clear hq
        go_wp2_with fail
        go_quiet ((go_at_call 159; exact Calls.quiet_of_same (flipC (HE.out _))))
        go_wp2_with fail
        go_ret
        exact ⟨by rw [HF.out]; first | done | rfl, below_drewN HB.out _⟩
      · have HA2 : Hid (∀ i, j ≤ i → i + 1 < l.length → l.getD i 0 ≤ l.getD (i + 1) 0) := Lib.hid fun i h1 h2 => by
          by_cases e : i = j
          · subst e; rw [G1.out, G0.out]; omega
          · exact HA.out i (by omega) h2
        rw [decide_eq_false hq] at HE
        clear hq
        go_wp2_with fail
        go_quiet ((go_at_call 159; exact Calls.quiet_of_same (flipC (HE.out _))))
        go_wp2_with fail
        exact ⟨⟨j, (j : Int), by omega, by go_num, Lib.hid rfl, Lib.hid (below_drewN HB.out _), HA2⟩, by simp [intOf]⟩
    · have HF : Hid (ascB l = true) := Lib.hid (ascB_iff.2 fun i hi => HA.out i (by have := HY.out; omega) hi)
      go_wp2_with fail
      go_ret
      exact ⟨by rw [HF.out]; first | done | rfl, HB.out⟩

theorem dvB_no {n : Nat} {c : Int} {d : List Int} (h : ¬ ((d.length : Int) + 1 = c ∧ ascB (bdsC n d) = true)) : dvB n c d = false := by
  cases e : dvB n c d with
  | false => rfl
  | true => exact absurd (dvB_iff.1 e) h

end Go.Proofs.Ytpljcpeghjplnaa
