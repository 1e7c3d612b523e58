/-
  The laws' own helper eqContainerS. No statement of the seat by itself.
-/
import Derived.Test.YtpmaaflpknjbmaaCRow
namespace Go.Proofs.Ytpmaaflpknjbmaa.C
open Go.RowKit

theorem beq_self (s : ByteArray) : (s.toList == s.toList) = true := by simp

theorem eqCont_same (c : Cont) (w : World) : Calls Try.prog 33 #[.agg (contV c), .agg (contV c)] w fun e w' => e = .returned (.bool true) ∧ Below w.heap.size w w' := by
  obtain ⟨id, sz, wt, cg, pt⟩ := c
  simp only [contV] at *
  go_enter Try.func33, Try.ntmps33
  go_wp2_with fail
  go_ret
  exact ⟨rfl, ((Below.refl _ _).alloc (Nat.le_refl _) _).alloc (by simp) _⟩

set_option maxRecDepth 100000 in
set_option maxHeartbeats 1000000 in
theorem eqC_same (g1 g2 c1 c2 n : Nat) (f : Nat → Cont) (hn : n ≤ 1048576) (w : World) (h1 : CAt w g1 0 n f) (h2 : CAt w g2 0 n f) :
    Calls Try.prog 12 #[.slice (some ⟨g1, 0, none⟩) n c1, .slice (some ⟨g2, 0, none⟩) n c2] w fun e w' => e = .returned (.bool true) ∧ Below w.heap.size w w' := by
  have H1 := Lib.hid h1
  have H2 := Lib.hid h2
  clear h1 h2
  go_enter Try.func12, Try.ntmps12
  go_wp2_with fail
  go_loopw [5] (fun i wr => ∃ k : Nat, k ≤ n ∧ i = .int .i64 k ∧ Hid (Below w.heap.size w wr)) (fun i _ => n - (intOf i).toNat)
  case atStart => exact ⟨0, Nat.zero_le _, rfl, Lib.hid (Below.refl _ _)⟩
  case round =>
    obtain ⟨k, hk, rfl, HB⟩ := hrel
    by_cases hlt : k < n
    · obtain ⟨a0, a1, a2, a3, a4⟩ := (H1.out.below HB.out).2 k hlt
      obtain ⟨b0, b1, b2, b3, b4⟩ := (H2.out.below HB.out).2 k hlt
      rw [Nat.zero_add] at *
      generalize f k = c at *
      have HZ := Lib.hid (fun W => eqCont_same c W)
      obtain ⟨id, sz, wt, cg, pt⟩ := c
      simp only [contV] at *
      have hki : (k : Int) < (n : Int) := by omega
      go_wp2_with fail
      go_still_tail 8, (by kernel_rfl)
      change wpList _ _ _ _ _ wr.drew
      have hbd : Below w.heap.size w wr.drew := below_drew1 HB.out
      have BD := Lib.hid hbd
      clear hbd
      generalize wr.drew = w2 at *
      go_wp2_with fail
      refine (HZ.out _).mono ?_
      rintro e w3 ⟨rfl, hb3⟩
      have B3 : Hid (Below w.heap.size w w3) := Lib.hid (BD.out.trans (hb3.mono BD.out.size))
      clear hb3
      go_wp2_with fail
      refine ⟨⟨k + 1, by omega, by go_num, B3⟩, by simp [intOf]; omega⟩
    · obtain rfl : k = n := by omega
      go_wp2_with fail
      go_ret
      exact ⟨rfl, HB.out⟩
end Go.Proofs.Ytpmaaflpknjbmaa.C
