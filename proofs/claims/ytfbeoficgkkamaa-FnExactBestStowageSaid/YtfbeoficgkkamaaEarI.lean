/-
  What impl.earliestIn and spec.l8Earliest, spec.l8Below and the two EarliestOf return. No statement of the seat by itself.
-/
import Derived.Test.YtfbeoficgkkamaaEarM
namespace Go.Proofs.Ytfbeoficgkkamaa
open Go.RowKit

set_option maxHeartbeats 2000000 in
theorem earliestIn_any (v : Value) (l : List Int) (hl : l.length ≤ 1048576) (w : World) (h : IL w v l) :
    Calls Try.prog 91 #[v] w fun e w' => e = .returned (.int .i64 (earL l)) ∧ w = w' := by
  obtain ⟨a, cap, rfl, hc⟩ := h
  obtain ⟨n, hN⟩ : ∃ n, l.length = n := ⟨_, rfl⟩
  have HN := Lib.hid hN
  have HC := Lib.hid hc
  have HE : Hid (earL l = earL (l.take n)) := Lib.hid (by rw [← hN, List.take_length])
  have H0 : Hid ((100 : Int) = earL (l.take 0)) := Lib.hid rfl
  rw [hN] at hl ⊢
  clear hN hc
  go_enter Try.func91, Try.ntmps91
  go_wp2_with fail
  go_loop [3, 8] (fun m i => ∃ k : Nat, k ≤ n ∧ i = .int .i64 k ∧ ∃ x : Int, m = .int .i64 x ∧ Hid (x = earL (l.take k))) (fun _ i => n - (intOf i).toNat)
  case atStart => exact ⟨0, Nat.zero_le _, rfl, 100, rfl, H0⟩
  case round =>
    obtain ⟨k, hk, rfl, m, rfl, HM⟩ := hrel
    by_cases hlt : k < n
    · obtain ⟨y, hy⟩ := get_at HN.out hlt
      obtain ⟨g, off, rfl, hg, hcc⟩ := HC.out (by have := HN.out; omega)
      have a1 := hcc k y hy
      have HM2 : Hid ((if y < m then y else m) = earL (l.take (k + 1))) := Lib.hid (by rw [earL_take hy, ← HM.out]; split <;> omega)
      clear hcc hy
      go_wp2_with fail
      go_round
      case rel => exact ⟨k + 1, by omega, by go_num, _, rfl, HM2⟩
      case measure => simp [intOf]; omega
    · obtain rfl : k = n := by omega
      go_wp2_with fail
      go_ret
      exact ⟨by rw [HE.out, ← HM.out]; rfl, rfl⟩

set_option maxHeartbeats 2000000 in
theorem l1Least_any (a b : Int) (w : World) : Calls Try.prog 96 #[.int .i64 a, .int .i64 b] w fun e w' => e = .returned (.int .i64 (min a b)) ∧ w = w' := by
  by_cases h : a < b
  · have hm : min a b = a := by omega
    rw [hm]
    go_enter Try.func96, Try.ntmps96
    go_wp2_with fail
    go_ret
    exact ⟨rfl, rfl⟩
  · have hm : min a b = b := by omega
    rw [hm]
    go_enter Try.func96, Try.ntmps96
    go_wp2_with fail
    go_ret
    exact ⟨rfl, rfl⟩

set_option maxHeartbeats 4000000 in
theorem l8Below_any (v : Value) (l : List Int) (q : Nat) (x : Int) (hl : l.length ≤ 1048576) (hx : l[q]? = some x) (w : World) (h : IL w v l) :
    Calls Try.prog 126 #[v, .int .i64 (q : Int)] w fun e w' => e = .returned (.int .i64 (bel (l.take q) x : Nat)) ∧ Below w.heap.size w w' := by
  obtain ⟨a, cap, rfl, hc⟩ := h
  obtain ⟨n, hN⟩ : ∃ n, l.length = n := ⟨_, rfl⟩
  have hq := lt_of_get hx
  have HN := Lib.hid hN
  have HC := Lib.hid hc
  have HX := Lib.hid hx
  have H0 : Hid (0 = bel (l.take 0) x) := Lib.hid rfl
  rw [hN] at hl hq ⊢
  clear hN hc hx
  obtain ⟨g, off, rfl, hg, hcc⟩ := HC.out (by have := HN.out; omega)
  have HCC := Lib.hid hcc
  have b1 := hcc q x HX.out
  clear hcc
  go_enter Try.func126, Try.ntmps126
  go_wp2_with fail
  go_loopw [5, 6] (fun m i wr => ∃ k : Nat, k ≤ q ∧ i = .int .i64 k ∧ (∃ c : Nat, m = .int .i64 c ∧ c ≤ k ∧ Hid (c = bel (l.take k) x)) ∧ Hid (Below w.heap.size w wr)) (fun _ i _ => q - (intOf i).toNat)
  case atStart => exact ⟨0, Nat.zero_le _, rfl, ⟨0, rfl, Nat.le_refl _, H0⟩, Lib.hid (Below.refl _ _)⟩
  case round =>
    obtain ⟨k, hk, rfl, ⟨c, rfl, hck, HM⟩, HB⟩ := hrel
    by_cases hlt : k < q
    · obtain ⟨y, hy⟩ := get_at HN.out (show k < n by omega)
      have a1 := (HB.out.cell (p := ⟨g, off + k, none⟩) hg).trans (HCC.out k y hy)
      have a2 := (HB.out.cell (p := ⟨g, off + q, none⟩) hg).trans b1
      by_cases hyx : y < x
      · have HM2 : Hid (c + 1 = bel (l.take (k + 1)) x) := Lib.hid (by rw [HM.out, bel_yes hy hyx])
        clear hy
        go_wp2_with fail
        go_quiet (fail)
        go_wp2_with fail
        exact ⟨⟨k + 1, by omega, by go_num, ⟨c + 1, by go_num, by omega, HM2⟩, Lib.hid (below_drewN HB.out _)⟩, by simp [intOf]; omega⟩
      · have HM2 : Hid (c = bel (l.take (k + 1)) x) := Lib.hid (by rw [HM.out, bel_no hy hyx])
        clear hy
        go_wp2_with fail
        go_quiet (fail)
        go_wp2_with fail
        exact ⟨⟨k + 1, by omega, by go_num, ⟨c, rfl, by omega, HM2⟩, Lib.hid (below_drewN HB.out _)⟩, by simp [intOf]; omega⟩
    · obtain rfl : k = q := by omega
      go_wp2_with fail
      go_ret
      exact ⟨by rw [← HM.out]; rfl, HB.out⟩

/-- What EarliestOf answers. -/
def earR (Y : List (List Int)) (s : Int) : Int := if okS Y s = true then earL (Y.getD s.toNat []) else 0
theorem earR_no {Y : List (List Int)} {s : Int} (h : okS Y s = false) : earR Y s = 0 := by simp [earR, h]
theorem earR_yes {Y : List (List Int)} {i : Nat} {l : List Int} (h : okS Y (i : Int) = true) (hl : Y[i]? = some l) : earR Y (i : Int) = earL l := by
  simp only [earR, h, if_true, Int.toNat_natCast, getD_of hl]

end Go.Proofs.Ytfbeoficgkkamaa
