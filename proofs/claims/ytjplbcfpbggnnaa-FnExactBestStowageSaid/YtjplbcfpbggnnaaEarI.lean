/-
  What impl.earliestIn and spec.l8Earliest, spec.l8Below and the two EarliestOf return. No statement of the seat by itself.
-/
import Derived.Test.YtjplbcfpbggnnaaEarM
namespace Go.Proofs.Ytjplbcfpbggnnaa
open Go.RowKit

set_option maxHeartbeats 2000000 in
theorem earliestIn_any (v : Value) (l : List Int) (hl : l.length ≤ 1048576) (w : World) (h : IL w v l) :
    Calls Try.prog 26 #[v] w fun e w' => e = .returned (.int .i64 (earL l)) ∧ w = w' := by
  obtain ⟨a, cap, rfl, hc⟩ := h
  obtain ⟨n, hN⟩ : ∃ n, l.length = n := ⟨_, rfl⟩
  have HN := Lib.hid hN
  have HC := Lib.hid hc
  have HE : Hid (earL l = earL (l.take n)) := Lib.hid (by rw [← hN, List.take_length])
  have H0 : Hid ((100 : Int) = earL (l.take 0)) := Lib.hid rfl
  rw [hN] at hl ⊢
  clear hN hc
  go_enter Try.func26, Try.ntmps26
  go_wp2_with fail
  go_loop [3, 8] (fun m i => ∃ k : Nat, k ≤ n ∧ i = .int .i64 k ∧ ∃ x : Int, m = .int .i64 x ∧ Hid (x = earL (l.take k))) (fun _ i => n - (intOf i).toNat)
  case atStart => exact ⟨0, Nat.zero_le _, rfl, 100, rfl, H0⟩
  case round =>
    obtain ⟨k, hk, rfl, m, rfl, HM⟩ := hrel
    by_cases hlt : k < n
    · obtain ⟨y, hy⟩ := get_at HN.out hlt
      obtain ⟨g, off, rfl, hg, hcc⟩ := HC.out (by have := HN.out; omega)
      have a1 := hcc k y hy
      have HM2 : Hid ((if y < m then y else m) = earL (l.take (k + 1))) := Lib.hid (by rw [earL_take hy, ← HM.out]; split <;> omega)
      clear hcc hy
      go_wp2_with fail
      go_round
      case rel => exact ⟨k + 1, by omega, by go_num, _, rfl, HM2⟩
      case measure => simp [intOf]; omega
    · obtain rfl : k = n := by omega
      go_wp2_with fail
      go_ret
      exact ⟨by rw [HE.out, ← HM.out]; rfl, rfl⟩

/-- What EarliestOf answers. -/
def earR (Y : List (List Int)) (s : Int) : Int := if okS Y s = true then earL (Y.getD s.toNat []) else 0
theorem earR_no {Y : List (List Int)} {s : Int} (h : okS Y s = false) : earR Y s = 0 := by simp [earR, h]
theorem earR_yes {Y : List (List Int)} {i : Nat} {l : List Int} (h : okS Y (i : Int) = true) (hl : Y[i]? = some l) : earR Y (i : Int) = earL l := by
  simp only [earR, h, if_true, Int.toNat_natCast, getD_of hl]

end Go.Proofs.Ytjplbcfpbggnnaa
