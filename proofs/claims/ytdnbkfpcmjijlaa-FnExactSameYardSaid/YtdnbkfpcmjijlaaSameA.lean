/-
  What cmp.Compare, slices.Compare, slices.Equal and spec.l1Same return of lists of numbers. No statement of the seat by itself.
-/
import Derived.Test.YtdnbkfpcmjijlaaSameM
namespace Go.Proofs.Ytdnbkfpcmjijlaa
open Go.RowKit

theorem nan_any (x : Int) (w : World) : Calls Try.prog 95 #[.int .i64 x] w fun e w' => e = .returned (.bool false) ∧ w = w' := by
  have h : (x != x) = false := by simp
  go_enter Try.func95, Try.ntmps95
  go_wp2_with fail
  go_ret
  exact ⟨rfl, rfl⟩
theorem cmp_any (x y : Int) (w : World) : Calls Try.prog 84 #[.int .i64 x, .int .i64 y] w fun e w' => e = .returned (.int .i64 (if x < y then -1 else if y < x then 1 else 0)) ∧ w = w' := by
  by_cases h1 : x < y
  · have h2 : ¬ y < x := by omega
    rw [if_pos h1]
    go_enter Try.func84, Try.ntmps84
    go_wp2_with (go_at_call 95; refine (nan_any _ _).mono ?_; rintro e w' ⟨rfl, rfl⟩)
    go_ret
    exact ⟨rfl, rfl⟩
  · rw [if_neg h1]
    by_cases h2 : y < x
    · rw [if_pos h2]
      go_enter Try.func84, Try.ntmps84
      go_wp2_with (go_at_call 95; refine (nan_any _ _).mono ?_; rintro e w' ⟨rfl, rfl⟩)
      go_ret
      exact ⟨rfl, rfl⟩
    · rw [if_neg h2]
      go_enter Try.func84, Try.ntmps84
      go_wp2_with (go_at_call 95; refine (nan_any _ _).mono ?_; rintro e w' ⟨rfl, rfl⟩)
      go_ret
      exact ⟨rfl, rfl⟩

set_option maxRecDepth 100000 in
set_option maxHeartbeats 2000000 in
theorem lex_any (v1 v2 : Value) (a b : List Int) (hn : a.length ≤ 1048576) (hm : b.length ≤ 1048576) (w : World) (h1 : IL w v1 a) (h2 : IL w v2 b) :
    Calls Try.prog 81 #[v1, v2] w fun e w' => e = .returned (.int .i64 (lexC a b)) ∧ w' = w := by
  obtain ⟨a1, c1, rfl, h1⟩ := h1
  obtain ⟨a2, c2, rfl, h2⟩ := h2
  obtain ⟨n, hl⟩ : ∃ n, a.length = n := ⟨_, rfl⟩
  obtain ⟨m, hl2⟩ : ∃ m, b.length = m := ⟨_, rfl⟩
  have HN := Lib.hid hl
  have HM := Lib.hid hl2
  rw [hl] at hn ⊢
  rw [hl2] at hm ⊢
  have H1 := Lib.hid h1
  have H2 := Lib.hid h2
  obtain ⟨r, hr⟩ : ∃ r, lexC a b = r := ⟨_, rfl⟩
  have HS : Hid (r = lexC (a.drop 0) (b.drop 0)) := Lib.hid (by rw [← hr]; rfl)
  rw [hr]
  clear h1 h2 hl hl2 hr
  go_enter Try.func81, Try.ntmps81
  go_wp2_with fail
  go_loopw [11] (fun i wr => ∃ k : Nat, k ≤ n ∧ k ≤ m ∧ i = .int .i64 k ∧ wr = w ∧ Hid (r = lexC (a.drop k) (b.drop k))) (fun i _ => n - (intOf i).toNat)
  case atStart => exact ⟨0, Nat.zero_le _, Nat.zero_le _, rfl, rfl, HS⟩
  case round =>
    obtain ⟨k, hk, hkm, rfl, rfl, HK⟩ := hrel
    by_cases hlt : k < n
    · obtain ⟨g1, o1, rfl, hg1, hc1⟩ := H1.out (by have := HN.out; omega)
      obtain ⟨x, hx⟩ := get_at HN.out hlt
      have hc1 := hc1 k x hx
      have HX := Lib.hid hx
      clear hx hg1
      by_cases hlm : k < m
      · obtain ⟨g2, o2, rfl, hg2, hc2⟩ := H2.out (by have := HM.out; omega)
        obtain ⟨y, hy⟩ := get_at HM.out hlm
        have hc2 := hc2 k y hy
        have HT := Lib.hid (HK.out.trans (lexC_step HX.out hy))
        have hnm : ¬ ((m : Int) ≤ (k : Int)) := by omega
        clear hy hg2
        have HC := Lib.hid (cmp_any x y)
        by_cases h1 : x < y
        · have HV : Hid (r = -1) := Lib.hid (by rw [HT.out, if_pos h1])
          rw [if_pos h1] at HC
          clear h1
          go_wp2_with (go_at_call 84; refine (HC.out _).mono ?_; rintro e w' ⟨rfl, rfl⟩)
          go_ret
          exact ⟨by rw [HV.out]; rfl, rfl⟩
        · by_cases h2 : y < x
          · have HV : Hid (r = 1) := Lib.hid (by rw [HT.out, if_neg h1, if_pos h2])
            rw [if_neg h1, if_pos h2] at HC
            clear h1 h2
            go_wp2_with (go_at_call 84; refine (HC.out _).mono ?_; rintro e w' ⟨rfl, rfl⟩)
            go_ret
            exact ⟨by rw [HV.out]; rfl, rfl⟩
          · have HV : Hid (r = lexC (a.drop (k + 1)) (b.drop (k + 1))) := Lib.hid (by rw [HT.out, if_neg h1, if_neg h2])
            rw [if_neg h1, if_neg h2] at HC
            clear h1 h2
            go_wp2_with (go_at_call 84; refine (HC.out _).mono ?_; rintro e w' ⟨rfl, rfl⟩)
            exact ⟨⟨k + 1, by omega, by omega, by go_num, by first | rfl | trivial, HV⟩, by simp [intOf]; omega⟩
      · obtain rfl : k = m := by omega
        have HV : Hid (r = 1) := Lib.hid (HK.out.trans (lexC_right (lt_of_get HX.out) (by have := HM.out; omega)))
        go_wp2_with fail
        go_ret
        exact ⟨by rw [HV.out]; rfl, rfl⟩
    · obtain rfl : k = n := by omega
      by_cases hlm : k < m
      · have HV : Hid (r = -1) := Lib.hid (HK.out.trans (lexC_left (by have := HN.out; omega) (by have := HM.out; omega)))
        have hkm2 : (k : Int) < (m : Int) := by omega
        go_wp2_with fail
        go_ret
        exact ⟨by rw [HV.out]; rfl, rfl⟩
      · have HV : Hid (r = 0) := Lib.hid (HK.out.trans (lexC_end (by have := HN.out; omega) (by have := HM.out; omega)))
        have hkm2 : ¬ ((k : Int) < (m : Int)) := by omega
        go_wp2_with fail
        go_ret
        exact ⟨by rw [HV.out]; rfl, rfl⟩
end Go.Proofs.Ytdnbkfpcmjijlaa
