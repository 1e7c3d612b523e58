/-
  What impl.earliestIn and spec.l8Earliest, spec.l8Below and the two EarliestOf return. No statement of the seat by itself.
-/
import Derived.Test.YthokmklnldoinaaEarM
namespace Go.Proofs.Ythokmklnldoinaa
open Go.RowKit

set_option maxHeartbeats 2000000 in
theorem earliestIn_any (v : Value) (l : List Int) (hl : l.length ≤ 1048576) (w : World) (h : IL w v l) :
    Calls Try.prog 53 #[v] w fun e w' => e = .returned (.int .i64 (earL l)) ∧ w = w' := by
  obtain ⟨a, cap, rfl, hc⟩ := h
  obtain ⟨n, hN⟩ : ∃ n, l.length = n := ⟨_, rfl⟩
  have HN := Lib.hid hN
  have HC := Lib.hid hc
  have HE : Hid (earL l = earL (l.take n)) := Lib.hid (by rw [← hN, List.take_length])
  have H0 : Hid ((100 : Int) = earL (l.take 0)) := Lib.hid rfl
  rw [hN] at hl ⊢
  clear hN hc
  go_enter Try.func53, Try.ntmps53
  go_wp2_with fail
  go_loop [3, 8] (fun m i => ∃ k : Nat, k ≤ n ∧ i = .int .i64 k ∧ ∃ x : Int, m = .int .i64 x ∧ Hid (x = earL (l.take k))) (fun _ i => n - (intOf i).toNat)
  case atStart => exact ⟨0, Nat.zero_le _, rfl, 100, rfl, H0⟩
  case round =>
    obtain ⟨k, hk, rfl, m, rfl, HM⟩ := hrel
    by_cases hlt : k < n
    · obtain ⟨y, hy⟩ := get_at HN.out hlt
      obtain ⟨g, off, rfl, hg, hcc⟩ := HC.out (by have := HN.out; omega)
      have a1 := hcc k y hy
      have HM2 : Hid ((if y < m then y else m) = earL (l.take (k + 1))) := Lib.hid (by rw [earL_take hy, ← HM.out]; split <;> omega)
      clear hcc hy
      go_wp2_with fail
      go_round
      case rel => exact ⟨k + 1, by omega, by go_num, _, rfl, HM2⟩
      case measure => simp [intOf]; omega
    · obtain rfl : k = n := by omega
      go_wp2_with fail
      go_ret
      exact ⟨by rw [HE.out, ← HM.out]; rfl, rfl⟩

set_option maxHeartbeats 2000000 in
theorem l1Least_any (a b : Int) (w : World) : Calls Try.prog 80 #[.int .i64 a, .int .i64 b] w fun e w' => e = .returned (.int .i64 (min a b)) ∧ w = w' := by
  by_cases h : a < b
  · have hm : min a b = a := by omega
    rw [hm]
    go_enter Try.func80, Try.ntmps80
    go_wp2_with fail
    go_ret
    exact ⟨rfl, rfl⟩
  · have hm : min a b = b := by omega
    rw [hm]
    go_enter Try.func80, Try.ntmps80
    go_wp2_with fail
    go_ret
    exact ⟨rfl, rfl⟩

set_option maxHeartbeats 2000000 in
theorem l8Earliest_any (v : Value) (l : List Int) (hl : l.length ≤ 1048576) (w : World) (h : IL w v l) :
    Calls Try.prog 62 #[v] w fun e w' => e = .returned (.int .i64 (earL l)) ∧ w = w' := by
  obtain ⟨a, cap, rfl, hc⟩ := h
  obtain ⟨n, hN⟩ : ∃ n, l.length = n := ⟨_, rfl⟩
  have HN := Lib.hid hN
  have HC := Lib.hid hc
  have HE : Hid (earL l = earL (l.take n)) := Lib.hid (by rw [← hN, List.take_length])
  have H0 : Hid ((100 : Int) = earL (l.take 0)) := Lib.hid rfl
  rw [hN] at hl ⊢
  clear hN hc
  go_enter Try.func62, Try.ntmps62
  go_wp2_with fail
  go_loop [3, 4] (fun m i => ∃ k : Nat, k ≤ n ∧ i = .int .i64 k ∧ ∃ x : Int, m = .int .i64 x ∧ Hid (x = earL (l.take k))) (fun _ i => n - (intOf i).toNat)
  case atStart => exact ⟨0, Nat.zero_le _, rfl, 100, rfl, H0⟩
  case round =>
    obtain ⟨k, hk, rfl, m, rfl, HM⟩ := hrel
    by_cases hlt : k < n
    · obtain ⟨y, hy⟩ := get_at HN.out hlt
      obtain ⟨g, off, rfl, hg, hcc⟩ := HC.out (by have := HN.out; omega)
      have a1 := hcc k y hy
      have HM2 : Hid (min m y = earL (l.take (k + 1))) := Lib.hid (by rw [HM.out, earL_take hy])
      have HL := Lib.hid (l1Least_any m y)
      generalize min m y = z at *
      clear hcc hy
      go_wp2_with fail
      refine (HL.out _).mono ?_
      rintro e w' ⟨rfl, rfl⟩
      go_wp2_with fail
      go_round
      case rel => exact ⟨k + 1, by omega, by go_num, _, rfl, HM2⟩
      case measure => simp [intOf]; omega
    · obtain rfl : k = n := by omega
      go_wp2_with fail
      go_ret
      exact ⟨by rw [HE.out, ← HM.out]; rfl, rfl⟩

set_option maxHeartbeats 4000000 in
theorem l8Below_any (v : Value) (l : List Int) (q : Nat) (x : Int) (hl : l.length ≤ 1048576) (hx : l[q]? = some x) (w : World) (h : IL w v l) :
    Calls Try.prog 47 #[v, .int .i64 (q : Int)] w fun e w' => e = .returned (.int .i64 (bel (l.take q) x : Nat)) ∧ Below w.heap.size w w' := by
  obtain ⟨a, cap, rfl, hc⟩ := h
  obtain ⟨n, hN⟩ : ∃ n, l.length = n := ⟨_, rfl⟩
  have hq := lt_of_get hx
  have HN := Lib.hid hN
  have HC := Lib.hid hc
  have HX := Lib.hid hx
  have H0 : Hid (0 = bel (l.take 0) x) := Lib.hid rfl
  rw [hN] at hl hq ⊢
  clear hN hc hx
  obtain ⟨g, off, rfl, hg, hcc⟩ := HC.out (by have := HN.out; omega)
  have HCC := Lib.hid hcc
  have b1 := hcc q x HX.out
  clear hcc
  go_enter Try.func47, Try.ntmps47
  go_wp2_with fail
  go_loopw [5, 6] (fun m i wr => ∃ k : Nat, k ≤ q ∧ i = .int .i64 k ∧ (∃ c : Nat, m = .int .i64 c ∧ c ≤ k ∧ Hid (c = bel (l.take k) x)) ∧ Hid (Below w.heap.size w wr)) (fun _ i _ => q - (intOf i).toNat)
  case atStart => exact ⟨0, Nat.zero_le _, rfl, ⟨0, rfl, Nat.le_refl _, H0⟩, Lib.hid (Below.refl _ _)⟩
  case round =>
    obtain ⟨k, hk, rfl, ⟨c, rfl, hck, HM⟩, HB⟩ := hrel
    by_cases hlt : k < q
    · obtain ⟨y, hy⟩ := get_at HN.out (show k < n by omega)
      have a1 := (HB.out.cell (p := ⟨g, off + k, none⟩) hg).trans (HCC.out k y hy)
      have a2 := (HB.out.cell (p := ⟨g, off + q, none⟩) hg).trans b1
      by_cases hyx : y < x
      · have HM2 : Hid (c + 1 = bel (l.take (k + 1)) x) := Lib.hid (by rw [HM.out, bel_yes hy hyx])
        clear hy
        go_wp2_with fail
        go_quiet (fail)
        go_wp2_with fail
        exact ⟨⟨k + 1, by omega, by go_num, ⟨c + 1, by go_num, by omega, HM2⟩, Lib.hid (below_drewN HB.out _)⟩, by simp [intOf]; omega⟩
      · have HM2 : Hid (c = bel (l.take (k + 1)) x) := Lib.hid (by rw [HM.out, bel_no hy hyx])
        clear hy
        go_wp2_with fail
        go_quiet (fail)
        go_wp2_with fail
        exact ⟨⟨k + 1, by omega, by go_num, ⟨c, rfl, by omega, HM2⟩, Lib.hid (below_drewN HB.out _)⟩, by simp [intOf]; omega⟩
    · obtain rfl : k = q := by omega
      go_wp2_with fail
      go_ret
      exact ⟨by rw [← HM.out]; rfl, HB.out⟩

/-- What EarliestOf answers. -/
def earR (Y : List (List Int)) (s : Int) : Int := if okS Y s = true then earL (Y.getD s.toNat []) else 0
theorem earR_no {Y : List (List Int)} {s : Int} (h : okS Y s = false) : earR Y s = 0 := by simp [earR, h]
theorem earR_yes {Y : List (List Int)} {i : Nat} {l : List Int} (h : okS Y (i : Int) = true) (hl : Y[i]? = some l) : earR Y (i : Int) = earL l := by
  simp only [earR, h, if_true, Int.toNat_natCast, getD_of hl]

set_option maxRecDepth 100000 in
set_option maxHeartbeats 2000000 in
theorem implEar_any (v : Value) (Y : List (List Int)) (s : Int) (h1 : Y.length ≤ 1048576) (h2 : tot Y ≤ 1048576) (w : World) (h : YdR w v Y) :
    Calls Try.prog 24 #[v, .int .i64 s] w (RetP w (.tuple #[.int .i64 (earR Y s), .bool (okS Y s)])) := by
  obtain ⟨v0, rfl, hv⟩ := h
  have BA := Box1.new w v0 26
  have B0 := Lib.hid (below_one w (.cells #[v0] 26))
  have HF := Lib.hid (hasStack_any (.agg #[v0]) Y s h1 h2 _ ⟨v0, rfl, hv.below B0.out⟩)
  obtain ⟨a, cap, rfl, hc⟩ := hv
  obtain ⟨n, hn⟩ : ∃ n, Y.length = n := ⟨_, rfl⟩
  have HN := Lib.hid hn
  have HC := Lib.hid hc
  rw [hn] at h1 BA B0 HF ⊢
  have HBA := Lib.hid BA
  clear hc hn BA
  cases hg : okS Y s with
  | false =>
    rw [earR_no hg]
    rw [hg] at HF
    clear hg
    go_enter Try.func24, Try.ntmps24
    go_wp2_with fail
    refine HF.out.mono ?_
    rintro e w1 ⟨rfl, hb⟩
    have B1 := Lib.hid (B0.out.trans (hb.mono B0.out.size))
    clear hb
    go_wp2_with fail
    go_ret2
    exact ⟨rfl, B1.out⟩
  | true =>
    obtain ⟨hgd, hs0, hs1⟩ := okS_iff.1 hg
    rw [HN.out] at hs1
    obtain ⟨i, rfl⟩ : ∃ i : Nat, s = (i : Int) := ⟨s.toNat, by omega⟩
    have hlt : i < n := by omega
    obtain ⟨l, hl⟩ := get_at HN.out hlt
    obtain ⟨g, off, rfl, hg0, hcc⟩ := HC.out (by have := HN.out; omega)
    obtain ⟨u, hu', hil⟩ := hcc i l hl
    have hm1 := row_len hl
    rw [earR_yes hg hl]
    have HU := Lib.hid hu'
    have HS : Hid (∀ W, Below w.heap.size w W → Calls Try.prog 53 #[u] W fun e w' => e = .returned (.int .i64 (earL l)) ∧ W = w') := Lib.hid fun W hb => earliestIn_any u l (by omega) W (hil.below hb)
    rw [hg] at HF
    generalize earL l = z at *
    clear hcc hl hil hu' hg hgd hs0 hs1
    go_enter Try.func24, Try.ntmps24
    go_wp2_with fail
    refine HF.out.mono ?_
    rintro e w1 ⟨rfl, hb⟩
    have B1 := Lib.hid (B0.out.trans (hb.mono B0.out.size))
    have c1 := (HBA.out.below hb).2
    have hu := (B1.out.cell (p := ⟨g, off + i, none⟩) hg0).trans HU.out
    clear hb
    go_wp2_with fail
    refine (HS.out _ B1.out).mono ?_
    rintro e w2 ⟨rfl, rfl⟩
    go_wp2_with fail
    go_ret2
    exact ⟨rfl, B1.out⟩

set_option maxRecDepth 100000 in
set_option maxHeartbeats 2000000 in
theorem specEar_any (v : Value) (Y : List (List Int)) (s : Int) (h1 : Y.length ≤ 1048576) (h2 : tot Y ≤ 1048576) (w : World) (h : YdR w v Y) :
    Calls Try.prog 32 #[v, .int .i64 s] w (RetP w (.tuple #[.int .i64 (earR Y s), .bool (okS Y s)])) := by
  obtain ⟨v0, rfl, hv⟩ := h
  have BA := Box1.new w v0 26
  have B0 := Lib.hid (below_one w (.cells #[v0] 26))
  have HF := Lib.hid (l5Stack_any (.agg #[v0]) Y s h1 h2 _ ⟨v0, rfl, hv.below B0.out⟩)
  obtain ⟨a, cap, rfl, hc⟩ := hv
  obtain ⟨n, hn⟩ : ∃ n, Y.length = n := ⟨_, rfl⟩
  have HN := Lib.hid hn
  have HC := Lib.hid hc
  rw [hn] at h1 BA B0 HF ⊢
  have HBA := Lib.hid BA
  clear hc hn BA
  cases hg : okS Y s with
  | false =>
    rw [earR_no hg]
    rw [hg] at HF
    clear hg
    go_enter Try.func32, Try.ntmps32
    go_wp2_with fail
    refine HF.out.mono ?_
    rintro e w1 ⟨rfl, hb⟩
    have B1 := Lib.hid (B0.out.trans (hb.mono B0.out.size))
    clear hb
    go_wp2_with fail
    go_ret2
    exact ⟨rfl, B1.out⟩
  | true =>
    obtain ⟨hgd, hs0, hs1⟩ := okS_iff.1 hg
    rw [HN.out] at hs1
    obtain ⟨i, rfl⟩ : ∃ i : Nat, s = (i : Int) := ⟨s.toNat, by omega⟩
    have hlt : i < n := by omega
    obtain ⟨l, hl⟩ := get_at HN.out hlt
    obtain ⟨g, off, rfl, hg0, hcc⟩ := HC.out (by have := HN.out; omega)
    obtain ⟨u, hu', hil⟩ := hcc i l hl
    have hm1 := row_len hl
    rw [earR_yes hg hl]
    have HU := Lib.hid hu'
    have HS : Hid (∀ W, Below w.heap.size w W → Calls Try.prog 62 #[u] W fun e w' => e = .returned (.int .i64 (earL l)) ∧ W = w') := Lib.hid fun W hb => l8Earliest_any u l (by omega) W (hil.below hb)
    rw [hg] at HF
    generalize earL l = z at *
    clear hcc hl hil hu' hg hgd hs0 hs1
    go_enter Try.func32, Try.ntmps32
    go_wp2_with fail
    refine HF.out.mono ?_
    rintro e w1 ⟨rfl, hb⟩
    have B1 := Lib.hid (B0.out.trans (hb.mono B0.out.size))
    have c1 := (HBA.out.below hb).2
    have hu := (B1.out.cell (p := ⟨g, off + i, none⟩) hg0).trans HU.out
    clear hb
    go_wp2_with fail
    refine (HS.out _ B1.out).mono ?_
    rintro e w2 ⟨rfl, rfl⟩
    go_wp2_with fail
    go_ret2
    exact ⟨rfl, B1.out⟩
end Go.Proofs.Ythokmklnldoinaa
