/-
  What CraneTimes answers, in the program and in the reference. No statement of the seat by itself.
-/
import Derived.Test.YtffejbgcgagkpaaCmG
import Derived.Test.YtffejbgcgagkpaaCrS
namespace Go.Proofs.Ytffejbgcgagkpaa
open Go.RowKit

theorem ctS_no {S : List Mv} {n : Int} (h : ctB S n = false) : ctS S n = 0 ∧ ctE S n = 0 := by simp [ctS, ctE, h]
theorem ctS_yes {S : List Mv} {n : Int} (h : ctB S n = true) : ctS S n = minC n S ∧ ctE S n = endC n S := by simp [ctS, ctE, h]

set_option maxRecDepth 100000 in
set_option maxHeartbeats 4000000 in
theorem implCt_any (v : Value) (S : List Mv) (c : Int) (hn : S.length ≤ 1048576) (w : World) (h : CmL w v S) :
    Calls Try.prog 22 #[v, .int .i64 c] w (RetP w (.tuple #[.int .i64 (ctS S c), .int .i64 (ctE S c), .bool (ctB S c)])) := by
  have HG := Lib.hid (areMoves_any v S hn w h)
  have HA := Lib.hid (fun W => isCrane_any c W)
  have HV := Lib.hid h
  cases hg : goodMv S with
  | false =>
    have hb : ctB S c = false := by simp [ctB, hg]
    rw [hb, (ctS_no hb).1, (ctS_no hb).2]
    rw [hg] at HG
    clear h hg hb
    go_enter Try.func22, Try.ntmps22
    go_wp2_with fail
    refine HG.out.mono ?_
    rintro e w1 ⟨rfl, hb⟩
    have HB := Lib.hid hb
    clear hb
    go_wp2_with fail
    go_ret3
    exact ⟨rfl, HB.out⟩
  | true =>
    rw [hg] at HG
    by_cases hr : 0 ≤ c ∧ c ≤ 2
    case neg =>
      have hb : ctB S c = false := by simp [ctB, hr]
      rw [hb, (ctS_no hb).1, (ctS_no hb).2]
      rw [decide_eq_false hr] at HA
      clear h hg hb hr
      go_enter Try.func22, Try.ntmps22
      go_wp2_with fail
      refine HG.out.mono ?_
      rintro e w1 ⟨rfl, hb⟩
      have HB := Lib.hid hb
      clear hb
      go_wp2_with fail
      refine (HA.out _).mono ?_
      rintro e w2 ⟨rfl, rfl⟩
      go_wp2_with fail
      go_ret3
      exact ⟨rfl, HB.out⟩
    have hb : ctB S c = true := ctB_iff.2 ⟨hg, hr⟩
    rw [hb, (ctS_yes hb).1, (ctS_yes hb).2]
    rw [decide_eq_true hr] at HA
    have HM := Lib.hid (fun k => minC_bound (n := c) hg k)
    have HMv := Lib.hid (fun (k : Nat) (x : Mv) (hx : S[k]? = some x) => goodMv_get hg hx)
    have h30 := goodMv_len hg
    obtain ⟨a, cap, rfl, hc⟩ := h
    obtain ⟨n, hl⟩ : ∃ n, S.length = n := ⟨_, rfl⟩
    have HN := Lib.hid hl
    have HC := Lib.hid hc
    rw [hl] at hn h30 HG HV ⊢
    clear hg hb hr hc hl
    go_enter Try.func22, Try.ntmps22
    go_wp2_with fail
    refine HG.out.mono ?_
    rintro e w1 ⟨rfl, hb⟩
    have HB := Lib.hid hb
    clear hb
    go_wp2_with fail
    refine (HA.out _).mono ?_
    rintro e w2 ⟨rfl, rfl⟩
    go_wp2_with fail
    go_loopw [7, 8, 21] (fun s m i wr => ∃ (k : Nat) (t u : Int), k ≤ n ∧ i = .int .i64 k ∧ s = .int .i64 t ∧ m = .int .i64 u ∧ Hid (t = minC c (S.take k)) ∧ Hid (u = endC c (S.take k)) ∧ Hid (Below w.heap.size w wr)) (fun _ _ i _ => n - (intOf i).toNat)
    case atStart => exact ⟨0, 0, 0, Nat.zero_le _, rfl, rfl, rfl, Lib.hid (by simp [minC]), Lib.hid (by simp [endC, mxC]), HB⟩
    case round =>
      obtain ⟨k, t, u, hk, rfl, rfl, rfl, HS, HE, HBw⟩ := hrel
      by_cases hlt : k < n
      · obtain ⟨g, off, rfl, hg, hcc⟩ := HC.out (by have := HN.out; omega)
        obtain ⟨s, hs⟩ := get_at HN.out hlt
        obtain ⟨p, q, r, z⟩ := s
        have a0 := (HBw.out.cell (p := ⟨g, off + k * 4, none⟩) hg).trans (hcc k _ hs).1
        have a1 := (HBw.out.cell (p := ⟨g, off + k * 4 + 1, none⟩) hg).trans (hcc k _ hs).2.1
        have a2 := (HBw.out.cell (p := ⟨g, off + k * 4 + 2, none⟩) hg).trans (hcc k _ hs).2.2.1
        have a3 := (HBw.out.cell (p := ⟨g, off + k * 4 + 3, none⟩) hg).trans (hcc k _ hs).2.2.2
        have B1 := Lib.hid (HBw.out.alloc HBw.out.size (.cells #[.int .i64 p, .int .i64 q, .int .i64 r, .int .i64 z] 42))
        have m1 := HMv.out k _ hs
        have T1 := minC_take (n := c) hs
        have T2 := endC_take (n := c) hs
        have q1 := HM.out k
        have q2 := HM.out (k + 1)
        have q3 := endC_nonneg c (S.take k)
        have q4 := HS.out
        have q5 := HE.out
        simp only at a0 a1 a2 a3 m1 T1 T2
        clear hcc hs hg
        by_cases hpc : p = c
        · subst hpc
          rw [if_pos rfl] at T1 T2
          have HS2 : Hid (t + z - r = minC p (S.take (k + 1))) := Lib.hid (by omega)
          have ht0 : 0 ≤ t ∧ t ≤ 300000 := by omega
          have hz0 : 0 ≤ z ∧ z ≤ 10000 := by omega
          have hr0 : 0 ≤ r ∧ r ≤ 10000 := by omega
          by_cases hmx : z ≤ u
          case' pos =>
            have HE2 : Hid (u = endC p (S.take (k + 1))) := Lib.hid (by omega)
            have hmx2 : ¬ u < z := by omega
          case' neg =>
            have HE2 : Hid (z = endC p (S.take (k + 1))) := Lib.hid (by omega)
            have hmx2 : u < z := by omega
          all_goals
            clear T1 T2 q1 q2 q3 q4 q5 m1
            go_wp2_with fail
            go_quiet (fail)
            go_wp2_with fail
            exact ⟨⟨k + 1, _, _, by omega, by go_num, rfl, rfl, HS2, HE2, Lib.hid (below_drewN B1.out _)⟩, by simp [intOf]; omega⟩
        · rw [if_neg hpc] at T1 T2
          have HS2 : Hid (t = minC c (S.take (k + 1))) := Lib.hid (by omega)
          have HE2 : Hid (u = endC c (S.take (k + 1))) := Lib.hid (by omega)
          clear T1 T2 q1 q2 q3 q4 q5 m1
          go_wp2_with fail
          exact ⟨⟨k + 1, t, u, by omega, by go_num, rfl, rfl, HS2, HE2, B1⟩, by simp [intOf]; omega⟩
      · obtain rfl : k = n := by omega
        have e := List.take_of_length_le (l := S) (i := k) (by have := HN.out; omega)
        have h1 := HS.out
        have h2 := HE.out
        rw [e] at h1 h2
        subst h1 h2
        go_wp2_with fail
        go_ret3
        exact ⟨rfl, HBw.out⟩

set_option maxRecDepth 100000 in
set_option maxHeartbeats 4000000 in
theorem specCt_any (v : Value) (S : List Mv) (c : Int) (hn : S.length ≤ 1048576) (w : World) (h : CmL w v S) :
    Calls Try.prog 41 #[v, .int .i64 c] w (RetP w (.tuple #[.int .i64 (ctS S c), .int .i64 (ctE S c), .bool (ctB S c)])) := by
  have HG := Lib.hid (l13Moves_any v S hn w h)
  have HV := Lib.hid h
  cases hg : goodMv S with
  | false =>
    have hb : ctB S c = false := by simp [ctB, hg]
    rw [hb, (ctS_no hb).1, (ctS_no hb).2]
    rw [hg] at HG
    clear h hg hb
    go_enter Try.func41, Try.ntmps41
    go_wp2_with fail
    refine HG.out.mono ?_
    rintro e w1 ⟨rfl, hb⟩
    have HB := Lib.hid hb
    clear hb
    go_wp2_with fail
    go_ret3
    exact ⟨rfl, HB.out⟩
  | true =>
    rw [hg] at HG
    by_cases hr : 0 ≤ c ∧ c ≤ 2
    case neg =>
      have hb : ctB S c = false := by simp [ctB, hr]
      rw [hb, (ctS_no hb).1, (ctS_no hb).2]
      have HA := Lib.hid (fun W => l1In_no c 0 2 W (by omega))
      clear h hg hb hr
      go_enter Try.func41, Try.ntmps41
      go_wp2_with fail
      refine HG.out.mono ?_
      rintro e w1 ⟨rfl, hb⟩
      have HB := Lib.hid hb
      clear hb
      go_wp2_with fail
      refine (HA.out _).mono ?_
      rintro e w2 ⟨rfl, rfl⟩
      go_wp2_with fail
      go_ret3
      exact ⟨rfl, HB.out⟩
    have hb : ctB S c = true := ctB_iff.2 ⟨hg, hr⟩
    rw [hb, (ctS_yes hb).1, (ctS_yes hb).2]
    have HA := Lib.hid (fun W => l1In_yes c 0 2 W hr.1 hr.2)
    have HM := Lib.hid (fun k => minC_bound (n := c) hg k)
    have HMv := Lib.hid (fun (k : Nat) (x : Mv) (hx : S[k]? = some x) => goodMv_get hg hx)
    have h30 := goodMv_len hg
    obtain ⟨a, cap, rfl, hc⟩ := h
    obtain ⟨n, hl⟩ : ∃ n, S.length = n := ⟨_, rfl⟩
    have HN := Lib.hid hl
    have HC := Lib.hid hc
    rw [hl] at hn h30 HG HV ⊢
    clear hg hb hr hc hl
    go_enter Try.func41, Try.ntmps41
    go_wp2_with fail
    refine HG.out.mono ?_
    rintro e w1 ⟨rfl, hb⟩
    have HB := Lib.hid hb
    clear hb
    go_wp2_with fail
    refine (HA.out _).mono ?_
    rintro e w2 ⟨rfl, rfl⟩
    go_wp2_with fail
    go_loopw [7, 8, 9] (fun s m i wr => ∃ (k : Nat) (t u : Int), k ≤ n ∧ i = .int .i64 k ∧ s = .int .i64 t ∧ m = .int .i64 u ∧ Hid (t = minC c (S.take k)) ∧ Hid (u = endC c (S.take k)) ∧ Hid (Below w.heap.size w wr)) (fun _ _ i _ => n - (intOf i).toNat)
    case atStart => exact ⟨0, 0, 0, Nat.zero_le _, rfl, rfl, rfl, Lib.hid (by simp [minC]), Lib.hid (by simp [endC, mxC]), HB⟩
    case round =>
      obtain ⟨k, t, u, hk, rfl, rfl, rfl, HS, HE, HBw⟩ := hrel
      by_cases hlt : k < n
      · obtain ⟨g, off, rfl, hg, hcc⟩ := HC.out (by have := HN.out; omega)
        obtain ⟨s, hs⟩ := get_at HN.out hlt
        obtain ⟨p, q, r, z⟩ := s
        have a0 := (HBw.out.cell (p := ⟨g, off + k * 4, none⟩) hg).trans (hcc k _ hs).1
        have a2 := (HBw.out.cell (p := ⟨g, off + k * 4 + 2, none⟩) hg).trans (hcc k _ hs).2.2.1
        have a3 := (HBw.out.cell (p := ⟨g, off + k * 4 + 3, none⟩) hg).trans (hcc k _ hs).2.2.2
        have m1 := HMv.out k _ hs
        have T1 := minC_take (n := c) hs
        have T2 := endC_take (n := c) hs
        have q1 := HM.out k
        have q2 := HM.out (k + 1)
        have q3 := endC_nonneg c (S.take k)
        have q4 := HS.out
        have q5 := HE.out
        have hki : (k : Int) < (n : Int) := by omega
        simp only at a0 a2 a3 m1 T1 T2
        clear hcc hs hg
        by_cases hpc : p = c
        · subst hpc
          rw [if_pos rfl] at T1 T2
          have HS2 : Hid (t + z - r = minC p (S.take (k + 1))) := Lib.hid (by omega)
          have HE2 : Hid (max u z = endC p (S.take (k + 1))) := Lib.hid (by omega)
          have ht0 : 0 ≤ t ∧ t ≤ 300000 := by omega
          have hz0 : 0 ≤ z ∧ z ≤ 10000 := by omega
          have hr0 : 0 ≤ r ∧ r ≤ 10000 := by omega
          have HX := Lib.hid (fun W => mostC_any u z W)
          generalize max u z = y at *
          have b3 : ∀ q, (wr.drewN q).cell? ⟨g, off + k * 4 + 3, none⟩ = some (.int .i64 z) := fun q => a3
          clear T1 T2 q1 q2 q3 q4 q5 m1
          go_wp2_with fail
          go_quiet (fail)
          rename Nat => mq
          have c3 := b3 mq
          have HB2 : Hid (Below w.heap.size w (wr.drewN mq)) := Lib.hid (below_drewN HBw.out _)
          clear b3 a0 a2 a3
          generalize wr.drewN mq = w5 at *
          go_wp2_with fail
          refine (HX.out _).mono ?_
          rintro e w6 ⟨rfl, rfl⟩
          go_wp2_with fail
          exact ⟨⟨k + 1, _, _, by omega, by go_num, rfl, rfl, HS2, HE2, HB2⟩, by simp [intOf]; omega⟩
        · rw [if_neg hpc] at T1 T2
          have HS2 : Hid (t = minC c (S.take (k + 1))) := Lib.hid (by omega)
          have HE2 : Hid (u = endC c (S.take (k + 1))) := Lib.hid (by omega)
          clear T1 T2 q1 q2 q3 q4 q5 m1
          go_wp2_with fail
          exact ⟨⟨k + 1, t, u, by omega, by go_num, rfl, rfl, HS2, HE2, HBw⟩, by simp [intOf]; omega⟩
      · obtain rfl : k = n := by omega
        have e := List.take_of_length_le (l := S) (i := k) (by have := HN.out; omega)
        have h1 := HS.out
        have h2 := HE.out
        rw [e] at h1 h2
        subst h1 h2
        go_wp2_with fail
        go_ret3
        exact ⟨rfl, HBw.out⟩
end Go.Proofs.Ytffejbgcgagkpaa
