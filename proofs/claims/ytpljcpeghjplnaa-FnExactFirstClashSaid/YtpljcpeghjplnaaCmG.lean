/-
  Whether moves are valid, in the program and in the reference. No statement of the seat by itself.
-/
import Derived.Test.YtpljcpeghjplnaaCmM
import Derived.Test.YtpljcpeghjplnaaCrG
namespace Go.Proofs.Ytpljcpeghjplnaa
open Go.RowKit

theorem isCrane_any (n : Int) (w : World) : Calls Try.prog 148 #[.int .i64 n] w fun e w' => e = .returned (.bool (decide (0 ≤ n ∧ n ≤ 2))) ∧ w = w' := by
  by_cases h1 : 0 ≤ n
  · by_cases h2 : n < 3
    · rw [show decide (0 ≤ n ∧ n ≤ 2) = true by simp; omega]
      go_enter Try.func148, Try.ntmps148
      go_wp2
      go_ret
      exact ⟨by simp, rfl⟩
    · rw [show decide (0 ≤ n ∧ n ≤ 2) = false by simp; omega]
      have h3 : decide (n < 3) = false := by simp; omega
      clear h2
      go_enter Try.func148, Try.ntmps148
      go_wp2
      go_ret
      exact ⟨by simp, rfl⟩
  · rw [show decide (0 ≤ n ∧ n ≤ 2) = false by simp; omega]
    have h2 : decide (0 ≤ n) = false := by simp; omega
    clear h1
    go_enter Try.func148, Try.ntmps148
    go_wp2
    go_ret
    exact ⟨by simp, rfl⟩

set_option maxRecDepth 100000 in
set_option maxHeartbeats 4000000 in
theorem isMv_any (p q r s : Int) (w : World) : Calls Try.prog 129 #[.agg #[.int .i64 p, .int .i64 q, .int .i64 r, .int .i64 s]] w fun e w' => e = .returned (.bool (okMv (p, q, r, s))) ∧ Below w.heap.size w w' := by
  have B0 := Lib.hid (below_one w (.cells #[.int .i64 p, .int .i64 q, .int .i64 r, .int .i64 s] 131))
  have HP := Lib.hid (fun W => isCrane_any p W)
  by_cases hp : 0 ≤ p ∧ p ≤ 2
  case neg =>
    rw [decide_eq_false hp] at HP
    rw [okMv_no (by omega)]
    clear hp
    go_enter Try.func129, Try.ntmps129
    go_wp2_with fail
    refine (HP.out _).mono ?_
    rintro e w1 ⟨rfl, rfl⟩
    go_wp2_with fail
    go_ret
    exact ⟨rfl, B0.out⟩
  rw [decide_eq_true hp] at HP
  by_cases c0 : 0 ≤ q
  case neg =>
    rw [okMv_no (by omega)]
    have dc0 : decide (0 ≤ q) = false := decide_eq_false c0
    clear c0 hp
    go_enter Try.func129, Try.ntmps129
    go_wp2_with fail
    refine (HP.out _).mono ?_
    rintro e w1 ⟨rfl, rfl⟩
    go_wp2_with fail
    go_ret
    exact ⟨by first | rfl | simp, B0.out⟩
  by_cases c1 : q < 10
  case neg =>
    rw [okMv_no (by omega)]
    have dc1 : decide (q < 10) = false := decide_eq_false c1
    clear c1 hp
    go_enter Try.func129, Try.ntmps129
    go_wp2_with fail
    refine (HP.out _).mono ?_
    rintro e w1 ⟨rfl, rfl⟩
    go_wp2_with fail
    go_ret
    exact ⟨by first | rfl | simp, B0.out⟩
  by_cases c2 : 0 ≤ r
  case neg =>
    rw [okMv_no (by omega)]
    have dc2 : decide (0 ≤ r) = false := decide_eq_false c2
    clear c2 hp
    go_enter Try.func129, Try.ntmps129
    go_wp2_with fail
    refine (HP.out _).mono ?_
    rintro e w1 ⟨rfl, rfl⟩
    go_wp2_with fail
    go_ret
    exact ⟨by first | rfl | simp, B0.out⟩
  by_cases c3 : r < s
  case neg =>
    rw [okMv_no (by omega)]
    have dc3 : decide (r < s) = false := decide_eq_false c3
    clear c3 hp
    go_enter Try.func129, Try.ntmps129
    go_wp2_with fail
    refine (HP.out _).mono ?_
    rintro e w1 ⟨rfl, rfl⟩
    go_wp2_with fail
    go_ret
    exact ⟨by first | rfl | simp, B0.out⟩
  by_cases c4 : s ≤ 10000
  case neg =>
    rw [okMv_no (by omega)]
    have dc4 : decide (s ≤ 10000) = false := decide_eq_false c4
    clear c4 hp
    go_enter Try.func129, Try.ntmps129
    go_wp2_with fail
    refine (HP.out _).mono ?_
    rintro e w1 ⟨rfl, rfl⟩
    go_wp2_with fail
    go_ret
    exact ⟨by first | rfl | simp, B0.out⟩
  rw [okMv_iff.2 ⟨hp, (show 0 ≤ q ∧ q ≤ 9 by omega), c2, c3, c4⟩]
  have d4 : decide (s ≤ 10000) = true := decide_eq_true c4
  clear hp
  go_enter Try.func129, Try.ntmps129
  go_wp2_with fail
  refine (HP.out _).mono ?_
  rintro e w1 ⟨rfl, rfl⟩
  go_wp2_with fail
  go_ret
  exact ⟨by first | rfl | simp, B0.out⟩
theorem enters_isMv : Enters Try.prog 129 := enters_of Try.func129 (by kernel_rfl) rfl

set_option maxRecDepth 100000 in
set_option maxHeartbeats 4000000 in
theorem numsCm_any (F : Nat) (caps : Array Value) (hE : Enters Try.prog F) (v : Value) (l : List (Int × Int × Int × Int)) (p : Nat → Bool) (hl : l.length ≤ 1048576) (w : World) (h : CmL w v l)
    (hF : ∀ (i : Nat) (x y z t : Int) (W : World), l[i]? = some (x, y, z, t) → Below w.heap.size w W → Calls Try.prog F (#[.agg #[.int .i64 x, .int .i64 y, .int .i64 z, .int .i64 t]] ++ caps) W fun e w' => e = .returned (.bool (p i)) ∧ Below W.heap.size W w') :
    Calls Try.prog 147 #[v, .func (.func F) #[] caps] w (NewI w (numsW p l.length)) := by
  obtain ⟨f3, hi3, hz0, hz1, hz2⟩ := info_is info3
  obtain ⟨n, hn⟩ : ∃ n, l.length = n := ⟨_, rfl⟩
  have HN := Lib.hid hn
  have HF := Lib.hid hF
  obtain ⟨a, c, rfl, hc⟩ := h
  have HC := Lib.hid hc
  rw [hn] at hl ⊢
  clear hc hn hF
  have R0 := Lib.hid (numS_start w)
  go_enter Try.func147, Try.ntmps147
  go_wp2_with fail
  go_loopw [5, 11] (fun s i wr => ∃ k : Nat, k ≤ n ∧ i = .int .i64 k ∧ Hid (NumS w wr s (numsW p k))) (fun _ i _ => n - (intOf i).toNat)
  case atStart => exact ⟨0, Nat.zero_le _, rfl, R0⟩
  case round =>
    obtain ⟨k, hk, rfl, HR⟩ := hrel
    by_cases hlt : k < n
    · obtain ⟨g, off, rfl, hg, hcc⟩ := HC.out (by have := HN.out; omega)
      obtain ⟨s, hs⟩ := get_at HN.out hlt
      obtain ⟨x, y, z, t⟩ := s
      have o0 : wr.cell? ⟨g, off + k * 4, none⟩ = some (.int .i64 x) := (HR.out.2.1.cell (p := ⟨g, off + k * 4, none⟩) hg).trans (hcc k _ hs).1
      have o1 : wr.cell? ⟨g, off + k * 4 + 1, none⟩ = some (.int .i64 y) := (HR.out.2.1.cell (p := ⟨g, off + k * 4 + 1, none⟩) hg).trans (hcc k _ hs).2.1
      have o2 : wr.cell? ⟨g, off + k * 4 + 2, none⟩ = some (.int .i64 z) := (HR.out.2.1.cell (p := ⟨g, off + k * 4 + 2, none⟩) hg).trans (hcc k _ hs).2.2.1
      have o3 : wr.cell? ⟨g, off + k * 4 + 3, none⟩ = some (.int .i64 t) := (HR.out.2.1.cell (p := ⟨g, off + k * 4 + 3, none⟩) hg).trans (hcc k _ hs).2.2.2
      have R0' := HR.out.below (below_one wr (.cells #[.int .i64 x, .int .i64 y, .int .i64 z, .int .i64 t] 131))
      have HE := Lib.hid (HF.out k x y z t _ hs R0'.2.1)
      have HR2 := Lib.hid R0'
      have hbl := numsW_len p k
      clear hcc hs R0'
      go_wp2_with fail
      rw [hE, Oper.upon_enter]
      refine HE.out.mono ?_
      rintro e w1 ⟨rfl, hb⟩
      have R1 := Lib.hid (HR2.out.below hb)
      have hz1 : wr.heap.size < w1.heap.size := by have := hb.size; simp at this; omega
      clear hb o0 o1 o2 o3
      cases hp : p k with
      | true =>
        have HT := Lib.hid (numsW_yes hp)
        have hrow := R1.out.1
        have hz := R1.out.2.1.size
        generalize numsW p k = S at *
        clear hp
        go_wp2_with (at_builtin; refine wpList_append_own _ rfl _ _ 25 rfl w.heap.size 3 f3 (.int .i64 0) 1 8 Try.underlying25 hi3 hz0 ‹_› hz2 rfl (by decide) _ _ _ rfl (hrow.alloc _) ⟨w1.heap.size, 0, none⟩ 1 1 [.int .i64 ((k : Int) + 1)] rfl rfl (cell_one_new _ _ _) (by simp [Value.oneCell']) (by unfold maxLen; omega) (by omega) (by simp; omega) ?_; intro v' w4 hown' hgrow hnil)
        have HN4 : Hid (NumS w w4 v' (numsW p (k + 1))) := Lib.hid (by rw [HT.out]; exact R1.out.push hown' hgrow (fun e => by have := (hnil.1 e).2; omega))
        clear hown' hgrow hnil hrow
        exact ⟨⟨k + 1, by omega, by go_num, HN4⟩, by simp [intOf]; omega⟩
      | false =>
        have HT := Lib.hid (numsW_no hp)
        clear hp
        go_wp2_with fail
        exact ⟨⟨k + 1, by omega, by go_num, Lib.hid (by rw [HT.out]; exact R1.out)⟩, by simp [intOf]; omega⟩
    · obtain rfl : k = n := by omega
      go_wp2_with fail
      go_ret
      exact HR.out.done

set_option maxRecDepth 100000 in
set_option maxHeartbeats 2000000 in
theorem areAllCm_any (F : Nat) (caps : Array Value) (hE : Enters Try.prog F) (v : Value) (l : List (Int × Int × Int × Int)) (p : Nat → Bool) (hl : l.length ≤ 1048576) (w : World) (h : CmL w v l)
    (hF : ∀ (i : Nat) (x y z t : Int) (W : World), l[i]? = some (x, y, z, t) → Below w.heap.size w W → Calls Try.prog F (#[.agg #[.int .i64 x, .int .i64 y, .int .i64 z, .int .i64 t]] ++ caps) W fun e w' => e = .returned (.bool (p i)) ∧ Below W.heap.size W w') :
    Calls Try.prog 128 #[v, .func (.func F) #[] caps] w (BoolP w (decide ((numsW p l.length).length = l.length))) := by
  have H := Lib.hid (numsCm_any F caps hE v l p hl w h hF)
  obtain ⟨a, c, rfl⟩ := h.form
  clear h hF
  unfold NewI at H
  generalize numsW p l.length = S at *
  generalize l.length = n at *
  go_enter Try.func128, Try.ntmps128
  go_wp2_with fail
  refine H.out.mono ?_
  rintro e w1 ⟨a1, c1, rfl, ho, hb⟩
  have HB := Lib.hid hb
  clear ho hb
  go_wp2_with fail
  go_ret
  exact ⟨by rw [all_beq]; rfl, HB.out⟩


set_option maxRecDepth 100000 in
set_option maxHeartbeats 2000000 in
theorem areMoves_any (v : Value) (S : List Mv) (hn : S.length ≤ 1048576) (w : World) (h : CmL w v S) :
    Calls Try.prog 98 #[v] w (BoolP w (goodMv S)) := by
  have HV := Lib.hid (areAllCm_any _ #[] enters_isMv v S (mvAt S) hn w h fun i x y z t W hx _ => by rw [mvAt_get hx]; exact isMv_any x y z t W)
  obtain ⟨a, c, rfl⟩ := h.form
  clear h
  obtain ⟨n, hl⟩ : ∃ n, S.length = n := ⟨_, rfl⟩
  have HN := Lib.hid hl
  rw [hl] at hn HV ⊢
  clear hl
  by_cases h20 : n ≤ 30
  · have h3 : decide ((n : Int) ≤ 30) = true := by simp; omega
    have HG := Lib.hid (goodMv_nums (S := S) (by rw [HN.out]; exact h20))
    clear h20
    go_enter Try.func98, Try.ntmps98
    go_wp2_with fail
    refine HV.out.mono ?_
    rintro e w1 ⟨rfl, hb⟩
    have HB := Lib.hid hb
    clear hb
    go_wp2_with fail
    go_ret
    exact ⟨by rw [HG.out, HN.out]; first | done | rfl, HB.out⟩
  · have h3 : decide ((n : Int) ≤ 30) = false := by simp; omega
    have HF : Hid (goodMv S = false) := Lib.hid (goodMv_not fun g => h20 (by rw [← HN.out]; exact g.1))
    clear h20
    go_enter Try.func98, Try.ntmps98
    go_wp2_with fail
    go_ret
    exact ⟨by rw [HF.out]; first | done | rfl, Below.refl _ _⟩

set_option maxRecDepth 100000 in
set_option maxHeartbeats 4000000 in
theorem l13Moves_any (v : Value) (S : List Mv) (hn : S.length ≤ 1048576) (w : World) (h : CmL w v S) :
    Calls Try.prog 95 #[v] w (BoolP w (goodMv S)) := by
  obtain ⟨a, c, rfl, hc⟩ := h
  obtain ⟨n, hl⟩ : ∃ n, S.length = n := ⟨_, rfl⟩
  have HN := Lib.hid hl
  rw [hl] at hn ⊢
  have H := Lib.hid hc
  clear hc hl
  have B0 := Lib.hid (Below.refl w.heap.size w)
  go_enter Try.func95, Try.ntmps95
  go_wp2_with fail
  go_loopw [3] (fun i wr => ∃ k : Nat, k ≤ n ∧ k ≤ 31 ∧ i = .int .i64 k ∧ Hid (Below w.heap.size w wr) ∧ Hid (∀ c ∈ S.take k, okMv c = true)) (fun i _ => n - (intOf i).toNat)
  case atStart => exact ⟨0, Nat.zero_le _, Nat.zero_le _, rfl, B0, Lib.hid (by simp)⟩
  case round =>
    obtain ⟨k, hk, hk1, rfl, HB, HK⟩ := hrel
    by_cases hlt : k < n ∧ k ≤ 30
    · obtain ⟨g, off, rfl, hg, hcc⟩ := H.out (by have := HN.out; omega)
      obtain ⟨s, hs⟩ := get_at HN.out hlt.1
      obtain ⟨p, q, r, s⟩ := s
      have a0 := (HB.out.cell (p := ⟨g, off + k * 4, none⟩) hg).trans (hcc k _ hs).1
      have a1 := (HB.out.cell (p := ⟨g, off + k * 4 + 1, none⟩) hg).trans (hcc k _ hs).2.1
      have a2 := (HB.out.cell (p := ⟨g, off + k * 4 + 2, none⟩) hg).trans (hcc k _ hs).2.2.1
      have a3 := (HB.out.cell (p := ⟨g, off + k * 4 + 3, none⟩) hg).trans (hcc k _ hs).2.2.2
      have HS := Lib.hid hs
      have B1 := Lib.hid (HB.out.alloc HB.out.size (.cells #[.int .i64 p, .int .i64 q, .int .i64 r, .int .i64 s] 131))
      have d1 := hlt.1
      have hk30 := hlt.2
      have d2 : decide ((k : Int) ≤ 30) = true := by simp; omega
      clear hcc hs hg hlt
      simp only at a0 a1 a2 a3
      by_cases hp : 0 ≤ p ∧ p ≤ 2
      case neg =>
        have HP := Lib.hid (fun W => l1In_no p 0 2 W (by omega))
        have HF : Hid (goodMv S = false) := Lib.hid (goodMv_at HS.out (okMv_no fun h => hp h.1))
        clear hp
        go_wp2_with fail
        refine (HP.out _).mono ?_
        rintro e w1 ⟨rfl, rfl⟩
        go_wp2_with fail
        go_ret
        exact ⟨by rw [HF.out]; rfl, B1.out⟩
      have HP := Lib.hid (fun W => l1In_yes p 0 2 W hp.1 hp.2)
      by_cases hq : 0 ≤ q ∧ q ≤ 9
      case neg =>
        have HQ := Lib.hid (fun W => l1In_no q 0 9 W (by omega))
        have HF : Hid (goodMv S = false) := Lib.hid (goodMv_at HS.out (okMv_no fun h => hq h.2.1))
        clear hp hq
        go_wp2_with fail
        refine (HP.out _).mono ?_
        rintro e w1 ⟨rfl, rfl⟩
        go_wp2_with fail
        refine (HQ.out _).mono ?_
        rintro e w1 ⟨rfl, rfl⟩
        go_wp2_with fail
        go_ret
        exact ⟨by rw [HF.out]; rfl, B1.out⟩
      have HQ := Lib.hid (fun W => l1In_yes q 0 9 W hq.1 hq.2)
      by_cases c2 : 0 ≤ r
      case neg =>
        have HF : Hid (goodMv S = false) := Lib.hid (goodMv_at HS.out (okMv_no fun h => c2 h.2.2.1))
        have d3 : r < 0 := by omega
        have d4 : decide (r < 0) = true := decide_eq_true d3
        clear hp hq c2
        go_wp2_with fail
        refine (HP.out _).mono ?_
        rintro e w1 ⟨rfl, rfl⟩
        go_wp2_with fail
        refine (HQ.out _).mono ?_
        rintro e w1 ⟨rfl, rfl⟩
        go_wp2_with fail
        go_ret
        exact ⟨by rw [HF.out]; first | rfl | simp, B1.out⟩
      by_cases c3 : r < s
      case neg =>
        have HF : Hid (goodMv S = false) := Lib.hid (goodMv_at HS.out (okMv_no fun h => c3 h.2.2.2.1))
        have d3 : s ≤ r := by omega
        have d4 : decide (s ≤ r) = true := decide_eq_true d3
        clear hp hq c3
        go_wp2_with fail
        refine (HP.out _).mono ?_
        rintro e w1 ⟨rfl, rfl⟩
        go_wp2_with fail
        refine (HQ.out _).mono ?_
        rintro e w1 ⟨rfl, rfl⟩
        go_wp2_with fail
        go_ret
        exact ⟨by rw [HF.out]; first | rfl | simp, B1.out⟩
      by_cases c4 : s ≤ 10000
      case neg =>
        have HF : Hid (goodMv S = false) := Lib.hid (goodMv_at HS.out (okMv_no fun h => c4 h.2.2.2.2))
        have d3 : 10000 < s := by omega
        have d4 : decide (10000 < s) = true := decide_eq_true d3
        clear hp hq c4
        go_wp2_with fail
        refine (HP.out _).mono ?_
        rintro e w1 ⟨rfl, rfl⟩
        go_wp2_with fail
        refine (HQ.out _).mono ?_
        rintro e w1 ⟨rfl, rfl⟩
        go_wp2_with fail
        go_ret
        exact ⟨by rw [HF.out]; first | rfl | simp, B1.out⟩
      have HK2 : Hid (∀ c ∈ S.take (k + 1), okMv c = true) := Lib.hid fun c hc => by
        rw [List.take_add_one, HS.out] at hc
        rcases List.mem_append.1 hc with h | h
        · exact HK.out c h
        · simp at h; subst h; exact okMv_iff.2 ⟨hp, hq, c2, c3, c4⟩
      have e2 : ¬ r < 0 := by omega
      have e3 : ¬ s ≤ r := by omega
      have e4 : decide (10000 < s) = false := by simp; omega
      clear hp hq
      go_wp2_with fail
      refine (HP.out _).mono ?_
      rintro e w1 ⟨rfl, rfl⟩
      go_wp2_with fail
      refine (HQ.out _).mono ?_
      rintro e w1 ⟨rfl, rfl⟩
      go_wp2_with fail
      exact ⟨⟨k + 1, by omega, by omega, by go_num, B1, HK2⟩, by simp [intOf]; omega⟩
    · by_cases h20 : n ≤ 30
      · obtain rfl : k = n := by omega
        have HF : Hid (goodMv S = true) := Lib.hid (goodMv_iff.2 ⟨by rw [HN.out]; exact h20, by have := HK.out; rwa [List.take_of_length_le (by have := HN.out; omega)] at this⟩)
        have h3 : decide ((k : Int) ≤ 30) = true := by simp; omega
        clear h20 hlt
        go_wp2_with fail
        go_ret
        exact ⟨by rw [HF.out]; first | done | rfl, HB.out⟩
      · have HF : Hid (goodMv S = false) := Lib.hid (goodMv_long (by rw [HN.out]; omega))
        obtain rfl : k = 31 := by omega
        have h3 : decide ((n : Int) ≤ 30) = false := by simp; omega
        have h4 : (31 : Int) < (n : Int) ∨ (31 : Int) = (n : Int) := by omega
        clear h20 hlt
        rcases h4 with h4 | h4
        all_goals
          go_wp2_with fail
          go_ret
          exact ⟨by rw [HF.out]; first | done | rfl, HB.out⟩
end Go.Proofs.Ytpljcpeghjplnaa
