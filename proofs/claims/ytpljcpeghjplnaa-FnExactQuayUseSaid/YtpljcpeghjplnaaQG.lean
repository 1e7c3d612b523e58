/-
  Whether a quay and ships are valid, in the program and in the reference. No statement of the seat by itself.
-/
import Derived.Test.YtpljcpeghjplnaaQM
import Derived.Test.YtpljcpeghjplnaaZNum
import Derived.Test.YtpljcpeghjplnaaRet
namespace Go.Proofs.Ytpljcpeghjplnaa
open Go.RowKit

theorem isQuay_any (n : Int) (w : World) : Calls Try.prog 64 #[.int .i64 n] w fun e w' => e = .returned (.bool (isQ n)) ∧ w = w' := by
  unfold isQ
  by_cases h1 : 1 ≤ n
  · by_cases h2 : n ≤ 30
    · rw [show decide (1 ≤ n ∧ n ≤ 30) = true by simp; omega]
      go_enter Try.func64, Try.ntmps64
      go_wp2
      go_ret
      exact ⟨by simp, rfl⟩
    · rw [show decide (1 ≤ n ∧ n ≤ 30) = false by simp; omega]
      have h3 : decide (n ≤ 30) = false := by simp; omega
      clear h2
      go_enter Try.func64, Try.ntmps64
      go_wp2
      go_ret
      exact ⟨by simp, rfl⟩
  · rw [show decide (1 ≤ n ∧ n ≤ 30) = false by simp; omega]
    have h2 : decide (1 ≤ n) = false := by simp; omega
    clear h1
    go_enter Try.func64, Try.ntmps64
    go_wp2
    go_ret
    exact ⟨by simp, rfl⟩

set_option maxRecDepth 100000 in
set_option maxHeartbeats 4000000 in
theorem isShip_any (p q r s : Int) (w : World) : Calls Try.prog 115 #[.agg #[.int .i64 p, .int .i64 q, .int .i64 r, .int .i64 s]] w fun e w' => e = .returned (.bool (okShp (p, q, r, s))) ∧ Below w.heap.size w w' := by
  have B0 := Lib.hid (below_one w (.cells #[.int .i64 p, .int .i64 q, .int .i64 r, .int .i64 s] 41))
  have HP := Lib.hid (fun W => isQuay_any p W)
  by_cases hp : 1 ≤ p ∧ p ≤ 30
  case neg =>
    rw [show isQ p = false by unfold isQ; exact decide_eq_false hp] at HP
    rw [okShp_no (by omega)]
    clear hp
    go_enter Try.func115, Try.ntmps115
    go_wp2_with fail
    refine (HP.out _).mono ?_
    rintro e w1 ⟨rfl, rfl⟩
    go_wp2_with fail
    go_ret
    exact ⟨rfl, B0.out⟩
  rw [isQ_iff.2 hp] at HP
  by_cases c0 : 0 ≤ q
  case neg =>
    rw [okShp_no (by omega)]
    have dc0 : decide (0 ≤ q) = false := decide_eq_false c0
    clear c0 hp
    go_enter Try.func115, Try.ntmps115
    go_wp2_with fail
    refine (HP.out _).mono ?_
    rintro e w1 ⟨rfl, rfl⟩
    go_wp2_with fail
    go_ret
    exact ⟨by first | rfl | simp, B0.out⟩
  by_cases c1 : q ≤ 200
  case neg =>
    rw [okShp_no (by omega)]
    have dc1 : decide (q ≤ 200) = false := decide_eq_false c1
    clear c1 hp
    go_enter Try.func115, Try.ntmps115
    go_wp2_with fail
    refine (HP.out _).mono ?_
    rintro e w1 ⟨rfl, rfl⟩
    go_wp2_with fail
    go_ret
    exact ⟨by first | rfl | simp, B0.out⟩
  by_cases c2 : 1 ≤ r
  case neg =>
    rw [okShp_no (by omega)]
    have dc2 : decide (1 ≤ r) = false := decide_eq_false c2
    clear c2 hp
    go_enter Try.func115, Try.ntmps115
    go_wp2_with fail
    refine (HP.out _).mono ?_
    rintro e w1 ⟨rfl, rfl⟩
    go_wp2_with fail
    go_ret
    exact ⟨by first | rfl | simp, B0.out⟩
  by_cases c3 : r ≤ 48
  case neg =>
    rw [okShp_no (by omega)]
    have dc3 : decide (r ≤ 48) = false := decide_eq_false c3
    clear c3 hp
    go_enter Try.func115, Try.ntmps115
    go_wp2_with fail
    refine (HP.out _).mono ?_
    rintro e w1 ⟨rfl, rfl⟩
    go_wp2_with fail
    go_ret
    exact ⟨by first | rfl | simp, B0.out⟩
  by_cases c4 : 1 ≤ s
  case neg =>
    rw [okShp_no (by omega)]
    have dc4 : decide (1 ≤ s) = false := decide_eq_false c4
    clear c4 hp
    go_enter Try.func115, Try.ntmps115
    go_wp2_with fail
    refine (HP.out _).mono ?_
    rintro e w1 ⟨rfl, rfl⟩
    go_wp2_with fail
    go_ret
    exact ⟨by first | rfl | simp, B0.out⟩
  by_cases c5 : s ≤ 9
  case neg =>
    rw [okShp_no (by omega)]
    have dc5 : decide (s ≤ 9) = false := decide_eq_false c5
    clear c5 hp
    go_enter Try.func115, Try.ntmps115
    go_wp2_with fail
    refine (HP.out _).mono ?_
    rintro e w1 ⟨rfl, rfl⟩
    go_wp2_with fail
    go_ret
    exact ⟨by first | rfl | simp, B0.out⟩
  rw [okShp_iff.2 ⟨hp, ⟨c0, c1⟩, ⟨c2, c3⟩, c4, c5⟩]
  have d5 : decide (s ≤ 9) = true := decide_eq_true c5
  clear hp
  go_enter Try.func115, Try.ntmps115
  go_wp2_with fail
  refine (HP.out _).mono ?_
  rintro e w1 ⟨rfl, rfl⟩
  go_wp2_with fail
  go_ret
  exact ⟨by first | rfl | simp, B0.out⟩
theorem enters_isShip : Enters Try.prog 115 := enters_of Try.func115 (by kernel_rfl) rfl

set_option maxRecDepth 100000 in
set_option maxHeartbeats 4000000 in
theorem numsQs_any (F : Nat) (caps : Array Value) (hE : Enters Try.prog F) (v : Value) (l : List (Int × Int × Int × Int)) (p : Nat → Bool) (hl : l.length ≤ 1048576) (w : World) (h : QsL w v l)
    (hF : ∀ (i : Nat) (x y z t : Int) (W : World), l[i]? = some (x, y, z, t) → Below w.heap.size w W → Calls Try.prog F (#[.agg #[.int .i64 x, .int .i64 y, .int .i64 z, .int .i64 t]] ++ caps) W fun e w' => e = .returned (.bool (p i)) ∧ Below W.heap.size W w') :
    Calls Try.prog 142 #[v, .func (.func F) #[] caps] w (NewI w (numsW p l.length)) := by
  obtain ⟨f3, hi3, hz0, hz1, hz2⟩ := info_is info3
  obtain ⟨n, hn⟩ : ∃ n, l.length = n := ⟨_, rfl⟩
  have HN := Lib.hid hn
  have HF := Lib.hid hF
  obtain ⟨a, c, rfl, hc⟩ := h
  have HC := Lib.hid hc
  rw [hn] at hl ⊢
  clear hc hn hF
  have R0 := Lib.hid (numS_start w)
  go_enter Try.func142, Try.ntmps142
  go_wp2_with fail
  go_loopw [5, 11] (fun s i wr => ∃ k : Nat, k ≤ n ∧ i = .int .i64 k ∧ Hid (NumS w wr s (numsW p k))) (fun _ i _ => n - (intOf i).toNat)
  case atStart => exact ⟨0, Nat.zero_le _, rfl, R0⟩
  case round =>
    obtain ⟨k, hk, rfl, HR⟩ := hrel
    by_cases hlt : k < n
    · obtain ⟨g, off, rfl, hg, hcc⟩ := HC.out (by have := HN.out; omega)
      obtain ⟨s, hs⟩ := get_at HN.out hlt
      obtain ⟨x, y, z, t⟩ := s
      have o0 : wr.cell? ⟨g, off + k * 4, none⟩ = some (.int .i64 x) := (HR.out.2.1.cell (p := ⟨g, off + k * 4, none⟩) hg).trans (hcc k _ hs).1
      have o1 : wr.cell? ⟨g, off + k * 4 + 1, none⟩ = some (.int .i64 y) := (HR.out.2.1.cell (p := ⟨g, off + k * 4 + 1, none⟩) hg).trans (hcc k _ hs).2.1
      have o2 : wr.cell? ⟨g, off + k * 4 + 2, none⟩ = some (.int .i64 z) := (HR.out.2.1.cell (p := ⟨g, off + k * 4 + 2, none⟩) hg).trans (hcc k _ hs).2.2.1
      have o3 : wr.cell? ⟨g, off + k * 4 + 3, none⟩ = some (.int .i64 t) := (HR.out.2.1.cell (p := ⟨g, off + k * 4 + 3, none⟩) hg).trans (hcc k _ hs).2.2.2
      have R0' := HR.out.below (below_one wr (.cells #[.int .i64 x, .int .i64 y, .int .i64 z, .int .i64 t] 41))
      have HE := Lib.hid (HF.out k x y z t _ hs R0'.2.1)
      have HR2 := Lib.hid R0'
      have hbl := numsW_len p k
      clear hcc hs R0'
      go_wp2_with fail
      rw [hE, Oper.upon_enter]
      refine HE.out.mono ?_
      rintro e w1 ⟨rfl, hb⟩
      have R1 := Lib.hid (HR2.out.below hb)
      have hz1 : wr.heap.size < w1.heap.size := by have := hb.size; simp at this; omega
      clear hb o0 o1 o2 o3
      cases hp : p k with
      | true =>
        have HT := Lib.hid (numsW_yes hp)
        have hrow := R1.out.1
        have hz := R1.out.2.1.size
        generalize numsW p k = S at *
        clear hp
        go_wp2_with (at_builtin; refine wpList_append_own _ rfl _ _ 25 rfl w.heap.size 3 f3 (.int .i64 0) 1 8 Try.underlying25 hi3 hz0 ‹_› hz2 rfl (by decide) _ _ _ rfl (hrow.alloc _) ⟨w1.heap.size, 0, none⟩ 1 1 [.int .i64 ((k : Int) + 1)] rfl rfl (cell_one_new _ _ _) (by simp [Value.oneCell']) (by unfold maxLen; omega) (by omega) (by simp; omega) ?_; intro v' w4 hown' hgrow hnil)
        have HN4 : Hid (NumS w w4 v' (numsW p (k + 1))) := Lib.hid (by rw [HT.out]; exact R1.out.push hown' hgrow (fun e => by have := (hnil.1 e).2; omega))
        clear hown' hgrow hnil hrow
        exact ⟨⟨k + 1, by omega, by go_num, HN4⟩, by simp [intOf]; omega⟩
      | false =>
        have HT := Lib.hid (numsW_no hp)
        clear hp
        go_wp2_with fail
        exact ⟨⟨k + 1, by omega, by go_num, Lib.hid (by rw [HT.out]; exact R1.out)⟩, by simp [intOf]; omega⟩
    · obtain rfl : k = n := by omega
      go_wp2_with fail
      go_ret
      exact HR.out.done

set_option maxRecDepth 100000 in
set_option maxHeartbeats 2000000 in
theorem areAllQs_any (F : Nat) (caps : Array Value) (hE : Enters Try.prog F) (v : Value) (l : List (Int × Int × Int × Int)) (p : Nat → Bool) (hl : l.length ≤ 1048576) (w : World) (h : QsL w v l)
    (hF : ∀ (i : Nat) (x y z t : Int) (W : World), l[i]? = some (x, y, z, t) → Below w.heap.size w W → Calls Try.prog F (#[.agg #[.int .i64 x, .int .i64 y, .int .i64 z, .int .i64 t]] ++ caps) W fun e w' => e = .returned (.bool (p i)) ∧ Below W.heap.size W w') :
    Calls Try.prog 114 #[v, .func (.func F) #[] caps] w (BoolP w (decide ((numsW p l.length).length = l.length))) := by
  have H := Lib.hid (numsQs_any F caps hE v l p hl w h hF)
  obtain ⟨a, c, rfl⟩ := h.form
  clear h hF
  unfold NewI at H
  generalize numsW p l.length = S at *
  generalize l.length = n at *
  go_enter Try.func114, Try.ntmps114
  go_wp2_with fail
  refine H.out.mono ?_
  rintro e w1 ⟨a1, c1, rfl, ho, hb⟩
  have HB := Lib.hid hb
  clear ho hb
  go_wp2_with fail
  go_ret
  exact ⟨by rw [all_beq]; rfl, HB.out⟩



set_option maxRecDepth 100000 in
set_option maxHeartbeats 2000000 in
theorem areShips_any (v : Value) (S : List Shp) (hn : S.length ≤ 1048576) (w : World) (h : QsL w v S) :
    Calls Try.prog 65 #[v] w (BoolP w (goodQ S)) := by
  have HV := Lib.hid (areAllQs_any _ #[] enters_isShip v S (shpAt S) hn w h fun i x y z t W hx _ => by rw [shpAt_get hx]; exact isShip_any x y z t W)
  obtain ⟨a, c, rfl⟩ := h.form
  clear h
  obtain ⟨n, hl⟩ : ∃ n, S.length = n := ⟨_, rfl⟩
  have HN := Lib.hid hl
  rw [hl] at hn HV ⊢
  clear hl
  by_cases h20 : n ≤ 5
  · have h3 : decide ((n : Int) ≤ 5) = true := by simp; omega
    have HG := Lib.hid (goodQ_nums (S := S) (by rw [HN.out]; exact h20))
    clear h20
    go_enter Try.func65, Try.ntmps65
    go_wp2_with fail
    refine HV.out.mono ?_
    rintro e w1 ⟨rfl, hb⟩
    have HB := Lib.hid hb
    clear hb
    go_wp2_with fail
    go_ret
    exact ⟨by rw [HG.out, HN.out]; first | done | rfl, HB.out⟩
  · have h3 : decide ((n : Int) ≤ 5) = false := by simp; omega
    have HF : Hid (goodQ S = false) := Lib.hid (goodQ_not fun g => h20 (by rw [← HN.out]; exact g.1))
    clear h20
    go_enter Try.func65, Try.ntmps65
    go_wp2_with fail
    go_ret
    exact ⟨by rw [HF.out]; first | done | rfl, Below.refl _ _⟩


set_option maxRecDepth 100000 in
set_option maxHeartbeats 4000000 in
theorem l14Ships_any (quay : Int) (v : Value) (S : List Shp) (hn : S.length ≤ 1048576) (w : World) (h : QsL w v S) :
    Calls Try.prog 71 #[.int .i64 quay, v] w (BoolP w (isQ quay && goodQ S)) := by
  obtain ⟨a, c, rfl, hc⟩ := h
  obtain ⟨n, hl⟩ : ∃ n, S.length = n := ⟨_, rfl⟩
  have HN := Lib.hid hl
  rw [hl] at hn ⊢
  have H := Lib.hid hc
  clear hc hl
  have B0 := Lib.hid (Below.refl w.heap.size w)
  go_enter Try.func71, Try.ntmps71
  go_wp2_with fail
  go_loopw [5] (fun i wr => ∃ k : Nat, k ≤ n ∧ k ≤ 6 ∧ i = .int .i64 k ∧ Hid (Below w.heap.size w wr) ∧ Hid (∀ c ∈ S.take k, okShp c = true)) (fun i _ => n - (intOf i).toNat)
  case atStart => exact ⟨0, Nat.zero_le _, Nat.zero_le _, rfl, B0, Lib.hid (by simp)⟩
  case round =>
    obtain ⟨k, hk, hk1, rfl, HB, HK⟩ := hrel
    by_cases hlt : k < n ∧ k ≤ 5
    · obtain ⟨g, off, rfl, hg, hcc⟩ := H.out (by have := HN.out; omega)
      obtain ⟨s, hs⟩ := get_at HN.out hlt.1
      obtain ⟨p, q, r, s⟩ := s
      have a0 := (HB.out.cell (p := ⟨g, off + k * 4, none⟩) hg).trans (hcc k _ hs).1
      have a1 := (HB.out.cell (p := ⟨g, off + k * 4 + 1, none⟩) hg).trans (hcc k _ hs).2.1
      have a2 := (HB.out.cell (p := ⟨g, off + k * 4 + 2, none⟩) hg).trans (hcc k _ hs).2.2.1
      have a3 := (HB.out.cell (p := ⟨g, off + k * 4 + 3, none⟩) hg).trans (hcc k _ hs).2.2.2
      have HS := Lib.hid hs
      have B1 := Lib.hid (HB.out.alloc HB.out.size (.cells #[.int .i64 p, .int .i64 q, .int .i64 r, .int .i64 s] 41))
      have d1 := hlt.1
      have hk30 := hlt.2
      have d2 : decide ((k : Int) ≤ 5) = true := by simp; omega
      clear hcc hs hg hlt
      simp only at a0 a1 a2 a3
      by_cases hp : 1 ≤ p ∧ p ≤ 30
      case neg =>
        have X0 := Lib.hid (fun W => l1In_no p 1 30 W (by omega))
        have HF : Hid (goodQ S = false) := Lib.hid (goodQ_at HS.out (okShp_no fun h => hp h.1))
        clear hp
        go_wp2_with fail
        refine (X0.out _).mono ?_
        rintro e w1 ⟨rfl, rfl⟩
        go_wp2_with fail
        go_ret
        exact ⟨by rw [HF.out]; simp, B1.out⟩
      have X0 := Lib.hid (fun W => l1In_yes p 1 30 W hp.1 hp.2)
      by_cases hq : 0 ≤ q ∧ q ≤ 200
      case neg =>
        have X1 := Lib.hid (fun W => l1In_no q 0 200 W (by omega))
        have HF : Hid (goodQ S = false) := Lib.hid (goodQ_at HS.out (okShp_no fun h => hq h.2.1))
        clear hp hq
        go_wp2_with fail
        refine (X0.out _).mono ?_
        rintro e w1 ⟨rfl, rfl⟩
        go_wp2_with fail
        refine (X1.out _).mono ?_
        rintro e w1 ⟨rfl, rfl⟩
        go_wp2_with fail
        go_ret
        exact ⟨by rw [HF.out]; simp, B1.out⟩
      have X1 := Lib.hid (fun W => l1In_yes q 0 200 W hq.1 hq.2)
      by_cases hr : 1 ≤ r ∧ r ≤ 48
      case neg =>
        have X2 := Lib.hid (fun W => l1In_no r 1 48 W (by omega))
        have HF : Hid (goodQ S = false) := Lib.hid (goodQ_at HS.out (okShp_no fun h => hr h.2.2.1))
        clear hp hq hr
        go_wp2_with fail
        refine (X0.out _).mono ?_
        rintro e w1 ⟨rfl, rfl⟩
        go_wp2_with fail
        refine (X1.out _).mono ?_
        rintro e w1 ⟨rfl, rfl⟩
        go_wp2_with fail
        refine (X2.out _).mono ?_
        rintro e w1 ⟨rfl, rfl⟩
        go_wp2_with fail
        go_ret
        exact ⟨by rw [HF.out]; simp, B1.out⟩
      have X2 := Lib.hid (fun W => l1In_yes r 1 48 W hr.1 hr.2)
      by_cases hs : 1 ≤ s ∧ s ≤ 9
      case neg =>
        have X3 := Lib.hid (fun W => l1In_no s 1 9 W (by omega))
        have HF : Hid (goodQ S = false) := Lib.hid (goodQ_at HS.out (okShp_no fun h => hs h.2.2.2))
        clear hp hq hr hs
        go_wp2_with fail
        refine (X0.out _).mono ?_
        rintro e w1 ⟨rfl, rfl⟩
        go_wp2_with fail
        refine (X1.out _).mono ?_
        rintro e w1 ⟨rfl, rfl⟩
        go_wp2_with fail
        refine (X2.out _).mono ?_
        rintro e w1 ⟨rfl, rfl⟩
        go_wp2_with fail
        refine (X3.out _).mono ?_
        rintro e w1 ⟨rfl, rfl⟩
        go_wp2_with fail
        go_ret
        exact ⟨by rw [HF.out]; simp, B1.out⟩
      have X3 := Lib.hid (fun W => l1In_yes s 1 9 W hs.1 hs.2)
      have HK2 : Hid (∀ c ∈ S.take (k + 1), okShp c = true) := Lib.hid fun c hc => by
        rw [List.take_add_one, HS.out] at hc
        rcases List.mem_append.1 hc with h | h
        · exact HK.out c h
        · simp at h; subst h; exact okShp_iff.2 ⟨hp, hq, hr, hs⟩
      clear hp hq hr hs
      go_wp2_with fail
      refine (X0.out _).mono ?_
      rintro e w1 ⟨rfl, rfl⟩
      go_wp2_with fail
      refine (X1.out _).mono ?_
      rintro e w1 ⟨rfl, rfl⟩
      go_wp2_with fail
      refine (X2.out _).mono ?_
      rintro e w1 ⟨rfl, rfl⟩
      go_wp2_with fail
      refine (X3.out _).mono ?_
      rintro e w1 ⟨rfl, rfl⟩
      go_wp2_with fail
      exact ⟨⟨k + 1, by omega, by omega, by go_num, B1, HK2⟩, by simp [intOf]; omega⟩
    · have HQy : Hid (∀ W, Calls Try.prog 87 #[.int .i64 quay, .int .i64 1, .int .i64 30] W fun e w' => e = .returned (.bool (isQ quay)) ∧ W = w') := Lib.hid fun W => by
        by_cases hq : 1 ≤ quay ∧ quay ≤ 30
        · rw [isQ_iff.2 hq]; exact l1In_yes quay 1 30 W hq.1 hq.2
        · rw [show isQ quay = false by unfold isQ; exact decide_eq_false hq]; exact l1In_no quay 1 30 W (by omega)
      generalize isQ quay = bq at *
      by_cases h20 : n ≤ 5
      · obtain rfl : k = n := by omega
        have HF : Hid (goodQ S = true) := Lib.hid (goodQ_iff.2 ⟨by rw [HN.out]; exact h20, by have := HK.out; rwa [List.take_of_length_le (by have := HN.out; omega)] at this⟩)
        have h3 : decide ((k : Int) ≤ 5) = true := by simp; omega
        clear h20 hlt
        go_wp2_with fail
        refine (HQy.out _).mono ?_
        rintro e w1 ⟨rfl, rfl⟩
        cases bq
        all_goals
          go_wp2_with fail
          go_ret
          exact ⟨by rw [HF.out]; first | done | rfl, HB.out⟩
      · have HF : Hid (goodQ S = false) := Lib.hid (goodQ_long (by rw [HN.out]; omega))
        obtain rfl : k = 6 := by omega
        have h3 : decide ((n : Int) ≤ 5) = false := by simp; omega
        have h4 : (6 : Int) < (n : Int) ∨ (6 : Int) = (n : Int) := by omega
        clear h20 hlt
        rcases h4 with h4 | h4
        all_goals
          go_wp2_with fail
          refine (HQy.out _).mono ?_
          rintro e w1 ⟨rfl, rfl⟩
          cases bq
          all_goals
            go_wp2_with fail
            go_ret
            exact ⟨by rw [HF.out]; first | done | rfl | simp, HB.out⟩
end Go.Proofs.Ytpljcpeghjplnaa
