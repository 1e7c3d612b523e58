/-
  What the two CenterAcross, CenterHeight and StabilityMargin return. No statement of the seat by itself.
-/
import Derived.Test.YtndafdjllbhbfaaLdS
import Derived.Test.YtndafdjllbhbfaaFrac
namespace Go.Proofs.Ytndafdjllbhbfaa
open Go.RowKit

/-- The center across. -/
def acV (S : List (Int × Int × Int)) : Int × Int × Bool := if goodLd S = true ∧ 0 < S.length then (frN (sA S) (sW S), frD (sA S) (sW S), true) else (0, 0, false)
/-- Two ints and whether it worked. -/
def RetF (w : World) (r : Int × Int × Bool) : Ending → World → Prop := RetP w (.tuple #[.int .i64 r.1, .int .i64 r.2.1, .bool r.2.2])

set_option maxRecDepth 100000 in
set_option maxHeartbeats 4000000 in
theorem implAc_any (v : Value) (S : List (Int × Int × Int)) (hn : S.length ≤ 1048576) (w : World) (h : LdL w v S) :
    Calls Try.prog 17 #[v] w (RetF w (acV S)) := by
  have HM := Lib.hid (implMom_any v S hn w h)
  obtain ⟨a, c, rfl⟩ := h.form
  cases hg : goodLd S with
  | false =>
    rw [mom_no hg] at HM
    rw [show acV S = (0, 0, false) by simp [acV, hg]]
    clear hg h
    go_enter Try.func17, Try.ntmps17
    go_wp2_with fail
    refine HM.out.mono ?_
    rintro e w1 ⟨rfl, hb⟩
    have HB := Lib.hid hb
    clear hb
    go_wp2_with fail
    go_ret3
    exact ⟨rfl, HB.out⟩
  | true =>
    rw [mom_yes hg] at HM
    obtain ⟨⟨w0, w1⟩, ⟨a1, a2⟩, -, w2⟩ := sums_all hg
    obtain ⟨n, hl⟩ : ∃ n, S.length = n := ⟨_, rfl⟩
    by_cases h0 : n = 0
    · rw [show acV S = (0, 0, false) by simp [acV, hl, h0]]
      rw [hl] at HM ⊢
      subst h0
      clear hg h w2 hl
      go_enter Try.func17, Try.ntmps17
      go_wp2_with fail
      refine HM.out.mono ?_
      rintro e w1 ⟨rfl, hb⟩
      have HB := Lib.hid hb
      clear hb
      go_wp2_with fail
      go_ret3
      exact ⟨rfl, HB.out⟩
    · rw [show acV S = (frN (sA S) (sW S), frD (sA S) (sW S), true) by unfold acV; rw [if_pos ⟨hg, by omega⟩]]
      have HR := Lib.hid (fun W => reduced_any (sA S) (sW S) (by omega) (w2 (by omega)) (by omega) W)
      rw [hl] at HM ⊢
      have e1 : ((n : Int) == 0) = false := by simp; omega
      clear hg h w2 hl
      generalize sA S = x at *
      generalize sW S = y at *
      go_enter Try.func17, Try.ntmps17
      go_wp2_with fail
      refine HM.out.mono ?_
      rintro e w1 ⟨rfl, hb⟩
      have HB := Lib.hid hb
      clear hb
      go_wp2_with fail
      refine (HR.out _).mono ?_
      rintro e w2 ⟨rfl, hb⟩
      have HB2 := Lib.hid (HB.out.trans (hb.mono HB.out.size))
      clear hb
      go_wp2_with fail
      go_ret3
      exact ⟨rfl, HB2.out⟩

set_option maxRecDepth 100000 in
set_option maxHeartbeats 4000000 in
theorem specAc_any (v : Value) (S : List (Int × Int × Int)) (hn : S.length ≤ 1048576) (w : World) (h : LdL w v S) :
    Calls Try.prog 18 #[v] w (RetF w (acV S)) := by
  have HG := Lib.hid (l11Good_any v S hn w h)
  have HV := Lib.hid h
  obtain ⟨a, c, rfl⟩ := h.form
  cases hg : goodLd S with
  | false =>
    rw [hg] at HG
    rw [show acV S = (0, 0, false) by simp [acV, hg]]
    clear hg h
    go_enter Try.func18, Try.ntmps18
    go_wp2_with fail
    refine HG.out.mono ?_
    rintro e w1 ⟨rfl, hb⟩
    have HB := Lib.hid hb
    clear hb
    go_wp2_with fail
    go_ret3
    exact ⟨rfl, HB.out⟩
  | true =>
    have HM := Lib.hid (fun (u : Value) W (hW : LdL W u S) => l11Moments_any u S hg W hW)
    rw [hg] at HG
    obtain ⟨⟨w0, w1⟩, ⟨a1, a2⟩, -, w2⟩ := sums_all hg
    obtain ⟨n, hl⟩ : ∃ n, S.length = n := ⟨_, rfl⟩
    by_cases h0 : n = 0
    · rw [show acV S = (0, 0, false) by simp [acV, hl, h0]]
      rw [hl] at HG HV ⊢
      subst h0
      clear hg h w2 hl
      go_enter Try.func18, Try.ntmps18
      go_wp2_with fail
      refine HG.out.mono ?_
      rintro e w1 ⟨rfl, hb⟩
      have HB := Lib.hid hb
      clear hb
      go_wp2_with fail
      go_ret3
      exact ⟨rfl, HB.out⟩
    · rw [show acV S = (frN (sA S) (sW S), frD (sA S) (sW S), true) by unfold acV; rw [if_pos ⟨hg, by omega⟩]]
      have HR := Lib.hid (fun W => l15Reduce_any (sA S) (sW S) (by omega) (w2 (by omega)) (by omega) W)
      rw [hl] at HG HV ⊢
      have e1 : ((n : Int) == 0) = false := by simp; omega
      clear hg h w2 hl
      generalize sA S = x at *
      generalize sW S = y at *
      go_enter Try.func18, Try.ntmps18
      go_wp2_with fail
      refine HG.out.mono ?_
      rintro e w1 ⟨rfl, hb⟩
      have HB := Lib.hid hb
      clear hb
      go_wp2_with fail
      refine (HM.out _ _ (HV.out.below HB.out)).mono ?_
      rintro e w2 ⟨rfl, hb⟩
      have HB2 := Lib.hid (HB.out.trans (hb.mono HB.out.size))
      clear hb
      go_wp2_with fail
      refine (HR.out _).mono ?_
      rintro e w3 ⟨rfl, hb⟩
      have HB3 := Lib.hid (HB2.out.trans (hb.mono HB2.out.size))
      clear hb
      go_wp2_with fail
      go_ret3
      exact ⟨rfl, HB3.out⟩

/-- Whether the center's height was asked for with good numbers. -/
def askHt (S : List (Int × Int × Int)) (s h : Int) : Bool := goodLd S && decide (1 ≤ s ∧ s ≤ 10000000) && decide (0 ≤ h ∧ h ≤ 400)
theorem askHt_iff {S : List (Int × Int × Int)} {s h : Int} : askHt S s h = true ↔ goodLd S = true ∧ (1 ≤ s ∧ s ≤ 10000000) ∧ 0 ≤ h ∧ h ≤ 400 := by simp [askHt, and_assoc]
theorem askHt_not {S : List (Int × Int × Int)} {s h : Int} (q : ¬ (goodLd S = true ∧ (1 ≤ s ∧ s ≤ 10000000) ∧ 0 ≤ h ∧ h ≤ 400)) : askHt S s h = false := by
  cases e : askHt S s h with
  | false => rfl
  | true => exact absurd (askHt_iff.1 e) q
/-- The center's height. -/
def htV (S : List (Int × Int × Int)) (s h : Int) : Int × Int × Bool := if askHt S s h then (frN (sU S + s * h) (sW S + s), frD (sU S + s * h) (sW S + s), true) else (0, 0, false)
theorem htV_no {S : List (Int × Int × Int)} {s h : Int} (q : askHt S s h = false) : htV S s h = (0, 0, false) := by simp [htV, q]
theorem htV_yes {S : List (Int × Int × Int)} {s h : Int} (q : askHt S s h = true) : htV S s h = (frN (sU S + s * h) (sW S + s), frD (sU S + s * h) (sW S + s), true) := by simp [htV, q]
/-- The metacenter above it. -/
def maV (S : List (Int × Int × Int)) (s h m : Int) : Int × Int × Bool := if askHt S s h = true ∧ 0 ≤ m ∧ m ≤ 400 then (frN (m * (sW S + s) - (sU S + s * h)) (sW S + s), frD (m * (sW S + s) - (sU S + s * h)) (sW S + s), true) else (0, 0, false)
theorem ht_bounds {S : List (Int × Int × Int)} {s h : Int} (q : askHt S s h = true) : (0 ≤ s * h ∧ s * h ≤ 4000000000) ∧ (0 ≤ sU S + s * h ∧ sU S + s * h ≤ 5000000000) ∧ 1 ≤ sW S + s ∧ sW S + s ≤ 20000000 := by
  obtain ⟨g, ⟨s1, s2⟩, h1, h2⟩ := askHt_iff.1 q
  have k := sums_all g
  have p0 := Int.mul_nonneg (by omega : 0 ≤ s) h1
  have p := mul_box (by omega : 0 ≤ s) s2 (by omega : -400 ≤ h) h2
  omega

set_option maxRecDepth 100000 in
set_option maxHeartbeats 4000000 in
theorem implHt_any (v : Value) (S : List (Int × Int × Int)) (s h : Int) (hn : S.length ≤ 1048576) (w : World) (hv : LdL w v S) :
    Calls Try.prog 24 #[v, .int .i64 s, .int .i64 h] w (RetF w (htV S s h)) := by
  have HM := Lib.hid (implMom_any v S hn w hv)
  obtain ⟨a, c, rfl⟩ := hv.form
  clear hv
  cases hg : goodLd S with
  | false =>
    rw [mom_no hg] at HM
    rw [htV_no (askHt_not (by simp [hg]))]
    clear hg
    go_enter Try.func24, Try.ntmps24
    go_wp2_with fail
    refine HM.out.mono ?_
    rintro e w1 ⟨rfl, hb⟩
    have HB := Lib.hid hb
    clear hb
    go_wp2_with fail
    go_ret3
    exact ⟨rfl, HB.out⟩
  | true =>
    rw [mom_yes hg] at HM
    by_cases q1 : s < 1
    · rw [htV_no (askHt_not fun q => by omega)]
      clear hg
      go_enter Try.func24, Try.ntmps24
      go_wp2_with fail
      refine HM.out.mono ?_
      rintro e w1 ⟨rfl, hb⟩
      have HB := Lib.hid hb
      clear hb
      go_wp2_with fail
      go_ret3
      exact ⟨rfl, HB.out⟩
    · by_cases q2 : 10000000 < s
      · rw [htV_no (askHt_not fun q => by omega)]
        clear hg
        go_enter Try.func24, Try.ntmps24
        go_wp2_with fail
        refine HM.out.mono ?_
        rintro e w1 ⟨rfl, hb⟩
        have HB := Lib.hid hb
        clear hb
        go_wp2_with fail
        go_ret3
        exact ⟨rfl, HB.out⟩
      · by_cases q3 : 0 ≤ h ∧ h ≤ 400
        · have HH : Hid (∀ W : World, Calls Try.prog 62 #[.int .i64 h] W fun e w' => e = .returned (.bool true) ∧ W = w') := Lib.hid fun W => by rw [← decide_eq_true q3]; exact isHeight_any h W
          have q : askHt S s h = true := askHt_iff.2 ⟨hg, ⟨by omega, by omega⟩, q3⟩
          obtain ⟨⟨b1, b2⟩, ⟨b3, b4⟩, b5, b6⟩ := ht_bounds q
          rw [htV_yes q]
          have HR := Lib.hid (fun W => reduced_any (sU S + s * h) (sW S + s) (by omega) (by omega) (by omega) W)
          have k := sums_all hg
          rw [Int.add_comm (sU S) (s * h), Int.add_comm (sW S) s] at *
          obtain ⟨p, hp⟩ : ∃ p, s * h = p := ⟨_, rfl⟩
          have f1 : IntKind.i64.wrap (s * h) = p := by rw [IntKind.wrap_i64]; omega
          rw [hp] at b1 b2 b3 b4 HR ⊢
          have k3 := k.1
          have k4 := k.2.2.1
          clear hg q k hp q3
          generalize sU S = x at *
          generalize sW S = y at *
          go_enter Try.func24, Try.ntmps24
          go_wp2_with fail
          refine HM.out.mono ?_
          rintro e w1 ⟨rfl, hb⟩
          have HB := Lib.hid hb
          clear hb
          go_wp2_with fail
          refine (HH.out _).mono ?_
          rintro e w2 ⟨rfl, rfl⟩
          go_wp2_with fail
          refine (HR.out _).mono ?_
          rintro e w2 ⟨rfl, hb⟩
          have HB2 := Lib.hid (HB.out.trans (hb.mono HB.out.size))
          clear hb
          go_wp2_with fail
          go_ret3
          exact ⟨rfl, HB2.out⟩
        · have HH : Hid (∀ W : World, Calls Try.prog 62 #[.int .i64 h] W fun e w' => e = .returned (.bool false) ∧ W = w') := Lib.hid fun W => by rw [← decide_eq_false q3]; exact isHeight_any h W
          rw [htV_no (askHt_not fun q => q3 q.2.2)]
          clear hg q3
          go_enter Try.func24, Try.ntmps24
          go_wp2_with fail
          refine HM.out.mono ?_
          rintro e w1 ⟨rfl, hb⟩
          have HB := Lib.hid hb
          clear hb
          go_wp2_with fail
          refine (HH.out _).mono ?_
          rintro e w2 ⟨rfl, rfl⟩
          go_wp2_with fail
          go_ret3
          exact ⟨rfl, HB.out⟩

/-- What the reference answers: the height, or the metacenter above it. -/
def hmV (S : List (Int × Int × Int)) (s h m : Int) : Int × Int × Bool := if 0 ≤ m then (if askHt S s h = true then (frN (m * (sW S + s) - (sU S + s * h)) (sW S + s), frD (m * (sW S + s) - (sU S + s * h)) (sW S + s), true) else (0, 0, false)) else htV S s h
theorem hmV_no {S : List (Int × Int × Int)} {s h m : Int} (q : askHt S s h = false) : hmV S s h m = (0, 0, false) := by simp [hmV, htV, q]

set_option maxRecDepth 100000 in
set_option maxHeartbeats 4000000 in
theorem l11Height_any (v : Value) (S : List (Int × Int × Int)) (s h m : Int) (hm : m ≤ 400) (hm0 : -1 ≤ m) (hn : S.length ≤ 1048576) (w : World) (hv : LdL w v S) :
    Calls Try.prog 64 #[v, .int .i64 s, .int .i64 h, .int .i64 m] w (RetF w (hmV S s h m)) := by
  have HG := Lib.hid (l11Good_any v S hn w hv)
  have HV := Lib.hid hv
  obtain ⟨a, c, rfl⟩ := hv.form
  clear hv
  cases hg : goodLd S with
  | false =>
    rw [hg] at HG
    rw [hmV_no (askHt_not (by simp [hg]))]
    clear hg
    go_enter Try.func64, Try.ntmps64
    go_wp2_with fail
    refine HG.out.mono ?_
    rintro e w1 ⟨rfl, hb⟩
    have HB := Lib.hid hb
    clear hb
    go_wp2_with fail
    go_ret3
    exact ⟨rfl, HB.out⟩
  | true =>
    have HM := Lib.hid (fun (u : Value) W (hW : LdL W u S) => l11Moments_any u S hg W hW)
    rw [hg] at HG
    by_cases q1 : 1 ≤ s ∧ s ≤ 10000000
    · have H1 := Lib.hid (fun W => l1In_yes s 1 10000000 W q1.1 q1.2)
      by_cases q3 : 0 ≤ h ∧ h ≤ 400
      · have H2 := Lib.hid (fun W => l1In_yes h 0 400 W q3.1 q3.2)
        have q : askHt S s h = true := askHt_iff.2 ⟨hg, q1, q3⟩
        obtain ⟨⟨b1, b2⟩, ⟨b3, b4⟩, b5, b6⟩ := ht_bounds q
        have k := sums_all hg
        obtain ⟨p, hp⟩ : ∃ p, s * h = p := ⟨_, rfl⟩
        have f1 : IntKind.i64.wrap (s * h) = p := by rw [IntKind.wrap_i64]; omega
        have k3 := k.1
        have k4 := k.2.2.1
        by_cases hm1 : 0 ≤ m
        · rw [show hmV S s h m = (frN (m * (sW S + s) - (sU S + s * h)) (sW S + s), frD (m * (sW S + s) - (sU S + s * h)) (sW S + s), true) by simp [hmV, hm1, q]]
          have r0 := Int.mul_nonneg hm1 (by omega : 0 ≤ sW S + s)
          have r1 := mul_box hm1 hm (by omega : -20000000 ≤ sW S + s) b6
          have HR := Lib.hid (fun W => l15Reduce_any (m * (sW S + s) - (sU S + s * h)) (sW S + s) (by omega) (by omega) (by omega) W)
          obtain ⟨t, ht⟩ : ∃ t, m * (sW S + s) = t := ⟨_, rfl⟩
          have f2 : IntKind.i64.wrap (m * (sW S + s)) = t := by rw [IntKind.wrap_i64]; omega
          rw [ht] at r0 r1 HR ⊢
          rw [hp] at b1 b2 b3 b4 HR ⊢
          clear hg q k hp q3 q1 ht
          generalize sU S = x at *
          generalize sW S = y at *
          go_enter Try.func64, Try.ntmps64
          go_wp2_with fail
          refine HG.out.mono ?_
          rintro e w1 ⟨rfl, hb⟩
          have HB := Lib.hid hb
          clear hb
          go_wp2_with fail
          refine (H1.out _).mono ?_
          rintro e w2 ⟨rfl, rfl⟩
          go_wp2_with fail
          refine (H2.out _).mono ?_
          rintro e w2 ⟨rfl, rfl⟩
          go_wp2_with fail
          refine (HM.out _ _ (HV.out.below HB.out)).mono ?_
          rintro e w2 ⟨rfl, hb⟩
          have HB2 := Lib.hid (HB.out.trans (hb.mono HB.out.size))
          clear hb
          go_wp2_with fail
          refine (HR.out _).mono ?_
          rintro e w3 ⟨rfl, hb⟩
          have HB3 := Lib.hid (HB2.out.trans (hb.mono HB2.out.size))
          clear hb
          go_wp2_with fail
          go_ret3
          exact ⟨rfl, HB3.out⟩
        · rw [show hmV S s h m = htV S s h by simp [hmV, hm1], htV_yes q]
          have HR := Lib.hid (fun W => l15Reduce_any (sU S + s * h) (sW S + s) (by omega) (by omega) (by omega) W)
          rw [hp] at b1 b2 b3 b4 HR ⊢
          clear hg q k hp q3 q1
          generalize sU S = x at *
          generalize sW S = y at *
          go_enter Try.func64, Try.ntmps64
          go_wp2_with fail
          refine HG.out.mono ?_
          rintro e w1 ⟨rfl, hb⟩
          have HB := Lib.hid hb
          clear hb
          go_wp2_with fail
          refine (H1.out _).mono ?_
          rintro e w2 ⟨rfl, rfl⟩
          go_wp2_with fail
          refine (H2.out _).mono ?_
          rintro e w2 ⟨rfl, rfl⟩
          go_wp2_with fail
          refine (HM.out _ _ (HV.out.below HB.out)).mono ?_
          rintro e w2 ⟨rfl, hb⟩
          have HB2 := Lib.hid (HB.out.trans (hb.mono HB.out.size))
          clear hb
          go_wp2_with fail
          refine (HR.out _).mono ?_
          rintro e w3 ⟨rfl, hb⟩
          have HB3 := Lib.hid (HB2.out.trans (hb.mono HB2.out.size))
          clear hb
          go_wp2_with fail
          go_ret3
          exact ⟨rfl, HB3.out⟩
      · have H2 := Lib.hid (fun W => l1In_no h 0 400 W (by omega))
        rw [hmV_no (askHt_not fun q => q3 q.2.2)]
        clear hg q3 q1
        go_enter Try.func64, Try.ntmps64
        go_wp2_with fail
        refine HG.out.mono ?_
        rintro e w1 ⟨rfl, hb⟩
        have HB := Lib.hid hb
        clear hb
        go_wp2_with fail
        refine (H1.out _).mono ?_
        rintro e w2 ⟨rfl, rfl⟩
        go_wp2_with fail
        refine (H2.out _).mono ?_
        rintro e w2 ⟨rfl, rfl⟩
        go_wp2_with fail
        go_ret3
        exact ⟨rfl, HB.out⟩
    · have H1 := Lib.hid (fun W => l1In_no s 1 10000000 W (by omega))
      rw [hmV_no (askHt_not fun q => q1 q.2.1)]
      clear hg q1
      go_enter Try.func64, Try.ntmps64
      go_wp2_with fail
      refine HG.out.mono ?_
      rintro e w1 ⟨rfl, hb⟩
      have HB := Lib.hid hb
      clear hb
      go_wp2_with fail
      refine (H1.out _).mono ?_
      rintro e w2 ⟨rfl, rfl⟩
      go_wp2_with fail
      go_ret3
      exact ⟨rfl, HB.out⟩

set_option maxHeartbeats 2000000 in
theorem specHt_any (v : Value) (S : List (Int × Int × Int)) (s h : Int) (hn : S.length ≤ 1048576) (w : World) (hv : LdL w v S) :
    Calls Try.prog 45 #[v, .int .i64 s, .int .i64 h] w (RetF w (htV S s h)) := by
  have HG := Lib.hid (l11Height_any v S s h (-1) (by decide) (by decide) hn w hv)
  rw [show hmV S s h (-1) = htV S s h from rfl] at HG
  obtain ⟨⟨x, y, z⟩, hr⟩ : ∃ r, htV S s h = r := ⟨_, rfl⟩
  rw [hr] at HG ⊢
  clear hv hr
  go_enter Try.func45, Try.ntmps45
  go_wp2_with fail
  refine HG.out.mono ?_
  rintro e w1 ⟨rfl, hb⟩
  have HB := Lib.hid hb
  clear hb
  go_wp2_with fail
  go_ret3
  exact ⟨rfl, HB.out⟩

theorem maV_spec {S : List (Int × Int × Int)} {s h m : Int} (hm : 0 ≤ m ∧ m ≤ 400) : hmV S s h m = maV S s h m := by
  simp [hmV, maV, hm.1, hm.2]
set_option maxHeartbeats 2000000 in
theorem specMa_any (v : Value) (S : List (Int × Int × Int)) (s h m : Int) (hn : S.length ≤ 1048576) (w : World) (hv : LdL w v S) :
    Calls Try.prog 23 #[v, .int .i64 s, .int .i64 h, .int .i64 m] w (RetF w (maV S s h m)) := by
  by_cases hm : 0 ≤ m ∧ m ≤ 400
  · have HG := Lib.hid (l11Height_any v S s h m hm.2 (by omega) hn w hv)
    have HI := Lib.hid (fun W => l1In_yes m 0 400 W hm.1 hm.2)
    rw [maV_spec hm] at HG
    obtain ⟨⟨x, y, z⟩, hr⟩ : ∃ r, maV S s h m = r := ⟨_, rfl⟩
    rw [hr] at HG ⊢
    clear hv hr hm
    go_enter Try.func23, Try.ntmps23
    go_wp2_with fail
    refine (HI.out _).mono ?_
    rintro e w2 ⟨rfl, rfl⟩
    go_wp2_with fail
    refine HG.out.mono ?_
    rintro e w1 ⟨rfl, hb⟩
    have HB := Lib.hid hb
    clear hb
    go_wp2_with fail
    go_ret3
    exact ⟨rfl, HB.out⟩
  · have HI := Lib.hid (fun W => l1In_no m 0 400 W (by omega))
    rw [show maV S s h m = (0, 0, false) by unfold maV; rw [if_neg fun q => hm q.2]]
    clear hv hm
    go_enter Try.func23, Try.ntmps23
    go_wp2_with fail
    refine (HI.out _).mono ?_
    rintro e w2 ⟨rfl, rfl⟩
    go_wp2_with fail
    go_ret3
    exact ⟨rfl, Below.refl _ _⟩

set_option maxRecDepth 100000 in
set_option maxHeartbeats 4000000 in
theorem implMa_any (v : Value) (S : List (Int × Int × Int)) (s h m : Int) (hn : S.length ≤ 1048576) (w : World) (hv : LdL w v S) :
    Calls Try.prog 22 #[v, .int .i64 s, .int .i64 h, .int .i64 m] w (RetF w (maV S s h m)) := by
  have HG := Lib.hid (implHt_any v S s h hn w hv)
  clear hv
  cases q : askHt S s h with
  | false =>
    rw [htV_no q] at HG
    rw [show maV S s h m = (0, 0, false) by simp [maV, q]]
    clear q
    go_enter Try.func22, Try.ntmps22
    go_wp2_with fail
    refine HG.out.mono ?_
    rintro e w1 ⟨rfl, hb⟩
    have HB := Lib.hid hb
    clear hb
    go_wp2_with fail
    go_ret3
    exact ⟨rfl, HB.out⟩
  | true =>
    rw [htV_yes q] at HG
    by_cases hm : 0 ≤ m ∧ m ≤ 400
    · have HH : Hid (∀ W : World, Calls Try.prog 62 #[.int .i64 m] W fun e w' => e = .returned (.bool true) ∧ W = w') := Lib.hid fun W => by rw [← decide_eq_true hm]; exact isHeight_any m W
      obtain ⟨-, ⟨b3, b4⟩, b5, b6⟩ := ht_bounds q
      rw [show maV S s h m = (frN (m * (sW S + s) - (sU S + s * h)) (sW S + s), frD (m * (sW S + s) - (sU S + s * h)) (sW S + s), true) by simp [maV, q, hm]]
      have hd : 0 < sW S + s := by omega
      obtain ⟨e1, e2⟩ := fr_minus m (sU S + s * h) (sW S + s) hd
      rw [← e1, ← e2]
      have c1 := frN_le (sU S + s * h) (sW S + s) hd
      have c2 := frD_le (sU S + s * h) (sW S + s) hd
      have c3 := frD_pos (sU S + s * h) (sW S + s) hd
      clear e1 e2
      generalize frN (sU S + s * h) (sW S + s) = x at *
      generalize frD (sU S + s * h) (sW S + s) = y at *
      have r0 := Int.mul_nonneg hm.1 (by omega : 0 ≤ y)
      have r1 := mul_box hm.1 hm.2 (by omega : -20000000 ≤ y) (by omega)
      have HR := Lib.hid (fun W => reduced_any (m * y - x) y (by omega) (by omega) (by omega) W)
      obtain ⟨t, ht⟩ : ∃ t, m * y = t := ⟨_, rfl⟩
      have f2 : IntKind.i64.wrap (m * y) = t := by rw [IntKind.wrap_i64]; omega
      rw [ht] at r0 r1 HR ⊢
      have x1 : -5000000000 ≤ x := by omega
      have x2 : x ≤ 5000000000 := by omega
      clear q ht hm b3 b4 b5 b6 hd c1 c2
      go_enter Try.func22, Try.ntmps22
      go_wp2_with fail
      refine HG.out.mono ?_
      rintro e w1 ⟨rfl, hb⟩
      have HB := Lib.hid hb
      clear hb
      go_wp2_with fail
      refine (HH.out _).mono ?_
      rintro e w2 ⟨rfl, rfl⟩
      go_wp2_with fail
      refine (HR.out _).mono ?_
      rintro e w3 ⟨rfl, hb⟩
      have HB3 := Lib.hid (HB.out.trans (hb.mono HB.out.size))
      clear hb
      go_wp2_with fail
      go_ret3
      exact ⟨rfl, HB3.out⟩
    · have HH : Hid (∀ W : World, Calls Try.prog 62 #[.int .i64 m] W fun e w' => e = .returned (.bool false) ∧ W = w') := Lib.hid fun W => by rw [← decide_eq_false hm]; exact isHeight_any m W
      rw [show maV S s h m = (0, 0, false) by unfold maV; rw [if_neg fun q => hm q.2]]
      generalize frN (sU S + s * h) (sW S + s) = x at *
      generalize frD (sU S + s * h) (sW S + s) = y at *
      clear q hm
      go_enter Try.func22, Try.ntmps22
      go_wp2_with fail
      refine HG.out.mono ?_
      rintro e w1 ⟨rfl, hb⟩
      have HB := Lib.hid hb
      clear hb
      go_wp2_with fail
      refine (HH.out _).mono ?_
      rintro e w2 ⟨rfl, rfl⟩
      go_wp2_with fail
      go_ret3
      exact ⟨rfl, HB.out⟩
end Go.Proofs.Ytndafdjllbhbfaa
