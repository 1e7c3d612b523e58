/-
  Proved here: the law FnCenters returns true at every list of bytes, and the list reads afterwards as it read before. There are no conditions.
-/
import Derived.Test.YtndafdjllbhbfaaRows
import Derived.Test.YtndafdjllbhbfaaDLe
import Derived.Test.YtndafdjllbhbfaaLdF
import Derived.Test.YtndafdjllbhbfaaLdW
import Derived.WalkKit
import Derived.ProofKit
import Derived.OpenShut
import Derived.SizedLaws
namespace Go.Proofs.Ytndafdjllbhbfaa
open Go.ChangeShapes Go.WideShapes Go.ChangeAt Go.RowKit

theorem okLd_mirr (c : Int × Int × Int) : okLd (c.1, -c.2.1, c.2.2) = okLd c := by
  unfold okLd
  exact decide_eq_decide.2 (by simp only; omega)
theorem goodLd_mirr (S : List (Int × Int × Int)) : goodLd (mirr S) = goodLd S := by
  unfold goodLd
  rw [mirr_len]
  congr 1
  unfold mirr
  rw [List.all_map]
  congr 1
  funext c
  exact okLd_mirr c
theorem sumF_map {α β : Type} (f : β → Int) (g : α → β) (l : List α) : sumF f (l.map g) = sumF (fun x => f (g x)) l := by
  unfold sumF; rw [List.map_map]; rfl
theorem sumF_neg {α : Type} (f : α → Int) : ∀ l : List α, sumF (fun x => -f x) l = -sumF f l
  | [] => rfl
  | x :: l => by
    have e : ∀ g : α → Int, sumF g (x :: l) = g x + sumF g l := fun g => by simp [sumF]
    rw [e, e, sumF_neg f l]; omega
theorem sA_mirr (S : List (Int × Int × Int)) : sA (mirr S) = -sA S := by
  unfold sA mirr
  rw [sumF_map, ← sumF_neg]
  congr 1
  funext c
  exact Int.mul_neg _ _
theorem sW_mirr (S : List (Int × Int × Int)) : sW (mirr S) = sW S := by
  unfold sW mirr
  rw [sumF_map]
  rfl
theorem fr_neg (a b : Int) : frN (-a) b = -frN a b ∧ frD (-a) b = frD a b := by
  unfold frN frD
  rw [Int.neg_gcd]
  exact ⟨Int.neg_tdiv .., rfl⟩
theorem ac_facts {S : List (Int × Int × Int)} {n d : Int} (h : acV S = (n, d, true)) : goodLd S = true ∧ acV (mirr S) = (-n, d, true) ∧ -128000000 ≤ n ∧ n ≤ 128000000 := by
  unfold acV at h
  split at h
  · rename_i q
    simp only [Prod.mk.injEq, and_true] at h
    obtain ⟨rfl, rfl⟩ := h
    have k := sums_all q.1
    have b := frN_le (sA S) (sW S) (by have := k.2.2.2 q.2; omega)
    refine ⟨q.1, ?_, by omega, by omega⟩
    unfold acV
    rw [if_pos ⟨by rw [goodLd_mirr]; exact q.1, by rw [mirr_len]; exact q.2⟩, sA_mirr, sW_mirr, (fr_neg _ _).1, (fr_neg _ _).2]
  · simp at h
theorem gcd_low (a b : Int) (h : 0 < b) : Int.gcd (frN a b) (frD a b) = 1 := by
  have hg := gcd_pos (a := a) h
  have e : Int.gcd a b = Int.gcd a b * Int.gcd (frN a b) (frD a b) := by
    have k : Int.gcd ((Int.gcd a b : Int) * frN a b) ((Int.gcd a b : Int) * frD a b) = Int.gcd a b * Int.gcd (frN a b) (frD a b) := by rw [Int.gcd_mul_left, Int.natAbs_natCast]
    rw [← fr_left a b h, ← fr_right a b h] at k
    exact k
  have := Nat.eq_of_mul_eq_mul_left hg (e.symm.trans (Nat.mul_one _).symm)
  exact this
theorem fr_low {a b : Int} (h : Int.gcd a b = 1) : frN a b = a ∧ frD a b = b := by
  unfold frN frD
  rw [h]
  exact ⟨Int.tdiv_one a, Int.tdiv_one b⟩
theorem gcd_minus (m a b : Int) (h : Int.gcd a b = 1) : Int.gcd (m * b - a) b = 1 := by
  have d1 := Int.gcd_dvd_left (a := m * b - a) (b := b)
  have d2 := Int.gcd_dvd_right (a := m * b - a) (b := b)
  have d3 : ((Int.gcd (m * b - a) b : Nat) : Int) ∣ a := by
    have := Int.dvd_sub (Int.dvd_mul_of_dvd_right d2 (b := m)) d1
    rwa [show m * b - (m * b - a) = a by omega] at this
  have d4 := Int.dvd_coe_gcd d3 d2
  rw [h] at d4
  have := Int.natCast_dvd_natCast.1 d4
  exact Nat.dvd_one.1 this
theorem ma_facts {S : List (Int × Int × Int)} {s h m p q : Int} (hr : maV S s h m = (p, q, true)) : ∃ a : Int, htV S s h = (a, q, true) ∧ a + p = m * q ∧ (0 ≤ m ∧ m ≤ 400) ∧ (-5000000000 ≤ a ∧ a ≤ 5000000000) ∧ (0 ≤ m * q ∧ m * q ≤ 8000000000) := by
  unfold maV at hr
  split at hr
  · rename_i k
    simp only [Prod.mk.injEq, and_true] at hr
    obtain ⟨-, ⟨b3, b4⟩, b5, b6⟩ := ht_bounds k.1
    have hd : 0 < sW S + s := by omega
    obtain ⟨e1, e2⟩ := fr_minus m (sU S + s * h) (sW S + s) hd
    obtain ⟨l1, l2⟩ := fr_low (gcd_minus m _ _ (gcd_low (sU S + s * h) (sW S + s) hd))
    rw [← e1, ← e2, l1, l2] at hr
    obtain ⟨rfl, rfl⟩ := hr
    have c1 := frN_le (sU S + s * h) (sW S + s) hd
    have c2 := frD_le (sU S + s * h) (sW S + s) hd
    have c3 := frD_pos (sU S + s * h) (sW S + s) hd
    have r0 := Int.mul_nonneg k.2.1 (by omega : 0 ≤ frD (sU S + s * h) (sW S + s))
    have r1 := mul_box k.2.1 k.2.2 (by omega : -20000000 ≤ frD (sU S + s * h) (sW S + s)) (by omega)
    exact ⟨frN (sU S + s * h) (sW S + s), htV_yes k.1, by omega, k.2, by omega, by omega⟩
  · simp at hr
theorem sumF_le {α : Type} (f g : α → Int) : ∀ l : List α, (∀ x ∈ l, f x ≤ g x) → sumF f l ≤ sumF g l
  | [], _ => by simp [sumF]
  | x :: l, h => by
    have e : ∀ g : α → Int, sumF g (x :: l) = g x + sumF g l := fun g => by simp [sumF]
    have := sumF_le f g l fun y hy => h y (List.mem_cons_of_mem _ hy)
    have := h x List.mem_cons_self
    rw [e, e]; omega
theorem wa_facts {S : List (Int × Int × Int)} {h x : Int} (hr : waV S h = (x, true)) : mom S = (sW S, sA S, sU S, true) ∧ ¬ sW S < x ∧ ¬ x < 0 := by
  unfold waV askWa at hr
  split at hr
  · rename_i q
    simp only [Bool.and_eq_true, decide_eq_true_eq] at q
    simp only [Prod.mk.injEq, and_true] at hr
    subst hr
    have ok := (goodLd_iff.1 q.1).2
    have h1 : sumF (abW h) S ≤ sW S := sumF_le _ _ _ fun c hc => by
      have := okLd_iff.1 (ok c hc)
      unfold abW wgt
      split <;> omega
    have h2 : 0 ≤ sumF (abW h) S := sumF_pos _ _ fun c hc => (abW_small (ok c hc)).1
    exact ⟨mom_yes q.1, by omega, by omega⟩
  · simp at hr

theorem rBig_any (a : Option Addr) (len cap : Nat) (w : World) (hl : len ≤ maxLen) (b : Bool) (hb : decide (65536 < len) = b) : Calls Try.prog 15 #[.slice a len cap] w fun e w' => e = .returned (.bool b) ∧ w = w' := by
  unfold maxLen at hl
  subst hb
  by_cases h : 65536 < len
  · go_enter Try.func15, Try.ntmps15
    go_wp2_with fail
    go_ret
    exact ⟨by rw [show decide (65536 < len) = decide ((65536 : Int) < (len : Int)) from decide_eq_decide.2 (by omega)]; first | rfl | simp, rfl⟩
  · go_enter Try.func15, Try.ntmps15
    go_wp2_with fail
    go_ret
    exact ⟨by rw [show decide (65536 < len) = decide ((65536 : Int) < (len : Int)) from decide_eq_decide.2 (by omega)]; first | rfl | simp, rfl⟩

set_option maxRecDepth 100000 in
set_option maxHeartbeats 2000000 in
theorem st_big (a : Option Addr) (len cap : Nat) (w : World) (h : 65536 < len) (hl : len ≤ maxLen) :
    Calls Try.prog 3 #[.slice a len cap] w fun e w' => e = .returned (.bool true) ∧ w' = w := by
  go_enter Try.func3, Try.ntmps3
  go_wp2_with fail
  refine (rBig_any a len cap _ hl true (by simpa using h)).mono ?_
  rintro e w1 ⟨rfl, rfl⟩
  go_wp2_with fail
  go_ret
  exact ⟨rfl, rfl⟩

set_option maxRecDepth 100000 in
set_option maxHeartbeats 32000000 in
theorem st_small (a : Option Addr) (len cap : Nat) (w : World) (h : D.CodeA w a len) :
    Calls Try.prog 3 #[.slice a len cap] w fun e w' => e = .returned (.bool true) ∧ Below w.heap.size w w' := by
  have HD := Lib.hid (fun W hb => D.drawAc_any a len cap W (h.below hb))
  have HD2 := Lib.hid (fun W hb => D.drawMa_any a len cap W (h.below hb))
  have HD3 := Lib.hid (fun W hb => D.drawWa_any a len cap W (h.below hb))
  have HV := Lib.hid (rBig_any a len cap w (by have := h.1; unfold maxLen; omega) false (by simpa using h.1))
  clear h
  go_enter Try.func3, Try.ntmps3
  go_wp2_with fail
  refine HV.out.mono ?_
  rintro e w1 ⟨rfl, rfl⟩
  go_wp2_with fail
  refine (HD.out _ (Below.refl _ _)).mono ?_
  rintro e w1 ⟨T1, a1, c1, rfl, hT1, hL, hb⟩
  have L1 := Lib.hid hL
  have BL := Lib.hid hb
  clear hL hb
  obtain ⟨m1, hm1⟩ : ∃ m, T1.length = m := ⟨_, rfl⟩
  have HM1 := Lib.hid hm1
  rw [hm1] at hT1 L1 ⊢
  clear hm1
  have HA1 := Lib.hid (fun u W h => implAc_any u T1 (by rw [HM1.out]; omega) W h)
  have HA2 := Lib.hid (fun u W h => specAc_any u T1 (by rw [HM1.out]; omega) W h)
  have HA3 := Lib.hid (fun u W h => implMi_any u T1 (by rw [HM1.out]; omega) W h)
  have HA4 := Lib.hid (fun u W h => implAc_any u (mirr T1) (by rw [mirr_len, HM1.out]; omega) W h)
  have HA5 := Lib.hid (fun u W h => implValidLd_any u (mirr T1) (by rw [mirr_len, HM1.out]; omega) W h)
  obtain ⟨⟨n1, d1, k1⟩, hr1⟩ : ∃ r, acV T1 = r := ⟨_, rfl⟩
  rw [hr1] at HA1 HA2
  go_wp2_with fail
  refine (HA1.out _ _ L1.out).mono ?_
  rintro e w2 ⟨rfl, hb⟩
  have L1 := Lib.hid (L1.out.below hb)
  have BL := Lib.hid (BL.out.trans (hb.mono BL.out.size))
  clear hb
  go_wp2_with fail
  refine (HA2.out _ _ L1.out).mono ?_
  rintro e w3 ⟨rfl, hb⟩
  have L1 := Lib.hid (L1.out.below hb)
  have BL := Lib.hid (BL.out.trans (hb.mono BL.out.size))
  clear hb
  cases k1 with
  | false =>
    clear hr1
    go_wp2_with fail
    refine (HD2.out _ BL.out).mono ?_
    rintro e w10 ⟨T2, a2, c2, x2, y2, z2, rfl, hT2, hL, hb⟩
    have L2 := Lib.hid hL
    have BL := Lib.hid (BL.out.trans (hb.mono BL.out.size))
    clear hL hb
    obtain ⟨m2, hm2⟩ : ∃ m, T2.length = m := ⟨_, rfl⟩
    have HM2 := Lib.hid hm2
    rw [hm2] at hT2 L2 ⊢
    clear hm2
    have HB1 := Lib.hid (fun u W h => implMa_any u T2 x2 y2 z2 (by rw [HM2.out]; omega) W h)
    have HB2 := Lib.hid (fun u W h => specMa_any u T2 x2 y2 z2 (by rw [HM2.out]; omega) W h)
    have HB3 := Lib.hid (fun u W h => implHt_any u T2 x2 y2 (by rw [HM2.out]; omega) W h)
    obtain ⟨⟨p2, q2, k2⟩, hr2⟩ : ∃ r, maV T2 x2 y2 z2 = r := ⟨_, rfl⟩
    rw [hr2] at HB1 HB2
    go_wp2_with fail
    refine (HB1.out _ _ L2.out).mono ?_
    rintro e w11 ⟨rfl, hb⟩
    have L2 := Lib.hid (L2.out.below hb)
    have BL := Lib.hid (BL.out.trans (hb.mono BL.out.size))
    clear hb
    go_wp2_with fail
    refine (HB2.out _ _ L2.out).mono ?_
    rintro e w12 ⟨rfl, hb⟩
    have L2 := Lib.hid (L2.out.below hb)
    have BL := Lib.hid (BL.out.trans (hb.mono BL.out.size))
    clear hb
    cases k2 with
    | false =>
      clear hr2
      go_wp2_with fail
      refine (HD3.out _ BL.out).mono ?_
      rintro e w20 ⟨T3, a3, c3, x3, rfl, hT3, hL, hb⟩
      have L3 := Lib.hid hL
      have BL := Lib.hid (BL.out.trans (hb.mono BL.out.size))
      clear hL hb
      obtain ⟨m3, hm3⟩ : ∃ m, T3.length = m := ⟨_, rfl⟩
      have HM3 := Lib.hid hm3
      rw [hm3] at hT3 L3 ⊢
      clear hm3
      have HC1 := Lib.hid (fun u W h => implWa_any u T3 x3 (by rw [HM3.out]; omega) W h)
      have HC2 := Lib.hid (fun u W h => specWa_any u T3 x3 (by rw [HM3.out]; omega) W h)
      have HC3 := Lib.hid (fun u W h => implMom_any u T3 (by rw [HM3.out]; omega) W h)
      obtain ⟨⟨p3, k3⟩, hr3⟩ : ∃ r, waV T3 x3 = r := ⟨_, rfl⟩
      rw [hr3] at HC1 HC2
      go_wp2_with fail
      refine (HC1.out _ _ L3.out).mono ?_
      rintro e w21 ⟨rfl, hb⟩
      have L3 := Lib.hid (L3.out.below hb)
      have BL := Lib.hid (BL.out.trans (hb.mono BL.out.size))
      clear hb
      go_wp2_with fail
      refine (HC2.out _ _ L3.out).mono ?_
      rintro e w22 ⟨rfl, hb⟩
      have L3 := Lib.hid (L3.out.below hb)
      have BL := Lib.hid (BL.out.trans (hb.mono BL.out.size))
      clear hb
      cases k3 with
      | false =>
        clear hr3
        go_wp2_with fail
        go_ret
        exact ⟨rfl, BL.out⟩
      | true =>
        obtain ⟨hm, hx1, hx2⟩ := wa_facts hr3
        rw [hm] at HC3
        clear hr3 hm
        generalize sW T3 = sw at *
        go_wp2_with fail
        refine (HC3.out _ _ L3.out).mono ?_
        rintro e w23 ⟨rfl, hb⟩
        have BL := Lib.hid (BL.out.trans (hb.mono BL.out.size))
        clear hb
        go_wp2_with fail
        go_ret
        exact ⟨rfl, BL.out⟩
    | true =>
      obtain ⟨ha, hr3, hap, hz, hab, hmq⟩ := ma_facts hr2
      rw [hr3] at HB3
      obtain ⟨t, ht⟩ : ∃ t, z2 * q2 = t := ⟨_, rfl⟩
      have f1 : IntKind.i64.wrap (z2 * q2) = t := by rw [IntKind.wrap_i64]; omega
      have f2 : IntKind.i64.wrap (ha + p2) = t := by rw [IntKind.wrap_i64]; omega
      clear hr2 hr3 hap ht hz hab hmq
      go_wp2_with fail
      refine (HB3.out _ _ L2.out).mono ?_
      rintro e w13 ⟨rfl, hb⟩
      have BL := Lib.hid (BL.out.trans (hb.mono BL.out.size))
      clear hb
      go_wp2_with fail
      refine (HD3.out _ BL.out).mono ?_
      rintro e w20 ⟨T3, a3, c3, x3, rfl, hT3, hL, hb⟩
      have L3 := Lib.hid hL
      have BL := Lib.hid (BL.out.trans (hb.mono BL.out.size))
      clear hL hb
      obtain ⟨m3, hm3⟩ : ∃ m, T3.length = m := ⟨_, rfl⟩
      have HM3 := Lib.hid hm3
      rw [hm3] at hT3 L3 ⊢
      clear hm3
      have HC1 := Lib.hid (fun u W h => implWa_any u T3 x3 (by rw [HM3.out]; omega) W h)
      have HC2 := Lib.hid (fun u W h => specWa_any u T3 x3 (by rw [HM3.out]; omega) W h)
      have HC3 := Lib.hid (fun u W h => implMom_any u T3 (by rw [HM3.out]; omega) W h)
      obtain ⟨⟨p3, k3⟩, hr3⟩ : ∃ r, waV T3 x3 = r := ⟨_, rfl⟩
      rw [hr3] at HC1 HC2
      go_wp2_with fail
      refine (HC1.out _ _ L3.out).mono ?_
      rintro e w21 ⟨rfl, hb⟩
      have L3 := Lib.hid (L3.out.below hb)
      have BL := Lib.hid (BL.out.trans (hb.mono BL.out.size))
      clear hb
      go_wp2_with fail
      refine (HC2.out _ _ L3.out).mono ?_
      rintro e w22 ⟨rfl, hb⟩
      have L3 := Lib.hid (L3.out.below hb)
      have BL := Lib.hid (BL.out.trans (hb.mono BL.out.size))
      clear hb
      cases k3 with
      | false =>
        clear hr3
        go_wp2_with fail
        go_ret
        exact ⟨rfl, BL.out⟩
      | true =>
        obtain ⟨hm, hx1, hx2⟩ := wa_facts hr3
        rw [hm] at HC3
        clear hr3 hm
        generalize sW T3 = sw at *
        go_wp2_with fail
        refine (HC3.out _ _ L3.out).mono ?_
        rintro e w23 ⟨rfl, hb⟩
        have BL := Lib.hid (BL.out.trans (hb.mono BL.out.size))
        clear hb
        go_wp2_with fail
        go_ret
        exact ⟨rfl, BL.out⟩
  | true =>
    obtain ⟨hg, hmi, hn1, hn2⟩ := ac_facts hr1
    have hg2 := goodLd_mirr T1
    rw [hg] at hg2
    rw [hmi] at HA4
    rw [hg2] at HA5
    have hmV : miV T1 = mirr T1 := by unfold miV; rw [if_pos hg]
    rw [hmV, hg] at HA3
    have fn : IntKind.i64.wrap (-n1) = -n1 := by rw [IntKind.wrap_i64]; omega
    obtain ⟨mm, hmm⟩ : ∃ mm, (mirr T1).length = mm := ⟨_, rfl⟩
    clear hr1 hg hmi hg2 hmV
    go_wp2_with fail
    refine (HA3.out _ _ L1.out).mono ?_
    rintro e w4 ⟨am, cm, rfl, om, hb⟩
    have LM := Lib.hid om.read
    have BL := Lib.hid (BL.out.trans (hb.mono BL.out.size))
    clear hb om
    rw [hmm] at LM ⊢
    clear hmm
    go_wp2_with fail
    refine (HA4.out _ _ LM.out).mono ?_
    rintro e w5 ⟨rfl, hb⟩
    have LM := Lib.hid (LM.out.below hb)
    have BL := Lib.hid (BL.out.trans (hb.mono BL.out.size))
    clear hb
    go_wp2_with fail
    refine (HA5.out _ _ LM.out).mono ?_
    rintro e w6 ⟨rfl, hb⟩
    have BL := Lib.hid (BL.out.trans (hb.mono BL.out.size))
    clear hb
    go_wp2_with fail
    refine (HD2.out _ BL.out).mono ?_
    rintro e w10 ⟨T2, a2, c2, x2, y2, z2, rfl, hT2, hL, hb⟩
    have L2 := Lib.hid hL
    have BL := Lib.hid (BL.out.trans (hb.mono BL.out.size))
    clear hL hb
    obtain ⟨m2, hm2⟩ : ∃ m, T2.length = m := ⟨_, rfl⟩
    have HM2 := Lib.hid hm2
    rw [hm2] at hT2 L2 ⊢
    clear hm2
    have HB1 := Lib.hid (fun u W h => implMa_any u T2 x2 y2 z2 (by rw [HM2.out]; omega) W h)
    have HB2 := Lib.hid (fun u W h => specMa_any u T2 x2 y2 z2 (by rw [HM2.out]; omega) W h)
    have HB3 := Lib.hid (fun u W h => implHt_any u T2 x2 y2 (by rw [HM2.out]; omega) W h)
    obtain ⟨⟨p2, q2, k2⟩, hr2⟩ : ∃ r, maV T2 x2 y2 z2 = r := ⟨_, rfl⟩
    rw [hr2] at HB1 HB2
    go_wp2_with fail
    refine (HB1.out _ _ L2.out).mono ?_
    rintro e w11 ⟨rfl, hb⟩
    have L2 := Lib.hid (L2.out.below hb)
    have BL := Lib.hid (BL.out.trans (hb.mono BL.out.size))
    clear hb
    go_wp2_with fail
    refine (HB2.out _ _ L2.out).mono ?_
    rintro e w12 ⟨rfl, hb⟩
    have L2 := Lib.hid (L2.out.below hb)
    have BL := Lib.hid (BL.out.trans (hb.mono BL.out.size))
    clear hb
    cases k2 with
    | false =>
      clear hr2
      go_wp2_with fail
      refine (HD3.out _ BL.out).mono ?_
      rintro e w20 ⟨T3, a3, c3, x3, rfl, hT3, hL, hb⟩
      have L3 := Lib.hid hL
      have BL := Lib.hid (BL.out.trans (hb.mono BL.out.size))
      clear hL hb
      obtain ⟨m3, hm3⟩ : ∃ m, T3.length = m := ⟨_, rfl⟩
      have HM3 := Lib.hid hm3
      rw [hm3] at hT3 L3 ⊢
      clear hm3
      have HC1 := Lib.hid (fun u W h => implWa_any u T3 x3 (by rw [HM3.out]; omega) W h)
      have HC2 := Lib.hid (fun u W h => specWa_any u T3 x3 (by rw [HM3.out]; omega) W h)
      have HC3 := Lib.hid (fun u W h => implMom_any u T3 (by rw [HM3.out]; omega) W h)
      obtain ⟨⟨p3, k3⟩, hr3⟩ : ∃ r, waV T3 x3 = r := ⟨_, rfl⟩
      rw [hr3] at HC1 HC2
      go_wp2_with fail
      refine (HC1.out _ _ L3.out).mono ?_
      rintro e w21 ⟨rfl, hb⟩
      have L3 := Lib.hid (L3.out.below hb)
      have BL := Lib.hid (BL.out.trans (hb.mono BL.out.size))
      clear hb
      go_wp2_with fail
      refine (HC2.out _ _ L3.out).mono ?_
      rintro e w22 ⟨rfl, hb⟩
      have L3 := Lib.hid (L3.out.below hb)
      have BL := Lib.hid (BL.out.trans (hb.mono BL.out.size))
      clear hb
      cases k3 with
      | false =>
        clear hr3
        go_wp2_with fail
        go_ret
        exact ⟨rfl, BL.out⟩
      | true =>
        obtain ⟨hm, hx1, hx2⟩ := wa_facts hr3
        rw [hm] at HC3
        clear hr3 hm
        generalize sW T3 = sw at *
        go_wp2_with fail
        refine (HC3.out _ _ L3.out).mono ?_
        rintro e w23 ⟨rfl, hb⟩
        have BL := Lib.hid (BL.out.trans (hb.mono BL.out.size))
        clear hb
        go_wp2_with fail
        go_ret
        exact ⟨rfl, BL.out⟩
    | true =>
      obtain ⟨ha, hr3, hap, hz, hab, hmq⟩ := ma_facts hr2
      rw [hr3] at HB3
      obtain ⟨t, ht⟩ : ∃ t, z2 * q2 = t := ⟨_, rfl⟩
      have f1 : IntKind.i64.wrap (z2 * q2) = t := by rw [IntKind.wrap_i64]; omega
      have f2 : IntKind.i64.wrap (ha + p2) = t := by rw [IntKind.wrap_i64]; omega
      clear hr2 hr3 hap ht hz hab hmq
      go_wp2_with fail
      refine (HB3.out _ _ L2.out).mono ?_
      rintro e w13 ⟨rfl, hb⟩
      have BL := Lib.hid (BL.out.trans (hb.mono BL.out.size))
      clear hb
      go_wp2_with fail
      refine (HD3.out _ BL.out).mono ?_
      rintro e w20 ⟨T3, a3, c3, x3, rfl, hT3, hL, hb⟩
      have L3 := Lib.hid hL
      have BL := Lib.hid (BL.out.trans (hb.mono BL.out.size))
      clear hL hb
      obtain ⟨m3, hm3⟩ : ∃ m, T3.length = m := ⟨_, rfl⟩
      have HM3 := Lib.hid hm3
      rw [hm3] at hT3 L3 ⊢
      clear hm3
      have HC1 := Lib.hid (fun u W h => implWa_any u T3 x3 (by rw [HM3.out]; omega) W h)
      have HC2 := Lib.hid (fun u W h => specWa_any u T3 x3 (by rw [HM3.out]; omega) W h)
      have HC3 := Lib.hid (fun u W h => implMom_any u T3 (by rw [HM3.out]; omega) W h)
      obtain ⟨⟨p3, k3⟩, hr3⟩ : ∃ r, waV T3 x3 = r := ⟨_, rfl⟩
      rw [hr3] at HC1 HC2
      go_wp2_with fail
      refine (HC1.out _ _ L3.out).mono ?_
      rintro e w21 ⟨rfl, hb⟩
      have L3 := Lib.hid (L3.out.below hb)
      have BL := Lib.hid (BL.out.trans (hb.mono BL.out.size))
      clear hb
      go_wp2_with fail
      refine (HC2.out _ _ L3.out).mono ?_
      rintro e w22 ⟨rfl, hb⟩
      have L3 := Lib.hid (L3.out.below hb)
      have BL := Lib.hid (BL.out.trans (hb.mono BL.out.size))
      clear hb
      cases k3 with
      | false =>
        clear hr3
        go_wp2_with fail
        go_ret
        exact ⟨rfl, BL.out⟩
      | true =>
        obtain ⟨hm, hx1, hx2⟩ := wa_facts hr3
        rw [hm] at HC3
        clear hr3 hm
        generalize sW T3 = sw at *
        go_wp2_with fail
        refine (HC3.out _ _ L3.out).mono ?_
        rintro e w23 ⟨rfl, hb⟩
        have BL := Lib.hid (BL.out.trans (hb.mono BL.out.size))
        clear hb
        go_wp2_with fail
        go_ret
        exact ⟨rfl, BL.out⟩

theorem st_walk (a : Option Addr) (len cap : Nat) (w : World) (hl : len ≤ maxLen) (hc : ∀ j, j < len → ∃ (cb off : Nat) (x : UInt8), a = some ⟨cb, off, none⟩ ∧ cb < w.heap.size ∧ w.cell? ⟨cb, off + j, none⟩ = some (.int .u8 (x.toNat : Int))) :
    Calls Try.prog 3 #[.slice a len cap] w fun e w' => e = .returned (.bool true) ∧ Below w.heap.size w w' := by
  by_cases h : 65536 < len
  · refine (st_big a len cap w h hl).mono ?_
    rintro e w' ⟨he, rfl⟩
    exact ⟨he, Below.refl _ _⟩
  · exact st_small a len cap w ⟨by omega, hc⟩

theorem st_own : ownKnob Try.prog.godebug = none := by kernel_rfl
theorem st_laidOut : laidOutB Try.prog = true := by kernel_rfl
theorem byte_of {z : Int} (h : (Lit.int .u8 z).wf = true) : ∃ x : UInt8, (x.toNat : Int) = z := by
  have h1 : 0 ≤ z ∧ z < 256 := by
    simp only [Lit.wf, Bool.and_eq_true, decide_eq_true_eq] at h
    have e1 : IntKind.u8.min = 0 := rfl
    have e2 : IntKind.u8.max = 255 := rfl
    omega
  refine ⟨UInt8.ofNat z.toNat, ?_⟩
  rw [UInt8.toNat_ofNat']
  omega

set_option maxRecDepth 100000 in
theorem st_lifted (os : Os) (started : os.Started) (H : Type) (enc : TypeId × Value → H) :
    ReturnsInHanded {} Try.checked os 3 .any (Rows.fnCentersSpec.pre6 enc Try.prog Try.f3 Rows.fnCentersRow.domain false) (Rows.fnCentersSpec.post enc Try.prog Try.f3 false true false false) := by
  refine returnsInHanded_of_change (C := Try.checked) st_own started (by kernel_rfl) Try.func3
    (ChangeSpec.witness6 (enc := enc) (C := Try.checked) false ⟨#[], #[.slice none 0 0], []⟩ 8 (by kernel_rfl) (by kernel_rfl) (by kernel_rfl) (by kernel_rfl)) ?_
  intro W base args ds gs before hval0 hW hcnd0 _
  have hval : ∀ (j : Nat) t v, Try.f3.params[j]? = some t → args[j]? = some v → Value.okWide Try.prog W .any base t v := hval0
  have hW' := hW
  obtain ⟨p, q, hA0, hV, rfl, hfz, _⟩ := hW
  have hA : DataW.TrodAll enc Try.prog W 0 (fun _ => true) true Try.f3.params.toList args.toList ds p := hA0
  rw [Try.params3] at hA hval
  obtain ⟨v0, d0, rfl, rfl, h0⟩ := trodAll_one hA
  obtain ⟨rfl, rfl⟩ := trodVars_none hV
  obtain ⟨a0, len, cap, rfl⟩ := okWide_slice Try.underlying22 (hval 0 22 v0 rfl rfl)
  have h0k := h0
  obtain ⟨fuel, hf⟩ := h0
  clear hA0 hval0 hcnd0
  simp only [List.append_nil] at hW'
  have hlt : ∀ x ∈ p, x.block < W.heap.size := fun x hx => by simpa using hW'.lt x (by simpa using hx)
  have key : len ≤ maxLen ∧ ∀ j, j < len → ∃ (cb off : Nat) (x : UInt8), a0 = some ⟨cb, off, none⟩ ∧ cb < W.heap.size ∧ W.cell? ⟨cb, off + j, none⟩ = some (.int .u8 (x.toNat : Int)) := by
    rcases open_ints Try.underlying22 Try.underlying5 (by kernel_rfl) hf with ⟨hcs, hx⟩ | ⟨a, len', cap', zs, hcs, _, hl, hm, hz, hx, hcell, hws⟩
    · simp [Value.cells] at hcs
      obtain ⟨rfl, rfl, rfl⟩ := hcs
      exact ⟨Nat.zero_le _, fun j hj => by omega⟩
    · simp [Value.cells] at hcs
      obtain ⟨rfl, rfl, rfl⟩ := hcs
      simp only [Prod.mk.injEq] at hx
      obtain ⟨-, hp⟩ := hx
      simp only [if_true] at hz
      refine ⟨by omega, fun j hj => ?_⟩
      have hjz : j < zs.length := by omega
      obtain ⟨b, off, spot⟩ := a
      have hspot : spot = none := by simpa [Addr.add] using World.cell?_spot (hcell 0 (by omega))
      subst hspot
      have hbW : b < W.heap.size := hlt (.cell b off) (by rw [hp]; exact MemPlace.mem_row.2 ⟨0, by omega, by simp⟩)
      obtain ⟨x, hx⟩ := byte_of (hws zs[j] (List.getElem_mem hjz))
      refine ⟨b, off, x, rfl, hbW, ?_⟩
      rw [← add_plain, hcell j hjz, hx]
      simp [hjz]
  obtain ⟨hn, hv⟩ := key
  refine (st_walk a0 len cap W hn hv).mono fun e W' ⟨he, hB⟩ => ?_
  subst he
  refine ⟨_, rfl, _, _, _, [], p, [], hW', ?_, ?_, rfl, hB.frame _, fun h => by cases h⟩
  · exact trodAll_mk1 (shut_bool Try.underlying4 true)
  · exact trodAll_mk1 (Below.trod st_laidOut (by kernel_rfl) (of_decide_eq_true (by kernel_rfl)) h0k hB hlt)

theorem FnCenters_holds : Rows.FnCentersSaid :=
  OpenClaim.holds_of_wide 3 Try.f3 rfl rfl rfl rfl rfl rfl rfl ⟨rfl, rfl, rfl, rfl, rfl⟩ rfl rfl rfl rfl rfl (by kernel_rfl) Try.func3 (by kernel_rfl)
    (of_decide_eq_true (by kernel_rfl)) (by unfold Func.isWrapper; first | (rw [if_pos (by decide +kernel)]; kernel_rfl) | (rw [if_neg (by decide +kernel)]; exact ⟨rfl, rfl⟩))
    (fun os started H enc _ => st_lifted os started H enc)

#print axioms FnCenters_holds
end Go.Proofs.Ytndafdjllbhbfaa
