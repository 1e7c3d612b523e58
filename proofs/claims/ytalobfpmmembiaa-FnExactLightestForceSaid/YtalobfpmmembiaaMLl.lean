/-
  Proved here: the law FnExactLightestForce returns true at every list and all rules, and the arguments read afterwards as before. There are no conditions.
-/
import Derived.Test.YtalobfpmmembiaaRows
import Derived.Test.YtalobfpmmembiaaMLc
import Derived.Test.YtalobfpmmembiaaMLg
import Derived.WalkKit
import Derived.ProofKit
import Derived.OpenShut
import Derived.Deep.RegionHeld3
namespace Go.Proofs.Ytalobfpmmembiaa
open Go.Joins Go.Deep Go.ChangeShapes Go.WideShapes Go.ChangeAt Go.RowKit

set_option maxRecDepth 100000 in
set_option maxHeartbeats 16000000 in
theorem lightestForce_body (v : Value) (l : List Int) (a b c : Int) (R : List Int) (x : Int) (ok : Bool) (hR : R.length ≤ 1000) (hn : l.length ≤ maxLen) (w : World) (hv : IL w v l)
    (hspec : l.length ≤ 1048576 → ∀ (u : Value) (W : World), OwnI W u l → Calls Try.prog 26 #[u, .agg #[.int .i64 a, .int .i64 b, .int .i64 c]] W (RetLX W R x ok))
    (himpl : l.length ≤ 1048576 → ∀ (u : Value) (W : World), OwnI W u l → Calls Try.prog 25 #[u, .agg #[.int .i64 a, .int .i64 b, .int .i64 c]] W (RetLX W R x ok)) :
    Calls Try.prog 10 #[v, .agg #[.int .i64 a, .int .i64 b, .int .i64 c]] w fun e w' => e = .returned (.bool true) ∧ Below w.heap.size w w' := by
  have HV := Lib.hid hv
  have H1 := Lib.hid hspec
  have H2 := Lib.hid himpl
  obtain ⟨va, vc, rfl⟩ := hv.form
  clear hv hspec himpl
  obtain ⟨m, hm⟩ : ∃ m, l.length = m := ⟨_, rfl⟩
  have HM := Lib.hid hm
  rw [hm] at HV hn ⊢
  clear hm
  unfold maxLen at hn
  obtain ⟨nr, hnr⟩ : ∃ nr, R.length = nr := ⟨_, rfl⟩
  have HNR := Lib.hid hnr
  rw [hnr] at hR
  clear hnr
  have B := Lib.hid (below_one w (.cells #[.int .i64 a, .int .i64 b, .int .i64 c] 51))
  have BA := Lib.hid (BoxR.new w a b c 51)
  by_cases hS : m ≤ 1048576
  case neg =>
    have hgt : (1048576 : Int) < (m : Int) := by omega
    go_enter Try.func10, Try.ntmps10
    go_wp2_with fail
    go_ret
    exact ⟨rfl, B.out⟩
  have hgt : ¬ (1048576 : Int) < (m : Int) := by omega
  have HS : Hid (l.length ≤ 1048576) := Lib.hid (by rw [HM.out]; exact hS)
  clear hS
  go_enter Try.func10, Try.ntmps10
  go_wp2_with fail
  generalize w.alloc (.cells #[.int .i64 a, .int .i64 b, .int .i64 c] 51) = w0 at *
  have K0 := (KeepR.start (HV.out.below B.out) BA.out).drew
  obtain ⟨k0, k1, k2⟩ : w0.drew.cell? ⟨w.heap.size, 0, none⟩ = some (.int .i64 a) ∧ w0.drew.cell? ⟨w.heap.size, 1, none⟩ = some (.int .i64 b) ∧ w0.drew.cell? ⟨w.heap.size, 2, none⟩ = some (.int .i64 c) := K0.cells
  have hq1 := HS.out
  go_cut [5, 6, 7] from 21 (fun s5 s6 s7 wx => ∃ (ax : Option Addr) (cx : Nat), s5 = .slice ax nr cx ∧ s6 = .int .i64 x ∧ s7 = .bool ok ∧ Hid (LO wx w0.heap.size wx.heap.size (.slice ax nr cx) R) ∧ Hid (KeepR w0 w.heap.size a b c (.slice va m vc) l wx))
  case first =>
    go_region_held3 (fun W => (W.cell? ⟨w.heap.size, 0, none⟩ = some (.int .i64 a) ∧ W.cell? ⟨w.heap.size, 1, none⟩ = some (.int .i64 b) ∧ W.cell? ⟨w.heap.size, 2, none⟩ = some (.int .i64 c)) ∧ KeepR w0 w.heap.size a b c (.slice va m vc) l W) (go_keep) (first | (go_at_call 39; refine (KeepR.to HS.out (by assumption)).mono ?_; rintro e w' ⟨u, rfl, hu, x0, x1, x2, hK⟩) | (go_at_call 42; refine (KeepR.rules (by assumption)).mono ?_; rintro e w' ⟨rfl, hbr, x0, x1, x2, hK⟩; try (have hu2 := OwnI.below hu hbr)) | (go_at_call 26; refine (H1.out HS.out _ _ (by assumption)).mono ?_; rintro e w' ⟨ax, cx, rfl, ow, hb⟩; have hK2 := KeepR.below (by assumption) hb; obtain ⟨x0, x1, x2⟩ := hK2.cells; rw [HNR.out] at ow ⊢))
    all_goals
      go_wp2_with fail
      go_meet
      exact ⟨_, _, rfl, rfl, rfl, Lib.hid (ow.lower (by first | exact (KeepR.size (by assumption)) | assumption)), Lib.hid hK2⟩
  case rest =>
    obtain ⟨aOW, cOW, rfl, rfl, rfl, OW, HK⟩ := hcut
    rename World => w1
    have hb := HK.out.1
    clear HK K0 k0 k1 k2 hq1
    have BA := Lib.hid (BA.out.below hb)
    have B := Lib.hid (B.out.trans (hb.mono B.out.size))
    clear hb
    have ZB : Hid (w.heap.size ≤ w1.heap.size) := Lib.hid B.out.size
    have ZA : Hid (w.heap.size < w1.heap.size) := Lib.hid BA.out.1
    have c0 := BA.out.2.1
    have c1 := BA.out.2.2.1
    have c2 := BA.out.2.2.2
    go_wp2_with fail
    clear c0 c1 c2
    refine (toI_any _ l HS.out _ (HV.out.below B.out)).mono ?_
    rintro e w2 ⟨aX, cX, rfl, ox, hb⟩
    have BA := Lib.hid (BA.out.below hb)
    have OW := Lib.hid (OW.out.below hb)
    have B := Lib.hid (B.out.trans (hb.mono B.out.size))
    have OX := Lib.hid (lo_of_own ox (Nat.le_refl _))
    have Zw2 := Lib.hid hb.size
    clear hb ox
    rw [HM.out] at OX ⊢
    have c0 := BA.out.2.1
    have c1 := BA.out.2.2.1
    have c2 := BA.out.2.2.2
    go_wp2_with fail
    clear c0 c1 c2
    refine (toR_any a b c _).mono ?_
    rintro e w3 ⟨rfl, hb⟩
    have BA := Lib.hid (BA.out.below hb)
    have OW := Lib.hid (OW.out.below hb)
    have OX := Lib.hid (OX.out.below hb)
    have B := Lib.hid (B.out.trans (hb.mono B.out.size))
    have ZR := Lib.hid hb.size
    clear hb
    have c0 := BA.out.2.1
    have c1 := BA.out.2.2.1
    have c2 := BA.out.2.2.2
    go_wp2_with fail
    clear c0 c1 c2
    refine (H2.out HS.out _ _ ⟨_, OX.out.2.1⟩).mono ?_
    rintro e w4 ⟨aOG, cOG, rfl, og, hb⟩
    have BA := Lib.hid (BA.out.below hb)
    have OW := Lib.hid (OW.out.below hb)
    have OX := Lib.hid (OX.out.below hb)
    have B := Lib.hid (B.out.trans (hb.mono B.out.size))
    have ZG : Hid (w1.heap.size ≤ w3.heap.size) := Lib.hid (Nat.le_trans Zw2.out ZR.out)
    have OG := Lib.hid og
    rw [HNR.out] at OG ⊢
    clear og
    clear hb
    have c0 := BA.out.2.1
    have c1 := BA.out.2.2.1
    have c2 := BA.out.2.2.2
    go_wp2_with fail
    clear c0 c1 c2
    refine (eqL_any _ _ R (by rw [HNR.out]; omega) _ OG.out.read OW.out.read).mono ?_
    rintro e w5 ⟨rfl, hb⟩
    have BA := Lib.hid (BA.out.below hb)
    have OW := Lib.hid (OW.out.below hb)
    have OX := Lib.hid (OX.out.below hb)
    have OG := Lib.hid (OG.out.below hb)
    have B := Lib.hid (B.out.trans (hb.mono B.out.size))
    clear hb
    have c0 := BA.out.2.1
    have c1 := BA.out.2.2.1
    have c2 := BA.out.2.2.2
    go_wp2_with fail
    clear c0 c1 c2
    refine (toI_any _ l HS.out _ (HV.out.below B.out)).mono ?_
    intro e w6 h6
    obtain ⟨u6, rfl, hu6, hb⟩ : ∃ u, e = .returned u ∧ OwnI w6 u l ∧ Below w5.heap.size w5 w6 := by
      obtain ⟨a1, c1, rfl, ho1, hb⟩ := h6
      exact ⟨_, rfl, ⟨_, ho1⟩, hb⟩
    have HU := Lib.hid hu6
    clear h6 hu6
    have BA := Lib.hid (BA.out.below hb)
    have OW := Lib.hid (OW.out.below hb)
    have OX := Lib.hid (OX.out.below hb)
    have OG := Lib.hid (OG.out.below hb)
    have B := Lib.hid (B.out.trans (hb.mono B.out.size))
    clear hb
    have c0 := BA.out.2.1
    have c1 := BA.out.2.2.1
    have c2 := BA.out.2.2.2
    go_wp2_with fail
    clear c0 c1 c2
    refine (eqL_any _ _ l HS.out _ OX.out.read HU.out.read).mono ?_
    rintro e w7 ⟨rfl, hb⟩
    have BA := Lib.hid (BA.out.below hb)
    have OW := Lib.hid (OW.out.below hb)
    have OX := Lib.hid (OX.out.below hb)
    have OG := Lib.hid (OG.out.below hb)
    have B := Lib.hid (B.out.trans (hb.mono B.out.size))
    clear hb
    clear HU
    have c0 := BA.out.2.1
    have c1 := BA.out.2.2.1
    have c2 := BA.out.2.2.2
    go_wp2_with fail
    clear c0 c1 c2
    refine (markL_wide _ l 1 _ _ HS.out (by decide) (by decide) _ OX.out).mono ?_
    rintro e w8 ⟨rfl, ox, hs⟩
    have OG := Lib.hid (OG.out.span hs (.inr ZR.out))
    have OW := Lib.hid (OW.out.span hs (.inl (Nat.le_refl _)))
    have BA := Lib.hid (BA.out.span hs (.inl (by first | exact ZA.out)))
    have B := Lib.hid (Below.span B.out (hs.lift ZB.out) B.out.size)
    clear hs ox OX
    rw [HM.out]
    have c0 := BA.out.2.1
    have c1 := BA.out.2.2.1
    have c2 := BA.out.2.2.2
    go_wp2_with fail
    clear c0 c1 c2
    refine (eqL_any _ _ R (by rw [HNR.out]; omega) _ OG.out.read OW.out.read).mono ?_
    rintro e w9 ⟨rfl, hb⟩
    have BA := Lib.hid (BA.out.below hb)
    have OW := Lib.hid (OW.out.below hb)
    have OG := Lib.hid (OG.out.below hb)
    have B := Lib.hid (B.out.trans (hb.mono B.out.size))
    clear hb
    have c0 := BA.out.2.1
    have c1 := BA.out.2.2.1
    have c2 := BA.out.2.2.2
    go_wp2_with fail
    clear c0 c1 c2
    refine (markL_wide _ R 1 _ _ (by rw [HNR.out]; omega) (by decide) (by decide) _ OG.out).mono ?_
    rintro e w10 ⟨rfl, og, hs⟩
    have OG := Lib.hid og
    have OW := Lib.hid (OW.out.span hs (.inl ZG.out))
    have BA := Lib.hid (BA.out.span hs (.inl (Nat.lt_of_lt_of_le ZA.out ZG.out)))
    have B := Lib.hid (Below.span B.out (hs.lift (Nat.le_trans ZB.out ZG.out)) B.out.size)
    clear hs og
    rw [HNR.out] at OG ⊢
    have c0 := BA.out.2.1
    have c1 := BA.out.2.2.1
    have c2 := BA.out.2.2.2
    go_wp2_with fail
    clear c0 c1 c2
    refine (heldL_wide _ nr 1 (by omega) (by decide) (by decide) _ OG.out.read).mono ?_
    rintro e w11 ⟨rfl, hb⟩
    have BA := Lib.hid (BA.out.below hb)
    have OW := Lib.hid (OW.out.below hb)
    have OG := Lib.hid (OG.out.below hb)
    have B := Lib.hid (B.out.trans (hb.mono B.out.size))
    clear hb
    have c0 := BA.out.2.1
    have c1 := BA.out.2.2.1
    have c2 := BA.out.2.2.2
    go_wp2_with fail
    clear c0 c1 c2
    have K0 := (KeepR.start (HV.out.below B.out) BA.out).drew
    obtain ⟨k0, k1, k2⟩ : w11.drew.cell? ⟨w.heap.size, 0, none⟩ = some (.int .i64 a) ∧ w11.drew.cell? ⟨w.heap.size, 1, none⟩ = some (.int .i64 b) ∧ w11.drew.cell? ⟨w.heap.size, 2, none⟩ = some (.int .i64 c) := K0.cells
    have hq1 := HS.out
    go_cut [15, 16, 17] from 91 (fun s15 s16 s17 wx => ∃ (ax : Option Addr) (cx : Nat), s15 = .slice ax nr cx ∧ s16 = .int .i64 x ∧ s17 = .bool ok ∧ Hid (LO wx w11.heap.size wx.heap.size (.slice ax nr cx) R) ∧ Hid (KeepR w11 w.heap.size a b c (.slice va m vc) l wx))
    case first =>
      go_region_held3 (fun W => (W.cell? ⟨w.heap.size, 0, none⟩ = some (.int .i64 a) ∧ W.cell? ⟨w.heap.size, 1, none⟩ = some (.int .i64 b) ∧ W.cell? ⟨w.heap.size, 2, none⟩ = some (.int .i64 c)) ∧ KeepR w11 w.heap.size a b c (.slice va m vc) l W) (go_keep) (first | (go_at_call 39; refine (KeepR.to HS.out (by assumption)).mono ?_; rintro e w' ⟨u, rfl, hu, x0, x1, x2, hK⟩) | (go_at_call 42; refine (KeepR.rules (by assumption)).mono ?_; rintro e w' ⟨rfl, hbr, x0, x1, x2, hK⟩; try (have hu2 := OwnI.below hu hbr)) | (go_at_call 25; refine (H2.out HS.out _ _ (by assumption)).mono ?_; rintro e w' ⟨ax, cx, rfl, ow, hb⟩; have hK2 := KeepR.below (by assumption) hb; obtain ⟨x0, x1, x2⟩ := hK2.cells; rw [HNR.out] at ow ⊢))
      all_goals
        go_wp2_with fail
        go_meet
        exact ⟨_, _, rfl, rfl, rfl, Lib.hid (ow.lower (by first | exact (KeepR.size (by assumption)) | assumption)), Lib.hid hK2⟩
    case rest =>
      obtain ⟨aOH, cOH, rfl, rfl, rfl, OH, HK⟩ := hcut
      rename World => w12
      have hb := HK.out.1
      clear HK K0 k0 k1 k2 hq1
      have BA := Lib.hid (BA.out.below hb)
      have OW := Lib.hid (OW.out.below hb)
      have OG := Lib.hid (OG.out.below hb)
      have B := Lib.hid (B.out.trans (hb.mono B.out.size))
      clear hb
      have c0 := BA.out.2.1
      have c1 := BA.out.2.2.1
      have c2 := BA.out.2.2.2
      go_wp2_with fail
      clear c0 c1 c2
      refine (eqL_any _ _ R (by rw [HNR.out]; omega) _ OH.out.read OW.out.read).mono ?_
      rintro e w13 ⟨rfl, hb⟩
      have BA := Lib.hid (BA.out.below hb)
      have OW := Lib.hid (OW.out.below hb)
      have OG := Lib.hid (OG.out.below hb)
      have OH := Lib.hid (OH.out.below hb)
      have B := Lib.hid (B.out.trans (hb.mono B.out.size))
      clear hb
      have c0 := BA.out.2.1
      have c1 := BA.out.2.2.1
      have c2 := BA.out.2.2.2
      go_wp2_with fail
      clear c0 c1 c2
      refine (heldL_wide _ nr 1 (by omega) (by decide) (by decide) _ OG.out.read).mono ?_
      rintro e w14 ⟨rfl, hb⟩
      have BA := Lib.hid (BA.out.below hb)
      have OW := Lib.hid (OW.out.below hb)
      have OG := Lib.hid (OG.out.below hb)
      have OH := Lib.hid (OH.out.below hb)
      have B := Lib.hid (B.out.trans (hb.mono B.out.size))
      clear hb
      go_wp2_with fail
      go_ret
      exact ⟨rfl, B.out⟩

set_option maxRecDepth 100000 in
theorem lightestForce_lifted (os : Os) (started : os.Started) (H : Type) (enc : TypeId × Value → H) :
    ReturnsInHanded {} Try.checked os 10 .any (Rows.fnExactLightestForceSpec.pre6 enc Try.prog Try.f10 Rows.fnExactLightestForceRow.domain false) (Rows.fnExactLightestForceSpec.post enc Try.prog Try.f10 false true false false) := by
  refine returnsInHanded_of_change (C := Try.checked) yard_own started (by kernel_rfl) Try.func10
    (ChangeSpec.witness6 (enc := enc) (C := Try.checked) false ⟨#[], #[.slice none 0 0, .agg #[.int .i64 0, .int .i64 0, .int .i64 0]], []⟩ 8 (by kernel_rfl) (by kernel_rfl) (by kernel_rfl) (by kernel_rfl)) ?_
  intro W base args ds gs before hval0 hW hcnd0 _
  have hval : ∀ (j : Nat) t v, Try.f10.params[j]? = some t → args[j]? = some v → Value.okWide Try.prog W .any base t v := hval0
  have hW' := hW
  obtain ⟨p, q, hA0, hV, rfl, hfz, _⟩ := hW
  have hA : DataW.TrodAll enc Try.prog W 0 (fun _ => true) true Try.f10.params.toList args.toList ds p := hA0
  rw [Try.params10] at hA hval
  obtain ⟨v0, v1, d0, d1, p0, p1, rfl, rfl, rfl, h0, h1⟩ := trodAll_two hA
  obtain ⟨rfl, rfl⟩ := trodVars_none hV
  obtain ⟨a0, len, cap, rfl⟩ := okWide_slice Try.underlying24 (hval 0 24 v0 rfl rfl)
  obtain ⟨xa, xb, xc, rfl⟩ := open_rules (hval 1 51 v1 rfl rfl) h1
  clear hA0 hval0 hcnd0
  simp only [List.append_nil] at hW'
  have hlt : ∀ x ∈ (p0 ++ p1), x.block < W.heap.size := fun x hx => by simpa using hW'.lt x (by simpa using hx)
  have hlt0 : ∀ x ∈ p0, x.block < W.heap.size := fun x hx => hlt x (List.mem_append_left _ hx)
  have hlt1 : ∀ x ∈ p1, x.block < W.heap.size := fun x hx => hlt x (List.mem_append_right _ hx)
  obtain ⟨l, hn, hv⟩ := open_il h0 hlt0
  refine (lightestForce_body (.slice a0 len cap) l xa xb xc _ _ _ (by have := liR_len l xa xb xc; omega) hn W hv (fun h u W hu => specLi_any u l xa xb xc h W hu.read) (fun h u W hu => implLi_any u l xa xb xc h W hu.read)).mono fun e W' ⟨he, hB⟩ => ?_
  subst he
  refine ⟨_, rfl, _, _, _, [], (p0 ++ p1), [], hW', ?_, ?_, rfl, hB.frame _, fun h => by cases h⟩
  · exact trodAll_mk1 (shut_bool Try.underlying4 true)
  · have h9 := trodAll_mk2 (Below.trod yard_laidOut (by kernel_rfl) (of_decide_eq_true (by kernel_rfl)) h0 hB hlt0) (Below.trod yard_laidOut (by kernel_rfl) (of_decide_eq_true (by kernel_rfl)) h1 hB hlt1)
    first
      | exact h9
      | (simp only [List.append_nil, List.nil_append] at h9; exact h9)

theorem FnExactLightestForce_holds : Rows.FnExactLightestForceSaid :=
  OpenClaim.holds_of_wide 10 Try.f10 rfl rfl rfl rfl rfl rfl rfl ⟨rfl, rfl, rfl, rfl, rfl⟩ rfl rfl rfl rfl rfl (by kernel_rfl) Try.func10 (by kernel_rfl)
    (of_decide_eq_true (by kernel_rfl)) (by unfold Func.isWrapper; first | (rw [if_pos (by decide +kernel)]; kernel_rfl) | (rw [if_neg (by decide +kernel)]; exact ⟨rfl, rfl⟩))
    (fun os started H enc _ => lightestForce_lifted os started H enc)
#print axioms FnExactLightestForce_holds
end Go.Proofs.Ytalobfpmmembiaa
