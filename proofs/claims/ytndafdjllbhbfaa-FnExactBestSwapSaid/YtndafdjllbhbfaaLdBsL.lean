/-
  Proved here: the law FnExactBestSwap returns true at every list, and the list reads afterwards as it read before. There are no conditions.
-/
import Derived.Test.YtndafdjllbhbfaaRows
import Derived.Test.YtndafdjllbhbfaaLdP
import Derived.Test.YtndafdjllbhbfaaLawP
import Derived.WalkKit
import Derived.ProofKit
import Derived.OpenShut
namespace Go.Proofs.Ytndafdjllbhbfaa
open Go.Joins Go.Deep Go.ChangeShapes Go.WideShapes Go.ChangeAt Go.RowKit

set_option maxRecDepth 100000 in
set_option maxHeartbeats 16000000 in
theorem bestSwap_body (v : Value) (S : List (Int × Int × Int)) (R : List Int) (x : Int) (ok : Bool) (hR : R.length ≤ 1000) (hn : S.length ≤ maxLen) (w : World) (hv : LdL w v S)
    (hspec : S.length ≤ 1048576 → ∀ (u : Value) (W : World), LdL W u S → Calls Try.prog 35 #[u] W (RetLI W R x ok))
    (himpl : S.length ≤ 1048576 → ∀ (u : Value) (W : World), LdL W u S → Calls Try.prog 34 #[u] W (RetLI W R x ok)) :
    Calls Try.prog 11 #[v] w fun e w' => e = .returned (.bool true) ∧ Below w.heap.size w w' := by
  have HV := Lib.hid hv
  have H1 := Lib.hid hspec
  have H2 := Lib.hid himpl
  obtain ⟨a, c, rfl⟩ := hv.form
  clear hv hspec himpl
  go_enter Try.func11, Try.ntmps11
  go_wp2_with fail
  refine (szLd_any a S.length c 1048576 hn (by decide) _).mono ?_
  rintro e w1 ⟨rfl, rfl⟩
  by_cases hS : S.length ≤ 1048576
  case neg =>
    rw [if_neg hS]
    go_wp2_with fail
    go_ret
    exact ⟨rfl, Below.refl _ _⟩
  rw [if_pos hS]
  obtain ⟨r, hr⟩ : ∃ r : Nat, 1048576 - S.length = r := ⟨_, rfl⟩
  rw [hr]
  have HS := Lib.hid hS
  have hr0 : r ≤ 1048576 := by omega
  clear hr hS
  obtain ⟨m, hm⟩ : ∃ m, S.length = m := ⟨_, rfl⟩
  have HMm := Lib.hid hm
  rw [hm] at HV ⊢
  have hm9 : m ≤ 1048576 := by have := HS.out; omega
  clear hn hm
  obtain ⟨nr, hnr⟩ : ∃ nr, R.length = nr := ⟨_, rfl⟩
  have HNR := Lib.hid hnr
  rw [hnr] at hR
  clear hnr
  go_wp2_with fail
  refine (toLd_any _ S HS.out _ HV.out).mono ?_
  intro e w1 h1
  obtain ⟨u1, rfl, hu1, hb1⟩ := h1.read
  have B1 := Lib.hid hb1
  clear h1 hb1
  go_wp2_with fail
  refine (H1.out HS.out _ _ hu1).mono ?_
  rintro e w2 ⟨aw, cw, rfl, ow, hb2⟩
  have OW2 := Lib.hid ow
  have B2 : Hid (Below w.heap.size w w2) := Lib.hid (B1.out.trans (hb2.mono B1.out.size))
  clear hb2 hu1 ow
  rw [HNR.out] at OW2 ⊢
  go_wp2_with fail
  refine (toLd_any _ S HS.out _ (HV.out.below B2.out)).mono ?_
  rintro e w3 ⟨ax, cx, rfl, ox, hb3⟩
  have OX3 := Lib.hid (LdO.of_own ox (Nat.le_refl _))
  have OW3 := Lib.hid (OW2.out.below hb3)
  have B3 : Hid (Below w.heap.size w w3) := Lib.hid (B2.out.trans (hb3.mono B2.out.size))
  have Z3 := Lib.hid hb3.size
  clear hb3 ox
  rw [HMm.out] at OX3 ⊢
  go_wp2_with fail
  refine (H2.out HS.out _ _ OX3.out.read).mono ?_
  rintro e w4 ⟨ag, cg, rfl, og, hb4⟩
  have OG4 := Lib.hid og
  have OX4 := Lib.hid (OX3.out.below hb4)
  have OW4 := Lib.hid (OW3.out.below hb4)
  have B4 : Hid (Below w.heap.size w w4) := Lib.hid (B3.out.trans (hb4.mono B3.out.size))
  clear hb4 og
  rw [HNR.out] at OG4 ⊢
  go_wp2_with fail
  refine (eqL_any _ _ R (by rw [HNR.out]; omega) _ OG4.out.read OW4.out.read).mono ?_
  rintro e w5 ⟨rfl, hb⟩
  have OG5 := Lib.hid (OG4.out.below hb)
  have OX5 := Lib.hid (OX4.out.below hb)
  have OW5 := Lib.hid (OW4.out.below hb)
  have B5 : Hid (Below w.heap.size w w5) := Lib.hid (B4.out.trans (hb.mono B4.out.size))
  clear hb
  go_wp2_with fail
  refine (toLd_any _ S HS.out _ (HV.out.below B5.out)).mono ?_
  intro e w6 h6
  obtain ⟨u6, rfl, hu6, hb⟩ := h6.read
  have U6 := Lib.hid hu6
  have OG6 := Lib.hid (OG5.out.below hb)
  have OX6 := Lib.hid (OX5.out.below hb)
  have OW6 := Lib.hid (OW5.out.below hb)
  have B6 : Hid (Below w.heap.size w w6) := Lib.hid (B5.out.trans (hb.mono B5.out.size))
  clear hb h6 hu6
  go_wp2_with fail
  refine (eqLd_any _ _ S HS.out _ OX6.out.read U6.out).mono ?_
  rintro e w7 ⟨rfl, hb⟩
  have OG7 := Lib.hid (OG6.out.below hb)
  have OX7 := Lib.hid (OX6.out.below hb)
  have OW7 := Lib.hid (OW6.out.below hb)
  have B7 : Hid (Below w.heap.size w w7) := Lib.hid (B6.out.trans (hb.mono B6.out.size))
  clear hb U6
  go_wp2_with fail
  refine (markLd_any _ S 1 _ _ HS.out (by decide) (by decide) _ OX7.out).mono ?_
  rintro e w8 ⟨rfl, ox8, hs⟩
  have OG8 := Lib.hid (OG7.out.span hs (.inr (Nat.le_refl _)))
  have OW8 := Lib.hid (OW7.out.span hs (.inl (Nat.le_refl _)))
  have B8 : Hid (Below w.heap.size w w8) := Lib.hid (Below.span B7.out (hs.lift B2.out.size) B7.out.size)
  clear hs ox8
  rw [HMm.out]
  go_wp2_with fail
  refine (eqL_any _ _ R (by rw [HNR.out]; omega) _ OG8.out.read OW8.out.read).mono ?_
  rintro e w9 ⟨rfl, hb⟩
  have OG9 := Lib.hid (OG8.out.below hb)
  have OW9 := Lib.hid (OW8.out.below hb)
  have B9 : Hid (Below w.heap.size w w9) := Lib.hid (B8.out.trans (hb.mono B8.out.size))
  clear hb
  go_wp2_with fail
  refine (markL_wide _ R 1 _ _ (by rw [HNR.out]; omega) (by decide) (by decide) _ OG9.out).mono ?_
  rintro e w10 ⟨rfl, og10, hs⟩
  have OG10 := Lib.hid og10
  have OW10 := Lib.hid (OW9.out.span hs (.inl Z3.out))
  have B10 : Hid (Below w.heap.size w w10) := Lib.hid (Below.span B9.out (hs.lift B3.out.size) B9.out.size)
  clear hs og10
  rw [HNR.out] at OG10 ⊢
  go_wp2_with fail
  refine (heldL_wide _ nr 1 (by omega) (by decide) (by decide) _ OG10.out.read).mono ?_
  rintro e w11 ⟨rfl, hb⟩
  have OG11 := Lib.hid (OG10.out.below hb)
  have OW11 := Lib.hid (OW10.out.below hb)
  have B11 : Hid (Below w.heap.size w w11) := Lib.hid (B10.out.trans (hb.mono B10.out.size))
  clear hb
  go_wp2_with fail
  refine (toLd_any _ S HS.out _ (HV.out.below B11.out)).mono ?_
  intro e w12 h12
  obtain ⟨u12, rfl, hu12, hb⟩ := h12.read
  have U12 := Lib.hid hu12
  have OG12 := Lib.hid (OG11.out.below hb)
  have OW12 := Lib.hid (OW11.out.below hb)
  have B12 : Hid (Below w.heap.size w w12) := Lib.hid (B11.out.trans (hb.mono B11.out.size))
  clear hb h12 hu12
  go_wp2_with fail
  refine (H2.out HS.out _ _ U12.out).mono ?_
  rintro e w13 ⟨ah, ch, rfl, oh, hb⟩
  have OH13 := Lib.hid oh
  have OG13 := Lib.hid (OG12.out.below hb)
  have OW13 := Lib.hid (OW12.out.below hb)
  have B13 : Hid (Below w.heap.size w w13) := Lib.hid (B12.out.trans (hb.mono B12.out.size))
  clear hb oh
  rw [HNR.out] at OH13 ⊢
  go_wp2_with fail
  refine (eqL_any _ _ R (by rw [HNR.out]; omega) _ OH13.out.read OW13.out.read).mono ?_
  rintro e w14 ⟨rfl, hb⟩
  have OG14 := Lib.hid (OG13.out.below hb)
  have B14 : Hid (Below w.heap.size w w14) := Lib.hid (B13.out.trans (hb.mono B13.out.size))
  clear hb
  go_wp2_with fail
  refine (heldL_wide _ nr 1 (by omega) (by decide) (by decide) _ OG14.out.read).mono ?_
  rintro e w15 ⟨rfl, hb⟩
  have B15 : Hid (Below w.heap.size w w15) := Lib.hid (B14.out.trans (hb.mono B14.out.size))
  clear hb
  go_wp2_with fail
  go_ret
  exact ⟨rfl, B15.out⟩

set_option maxRecDepth 100000 in
theorem bestSwap_lifted (os : Os) (started : os.Started) (H : Type) (enc : TypeId × Value → H) :
    ReturnsInHanded {} Try.checked os 11 .any (Rows.fnExactBestSwapSpec.pre6 enc Try.prog Try.f11 Rows.fnExactBestSwapRow.domain false) (Rows.fnExactBestSwapSpec.post enc Try.prog Try.f11 false true false false) := by
  refine returnsInHanded_of_change (C := Try.checked) yard_own started (by kernel_rfl) Try.func11
    (ChangeSpec.witness6 (enc := enc) (C := Try.checked) false ⟨#[], #[.slice none 0 0], []⟩ 8 (by kernel_rfl) (by kernel_rfl) (by kernel_rfl) (by kernel_rfl)) ?_
  intro W base args ds gs before hval0 hW hcnd0 _
  have hval : ∀ (j : Nat) t v, Try.f11.params[j]? = some t → args[j]? = some v → Value.okWide Try.prog W .any base t v := hval0
  have hW' := hW
  obtain ⟨p, q, hA0, hV, rfl, hfz, _⟩ := hW
  have hA : DataW.TrodAll enc Try.prog W 0 (fun _ => true) true Try.f11.params.toList args.toList ds p := hA0
  rw [Try.params11] at hA hval
  obtain ⟨v0, d0, rfl, rfl, h0⟩ := trodAll_one hA
  obtain ⟨rfl, rfl⟩ := trodVars_none hV
  obtain ⟨a0, len, cap, rfl⟩ := okWide_slice Try.underlying53 (hval 0 53 v0 rfl rfl)
  clear hA0 hval0 hcnd0
  simp only [List.append_nil] at hW'
  have hlt : ∀ x ∈ p, x.block < W.heap.size := fun x hx => by simpa using hW'.lt x (by simpa using hx)
  obtain ⟨S, hn, hv⟩ := openLd h0 hlt
  refine (bestSwap_body (.slice a0 len cap) S _ _ _ (by have := bsL_len S; omega) hn W hv (fun h u W hu => specBs_any u S h W hu) (fun h u W hu => implBs_any u S h W hu)).mono fun e W' ⟨he, hB⟩ => ?_
  subst he
  refine ⟨_, rfl, _, _, _, [], p, [], hW', ?_, ?_, rfl, hB.frame _, fun h => by cases h⟩
  · exact trodAll_mk1 (shut_bool Try.underlying4 true)
  · have h9 := trodAll_mk1 (Below.trod yard_laidOut (by kernel_rfl) (of_decide_eq_true (by kernel_rfl)) h0 hB hlt)
    first
      | exact h9
      | (simp only [List.append_nil] at h9; exact h9)

theorem FnExactBestSwap_holds : Rows.FnExactBestSwapSaid :=
  OpenClaim.holds_of_wide 11 Try.f11 rfl rfl rfl rfl rfl rfl rfl ⟨rfl, rfl, rfl, rfl, rfl⟩ rfl rfl rfl rfl rfl (by kernel_rfl) Try.func11 (by kernel_rfl)
    (of_decide_eq_true (by kernel_rfl)) (by unfold Func.isWrapper; first | (rw [if_pos (by decide +kernel)]; kernel_rfl) | (rw [if_neg (by decide +kernel)]; exact ⟨rfl, rfl⟩))
    (fun os started H enc _ => bestSwap_lifted os started H enc)
#print axioms FnExactBestSwap_holds
end Go.Proofs.Ytndafdjllbhbfaa
