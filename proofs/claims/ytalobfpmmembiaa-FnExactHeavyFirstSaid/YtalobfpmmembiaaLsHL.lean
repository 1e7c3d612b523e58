/-
  Proved here: the law FnExactHeavyFirst returns true at every list, and the arguments read afterwards as before. There are no conditions.
-/
import Derived.Test.YtalobfpmmembiaaRows
import Derived.Test.YtalobfpmmembiaaLsR
import Derived.Test.YtalobfpmmembiaaLsHS
import Derived.WalkKit
import Derived.ProofKit
import Derived.OpenShut
import Derived.Deep.RegionHeld3
namespace Go.Proofs.Ytalobfpmmembiaa
open Go.Joins Go.Deep Go.ChangeShapes Go.WideShapes Go.ChangeAt Go.RowKit

set_option maxRecDepth 100000 in
set_option maxHeartbeats 16000000 in
theorem heavyFirst_body (v : Value) (l : List Int) (R : List Int) (ok : Bool) (hR : R.length ≤ 1000) (hn : l.length ≤ maxLen) (w : World) (hv : IL w v l)
    (hspec : l.length ≤ 1048576 → ∀ (u : Value) (W : World), OwnI W u l → Calls Try.prog 23 #[u] W (RetL W R ok))
    (himpl : l.length ≤ 1048576 → ∀ (u : Value) (W : World), OwnI W u l → Calls Try.prog 22 #[u] W (RetL W R ok)) :
    Calls Try.prog 9 #[v] w fun e w' => e = .returned (.bool true) ∧ Below w.heap.size w w' := by
  have HV := Lib.hid hv
  have H1 := Lib.hid hspec
  have H2 := Lib.hid himpl
  obtain ⟨va, vc, rfl⟩ := hv.form
  clear hv hspec himpl
  obtain ⟨m, hm⟩ : ∃ m, l.length = m := ⟨_, rfl⟩
  have HM := Lib.hid hm
  rw [hm] at HV hn ⊢
  clear hm
  unfold maxLen at hn
  obtain ⟨nr, hnr⟩ : ∃ nr, R.length = nr := ⟨_, rfl⟩
  have HNR := Lib.hid hnr
  rw [hnr] at hR
  clear hnr
  have B := Lib.hid (Below.refl w.heap.size w)
  by_cases hS : m ≤ 1048576
  case neg =>
    have hgt : (1048576 : Int) < (m : Int) := by omega
    go_enter Try.func9, Try.ntmps9
    go_wp2_with fail
    go_ret
    exact ⟨rfl, B.out⟩
  have hgt : ¬ (1048576 : Int) < (m : Int) := by omega
  have HS : Hid (l.length ≤ 1048576) := Lib.hid (by rw [HM.out]; exact hS)
  clear hS
  go_enter Try.func9, Try.ntmps9
  go_wp2_with fail
  refine (toI_any _ l HS.out _ (HV.out.below B.out)).mono ?_
  intro e w1 h1
  obtain ⟨u1, rfl, ho1, hb⟩ : ∃ u, e = .returned u ∧ OwnI w1 u l ∧ Below w.heap.size w w1 := by
    obtain ⟨a1, c1, rfl, ho1, hb⟩ := h1
    exact ⟨_, rfl, ⟨_, ho1⟩, hb⟩
  have HU := Lib.hid ho1
  clear h1 ho1
  have B := Lib.hid (B.out.trans (hb.mono B.out.size))
  clear hb
  go_wp2_with fail
  refine (H1.out HS.out _ _ HU.out).mono ?_
  rintro e w2 ⟨aOW, cOW, rfl, ow, hb⟩
  have B := Lib.hid (B.out.trans (hb.mono B.out.size))
  have OW := Lib.hid ow
  rw [HNR.out] at OW ⊢
  clear ow
  clear hb HU
  have ZB : Hid (w.heap.size ≤ w2.heap.size) := Lib.hid B.out.size
  go_wp2_with fail
  refine (toI_any _ l HS.out _ (HV.out.below B.out)).mono ?_
  rintro e w3 ⟨aX, cX, rfl, ox, hb⟩
  have OW := Lib.hid (OW.out.below hb)
  have B := Lib.hid (B.out.trans (hb.mono B.out.size))
  have OX := Lib.hid (lo_of_own ox (Nat.le_refl _))
  have Zw3 := Lib.hid hb.size
  clear hb ox
  rw [HM.out] at OX ⊢
  go_wp2_with fail
  refine (H2.out HS.out _ _ ⟨_, OX.out.2.1⟩).mono ?_
  rintro e w4 ⟨aOG, cOG, rfl, og, hb⟩
  have OW := Lib.hid (OW.out.below hb)
  have OX := Lib.hid (OX.out.below hb)
  have B := Lib.hid (B.out.trans (hb.mono B.out.size))
  have ZG : Hid (w2.heap.size ≤ w3.heap.size) := Lib.hid (Zw3.out)
  have OG := Lib.hid og
  rw [HNR.out] at OG ⊢
  clear og
  clear hb
  go_wp2_with fail
  refine (eqL_any _ _ R (by rw [HNR.out]; omega) _ OG.out.read OW.out.read).mono ?_
  rintro e w5 ⟨rfl, hb⟩
  have OW := Lib.hid (OW.out.below hb)
  have OX := Lib.hid (OX.out.below hb)
  have OG := Lib.hid (OG.out.below hb)
  have B := Lib.hid (B.out.trans (hb.mono B.out.size))
  clear hb
  go_wp2_with fail
  refine (toI_any _ l HS.out _ (HV.out.below B.out)).mono ?_
  intro e w6 h6
  obtain ⟨u6, rfl, hu6, hb⟩ : ∃ u, e = .returned u ∧ OwnI w6 u l ∧ Below w5.heap.size w5 w6 := by
    obtain ⟨a1, c1, rfl, ho1, hb⟩ := h6
    exact ⟨_, rfl, ⟨_, ho1⟩, hb⟩
  have HU := Lib.hid hu6
  clear h6 hu6
  have OW := Lib.hid (OW.out.below hb)
  have OX := Lib.hid (OX.out.below hb)
  have OG := Lib.hid (OG.out.below hb)
  have B := Lib.hid (B.out.trans (hb.mono B.out.size))
  clear hb
  go_wp2_with fail
  refine (eqL_any _ _ l HS.out _ OX.out.read HU.out.read).mono ?_
  rintro e w7 ⟨rfl, hb⟩
  have OW := Lib.hid (OW.out.below hb)
  have OX := Lib.hid (OX.out.below hb)
  have OG := Lib.hid (OG.out.below hb)
  have B := Lib.hid (B.out.trans (hb.mono B.out.size))
  clear hb
  clear HU
  go_wp2_with fail
  refine (markL_wide _ l 1 _ _ HS.out (by decide) (by decide) _ OX.out).mono ?_
  rintro e w8 ⟨rfl, ox, hs⟩
  have OG := Lib.hid (OG.out.span hs (.inr (Nat.le_refl _)))
  have OW := Lib.hid (OW.out.span hs (.inl (Nat.le_refl _)))
  have B := Lib.hid (Below.span B.out (hs.lift ZB.out) B.out.size)
  clear hs ox OX
  rw [HM.out]
  go_wp2_with fail
  refine (eqL_any _ _ R (by rw [HNR.out]; omega) _ OG.out.read OW.out.read).mono ?_
  rintro e w9 ⟨rfl, hb⟩
  have OW := Lib.hid (OW.out.below hb)
  have OG := Lib.hid (OG.out.below hb)
  have B := Lib.hid (B.out.trans (hb.mono B.out.size))
  clear hb
  go_wp2_with fail
  refine (markL_wide _ R 1 _ _ (by rw [HNR.out]; omega) (by decide) (by decide) _ OG.out).mono ?_
  rintro e w10 ⟨rfl, og, hs⟩
  have OG := Lib.hid og
  have OW := Lib.hid (OW.out.span hs (.inl ZG.out))
  have B := Lib.hid (Below.span B.out (hs.lift (Nat.le_trans ZB.out ZG.out)) B.out.size)
  clear hs og
  rw [HNR.out] at OG ⊢
  go_wp2_with fail
  refine (heldL_wide _ nr 1 (by omega) (by decide) (by decide) _ OG.out.read).mono ?_
  rintro e w11 ⟨rfl, hb⟩
  have OW := Lib.hid (OW.out.below hb)
  have OG := Lib.hid (OG.out.below hb)
  have B := Lib.hid (B.out.trans (hb.mono B.out.size))
  clear hb
  go_wp2_with fail
  refine (toI_any _ l HS.out _ (HV.out.below B.out)).mono ?_
  intro e w12 h6
  obtain ⟨u6, rfl, hu6, hb⟩ : ∃ u, e = .returned u ∧ OwnI w12 u l ∧ Below w11.heap.size w11 w12 := by
    obtain ⟨a1, c1, rfl, ho1, hb⟩ := h6
    exact ⟨_, rfl, ⟨_, ho1⟩, hb⟩
  have HU := Lib.hid hu6
  clear h6 hu6
  have OW := Lib.hid (OW.out.below hb)
  have OG := Lib.hid (OG.out.below hb)
  have B := Lib.hid (B.out.trans (hb.mono B.out.size))
  clear hb
  go_wp2_with fail
  refine (H2.out HS.out _ _ HU.out).mono ?_
  rintro e w13 ⟨aOH, cOH, rfl, oh, hb⟩
  have OW := Lib.hid (OW.out.below hb)
  have OG := Lib.hid (OG.out.below hb)
  have B := Lib.hid (B.out.trans (hb.mono B.out.size))
  have OH := Lib.hid oh
  rw [HNR.out] at OH ⊢
  clear oh hb HU
  go_wp2_with fail
  refine (eqL_any _ _ R (by rw [HNR.out]; omega) _ OH.out.read OW.out.read).mono ?_
  rintro e w14 ⟨rfl, hb⟩
  have OW := Lib.hid (OW.out.below hb)
  have OG := Lib.hid (OG.out.below hb)
  have OH := Lib.hid (OH.out.below hb)
  have B := Lib.hid (B.out.trans (hb.mono B.out.size))
  clear hb
  go_wp2_with fail
  refine (heldL_wide _ nr 1 (by omega) (by decide) (by decide) _ OG.out.read).mono ?_
  rintro e w15 ⟨rfl, hb⟩
  have OW := Lib.hid (OW.out.below hb)
  have OG := Lib.hid (OG.out.below hb)
  have OH := Lib.hid (OH.out.below hb)
  have B := Lib.hid (B.out.trans (hb.mono B.out.size))
  clear hb
  go_wp2_with fail
  go_ret
  exact ⟨rfl, B.out⟩

set_option maxRecDepth 100000 in
theorem heavyFirst_lifted (os : Os) (started : os.Started) (H : Type) (enc : TypeId × Value → H) :
    ReturnsInHanded {} Try.checked os 9 .any (Rows.fnExactHeavyFirstSpec.pre6 enc Try.prog Try.f9 Rows.fnExactHeavyFirstRow.domain false) (Rows.fnExactHeavyFirstSpec.post enc Try.prog Try.f9 false true false false) := by
  refine returnsInHanded_of_change (C := Try.checked) yard_own started (by kernel_rfl) Try.func9
    (ChangeSpec.witness6 (enc := enc) (C := Try.checked) false ⟨#[], #[.slice none 0 0], []⟩ 8 (by kernel_rfl) (by kernel_rfl) (by kernel_rfl) (by kernel_rfl)) ?_
  intro W base args ds gs before hval0 hW hcnd0 _
  have hval : ∀ (j : Nat) t v, Try.f9.params[j]? = some t → args[j]? = some v → Value.okWide Try.prog W .any base t v := hval0
  have hW' := hW
  obtain ⟨p, q, hA0, hV, rfl, hfz, _⟩ := hW
  have hA : DataW.TrodAll enc Try.prog W 0 (fun _ => true) true Try.f9.params.toList args.toList ds p := hA0
  rw [Try.params9] at hA hval
  obtain ⟨v0, d0, rfl, rfl, h0⟩ := trodAll_one hA
  obtain ⟨rfl, rfl⟩ := trodVars_none hV
  obtain ⟨a0, len, cap, rfl⟩ := okWide_slice Try.underlying24 (hval 0 24 v0 rfl rfl)
  clear hA0 hval0 hcnd0
  simp only [List.append_nil] at hW'
  have hlt : ∀ x ∈ p, x.block < W.heap.size := fun x hx => by simpa using hW'.lt x (by simpa using hx)
  have hlt0 := hlt
  obtain ⟨l, hn, hv⟩ := open_il h0 hlt0
  refine (heavyFirst_body (.slice a0 len cap) l _ _ (by have := hvR_len l; omega) hn W hv (fun h u W hu => specHv_any u l h W hu.read) (fun h u W hu => implHv_any u l h W hu.read)).mono fun e W' ⟨he, hB⟩ => ?_
  subst he
  refine ⟨_, rfl, _, _, _, [], p, [], hW', ?_, ?_, rfl, hB.frame _, fun h => by cases h⟩
  · exact trodAll_mk1 (shut_bool Try.underlying4 true)
  · have h9 := trodAll_mk1 (Below.trod yard_laidOut (by kernel_rfl) (of_decide_eq_true (by kernel_rfl)) h0 hB hlt0)
    first
      | exact h9
      | (simp only [List.append_nil, List.nil_append] at h9; exact h9)

theorem FnExactHeavyFirst_holds : Rows.FnExactHeavyFirstSaid :=
  OpenClaim.holds_of_wide 9 Try.f9 rfl rfl rfl rfl rfl rfl rfl ⟨rfl, rfl, rfl, rfl, rfl⟩ rfl rfl rfl rfl rfl (by kernel_rfl) Try.func9 (by kernel_rfl)
    (of_decide_eq_true (by kernel_rfl)) (by unfold Func.isWrapper; first | (rw [if_pos (by decide +kernel)]; kernel_rfl) | (rw [if_neg (by decide +kernel)]; exact ⟨rfl, rfl⟩))
    (fun os started H enc _ => heavyFirst_lifted os started H enc)
#print axioms FnExactHeavyFirst_holds
end Go.Proofs.Ytalobfpmmembiaa
