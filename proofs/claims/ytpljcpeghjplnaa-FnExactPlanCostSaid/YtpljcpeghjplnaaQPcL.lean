/-
  Proved here: the law FnExactPlanCost returns true at every list and every number, and the lists read afterwards as they read before. There are no conditions.
-/
import Derived.Test.YtpljcpeghjplnaaRows
import Derived.Test.YtpljcpeghjplnaaQPc
import Derived.Test.YtpljcpeghjplnaaQPs
import Derived.Test.YtpljcpeghjplnaaYard
import Derived.WalkKit
import Derived.ProofKit
import Derived.OpenShut
namespace Go.Proofs.Ytpljcpeghjplnaa
open Go.Joins Go.Deep Go.ChangeShapes Go.WideShapes Go.ChangeAt Go.RowKit

set_option maxRecDepth 100000 in
set_option maxHeartbeats 8000000 in
theorem planCost_body (n0 : Int) (v1 : Value) (S1 : List (Int × Int × Int × Int)) (v2 : Value) (S2 : List (Int × Int)) (r0 : Int) (r1 : Bool) (hn1 : S1.length ≤ maxLen) (hn2 : S2.length ≤ maxLen) (w : World) (hv1 : QsL w v1 S1) (hv2 : QbL w v2 S2)
    (hspec : S1.length ≤ 1048576 → S2.length ≤ 1048576 → ∀ (u1 : Value) (u2 : Value) (W : World), QsL W u1 S1 → QbL W u2 S2 → Calls Try.prog 41 #[.int .i64 n0, u1, u2] W (RetP W (.tuple #[.int .i64 r0, .bool r1])))
    (himpl : S1.length ≤ 1048576 → S2.length ≤ 1048576 → ∀ (u1 : Value) (u2 : Value) (W : World), QsL W u1 S1 → QbL W u2 S2 → Calls Try.prog 25 #[.int .i64 n0, u1, u2] W (RetP W (.tuple #[.int .i64 r0, .bool r1]))) :
    Calls Try.prog 6 #[.int .i64 n0, v1, v2] w fun e w' => e = .returned (.bool true) ∧ Below w.heap.size w w' := by
  have HV1 := Lib.hid hv1
  have HV2 := Lib.hid hv2
  have H1 := Lib.hid hspec
  have H2 := Lib.hid himpl
  obtain ⟨a1, c1, rfl⟩ := hv1.form
  obtain ⟨a2, c2, rfl⟩ := hv2.form
  clear hspec himpl hv1 hv2
  go_enter Try.func6, Try.ntmps6
  go_wp2_with fail
  refine (szQs_any a1 S1.length c1 1048576 hn1 (by decide) _).mono ?_
  rintro e w1 ⟨rfl, rfl⟩
  by_cases hS1 : S1.length ≤ 1048576
  case neg =>
    rw [if_neg hS1]
    go_wp2_with fail
    go_ret
    exact ⟨rfl, Below.refl _ _⟩
  rw [if_pos hS1]
  have HS1 : Hid (S1.length ≤ 1048576) := Lib.hid (by omega)
  obtain ⟨l1, hl1⟩ : ∃ r : Nat, 1048576 - S1.length = r := ⟨_, rfl⟩
  rw [hl1]
  have hr1 : l1 ≤ 1048576 := by omega
  obtain ⟨m1, hm1⟩ : ∃ m, S1.length = m := ⟨_, rfl⟩
  rw [hm1] at HV1 ⊢
  clear hn1 hm1 hl1 hS1
  go_wp2_with fail
  refine (szQb_any a2 S2.length c2 l1 hn2 hr1 _).mono ?_
  rintro e w1 ⟨rfl, rfl⟩
  by_cases hS2 : S2.length ≤ l1
  case neg =>
    rw [if_neg hS2]
    go_wp2_with fail
    go_ret
    exact ⟨rfl, Below.refl _ _⟩
  rw [if_pos hS2]
  have HS2 : Hid (S2.length ≤ 1048576) := Lib.hid (by omega)
  obtain ⟨l2, hl2⟩ : ∃ r : Nat, l1 - S2.length = r := ⟨_, rfl⟩
  rw [hl2]
  have hr2 : l2 ≤ 1048576 := by omega
  obtain ⟨m2, hm2⟩ : ∃ m, S2.length = m := ⟨_, rfl⟩
  rw [hm2] at HV2 ⊢
  clear hn2 hm2 hl2 hS2
  go_wp2_with fail
  refine (toQs_any _ S1 HS1.out _ HV1.out).mono ?_
  intro e w1 h1
  obtain ⟨s1, rfl, hs1, hb1⟩ := h1.read
  have B1 : Hid (Below w.heap.size w w1) := Lib.hid hb1
  have Fs1 := Lib.hid hs1
  clear h1 hb1 hs1
  go_wp2_with fail
  refine (toQb_any _ S2 HS2.out _ (HV2.out.below B1.out)).mono ?_
  intro e w2 h2
  obtain ⟨s2, rfl, hs2, hb2⟩ := h2.read
  have B2 : Hid (Below w.heap.size w w2) := Lib.hid (B1.out.trans (hb2.mono B1.out.size))
  have NFs1 := Lib.hid (Fs1.out.below hb2)
  clear Fs1
  have Fs1 := NFs1
  clear NFs1
  have Fs2 := Lib.hid hs2
  clear h2 hb2 hs2
  go_wp2_with fail
  refine (H1.out HS1.out HS2.out _ _ _ Fs1.out Fs2.out).mono ?_
  rintro e w3 ⟨rfl, hb3⟩
  have B3 : Hid (Below w.heap.size w w3) := Lib.hid (B2.out.trans (hb3.mono B2.out.size))
  clear Fs1
  clear Fs2
  clear hb3
  go_wp2_with fail
  refine (toQs_any _ S1 HS1.out _ (HV1.out.below B3.out)).mono ?_
  intro e w4 h4
  obtain ⟨x1, rfl, hx1, hb4⟩ := h4.read
  have B4 : Hid (Below w.heap.size w w4) := Lib.hid (B3.out.trans (hb4.mono B3.out.size))
  have Fx1 := Lib.hid hx1
  clear h4 hb4 hx1
  go_wp2_with fail
  refine (toQb_any _ S2 HS2.out _ (HV2.out.below B4.out)).mono ?_
  intro e w5 h5
  obtain ⟨x2, rfl, hx2, hb5⟩ := h5.read
  have B5 : Hid (Below w.heap.size w w5) := Lib.hid (B4.out.trans (hb5.mono B4.out.size))
  have NFx1 := Lib.hid (Fx1.out.below hb5)
  clear Fx1
  have Fx1 := NFx1
  clear NFx1
  have Fx2 := Lib.hid hx2
  clear h5 hb5 hx2
  go_wp2_with fail
  refine (H2.out HS1.out HS2.out _ _ _ Fx1.out Fx2.out).mono ?_
  rintro e w6 ⟨rfl, hb6⟩
  have B6 : Hid (Below w.heap.size w w6) := Lib.hid (B5.out.trans (hb6.mono B5.out.size))
  have Gx1 := Lib.hid (Fx1.out.below hb6)
  clear Fx1
  have Gx2 := Lib.hid (Fx2.out.below hb6)
  clear Fx2
  clear hb6
  go_wp2_with fail
  refine (toQs_any _ S1 HS1.out _ (HV1.out.below B6.out)).mono ?_
  intro e w7 h7
  obtain ⟨y1, rfl, hy1, hb7⟩ := h7.read
  have B7 : Hid (Below w.heap.size w w7) := Lib.hid (B6.out.trans (hb7.mono B6.out.size))
  have NGx1 := Lib.hid (Gx1.out.below hb7)
  clear Gx1
  have Gx1 := NGx1
  clear NGx1
  have NGx2 := Lib.hid (Gx2.out.below hb7)
  clear Gx2
  have Gx2 := NGx2
  clear NGx2
  have Fy := Lib.hid hy1
  clear h7 hb7 hy1
  go_wp2_with fail
  refine (eqQs_any _ _ S1 HS1.out _ Gx1.out Fy.out).mono ?_
  rintro e w8 ⟨rfl, hb8⟩
  have B8 : Hid (Below w.heap.size w w8) := Lib.hid (B7.out.trans (hb8.mono B7.out.size))
  have NGx1 := Lib.hid (Gx1.out.below hb8)
  clear Gx1
  have Gx1 := NGx1
  clear NGx1
  have NGx2 := Lib.hid (Gx2.out.below hb8)
  clear Gx2
  have Gx2 := NGx2
  clear NGx2
  clear hb8 Fy
  go_wp2_with fail
  refine (toQb_any _ S2 HS2.out _ (HV2.out.below B8.out)).mono ?_
  intro e w9 h9
  obtain ⟨y2, rfl, hy2, hb9⟩ := h9.read
  have B9 : Hid (Below w.heap.size w w9) := Lib.hid (B8.out.trans (hb9.mono B8.out.size))
  have NGx1 := Lib.hid (Gx1.out.below hb9)
  clear Gx1
  have Gx1 := NGx1
  clear NGx1
  have NGx2 := Lib.hid (Gx2.out.below hb9)
  clear Gx2
  have Gx2 := NGx2
  clear NGx2
  have Fy := Lib.hid hy2
  clear h9 hb9 hy2
  go_wp2_with fail
  refine (eqQb_any _ _ S2 HS2.out _ Gx2.out Fy.out).mono ?_
  rintro e w10 ⟨rfl, hb10⟩
  have B10 : Hid (Below w.heap.size w w10) := Lib.hid (B9.out.trans (hb10.mono B9.out.size))
  have NGx1 := Lib.hid (Gx1.out.below hb10)
  clear Gx1
  have Gx1 := NGx1
  clear NGx1
  have NGx2 := Lib.hid (Gx2.out.below hb10)
  clear Gx2
  have Gx2 := NGx2
  clear NGx2
  clear hb10 Fy
  go_wp2_with fail
  go_ret
  exact ⟨rfl, B10.out⟩

set_option maxRecDepth 100000 in
theorem planCost_lifted (os : Os) (started : os.Started) (H : Type) (enc : TypeId × Value → H) :
    ReturnsInHanded {} Try.checked os 6 .any (Rows.fnExactPlanCostSpec.pre6 enc Try.prog Try.f6 Rows.fnExactPlanCostRow.domain false) (Rows.fnExactPlanCostSpec.post enc Try.prog Try.f6 false true false false) := by
  refine returnsInHanded_of_change (C := Try.checked) yard_own started (by kernel_rfl) Try.func6
    (ChangeSpec.witness6 (enc := enc) (C := Try.checked) false ⟨#[], #[.int .i64 0, .slice none 0 0, .slice none 0 0], []⟩ 8 (by kernel_rfl) (by kernel_rfl) (by kernel_rfl) (by kernel_rfl)) ?_
  intro W base args ds gs before hval0 hW hcnd0 _
  have hval : ∀ (j : Nat) t v, Try.f6.params[j]? = some t → args[j]? = some v → Value.okWide Try.prog W .any base t v := hval0
  have hW' := hW
  obtain ⟨p, q, hA0, hV, rfl, hfz, _⟩ := hW
  have hA : DataW.TrodAll enc Try.prog W 0 (fun _ => true) true Try.f6.params.toList args.toList ds p := hA0
  rw [Try.params6] at hA hval
  obtain ⟨v0, v1, v2, d0, d1, d2, p0, p1, p2, rfl, rfl, rfl, h0, h1, h2⟩ := trodAll_three hA
  obtain ⟨rfl, rfl⟩ := trodVars_none hV
  obtain ⟨n0, rfl, rfl, rfl, wn0⟩ := open_int Try.underlying3 (hval 0 3 v0 rfl rfl) h0
  obtain ⟨a1, len1, cap1, rfl⟩ := okWide_slice Try.underlying51 (hval 1 51 v1 rfl rfl)
  obtain ⟨a2, len2, cap2, rfl⟩ := okWide_slice Try.underlying52 (hval 2 52 v2 rfl rfl)
  clear hA0 hval0 hcnd0
  simp only [List.append_nil, List.nil_append] at hW'
  have hlt1 : ∀ x ∈ p1, x.block < W.heap.size := fun x hx => hW'.lt x (by simp [hx])
  obtain ⟨S1, hn1, hv1⟩ := openQs h1 hlt1
  have hlt2 : ∀ x ∈ p2, x.block < W.heap.size := fun x hx => hW'.lt x (by simp [hx])
  obtain ⟨S2, hn2, hv2⟩ := openQb h2 hlt2
  refine (planCost_body n0 (.slice a1 len1 cap1) S1 (.slice a2 len2 cap2) S2 _ _ hn1 hn2 W hv1 hv2 (fun g1 g2 u1 u2 W k1 k2 => specPc_any n0 u1 u2 S1 S2 g1 g2 W k1 k2) (fun g1 g2 u1 u2 W k1 k2 => implPc_any n0 u1 u2 S1 S2 g1 g2 W k1 k2)).mono fun e W' ⟨he, hB⟩ => ?_
  subst he
  refine ⟨_, rfl, _, _, _, [], p1 ++ p2, [], hW', ?_, ?_, rfl, hB.frame _, fun h => by cases h⟩
  · exact trodAll_mk1 (shut_bool Try.underlying4 true)
  · have h9 := trodAll_mk3 (shut_int Try.underlying3 wn0) (Below.trod yard_laidOut (by kernel_rfl) (of_decide_eq_true (by kernel_rfl)) h1 hB hlt1) (Below.trod yard_laidOut (by kernel_rfl) (of_decide_eq_true (by kernel_rfl)) h2 hB hlt2)
    first
      | exact h9
      | (simp only [List.append_nil, List.nil_append] at h9; exact h9)

theorem FnExactPlanCost_holds : Rows.FnExactPlanCostSaid :=
  OpenClaim.holds_of_wide 6 Try.f6 rfl rfl rfl rfl rfl rfl rfl ⟨rfl, rfl, rfl, rfl, rfl⟩ rfl rfl rfl rfl rfl (by kernel_rfl) Try.func6 (by kernel_rfl)
    (of_decide_eq_true (by kernel_rfl)) (by unfold Func.isWrapper; first | (rw [if_pos (by decide +kernel)]; kernel_rfl) | (rw [if_neg (by decide +kernel)]; exact ⟨rfl, rfl⟩))
    (fun os started H enc _ => planCost_lifted os started H enc)
#print axioms FnExactPlanCost_holds
end Go.Proofs.Ytpljcpeghjplnaa
